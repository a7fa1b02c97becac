/- Curves as mathematics: how much a row of points bends, how many pieces it is, and the points by neighbours. No program is named here. -/
import Derived.Test.YtbgjpmijegeeiaaZAfW
import Derived.Test.YtbgjpmijegeeiaaZFgY
import Derived.BigQuiet
namespace Go.Proofs.Ytbgjpmijegeeiaa

def absI (n : Int) : Int := if n < 0 then -n else n
def bendX (l : List Pt) (i : Nat) : Int := (l.getD i pt0).x - 2 * (l.getD (i + 1) pt0).x + (l.getD (i + 2) pt0).x
def bendY (l : List Pt) (i : Nat) : Int := (l.getD i pt0).y - 2 * (l.getD (i + 1) pt0).y + (l.getD (i + 2) pt0).y
/-- the greatest of the first i second differences -/
def bendTo (l : List Pt) : Nat → Int
  | 0 => 0
  | i + 1 => max (bendTo l i) (max (absI (bendX l i)) (absI (bendY l i)))
def goP (d : Int) : Nat → Nat → Nat
  | 0, n => n
  | f + 1, n => if 16 * (n : Int) * n < d then goP d f (n + 1) else n
def pieceF (d : Int) : Nat := goP d 31 1
theorem goP_in (d : Int) : ∀ f n, n ≤ goP d f n ∧ goP d f n ≤ n + f
  | 0, n => ⟨Nat.le_refl _, Nat.le_refl _⟩
  | f + 1, n => by
    have h := goP_in d f (n + 1)
    unfold goP
    split <;> omega
theorem pieceF_in (d : Int) : 1 ≤ pieceF d ∧ pieceF d ≤ 32 := goP_in d 31 1
def FitL (l : List Pt) : Prop := ∀ p ∈ l, FitP p
instance (l : List Pt) : Decidable (FitL l) := by unfold FitL; exact inferInstance
/-- of how many pieces; 0: a point may not be -/
def piecesM (l : List Pt) : Nat := if FitL l then pieceF (bendTo l (l.length - 2)) else 0
theorem piecesM_le (l : List Pt) : piecesM l ≤ 32 := by
  unfold piecesM
  split
  · exact (pieceF_in _).2
  · omega
theorem piecesM_yes {l : List Pt} (h : FitL l) : piecesM l = pieceF (bendTo l (l.length - 2)) := if_pos h
theorem piecesM_no {l : List Pt} (h : ¬ FitL l) : piecesM l = 0 := if_neg h
theorem piecesM_pos {l : List Pt} (h : FitL l) : 1 ≤ piecesM l := by rw [piecesM_yes h]; exact (pieceF_in _).1
theorem piecesM_fit {l : List Pt} (h : piecesM l ≠ 0) : FitL l := Classical.byContradiction fun n => h (piecesM_no n)
theorem FitL.get {l : List Pt} (h : FitL l) {i : Nat} (hi : i < l.length) : FitP l[i] := h _ (List.getElem_mem hi)
theorem FitL.getD {l : List Pt} (h : FitL l) (i : Nat) : FitP (l.getD i pt0) := by
  by_cases hi : i < l.length
  · simp only [List.getD, List.getElem?_eq_getElem hi, Option.getD_some]; exact h.get hi
  · simp only [List.getD, List.getElem?_eq_none (by omega : l.length ≤ i), Option.getD_none]; decide
theorem getD_get {l : List Pt} {i : Nat} (hi : i < l.length) : l.getD i pt0 = l[i] := by simp [List.getD, hi]
theorem fitL_step {l : List Pt} {i : Nat} (hi : i < l.length) (h : ∀ p ∈ l.take i, FitP p) (h2 : FitP l[i]) : ∀ p ∈ l.take (i + 1), FitP p := by
  intro p hp
  rw [List.take_succ_eq_append_getElem hi, List.mem_append] at hp
  rcases hp with hp | hp
  · exact h p hp
  · simp at hp; subst hp; exact h2
theorem fitL_all {l : List Pt} (h : ∀ p ∈ l.take l.length, FitP p) : FitL l := by rw [List.take_length] at h; exact h
theorem fitL_not {l : List Pt} {i : Nat} (hi : i < l.length) (h : ¬ FitP l[i]) : ¬ FitL l := fun k => h (k.get hi)
theorem bend_bound {l : List Pt} (h : FitL l) (i : Nat) : (-33554428 ≤ bendX l i ∧ bendX l i ≤ 33554428) ∧ (-33554428 ≤ bendY l i ∧ bendY l i ≤ 33554428) := by
  have h0 := h.getD i
  have h1 := h.getD (i + 1)
  have h2 := h.getD (i + 2)
  unfold FitP at h0 h1 h2
  unfold bendX bendY
  omega
theorem bendTo_bound {l : List Pt} (h : FitL l) : ∀ i, 0 ≤ bendTo l i ∧ bendTo l i ≤ 33554428
  | 0 => by simp [bendTo]
  | i + 1 => by
    have h1 := bendTo_bound h i
    have h2 := bend_bound h i
    unfold bendTo absI
    split <;> split <;> omega

/-- the point at k by n of the way, n times as great -/
def midP (k n : Int) (a b : Pt) : Pt := ⟨(n - k) * a.x + k * b.x, (n - k) * a.y + k * b.y⟩
def stepP (k n : Int) : List Pt → List Pt
  | a :: b :: r => midP k n a b :: stepP k n (b :: r)
  | _ => []
def castP (k n : Int) : Nat → List Pt → List Pt
  | 0, l => l
  | r + 1, l => castP k n r (stepP k n l)
def nearQ (v d : Int) : Int := (2 * v + d) / (2 * d)
def curveAt (k n : Nat) (l : List Pt) : Pt :=
  ⟨nearQ ((castP k n (l.length - 1) l).getD 0 pt0).x ((n ^ (l.length - 1) : Nat) : Int), nearQ ((castP k n (l.length - 1) l).getD 0 pt0).y ((n ^ (l.length - 1) : Nat) : Int)⟩
def curveTo (n : Nat) (l : List Pt) (i : Nat) : List Pt := (List.range i).map fun j => curveAt (j + 1) n l
def curveP (l : List Pt) : List Pt := curveTo (piecesM l) l (piecesM l)
def curveE (l : List Pt) : Int := if piecesM l = 0 then 4 else 0
theorem curveTo_length (n : Nat) (l : List Pt) (i : Nat) : (curveTo n l i).length = i := by simp [curveTo]
theorem curveTo_step (n : Nat) (l : List Pt) (i : Nat) : curveTo n l (i + 1) = curveTo n l i ++ [curveAt (i + 1) n l] := by simp [curveTo, List.range_succ]
theorem curveP_length (l : List Pt) : (curveP l).length = piecesM l := curveTo_length _ _ _
theorem stepP_length (k n : Int) : ∀ l : List Pt, (stepP k n l).length = l.length - 1
  | [] => rfl
  | [_] => rfl
  | a :: b :: r => by
    have h := stepP_length k n (b :: r)
    simp only [stepP, List.length_cons] at h ⊢
    omega
theorem stepP_get (k n : Int) : ∀ (l : List Pt) (i : Nat) (hi : i < (stepP k n l).length) (h0 : i < l.length) (h1 : i + 1 < l.length), (stepP k n l)[i] = midP k n l[i] l[i + 1]
  | [], i, hi, h0, _ => absurd h0 (by simp)
  | [_], i, hi, h0, h1 => absurd h1 (by simp)
  | a :: b :: r, 0, _, _, _ => rfl
  | a :: b :: r, i + 1, hi, h0, h1 => by
    have h := stepP_get k n (b :: r) i (by simpa [stepP] using hi) (by simpa using h0) (by simpa using h1)
    simpa [stepP] using h
theorem castP_succ (k n : Int) : ∀ (r : Nat) (l : List Pt), castP k n (r + 1) l = stepP k n (castP k n r l)
  | 0, _ => rfl
  | r + 1, l => castP_succ k n r (stepP k n l)
theorem castP_length (k n : Int) : ∀ (r : Nat) (l : List Pt), (castP k n r l).length = l.length - r
  | 0, _ => rfl
  | r + 1, l => by rw [castP_succ, stepP_length, castP_length]; omega
/-- all parts at most M in size -/
def SizeL (M : Int) (l : List Pt) : Prop := ∀ p ∈ l, (-M ≤ p.x ∧ p.x ≤ M) ∧ (-M ≤ p.y ∧ p.y ≤ M)
/-- X between, Y too -/
def Btw (lo hi lo' hi' : Int) (l : List Pt) : Prop := ∀ p ∈ l, (lo ≤ p.x ∧ p.x ≤ hi) ∧ (lo' ≤ p.y ∧ p.y ≤ hi')
theorem mix_in {k n a b lo hi : Int} (hk : 0 ≤ k) (hkn : k ≤ n) (ha : lo ≤ a ∧ a ≤ hi) (hb : lo ≤ b ∧ b ≤ hi) : lo * n ≤ (n - k) * a + k * b ∧ (n - k) * a + k * b ≤ hi * n := by
  have h1 := Int.mul_le_mul_of_nonneg_left ha.1 (show 0 ≤ n - k by omega)
  have h2 := Int.mul_le_mul_of_nonneg_left ha.2 (show 0 ≤ n - k by omega)
  have h3 := Int.mul_le_mul_of_nonneg_left hb.1 hk
  have h4 := Int.mul_le_mul_of_nonneg_left hb.2 hk
  have e1 : lo * n = (n - k) * lo + k * lo := by rw [← Int.add_mul, Int.mul_comm]; congr 1; omega
  have e2 : hi * n = (n - k) * hi + k * hi := by rw [← Int.add_mul, Int.mul_comm]; congr 1; omega
  omega
theorem Btw.step {k n lo hi lo' hi' : Int} (hk : 0 ≤ k) (hkn : k ≤ n) : ∀ {l : List Pt}, Btw lo hi lo' hi' l → Btw (lo * n) (hi * n) (lo' * n) (hi' * n) (stepP k n l)
  | [], _ => fun p hp => by simp [stepP] at hp
  | [_], _ => fun p hp => by simp [stepP] at hp
  | a :: b :: r, h => fun p hp => by
    rcases List.mem_cons.1 hp with rfl | hp
    · exact ⟨mix_in hk hkn (h a (by simp)).1 (h b (by simp)).1, mix_in hk hkn (h a (by simp)).2 (h b (by simp)).2⟩
    · exact Btw.step hk hkn (l := b :: r) (fun q hq => h q (List.mem_cons_of_mem _ hq)) p hp
theorem Btw.cast {k n : Int} (hk : 0 ≤ k) (hkn : k ≤ n) : ∀ (r : Nat) {lo hi lo' hi' : Int} {l : List Pt}, Btw lo hi lo' hi' l → Btw (lo * n ^ r) (hi * n ^ r) (lo' * n ^ r) (hi' * n ^ r) (castP k n r l)
  | 0, lo, hi, lo', hi', l, h => by simpa [castP] using h
  | r + 1, lo, hi, lo', hi', l, h => by
    have h2 := Btw.cast hk hkn r (h.step hk hkn)
    have e : ∀ x : Int, x * n * n ^ r = x * n ^ (r + 1) := fun x => by rw [Int.pow_succ, Int.mul_assoc, Int.mul_comm n]
    simp only [e] at h2
    exact h2
theorem FitL.btw {l : List Pt} (h : FitL l) : Btw (-8388607) 8388607 (-8388607) 8388607 l := h
/-- how great the numbers may get: at most three rounds, of at most 32 pieces -/
theorem pow_32 {n r : Nat} (hn : n ≤ 32) (hr : r ≤ 3) : n ^ r ≤ 32768 := by
  have h1 := Nat.pow_le_pow_left hn r
  have h2 : 32 ^ r ≤ 32 ^ 3 := Nat.pow_le_pow_right (by omega) hr
  have h3 : (32 : Nat) ^ 3 = 32768 := by decide
  omega
theorem cast_bound {l : List Pt} (h : FitL l) {k n r : Nat} (hk : k ≤ n) (hn : n ≤ 32) (hr : r ≤ 3) : Btw (-274877874176) 274877874176 (-274877874176) 274877874176 (castP k n r l) := by
  have h1 := h.btw.cast (k := (k : Int)) (n := (n : Int)) (by omega) (by omega) r
  have h2 := pow_32 hn hr
  have h3 : ((n : Int) ^ r) = ((n ^ r : Nat) : Int) := by simp
  intro p hp
  have h4 := h1 p hp
  rw [h3] at h4
  have h5 : (0 : Int) ≤ ((n ^ r : Nat) : Int) := Int.natCast_nonneg _
  have h6 := Int.ofNat_le.2 h2
  generalize ((n ^ r : Nat) : Int) = z at h4 h5 h6
  omega
theorem nearQ_in {v d lo hi : Int} (hd : 0 < d) (h : lo * d ≤ v ∧ v ≤ hi * d) : lo ≤ nearQ v d ∧ nearQ v d ≤ hi := by
  unfold nearQ
  constructor
  · rw [Int.le_ediv_iff_mul_le (by omega)]
    have e : lo * (2 * d) = 2 * (lo * d) := by ac_rfl
    omega
  · have h2 : (2 * v + d) / (2 * d) < hi + 1 := by
      rw [Int.ediv_lt_iff_lt_mul (by omega)]
      have e : (hi + 1) * (2 * d) = 2 * (hi * d) + 2 * d := by rw [Int.add_mul, Int.one_mul]; congr 1; ac_rfl
      omega
    omega
theorem nearQ_mul (v : Int) {d : Int} (hd : 0 < d) : nearQ (v * d) d = v := by
  have h := nearQ_in (v := v * d) (lo := v) (hi := v) hd ⟨Int.le_refl _, Int.le_refl _⟩
  omega
theorem cast_full (n : Int) : ∀ (r : Nat) (l : List Pt) (i : Nat) (hi : i < (castP n n r l).length) (h2 : i + r < l.length), (castP n n r l)[i] = ⟨l[i + r].x * n ^ r, l[i + r].y * n ^ r⟩
  | 0, l, i, hi, h2 => by simp [castP]
  | r + 1, l, i, hi, h2 => by
    have e := castP_succ n n r l
    have hl := castP_length n n r l
    have h3 : i < (castP n n r l).length := by omega
    have h4 : i + 1 < (castP n n r l).length := by omega
    have h5 := cast_full n r l (i + 1) h4 (by omega)
    have h6 : (castP n n (r + 1) l)[i] = midP n n (castP n n r l)[i] (castP n n r l)[i + 1] := by
      simp only [e]
      exact stepP_get n n _ i _ h3 h4
    rw [h6, h5]
    have e2 : i + 1 + r = i + (r + 1) := by omega
    simp only [midP, Int.sub_self, Int.zero_mul, Int.zero_add, e2, Int.pow_succ, Pt.same]
    constructor <;> ac_rfl
/-- a curve ends where its last point is -/
theorem curve_last {l : List Pt} (hl : 0 < l.length) {n : Nat} (hn : 0 < n) : curveAt n n l = l[l.length - 1] := by
  have h1 := castP_length (n : Int) (n : Int) (l.length - 1) l
  have h0 : 0 < (castP (n : Int) (n : Int) (l.length - 1) l).length := by omega
  have h2 := cast_full (n : Int) (l.length - 1) l 0 h0 (by omega)
  have hp : 0 < n ^ (l.length - 1) := Nat.pow_pos hn
  have e : ((n ^ (l.length - 1) : Nat) : Int) = (n : Int) ^ (l.length - 1) := by simp
  unfold curveAt
  rw [getD_get h0, h2, ← e, Pt.same]
  have e2 : 0 + (l.length - 1) = l.length - 1 := by omega
  simp only [e2]
  exact ⟨nearQ_mul _ (by omega), nearQ_mul _ (by omega)⟩
/-- .. and stays between the least and the greatest of its points' parts -/
theorem curve_in {l : List Pt} {lo hi lo' hi' : Int} (h : Btw lo hi lo' hi' l) (hl : 0 < l.length) {k n : Nat} (hk : k ≤ n) (hn : 0 < n) : (lo ≤ (curveAt k n l).x ∧ (curveAt k n l).x ≤ hi) ∧ (lo' ≤ (curveAt k n l).y ∧ (curveAt k n l).y ≤ hi') := by
  have h1 := castP_length (k : Int) (n : Int) (l.length - 1) l
  have h0 : 0 < (castP (k : Int) (n : Int) (l.length - 1) l).length := by omega
  have h2 := h.cast (k := (k : Int)) (n := (n : Int)) (by omega) (by omega) (l.length - 1) _ (List.getElem_mem h0)
  have hp : 0 < n ^ (l.length - 1) := Nat.pow_pos hn
  have e : ((n ^ (l.length - 1) : Nat) : Int) = (n : Int) ^ (l.length - 1) := by simp
  rw [← e] at h2
  unfold curveAt
  rw [getD_get h0]
  exact ⟨nearQ_in (by omega) h2.1, nearQ_in (by omega) h2.2⟩
theorem curveP_last {l : List Pt} (hl : 0 < l.length) (hn : 0 < piecesM l) (h : piecesM l - 1 < (curveP l).length) : (curveP l)[piecesM l - 1] = l[l.length - 1] := by
  have e : piecesM l - 1 + 1 = piecesM l := by omega
  have e2 : (curveP l)[piecesM l - 1] = curveAt (piecesM l - 1 + 1) (piecesM l) l := by simp [curveP, curveTo]
  rw [e2, e]
  exact curve_last hl hn
theorem curveP_in {l : List Pt} {lo hi lo' hi' : Int} (h : Btw lo hi lo' hi' l) (hl : 0 < l.length) : Btw lo hi lo' hi' (curveP l) := by
  intro p hp
  unfold curveP curveTo at hp
  obtain ⟨j, hj, rfl⟩ := List.mem_map.1 hp
  rw [List.mem_range] at hj
  exact curve_in h hl (by omega) (by omega)
/-- the numbers of a round in place: what has gone, what is still as it was -/
theorem round_set {k n : Int} {l g : List Pt} {i : Nat} (h : i + 1 < l.length) : ((stepP k n l).take i ++ (l.drop i ++ g)).set i (midP k n l[i] l[i + 1]) = (stepP k n l).take (i + 1) ++ (l.drop (i + 1) ++ g) := by
  have hs := stepP_length k n l
  have hi : i < (stepP k n l).length := by omega
  have ht : ((stepP k n l).take i).length = i := by rw [List.length_take]; omega
  rw [List.set_append_right _ _ (by omega), ht, Nat.sub_self, List.take_succ_eq_append_getElem hi, stepP_get k n l i hi (by omega) h, List.drop_eq_getElem_cons (by omega : i < l.length), List.cons_append, List.set_cons_zero, List.append_assoc]
  rfl
theorem round_get {k n : Int} {l g : List Pt} {i : Nat} (j : Nat) (hij : i ≤ j) (hj : j < l.length) (h : j < ((stepP k n l).take i ++ (l.drop i ++ g)).length) (hi : i + 1 ≤ l.length) : ((stepP k n l).take i ++ (l.drop i ++ g))[j] = l[j] := by
  have hs := stepP_length k n l
  have ht : ((stepP k n l).take i).length = i := by rw [List.length_take]; omega
  rw [List.getElem_append_right (by omega)]
  simp only [ht]
  rw [List.getElem_append_left (by rw [List.length_drop]; omega), List.getElem_drop]
  congr 1
  omega
end Go.Proofs.Ytbgjpmijegeeiaa
/- Curves: what the document's own abs and Pieces answer. -/

namespace Go.Proofs.Ytbgjpmijegeeiaa
open Go.RowKit

theorem quiet_atZ {P : Program} {f : FuncId} {args : Array Value} {w : World} {n : Nat} {v : Value} (h : Calls P f args (w.drewN n) fun e w' => e = .returned v ∧ w.drewN n = w') :
    Calls P f args (w.drewN n) fun e w' => e = .returned v ∧ ∃ k, w' = w.drewN k := h.mono fun _ _ hh => ⟨hh.1, n, hh.2.symm⟩
theorem ref11_abs (n : Int) (h : -4611686018427387904 ≤ n ∧ n ≤ 4611686018427387904) (w : World) :
    Calls Try.prog 45 #[.int .i64 n] w fun e w' => e = .returned (.int .i64 (absI n)) ∧ w = w' := by
  obtain ⟨h1, h2⟩ := h
  have hw : IntKind.i64.wrap (-n) = -n := IntWalk.i64_in _ (by omega)
  unfold absI
  by_cases hn : n < 0
  · rw [if_pos hn]
    go_enter Try.func45, Try.ntmps45
    go_wp2_with fail
    go_ret
    exact ⟨rfl, rfl⟩
  · rw [if_neg hn]
    go_enter Try.func45, Try.ntmps45
    go_wp2_with fail
    go_ret
    exact ⟨rfl, rfl⟩
theorem max3_run {P : Program} (a b c m : Int) (h : max a (max b c) = m) (ts : Array TypeId) (t : TypeId) (W : World) : (Builtin.max_ ts t #[.int .i64 a, .int .i64 b, .int .i64 c]).run P W = .ok (.int .i64 m) W := by
  rw [run_max_int3]
  congr 2
  omega
theorem max5_run {P : Program} (a b c d e m : Int) (h : max a (max (max b c) (max d e)) = m) (ts : Array TypeId) (t : TypeId) (W : World) : (Builtin.max_ ts t #[.int .i64 a, .int .i64 b, .int .i64 c, .int .i64 d, .int .i64 e]).run P W = .ok (.int .i64 m) W := by
  have e2 : (Builtin.max_ ts t #[.int .i64 a, .int .i64 b, .int .i64 c, .int .i64 d, .int .i64 e]).run P W = .ok (.int .i64 (max (max (max (max a b) c) d) e)) W := by
    simp only [Builtin.max_, Builtin.max2, List.foldlM_cons, List.foldlM_nil, Sem.run_bind, Sem.run_pure, Result.andThen_ok]
    congr 2
    omega
  rw [e2]
  congr 2
  omega
theorem absI_max (n : Int) : absI n = max n (-n) := by unfold absI; split <;> omega

set_option maxRecDepth 10000 in
set_option maxHeartbeats 3200000 in
theorem ref11_Pieces (L : List Pt) (A : Option Addr) (c : Nat) (w : World) (hL : RdV w w.heap.size A (ptRow L)) (hl : L.length ≤ 1073741824) :
    Calls Try.prog 37 #[.slice A L.length c] w fun e w' => e = .returned (.int .i64 (piecesM L : Int)) ∧ Below w.heap.size w w' := by
  obtain ⟨n, hn⟩ : ∃ n, L.length = n := ⟨_, rfl⟩
  have HN := Lib.hid hn
  have HL := Lib.hid hL
  rw [hn] at hl ⊢
  obtain ⟨r, hr⟩ : ∃ r, piecesM L = r := ⟨_, rfl⟩
  have HR := Lib.hid hr
  rw [hr]
  clear hn hL hr
  go_enter Try.func37, Try.ntmps37
  go_wp2_with fail
  go_loopg [4] n (fun gh it wr => ∃ i : Nat, it = .int .i64 (i : Int) ∧ gh + i = n ∧ (∀ p ∈ L.take i, FitP p) ∧ Below w.heap.size w wr)
  case atStart => exact ⟨0, rfl, by omega, by simp, Below.refl _ _⟩
  case round =>
    obtain ⟨i, rfl, hg, hok, hB⟩ := hrel
    by_cases hlt : i < n
    · have hlt' : i < L.length := by rw [HN.out]; exact hlt
      obtain ⟨g, o, rfl, hgl, e0, e1⟩ := (HL.out.below hB).pt (i := i) hlt'
      have hil : (i : Int) < (n : Int) := by omega
      obtain ⟨p, hpp⟩ : ∃ p, L[i] = p := ⟨_, rfl⟩
      have HST := Lib.hid (fitL_step hlt' hok)
      have HNO := Lib.hid (fitL_not hlt')
      rw [hpp] at e0 e1 HST HNO
      obtain ⟨d, hd⟩ : ∃ d : Bool, decide (FitP p) = d := ⟨_, rfl⟩
      have cF := fun V => ref10_Fits p V
      rw [hd] at cF
      obtain ⟨x, y⟩ := p
      unfold ptV at cF
      dsimp only at e0 e1 cF
      have CF := Lib.hid cF
      have HB := Lib.hid hB
      have HD := Lib.hid hd
      clear hok hB cF hpp hlt' hd
      cases d with
      | true =>
        have HS := Lib.hid (HST.out (of_decide_eq_true HD.out))
        clear HST HNO
        go_wp2_with (go_at_call 31; with_reducible refine Calls.mono (CF.out _) ?_; rintro e w1 ⟨rfl, b1⟩)
        have hBB := HB.out.trans (b1.mono HB.out.size)
        go_roundg (n - (i + 1))
        case measure => omega
        case rel => exact ⟨i + 1, by simp, by omega, HS.out, hBB⟩
      | false =>
        have HS := Lib.hid (piecesM_no (HNO.out (of_decide_eq_false HD.out)))
        clear HST HNO
        go_wp2_with (go_at_call 31; with_reducible refine Calls.mono (CF.out _) ?_; rintro e w1 ⟨rfl, b1⟩)
        have hBB := HB.out.trans (b1.mono HB.out.size)
        go_ret
        rw [← HR.out, HS.out]
        exact ⟨rfl, hBB⟩
    · obtain rfl : i = n := by omega
      have HF := Lib.hid (fitL_all (l := L) (by rw [HN.out]; exact hok))
      have HB := Lib.hid hB
      clear hok hB
      go_wp2_with fail
      go_loopg [3, 5] i (fun gh mt it wr => ∃ j : Nat, it = .int .i64 (j : Int) ∧ mt = .int .i64 (bendTo L j) ∧ gh + j = i ∧ (j = 0 ∨ j + 2 ≤ i) ∧ Below w.heap.size w wr)
      case atStart => exact ⟨0, rfl, rfl, by omega, .inl rfl, HB.out⟩
      case round =>
        obtain ⟨j, rfl, rfl, hg2, hj0, hB⟩ := hrel
        have hwj : IntKind.i64.wrap ((j : Int) + 2) = (j : Int) + 2 := IntWalk.i64_in _ (by omega)
        have hwk : IntKind.i64.wrap ((j : Int) + 1) = (j : Int) + 1 := IntWalk.i64_in _ (by omega)
        by_cases hlt : j + 2 < i
        · have hlt' : j + 2 < L.length := by rw [HN.out]; exact hlt
          obtain ⟨g, o, rfl, hgl, e0, e1⟩ := (HL.out.below hB).pt (i := j) (by omega)
          obtain ⟨g', o', hgo, -, e2, e3⟩ := (HL.out.below hB).pt (i := j + 1) (by omega)
          cases hgo
          obtain ⟨g', o', hgo, -, e4, e5⟩ := (HL.out.below hB).pt (i := j + 2) (by omega)
          cases hgo
          rw [← getD_get (by omega : j < L.length)] at e0 e1
          rw [← getD_get (by omega : j + 1 < L.length)] at e2 e3
          rw [← getD_get (by omega : j + 2 < L.length)] at e4 e5
          have hb := bend_bound HF.out j
          have hm := bendTo_bound HF.out j
          have hst : bendTo L (j + 1) = max (bendTo L j) (max (absI (bendX L j)) (absI (bendY L j))) := rfl
          have f0 := HF.out.getD j
          have f1 := HF.out.getD (j + 1)
          have f2 := HF.out.getD (j + 2)
          unfold bendX bendY at hb hst
          generalize bendTo L j = m at hst hm ⊢
          generalize L.getD j pt0 = p0 at e0 e1 hb hst f0
          generalize L.getD (j + 1) pt0 = p1 at e2 e3 hb hst f1
          generalize L.getD (j + 2) pt0 = p2 at e4 e5 hb hst f2
          obtain ⟨x0, y0⟩ := p0
          obtain ⟨x1, y1⟩ := p1
          obtain ⟨x2, y2⟩ := p2
          unfold FitP at f0 f1 f2
          dsimp only at e0 e1 e2 e3 e4 e5 hb hst f0 f1 f2
          obtain ⟨⟨b1, b2⟩, b3, b4⟩ := hb
          have v1 : IntKind.i64.wrap (x0 + x2) = x0 + x2 := IntWalk.i64_in _ (by omega)
          have v2 : IntKind.i64.wrap (2 * x1) = 2 * x1 := IntWalk.i64_in _ (by omega)
          have v3 : IntKind.i64.wrap (x0 + x2 - 2 * x1) = x0 + x2 - 2 * x1 := IntWalk.i64_in _ (by omega)
          have v4 : IntKind.i64.wrap (y0 + y2) = y0 + y2 := IntWalk.i64_in _ (by omega)
          have v5 : IntKind.i64.wrap (2 * y1) = 2 * y1 := IntWalk.i64_in _ (by omega)
          have v6 : IntKind.i64.wrap (y0 + y2 - 2 * y1) = y0 + y2 - 2 * y1 := IntWalk.i64_in _ (by omega)
          have e6 : x0 - 2 * x1 + x2 = x0 + x2 - 2 * x1 := by omega
          have e7 : y0 - 2 * y1 + y2 = y0 + y2 - 2 * y1 := by omega
          rw [e6, e7] at hst
          have cX := fun V => ref11_abs (x0 + x2 - 2 * x1) (by omega) V
          have cY := fun V => ref11_abs (y0 + y2 - 2 * y1) (by omega) V
          have a1 : 0 ≤ absI (x0 + x2 - 2 * x1) ∧ absI (x0 + x2 - 2 * x1) ≤ 33554428 := by unfold absI; split <;> omega
          have a2 : 0 ≤ absI (y0 + y2 - 2 * y1) ∧ absI (y0 + y2 - 2 * y1) ≤ 33554428 := by unfold absI; split <;> omega
          generalize absI (x0 + x2 - 2 * x1) = ax at cX hst a1
          generalize absI (y0 + y2 - 2 * y1) = ay at cY hst a2
          obtain ⟨m', hm'⟩ : ∃ m', bendTo L (j + 1) = m' := ⟨_, rfl⟩
          rw [hm'] at hst
          have hmx := fun ts t W => max3_run (P := Try.prog) m ax ay m' hst.symm ts t W
          have i0 : (j : Int) < (i : Int) := by omega
          have i1 : 0 ≤ (j : Int) + 1 ∧ (j : Int) + 1 < (i : Int) := by omega
          have i2 : 0 ≤ (j : Int) + 2 ∧ (j : Int) + 2 < (i : Int) := by omega
          have t1 : ((j : Int) + 1).toNat = j + 1 := by omega
          have t2 : ((j : Int) + 2).toNat = j + 2 := by omega
          have CX := Lib.hid cX
          have CY := Lib.hid cY
          have HB2 := Lib.hid hB
          have HM := Lib.hid hm'
          have i3 : (j : Int) + 2 < (i : Int) := by omega
          have HJ := Lib.hid hlt
          clear cX cY hB hm' hst hm a1 a2 f0 f1 f2 b1 b2 b3 b4 e6 e7 hlt' hlt
          go_wp2_with fail
          go_quiet ((go_at_call 45; first | (with_reducible exact quiet_atZ (CX.out _)) | (with_reducible exact quiet_atZ (CY.out _))))
          have hBB := below_figE HB2.out nq
          go_wp2_with fail
          go_roundg (i - (j + 1))
          case measure => omega
          case rel => exact ⟨j + 1, rfl, by rw [HM.out], by have := HJ.out; omega, .inr (by have := HJ.out; omega), hBB⟩
        · have hbe : bendTo L j = bendTo L (L.length - 2) := by rw [HN.out]; congr 1; omega
          have HB2 := Lib.hid hB
          obtain ⟨d, hd⟩ : ∃ d, bendTo L j = d := ⟨_, rfl⟩
          have hr : pieceF d = r := by rw [← HR.out, piecesM_yes HF.out, ← hbe, hd]
          have hdb := bendTo_bound HF.out j
          rw [hd] at hdb ⊢
          have HG := Lib.hid (show goP d (32 - 1) 1 = r from hr)
          have hnl : ¬ (j : Int) + 2 < (i : Int) := by omega
          clear hB hbe hd hr hj0 hlt hwk
          go_wp2_with fail
          go_loopg [6] 31 (fun gh it wr => ∃ q : Nat, it = .int .i64 (q : Int) ∧ gh + q = 32 ∧ 1 ≤ q ∧ goP d (32 - q) q = r ∧ Below w.heap.size w wr)
          case atStart => exact ⟨1, rfl, rfl, Nat.le_refl _, HG.out, HB2.out⟩
          case round =>
            obtain ⟨q, rfl, hg3, hq1, hgo, hB⟩ := hrel
            by_cases hq : q < 32
            · have hql : (q : Int) < 32 := by omega
              have q1 : IntKind.i64.wrap (16 * (q : Int)) = 16 * (q : Int) := IntWalk.i64_in _ (by omega)
              have hqq : (q : Int) * q ≤ 1024 ∧ 0 ≤ (q : Int) * q := ⟨by have := Int.mul_le_mul (show (q : Int) ≤ 32 by omega) (show (q : Int) ≤ 32 by omega) (by omega) (by omega); omega, Int.mul_nonneg (by omega) (by omega)⟩
              have q2 : IntKind.i64.wrap (16 * (q : Int) * q) = 16 * (q : Int) * q := IntWalk.i64_in _ (by rw [Int.mul_assoc]; omega)
              obtain ⟨f, hf⟩ : ∃ f, 32 - q = f + 1 := ⟨31 - q, by omega⟩
              rw [hf] at hgo
              unfold goP at hgo
              have HB3 := Lib.hid hB
              by_cases hc : 16 * (q : Int) * q < d
              · rw [if_pos hc] at hgo
                have HO := Lib.hid (show goP d (32 - (q + 1)) (q + 1) = r by rw [show 32 - (q + 1) = f by omega]; exact hgo)
                clear hgo hB hf hqq
                go_wp2_with fail
                go_roundg (32 - (q + 1))
                case measure => omega
                case rel => exact ⟨q + 1, by simp, by omega, by omega, HO.out, HB3.out⟩
              · rw [if_neg hc] at hgo
                clear hB hf hqq
                have HO := Lib.hid hgo
                clear hgo
                go_wp2_with fail
                go_ret
                exact ⟨by rw [HO.out]; rfl, HB3.out⟩
            · obtain rfl : q = 32 := by omega
              have hr : r = 32 := hgo.symm
              have HB3 := Lib.hid (And.intro hr hB)
              clear hr hB hgo
              go_wp2_with fail
              go_ret
              exact ⟨by rw [HB3.out.1]; rfl, HB3.out.2⟩
end Go.Proofs.Ytbgjpmijegeeiaa
