/- Curves as mathematics: how much a row of points bends, how many pieces it is, and the points by neighbours. No program is named here. -/
import Derived.Test.YtbhahddgajkchaaZAfW
import Derived.Test.YtbhahddgajkchaaZFgY
import Derived.BigQuiet
namespace Go.Proofs.Ytbhahddgajkchaa

def absI (n : Int) : Int := if n < 0 then -n else n
def bendX (l : List Pt) (i : Nat) : Int := (l.getD i pt0).x - 2 * (l.getD (i + 1) pt0).x + (l.getD (i + 2) pt0).x
def bendY (l : List Pt) (i : Nat) : Int := (l.getD i pt0).y - 2 * (l.getD (i + 1) pt0).y + (l.getD (i + 2) pt0).y
/-- the greatest of the first i second differences -/
def bendTo (l : List Pt) : Nat → Int
  | 0 => 0
  | i + 1 => max (bendTo l i) (max (absI (bendX l i)) (absI (bendY l i)))
def goP (d : Int) : Nat → Nat → Nat
  | 0, n => n
  | f + 1, n => if 16 * (n : Int) * n < d then goP d f (n + 1) else n
def pieceF (d : Int) : Nat := goP d 31 1
theorem goP_in (d : Int) : ∀ f n, n ≤ goP d f n ∧ goP d f n ≤ n + f
  | 0, n => ⟨Nat.le_refl _, Nat.le_refl _⟩
  | f + 1, n => by
    have h := goP_in d f (n + 1)
    unfold goP
    split <;> omega
theorem pieceF_in (d : Int) : 1 ≤ pieceF d ∧ pieceF d ≤ 32 := goP_in d 31 1
def FitL (l : List Pt) : Prop := ∀ p ∈ l, FitP p
instance (l : List Pt) : Decidable (FitL l) := by unfold FitL; exact inferInstance
/-- of how many pieces; 0: a point may not be -/
def piecesM (l : List Pt) : Nat := if FitL l then pieceF (bendTo l (l.length - 2)) else 0
theorem piecesM_le (l : List Pt) : piecesM l ≤ 32 := by
  unfold piecesM
  split
  · exact (pieceF_in _).2
  · omega
theorem piecesM_yes {l : List Pt} (h : FitL l) : piecesM l = pieceF (bendTo l (l.length - 2)) := if_pos h
theorem piecesM_no {l : List Pt} (h : ¬ FitL l) : piecesM l = 0 := if_neg h
theorem piecesM_pos {l : List Pt} (h : FitL l) : 1 ≤ piecesM l := by rw [piecesM_yes h]; exact (pieceF_in _).1
theorem piecesM_fit {l : List Pt} (h : piecesM l ≠ 0) : FitL l := Classical.byContradiction fun n => h (piecesM_no n)
theorem FitL.get {l : List Pt} (h : FitL l) {i : Nat} (hi : i < l.length) : FitP l[i] := h _ (List.getElem_mem hi)
theorem FitL.getD {l : List Pt} (h : FitL l) (i : Nat) : FitP (l.getD i pt0) := by
  by_cases hi : i < l.length
  · simp only [List.getD, List.getElem?_eq_getElem hi, Option.getD_some]; exact h.get hi
  · simp only [List.getD, List.getElem?_eq_none (by omega : l.length ≤ i), Option.getD_none]; decide
theorem getD_get {l : List Pt} {i : Nat} (hi : i < l.length) : l.getD i pt0 = l[i] := by simp [List.getD, hi]
theorem fitL_step {l : List Pt} {i : Nat} (hi : i < l.length) (h : ∀ p ∈ l.take i, FitP p) (h2 : FitP l[i]) : ∀ p ∈ l.take (i + 1), FitP p := by
  intro p hp
  rw [List.take_succ_eq_append_getElem hi, List.mem_append] at hp
  rcases hp with hp | hp
  · exact h p hp
  · simp at hp; subst hp; exact h2
theorem fitL_all {l : List Pt} (h : ∀ p ∈ l.take l.length, FitP p) : FitL l := by rw [List.take_length] at h; exact h
theorem fitL_not {l : List Pt} {i : Nat} (hi : i < l.length) (h : ¬ FitP l[i]) : ¬ FitL l := fun k => h (k.get hi)
theorem bend_bound {l : List Pt} (h : FitL l) (i : Nat) : (-33554428 ≤ bendX l i ∧ bendX l i ≤ 33554428) ∧ (-33554428 ≤ bendY l i ∧ bendY l i ≤ 33554428) := by
  have h0 := h.getD i
  have h1 := h.getD (i + 1)
  have h2 := h.getD (i + 2)
  unfold FitP at h0 h1 h2
  unfold bendX bendY
  omega
theorem bendTo_bound {l : List Pt} (h : FitL l) : ∀ i, 0 ≤ bendTo l i ∧ bendTo l i ≤ 33554428
  | 0 => by simp [bendTo]
  | i + 1 => by
    have h1 := bendTo_bound h i
    have h2 := bend_bound h i
    unfold bendTo absI
    split <;> split <;> omega

/-- the point at k by n of the way, n times as great -/
def midP (k n : Int) (a b : Pt) : Pt := ⟨(n - k) * a.x + k * b.x, (n - k) * a.y + k * b.y⟩
def stepP (k n : Int) : List Pt → List Pt
  | a :: b :: r => midP k n a b :: stepP k n (b :: r)
  | _ => []
def castP (k n : Int) : Nat → List Pt → List Pt
  | 0, l => l
  | r + 1, l => castP k n r (stepP k n l)
def nearQ (v d : Int) : Int := (2 * v + d) / (2 * d)
def curveAt (k n : Nat) (l : List Pt) : Pt :=
  ⟨nearQ ((castP k n (l.length - 1) l).getD 0 pt0).x ((n ^ (l.length - 1) : Nat) : Int), nearQ ((castP k n (l.length - 1) l).getD 0 pt0).y ((n ^ (l.length - 1) : Nat) : Int)⟩
def curveTo (n : Nat) (l : List Pt) (i : Nat) : List Pt := (List.range i).map fun j => curveAt (j + 1) n l
def curveP (l : List Pt) : List Pt := curveTo (piecesM l) l (piecesM l)
def curveE (l : List Pt) : Int := if piecesM l = 0 then 4 else 0
theorem curveTo_length (n : Nat) (l : List Pt) (i : Nat) : (curveTo n l i).length = i := by simp [curveTo]
theorem curveTo_step (n : Nat) (l : List Pt) (i : Nat) : curveTo n l (i + 1) = curveTo n l i ++ [curveAt (i + 1) n l] := by simp [curveTo, List.range_succ]
theorem curveP_length (l : List Pt) : (curveP l).length = piecesM l := curveTo_length _ _ _
theorem stepP_length (k n : Int) : ∀ l : List Pt, (stepP k n l).length = l.length - 1
  | [] => rfl
  | [_] => rfl
  | a :: b :: r => by
    have h := stepP_length k n (b :: r)
    simp only [stepP, List.length_cons] at h ⊢
    omega
theorem stepP_get (k n : Int) : ∀ (l : List Pt) (i : Nat) (hi : i < (stepP k n l).length) (h0 : i < l.length) (h1 : i + 1 < l.length), (stepP k n l)[i] = midP k n l[i] l[i + 1]
  | [], i, hi, h0, _ => absurd h0 (by simp)
  | [_], i, hi, h0, h1 => absurd h1 (by simp)
  | a :: b :: r, 0, _, _, _ => rfl
  | a :: b :: r, i + 1, hi, h0, h1 => by
    have h := stepP_get k n (b :: r) i (by simpa [stepP] using hi) (by simpa using h0) (by simpa using h1)
    simpa [stepP] using h
theorem castP_succ (k n : Int) : ∀ (r : Nat) (l : List Pt), castP k n (r + 1) l = stepP k n (castP k n r l)
  | 0, _ => rfl
  | r + 1, l => castP_succ k n r (stepP k n l)
theorem castP_length (k n : Int) : ∀ (r : Nat) (l : List Pt), (castP k n r l).length = l.length - r
  | 0, _ => rfl
  | r + 1, l => by rw [castP_succ, stepP_length, castP_length]; omega
/-- all parts at most M in size -/
def SizeL (M : Int) (l : List Pt) : Prop := ∀ p ∈ l, (-M ≤ p.x ∧ p.x ≤ M) ∧ (-M ≤ p.y ∧ p.y ≤ M)
/-- X between, Y too -/
def Btw (lo hi lo' hi' : Int) (l : List Pt) : Prop := ∀ p ∈ l, (lo ≤ p.x ∧ p.x ≤ hi) ∧ (lo' ≤ p.y ∧ p.y ≤ hi')
theorem mix_in {k n a b lo hi : Int} (hk : 0 ≤ k) (hkn : k ≤ n) (ha : lo ≤ a ∧ a ≤ hi) (hb : lo ≤ b ∧ b ≤ hi) : lo * n ≤ (n - k) * a + k * b ∧ (n - k) * a + k * b ≤ hi * n := by
  have h1 := Int.mul_le_mul_of_nonneg_left ha.1 (show 0 ≤ n - k by omega)
  have h2 := Int.mul_le_mul_of_nonneg_left ha.2 (show 0 ≤ n - k by omega)
  have h3 := Int.mul_le_mul_of_nonneg_left hb.1 hk
  have h4 := Int.mul_le_mul_of_nonneg_left hb.2 hk
  have e1 : lo * n = (n - k) * lo + k * lo := by rw [← Int.add_mul, Int.mul_comm]; congr 1; omega
  have e2 : hi * n = (n - k) * hi + k * hi := by rw [← Int.add_mul, Int.mul_comm]; congr 1; omega
  omega
theorem Btw.step {k n lo hi lo' hi' : Int} (hk : 0 ≤ k) (hkn : k ≤ n) : ∀ {l : List Pt}, Btw lo hi lo' hi' l → Btw (lo * n) (hi * n) (lo' * n) (hi' * n) (stepP k n l)
  | [], _ => fun p hp => by simp [stepP] at hp
  | [_], _ => fun p hp => by simp [stepP] at hp
  | a :: b :: r, h => fun p hp => by
    rcases List.mem_cons.1 hp with rfl | hp
    · exact ⟨mix_in hk hkn (h a (by simp)).1 (h b (by simp)).1, mix_in hk hkn (h a (by simp)).2 (h b (by simp)).2⟩
    · exact Btw.step hk hkn (l := b :: r) (fun q hq => h q (List.mem_cons_of_mem _ hq)) p hp
theorem Btw.cast {k n : Int} (hk : 0 ≤ k) (hkn : k ≤ n) : ∀ (r : Nat) {lo hi lo' hi' : Int} {l : List Pt}, Btw lo hi lo' hi' l → Btw (lo * n ^ r) (hi * n ^ r) (lo' * n ^ r) (hi' * n ^ r) (castP k n r l)
  | 0, lo, hi, lo', hi', l, h => by simpa [castP] using h
  | r + 1, lo, hi, lo', hi', l, h => by
    have h2 := Btw.cast hk hkn r (h.step hk hkn)
    have e : ∀ x : Int, x * n * n ^ r = x * n ^ (r + 1) := fun x => by rw [Int.pow_succ, Int.mul_assoc, Int.mul_comm n]
    simp only [e] at h2
    exact h2
theorem FitL.btw {l : List Pt} (h : FitL l) : Btw (-8388607) 8388607 (-8388607) 8388607 l := h
/-- how great the numbers may get: at most three rounds, of at most 32 pieces -/
theorem pow_32 {n r : Nat} (hn : n ≤ 32) (hr : r ≤ 3) : n ^ r ≤ 32768 := by
  have h1 := Nat.pow_le_pow_left hn r
  have h2 : 32 ^ r ≤ 32 ^ 3 := Nat.pow_le_pow_right (by omega) hr
  have h3 : (32 : Nat) ^ 3 = 32768 := by decide
  omega
theorem cast_bound {l : List Pt} (h : FitL l) {k n r : Nat} (hk : k ≤ n) (hn : n ≤ 32) (hr : r ≤ 3) : Btw (-274877874176) 274877874176 (-274877874176) 274877874176 (castP k n r l) := by
  have h1 := h.btw.cast (k := (k : Int)) (n := (n : Int)) (by omega) (by omega) r
  have h2 := pow_32 hn hr
  have h3 : ((n : Int) ^ r) = ((n ^ r : Nat) : Int) := by simp
  intro p hp
  have h4 := h1 p hp
  rw [h3] at h4
  have h5 : (0 : Int) ≤ ((n ^ r : Nat) : Int) := Int.natCast_nonneg _
  have h6 := Int.ofNat_le.2 h2
  generalize ((n ^ r : Nat) : Int) = z at h4 h5 h6
  omega
theorem nearQ_in {v d lo hi : Int} (hd : 0 < d) (h : lo * d ≤ v ∧ v ≤ hi * d) : lo ≤ nearQ v d ∧ nearQ v d ≤ hi := by
  unfold nearQ
  constructor
  · rw [Int.le_ediv_iff_mul_le (by omega)]
    have e : lo * (2 * d) = 2 * (lo * d) := by ac_rfl
    omega
  · have h2 : (2 * v + d) / (2 * d) < hi + 1 := by
      rw [Int.ediv_lt_iff_lt_mul (by omega)]
      have e : (hi + 1) * (2 * d) = 2 * (hi * d) + 2 * d := by rw [Int.add_mul, Int.one_mul]; congr 1; ac_rfl
      omega
    omega
theorem nearQ_mul (v : Int) {d : Int} (hd : 0 < d) : nearQ (v * d) d = v := by
  have h := nearQ_in (v := v * d) (lo := v) (hi := v) hd ⟨Int.le_refl _, Int.le_refl _⟩
  omega
theorem cast_full (n : Int) : ∀ (r : Nat) (l : List Pt) (i : Nat) (hi : i < (castP n n r l).length) (h2 : i + r < l.length), (castP n n r l)[i] = ⟨l[i + r].x * n ^ r, l[i + r].y * n ^ r⟩
  | 0, l, i, hi, h2 => by simp [castP]
  | r + 1, l, i, hi, h2 => by
    have e := castP_succ n n r l
    have hl := castP_length n n r l
    have h3 : i < (castP n n r l).length := by omega
    have h4 : i + 1 < (castP n n r l).length := by omega
    have h5 := cast_full n r l (i + 1) h4 (by omega)
    have h6 : (castP n n (r + 1) l)[i] = midP n n (castP n n r l)[i] (castP n n r l)[i + 1] := by
      simp only [e]
      exact stepP_get n n _ i _ h3 h4
    rw [h6, h5]
    have e2 : i + 1 + r = i + (r + 1) := by omega
    simp only [midP, Int.sub_self, Int.zero_mul, Int.zero_add, e2, Int.pow_succ, Pt.same]
    constructor <;> ac_rfl
/-- a curve ends where its last point is -/
theorem curve_last {l : List Pt} (hl : 0 < l.length) {n : Nat} (hn : 0 < n) : curveAt n n l = l[l.length - 1] := by
  have h1 := castP_length (n : Int) (n : Int) (l.length - 1) l
  have h0 : 0 < (castP (n : Int) (n : Int) (l.length - 1) l).length := by omega
  have h2 := cast_full (n : Int) (l.length - 1) l 0 h0 (by omega)
  have hp : 0 < n ^ (l.length - 1) := Nat.pow_pos hn
  have e : ((n ^ (l.length - 1) : Nat) : Int) = (n : Int) ^ (l.length - 1) := by simp
  unfold curveAt
  rw [getD_get h0, h2, ← e, Pt.same]
  have e2 : 0 + (l.length - 1) = l.length - 1 := by omega
  simp only [e2]
  exact ⟨nearQ_mul _ (by omega), nearQ_mul _ (by omega)⟩
/-- .. and stays between the least and the greatest of its points' parts -/
theorem curve_in {l : List Pt} {lo hi lo' hi' : Int} (h : Btw lo hi lo' hi' l) (hl : 0 < l.length) {k n : Nat} (hk : k ≤ n) (hn : 0 < n) : (lo ≤ (curveAt k n l).x ∧ (curveAt k n l).x ≤ hi) ∧ (lo' ≤ (curveAt k n l).y ∧ (curveAt k n l).y ≤ hi') := by
  have h1 := castP_length (k : Int) (n : Int) (l.length - 1) l
  have h0 : 0 < (castP (k : Int) (n : Int) (l.length - 1) l).length := by omega
  have h2 := h.cast (k := (k : Int)) (n := (n : Int)) (by omega) (by omega) (l.length - 1) _ (List.getElem_mem h0)
  have hp : 0 < n ^ (l.length - 1) := Nat.pow_pos hn
  have e : ((n ^ (l.length - 1) : Nat) : Int) = (n : Int) ^ (l.length - 1) := by simp
  rw [← e] at h2
  unfold curveAt
  rw [getD_get h0]
  exact ⟨nearQ_in (by omega) h2.1, nearQ_in (by omega) h2.2⟩
theorem curveP_last {l : List Pt} (hl : 0 < l.length) (hn : 0 < piecesM l) (h : piecesM l - 1 < (curveP l).length) : (curveP l)[piecesM l - 1] = l[l.length - 1] := by
  have e : piecesM l - 1 + 1 = piecesM l := by omega
  have e2 : (curveP l)[piecesM l - 1] = curveAt (piecesM l - 1 + 1) (piecesM l) l := by simp [curveP, curveTo]
  rw [e2, e]
  exact curve_last hl hn
theorem curveP_in {l : List Pt} {lo hi lo' hi' : Int} (h : Btw lo hi lo' hi' l) (hl : 0 < l.length) : Btw lo hi lo' hi' (curveP l) := by
  intro p hp
  unfold curveP curveTo at hp
  obtain ⟨j, hj, rfl⟩ := List.mem_map.1 hp
  rw [List.mem_range] at hj
  exact curve_in h hl (by omega) (by omega)
theorem round_get {k n : Int} {l g : List Pt} {i : Nat} (j : Nat) (hij : i ≤ j) (hj : j < l.length) (h : j < ((stepP k n l).take i ++ (l.drop i ++ g)).length) (hi : i + 1 ≤ l.length) : ((stepP k n l).take i ++ (l.drop i ++ g))[j] = l[j] := by
  have hs := stepP_length k n l
  have ht : ((stepP k n l).take i).length = i := by rw [List.length_take]; omega
  rw [List.getElem_append_right (by omega)]
  simp only [ht]
  rw [List.getElem_append_left (by rw [List.length_drop]; omega), List.getElem_drop]
  congr 1
  omega
end Go.Proofs.Ytbhahddgajkchaa
/- Curves: what the document's own abs and Pieces answer. -/

namespace Go.Proofs.Ytbhahddgajkchaa
open Go.RowKit

theorem quiet_atZ {P : Program} {f : FuncId} {args : Array Value} {w : World} {n : Nat} {v : Value} (h : Calls P f args (w.drewN n) fun e w' => e = .returned v ∧ w.drewN n = w') :
    Calls P f args (w.drewN n) fun e w' => e = .returned v ∧ ∃ k, w' = w.drewN k := h.mono fun _ _ hh => ⟨hh.1, n, hh.2.symm⟩
theorem max3_run {P : Program} (a b c m : Int) (h : max a (max b c) = m) (ts : Array TypeId) (t : TypeId) (W : World) : (Builtin.max_ ts t #[.int .i64 a, .int .i64 b, .int .i64 c]).run P W = .ok (.int .i64 m) W := by
  rw [run_max_int3]
  congr 2
  omega
theorem max5_run {P : Program} (a b c d e m : Int) (h : max a (max (max b c) (max d e)) = m) (ts : Array TypeId) (t : TypeId) (W : World) : (Builtin.max_ ts t #[.int .i64 a, .int .i64 b, .int .i64 c, .int .i64 d, .int .i64 e]).run P W = .ok (.int .i64 m) W := by
  have e2 : (Builtin.max_ ts t #[.int .i64 a, .int .i64 b, .int .i64 c, .int .i64 d, .int .i64 e]).run P W = .ok (.int .i64 (max (max (max (max a b) c) d) e)) W := by
    simp only [Builtin.max_, Builtin.max2, List.foldlM_cons, List.foldlM_nil, Sem.run_bind, Sem.run_pure, Result.andThen_ok]
    congr 2
    omega
  rw [e2]
  congr 2
  omega
theorem absI_max (n : Int) : absI n = max n (-n) := by unfold absI; split <;> omega

end Go.Proofs.Ytbhahddgajkchaa
