/- Lines in pieces, the program's own way, as mathematics: distances in a row, which point is the first one as far as, the points between, a pattern that goes round. No program is named here. -/
import Derived.Test.YtngnclibeccplaaDoorZDsV
import Derived.Test.YtngnclibeccplaaDoorZGaV
import Derived.Test.YtngnclibeccplaaDoorZOaB
namespace Go.Proofs.YtngnclibeccplaaDoor
open Num

/-- how many of the first m values are below n -/
def cntF (f : Nat → Int) (n : Int) : Nat → Nat
  | 0 => 0
  | m + 1 => cntF f n m + (if f m < n then 1 else 0)
theorem cntF_le (f : Nat → Int) (n : Int) : ∀ m, cntF f n m ≤ m
  | 0 => Nat.le_refl _
  | m + 1 => by
    have h := cntF_le f n m
    unfold cntF
    split <;> omega
theorem cntF_all {f : Nat → Int} {n : Int} : ∀ {m}, (∀ j, j < m → f j < n) → cntF f n m = m
  | 0, _ => rfl
  | m + 1, h => by
    unfold cntF
    rw [cntF_all (fun j hj => h j (by omega)), if_pos (h m (by omega))]
theorem cntF_iff {f : Nat → Int} (hf : ∀ i j, i ≤ j → f i ≤ f j) {n : Int} : ∀ m j, j < m → (j < cntF f n m ↔ f j < n)
  | 0, j, h => absurd h (by omega)
  | m + 1, j, h => by
    have hle := cntF_le f n m
    by_cases hm : f m < n
    · rw [show cntF f n (m + 1) = m + 1 from cntF_all (fun i hi => by have := hf i m (by omega); omega)]
      have := hf j m (by omega)
      exact ⟨fun _ => by omega, fun _ => h⟩
    · have e : cntF f n (m + 1) = cntF f n m := by
        show _ + (if _ then 1 else 0) = _
        rw [if_neg hm]; rfl
      rw [e]
      by_cases hj : j = m
      · subst hj
        exact ⟨fun k => by omega, fun k => absurd k hm⟩
      · exact cntF_iff hf m j (by omega)
/-- how far each point is from the line's beginning -/
def farL (p : List Pt) : List Int := (List.range p.length).map (chainTo p)
theorem farL_length (p : List Pt) : (farL p).length = p.length := by simp [farL]
theorem farL_get {p : List Pt} {j : Nat} (h : j < (farL p).length) : (farL p)[j] = chainTo p j := by simp [farL]
theorem farL_getD {p : List Pt} {j : Nat} (h : j < p.length) : (farL p).getD j 0 = chainTo p j := by
  simp [farL, List.getD, h]
theorem chain_le (p : List Pt) : ∀ i j, i ≤ j → chainTo p i ≤ chainTo p j := by
  intro i j h
  induction j with
  | zero => rw [show i = 0 by omega]; exact Int.le_refl _
  | succ j ih =>
    by_cases e : i = j + 1
    · rw [e]; exact Int.le_refl _
    · have := ih (by omega)
      simp only [chainTo]
      omega
/-- the first point that is at least as far -/
def firstF (p : List Pt) (n : Int) : Nat := cntF (chainTo p) n p.length
theorem count_far (f : Nat → Int) (n : Int) : ∀ m, ((List.range m).map f).countP (fun x => decide (x < n)) = cntF f n m
  | 0 => rfl
  | m + 1 => by
    rw [List.range_succ, List.map_append, List.countP_append, count_far f n m]
    show _ = cntF f n m + (if f m < n then 1 else 0)
    by_cases h : f m < n <;> simp [h]
theorem first_count (p : List Pt) (n : Int) : (farL p).countP (fun x => decide (x < n)) = firstF p n := count_far _ _ _
theorem far_sorted (p : List Pt) : (farL p).Pairwise (· ≤ ·) := by
  unfold farL
  rw [List.pairwise_map]
  exact List.pairwise_le_range.imp (fun h => chain_le p _ _ h)
theorem firstF_le (p : List Pt) (n : Int) : firstF p n ≤ p.length := cntF_le _ _ _
theorem firstF_iff {p : List Pt} {n : Int} {j : Nat} (h : j < p.length) : j < firstF p n ↔ chainTo p j < n := cntF_iff (chain_le p) _ _ h
theorem firstF_in {p : List Pt} {n : Int} (h : 0 < p.length) (hn : n ≤ chainTo p (p.length - 1)) : firstF p n ≤ p.length - 1 := by
  have h1 := firstF_iff (n := n) (show p.length - 1 < p.length by omega)
  refine Classical.byContradiction fun k => ?_
  have := h1.1 (by omega)
  omega
theorem firstF_mono (p : List Pt) {a b : Int} (h : a ≤ b) : firstF p a ≤ firstF p b := by
  have aux : ∀ m, cntF (chainTo p) a m ≤ cntF (chainTo p) b m := by
    intro m
    induction m with
    | zero => exact Nat.le_refl _
    | succ m ih =>
      simp only [cntF]
      split <;> split <;> omega
  exact aux _
/-- the points between -/
theorem mids_slice (p : List Pt) {a b : Int} : ∀ i, i ≤ p.length → midsTo p a b i = (p.take (min i (firstF p b))).drop (firstF p (a + 1))
  | 0, _ => by simp [midsTo]
  | i + 1, h => by
    have ih := mids_slice p (a := a) (b := b) i (by omega)
    have hA := firstF_iff (p := p) (n := a + 1) (j := i) (by omega)
    have hB := firstF_iff (p := p) (n := b) (j := i) (by omega)
    unfold midsTo
    by_cases c1 : i < firstF p b
    · by_cases c2 : i < firstF p (a + 1)
      · rw [if_neg (by have := hA.1 c2; omega), ih, List.drop_eq_nil_of_le (by rw [List.length_take]; omega), List.drop_eq_nil_of_le (by rw [List.length_take]; omega)]
      · rw [if_pos ⟨by
          refine Classical.byContradiction fun k => c2 (hA.2 (by omega)), hB.1 c1⟩, ih]
        rw [show min i (firstF p b) = i by omega, show min (i + 1) (firstF p b) = i + 1 by omega]
        rw [List.take_succ_eq_append_getElem (show i < p.length by omega), List.drop_append_of_le_length (by rw [List.length_take]; omega), getD_lt (show i < p.length by omega)]
    · rw [if_neg (fun k => c1 (hB.2 k.2)), ih, show min i (firstF p b) = min (i + 1) (firstF p b) by omega]
theorem mids_of {p : List Pt} {a b : Int} (h : 0 < p.length) (hb : b ≤ chainTo p (p.length - 1)) : midsTo p a b (p.length - 1) = (p.take (firstF p b)).drop (firstF p (a + 1)) := by
  rw [mids_slice p (p.length - 1) (by omega), show min (p.length - 1) (firstF p b) = firstF p b by have := firstF_in h hb; omega]
/-- a way of no length goes nowhere -/
theorem len_same {a b : Pt} (ha : FitP a) (hb : FitP b) (h : lenG a b = 0) : a = b := by
  rw [lenG_yes ha hb] at h
  have h1 := rootG_is (sqG a b).toNat
  rw [h] at h1
  have h2 := h1.2
  have h3 := sqG_in ha hb
  have hx := sq_in (x := b.x - a.x) (M := 16777214) (diff_in ha hb).1
  have hy := sq_in (x := b.y - a.y) (M := 16777214) (diff_in ha hb).2
  have h0 : sqG a b = 0 := by omega
  unfold sqG at h0
  have ex : b.x - a.x = 0 := by
    rcases Int.mul_eq_zero.1 (show (b.x - a.x) * (b.x - a.x) = 0 by omega) with k | k <;> exact k
  have ey : b.y - a.y = 0 := by
    rcases Int.mul_eq_zero.1 (show (b.y - a.y) * (b.y - a.y) = 0 by omega) with k | k <;> exact k
  obtain ⟨x, y⟩ := a
  obtain ⟨u, v⟩ := b
  simp only at ex ey
  rw [show x = u by omega, show y = v by omega]
theorem fit_get {p : List Pt} (hf : FitL p) {i : Nat} (h : i < p.length) : FitP (p.getD i pt0) := by
  rw [getD_lt h]
  exact hf _ (List.getElem_mem h)
/-- at the beginning -/
theorem walk_zero {p : List Pt} (hf : FitL p) : ∀ k i, i + k = p.length → 0 < k → (p.getD i pt0 = p.getD 0 pt0) → walkM (p.getD 0 pt0) (p.drop i) 0 = p.getD 0 pt0
  | 0, _, _, h, _ => absurd h (by omega)
  | 1, i, hi, _, _ => walk_end (by omega)
  | k + 2, i, hi, _, he => by
    have h1 : i + 1 < p.length := by omega
    by_cases hl : 0 < lenG (p.getD i pt0) (p.getD (i + 1) pt0)
    · rw [walk_hit h1 ⟨by omega, by omega⟩, aheadG_stay, he]
    · have h0 : lenG (p.getD i pt0) (p.getD (i + 1) pt0) = 0 := by omega
      rw [walk_on h1 (fun k => by omega), h0]
      show walkM _ _ (0 - 0) = _
      rw [Int.sub_zero]
      exact walk_zero hf (k + 1) (i + 1) (by omega) (by omega) (by rw [← len_same (fit_get hf (by omega)) (fit_get hf h1) h0, he])
/-- further on -/
theorem walk_first {p : List Pt} {z : Pt} {n : Int} (hn : n ≤ chainTo p (p.length - 1)) : ∀ k i, i + k = firstF p n → 0 < k → walkM z (p.drop i) (n - chainTo p i) = aheadG (p.getD (firstF p n - 1) pt0) (p.getD (firstF p n) pt0) (n - chainTo p (firstF p n - 1))
  | 0, _, _, h => absurd h (by omega)
  | k + 1, i, hi, _ => by
    have hp : 0 < p.length := by have := firstF_le p n; omega
    have hF := firstF_in hp hn
    have h1 : i + 1 < p.length := by omega
    have e1 := firstF_iff (p := p) (n := n) (j := i) (by omega)
    have e2 := firstF_iff (p := p) (n := n) (j := i + 1) h1
    have c1 := e1.1 (by omega)
    have hst : chainTo p (i + 1) = chainTo p i + (lenG (p.getD i pt0) (p.getD (i + 1) pt0) : Int) := rfl
    cases k with
    | zero =>
      have c2 : ¬ chainTo p (i + 1) < n := fun q => by have := e2.2 q; omega
      rw [walk_hit h1 ⟨by omega, by omega⟩, show firstF p n = i + 1 by omega]
      rfl
    | succ k =>
      have c2 := e2.1 (by omega)
      rw [walk_on h1 (fun q => by omega), show n - chainTo p i - (lenG (p.getD i pt0) (p.getD (i + 1) pt0) : Int) = n - chainTo p (i + 1) by omega]
      exact walk_first hn (k + 1) (i + 1) (by omega) (by omega)
/-- the point at a distance, as the program finds it -/
def tapeAt (p : List Pt) (n : Int) : Pt := if firstF p n = 0 then p.getD 0 pt0 else aheadG (p.getD (firstF p n - 1) pt0) (p.getD (firstF p n) pt0) (n - chainTo p (firstF p n - 1))
theorem tape_at {p : List Pt} (hf : FitL p) (hp : 0 < p.length) {n : Int} (h0 : 0 ≤ n) (hn : n ≤ chainTo p (p.length - 1)) : walkM (p.getD 0 pt0) p n = tapeAt p n := by
  unfold tapeAt
  by_cases h : firstF p n = 0
  · rw [if_pos h]
    have e := firstF_iff (p := p) (n := n) hp
    have hz : n = 0 := by
      have : ¬ chainTo p 0 < n := fun k => by have := e.2 k; omega
      simp only [chainTo] at this
      omega
    subst hz
    exact walk_zero hf p.length 0 (by omega) hp rfl
  · rw [if_neg h]
    have := walk_first (z := p.getD 0 pt0) hn (firstF p n) 0 (by omega) (by omega)
    simp only [chainTo, Int.sub_zero, List.drop_zero] at this
    exact this
theorem atM_tape {l : List Pt} {c : Bool} {n : Int} (h : AtOk l c n) : atM l c n = tapeAt (ringP l c) n := by
  obtain ⟨h1, h2, h3, h4⟩ := h
  have hr := (ringP_le l c).1
  rw [longM_ring h2 c] at h4
  exact tape_at (fitL_ring.2 h2) (by omega) h3 h4
/-- a piece, as the program cuts it -/
theorem rawP_tape {l : List Pt} {c : Bool} {a b : Int} (h1 : 0 < l.length) (h2 : FitL l) (ha : 0 ≤ a) (hab : a ≤ b) (hb : b ≤ longM l c) : rawP l c a b = [tapeAt (ringP l c) a] ++ ((ringP l c).take (firstF (ringP l c) b)).drop (firstF (ringP l c) (a + 1)) ++ [tapeAt (ringP l c) b] := by
  have ok1 : AtOk l c a := ⟨h1, h2, ha, by omega⟩
  have ok2 : AtOk l c b := ⟨h1, h2, by omega, hb⟩
  have hr := (ringP_le l c).1
  unfold rawP
  rw [if_pos ok1, if_pos ok2, atM_tape ok1, atM_tape ok2, mids_of (by omega) (by rw [← longM_ring h2 c]; exact hb)]
/-- a piece of no length is one point -/
theorem piece_none {l : List Pt} {c : Bool} : (pieceP l c 0 0).length ≤ 1 := by
  have hm : ∀ i, midsTo (ringP l c) 0 0 i = [] := by
    intro i
    induction i with
    | zero => rfl
    | succ i ih => 
      unfold midsTo
      rw [if_neg (by omega), ih]
  unfold pieceP rawP
  rw [hm]
  generalize (if AtOk l c 0 then atM l c 0 else pt0) = q
  show (onceTo [q, q] 2).length ≤ 1
  simp [onceTo]
/-- a pattern that goes round -/
def patAt (P : List Int) (k : Nat) : Int := P.getD (k % P.length) 0
theorem patAt_in {P : List Int} {h : Int} (hm : MayD P h) (hp : 0 < P.length) (k : Nat) : 1 ≤ patAt P k ∧ patAt P k ≤ 8388607 := hm.2.2 _ (getD_memI (Nat.mod_lt _ hp))
theorem pattP_at {P : List Int} (hp : 0 < P.length) (k : Nat) : (pattP P).getD (k % (pattP P).length) 0 = patAt P k := by
  unfold pattP patAt
  split
  · rw [List.length_append]
    have h1 : k % (P.length + P.length) < P.length + P.length := Nat.mod_lt _ (by omega)
    have h2 : k % (P.length + P.length) % P.length = k % P.length := Nat.mod_mod_of_dvd _ ⟨2, by omega⟩
    simp only [List.getD]
    rw [← h2]
    generalize k % (P.length + P.length) = r at h1
    by_cases c : r < P.length
    · rw [List.getElem?_append_left c, Nat.mod_eq_of_lt c]
    · have h3 : r % P.length = r - P.length := by rw [Nat.mod_eq_sub_mod (by omega), Nat.mod_eq_of_lt (by omega)]
      rw [List.getElem?_append_right (by omega), h3]
  · rfl
/-- how far one has come after k lengths -/
def goneP (P : List Int) : Nat → Int
  | 0 => 0
  | k + 1 => goneP P k + patAt P k
theorem goneP_le {P : List Int} {h : Int} (hm : MayD P h) (hp : 0 < P.length) : ∀ i j, i < j → goneP P i < goneP P j := by
  intro i j h
  induction j with
  | zero => omega
  | succ j ih =>
    have := (patAt_in hm hp j).1
    simp only [goneP]
    by_cases e : i = j
    · rw [e]; omega
    · have := ih (by omega)
      omega
theorem goneP_in {P : List Int} {h : Int} (hm : MayD P h) (hp : 0 < P.length) : ∀ i : Nat, (i : Int) ≤ goneP P i ∧ goneP P i ≤ 8388607 * (i : Int)
  | 0 => by simp [goneP]
  | i + 1 => by
    have h1 := goneP_in hm hp i
    have h2 := patAt_in hm hp i
    simp only [goneP]
    omega
theorem goneP_total {P : List Int} (hp : 0 < P.length) : goneP P (pattP P).length = totalP P := by
  have h : ∀ i, i ≤ (pattP P).length → goneP P i = sumTo (pattP P) i := by
    intro i
    induction i with
    | zero => intro _; rfl
    | succ i ih =>
      intro hi
      simp only [goneP, sumTo]
      rw [ih (by omega), ← pattP_at hp i, Nat.mod_eq_of_lt (by omega)]
  exact h _ (Nat.le_refl _)
/-- where the lengths that end ahead of the line are over -/
theorem gone_few {P : List Int} {h : Int} (hm : MayD P h) (hp : 0 < P.length) {s : Int} (hs : s < totalP P) {k : Nat} (hk : goneP P k - s ≤ 0) : k < 16 := by
  have h1 := pattP_le P
  have h2 := hm.1
  refine Classical.byContradiction fun c => ?_
  have h3 := goneP_total hp
  rcases Nat.lt_or_ge (pattP P).length k with c2 | c2
  · have := goneP_le hm hp _ _ c2
    omega
  · rw [show k = (pattP P).length by omega] at hk
    omega
theorem sumTo_append (a b : List Int) : ∀ i, i ≤ a.length → sumTo (a ++ b) i = sumTo a i
  | 0, _ => rfl
  | i + 1, h => by
    simp only [sumTo]
    rw [sumTo_append a b i (by omega)]
    congr 1
    simp only [List.getD]
    rw [List.getElem?_append_left (by omega)]
theorem sumTo_append2 (a b : List Int) : ∀ i, sumTo (a ++ b) (a.length + i) = sumTo a a.length + sumTo b i
  | 0 => by
    rw [Nat.add_zero, sumTo_append a b _ (Nat.le_refl _)]
    simp [sumTo]
  | i + 1 => by
    rw [← Nat.add_assoc]
    simp only [sumTo]
    rw [sumTo_append2 a b i]
    simp only [List.getD]
    rw [List.getElem?_append_right (by omega), Nat.add_sub_cancel_left]
    omega
theorem total_odd {P : List Int} (h : P.length % 2 = 1) : totalP P = sumTo P P.length * 2 := by
  unfold totalP pattP
  rw [if_pos h, List.length_append, sumTo_append2]
  omega
theorem total_even {P : List Int} (h : ¬ P.length % 2 = 1) : totalP P = sumTo P P.length := by
  unfold totalP pattP
  rw [if_neg h]
end Go.Proofs.YtngnclibeccplaaDoor
/- Lines in pieces, the program's own: within, May, Total, fit. -/

namespace Go.Proofs.YtngnclibeccplaaDoor
open Go.RowKit Num

/-- whether no number is below least, or longer than a coordinate may be -/
def WithD (least : Int) (P : List Int) : Prop := ∀ x ∈ P, least ≤ x ∧ x ≤ 8388607
instance (least : Int) (P : List Int) : Decidable (WithD least P) := by unfold WithD; exact inferInstance
theorem withD_step {least : Int} {P : List Int} {i : Nat} (hi : i < P.length) (h : WithD least (P.take i)) (hx : least ≤ P[i] ∧ P[i] ≤ 8388607) : WithD least (P.take (i + 1)) := by
  intro x hm
  rw [List.take_succ_eq_append_getElem hi, List.mem_append] at hm
  rcases hm with hm | hm
  · exact h x hm
  · simp at hm; subst hm; exact hx
theorem withD_not {least : Int} {P : List Int} {i : Nat} (hi : i < P.length) (hx : ¬ (least ≤ P[i] ∧ P[i] ≤ 8388607)) : ¬ WithD least P := fun k => hx (k _ (List.getElem_mem hi))

set_option maxRecDepth 10000 in
set_option maxHeartbeats 1600000 in
theorem dash_within (least : Int) (P : List Int) (A : Option Addr) (c : Nat) (w : World) (hP : RdV w w.heap.size A (icells P)) (hl : P.length ≤ 4611686018427387904) :
    Calls Tryd.prog 28 #[.int .i64 least, .slice A P.length c] w fun e w' => e = .returned (.bool (decide (WithD least P))) ∧ w = w' := by
  obtain ⟨n, hn⟩ : ∃ n, P.length = n := ⟨_, rfl⟩
  have HN := Lib.hid hn
  obtain ⟨r, hr⟩ : ∃ r : Bool, decide (WithD least P) = r := ⟨_, rfl⟩
  have HR := Lib.hid hr
  rw [hn] at hl ⊢
  rw [hr]
  clear hn hr
  go_enter Tryd.func28, Tryd.ntmps28
  go_wp2_with fail
  go_loopg [9] n (fun gh it wr => ∃ i : Nat, it = .int .i64 (i : Int) ∧ gh + i = n ∧ WithD least (P.take i) ∧ wr = w)
  case atStart => exact ⟨0, rfl, by omega, (fun x hx => by simp at hx), rfl⟩
  case round =>
    obtain ⟨i, rfl, hg, hok, rfl⟩ := hrel
    have hwi : IntKind.i64.wrap ((i : Int) + 1) = (i : Int) + 1 := IntWalk.i64_in _ (by omega)
    have HG := Lib.hid hg
    clear hg
    by_cases hlt : i < n
    · have hlt' : i < P.length := by rw [HN.out]; exact hlt
      obtain ⟨g, o, rfl, hgl, e0⟩ := hP.num (i := i) hlt'
      have hil : (i : Int) < (n : Int) := by omega
      have HST := Lib.hid (withD_step hlt' hok)
      have HNO := Lib.hid (withD_not (least := least) hlt')
      obtain ⟨x, hx⟩ : ∃ x, P[i] = x := ⟨_, rfl⟩
      rw [hx] at e0 HST HNO
      clear hok hlt' hx
      by_cases h1 : x < least
      · have HF := Lib.hid (decide_eq_false (HNO.out (fun k => by omega)))
        clear HST HNO
        go_wp2_with fail
        go_ret
        rw [← HR.out, HF.out]
        exact ⟨rfl, rfl⟩
      · by_cases h2 : 8388607 < x
        · have HF := Lib.hid (decide_eq_false (HNO.out (fun k => by omega)))
          clear HST HNO
          go_wp2_with fail
          go_ret
          rw [← HR.out, HF.out]
          exact ⟨rfl, rfl⟩
        · have HX := Lib.hid (HST.out ⟨by omega, by omega⟩)
          clear HST HNO
          go_wp2_with fail
          go_roundg (n - (i + 1))
          case measure => have := HG.out; omega
          case rel => exact ⟨i + 1, by simp, by have := HG.out; omega, HX.out, rfl⟩
    · obtain rfl : i = n := by have := HG.out; omega
      have HT := Lib.hid (decide_eq_true (show WithD least P from by rw [← HN.out, List.take_length] at hok; exact hok))
      clear hok
      go_wp2_with fail
      go_ret
      rw [← HR.out, HT.out]
      exact ⟨rfl, rfl⟩

theorem mayD_with {P : List Int} {h : Int} : MayD P h ↔ P.length ≤ 8 ∧ WithD 1 P ∧ WithD 0 [h] := by
  unfold MayD WithD
  simp only [List.mem_singleton, forall_eq]
  constructor
  · rintro ⟨h1, h2, h3⟩; exact ⟨h1, h3, h2⟩
  · rintro ⟨h1, h2, h3⟩; exact ⟨h1, h3, h2⟩
theorem one_box (w : World) (t : TypeId) (v : Value) : ∃ W, w.alloc (.cells #[v] t) = W ∧ Box W w.heap.size t [v] ∧ Below w.heap.size w W := ⟨_, rfl, Box.new w t [v], below_new w _⟩

set_option maxRecDepth 10000 in
set_option maxHeartbeats 1600000 in
theorem dash_May (P : List Int) (A : Option Addr) (c : Nat) (h : Int) (w : World) (hP : RdV w w.heap.size A (icells P)) (hl : P.length ≤ 1048576) (_hc : P.length ≤ c) :
    Calls Tryd.prog 16 #[.slice A P.length c, .int .i64 h] w fun e w' => e = .returned (.bool (decide (MayD P h))) ∧ Below w.heap.size w w' := by
  have c1 := dash_within 1 P A c w hP (by omega)
  obtain ⟨W, hW, kW, bW⟩ := one_box w 3 (.int .i64 h)
  have c2 := dash_within 0 [h] (some ⟨w.heap.size, 0, none⟩) 1 W kW.rd (by simp)
  rw [show decide (MayD P h) = (decide (P.length ≤ 8) && (decide (WithD 1 P) && decide (WithD 0 [h]))) from by rw [← Bool.decide_and, ← Bool.decide_and]; exact decide_eq_decide.2 mayD_with]
  generalize decide (WithD 1 P) = d1 at c1 ⊢
  generalize decide (WithD 0 [h]) = d2 at c2 ⊢
  simp only [List.length_singleton] at c2
  obtain ⟨n, hn⟩ : ∃ n, P.length = n := ⟨_, rfl⟩
  rw [hn] at c1 ⊢
  have C1 := Lib.hid c1
  have C2 := Lib.hid c2
  have HB := Lib.hid bW
  clear c1 c2 hP hn kW bW _hc
  by_cases h8 : n ≤ 8
  · have h8' : (n : Int) ≤ 8 := by omega
    rw [decide_eq_true h8]
    cases d1
    all_goals
      go_enter Tryd.func16, Tryd.ntmps16
      go_wp2_with first
        | (rw [hW])
        | (go_at_call 28; (with_reducible refine Calls.mono C1.out ?_); rintro e w1 ⟨rfl, rfl⟩)
        | (go_at_call 28; (with_reducible refine Calls.mono C2.out ?_); rintro e w1 ⟨rfl, rfl⟩)
      go_ret
      first
        | exact ⟨rfl, Below.refl _ _⟩
        | exact ⟨rfl, HB.out⟩
  · have h8' : ¬ (n : Int) ≤ 8 := by omega
    rw [decide_eq_false h8]
    go_enter Tryd.func16, Tryd.ntmps16
    go_wp2_with fail
    go_ret
    exact ⟨rfl, Below.refl _ _⟩

theorem sum_next (P : List Int) (i : Nat) : sumTo P (i + 1) = sumTo P i + P.getD i 0 := rfl
end Go.Proofs.YtngnclibeccplaaDoor
/- Lines in pieces, the program's own: a row cloned as one's own, lay. -/

namespace Go.Proofs.YtngnclibeccplaaDoor
open Go.RowKit Num

set_option maxRecDepth 10000 in
set_option maxHeartbeats 1600000 in
theorem slices_CloneO (L : List Pt) (A : Option Addr) (c : Nat) (w : World) (hL : RdV w w.heap.size A (ptRow L)) (hl : L.length ≤ 1073741824) :
    Calls Tryd.prog 24 #[.slice A L.length c] w fun e w' => ∃ v, e = .returned v ∧ w'.ownsRow w.heap.size 34 2 v L.length (ptRow L) ∧ Below w.heap.size w w' := by
  cases A with
  | none =>
    have h0 : L = [] := by
      cases L with
      | nil => rfl
      | cons x r =>
        obtain ⟨b, o, e, -⟩ := hL (by simp [ptRow, ptCells])
        cases e
    subst h0
    simp only [List.length_nil]
    clear hL hl
    have hnil : ∀ W, (binOp .eql 22 (.slice none 0 c) (.slice none 0 0)).run Tryd.prog W = .ok (.bool true) W := fun W => Lib.run_eql_slice_nil W _ _ _ _ _ _ _ Tryd.underlying22
    go_enter Tryd.func24, Tryd.ntmps24
    go_wp2_with fail
    go_ret
    exact ⟨_, rfl, World.ownsRow_nil _ _ _ _, Below.refl _ _⟩
  | some a =>
    obtain ⟨i0, hi, hz0, hz1, hz2⟩ := info_parts info_pt
    obtain ⟨n, hn⟩ : ∃ n, L.length = n := ⟨_, rfl⟩
    have HL := Lib.hid (ptRow_length L)
    have HN := Lib.hid hn
    have hnil : ∀ W, (binOp .eql 22 (.slice (some a) n c) (.slice none 0 0)).run Tryd.prog W = .ok (.bool false) W := fun W => Lib.run_eql_slice_nil W _ _ _ _ _ _ _ Tryd.underlying22
    have hown : (w.alloc (.cells #[] 34)).ownsRow w.heap.size 34 2 (.slice (some ⟨w.heap.size, 0, none⟩) 0 0) 0 [] := ⟨rfl, .inr ⟨w.heap.size, 0, #[], rfl, Nat.le_refl _, heap_alloc_new w _, Nat.le_refl _, by simp [maxLen], rfl, rfl⟩⟩
    have hB := (Below.refl w.heap.size w).alloc (Nat.le_refl _) (.cells #[] 34)
    have HO := Lib.hid (And.intro hown hB)
    have HR := Lib.hid (show ∀ j u, (ptRow L)[j]? = some u → (w.alloc (.cells #[] 34)).cell? (a.add j) = some u from by
      intro j u hu
      obtain ⟨h1, rfl⟩ := List.getElem?_eq_some_iff.1 hu
      obtain ⟨b, o, e, hb2, hc⟩ := hL (by omega)
      cases e
      rw [addr_add]
      exact (hB.cell (p := ⟨b, o + j, none⟩) hb2).trans (hc j h1))
    have H1 := Lib.hid (show ∀ u ∈ ptRow L, u.oneCell' = true from by
      intro u hu
      obtain ⟨p, -, hp⟩ := List.mem_flatMap.1 hu
      simp only [ptCells, List.mem_cons, List.not_mem_nil, or_false] at hp
      rcases hp with rfl | rfl <;> rfl)
    rw [hn] at hl ⊢
    clear hown hB hL hn
    go_enter Tryd.func24, Tryd.ntmps24
    go_wp2_with (at_builtin; refine wpList_append_own _ rfl _ _ 22 rfl w.heap.size 34 i0 (.agg #[.int .i64 0, .int .i64 0]) 2 16 Tryd.underlying22 hi hz0 hz1 hz2 rfl (by decide) _ 0 _ rfl HO.out.1 a n c (ptRow L) rfl (by rw [HL.out, HN.out]) HR.out H1.out (by simp [maxLen]; omega) (by omega) (by simp) ?_; intro v' w3 hown' hgrow _; replace hown' := Lib.hid hown'; replace hgrow := Lib.hid hgrow)
    have hBs := below_grow2 HO.out.2 HO.out.1 (by simp) hgrow.out
    have ho := hown'.out
    rw [Nat.zero_add, List.nil_append] at ho
    have HF := Lib.hid (And.intro ho hBs)
    clear ho hBs hown' hgrow
    go_ret
    exact ⟨_, rfl, HF.out.1, HF.out.2⟩

/-- the distances, as far as they are reckoned -/
def farUp (p : List Pt) (i : Nat) : List Int := (List.range p.length).map (fun j => if j < i then chainTo p j else 0)
theorem farUp_length (p : List Pt) (i : Nat) : (farUp p i).length = p.length := by simp [farUp]
theorem farUp_get {p : List Pt} {i j : Nat} (h : j < (farUp p i).length) : (farUp p i)[j] = if j < i then chainTo p j else 0 := by simp [farUp]
theorem farUp_one (p : List Pt) : farUp p 1 = List.replicate p.length 0 := by
  apply List.ext_getElem
  · simp [farUp_length]
  · intro j h1 h2
    rw [farUp_get, List.getElem_replicate]
    split
    · rw [show j = 0 by omega]; rfl
    · rfl
theorem farUp_all {p : List Pt} {i : Nat} (h : p.length ≤ i) : farUp p i = farL p := by
  apply List.ext_getElem
  · simp [farUp_length, farL_length]
  · intro j h1 h2
    rw [farUp_get, farL_get, if_pos (by rw [farUp_length] at h1; omega)]
theorem farUp_step {p : List Pt} {i : Nat} : (farUp p i).set i (chainTo p i) = farUp p (i + 1) := by
  apply List.ext_getElem
  · simp [farUp_length]
  · intro j h1 h2
    rw [List.getElem_set, farUp_get, farUp_get]
    by_cases e : i = j
    · subst e; rw [if_pos rfl, if_pos (by omega)]
    · rw [if_neg e]
      by_cases c : j < i
      · rw [if_pos c, if_pos (by omega)]
      · rw [if_neg c, if_neg (by omega)]
theorem icells_set (l : List Int) (i : Nat) (v : Int) : (icells l).set i (.int .i64 v) = icells (l.set i v) := by simp [icells, List.map_set]
theorem icells_get {l : List Int} {i : Nat} (h : i < l.length) : (icells l)[i]? = some (.int .i64 l[i]) := by simp [icells, h]
theorem icells_rep (n : Nat) : icells (List.replicate n 0) = List.replicate n (.int .i64 0) := by simp [icells]
theorem run_make_ints (n : Nat) (hn : n ≤ 17592186044416) (u : World) :
    (Instr.makeSlice 25 (.int .i64 (n : Int)) (.int .i64 (n : Int))).run Tryd.prog u = .ok (.slice (some ⟨u.heap.size, 0, none⟩) n n) (u.alloc (.cells (icells (List.replicate n 0)).toArray 3)) := by
  obtain ⟨i, hi, hz0, hz1, hz2⟩ := info_parts (show (Tryd.prog.info? 3).map (fun i => (i.zero, i.size, i.bytes)) = some (some (.int .i64 0), 1, 8) by kernel_rfl)
  have hb : (i.bytes : Int) * (n : Int) ≤ 281474976710656 := by rw [hz2]; omega
  have h := run_make (P := Tryd.prog) u 25 3 i _ Tryd.underlying25 hi hz0 .i64 .i64 n n (by omega) (Int.le_refl _) hb (by omega)
  rw [Int.toNat_natCast] at h
  rw [h, hz1, icells_rep]
  have e2 : madeCells (Value.int .i64 0).cells (n * 1) = (List.replicate n (.int .i64 0)).toArray := by
    rw [Nat.mul_one]
    show madeCells #[(.int .i64 0 : Value)] n = _
    rw [← toList_madeCells_one]
  rw [e2]
/-- what lay answers -/
def Laid (L : List Pt) (cl : Bool) (w : World) (e : Ending) (w' : World) : Prop :=
  (∃ q k r j, e = .returned (.agg #[.slice q (ringP L cl).length k, .slice r (ringP L cl).length j]) ∧ (ringP L cl).length ≤ k ∧ (ringP L cl).length ≤ j ∧ RdV w' w'.heap.size q (ptRow (ringP L cl)) ∧ RdV w' w'.heap.size r (icells (farL (ringP L cl))) ∧ ∀ b o, (q = some ⟨b, o, none⟩ ∨ r = some ⟨b, o, none⟩) → w.heap.size ≤ b) ∧ Below w.heap.size w w'
end Go.Proofs.YtngnclibeccplaaDoor
