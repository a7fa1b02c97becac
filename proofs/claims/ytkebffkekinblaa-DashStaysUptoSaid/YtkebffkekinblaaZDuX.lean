/- Lines in pieces, the program's own way, as mathematics: distances in a row, which point is the first one as far as, the points between, a pattern that goes round. No program is named here. -/
import Derived.Test.YtkebffkekinblaaZDsX
import Derived.Test.YtkebffkekinblaaZGaV
import Derived.Test.YtkebffkekinblaaZOaB
import Derived.Deep.RegionHeld3
namespace Go.Proofs.Ytkebffkekinblaa
open Num

/-- how many of the first m values are below n -/
def cntF (f : Nat → Int) (n : Int) : Nat → Nat
  | 0 => 0
  | m + 1 => cntF f n m + (if f m < n then 1 else 0)
theorem cntF_le (f : Nat → Int) (n : Int) : ∀ m, cntF f n m ≤ m
  | 0 => Nat.le_refl _
  | m + 1 => by
    have h := cntF_le f n m
    unfold cntF
    split <;> omega
theorem cntF_all {f : Nat → Int} {n : Int} : ∀ {m}, (∀ j, j < m → f j < n) → cntF f n m = m
  | 0, _ => rfl
  | m + 1, h => by
    unfold cntF
    rw [cntF_all (fun j hj => h j (by omega)), if_pos (h m (by omega))]
theorem cntF_iff {f : Nat → Int} (hf : ∀ i j, i ≤ j → f i ≤ f j) {n : Int} : ∀ m j, j < m → (j < cntF f n m ↔ f j < n)
  | 0, j, h => absurd h (by omega)
  | m + 1, j, h => by
    have hle := cntF_le f n m
    by_cases hm : f m < n
    · rw [show cntF f n (m + 1) = m + 1 from cntF_all (fun i hi => by have := hf i m (by omega); omega)]
      have := hf j m (by omega)
      exact ⟨fun _ => by omega, fun _ => h⟩
    · have e : cntF f n (m + 1) = cntF f n m := by
        show _ + (if _ then 1 else 0) = _
        rw [if_neg hm]; rfl
      rw [e]
      by_cases hj : j = m
      · subst hj
        exact ⟨fun k => by omega, fun k => absurd k hm⟩
      · exact cntF_iff hf m j (by omega)
/-- how far each point is from the line's beginning -/
def farL (p : List Pt) : List Int := (List.range p.length).map (chainTo p)
theorem farL_length (p : List Pt) : (farL p).length = p.length := by simp [farL]
theorem farL_get {p : List Pt} {j : Nat} (h : j < (farL p).length) : (farL p)[j] = chainTo p j := by simp [farL]
theorem farL_getD {p : List Pt} {j : Nat} (h : j < p.length) : (farL p).getD j 0 = chainTo p j := by
  simp [farL, List.getD, h]
theorem chain_le (p : List Pt) : ∀ i j, i ≤ j → chainTo p i ≤ chainTo p j := by
  intro i j h
  induction j with
  | zero => rw [show i = 0 by omega]; exact Int.le_refl _
  | succ j ih =>
    by_cases e : i = j + 1
    · rw [e]; exact Int.le_refl _
    · have := ih (by omega)
      simp only [chainTo]
      omega
/-- the first point that is at least as far -/
def firstF (p : List Pt) (n : Int) : Nat := cntF (chainTo p) n p.length
theorem count_far (f : Nat → Int) (n : Int) : ∀ m, ((List.range m).map f).countP (fun x => decide (x < n)) = cntF f n m
  | 0 => rfl
  | m + 1 => by
    rw [List.range_succ, List.map_append, List.countP_append, count_far f n m]
    show _ = cntF f n m + (if f m < n then 1 else 0)
    by_cases h : f m < n <;> simp [h]
theorem first_count (p : List Pt) (n : Int) : (farL p).countP (fun x => decide (x < n)) = firstF p n := count_far _ _ _
theorem far_sorted (p : List Pt) : (farL p).Pairwise (· ≤ ·) := by
  unfold farL
  rw [List.pairwise_map]
  exact List.pairwise_le_range.imp (fun h => chain_le p _ _ h)
theorem firstF_le (p : List Pt) (n : Int) : firstF p n ≤ p.length := cntF_le _ _ _
theorem firstF_iff {p : List Pt} {n : Int} {j : Nat} (h : j < p.length) : j < firstF p n ↔ chainTo p j < n := cntF_iff (chain_le p) _ _ h
theorem firstF_in {p : List Pt} {n : Int} (h : 0 < p.length) (hn : n ≤ chainTo p (p.length - 1)) : firstF p n ≤ p.length - 1 := by
  have h1 := firstF_iff (n := n) (show p.length - 1 < p.length by omega)
  refine Classical.byContradiction fun k => ?_
  have := h1.1 (by omega)
  omega
theorem firstF_mono (p : List Pt) {a b : Int} (h : a ≤ b) : firstF p a ≤ firstF p b := by
  have aux : ∀ m, cntF (chainTo p) a m ≤ cntF (chainTo p) b m := by
    intro m
    induction m with
    | zero => exact Nat.le_refl _
    | succ m ih =>
      simp only [cntF]
      split <;> split <;> omega
  exact aux _
/-- the points between -/
theorem mids_slice (p : List Pt) {a b : Int} : ∀ i, i ≤ p.length → midsTo p a b i = (p.take (min i (firstF p b))).drop (firstF p (a + 1))
  | 0, _ => by simp [midsTo]
  | i + 1, h => by
    have ih := mids_slice p (a := a) (b := b) i (by omega)
    have hA := firstF_iff (p := p) (n := a + 1) (j := i) (by omega)
    have hB := firstF_iff (p := p) (n := b) (j := i) (by omega)
    unfold midsTo
    by_cases c1 : i < firstF p b
    · by_cases c2 : i < firstF p (a + 1)
      · rw [if_neg (by have := hA.1 c2; omega), ih, List.drop_eq_nil_of_le (by rw [List.length_take]; omega), List.drop_eq_nil_of_le (by rw [List.length_take]; omega)]
      · rw [if_pos ⟨by
          refine Classical.byContradiction fun k => c2 (hA.2 (by omega)), hB.1 c1⟩, ih]
        rw [show min i (firstF p b) = i by omega, show min (i + 1) (firstF p b) = i + 1 by omega]
        rw [List.take_succ_eq_append_getElem (show i < p.length by omega), List.drop_append_of_le_length (by rw [List.length_take]; omega), getD_lt (show i < p.length by omega)]
    · rw [if_neg (fun k => c1 (hB.2 k.2)), ih, show min i (firstF p b) = min (i + 1) (firstF p b) by omega]
theorem mids_of {p : List Pt} {a b : Int} (h : 0 < p.length) (hb : b ≤ chainTo p (p.length - 1)) : midsTo p a b (p.length - 1) = (p.take (firstF p b)).drop (firstF p (a + 1)) := by
  rw [mids_slice p (p.length - 1) (by omega), show min (p.length - 1) (firstF p b) = firstF p b by have := firstF_in h hb; omega]
/-- a way of no length goes nowhere -/
theorem len_same {a b : Pt} (ha : FitP a) (hb : FitP b) (h : lenG a b = 0) : a = b := by
  rw [lenG_yes ha hb] at h
  have h1 := rootG_is (sqG a b).toNat
  rw [h] at h1
  have h2 := h1.2
  have h3 := sqG_in ha hb
  have hx := sq_in (x := b.x - a.x) (M := 16777214) (diff_in ha hb).1
  have hy := sq_in (x := b.y - a.y) (M := 16777214) (diff_in ha hb).2
  have h0 : sqG a b = 0 := by omega
  unfold sqG at h0
  have ex : b.x - a.x = 0 := by
    rcases Int.mul_eq_zero.1 (show (b.x - a.x) * (b.x - a.x) = 0 by omega) with k | k <;> exact k
  have ey : b.y - a.y = 0 := by
    rcases Int.mul_eq_zero.1 (show (b.y - a.y) * (b.y - a.y) = 0 by omega) with k | k <;> exact k
  obtain ⟨x, y⟩ := a
  obtain ⟨u, v⟩ := b
  simp only at ex ey
  rw [show x = u by omega, show y = v by omega]
theorem fit_get {p : List Pt} (hf : FitL p) {i : Nat} (h : i < p.length) : FitP (p.getD i pt0) := by
  rw [getD_lt h]
  exact hf _ (List.getElem_mem h)
/-- at the beginning -/
theorem walk_zero {p : List Pt} (hf : FitL p) : ∀ k i, i + k = p.length → 0 < k → (p.getD i pt0 = p.getD 0 pt0) → walkM (p.getD 0 pt0) (p.drop i) 0 = p.getD 0 pt0
  | 0, _, _, h, _ => absurd h (by omega)
  | 1, i, hi, _, _ => walk_end (by omega)
  | k + 2, i, hi, _, he => by
    have h1 : i + 1 < p.length := by omega
    by_cases hl : 0 < lenG (p.getD i pt0) (p.getD (i + 1) pt0)
    · rw [walk_hit h1 ⟨by omega, by omega⟩, aheadG_stay, he]
    · have h0 : lenG (p.getD i pt0) (p.getD (i + 1) pt0) = 0 := by omega
      rw [walk_on h1 (fun k => by omega), h0]
      show walkM _ _ (0 - 0) = _
      rw [Int.sub_zero]
      exact walk_zero hf (k + 1) (i + 1) (by omega) (by omega) (by rw [← len_same (fit_get hf (by omega)) (fit_get hf h1) h0, he])
/-- further on -/
theorem walk_first {p : List Pt} {z : Pt} {n : Int} (hn : n ≤ chainTo p (p.length - 1)) : ∀ k i, i + k = firstF p n → 0 < k → walkM z (p.drop i) (n - chainTo p i) = aheadG (p.getD (firstF p n - 1) pt0) (p.getD (firstF p n) pt0) (n - chainTo p (firstF p n - 1))
  | 0, _, _, h => absurd h (by omega)
  | k + 1, i, hi, _ => by
    have hp : 0 < p.length := by have := firstF_le p n; omega
    have hF := firstF_in hp hn
    have h1 : i + 1 < p.length := by omega
    have e1 := firstF_iff (p := p) (n := n) (j := i) (by omega)
    have e2 := firstF_iff (p := p) (n := n) (j := i + 1) h1
    have c1 := e1.1 (by omega)
    have hst : chainTo p (i + 1) = chainTo p i + (lenG (p.getD i pt0) (p.getD (i + 1) pt0) : Int) := rfl
    cases k with
    | zero =>
      have c2 : ¬ chainTo p (i + 1) < n := fun q => by have := e2.2 q; omega
      rw [walk_hit h1 ⟨by omega, by omega⟩, show firstF p n = i + 1 by omega]
      rfl
    | succ k =>
      have c2 := e2.1 (by omega)
      rw [walk_on h1 (fun q => by omega), show n - chainTo p i - (lenG (p.getD i pt0) (p.getD (i + 1) pt0) : Int) = n - chainTo p (i + 1) by omega]
      exact walk_first hn (k + 1) (i + 1) (by omega) (by omega)
/-- the point at a distance, as the program finds it -/
def tapeAt (p : List Pt) (n : Int) : Pt := if firstF p n = 0 then p.getD 0 pt0 else aheadG (p.getD (firstF p n - 1) pt0) (p.getD (firstF p n) pt0) (n - chainTo p (firstF p n - 1))
theorem tape_at {p : List Pt} (hf : FitL p) (hp : 0 < p.length) {n : Int} (h0 : 0 ≤ n) (hn : n ≤ chainTo p (p.length - 1)) : walkM (p.getD 0 pt0) p n = tapeAt p n := by
  unfold tapeAt
  by_cases h : firstF p n = 0
  · rw [if_pos h]
    have e := firstF_iff (p := p) (n := n) hp
    have hz : n = 0 := by
      have : ¬ chainTo p 0 < n := fun k => by have := e.2 k; omega
      simp only [chainTo] at this
      omega
    subst hz
    exact walk_zero hf p.length 0 (by omega) hp rfl
  · rw [if_neg h]
    have := walk_first (z := p.getD 0 pt0) hn (firstF p n) 0 (by omega) (by omega)
    simp only [chainTo, Int.sub_zero, List.drop_zero] at this
    exact this
theorem atM_tape {l : List Pt} {c : Bool} {n : Int} (h : AtOk l c n) : atM l c n = tapeAt (ringP l c) n := by
  obtain ⟨h1, h2, h3, h4⟩ := h
  have hr := (ringP_le l c).1
  rw [longM_ring h2 c] at h4
  exact tape_at (fitL_ring.2 h2) (by omega) h3 h4
/-- a piece, as the program cuts it -/
theorem rawP_tape {l : List Pt} {c : Bool} {a b : Int} (h1 : 0 < l.length) (h2 : FitL l) (ha : 0 ≤ a) (hab : a ≤ b) (hb : b ≤ longM l c) : rawP l c a b = [tapeAt (ringP l c) a] ++ ((ringP l c).take (firstF (ringP l c) b)).drop (firstF (ringP l c) (a + 1)) ++ [tapeAt (ringP l c) b] := by
  have ok1 : AtOk l c a := ⟨h1, h2, ha, by omega⟩
  have ok2 : AtOk l c b := ⟨h1, h2, by omega, hb⟩
  have hr := (ringP_le l c).1
  unfold rawP
  rw [if_pos ok1, if_pos ok2, atM_tape ok1, atM_tape ok2, mids_of (by omega) (by rw [← longM_ring h2 c]; exact hb)]
/-- a piece of no length is one point -/
theorem piece_none {l : List Pt} {c : Bool} : (pieceP l c 0 0).length ≤ 1 := by
  have hm : ∀ i, midsTo (ringP l c) 0 0 i = [] := by
    intro i
    induction i with
    | zero => rfl
    | succ i ih => 
      unfold midsTo
      rw [if_neg (by omega), ih]
  unfold pieceP rawP
  rw [hm]
  generalize (if AtOk l c 0 then atM l c 0 else pt0) = q
  show (onceTo [q, q] 2).length ≤ 1
  simp [onceTo]
/-- a pattern that goes round -/
def patAt (P : List Int) (k : Nat) : Int := P.getD (k % P.length) 0
theorem patAt_in {P : List Int} {h : Int} (hm : MayD P h) (hp : 0 < P.length) (k : Nat) : 1 ≤ patAt P k ∧ patAt P k ≤ 8388607 := hm.2.2 _ (getD_memI (Nat.mod_lt _ hp))
theorem pattP_at {P : List Int} (hp : 0 < P.length) (k : Nat) : (pattP P).getD (k % (pattP P).length) 0 = patAt P k := by
  unfold pattP patAt
  split
  · rw [List.length_append]
    have h1 : k % (P.length + P.length) < P.length + P.length := Nat.mod_lt _ (by omega)
    have h2 : k % (P.length + P.length) % P.length = k % P.length := Nat.mod_mod_of_dvd _ ⟨2, by omega⟩
    simp only [List.getD]
    rw [← h2]
    generalize k % (P.length + P.length) = r at h1
    by_cases c : r < P.length
    · rw [List.getElem?_append_left c, Nat.mod_eq_of_lt c]
    · have h3 : r % P.length = r - P.length := by rw [Nat.mod_eq_sub_mod (by omega), Nat.mod_eq_of_lt (by omega)]
      rw [List.getElem?_append_right (by omega), h3]
  · rfl
/-- how far one has come after k lengths -/
def goneP (P : List Int) : Nat → Int
  | 0 => 0
  | k + 1 => goneP P k + patAt P k
theorem goneP_le {P : List Int} {h : Int} (hm : MayD P h) (hp : 0 < P.length) : ∀ i j, i < j → goneP P i < goneP P j := by
  intro i j h
  induction j with
  | zero => omega
  | succ j ih =>
    have := (patAt_in hm hp j).1
    simp only [goneP]
    by_cases e : i = j
    · rw [e]; omega
    · have := ih (by omega)
      omega
theorem goneP_in {P : List Int} {h : Int} (hm : MayD P h) (hp : 0 < P.length) : ∀ i : Nat, (i : Int) ≤ goneP P i ∧ goneP P i ≤ 8388607 * (i : Int)
  | 0 => by simp [goneP]
  | i + 1 => by
    have h1 := goneP_in hm hp i
    have h2 := patAt_in hm hp i
    simp only [goneP]
    omega
theorem goneP_total {P : List Int} (hp : 0 < P.length) : goneP P (pattP P).length = totalP P := by
  have h : ∀ i, i ≤ (pattP P).length → goneP P i = sumTo (pattP P) i := by
    intro i
    induction i with
    | zero => intro _; rfl
    | succ i ih =>
      intro hi
      simp only [goneP, sumTo]
      rw [ih (by omega), ← pattP_at hp i, Nat.mod_eq_of_lt (by omega)]
  exact h _ (Nat.le_refl _)
/-- where the lengths that end ahead of the line are over -/
theorem gone_few {P : List Int} {h : Int} (hm : MayD P h) (hp : 0 < P.length) {s : Int} (hs : s < totalP P) {k : Nat} (hk : goneP P k - s ≤ 0) : k < 16 := by
  have h1 := pattP_le P
  have h2 := hm.1
  refine Classical.byContradiction fun c => ?_
  have h3 := goneP_total hp
  rcases Nat.lt_or_ge (pattP P).length k with c2 | c2
  · have := goneP_le hm hp _ _ c2
    omega
  · rw [show k = (pattP P).length by omega] at hk
    omega
theorem sumTo_append (a b : List Int) : ∀ i, i ≤ a.length → sumTo (a ++ b) i = sumTo a i
  | 0, _ => rfl
  | i + 1, h => by
    simp only [sumTo]
    rw [sumTo_append a b i (by omega)]
    congr 1
    simp only [List.getD]
    rw [List.getElem?_append_left (by omega)]
theorem sumTo_append2 (a b : List Int) : ∀ i, sumTo (a ++ b) (a.length + i) = sumTo a a.length + sumTo b i
  | 0 => by
    rw [Nat.add_zero, sumTo_append a b _ (Nat.le_refl _)]
    simp [sumTo]
  | i + 1 => by
    rw [← Nat.add_assoc]
    simp only [sumTo]
    rw [sumTo_append2 a b i]
    simp only [List.getD]
    rw [List.getElem?_append_right (by omega), Nat.add_sub_cancel_left]
    omega
theorem total_odd {P : List Int} (h : P.length % 2 = 1) : totalP P = sumTo P P.length * 2 := by
  unfold totalP pattP
  rw [if_pos h, List.length_append, sumTo_append2]
  omega
theorem total_even {P : List Int} (h : ¬ P.length % 2 = 1) : totalP P = sumTo P P.length := by
  unfold totalP pattP
  rw [if_neg h]
end Go.Proofs.Ytkebffkekinblaa
/- Lines in pieces, the program's own: within, May, Total, fit. -/

namespace Go.Proofs.Ytkebffkekinblaa
open Go.RowKit Num

/-- whether no number is below least, or longer than a coordinate may be -/
def WithD (least : Int) (P : List Int) : Prop := ∀ x ∈ P, least ≤ x ∧ x ≤ 8388607
instance (least : Int) (P : List Int) : Decidable (WithD least P) := by unfold WithD; exact inferInstance
theorem withD_step {least : Int} {P : List Int} {i : Nat} (hi : i < P.length) (h : WithD least (P.take i)) (hx : least ≤ P[i] ∧ P[i] ≤ 8388607) : WithD least (P.take (i + 1)) := by
  intro x hm
  rw [List.take_succ_eq_append_getElem hi, List.mem_append] at hm
  rcases hm with hm | hm
  · exact h x hm
  · simp at hm; subst hm; exact hx
theorem withD_not {least : Int} {P : List Int} {i : Nat} (hi : i < P.length) (hx : ¬ (least ≤ P[i] ∧ P[i] ≤ 8388607)) : ¬ WithD least P := fun k => hx (k _ (List.getElem_mem hi))

set_option maxRecDepth 10000 in
set_option maxHeartbeats 1600000 in
theorem dash_within (least : Int) (P : List Int) (A : Option Addr) (c : Nat) (w : World) (hP : RdV w w.heap.size A (icells P)) (hl : P.length ≤ 4611686018427387904) :
    Calls Try.prog 32 #[.int .i64 least, .slice A P.length c] w fun e w' => e = .returned (.bool (decide (WithD least P))) ∧ w = w' := by
  obtain ⟨n, hn⟩ : ∃ n, P.length = n := ⟨_, rfl⟩
  have HN := Lib.hid hn
  obtain ⟨r, hr⟩ : ∃ r : Bool, decide (WithD least P) = r := ⟨_, rfl⟩
  have HR := Lib.hid hr
  rw [hn] at hl ⊢
  rw [hr]
  clear hn hr
  go_enter Try.func32, Try.ntmps32
  go_wp2_with fail
  go_loopg [9] n (fun gh it wr => ∃ i : Nat, it = .int .i64 (i : Int) ∧ gh + i = n ∧ WithD least (P.take i) ∧ wr = w)
  case atStart => exact ⟨0, rfl, by omega, (fun x hx => by simp at hx), rfl⟩
  case round =>
    obtain ⟨i, rfl, hg, hok, rfl⟩ := hrel
    have hwi : IntKind.i64.wrap ((i : Int) + 1) = (i : Int) + 1 := IntWalk.i64_in _ (by omega)
    have HG := Lib.hid hg
    clear hg
    by_cases hlt : i < n
    · have hlt' : i < P.length := by rw [HN.out]; exact hlt
      obtain ⟨g, o, rfl, hgl, e0⟩ := hP.num (i := i) hlt'
      have hil : (i : Int) < (n : Int) := by omega
      have HST := Lib.hid (withD_step hlt' hok)
      have HNO := Lib.hid (withD_not (least := least) hlt')
      obtain ⟨x, hx⟩ : ∃ x, P[i] = x := ⟨_, rfl⟩
      rw [hx] at e0 HST HNO
      clear hok hlt' hx
      by_cases h1 : x < least
      · have HF := Lib.hid (decide_eq_false (HNO.out (fun k => by omega)))
        clear HST HNO
        go_wp2_with fail
        go_ret
        rw [← HR.out, HF.out]
        exact ⟨rfl, rfl⟩
      · by_cases h2 : 8388607 < x
        · have HF := Lib.hid (decide_eq_false (HNO.out (fun k => by omega)))
          clear HST HNO
          go_wp2_with fail
          go_ret
          rw [← HR.out, HF.out]
          exact ⟨rfl, rfl⟩
        · have HX := Lib.hid (HST.out ⟨by omega, by omega⟩)
          clear HST HNO
          go_wp2_with fail
          go_roundg (n - (i + 1))
          case measure => have := HG.out; omega
          case rel => exact ⟨i + 1, by simp, by have := HG.out; omega, HX.out, rfl⟩
    · obtain rfl : i = n := by have := HG.out; omega
      have HT := Lib.hid (decide_eq_true (show WithD least P from by rw [← HN.out, List.take_length] at hok; exact hok))
      clear hok
      go_wp2_with fail
      go_ret
      rw [← HR.out, HT.out]
      exact ⟨rfl, rfl⟩

theorem mayD_with {P : List Int} {h : Int} : MayD P h ↔ P.length ≤ 8 ∧ WithD 1 P ∧ WithD 0 [h] := by
  unfold MayD WithD
  simp only [List.mem_singleton, forall_eq]
  constructor
  · rintro ⟨h1, h2, h3⟩; exact ⟨h1, h3, h2⟩
  · rintro ⟨h1, h2, h3⟩; exact ⟨h1, h3, h2⟩
theorem one_box (w : World) (t : TypeId) (v : Value) : ∃ W, w.alloc (.cells #[v] t) = W ∧ Box W w.heap.size t [v] ∧ Below w.heap.size w W := ⟨_, rfl, Box.new w t [v], below_new w _⟩

set_option maxRecDepth 10000 in
set_option maxHeartbeats 1600000 in
theorem dash_May (P : List Int) (A : Option Addr) (c : Nat) (h : Int) (w : World) (hP : RdV w w.heap.size A (icells P)) (hl : P.length ≤ 1048576) (_hc : P.length ≤ c) :
    Calls Try.prog 13 #[.slice A P.length c, .int .i64 h] w fun e w' => e = .returned (.bool (decide (MayD P h))) ∧ Below w.heap.size w w' := by
  have c1 := dash_within 1 P A c w hP (by omega)
  obtain ⟨W, hW, kW, bW⟩ := one_box w 3 (.int .i64 h)
  have c2 := dash_within 0 [h] (some ⟨w.heap.size, 0, none⟩) 1 W kW.rd (by simp)
  rw [show decide (MayD P h) = (decide (P.length ≤ 8) && (decide (WithD 1 P) && decide (WithD 0 [h]))) from by rw [← Bool.decide_and, ← Bool.decide_and]; exact decide_eq_decide.2 mayD_with]
  generalize decide (WithD 1 P) = d1 at c1 ⊢
  generalize decide (WithD 0 [h]) = d2 at c2 ⊢
  simp only [List.length_singleton] at c2
  obtain ⟨n, hn⟩ : ∃ n, P.length = n := ⟨_, rfl⟩
  rw [hn] at c1 ⊢
  have C1 := Lib.hid c1
  have C2 := Lib.hid c2
  have HB := Lib.hid bW
  clear c1 c2 hP hn kW bW _hc
  by_cases h8 : n ≤ 8
  · have h8' : (n : Int) ≤ 8 := by omega
    rw [decide_eq_true h8]
    cases d1
    all_goals
      go_enter Try.func13, Try.ntmps13
      go_wp2_with first
        | (rw [hW])
        | (go_at_call 32; (with_reducible refine Calls.mono C1.out ?_); rintro e w1 ⟨rfl, rfl⟩)
        | (go_at_call 32; (with_reducible refine Calls.mono C2.out ?_); rintro e w1 ⟨rfl, rfl⟩)
      go_ret
      first
        | exact ⟨rfl, Below.refl _ _⟩
        | exact ⟨rfl, HB.out⟩
  · have h8' : ¬ (n : Int) ≤ 8 := by omega
    rw [decide_eq_false h8]
    go_enter Try.func13, Try.ntmps13
    go_wp2_with fail
    go_ret
    exact ⟨rfl, Below.refl _ _⟩

theorem sum_next (P : List Int) (i : Nat) : sumTo P (i + 1) = sumTo P i + P.getD i 0 := rfl
set_option maxRecDepth 10000 in
set_option maxHeartbeats 1600000 in
theorem dash_Total (P : List Int) (A : Option Addr) (c : Nat) (h : Int) (hm : MayD P h) (w : World) (hP : RdV w w.heap.size A (icells P)) (hc : P.length ≤ c) :
    Calls Try.prog 14 #[.slice A P.length c] w fun e w' => e = .returned (.int .i64 (totalP P)) ∧ Below w.heap.size w w' := by
  have hm0 : MayD P 0 := ⟨hm.1, ⟨by omega, by omega⟩, hm.2.2⟩
  have c1 := dash_May P A c 0 w hP (by have := hm.1; omega) hc
  rw [decide_eq_true hm0] at c1
  have h8 := hm.1
  have HS := Lib.hid (fun i (hi : i ≤ P.length) => sumTo_in (l := P) (fun x hx => hm.2.2 x hx) i hi)
  have HO := Lib.hid (total_odd (P := P))
  have HE := Lib.hid (total_even (P := P))
  have HT := Lib.hid hP
  generalize totalP P = r at HO HE ⊢
  obtain ⟨n, hn⟩ : ∃ n, P.length = n := ⟨_, rfl⟩
  have HN := Lib.hid hn
  rw [hn] at c1 h8 HO HE ⊢
  have C1 := Lib.hid c1
  clear c1 hn hP hm hm0 hc
  go_enter Try.func14, Try.ntmps14
  go_wp2_with (go_at_call 13; refine Calls.mono C1.out ?_; rintro e w1 ⟨rfl, b1⟩)
  have HQ := Lib.hid (And.intro (HT.out.on b1) b1)
  clear b1
  go_loopg [3, 11] n (fun gh sv it wr => ∃ i : Nat, it = .int .i64 (i : Int) ∧ sv = .int .i64 (sumTo P i) ∧ gh + i = n ∧ wr = w1)
  case atStart => exact ⟨0, rfl, rfl, by omega, rfl⟩
  case round =>
    obtain ⟨i, rfl, rfl, hg, rfl⟩ := hrel
    have hwi : IntKind.i64.wrap ((i : Int) + 1) = (i : Int) + 1 := IntWalk.i64_in _ (by omega)
    by_cases hlt : i < n
    · have hlt' : i < P.length := by rw [HN.out]; exact hlt
      obtain ⟨g, o, rfl, hgl, e0⟩ := HQ.out.1.num (i := i) hlt'
      have hil : (i : Int) < (n : Int) := by omega
      have hst : sumTo P (i + 1) = sumTo P i + P[i] := by
        rw [sum_next, show P.getD i 0 = P[i] from by simp [List.getD, List.getElem?_eq_getElem hlt']]
      have hb := HS.out (i + 1) (by rw [HN.out]; omega)
      rw [hst] at hb
      have HST := Lib.hid hst
      have hw : IntKind.i64.wrap (sumTo P i + P[i]) = sumTo P i + P[i] := IntWalk.i64_in _ (by omega)
      generalize P[i] = x at e0 HST hw
      generalize sumTo P i = S at HST hw ⊢
      have HG := Lib.hid hg
      clear hst hb hlt' hg
      go_wp2_with fail
      go_roundg (n - (i + 1))
      case measure => have := HG.out; omega
      case rel => exact ⟨i + 1, by simp, by rw [HST.out], by have := HG.out; omega, rfl⟩
    · obtain rfl : i = n := by omega
      have hb := HS.out i (by rw [HN.out]; omega)
      have hrem : (i : Int).tmod 2 = ((i % 2 : Nat) : Int) := by rw [Int.tmod_eq_emod_of_nonneg (by omega)]; omega
      generalize sumTo P i = S at hb HO HE ⊢
      have hw2 : IntKind.i64.wrap (S * 2) = S * 2 := IntWalk.i64_in _ (by omega)
      clear hg
      rcases (show i % 2 = 1 ∨ i % 2 = 0 from by omega) with h2 | h2
      · rw [h2] at hrem
        have HV := Lib.hid (HO.out h2)
        clear HO HE h2
        go_wp2_with fail
        go_ret
        exact ⟨by rw [HV.out]; rfl, HQ.out.2⟩
      · rw [h2] at hrem
        have HV := Lib.hid (HE.out (by omega))
        clear HO HE h2
        go_wp2_with fail
        go_ret
        exact ⟨by rw [HV.out]; rfl, HQ.out.2⟩

set_option maxRecDepth 10000 in
set_option maxHeartbeats 1600000 in
theorem dash_fit (L : List Pt) (A : Option Addr) (c : Nat) (w : World) (hL : RdV w w.heap.size A (ptRow L)) (hl : L.length ≤ 1073741824) :
    Calls Try.prog 18 #[.slice A L.length c] w fun e w' => e = .returned (.bool (decide (FitL L))) ∧ Below w.heap.size w w' := by
  obtain ⟨n, hn⟩ : ∃ n, L.length = n := ⟨_, rfl⟩
  have HN := Lib.hid hn
  have HL := Lib.hid hL
  rw [hn] at hl ⊢
  obtain ⟨r, hr⟩ : ∃ r : Bool, decide (FitL L) = r := ⟨_, rfl⟩
  have HR := Lib.hid hr
  rw [hr]
  clear hn hL hr
  go_enter Try.func18, Try.ntmps18
  go_wp2_with fail
  go_loopg [7] n (fun gh it wr => ∃ i : Nat, it = .int .i64 (i : Int) ∧ gh + i = n ∧ (∀ p ∈ L.take i, FitP p) ∧ Below w.heap.size w wr)
  case atStart => exact ⟨0, rfl, by omega, by simp, Below.refl _ _⟩
  case round =>
    obtain ⟨i, rfl, hg, hok, hB⟩ := hrel
    by_cases hlt : i < n
    · have hlt' : i < L.length := by rw [HN.out]; exact hlt
      obtain ⟨g, o, rfl, hgl, e0, e1⟩ := (HL.out.below hB).pt (i := i) hlt'
      have hil : (i : Int) < (n : Int) := by omega
      obtain ⟨p, hpp⟩ : ∃ p, L[i] = p := ⟨_, rfl⟩
      have HST := Lib.hid (fitL_step hlt' hok)
      have HNO := Lib.hid (fitL_not hlt')
      rw [hpp] at e0 e1 HST HNO
      obtain ⟨d, hd⟩ : ∃ d : Bool, decide (FitP p) = d := ⟨_, rfl⟩
      have cF := fun V => aff_Fits p V
      rw [hd] at cF
      obtain ⟨x, y⟩ := p
      unfold ptV at cF
      dsimp only at e0 e1 cF
      obtain ⟨V0, hV0, k0, c0⟩ := endP wr 36 (.int .i64 x) (.int .i64 y)
      obtain ⟨⟨t0, t1⟩, -⟩ := Box.pair k0
      have CF := Lib.hid cF
      have HB := Lib.hid (hB.trans (c0.mono hB.size))
      have HD := Lib.hid hd
      clear hok hB cF hpp hlt' hd k0 c0
      cases d with
      | true =>
        have HS := Lib.hid (HST.out (of_decide_eq_true HD.out))
        clear HST HNO
        go_wp2_with first
          | (rw [hV0])
          | ((try rw [hV0]); go_at_call 33; with_reducible refine Calls.mono (CF.out _) ?_; rintro e w1 ⟨rfl, b1⟩)
        have hBB := HB.out.trans (b1.mono HB.out.size)
        go_roundg (n - (i + 1))
        case measure => omega
        case rel => exact ⟨i + 1, by simp, by omega, HS.out, hBB⟩
      | false =>
        have HS := Lib.hid (decide_eq_false (HNO.out (of_decide_eq_false HD.out)))
        clear HST HNO
        go_wp2_with first
          | (rw [hV0])
          | ((try rw [hV0]); go_at_call 33; with_reducible refine Calls.mono (CF.out _) ?_; rintro e w1 ⟨rfl, b1⟩)
        have hBB := HB.out.trans (b1.mono HB.out.size)
        go_ret
        rw [← HR.out, HS.out]
        exact ⟨rfl, hBB⟩
    · obtain rfl : i = n := by omega
      have HF := Lib.hid (decide_eq_true (fitL_all (l := L) (by rw [HN.out]; exact hok)))
      have HB := Lib.hid hB
      clear hok hB
      go_wp2_with fail
      go_ret
      rw [← HR.out, HF.out]
      exact ⟨rfl, HB.out⟩

end Go.Proofs.Ytkebffkekinblaa
/- Lines in pieces, the program's own: a row cloned as one's own, lay. -/

namespace Go.Proofs.Ytkebffkekinblaa
open Go.RowKit Num

set_option maxRecDepth 10000 in
set_option maxHeartbeats 1600000 in
theorem slices_CloneO (L : List Pt) (A : Option Addr) (c : Nat) (w : World) (hL : RdV w w.heap.size A (ptRow L)) (hl : L.length ≤ 1073741824) :
    Calls Try.prog 19 #[.slice A L.length c] w fun e w' => ∃ v, e = .returned v ∧ w'.ownsRow w.heap.size 36 2 v L.length (ptRow L) ∧ Below w.heap.size w w' := by
  cases A with
  | none =>
    have h0 : L = [] := by
      cases L with
      | nil => rfl
      | cons x r =>
        obtain ⟨b, o, e, -⟩ := hL (by simp [ptRow, ptCells])
        cases e
    subst h0
    simp only [List.length_nil]
    clear hL hl
    have hnil : ∀ W, (binOp .eql 22 (.slice none 0 c) (.slice none 0 0)).run Try.prog W = .ok (.bool true) W := fun W => Lib.run_eql_slice_nil W _ _ _ _ _ _ _ Try.underlying22
    go_enter Try.func19, Try.ntmps19
    go_wp2_with fail
    go_ret
    exact ⟨_, rfl, World.ownsRow_nil _ _ _ _, Below.refl _ _⟩
  | some a =>
    obtain ⟨i0, hi, hz0, hz1, hz2⟩ := info_parts info_pt
    obtain ⟨n, hn⟩ : ∃ n, L.length = n := ⟨_, rfl⟩
    have HL := Lib.hid (ptRow_length L)
    have HN := Lib.hid hn
    have hnil : ∀ W, (binOp .eql 22 (.slice (some a) n c) (.slice none 0 0)).run Try.prog W = .ok (.bool false) W := fun W => Lib.run_eql_slice_nil W _ _ _ _ _ _ _ Try.underlying22
    have hown : (w.alloc (.cells #[] 36)).ownsRow w.heap.size 36 2 (.slice (some ⟨w.heap.size, 0, none⟩) 0 0) 0 [] := ⟨rfl, .inr ⟨w.heap.size, 0, #[], rfl, Nat.le_refl _, heap_alloc_new w _, Nat.le_refl _, by simp [maxLen], rfl, rfl⟩⟩
    have hB := (Below.refl w.heap.size w).alloc (Nat.le_refl _) (.cells #[] 36)
    have HO := Lib.hid (And.intro hown hB)
    have HR := Lib.hid (show ∀ j u, (ptRow L)[j]? = some u → (w.alloc (.cells #[] 36)).cell? (a.add j) = some u from by
      intro j u hu
      obtain ⟨h1, rfl⟩ := List.getElem?_eq_some_iff.1 hu
      obtain ⟨b, o, e, hb2, hc⟩ := hL (by omega)
      cases e
      rw [addr_add]
      exact (hB.cell (p := ⟨b, o + j, none⟩) hb2).trans (hc j h1))
    have H1 := Lib.hid (show ∀ u ∈ ptRow L, u.oneCell' = true from by
      intro u hu
      obtain ⟨p, -, hp⟩ := List.mem_flatMap.1 hu
      simp only [ptCells, List.mem_cons, List.not_mem_nil, or_false] at hp
      rcases hp with rfl | rfl <;> rfl)
    rw [hn] at hl ⊢
    clear hown hB hL hn
    go_enter Try.func19, Try.ntmps19
    go_wp2_with (at_builtin; refine wpList_append_own _ rfl _ _ 22 rfl w.heap.size 36 i0 (.agg #[.int .i64 0, .int .i64 0]) 2 16 Try.underlying22 hi hz0 hz1 hz2 rfl (by decide) _ 0 _ rfl HO.out.1 a n c (ptRow L) rfl (by rw [HL.out, HN.out]) HR.out H1.out (by simp [maxLen]; omega) (by omega) (by simp) ?_; intro v' w3 hown' hgrow _; replace hown' := Lib.hid hown'; replace hgrow := Lib.hid hgrow)
    have hBs := below_grow2 HO.out.2 HO.out.1 (by simp) hgrow.out
    have ho := hown'.out
    rw [Nat.zero_add, List.nil_append] at ho
    have HF := Lib.hid (And.intro ho hBs)
    clear ho hBs hown' hgrow
    go_ret
    exact ⟨_, rfl, HF.out.1, HF.out.2⟩

/-- the distances, as far as they are reckoned -/
def farUp (p : List Pt) (i : Nat) : List Int := (List.range p.length).map (fun j => if j < i then chainTo p j else 0)
theorem farUp_length (p : List Pt) (i : Nat) : (farUp p i).length = p.length := by simp [farUp]
theorem farUp_get {p : List Pt} {i j : Nat} (h : j < (farUp p i).length) : (farUp p i)[j] = if j < i then chainTo p j else 0 := by simp [farUp]
theorem farUp_one (p : List Pt) : farUp p 1 = List.replicate p.length 0 := by
  apply List.ext_getElem
  · simp [farUp_length]
  · intro j h1 h2
    rw [farUp_get, List.getElem_replicate]
    split
    · rw [show j = 0 by omega]; rfl
    · rfl
theorem farUp_all {p : List Pt} {i : Nat} (h : p.length ≤ i) : farUp p i = farL p := by
  apply List.ext_getElem
  · simp [farUp_length, farL_length]
  · intro j h1 h2
    rw [farUp_get, farL_get, if_pos (by rw [farUp_length] at h1; omega)]
theorem farUp_step {p : List Pt} {i : Nat} : (farUp p i).set i (chainTo p i) = farUp p (i + 1) := by
  apply List.ext_getElem
  · simp [farUp_length]
  · intro j h1 h2
    rw [List.getElem_set, farUp_get, farUp_get]
    by_cases e : i = j
    · subst e; rw [if_pos rfl, if_pos (by omega)]
    · rw [if_neg e]
      by_cases c : j < i
      · rw [if_pos c, if_pos (by omega)]
      · rw [if_neg c, if_neg (by omega)]
theorem icells_set (l : List Int) (i : Nat) (v : Int) : (icells l).set i (.int .i64 v) = icells (l.set i v) := by simp [icells, List.map_set]
theorem icells_get {l : List Int} {i : Nat} (h : i < l.length) : (icells l)[i]? = some (.int .i64 l[i]) := by simp [icells, h]
theorem icells_rep (n : Nat) : icells (List.replicate n 0) = List.replicate n (.int .i64 0) := by simp [icells]
theorem run_make_ints (n : Nat) (hn : n ≤ 17592186044416) (u : World) :
    (Instr.makeSlice 25 (.int .i64 (n : Int)) (.int .i64 (n : Int))).run Try.prog u = .ok (.slice (some ⟨u.heap.size, 0, none⟩) n n) (u.alloc (.cells (icells (List.replicate n 0)).toArray 3)) := by
  obtain ⟨i, hi, hz0, hz1, hz2⟩ := info_parts (show (Try.prog.info? 3).map (fun i => (i.zero, i.size, i.bytes)) = some (some (.int .i64 0), 1, 8) by kernel_rfl)
  have hb : (i.bytes : Int) * (n : Int) ≤ 281474976710656 := by rw [hz2]; omega
  have h := run_make (P := Try.prog) u 25 3 i _ Try.underlying25 hi hz0 .i64 .i64 n n (by omega) (Int.le_refl _) hb (by omega)
  rw [Int.toNat_natCast] at h
  rw [h, hz1, icells_rep]
  have e2 : madeCells (Value.int .i64 0).cells (n * 1) = (List.replicate n (.int .i64 0)).toArray := by
    rw [Nat.mul_one]
    show madeCells #[(.int .i64 0 : Value)] n = _
    rw [← toList_madeCells_one]
  rw [e2]
/-- what lay answers -/
def Laid (L : List Pt) (cl : Bool) (w : World) (e : Ending) (w' : World) : Prop :=
  (∃ q k r j, e = .returned (.agg #[.slice q (ringP L cl).length k, .slice r (ringP L cl).length j]) ∧ (ringP L cl).length ≤ k ∧ (ringP L cl).length ≤ j ∧ RdV w' w'.heap.size q (ptRow (ringP L cl)) ∧ RdV w' w'.heap.size r (icells (farL (ringP L cl))) ∧ ∀ b o, (q = some ⟨b, o, none⟩ ∨ r = some ⟨b, o, none⟩) → w.heap.size ≤ b) ∧ Below w.heap.size w w'
end Go.Proofs.Ytkebffkekinblaa
/- Lines in pieces, the program's own: lay. -/

namespace Go.Proofs.Ytkebffkekinblaa
open Go.RowKit Num

/-- a line's box and a tape's -/
theorem tape_boxes (w : World) (p b : Value) : ∃ W, (w.alloc (.cells #[p, b] 24)).alloc (.cells #[.slice none 0 0, .slice none 0 0] 48) = W ∧ Box W w.heap.size 24 [p, b] ∧ Box W (w.heap.size + 1) 48 [.slice none 0 0, .slice none 0 0] ∧ Below w.heap.size w W ∧ W.heap.size = w.heap.size + 2 :=
  ⟨_, rfl, (Box.new w _ [p, b]).alloc _, Box.at_new (w.alloc (.cells #[p, b] 24)) _ [.slice none 0 0, .slice none 0 0] (by simp), ((Below.refl _ w).alloc (Nat.le_refl _) _).alloc (by simp) _, by simp⟩
/-- the row of distances as make makes it -/
theorem far_made (V : World) (p : List Pt) : ∃ U, V.alloc (.cells (icells (List.replicate p.length 0)).toArray 3) = U ∧ Box U V.heap.size 3 (icells (farUp p 1)) ∧ Below V.heap.size V U :=
  ⟨_, rfl, by rw [farUp_one]; exact Box.new V _ _, below_new V _⟩
section
variable {gf j g o : Nat} {F x0 y0 x1 y1 : Int} {W0 wr V V' : World}
/-- what the round reads, in each world that it goes through -/
theorem lay_call (hg : g < gf) (hf : gf < wr.heap.size) (h : (V.cell? ⟨gf, j, none⟩ = some (.int .i64 F) ∧ (V.cell? ⟨g, o + j * 2, none⟩ = some (.int .i64 x0) ∧ V.cell? ⟨g, o + j * 2 + 1, none⟩ = some (.int .i64 y0)) ∧ V.cell? ⟨g, o + (j + 1) * 2, none⟩ = some (.int .i64 x1) ∧ V.cell? ⟨g, o + (j + 1) * 2 + 1, none⟩ = some (.int .i64 y1)) ∧ Below gf W0 V ∧ wr.heap.size ≤ V.heap.size) (b : Below V.heap.size V V') :
    (V'.cell? ⟨gf, j, none⟩ = some (.int .i64 F) ∧ (V'.cell? ⟨g, o + j * 2, none⟩ = some (.int .i64 x0) ∧ V'.cell? ⟨g, o + j * 2 + 1, none⟩ = some (.int .i64 y0)) ∧ V'.cell? ⟨g, o + (j + 1) * 2, none⟩ = some (.int .i64 x1) ∧ V'.cell? ⟨g, o + (j + 1) * 2 + 1, none⟩ = some (.int .i64 y1)) ∧ Below gf W0 V' ∧ wr.heap.size ≤ V'.heap.size := by
  obtain ⟨⟨h0, ⟨h1, h2⟩, h3, h4⟩, h5, h6⟩ := h
  have hs := b.size
  exact ⟨⟨(b.cell (p := ⟨gf, j, none⟩) (by show gf < _; omega)).trans h0, ⟨(b.cell (p := ⟨g, o + j * 2, none⟩) (by show g < _; omega)).trans h1, (b.cell (p := ⟨g, o + j * 2 + 1, none⟩) (by show g < _; omega)).trans h2⟩, (b.cell (p := ⟨g, o + (j + 1) * 2, none⟩) (by show g < _; omega)).trans h3, (b.cell (p := ⟨g, o + (j + 1) * 2 + 1, none⟩) (by show g < _; omega)).trans h4⟩, h5.trans (b.mono (by omega)), by omega⟩
theorem lay_store (hg : g < gf) (h : (V.cell? ⟨gf, j, none⟩ = some (.int .i64 F) ∧ (V.cell? ⟨g, o + j * 2, none⟩ = some (.int .i64 x0) ∧ V.cell? ⟨g, o + j * 2 + 1, none⟩ = some (.int .i64 y0)) ∧ V.cell? ⟨g, o + (j + 1) * 2, none⟩ = some (.int .i64 x1) ∧ V.cell? ⟨g, o + (j + 1) * 2 + 1, none⟩ = some (.int .i64 y1)) ∧ Below gf W0 V ∧ wr.heap.size ≤ V.heap.size) (v : Value) :
    ((V.setCell ⟨gf, j + 1, none⟩ v).cell? ⟨gf, j, none⟩ = some (.int .i64 F) ∧ ((V.setCell ⟨gf, j + 1, none⟩ v).cell? ⟨g, o + j * 2, none⟩ = some (.int .i64 x0) ∧ (V.setCell ⟨gf, j + 1, none⟩ v).cell? ⟨g, o + j * 2 + 1, none⟩ = some (.int .i64 y0)) ∧ (V.setCell ⟨gf, j + 1, none⟩ v).cell? ⟨g, o + (j + 1) * 2, none⟩ = some (.int .i64 x1) ∧ (V.setCell ⟨gf, j + 1, none⟩ v).cell? ⟨g, o + (j + 1) * 2 + 1, none⟩ = some (.int .i64 y1)) ∧ Below gf W0 (V.setCell ⟨gf, j + 1, none⟩ v) ∧ wr.heap.size ≤ (V.setCell ⟨gf, j + 1, none⟩ v).heap.size := by
  obtain ⟨⟨h0, ⟨h1, h2⟩, h3, h4⟩, h5, h6⟩ := h
  have hb : Below gf V (V.setCell ⟨gf, j + 1, none⟩ v) := (Below.refl _ V).setCell (p := ⟨gf, j + 1, none⟩) (Nat.le_refl _) v
  refine ⟨⟨(World.cell?_setCell_other V ⟨gf, j + 1, none⟩ ⟨gf, j, none⟩ v (by simp)).trans h0, ⟨(hb.cell (p := ⟨g, o + j * 2, none⟩) hg).trans h1, (hb.cell (p := ⟨g, o + j * 2 + 1, none⟩) hg).trans h2⟩, (hb.cell (p := ⟨g, o + (j + 1) * 2, none⟩) hg).trans h3, (hb.cell (p := ⟨g, o + (j + 1) * 2 + 1, none⟩) hg).trans h4⟩, h5.trans hb, ?_⟩
  simpa using h6
end
theorem farU_next (p : List Pt) (j : Nat) : chainTo p (j + 1) = chainTo p j + (lenG (p.getD j pt0) (p.getD (j + 1) pt0) : Int) := rfl
theorem farU_put {V : World} {gf j : Nat} {p : List Pt} (h : Box V gf 3 (icells (farUp p (j + 1)))) : Box (V.setCell ⟨gf, j + 1, none⟩ (.int .i64 (chainTo p (j + 1)))) gf 3 (icells (farUp p (j + 1 + 1))) := by
  have k := h.set (j + 1) (.int .i64 (chainTo p (j + 1)))
  rw [icells_set, farUp_step] at k
  exact k
theorem farU_cells {V : World} {gf j : Nat} {p : List Pt} (h : Box V gf 3 (icells (farUp p (j + 1)))) (hj : j + 1 < p.length) : V.cell? ⟨gf, j, none⟩ = some (.int .i64 (chainTo p j)) ∧ (∃ v, V.cell? ⟨gf, j + 1, none⟩ = some v) ∧ V.frozen? ⟨gf, j + 1, none⟩ = false := by
  refine ⟨h.cell j ?_, ⟨_, h.cell (j + 1) (icells_get (by rw [farUp_length]; exact hj))⟩, h.frozen _⟩
  rw [icells_get (by rw [farUp_length]; omega), farUp_get, if_pos (by omega)]

set_option maxRecDepth 10000 in
set_option maxHeartbeats 6400000 in
theorem dash_lay (L : List Pt) (A : Option Addr) (c : Nat) (cl : Bool) (w : World) (hL : RdV w w.heap.size A (ptRow L)) (hl : L.length ≤ 1048576) :
    Calls Try.prog 20 #[.agg #[.slice A L.length c, .bool cl]] w (Laid L cl w) := by
  obtain ⟨W, hW, k1, k2, bW, sW⟩ := tape_boxes w (.slice A L.length c) (.bool cl)
  have cC := fun V (h : Below w.heap.size w V) => slices_CloneO L A c V (hL.on h) (by omega)
  obtain ⟨i0, hi0, hz0, hz1, hz2⟩ := info_parts info_pt
  have hrl := ringP_le L cl
  unfold Laid
  obtain ⟨p, hp⟩ : ∃ p, ringP L cl = p := ⟨_, rfl⟩
  rw [hp] at hrl ⊢
  have HP := Lib.hid hp
  obtain ⟨nl, hnl⟩ : ∃ nl, L.length = nl := ⟨_, rfl⟩
  have HNL := Lib.hid hnl
  rw [hnl] at cC k1 hW hl hrl ⊢
  obtain ⟨m, hml⟩ : ∃ m, p.length = m := ⟨_, rfl⟩
  have HM := Lib.hid hml
  rw [hml] at hrl ⊢
  have hmk := run_make_ints m (by omega)
  have CC := Lib.hid cC
  have HK := Lib.hid (And.intro k1 (And.intro k2 (And.intro bW sW)))
  have HMADE := Lib.hid (fun V => far_made V p)
  rw [hml] at HMADE
  obtain ⟨⟨f0, f1⟩, -⟩ := Box.pair k1
  have hcase : (cl = true ∧ 0 < nl) ∨ (¬ (cl = true ∧ 0 < nl)) := Classical.em _
  clear cC hL hp hnl hml k1 k2 bW sW
  rcases hcase with ⟨rfl, hpos⟩ | hno
  · have hpE : p = L ++ [L.getD 0 pt0] := by rw [← HP.out]; exact rimG_eq (by rw [HNL.out]; exact hpos)
    have hm1 : m = nl + 1 := by rw [← HM.out, hpE, List.length_append, HNL.out]; rfl
    have hprow : ptRow p = ptRow L ++ [.int .i64 (L.getD 0 pt0).x, .int .i64 (L.getD 0 pt0).y] := by rw [hpE, ptRow_append]; rfl
    have HROW := Lib.hid hprow
    have hmz : decide (0 < nl) = true := decide_eq_true hpos
    have hp0 : 0 < L.length := by rw [HNL.out]; exact hpos
    have hpt0 : ∀ V B q, RdV V B q (ptRow L) → ∃ b o, q = some ⟨b, o, none⟩ ∧ b < B ∧ V.cell? ⟨b, o, none⟩ = some (.int .i64 (L.getD 0 pt0).x) ∧ V.cell? ⟨b, o + 1, none⟩ = some (.int .i64 (L.getD 0 pt0).y) := fun V B q hr => by
      obtain ⟨b, o, e, hb, h0, h1⟩ := hr.ptD (i := 0) hp0
      exact ⟨b, o, e, hb, by simpa using h0, by simpa using h1⟩
    have HPT := Lib.hid hpt0
    clear hpt0
    generalize L.getD 0 pt0 = p0 at HROW HPT
    have hb0 : (0 : Int) < (nl : Int) := by omega
    have hw3 : W.heap.size = w.heap.size + 2 := HK.out.2.2.2
    have HM1 := Lib.hid hm1
    clear hpE hprow hp0 hm1 hw3
    go_enter Try.func20, Try.ntmps20
    go_wp2_with first
      | (rw [hW])
      | (go_at_call 19; (with_reducible refine Calls.mono (CC.out _ HK.out.2.2.1) ?_); rintro e wc ⟨v, rfl, hown, b3⟩
         obtain ⟨qc, kc, rfl, -, -, hq⟩ := RdV.ofOwnK hown
         obtain ⟨gc, oc, rfl, -, c0, c1⟩ := HPT.out _ _ _ hq
         have HO := Lib.hid (And.intro hown b3)
         obtain ⟨⟨f0, f1⟩, -⟩ := Box.pair (HK.out.1.below b3 HK.out.1.lt)
         clear hown hq b3)
      | (at_builtin; refine wpList_append_own _ rfl _ _ 22 rfl W.heap.size 36 i0 (.agg #[.int .i64 0, .int .i64 0]) 2 16 Try.underlying22 hi0 hz0 hz1 hz2 rfl (by decide) _ nl _ rfl (HO.out.1.alloc _) ⟨wc.heap.size, 0, none⟩ 1 1 [.int .i64 p0.x, .int .i64 p0.y] rfl rfl (two_new _ _ _ _) (by simp [Value.oneCell']) (by simp [maxLen]; omega) (by omega) (by have h1 := HO.out.2.size; simp; omega) ?_; intro v' w3 hown' hgrow hiff; clear hiff
         have hb3 : Below W.heap.size W w3 := below_grow2 (HO.out.2.alloc HO.out.2.size (.cells #[.int .i64 p0.x, .int .i64 p0.y] 36)) (HO.out.1.alloc _) (by have h1 := HO.out.2.size; simp; omega) hgrow
         rw [← HROW.out, ← HM1.out] at hown'
         obtain ⟨q, k, rfl, hqk, -, hq⟩ := RdV.ofOwnK hown'
         obtain ⟨W5, hW5, k5, b5⟩ := HMADE.out w3
         have HNE := Lib.hid (show ∀ b o, q = some ⟨b, o, none⟩ → w.heap.size + 1 < b from fun b o e => by
           have h2 := HK.out.2.2.2
           have h3 := hown'.lt b (by rw [e]; rfl)
           omega)
         have HQ := Lib.hid (And.intro hq (And.intro k5 (And.intro hb3 b5)))
         clear hown' hgrow hb3 hq k5 b5)
      | (rw [hW5])
    clear f0 f1 hW hW5 hmk
    have hgs := HQ.out.2.1.lt
    obtain ⟨gf, hgf⟩ : ∃ g, w3.heap.size = g := ⟨_, rfl⟩
    rw [hgf] at HQ hgs ⊢
    have HGF := Lib.hid (show W.heap.size ≤ gf from by rw [← hgf]; exact HQ.out.2.2.1.size)
    clear hgf
    go_loopg [5] m (fun gh iv wr => ∃ j : Nat, iv = .int .i64 ((j : Int) + 1) ∧ gh + j = m ∧ Box wr gf 3 (icells (farUp p (j + 1))) ∧ Below gf w3 wr)
    case atStart => exact ⟨0, by simp, by omega, HQ.out.2.1, HQ.out.2.2.2⟩
    case round =>
      obtain ⟨j, rfl, hg, hbx, hB⟩ := hrel
      have hwi : IntKind.i64.wrap ((j : Int) + 1 + 1) = (j : Int) + 1 + 1 := IntWalk.i64_in _ (by omega)
      have HG := Lib.hid hg
      by_cases hlt : j + 1 < m
      · have hlt' : j + 1 < p.length := by rw [HM.out]; exact hlt
        obtain ⟨g, o, rfl, hgl, e0, e1⟩ := (HQ.out.1.below hB).ptD (i := j) (by omega)
        obtain ⟨g', o', hgo, -, e2, e3⟩ := (HQ.out.1.below hB).ptD (i := j + 1) hlt'
        cases hgo
        obtain ⟨d0, ⟨dv, d1⟩, d2⟩ := farU_cells hbx hlt'
        have hst := farU_next p j
        have hcb := chainTo_in p j
        have cL := fun V => gauge_Len (p.getD j pt0) (p.getD (j + 1) pt0) V
        have hll := lenG_lt (p.getD j pt0) (p.getD (j + 1) pt0)
        have hput := fun V (h : Box V gf 3 (icells (farUp p (j + 1)))) => farU_put h
        have hfc := fun V (h : Box V gf 3 (icells (farUp p (j + 1)))) => farU_cells h hlt'
        generalize lenG (p.getD j pt0) (p.getD (j + 1) pt0) = l at hst cL hll
        generalize p.getD j pt0 = q0 at e0 e1 cL
        generalize p.getD (j + 1) pt0 = q1 at e2 e3 cL
        obtain ⟨x0, y0⟩ := q0
        obtain ⟨x1, y1⟩ := q1
        simp only [hst] at hput
        obtain ⟨F, hF⟩ : ∃ T, chainTo p j = T := ⟨_, rfl⟩
        rw [hF] at hcb d0
        simp only [hF] at hput hfc
        have hws : IntKind.i64.wrap (F + (l : Int)) = F + (l : Int) := IntWalk.i64_in _ (by omega)
        have hw1 : IntKind.i64.wrap ((j : Int) + 1 - 1) = (j : Int) := by rw [Int.add_sub_cancel]; exact IntWalk.i64_in _ (by omega)
        have hw2 : IntKind.i64.wrap (j : Int) = (j : Int) := IntWalk.i64_in _ (by omega)
        have j0 : (j : Int) + 1 < (m : Int) := by omega
        have j2 : (j : Int) < (m : Int) := by omega
        have j3 : j < m := by omega
        have j1 : 0 ≤ (j : Int) + 1 ∧ (j : Int) + 1 < (m : Int) := by omega
        have t1 : ((j : Int) + 1).toNat = j + 1 := by omega
        unfold ptV at cL
        dsimp only at e0 e1 e2 e3 cL
        have CL := Lib.hid cL
        have HPT := Lib.hid hput
        have HFC := Lib.hid hfc
        have HX := Lib.hid hbx
        have hgw := hbx.lt
        have HP0 := Lib.hid (show (wr.drew.cell? ⟨gf, j, none⟩ = some (.int .i64 F) ∧ (wr.drew.cell? ⟨g, o + j * 2, none⟩ = some (.int .i64 x0) ∧ wr.drew.cell? ⟨g, o + j * 2 + 1, none⟩ = some (.int .i64 y0)) ∧ wr.drew.cell? ⟨g, o + (j + 1) * 2, none⟩ = some (.int .i64 x1) ∧ wr.drew.cell? ⟨g, o + (j + 1) * 2 + 1, none⟩ = some (.int .i64 y1)) ∧ Below gf w3 wr.drew ∧ wr.heap.size ≤ wr.drew.heap.size from ⟨⟨d0, ⟨e0, e1⟩, e2, e3⟩, hB.drew, Nat.le_refl _⟩)
        clear hg hst cL hF hcb hlt' hll hput hfc hbx hB
        go_wp2_with fail
        go_region_held3 (fun w' => (w'.cell? ⟨gf, j, none⟩ = some (.int .i64 F) ∧ (w'.cell? ⟨g, o + j * 2, none⟩ = some (.int .i64 x0) ∧ w'.cell? ⟨g, o + j * 2 + 1, none⟩ = some (.int .i64 y0)) ∧ w'.cell? ⟨g, o + (j + 1) * 2, none⟩ = some (.int .i64 x1) ∧ w'.cell? ⟨g, o + (j + 1) * 2 + 1, none⟩ = some (.int .i64 y1)) ∧ Below gf w3 w' ∧ wr.heap.size ≤ w'.heap.size)
          (first
            | (with_reducible exact HP0.out)
            | (with_reducible exact lay_call hgl hgw (by assumption) b9)
            | (with_reducible exact lay_store hgl (by assumption) _))
          ((go_at_call 34; (with_reducible refine Calls.mono (CL.out _) ?_); rintro e w9 ⟨rfl, b9⟩; (have kb := HX.out.below (show Below wr.heap.size wr w9 from (Below.refl _ wr).drew.trans b9) hgw); obtain ⟨z0, ⟨zv, z1⟩, z2⟩ := HFC.out w9 kb))
        rename_i hHeld
        have HZ := Lib.hid (And.intro (HPT.out _ kb) hHeld.2.1)
        clear hHeld kb
        go_wp2_with fail
        go_roundg (m - (j + 1))
        case measure => have := HG.out; omega
        case rel => exact ⟨j + 1, by simp, by have := HG.out; omega, HZ.out.1, HZ.out.2⟩
      · have hfin := farUp_all (p := p) (i := j + 1) (by rw [HM.out]; omega)
        rw [hfin] at hbx
        have hnl : ¬ (j : Int) + 1 < (m : Int) := by omega
        have k2 := (HK.out.2.1.below HQ.out.2.2.1 HK.out.2.1.lt).below hB (by have h1 := HGF.out; have h2 := HK.out.2.2.2; omega)
        obtain ⟨⟨z0, z1⟩, z2, z3⟩ := Box.pair k2
        obtain ⟨U, hU, kU, ⟨u0, u1⟩, bU⟩ := k2.stored2 (.slice q m k) (.slice (some ⟨gf, 0, none⟩) m m)
        have hBU : Below (w.heap.size + 1) wr U := bU _ (Nat.le_refl _)
        have hwU : Below w.heap.size w U := (HK.out.2.2.1.trans (HQ.out.2.2.1.mono HK.out.2.2.1.size)).trans ((hB.mono (by have h1 := HGF.out; have h2 := HK.out.2.2.2; omega)).trans (hBU.mono (by omega)))
        have kf : Box U gf 3 (icells (farL p)) := by
          rw [← hU]
          exact (hbx.far (by have h1 := HGF.out; have h2 := HK.out.2.2.2; show gf ≠ w.heap.size + 1; omega) _).far (by have h1 := HGF.out; have h2 := HK.out.2.2.2; show gf ≠ w.heap.size + 1; omega) _
        have hqU : RdV U U.heap.size q (ptRow p) := fun hx => by
          obtain ⟨b, o, e, hb, hcell⟩ := (HQ.out.1.below hB) hx
          refine ⟨b, o, e, Nat.lt_of_lt_of_le hb (Nat.le_of_lt kf.lt), fun i hi => ?_⟩
          rw [← hcell i hi, ← hU]
          have hne : w.heap.size + 1 ≠ b := Nat.ne_of_lt (HNE.out b o e)
          rw [World.cell?_setCell_far _ _ _ _ (by simpa using hne), World.cell?_setCell_far _ _ _ _ (by simpa using hne)]
        have HF := Lib.hid (And.intro hqU (And.intro kf.rd hwU))
        have HFR := Lib.hid (show ∀ b o, (q = some ⟨b, o, none⟩ ∨ (some ⟨gf, 0, none⟩ : Option Addr) = some ⟨b, o, none⟩) → w.heap.size ≤ b from fun b o h => by
          rcases h with e | e
          · have := HNE.out b o e
            omega
          · cases e
            have h1 := HGF.out
            have h2 := HK.out.2.2.2
            omega)
        have HU := Lib.hid hU
        clear hfin hbx hB k2 hBU hwU hqU kf bU hU kU hg HG
        go_wp2_with fail
        try rw [HU.out]
        exact bodyPost_ret (by simp [results, Try.results20, go_sem, u0, u1]) rfl ⟨⟨q, k, _, m, rfl, hqk, Nat.le_refl _, HF.out.1, HF.out.2.1, HFR.out⟩, HF.out.2.2⟩
  · have h0 : cl = true → nl = 0 := fun h => by have : ¬ 0 < nl := fun k => hno ⟨h, k⟩; omega
    have hpL : p = L := by
      rw [← HP.out]
      cases cl with
      | false => rfl
      | true =>
        have : L = [] := List.eq_nil_of_length_eq_zero (by rw [HNL.out]; exact h0 rfl)
        subst this
        rfl
    subst hpL
    obtain rfl : m = nl := by rw [← HM.out, HNL.out]
    have hcl : cl = false ∨ (cl = true ∧ m = 0) := by
      cases cl
      · exact .inl rfl
      · exact .inr ⟨rfl, h0 rfl⟩
    clear h0 hno
    rcases hcl with rfl | ⟨rfl, hm0⟩
    all_goals
      (try have hmz : decide (0 < m) = false := decide_eq_false (by omega))
      (try clear hm0)
      go_enter Try.func20, Try.ntmps20
      go_wp2_with first
        | (rw [hW])
        | (go_at_call 19; (with_reducible refine Calls.mono (CC.out _ HK.out.2.2.1) ?_); rintro e w3 ⟨v, rfl, hown, b3⟩
           obtain ⟨q, k, rfl, hqk, -, hq⟩ := RdV.ofOwnK hown
           obtain ⟨W5, hW5, k5, b5⟩ := HMADE.out w3
           have HNE := Lib.hid (show ∀ b o, q = some ⟨b, o, none⟩ → w.heap.size + 1 < b from fun b o e => by
             have h2 := HK.out.2.2.2
             have h3 := hown.lt b (by rw [e]; rfl)
             omega)
           have HQ := Lib.hid (And.intro hq (And.intro k5 (And.intro b3 b5)))
           obtain ⟨⟨f0, f1⟩, -⟩ := Box.pair (HK.out.1.below b3 HK.out.1.lt)
           clear hown hq k5 b3 b5)
        | (rw [hW5])
      clear f0 f1 hW hW5 hmk
      have hgs := HQ.out.2.1.lt
      obtain ⟨gf, hgf⟩ : ∃ g, w3.heap.size = g := ⟨_, rfl⟩
      rw [hgf] at HQ hgs ⊢
      have HGF := Lib.hid (show W.heap.size ≤ gf from by rw [← hgf]; exact HQ.out.2.2.1.size)
      clear hgf
      go_loopg [5] m (fun gh iv wr => ∃ j : Nat, iv = .int .i64 ((j : Int) + 1) ∧ gh + j = m ∧ Box wr gf 3 (icells (farUp p (j + 1))) ∧ Below gf w3 wr)
      case atStart => exact ⟨0, by simp, by omega, HQ.out.2.1, HQ.out.2.2.2⟩
      case round =>
        obtain ⟨j, rfl, hg, hbx, hB⟩ := hrel
        have hwi : IntKind.i64.wrap ((j : Int) + 1 + 1) = (j : Int) + 1 + 1 := IntWalk.i64_in _ (by omega)
        have HG := Lib.hid hg
        by_cases hlt : j + 1 < m
        · have hlt' : j + 1 < p.length := by rw [HM.out]; exact hlt
          obtain ⟨g, o, rfl, hgl, e0, e1⟩ := (HQ.out.1.below hB).ptD (i := j) (by omega)
          obtain ⟨g', o', hgo, -, e2, e3⟩ := (HQ.out.1.below hB).ptD (i := j + 1) hlt'
          cases hgo
          obtain ⟨d0, ⟨dv, d1⟩, d2⟩ := farU_cells hbx hlt'
          have hst := farU_next p j
          have hcb := chainTo_in p j
          have cL := fun V => gauge_Len (p.getD j pt0) (p.getD (j + 1) pt0) V
          have hll := lenG_lt (p.getD j pt0) (p.getD (j + 1) pt0)
          have hput := fun V (h : Box V gf 3 (icells (farUp p (j + 1)))) => farU_put h
          have hfc := fun V (h : Box V gf 3 (icells (farUp p (j + 1)))) => farU_cells h hlt'
          generalize lenG (p.getD j pt0) (p.getD (j + 1) pt0) = l at hst cL hll
          generalize p.getD j pt0 = q0 at e0 e1 cL
          generalize p.getD (j + 1) pt0 = q1 at e2 e3 cL
          obtain ⟨x0, y0⟩ := q0
          obtain ⟨x1, y1⟩ := q1
          simp only [hst] at hput
          obtain ⟨F, hF⟩ : ∃ T, chainTo p j = T := ⟨_, rfl⟩
          rw [hF] at hcb d0
          simp only [hF] at hput hfc
          have hws : IntKind.i64.wrap (F + (l : Int)) = F + (l : Int) := IntWalk.i64_in _ (by omega)
          have hw1 : IntKind.i64.wrap ((j : Int) + 1 - 1) = (j : Int) := by rw [Int.add_sub_cancel]; exact IntWalk.i64_in _ (by omega)
          have hw2 : IntKind.i64.wrap (j : Int) = (j : Int) := IntWalk.i64_in _ (by omega)
          have j0 : (j : Int) + 1 < (m : Int) := by omega
          have j2 : (j : Int) < (m : Int) := by omega
          have j3 : j < m := by omega
          have j1 : 0 ≤ (j : Int) + 1 ∧ (j : Int) + 1 < (m : Int) := by omega
          have t1 : ((j : Int) + 1).toNat = j + 1 := by omega
          unfold ptV at cL
          dsimp only at e0 e1 e2 e3 cL
          have CL := Lib.hid cL
          have HPT := Lib.hid hput
          have HFC := Lib.hid hfc
          have HX := Lib.hid hbx
          have hgw := hbx.lt
          have HP0 := Lib.hid (show (wr.drew.cell? ⟨gf, j, none⟩ = some (.int .i64 F) ∧ (wr.drew.cell? ⟨g, o + j * 2, none⟩ = some (.int .i64 x0) ∧ wr.drew.cell? ⟨g, o + j * 2 + 1, none⟩ = some (.int .i64 y0)) ∧ wr.drew.cell? ⟨g, o + (j + 1) * 2, none⟩ = some (.int .i64 x1) ∧ wr.drew.cell? ⟨g, o + (j + 1) * 2 + 1, none⟩ = some (.int .i64 y1)) ∧ Below gf w3 wr.drew ∧ wr.heap.size ≤ wr.drew.heap.size from ⟨⟨d0, ⟨e0, e1⟩, e2, e3⟩, hB.drew, Nat.le_refl _⟩)
          clear hg hst cL hF hcb hlt' hll hput hfc hbx hB
          go_wp2_with fail
          go_region_held3 (fun w' => (w'.cell? ⟨gf, j, none⟩ = some (.int .i64 F) ∧ (w'.cell? ⟨g, o + j * 2, none⟩ = some (.int .i64 x0) ∧ w'.cell? ⟨g, o + j * 2 + 1, none⟩ = some (.int .i64 y0)) ∧ w'.cell? ⟨g, o + (j + 1) * 2, none⟩ = some (.int .i64 x1) ∧ w'.cell? ⟨g, o + (j + 1) * 2 + 1, none⟩ = some (.int .i64 y1)) ∧ Below gf w3 w' ∧ wr.heap.size ≤ w'.heap.size)
            (first
              | (with_reducible exact HP0.out)
              | (with_reducible exact lay_call hgl hgw (by assumption) b9)
              | (with_reducible exact lay_store hgl (by assumption) _))
            ((go_at_call 34; (with_reducible refine Calls.mono (CL.out _) ?_); rintro e w9 ⟨rfl, b9⟩; (have kb := HX.out.below (show Below wr.heap.size wr w9 from (Below.refl _ wr).drew.trans b9) hgw); obtain ⟨z0, ⟨zv, z1⟩, z2⟩ := HFC.out w9 kb))
          rename_i hHeld
          have HZ := Lib.hid (And.intro (HPT.out _ kb) hHeld.2.1)
          clear hHeld kb
          go_wp2_with fail
          go_roundg (m - (j + 1))
          case measure => have := HG.out; omega
          case rel => exact ⟨j + 1, by simp, by have := HG.out; omega, HZ.out.1, HZ.out.2⟩
        · have hfin := farUp_all (p := p) (i := j + 1) (by rw [HM.out]; omega)
          rw [hfin] at hbx
          have hnl : ¬ (j : Int) + 1 < (m : Int) := by omega
          have k2 := (HK.out.2.1.below HQ.out.2.2.1 HK.out.2.1.lt).below hB (by have h1 := HGF.out; have h2 := HK.out.2.2.2; omega)
          obtain ⟨⟨z0, z1⟩, z2, z3⟩ := Box.pair k2
          obtain ⟨U, hU, kU, ⟨u0, u1⟩, bU⟩ := k2.stored2 (.slice q m k) (.slice (some ⟨gf, 0, none⟩) m m)
          have hBU : Below (w.heap.size + 1) wr U := bU _ (Nat.le_refl _)
          have hwU : Below w.heap.size w U := (HK.out.2.2.1.trans (HQ.out.2.2.1.mono HK.out.2.2.1.size)).trans ((hB.mono (by have h1 := HGF.out; have h2 := HK.out.2.2.2; omega)).trans (hBU.mono (by omega)))
          have kf : Box U gf 3 (icells (farL p)) := by
            rw [← hU]
            exact (hbx.far (by have h1 := HGF.out; have h2 := HK.out.2.2.2; show gf ≠ w.heap.size + 1; omega) _).far (by have h1 := HGF.out; have h2 := HK.out.2.2.2; show gf ≠ w.heap.size + 1; omega) _
          have hqU : RdV U U.heap.size q (ptRow p) := fun hx => by
            obtain ⟨b, o, e, hb, hcell⟩ := (HQ.out.1.below hB) hx
            refine ⟨b, o, e, Nat.lt_of_lt_of_le hb (Nat.le_of_lt kf.lt), fun i hi => ?_⟩
            rw [← hcell i hi, ← hU]
            have hne : w.heap.size + 1 ≠ b := Nat.ne_of_lt (HNE.out b o e)
            rw [World.cell?_setCell_far _ _ _ _ (by simpa using hne), World.cell?_setCell_far _ _ _ _ (by simpa using hne)]
          have HF := Lib.hid (And.intro hqU (And.intro kf.rd hwU))
          have HFR := Lib.hid (show ∀ b o, (q = some ⟨b, o, none⟩ ∨ (some ⟨gf, 0, none⟩ : Option Addr) = some ⟨b, o, none⟩) → w.heap.size ≤ b from fun b o h => by
            rcases h with e | e
            · have := HNE.out b o e
              omega
            · cases e
              have h1 := HGF.out
              have h2 := HK.out.2.2.2
              omega)
          have HU := Lib.hid hU
          clear hfin hbx hB k2 hBU hwU hqU kf bU hU kU hg HG
          go_wp2_with fail
          try rw [HU.out]
          exact bodyPost_ret (by simp [results, Try.results20, go_sem, u0, u1]) rfl ⟨⟨q, k, _, m, rfl, hqk, Nat.le_refl _, HF.out.1, HF.out.2.1, HFR.out⟩, HF.out.2.2⟩
end Go.Proofs.Ytkebffkekinblaa
/- Lines in pieces, the program's own: first, at, At. -/

namespace Go.Proofs.Ytkebffkekinblaa
open Go.RowKit Num

/-- a tape that is handed over, in a box -/
theorem tape_box (w : World) (p q : Value) : ∃ W, w.alloc (.cells #[p, q] 48) = W ∧ Box W w.heap.size 48 [p, q] ∧ Below w.heap.size w W := endP w _ _ _

set_option maxRecDepth 10000 in
set_option maxHeartbeats 1600000 in
theorem tape_first (p : List Pt) (q : Option Addr) (k : Nat) (r : Option Addr) (j : Nat) (n : Int) (w : World) (hr : RdV w w.heap.size r (icells (farL p))) (hl : p.length ≤ 1048577) :
    Calls Try.prog 38 #[.agg #[.slice q p.length k, .slice r p.length j], .int .i64 n] w fun e w' => e = .returned (.int .i64 (firstF p n : Int)) ∧ Below w.heap.size w w' := by
  obtain ⟨W, hW, kW, bW⟩ := tape_box w (.slice q p.length k) (.slice r p.length j)
  have c1 : Calls Try.prog 47 #[.slice r p.length j, .int .i64 n] W fun e w' => (∃ b : Bool, e = .returned (.tuple #[.int .i64 (firstF p n : Int), .bool b])) ∧ Below W.heap.size W w' := by
    rcases Nat.eq_zero_or_pos p.length with h0 | h0
    · rw [h0]
      refine (Try.slices_BinarySearch_int_empty r j n W).mono ?_
      rintro e w' ⟨rfl, rfl⟩
      have : firstF p n = 0 := by have := firstF_le p n; omega
      rw [this]
      exact ⟨⟨false, rfl⟩, Below.refl _ _⟩
    · obtain ⟨b, o, rfl, hb, hc⟩ := (hr.on bW) (by rw [icells_length, farL_length]; exact h0)
      refine (Try.slices_BinarySearch_int b o p.length j (farL p) n W (by rw [farL_length]; exact Nat.le_refl _) (by omega) ?_ ?_).mono ?_
      · intro i hi
        rw [hc i (by rw [icells_length]; exact hi)]
        simp [icells, List.getD, List.getElem?_eq_getElem hi]
      · exact (far_sorted p).sublist (List.take_sublist _ _)
      · rintro e w' ⟨rfl, x, rfl⟩
        rw [show (farL p).take p.length = farL p from by rw [← farL_length, List.take_length], first_count]
        exact ⟨⟨_, rfl⟩, below_drewN (Below.refl _ _) x⟩
  obtain ⟨m, hml⟩ : ∃ m, p.length = m := ⟨_, rfl⟩
  rw [hml] at c1 kW hW ⊢
  generalize firstF p n = f at c1 ⊢
  obtain ⟨⟨f0, f1⟩, -⟩ := Box.pair kW
  have C1 := Lib.hid c1
  have HB := Lib.hid bW
  clear c1 hr hml kW bW
  go_enter Try.func38, Try.ntmps38
  go_wp2_with first
    | (rw [hW])
    | (go_at_call 47; (with_reducible refine Calls.mono C1.out ?_); rintro e w1 ⟨⟨b, rfl⟩, b1⟩)
  go_ret
  exact ⟨rfl, HB.out.trans (b1.mono HB.out.size)⟩

/-- the boxes of a tape and of a zero point -/
theorem tape_zero (w : World) (p q : Value) : ∃ W, (w.alloc (.cells #[p, q] 48)).alloc (.cells #[.int .i64 0, .int .i64 0] 36) = W ∧ Box W w.heap.size 48 [p, q] ∧ Box W (w.heap.size + 1) 36 [.int .i64 0, .int .i64 0] ∧ Below w.heap.size w W ∧ W.heap.size = w.heap.size + 2 :=
  ⟨_, rfl, (Box.new w _ [p, q]).alloc _, Box.at_new (w.alloc (.cells #[p, q] 48)) _ [.int .i64 0, .int .i64 0] (by simp), ((Below.refl _ w).alloc (Nat.le_refl _) _).alloc (by simp) _, by simp⟩
theorem RdV.far {w : World} {B : Nat} {p : Option Addr} {l : List Pt} (h : RdV w B p (icells (farL l))) {i : Nat} (hi : i < l.length) : ∃ b o, p = some ⟨b, o, none⟩ ∧ b < B ∧ w.cell? ⟨b, o + i, none⟩ = some (.int .i64 (chainTo l i)) := by
  have hl : i < (farL l).length := by rw [farL_length]; exact hi
  obtain ⟨b, o, h1, h2, h3⟩ := h.num hl
  rw [farL_get hl] at h3
  exact ⟨b, o, h1, h2, h3⟩

set_option maxRecDepth 10000 in
set_option maxHeartbeats 3200000 in
theorem tape_atV (p : List Pt) (q : Option Addr) (k : Nat) (r : Option Addr) (j : Nat) (n : Int) (w : World) (hq : RdV w w.heap.size q (ptRow p)) (hr : RdV w w.heap.size r (icells (farL p))) (hl : p.length ≤ 1048577) (hf : FitL p) (hp : 0 < p.length) (hn : 0 ≤ n ∧ n ≤ chainTo p (p.length - 1)) :
    Calls Try.prog 28 #[.agg #[.slice q p.length k, .slice r p.length j], .int .i64 n] w fun e w' => e = .returned (ptV (tapeAt p n)) ∧ Below w.heap.size w w' := by
  obtain ⟨W, hW, k1, k2, bW, sW⟩ := tape_zero w (.slice q p.length k) (.slice r p.length j)
  have c1 := tape_first p q k r j n W (hr.on bW) hl
  have hfi := firstF_in hp hn.2
  have hcb := chainTo_in p (p.length - 1)
  obtain ⟨m, hml⟩ : ∃ m, p.length = m := ⟨_, rfl⟩
  have HM := Lib.hid hml
  obtain ⟨⟨f0, f1⟩, -⟩ := Box.pair k1
  have hq2 := hq.below bW
  have hr2 := hr.below bW
  obtain ⟨f, hF⟩ : ∃ f, firstF p n = f := ⟨_, rfl⟩
  rw [hF] at c1 hfi
  have C1 := Lib.hid c1
  have HK := Lib.hid (And.intro k1 (And.intro k2 (And.intro bW sW)))
  cases f with
  | zero =>
    have hv : tapeAt p n = p.getD 0 pt0 := if_pos hF
    rw [hv]
    obtain ⟨b, o, rfl, hb, e0, e1⟩ := hq2.ptD (i := 0) hp
    generalize p.getD 0 pt0 = z at e0 e1 ⊢
    obtain ⟨x, y⟩ := z
    unfold ptV
    dsimp only at e0 e1 ⊢
    simp only [Nat.zero_mul, Nat.add_zero] at e0 e1
    have hm0 : (0 : Int) < (m : Int) := by omega
    have hm1 : 0 < m := by omega
    have HE := Lib.hid (fun V (h : Below W.heap.size W V) => show V.cell? ⟨b, o, none⟩ = some (.int .i64 x) ∧ V.cell? ⟨b, o + 1, none⟩ = some (.int .i64 y) from ⟨(h.cell (p := ⟨b, o, none⟩) (by show b < _; omega)).trans e0, (h.cell (p := ⟨b, o + 1, none⟩) (by show b < _; omega)).trans e1⟩)
    rw [hml] at HK hW f0 f1 C1 ⊢
    clear c1 hq hr hq2 hr2 hF k1 k2 bW sW hcb hn e0 e1 hml hv hf hfi
    go_enter Try.func28, Try.ntmps28
    go_wp2_with first
      | (rw [hW])
      | (go_at_call 38; (with_reducible refine Calls.mono C1.out ?_); rintro e w1 ⟨rfl, b1⟩
         obtain ⟨e0, e1⟩ := HE.out _ b1
         obtain ⟨⟨g0, g1⟩, -⟩ := Box.pair (HK.out.1.below b1 HK.out.1.lt)
         have kz := HK.out.2.1.below b1 HK.out.2.1.lt
         obtain ⟨⟨z0, z1⟩, z2, z3⟩ := Box.pair kz
         obtain ⟨U, hU, kU, ⟨u0, u1⟩, bU⟩ := kz.stored2 (.int .i64 x) (.int .i64 y)
         have HB := Lib.hid (HK.out.2.2.1.trans ((b1.mono HK.out.2.2.1.size).trans (bU w.heap.size (by omega))))
         have HU := Lib.hid hU
         clear b1 kz hU kU bU)
    try rw [HU.out]
    exact bodyPost_ret (by simp [results, Try.results28, go_sem, u0, u1]) rfl ⟨rfl, HB.out⟩
  | succ i =>
    have hv : tapeAt p n = aheadG (p.getD i pt0) (p.getD (i + 1) pt0) (n - chainTo p i) := by
      unfold tapeAt
      rw [if_neg (by omega), hF]
      rfl
    rw [hv]
    have hi1 : i + 1 < p.length := by omega
    have hci := chainTo_in p i
    have hfa := fit_get hf (show i < p.length by omega)
    obtain ⟨b, o, rfl, hb, e0, e1⟩ := hq2.ptD (i := i) (by omega)
    obtain ⟨b', o', ho, -, e2, e3⟩ := hq2.ptD (i := i + 1) hi1
    cases ho
    obtain ⟨d, u, rfl, hd, e4⟩ := hr2.far (i := i) (by omega)
    obtain ⟨F, hFar⟩ : ∃ F, chainTo p i = F := ⟨_, rfl⟩
    rw [hFar] at e4 hci ⊢
    generalize p.getD i pt0 = p0 at e0 e1 hfa ⊢
    generalize p.getD (i + 1) pt0 = p1 at e2 e3 ⊢
    have cA := fun V => gauge_Ahead p0 p1 (n - F) (by unfold FitP at hfa; omega) V
    obtain ⟨x0, y0⟩ := p0
    obtain ⟨x1, y1⟩ := p1
    obtain ⟨⟨X, Y⟩, hR⟩ : ∃ R, aheadG ⟨x0, y0⟩ ⟨x1, y1⟩ (n - F) = R := ⟨_, rfl⟩
    rw [hR]
    simp only [hR] at cA
    unfold ptV at cA ⊢
    dsimp only at e0 e1 e2 e3 cA ⊢
    rw [hml] at HK hW f0 f1 C1 hfi hl ⊢
    have CA := Lib.hid cA
    have hws : IntKind.i64.wrap (n - F) = n - F := IntWalk.i64_in _ (by omega)
    have hw1 : IntKind.i64.wrap ((i : Int) + 1 - 1) = (i : Int) := by rw [Int.add_sub_cancel]; exact IntWalk.i64_in _ (by omega)
    have hw2 : IntKind.i64.wrap (i : Int) = (i : Int) := IntWalk.i64_in _ (by omega)
    have j0 : (i : Int) + 1 < (m : Int) := by omega
    have j2 : (i : Int) < (m : Int) := by omega
    have j3 : i < m := by omega
    have j4 : i + 1 < m := by omega
    have j1 : 0 ≤ (i : Int) + 1 ∧ (i : Int) + 1 < (m : Int) := by omega
    have t1 : ((i : Int) + 1).toNat = i + 1 := by omega
    have jz : (((i : Int) + 1) == 0) = false := by simp; omega
    have HC := Lib.hid (fun V (h : Below (w.heap.size + 1) W V) => show ((V.cell? ⟨w.heap.size, 0, none⟩ = some (.slice (some ⟨b, o, none⟩) m k) ∧ V.cell? ⟨w.heap.size, 1, none⟩ = some (.slice (some ⟨d, u, none⟩) m j)) ∧ ((V.cell? ⟨b, o + i * 2, none⟩ = some (.int .i64 x0) ∧ V.cell? ⟨b, o + i * 2 + 1, none⟩ = some (.int .i64 y0)) ∧ V.cell? ⟨b, o + (i + 1) * 2, none⟩ = some (.int .i64 x1) ∧ V.cell? ⟨b, o + (i + 1) * 2 + 1, none⟩ = some (.int .i64 y1)) ∧ V.cell? ⟨d, u + i, none⟩ = some (.int .i64 F)) ∧ Below (w.heap.size + 1) W V from
      ⟨⟨⟨(h.cell (p := ⟨w.heap.size, 0, none⟩) (by show w.heap.size < _; omega)).trans f0, (h.cell (p := ⟨w.heap.size, 1, none⟩) (by show w.heap.size < _; omega)).trans f1⟩, ⟨⟨(h.cell (p := ⟨b, o + i * 2, none⟩) (by show b < _; omega)).trans e0, (h.cell (p := ⟨b, o + i * 2 + 1, none⟩) (by show b < _; omega)).trans e1⟩, (h.cell (p := ⟨b, o + (i + 1) * 2, none⟩) (by show b < _; omega)).trans e2, (h.cell (p := ⟨b, o + (i + 1) * 2 + 1, none⟩) (by show b < _; omega)).trans e3⟩, (h.cell (p := ⟨d, u + i, none⟩) (by show d < _; omega)).trans e4⟩, h⟩)
    clear c1 hq hr hq2 hr2 hF k1 k2 bW sW hcb hn e0 e1 e2 e3 e4 hml hv hf hfi hci hfa hR cA hFar hi1
    go_enter Try.func28, Try.ntmps28
    go_wp2_with first
      | (rw [hW])
      | (go_at_call 38; (with_reducible refine Calls.mono C1.out ?_); rintro e w1 ⟨rfl, b1⟩
         have G1 := Lib.hid (show Below (w.heap.size + 1) W w1 ∧ Box w1 (w.heap.size + 1) 36 [.int .i64 0, .int .i64 0] ∧ Below w.heap.size w w1 from ⟨b1.mono (by have := HK.out.2.2.2; omega), HK.out.2.1.below b1 HK.out.2.1.lt, HK.out.2.2.1.trans (b1.mono HK.out.2.2.1.size)⟩)
         obtain ⟨⟨⟨g0, g1⟩, ⟨⟨q0, q1⟩, q2, q3⟩, q4⟩, -⟩ := HC.out w1 G1.out.1
         have HP := Lib.hid (HC.out w1.drew G1.out.1.drew)
         clear b1)
    have HST := Lib.hid (fun V (h : Below (w.heap.size + 1) W V) (a c : Value) => HC.out ((V.setCell ⟨w.heap.size + 1, 0, none⟩ a).setCell ⟨w.heap.size + 1, 1, none⟩ c) ((h.setCell (p := ⟨w.heap.size + 1, 0, none⟩) (Nat.le_refl _) a).setCell (p := ⟨w.heap.size + 1, 1, none⟩) (Nat.le_refl _) c))
    go_region_held3 (fun w' => ((w'.cell? ⟨w.heap.size, 0, none⟩ = some (.slice (some ⟨b, o, none⟩) m k) ∧ w'.cell? ⟨w.heap.size, 1, none⟩ = some (.slice (some ⟨d, u, none⟩) m j)) ∧ ((w'.cell? ⟨b, o + i * 2, none⟩ = some (.int .i64 x0) ∧ w'.cell? ⟨b, o + i * 2 + 1, none⟩ = some (.int .i64 y0)) ∧ w'.cell? ⟨b, o + (i + 1) * 2, none⟩ = some (.int .i64 x1) ∧ w'.cell? ⟨b, o + (i + 1) * 2 + 1, none⟩ = some (.int .i64 y1)) ∧ w'.cell? ⟨d, u + i, none⟩ = some (.int .i64 F)) ∧ Below (w.heap.size + 1) W w')
      (first
        | (with_reducible exact HP.out)
        | (with_reducible exact HC.out _ G9.out)
        | (with_reducible exact HST.out _ G9.out _ _))
      ((go_at_call 42; (with_reducible refine Calls.mono (CA.out _) ?_); rintro e w9 ⟨rfl, b9⟩; (have B9 : Below w1.heap.size w1 w9 := (Below.refl _ w1).drew.trans b9); (have G9 := Lib.hid (G1.out.1.trans (B9.mono (by have h1 := G1.out.2.1.lt; omega)))); (have kc := G1.out.2.1.below B9 G1.out.2.1.lt); (have H9 := Lib.hid (G1.out.2.2.trans (B9.mono G1.out.2.2.size))); clear B9 b9; obtain ⟨⟨i0, i1⟩, i2, i3⟩ := Box.pair kc))
    rename_i hHeld
    clear hHeld
    obtain ⟨U, hU, kU, ⟨u0, u1⟩, bU⟩ := kc.stored2 (.int .i64 X) (.int .i64 Y)
    have HB := Lib.hid (H9.out.trans (bU w.heap.size (by omega)))
    rw [hU]
    clear hU kU bU kc
    go_wp2_with fail
    exact bodyPost_ret (by simp [results, Try.results28, go_sem, u0, u1]) rfl ⟨rfl, HB.out⟩
end Go.Proofs.Ytkebffkekinblaa
/- Lines in pieces, the program's own: At. -/

namespace Go.Proofs.Ytkebffkekinblaa
open Go.RowKit Num

/-- a line's box and a zero point's -/
theorem line_zero (w : World) (p b : Value) : ∃ W, (w.alloc (.cells #[p, b] 24)).alloc (.cells #[.int .i64 0, .int .i64 0] 36) = W ∧ Box W w.heap.size 24 [p, b] ∧ Box W (w.heap.size + 1) 36 [.int .i64 0, .int .i64 0] ∧ Below w.heap.size w W ∧ W.heap.size = w.heap.size + 2 :=
  ⟨_, rfl, (Box.new w _ [p, b]).alloc _, Box.at_new (w.alloc (.cells #[p, b] 24)) _ [.int .i64 0, .int .i64 0] (by simp), ((Below.refl _ w).alloc (Nat.le_refl _) _).alloc (by simp) _, by simp⟩

set_option maxRecDepth 10000 in
set_option maxHeartbeats 3200000 in
theorem dash_At (L : List Pt) (A : Option Addr) (c : Nat) (cl : Bool) (n : Int) (_hn : -9223372036854775808 ≤ n ∧ n ≤ 9223372036854775807) (w : World) (hL : RdV w w.heap.size A (ptRow L)) (hl : L.length ≤ 1048576) (hc : L.length ≤ c) :
    Calls Try.prog 10 #[.agg #[.slice A L.length c, .bool cl], .int .i64 n] w fun e w' => e = .returned (.tuple #[ptV (AtV L cl n), .bool (decide (AtOk L cl n))]) ∧ Below w.heap.size w w' := by
  obtain ⟨W, hW, k1, k2, bW, sW⟩ := line_zero w (.slice A L.length c) (.bool cl)
  have HL := Lib.hid (hL.on bW)
  have c1 := fun V (h : Below W.heap.size W V) => dash_fit L A c V (HL.out.on h) (by omega)
  have c2 := fun V (h : Below W.heap.size W V) => gauge_Long L A c cl V (HL.out.on h) (by omega) hc
  have c3 := fun V (h : Below W.heap.size W V) => dash_lay L A c cl V (HL.out.on h) hl
  have hrl := ringP_le L cl
  have HLM := Lib.hid (fun h : FitL L => longM_ring h cl)
  have c4 := fun (h : AtOk L cl n) (q : Option Addr) (k : Nat) (r : Option Addr) (j : Nat) V (hq : RdV V V.heap.size q (ptRow (ringP L cl))) (hr : RdV V V.heap.size r (icells (farL (ringP L cl)))) =>
    tape_atV (ringP L cl) q k r j n V hq hr (by omega) (fitL_ring.2 h.2.1) (by have := h.1; omega) ⟨h.2.2.1, by rw [← HLM.out h.2.1]; exact h.2.2.2⟩
  have HV := Lib.hid (fun (h : AtOk L cl n) => show AtV L cl n = tapeAt (ringP L cl) n from by rw [AtV_yes h, atM_tape h])
  have HNO := Lib.hid (fun (h : ¬ AtOk L cl n) => AtV_no h)
  unfold Laid at c3
  generalize tapeAt (ringP L cl) n = z at c4 HV
  generalize ringP L cl = p at c3 c4 hrl
  obtain ⟨m, hml⟩ : ∃ m, p.length = m := ⟨_, rfl⟩
  rw [hml] at c3 c4
  obtain ⟨nl, hnl⟩ : ∃ nl, L.length = nl := ⟨_, rfl⟩
  obtain ⟨lg, hlg⟩ : ∃ g, longM L cl = g := ⟨_, rfl⟩
  have HOK := Lib.hid (show AtOk L cl n ↔ 0 < nl ∧ FitL L ∧ 0 ≤ n ∧ n ≤ lg from by unfold AtOk; rw [hnl, hlg])
  rw [hnl] at c1 c2 c3 k1 hW ⊢
  rw [hlg] at c2
  obtain ⟨⟨p0, p1⟩, -⟩ := Box.pair k1
  obtain ⟨⟨z0, z1⟩, z2, z3⟩ := Box.pair k2
  have HK := Lib.hid (And.intro k1 (And.intro k2 (And.intro bW sW)))
  have C1 := Lib.hid c1
  have C2 := Lib.hid c2
  have C3 := Lib.hid c3
  have C4 := Lib.hid c4
  clear c1 c2 c3 c4 hL hnl hml hlg k1 k2 bW sW hrl HLM hc
  by_cases hok : 0 < nl ∧ FitL L ∧ 0 ≤ n ∧ n ≤ lg
  · have hAt := HOK.out.2 hok
    obtain ⟨h1, h2, h3, h4⟩ := hok
    rw [HV.out hAt, decide_eq_true hAt]
    have C5 := Lib.hid (C4.out hAt)
    rw [decide_eq_true h2] at C1
    obtain ⟨x, y⟩ := z
    unfold ptV at C5 ⊢
    dsimp only at C5 ⊢
    have hmz : ((nl : Int) == 0) = false := by simp; omega
    have hn3 : ¬ n < 0 := by omega
    have hn4 : ¬ lg < n := by omega
    clear C4 HV HNO HOK hAt
    go_enter Try.func10, Try.ntmps10
    go_wp2_with first
      | (rw [hW])
      | (go_at_call 18; (with_reducible refine Calls.mono (C1.out _ (Below.refl _ _)) ?_); rintro e w1 ⟨rfl, b1⟩
         have G1 := Lib.hid b1
         obtain ⟨⟨p0, p1⟩, -⟩ := Box.pair (HK.out.1.below G1.out HK.out.1.lt)
         clear b1)
      | (go_at_call 21; (with_reducible refine Calls.mono (C2.out _ G1.out) ?_); rintro e w2 ⟨rfl, b2⟩
         have G2 := Lib.hid (G1.out.trans (b2.mono G1.out.size))
         obtain ⟨⟨p0, p1⟩, -⟩ := Box.pair (HK.out.1.below G2.out HK.out.1.lt)
         clear b2)
      | (go_at_call 20; (with_reducible refine Calls.mono (C3.out _ G2.out) ?_); rintro e w3 ⟨⟨q, k, r, j, rfl, -, -, hq, hr, -⟩, b3⟩
         have G3 := Lib.hid (G2.out.trans (b3.mono G2.out.size))
         have Q3 := Lib.hid (And.intro hq hr)
         clear b3 hq hr)
      | (go_at_call 28; (with_reducible refine Calls.mono (C5.out _ _ _ _ _ Q3.out.1 Q3.out.2) ?_); rintro e w4 ⟨rfl, b4⟩
         have kz := HK.out.2.1.below (G3.out.trans (b4.mono G3.out.size)) HK.out.2.1.lt
         obtain ⟨⟨z0, z1⟩, z2, z3⟩ := Box.pair kz
         obtain ⟨U, hU, kU, ⟨u0, u1⟩, bU⟩ := kz.stored2 (.int .i64 x) (.int .i64 y)
         have HB := Lib.hid (HK.out.2.2.1.trans (((G3.out.trans (b4.mono G3.out.size)).mono HK.out.2.2.1.size).trans (bU w.heap.size (by omega))))
         have HU := Lib.hid hU
         clear b4 kz hU kU bU)
    try rw [HU.out]
    exact bodyPost_ret (by simp [results, Try.results10, go_sem, u0, u1]) rfl ⟨rfl, HB.out⟩
  · have hAt : ¬ AtOk L cl n := fun k => hok (HOK.out.1 k)
    rw [HNO.out hAt, decide_eq_false hAt]
    unfold ptV pt0
    dsimp only
    have HZ := Lib.hid (fun V (h : Below W.heap.size W V) => show ∃ U, (V.setCell ⟨w.heap.size + 1, 0, none⟩ (.int .i64 0)).setCell ⟨w.heap.size + 1, 1, none⟩ (.int .i64 0) = U ∧ (U.cell? ⟨w.heap.size + 1, 0, none⟩ = some (.int .i64 0) ∧ U.cell? ⟨w.heap.size + 1, 1, none⟩ = some (.int .i64 0)) ∧ Below w.heap.size w U from by
      obtain ⟨U, hU, -, hu, bU⟩ := (HK.out.2.1.below h HK.out.2.1.lt).stored2 (.int .i64 0) (.int .i64 0)
      exact ⟨U, hU, hu, HK.out.2.2.1.trans ((h.mono HK.out.2.2.1.size).trans (bU w.heap.size (by omega)))⟩)
    have hways : nl = 0 ∨ (0 < nl ∧ ¬ FitL L) ∨ (0 < nl ∧ FitL L ∧ n < 0) ∨ (0 < nl ∧ FitL L ∧ 0 ≤ n ∧ lg < n) := by
      by_cases a1 : nl = 0
      · exact .inl a1
      · by_cases a2 : FitL L
        · by_cases a3 : n < 0
          · exact .inr (.inr (.inl ⟨by omega, a2, a3⟩))
          · refine .inr (.inr (.inr ⟨by omega, a2, by omega, ?_⟩))
            exact Classical.byContradiction fun k => hok ⟨by omega, a2, by omega, by omega⟩
        · exact .inr (.inl ⟨by omega, a2⟩)
    clear HOK hAt hok HNO HV C3 C4
    rcases hways with h1 | ⟨h1, h2⟩ | ⟨h1, h2, h3⟩ | ⟨h1, h2, h3, h4⟩
    · have hmz : ((nl : Int) == 0) = true := by simp; omega
      clear h1 C1 C2
      obtain ⟨U, hU, ⟨u0, u1⟩, bU⟩ := HZ.out W (Below.refl _ _)
      have HU := Lib.hid (And.intro hU bU)
      clear hU bU
      go_enter Try.func10, Try.ntmps10
      go_wp2_with (rw [hW])
      try rw [HU.out.1]
      exact bodyPost_ret (by simp [results, Try.results10, go_sem, u0, u1]) rfl ⟨rfl, HU.out.2⟩
    all_goals
      have hmz : ((nl : Int) == 0) = false := by simp; omega
      first
        | rw [decide_eq_true h2] at C1
        | rw [decide_eq_false h2] at C1
      (try have hn3 : ¬ n < 0 := by omega)
      go_enter Try.func10, Try.ntmps10
      go_wp2_with first
        | (rw [hW])
        | (go_at_call 18; (with_reducible refine Calls.mono (C1.out _ (Below.refl _ _)) ?_); rintro e w1 ⟨rfl, b1⟩
           have G1 := Lib.hid b1
           obtain ⟨⟨p0, p1⟩, -⟩ := Box.pair (HK.out.1.below G1.out HK.out.1.lt)
           obtain ⟨⟨z0, z1⟩, z2, z3⟩ := Box.pair (HK.out.2.1.below G1.out HK.out.2.1.lt)
           obtain ⟨U, hU, ⟨u0, u1⟩, bU⟩ := HZ.out _ G1.out
           have HU := Lib.hid (And.intro hU bU)
           clear b1 hU bU)
        | (go_at_call 21; (with_reducible refine Calls.mono (C2.out _ G1.out) ?_); rintro e w2 ⟨rfl, b2⟩
           have G2 := Lib.hid (G1.out.trans (b2.mono G1.out.size))
           obtain ⟨⟨z0, z1⟩, z2, z3⟩ := Box.pair (HK.out.2.1.below G2.out HK.out.2.1.lt)
           obtain ⟨U, hU, ⟨u0, u1⟩, bU⟩ := HZ.out _ G2.out
           have HU := Lib.hid (And.intro hU bU)
           clear b2 hU bU)
      try rw [HU.out.1]
      exact bodyPost_ret (by simp [results, Try.results10, go_sem, u0, u1]) rfl ⟨rfl, HU.out.2⟩
end Go.Proofs.Ytkebffkekinblaa
