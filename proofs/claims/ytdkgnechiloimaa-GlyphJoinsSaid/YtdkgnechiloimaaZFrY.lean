/- Fractions, the document's own: what Mul and Add answer. -/
import Derived.Test.YtdkgnechiloimaaZFrX
import Derived.Deep.RegionWith
namespace Go.Proofs.Ytdkgnechiloimaa
open Go.RowKit Num

theorem far_cells {v : World} {g g' : Nat} {t : TypeId} {a0 a1 a2 : Value} (k : Blk v g t [a0, a1, a2]) (hne : g ≠ g') (u0 u1 u2 : Value) :
    (((v.setCell ⟨g', 0, none⟩ u0).setCell ⟨g', 1, none⟩ u1).setCell ⟨g', 2, none⟩ u2).cell? ⟨g, 0, none⟩ = some a0 ∧ (((v.setCell ⟨g', 0, none⟩ u0).setCell ⟨g', 1, none⟩ u1).setCell ⟨g', 2, none⟩ u2).cell? ⟨g, 1, none⟩ = some a1 ∧ (((v.setCell ⟨g', 0, none⟩ u0).setCell ⟨g', 1, none⟩ u1).setCell ⟨g', 2, none⟩ u2).cell? ⟨g, 2, none⟩ = some a2 := by
  have k' := ((k.far (p := ⟨g', 0, none⟩) hne u0).far (p := ⟨g', 1, none⟩) hne u1).far (p := ⟨g', 2, none⟩) hne u2
  exact ⟨k'.cell 0 rfl, k'.cell 1 rfl, k'.cell 2 rfl⟩
end Go.Proofs.Ytdkgnechiloimaa
/- Fractions, the document's own: what Add answers. -/

namespace Go.Proofs.Ytdkgnechiloimaa
open Go.RowKit Num

end Go.Proofs.Ytdkgnechiloimaa
/- Fractions, the document's own: what Sub, Int and Half answer. -/

namespace Go.Proofs.Ytdkgnechiloimaa
open Go.RowKit Num

theorem GivesF.scale {P : Int} {Q k : Nat} {w w' : World} {e : Ending} (hk : 0 < k) (h : GivesF P Q w e w') : GivesF (P * (k : Int)) (Q * k) w e w' := by
  obtain ⟨A, a, ca, D, d, cd, he, h1, h2, h3, h4, h5, h6, h7⟩ := h
  have hn : (P * (k : Int)).natAbs = P.natAbs * k := by rw [Int.natAbs_mul, Int.natAbs_natCast]
  have hg : Nat.gcd (P.natAbs * k) (Q * k) = Nat.gcd P.natAbs Q * k := Nat.gcd_mul_right _ _ _
  have hs : decide (P * (k : Int) < 0) = decide (P < 0) := by
    rcases Int.lt_or_le P 0 with hp | hp
    · rw [decide_eq_true hp, decide_eq_true (Int.mul_neg_of_neg_of_pos hp (by omega))]
    · have := Int.mul_nonneg hp (show (0 : Int) ≤ (k : Int) by omega)
      rw [decide_eq_false (by omega), decide_eq_false (by omega)]
  refine ⟨A, a, ca, D, d, cd, by rw [hs]; exact he, h1, h2, h3, h4, ?_, ?_, h7⟩
  · rw [hn, hg, Nat.mul_div_mul_right _ _ hk]; exact h5
  · rw [hn, hg, Nat.mul_div_mul_right _ _ hk]; exact h6
/-- what a reduced fraction's parts are worth -/
theorem reduced_parts {P : Int} {Q : Nat} (hQ : 0 < Q) {a d : List Nat} (hv : val 4294967296 a = P.natAbs / Nat.gcd P.natAbs Q) (hu : val 4294967296 d = Q / Nat.gcd P.natAbs Q) :
    0 < Nat.gcd P.natAbs Q ∧ upN (decide (P < 0)) a d * (Nat.gcd P.natAbs Q : Int) = P ∧ loD d * Nat.gcd P.natAbs Q = Q := by
  have hg : 0 < Nat.gcd P.natAbs Q := Nat.gcd_pos_of_pos_right _ hQ
  have e1 : P.natAbs / Nat.gcd P.natAbs Q * Nat.gcd P.natAbs Q = P.natAbs := Nat.div_mul_cancel (Nat.gcd_dvd_left _ _)
  have e2 : Q / Nat.gcd P.natAbs Q * Nat.gcd P.natAbs Q = Q := Nat.div_mul_cancel (Nat.gcd_dvd_right _ _)
  have hd : 0 < val 4294967296 d := by
    rw [hu]
    rcases Nat.eq_zero_or_pos (Q / Nat.gcd P.natAbs Q) with h | h
    · rw [h] at e2; omega
    · exact h
  rw [← hv] at e1
  rw [← hu] at e2
  refine ⟨hg, ?_, by rw [loD_of hd]; exact e2⟩
  rw [upN_of hd]
  generalize Nat.gcd P.natAbs Q = g at *
  have e3 : (val 4294967296 a : Int) * (g : Int) = (P.natAbs : Int) := by rw [← Int.natCast_mul, e1]
  rcases Int.lt_or_le P 0 with hp | hp
  · rw [decide_eq_true hp, wv_true, Int.neg_mul, e3]; omega
  · rw [decide_eq_false (by omega), wv_false, e3]; omega

theorem up_abs (n : Bool) (a d : List Nat) : (upN n a d).natAbs ≤ val 4294967296 a := by
  unfold upN
  split
  · simp
  · rw [wv_abs]; exact Nat.le_refl _
/-- how long a reduced fraction's parts are -/
theorem reduced_len {n : Bool} {a d x y : List Nat} {m : Nat} (hx : Norm 4294967296 x) (hy : Norm 4294967296 y) (ha : Dg 4294967296 a) (hd : Dg 4294967296 d) (hl : a.length ≤ m) (hl' : d.length ≤ m) (hm : 1 ≤ m) {P : Int} {g : Nat} (hP : P.natAbs = (upN n a d).natAbs) (hv : val 4294967296 x = P.natAbs / g) (hu : val 4294967296 y = loD d / g) : x.length ≤ m ∧ y.length ≤ m := by
  constructor
  · exact Nat.le_trans (len_le (by omega) hx.2 ha (by rw [hv, hP]; exact Nat.le_trans (Nat.div_le_self _ _) (up_abs n a d))) hl
  · have h1 : val 4294967296 y ≤ loD d := by rw [hu]; exact Nat.div_le_self _ _
    rcases Nat.eq_zero_or_pos (val 4294967296 d) with h | h
    · have : loD d = 1 := by unfold loD; rw [if_pos h]
      exact Nat.le_trans (len_le (a := [1]) (by omega) hy.2 (dg_one (by omega)) (by rw [this] at h1; exact h1)) hm
    · rw [loD_of h] at h1
      exact Nat.le_trans (len_le (by omega) hy.2 hd h1) hl'

end Go.Proofs.Ytdkgnechiloimaa
