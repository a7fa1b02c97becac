/- Fractions, the document's own: what Mul and Add answer. -/
import Derived.Test.YtokaapljlpngdaaGreatDoorZFrX
import Derived.Deep.RegionWith
namespace Go.Proofs.YtokaapljlpngdaaGreatDoor
open Go.RowKit Num

/-- two arguments' boxes and the result's one -/
theorem frac_boxes2 (w : World) (v0 v1 v2 u0 u1 u2 : Value) : ∃ W, ((w.alloc (.cells #[v0, v1, v2] 29)).alloc (.cells #[u0, u1, u2] 29)).alloc (.cells #[.bool false, .slice none 0 0, .slice none 0 0] 29) = W ∧ Blk W w.heap.size 29 [v0, v1, v2] ∧ Blk W (w.heap.size + 1) 29 [u0, u1, u2] ∧ Blk W (w.heap.size + 1 + 1) 29 [.bool false, .slice none 0 0, .slice none 0 0] ∧ Below w.heap.size w W ∧ W.heap.size = w.heap.size + 3 :=
  ⟨_, rfl, ((Blk.new w 29 [v0, v1, v2]).alloc _).alloc _, (Blk.at_new (w.alloc (.cells #[v0, v1, v2] 29)) 29 [u0, u1, u2] (by simp)).alloc _, Blk.at_new ((w.alloc (.cells #[v0, v1, v2] 29)).alloc (.cells #[u0, u1, u2] 29)) 29 [.bool false, .slice none 0 0, .slice none 0 0] (by simp),
    (((below_one w _).alloc (by simp) _).alloc (by simp; omega) _), by simp⟩

theorem far_cells {v : World} {g g' : Nat} {t : TypeId} {a0 a1 a2 : Value} (k : Blk v g t [a0, a1, a2]) (hne : g ≠ g') (u0 u1 u2 : Value) :
    (((v.setCell ⟨g', 0, none⟩ u0).setCell ⟨g', 1, none⟩ u1).setCell ⟨g', 2, none⟩ u2).cell? ⟨g, 0, none⟩ = some a0 ∧ (((v.setCell ⟨g', 0, none⟩ u0).setCell ⟨g', 1, none⟩ u1).setCell ⟨g', 2, none⟩ u2).cell? ⟨g, 1, none⟩ = some a1 ∧ (((v.setCell ⟨g', 0, none⟩ u0).setCell ⟨g', 1, none⟩ u1).setCell ⟨g', 2, none⟩ u2).cell? ⟨g, 2, none⟩ = some a2 := by
  have k' := ((k.far (p := ⟨g', 0, none⟩) hne u0).far (p := ⟨g', 1, none⟩) hne u1).far (p := ⟨g', 2, none⟩) hne u2
  exact ⟨k'.cell 0 rfl, k'.cell 1 rfl, k'.cell 2 rfl⟩
/-- two fractions in their boxes, whose lower parts aren't 0 -/
def Worthed (w wc : World) (m : Nat) (P1 : Int) (Q1 : Nat) (P2 : Int) (Q2 : Nat) : Prop :=
  ∃ n1 a1 A1 c1 d1 D1 e1 n2 a2 A2 c2 d2 D2 e2, Blk wc w.heap.size 29 [.bool n1, .slice A1 a1.length c1, .slice D1 d1.length e1] ∧ Blk wc (w.heap.size + 1) 29 [.bool n2, .slice A2 a2.length c2, .slice D2 d2.length e2] ∧
    Dg 4294967296 a1 ∧ Dg 4294967296 d1 ∧ Dg 4294967296 a2 ∧ Dg 4294967296 d2 ∧ a1.length ≤ m ∧ d1.length ≤ m ∧ a2.length ≤ m ∧ d2.length ≤ m ∧ wv n1 a1 = P1 ∧ val 4294967296 d1 = Q1 ∧ wv n2 a2 = P2 ∧ val 4294967296 d2 = Q2 ∧
    Rd wc (fun g => g < wc.heap.size) .u32 A1 a1 ∧ Rd wc (fun g => g < wc.heap.size) .u32 D1 d1 ∧ Rd wc (fun g => g < wc.heap.size) .u32 A2 a2 ∧ Rd wc (fun g => g < wc.heap.size) .u32 D2 d2 ∧ Below w.heap.size w wc
theorem worthed {w v : World} {m : Nat} {P1 P2 : Int} {Q1 Q2 : Nat} {n n' : Bool} {B B' C C' : Option Addr} {i i' j j' k k' l l' : Nat} (k1 : Blk v w.heap.size 29 [.bool n, .slice B i j, .slice B' i' j']) (k2 : Blk v (w.heap.size + 1) 29 [.bool n', .slice C k l, .slice C' k' l']) (bb : Below w.heap.size w v)
    {n1 : Bool} {a1 : List Nat} {A1 : Option Addr} {c1 : Nat} {d1 : List Nat} {D1 : Option Addr} {e1 : Nat} {n2 : Bool} {a2 : List Nat} {A2 : Option Addr} {c2 : Nat} {d2 : List Nat} {D2 : Option Addr} {e2 : Nat}
    (g1 : Dg 4294967296 a1) (g2 : Dg 4294967296 d1) (g3 : Dg 4294967296 a2) (g4 : Dg 4294967296 d2) (l1 : a1.length ≤ m) (l2 : d1.length ≤ m) (l3 : a2.length ≤ m) (l4 : d2.length ≤ m) (v1 : wv n1 a1 = P1) (v2 : val 4294967296 d1 = Q1) (v3 : wv n2 a2 = P2) (v4 : val 4294967296 d2 = Q2)
    (r1 : Rd v (fun g => g < v.heap.size) .u32 A1 a1) (r2 : Rd v (fun g => g < v.heap.size) .u32 D1 d1) (r3 : Rd v (fun g => g < v.heap.size) .u32 A2 a2) (r4 : Rd v (fun g => g < v.heap.size) .u32 D2 d2) :
    Worthed w ((((((v.setCell ⟨w.heap.size, 0, none⟩ (.bool n1)).setCell ⟨w.heap.size, 1, none⟩ (.slice A1 a1.length c1)).setCell ⟨w.heap.size, 2, none⟩ (.slice D1 d1.length e1)).setCell ⟨w.heap.size + 1, 0, none⟩ (.bool n2)).setCell ⟨w.heap.size + 1, 1, none⟩ (.slice A2 a2.length c2)).setCell ⟨w.heap.size + 1, 2, none⟩ (.slice D2 d2.length e2)) m P1 Q1 P2 Q2 ∧
      (∀ g t vs, g ≠ w.heap.size → g ≠ w.heap.size + 1 → Blk v g t vs → Blk ((((((v.setCell ⟨w.heap.size, 0, none⟩ (.bool n1)).setCell ⟨w.heap.size, 1, none⟩ (.slice A1 a1.length c1)).setCell ⟨w.heap.size, 2, none⟩ (.slice D1 d1.length e1)).setCell ⟨w.heap.size + 1, 0, none⟩ (.bool n2)).setCell ⟨w.heap.size + 1, 1, none⟩ (.slice A2 a2.length c2)).setCell ⟨w.heap.size + 1, 2, none⟩ (.slice D2 d2.length e2)) g t vs) := by
  obtain ⟨U, hU, -, -, -, kU, bU, oU, sU⟩ := k1.three (.bool n1) (.slice A1 a1.length c1) (.slice D1 d1.length e1)
  have k2' := oU _ _ _ (by omega) k2
  have x1 := r1.far3 k1 _ _ _ hU
  have x2 := r2.far3 k1 _ _ _ hU
  have x3 := r3.far3 k1 _ _ _ hU
  have x4 := r4.far3 k1 _ _ _ hU
  rw [hU]
  obtain ⟨Z, hZ, -, -, -, kZ, bZ, oZ, sZ⟩ := k2'.three (.bool n2) (.slice A2 a2.length c2) (.slice D2 d2.length e2)
  rw [hZ]
  exact ⟨⟨n1, a1, A1, c1, d1, D1, e1, n2, a2, A2, c2, d2, D2, e2, oZ _ _ _ (by omega) kU, kZ, g1, g2, g3, g4, l1, l2, l3, l4, v1, v2, v3, v4, x1.far3 k2' _ _ _ hZ, x2.far3 k2' _ _ _ hZ, x3.far3 k2' _ _ _ hZ, x4.far3 k2' _ _ _ hZ, (bb.trans (bU _ (Nat.le_refl _))).trans (bZ _ (by omega))⟩,
    fun g t vs h1 h2 k => oZ _ _ _ h2 (oU _ _ _ h1 k)⟩

end Go.Proofs.YtokaapljlpngdaaGreatDoor
/- Fractions, the document's own: what Add answers. -/

namespace Go.Proofs.YtokaapljlpngdaaGreatDoor
open Go.RowKit Num

end Go.Proofs.YtokaapljlpngdaaGreatDoor
/- Fractions, the document's own: what Sub, Int and Half answer. -/

namespace Go.Proofs.YtokaapljlpngdaaGreatDoor
open Go.RowKit Num

theorem GivesF.scale {P : Int} {Q k : Nat} {w w' : World} {e : Ending} (hk : 0 < k) (h : GivesF P Q w e w') : GivesF (P * (k : Int)) (Q * k) w e w' := by
  obtain ⟨A, a, ca, D, d, cd, he, h1, h2, h3, h4, h5, h6, h7⟩ := h
  have hn : (P * (k : Int)).natAbs = P.natAbs * k := by rw [Int.natAbs_mul, Int.natAbs_natCast]
  have hg : Nat.gcd (P.natAbs * k) (Q * k) = Nat.gcd P.natAbs Q * k := Nat.gcd_mul_right _ _ _
  have hs : decide (P * (k : Int) < 0) = decide (P < 0) := by
    rcases Int.lt_or_le P 0 with hp | hp
    · rw [decide_eq_true hp, decide_eq_true (Int.mul_neg_of_neg_of_pos hp (by omega))]
    · have := Int.mul_nonneg hp (show (0 : Int) ≤ (k : Int) by omega)
      rw [decide_eq_false (by omega), decide_eq_false (by omega)]
  refine ⟨A, a, ca, D, d, cd, by rw [hs]; exact he, h1, h2, h3, h4, ?_, ?_, h7⟩
  · rw [hn, hg, Nat.mul_div_mul_right _ _ hk]; exact h5
  · rw [hn, hg, Nat.mul_div_mul_right _ _ hk]; exact h6
/-- what a reduced fraction's parts are worth -/
theorem reduced_parts {P : Int} {Q : Nat} (hQ : 0 < Q) {a d : List Nat} (hv : val 4294967296 a = P.natAbs / Nat.gcd P.natAbs Q) (hu : val 4294967296 d = Q / Nat.gcd P.natAbs Q) :
    0 < Nat.gcd P.natAbs Q ∧ upN (decide (P < 0)) a d * (Nat.gcd P.natAbs Q : Int) = P ∧ loD d * Nat.gcd P.natAbs Q = Q := by
  have hg : 0 < Nat.gcd P.natAbs Q := Nat.gcd_pos_of_pos_right _ hQ
  have e1 : P.natAbs / Nat.gcd P.natAbs Q * Nat.gcd P.natAbs Q = P.natAbs := Nat.div_mul_cancel (Nat.gcd_dvd_left _ _)
  have e2 : Q / Nat.gcd P.natAbs Q * Nat.gcd P.natAbs Q = Q := Nat.div_mul_cancel (Nat.gcd_dvd_right _ _)
  have hd : 0 < val 4294967296 d := by
    rw [hu]
    rcases Nat.eq_zero_or_pos (Q / Nat.gcd P.natAbs Q) with h | h
    · rw [h] at e2; omega
    · exact h
  rw [← hv] at e1
  rw [← hu] at e2
  refine ⟨hg, ?_, by rw [loD_of hd]; exact e2⟩
  rw [upN_of hd]
  generalize Nat.gcd P.natAbs Q = g at *
  have e3 : (val 4294967296 a : Int) * (g : Int) = (P.natAbs : Int) := by rw [← Int.natCast_mul, e1]
  rcases Int.lt_or_le P 0 with hp | hp
  · rw [decide_eq_true hp, wv_true, Int.neg_mul, e3]; omega
  · rw [decide_eq_false (by omega), wv_false, e3]; omega

theorem up_abs (n : Bool) (a d : List Nat) : (upN n a d).natAbs ≤ val 4294967296 a := by
  unfold upN
  split
  · simp
  · rw [wv_abs]; exact Nat.le_refl _
/-- how long a reduced fraction's parts are -/
theorem reduced_len {n : Bool} {a d x y : List Nat} {m : Nat} (hx : Norm 4294967296 x) (hy : Norm 4294967296 y) (ha : Dg 4294967296 a) (hd : Dg 4294967296 d) (hl : a.length ≤ m) (hl' : d.length ≤ m) (hm : 1 ≤ m) {P : Int} {g : Nat} (hP : P.natAbs = (upN n a d).natAbs) (hv : val 4294967296 x = P.natAbs / g) (hu : val 4294967296 y = loD d / g) : x.length ≤ m ∧ y.length ≤ m := by
  constructor
  · exact Nat.le_trans (len_le (by omega) hx.2 ha (by rw [hv, hP]; exact Nat.le_trans (Nat.div_le_self _ _) (up_abs n a d))) hl
  · have h1 : val 4294967296 y ≤ loD d := by rw [hu]; exact Nat.div_le_self _ _
    rcases Nat.eq_zero_or_pos (val 4294967296 d) with h | h
    · have : loD d = 1 := by unfold loD; rw [if_pos h]
      exact Nat.le_trans (len_le (a := [1]) (by omega) hy.2 (dg_one (by omega)) (by rw [this] at h1; exact h1)) hm
    · rw [loD_of h] at h1
      exact Nat.le_trans (len_le (by omega) hy.2 hd h1) hl'

end Go.Proofs.YtokaapljlpngdaaGreatDoor
