/- Where ways meet, the document's own reckoning: areas of grid points, the part of the way, the point there: by what they are worth. -/
import Derived.Test.YtdmoibphidipeaaGreatDoorZCrX
import Derived.Test.YtdmoibphidipeaaGreatDoorZOaH
import Derived.Test.YtdmoibphidipeaaGreatDoorZOaE
import Derived.Test.YtdmoibphidipeaaGreatDoorZOaG
import Derived.Test.YtdmoibphidipeaaGreatDoorZOaA
namespace Go.Proofs.YtdmoibphidipeaaGreatDoor
open Go.RowKit Num

theorem one_lt8 : (1 : Nat) < 4294967296 ^ 8 := by decide
theorem lt8 {n : Nat} (h : n < 4294967296 ^ 4) : n < 4294967296 ^ 8 := Nat.lt_of_lt_of_le h (by decide)
theorem rv_SubI {P P' : Int} (h : (P - P').natAbs < 4294967296 ^ 4) : Fn2 43 (SV P 1 8) (SV P' 1 8) (SV (P - P') 1 8) :=
  (rv_Sub P P' 1 1 8 (by omega) (by omega) (by omega)).imp (fun _ _ _ _ _ k => k) (fun _ _ _ _ _ k => k) fun _ _ _ _ _ k => (SF.conv (P' := P - P') (Q' := 1) (by omega) (by omega) (by simp) k).toV (by omega) (lt8 h) one_lt8
theorem rv_AddI {P P' : Int} (h : (P + P').natAbs < 4294967296 ^ 4) : Fn2 74 (SV P 1 8) (SV P' 1 8) (SV (P + P') 1 8) :=
  (rv_Add P P' 1 1 8 (by omega) (by omega) (by omega)).imp (fun _ _ _ _ _ k => k) (fun _ _ _ _ _ k => k) fun _ _ _ _ _ k => (SF.conv (P' := P + P') (Q' := 1) (by omega) (by omega) (by simp) k).toV (by omega) (lt8 h) one_lt8
theorem rv_MulI {P P' : Int} (h : (P * P').natAbs < 4294967296 ^ 4) : Fn2 75 (SV P 1 8) (SV P' 1 8) (SV (P * P') 1 8) :=
  (rv_Mul P P' 1 1 8 (by omega) (by omega) (by omega)).imp (fun _ _ _ _ _ k => k) (fun _ _ _ _ _ k => k) fun _ _ _ _ _ k => (SF.conv (P' := P * P') (Q' := 1) (by omega) (by omega) (by simp) k).toV (by omega) (lt8 h) one_lt8
/-- a number of the grid -/
def InG (x : Int) : Prop := -8388607 ≤ x ∧ x ≤ 8388607
theorem fit_InG {p : Pt} (h : FitP p) : InG p.x ∧ InG p.y := by unfold FitP at h; unfold InG; omega
theorem mul_inG {x y B C : Int} (hx : -B ≤ x ∧ x ≤ B) (hy : -C ≤ y ∧ y ≤ C) (hB : 0 ≤ B) : -(B * C) ≤ x * y ∧ x * y ≤ B * C := by
  have h1 : (x * y).natAbs ≤ (B * C).natAbs := by
    rw [Int.natAbs_mul, Int.natAbs_mul]
    exact Nat.mul_le_mul (by omega) (by omega)
  have h2 : 0 ≤ B * C := Int.mul_nonneg hB (by omega)
  omega
/-- twice the area of three points of the grid, as the document reckons it -/
def arI (P1 P2 P3 P4 P5 P6 : Int) : Int := P1 * (P4 - P6) + P3 * (P6 - P2) + P5 * (P2 - P4)
theorem arI_in {P1 P2 P3 P4 P5 P6 : Int} (h1 : InG P1) (h2 : InG P2) (h3 : InG P3) (h4 : InG P4) (h5 : InG P5) (h6 : InG P6) : -1125899906842624 ≤ arI P1 P2 P3 P4 P5 P6 ∧ arI P1 P2 P3 P4 P5 P6 ≤ 1125899906842624 := by
  unfold InG at *
  have a := mul_inG (B := 8388607) (C := 16777214) h1 (show -16777214 ≤ P4 - P6 ∧ P4 - P6 ≤ 16777214 by omega) (by omega)
  have b := mul_inG (B := 8388607) (C := 16777214) h3 (show -16777214 ≤ P6 - P2 ∧ P6 - P2 ≤ 16777214 by omega) (by omega)
  have c := mul_inG (B := 8388607) (C := 16777214) h5 (show -16777214 ≤ P2 - P4 ∧ P2 - P4 ≤ 16777214 by omega) (by omega)
  unfold arI
  omega
/-- an area's steps -/
theorem area_chain {P1 P2 P3 P4 P5 P6 : Int} (h1 : InG P1) (h2 : InG P2) (h3 : InG P3) (h4 : InG P4) (h5 : InG P5) (h6 : InG P6) :
    ∃ V0 V1 V2 V3 V4 V5 V6, Fn2 43 (SV P4 1 8) (SV P6 1 8) V0 ∧ Fn2 75 (SV P1 1 8) V0 V1 ∧ Fn2 43 (SV P6 1 8) (SV P2 1 8) V2 ∧ Fn2 75 (SV P3 1 8) V2 V3 ∧ Fn2 74 V1 V3 V4 ∧ Fn2 43 (SV P2 1 8) (SV P4 1 8) V5 ∧ Fn2 75 (SV P5 1 8) V5 V6 ∧ Fn2 74 V4 V6 (SV (arI P1 P2 P3 P4 P5 P6) 1 8) := by
  have hh := arI_in h1 h2 h3 h4 h5 h6
  unfold arI at hh ⊢
  unfold InG at *
  have a := mul_inG (B := 8388607) (C := 16777214) h1 (show -16777214 ≤ P4 - P6 ∧ P4 - P6 ≤ 16777214 by omega) (by omega)
  have b := mul_inG (B := 8388607) (C := 16777214) h3 (show -16777214 ≤ P6 - P2 ∧ P6 - P2 ≤ 16777214 by omega) (by omega)
  have c := mul_inG (B := 8388607) (C := 16777214) h5 (show -16777214 ≤ P2 - P4 ∧ P2 - P4 ≤ 16777214 by omega) (by omega)
  have e4 : (340282366920938463463374607431768211456 : Nat) = 4294967296 ^ 4 := by decide
  exact ⟨_, _, _, _, _, _, _, rv_SubI (by omega), rv_MulI (by omega), rv_SubI (by omega), rv_MulI (by omega), rv_AddI (by omega), rv_SubI (by omega), rv_MulI (by omega), rv_AddI (by omega)⟩
/-- a part of the way's steps: one number of the point there -/
theorem toward_chain {P1 P3 F : Int} {N : Nat} (h1 : InG P1) (h3 : InG P3) (hN : 0 < N) (hN2 : N ≤ 2251799813685248) (hF : -2251799813685248 ≤ F ∧ F ≤ 2251799813685248) :
    ∃ S50 S51, Fn2 43 (SV P3 1 8) (SV P1 1 8) S50 ∧ Fn2 75 (SV F N 8) S50 S51 ∧ Fn2 74 (SV P1 1 8) S51 (SG (P1 * N + F * (P3 - P1)) N 8) := by
  unfold InG at *
  have e4 : (340282366920938463463374607431768211456 : Nat) = 4294967296 ^ 4 := by decide
  have a := mul_inG (B := 2251799813685248) (C := 16777214) hF (show -16777214 ≤ P3 - P1 ∧ P3 - P1 ≤ 16777214 by omega) (by omega)
  have b := mul_inG (B := 8388607) (C := 2251799813685248) h1 (show -2251799813685248 ≤ (N : Int) ∧ (N : Int) ≤ 2251799813685248 by omega) (by omega)
  have m1 := (rv_Mul F (P3 - P1) N 1 8 hN (by omega) (by omega)).fit (m := 8) (i := 4) (j := 4) (by omega) (by omega) (by omega) (by omega) (by omega)
  rw [Nat.mul_one] at m1
  refine ⟨_, _, rv_SubI (by omega), m1, ?_⟩
  refine (rv_Add P1 (F * (P3 - P1)) 1 N 8 (by omega) hN (by omega)).imp (fun _ _ _ _ _ k => k) (fun _ _ _ _ _ k => k) fun _ _ _ _ _ k => ?_
  have k2 := SF.conv (P' := P1 * N + F * (P3 - P1)) (Q' := N) (by omega) hN (by simp) k
  exact k2.toG (lt8 (by omega)) (lt8 (by omega))
/-- one by another that is not 0 -/
theorem rv_DivN (P P' : Int) (m : Nat) (hP : P' ≠ 0) (hm : m ≤ 2097152) (n n' : Bool) (a d a' d' : List Nat) (A D A' D' : Option Addr) (ca cd ca' cd' : Nat) (w : World) (hS : SV P 1 m n a ca d cd) (hT : SV P' 1 m n' a' ca' d' cd')
    (r : Rd w (fun g => g < w.heap.size) .u32 A a) (q : Rd w (fun g => g < w.heap.size) .u32 D d) (r' : Rd w (fun g => g < w.heap.size) .u32 A' a') (q' : Rd w (fun g => g < w.heap.size) .u32 D' d') :
    Calls Tryz.prog 42 #[.agg #[.bool n, .slice A a.length ca, .slice D d.length cd], .agg #[.bool n', .slice A' a'.length ca', .slice D' d'.length cd']] w
      (fun e w' => ∃ v, e = .returned (.tuple #[v, .int .i64 0]) ∧ Gv (SF (acrossN P P') P'.natAbs) w (.returned v) w') := by
  refine (ref4_Div n n' a d a' d' A D A' D' ca cd ca' cd' w r q r' q' (Nat.le_trans hS.2.2.2.2.1 hm) (Nat.le_trans hS.2.2.2.2.2.1 hm) (Nat.le_trans hT.2.2.2.2.1 hm) (Nat.le_trans hT.2.2.2.2.2.1 hm) hS.2.2.1 hS.2.2.2.1 hT.2.2.1 hT.2.2.2.1).mono ?_
  intro e w' h
  have hd := loD_pos d
  have hd' := loD_pos d'
  have hS7 : upN n a d = P * (loD d : Int) := by have := hS.2.2.2.2.2.2; omega
  have hT7 : upN n' a' d' = P' * (loD d' : Int) := by have := hT.2.2.2.2.2.2; omega
  rw [hS7, hT7] at h
  have hK : 0 < (loD d' : Int) * (loD d : Int) := Int.mul_pos (by omega) (by omega)
  have e1 : P' * (loD d' : Int) * (loD d : Int) = P' * ((loD d' : Int) * (loD d : Int)) := by ac_rfl
  have e2 : P * (loD d : Int) * (loD d' : Int) = P * ((loD d' : Int) * (loD d : Int)) := by ac_rfl
  rw [e1, e2] at h
  have e3 : ((loD d' : Int) * (loD d : Int)) = ((loD d' * loD d : Nat) : Int) := by rw [Int.natCast_mul]
  rw [e3] at h hK
  generalize loD d' * loD d = K at h hK
  have hK' : 0 < K := by omega
  rcases h with ⟨h0, -, -⟩ | ⟨h0, v, rfl, h⟩
  · exfalso
    rcases Int.mul_eq_zero.1 (show P' * (K : Int) = 0 by omega) with c | c <;> omega
  · refine ⟨v, rfl, gv_of_f (h.conv h0 (by omega) ?_)⟩
    have hpos : (P' * (K : Int) < 0) ↔ P' < 0 := by
      constructor
      · intro c
        apply Classical.byContradiction
        intro c2
        have := Int.mul_nonneg (show 0 ≤ P' by omega) (show 0 ≤ (K : Int) by omega)
        omega
      · intro c
        exact Int.mul_neg_of_neg_of_pos c hK
    rw [Int.natAbs_mul, Int.natAbs_natCast, Int.natCast_mul]
    unfold acrossN
    by_cases c : P' < 0
    · rw [if_pos (hpos.2 c), if_pos c]
      grind
    · rw [if_neg (fun x => c (hpos.1 x)), if_neg c]
      grind
/-- the area as a rational -/
theorem arI_crQ (c d a : Pt) : ((arI c.x c.y d.x d.y a.x a.y : Int) : Rat) = crQ (qAt c) (qAt d) (qAt a) := by
  unfold arI crQ qAt
  simp only [Rat.intCast_add, Rat.intCast_sub, Rat.intCast_mul]
  grind
theorem across_div {p r : Int} (h : r ≠ 0) : qf (acrossN p r) r.natAbs = (p : Rat) / (r : Rat) := by
  have hr : (r : Rat) ≠ 0 := by exact_mod_cast h
  unfold qf acrossN
  by_cases c : r < 0
  · rw [if_pos c]
    have e : ((r.natAbs : Nat) : Rat) = -(r : Rat) := by
      have : ((r.natAbs : Nat) : Int) = -r := by omega
      exact_mod_cast congrArg (fun x : Int => (x : Rat)) this
    rw [e, Rat.intCast_neg]
    grind
  · rw [if_neg c]
    have e : ((r.natAbs : Nat) : Rat) = (r : Rat) := by
      have : ((r.natAbs : Nat) : Int) = r := by omega
      exact_mod_cast congrArg (fun x : Int => (x : Rat)) this
    rw [e]
theorem toward_qf {P1 P3 F : Int} {N : Nat} (hN : 0 < N) : qf (P1 * N + F * (P3 - P1)) N = (P1 : Rat) + qf F N * ((P3 : Rat) - (P1 : Rat)) := by
  have h : (N : Rat) ≠ 0 := by have := nat_pos hN; grind
  unfold qf
  simp only [Rat.intCast_add, Rat.intCast_sub, Rat.intCast_mul, Rat.intCast_natCast]
  grind
/-- the point that the document reckons is where the lines meet -/
theorem cross_qs (a b c d : Pt) (hr : arI c.x c.y d.x d.y a.x a.y - arI c.x c.y d.x d.y b.x b.y ≠ 0) {F : Int} {N : Nat} (hF : F = acrossN (arI c.x c.y d.x d.y a.x a.y) (arI c.x c.y d.x d.y a.x a.y - arI c.x c.y d.x d.y b.x b.y)) (hN : N = (arI c.x c.y d.x d.y a.x a.y - arI c.x c.y d.x d.y b.x b.y).natAbs) :
    qs (a.x * N + F * (b.x - a.x)) (a.y * N + F * (b.y - a.y)) N N = crossQ (qAt a) (qAt b) (qAt c) (qAt d) := by
  have hN0 : 0 < N := by omega
  have e := across_div (p := arI c.x c.y d.x d.y a.x a.y) hr
  rw [← hF, ← hN] at e
  have e1 := arI_crQ c d a
  have e2 := arI_crQ c d b
  rw [Rat.intCast_sub, e1, e2] at e
  unfold qs crossQ
  rw [toward_qf hN0, toward_qf hN0, e]
  rfl
theorem par_iff (a b c d : Pt) : arI c.x c.y d.x d.y a.x a.y - arI c.x c.y d.x d.y b.x b.y = 0 ↔ crQ (qAt c) (qAt d) (qAt a) = crQ (qAt c) (qAt d) (qAt b) := by
  rw [← arI_crQ, ← arI_crQ]
  constructor
  · intro h
    rw [show arI c.x c.y d.x d.y a.x a.y = arI c.x c.y d.x d.y b.x b.y by omega]
  · intro h
    have : arI c.x c.y d.x d.y a.x a.y = arI c.x c.y d.x d.y b.x b.y := by exact_mod_cast h
    omega
theorem ltq {x y : Int} (h : x < y) : (x : Rat) < (y : Rat) := by exact_mod_cast h
/-- ways whose boxes lie apart have nothing in common -/
theorem box_apart {a b c d : Pt} (h : max a.x b.x < min c.x d.x ∨ max c.x d.x < min a.x b.x ∨ max a.y b.y < min c.y d.y ∨ max c.y d.y < min a.y b.y) : IsMeet (qAt a) (qAt b) (qAt c) (qAt d) [] := by
  rcases h with h | h | h | h
  · exact apart_x (ltq (by omega)) (ltq (by omega)) (ltq (by omega)) (ltq (by omega))
  · exact apart_x' (ltq (by omega)) (ltq (by omega)) (ltq (by omega)) (ltq (by omega))
  · exact apart_y (ltq (by omega)) (ltq (by omega)) (ltq (by omega)) (ltq (by omega))
  · exact apart_y' (ltq (by omega)) (ltq (by omega)) (ltq (by omega)) (ltq (by omega))
end Go.Proofs.YtdmoibphidipeaaGreatDoor
/- Where ways meet: a way in its box. -/

namespace Go.Proofs.YtdmoibphidipeaaGreatDoor
open Go.RowKit

def segCells (a b : Pt) : List Value := [.int .i64 a.x, .int .i64 a.y, .int .i64 b.x, .int .i64 b.y]
def segV (a b : Pt) : Value := .agg #[.int .i64 a.x, .int .i64 a.y, .int .i64 b.x, .int .i64 b.y]
theorem Box.quad {w : World} {g : Nat} {t : TypeId} {a b c d : Value} (h : Box w g t [a, b, c, d]) : w.cell? ⟨g, 0, none⟩ = some a ∧ w.cell? ⟨g, 1, none⟩ = some b ∧ w.cell? ⟨g, 2, none⟩ = some c ∧ w.cell? ⟨g, 3, none⟩ = some d :=
  ⟨h.cell 0 rfl, h.cell 1 rfl, h.cell 2 rfl, h.cell 3 rfl⟩
theorem seg_box (w : World) (a b : Pt) : ∃ W, w.alloc (.cells #[.int .i64 a.x, .int .i64 a.y, .int .i64 b.x, .int .i64 b.y] 25) = W ∧ Box W w.heap.size 25 (segCells a b) ∧ Below w.heap.size w W :=
  ⟨_, rfl, Box.new w _ (segCells a b), (Below.refl _ _).alloc (Nat.le_refl _) _⟩
theorem seg_boxes (w : World) (a b c d : Pt) : ∃ W, (w.alloc (.cells #[.int .i64 a.x, .int .i64 a.y, .int .i64 b.x, .int .i64 b.y] 25)).alloc (.cells #[.int .i64 c.x, .int .i64 c.y, .int .i64 d.x, .int .i64 d.y] 25) = W ∧ Box W w.heap.size 25 (segCells a b) ∧ Box W (w.heap.size + 1) 25 (segCells c d) ∧ Below w.heap.size w W ∧ W.heap.size = w.heap.size + 2 := by
  have k1 := Box.new w 25 (segCells a b)
  have k2 := Box.new (w.alloc (.cells #[.int .i64 a.x, .int .i64 a.y, .int .i64 b.x, .int .i64 b.y] 25)) 25 (segCells c d)
  have e : (w.alloc (.cells #[.int .i64 a.x, .int .i64 a.y, .int .i64 b.x, .int .i64 b.y] 25)).heap.size = w.heap.size + 1 := by simp
  rw [e] at k2
  exact ⟨_, rfl, k1.alloc _, k2, ((Below.refl _ w).alloc (Nat.le_refl _) _).alloc (by simp) _, by simp⟩
theorem seg_pt_boxes (w : World) (a b p : Pt) : ∃ W, (w.alloc (.cells #[.int .i64 a.x, .int .i64 a.y, .int .i64 b.x, .int .i64 b.y] 25)).alloc (.cells #[.int .i64 p.x, .int .i64 p.y] 23) = W ∧ Box W w.heap.size 25 (segCells a b) ∧ Box W (w.heap.size + 1) 23 (ptCells p) ∧ Below w.heap.size w W ∧ W.heap.size = w.heap.size + 2 := by
  have k1 := Box.new w 25 (segCells a b)
  have k2 := Box.new (w.alloc (.cells #[.int .i64 a.x, .int .i64 a.y, .int .i64 b.x, .int .i64 b.y] 25)) 23 (ptCells p)
  have e : (w.alloc (.cells #[.int .i64 a.x, .int .i64 a.y, .int .i64 b.x, .int .i64 b.y] 25)).heap.size = w.heap.size + 1 := by simp
  rw [e] at k2
  exact ⟨_, rfl, k1.alloc _, k2, ((Below.refl _ w).alloc (Nat.le_refl _) _).alloc (by simp) _, by simp⟩
end Go.Proofs.YtdmoibphidipeaaGreatDoor
/- Where ways meet, the document's own: May, and Meet where one may not be or the boxes lie apart. -/

namespace Go.Proofs.YtdmoibphidipeaaGreatDoor
open Go.RowKit Num

set_option maxRecDepth 10000 in
set_option maxHeartbeats 1600000 in
theorem ref17_May (a b : Pt) (w : World) :
    Calls Tryz.prog 39 #[segV a b] w fun e w' => e = .returned (.bool (decide (FitP a ∧ FitP b))) ∧ Below w.heap.size w w' := by
  obtain ⟨W, hW, k1, bW⟩ := seg_box w a b
  have cA := fun V => ref10_Fits a V
  have cB := fun V => ref10_Fits b V
  unfold segCells at k1
  obtain ⟨p0, p1, p2, p3⟩ := Box.quad k1
  have HK := Lib.hid (And.intro k1 bW)
  unfold segV ptV at *
  clear k1 bW
  by_cases ha : FitP a
  · rw [decide_eq_true ha] at cA
    obtain ⟨d, hd⟩ : ∃ d : Bool, decide (FitP b) = d := ⟨_, rfl⟩
    have hr : decide (FitP a ∧ FitP b) = d := by rw [← hd]; exact decide_eq_decide.2 ⟨fun h => h.2, fun h => ⟨ha, h⟩⟩
    rw [hd] at cB
    rw [hr]
    have CA := Lib.hid cA
    have CB := Lib.hid cB
    clear cA cB hd hr ha
    go_enter Tryz.func39, Tryz.ntmps39
    go_wp2_with first
      | (rw [hW])
      | (go_at_call 73; (with_reducible refine Calls.mono (CA.out _) ?_); rintro e w1 ⟨rfl, b1⟩
         obtain ⟨q0, q1, q2, q3⟩ := Box.quad (HK.out.1.below b1 HK.out.1.lt))
      | (go_at_call 73; (with_reducible refine Calls.mono (CB.out _) ?_); rintro e w2 ⟨rfl, b2⟩)
    go_ret
    exact ⟨rfl, HK.out.2.trans ((b1.trans (b2.mono b1.size)).mono HK.out.2.size)⟩
  · rw [decide_eq_false ha] at cA
    rw [decide_eq_false (fun h => ha h.1)]
    have CA := Lib.hid cA
    clear cA cB ha
    go_enter Tryz.func39, Tryz.ntmps39
    go_wp2_with first
      | (rw [hW])
      | (go_at_call 73; (with_reducible refine Calls.mono (CA.out _) ?_); rintro e w1 ⟨rfl, b1⟩)
    go_ret
    exact ⟨rfl, HK.out.2.trans (b1.mono HK.out.2.size)⟩
/-- the row that both Meets answer, as it lies in memory -/
def MeetR (a b c d : Pt) (R : List Qp) : Prop := ((FitP a ∧ FitP b) ∧ FitP c ∧ FitP d → IsMeet (qAt a) (qAt b) (qAt c) (qAt d) R) ∧ (¬ ((FitP a ∧ FitP b) ∧ FitP c ∧ FitP d) → R = [])
def MeetTo (a b c d : Pt) (M : Nat) (w : World) (e : Ending) (w' : World) : Prop :=
  ∃ v xs R, e = .returned v ∧ OwnS w' w.heap.size v xs.length (flat xs) ∧ RowW M w' xs R ∧ MeetR a b c d R ∧ Below w.heap.size w w'
theorem MeetTo.none {a b c d : Pt} {M : Nat} {w w' : World} (h : MeetR a b c d []) (k : Below w.heap.size w w') : MeetTo a b c d M w (.returned (.slice none 0 0)) w' :=
  ⟨_, [], [], rfl, OwnS.nil _ _, RowW.nil _ _, h, k⟩

set_option maxRecDepth 10000 in
set_option maxHeartbeats 3200000 in
/-- one of them may not be -/
theorem ref17_MeetNo (a b c d : Pt) (M : Nat) (hn : ¬ ((FitP a ∧ FitP b) ∧ FitP c ∧ FitP d)) (w : World) :
    Calls Tryz.prog 11 #[segV a b, segV c d] w (MeetTo a b c d M w) := by
  obtain ⟨W, hW, k1, k2, bW, sW⟩ := seg_boxes w a b c d
  have cA := fun V => ref17_May a b V
  have cB := fun V => ref17_May c d V
  have HR := Lib.hid (show MeetR a b c d [] from ⟨fun h => absurd h hn, fun _ => rfl⟩)
  unfold segCells at k1 k2
  obtain ⟨p0, p1, p2, p3⟩ := Box.quad k1
  have HK := Lib.hid (And.intro k1 (And.intro k2 bW))
  unfold segV at *
  clear k1 k2 bW
  by_cases ha : FitP a ∧ FitP b
  · rw [decide_eq_true ha] at cA
    rw [decide_eq_false (fun h => hn ⟨ha, h⟩)] at cB
    have CA := Lib.hid cA
    have CB := Lib.hid cB
    clear cA cB ha hn
    go_enter Tryz.func11, Tryz.ntmps11
    go_wp2_with first
      | (rw [hW])
      | (go_at_call 39; (with_reducible refine Calls.mono (CA.out _) ?_); rintro e w1 ⟨rfl, b1⟩
         obtain ⟨q0, q1, q2, q3⟩ := Box.quad (HK.out.2.1.below b1 HK.out.2.1.lt))
      | (go_at_call 39; (with_reducible refine Calls.mono (CB.out _) ?_); rintro e w2 ⟨rfl, b2⟩)
    go_ret
    exact MeetTo.none HR.out (HK.out.2.2.trans ((b1.trans (b2.mono b1.size)).mono HK.out.2.2.size))
  · rw [decide_eq_false ha] at cA
    have CA := Lib.hid cA
    clear cA cB ha hn
    go_enter Tryz.func11, Tryz.ntmps11
    go_wp2_with first
      | (rw [hW])
      | (go_at_call 39; (with_reducible refine Calls.mono (CA.out _) ?_); rintro e w1 ⟨rfl, b1⟩)
    go_ret
    exact MeetTo.none HR.out (HK.out.2.2.trans (b1.mono HK.out.2.2.size))
end Go.Proofs.YtdmoibphidipeaaGreatDoor
