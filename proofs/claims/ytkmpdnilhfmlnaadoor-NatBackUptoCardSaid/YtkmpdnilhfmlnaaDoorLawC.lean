/- The law NatProducts: the product of two numbers, and how often one is in the other one, are the document's own. -/
import Derived.Test.YtkmpdnilhfmlnaaDoorLawA
import Derived.Test.YtkmpdnilhfmlnaaDoorDivD
import Derived.Test.YtkmpdnilhfmlnaaDoorRefG
namespace Go.Proofs.YtkmpdnilhfmlnaaDoor
open Go.RowKit Num

set_option maxHeartbeats 3200000 in
theorem walk_NatProducts (a b : List Nat) (A A' : Option Addr) (ca cb : Nat) (w : World) (h : Rd w (fun g => g < w.heap.size) .u32 A a) (h' : Rd w (fun g => g < w.heap.size) .u32 A' b) (hl : a.length ≤ 2097152) (hl' : b.length ≤ 2097152) (hc : a.length ≤ ca) (hc' : b.length ≤ cb) (ha : Dg 4294967296 a) (hb : Dg 4294967296 b) (htab : Tab w) :
    Calls Tryd.prog 4 #[.slice A a.length ca, .slice A' b.length cb] w fun e w' => e = .returned (.bool true) ∧ Below w.heap.size w w' := by
  have B0 : Below w.heap.size w w := Below.refl _ _
  obtain ⟨t, ht⟩ : ∃ t, decide (0 < val 4294967296 b) = t := ⟨_, rfl⟩
  have cc := nat_Div a b A A' ca cb _ _ w h h' (fun g hg => hg) (fun g hg => hg) (by omega) (by omega) hc hc' ha hb
  have cr : ∀ W, Below w.heap.size w W → _ := fun W hW => ref_Div a b A A' ca cb _ _ W (h.below hW (fun g hg => hg)) (h'.below hW (fun g hg => hg)) (fun g hg => by have := hW.size; omega) (fun g hg => by have := hW.size; omega) (by omega) (by omega) ha hb
  unfold GivesQR at cc cr
  rw [ht] at cc
  simp only [ht] at cr
  have CR := Lib.hid cr
  clear ht cr
  go_enter Tryd.func4, Tryd.ntmps4
  go_wp2_with fail
  refine cc.mono ?_
  rintro e w1 ⟨A1, x1, c1, P1, y1, d1, rfl, hc1, hd1, hn1, hm1, hv1, hu1, hr1, hq1, b1⟩
  have B1 : Below w.heap.size w w1 := b1
  have s1 := B1.size
  have HN1 := Lib.hid hn1
  have HV1 := Lib.hid hv1
  have HM1 := Lib.hid hm1
  have HU1 := Lib.hid hu1
  clear hn1 hv1 hm1 hu1 cc
  have cc := CR.out w1 B1
  go_wp2_with fail
  refine cc.mono ?_
  rintro e w2 ⟨A2, x2, c2, P2, y2, d2, rfl, hc2, hd2, hn2, hm2, hv2, hu2, hr2, hq2, b2⟩
  obtain rfl : x1 = x2 := Norm.ext (b := 4294967296) (by omega) HN1.out hn2 (by rw [HV1.out, hv2])
  obtain rfl : y1 = y2 := Norm.ext (b := 4294967296) (by omega) HM1.out hm2 (by rw [HU1.out, hu2])
  have B2 : Below w.heap.size w w2 := B1.trans (b2.mono B1.size)
  have s2 := B2.size
  have z2 := b2.size
  clear hn2 hv2 hm2 hu2 cc CR
  have cc := nat_Mul a b A A' ca cb _ _ w2 (h.below B2 (fun g hg => hg)) (h'.below B2 (fun g hg => hg)) (fun g hg => by omega) (fun g hg => by omega) (by omega) (by omega) hc hc' ha hb
  go_wp2_with fail
  refine cc.mono ?_
  rintro e w3 ⟨A3, x3, c3, rfl, hc3, hn3, hv3, hr3, b3⟩
  have B3 : Below w.heap.size w w3 := B2.trans (b3.mono B2.size)
  have s3 := B3.size
  have z3 := b3.size
  have HN3 := Lib.hid hn3
  have HV3 := Lib.hid hv3
  clear hn3 hv3 cc
  have cc := ref_Mul a b A A' ca cb _ _ w3 (h.below B3 (fun g hg => hg)) (h'.below B3 (fun g hg => hg)) (fun g hg => by omega) (fun g hg => by omega) (by omega) (by omega) ha hb
  go_wp2_with fail
  refine cc.mono ?_
  rintro e w4 ⟨A4, x4, c4, rfl, hc4, hn4, hv4, hr4, b4⟩
  obtain rfl : x3 = x4 := Norm.ext (b := 4294967296) (by omega) HN3.out hn4 (by rw [HV3.out, hv4])
  have B4 : Below w.heap.size w w4 := B3.trans (b4.mono B3.size)
  have s4 := B4.size
  have z4 := b4.size
  clear hn4 hv4 cc
  have ll : x3.length ≤ 4611686018427387904 := Nat.le_trans (len_mul (b := 4294967296) (by omega) HN3.out.2 ha hb HV3.out) (by omega)
  have cc := ref_same x3 A3 A4 c3 c4 _ _ w4 (hr3.below b4 (fun g hg => hg)) (hr4) ll
  clear ll
  go_wp2_with fail
  refine cc.mono ?_
  rintro e w5 ⟨rfl, m5, hw5⟩
  have b5 : Below w4.heap.size w4 w5 := by rw [hw5]; exact below_drewN (Below.refl _ _) m5
  have B5 : Below w.heap.size w w5 := B4.trans (b5.mono B4.size)
  have s5 := B5.size
  have z5 := b5.size
  clear hw5 cc
  have ll : x1.length ≤ 4611686018427387904 := Nat.le_trans (len_le (b := 4294967296) (by omega) HN1.out.2 ha (by rw [HV1.out]; exact Nat.div_le_self _ _)) (by omega)
  have cc := ref_same x1 A1 A2 c1 c2 _ _ w5 (hr1.below (b2.trans ((b3.trans ((b4.trans (b5.mono z4)).mono z3)).mono z2)) (fun g hg => hg)) (hr2.below (b3.trans ((b4.trans (b5.mono z4)).mono z3)) (fun g hg => hg)) ll
  clear ll
  go_wp2_with fail
  refine cc.mono ?_
  rintro e w6 ⟨rfl, m6, hw6⟩
  have b6 : Below w5.heap.size w5 w6 := by rw [hw6]; exact below_drewN (Below.refl _ _) m6
  have B6 : Below w.heap.size w w6 := B5.trans (b6.mono B5.size)
  have s6 := B6.size
  have z6 := b6.size
  clear hw6 cc
  have ll : y1.length ≤ 4611686018427387904 := Nat.le_trans (len_le (b := 4294967296) (by omega) HM1.out.2 ha (by rw [HU1.out]; split <;> first | omega | exact Nat.mod_le _ _)) (by omega)
  have cc := ref_same y1 P1 P2 d1 d2 _ _ w6 (hq1.below (b2.trans ((b3.trans ((b4.trans ((b5.trans (b6.mono z5)).mono z4)).mono z3)).mono z2)) (fun g hg => hg)) (hq2.below (b3.trans ((b4.trans ((b5.trans (b6.mono z5)).mono z4)).mono z3)) (fun g hg => hg)) ll
  clear ll
  go_wp2_with fail
  refine cc.mono ?_
  rintro e w7 ⟨rfl, m7, hw7⟩
  have b7 : Below w6.heap.size w6 w7 := by rw [hw7]; exact below_drewN (Below.refl _ _) m7
  have B7 : Below w.heap.size w w7 := B6.trans (b7.mono B6.size)
  have s7 := B7.size
  have z7 := b7.size
  clear hw7 cc
  have cc := law_lives w7 (htab.on B7)
  go_wp2_with fail
  refine cc.mono ?_
  rintro e w8 ⟨rfl, b8⟩
  clear cc
  go_wp2
  go_ret
  exact ⟨rfl, B7.trans (b8.mono B7.size)⟩
end Go.Proofs.YtkmpdnilhfmlnaaDoor
