/- The law NatSums: how two numbers stand, their sum, their difference and their bits are the document's own. -/
import Derived.Test.YtkmpdnilhfmlnaaDoorNatE
import Derived.Test.YtkmpdnilhfmlnaaDoorRefD
namespace Go.Proofs.YtkmpdnilhfmlnaaDoor
open Go.RowKit Num

set_option maxHeartbeats 1600000 in
theorem walk_NatSums (a b : List Nat) (A A' : Option Addr) (ca cb : Nat) (w : World) (h : Rd w (fun g => g < w.heap.size) .u32 A a) (h' : Rd w (fun g => g < w.heap.size) .u32 A' b) (hl : a.length ≤ 2097152) (hl' : b.length ≤ 2097152) (hc : a.length ≤ ca) (hc' : b.length ≤ cb) (ha : Dg 4294967296 a) (hb : Dg 4294967296 b) (htab : Tab w) :
    Calls Tryd.prog 3 #[.slice A a.length ca, .slice A' b.length cb] w fun e w' => e = .returned (.bool true) ∧ Below w.heap.size w w' := by
  go_enter Tryd.func3, Tryd.ntmps3
  go_wp2_with fail
  refine (nat_Sub a b A A' ca cb _ _ w h h' (fun g hg => hg) (fun g hg => hg) (by omega) (by omega) hc hc' ha hb).mono ?_
  rintro e w1 ⟨A1, x1, c1, rfl, hc1, hn1, hv1, hr1, hb1⟩
  have B1 : Below w.heap.size w w1 := hb1
  have h1 := h.below B1 (fun g hg => hg)
  have h1' := h'.below B1 (fun g hg => hg)
  have s1 := B1.size
  obtain ⟨t, ht⟩ : ∃ t, decide (val 4294967296 b ≤ val 4294967296 a) = t := ⟨_, rfl⟩
  rw [ht]
  have HT := Lib.hid ht
  have HN1 := Lib.hid hn1
  have HV1 := Lib.hid hv1
  clear ht hn1 hv1
  go_wp2_with fail
  refine (ref_Sub a b A A' ca cb _ _ w1 h1 h1' (fun g hg => by omega) (fun g hg => by omega) (by omega) (by omega) ha hb).mono ?_
  rintro e w2 ⟨A2, x2, c2, rfl, hc2, hn2, hv2, hr2, hb2⟩
  obtain rfl : x1 = x2 := Norm.ext (b := 4294967296) (by omega) HN1.out hn2 (by rw [HV1.out, hv2])
  have B2 : Below w.heap.size w w2 := B1.trans (hb2.mono s1)
  have hr1 := hr1.below hb2 (fun g hg => hg)
  rw [HT.out]
  clear hn2 hv2 h1 h1'
  have h2 := h.below B2 (fun g hg => hg)
  have h2' := h'.below B2 (fun g hg => hg)
  have s2 := B2.size
  have s12 := hb2.size
  obtain ⟨z, hz⟩ : ∃ z, cmpI (val 4294967296 a) (val 4294967296 b) = z := ⟨_, rfl⟩
  have cN := nat_Cmp a b A A' ca cb _ _ w2 h2 h2' (by omega) (by omega) hc hc' ha hb
  rw [hz] at cN
  go_wp2_with fail
  refine cN.mono ?_
  rintro e w3 ⟨rfl, m, hw3⟩
  have b23 : Below w2.heap.size w2 w3 := by rw [hw3]; exact below_drewN (Below.refl _ _) m
  have B3 : Below w.heap.size w w3 := B2.trans (b23.mono s2)
  have s3 := B3.size
  have s23 := b23.size
  clear hw3 cN h2 h2'
  have cR := ref_Cmp a b A A' ca cb _ _ w3 (h.below B3 (fun g hg => hg)) (h'.below B3 (fun g hg => hg)) (fun g hg => by omega) (fun g hg => by omega) (by omega) (by omega) ha hb
  rw [hz] at cR
  clear hz
  go_wp2_with fail
  refine cR.mono ?_
  rintro e w4 ⟨rfl, b34⟩
  have B4 : Below w.heap.size w w4 := B3.trans (b34.mono s3)
  have s4 := B4.size
  have s34 := b34.size
  clear cR
  have cA := nat_Add a b A A' ca cb _ _ w4 (h.below B4 (fun g hg => hg)) (h'.below B4 (fun g hg => hg)) (fun g hg => by omega) (fun g hg => by omega) (by omega) (by omega) hc hc' ha hb
  go_wp2_with fail
  refine cA.mono ?_
  rintro e w5 ⟨A5, x5, c5, rfl, hc5, hn5, hv5, hr5, b45⟩
  have B5 : Below w.heap.size w w5 := B4.trans (b45.mono s4)
  have s5 := B5.size
  have s45 := b45.size
  have HN5 := Lib.hid hn5
  have HV5 := Lib.hid hv5
  clear cA hn5 hv5
  have cA := ref_add a b A A' ca cb _ _ w5 (h.below B5 (fun g hg => hg)) (h'.below B5 (fun g hg => hg)) (fun g hg => by omega) (fun g hg => by omega) (by omega) (by omega) ha hb
  go_wp2_with fail
  refine cA.mono ?_
  rintro e w6 ⟨A6, x6, c6, rfl, hc6, hn6, hv6, hr6, b56⟩
  obtain rfl : x5 = x6 := Norm.ext (b := 4294967296) (by omega) HN5.out hn6 (by rw [HV5.out, hv6])
  have B6 : Below w.heap.size w w6 := B5.trans (b56.mono s5)
  have s6 := B6.size
  have s56 := b56.size
  clear cA hn6 hv6
  have l5 : x5.length ≤ 2097152 + 1 := len_add (b := 4294967296) (by omega) HN5.out.2 ha hb HV5.out hl hl'
  have cS := ref_same x5 A5 A6 c5 c6 _ _ w6 (hr5.below b56 (fun g hg => hg)) hr6 (by omega)
  go_wp2_with fail
  refine cS.mono ?_
  rintro e w7 ⟨rfl, m7, hw7⟩
  have b67 : Below w6.heap.size w6 w7 := by rw [hw7]; exact below_drewN (Below.refl _ _) m7
  have B7 : Below w.heap.size w w7 := B6.trans (b67.mono s6)
  have s7 := B7.size
  have s67 := b67.size
  clear hw7 cS
  have l1 : x1.length ≤ a.length := len_le (b := 4294967296) (by omega) HN1.out.2 ha (by rw [HV1.out]; omega)
  have b27 : Below w2.heap.size w2 w7 := b23.trans ((b34.mono (by omega)).trans ((b45.mono (by omega)).trans ((b56.mono (by omega)).trans (b67.mono (by omega)))))
  have cS := ref_same x1 A1 A2 c1 c2 _ _ w7 (hr1.below b27 (fun g hg => by omega)) (hr2.below b27 (fun g hg => hg)) (by omega)
  go_wp2_with fail
  refine cS.mono ?_
  rintro e w8 ⟨rfl, m8, hw8⟩
  have b78 : Below w7.heap.size w7 w8 := by rw [hw8]; exact below_drewN (Below.refl _ _) m8
  have B8 : Below w.heap.size w w8 := B7.trans (b78.mono s7)
  have s8 := B8.size
  clear hw8 cS
  have cN := nat_Bits a A ca _ w8 (h.below B8 (fun g hg => hg)) (by omega) hc ha
  go_wp2_with fail
  refine cN.mono ?_
  rintro e w9 ⟨n, rfl, hn, _, rfl⟩
  have cR := ref_Bits a A ca _ w8 (h.below B8 (fun g hg => hg)) (fun g hg => by omega) (by omega) ha
  go_wp2_with fail
  refine cR.mono ?_
  rintro e w10 ⟨n', rfl, hn', hb10⟩
  obtain rfl := hn.unique hn'
  have B10 : Below w.heap.size w w10 := B8.trans (hb10.mono s8)
  have s10 := B10.size
  clear cN cR hn hn'
  have cL := law_lives w10 (htab.on B10)
  go_wp2_with fail
  refine cL.mono ?_
  rintro e w11 ⟨rfl, hb11⟩
  go_wp2
  go_ret
  exact ⟨rfl, B10.trans (hb11.mono s10)⟩
end Go.Proofs.YtkmpdnilhfmlnaaDoor
