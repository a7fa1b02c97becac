/- The law WholeDivs: how often a number is in another one, and what is left, is the document's own. -/
import Derived.Test.YtkmgmppmhgoadaaDoorWrD
namespace Go.Proofs.YtkmgmppmhgoadaaDoor
open Go.RowKit Num

theorem rest_abs (N D : Int) : (if D = 0 then 0 else N % D).natAbs ≤ D.natAbs := by
  by_cases h : D = 0
  · rw [if_pos h]; simp
  · rw [if_neg h]
    have h1 := Int.emod_nonneg N h
    have h2 := Int.emod_lt N h
    omega

set_option maxRecDepth 100000 in
set_option maxHeartbeats 6400000 in
theorem walk_WholeDivs (n1 n2 : Bool) (a b : List Nat) (A A' : Option Addr) (ca cb : Nat) (w : World) (h : Rd w (fun g => g < w.heap.size) .u32 A a) (h' : Rd w (fun g => g < w.heap.size) .u32 A' b) (hl : a.length ≤ 2097152) (hl' : b.length ≤ 2097152) (hc : a.length ≤ ca) (hc' : b.length ≤ cb) (ha : Dg 4294967296 a) (hb : Dg 4294967296 b) (htab : Tab w) :
    Calls Tryd.prog 4 #[.agg #[.bool n1, .slice A a.length ca], .agg #[.bool n2, .slice A' b.length cb]] w fun e w' => e = .returned (.bool true) ∧ Below w.heap.size w w' := by
  have xa := wv_abs n1 a
  have xb := wv_abs n2 b
  have B0 := below_new2 w (.cells #[.bool n1, .slice A a.length ca] 24) (.cells #[.bool n2, .slice A' b.length cb] 24)
  have cD := whole_Div n1 n2 a b A A' ca cb _ (h.on B0) (h'.on B0) (by omega) (by omega) hc hc' ha hb
  have cR : ∀ V, Below w.heap.size w V → Calls Tryd.prog 23 #[.agg #[.bool n1, .slice A a.length ca], .agg #[.bool n2, .slice A' b.length cb]] V (GivesWQR (wv n1 a) (wv n2 b) V) := fun V hV => ref2_Div n1 n2 a b A A' ca cb V (h.on hV) (h'.on hV) (by omega) (by omega) ha hb
  obtain ⟨N, hN⟩ : ∃ N, wv n1 a = N := ⟨_, rfl⟩
  obtain ⟨D, hD⟩ : ∃ D, wv n2 b = D := ⟨_, rfl⟩
  rw [hN] at cD cR xa
  rw [hD] at cD cR xb
  obtain ⟨t, ht⟩ : ∃ t, decide (D ≠ 0) = t := ⟨_, rfl⟩
  obtain ⟨dq, hdq⟩ : ∃ dq, decide (N / D < 0) = dq := ⟨_, rfl⟩
  unfold GivesWQR at cD cR
  rw [ht, hdq] at cD
  simp only [ht, hdq] at cR
  have CR := Lib.hid cR
  have HA := Lib.hid (show (N / D).natAbs ≤ val 4294967296 a by rw [← xa]; exact Int.natAbs_ediv_le_natAbs N D)
  have HB := Lib.hid (show (if D = 0 then 0 else N % D).natAbs ≤ val 4294967296 b by rw [← xb]; exact rest_abs N D)
  clear cR hN hD ht hdq xa xb
  obtain ⟨W, hW, k1, k2, k3, k4, k5, k6⟩ := boxes20 w (.bool n1) (.slice A a.length ca) (.bool n2) (.slice A' b.length cb) 24
  rw [hW] at cD
  go_enter Tryd.func4, Tryd.ntmps4
  go_wp2_with fail
  try rw [hW]
  clear hW B0
  have HS := Lib.hid k5
  have hs1 : w.heap.size + 1 < W.heap.size := by omega
  clear k5
  refine cD.mono ?_
  rintro e w1 ⟨A1, q, c1, A2, r, c2, rfl, hc1, hc2, hn1, hn2, hv1, hv2, hr1, hr2, b1⟩
  have B1 := k6.trans (b1.mono k6.size)
  have HN1 := Lib.hid hn1
  have HN2 := Lib.hid hn2
  have HV1 := Lib.hid hv1
  have HV2 := Lib.hid hv2
  obtain ⟨j1, j2, j3, j4⟩ := keep4 (W := W) k1 k2 k3 k4 hs1 b1
  have s1 := b1.size
  have z1 : w.heap.size < w1.heap.size := by omega
  have z2 : w.heap.size + 1 < w1.heap.size := by omega
  clear hn1 hn2 hv1 hv2 cD k1 k2 k3 k4
  have BV := B1.trans ((below_new2 w1 (.cells #[.bool dq, .slice A1 q.length c1] 24) (.cells #[.bool false, .slice A2 r.length c2] 24)).mono B1.size)
  have cc := CR.out _ BV
  obtain ⟨V, hV, i1, i2, i3, i4, i5, i6⟩ := boxes20 w1 (.bool dq) (.slice A1 q.length c1) (.bool false) (.slice A2 r.length c2) 24
  rw [hV] at cc BV
  obtain ⟨l1, l2, l3, l4⟩ := keep4 (W := w1) j1 j2 j3 j4 z2 i6
  go_wp2_with fail
  try rw [hV]
  clear hV l1 l2 l3 l4
  refine cc.mono ?_
  rintro e w2 ⟨A3, x, c3, A4, y, c4, rfl, hc3, hc4, hn3, hn4, hv3, hv4, hr3, hr4, b2⟩
  obtain rfl : q = x := Norm.ext (b := 4294967296) (by omega) HN1.out hn3 (HV1.out.trans hv3.symm)
  obtain rfl : r = y := Norm.ext (b := 4294967296) (by omega) HN2.out hn4 (HV2.out.trans hv4.symm)
  have hs2 : w1.heap.size + 1 < V.heap.size := by omega
  obtain ⟨k1, k2, k3, k4⟩ := keep4 (W := V) i1 i2 i3 i4 hs2 b2
  have B2 := BV.trans (b2.mono BV.size)
  have s2 := b2.size
  have z3 : w1.heap.size < w2.heap.size := by omega
  have z4 : w1.heap.size + 1 < w2.heap.size := by omega
  have J2 := i6.trans (b2.mono i6.size)
  have lq : q.length ≤ 2097152 := Nat.le_trans (len_le (b := 4294967296) (by omega) HN1.out.2 ha (by rw [HV1.out]; exact HA.out)) hl
  have lr : r.length ≤ 2097152 := Nat.le_trans (len_le (b := 4294967296) (by omega) HN2.out.2 hb (by rw [HV2.out]; exact HB.out)) hl'
  clear hn3 hn4 hv3 hv4 cc i1 i2 i3 i4 j1 j2 j3 j4 i5
  obtain ⟨U, hU, i1, i2, i3, i4, i5, i6'⟩ := boxes20 w2 (.bool dq) (.slice A3 q.length c3) (.bool false) (.slice A4 r.length c4) 24
  obtain ⟨l1, l2, l3, l4⟩ := keep4 (W := w2) k1 k2 k3 k4 z4 i6'
  have BU := B2.trans (i6'.mono B2.size)
  have JU := J2.trans (i6'.mono J2.size)
  have hs3 : w2.heap.size + 1 < U.heap.size := by omega
  have hs4 : w1.heap.size + 2 ≤ U.heap.size := by omega
  clear k1 k2 k3 k4
  have cS := ref2_Same dq q A1 A3 c1 c3 U (hr1.on JU) (hr3.on i6') (by omega)
  go_wp2_with fail
  try rw [hU]
  clear hU i5
  refine cS.mono ?_
  rintro e w3 ⟨rfl, b3⟩
  obtain ⟨o1, o2, o3, o4⟩ := keep4 (W := U) l1 l2 l3 l4 hs4 b3
  obtain ⟨m1, m2, m3, m4⟩ := keep4 (W := U) i1 i2 i3 i4 hs3 b3
  have B3 := BU.trans (b3.mono BU.size)
  have cS2 := ref2_Same false r A2 A4 c2 c4 w3 ((hr2.on JU).on b3) ((hr4.on i6').on b3) (by omega)
  clear cS l1 l2 l3 l4 i1 i2 i3 i4
  go_wp2_with fail
  refine cS2.mono ?_
  rintro e w4 ⟨rfl, b4⟩
  have B4 := B3.trans (b4.mono B3.size)
  have cL := law2_lives w4 (htab.on B4)
  clear cS2
  go_wp2_with fail
  refine cL.mono ?_
  rintro e w5 ⟨rfl, b5⟩
  clear cL
  go_wp2_with fail
  go_ret
  exact ⟨rfl, B4.trans (b5.mono B4.size)⟩
end Go.Proofs.YtkmgmppmhgoadaaDoor
