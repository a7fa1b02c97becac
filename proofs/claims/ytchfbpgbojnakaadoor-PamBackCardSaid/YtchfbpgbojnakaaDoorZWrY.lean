/- Whole numbers, the document's own: what Of answers. -/
import Derived.Test.YtchfbpgbojnakaaDoorZLawF
import Derived.Test.YtchfbpgbojnakaaDoorZTxtD
namespace Go.Proofs.YtchfbpgbojnakaaDoor
open Go.RowKit Num

set_option maxRecDepth 10000 in
set_option maxHeartbeats 1600000 in
theorem ref2_Of (n : Int) (hn1 : -9223372036854775808 ≤ n) (hn2 : n ≤ 9223372036854775807) (w : World) :
    Calls Tryd.prog 36 #[.int .i64 n] w (GivesW n w) := by
  by_cases hneg : n < 0
  · obtain ⟨m, rfl⟩ : ∃ m : Nat, n = -1 - (m : Int) := ⟨(-1 - n).toNat, by omega⟩
    have hm : m < 9223372036854775808 := by omega
    have hw : IntKind.u64.wrap (-1 - (-1 - (m : Int))) = m := IntWalk.u64_in _ (by omega) |>.trans (by omega)
    go_enter Tryd.func36, Tryd.ntmps36
    go_wp2_with fail
    clear hw
    have B0 := below_new w (.cells #[.bool false, .slice none 0 0] 68)
    refine (ref_Of m (by omega) _).mono ?_
    rintro e w1 ⟨A1, xs, c1, rfl, hc1, hn1', hv1, hr1, hb1⟩
    have HN := Lib.hid hn1'
    have HV := Lib.hid hv1
    have hlx : xs.length ≤ 2 := HN.out.2.length_le (b := 4294967296) (by omega) (by rw [HV.out]; omega)
    clear hn1' hv1
    have b1a := below_new w1 (.cells #[.int .u32 1] 80)
    have cA := ref_add xs [1] A1 (some ⟨w1.heap.size, 0, none⟩) c1 1 _ _ (w1.alloc (.cells #[.int .u32 1] 80)) (hr1.on b1a) ((row_one w1 80 1).rd_all (S := fun b => b < (w1.alloc (.cells #[.int .u32 1] 80)).heap.size) (by simp)) (fun g hg => hg) (fun g hg => hg) (by omega) (by simp) HN.out.1 (by simp [Dg])
    go_wp2_with fail
    refine cA.mono ?_
    rintro e w2 ⟨A2, s, c2, rfl, hc2, hn2', hv2, hr2, hb2⟩
    have HN2 := Lib.hid hn2'
    have HV2 := Lib.hid (show val 4294967296 s = m + 1 by rw [hv2, HV.out]; simp [val])
    have hls : s.length ≤ 3 := HN2.out.2.length_le (b := 4294967296) (by omega) (by rw [HV2.out]; omega)
    clear hn2' hv2 cA
    have b12 := b1a.trans (hb2.mono (by simp))
    go_wp2_with fail
    refine (ref2_Make true s A2 c2 (-1 - (m : Int)) w2 hr2 (by omega) HN2.out.1 (by rw [wv_true, HV2.out]; omega)).mono ?_
    rintro e w3 ⟨A3, y, c3, rfl, hc3, hn3, hv3, hr3, hb3⟩
    have HN3 := Lib.hid hn3
    have HV3 := Lib.hid hv3
    have b13 := b12.trans (hb3.mono b12.size)
    have b2 := hb1.trans (b13.mono hb1.size)
    clear hn3 hv3
    obtain ⟨f0, f1, f2, f3⟩ := new_whole w b2
    obtain ⟨dd, hd⟩ : ∃ d, decide (-1 - (m : Int) < 0) = d := ⟨_, rfl⟩
    have HD := Lib.hid hd
    rw [hd]
    clear hd
    go_wp2_with fail
    obtain ⟨r0, r1, r2, r3⟩ := stored_whole f0 (.bool dd) (.slice A3 y.length c3)
    refine bodyPost_ret (v := .agg #[.bool dd, .slice A3 y.length c3]) (by simp [results, Tryd.results36, go_sem, r0, r1]) rfl ?_
    rw [← HD.out]
    exact gives_stored f0 (B0.trans (b2.mono B0.size)) (Nat.le_refl _) hc3 HN3.out HV3.out hr3 _ _
  · obtain ⟨m, rfl⟩ : ∃ m : Nat, n = (m : Int) := ⟨n.toNat, by omega⟩
    go_enter Tryd.func36, Tryd.ntmps36
    go_wp2_with fail
    have B0 := below_new w (.cells #[.bool false, .slice none 0 0] 68)
    refine (ref_Of m (by omega) _).mono ?_
    rintro e w1 ⟨A1, xs, c1, rfl, hc1, hn1', hv1, hr1, hb1⟩
    have HN := Lib.hid hn1'
    have HV := Lib.hid hv1
    have hlx : xs.length ≤ 2 := HN.out.2.length_le (b := 4294967296) (by omega) (by rw [HV.out]; omega)
    clear hn1' hv1
    go_wp2_with fail
    refine (ref2_Make false xs A1 c1 (m : Int) w1 hr1 (by omega) HN.out.1 (by rw [wv_false, HV.out])).mono ?_
    rintro e w3 ⟨A3, y, c3, rfl, hc3, hn3, hv3, hr3, hb3⟩
    have HN3 := Lib.hid hn3
    have HV3 := Lib.hid hv3
    have b2 := hb1.trans (hb3.mono hb1.size)
    clear hn3 hv3
    obtain ⟨f0, f1, f2, f3⟩ := new_whole w b2
    obtain ⟨dd, hd⟩ : ∃ d, decide ((m : Int) < 0) = d := ⟨_, rfl⟩
    have HD := Lib.hid hd
    rw [hd]
    clear hd
    go_wp2_with fail
    obtain ⟨r0, r1, r2, r3⟩ := stored_whole f0 (.bool dd) (.slice A3 y.length c3)
    refine bodyPost_ret (v := .agg #[.bool dd, .slice A3 y.length c3]) (by simp [results, Tryd.results36, go_sem, r0, r1]) rfl ?_
    rw [← HD.out]
    exact gives_stored f0 (B0.trans (b2.mono B0.size)) (Nat.le_refl _) hc3 HN3.out HV3.out hr3 _ _
end Go.Proofs.YtchfbpgbojnakaaDoor
