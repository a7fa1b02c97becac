/- Whole numbers: what Of, Int, Text answer. -/
import Derived.Test.YtkmgmppmhgoadaaDoorWhD
import Derived.Test.YtkmgmppmhgoadaaDoorTxtF
namespace Go.Proofs.YtkmgmppmhgoadaaDoor
open Go.RowKit Num

theorem wrap_back (m : Nat) (h : m < 18446744073709551616) : IntKind.u64.wrap (-IntKind.u64.wrap (-(m : Int))) = m := by
  simp [IntKind.wrap, IntKind.bits, IntKind.signed]
  omega

set_option maxRecDepth 10000 in
set_option maxHeartbeats 1600000 in
theorem whole_Of (n : Int) (hn1 : -9223372036854775808 ≤ n) (hn2 : n ≤ 9223372036854775807) (w : World) :
    Calls Tryd.prog 26 #[.int .i64 n] w (GivesW n w) := by
  by_cases hneg : n < 0
  · obtain ⟨m, rfl⟩ : ∃ m : Nat, n = -(m : Int) := ⟨(-n).toNat, by omega⟩
    go_enter Tryd.func26, Tryd.ntmps26
    go_wp2_with fail
    rw [wrap_back m (by omega)]
    have B0 := below_new w (.cells #[.bool false, .slice none 0 0] 24)
    refine (nat_Of m (by omega) _).mono ?_
    rintro e w1 ⟨A1, xs, c1, rfl, hc1, hn1, hv1, hr1, hb1⟩
    have HN := Lib.hid hn1
    have HV := Lib.hid (show wv true xs = -(m : Int) by rw [wv_true, hv1])
    clear hn1 hv1
    go_wp2_with fail
    refine (whole_own true xs A1 c1 (-(m : Int)) _ HN.out HV.out).mono ?_
    rintro e w2 ⟨rfl, hb2⟩
    have b2 := hb1.trans (hb2.mono hb1.size)
    obtain ⟨f0, f1, f2, f3⟩ := new_whole w b2
    obtain ⟨d, hd⟩ : ∃ d, decide (-(m : Int) < 0) = d := ⟨_, rfl⟩
    have HD := Lib.hid hd
    rw [hd]
    clear hd
    go_wp2_with fail
    obtain ⟨r0, r1, r2, r3⟩ := stored_whole f0 (.bool d) (.slice A1 xs.length c1)
    refine bodyPost_ret (v := .agg #[.bool d, .slice A1 xs.length c1]) (by simp [results, Tryd.results26, go_sem, r0, r1]) rfl ?_
    rw [← HD.out]
    exact gives_stored f0 (B0.trans (b2.mono B0.size)) (Nat.le_refl _) hc1 HN.out (abs_of HV.out) (hr1.on hb2) _ _
  · obtain ⟨m, rfl⟩ : ∃ m : Nat, n = (m : Int) := ⟨n.toNat, by omega⟩
    go_enter Tryd.func26, Tryd.ntmps26
    go_wp2_with fail
    have B0 := below_new w (.cells #[.bool false, .slice none 0 0] 24)
    refine (nat_Of m (by omega) _).mono ?_
    rintro e w1 ⟨A1, xs, c1, rfl, hc1, hn1, hv1, hr1, hb1⟩
    have HN := Lib.hid hn1
    have HV := Lib.hid (show wv false xs = (m : Int) by rw [wv_false, hv1])
    clear hn1 hv1
    go_wp2_with fail
    refine (whole_own false xs A1 c1 (m : Int) _ HN.out HV.out).mono ?_
    rintro e w2 ⟨rfl, hb2⟩
    have b2 := hb1.trans (hb2.mono hb1.size)
    obtain ⟨f0, f1, f2, f3⟩ := new_whole w b2
    obtain ⟨d, hd⟩ : ∃ d, decide ((m : Int) < 0) = d := ⟨_, rfl⟩
    have HD := Lib.hid hd
    rw [hd]
    clear hd
    go_wp2_with fail
    obtain ⟨r0, r1, r2, r3⟩ := stored_whole f0 (.bool d) (.slice A1 xs.length c1)
    refine bodyPost_ret (v := .agg #[.bool d, .slice A1 xs.length c1]) (by simp [results, Tryd.results26, go_sem, r0, r1]) rfl ?_
    rw [← HD.out]
    exact gives_stored f0 (B0.trans (b2.mono B0.size)) (Nat.le_refl _) hc1 HN.out (abs_of HV.out) (hr1.on hb2) _ _
end Go.Proofs.YtkmgmppmhgoadaaDoor
