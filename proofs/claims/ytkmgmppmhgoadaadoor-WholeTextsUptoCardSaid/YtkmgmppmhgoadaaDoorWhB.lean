/- Whole numbers: what plus, Add, Sub, Neg answer. -/
import Derived.Test.YtkmgmppmhgoadaaDoorWhA
namespace Go.Proofs.YtkmgmppmhgoadaaDoor
open Go.RowKit Num

theorem wv_add (neg : Bool) {xs a b : List Nat} (h : val 4294967296 xs = val 4294967296 a + val 4294967296 b) : wv neg xs = wv neg a + wv neg b := by unfold wv; cases neg <;> simp <;> omega
theorem wv_sub (neg : Bool) {xs a b : List Nat} (h : val 4294967296 xs = val 4294967296 a - val 4294967296 b) (hle : val 4294967296 b ≤ val 4294967296 a) : wv neg xs = wv neg a + wv (!neg) b := by unfold wv; cases neg <;> simp <;> omega
theorem wv_sub' (neg : Bool) {xs a b : List Nat} (h : val 4294967296 xs = val 4294967296 b - val 4294967296 a) (hle : val 4294967296 a ≤ val 4294967296 b) : wv (!neg) xs = wv neg a + wv (!neg) b := by unfold wv; cases neg <;> simp <;> omega

set_option maxHeartbeats 800000 in
theorem whole_plus_same (neg : Bool) (a b : List Nat) (A A' : Option Addr) (ca cb : Nat) (w : World) (h : Rd w (fun g => g < w.heap.size) .u32 A a) (h' : Rd w (fun g => g < w.heap.size) .u32 A' b) (hl : a.length ≤ 1073741824) (hl' : b.length ≤ 1073741824) (hc : a.length ≤ ca) (hc' : b.length ≤ cb) (ha : Dg 4294967296 a) (hb : Dg 4294967296 b) :
    Calls Tryd.prog 36 #[.bool neg, .slice A a.length ca, .bool neg, .slice A' b.length cb] w (GivesW (wv neg a + wv neg b) w) := by
  obtain ⟨N, hN⟩ : ∃ N, wv neg a + wv neg b = N := ⟨_, rfl⟩
  rw [hN]
  have HE := Lib.hid hN
  clear hN
  have B0 := below_new w (.cells #[.bool false, .slice none 0 0] 24)
  have ct := nat_Add a b A A' ca cb _ _ _ (h.on B0) (h'.on B0) (fun g hg => hg) (fun g hg => hg) (by omega) (by omega) hc hc' ha hb
  cases neg
  all_goals
    go_enter Tryd.func36, Tryd.ntmps36
    go_wp2_with fail
    refine ct.mono ?_
    rintro e w1 ⟨A1, xs, c1, rfl, hc1, hn1, hv1, hr1, hb1⟩
    have HN := Lib.hid hn1
    have HV := Lib.hid ((wv_add _ hv1).trans HE.out)
    clear hn1 hv1 ct
    go_wp2_with fail
    refine (whole_own _ xs A1 c1 N _ HN.out HV.out).mono ?_
    rintro e w2 ⟨rfl, hb2⟩
    have b2 := hb1.trans (hb2.mono hb1.size)
    obtain ⟨f0, f1, f2, f3⟩ := new_whole w b2
    go_wp2_with fail
    obtain ⟨r0, r1, r2, r3⟩ := stored_whole f0 (.bool (decide (N < 0))) (.slice A1 xs.length c1)
    exact bodyPost_ret (v := .agg #[.bool (decide (N < 0)), .slice A1 xs.length c1]) (by simp [results, Tryd.results36, go_sem, r0, r1]) rfl
      (gives_stored f0 (B0.trans (b2.mono B0.size)) (Nat.le_refl _) hc1 HN.out (abs_of HV.out) (hr1.on hb2) _ _)

set_option maxHeartbeats 800000 in
theorem whole_plus_other (neg : Bool) (a b : List Nat) (A A' : Option Addr) (ca cb : Nat) (w : World) (h : Rd w (fun g => g < w.heap.size) .u32 A a) (h' : Rd w (fun g => g < w.heap.size) .u32 A' b) (hl : a.length ≤ 1073741824) (hl' : b.length ≤ 1073741824) (hc : a.length ≤ ca) (hc' : b.length ≤ cb) (ha : Dg 4294967296 a) (hb : Dg 4294967296 b) :
    Calls Tryd.prog 36 #[.bool neg, .slice A a.length ca, .bool (!neg), .slice A' b.length cb] w (GivesW (wv neg a + wv (!neg) b) w) := by
  obtain ⟨N, hN⟩ : ∃ N, wv neg a + wv (!neg) b = N := ⟨_, rfl⟩
  rw [hN]
  have HE := Lib.hid hN
  clear hN
  have B0 := below_new w (.cells #[.bool false, .slice none 0 0] 24)
  have ct := nat_Sub a b A A' ca cb _ _ _ (h.on B0) (h'.on B0) (fun g hg => hg) (fun g hg => hg) (by omega) (by omega) hc hc' ha hb
  by_cases hle : val 4294967296 b ≤ val 4294967296 a
  · have HL := Lib.hid hle
    rw [decide_eq_true hle] at ct
    clear hle
    cases neg
    all_goals
      go_enter Tryd.func36, Tryd.ntmps36
      go_wp2_with fail
      refine ct.mono ?_
      rintro e w1 ⟨A1, xs, c1, rfl, hc1, hn1, hv1, hr1, hb1⟩
      have HN := Lib.hid hn1
      have HV := Lib.hid ((wv_sub _ hv1 HL.out).trans HE.out)
      clear hn1 hv1 ct
      go_wp2_with fail
      refine (whole_own _ xs A1 c1 N _ HN.out HV.out).mono ?_
      rintro e w2 ⟨rfl, hb2⟩
      have b2 := hb1.trans (hb2.mono hb1.size)
      obtain ⟨f0, f1, f2, f3⟩ := new_whole w b2
      go_wp2_with fail
      obtain ⟨r0, r1, r2, r3⟩ := stored_whole f0 (.bool (decide (N < 0))) (.slice A1 xs.length c1)
      exact bodyPost_ret (v := .agg #[.bool (decide (N < 0)), .slice A1 xs.length c1]) (by simp [results, Tryd.results36, go_sem, r0, r1]) rfl
        (gives_stored f0 (B0.trans (b2.mono B0.size)) (Nat.le_refl _) hc1 HN.out (abs_of HV.out) (hr1.on hb2) _ _)
  · have HL := Lib.hid (show val 4294967296 a ≤ val 4294967296 b by omega)
    rw [decide_eq_false hle] at ct
    clear hle
    cases neg
    all_goals
      go_enter Tryd.func36, Tryd.ntmps36
      go_wp2_with fail
      refine ct.mono ?_
      rintro e w0 ⟨A0, ys, c0, rfl, hc0, -, -, -, hb0⟩
      have B1 := B0.trans (hb0.mono B0.size)
      have ct := nat_Sub b a A' A cb ca _ _ _ (h'.on B1) (h.on B1) (fun g hg => hg) (fun g hg => hg) (by omega) (by omega) hc' hc hb ha
      rw [decide_eq_true HL.out] at ct
      go_wp2_with fail
      refine ct.mono ?_
      rintro e w1 ⟨A1, xs, c1, rfl, hc1, hn1, hv1, hr1, hb1⟩
      have HN := Lib.hid hn1
      have HV := Lib.hid ((wv_sub' _ hv1 HL.out).trans HE.out)
      clear hn1 hv1 ct
      go_wp2_with fail
      refine (whole_own _ xs A1 c1 N _ HN.out HV.out).mono ?_
      rintro e w2 ⟨rfl, hb2⟩
      have b2 := hb0.trans ((hb1.trans (hb2.mono hb1.size)).mono hb0.size)
      obtain ⟨f0, f1, f2, f3⟩ := new_whole w b2
      go_wp2_with fail
      obtain ⟨r0, r1, r2, r3⟩ := stored_whole f0 (.bool (decide (N < 0))) (.slice A1 xs.length c1)
      exact bodyPost_ret (v := .agg #[.bool (decide (N < 0)), .slice A1 xs.length c1]) (by simp [results, Tryd.results36, go_sem, r0, r1]) rfl
        (gives_stored f0 (B0.trans (b2.mono B0.size)) (Nat.le_refl _) hc1 HN.out (abs_of HV.out) (hr1.on hb2) _ _)

theorem whole_plus (n1 n2 : Bool) (a b : List Nat) (A A' : Option Addr) (ca cb : Nat) (w : World) (h : Rd w (fun g => g < w.heap.size) .u32 A a) (h' : Rd w (fun g => g < w.heap.size) .u32 A' b) (hl : a.length ≤ 1073741824) (hl' : b.length ≤ 1073741824) (hc : a.length ≤ ca) (hc' : b.length ≤ cb) (ha : Dg 4294967296 a) (hb : Dg 4294967296 b) :
    Calls Tryd.prog 36 #[.bool n1, .slice A a.length ca, .bool n2, .slice A' b.length cb] w (GivesW (wv n1 a + wv n2 b) w) := by
  by_cases e : n2 = n1
  · subst e; exact whole_plus_same n2 a b A A' ca cb w h h' hl hl' hc hc' ha hb
  · obtain rfl : n2 = !n1 := by cases n1 <;> cases n2 <;> simp_all
    exact whole_plus_other n1 a b A A' ca cb w h h' hl hl' hc hc' ha hb
end Go.Proofs.YtkmgmppmhgoadaaDoor
