/- What the program's own Square answers. -/
import Derived.Test.YtoidhoiadkafhaaRtH
namespace Go.Proofs.Ytoidhoiadkafhaa
open Go.RowKit Num

theorem cmpI_zero (a b : Nat) : (cmpI a b == 0) = decide (a = b) := by
  rcases Nat.lt_trichotomy a b with h | h | h
  · rw [cmpI_lt h, decide_eq_false (by omega)]; rfl
  · rw [cmpI_eq h, decide_eq_true h]; rfl
  · rw [cmpI_gt h, decide_eq_false (by omega)]; rfl

set_option maxHeartbeats 800000 in
/-- is it a square? -/
theorem root_Square (a : List Nat) (A : Option Addr) (ca : Nat) (w : World) (h : Rd w (fun g => g < w.heap.size) .u32 A a) (hl : a.length ≤ 134217728) (hc : a.length ≤ ca) (ha : Dg 4294967296 a) :
    Calls Try.prog 18 #[.slice A a.length ca] w fun e w' => ∃ r, IsRoot (val 4294967296 a) r ∧ e = .returned (.bool (decide (r * r = val 4294967296 a))) ∧ Below w.heap.size w w' := by
  have cs := root_Sqrt a A ca w h hl hc ha
  go_enter Try.func18, Try.ntmps18
  go_wp2_with fail
  refine cs.mono ?_
  rintro e w1 ⟨A1, xs, c1, rfl, hc1, hn1, hv1, hr1, b1⟩
  have l1 := len_le (b := 4294967296) (by omega) hn1.2 ha (by have := hv1.1; have := Nat.le_mul_self (val 4294967296 xs); omega)
  have cM := nat_Mul xs xs A1 A1 c1 c1 _ _ w1 hr1 hr1 (fun g hg => hg) (fun g hg => hg) (by omega) (by omega) hc1 hc1 hn1.1 hn1.1
  have HV1 := Lib.hid hv1
  clear cs hv1
  go_wp2_with fail
  refine cM.mono ?_
  rintro e w2 ⟨A2, ys, c2, rfl, hc2, hn2, hv2, hr2, b2⟩
  have B2 := b1.trans (b2.mono b1.size)
  have l2 := len_mul (b := 4294967296) (by omega) hn2.2 hn1.1 hn1.1 hv2
  have cC := nat_Cmp ys a A2 A c2 ca _ _ w2 hr2 (h.on B2) (by omega) (by omega) hc2 hc hn2.1 ha
  have hz := cmpI_zero (val 4294967296 ys) (val 4294967296 a)
  rw [hv2] at hz
  rw [hv2] at cC
  obtain ⟨z, hzz⟩ : ∃ z, cmpI (val 4294967296 xs * val 4294967296 xs) (val 4294967296 a) = z := ⟨_, rfl⟩
  rw [hzz] at hz cC
  have HZ := Lib.hid hz
  clear cM hv2 hz hzz
  go_wp2_with fail
  refine cC.mono ?_
  rintro e w3 ⟨rfl, k, rfl⟩
  clear cC
  go_wp2_with fail
  go_ret
  exact ⟨_, HV1.out, by rw [← HZ.out]; rfl, B2.trans ((below_drewN (Below.refl w2.heap.size w2) k).mono B2.size)⟩
end Go.Proofs.Ytoidhoiadkafhaa
