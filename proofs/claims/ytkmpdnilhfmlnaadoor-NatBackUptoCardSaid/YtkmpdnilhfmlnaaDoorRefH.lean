/- What the document's own Shift answers. -/
import Derived.Test.YtkmpdnilhfmlnaaDoorRefG
import Derived.Test.YtkmpdnilhfmlnaaDoorNatF
namespace Go.Proofs.YtkmpdnilhfmlnaaDoor
open Go.RowKit Num

theorem len_pow {xs : List Nat} {n : Nat} (ht : Top xs) (h : val 4294967296 xs = 2 ^ n) : xs.length ≤ n / 32 + 1 := by
  refine ht.length_le (b := 4294967296) (by omega) ?_
  rw [h, show (4294967296 : Nat) = 2 ^ 32 from rfl, ← Nat.pow_mul]
  exact Nat.pow_lt_pow_right (by omega) (by omega)

set_option maxHeartbeats 800000 in
theorem ref_Shift (a : List Nat) (A : Option Addr) (ca : Nat) (n : Int) (S : Nat → Prop) (w : World) (h : Rd w S .u32 A a) (hS : ∀ g, S g → g < w.heap.size) (hl : a.length ≤ 134217728) (ha : Dg 4294967296 a) (hn1 : -9223372036854775808 ≤ n) (hn2 : n ≤ 9223372036854775807) :
    Calls Tryd.prog 29 #[.slice A a.length ca, .int .i64 n] w (Gives .u32 4294967296 (shiftVal (val 4294967296 a) n) w) := by
  by_cases h1 : n < -4096
  · have hv : shiftVal (val 4294967296 a) n = 0 := by unfold shiftVal; rw [if_pos (.inl h1)]
    rw [hv]
    clear hv
    go_enter Tryd.func29, Tryd.ntmps29
    go_wp2
    go_ret
    exact ⟨none, [], 0, rfl, by simp, norm_nil _, rfl, Rd.nil, Below.refl _ _⟩
  · by_cases h2 : 4096 < n
    · have hv : shiftVal (val 4294967296 a) n = 0 := by unfold shiftVal; rw [if_pos (.inr h2)]
      rw [hv]
      clear hv
      go_enter Tryd.func29, Tryd.ntmps29
      go_wp2
      go_ret
      exact ⟨none, [], 0, rfl, by simp, norm_nil _, rfl, Rd.nil, Below.refl _ _⟩
    · by_cases h3 : n < 0
      · obtain ⟨m, hm⟩ : ∃ m : Nat, n = -(m : Int) := ⟨(-n).toNat, by omega⟩
        subst hm
        have hv : shiftVal (val 4294967296 a) (-(m : Int)) = val 4294967296 a / 2 ^ m := by unfold shiftVal; rw [if_neg (by omega), if_pos h3]; congr 2; omega
        rw [hv]
        clear hv
        have hm1 : 1 ≤ (m : Int) := by omega
        have hm2 : (m : Int) ≤ 4096 := by omega
        go_enter Tryd.func29, Tryd.ntmps29
        go_wp2_with fail
        refine (ref_Power m (by omega) w).mono ?_
        rintro e w1 ⟨A1, x, c1, rfl, hc1, hn, hv1, hr1, hb1⟩
        have hs1 := hb1.size
        have hxl := len_pow hn.2 hv1
        have cd := ref_Div a x A A1 ca c1 _ _ w1 (h.below hb1 hS) hr1 (fun g hg => by have := hS g hg; omega) (fun g hg => hg) hl (by omega) ha hn.1
        rw [hv1] at cd
        clear hn hv1 hr1
        go_wp2_with fail
        refine cd.mono ?_
        rintro e w2 ⟨A2, q, c2, A3, r, c3, rfl, hc2, _, hnq, _, hvq, _, hrq, _, hb2⟩
        have HQ := Lib.hid hvq
        have HN := Lib.hid hnq
        clear hvq hnq cd
        go_wp2
        go_ret
        exact ⟨A2, q, c2, rfl, hc2, HN.out, HQ.out, hrq, hb1.trans (hb2.mono hs1)⟩
      · obtain ⟨m, hm⟩ : ∃ m : Nat, n = (m : Int) := ⟨n.toNat, by omega⟩
        subst hm
        have hv : shiftVal (val 4294967296 a) (m : Int) = val 4294967296 a * 2 ^ m := by unfold shiftVal; rw [if_neg (by omega), if_neg h3]; congr 2
        rw [hv]
        clear hv
        have hm2 : (m : Int) ≤ 4096 := by omega
        go_enter Tryd.func29, Tryd.ntmps29
        go_wp2_with fail
        refine (ref_Power m (by omega) w).mono ?_
        rintro e w1 ⟨A1, x, c1, rfl, hc1, hn, hv1, hr1, hb1⟩
        have hs1 := hb1.size
        have hxl := len_pow hn.2 hv1
        have cd := ref_Mul a x A A1 ca c1 _ _ w1 (h.below hb1 hS) hr1 (fun g hg => by have := hS g hg; omega) (fun g hg => hg) hl (by omega) ha hn.1
        rw [hv1] at cd
        clear hn hv1 hr1
        go_wp2_with fail
        refine cd.mono ?_
        rintro e w2 ⟨A2, q, c2, rfl, hc2, hnq, hvq, hrq, hb2⟩
        have HQ := Lib.hid hvq
        have HN := Lib.hid hnq
        clear hvq hnq cd
        go_wp2
        go_ret
        exact ⟨A2, q, c2, rfl, hc2, HN.out, HQ.out, hrq, hb1.trans (hb2.mono hs1)⟩
end Go.Proofs.YtkmpdnilhfmlnaaDoor
