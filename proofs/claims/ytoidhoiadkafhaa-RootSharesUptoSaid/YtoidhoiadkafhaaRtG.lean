/- What the program's own sqrtSmall and SqrtInt answer. -/
import Derived.Test.YtoidhoiadkafhaaRtF
import Derived.ScopeJumps
namespace Go.Proofs.Ytoidhoiadkafhaa
open Go.RowKit Num

def natOf : Value → Nat | .int _ q => q.toNat | _ => 0
theorem newton_quo {N R : Nat} (h : N < (R + 1) * (R + 1)) (h0 : 0 < R) : N / R ≤ R + 2 := by
  have h1 : N / R < R + 3 := by
    rw [Nat.div_lt_iff_lt_mul h0]
    simp only [Nat.add_mul, Nat.mul_add] at h ⊢
    omega
  omega

theorem newton_pos {N R : Nat} (h : N < (R + 1) * (R + 1)) (hN : ¬ N = 0) (h0 : 0 < R) : 0 < (R + N / R) / 2 := by
  by_cases h1 : R = 1
  · subst h1
    have : N / 1 = N := Nat.div_one N
    omega
  · have := Nat.zero_le (N / R)
    generalize N / R = q at *
    omega

set_option maxHeartbeats 1600000 in
/-- the root of a number of 64 bits -/
theorem root_sqrtSmall (N : Nat) (hN : N < 18446744073709551616) (w : World) :
    Calls Try.prog 39 #[.int .u64 N] w fun e w' => ∃ r : Nat, e = .returned (.int .u64 r) ∧ IsRoot N r ∧ r < 4294967296 ∧ ∃ k, w' = w.drewN k := by
  by_cases h0 : N = 0
  · subst h0
    go_enter Try.func39, Try.ntmps39
    go_wp2_with fail
    go_step3
    go_wp2_with fail
    rw [Exit.noGoto_ret]
    go_ret
    exact ⟨0, rfl, IsRoot.zero, by omega, 0, rfl⟩
  · have cl := Try.bits_Len64 (N : Int) w (by omega) (by omega)
    rw [Int.toNat_natCast] at cl
    have hb := isBits_bitLen N hN
    obtain ⟨z, hz⟩ : ∃ z, Lib.bitLen N = z := ⟨_, rfl⟩
    rw [hz] at cl hb
    clear hz
    go_enter Try.func39, Try.ntmps39
    have hz64 : z ≤ 64 := by
      rcases hb.2 with h1 | h1
      · omega
      · have h2 := Nat.lt_of_le_of_lt h1 (show N < 2 ^ 64 from hN)
        have := (Nat.pow_lt_pow_iff_right (show 1 < 2 by omega)).1 h2
        omega
    have hR : N < (2 ^ ((z + 1) / 2) + 1) * (2 ^ ((z + 1) / 2) + 1) := by
      have h1 : N < 2 ^ ((z + 1) / 2) * 2 ^ ((z + 1) / 2) := by
        rw [← Nat.pow_add]
        exact Nat.lt_of_lt_of_le hb.1 (Nat.pow_le_pow_right (by omega) (by omega))
      exact Nat.lt_of_lt_of_le h1 (Nat.mul_le_mul (by omega) (by omega))
    have hR2 : 2 ^ ((z + 1) / 2) ≤ 4294967296 := Nat.pow_le_pow_right (n := 2) (by omega) (show (z + 1) / 2 ≤ 32 by omega)
    have hR0' : 0 < 2 ^ ((z + 1) / 2) := Nat.pow_pos (by omega)
    have hsh0 : (0 : Int) ≤ ((z : Int) + 1) / 2 := by omega
    have hsh1 : ((z : Int) + 1) / 2 < 64 := by omega
    go_wp2_with fail
    refine wp_scope_jumps 0 (fun a' w' => ∃ (R k : Nat) (u4 u5 u6 u7 u8 u9 u10 u11 u12 u13 u14 u15 u16 u17 u18 u19 u20 u21 u22 : Value), a' = { tmps := #[.int .u64 N, undef, .int .u64 0, .int .u64 R, u4, u5, u6, u7, u8, u9, u10, u11, u12, u13, u14, u15, u16, u17, u18, u19, u20, u21, u22], defers := [] } ∧ w' = w.drewN k ∧ 0 < R ∧ R ≤ 4294967296 ∧ N < (R + 1) * (R + 1)) (fun a' _ => (natOf (a'.tmps.getD 3 undef))) rfl ?_ ?_
    · go_wp2_with fail
      refine cl.mono ?_
      rintro e w1 ⟨rfl, rfl⟩
      go_wp2_with fail
      obtain ⟨R, hRR⟩ : ∃ R, 2 ^ ((z + 1) / 2) = R := ⟨_, rfl⟩
      have eR : IntKind.u64.wrap ((2 : Int) ^ ((z + 1) / 2)) = (R : Int) := by
        rw [show ((2 : Int) ^ ((z + 1) / 2)) = ((2 ^ ((z + 1) / 2) : Nat) : Int) by simp, hRR]
        rw [hRR] at hR2
        exact IntWalk.u64_in _ (by omega)
      rw [eR]
      rw [hRR] at hR hR2 hR0'
      have hR0 := hR0'
      have hR1 := hR
      clear hRR eR hR hR0' cl hb hsh0 hsh1
      go_step3
      have hnx := newton_next (N := N) (r := R) hR0
      have hne : R ≤ (R + N / R) / 2 → IsRoot N R := newton_end hR1 hR0
      have hquo := u64_quo N R hN
      have hqle : N / R < 18446744073709551616 := Nat.lt_of_le_of_lt (Nat.div_le_self _ _) hN
      have hqR : N / R ≤ R + 2 := newton_quo hR1 hR0
      have hgt : 0 < (R + N / R) / 2 := newton_pos hR1 h0 hR0
      obtain ⟨q, hq⟩ : ∃ q, N / R = q := ⟨_, rfl⟩
      rw [hq] at hnx hne hquo hqle hqR hgt
      have hR00 : ¬ R = 0 := by omega
      have HX := Lib.hid hnx
      have HE := Lib.hid hne
      clear hnx hne hq
      by_cases hlt : (R + q) / 2 < R
      · have hlt' : ((R : Int) + (q : Int)) / 2 < (R : Int) := by omega
        go_wp2_with fail
        go_step3
        refine ⟨rfl, (R + q) / 2, 0, _, _, _, _, _, _, _, _, _, _, _, _, _, _, _, _, _, _, _, rfl, rfl, hgt, by omega, HX.out⟩
      · have hlt' : ¬ ((R : Int) + (q : Int)) / 2 < (R : Int) := by omega
        go_wp2_with fail
        simp only [Exit.jump]
        go_ret
        have hroot := HE.out (by omega)
        refine ⟨R, rfl, hroot, ?_, 0, rfl⟩
        exact sq_lt (Nat.lt_of_le_of_lt hroot.1 (Nat.lt_of_lt_of_le hN (by omega)))
    · rintro a' w' ⟨R, k, u4, u5, u6, u7, u8, u9, u10, u11, u12, u13, u14, u15, u16, u17, u18, u19, u20, u21, u22, rfl, rfl, hR0, hR2, hR1⟩
      clear cl hb hR hR0' hsh0 hsh1
      have hnx := newton_next (N := N) (r := R) hR0
      have hne : R ≤ (R + N / R) / 2 → IsRoot N R := newton_end hR1 hR0
      have hquo := u64_quo N R hN
      have hqle : N / R < 18446744073709551616 := Nat.lt_of_le_of_lt (Nat.div_le_self _ _) hN
      have hqR : N / R ≤ R + 2 := newton_quo hR1 hR0
      have hgt : 0 < (R + N / R) / 2 := newton_pos hR1 h0 hR0
      obtain ⟨q, hq⟩ : ∃ q, N / R = q := ⟨_, rfl⟩
      rw [hq] at hnx hne hquo hqle hqR hgt
      have hR00 : ¬ R = 0 := by omega
      have HX := Lib.hid hnx
      have HE := Lib.hid hne
      clear hnx hne hq
      by_cases hlt : (R + q) / 2 < R
      · have hlt' : ((R : Int) + (q : Int)) / 2 < (R : Int) := by omega
        go_wp2_with fail
        go_step3
        refine ⟨rfl, ⟨(R + q) / 2, k, _, _, _, _, _, _, _, _, _, _, _, _, _, _, _, _, _, _, _, rfl, rfl, hgt, by omega, HX.out⟩, ?_⟩
        show ((((R : Int) + (q : Int)) / 2).toNat) < ((R : Int)).toNat
        omega
      · have hlt' : ¬ ((R : Int) + (q : Int)) / 2 < (R : Int) := by omega
        go_wp2_with fail
        simp only [Exit.jump]
        go_ret
        have hroot := HE.out (by omega)
        refine ⟨R, rfl, hroot, ?_, k, rfl⟩
        exact sq_lt (Nat.lt_of_le_of_lt hroot.1 (Nat.lt_of_lt_of_le hN (by omega)))

set_option maxHeartbeats 400000 in
theorem root_SqrtInt (n : Int) (h1 : -9223372036854775808 ≤ n) (h2 : n ≤ 9223372036854775807) (w : World) :
    Calls Try.prog 16 #[.int .i64 n] w fun e w' => ∃ r : Nat, e = .returned (.int .i64 r) ∧ IsRoot n.toNat r ∧ r < 4294967296 ∧ ∃ k, w' = w.drewN k := by
  by_cases h0 : n < 0
  · go_enter Try.func16, Try.ntmps16
    go_wp2_with fail
    go_ret
    refine ⟨0, rfl, ?_, by omega, 0, rfl⟩
    rw [show n.toNat = 0 by omega]
    exact IsRoot.zero
  · obtain ⟨m, rfl⟩ : ∃ m : Nat, n = m := ⟨n.toNat, by omega⟩
    have cs := root_sqrtSmall m (by omega) w
    rw [Int.toNat_natCast]
    go_enter Try.func16, Try.ntmps16
    go_wp2_with fail
    refine cs.mono ?_
    rintro e w1 ⟨r, rfl, hr, hr2, k, rfl⟩
    go_wp2_with fail
    go_ret
    exact ⟨r, rfl, hr, hr2, k, rfl⟩
end Go.Proofs.Ytoidhoiadkafhaa
