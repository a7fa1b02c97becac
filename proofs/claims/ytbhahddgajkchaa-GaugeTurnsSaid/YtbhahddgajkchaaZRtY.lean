/- What the program's own sqrtSmall and SqrtInt answer. -/
import Derived.Test.YtbhahddgajkchaaZRtX
import Derived.ScopeJumps
namespace Go.Proofs.Ytbhahddgajkchaa
open Go.RowKit Num

def natOf : Value → Nat | .int _ q => q.toNat | _ => 0
theorem newton_quo {N R : Nat} (h : N < (R + 1) * (R + 1)) (h0 : 0 < R) : N / R ≤ R + 2 := by
  have h1 : N / R < R + 3 := by
    rw [Nat.div_lt_iff_lt_mul h0]
    simp only [Nat.add_mul, Nat.mul_add] at h ⊢
    omega
  omega

theorem newton_pos {N R : Nat} (h : N < (R + 1) * (R + 1)) (hN : ¬ N = 0) (h0 : 0 < R) : 0 < (R + N / R) / 2 := by
  by_cases h1 : R = 1
  · subst h1
    have : N / 1 = N := Nat.div_one N
    omega
  · have := Nat.zero_le (N / R)
    generalize N / R = q at *
    omega

set_option maxHeartbeats 1600000 in
/-- the root of a number of 64 bits -/
theorem root_sqrtSmall (N : Nat) (hN : N < 18446744073709551616) (w : World) :
    Calls Try.prog 39 #[.int .u64 N] w fun e w' => ∃ r : Nat, e = .returned (.int .u64 r) ∧ IsRoot N r ∧ r < 4294967296 ∧ ∃ k, w' = w.drewN k := by
  by_cases h0 : N = 0
  · subst h0
    go_enter Try.func39, Try.ntmps39
    go_wp2_with fail
    go_step3
    go_wp2_with fail
    rw [Exit.noGoto_ret]
    go_ret
    exact ⟨0, rfl, IsRoot.zero, by omega, 0, rfl⟩
  · have cl := Try.bits_Len64 (N : Int) w (by omega) (by omega)
    rw [Int.toNat_natCast] at cl
    have hb := isBits_bitLen N hN
    obtain ⟨z, hz⟩ : ∃ z, Lib.bitLen N = z := ⟨_, rfl⟩
    rw [hz] at cl hb
    clear hz
    go_enter Try.func39, Try.ntmps39
    have hz64 : z ≤ 64 := by
      rcases hb.2 with h1 | h1
      · omega
      · have h2 := Nat.lt_of_le_of_lt h1 (show N < 2 ^ 64 from hN)
        have := (Nat.pow_lt_pow_iff_right (show 1 < 2 by omega)).1 h2
        omega
    have hR : N < (2 ^ ((z + 1) / 2) + 1) * (2 ^ ((z + 1) / 2) + 1) := by
      have h1 : N < 2 ^ ((z + 1) / 2) * 2 ^ ((z + 1) / 2) := by
        rw [← Nat.pow_add]
        exact Nat.lt_of_lt_of_le hb.1 (Nat.pow_le_pow_right (by omega) (by omega))
      exact Nat.lt_of_lt_of_le h1 (Nat.mul_le_mul (by omega) (by omega))
    have hR2 : 2 ^ ((z + 1) / 2) ≤ 4294967296 := Nat.pow_le_pow_right (n := 2) (by omega) (show (z + 1) / 2 ≤ 32 by omega)
    have hR0' : 0 < 2 ^ ((z + 1) / 2) := Nat.pow_pos (by omega)
    have hsh0 : (0 : Int) ≤ ((z : Int) + 1) / 2 := by omega
    have hsh1 : ((z : Int) + 1) / 2 < 64 := by omega
    go_wp2_with fail
    refine wp_scope_jumps 0 (fun a' w' => ∃ (R k : Nat) (u4 u5 u6 u7 u8 u9 u10 u11 u12 u13 u14 u15 u16 u17 u18 u19 u20 u21 u22 : Value), a' = { tmps := #[.int .u64 N, undef, .int .u64 0, .int .u64 R, u4, u5, u6, u7, u8, u9, u10, u11, u12, u13, u14, u15, u16, u17, u18, u19, u20, u21, u22], defers := [] } ∧ w' = w.drewN k ∧ 0 < R ∧ R ≤ 4294967296 ∧ N < (R + 1) * (R + 1)) (fun a' _ => (natOf (a'.tmps.getD 3 undef))) rfl ?_ ?_
    · go_wp2_with fail
      refine cl.mono ?_
      rintro e w1 ⟨rfl, rfl⟩
      go_wp2_with fail
      obtain ⟨R, hRR⟩ : ∃ R, 2 ^ ((z + 1) / 2) = R := ⟨_, rfl⟩
      have eR : IntKind.u64.wrap ((2 : Int) ^ ((z + 1) / 2)) = (R : Int) := by
        rw [show ((2 : Int) ^ ((z + 1) / 2)) = ((2 ^ ((z + 1) / 2) : Nat) : Int) by simp, hRR]
        rw [hRR] at hR2
        exact IntWalk.u64_in _ (by omega)
      rw [eR]
      rw [hRR] at hR hR2 hR0'
      have hR0 := hR0'
      have hR1 := hR
      clear hRR eR hR hR0' cl hb hsh0 hsh1
      go_step3
      have hnx := newton_next (N := N) (r := R) hR0
      have hne : R ≤ (R + N / R) / 2 → IsRoot N R := newton_end hR1 hR0
      have hquo := u64_quo N R hN
      have hqle : N / R < 18446744073709551616 := Nat.lt_of_le_of_lt (Nat.div_le_self _ _) hN
      have hqR : N / R ≤ R + 2 := newton_quo hR1 hR0
      have hgt : 0 < (R + N / R) / 2 := newton_pos hR1 h0 hR0
      obtain ⟨q, hq⟩ : ∃ q, N / R = q := ⟨_, rfl⟩
      rw [hq] at hnx hne hquo hqle hqR hgt
      have hR00 : ¬ R = 0 := by omega
      have HX := Lib.hid hnx
      have HE := Lib.hid hne
      clear hnx hne hq
      by_cases hlt : (R + q) / 2 < R
      · have hlt' : ((R : Int) + (q : Int)) / 2 < (R : Int) := by omega
        go_wp2_with fail
        go_step3
        refine ⟨rfl, (R + q) / 2, 0, _, _, _, _, _, _, _, _, _, _, _, _, _, _, _, _, _, _, _, rfl, rfl, hgt, by omega, HX.out⟩
      · have hlt' : ¬ ((R : Int) + (q : Int)) / 2 < (R : Int) := by omega
        go_wp2_with fail
        simp only [Exit.jump]
        go_ret
        have hroot := HE.out (by omega)
        refine ⟨R, rfl, hroot, ?_, 0, rfl⟩
        exact sq_lt (Nat.lt_of_le_of_lt hroot.1 (Nat.lt_of_lt_of_le hN (by omega)))
    · rintro a' w' ⟨R, k, u4, u5, u6, u7, u8, u9, u10, u11, u12, u13, u14, u15, u16, u17, u18, u19, u20, u21, u22, rfl, rfl, hR0, hR2, hR1⟩
      clear cl hb hR hR0' hsh0 hsh1
      have hnx := newton_next (N := N) (r := R) hR0
      have hne : R ≤ (R + N / R) / 2 → IsRoot N R := newton_end hR1 hR0
      have hquo := u64_quo N R hN
      have hqle : N / R < 18446744073709551616 := Nat.lt_of_le_of_lt (Nat.div_le_self _ _) hN
      have hqR : N / R ≤ R + 2 := newton_quo hR1 hR0
      have hgt : 0 < (R + N / R) / 2 := newton_pos hR1 h0 hR0
      obtain ⟨q, hq⟩ : ∃ q, N / R = q := ⟨_, rfl⟩
      rw [hq] at hnx hne hquo hqle hqR hgt
      have hR00 : ¬ R = 0 := by omega
      have HX := Lib.hid hnx
      have HE := Lib.hid hne
      clear hnx hne hq
      by_cases hlt : (R + q) / 2 < R
      · have hlt' : ((R : Int) + (q : Int)) / 2 < (R : Int) := by omega
        go_wp2_with fail
        go_step3
        refine ⟨rfl, ⟨(R + q) / 2, k, _, _, _, _, _, _, _, _, _, _, _, _, _, _, _, _, _, _, _, rfl, rfl, hgt, by omega, HX.out⟩, ?_⟩
        show ((((R : Int) + (q : Int)) / 2).toNat) < ((R : Int)).toNat
        omega
      · have hlt' : ¬ ((R : Int) + (q : Int)) / 2 < (R : Int) := by omega
        go_wp2_with fail
        simp only [Exit.jump]
        go_ret
        have hroot := HE.out (by omega)
        refine ⟨R, rfl, hroot, ?_, k, rfl⟩
        exact sq_lt (Nat.lt_of_le_of_lt hroot.1 (Nat.lt_of_lt_of_le hN (by omega)))

set_option maxHeartbeats 400000 in
theorem root_SqrtInt (n : Int) (h1 : -9223372036854775808 ≤ n) (h2 : n ≤ 9223372036854775807) (w : World) :
    Calls Try.prog 27 #[.int .i64 n] w fun e w' => ∃ r : Nat, e = .returned (.int .i64 r) ∧ IsRoot n.toNat r ∧ r < 4294967296 ∧ ∃ k, w' = w.drewN k := by
  by_cases h0 : n < 0
  · go_enter Try.func27, Try.ntmps27
    go_wp2_with fail
    go_ret
    refine ⟨0, rfl, ?_, by omega, 0, rfl⟩
    rw [show n.toNat = 0 by omega]
    exact IsRoot.zero
  · obtain ⟨m, rfl⟩ : ∃ m : Nat, n = m := ⟨n.toNat, by omega⟩
    have cs := root_sqrtSmall m (by omega) w
    rw [Int.toNat_natCast]
    go_enter Try.func27, Try.ntmps27
    go_wp2_with fail
    refine cs.mono ?_
    rintro e w1 ⟨r, rfl, hr, hr2, k, rfl⟩
    go_wp2_with fail
    go_ret
    exact ⟨r, rfl, hr, hr2, k, rfl⟩
end Go.Proofs.Ytbhahddgajkchaa
/- What the program's own above and Sqrt answer: each calls the other. -/

namespace Go.Proofs.Ytbhahddgajkchaa
open Go.RowKit Num

theorem least_of {p : Nat → Prop} (h : ∃ n, p n) : ∃ n, p n ∧ ∀ m, p m → n ≤ m := by
  obtain ⟨n, hn⟩ := h
  induction n using Nat.strongRecOn with
  | _ n ih =>
    by_cases h : ∃ m, m < n ∧ p m
    · obtain ⟨m, hm, hp⟩ := h
      exact ih m hm hp
    · exact ⟨n, hn, fun m hm => Nat.le_of_not_lt fun hlt => h ⟨m, hlt, hm⟩⟩
/-- a scope in which the run jumps back to one label, with a measure that no frame shows -/
theorem wp_scope_ghost {P : Program} {a : Act} {w : World} {Q : Exit → Act → World → Prop} {c rest : Code} (l : Nat) (J : Nat → Act → World → Prop) (hf : findLabel c l = some rest)
    (first : c.wp P (Exit.jump l (fun a' w' => ∃ n, J n a' w') Q) a w)
    (pass : ∀ n a w, J n a w → rest.wp P (Exit.jump l (fun a' w' => ∃ m, m < n ∧ J m a' w') Q) a w) : (Code.scope c).wp P Q a w := by
  refine wp_scope_jumps l (fun a' w' => ∃ n, J n a' w') (fun a' w' => Classical.epsilon fun n => J n a' w' ∧ ∀ m, J m a' w' → n ≤ m) hf first ?_
  intro a w hJ
  obtain ⟨h1, h2⟩ := Classical.epsilon_spec (least_of hJ)
  refine wp_mono (pass _ a w h1) ?_
  intro e a' w' he
  cases e with
  | goto l' =>
    obtain ⟨hl, m, hm, hJm⟩ := he
    refine ⟨hl, ⟨m, hJm⟩, ?_⟩
    obtain ⟨-, k2⟩ := Classical.epsilon_spec (least_of (p := fun n => J n a' w') ⟨m, hJm⟩)
    exact Nat.lt_of_le_of_lt (k2 m hJm) hm
  | normal => exact he
  | exit id => exact he
  | ret => exact he
  | panic ch => exact he
  | outgrown => exact he

/-- a root -/
def GivesRoot (N : Nat) (w : World) (e : Ending) (w' : World) : Prop :=
  ∃ A xs c, e = .returned (.slice A xs.length c) ∧ xs.length ≤ c ∧ Norm 4294967296 xs ∧ IsRoot N (val 4294967296 xs) ∧ Rd w' (fun g => g < w'.heap.size) .u32 A xs ∧ Below w.heap.size w w'
/-- a number above the root -/
def GivesAbove (N la : Nat) (w : World) (e : Ending) (w' : World) : Prop :=
  ∃ A xs c, e = .returned (.slice A xs.length c) ∧ xs.length ≤ c ∧ xs.length ≤ 2 * la + 4 ∧ Norm 4294967296 xs ∧ 0 < val 4294967296 xs ∧ N < val 4294967296 xs * val 4294967296 xs ∧ Rd w' (fun g => g < w'.heap.size) .u32 A xs ∧ Below w.heap.size w w'

theorem val_drop {b k : Nat} {xs : List Nat} (hd : Dg b xs) (hb : 0 < b) (h : k ≤ xs.length) : val b (xs.drop k) = val b xs / b ^ k := by
  have e := val_split (b := b) h
  have hlt := val_lt (hd.take (n := k))
  rw [List.length_take, Nat.min_eq_left h] at hlt
  rw [e, Nat.add_mul_div_left _ _ (Nat.pow_pos hb), Nat.div_eq_of_lt hlt, Nat.zero_add]
theorem shift_down (N r : Nat) (hr : r < 32) : shiftVal N (-2 * (r : Int)) = N / 2 ^ (2 * r) := by
  unfold shiftVal
  rw [if_neg (by omega)]
  by_cases h : r = 0
  · subst h; simp
  · rw [if_pos (by omega)]
    congr 2
    omega
theorem shift_up (N r : Nat) (hr : r < 32) : shiftVal N (r : Int) = N * 2 ^ r := by
  unfold shiftVal
  rw [if_neg (by omega), if_neg (by omega), Int.toNat_natCast]
theorem shift_half (N : Nat) : shiftVal N (-1) = N / 2 := by
  unfold shiftVal
  rw [if_neg (by omega), if_pos (by omega)]
  show N / 2 ^ 1 = N / 2
  rw [Nat.pow_one]
theorem high_val (N low : Nat) : N / 4294967296 ^ (2 * (low / 32)) / 2 ^ (2 * (low % 32)) = N / (2 ^ low * 2 ^ low) := by
  rw [Nat.div_div_eq_div_mul]
  congr 1
  rw [show (4294967296 : Nat) = 2 ^ 32 from rfl, ← Nat.pow_mul, ← Nat.pow_add, ← Nat.pow_add]
  congr 1
  omega

theorem Num.Own.made (w : World) (t : TypeId) (k : IntKind) (n : Nat) (hn : n ≤ maxLen) : Own (w.alloc (.cells (cells k (List.replicate n 0)).toArray t)) w.heap.size t k (.slice (some ⟨w.heap.size, 0, none⟩) n n) (List.replicate n 0) := by
  unfold Own World.ownsRow
  refine ⟨by rw [length_cells, Nat.mul_one], .inr ⟨w.heap.size, n, _, by rw [List.length_replicate], Nat.le_refl _, heap_alloc_new w _, by rw [List.length_replicate]; exact Nat.le_refl _, hn, by simp [length_cells], ?_⟩⟩
  rw [List.length_replicate, Nat.mul_one]
  exact List.take_of_length_le (by rw [length_cells, List.length_replicate]; exact Nat.le_refl _)
theorem top_append {xs ys : List Nat} (h : Top ys) (hne : ys ≠ []) : Top (xs ++ ys) := by
  unfold Top at *
  rw [List.getLast?_append]
  cases e : ys.getLast? with
  | none => exact absurd (List.getLast?_eq_none_iff.1 e) hne
  | some x => rw [e] at h; simpa using h
theorem up_val (s low : Nat) : 4294967296 ^ (low / 32) * ((s + 1) * 2 ^ (low % 32)) = (s + 1) * 2 ^ low := by
  rw [show (4294967296 : Nat) = 2 ^ 32 from rfl, ← Nat.pow_mul, Nat.mul_left_comm, ← Nat.pow_add]
  congr 2
  omega

end Go.Proofs.Ytbhahddgajkchaa
/- What the program's own Square answers. -/

namespace Go.Proofs.Ytbhahddgajkchaa
open Go.RowKit Num

theorem cmpI_zero (a b : Nat) : (cmpI a b == 0) = decide (a = b) := by
  rcases Nat.lt_trichotomy a b with h | h | h
  · rw [cmpI_lt h, decide_eq_false (by omega)]; rfl
  · rw [cmpI_eq h, decide_eq_true h]; rfl
  · rw [cmpI_gt h, decide_eq_false (by omega)]; rfl

end Go.Proofs.Ytbhahddgajkchaa
