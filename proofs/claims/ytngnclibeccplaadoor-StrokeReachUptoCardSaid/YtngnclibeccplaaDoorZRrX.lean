/- What the document's own copied, zero and below answer. -/
import Derived.Test.YtngnclibeccplaaDoorZOaC
import Derived.Test.YtngnclibeccplaaDoorZRefY
namespace Go.Proofs.YtngnclibeccplaaDoor
open Go.RowKit Num

end Go.Proofs.YtngnclibeccplaaDoor
/- What the document's own halved and less answer. -/

namespace Go.Proofs.YtngnclibeccplaaDoor
open Go.RowKit Num

theorem half_step {V T K x0 xk xk1 : Nat} (h : 2 * V + x0 % 2 = T + K * (xk % 2)) : 2 * (V + K * (xk / 2 + xk1 % 2 * 2147483648)) + x0 % 2 = T + K * xk + K * 4294967296 * (xk1 % 2) := by
  have e := Nat.div_add_mod xk 2
  have e2 : K * xk = K * (2 * (xk / 2)) + K * (xk % 2) := by rw [← Nat.mul_add, e]
  have e3 : K * 4294967296 * (xk1 % 2) = K * (xk1 % 2 * 4294967296) := by rw [Nat.mul_assoc, Nat.mul_comm 4294967296]
  rw [e2, e3]
  simp only [Nat.mul_add, Nat.mul_left_comm 2 K]
  have e4 : K * (2 * (xk1 % 2 * 2147483648)) = K * (xk1 % 2 * 4294967296) := by congr 1; omega
  omega

end Go.Proofs.YtngnclibeccplaaDoor
/- What the document's own Gcd answers: twos are taken out, and the lesser one from the greater one. -/

namespace Go.Proofs.YtngnclibeccplaaDoor
open Go.RowKit Num

theorem gcd_even_even {x y : Nat} (hx : x % 2 = 0) (hy : y % 2 = 0) : Nat.gcd x y = Nat.gcd (x / 2) (y / 2) * 2 := by
  have h := Nat.gcd_mul_left 2 (x / 2) (y / 2)
  rw [Nat.mul_comm, ← h]
  congr 1 <;> omega
theorem odd_coprime {y : Nat} (hy : y % 2 = 1) : Nat.Coprime 2 y := by
  show Nat.gcd 2 y = 1
  rw [Nat.gcd_rec, hy]
  rfl
theorem gcd_even_odd {x y : Nat} (hx : x % 2 = 0) (hy : y % 2 = 1) : Nat.gcd (x / 2) y = Nat.gcd x y := by
  have h := (odd_coprime hy).gcd_mul_left_cancel (x / 2)
  rw [← h]
  congr 1
  omega
theorem pos_of {x : List Nat} (h : Norm 4294967296 x) (h0 : ¬ x.length = 0) : 0 < val 4294967296 x := by
  rcases Nat.eq_zero_or_pos (val 4294967296 x) with e | e
  · have := (h.2.nil_iff (b := 4294967296) (by omega)).2 e
    subst this; simp at h0
  · exact e
theorem twos_le {a : List Nat} {N G d t : Nat} (ha : Dg 4294967296 a) (hl : a.length ≤ 4194304) (hG : Nat.gcd (val 4294967296 a) N = G) (hpos : 0 < val 4294967296 a) (he : d * 2 ^ t = G) (hd : 0 < d) : t ≤ 134217728 := by
  obtain ⟨m, hm, hm32⟩ : ∃ m, a.length ≤ m ∧ 32 * m ≤ 134217728 := ⟨a.length, Nat.le_refl _, by omega⟩
  have h1 : G ≤ val 4294967296 a := by rw [← hG]; exact Nat.gcd_le_left _ hpos
  have h2 := val_lt_pow ha (by omega) hm
  have h3 : 2 ^ t ≤ d * 2 ^ t := Nat.le_mul_of_pos_left _ hd
  have h4 : 2 ^ t < 2 ^ (32 * m) := by
    rw [Nat.pow_mul]
    exact Nat.lt_of_le_of_lt (by omega) h2
  have := (Nat.pow_lt_pow_iff_right (show 1 < 2 by omega)).1 h4
  omega

theorem pow_len {xs : List Nat} {t : Nat} (ht : Top xs) (h : val 4294967296 xs = 2 ^ t) (hl : t ≤ 134217728) : xs.length ≤ 4194305 := by
  obtain ⟨m, hm, hm2⟩ : ∃ m, t < 32 * m ∧ m ≤ 4194305 := ⟨t / 32 + 1, by omega, by omega⟩
  refine Nat.le_trans (ht.length_le (b := 4294967296) (n := m) (by omega) ?_) hm2
  rw [h, show (4294967296 : Nat) = 2 ^ 32 from rfl, ← Nat.pow_mul]
  exact Nat.pow_lt_pow_right (by omega) hm

/-- the lowest word of a number above 0, and whether the number is even -/
theorem first_digit {w : World} {S : Nat → Prop} {A : Option Addr} {x : List Nat} (h : Rd w S .u64 A x) (hn : Norm 4294967296 x) (hp : 0 < val 4294967296 x) :
    ∃ b o p, A = some ⟨b, o, none⟩ ∧ S b ∧ w.cell? ⟨b, o, none⟩ = some (.int .u64 ((p : Nat) : Int)) ∧ p < 4294967296 ∧ p % 2 = val 4294967296 x % 2 ∧ 0 < x.length := by
  cases x with
  | nil => simp [val] at hp
  | cons p r =>
    obtain ⟨b, o, rfl, hb, hc⟩ := h.at_ (j := 0) (by simp)
    refine ⟨b, o, p, rfl, hb, by simpa using hc, (Dg.cons.1 hn.1).1, ?_, by simp⟩
    rw [val_cons]
    omega

/-- a number's words, in memory of their own -/
def GivesDigits (N m : Nat) (w : World) (e : Ending) (w' : World) : Prop :=
  ∃ A xs c, e = .returned (.slice A xs.length c) ∧ xs.length ≤ c ∧ xs.length ≤ m ∧ Norm 4294967296 xs ∧ val 4294967296 xs = N ∧ Rd w' (fun g => g < w'.heap.size) .u64 A xs ∧ Below w.heap.size w w'

end Go.Proofs.YtngnclibeccplaaDoor
/- What the document's own Lcm, Reduce and Sqrt answer. -/

namespace Go.Proofs.YtngnclibeccplaaDoor
open Go.RowKit Num

theorem root_exists (N : Nat) : ∃ s, IsRoot N s := by
  induction N with
  | zero => exact ⟨0, IsRoot.zero⟩
  | succ N ih =>
    obtain ⟨s, h1, h2⟩ := ih
    by_cases h : (s + 1) * (s + 1) ≤ N + 1
    · refine ⟨s + 1, h, ?_⟩
      have : (s + 1) * (s + 1) < (s + 1 + 1) * (s + 1 + 1) := Nat.mul_lt_mul'' (by omega) (by omega)
      omega
    · exact ⟨s, by omega, by omega⟩
/-- one bit more of a root -/
theorem root_bit {N s i : Nat} (h : IsRoot N s) : (if (2 ^ (i + 1) * (s / 2 ^ (i + 1)) + 2 ^ i) * (2 ^ (i + 1) * (s / 2 ^ (i + 1)) + 2 ^ i) ≤ N then 2 ^ (i + 1) * (s / 2 ^ (i + 1)) + 2 ^ i else 2 ^ (i + 1) * (s / 2 ^ (i + 1))) = 2 ^ i * (s / 2 ^ i) := by
  have hp := prefix_step s i
  have hs := Nat.div_add_mod s (2 ^ i)
  have hm := Nat.mod_lt s (show 0 < 2 ^ i from Nat.pow_pos (by omega))
  have e : 2 ^ (i + 1) * (s / 2 ^ (i + 1)) = 2 ^ i * (2 * (s / 2 ^ (i + 1))) := by rw [Nat.pow_succ, Nat.mul_assoc]
  rw [e]
  generalize s / 2 ^ (i + 1) = u at *
  generalize s / 2 ^ i = v at *
  generalize 2 ^ i = p at *
  cases hb : s.testBit i with
  | true =>
    rw [hb] at hp
    have ev : p * v = p * (2 * u) + p := by rw [hp, Nat.mul_add]; simp
    rw [← ev, if_pos]
    exact Nat.le_trans (Nat.mul_le_mul (by omega) (by omega)) h.1
  | false =>
    rw [hb] at hp
    have ev : p * v = p * (2 * u) := by rw [hp]; simp
    rw [if_neg, ev]
    intro hle
    have := h.le hle
    omega

theorem bits_le {a : List Nat} {n : Nat} (ha : Dg 4294967296 a) (hb : IsBits (val 4294967296 a) n) : n ≤ 32 * a.length := by
  rcases hb.2 with h | h
  · omega
  · have h1 := val_lt ha
    rw [show (4294967296 : Nat) = 2 ^ 32 from rfl, ← Nat.pow_mul] at h1
    have h2 := (Nat.pow_lt_pow_iff_right (show 1 < 2 by omega)).1 (Nat.lt_of_le_of_lt h h1)
    omega
theorem root_start {N s n : Nat} (hs : IsRoot N s) (hb : IsBits N n) : s / 2 ^ (n / 2 + 2) = 0 := by
  refine Nat.div_eq_of_lt (sq_lt (Nat.lt_of_le_of_lt hs.1 (Nat.lt_of_lt_of_le hb.1 ?_)))
  rw [← Nat.pow_add]
  exact Nat.pow_le_pow_right (by omega) (by omega)
theorem cmpI_le_zero (a b : Nat) : cmpI a b ≤ 0 ↔ a ≤ b := by
  rcases Nat.lt_trichotomy a b with h | h | h
  · rw [cmpI_lt h]; omega
  · rw [cmpI_eq h]; omega
  · rw [cmpI_gt h]; omega

end Go.Proofs.YtngnclibeccplaaDoor
/- The third layer's laws: 6 is in 12 and 18. -/

namespace Go.Proofs.YtngnclibeccplaaDoor
open Go.RowKit Num

/-- one word that the text writes out -/
theorem one_word (w : World) (v : Nat) (z : Int) (hz : z = (v : Int)) : ∃ W, w.alloc (.cells #[.int .u32 z] 103) = W ∧ Rd W (fun g => g < W.heap.size) .u32 (some ⟨w.heap.size, 0, none⟩) [v] ∧ Below w.heap.size w W ∧ W.heap.size = w.heap.size + 1 := by
  subst hz
  have hr : Row (w.alloc (.cells #[.int .u32 (v : Int)] 103)) w.heap.size 103 .u32 [v] := Row.new w 103 .u32 [v]
  exact ⟨_, rfl, hr.rd_all hr.lt, below_one _ _, by simp⟩
theorem dg_one {v : Nat} (h : v < 4294967296) : Dg 4294967296 [v] := by simpa [Dg] using h
theorem norm_one {v : Nat} (h : v < 4294967296) (h0 : 0 < v) : Norm 4294967296 [v] := ⟨dg_one h, by simp [Top]; omega⟩

end Go.Proofs.YtngnclibeccplaaDoor
