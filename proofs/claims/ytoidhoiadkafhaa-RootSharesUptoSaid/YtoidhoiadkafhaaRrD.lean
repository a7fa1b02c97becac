/- What the document's own Lcm, Reduce and Sqrt answer. -/
import Derived.Test.YtoidhoiadkafhaaRrC
namespace Go.Proofs.Ytoidhoiadkafhaa
open Go.RowKit Num

set_option maxHeartbeats 800000 in
theorem r3_Lcm (a b : List Nat) (A A' : Option Addr) (ca cb : Nat) (w : World) (h : Rd w (fun g => g < w.heap.size) .u32 A a) (h' : Rd w (fun g => g < w.heap.size) .u32 A' b) (hl : a.length ≤ 4194304) (hl' : b.length ≤ 4194304) (ha : Dg 4294967296 a) (hb : Dg 4294967296 b) :
    Calls Try.prog 12 #[.slice A a.length ca, .slice A' b.length cb] w (Gives .u32 4294967296 (val 4294967296 a / Nat.gcd (val 4294967296 a) (val 4294967296 b) * val 4294967296 b) w) := by
  have cM := ref_Mul a b A A' ca cb _ _ w h h' (fun g hg => hg) (fun g hg => hg) (by omega) (by omega) ha hb
  go_enter Try.func12, Try.ntmps12
  go_wp2_with fail
  refine cM.mono ?_
  rintro e w1 ⟨A1, m, c1, rfl, hc1, hn1, hv1, hr1, b1⟩
  have hml := len_mul (b := 4294967296) (by omega) hn1.2 ha hb hv1
  have cG := r3_Gcd a b A A' ca cb w1 (h.on b1) (h'.on b1) hl hl' ha hb
  have HV1 := Lib.hid hv1
  clear cM hv1
  go_wp2_with fail
  refine cG.mono ?_
  rintro e w2 ⟨A2, g, c2, rfl, hc2, hn2, hv2, hr2, b2⟩
  have B2 := b1.trans (b2.mono b1.size)
  have hgl := gcd_len hn2 ha hb hv2 (n := 4194304) (by omega) (by omega)
  have cD := ref_Div m g A1 A2 c1 c2 _ _ w2 (hr1.on b2) hr2 (fun g hg => hg) (fun g hg => hg) (by omega) (by omega) hn1.1 hn2.1
  rw [hv2, HV1.out] at cD
  clear cG hv2
  go_wp2_with fail
  refine cD.mono ?_
  rintro e w3 ⟨A3, q, c3, A4, r, c4, rfl, hc3, -, hn3, -, hv3, -, hr3, -, b3⟩
  rw [← Nat.div_mul_right_comm (Nat.gcd_dvd_left _ _)] at hv3
  have HV3 := Lib.hid hv3
  clear cD hv3
  go_wp2_with fail
  go_ret
  exact ⟨A3, q, c3, rfl, hc3, hn3, HV3.out, hr3, B2.trans (b3.mono B2.size)⟩

set_option maxHeartbeats 800000 in
theorem r3_Reduce (a b : List Nat) (A A' : Option Addr) (ca cb : Nat) (w : World) (h : Rd w (fun g => g < w.heap.size) .u32 A a) (h' : Rd w (fun g => g < w.heap.size) .u32 A' b) (hl : a.length ≤ 4194304) (hl' : b.length ≤ 4194304) (ha : Dg 4294967296 a) (hb : Dg 4294967296 b) :
    Calls Try.prog 7 #[.slice A a.length ca, .slice A' b.length cb] w (GivesTwo (val 4294967296 a / Nat.gcd (val 4294967296 a) (val 4294967296 b)) (val 4294967296 b / Nat.gcd (val 4294967296 a) (val 4294967296 b)) w) := by
  have cG := r3_Gcd a b A A' ca cb w h h' hl hl' ha hb
  go_enter Try.func7, Try.ntmps7
  go_wp2_with fail
  refine cG.mono ?_
  rintro e w1 ⟨A1, g, c1, rfl, hc1, hn1, hv1, hr1, b1⟩
  have hgl := gcd_len hn1 ha hb hv1 (n := 4194304) (by omega) (by omega)
  by_cases hg0 : g.length = 0
  · obtain rfl : g = [] := List.eq_nil_of_length_eq_zero hg0
    have hz : Nat.gcd (val 4294967296 a) (val 4294967296 b) = 0 := by rw [← hv1]; rfl
    have HZ := Lib.hid hz
    clear hz hv1 hg0 cG
    go_wp2_with fail
    go_ret2
    exact ⟨none, [], 0, none, [], 0, rfl, by simp, by simp, norm_nil _, norm_nil _, by rw [HZ.out, Nat.div_zero]; rfl, by rw [HZ.out, Nat.div_zero]; rfl, Rd.nil, Rd.nil, b1⟩
  · have cD := ref_Div a g A A1 ca c1 _ _ w1 (h.on b1) hr1 (fun g hg => hg) (fun g hg => hg) (by omega) (by omega) ha hn1.1
    have cE := fun (V : World) (hV : Below w1.heap.size w1 V) => ref_Div b g A' A1 cb c1 _ _ V ((h'.on b1).on hV) (hr1.on hV) (fun g hg => hg) (fun g hg => hg) (by omega) (by omega) hb hn1.1
    rw [hv1] at cD
    simp only [hv1] at cE
    clear cG hv1
    go_wp2_with fail
    refine cD.mono ?_
    rintro e w2 ⟨A2, q, c2, A3, r, c3, rfl, hc2, -, hn2, -, hv2, -, hr2, -, b2⟩
    have B2 := b1.trans (b2.mono b1.size)
    have HV := Lib.hid hv2
    have c5 := cE w2 b2
    clear cD hv2 cE
    go_wp2_with fail
    refine c5.mono ?_
    rintro e w3 ⟨A4, q4, c4, A5, r5, c5, rfl, hc4, -, hn4, -, hv4, -, hr4, -, b4⟩
    have HW := Lib.hid hv4
    clear hv4
    go_wp2_with fail
    go_ret2
    exact ⟨A2, q, c2, A4, q4, c4, rfl, hc2, hc4, hn2, hn4, HV.out, HW.out, hr2.on b4, hr4, B2.trans (b4.mono B2.size)⟩

theorem root_exists (N : Nat) : ∃ s, IsRoot N s := by
  induction N with
  | zero => exact ⟨0, IsRoot.zero⟩
  | succ N ih =>
    obtain ⟨s, h1, h2⟩ := ih
    by_cases h : (s + 1) * (s + 1) ≤ N + 1
    · refine ⟨s + 1, h, ?_⟩
      have : (s + 1) * (s + 1) < (s + 1 + 1) * (s + 1 + 1) := Nat.mul_lt_mul'' (by omega) (by omega)
      omega
    · exact ⟨s, by omega, by omega⟩
/-- one bit more of a root -/
theorem root_bit {N s i : Nat} (h : IsRoot N s) : (if (2 ^ (i + 1) * (s / 2 ^ (i + 1)) + 2 ^ i) * (2 ^ (i + 1) * (s / 2 ^ (i + 1)) + 2 ^ i) ≤ N then 2 ^ (i + 1) * (s / 2 ^ (i + 1)) + 2 ^ i else 2 ^ (i + 1) * (s / 2 ^ (i + 1))) = 2 ^ i * (s / 2 ^ i) := by
  have hp := prefix_step s i
  have hs := Nat.div_add_mod s (2 ^ i)
  have hm := Nat.mod_lt s (show 0 < 2 ^ i from Nat.pow_pos (by omega))
  have e : 2 ^ (i + 1) * (s / 2 ^ (i + 1)) = 2 ^ i * (2 * (s / 2 ^ (i + 1))) := by rw [Nat.pow_succ, Nat.mul_assoc]
  rw [e]
  generalize s / 2 ^ (i + 1) = u at *
  generalize s / 2 ^ i = v at *
  generalize 2 ^ i = p at *
  cases hb : s.testBit i with
  | true =>
    rw [hb] at hp
    have ev : p * v = p * (2 * u) + p := by rw [hp, Nat.mul_add]; simp
    rw [← ev, if_pos]
    exact Nat.le_trans (Nat.mul_le_mul (by omega) (by omega)) h.1
  | false =>
    rw [hb] at hp
    have ev : p * v = p * (2 * u) := by rw [hp]; simp
    rw [if_neg, ev]
    intro hle
    have := h.le hle
    omega

theorem bits_le {a : List Nat} {n : Nat} (ha : Dg 4294967296 a) (hb : IsBits (val 4294967296 a) n) : n ≤ 32 * a.length := by
  rcases hb.2 with h | h
  · omega
  · have h1 := val_lt ha
    rw [show (4294967296 : Nat) = 2 ^ 32 from rfl, ← Nat.pow_mul] at h1
    have h2 := (Nat.pow_lt_pow_iff_right (show 1 < 2 by omega)).1 (Nat.lt_of_le_of_lt h h1)
    omega
theorem root_start {N s n : Nat} (hs : IsRoot N s) (hb : IsBits N n) : s / 2 ^ (n / 2 + 2) = 0 := by
  refine Nat.div_eq_of_lt (sq_lt (Nat.lt_of_le_of_lt hs.1 (Nat.lt_of_lt_of_le hb.1 ?_)))
  rw [← Nat.pow_add]
  exact Nat.pow_le_pow_right (by omega) (by omega)
theorem cmpI_le_zero (a b : Nat) : cmpI a b ≤ 0 ↔ a ≤ b := by
  rcases Nat.lt_trichotomy a b with h | h | h
  · rw [cmpI_lt h]; omega
  · rw [cmpI_eq h]; omega
  · rw [cmpI_gt h]; omega

set_option maxHeartbeats 1600000 in
theorem r3_Sqrt (a : List Nat) (A : Option Addr) (ca : Nat) (w : World) (h : Rd w (fun g => g < w.heap.size) .u32 A a) (hl : a.length ≤ 4194304) (ha : Dg 4294967296 a) :
    Calls Try.prog 14 #[.slice A a.length ca] w (GivesRoot (val 4294967296 a) w) := by
  have cB := ref_Bits a A ca _ w h (fun g hg => hg) (by omega) ha
  obtain ⟨s, hs⟩ := root_exists (val 4294967296 a)
  go_enter Try.func14, Try.ntmps14
  go_wp2_with fail
  refine cB.mono ?_
  rintro e w1 ⟨n, rfl, hb, b1⟩
  have hn := bits_le ha hb
  have hs0 : s / 2 ^ (n / 2 + 2) = 0 := root_start hs hb
  have HS := Lib.hid hs
  have HS0 := Lib.hid hs0
  clear cB hb hs hs0
  go_wp2_with fail
  go_loopg [3, 4, 5] (n / 2 + 2) (fun gh v i _ wr => ((∃ k : Nat, gh = k + 1 ∧ i = .int .i64 k) ∨ (gh = 0 ∧ i = .int .i64 (-1))) ∧ gh ≤ n / 2 + 2 ∧ ∃ (R : Option Addr) (x : List Nat) (dx : Nat), v = .slice R x.length dx ∧ x.length ≤ dx ∧ Norm 4294967296 x ∧ val 4294967296 x = 2 ^ gh * (s / 2 ^ gh) ∧ Rd wr (fun g => g < wr.heap.size) .u32 R x ∧ Below w.heap.size w wr)
  case atStart => exact ⟨.inl ⟨n / 2 + 1, by omega, by congr 1⟩, Nat.le_refl _, none, [], 0, rfl, by simp, norm_nil _, by rw [HS0.out]; simp [val], Rd.nil, b1⟩
  case round =>
    clear b1
    obtain ⟨hcase, hg, R, x, dx, rfl, hdx, hxn, hxv, hrx, hB⟩ := hrel
    have hsz := hB.size
    have hxs : val 4294967296 x ≤ s := by rw [hxv]; exact Nat.mul_div_le _ _
    have hsa : s ≤ val 4294967296 a := Nat.le_trans (Nat.le_mul_self s) HS.out.1
    have hxl := len_le (b := 4294967296) (by omega) hxn.2 ha (by omega)
    have HXV := Lib.hid hxv
    clear hxv hxs hsa
    rcases hcase with ⟨k, rfl, rfl⟩ | ⟨rfl, rfl⟩
    · have cP := ref_Power k (by omega) wr
      go_wp2_with fail
      refine cP.mono ?_
      rintro e w2 ⟨A2, p, c2, rfl, hc2, hn2, hv2, hr2, b2⟩
      have B2 := hB.trans (b2.mono hsz)
      have hpl := pow_len hn2.2 hv2 (by omega)
      have cA := ref_add x p R A2 dx c2 _ _ w2 (hrx.on b2) hr2 (fun g hg => hg) (fun g hg => hg) (by omega) (by omega) hxn.1 hn2.1
      rw [hv2, HXV.out] at cA
      have HV2 := Lib.hid hv2
      clear cP hv2
      go_wp2_with fail
      refine cA.mono ?_
      rintro e w3 ⟨A3, y, c3, rfl, hc3, hn3, hv3, hr3, b3⟩
      have B3 := B2.trans (b3.mono B2.size)
      have hyl := len_add (b := 4294967296) (n := 4194305) (by omega) hn3.2 hxn.1 hn2.1 (by rw [hv3, HV2.out, HXV.out]) (by omega) hpl
      have cM := ref_Mul y y A3 A3 c3 c3 _ _ w3 hr3 hr3 (fun g hg => hg) (fun g hg => hg) (by omega) (by omega) hn3.1 hn3.1
      have HV3 := Lib.hid hv3
      clear cA hv3
      go_wp2_with fail
      refine cM.mono ?_
      rintro e w4 ⟨A4, z, c4, rfl, hc4, hn4, hv4, hr4, b4⟩
      have B4 := B3.trans (b4.mono B3.size)
      have hzl := len_mul (b := 4294967296) (by omega) hn4.2 hn3.1 hn3.1 hv4
      have cC := ref_Cmp z a A4 A c4 ca _ _ w4 hr4 (h.on B4) (fun g hg => hg) (fun g hg => hg) (by omega) (by omega) hn4.1 ha
      rw [hv4, HV3.out] at cC
      have hbit := root_bit (i := k) HS.out
      obtain ⟨cz, hcz⟩ : ∃ c, cmpI ((2 ^ (k + 1) * (s / 2 ^ (k + 1)) + 2 ^ k) * (2 ^ (k + 1) * (s / 2 ^ (k + 1)) + 2 ^ k)) (val 4294967296 a) = c := ⟨_, rfl⟩
      have hcz2 := cmpI_le_zero ((2 ^ (k + 1) * (s / 2 ^ (k + 1)) + 2 ^ k) * (2 ^ (k + 1) * (s / 2 ^ (k + 1)) + 2 ^ k)) (val 4294967296 a)
      rw [hcz] at cC hcz2
      have HB := Lib.hid hbit
      have HC := Lib.hid hcz2
      clear cM hv4 hbit hcz hcz2
      go_wp2_with fail
      refine cC.mono ?_
      rintro e w5 ⟨rfl, b5⟩
      have B5 := B4.trans (b5.mono B4.size)
      have hrx5 := (((hrx.on b2).on b3).on b4).on b5
      have hr5 := (hr3.on b4).on b5
      clear cC
      by_cases hle : cz ≤ 0
      · have hif := HB.out
        rw [if_pos (HC.out.1 hle)] at hif
        have HI := Lib.hid hif
        clear hif
        go_wp2_with fail
        go_roundg k
        case measure => omega
        case rel =>
          refine ⟨?_, by omega, A3, y, c3, rfl, hc3, hn3, HV3.out.trans HI.out, hr5, B5⟩
          by_cases h0 : k = 0
          · subst h0; exact .inr ⟨rfl, by go_num⟩
          · exact .inl ⟨k - 1, by omega, by go_num⟩
      · have hif := HB.out
        rw [if_neg (fun h => hle (HC.out.2 h))] at hif
        have HI := Lib.hid hif
        clear hif
        go_wp2_with fail
        go_roundg k
        case measure => omega
        case rel =>
          refine ⟨?_, by omega, R, x, dx, rfl, hdx, hxn, HXV.out.trans HI.out, hrx5, B5⟩
          by_cases h0 : k = 0
          · subst h0; exact .inr ⟨rfl, by go_num⟩
          · exact .inl ⟨k - 1, by omega, by go_num⟩
    · go_wp2_with fail
      go_ret
      refine ⟨R, x, dx, rfl, hdx, hxn, ?_, hrx, hB⟩
      rw [HXV.out]
      simpa using HS.out
end Go.Proofs.Ytoidhoiadkafhaa
