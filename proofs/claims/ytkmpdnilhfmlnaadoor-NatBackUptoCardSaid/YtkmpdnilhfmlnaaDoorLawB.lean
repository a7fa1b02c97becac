/- The law NatWords: a number's words, its 64 bits, and its shifts are the document's own. -/
import Derived.Test.YtkmpdnilhfmlnaaDoorRefH
namespace Go.Proofs.YtkmpdnilhfmlnaaDoor
open Go.RowKit Num

/-- a number laid anew, as a number that is handed back -/
theorem nat_Trim_gives (d : List Nat) (A : Option Addr) (c : Nat) (S : Nat → Prop) (w : World) (h : Rd w S .u32 A d) (hS : ∀ b, S b → b < w.heap.size) (hl : d.length ≤ 2147483648) (hc : d.length ≤ c) (hd : Dg 4294967296 d) :
    Calls Tryd.prog 25 #[.slice A d.length c] w (Gives .u32 4294967296 (val 4294967296 d) w) := by
  refine (nat_Trim d A c S w h hS hl hc hd).mono ?_
  rintro e w' ⟨ys, hn, hv, _, hb, ⟨hy, rfl⟩ | ⟨hy, g, rfl, hg, hrow⟩⟩
  · subst hy
    exact ⟨none, [], 0, rfl, by simp, hn, hv, Rd.nil, hb⟩
  · exact ⟨_, ys, ys.length, rfl, Nat.le_refl _, hn, hv, hrow.rd_all hrow.lt, hb⟩
theorem isBits_le64 {N n : Nat} (h : IsBits N n) : n ≤ 64 ↔ N < 18446744073709551616 := by
  constructor
  · intro hn
    have : (2 : Nat) ^ n ≤ 2 ^ 64 := Nat.pow_le_pow_right (by omega) hn
    have := h.1
    omega
  · intro hN
    rcases h.2 with h1 | h1
    · omega
    · have h2 := Nat.lt_of_le_of_lt h1 (show N < 2 ^ 64 by omega)
      have := (Nat.pow_lt_pow_iff_right (show 1 < 2 by omega)).1 h2
      omega
theorem len_of {xs : List Nat} {v : Nat} (ht : Top xs) (h : val 4294967296 xs = v) (hv : v < 18446744073709551616) : xs.length ≤ 2 :=
  ht.length_le (b := 4294967296) (by omega) (by rw [h]; exact hv)
theorem pow_lt_words {j m : Nat} (h : j < 32 * m) : 2 ^ j < 4294967296 ^ m := by
  rw [show (4294967296 : Nat) = 2 ^ 32 from rfl, ← Nat.pow_mul]
  exact Nat.pow_lt_pow_right (by omega) h
theorem len_shift {xs a : List Nat} {n : Int} (ht : Top xs) (ha : Dg 4294967296 a) (h : val 4294967296 xs = shiftVal (val 4294967296 a) n) : xs.length ≤ a.length + 129 := by
  refine ht.length_le (b := 4294967296) (by omega) ?_
  have h1 := val_lt ha
  have h2 : (4294967296 : Nat) ^ (a.length + 129) = 4294967296 ^ a.length * 4294967296 ^ 129 := Nat.pow_add _ _ _
  have h3 : 4294967296 ^ a.length * 1 ≤ 4294967296 ^ a.length * 4294967296 ^ 129 := Nat.mul_le_mul_left _ (Nat.pow_pos (by omega))
  rw [h, h2]
  unfold shiftVal
  split
  · omega
  · split
    · exact Nat.lt_of_le_of_lt (Nat.div_le_self _ _) (by omega)
    · exact Nat.mul_lt_mul'' h1 (pow_lt_words (by omega))
/-- the words of a number's digits, as a number that is handed back -/
theorem ref_words_of (x : List Nat) (N : Nat) (A : Option Addr) (c : Nat) (w : World) (h : Rd w (fun g => g < w.heap.size) .u64 A x) (hl : x.length ≤ 2147483648) (hc : x.length ≤ c) (hd : Dg 65536 x) (hN : val 65536 x = N) :
    Calls Tryd.prog 23 #[.slice A x.length c] w (Gives .u32 4294967296 N w) := by
  refine (ref_words x A c _ w h (fun g hg => hg) hl hc hd).mono ?_
  rintro e w4 ⟨A4, us, c4, rfl, hc4, hn4, hv4, hr4, hb4⟩
  exact ⟨A4, us, c4, rfl, hc4, hn4, by rw [hv4, hN], hr4.imp (fun g hg => hg.2), hb4⟩

set_option maxHeartbeats 3200000 in
theorem walk_NatWords_small (a : List Nat) (A : Option Addr) (ca v : Nat) (n : Int) (w : World) (h : Rd w (fun g => g < w.heap.size) .u32 A a) (hl : a.length ≤ 2097152) (hc : a.length ≤ ca) (ha : Dg 4294967296 a) (hv : v < 18446744073709551616) (hn1 : -9223372036854775808 ≤ n) (hn2 : n ≤ 9223372036854775807) (htab : Tab w) (hbig :  val 4294967296 a < 18446744073709551616) :
    Calls Tryd.prog 5 #[.slice A a.length ca, .int .u64 v, .int .i64 n] w fun e w' => e = .returned (.bool true) ∧ Below w.heap.size w w' := by
  have HBIG := Lib.hid hbig
  clear hbig
  have B0 : Below w.heap.size w w := Below.refl _ _
  have cu := nat_Uint a A ca _ w h (by omega) hc ha
  obtain ⟨N, hNe⟩ : ∃ N, val 4294967296 a = N := ⟨_, rfl⟩
  have HNN := Lib.hid hNe
  rw [hNe] at cu
  clear hNe
  have HBG : Hid ( N < 18446744073709551616) := by rw [← HNN.out]; exact HBIG.out
  go_enter Tryd.func5, Tryd.ntmps5
  go_wp2_with fail
  refine cu.mono ?_
  rintro e w1 ⟨rfl, hcase⟩
  obtain ⟨_, rfl⟩ : N < 18446744073709551616 ∧ e = .returned (.tuple #[.int .u64 (N : Nat), .bool true]) := by
    rcases hcase with h1 | h1
    · exact h1
    · exact absurd HBG.out h1.1
  clear cu
  have cR := ref_Bits a A ca _ w h (fun g hg => hg) (by omega) ha
  go_wp2_with fail
  refine cR.mono ?_
  rintro e w1 ⟨k, rfl, hk, b1⟩
  have B1 : Below w.heap.size w w1 := b1
  have s1 := B1.size
  have hk64 : k ≤ 64 := by exact (isBits_le64 hk).2 HBIG.out
  have hkd : decide ((k : Int) ≤ 64) = true := by simp; omega
  clear cR hk
  have cc := ref_half a A ca _ w1 (h.below B1 (fun g hg => hg)) (fun g hg => by omega) (by omega) ha
  go_wp2_with fail
  refine cc.mono ?_
  rintro e w2 ⟨A2, y2, c2, rfl, hc2, hl2, hn2, hv2, hr2, b2⟩
  have B2 : Below w.heap.size w w2 := B1.trans (b2.mono B1.size)
  have s2 := B2.size
  have z2 := b2.size
  have HN2 := Lib.hid hn2
  have HV2 := Lib.hid hv2
  clear hn2 hv2 cc
  have cc := ref_words_of y2 _ A2 c2 w2 (hr2.imp (fun g hg => hg.2)) (by omega) hc2 HN2.out.1 HV2.out
  go_wp2_with fail
  refine cc.mono ?_
  rintro e w3 ⟨A3, x3, c3, rfl, hc3, hn3, hv3, hr3, b3⟩
  have B3 : Below w.heap.size w w3 := B2.trans (b3.mono B2.size)
  have s3 := B3.size
  have z3 := b3.size
  have HN3 := Lib.hid hn3
  have HV3 := Lib.hid hv3
  clear hn3 hv3 cc
  have cc := nat_Trim_gives a A ca _ w3 (h.below B3 (fun g hg => hg)) (fun g hg => by omega) (by omega) hc ha
  go_wp2_with fail
  refine cc.mono ?_
  rintro e w4 ⟨A4, x4, c4, rfl, hc4, hn4, hv4, hr4, b4⟩
  have B4 : Below w.heap.size w w4 := B3.trans (b4.mono B3.size)
  have s4 := B4.size
  have z4 := b4.size
  have HN4 := Lib.hid hn4
  have HV4 := Lib.hid hv4
  clear hn4 hv4 cc
  have cc := ref_half a A ca _ w4 (h.below B4 (fun g hg => hg)) (fun g hg => by omega) (by omega) ha
  go_wp2_with fail
  refine cc.mono ?_
  rintro e w5 ⟨A5, y5, c5, rfl, hc5, hl5, hn5, hv5, hr5, b5⟩
  have B5 : Below w.heap.size w w5 := B4.trans (b5.mono B4.size)
  have s5 := B5.size
  have z5 := b5.size
  have HN5 := Lib.hid hn5
  have HV5 := Lib.hid hv5
  clear hn5 hv5 cc
  have cc := ref_words_of y5 _ A5 c5 w5 (hr5.imp (fun g hg => hg.2)) (by omega) hc5 HN5.out.1 HV5.out
  go_wp2_with fail
  refine cc.mono ?_
  rintro e w6 ⟨A6, x6, c6, rfl, hc6, hn6, hv6, hr6, b6⟩
  obtain rfl : x4 = x6 := Norm.ext (b := 4294967296) (by omega) HN4.out hn6 (by rw [HV4.out, hv6])
  have B6 : Below w.heap.size w w6 := B5.trans (b6.mono B5.size)
  have s6 := B6.size
  have z6 := b6.size
  clear hn6 hv6 cc
  have ll : x4.length ≤ 4611686018427387904 := Nat.le_trans (len_le (b := 4294967296) (by omega) HN4.out.2 ha (by rw [HV4.out]; omega)) (by omega)
  have cc := ref_same x4 A4 A6 c4 c6 _ _ w6 (hr4.below (b5.trans (b6.mono z5)) (fun g hg => hg)) (hr6) ll
  clear ll
  go_wp2_with fail
  refine cc.mono ?_
  rintro e w7 ⟨rfl, m7, hw7⟩
  have b7 : Below w6.heap.size w6 w7 := by rw [hw7]; exact below_drewN (Below.refl _ _) m7
  have B7 : Below w.heap.size w w7 := B6.trans (b7.mono B6.size)
  have s7 := B7.size
  have z7 := b7.size
  clear hw7 cc
  have cc := nat_Of v hv w7
  go_wp2_with fail
  refine cc.mono ?_
  rintro e w8 ⟨A8, x8, c8, rfl, hc8, hn8, hv8, hr8, b8⟩
  have B8 : Below w.heap.size w w8 := B7.trans (b8.mono B7.size)
  have s8 := B8.size
  have z8 := b8.size
  have HN8 := Lib.hid hn8
  have HV8 := Lib.hid hv8
  clear hn8 hv8 cc
  have cc := ref_Of v hv w8
  go_wp2_with fail
  refine cc.mono ?_
  rintro e w9 ⟨A9, x9, c9, rfl, hc9, hn9, hv9, hr9, b9⟩
  obtain rfl : x8 = x9 := Norm.ext (b := 4294967296) (by omega) HN8.out hn9 (by rw [HV8.out, hv9])
  have B9 : Below w.heap.size w w9 := B8.trans (b9.mono B8.size)
  have s9 := B9.size
  have z9 := b9.size
  clear hn9 hv9 cc
  have ll : x8.length ≤ 4611686018427387904 := Nat.le_trans (len_of HN8.out.2 HV8.out hv) (by omega)
  have cc := ref_same x8 A8 A9 c8 c9 _ _ w9 (hr8.below b9 (fun g hg => hg)) (hr9) ll
  clear ll
  go_wp2_with fail
  refine cc.mono ?_
  rintro e w10 ⟨rfl, m10, hw10⟩
  have b10 : Below w9.heap.size w9 w10 := by rw [hw10]; exact below_drewN (Below.refl _ _) m10
  have B10 : Below w.heap.size w w10 := B9.trans (b10.mono B9.size)
  have s10 := B10.size
  have z10 := b10.size
  clear hw10 cc
  have cc := ref_Of N HBG.out w10
  go_wp2_with fail
  refine cc.mono ?_
  rintro e w11 ⟨A11, x11, c11, rfl, hc11, hn11, hv11, hr11, b11⟩
  obtain rfl : x3 = x11 := Norm.ext (b := 4294967296) (by omega) HN3.out hn11 (by rw [HV3.out, hv11, HNN.out])
  have B11 : Below w.heap.size w w11 := B10.trans (b11.mono B10.size)
  have s11 := B11.size
  have z11 := b11.size
  clear hn11 hv11 cc
  have ll : x3.length ≤ 4611686018427387904 := Nat.le_trans (len_le (b := 4294967296) (by omega) HN3.out.2 ha (by rw [HV3.out]; omega)) (by omega)
  have cc := ref_same x3 A11 A3 c11 c3 _ _ w11 hr11 (hr3.below (b4.trans ((b5.mono (by omega)).trans ((b6.mono (by omega)).trans ((b7.mono (by omega)).trans ((b8.mono (by omega)).trans ((b9.mono (by omega)).trans ((b10.mono (by omega)).trans (b11.mono (by omega))))))))) (fun g hg => hg)) ll
  clear ll
  go_wp2_with fail
  refine cc.mono ?_
  rintro e w12 ⟨rfl, m12, hw12⟩
  have b12 : Below w11.heap.size w11 w12 := by rw [hw12]; exact below_drewN (Below.refl _ _) m12
  have B12 : Below w.heap.size w w12 := B11.trans (b12.mono B11.size)
  have s12 := B12.size
  have z12 := b12.size
  clear hw12 cc
  have cc := nat_Shift a A ca n _ w12 (h.below B12 (fun g hg => hg)) (fun g hg => by omega) (by omega) hc ha hn1 hn2
  go_wp2_with fail
  refine cc.mono ?_
  rintro e w13 ⟨A13, x13, c13, rfl, hc13, hn13, hv13, hr13, b13⟩
  have B13 : Below w.heap.size w w13 := B12.trans (b13.mono B12.size)
  have s13 := B13.size
  have z13 := b13.size
  have HN13 := Lib.hid hn13
  have HV13 := Lib.hid hv13
  clear hn13 hv13 cc
  have cc := ref_Shift a A ca n _ w13 (h.below B13 (fun g hg => hg)) (fun g hg => by omega) (by omega) ha hn1 hn2
  go_wp2_with fail
  refine cc.mono ?_
  rintro e w14 ⟨A14, x14, c14, rfl, hc14, hn14, hv14, hr14, b14⟩
  obtain rfl : x13 = x14 := Norm.ext (b := 4294967296) (by omega) HN13.out hn14 (by rw [HV13.out, hv14])
  have B14 : Below w.heap.size w w14 := B13.trans (b14.mono B13.size)
  have s14 := B14.size
  have z14 := b14.size
  clear hn14 hv14 cc
  have ll : x13.length ≤ 4611686018427387904 := Nat.le_trans (len_shift HN13.out.2 ha HV13.out) (by omega)
  have cc := ref_same x13 A13 A14 c13 c14 _ _ w14 (hr13.below b14 (fun g hg => hg)) (hr14) ll
  clear ll
  go_wp2_with fail
  refine cc.mono ?_
  rintro e w15 ⟨rfl, m15, hw15⟩
  have b15 : Below w14.heap.size w14 w15 := by rw [hw15]; exact below_drewN (Below.refl _ _) m15
  have B15 : Below w.heap.size w w15 := B14.trans (b15.mono B14.size)
  have s15 := B15.size
  have z15 := b15.size
  clear hw15 cc
  have cc := law_lives w15 (htab.on B15)
  go_wp2_with fail
  refine cc.mono ?_
  rintro e w16 ⟨rfl, b16⟩
  clear cc
  go_wp2
  go_ret
  exact ⟨rfl, B15.trans (b16.mono B15.size)⟩
set_option maxHeartbeats 3200000 in
theorem walk_NatWords_great (a : List Nat) (A : Option Addr) (ca v : Nat) (n : Int) (w : World) (h : Rd w (fun g => g < w.heap.size) .u32 A a) (hl : a.length ≤ 2097152) (hc : a.length ≤ ca) (ha : Dg 4294967296 a) (hv : v < 18446744073709551616) (hn1 : -9223372036854775808 ≤ n) (hn2 : n ≤ 9223372036854775807) (htab : Tab w) (hbig : ¬ val 4294967296 a < 18446744073709551616) :
    Calls Tryd.prog 5 #[.slice A a.length ca, .int .u64 v, .int .i64 n] w fun e w' => e = .returned (.bool true) ∧ Below w.heap.size w w' := by
  have HBIG := Lib.hid hbig
  clear hbig
  have B0 : Below w.heap.size w w := Below.refl _ _
  have cu := nat_Uint a A ca _ w h (by omega) hc ha
  obtain ⟨N, hNe⟩ : ∃ N, val 4294967296 a = N := ⟨_, rfl⟩
  have HNN := Lib.hid hNe
  rw [hNe] at cu
  clear hNe
  have HBG : Hid (¬ N < 18446744073709551616) := by rw [← HNN.out]; exact HBIG.out
  go_enter Tryd.func5, Tryd.ntmps5
  go_wp2_with fail
  refine cu.mono ?_
  rintro e w1 ⟨rfl, hcase⟩
  obtain ⟨_, rfl⟩ : ¬ N < 18446744073709551616 ∧ e = .returned (.tuple #[.int .u64 0, .bool false]) := by
    rcases hcase with h1 | h1
    · exact absurd h1.1 HBG.out
    · exact h1
  clear cu
  have cR := ref_Bits a A ca _ w h (fun g hg => hg) (by omega) ha
  go_wp2_with fail
  refine cR.mono ?_
  rintro e w1 ⟨k, rfl, hk, b1⟩
  have B1 : Below w.heap.size w w1 := b1
  have s1 := B1.size
  have hk64 : 64 < k := by rcases Nat.lt_or_ge 64 k with h1 | h1; exact h1; exact absurd ((isBits_le64 hk).1 h1) HBIG.out
  have hkd : decide ((k : Int) ≤ 64) = false := by simp; omega
  clear cR hk
  have cc := nat_Trim_gives a A ca _ w1 (h.below B1 (fun g hg => hg)) (fun g hg => by omega) (by omega) hc ha
  go_wp2_with fail
  refine cc.mono ?_
  rintro e w4 ⟨A4, x4, c4, rfl, hc4, hn4, hv4, hr4, b4⟩
  have B4 : Below w.heap.size w w4 := B1.trans (b4.mono B1.size)
  have s4 := B4.size
  have z4 := b4.size
  have HN4 := Lib.hid hn4
  have HV4 := Lib.hid hv4
  clear hn4 hv4 cc
  have cc := ref_half a A ca _ w4 (h.below B4 (fun g hg => hg)) (fun g hg => by omega) (by omega) ha
  go_wp2_with fail
  refine cc.mono ?_
  rintro e w5 ⟨A5, y5, c5, rfl, hc5, hl5, hn5, hv5, hr5, b5⟩
  have B5 : Below w.heap.size w w5 := B4.trans (b5.mono B4.size)
  have s5 := B5.size
  have z5 := b5.size
  have HN5 := Lib.hid hn5
  have HV5 := Lib.hid hv5
  clear hn5 hv5 cc
  have cc := ref_words_of y5 _ A5 c5 w5 (hr5.imp (fun g hg => hg.2)) (by omega) hc5 HN5.out.1 HV5.out
  go_wp2_with fail
  refine cc.mono ?_
  rintro e w6 ⟨A6, x6, c6, rfl, hc6, hn6, hv6, hr6, b6⟩
  obtain rfl : x4 = x6 := Norm.ext (b := 4294967296) (by omega) HN4.out hn6 (by rw [HV4.out, hv6])
  have B6 : Below w.heap.size w w6 := B5.trans (b6.mono B5.size)
  have s6 := B6.size
  have z6 := b6.size
  clear hn6 hv6 cc
  have ll : x4.length ≤ 4611686018427387904 := Nat.le_trans (len_le (b := 4294967296) (by omega) HN4.out.2 ha (by rw [HV4.out]; omega)) (by omega)
  have cc := ref_same x4 A4 A6 c4 c6 _ _ w6 (hr4.below (b5.trans (b6.mono z5)) (fun g hg => hg)) (hr6) ll
  clear ll
  go_wp2_with fail
  refine cc.mono ?_
  rintro e w7 ⟨rfl, m7, hw7⟩
  have b7 : Below w6.heap.size w6 w7 := by rw [hw7]; exact below_drewN (Below.refl _ _) m7
  have B7 : Below w.heap.size w w7 := B6.trans (b7.mono B6.size)
  have s7 := B7.size
  have z7 := b7.size
  clear hw7 cc
  have cc := nat_Of v hv w7
  go_wp2_with fail
  refine cc.mono ?_
  rintro e w8 ⟨A8, x8, c8, rfl, hc8, hn8, hv8, hr8, b8⟩
  have B8 : Below w.heap.size w w8 := B7.trans (b8.mono B7.size)
  have s8 := B8.size
  have z8 := b8.size
  have HN8 := Lib.hid hn8
  have HV8 := Lib.hid hv8
  clear hn8 hv8 cc
  have cc := ref_Of v hv w8
  go_wp2_with fail
  refine cc.mono ?_
  rintro e w9 ⟨A9, x9, c9, rfl, hc9, hn9, hv9, hr9, b9⟩
  obtain rfl : x8 = x9 := Norm.ext (b := 4294967296) (by omega) HN8.out hn9 (by rw [HV8.out, hv9])
  have B9 : Below w.heap.size w w9 := B8.trans (b9.mono B8.size)
  have s9 := B9.size
  have z9 := b9.size
  clear hn9 hv9 cc
  have ll : x8.length ≤ 4611686018427387904 := Nat.le_trans (len_of HN8.out.2 HV8.out hv) (by omega)
  have cc := ref_same x8 A8 A9 c8 c9 _ _ w9 (hr8.below b9 (fun g hg => hg)) (hr9) ll
  clear ll
  go_wp2_with fail
  refine cc.mono ?_
  rintro e w10 ⟨rfl, m10, hw10⟩
  have b10 : Below w9.heap.size w9 w10 := by rw [hw10]; exact below_drewN (Below.refl _ _) m10
  have B10 : Below w.heap.size w w10 := B9.trans (b10.mono B9.size)
  have s10 := B10.size
  have z10 := b10.size
  clear hw10 cc
  have cc := ref_Of 0 (by omega) w10
  go_wp2_with fail
  refine cc.mono ?_
  rintro e w11 ⟨A11, x11, c11, rfl, hc11, hn11, hv11, hr11, b11⟩
  obtain rfl : x11 = [] := (hn11.2.nil_iff (b := 4294967296) (by omega)).2 hv11
  have B11 : Below w.heap.size w w11 := B10.trans (b11.mono B10.size)
  have s11 := B11.size
  have z11 := b11.size
  clear hn11 hv11 cc hc11
  have cc := ref_same [] A11 none c11 0 _ (fun _ => True) w11 hr11 Rd.nil (by simp)
  go_wp2_with fail
  refine cc.mono ?_
  rintro e w12 ⟨rfl, m12, hw12⟩
  have b12 : Below w11.heap.size w11 w12 := by rw [hw12]; exact below_drewN (Below.refl _ _) m12
  have B12 : Below w.heap.size w w12 := B11.trans (b12.mono B11.size)
  have s12 := B12.size
  have z12 := b12.size
  clear hw12 cc
  have cc := nat_Shift a A ca n _ w12 (h.below B12 (fun g hg => hg)) (fun g hg => by omega) (by omega) hc ha hn1 hn2
  go_wp2_with fail
  refine cc.mono ?_
  rintro e w13 ⟨A13, x13, c13, rfl, hc13, hn13, hv13, hr13, b13⟩
  have B13 : Below w.heap.size w w13 := B12.trans (b13.mono B12.size)
  have s13 := B13.size
  have z13 := b13.size
  have HN13 := Lib.hid hn13
  have HV13 := Lib.hid hv13
  clear hn13 hv13 cc
  have cc := ref_Shift a A ca n _ w13 (h.below B13 (fun g hg => hg)) (fun g hg => by omega) (by omega) ha hn1 hn2
  go_wp2_with fail
  refine cc.mono ?_
  rintro e w14 ⟨A14, x14, c14, rfl, hc14, hn14, hv14, hr14, b14⟩
  obtain rfl : x13 = x14 := Norm.ext (b := 4294967296) (by omega) HN13.out hn14 (by rw [HV13.out, hv14])
  have B14 : Below w.heap.size w w14 := B13.trans (b14.mono B13.size)
  have s14 := B14.size
  have z14 := b14.size
  clear hn14 hv14 cc
  have ll : x13.length ≤ 4611686018427387904 := Nat.le_trans (len_shift HN13.out.2 ha HV13.out) (by omega)
  have cc := ref_same x13 A13 A14 c13 c14 _ _ w14 (hr13.below b14 (fun g hg => hg)) (hr14) ll
  clear ll
  go_wp2_with fail
  refine cc.mono ?_
  rintro e w15 ⟨rfl, m15, hw15⟩
  have b15 : Below w14.heap.size w14 w15 := by rw [hw15]; exact below_drewN (Below.refl _ _) m15
  have B15 : Below w.heap.size w w15 := B14.trans (b15.mono B14.size)
  have s15 := B15.size
  have z15 := b15.size
  clear hw15 cc
  have cc := law_lives w15 (htab.on B15)
  go_wp2_with fail
  refine cc.mono ?_
  rintro e w16 ⟨rfl, b16⟩
  clear cc
  go_wp2
  go_ret
  exact ⟨rfl, B15.trans (b16.mono B15.size)⟩
end Go.Proofs.YtkmpdnilhfmlnaaDoor
