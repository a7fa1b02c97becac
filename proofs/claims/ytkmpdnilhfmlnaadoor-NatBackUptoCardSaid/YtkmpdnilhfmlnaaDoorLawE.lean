/- The law NatBack: what was added, multiplied and told is found again. -/
import Derived.Test.YtkmpdnilhfmlnaaDoorLawB
import Derived.Test.YtkmpdnilhfmlnaaDoorLawC
import Derived.Test.YtkmpdnilhfmlnaaDoorLawD
namespace Go.Proofs.YtkmpdnilhfmlnaaDoor
open Go.RowKit Num

theorem Num.Rd.on {w w' : World} {k : IntKind} {A : Option Addr} {xs : List Nat} (h : Rd w (fun g => g < w.heap.size) k A xs) (hb : Below w.heap.size w w') : Rd w' (fun g => g < w'.heap.size) k A xs :=
  (h.below hb (fun _ hg => hg)).imp fun _ hg => Nat.lt_of_lt_of_le hg hb.size
theorem isBits_pos {N n : Nat} (h : IsBits N n) (hN : 0 < N) : 0 < n := by
  rcases Nat.eq_zero_or_pos n with h0 | h0
  · subst h0; have := h.1; omega
  · exact h0
theorem isBits_zero {N n : Nat} (h : IsBits N n) (hN : ¬ 0 < N) : n = 0 := by
  rcases h.2 with h0 | h0
  · exact h0
  · have : 0 < 2 ^ (n - 1) := Nat.pow_pos (by omega)
    omega
theorem back_parse {t : ByteArray} {N M er : Nat} (ht : ByteArray.mk (Lib.decDigits N).toArray = t) (h : IsParse t.data.toList M er) : t.size ≤ 2000 → M = N ∧ er = 0 := by
  intro hs
  have e : t.data.toList = Lib.decDigits N := by rw [← ht]
  have hl := data_size t
  rw [e] at h hl
  rcases h with ⟨h1, _⟩ | ⟨_, h1, _⟩ | ⟨_, _, h1, h2⟩
  · omega
  · exact absurd (dec_isDec N) h1
  · exact ⟨by rw [h1, decVal_dec], h2⟩

set_option maxHeartbeats 1600000 in
/-- a text of any length -/
theorem nat_Parse_any (t : ByteArray) (hsz : t.size ≤ 20971521) (w : World) :
    Calls Tryd.prog 30 #[.string t] w (Parses t.data.toList w) := by
  by_cases hbig : 2000 < t.size
  · have HP := Lib.hid (show IsParse t.data.toList 0 4 from .inl ⟨by rw [data_size]; omega, rfl, rfl⟩)
    go_enter Tryd.func30, Tryd.ntmps30
    go_wp2_with fail
    go_ret2
    exact ⟨none, [], 0, 4, rfl, by simp, norm_nil _, HP.out, Rd.nil, Below.refl _ _⟩
  · exact nat_Parse t (by omega) w

set_option maxHeartbeats 6400000 in
theorem walk_NatBack_some (a b c : List Nat) (A A' A'' : Option Addr) (ca cb cc0 : Nat) (w : World) (h : Rd w (fun g => g < w.heap.size) .u32 A a) (h1 : Rd w (fun g => g < w.heap.size) .u32 A' b) (h2 : Rd w (fun g => g < w.heap.size) .u32 A'' c) (hl : a.length ≤ 2097152) (hl1 : b.length ≤ 2097152) (hl2 : c.length ≤ 2097152) (hc : a.length ≤ ca) (hc1' : b.length ≤ cb) (hc2' : c.length ≤ cc0) (ha : Dg 4294967296 a) (hb : Dg 4294967296 b) (hcc : Dg 4294967296 c) (htab : Tab w) (hpos : 0 < val 4294967296 b) :
    Calls Tryd.prog 7 #[.slice A a.length ca, .slice A' b.length cb, .slice A'' c.length cc0] w fun e w' => e = .returned (.bool true) ∧ Below w.heap.size w w' := by
  have HB := Lib.hid hpos
  clear hpos
  have B00 : Below w.heap.size w w := Below.refl _ _
  go_enter Tryd.func7, Tryd.ntmps7
  have B0 := B00
  clear B00
  have cc := nat_Add a b A A' ca cb _ _ w h h1 (fun g hg => hg) (fun g hg => hg) (by omega) (by omega) hc hc1' ha hb
  go_wp2_with fail
  refine cc.mono ?_
  rintro e w1 ⟨A1, x1, c1, rfl, hc1, hn1, hv1, r1, b1⟩
  have HN1 := Lib.hid hn1
  have HV1 := Lib.hid hv1
  have l1 : x1.length ≤ 2097153 := len_add (b := 4294967296) (by omega) HN1.out.2 ha hb HV1.out (by omega) (by omega)
  clear hn1 hv1 cc
  replace h := h.on b1
  replace h1 := h1.on b1
  replace h2 := h2.on b1
  have B1 : Below w.heap.size w w1 := B0.trans (b1.mono B0.size)
  clear b1
  have cc := nat_Sub x1 b A1 A' c1 cb _ _ w1 r1 h1 (fun g hg => hg) (fun g hg => hg) (by omega) (by omega) hc1 hc1' HN1.out.1 hb
  rw [HV1.out, Nat.add_sub_cancel, show decide (val 4294967296 b ≤ val 4294967296 a + val 4294967296 b) = true from decide_eq_true (Nat.le_add_left _ _)] at cc
  go_wp2_with fail
  refine cc.mono ?_
  rintro e w2 ⟨A2, x2, c2, rfl, hc2, hn2, hv2, r2, b2⟩
  have HN2 := Lib.hid hn2
  have HV2 := Lib.hid hv2
  have l2 : x2.length ≤ 2097152 := Nat.le_trans (len_le (b := 4294967296) (by omega) HN2.out.2 ha (by rw [HV2.out]; omega)) hl
  clear hn2 hv2 cc
  replace h := h.on b2
  replace h1 := h1.on b2
  replace h2 := h2.on b2
  replace r1 := r1.on b2
  have B2 : Below w.heap.size w w2 := B1.trans (b2.mono B1.size)
  clear b2
  have cc := nat_Add b c A' A'' cb cc0 _ _ w2 h1 h2 (fun g hg => hg) (fun g hg => hg) (by omega) (by omega) hc1' hc2' hb hcc
  go_wp2_with fail
  refine cc.mono ?_
  rintro e w3 ⟨A3, x3, c3, rfl, hc3, hn3, hv3, r3, b3⟩
  have HN3 := Lib.hid hn3
  have HV3 := Lib.hid hv3
  have l3 : x3.length ≤ 2097153 := len_add (b := 4294967296) (by omega) HN3.out.2 hb hcc HV3.out (by omega) (by omega)
  clear hn3 hv3 cc
  replace h := h.on b3
  replace h1 := h1.on b3
  replace h2 := h2.on b3
  replace r1 := r1.on b3
  replace r2 := r2.on b3
  have B3 : Below w.heap.size w w3 := B2.trans (b3.mono B2.size)
  clear b3
  have cc := nat_Mul a x3 A A3 ca c3 _ _ w3 h r3 (fun g hg => hg) (fun g hg => hg) (by omega) (by omega) hc hc3 ha HN3.out.1
  rw [HV3.out] at cc
  go_wp2_with fail
  refine cc.mono ?_
  rintro e w4 ⟨A4, x4, c4, rfl, hc4, hn4, hv4, r4, b4⟩
  have HN4 := Lib.hid hn4
  have HV4 := Lib.hid hv4
  have l4 : x4.length ≤ 4194305 := by have := len_mul (b := 4294967296) (by omega) HN4.out.2 ha HN3.out.1 (by rw [HV4.out, HV3.out]); omega
  clear hn4 hv4 cc
  replace h := h.on b4
  replace h1 := h1.on b4
  replace h2 := h2.on b4
  replace r1 := r1.on b4
  replace r2 := r2.on b4
  replace r3 := r3.on b4
  have B4 : Below w.heap.size w w4 := B3.trans (b4.mono B3.size)
  clear b4
  have cc := nat_Mul a b A A' ca cb _ _ w4 h h1 (fun g hg => hg) (fun g hg => hg) (by omega) (by omega) hc hc1' ha hb
  go_wp2_with fail
  refine cc.mono ?_
  rintro e w5 ⟨A5, x5, c5, rfl, hc5, hn5, hv5, r5, b5⟩
  have HN5 := Lib.hid hn5
  have HV5 := Lib.hid hv5
  have l5 : x5.length ≤ 4194304 := by have := len_mul (b := 4294967296) (by omega) HN5.out.2 ha hb HV5.out; omega
  clear hn5 hv5 cc
  replace h := h.on b5
  replace h1 := h1.on b5
  replace h2 := h2.on b5
  replace r1 := r1.on b5
  replace r2 := r2.on b5
  replace r3 := r3.on b5
  replace r4 := r4.on b5
  have B5 : Below w.heap.size w w5 := B4.trans (b5.mono B4.size)
  clear b5
  have cc := nat_Add x5 c A5 A'' c5 cc0 _ _ w5 r5 h2 (fun g hg => hg) (fun g hg => hg) (by omega) (by omega) hc5 hc2' HN5.out.1 hcc
  rw [HV5.out] at cc
  go_wp2_with fail
  refine cc.mono ?_
  rintro e w6 ⟨A6, x6, c6, rfl, hc6, hn6, hv6, r6, b6⟩
  have HN6 := Lib.hid hn6
  have HV6 := Lib.hid hv6
  have l6 : x6.length ≤ 4194305 := len_add (b := 4294967296) (by omega) HN6.out.2 HN5.out.1 hcc (by rw [HV6.out, HV5.out]) (by omega) (by omega)
  clear hn6 hv6 cc
  replace h := h.on b6
  replace h1 := h1.on b6
  replace h2 := h2.on b6
  replace r1 := r1.on b6
  replace r2 := r2.on b6
  replace r3 := r3.on b6
  replace r4 := r4.on b6
  replace r5 := r5.on b6
  have B6 : Below w.heap.size w w6 := B5.trans (b6.mono B5.size)
  clear b6
  have cc := nat_Div x6 b A6 A' c6 cb _ _ w6 r6 h1 (fun g hg => hg) (fun g hg => hg) (by omega) (by omega) hc6 hc1' HN6.out.1 hb
  rw [HV6.out] at cc
  unfold GivesQR at cc
  rw [show decide (0 < val 4294967296 b) = true from decide_eq_true HB.out] at cc
  go_wp2_with fail
  refine cc.mono ?_
  rintro e w7 ⟨A7, x7, c7, P7, y7, d7, rfl, hc7, hd7, hn7, hm7, hv7, hu7, r7, q7, b7⟩
  have HN7 := Lib.hid hn7
  have HV7 := Lib.hid hv7
  have HM7 := Lib.hid hm7
  rw [if_neg (by have := HB.out; omega)] at hu7
  have HU7 := Lib.hid hu7
  have l7 : x7.length ≤ 4194305 := Nat.le_trans (len_le (b := 4294967296) (by omega) HN7.out.2 HN6.out.1 (by rw [HV7.out, HV6.out]; exact Nat.div_le_self _ _)) l6
  have k7 : y7.length ≤ 2097152 := Nat.le_trans (len_le (b := 4294967296) (by omega) HM7.out.2 hb (by rw [HU7.out]; exact Nat.le_of_lt (Nat.mod_lt _ HB.out))) hl1
  clear hn7 hv7 hm7 hu7 cc
  replace h := h.on b7
  replace h1 := h1.on b7
  replace h2 := h2.on b7
  replace r1 := r1.on b7
  replace r2 := r2.on b7
  replace r3 := r3.on b7
  replace r4 := r4.on b7
  replace r5 := r5.on b7
  replace r6 := r6.on b7
  have B7 : Below w.heap.size w w7 := B6.trans (b7.mono B6.size)
  clear b7
  have cc := nat_Text a A ca _ w7 h (fun g hg => hg) hl hc ha (htab.on B7)
  have hts : (Lib.decDigits (val 4294967296 a)).length ≤ 1048576 ∨ True := .inr trivial
  obtain ⟨tx, htx⟩ : ∃ tx, ByteArray.mk (Lib.decDigits (val 4294967296 a)).toArray = tx := ⟨_, rfl⟩
  rw [htx] at cc
  have HTX := Lib.hid htx
  clear htx hts
  go_wp2_with fail
  refine cc.mono ?_
  rintro e w8 ⟨rfl, b8⟩
  clear cc
  replace h := h.on b8
  replace h1 := h1.on b8
  replace h2 := h2.on b8
  replace r1 := r1.on b8
  replace r2 := r2.on b8
  replace r3 := r3.on b8
  replace r4 := r4.on b8
  replace r5 := r5.on b8
  replace r6 := r6.on b8
  replace r7 := r7.on b8
  replace q7 := q7.on b8
  have B8 : Below w.heap.size w w8 := B7.trans (b8.mono B7.size)
  clear b8
  have htsz : tx.size ≤ 20971521 := by
    have h3 := dec_len_words (val_lt ha)
    have h4 : (Lib.decDigits (val 4294967296 a)).length = tx.size := by rw [← HTX.out, ← data_size]
    omega
  have cc := nat_Parse_any tx htsz w8
  go_wp2_with fail
  refine cc.mono ?_
  rintro e w9 ⟨A9, x9, c9, er, rfl, hc9, hn9, hp9, r9, b9⟩
  have HN9 := Lib.hid hn9
  have HP9 := Lib.hid hp9
  have l9 : x9.length ≤ 2000 := parse_len hn9 hp9
  clear hn9 hp9 cc
  replace h := h.on b9
  replace h1 := h1.on b9
  replace h2 := h2.on b9
  replace r1 := r1.on b9
  replace r2 := r2.on b9
  replace r3 := r3.on b9
  replace r4 := r4.on b9
  replace r5 := r5.on b9
  replace r6 := r6.on b9
  replace r7 := r7.on b9
  replace q7 := q7.on b9
  have B9 : Below w.heap.size w w9 := B8.trans (b9.mono B8.size)
  clear b9
  have cc := nat_Bits b A' cb _ w9 h1 (by omega) hc1' hb
  go_wp2_with fail
  refine cc.mono ?_
  rintro e w9' ⟨n, rfl, hn, _, rfl⟩
  have hn0 : 0 < n := isBits_pos hn HB.out
  clear hn cc
  have hlt : val 4294967296 y7 < val 4294967296 b := by rw [HU7.out]; exact Nat.mod_lt _ HB.out
  have cc := nat_Cmp y7 b P7 A' d7 cb _ _ w9 q7 h1 (by omega) (by omega) hd7 hc1' HM7.out.1 hb
  rw [cmpI_lt hlt] at cc
  clear hlt
  go_wp2_with fail
  refine cc.mono ?_
  rintro e w10 ⟨rfl, m10, hw10⟩
  have b10 : Below w9.heap.size w9 w10 := by rw [hw10]; exact below_drewN (Below.refl _ _) m10
  clear hw10 cc
  replace h := h.on b10
  replace h1 := h1.on b10
  replace h2 := h2.on b10
  replace r1 := r1.on b10
  replace r2 := r2.on b10
  replace r3 := r3.on b10
  replace r4 := r4.on b10
  replace r5 := r5.on b10
  replace r6 := r6.on b10
  replace r7 := r7.on b10
  replace q7 := q7.on b10
  replace r9 := r9.on b10
  have B10 : Below w.heap.size w w10 := B9.trans (b10.mono B9.size)
  clear b10
  have cc := nat_Mul x7 b A7 A' c7 cb _ _ w10 r7 h1 (fun g hg => hg) (fun g hg => hg) (by omega) (by omega) hc7 hc1' HN7.out.1 hb
  rw [HV7.out] at cc
  go_wp2_with fail
  refine cc.mono ?_
  rintro e w12 ⟨A12, x12, c12, rfl, hc12, hn12, hv12, r12, b12⟩
  have HN12 := Lib.hid hn12
  have HV12 := Lib.hid hv12
  have l12 : x12.length ≤ 4194305 := Nat.le_trans (len_le (b := 4294967296) (by omega) HN12.out.2 HN6.out.1 (by rw [HV12.out, HV6.out]; exact Nat.div_mul_le_self _ _)) l6
  clear hn12 hv12 cc
  replace h := h.on b12
  replace h1 := h1.on b12
  replace h2 := h2.on b12
  replace r1 := r1.on b12
  replace r2 := r2.on b12
  replace r3 := r3.on b12
  replace r4 := r4.on b12
  replace r5 := r5.on b12
  replace r6 := r6.on b12
  replace r7 := r7.on b12
  replace q7 := q7.on b12
  replace r9 := r9.on b12
  have B12 : Below w.heap.size w w12 := B10.trans (b12.mono B10.size)
  clear b12
  have cc := nat_Add x12 y7 A12 P7 c12 d7 _ _ w12 r12 q7 (fun g hg => hg) (fun g hg => hg) (by omega) (by omega) hc12 hd7 HN12.out.1 HM7.out.1
  rw [HV12.out, HU7.out, Nat.div_add_mod' (val 4294967296 a * val 4294967296 b + val 4294967296 c) (val 4294967296 b)] at cc
  go_wp2_with fail
  refine cc.mono ?_
  rintro e w13 ⟨A13, x13, c13, rfl, hc13, hn13, hv13, r13, b13⟩
  have HN13 := Lib.hid hn13
  have HV13 := Lib.hid hv13
  clear hn13 hv13 cc
  replace h := h.on b13
  replace h1 := h1.on b13
  replace h2 := h2.on b13
  replace r1 := r1.on b13
  replace r2 := r2.on b13
  replace r3 := r3.on b13
  replace r4 := r4.on b13
  replace r5 := r5.on b13
  replace r6 := r6.on b13
  replace r7 := r7.on b13
  replace q7 := q7.on b13
  replace r9 := r9.on b13
  replace r12 := r12.on b13
  have B13 : Below w.heap.size w w13 := B12.trans (b13.mono B12.size)
  clear b13
  have cc := nat_Mul a b A A' ca cb _ _ w13 h h1 (fun g hg => hg) (fun g hg => hg) (by omega) (by omega) hc hc1' ha hb
  go_wp2_with fail
  refine cc.mono ?_
  rintro e w14 ⟨A14, x14, c14, rfl, hc14, hn14, hv14, r14, b14⟩
  have HN14 := Lib.hid hn14
  have HV14 := Lib.hid hv14
  clear hn14 hv14 cc
  replace h := h.on b14
  replace h1 := h1.on b14
  replace h2 := h2.on b14
  replace r1 := r1.on b14
  replace r2 := r2.on b14
  replace r3 := r3.on b14
  replace r4 := r4.on b14
  replace r5 := r5.on b14
  replace r6 := r6.on b14
  replace r7 := r7.on b14
  replace q7 := q7.on b14
  replace r9 := r9.on b14
  replace r12 := r12.on b14
  replace r13 := r13.on b14
  have B14 : Below w.heap.size w w14 := B13.trans (b14.mono B13.size)
  clear b14
  obtain rfl : x5 = x14 := Norm.ext (b := 4294967296) (by omega) HN5.out HN14.out (by rw [HV5.out, HV14.out])
  have cc := nat_Add x5 c A14 A'' c14 cc0 _ _ w14 r14 h2 (fun g hg => hg) (fun g hg => hg) (by omega) (by omega) hc14 hc2' HN5.out.1 hcc
  rw [HV5.out] at cc
  go_wp2_with fail
  refine cc.mono ?_
  rintro e w15 ⟨A15, x15, c15, rfl, hc15, hn15, hv15, r15, b15⟩
  have HN15 := Lib.hid hn15
  have HV15 := Lib.hid hv15
  clear hn15 hv15 cc
  replace h := h.on b15
  replace h1 := h1.on b15
  replace h2 := h2.on b15
  replace r1 := r1.on b15
  replace r2 := r2.on b15
  replace r3 := r3.on b15
  replace r4 := r4.on b15
  replace r5 := r5.on b15
  replace r6 := r6.on b15
  replace r7 := r7.on b15
  replace q7 := q7.on b15
  replace r9 := r9.on b15
  replace r12 := r12.on b15
  replace r13 := r13.on b15
  replace r14 := r14.on b15
  have B15 : Below w.heap.size w w15 := B14.trans (b15.mono B14.size)
  clear b15
  obtain rfl : x6 = x15 := Norm.ext (b := 4294967296) (by omega) HN6.out HN15.out (by rw [HV6.out, HV15.out])
  obtain rfl : x6 = x13 := Norm.ext (b := 4294967296) (by omega) HN6.out HN13.out (by rw [HV6.out, HV13.out])
  have cc := ref_same x6 A13 A15 c13 c15 _ _ w15 r13 r15 (by omega)
  go_wp2_with fail
  refine cc.mono ?_
  rintro e w16 ⟨rfl, m16, hw16⟩
  have b16 : Below w15.heap.size w15 w16 := by rw [hw16]; exact below_drewN (Below.refl _ _) m16
  clear hw16 cc
  clear r12 r13 r14 r15 r7 q7 r6 r5
  replace h := h.on b16
  replace h1 := h1.on b16
  replace h2 := h2.on b16
  replace r1 := r1.on b16
  replace r2 := r2.on b16
  replace r3 := r3.on b16
  replace r4 := r4.on b16
  replace r9 := r9.on b16
  have B16 : Below w.heap.size w w16 := B15.trans (b16.mono B15.size)
  clear b16
  have cc := nat_Trim_gives a A ca _ w16 h (fun g hg => hg) (by omega) hc ha
  go_wp2_with fail
  refine cc.mono ?_
  rintro e w17 ⟨A17, x17, c17, rfl, hc17, hn17, hv17, r17, b17⟩
  have HN17 := Lib.hid hn17
  have HV17 := Lib.hid hv17
  clear hn17 hv17 cc
  replace h := h.on b17
  replace h1 := h1.on b17
  replace h2 := h2.on b17
  replace r1 := r1.on b17
  replace r2 := r2.on b17
  replace r3 := r3.on b17
  replace r4 := r4.on b17
  replace r9 := r9.on b17
  have B17 : Below w.heap.size w w17 := B16.trans (b17.mono B16.size)
  clear b17
  obtain rfl : x2 = x17 := Norm.ext (b := 4294967296) (by omega) HN2.out HN17.out (by rw [HV2.out, HV17.out])
  have cc := ref_same x2 A2 A17 c2 c17 _ _ w17 r2 r17 (by omega)
  go_wp2_with fail
  refine cc.mono ?_
  rintro e w18 ⟨rfl, m18, hw18⟩
  have b18 : Below w17.heap.size w17 w18 := by rw [hw18]; exact below_drewN (Below.refl _ _) m18
  clear hw18 cc
  replace h := h.on b18
  replace h1 := h1.on b18
  replace h2 := h2.on b18
  replace r1 := r1.on b18
  replace r2 := r2.on b18
  replace r3 := r3.on b18
  replace r4 := r4.on b18
  replace r9 := r9.on b18
  replace r17 := r17.on b18
  have B18 : Below w.heap.size w w18 := B17.trans (b18.mono B17.size)
  clear b18
  have cc := nat_Mul a b A A' ca cb _ _ w18 h h1 (fun g hg => hg) (fun g hg => hg) (by omega) (by omega) hc hc1' ha hb
  go_wp2_with fail
  refine cc.mono ?_
  rintro e w19 ⟨A19, x19, c19, rfl, hc19, hn19, hv19, r19, b19⟩
  have HN19 := Lib.hid hn19
  have HV19 := Lib.hid hv19
  have l19 : x19.length ≤ 4194304 := by have := len_mul (b := 4294967296) (by omega) HN19.out.2 ha hb HV19.out; omega
  clear hn19 hv19 cc
  replace h := h.on b19
  replace h1 := h1.on b19
  replace h2 := h2.on b19
  replace r1 := r1.on b19
  replace r2 := r2.on b19
  replace r3 := r3.on b19
  replace r4 := r4.on b19
  replace r9 := r9.on b19
  replace r17 := r17.on b19
  have B19 : Below w.heap.size w w19 := B18.trans (b19.mono B18.size)
  clear b19
  have cc := nat_Mul a c A A'' ca cc0 _ _ w19 h h2 (fun g hg => hg) (fun g hg => hg) (by omega) (by omega) hc hc2' ha hcc
  go_wp2_with fail
  refine cc.mono ?_
  rintro e w20 ⟨A20, x20, c20, rfl, hc20, hn20, hv20, r20, b20⟩
  have HN20 := Lib.hid hn20
  have HV20 := Lib.hid hv20
  have l20 : x20.length ≤ 4194304 := by have := len_mul (b := 4294967296) (by omega) HN20.out.2 ha hcc HV20.out; omega
  clear hn20 hv20 cc
  replace h := h.on b20
  replace h1 := h1.on b20
  replace h2 := h2.on b20
  replace r1 := r1.on b20
  replace r2 := r2.on b20
  replace r3 := r3.on b20
  replace r4 := r4.on b20
  replace r9 := r9.on b20
  replace r17 := r17.on b20
  replace r19 := r19.on b20
  have B20 : Below w.heap.size w w20 := B19.trans (b20.mono B19.size)
  clear b20
  have cc := nat_Add x19 x20 A19 A20 c19 c20 _ _ w20 r19 r20 (fun g hg => hg) (fun g hg => hg) (by omega) (by omega) hc19 hc20 HN19.out.1 HN20.out.1
  go_wp2_with fail
  refine cc.mono ?_
  rintro e w21 ⟨A21, x21, c21, rfl, hc21, hn21, hv21, r21, b21⟩
  have HN21 := Lib.hid hn21
  have HV21 := Lib.hid hv21
  clear hn21 hv21 cc
  replace h := h.on b21
  replace h1 := h1.on b21
  replace h2 := h2.on b21
  replace r1 := r1.on b21
  replace r2 := r2.on b21
  replace r3 := r3.on b21
  replace r4 := r4.on b21
  replace r9 := r9.on b21
  replace r17 := r17.on b21
  replace r19 := r19.on b21
  replace r20 := r20.on b21
  have B21 : Below w.heap.size w w21 := B20.trans (b21.mono B20.size)
  clear b21
  obtain rfl : x4 = x21 := Norm.ext (b := 4294967296) (by omega) HN4.out HN21.out (by rw [HV4.out, HV21.out, HV19.out, HV20.out, Nat.mul_add])
  have cc := ref_same x4 A4 A21 c4 c21 _ _ w21 r4 r21 (by omega)
  go_wp2_with fail
  refine cc.mono ?_
  rintro e w22 ⟨rfl, m22, hw22⟩
  have b22 : Below w21.heap.size w21 w22 := by rw [hw22]; exact below_drewN (Below.refl _ _) m22
  clear hw22 cc
  replace h := h.on b22
  replace h1 := h1.on b22
  replace h2 := h2.on b22
  replace r1 := r1.on b22
  replace r2 := r2.on b22
  replace r3 := r3.on b22
  replace r4 := r4.on b22
  replace r9 := r9.on b22
  replace r17 := r17.on b22
  replace r19 := r19.on b22
  replace r20 := r20.on b22
  replace r21 := r21.on b22
  have B22 : Below w.heap.size w w22 := B21.trans (b22.mono B21.size)
  clear b22
  by_cases hbig : 2000 < tx.size
  · have cc := law_lives w22 (htab.on B22)
    go_wp2_with fail
    refine cc.mono ?_
    rintro e w30 ⟨rfl, b30⟩
    clear cc
    go_wp2
    go_ret
    exact ⟨rfl, B22.trans (b30.mono B22.size)⟩
  · have hsm : tx.size ≤ 2000 := by omega
    obtain ⟨hpv, rfl⟩ := back_parse HTX.out HP9.out hsm
    have HPV := Lib.hid hpv
    clear hpv
    have cc := nat_Trim_gives a A ca _ w22 h (fun g hg => hg) (by omega) hc ha
    go_wp2_with fail
    refine cc.mono ?_
    rintro e w23 ⟨A23, x23, c23, rfl, hc23, hn23, hv23, r23, b23⟩
    have HN23 := Lib.hid hn23
    have HV23 := Lib.hid hv23
    clear hn23 hv23 cc
    replace h := h.on b23
    replace h1 := h1.on b23
    replace h2 := h2.on b23
    replace r1 := r1.on b23
    replace r2 := r2.on b23
    replace r3 := r3.on b23
    replace r4 := r4.on b23
    replace r9 := r9.on b23
    replace r17 := r17.on b23
    replace r19 := r19.on b23
    replace r20 := r20.on b23
    replace r21 := r21.on b23
    have B23 : Below w.heap.size w w23 := B22.trans (b23.mono B22.size)
    clear b23
    obtain rfl : x9 = x23 := Norm.ext (b := 4294967296) (by omega) HN9.out HN23.out (by rw [HPV.out, HV23.out])
    have cc := ref_same x9 A9 A23 c9 c23 _ _ w23 r9 r23 (by omega)
    go_wp2_with fail
    refine cc.mono ?_
    rintro e w24 ⟨rfl, m24, hw24⟩
    have b24 : Below w23.heap.size w23 w24 := by rw [hw24]; exact below_drewN (Below.refl _ _) m24
    clear hw24 cc
    replace h := h.on b24
    replace h1 := h1.on b24
    replace h2 := h2.on b24
    replace r1 := r1.on b24
    replace r2 := r2.on b24
    replace r3 := r3.on b24
    replace r4 := r4.on b24
    replace r9 := r9.on b24
    replace r17 := r17.on b24
    replace r19 := r19.on b24
    replace r20 := r20.on b24
    replace r21 := r21.on b24
    replace r23 := r23.on b24
    have B24 : Below w.heap.size w w24 := B23.trans (b24.mono B23.size)
    clear b24
    have cc := law_lives w24 (htab.on B24)
    go_wp2_with fail
    refine cc.mono ?_
    rintro e w30 ⟨rfl, b30⟩
    clear cc
    go_wp2
    go_ret
    exact ⟨rfl, B24.trans (b30.mono B24.size)⟩

set_option maxHeartbeats 6400000 in
theorem walk_NatBack_none (a b c : List Nat) (A A' A'' : Option Addr) (ca cb cc0 : Nat) (w : World) (h : Rd w (fun g => g < w.heap.size) .u32 A a) (h1 : Rd w (fun g => g < w.heap.size) .u32 A' b) (h2 : Rd w (fun g => g < w.heap.size) .u32 A'' c) (hl : a.length ≤ 2097152) (hl1 : b.length ≤ 2097152) (hl2 : c.length ≤ 2097152) (hc : a.length ≤ ca) (hc1' : b.length ≤ cb) (hc2' : c.length ≤ cc0) (ha : Dg 4294967296 a) (hb : Dg 4294967296 b) (hcc : Dg 4294967296 c) (htab : Tab w) (hpos : ¬ 0 < val 4294967296 b) :
    Calls Tryd.prog 7 #[.slice A a.length ca, .slice A' b.length cb, .slice A'' c.length cc0] w fun e w' => e = .returned (.bool true) ∧ Below w.heap.size w w' := by
  have HB := Lib.hid hpos
  clear hpos
  have B00 : Below w.heap.size w w := Below.refl _ _
  go_enter Tryd.func7, Tryd.ntmps7
  have B0 := B00
  clear B00
  have cc := nat_Add a b A A' ca cb _ _ w h h1 (fun g hg => hg) (fun g hg => hg) (by omega) (by omega) hc hc1' ha hb
  go_wp2_with fail
  refine cc.mono ?_
  rintro e w1 ⟨A1, x1, c1, rfl, hc1, hn1, hv1, r1, b1⟩
  have HN1 := Lib.hid hn1
  have HV1 := Lib.hid hv1
  have l1 : x1.length ≤ 2097153 := len_add (b := 4294967296) (by omega) HN1.out.2 ha hb HV1.out (by omega) (by omega)
  clear hn1 hv1 cc
  replace h := h.on b1
  replace h1 := h1.on b1
  replace h2 := h2.on b1
  have B1 : Below w.heap.size w w1 := B0.trans (b1.mono B0.size)
  clear b1
  have cc := nat_Sub x1 b A1 A' c1 cb _ _ w1 r1 h1 (fun g hg => hg) (fun g hg => hg) (by omega) (by omega) hc1 hc1' HN1.out.1 hb
  rw [HV1.out, Nat.add_sub_cancel, show decide (val 4294967296 b ≤ val 4294967296 a + val 4294967296 b) = true from decide_eq_true (Nat.le_add_left _ _)] at cc
  go_wp2_with fail
  refine cc.mono ?_
  rintro e w2 ⟨A2, x2, c2, rfl, hc2, hn2, hv2, r2, b2⟩
  have HN2 := Lib.hid hn2
  have HV2 := Lib.hid hv2
  have l2 : x2.length ≤ 2097152 := Nat.le_trans (len_le (b := 4294967296) (by omega) HN2.out.2 ha (by rw [HV2.out]; omega)) hl
  clear hn2 hv2 cc
  replace h := h.on b2
  replace h1 := h1.on b2
  replace h2 := h2.on b2
  replace r1 := r1.on b2
  have B2 : Below w.heap.size w w2 := B1.trans (b2.mono B1.size)
  clear b2
  have cc := nat_Add b c A' A'' cb cc0 _ _ w2 h1 h2 (fun g hg => hg) (fun g hg => hg) (by omega) (by omega) hc1' hc2' hb hcc
  go_wp2_with fail
  refine cc.mono ?_
  rintro e w3 ⟨A3, x3, c3, rfl, hc3, hn3, hv3, r3, b3⟩
  have HN3 := Lib.hid hn3
  have HV3 := Lib.hid hv3
  have l3 : x3.length ≤ 2097153 := len_add (b := 4294967296) (by omega) HN3.out.2 hb hcc HV3.out (by omega) (by omega)
  clear hn3 hv3 cc
  replace h := h.on b3
  replace h1 := h1.on b3
  replace h2 := h2.on b3
  replace r1 := r1.on b3
  replace r2 := r2.on b3
  have B3 : Below w.heap.size w w3 := B2.trans (b3.mono B2.size)
  clear b3
  have cc := nat_Mul a x3 A A3 ca c3 _ _ w3 h r3 (fun g hg => hg) (fun g hg => hg) (by omega) (by omega) hc hc3 ha HN3.out.1
  rw [HV3.out] at cc
  go_wp2_with fail
  refine cc.mono ?_
  rintro e w4 ⟨A4, x4, c4, rfl, hc4, hn4, hv4, r4, b4⟩
  have HN4 := Lib.hid hn4
  have HV4 := Lib.hid hv4
  have l4 : x4.length ≤ 4194305 := by have := len_mul (b := 4294967296) (by omega) HN4.out.2 ha HN3.out.1 (by rw [HV4.out, HV3.out]); omega
  clear hn4 hv4 cc
  replace h := h.on b4
  replace h1 := h1.on b4
  replace h2 := h2.on b4
  replace r1 := r1.on b4
  replace r2 := r2.on b4
  replace r3 := r3.on b4
  have B4 : Below w.heap.size w w4 := B3.trans (b4.mono B3.size)
  clear b4
  have cc := nat_Mul a b A A' ca cb _ _ w4 h h1 (fun g hg => hg) (fun g hg => hg) (by omega) (by omega) hc hc1' ha hb
  go_wp2_with fail
  refine cc.mono ?_
  rintro e w5 ⟨A5, x5, c5, rfl, hc5, hn5, hv5, r5, b5⟩
  have HN5 := Lib.hid hn5
  have HV5 := Lib.hid hv5
  have l5 : x5.length ≤ 4194304 := by have := len_mul (b := 4294967296) (by omega) HN5.out.2 ha hb HV5.out; omega
  clear hn5 hv5 cc
  replace h := h.on b5
  replace h1 := h1.on b5
  replace h2 := h2.on b5
  replace r1 := r1.on b5
  replace r2 := r2.on b5
  replace r3 := r3.on b5
  replace r4 := r4.on b5
  have B5 : Below w.heap.size w w5 := B4.trans (b5.mono B4.size)
  clear b5
  have cc := nat_Add x5 c A5 A'' c5 cc0 _ _ w5 r5 h2 (fun g hg => hg) (fun g hg => hg) (by omega) (by omega) hc5 hc2' HN5.out.1 hcc
  rw [HV5.out] at cc
  go_wp2_with fail
  refine cc.mono ?_
  rintro e w6 ⟨A6, x6, c6, rfl, hc6, hn6, hv6, r6, b6⟩
  have HN6 := Lib.hid hn6
  have HV6 := Lib.hid hv6
  have l6 : x6.length ≤ 4194305 := len_add (b := 4294967296) (by omega) HN6.out.2 HN5.out.1 hcc (by rw [HV6.out, HV5.out]) (by omega) (by omega)
  clear hn6 hv6 cc
  replace h := h.on b6
  replace h1 := h1.on b6
  replace h2 := h2.on b6
  replace r1 := r1.on b6
  replace r2 := r2.on b6
  replace r3 := r3.on b6
  replace r4 := r4.on b6
  replace r5 := r5.on b6
  have B6 : Below w.heap.size w w6 := B5.trans (b6.mono B5.size)
  clear b6
  have cc := nat_Div x6 b A6 A' c6 cb _ _ w6 r6 h1 (fun g hg => hg) (fun g hg => hg) (by omega) (by omega) hc6 hc1' HN6.out.1 hb
  rw [HV6.out] at cc
  unfold GivesQR at cc
  rw [show decide (0 < val 4294967296 b) = false from decide_eq_false HB.out] at cc
  go_wp2_with fail
  refine cc.mono ?_
  rintro e w7 ⟨A7, x7, c7, P7, y7, d7, rfl, hc7, hd7, hn7, hm7, hv7, hu7, r7, q7, b7⟩
  have HN7 := Lib.hid hn7
  have HV7 := Lib.hid hv7
  have HM7 := Lib.hid hm7
  clear hn7 hv7 hm7 hu7 cc q7 r7
  replace h := h.on b7
  replace h1 := h1.on b7
  replace h2 := h2.on b7
  replace r1 := r1.on b7
  replace r2 := r2.on b7
  replace r3 := r3.on b7
  replace r4 := r4.on b7
  replace r5 := r5.on b7
  replace r6 := r6.on b7
  have B7 : Below w.heap.size w w7 := B6.trans (b7.mono B6.size)
  clear b7
  have cc := nat_Text a A ca _ w7 h (fun g hg => hg) hl hc ha (htab.on B7)
  have hts : (Lib.decDigits (val 4294967296 a)).length ≤ 1048576 ∨ True := .inr trivial
  obtain ⟨tx, htx⟩ : ∃ tx, ByteArray.mk (Lib.decDigits (val 4294967296 a)).toArray = tx := ⟨_, rfl⟩
  rw [htx] at cc
  have HTX := Lib.hid htx
  clear htx hts
  go_wp2_with fail
  refine cc.mono ?_
  rintro e w8 ⟨rfl, b8⟩
  clear cc
  replace h := h.on b8
  replace h1 := h1.on b8
  replace h2 := h2.on b8
  replace r1 := r1.on b8
  replace r2 := r2.on b8
  replace r3 := r3.on b8
  replace r4 := r4.on b8
  replace r5 := r5.on b8
  replace r6 := r6.on b8
  have B8 : Below w.heap.size w w8 := B7.trans (b8.mono B7.size)
  clear b8
  have htsz : tx.size ≤ 20971521 := by
    have h3 := dec_len_words (val_lt ha)
    have h4 : (Lib.decDigits (val 4294967296 a)).length = tx.size := by rw [← HTX.out, ← data_size]
    omega
  have cc := nat_Parse_any tx htsz w8
  go_wp2_with fail
  refine cc.mono ?_
  rintro e w9 ⟨A9, x9, c9, er, rfl, hc9, hn9, hp9, r9, b9⟩
  have HN9 := Lib.hid hn9
  have HP9 := Lib.hid hp9
  have l9 : x9.length ≤ 2000 := parse_len hn9 hp9
  clear hn9 hp9 cc
  replace h := h.on b9
  replace h1 := h1.on b9
  replace h2 := h2.on b9
  replace r1 := r1.on b9
  replace r2 := r2.on b9
  replace r3 := r3.on b9
  replace r4 := r4.on b9
  replace r5 := r5.on b9
  replace r6 := r6.on b9
  have B9 : Below w.heap.size w w9 := B8.trans (b9.mono B8.size)
  clear b9
  have cc := nat_Bits b A' cb _ w9 h1 (by omega) hc1' hb
  go_wp2_with fail
  refine cc.mono ?_
  rintro e w9' ⟨n, rfl, hn, _, rfl⟩
  have hn0 : n = 0 := isBits_zero hn HB.out
  clear hn cc
  subst hn0
  clear r6 r5
  have cc := nat_Trim_gives a A ca _ w9 h (fun g hg => hg) (by omega) hc ha
  go_wp2_with fail
  refine cc.mono ?_
  rintro e w17 ⟨A17, x17, c17, rfl, hc17, hn17, hv17, r17, b17⟩
  have HN17 := Lib.hid hn17
  have HV17 := Lib.hid hv17
  clear hn17 hv17 cc
  replace h := h.on b17
  replace h1 := h1.on b17
  replace h2 := h2.on b17
  replace r1 := r1.on b17
  replace r2 := r2.on b17
  replace r3 := r3.on b17
  replace r4 := r4.on b17
  replace r9 := r9.on b17
  have B17 : Below w.heap.size w w17 := B9.trans (b17.mono B9.size)
  clear b17
  obtain rfl : x2 = x17 := Norm.ext (b := 4294967296) (by omega) HN2.out HN17.out (by rw [HV2.out, HV17.out])
  have cc := ref_same x2 A2 A17 c2 c17 _ _ w17 r2 r17 (by omega)
  go_wp2_with fail
  refine cc.mono ?_
  rintro e w18 ⟨rfl, m18, hw18⟩
  have b18 : Below w17.heap.size w17 w18 := by rw [hw18]; exact below_drewN (Below.refl _ _) m18
  clear hw18 cc
  replace h := h.on b18
  replace h1 := h1.on b18
  replace h2 := h2.on b18
  replace r1 := r1.on b18
  replace r2 := r2.on b18
  replace r3 := r3.on b18
  replace r4 := r4.on b18
  replace r9 := r9.on b18
  replace r17 := r17.on b18
  have B18 : Below w.heap.size w w18 := B17.trans (b18.mono B17.size)
  clear b18
  have cc := nat_Mul a b A A' ca cb _ _ w18 h h1 (fun g hg => hg) (fun g hg => hg) (by omega) (by omega) hc hc1' ha hb
  go_wp2_with fail
  refine cc.mono ?_
  rintro e w19 ⟨A19, x19, c19, rfl, hc19, hn19, hv19, r19, b19⟩
  have HN19 := Lib.hid hn19
  have HV19 := Lib.hid hv19
  have l19 : x19.length ≤ 4194304 := by have := len_mul (b := 4294967296) (by omega) HN19.out.2 ha hb HV19.out; omega
  clear hn19 hv19 cc
  replace h := h.on b19
  replace h1 := h1.on b19
  replace h2 := h2.on b19
  replace r1 := r1.on b19
  replace r2 := r2.on b19
  replace r3 := r3.on b19
  replace r4 := r4.on b19
  replace r9 := r9.on b19
  replace r17 := r17.on b19
  have B19 : Below w.heap.size w w19 := B18.trans (b19.mono B18.size)
  clear b19
  have cc := nat_Mul a c A A'' ca cc0 _ _ w19 h h2 (fun g hg => hg) (fun g hg => hg) (by omega) (by omega) hc hc2' ha hcc
  go_wp2_with fail
  refine cc.mono ?_
  rintro e w20 ⟨A20, x20, c20, rfl, hc20, hn20, hv20, r20, b20⟩
  have HN20 := Lib.hid hn20
  have HV20 := Lib.hid hv20
  have l20 : x20.length ≤ 4194304 := by have := len_mul (b := 4294967296) (by omega) HN20.out.2 ha hcc HV20.out; omega
  clear hn20 hv20 cc
  replace h := h.on b20
  replace h1 := h1.on b20
  replace h2 := h2.on b20
  replace r1 := r1.on b20
  replace r2 := r2.on b20
  replace r3 := r3.on b20
  replace r4 := r4.on b20
  replace r9 := r9.on b20
  replace r17 := r17.on b20
  replace r19 := r19.on b20
  have B20 : Below w.heap.size w w20 := B19.trans (b20.mono B19.size)
  clear b20
  have cc := nat_Add x19 x20 A19 A20 c19 c20 _ _ w20 r19 r20 (fun g hg => hg) (fun g hg => hg) (by omega) (by omega) hc19 hc20 HN19.out.1 HN20.out.1
  go_wp2_with fail
  refine cc.mono ?_
  rintro e w21 ⟨A21, x21, c21, rfl, hc21, hn21, hv21, r21, b21⟩
  have HN21 := Lib.hid hn21
  have HV21 := Lib.hid hv21
  clear hn21 hv21 cc
  replace h := h.on b21
  replace h1 := h1.on b21
  replace h2 := h2.on b21
  replace r1 := r1.on b21
  replace r2 := r2.on b21
  replace r3 := r3.on b21
  replace r4 := r4.on b21
  replace r9 := r9.on b21
  replace r17 := r17.on b21
  replace r19 := r19.on b21
  replace r20 := r20.on b21
  have B21 : Below w.heap.size w w21 := B20.trans (b21.mono B20.size)
  clear b21
  obtain rfl : x4 = x21 := Norm.ext (b := 4294967296) (by omega) HN4.out HN21.out (by rw [HV4.out, HV21.out, HV19.out, HV20.out, Nat.mul_add])
  have cc := ref_same x4 A4 A21 c4 c21 _ _ w21 r4 r21 (by omega)
  go_wp2_with fail
  refine cc.mono ?_
  rintro e w22 ⟨rfl, m22, hw22⟩
  have b22 : Below w21.heap.size w21 w22 := by rw [hw22]; exact below_drewN (Below.refl _ _) m22
  clear hw22 cc
  replace h := h.on b22
  replace h1 := h1.on b22
  replace h2 := h2.on b22
  replace r1 := r1.on b22
  replace r2 := r2.on b22
  replace r3 := r3.on b22
  replace r4 := r4.on b22
  replace r9 := r9.on b22
  replace r17 := r17.on b22
  replace r19 := r19.on b22
  replace r20 := r20.on b22
  replace r21 := r21.on b22
  have B22 : Below w.heap.size w w22 := B21.trans (b22.mono B21.size)
  clear b22
  by_cases hbig : 2000 < tx.size
  · have cc := law_lives w22 (htab.on B22)
    go_wp2_with fail
    refine cc.mono ?_
    rintro e w30 ⟨rfl, b30⟩
    clear cc
    go_wp2
    go_ret
    exact ⟨rfl, B22.trans (b30.mono B22.size)⟩
  · have hsm : tx.size ≤ 2000 := by omega
    obtain ⟨hpv, rfl⟩ := back_parse HTX.out HP9.out hsm
    have HPV := Lib.hid hpv
    clear hpv
    have cc := nat_Trim_gives a A ca _ w22 h (fun g hg => hg) (by omega) hc ha
    go_wp2_with fail
    refine cc.mono ?_
    rintro e w23 ⟨A23, x23, c23, rfl, hc23, hn23, hv23, r23, b23⟩
    have HN23 := Lib.hid hn23
    have HV23 := Lib.hid hv23
    clear hn23 hv23 cc
    replace h := h.on b23
    replace h1 := h1.on b23
    replace h2 := h2.on b23
    replace r1 := r1.on b23
    replace r2 := r2.on b23
    replace r3 := r3.on b23
    replace r4 := r4.on b23
    replace r9 := r9.on b23
    replace r17 := r17.on b23
    replace r19 := r19.on b23
    replace r20 := r20.on b23
    replace r21 := r21.on b23
    have B23 : Below w.heap.size w w23 := B22.trans (b23.mono B22.size)
    clear b23
    obtain rfl : x9 = x23 := Norm.ext (b := 4294967296) (by omega) HN9.out HN23.out (by rw [HPV.out, HV23.out])
    have cc := ref_same x9 A9 A23 c9 c23 _ _ w23 r9 r23 (by omega)
    go_wp2_with fail
    refine cc.mono ?_
    rintro e w24 ⟨rfl, m24, hw24⟩
    have b24 : Below w23.heap.size w23 w24 := by rw [hw24]; exact below_drewN (Below.refl _ _) m24
    clear hw24 cc
    replace h := h.on b24
    replace h1 := h1.on b24
    replace h2 := h2.on b24
    replace r1 := r1.on b24
    replace r2 := r2.on b24
    replace r3 := r3.on b24
    replace r4 := r4.on b24
    replace r9 := r9.on b24
    replace r17 := r17.on b24
    replace r19 := r19.on b24
    replace r20 := r20.on b24
    replace r21 := r21.on b24
    replace r23 := r23.on b24
    have B24 : Below w.heap.size w w24 := B23.trans (b24.mono B23.size)
    clear b24
    have cc := law_lives w24 (htab.on B24)
    go_wp2_with fail
    refine cc.mono ?_
    rintro e w30 ⟨rfl, b30⟩
    clear cc
    go_wp2
    go_ret
    exact ⟨rfl, B24.trans (b30.mono B24.size)⟩

theorem walk_NatBack (a b c : List Nat) (A A' A'' : Option Addr) (ca cb cc0 : Nat) (w : World) (h : Rd w (fun g => g < w.heap.size) .u32 A a) (h1 : Rd w (fun g => g < w.heap.size) .u32 A' b) (h2 : Rd w (fun g => g < w.heap.size) .u32 A'' c) (hl : a.length ≤ 2097152) (hl1 : b.length ≤ 2097152) (hl2 : c.length ≤ 2097152) (hc : a.length ≤ ca) (hc1' : b.length ≤ cb) (hc2' : c.length ≤ cc0) (ha : Dg 4294967296 a) (hb : Dg 4294967296 b) (hcc : Dg 4294967296 c) (htab : Tab w) :
    Calls Tryd.prog 7 #[.slice A a.length ca, .slice A' b.length cb, .slice A'' c.length cc0] w fun e w' => e = .returned (.bool true) ∧ Below w.heap.size w w' := by
  by_cases hpos : 0 < val 4294967296 b
  · exact walk_NatBack_some a b c A A' A'' ca cb cc0 w h h1 h2 hl hl1 hl2 hc hc1' hc2' ha hb hcc htab hpos
  · exact walk_NatBack_none a b c A A' A'' ca cb cc0 w h h1 h2 hl hl1 hl2 hc hc1' hc2' ha hb hcc htab hpos
end Go.Proofs.YtkmpdnilhfmlnaaDoor
