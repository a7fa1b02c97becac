/- The law RootShares: the greatest common factor and the least common multiple come to the product; what is reduced has no factor in common; a square's root is found again. -/
import Derived.Test.YtoidhoiadkafhaaLawM
namespace Go.Proofs.Ytoidhoiadkafhaa
open Go.RowKit Num

theorem bits_pos {N n : Nat} (h : IsBits N n) (hN : 0 < N) : 0 < n := by
  rcases Nat.eq_zero_or_pos n with h0 | h0
  · subst h0; have := h.1; simp at this; omega
  · exact h0
theorem bits_zero {N n : Nat} (h : IsBits N n) (hN : N = 0) : n = 0 := by
  rcases h.2 with h0 | h0
  · exact h0
  · have := Nat.two_pow_pos (n - 1); omega
theorem reduced_one {N M : Nat} (h : 0 < Nat.gcd N M) : Nat.gcd (N / Nat.gcd N M) (M / Nat.gcd N M) = 1 := by
  rw [Nat.gcd_div (Nat.gcd_dvd_left _ _) (Nat.gcd_dvd_right _ _), Nat.div_self h]
theorem shares (N M : Nat) : Nat.gcd N M * (N / Nat.gcd N M * M) = N * M := by
  rw [← Nat.mul_assoc, Nat.mul_div_cancel' (Nat.gcd_dvd_left _ _)]

set_option maxRecDepth 10000 in
set_option maxHeartbeats 3200000 in
theorem walk_RootShares (a b : List Nat) (A A' : Option Addr) (ca cb : Nat) (w : World) (h : Rd w (fun g => g < w.heap.size) .u32 A a) (h' : Rd w (fun g => g < w.heap.size) .u32 A' b) (hl : a.length ≤ 2097152) (hl' : b.length ≤ 2097152) (hc : a.length ≤ ca) (hc' : b.length ≤ cb) (ha : Dg 4294967296 a) (hb : Dg 4294967296 b) :
    Calls Try.prog 5 #[.slice A a.length ca, .slice A' b.length cb] w fun e w' => e = .returned (.bool true) ∧ Below w.heap.size w w' := by
  have pG := fun (V : World) (hV : Below w.heap.size w V) => root_Gcd a b A A' ca cb V (h.on hV) (h'.on hV) (by omega) (by omega) hc hc' ha hb
  have pL := fun (V : World) (hV : Below w.heap.size w V) => root_Lcm a b A A' ca cb V (h.on hV) (h'.on hV) (by omega) (by omega) hc hc' ha hb
  have rM := fun (V : World) (hV : Below w.heap.size w V) => ref_Mul a b A A' ca cb _ _ V (h.on hV) (h'.on hV) (fun g hg => hg) (fun g hg => hg) (by omega) (by omega) ha hb
  have rS := fun (V : World) (hV : Below w.heap.size w V) => ref_Mul a a A A ca ca _ _ V (h.on hV) (h.on hV) (fun g hg => hg) (fun g hg => hg) (by omega) (by omega) ha ha
  have hsh := shares (val 4294967296 a) (val 4294967296 b)
  have hq3 : val 4294967296 a / Nat.gcd (val 4294967296 a) (val 4294967296 b) * val 4294967296 b ≤ val 4294967296 a * val 4294967296 b := Nat.mul_le_mul_right _ (Nat.div_le_self _ _)
  have hgl : ∀ xs, Norm 4294967296 xs → val 4294967296 xs = Nat.gcd (val 4294967296 a) (val 4294967296 b) → xs.length ≤ 2097152 := fun xs hn hv => gcd_len hn ha hb hv hl hl'
  have PG := Lib.hid pG
  have PL := Lib.hid pL
  have RM := Lib.hid rM
  have SQ := Lib.hid rS
  have H3 := Lib.hid hq3
  have HSH := Lib.hid hsh
  have HGL := Lib.hid hgl
  clear pG pL rM rS hq3 hsh hgl
  have cc := root_Reduce a b A A' ca cb w h h' (by omega) (by omega) hc hc' ha hb
  go_enter Try.func5, Try.ntmps5
  go_wp2_with fail
  refine cc.mono ?_
  rintro e w1 ⟨A1, x, c1, A2, y, c2, rfl, hc1, hc2, hn1, hn2, hv1, hv2, r1, r2, b1⟩
  have lx : x.length ≤ 2097152 := len_below hn1.2 ha hl (by rw [hv1]; exact Nat.div_le_self _ _)
  have ly : y.length ≤ 2097152 := len_below hn2.2 hb hl' (by rw [hv2]; exact Nat.div_le_self _ _)
  have cc := root_Gcd x y A1 A2 c1 c2 w1 r1 r2 (by omega) (by omega) hc1 hc2 hn1.1 hn2.1
  rw [hv1, hv2] at cc
  clear hv1 hv2
  go_wp2_with fail
  refine cc.mono ?_
  rintro e w2 ⟨A3, g, c3, rfl, hc3, hn3, hv3, r3, b2⟩
  have B2 := b1.trans (b2.mono b1.size)
  have HV3 := Lib.hid hv3
  have cc := ref_Bits a A ca _ w2 (h.on B2) (fun g hg => hg) (by omega) ha
  clear hv3
  go_wp2_with fail
  refine cc.mono ?_
  rintro e w3 ⟨n, rfl, hbits, b3⟩
  have B3 := B2.trans (b3.mono B2.size)
  by_cases hva : 0 < val 4294967296 a
  · have hn0 := bits_pos hbits hva
    clear hbits
    obtain ⟨v4, h4, q4, p4, z4⟩ := one_word w3 1 1 rfl
    have B4 := B3.trans (p4.mono B3.size)
    have hg1 : g = [1] := Norm.ext (b := 4294967296) (by omega) hn3 (norm_one (by omega) (by omega)) (by rw [HV3.out, reduced_one (by rw [Nat.gcd_pos_iff]; exact .inl hva)]; rfl)
    have l0 : g.length = 1 := by rw [hg1]; rfl
    have cP := ref_same g A3 (some ⟨w3.heap.size, 0, none⟩) c3 1 _ _ v4 (r3.on (b3.trans (p4.mono b3.size))) (by rw [hg1]; exact q4) (by omega)
    rw [l0] at cP
    go_wp2_with fail
    try rw [h4]
    clear h4 q4 p4 z4 cc
    refine cP.mono ?_
    rintro e w6 ⟨rfl, k6, hk6⟩
    have B6 : Below w.heap.size w w6 := by rw [hk6]; exact below_drewN B4 k6
    clear hk6
    have cc := PG.out w6 B6
    clear cP
    go_wp2_with fail
    refine cc.mono ?_
    rintro e u1 ⟨D1, g1, d1, rfl, hd1, hm1, hu1, s1, t1⟩
    have T1 := B6.trans (t1.mono B6.size)
    have HU1 := Lib.hid hu1
    have l1 := HGL.out g1 hm1 hu1
    have cc := PL.out u1 T1
    clear hu1
    go_wp2_with fail
    refine cc.mono ?_
    rintro e u2 ⟨D2, g2, d2, rfl, hd2, hm2, hu2, s2, t2⟩
    have T2 := T1.trans (t2.mono T1.size)
    have l2 := len_prod (n := 4194304) hm2.2 ha hb (by omega) (by rw [hu2]; exact H3.out)
    have cc := ref_Mul g1 g2 D1 D2 d1 d2 _ _ u2 (s1.on t2) s2 (fun g hg => hg) (fun g hg => hg) (by omega) (by omega) hm1.1 hm2.1
    rw [HU1.out, hu2, HSH.out] at cc
    clear hu2 HU1
    go_wp2_with fail
    refine cc.mono ?_
    rintro e u3 ⟨D3, g3, d3, rfl, hd3, hm3, hu3, s3, t3⟩
    have T3 := T2.trans (t3.mono T2.size)
    have HU3 := Lib.hid hu3
    have cc := RM.out u3 T3
    clear hu3
    go_wp2_with fail
    refine cc.mono ?_
    rintro e u4 ⟨D4, g4, d4, rfl, hd4, hm4, hu4, s4, t4⟩
    obtain rfl : g3 = g4 := Norm.ext (b := 4294967296) (by omega) hm3 hm4 (HU3.out.trans hu4.symm)
    have T4 := T3.trans (t4.mono T3.size)
    have l3 := len_prod (n := 4194304) hm3.2 ha hb (by omega) (by rw [HU3.out]; exact Nat.le_refl _)
    have cc := ref_same g3 D3 D4 d3 d4 _ _ u4 (s3.on t4) s4 (by omega)
    clear hu4 HU3
    go_wp2_with fail
    refine cc.mono ?_
    rintro e u5 ⟨rfl, k5, hk5⟩
    have T5 : Below w.heap.size w u5 := by rw [hk5]; exact below_drewN T4 k5
    have cc := SQ.out u5 T5
    clear hk5 s1 s2 s3 s4 t1 t2 t3 t4 hm4 hd1 hd2 hd3 hd4
    go_wp2_with fail
    refine cc.mono ?_
    rintro e u6 ⟨D6, g6, d6, rfl, hd6, hm6, hu6, s6, t6⟩
    have T6 := T5.trans (t6.mono T5.size)
    have l6 := len_prod (n := 4194304) hm6.2 ha ha (by omega) (by rw [hu6]; exact Nat.le_refl _)
    have cc := root_Square g6 D6 d6 u6 s6 (by omega) hd6 hm6.1
    rw [hu6] at cc
    clear hu6
    go_wp2_with fail
    refine cc.mono ?_
    rintro e u7 ⟨q, hq, rfl, t7⟩
    obtain rfl := hq.unique (IsRoot.self _)
    rw [show decide (val 4294967296 a * val 4294967296 a = val 4294967296 a * val 4294967296 a) = true from decide_eq_true rfl]
    have T7 := T6.trans (t7.mono T6.size)
    have cc := SQ.out u7 T7
    clear hq
    go_wp2_with fail
    refine cc.mono ?_
    rintro e u8 ⟨D8, g8, d8, rfl, hd8, hm8, hu8, s8, t8⟩
    have T8 := T7.trans (t8.mono T7.size)
    have l8 := len_prod (n := 4194304) hm8.2 ha ha (by omega) (by rw [hu8]; exact Nat.le_refl _)
    have cc := root_Sqrt g8 D8 d8 u8 s8 (by omega) hd8 hm8.1
    rw [hu8] at cc
    clear hu8
    go_wp2_with fail
    refine cc.mono ?_
    rintro e u9 ⟨D9, g9, d9, rfl, hd9, hm9, hu9, s9, t9⟩
    have HU9 := Lib.hid (hu9.unique (IsRoot.self _))
    have T9 := T8.trans (t9.mono T8.size)
    have cc := ref_words_half a A ca u9 (h.on T9) (by omega) ha
    clear hu9
    go_wp2_with fail
    refine cc.mono ?_
    rintro e u10 ⟨D10, g10, d10, rfl, hd10, hl10, hm10, hu10, s10, t10⟩
    have T10 := T9.trans (t10.mono T9.size)
    have cc := ref_words g10 D10 d10 _ u10 s10 (fun g hg => hg) (by omega) hd10 hm10.1
    rw [hu10] at cc
    clear hu10
    go_wp2_with fail
    refine cc.mono ?_
    rintro e u11 ⟨D11, g11, d11, rfl, hd11, hm11, hu11, s11, t11⟩
    obtain rfl : g9 = g11 := Norm.ext (b := 4294967296) (by omega) hm9 hm11 (HU9.out.trans hu11.symm)
    have T11 := T10.trans (t11.mono T10.size)
    have l9 : g9.length ≤ 2097152 := len_below hm9.2 ha hl (by rw [HU9.out]; exact Nat.le_refl _)
    have cc := ref_same g9 D9 D11 d9 d11 _ _ u11 (s9.on (t10.trans (t11.mono t10.size))) (s11.imp (S' := fun g => g < u11.heap.size) (fun g hg => hg.2)) (by omega)
    clear hu11
    go_wp2_with fail
    refine cc.mono ?_
    rintro e u12 ⟨rfl, k12, hk12⟩
    have T12 : Below w.heap.size w u12 := by rw [hk12]; exact below_drewN T11 k12
    have cc := law3_lives u12
    clear hk12
    go_wp2_with fail
    refine cc.mono ?_
    rintro e u13 ⟨rfl, t13⟩
    go_wp2_with fail
    go_ret
    exact ⟨rfl, T12.trans (t13.mono T12.size)⟩
  · have hn0 := bits_zero hbits (by omega)
    subst hn0
    clear hbits
    have cc := ref_Bits b A' cb _ w3 (h'.on B3) (fun g hg => hg) (by omega) hb
    go_wp2_with fail
    refine cc.mono ?_
    rintro e w5 ⟨n, rfl, hbits, b5⟩
    have B5 := B3.trans (b5.mono B3.size)
    have K5 := b3.trans (b5.mono b3.size)
    by_cases hvb : 0 < val 4294967296 b
    · have hn0 := bits_pos hbits hvb
      clear hbits
      obtain ⟨v4, h4, q4, p4, z4⟩ := one_word w5 1 1 rfl
      have B4 := B5.trans (p4.mono B5.size)
      have hg1 : g = [1] := Norm.ext (b := 4294967296) (by omega) hn3 (norm_one (by omega) (by omega)) (by rw [HV3.out, reduced_one (by rw [Nat.gcd_pos_iff]; exact .inr hvb)]; rfl)
      have l0 : g.length = 1 := by rw [hg1]; rfl
      have cP := ref_same g A3 (some ⟨w5.heap.size, 0, none⟩) c3 1 _ _ v4 (r3.on (K5.trans (p4.mono K5.size))) (by rw [hg1]; exact q4) (by omega)
      rw [l0] at cP
      go_wp2_with fail
      try rw [h4]
      clear h4 q4 p4 z4 cc
      refine cP.mono ?_
      rintro e w6 ⟨rfl, k6, hk6⟩
      have B6 : Below w.heap.size w w6 := by rw [hk6]; exact below_drewN B4 k6
      clear hk6
      have cc := PG.out w6 B6
      clear cP
      go_wp2_with fail
      refine cc.mono ?_
      rintro e u1 ⟨D1, g1, d1, rfl, hd1, hm1, hu1, s1, t1⟩
      have T1 := B6.trans (t1.mono B6.size)
      have HU1 := Lib.hid hu1
      have l1 := HGL.out g1 hm1 hu1
      have cc := PL.out u1 T1
      clear hu1
      go_wp2_with fail
      refine cc.mono ?_
      rintro e u2 ⟨D2, g2, d2, rfl, hd2, hm2, hu2, s2, t2⟩
      have T2 := T1.trans (t2.mono T1.size)
      have l2 := len_prod (n := 4194304) hm2.2 ha hb (by omega) (by rw [hu2]; exact H3.out)
      have cc := ref_Mul g1 g2 D1 D2 d1 d2 _ _ u2 (s1.on t2) s2 (fun g hg => hg) (fun g hg => hg) (by omega) (by omega) hm1.1 hm2.1
      rw [HU1.out, hu2, HSH.out] at cc
      clear hu2 HU1
      go_wp2_with fail
      refine cc.mono ?_
      rintro e u3 ⟨D3, g3, d3, rfl, hd3, hm3, hu3, s3, t3⟩
      have T3 := T2.trans (t3.mono T2.size)
      have HU3 := Lib.hid hu3
      have cc := RM.out u3 T3
      clear hu3
      go_wp2_with fail
      refine cc.mono ?_
      rintro e u4 ⟨D4, g4, d4, rfl, hd4, hm4, hu4, s4, t4⟩
      obtain rfl : g3 = g4 := Norm.ext (b := 4294967296) (by omega) hm3 hm4 (HU3.out.trans hu4.symm)
      have T4 := T3.trans (t4.mono T3.size)
      have l3 := len_prod (n := 4194304) hm3.2 ha hb (by omega) (by rw [HU3.out]; exact Nat.le_refl _)
      have cc := ref_same g3 D3 D4 d3 d4 _ _ u4 (s3.on t4) s4 (by omega)
      clear hu4 HU3
      go_wp2_with fail
      refine cc.mono ?_
      rintro e u5 ⟨rfl, k5, hk5⟩
      have T5 : Below w.heap.size w u5 := by rw [hk5]; exact below_drewN T4 k5
      have cc := SQ.out u5 T5
      clear hk5 s1 s2 s3 s4 t1 t2 t3 t4 hm4 hd1 hd2 hd3 hd4
      go_wp2_with fail
      refine cc.mono ?_
      rintro e u6 ⟨D6, g6, d6, rfl, hd6, hm6, hu6, s6, t6⟩
      have T6 := T5.trans (t6.mono T5.size)
      have l6 := len_prod (n := 4194304) hm6.2 ha ha (by omega) (by rw [hu6]; exact Nat.le_refl _)
      have cc := root_Square g6 D6 d6 u6 s6 (by omega) hd6 hm6.1
      rw [hu6] at cc
      clear hu6
      go_wp2_with fail
      refine cc.mono ?_
      rintro e u7 ⟨q, hq, rfl, t7⟩
      obtain rfl := hq.unique (IsRoot.self _)
      rw [show decide (val 4294967296 a * val 4294967296 a = val 4294967296 a * val 4294967296 a) = true from decide_eq_true rfl]
      have T7 := T6.trans (t7.mono T6.size)
      have cc := SQ.out u7 T7
      clear hq
      go_wp2_with fail
      refine cc.mono ?_
      rintro e u8 ⟨D8, g8, d8, rfl, hd8, hm8, hu8, s8, t8⟩
      have T8 := T7.trans (t8.mono T7.size)
      have l8 := len_prod (n := 4194304) hm8.2 ha ha (by omega) (by rw [hu8]; exact Nat.le_refl _)
      have cc := root_Sqrt g8 D8 d8 u8 s8 (by omega) hd8 hm8.1
      rw [hu8] at cc
      clear hu8
      go_wp2_with fail
      refine cc.mono ?_
      rintro e u9 ⟨D9, g9, d9, rfl, hd9, hm9, hu9, s9, t9⟩
      have HU9 := Lib.hid (hu9.unique (IsRoot.self _))
      have T9 := T8.trans (t9.mono T8.size)
      have cc := ref_words_half a A ca u9 (h.on T9) (by omega) ha
      clear hu9
      go_wp2_with fail
      refine cc.mono ?_
      rintro e u10 ⟨D10, g10, d10, rfl, hd10, hl10, hm10, hu10, s10, t10⟩
      have T10 := T9.trans (t10.mono T9.size)
      have cc := ref_words g10 D10 d10 _ u10 s10 (fun g hg => hg) (by omega) hd10 hm10.1
      rw [hu10] at cc
      clear hu10
      go_wp2_with fail
      refine cc.mono ?_
      rintro e u11 ⟨D11, g11, d11, rfl, hd11, hm11, hu11, s11, t11⟩
      obtain rfl : g9 = g11 := Norm.ext (b := 4294967296) (by omega) hm9 hm11 (HU9.out.trans hu11.symm)
      have T11 := T10.trans (t11.mono T10.size)
      have l9 : g9.length ≤ 2097152 := len_below hm9.2 ha hl (by rw [HU9.out]; exact Nat.le_refl _)
      have cc := ref_same g9 D9 D11 d9 d11 _ _ u11 (s9.on (t10.trans (t11.mono t10.size))) (s11.imp (S' := fun g => g < u11.heap.size) (fun g hg => hg.2)) (by omega)
      clear hu11
      go_wp2_with fail
      refine cc.mono ?_
      rintro e u12 ⟨rfl, k12, hk12⟩
      have T12 : Below w.heap.size w u12 := by rw [hk12]; exact below_drewN T11 k12
      have cc := law3_lives u12
      clear hk12
      go_wp2_with fail
      refine cc.mono ?_
      rintro e u13 ⟨rfl, t13⟩
      go_wp2_with fail
      go_ret
      exact ⟨rfl, T12.trans (t13.mono T12.size)⟩
    · have hn0 := bits_zero hbits (by omega)
      subst hn0
      clear hbits
      have cP := True.intro
      have cc := PG.out w5 B5
      clear cP
      go_wp2_with fail
      refine cc.mono ?_
      rintro e u1 ⟨D1, g1, d1, rfl, hd1, hm1, hu1, s1, t1⟩
      have T1 := B5.trans (t1.mono B5.size)
      have HU1 := Lib.hid hu1
      have l1 := HGL.out g1 hm1 hu1
      have cc := PL.out u1 T1
      clear hu1
      go_wp2_with fail
      refine cc.mono ?_
      rintro e u2 ⟨D2, g2, d2, rfl, hd2, hm2, hu2, s2, t2⟩
      have T2 := T1.trans (t2.mono T1.size)
      have l2 := len_prod (n := 4194304) hm2.2 ha hb (by omega) (by rw [hu2]; exact H3.out)
      have cc := ref_Mul g1 g2 D1 D2 d1 d2 _ _ u2 (s1.on t2) s2 (fun g hg => hg) (fun g hg => hg) (by omega) (by omega) hm1.1 hm2.1
      rw [HU1.out, hu2, HSH.out] at cc
      clear hu2 HU1
      go_wp2_with fail
      refine cc.mono ?_
      rintro e u3 ⟨D3, g3, d3, rfl, hd3, hm3, hu3, s3, t3⟩
      have T3 := T2.trans (t3.mono T2.size)
      have HU3 := Lib.hid hu3
      have cc := RM.out u3 T3
      clear hu3
      go_wp2_with fail
      refine cc.mono ?_
      rintro e u4 ⟨D4, g4, d4, rfl, hd4, hm4, hu4, s4, t4⟩
      obtain rfl : g3 = g4 := Norm.ext (b := 4294967296) (by omega) hm3 hm4 (HU3.out.trans hu4.symm)
      have T4 := T3.trans (t4.mono T3.size)
      have l3 := len_prod (n := 4194304) hm3.2 ha hb (by omega) (by rw [HU3.out]; exact Nat.le_refl _)
      have cc := ref_same g3 D3 D4 d3 d4 _ _ u4 (s3.on t4) s4 (by omega)
      clear hu4 HU3
      go_wp2_with fail
      refine cc.mono ?_
      rintro e u5 ⟨rfl, k5, hk5⟩
      have T5 : Below w.heap.size w u5 := by rw [hk5]; exact below_drewN T4 k5
      have cc := SQ.out u5 T5
      clear hk5 s1 s2 s3 s4 t1 t2 t3 t4 hm4 hd1 hd2 hd3 hd4
      go_wp2_with fail
      refine cc.mono ?_
      rintro e u6 ⟨D6, g6, d6, rfl, hd6, hm6, hu6, s6, t6⟩
      have T6 := T5.trans (t6.mono T5.size)
      have l6 := len_prod (n := 4194304) hm6.2 ha ha (by omega) (by rw [hu6]; exact Nat.le_refl _)
      have cc := root_Square g6 D6 d6 u6 s6 (by omega) hd6 hm6.1
      rw [hu6] at cc
      clear hu6
      go_wp2_with fail
      refine cc.mono ?_
      rintro e u7 ⟨q, hq, rfl, t7⟩
      obtain rfl := hq.unique (IsRoot.self _)
      rw [show decide (val 4294967296 a * val 4294967296 a = val 4294967296 a * val 4294967296 a) = true from decide_eq_true rfl]
      have T7 := T6.trans (t7.mono T6.size)
      have cc := SQ.out u7 T7
      clear hq
      go_wp2_with fail
      refine cc.mono ?_
      rintro e u8 ⟨D8, g8, d8, rfl, hd8, hm8, hu8, s8, t8⟩
      have T8 := T7.trans (t8.mono T7.size)
      have l8 := len_prod (n := 4194304) hm8.2 ha ha (by omega) (by rw [hu8]; exact Nat.le_refl _)
      have cc := root_Sqrt g8 D8 d8 u8 s8 (by omega) hd8 hm8.1
      rw [hu8] at cc
      clear hu8
      go_wp2_with fail
      refine cc.mono ?_
      rintro e u9 ⟨D9, g9, d9, rfl, hd9, hm9, hu9, s9, t9⟩
      have HU9 := Lib.hid (hu9.unique (IsRoot.self _))
      have T9 := T8.trans (t9.mono T8.size)
      have cc := ref_words_half a A ca u9 (h.on T9) (by omega) ha
      clear hu9
      go_wp2_with fail
      refine cc.mono ?_
      rintro e u10 ⟨D10, g10, d10, rfl, hd10, hl10, hm10, hu10, s10, t10⟩
      have T10 := T9.trans (t10.mono T9.size)
      have cc := ref_words g10 D10 d10 _ u10 s10 (fun g hg => hg) (by omega) hd10 hm10.1
      rw [hu10] at cc
      clear hu10
      go_wp2_with fail
      refine cc.mono ?_
      rintro e u11 ⟨D11, g11, d11, rfl, hd11, hm11, hu11, s11, t11⟩
      obtain rfl : g9 = g11 := Norm.ext (b := 4294967296) (by omega) hm9 hm11 (HU9.out.trans hu11.symm)
      have T11 := T10.trans (t11.mono T10.size)
      have l9 : g9.length ≤ 2097152 := len_below hm9.2 ha hl (by rw [HU9.out]; exact Nat.le_refl _)
      have cc := ref_same g9 D9 D11 d9 d11 _ _ u11 (s9.on (t10.trans (t11.mono t10.size))) (s11.imp (S' := fun g => g < u11.heap.size) (fun g hg => hg.2)) (by omega)
      clear hu11
      go_wp2_with fail
      refine cc.mono ?_
      rintro e u12 ⟨rfl, k12, hk12⟩
      have T12 : Below w.heap.size w u12 := by rw [hk12]; exact below_drewN T11 k12
      have cc := law3_lives u12
      clear hk12
      go_wp2_with fail
      refine cc.mono ?_
      rintro e u13 ⟨rfl, t13⟩
      go_wp2_with fail
      go_ret
      exact ⟨rfl, T12.trans (t13.mono T12.size)⟩
end Go.Proofs.Ytoidhoiadkafhaa
