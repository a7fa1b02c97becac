/- The law RootFactors: what any two numbers have in common, and what both are factors of, is the document's own. -/
import Derived.Test.YtoidhoiadkafhaaLiv3
namespace Go.Proofs.Ytoidhoiadkafhaa
open Go.RowKit Num

theorem len_below {xs a : List Nat} {n : Nat} (hx : Top xs) (ha : Dg 4294967296 a) (hl : a.length ≤ n) (h : val 4294967296 xs ≤ val 4294967296 a) : xs.length ≤ n :=
  Nat.le_trans (len_le (b := 4294967296) (by omega) hx ha h) hl
theorem len_prod {xs a b : List Nat} {n : Nat} (hx : Top xs) (ha : Dg 4294967296 a) (hb : Dg 4294967296 b) (hl : a.length + b.length ≤ n) (h : val 4294967296 xs ≤ val 4294967296 a * val 4294967296 b) : xs.length ≤ n := by
  refine hx.length_le (b := 4294967296) (by omega) (Nat.lt_of_le_of_lt h (Nat.lt_of_lt_of_le (Nat.mul_lt_mul'' (val_lt ha) (val_lt hb)) ?_))
  rw [← Nat.pow_add]
  exact Nat.pow_le_pow_right (by omega) hl

set_option maxRecDepth 10000 in
set_option maxHeartbeats 3200000 in
theorem walk_RootFactors (a b : List Nat) (A A' : Option Addr) (ca cb : Nat) (w : World) (h : Rd w (fun g => g < w.heap.size) .u32 A a) (h' : Rd w (fun g => g < w.heap.size) .u32 A' b) (hl : a.length ≤ 2097152) (hl' : b.length ≤ 2097152) (hc : a.length ≤ ca) (hc' : b.length ≤ cb) (ha : Dg 4294967296 a) (hb : Dg 4294967296 b) :
    Calls Try.prog 3 #[.slice A a.length ca, .slice A' b.length cb] w fun e w' => e = .returned (.bool true) ∧ Below w.heap.size w w' := by
  obtain ⟨G, hG⟩ : ∃ G, Nat.gcd (val 4294967296 a) (val 4294967296 b) = G := ⟨_, rfl⟩
  have pR := fun (V : World) (hV : Below w.heap.size w V) => root_Reduce a b A A' ca cb V (h.on hV) (h'.on hV) (by omega) (by omega) hc hc' ha hb
  have rR := fun (V : World) (hV : Below w.heap.size w V) => r3_Reduce a b A A' ca cb V (h.on hV) (h'.on hV) (by omega) (by omega) ha hb
  have pG := fun (V : World) (hV : Below w.heap.size w V) => root_Gcd a b A A' ca cb V (h.on hV) (h'.on hV) (by omega) (by omega) hc hc' ha hb
  have rG := fun (V : World) (hV : Below w.heap.size w V) => r3_Gcd a b A A' ca cb V (h.on hV) (h'.on hV) (by omega) (by omega) ha hb
  have pL := fun (V : World) (hV : Below w.heap.size w V) => root_Lcm a b A A' ca cb V (h.on hV) (h'.on hV) (by omega) (by omega) hc hc' ha hb
  have rL := fun (V : World) (hV : Below w.heap.size w V) => r3_Lcm a b A A' ca cb V (h.on hV) (h'.on hV) (by omega) (by omega) ha hb
  simp only [hG] at pR rR pG rG pL rL
  have hq1 : val 4294967296 a / G ≤ val 4294967296 a := Nat.div_le_self _ _
  have hq2 : val 4294967296 b / G ≤ val 4294967296 b := Nat.div_le_self _ _
  have hq3 : val 4294967296 a / G * val 4294967296 b ≤ val 4294967296 a * val 4294967296 b := Nat.mul_le_mul_right _ hq1
  have hgl : ∀ xs, Norm 4294967296 xs → val 4294967296 xs = G → xs.length ≤ 2097152 := fun xs hn hv => gcd_len hn ha hb (by rw [hv, hG]) hl hl'
  have PR := Lib.hid pR
  have RR := Lib.hid rR
  have PG := Lib.hid pG
  have RG := Lib.hid rG
  have PL := Lib.hid pL
  have RL := Lib.hid rL
  have H1 := Lib.hid hq1
  have H2 := Lib.hid hq2
  have H3 := Lib.hid hq3
  have HGL := Lib.hid hgl
  clear pR rR pG rG pL rL hq1 hq2 hq3 hgl hG
  have cc := PR.out w (Below.refl _ _)
  go_enter Try.func3, Try.ntmps3
  go_wp2_with fail
  refine cc.mono ?_
  rintro e w1 ⟨A1, x, c1, A2, y, c2, rfl, hc1, hc2, hn1, hn2, hv1, hv2, r1, r2, b1⟩
  have HV1 := Lib.hid hv1
  have HV2 := Lib.hid hv2
  have cc := RR.out w1 b1
  clear hv1 hv2
  go_wp2_with fail
  refine cc.mono ?_
  rintro e w2 ⟨A3, x', c3, A4, y', c4, rfl, hc3, hc4, hn3, hn4, hv3, hv4, r3, r4, b2⟩
  obtain rfl : x = x' := Norm.ext (b := 4294967296) (by omega) hn1 hn3 (HV1.out.trans hv3.symm)
  obtain rfl : y = y' := Norm.ext (b := 4294967296) (by omega) hn2 hn4 (HV2.out.trans hv4.symm)
  have B2 := b1.trans (b2.mono b1.size)
  have lx : x.length ≤ 2097152 := len_below hn1.2 ha hl (by rw [HV1.out]; exact H1.out)
  have ly : y.length ≤ 2097152 := len_below hn2.2 hb hl' (by rw [HV2.out]; exact H2.out)
  have q1 := r1.on b2
  have q2 := r2.on b2
  have K2 : Below w2.heap.size w2 w2 := Below.refl _ _
  have cc := PG.out w2 B2
  clear hv3 hv4 hn3 hn4 HV1 HV2 r1 r2 b1 b2
  go_wp2_with fail
  refine cc.mono ?_
  rintro e w3 ⟨A5, g, c5, rfl, hc5, hn5, hv5, r5, b3⟩
  have B3 := B2.trans (b3.mono B2.size)
  have HV5 := Lib.hid hv5
  have cc := RG.out w3 B3
  clear hv5
  go_wp2_with fail
  refine cc.mono ?_
  rintro e w4 ⟨A6, g', c6, rfl, hc6, hn6, hv6, r6, b4⟩
  obtain rfl : g = g' := Norm.ext (b := 4294967296) (by omega) hn5 hn6 (HV5.out.trans hv6.symm)
  have B4 := B3.trans (b4.mono B3.size)
  have K4 := b3.trans (b4.mono b3.size)
  have lg := HGL.out g hn5 HV5.out
  have cc := ref_same g A5 A6 c5 c6 _ _ w4 (r5.on b4) r6 (by omega)
  clear hv6 hn6 HV5
  go_wp2_with fail
  refine cc.mono ?_
  rintro e w5 ⟨rfl, m5, hw5⟩
  have B5 : Below w.heap.size w w5 := by rw [hw5]; exact below_drewN B4 m5
  have K5 : Below w2.heap.size w2 w5 := by rw [hw5]; exact below_drewN K4 m5
  have cc := PL.out w5 B5
  clear hw5 r5 r6 b3 b4
  go_wp2_with fail
  refine cc.mono ?_
  rintro e w6 ⟨A7, l, c7, rfl, hc7, hn7, hv7, r7, b6⟩
  have B6 := B5.trans (b6.mono B5.size)
  have K6 := K5.trans (b6.mono K5.size)
  have HV7 := Lib.hid hv7
  have cc := RL.out w6 B6
  clear hv7
  go_wp2_with fail
  refine cc.mono ?_
  rintro e w7 ⟨A8, l', c8, rfl, hc8, hn8, hv8, r8, b7⟩
  obtain rfl : l = l' := Norm.ext (b := 4294967296) (by omega) hn7 hn8 (HV7.out.trans hv8.symm)
  have B7 := B6.trans (b7.mono B6.size)
  have K7 := K6.trans (b7.mono K6.size)
  have ll := len_prod (n := 4194304) hn7.2 ha hb (by omega) (by rw [HV7.out]; exact H3.out)
  have cc := ref_same l A7 A8 c7 c8 _ _ w7 (r7.on b7) r8 (by omega)
  clear hv8 hn8 HV7
  go_wp2_with fail
  refine cc.mono ?_
  rintro e w8 ⟨rfl, m8, hw8⟩
  have B8 : Below w.heap.size w w8 := by rw [hw8]; exact below_drewN B7 m8
  have K8 : Below w2.heap.size w2 w8 := by rw [hw8]; exact below_drewN K7 m8
  have cc := ref_same x A1 A3 c1 c3 _ _ w8 (q1.on K8) (r3.on K8) (by omega)
  clear hw8 r7 r8 b6 b7
  go_wp2_with fail
  refine cc.mono ?_
  rintro e w9 ⟨rfl, m9, hw9⟩
  have B9 : Below w.heap.size w w9 := by rw [hw9]; exact below_drewN B8 m9
  have K9 : Below w2.heap.size w2 w9 := by rw [hw9]; exact below_drewN K8 m9
  have cc := ref_same y A2 A4 c2 c4 _ _ w9 (q2.on K9) (r4.on K9) (by omega)
  clear hw9
  go_wp2_with fail
  refine cc.mono ?_
  rintro e w10 ⟨rfl, m10, hw10⟩
  have B10 : Below w.heap.size w w10 := by rw [hw10]; exact below_drewN B9 m10
  have cc := law3_lives w10
  clear hw10
  go_wp2_with fail
  refine cc.mono ?_
  rintro e w11 ⟨rfl, b11⟩
  go_wp2_with fail
  go_ret
  exact ⟨rfl, B10.trans (b11.mono B10.size)⟩
end Go.Proofs.Ytoidhoiadkafhaa
