/- The law RootRoots: any number's square root, and whether it is a square, are the document's own. -/
import Derived.Test.YtoidhoiadkafhaaLawL
namespace Go.Proofs.Ytoidhoiadkafhaa
open Go.RowKit Num

set_option maxRecDepth 10000 in
set_option maxHeartbeats 3200000 in
theorem walk_RootRoots (a : List Nat) (A : Option Addr) (ca : Nat) (n : Int) (w : World) (h : Rd w (fun g => g < w.heap.size) .u32 A a) (hl : a.length ≤ 2097152) (hc : a.length ≤ ca) (ha : Dg 4294967296 a) (hn1 : -9223372036854775808 ≤ n) (hn2 : n ≤ 9223372036854775807) :
    Calls Try.prog 4 #[.slice A a.length ca, .int .i64 n] w fun e w' => e = .returned (.bool true) ∧ Below w.heap.size w w' := by
  have rQ := r3_Sqrt a A ca w h (by omega) ha
  have pQ := fun (V : World) (hV : Below w.heap.size w V) => root_Sqrt a A ca V (h.on hV) (by omega) hc ha
  have pS := fun (V : World) (hV : Below w.heap.size w V) => root_Square a A ca V (h.on hV) (by omega) hc ha
  have pI := fun (V : World) => root_SqrtInt n hn1 hn2 V
  have PQ := Lib.hid pQ
  have PS := Lib.hid pS
  have PI := Lib.hid pI
  clear pQ pS pI
  by_cases h0 : 0 < n
  · obtain ⟨u, rfl⟩ : ∃ u : Nat, n = u := ⟨n.toNat, by omega⟩
    simp only [Int.toNat_natCast] at PI
    go_enter Try.func4, Try.ntmps4
    go_wp2_with fail
    refine rQ.mono ?_
    rintro e w1 ⟨A1, r, c1, rfl, hc1, hn1, hv1, r1, b1⟩
    have HV1 := Lib.hid hv1
    have cO := ref_Of u (by omega) w1
    clear hv1
    go_wp2_with fail
    refine cO.mono ?_
    rintro e w2 ⟨A2, o, c2, rfl, hc2, hn2, hv2, r2, b2⟩
    have B2 := b1.trans (b2.mono b1.size)
    have lo : o.length ≤ 2 := hn2.2.length_le (b := 4294967296) (by omega) (by rw [hv2]; omega)
    have cQ := r3_Sqrt o A2 c2 w2 r2 (by omega) hn2.1
    rw [hv2] at cQ
    clear hv2 cO
    go_wp2_with fail
    refine cQ.mono ?_
    rintro e w3 ⟨A3, m, c3, rfl, hc3, hn3, hv3, r3, b3⟩
    have B3 := B2.trans (b3.mono B2.size)
    have K3 := b2.trans (b3.mono b2.size)
    have HV3 := Lib.hid hv3
    have M3 := Lib.hid (fun (V : World) (hW : Below w3.heap.size w3 V) => (r3.on hW : Rd V (fun g => g < V.heap.size) .u32 A3 m))
    have cI := PI.out w3
    clear cQ hv3
    go_wp2_with fail
    refine cI.mono ?_
    rintro e w4 ⟨s, rfl, hs, hs2, k4, hw4⟩
    have b4 : Below w3.heap.size w3 w4 := by rw [hw4]; exact below_drewN (Below.refl _ _) k4
    have B4 := B3.trans (b4.mono B3.size)
    have K4 := K3.trans (b4.mono K3.size)
    have L4 := b4
    have HS := Lib.hid hs
    have cc := PQ.out w4 B4
    clear cI hs hw4
    go_wp2_with fail
    refine cc.mono ?_
    rintro e w5 ⟨A5, x, c5, rfl, hc5, hn5, hv5, r5, b5⟩
    obtain rfl : r = x := Norm.ext (b := 4294967296) (by omega) hn1 hn5 (HV1.out.unique hv5)
    have B5 := B4.trans (b5.mono B4.size)
    have K5 := K4.trans (b5.mono K4.size)
    have L5 := L4.trans (b5.mono L4.size)
    have lr : r.length ≤ 2097152 := len_below hn1.2 ha hl (Nat.le_trans (Nat.le_mul_self _) HV1.out.1)
    have cc := ref_same r A5 A1 c5 c1 _ _ w5 r5 (r1.on K5) (by omega)
    clear hv5
    go_wp2_with fail
    refine cc.mono ?_
    rintro e w6 ⟨rfl, m6, hw6⟩
    have b6 : Below w5.heap.size w5 w6 := by rw [hw6]; exact below_drewN (Below.refl _ _) m6
    have B6 := B5.trans (b6.mono B5.size)
    have K6 := K5.trans (b6.mono K5.size)
    have L6 := L5.trans (b6.mono L5.size)
    have cc := PS.out w6 B6
    clear hw6
    go_wp2_with fail
    refine cc.mono ?_
    rintro e w7 ⟨q, hq, rfl, b7⟩
    obtain rfl := hq.unique HV1.out
    have B7 := B6.trans (b7.mono B6.size)
    have K7 := K6.trans (b7.mono K6.size)
    have L7 := L6.trans (b7.mono L6.size)
    have cM := ref_Mul r r A1 A1 c1 c1 _ _ w7 (r1.on K7) (r1.on K7) (fun g hg => hg) (fun g hg => hg) (by omega) (by omega) hn1.1 hn1.1
    obtain ⟨t, ht⟩ : ∃ t, decide (val 4294967296 r * val 4294967296 r = val 4294967296 a) = t := ⟨_, rfl⟩
    have hz := cmpI_zero (val 4294967296 r * val 4294967296 r) (val 4294967296 a)
    rw [ht] at hz ⊢
    have HT := Lib.hid hz
    clear hz ht hq cc
    go_wp2_with fail
    refine cM.mono ?_
    rintro e w8 ⟨A8, z, c8, rfl, hc8, hn8, hv8, r8, b8⟩
    have B8 := B7.trans (b8.mono B7.size)
    have K8 := K7.trans (b8.mono K7.size)
    have L8 := L7.trans (b8.mono L7.size)
    have lz := len_mul (b := 4294967296) (by omega) hn8.2 hn1.1 hn1.1 hv8
    have cC := ref_Cmp z a A8 A c8 ca _ _ w8 r8 (h.on B8) (fun g hg => hg) (fun g hg => hg) (by omega) (by omega) hn8.1 ha
    rw [hv8] at cC
    obtain ⟨y, hy⟩ : ∃ y, cmpI (val 4294967296 r * val 4294967296 r) (val 4294967296 a) = y := ⟨_, rfl⟩
    have ht2 := HT.out
    rw [hy] at cC ht2
    clear hv8 hy cM HT
    go_wp2_with fail
    refine cC.mono ?_
    rintro e w9 ⟨rfl, b9⟩
    have B9 := B8.trans (b9.mono B8.size)
    have K9 := K8.trans (b9.mono K8.size)
    have L9 := L8.trans (b9.mono L8.size)
    have hbb : (t == (y == 0)) = true := by rw [ht2]; simp
    have cO := ref_Of s (by omega) w9
    clear cC
    go_wp2_with fail
    refine cO.mono ?_
    rintro e w10 ⟨A10, o', c10, rfl, hc10, hn10, hv10, r10, b10⟩
    obtain rfl : o' = m := Norm.ext (b := 4294967296) (by omega) hn10 hn3 (by rw [hv10]; exact HS.out.unique HV3.out)
    have B10 := B9.trans (b10.mono B9.size)
    have K10 := K9.trans (b10.mono K9.size)
    have L10 := L9.trans (b10.mono L9.size)
    have lo' : o'.length ≤ 2 := hn10.2.length_le (b := 4294967296) (by omega) (by rw [hv10]; omega)
    have cc := ref_same o' A10 A3 c10 c3 _ _ w10 r10 (M3.out w10 L10) (by omega)
    clear hv10 cO
    go_wp2_with fail
    refine cc.mono ?_
    rintro e w11 ⟨rfl, m11, hw11⟩
    have B11 : Below w.heap.size w w11 := by rw [hw11]; exact below_drewN B10 m11
    have cc := law3_lives w11
    clear hw11
    go_wp2_with fail
    refine cc.mono ?_
    rintro e w12 ⟨rfl, b12⟩
    go_wp2_with fail
    go_ret
    exact ⟨rfl, B11.trans (b12.mono B11.size)⟩
  · have hz : n.toNat = 0 := by omega
    simp only [hz] at PI
    go_enter Try.func4, Try.ntmps4
    go_wp2_with fail
    refine rQ.mono ?_
    rintro e w1 ⟨A1, r, c1, rfl, hc1, hn1, hv1, r1, b1⟩
    have HV1 := Lib.hid hv1
    have hn3 : Norm 4294967296 [] := norm_nil _
    have HV3 := Lib.hid (show IsRoot 0 (val 4294967296 []) from IsRoot.zero)
    have B3 := b1
    have K3 : Below w1.heap.size w1 w1 := Below.refl _ _
    clear hv1 hz
    have cI := PI.out w1
    clear rQ
    go_wp2_with fail
    refine cI.mono ?_
    rintro e w4 ⟨s, rfl, hs, hs2, k4, hw4⟩
    have b4 : Below w1.heap.size w1 w4 := by rw [hw4]; exact below_drewN (Below.refl _ _) k4
    have B4 := B3.trans (b4.mono B3.size)
    have K4 := K3.trans (b4.mono K3.size)
    have L4 := b4
    have HS := Lib.hid hs
    have cc := PQ.out w4 B4
    clear cI hs hw4
    go_wp2_with fail
    refine cc.mono ?_
    rintro e w5 ⟨A5, x, c5, rfl, hc5, hn5, hv5, r5, b5⟩
    obtain rfl : r = x := Norm.ext (b := 4294967296) (by omega) hn1 hn5 (HV1.out.unique hv5)
    have B5 := B4.trans (b5.mono B4.size)
    have K5 := K4.trans (b5.mono K4.size)
    have L5 := L4.trans (b5.mono L4.size)
    have lr : r.length ≤ 2097152 := len_below hn1.2 ha hl (Nat.le_trans (Nat.le_mul_self _) HV1.out.1)
    have cc := ref_same r A5 A1 c5 c1 _ _ w5 r5 (r1.on K5) (by omega)
    clear hv5
    go_wp2_with fail
    refine cc.mono ?_
    rintro e w6 ⟨rfl, m6, hw6⟩
    have b6 : Below w5.heap.size w5 w6 := by rw [hw6]; exact below_drewN (Below.refl _ _) m6
    have B6 := B5.trans (b6.mono B5.size)
    have K6 := K5.trans (b6.mono K5.size)
    have L6 := L5.trans (b6.mono L5.size)
    have cc := PS.out w6 B6
    clear hw6
    go_wp2_with fail
    refine cc.mono ?_
    rintro e w7 ⟨q, hq, rfl, b7⟩
    obtain rfl := hq.unique HV1.out
    have B7 := B6.trans (b7.mono B6.size)
    have K7 := K6.trans (b7.mono K6.size)
    have L7 := L6.trans (b7.mono L6.size)
    have cM := ref_Mul r r A1 A1 c1 c1 _ _ w7 (r1.on K7) (r1.on K7) (fun g hg => hg) (fun g hg => hg) (by omega) (by omega) hn1.1 hn1.1
    obtain ⟨t, ht⟩ : ∃ t, decide (val 4294967296 r * val 4294967296 r = val 4294967296 a) = t := ⟨_, rfl⟩
    have hz := cmpI_zero (val 4294967296 r * val 4294967296 r) (val 4294967296 a)
    rw [ht] at hz ⊢
    have HT := Lib.hid hz
    clear hz ht hq cc
    go_wp2_with fail
    refine cM.mono ?_
    rintro e w8 ⟨A8, z, c8, rfl, hc8, hn8, hv8, r8, b8⟩
    have B8 := B7.trans (b8.mono B7.size)
    have K8 := K7.trans (b8.mono K7.size)
    have L8 := L7.trans (b8.mono L7.size)
    have lz := len_mul (b := 4294967296) (by omega) hn8.2 hn1.1 hn1.1 hv8
    have cC := ref_Cmp z a A8 A c8 ca _ _ w8 r8 (h.on B8) (fun g hg => hg) (fun g hg => hg) (by omega) (by omega) hn8.1 ha
    rw [hv8] at cC
    obtain ⟨y, hy⟩ : ∃ y, cmpI (val 4294967296 r * val 4294967296 r) (val 4294967296 a) = y := ⟨_, rfl⟩
    have ht2 := HT.out
    rw [hy] at cC ht2
    clear hv8 hy cM HT
    go_wp2_with fail
    refine cC.mono ?_
    rintro e w9 ⟨rfl, b9⟩
    have B9 := B8.trans (b9.mono B8.size)
    have K9 := K8.trans (b9.mono K8.size)
    have L9 := L8.trans (b9.mono L8.size)
    have hbb : (t == (y == 0)) = true := by rw [ht2]; simp
    have cO := ref_Of s (by omega) w9
    clear cC
    go_wp2_with fail
    refine cO.mono ?_
    rintro e w10 ⟨A10, o', c10, rfl, hc10, hn10, hv10, r10, b10⟩
    obtain rfl : o' = [] := Norm.ext (b := 4294967296) (by omega) hn10 hn3 (by rw [hv10]; exact HS.out.unique HV3.out)
    have B10 := B9.trans (b10.mono B9.size)
    have K10 := K9.trans (b10.mono K9.size)
    have L10 := L9.trans (b10.mono L9.size)
    have hr0 : Rd w10 (fun g => g < w10.heap.size) .u32 none [] := Rd.nil
    have cc := ref_same [] A10 none c10 0 _ _ w10 r10 hr0 (by simp)
    simp only [List.length_nil] at cc
    clear hv10 cO
    go_wp2_with fail
    refine cc.mono ?_
    rintro e w11 ⟨rfl, m11, hw11⟩
    have B11 : Below w.heap.size w w11 := by rw [hw11]; exact below_drewN B10 m11
    have cc := law3_lives w11
    clear hw11
    go_wp2_with fail
    refine cc.mono ?_
    rintro e w12 ⟨rfl, b12⟩
    go_wp2_with fail
    go_ret
    exact ⟨rfl, B11.trans (b12.mono B11.size)⟩
end Go.Proofs.Ytoidhoiadkafhaa
