/- Spots, the program's own: what hold, reduced, At, halfWay, Mid, along and Toward answer. -/
import Derived.Test.YtkgedgaddpojkaaGreatDoorSpA
import Derived.Deep.RegionHeld3
import Derived.Deep.RegionWith
namespace Go.Proofs.YtkgedgaddpojkaaGreatDoor
open Go.RowKit Num

set_option maxRecDepth 10000 in
set_option maxHeartbeats 3200000 in
/-- no lower part is 0 -/
theorem spot_hold (S1 S2 S50 S51 : Shape) (x0 : Fn1 51 S1 S50) (x1 : Fn1 51 S2 S51) (n1 n2 : Bool) (a1 d1 a2 d2 : List Nat) (A1 D1 A2 D2 : Option Addr) (c1 e1 c2 e2 : Nat)  (w : World) (s1 : S1 n1 a1 c1 d1 e1) (s2 : S2 n2 a2 c2 d2 e2) (r1 : Rd w (fun g => g < w.heap.size) .u32 A1 a1) (q1 : Rd w (fun g => g < w.heap.size) .u32 D1 d1) (r2 : Rd w (fun g => g < w.heap.size) .u32 A2 a2) (q2 : Rd w (fun g => g < w.heap.size) .u32 D2 d2) :
    Calls Tryz.prog 26 #[.agg #[.bool n1, .slice A1 a1.length c1, .slice D1 d1.length e1, .bool n2, .slice A2 a2.length c2, .slice D2 d2.length e2]] w (Gs S50 S51 w) := by
  obtain ⟨W, hW, k100, kr, b0, s0⟩ := bxb w 28 28 [.bool n1, .slice A1 a1.length c1, .slice D1 d1.length e1, .bool n2, .slice A2 a2.length c2, .slice D2 d2.length e2] [.bool false, .slice none 0 0, .slice none 0 0, .bool false, .slice none 0 0, .slice none 0 0]
  obtain ⟨⟨p00, p01, p02, p03, p04, p05⟩, -⟩ := k100.facts6
  have C0 := Lib.hid (fun (V : World) (hV : Below W.heap.size W V) => x0 n1 a1 d1 A1 D1 c1 e1 V s1 ((r1.on b0).on hV) ((q1.on b0).on hV))
  have C1 := Lib.hid (fun (V : World) (hV : Below W.heap.size W V) => x1 n2 a2 d2 A2 D2 c2 e2 V s2 ((r2.on b0).on hV) ((q2.on b0).on hV))
  have HK0 := Lib.hid k100
  have HKR := Lib.hid kr
  have HB0 := Lib.hid b0
  have K0 : Below W.heap.size W W.drew := below_drewN (Below.refl _ _) 1
  have hlt : w.heap.size + 1 < W.heap.size := by omega
  clear k100 kr b0 s0 s1 r1 q1 s2 r2 q2 x0 x1
  go_enter Tryz.func26, Tryz.ntmps26
  go_wp2_with fail
  try rw [hW]
  clear hW
  go_region_held3 (fun w' => (w'.cell? ⟨w.heap.size, 0, none⟩ = some (.bool n1) ∧ w'.cell? ⟨w.heap.size, 1, none⟩ = some (.slice A1 a1.length c1) ∧ w'.cell? ⟨w.heap.size, 2, none⟩ = some (.slice D1 d1.length e1) ∧ w'.cell? ⟨w.heap.size, 3, none⟩ = some (.bool n2) ∧ w'.cell? ⟨w.heap.size, 4, none⟩ = some (.slice A2 a2.length c2) ∧ w'.cell? ⟨w.heap.size, 5, none⟩ = some (.slice D2 d2.length e2)))
    (first | (with_reducible exact kept6 HK0.out K0) | (with_reducible exact kept6 HK0.out K1) | (with_reducible exact kept6 HK0.out K2) | (with_reducible exact far66 (HK0.out.below K2 HK0.out.lt) (by omega) _ _ _ _ _ _ ) | go_keep)
    ((first
      | (go_at_call_of 51 (Value.slice A1 a1.length c1); (with_reducible refine Calls.mono (C0.out _ K0) ?_); rintro e w1 ⟨n50, a50, A50, c50, d50, D50, e50, rfl, s50, r50, q50, b1⟩; have K1 := below_next K0 (Nat.le_refl _) b1)
      | (go_at_call_of 51 (Value.slice A2 a2.length c2); (with_reducible refine Calls.mono (C1.out _ K1) ?_); rintro e w2 ⟨n51, a51, A51, c51, d51, D51, e51, rfl, s51, r51, q51, b2⟩; have K2 := below_next K1 (Nat.le_refl _) b2; obtain ⟨⟨i0, i1, i2, i3, i4, i5⟩, ⟨j0, j1, j2, j3, j4, j5⟩⟩ := (HKR.out.below K2 HKR.out.lt).facts6)))
  obtain ⟨U, hU, ⟨u0, u1, u2, u3, u4, u5⟩, hG⟩ := fin_spot (w := w) (HKR.out.below K2 HKR.out.lt) (by omega) (HB0.out.trans (K2.mono HB0.out.size)) s50 s51 (r50.on b2) (q50.on b2) r51 q51
  have HU := Lib.hid hU
  have HF := Lib.hid (And.intro u0 (And.intro u1 (And.intro u2 (And.intro u3 (And.intro u4 u5)))))
  have HG := Lib.hid hG
  clear hU u0 u1 u2 u3 u4 u5 hG i0 i1 i2 i3 i4 i5 j0 j1 j2 j3 j4 j5 C0 C1 s50 r50 q50 s51 r51 q51
  go_wp2_with fail
  rw [HU.out]
  obtain ⟨u0, u1, u2, u3, u4, u5⟩ := HF.out
  exact bodyPost_ret (by simp [results, Tryz.results26, go_sem, u0, u1, u2, u3, u4, u5]) rfl HG.out

set_option maxRecDepth 10000 in
set_option maxHeartbeats 3200000 in
/-- reduced -/
theorem spot_reduced (S1 S2 S50 S51 : Shape) (x0 : Fn1 83 S1 S50) (x1 : Fn1 83 S2 S51) (n1 n2 : Bool) (a1 d1 a2 d2 : List Nat) (A1 D1 A2 D2 : Option Addr) (c1 e1 c2 e2 : Nat)  (w : World) (s1 : S1 n1 a1 c1 d1 e1) (s2 : S2 n2 a2 c2 d2 e2) (r1 : Rd w (fun g => g < w.heap.size) .u32 A1 a1) (q1 : Rd w (fun g => g < w.heap.size) .u32 D1 d1) (r2 : Rd w (fun g => g < w.heap.size) .u32 A2 a2) (q2 : Rd w (fun g => g < w.heap.size) .u32 D2 d2) :
    Calls Tryz.prog 49 #[.agg #[.bool n1, .slice A1 a1.length c1, .slice D1 d1.length e1, .bool n2, .slice A2 a2.length c2, .slice D2 d2.length e2]] w (Gs S50 S51 w) := by
  obtain ⟨W, hW, k100, kr, b0, s0⟩ := bxb w 28 28 [.bool n1, .slice A1 a1.length c1, .slice D1 d1.length e1, .bool n2, .slice A2 a2.length c2, .slice D2 d2.length e2] [.bool false, .slice none 0 0, .slice none 0 0, .bool false, .slice none 0 0, .slice none 0 0]
  obtain ⟨⟨p00, p01, p02, p03, p04, p05⟩, -⟩ := k100.facts6
  have C0 := Lib.hid (fun (V : World) (hV : Below W.heap.size W V) => x0 n1 a1 d1 A1 D1 c1 e1 V s1 ((r1.on b0).on hV) ((q1.on b0).on hV))
  have C1 := Lib.hid (fun (V : World) (hV : Below W.heap.size W V) => x1 n2 a2 d2 A2 D2 c2 e2 V s2 ((r2.on b0).on hV) ((q2.on b0).on hV))
  have HK0 := Lib.hid k100
  have HKR := Lib.hid kr
  have HB0 := Lib.hid b0
  have K0 : Below W.heap.size W W.drew := below_drewN (Below.refl _ _) 1
  have hlt : w.heap.size + 1 < W.heap.size := by omega
  clear k100 kr b0 s0 s1 r1 q1 s2 r2 q2 x0 x1
  go_enter Tryz.func49, Tryz.ntmps49
  go_wp2_with fail
  try rw [hW]
  clear hW
  go_region_held3 (fun w' => (w'.cell? ⟨w.heap.size, 0, none⟩ = some (.bool n1) ∧ w'.cell? ⟨w.heap.size, 1, none⟩ = some (.slice A1 a1.length c1) ∧ w'.cell? ⟨w.heap.size, 2, none⟩ = some (.slice D1 d1.length e1) ∧ w'.cell? ⟨w.heap.size, 3, none⟩ = some (.bool n2) ∧ w'.cell? ⟨w.heap.size, 4, none⟩ = some (.slice A2 a2.length c2) ∧ w'.cell? ⟨w.heap.size, 5, none⟩ = some (.slice D2 d2.length e2)))
    (first | (with_reducible exact kept6 HK0.out K0) | (with_reducible exact kept6 HK0.out K1) | (with_reducible exact kept6 HK0.out K2) | (with_reducible exact far66 (HK0.out.below K2 HK0.out.lt) (by omega) _ _ _ _ _ _ ) | go_keep)
    ((first
      | (go_at_call_of 83 (Value.slice A1 a1.length c1); (with_reducible refine Calls.mono (C0.out _ K0) ?_); rintro e w1 ⟨n50, a50, A50, c50, d50, D50, e50, rfl, s50, r50, q50, b1⟩; have K1 := below_next K0 (Nat.le_refl _) b1)
      | (go_at_call_of 83 (Value.slice A2 a2.length c2); (with_reducible refine Calls.mono (C1.out _ K1) ?_); rintro e w2 ⟨n51, a51, A51, c51, d51, D51, e51, rfl, s51, r51, q51, b2⟩; have K2 := below_next K1 (Nat.le_refl _) b2; obtain ⟨⟨i0, i1, i2, i3, i4, i5⟩, ⟨j0, j1, j2, j3, j4, j5⟩⟩ := (HKR.out.below K2 HKR.out.lt).facts6)))
  obtain ⟨U, hU, ⟨u0, u1, u2, u3, u4, u5⟩, hG⟩ := fin_spot (w := w) (HKR.out.below K2 HKR.out.lt) (by omega) (HB0.out.trans (K2.mono HB0.out.size)) s50 s51 (r50.on b2) (q50.on b2) r51 q51
  have HU := Lib.hid hU
  have HF := Lib.hid (And.intro u0 (And.intro u1 (And.intro u2 (And.intro u3 (And.intro u4 u5)))))
  have HG := Lib.hid hG
  clear hU u0 u1 u2 u3 u4 u5 hG i0 i1 i2 i3 i4 i5 j0 j1 j2 j3 j4 j5 C0 C1 s50 r50 q50 s51 r51 q51
  go_wp2_with fail
  rw [HU.out]
  obtain ⟨u0, u1, u2, u3, u4, u5⟩ := HF.out
  exact bodyPost_ret (by simp [results, Tryz.results49, go_sem, u0, u1, u2, u3, u4, u5]) rfl HG.out

set_option maxRecDepth 10000 in
set_option maxHeartbeats 3200000 in
/-- a point of the grid -/
theorem spot_At (S50 S51 : Shape)  (x y : Int) (x0 : ∀ V : World, Calls Tryz.prog 38 #[.int .i64 x] V (Gv S50 V)) (x1 : ∀ V : World, Calls Tryz.prog 38 #[.int .i64 y] V (Gv S51 V)) (w : World)   :
    Calls Tryz.prog 16 #[.agg #[.int .i64 x, .int .i64 y]] w (Gs S50 S51 w) := by
  obtain ⟨W, hW, k100, kr, b0, s0⟩ := bxb w 33 28 [.int .i64 x, .int .i64 y] [.bool false, .slice none 0 0, .slice none 0 0, .bool false, .slice none 0 0, .slice none 0 0]
  obtain ⟨p00, p01, -, -⟩ := k100.facts2
  have C0 := Lib.hid (fun (V : World) => x0 V)
  have C1 := Lib.hid (fun (V : World) => x1 V)
  have HK0 := Lib.hid k100
  have HKR := Lib.hid kr
  have HB0 := Lib.hid b0
  have K0 : Below W.heap.size W W.drew := below_drewN (Below.refl _ _) 1
  have hlt : w.heap.size + 1 < W.heap.size := by omega
  clear k100 kr b0 s0  x0 x1
  go_enter Tryz.func16, Tryz.ntmps16
  go_wp2_with fail
  try rw [hW]
  clear hW
  go_region_held3 (fun w' => (w'.cell? ⟨w.heap.size, 0, none⟩ = some (.int .i64 x) ∧ w'.cell? ⟨w.heap.size, 1, none⟩ = some (.int .i64 y)))
    (first | (with_reducible exact kept2 HK0.out K0) | (with_reducible exact kept2 HK0.out K1) | (with_reducible exact kept2 HK0.out K2) | (with_reducible exact far26 (HK0.out.below K2 HK0.out.lt) (by omega) _ _ _ _ _ _ ) | go_keep)
    ((first
      | (go_at_call_of 38 (Value.int .i64 x); (with_reducible refine Calls.mono (C0.out _) ?_); rintro e w1 ⟨n50, a50, A50, c50, d50, D50, e50, rfl, s50, r50, q50, b1⟩; have K1 := below_next K0 (Nat.le_refl _) b1)
      | (go_at_call_of 38 (Value.int .i64 y); (with_reducible refine Calls.mono (C1.out _) ?_); rintro e w2 ⟨n51, a51, A51, c51, d51, D51, e51, rfl, s51, r51, q51, b2⟩; have K2 := below_next K1 (Nat.le_refl _) b2; obtain ⟨⟨i0, i1, i2, i3, i4, i5⟩, ⟨j0, j1, j2, j3, j4, j5⟩⟩ := (HKR.out.below K2 HKR.out.lt).facts6)))
  obtain ⟨U, hU, ⟨u0, u1, u2, u3, u4, u5⟩, hG⟩ := fin_spot (w := w) (HKR.out.below K2 HKR.out.lt) (by omega) (HB0.out.trans (K2.mono HB0.out.size)) s50 s51 (r50.on b2) (q50.on b2) r51 q51
  have HU := Lib.hid hU
  have HF := Lib.hid (And.intro u0 (And.intro u1 (And.intro u2 (And.intro u3 (And.intro u4 u5)))))
  have HG := Lib.hid hG
  clear hU u0 u1 u2 u3 u4 u5 hG i0 i1 i2 i3 i4 i5 j0 j1 j2 j3 j4 j5 C0 C1 s50 r50 q50 s51 r51 q51
  go_wp2_with fail
  rw [HU.out]
  obtain ⟨u0, u1, u2, u3, u4, u5⟩ := HF.out
  exact bodyPost_ret (by simp [results, Tryz.results16, go_sem, u0, u1, u2, u3, u4, u5]) rfl HG.out

set_option maxRecDepth 10000 in
set_option maxHeartbeats 800000 in
/-- half of the sum -/
theorem spot_halfWay (S1 S2 S50 S51 : Shape) (x0 : Fn2 74 S1 S2 S50) (x1 : Fn1 73 S50 S51) : Fn2 42 S1 S2 S51 := by
  intro n1 n2 a1 d1 a2 d2 A1 D1 A2 D2 c1 e1 c2 e2 w s1 s2 r1 q1 r2 q2
  obtain ⟨W, hW, k1, k2, kr, b0, s0⟩ := bxc w 26 26 26 [.bool n1, .slice A1 a1.length c1, .slice D1 d1.length e1] [.bool n2, .slice A2 a2.length c2, .slice D2 d2.length e2] [.bool false, .slice none 0 0, .slice none 0 0]
  obtain ⟨p0, p1, p2, -, -, -⟩ := k1.facts
  obtain ⟨z0, z1, z2, -, -, -⟩ := k2.facts
  have cA := x0 n1 n2 a1 d1 a2 d2 A1 D1 A2 D2 c1 e1 c2 e2 W s1 s2 (r1.on b0) (q1.on b0) (r2.on b0) (q2.on b0)
  clear x0 k1 k2 r1 q1 r2 q2 s1 s2
  have X1 := Lib.hid x1
  clear x1
  go_enter Tryz.func42, Tryz.ntmps42
  go_wp2_with fail
  try rw [hW]
  clear hW
  refine cA.mono ?_
  rintro e w1 ⟨n3, a3, A3, c3, d3, D3, e3, rfl, s3, r3, q3, b1⟩
  clear cA
  go_wp2_with fail
  refine (X1.out n3 a3 d3 A3 D3 c3 e3 _ s3 r3 q3).mono ?_
  rintro e w2 ⟨n4, a4, A4, c4, d4, D4, e4, rfl, s4, r4, q4, b2⟩
  have B2 := b1.trans (b2.mono b1.size)
  have K := kr.below B2 kr.lt
  obtain ⟨i0, i1, i2, i3, i4, i5⟩ := K.facts
  obtain ⟨U, hU, u0, u1, u2, hG⟩ := fin_any (w := w) K (by omega) (b0.trans (B2.mono b0.size)) s4 r4 q4
  have HU := Lib.hid hU
  have HF := Lib.hid (And.intro u0 (And.intro u1 u2))
  have HG := Lib.hid hG
  clear hU u0 u1 u2 hG X1 kr K s3 s4 r3 q3 r4 q4
  go_wp2_with fail
  rw [HU.out]
  obtain ⟨u0, u1, u2⟩ := HF.out
  exact bodyPost_ret (by simp [results, Tryz.results42, go_sem, u0, u1, u2]) rfl HG.out

set_option maxRecDepth 10000 in
set_option maxHeartbeats 3200000 in
/-- half way -/
theorem spot_Mid (S1 S2 S3 S4 S50 S51 : Shape) (x0 : Fn2 42 S1 S3 S50) (x1 : Fn2 42 S2 S4 S51) (n1 n2 n3 n4 : Bool) (a1 d1 a2 d2 a3 d3 a4 d4 : List Nat) (A1 D1 A2 D2 A3 D3 A4 D4 : Option Addr) (c1 e1 c2 e2 c3 e3 c4 e4 : Nat)  (w : World) (s1 : S1 n1 a1 c1 d1 e1) (s2 : S2 n2 a2 c2 d2 e2) (s3 : S3 n3 a3 c3 d3 e3) (s4 : S4 n4 a4 c4 d4 e4) (r1 : Rd w (fun g => g < w.heap.size) .u32 A1 a1) (q1 : Rd w (fun g => g < w.heap.size) .u32 D1 d1) (r2 : Rd w (fun g => g < w.heap.size) .u32 A2 a2) (q2 : Rd w (fun g => g < w.heap.size) .u32 D2 d2) (r3 : Rd w (fun g => g < w.heap.size) .u32 A3 a3) (q3 : Rd w (fun g => g < w.heap.size) .u32 D3 d3) (r4 : Rd w (fun g => g < w.heap.size) .u32 A4 a4) (q4 : Rd w (fun g => g < w.heap.size) .u32 D4 d4) :
    Calls Tryz.prog 21 #[.agg #[.bool n1, .slice A1 a1.length c1, .slice D1 d1.length e1, .bool n2, .slice A2 a2.length c2, .slice D2 d2.length e2], .agg #[.bool n3, .slice A3 a3.length c3, .slice D3 d3.length e3, .bool n4, .slice A4 a4.length c4, .slice D4 d4.length e4]] w (Gs S50 S51 w) := by
  obtain ⟨W, hW, k100, k101, kr, b0, s0⟩ := bxc w 28 28 28 [.bool n1, .slice A1 a1.length c1, .slice D1 d1.length e1, .bool n2, .slice A2 a2.length c2, .slice D2 d2.length e2] [.bool n3, .slice A3 a3.length c3, .slice D3 d3.length e3, .bool n4, .slice A4 a4.length c4, .slice D4 d4.length e4] [.bool false, .slice none 0 0, .slice none 0 0, .bool false, .slice none 0 0, .slice none 0 0]
  obtain ⟨⟨p00, p01, p02, p03, p04, p05⟩, -⟩ := k100.facts6
  obtain ⟨⟨p10, p11, p12, p13, p14, p15⟩, -⟩ := k101.facts6
  have C0 := Lib.hid (fun (V : World) (hV : Below W.heap.size W V) => x0 n1 n3 a1 d1 a3 d3 A1 D1 A3 D3 c1 e1 c3 e3 V s1 s3 ((r1.on b0).on hV) ((q1.on b0).on hV) ((r3.on b0).on hV) ((q3.on b0).on hV))
  have C1 := Lib.hid (fun (V : World) (hV : Below W.heap.size W V) => x1 n2 n4 a2 d2 a4 d4 A2 D2 A4 D4 c2 e2 c4 e4 V s2 s4 ((r2.on b0).on hV) ((q2.on b0).on hV) ((r4.on b0).on hV) ((q4.on b0).on hV))
  have HK0 := Lib.hid k100
  have HK1 := Lib.hid k101
  have HKR := Lib.hid kr
  have HB0 := Lib.hid b0
  have K0 : Below W.heap.size W W.drew := below_drewN (Below.refl _ _) 1
  have hlt : w.heap.size + 2 < W.heap.size := by omega
  clear k100 k101 kr b0 s0 s1 r1 q1 s2 r2 q2 s3 r3 q3 s4 r4 q4 x0 x1
  go_enter Tryz.func21, Tryz.ntmps21
  go_wp2_with fail
  try rw [hW]
  clear hW
  go_region_held3 (fun w' => (w'.cell? ⟨w.heap.size, 0, none⟩ = some (.bool n1) ∧ w'.cell? ⟨w.heap.size, 1, none⟩ = some (.slice A1 a1.length c1) ∧ w'.cell? ⟨w.heap.size, 2, none⟩ = some (.slice D1 d1.length e1) ∧ w'.cell? ⟨w.heap.size, 3, none⟩ = some (.bool n2) ∧ w'.cell? ⟨w.heap.size, 4, none⟩ = some (.slice A2 a2.length c2) ∧ w'.cell? ⟨w.heap.size, 5, none⟩ = some (.slice D2 d2.length e2)) ∧ (w'.cell? ⟨w.heap.size + 1, 0, none⟩ = some (.bool n3) ∧ w'.cell? ⟨w.heap.size + 1, 1, none⟩ = some (.slice A3 a3.length c3) ∧ w'.cell? ⟨w.heap.size + 1, 2, none⟩ = some (.slice D3 d3.length e3) ∧ w'.cell? ⟨w.heap.size + 1, 3, none⟩ = some (.bool n4) ∧ w'.cell? ⟨w.heap.size + 1, 4, none⟩ = some (.slice A4 a4.length c4) ∧ w'.cell? ⟨w.heap.size + 1, 5, none⟩ = some (.slice D4 d4.length e4)))
    (first | (with_reducible exact ⟨kept6 HK0.out K0, kept6 HK1.out K0⟩) | (with_reducible exact ⟨kept6 HK0.out K1, kept6 HK1.out K1⟩) | (with_reducible exact ⟨kept6 HK0.out K2, kept6 HK1.out K2⟩) | (with_reducible exact ⟨far66 (HK0.out.below K2 HK0.out.lt) (by omega) _ _ _ _ _ _ , far66 (HK1.out.below K2 HK1.out.lt) (by omega) _ _ _ _ _ _ ⟩) | go_keep)
    ((first
      | (go_at_call_of 42 (Value.slice A1 a1.length c1); (with_reducible refine Calls.mono (C0.out _ K0) ?_); rintro e w1 ⟨n50, a50, A50, c50, d50, D50, e50, rfl, s50, r50, q50, b1⟩; have K1 := below_next K0 (Nat.le_refl _) b1)
      | (go_at_call_of 42 (Value.slice A2 a2.length c2); (with_reducible refine Calls.mono (C1.out _ K1) ?_); rintro e w2 ⟨n51, a51, A51, c51, d51, D51, e51, rfl, s51, r51, q51, b2⟩; have K2 := below_next K1 (Nat.le_refl _) b2; obtain ⟨⟨i0, i1, i2, i3, i4, i5⟩, ⟨j0, j1, j2, j3, j4, j5⟩⟩ := (HKR.out.below K2 HKR.out.lt).facts6)))
  obtain ⟨U, hU, ⟨u0, u1, u2, u3, u4, u5⟩, hG⟩ := fin_spot (w := w) (HKR.out.below K2 HKR.out.lt) (by omega) (HB0.out.trans (K2.mono HB0.out.size)) s50 s51 (r50.on b2) (q50.on b2) r51 q51
  have HU := Lib.hid hU
  have HF := Lib.hid (And.intro u0 (And.intro u1 (And.intro u2 (And.intro u3 (And.intro u4 u5)))))
  have HG := Lib.hid hG
  clear hU u0 u1 u2 u3 u4 u5 hG i0 i1 i2 i3 i4 i5 j0 j1 j2 j3 j4 j5 C0 C1 s50 r50 q50 s51 r51 q51
  go_wp2_with fail
  rw [HU.out]
  obtain ⟨u0, u1, u2, u3, u4, u5⟩ := HF.out
  exact bodyPost_ret (by simp [results, Tryz.results21, go_sem, u0, u1, u2, u3, u4, u5]) rfl HG.out

set_option maxRecDepth 10000 in
set_option maxHeartbeats 3200000 in
/-- a, and t times what b has more -/
theorem spot_along (S1 S2 S3 S50 S51 S52 : Shape) (x0 : Fn2 80 S2 S1 S50) (x1 : Fn2 79 S3 S50 S51) (x2 : Fn2 74 S1 S51 S52) (n1 n2 n3 : Bool) (a1 d1 a2 d2 a3 d3 : List Nat) (A1 D1 A2 D2 A3 D3 : Option Addr) (c1 e1 c2 e2 c3 e3 : Nat)  (w : World) (s1 : S1 n1 a1 c1 d1 e1) (s2 : S2 n2 a2 c2 d2 e2) (s3 : S3 n3 a3 c3 d3 e3) (r1 : Rd w (fun g => g < w.heap.size) .u32 A1 a1) (q1 : Rd w (fun g => g < w.heap.size) .u32 D1 d1) (r2 : Rd w (fun g => g < w.heap.size) .u32 A2 a2) (q2 : Rd w (fun g => g < w.heap.size) .u32 D2 d2) (r3 : Rd w (fun g => g < w.heap.size) .u32 A3 a3) (q3 : Rd w (fun g => g < w.heap.size) .u32 D3 d3) :
    Calls Tryz.prog 46 #[.agg #[.bool n1, .slice A1 a1.length c1, .slice D1 d1.length e1], .agg #[.bool n2, .slice A2 a2.length c2, .slice D2 d2.length e2], .agg #[.bool n3, .slice A3 a3.length c3, .slice D3 d3.length e3]] w (Gv S52 w) := by
  obtain ⟨W, hW, k100, k101, k102, kr, b0, s0⟩ := bxd w 26 26 26 26 [.bool n1, .slice A1 a1.length c1, .slice D1 d1.length e1] [.bool n2, .slice A2 a2.length c2, .slice D2 d2.length e2] [.bool n3, .slice A3 a3.length c3, .slice D3 d3.length e3] [.bool false, .slice none 0 0, .slice none 0 0]
  obtain ⟨p00, p01, p02, -, -, -⟩ := k100.facts
  obtain ⟨p10, p11, p12, -, -, -⟩ := k101.facts
  obtain ⟨p20, p21, p22, -, -, -⟩ := k102.facts
  have C0 := Lib.hid (fun (V : World) (hV : Below W.heap.size W V) => x0 n2 n1 a2 d2 a1 d1 A2 D2 A1 D1 c2 e2 c1 e1 V s2 s1 ((r2.on b0).on hV) ((q2.on b0).on hV) ((r1.on b0).on hV) ((q1.on b0).on hV))
  have C1 := Lib.hid (fun (V : World) (hV : Below W.heap.size W V) (n50 : Bool) (a50 d50 : List Nat) (A50 D50 : Option Addr) (c50 e50 : Nat) (s50 : S50 n50 a50 c50 d50 e50) (r50 : Rd V (fun g => g < V.heap.size) .u32 A50 a50) (q50 : Rd V (fun g => g < V.heap.size) .u32 D50 d50) => x1 n3 n50 a3 d3 a50 d50 A3 D3 A50 D50 c3 e3 c50 e50 V s3 s50 ((r3.on b0).on hV) ((q3.on b0).on hV) r50 q50)
  have C2 := Lib.hid (fun (V : World) (hV : Below W.heap.size W V) (n51 : Bool) (a51 d51 : List Nat) (A51 D51 : Option Addr) (c51 e51 : Nat) (s51 : S51 n51 a51 c51 d51 e51) (r51 : Rd V (fun g => g < V.heap.size) .u32 A51 a51) (q51 : Rd V (fun g => g < V.heap.size) .u32 D51 d51) => x2 n1 n51 a1 d1 a51 d51 A1 D1 A51 D51 c1 e1 c51 e51 V s1 s51 ((r1.on b0).on hV) ((q1.on b0).on hV) r51 q51)
  have HK0 := Lib.hid k100
  have HK1 := Lib.hid k101
  have HK2 := Lib.hid k102
  have HKR := Lib.hid kr
  have HB0 := Lib.hid b0
  have K0 : Below W.heap.size W W.drew := below_drewN (Below.refl _ _) 1
  have hlt : w.heap.size + 3 < W.heap.size := by omega
  clear k100 k101 k102 kr b0 s0 s1 r1 q1 s2 r2 q2 s3 r3 q3 x0 x1 x2
  go_enter Tryz.func46, Tryz.ntmps46
  go_wp2_with fail
  try rw [hW]
  clear hW
  go_region_held3 (fun w' => (w'.cell? ⟨w.heap.size, 0, none⟩ = some (.bool n1) ∧ w'.cell? ⟨w.heap.size, 1, none⟩ = some (.slice A1 a1.length c1) ∧ w'.cell? ⟨w.heap.size, 2, none⟩ = some (.slice D1 d1.length e1)) ∧ (w'.cell? ⟨w.heap.size + 1, 0, none⟩ = some (.bool n2) ∧ w'.cell? ⟨w.heap.size + 1, 1, none⟩ = some (.slice A2 a2.length c2) ∧ w'.cell? ⟨w.heap.size + 1, 2, none⟩ = some (.slice D2 d2.length e2)) ∧ (w'.cell? ⟨w.heap.size + 1 + 1, 0, none⟩ = some (.bool n3) ∧ w'.cell? ⟨w.heap.size + 1 + 1, 1, none⟩ = some (.slice A3 a3.length c3) ∧ w'.cell? ⟨w.heap.size + 1 + 1, 2, none⟩ = some (.slice D3 d3.length e3)))
    (first | (with_reducible exact ⟨keep3 HK0.out K0, keep3 HK1.out K0, keep3 HK2.out K0⟩) | (with_reducible exact ⟨keep3 HK0.out K1, keep3 HK1.out K1, keep3 HK2.out K1⟩) | (with_reducible exact ⟨keep3 HK0.out K2, keep3 HK1.out K2, keep3 HK2.out K2⟩) | (with_reducible exact ⟨keep3 HK0.out K3, keep3 HK1.out K3, keep3 HK2.out K3⟩) | (with_reducible exact ⟨far33 (HK0.out.below K3 HK0.out.lt) (by omega) _ _ _ , far33 (HK1.out.below K3 HK1.out.lt) (by omega) _ _ _ , far33 (HK2.out.below K3 HK2.out.lt) (by omega) _ _ _ ⟩) | go_keep)
    ((first
      | (go_at_call 80; (with_reducible refine Calls.mono (C0.out _ K0) ?_); rintro e w1 ⟨n50, a50, A50, c50, d50, D50, e50, rfl, s50, r50, q50, b1⟩; have K1 := below_next K0 (Nat.le_refl _) b1)
      | (go_at_call 79; (with_reducible refine Calls.mono (C1.out _ K1 n50 a50 d50 A50 D50 c50 e50 s50 r50 q50 ) ?_); rintro e w2 ⟨n51, a51, A51, c51, d51, D51, e51, rfl, s51, r51, q51, b2⟩; have K2 := below_next K1 (Nat.le_refl _) b2)
      | (go_at_call 74; (with_reducible refine Calls.mono (C2.out _ K2 n51 a51 d51 A51 D51 c51 e51 s51 r51 q51 ) ?_); rintro e w3 ⟨n52, a52, A52, c52, d52, D52, e52, rfl, s52, r52, q52, b3⟩; have K3 := below_next K2 (Nat.le_refl _) b3; obtain ⟨i0, i1, i2, j0, j1, j2⟩ := (HKR.out.below K3 HKR.out.lt).facts)))
  obtain ⟨U, hU, u0, u1, u2, hG⟩ := fin_any (w := w) (HKR.out.below K3 HKR.out.lt) (by omega) (HB0.out.trans (K3.mono HB0.out.size)) s52 r52 q52
  have HU := Lib.hid hU
  have HF := Lib.hid (And.intro u0 (And.intro u1 u2))
  have HG := Lib.hid hG
  clear hU u0 u1 u2 hG i0 i1 i2 j0 j1 j2 C0 C1 C2 s50 r50 q50 s51 r51 q51 s52 r52 q52
  go_wp2_with fail
  rw [HU.out]
  obtain ⟨u0, u1, u2⟩ := HF.out
  exact bodyPost_ret (by simp [results, Tryz.results46, go_sem, u0, u1, u2]) rfl HG.out

set_option maxRecDepth 10000 in
set_option maxHeartbeats 3200000 in
/-- a, and t times the way -/
theorem spot_Toward (S1 S2 S3 S4 S5 S50 S51 : Shape) (x0 : Fn3 46 S1 S3 S5 S50) (x1 : Fn3 46 S2 S4 S5 S51) (n1 n2 n3 n4 n5 : Bool) (a1 d1 a2 d2 a3 d3 a4 d4 a5 d5 : List Nat) (A1 D1 A2 D2 A3 D3 A4 D4 A5 D5 : Option Addr) (c1 e1 c2 e2 c3 e3 c4 e4 c5 e5 : Nat)  (w : World) (s1 : S1 n1 a1 c1 d1 e1) (s2 : S2 n2 a2 c2 d2 e2) (s3 : S3 n3 a3 c3 d3 e3) (s4 : S4 n4 a4 c4 d4 e4) (s5 : S5 n5 a5 c5 d5 e5) (r1 : Rd w (fun g => g < w.heap.size) .u32 A1 a1) (q1 : Rd w (fun g => g < w.heap.size) .u32 D1 d1) (r2 : Rd w (fun g => g < w.heap.size) .u32 A2 a2) (q2 : Rd w (fun g => g < w.heap.size) .u32 D2 d2) (r3 : Rd w (fun g => g < w.heap.size) .u32 A3 a3) (q3 : Rd w (fun g => g < w.heap.size) .u32 D3 d3) (r4 : Rd w (fun g => g < w.heap.size) .u32 A4 a4) (q4 : Rd w (fun g => g < w.heap.size) .u32 D4 d4) (r5 : Rd w (fun g => g < w.heap.size) .u32 A5 a5) (q5 : Rd w (fun g => g < w.heap.size) .u32 D5 d5) :
    Calls Tryz.prog 23 #[.agg #[.bool n1, .slice A1 a1.length c1, .slice D1 d1.length e1, .bool n2, .slice A2 a2.length c2, .slice D2 d2.length e2], .agg #[.bool n3, .slice A3 a3.length c3, .slice D3 d3.length e3, .bool n4, .slice A4 a4.length c4, .slice D4 d4.length e4], .agg #[.bool n5, .slice A5 a5.length c5, .slice D5 d5.length e5]] w (Gs S50 S51 w) := by
  obtain ⟨W, hW, k100, k101, k102, kr, b0, s0⟩ := bxd w 28 28 26 28 [.bool n1, .slice A1 a1.length c1, .slice D1 d1.length e1, .bool n2, .slice A2 a2.length c2, .slice D2 d2.length e2] [.bool n3, .slice A3 a3.length c3, .slice D3 d3.length e3, .bool n4, .slice A4 a4.length c4, .slice D4 d4.length e4] [.bool n5, .slice A5 a5.length c5, .slice D5 d5.length e5] [.bool false, .slice none 0 0, .slice none 0 0, .bool false, .slice none 0 0, .slice none 0 0]
  obtain ⟨⟨p00, p01, p02, p03, p04, p05⟩, -⟩ := k100.facts6
  obtain ⟨⟨p10, p11, p12, p13, p14, p15⟩, -⟩ := k101.facts6
  obtain ⟨p20, p21, p22, -, -, -⟩ := k102.facts
  have C0 := Lib.hid (fun (V : World) (hV : Below W.heap.size W V) => x0 n1 n3 n5 a1 d1 a3 d3 a5 d5 A1 D1 A3 D3 A5 D5 c1 e1 c3 e3 c5 e5 V s1 s3 s5 ((r1.on b0).on hV) ((q1.on b0).on hV) ((r3.on b0).on hV) ((q3.on b0).on hV) ((r5.on b0).on hV) ((q5.on b0).on hV))
  have C1 := Lib.hid (fun (V : World) (hV : Below W.heap.size W V) => x1 n2 n4 n5 a2 d2 a4 d4 a5 d5 A2 D2 A4 D4 A5 D5 c2 e2 c4 e4 c5 e5 V s2 s4 s5 ((r2.on b0).on hV) ((q2.on b0).on hV) ((r4.on b0).on hV) ((q4.on b0).on hV) ((r5.on b0).on hV) ((q5.on b0).on hV))
  have HK0 := Lib.hid k100
  have HK1 := Lib.hid k101
  have HK2 := Lib.hid k102
  have HKR := Lib.hid kr
  have HB0 := Lib.hid b0
  have K0 : Below W.heap.size W W.drew := below_drewN (Below.refl _ _) 1
  have hlt : w.heap.size + 3 < W.heap.size := by omega
  clear k100 k101 k102 kr b0 s0 s1 r1 q1 s2 r2 q2 s3 r3 q3 s4 r4 q4 s5 r5 q5 x0 x1
  go_enter Tryz.func23, Tryz.ntmps23
  go_wp2_with fail
  try rw [hW]
  clear hW
  go_region_held3 (fun w' => (w'.cell? ⟨w.heap.size, 0, none⟩ = some (.bool n1) ∧ w'.cell? ⟨w.heap.size, 1, none⟩ = some (.slice A1 a1.length c1) ∧ w'.cell? ⟨w.heap.size, 2, none⟩ = some (.slice D1 d1.length e1) ∧ w'.cell? ⟨w.heap.size, 3, none⟩ = some (.bool n2) ∧ w'.cell? ⟨w.heap.size, 4, none⟩ = some (.slice A2 a2.length c2) ∧ w'.cell? ⟨w.heap.size, 5, none⟩ = some (.slice D2 d2.length e2)) ∧ (w'.cell? ⟨w.heap.size + 1, 0, none⟩ = some (.bool n3) ∧ w'.cell? ⟨w.heap.size + 1, 1, none⟩ = some (.slice A3 a3.length c3) ∧ w'.cell? ⟨w.heap.size + 1, 2, none⟩ = some (.slice D3 d3.length e3) ∧ w'.cell? ⟨w.heap.size + 1, 3, none⟩ = some (.bool n4) ∧ w'.cell? ⟨w.heap.size + 1, 4, none⟩ = some (.slice A4 a4.length c4) ∧ w'.cell? ⟨w.heap.size + 1, 5, none⟩ = some (.slice D4 d4.length e4)) ∧ (w'.cell? ⟨w.heap.size + 1 + 1, 0, none⟩ = some (.bool n5) ∧ w'.cell? ⟨w.heap.size + 1 + 1, 1, none⟩ = some (.slice A5 a5.length c5) ∧ w'.cell? ⟨w.heap.size + 1 + 1, 2, none⟩ = some (.slice D5 d5.length e5)))
    (first | (with_reducible exact ⟨kept6 HK0.out K0, kept6 HK1.out K0, keep3 HK2.out K0⟩) | (with_reducible exact ⟨kept6 HK0.out K1, kept6 HK1.out K1, keep3 HK2.out K1⟩) | (with_reducible exact ⟨kept6 HK0.out K2, kept6 HK1.out K2, keep3 HK2.out K2⟩) | (with_reducible exact ⟨far66 (HK0.out.below K2 HK0.out.lt) (by omega) _ _ _ _ _ _ , far66 (HK1.out.below K2 HK1.out.lt) (by omega) _ _ _ _ _ _ , far36 (HK2.out.below K2 HK2.out.lt) (by omega) _ _ _ _ _ _ ⟩) | go_keep)
    ((first
      | (go_at_call_of 46 (Value.slice A1 a1.length c1); (with_reducible refine Calls.mono (C0.out _ K0) ?_); rintro e w1 ⟨n50, a50, A50, c50, d50, D50, e50, rfl, s50, r50, q50, b1⟩; have K1 := below_next K0 (Nat.le_refl _) b1)
      | (go_at_call_of 46 (Value.slice A2 a2.length c2); (with_reducible refine Calls.mono (C1.out _ K1) ?_); rintro e w2 ⟨n51, a51, A51, c51, d51, D51, e51, rfl, s51, r51, q51, b2⟩; have K2 := below_next K1 (Nat.le_refl _) b2; obtain ⟨⟨i0, i1, i2, i3, i4, i5⟩, ⟨j0, j1, j2, j3, j4, j5⟩⟩ := (HKR.out.below K2 HKR.out.lt).facts6)))
  obtain ⟨U, hU, ⟨u0, u1, u2, u3, u4, u5⟩, hG⟩ := fin_spot (w := w) (HKR.out.below K2 HKR.out.lt) (by omega) (HB0.out.trans (K2.mono HB0.out.size)) s50 s51 (r50.on b2) (q50.on b2) r51 q51
  have HU := Lib.hid hU
  have HF := Lib.hid (And.intro u0 (And.intro u1 (And.intro u2 (And.intro u3 (And.intro u4 u5)))))
  have HG := Lib.hid hG
  clear hU u0 u1 u2 u3 u4 u5 hG i0 i1 i2 i3 i4 i5 j0 j1 j2 j3 j4 j5 C0 C1 s50 r50 q50 s51 r51 q51
  go_wp2_with fail
  rw [HU.out]
  obtain ⟨u0, u1, u2, u3, u4, u5⟩ := HF.out
  exact bodyPost_ret (by simp [results, Tryz.results23, go_sem, u0, u1, u2, u3, u4, u5]) rfl HG.out

end Go.Proofs.YtkgedgaddpojkaaGreatDoor
