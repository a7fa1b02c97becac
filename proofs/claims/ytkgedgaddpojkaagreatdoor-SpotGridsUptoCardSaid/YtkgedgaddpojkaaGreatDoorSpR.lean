/- Spots, the document's own: what At, clean and Toward answer. -/
import Derived.Test.YtkgedgaddpojkaaGreatDoorSpA
import Derived.Deep.RegionHeld3
import Derived.Deep.RegionWith
namespace Go.Proofs.YtkgedgaddpojkaaGreatDoor
open Go.RowKit Num

set_option maxRecDepth 10000 in
set_option maxHeartbeats 3200000 in
/-- a point of the grid -/
theorem ref5_At (S50 S51 : Shape)  (x y : Int) (x0 : ∀ V : World, Calls Tryz.prog 34 #[.int .i64 x] V (Gv S50 V)) (x1 : ∀ V : World, Calls Tryz.prog 34 #[.int .i64 y] V (Gv S51 V)) (w : World)   :
    Calls Tryz.prog 12 #[.agg #[.int .i64 x, .int .i64 y]] w (Gs S50 S51 w) := by
  obtain ⟨W, hW, k100, kr, b0, s0⟩ := bxb w 33 28 [.int .i64 x, .int .i64 y] [.bool false, .slice none 0 0, .slice none 0 0, .bool false, .slice none 0 0, .slice none 0 0]
  obtain ⟨p00, p01, -, -⟩ := k100.facts2
  have C0 := Lib.hid (fun (V : World) => x0 V)
  have C1 := Lib.hid (fun (V : World) => x1 V)
  have HK0 := Lib.hid k100
  have HKR := Lib.hid kr
  have HB0 := Lib.hid b0
  have K0 : Below W.heap.size W W.drew := below_drewN (Below.refl _ _) 1
  have hlt : w.heap.size + 1 < W.heap.size := by omega
  clear k100 kr b0 s0  x0 x1
  go_enter Tryz.func12, Tryz.ntmps12
  go_wp2_with fail
  try rw [hW]
  clear hW
  go_region_held3 (fun w' => (w'.cell? ⟨w.heap.size, 0, none⟩ = some (.int .i64 x) ∧ w'.cell? ⟨w.heap.size, 1, none⟩ = some (.int .i64 y)))
    (first | (with_reducible exact kept2 HK0.out K0) | (with_reducible exact kept2 HK0.out K1) | (with_reducible exact kept2 HK0.out K2) | (with_reducible exact far26 (HK0.out.below K2 HK0.out.lt) (by omega) _ _ _ _ _ _ ) | go_keep)
    ((first
      | (go_at_call_of 34 (Value.int .i64 x); (with_reducible refine Calls.mono (C0.out _) ?_); rintro e w1 ⟨n50, a50, A50, c50, d50, D50, e50, rfl, s50, r50, q50, b1⟩; have K1 := below_next K0 (Nat.le_refl _) b1)
      | (go_at_call_of 34 (Value.int .i64 y); (with_reducible refine Calls.mono (C1.out _) ?_); rintro e w2 ⟨n51, a51, A51, c51, d51, D51, e51, rfl, s51, r51, q51, b2⟩; have K2 := below_next K1 (Nat.le_refl _) b2; obtain ⟨⟨i0, i1, i2, i3, i4, i5⟩, ⟨j0, j1, j2, j3, j4, j5⟩⟩ := (HKR.out.below K2 HKR.out.lt).facts6)))
  obtain ⟨U, hU, ⟨u0, u1, u2, u3, u4, u5⟩, hG⟩ := fin_spot (w := w) (HKR.out.below K2 HKR.out.lt) (by omega) (HB0.out.trans (K2.mono HB0.out.size)) s50 s51 (r50.on b2) (q50.on b2) r51 q51
  have HU := Lib.hid hU
  have HF := Lib.hid (And.intro u0 (And.intro u1 (And.intro u2 (And.intro u3 (And.intro u4 u5)))))
  have HG := Lib.hid hG
  clear hU u0 u1 u2 u3 u4 u5 hG i0 i1 i2 i3 i4 i5 j0 j1 j2 j3 j4 j5 C0 C1 s50 r50 q50 s51 r51 q51
  go_wp2_with fail
  rw [HU.out]
  obtain ⟨u0, u1, u2, u3, u4, u5⟩ := HF.out
  exact bodyPost_ret (by simp [results, Tryz.results12, go_sem, u0, u1, u2, u3, u4, u5]) rfl HG.out

set_option maxRecDepth 10000 in
set_option maxHeartbeats 3200000 in
/-- reduced -/
theorem ref5_clean (S1 S2 S50 S51 : Shape) (x0 : Fn1 75 S1 S50) (x1 : Fn1 75 S2 S51) (n1 n2 : Bool) (a1 d1 a2 d2 : List Nat) (A1 D1 A2 D2 : Option Addr) (c1 e1 c2 e2 : Nat)  (w : World) (s1 : S1 n1 a1 c1 d1 e1) (s2 : S2 n2 a2 c2 d2 e2) (r1 : Rd w (fun g => g < w.heap.size) .u32 A1 a1) (q1 : Rd w (fun g => g < w.heap.size) .u32 D1 d1) (r2 : Rd w (fun g => g < w.heap.size) .u32 A2 a2) (q2 : Rd w (fun g => g < w.heap.size) .u32 D2 d2) :
    Calls Tryz.prog 50 #[.agg #[.bool n1, .slice A1 a1.length c1, .slice D1 d1.length e1, .bool n2, .slice A2 a2.length c2, .slice D2 d2.length e2]] w (Gs S50 S51 w) := by
  obtain ⟨W, hW, k100, kr, b0, s0⟩ := bxb w 28 28 [.bool n1, .slice A1 a1.length c1, .slice D1 d1.length e1, .bool n2, .slice A2 a2.length c2, .slice D2 d2.length e2] [.bool false, .slice none 0 0, .slice none 0 0, .bool false, .slice none 0 0, .slice none 0 0]
  obtain ⟨⟨p00, p01, p02, p03, p04, p05⟩, -⟩ := k100.facts6
  have C0 := Lib.hid (fun (V : World) (hV : Below W.heap.size W V) => x0 n1 a1 d1 A1 D1 c1 e1 V s1 ((r1.on b0).on hV) ((q1.on b0).on hV))
  have C1 := Lib.hid (fun (V : World) (hV : Below W.heap.size W V) => x1 n2 a2 d2 A2 D2 c2 e2 V s2 ((r2.on b0).on hV) ((q2.on b0).on hV))
  have HK0 := Lib.hid k100
  have HKR := Lib.hid kr
  have HB0 := Lib.hid b0
  have K0 : Below W.heap.size W W.drew := below_drewN (Below.refl _ _) 1
  have hlt : w.heap.size + 1 < W.heap.size := by omega
  clear k100 kr b0 s0 s1 r1 q1 s2 r2 q2 x0 x1
  go_enter Tryz.func50, Tryz.ntmps50
  go_wp2_with fail
  try rw [hW]
  clear hW
  go_region_held3 (fun w' => (w'.cell? ⟨w.heap.size, 0, none⟩ = some (.bool n1) ∧ w'.cell? ⟨w.heap.size, 1, none⟩ = some (.slice A1 a1.length c1) ∧ w'.cell? ⟨w.heap.size, 2, none⟩ = some (.slice D1 d1.length e1) ∧ w'.cell? ⟨w.heap.size, 3, none⟩ = some (.bool n2) ∧ w'.cell? ⟨w.heap.size, 4, none⟩ = some (.slice A2 a2.length c2) ∧ w'.cell? ⟨w.heap.size, 5, none⟩ = some (.slice D2 d2.length e2)))
    (first | (with_reducible exact kept6 HK0.out K0) | (with_reducible exact kept6 HK0.out K1) | (with_reducible exact kept6 HK0.out K2) | (with_reducible exact far66 (HK0.out.below K2 HK0.out.lt) (by omega) _ _ _ _ _ _ ) | go_keep)
    ((first
      | (go_at_call_of 75 (Value.slice A1 a1.length c1); (with_reducible refine Calls.mono (C0.out _ K0) ?_); rintro e w1 ⟨n50, a50, A50, c50, d50, D50, e50, rfl, s50, r50, q50, b1⟩; have K1 := below_next K0 (Nat.le_refl _) b1)
      | (go_at_call_of 75 (Value.slice A2 a2.length c2); (with_reducible refine Calls.mono (C1.out _ K1) ?_); rintro e w2 ⟨n51, a51, A51, c51, d51, D51, e51, rfl, s51, r51, q51, b2⟩; have K2 := below_next K1 (Nat.le_refl _) b2; obtain ⟨⟨i0, i1, i2, i3, i4, i5⟩, ⟨j0, j1, j2, j3, j4, j5⟩⟩ := (HKR.out.below K2 HKR.out.lt).facts6)))
  obtain ⟨U, hU, ⟨u0, u1, u2, u3, u4, u5⟩, hG⟩ := fin_spot (w := w) (HKR.out.below K2 HKR.out.lt) (by omega) (HB0.out.trans (K2.mono HB0.out.size)) s50 s51 (r50.on b2) (q50.on b2) r51 q51
  have HU := Lib.hid hU
  have HF := Lib.hid (And.intro u0 (And.intro u1 (And.intro u2 (And.intro u3 (And.intro u4 u5)))))
  have HG := Lib.hid hG
  clear hU u0 u1 u2 u3 u4 u5 hG i0 i1 i2 i3 i4 i5 j0 j1 j2 j3 j4 j5 C0 C1 s50 r50 q50 s51 r51 q51
  go_wp2_with fail
  rw [HU.out]
  obtain ⟨u0, u1, u2, u3, u4, u5⟩ := HF.out
  exact bodyPost_ret (by simp [results, Tryz.results50, go_sem, u0, u1, u2, u3, u4, u5]) rfl HG.out

set_option maxRecDepth 10000 in
set_option maxHeartbeats 12800000 in
/-- a, and t times the way -/
theorem ref5_Toward (S1 S2 S3 S4 S5 S50 S51 S52 S53 S54 S55 : Shape) (x0 : Fn2 45 S3 S1 S50) (x1 : Fn2 44 S5 S50 S51) (x2 : Fn2 43 S1 S51 S52) (x3 : Fn2 45 S4 S2 S53) (x4 : Fn2 44 S5 S53 S54) (x5 : Fn2 43 S2 S54 S55) (n1 n2 n3 n4 n5 : Bool) (a1 d1 a2 d2 a3 d3 a4 d4 a5 d5 : List Nat) (A1 D1 A2 D2 A3 D3 A4 D4 A5 D5 : Option Addr) (c1 e1 c2 e2 c3 e3 c4 e4 c5 e5 : Nat)  (w : World) (s1 : S1 n1 a1 c1 d1 e1) (s2 : S2 n2 a2 c2 d2 e2) (s3 : S3 n3 a3 c3 d3 e3) (s4 : S4 n4 a4 c4 d4 e4) (s5 : S5 n5 a5 c5 d5 e5) (r1 : Rd w (fun g => g < w.heap.size) .u32 A1 a1) (q1 : Rd w (fun g => g < w.heap.size) .u32 D1 d1) (r2 : Rd w (fun g => g < w.heap.size) .u32 A2 a2) (q2 : Rd w (fun g => g < w.heap.size) .u32 D2 d2) (r3 : Rd w (fun g => g < w.heap.size) .u32 A3 a3) (q3 : Rd w (fun g => g < w.heap.size) .u32 D3 d3) (r4 : Rd w (fun g => g < w.heap.size) .u32 A4 a4) (q4 : Rd w (fun g => g < w.heap.size) .u32 D4 d4) (r5 : Rd w (fun g => g < w.heap.size) .u32 A5 a5) (q5 : Rd w (fun g => g < w.heap.size) .u32 D5 d5) :
    Calls Tryz.prog 22 #[.agg #[.bool n1, .slice A1 a1.length c1, .slice D1 d1.length e1, .bool n2, .slice A2 a2.length c2, .slice D2 d2.length e2], .agg #[.bool n3, .slice A3 a3.length c3, .slice D3 d3.length e3, .bool n4, .slice A4 a4.length c4, .slice D4 d4.length e4], .agg #[.bool n5, .slice A5 a5.length c5, .slice D5 d5.length e5]] w (Gs S52 S55 w) := by
  obtain ⟨W, hW, k100, k101, k102, kr, b0, s0⟩ := bxd w 28 28 26 28 [.bool n1, .slice A1 a1.length c1, .slice D1 d1.length e1, .bool n2, .slice A2 a2.length c2, .slice D2 d2.length e2] [.bool n3, .slice A3 a3.length c3, .slice D3 d3.length e3, .bool n4, .slice A4 a4.length c4, .slice D4 d4.length e4] [.bool n5, .slice A5 a5.length c5, .slice D5 d5.length e5] [.bool false, .slice none 0 0, .slice none 0 0, .bool false, .slice none 0 0, .slice none 0 0]
  obtain ⟨⟨p00, p01, p02, p03, p04, p05⟩, -⟩ := k100.facts6
  obtain ⟨⟨p10, p11, p12, p13, p14, p15⟩, -⟩ := k101.facts6
  obtain ⟨p20, p21, p22, -, -, -⟩ := k102.facts
  have C0 := Lib.hid (fun (V : World) (hV : Below W.heap.size W V) => x0 n3 n1 a3 d3 a1 d1 A3 D3 A1 D1 c3 e3 c1 e1 V s3 s1 ((r3.on b0).on hV) ((q3.on b0).on hV) ((r1.on b0).on hV) ((q1.on b0).on hV))
  have C1 := Lib.hid (fun (V : World) (hV : Below W.heap.size W V) (n50 : Bool) (a50 d50 : List Nat) (A50 D50 : Option Addr) (c50 e50 : Nat) (s50 : S50 n50 a50 c50 d50 e50) (r50 : Rd V (fun g => g < V.heap.size) .u32 A50 a50) (q50 : Rd V (fun g => g < V.heap.size) .u32 D50 d50) => x1 n5 n50 a5 d5 a50 d50 A5 D5 A50 D50 c5 e5 c50 e50 V s5 s50 ((r5.on b0).on hV) ((q5.on b0).on hV) r50 q50)
  have C2 := Lib.hid (fun (V : World) (hV : Below W.heap.size W V) (n51 : Bool) (a51 d51 : List Nat) (A51 D51 : Option Addr) (c51 e51 : Nat) (s51 : S51 n51 a51 c51 d51 e51) (r51 : Rd V (fun g => g < V.heap.size) .u32 A51 a51) (q51 : Rd V (fun g => g < V.heap.size) .u32 D51 d51) => x2 n1 n51 a1 d1 a51 d51 A1 D1 A51 D51 c1 e1 c51 e51 V s1 s51 ((r1.on b0).on hV) ((q1.on b0).on hV) r51 q51)
  have C3 := Lib.hid (fun (V : World) (hV : Below W.heap.size W V) => x3 n4 n2 a4 d4 a2 d2 A4 D4 A2 D2 c4 e4 c2 e2 V s4 s2 ((r4.on b0).on hV) ((q4.on b0).on hV) ((r2.on b0).on hV) ((q2.on b0).on hV))
  have C4 := Lib.hid (fun (V : World) (hV : Below W.heap.size W V) (n53 : Bool) (a53 d53 : List Nat) (A53 D53 : Option Addr) (c53 e53 : Nat) (s53 : S53 n53 a53 c53 d53 e53) (r53 : Rd V (fun g => g < V.heap.size) .u32 A53 a53) (q53 : Rd V (fun g => g < V.heap.size) .u32 D53 d53) => x4 n5 n53 a5 d5 a53 d53 A5 D5 A53 D53 c5 e5 c53 e53 V s5 s53 ((r5.on b0).on hV) ((q5.on b0).on hV) r53 q53)
  have C5 := Lib.hid (fun (V : World) (hV : Below W.heap.size W V) (n54 : Bool) (a54 d54 : List Nat) (A54 D54 : Option Addr) (c54 e54 : Nat) (s54 : S54 n54 a54 c54 d54 e54) (r54 : Rd V (fun g => g < V.heap.size) .u32 A54 a54) (q54 : Rd V (fun g => g < V.heap.size) .u32 D54 d54) => x5 n2 n54 a2 d2 a54 d54 A2 D2 A54 D54 c2 e2 c54 e54 V s2 s54 ((r2.on b0).on hV) ((q2.on b0).on hV) r54 q54)
  have HK0 := Lib.hid k100
  have HK1 := Lib.hid k101
  have HK2 := Lib.hid k102
  have HKR := Lib.hid kr
  have HB0 := Lib.hid b0
  have K0 : Below W.heap.size W W.drew := below_drewN (Below.refl _ _) 1
  have hlt : w.heap.size + 3 < W.heap.size := by omega
  clear k100 k101 k102 kr b0 s0 s1 r1 q1 s2 r2 q2 s3 r3 q3 s4 r4 q4 s5 r5 q5 x0 x1 x2 x3 x4 x5
  go_enter Tryz.func22, Tryz.ntmps22
  go_wp2_with fail
  try rw [hW]
  clear hW
  go_region_held3 (fun w' => (w'.cell? ⟨w.heap.size, 0, none⟩ = some (.bool n1) ∧ w'.cell? ⟨w.heap.size, 1, none⟩ = some (.slice A1 a1.length c1) ∧ w'.cell? ⟨w.heap.size, 2, none⟩ = some (.slice D1 d1.length e1) ∧ w'.cell? ⟨w.heap.size, 3, none⟩ = some (.bool n2) ∧ w'.cell? ⟨w.heap.size, 4, none⟩ = some (.slice A2 a2.length c2) ∧ w'.cell? ⟨w.heap.size, 5, none⟩ = some (.slice D2 d2.length e2)) ∧ (w'.cell? ⟨w.heap.size + 1, 0, none⟩ = some (.bool n3) ∧ w'.cell? ⟨w.heap.size + 1, 1, none⟩ = some (.slice A3 a3.length c3) ∧ w'.cell? ⟨w.heap.size + 1, 2, none⟩ = some (.slice D3 d3.length e3) ∧ w'.cell? ⟨w.heap.size + 1, 3, none⟩ = some (.bool n4) ∧ w'.cell? ⟨w.heap.size + 1, 4, none⟩ = some (.slice A4 a4.length c4) ∧ w'.cell? ⟨w.heap.size + 1, 5, none⟩ = some (.slice D4 d4.length e4)) ∧ (w'.cell? ⟨w.heap.size + 1 + 1, 0, none⟩ = some (.bool n5) ∧ w'.cell? ⟨w.heap.size + 1 + 1, 1, none⟩ = some (.slice A5 a5.length c5) ∧ w'.cell? ⟨w.heap.size + 1 + 1, 2, none⟩ = some (.slice D5 d5.length e5)))
    (first | (with_reducible exact ⟨kept6 HK0.out K0, kept6 HK1.out K0, keep3 HK2.out K0⟩) | (with_reducible exact ⟨kept6 HK0.out K1, kept6 HK1.out K1, keep3 HK2.out K1⟩) | (with_reducible exact ⟨kept6 HK0.out K2, kept6 HK1.out K2, keep3 HK2.out K2⟩) | (with_reducible exact ⟨kept6 HK0.out K3, kept6 HK1.out K3, keep3 HK2.out K3⟩) | (with_reducible exact ⟨kept6 HK0.out K4, kept6 HK1.out K4, keep3 HK2.out K4⟩) | (with_reducible exact ⟨kept6 HK0.out K5, kept6 HK1.out K5, keep3 HK2.out K5⟩) | (with_reducible exact ⟨kept6 HK0.out K6, kept6 HK1.out K6, keep3 HK2.out K6⟩) | (with_reducible exact ⟨far66 (HK0.out.below K6 HK0.out.lt) (by omega) _ _ _ _ _ _ , far66 (HK1.out.below K6 HK1.out.lt) (by omega) _ _ _ _ _ _ , far36 (HK2.out.below K6 HK2.out.lt) (by omega) _ _ _ _ _ _ ⟩) | go_keep)
    ((first
      | (go_at_call_of 45 (Value.slice A3 a3.length c3); (with_reducible refine Calls.mono (C0.out _ K0) ?_); rintro e w1 ⟨n50, a50, A50, c50, d50, D50, e50, rfl, s50, r50, q50, b1⟩; have K1 := below_next K0 (Nat.le_refl _) b1)
      | (go_at_call_of 44 (Value.slice A5 a5.length c5); (with_reducible refine Calls.mono (C1.out _ K1 n50 a50 d50 A50 D50 c50 e50 s50 r50 q50 ) ?_); rintro e w2 ⟨n51, a51, A51, c51, d51, D51, e51, rfl, s51, r51, q51, b2⟩; have K2 := below_next K1 (Nat.le_refl _) b2)
      | (go_at_call_of 43 (Value.slice A1 a1.length c1); (with_reducible refine Calls.mono (C2.out _ K2 n51 a51 d51 A51 D51 c51 e51 s51 r51 q51 ) ?_); rintro e w3 ⟨n52, a52, A52, c52, d52, D52, e52, rfl, s52, r52, q52, b3⟩; have K3 := below_next K2 (Nat.le_refl _) b3)
      | (go_at_call_of 45 (Value.slice A4 a4.length c4); (with_reducible refine Calls.mono (C3.out _ K3) ?_); rintro e w4 ⟨n53, a53, A53, c53, d53, D53, e53, rfl, s53, r53, q53, b4⟩; have K4 := below_next K3 (Nat.le_refl _) b4)
      | (go_at_call_of 44 (Value.slice A5 a5.length c5); (with_reducible refine Calls.mono (C4.out _ K4 n53 a53 d53 A53 D53 c53 e53 s53 r53 q53 ) ?_); rintro e w5 ⟨n54, a54, A54, c54, d54, D54, e54, rfl, s54, r54, q54, b5⟩; have K5 := below_next K4 (Nat.le_refl _) b5)
      | (go_at_call_of 43 (Value.slice A2 a2.length c2); (with_reducible refine Calls.mono (C5.out _ K5 n54 a54 d54 A54 D54 c54 e54 s54 r54 q54 ) ?_); rintro e w6 ⟨n55, a55, A55, c55, d55, D55, e55, rfl, s55, r55, q55, b6⟩; have K6 := below_next K5 (Nat.le_refl _) b6; obtain ⟨⟨i0, i1, i2, i3, i4, i5⟩, ⟨j0, j1, j2, j3, j4, j5⟩⟩ := (HKR.out.below K6 HKR.out.lt).facts6)))
  obtain ⟨U, hU, ⟨u0, u1, u2, u3, u4, u5⟩, hG⟩ := fin_spot (w := w) (HKR.out.below K6 HKR.out.lt) (by omega) (HB0.out.trans (K6.mono HB0.out.size)) s52 s55 (r52.on ((b4.trans (b5.mono b4.size)).trans (b6.mono (b4.trans (b5.mono b4.size)).size))) (q52.on ((b4.trans (b5.mono b4.size)).trans (b6.mono (b4.trans (b5.mono b4.size)).size))) r55 q55
  have HU := Lib.hid hU
  have HF := Lib.hid (And.intro u0 (And.intro u1 (And.intro u2 (And.intro u3 (And.intro u4 u5)))))
  have HG := Lib.hid hG
  clear hU u0 u1 u2 u3 u4 u5 hG i0 i1 i2 i3 i4 i5 j0 j1 j2 j3 j4 j5 C0 C1 C2 C3 C4 C5 s50 r50 q50 s51 r51 q51 s52 r52 q52 s53 r53 q53 s54 r54 q54 s55 r55 q55
  go_wp2_with fail
  rw [HU.out]
  obtain ⟨u0, u1, u2, u3, u4, u5⟩ := HF.out
  exact bodyPost_ret (by simp [results, Tryz.results22, go_sem, u0, u1, u2, u3, u4, u5]) rfl HG.out

end Go.Proofs.YtkgedgaddpojkaaGreatDoor
