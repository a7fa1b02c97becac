/- Spots, the document's own: what Area answers. -/
import Derived.Test.YtkgedgaddpojkaaGreatDoorSpN
import Derived.Deep.RegionHeld3
import Derived.Deep.RegionWith
namespace Go.Proofs.YtkgedgaddpojkaaGreatDoor
open Go.RowKit Num

/-- a fraction in a box of its own, at the end of a region -/
theorem oneF {W v : World} {t : TypeId} {X Y : Option Addr} {x y : List Nat} (K : Below W.heap.size W v) (n : Bool) (c e : Nat) (r : Rd v (fun g => g < v.heap.size) .u32 X x) (q : Rd v (fun g => g < v.heap.size) .u32 Y y) : Blk (v.alloc (.cells #[.bool n, .slice X x.length c, .slice Y y.length e] t)) v.heap.size t [.bool n, .slice X x.length c, .slice Y y.length e] ∧ (Rd (v.alloc (.cells #[.bool n, .slice X x.length c, .slice Y y.length e] t)) (fun g => g < (v.alloc (.cells #[.bool n, .slice X x.length c, .slice Y y.length e] t)).heap.size) .u32 X x ∧ Rd (v.alloc (.cells #[.bool n, .slice X x.length c, .slice Y y.length e] t)) (fun g => g < (v.alloc (.cells #[.bool n, .slice X x.length c, .slice Y y.length e] t)).heap.size) .u32 Y y) ∧ Below W.heap.size W (v.alloc (.cells #[.bool n, .slice X x.length c, .slice Y y.length e] t)) :=
  ⟨Blk.new v t [.bool n, .slice X x.length c, .slice Y y.length e], ⟨r.on (below_new v _), q.on (below_new v _)⟩, keep_one K _⟩
theorem oneG {W v : World} {g : Nat} {t : TypeId} {X Y : Option Addr} {x y : List Nat} (k : Blk v g t [.bool false, .slice none 0 0, .slice none 0 0]) (hg : W.heap.size ≤ g) (K : Below W.heap.size W v) (n : Bool) (c e : Nat) (r : Rd v (fun g => g < v.heap.size) .u32 X x) (q : Rd v (fun g => g < v.heap.size) .u32 Y y) : Blk (((v.setCell ⟨g, 0, none⟩ (.bool n)).setCell ⟨g, 1, none⟩ (.slice X x.length c)).setCell ⟨g, 2, none⟩ (.slice Y y.length e)) g t [.bool n, .slice X x.length c, .slice Y y.length e] ∧ (Rd (((v.setCell ⟨g, 0, none⟩ (.bool n)).setCell ⟨g, 1, none⟩ (.slice X x.length c)).setCell ⟨g, 2, none⟩ (.slice Y y.length e)) (fun b => b < (((v.setCell ⟨g, 0, none⟩ (.bool n)).setCell ⟨g, 1, none⟩ (.slice X x.length c)).setCell ⟨g, 2, none⟩ (.slice Y y.length e)).heap.size) .u32 X x ∧ Rd (((v.setCell ⟨g, 0, none⟩ (.bool n)).setCell ⟨g, 1, none⟩ (.slice X x.length c)).setCell ⟨g, 2, none⟩ (.slice Y y.length e)) (fun b => b < (((v.setCell ⟨g, 0, none⟩ (.bool n)).setCell ⟨g, 1, none⟩ (.slice X x.length c)).setCell ⟨g, 2, none⟩ (.slice Y y.length e)).heap.size) .u32 Y y) ∧ Below W.heap.size W (((v.setCell ⟨g, 0, none⟩ (.bool n)).setCell ⟨g, 1, none⟩ (.slice X x.length c)).setCell ⟨g, 2, none⟩ (.slice Y y.length e)) :=
  ⟨k.trip _ _ _, ⟨r.trip k _ _ _, q.trip k _ _ _⟩, ((K.setCell (p := ⟨g, 0, none⟩) hg _).setCell (p := ⟨g, 1, none⟩) hg _).setCell (p := ⟨g, 2, none⟩) hg _⟩

set_option maxRecDepth 100000 in
set_option maxHeartbeats 51200000 in
/-- twice the area of three spots -/
theorem ref5_Area {S1 S2 S3 S4 S5 S6 V0 V1 V2 V3 V4 V5 V6 V7 : Shape} (x0 : Fn2 45 S4 S6 V0) (x1 : Fn2 44 S1 V0 V1) (x2 : Fn2 45 S6 S2 V2) (x3 : Fn2 44 S3 V2 V3) (x4 : Fn2 43 V1 V3 V4) (x5 : Fn2 45 S2 S4 V5) (x6 : Fn2 44 S5 V5 V6) (x7 : Fn2 43 V4 V6 V7) (n1 n2 n3 n4 n5 n6 : Bool) (a1 d1 a2 d2 a3 d3 a4 d4 a5 d5 a6 d6 : List Nat) (A1 D1 A2 D2 A3 D3 A4 D4 A5 D5 A6 D6 : Option Addr) (c1 e1 c2 e2 c3 e3 c4 e4 c5 e5 c6 e6 : Nat) (w : World) (s1 : S1 n1 a1 c1 d1 e1) (s2 : S2 n2 a2 c2 d2 e2) (s3 : S3 n3 a3 c3 d3 e3) (s4 : S4 n4 a4 c4 d4 e4) (s5 : S5 n5 a5 c5 d5 e5) (s6 : S6 n6 a6 c6 d6 e6) (r1 : Rd w (fun g => g < w.heap.size) .u32 A1 a1) (q1 : Rd w (fun g => g < w.heap.size) .u32 D1 d1) (r2 : Rd w (fun g => g < w.heap.size) .u32 A2 a2) (q2 : Rd w (fun g => g < w.heap.size) .u32 D2 d2) (r3 : Rd w (fun g => g < w.heap.size) .u32 A3 a3) (q3 : Rd w (fun g => g < w.heap.size) .u32 D3 d3) (r4 : Rd w (fun g => g < w.heap.size) .u32 A4 a4) (q4 : Rd w (fun g => g < w.heap.size) .u32 D4 d4) (r5 : Rd w (fun g => g < w.heap.size) .u32 A5 a5) (q5 : Rd w (fun g => g < w.heap.size) .u32 D5 d5) (r6 : Rd w (fun g => g < w.heap.size) .u32 A6 a6) (q6 : Rd w (fun g => g < w.heap.size) .u32 D6 d6) :
    Calls Tryz.prog 31 #[.agg #[.bool n1, .slice A1 a1.length c1, .slice D1 d1.length e1, .bool n2, .slice A2 a2.length c2, .slice D2 d2.length e2], .agg #[.bool n3, .slice A3 a3.length c3, .slice D3 d3.length e3, .bool n4, .slice A4 a4.length c4, .slice D4 d4.length e4], .agg #[.bool n5, .slice A5 a5.length c5, .slice D5 d5.length e5, .bool n6, .slice A6 a6.length c6, .slice D6 d6.length e6]] w (Gv V7 w) := by
  obtain ⟨W, hW, k1, k2, k3, kr, b0, s0⟩ := bxd w 28 28 28 26 [.bool n1, .slice A1 a1.length c1, .slice D1 d1.length e1, .bool n2, .slice A2 a2.length c2, .slice D2 d2.length e2] [.bool n3, .slice A3 a3.length c3, .slice D3 d3.length e3, .bool n4, .slice A4 a4.length c4, .slice D4 d4.length e4] [.bool n5, .slice A5 a5.length c5, .slice D5 d5.length e5, .bool n6, .slice A6 a6.length c6, .slice D6 d6.length e6] [.bool false, .slice none 0 0, .slice none 0 0]
  obtain ⟨⟨p00, p01, p02, p03, p04, p05⟩, -⟩ := k1.facts6
  obtain ⟨⟨p10, p11, p12, p13, p14, p15⟩, -⟩ := k2.facts6
  obtain ⟨⟨p20, p21, p22, p23, p24, p25⟩, -⟩ := k3.facts6
  have C0 := Lib.hid (fun (V : World) (hV : Below W.heap.size W V) => x0 n4 n6 a4 d4 a6 d6 A4 D4 A6 D6 c4 e4 c6 e6 V s4 s6 ((r4.on b0).on hV) ((q4.on b0).on hV) ((r6.on b0).on hV) ((q6.on b0).on hV))
  have C1 := Lib.hid (fun (V : World) (hV : Below W.heap.size W V) (n50 : Bool) (a50 d50 : List Nat) (A50 D50 : Option Addr) (c50 e50 : Nat) (s50 : V0 n50 a50 c50 d50 e50) (r50 : Rd V (fun g => g < V.heap.size) .u32 A50 a50) (q50 : Rd V (fun g => g < V.heap.size) .u32 D50 d50) => x1 n1 n50 a1 d1 a50 d50 A1 D1 A50 D50 c1 e1 c50 e50 V s1 s50 ((r1.on b0).on hV) ((q1.on b0).on hV) r50 q50)
  have C2 := Lib.hid (fun (V : World) (hV : Below W.heap.size W V) => x2 n6 n2 a6 d6 a2 d2 A6 D6 A2 D2 c6 e6 c2 e2 V s6 s2 ((r6.on b0).on hV) ((q6.on b0).on hV) ((r2.on b0).on hV) ((q2.on b0).on hV))
  have C3 := Lib.hid (fun (V : World) (hV : Below W.heap.size W V) (n52 : Bool) (a52 d52 : List Nat) (A52 D52 : Option Addr) (c52 e52 : Nat) (s52 : V2 n52 a52 c52 d52 e52) (r52 : Rd V (fun g => g < V.heap.size) .u32 A52 a52) (q52 : Rd V (fun g => g < V.heap.size) .u32 D52 d52) => x3 n3 n52 a3 d3 a52 d52 A3 D3 A52 D52 c3 e3 c52 e52 V s3 s52 ((r3.on b0).on hV) ((q3.on b0).on hV) r52 q52)
  have C4 := Lib.hid (fun (V : World) (hV : Below W.heap.size W V) (n51 n53 : Bool) (a51 d51 a53 d53 : List Nat) (A51 D51 A53 D53 : Option Addr) (c51 e51 c53 e53 : Nat) (s51 : V1 n51 a51 c51 d51 e51) (s53 : V3 n53 a53 c53 d53 e53) (r51 : Rd V (fun g => g < V.heap.size) .u32 A51 a51) (q51 : Rd V (fun g => g < V.heap.size) .u32 D51 d51) (r53 : Rd V (fun g => g < V.heap.size) .u32 A53 a53) (q53 : Rd V (fun g => g < V.heap.size) .u32 D53 d53) => x4 n51 n53 a51 d51 a53 d53 A51 D51 A53 D53 c51 e51 c53 e53 V s51 s53 r51 q51 r53 q53)
  have X5 := Lib.hid x5
  have X6 := Lib.hid x6
  have X7 := Lib.hid x7
  have H1 := Lib.hid k1
  have H2 := Lib.hid k2
  have H3 := Lib.hid k3
  have HKR := Lib.hid kr
  have HB0 := Lib.hid b0
  have HS := Lib.hid (And.intro (And.intro s1 s2) (And.intro (And.intro s3 s4) (And.intro s5 s6)))
  have HR := Lib.hid (And.intro (And.intro (And.intro r1 q1) (And.intro r2 q2)) (And.intro (And.intro (And.intro r3 q3) (And.intro r4 q4)) (And.intro (And.intro r5 q5) (And.intro r6 q6))))
  have K0 : Below W.heap.size W W.drew := below_drewN (Below.refl _ _) 1
  have KO : Below W.heap.size W (W.alloc (.cells #[.bool false, .slice none 0 0, .slice none 0 0] 26)).drew := below_drewN (keep_one (Below.refl W.heap.size W) _) 1
  have hlt : w.heap.size + 3 < W.heap.size := by omega
  clear k1 k2 k3 kr b0 s0 x0 x1 x2 x3 x4 x5 x6 x7 s1 r1 q1 s2 r2 q2 s3 r3 q3 s4 r4 q4 s5 r5 q5 s6 r6 q6
  go_enter Tryz.func31, Tryz.ntmps31
  go_wp2_with fail
  try rw [hW]
  clear hW
  go_cut [7] from 8 (fun v7 wc => ∃ g n54 a54 A54 c54 d54 D54 e54, v7 = .pointer (some ⟨g, 0, none⟩) ∧ (V4 n54 a54 c54 d54 e54 ∧ W.heap.size ≤ g) ∧ Blk wc g 26 [.bool n54, .slice A54 a54.length c54, .slice D54 d54.length e54] ∧ (Rd wc (fun g => g < wc.heap.size) .u32 A54 a54 ∧ Rd wc (fun g => g < wc.heap.size) .u32 D54 d54) ∧ Below W.heap.size W wc)
  case first =>
    go_region_held3 (fun w' => (w'.cell? ⟨w.heap.size, 0, none⟩ = some (.bool n1) ∧ w'.cell? ⟨w.heap.size, 1, none⟩ = some (.slice A1 a1.length c1) ∧ w'.cell? ⟨w.heap.size, 2, none⟩ = some (.slice D1 d1.length e1) ∧ w'.cell? ⟨w.heap.size, 3, none⟩ = some (.bool n2) ∧ w'.cell? ⟨w.heap.size, 4, none⟩ = some (.slice A2 a2.length c2) ∧ w'.cell? ⟨w.heap.size, 5, none⟩ = some (.slice D2 d2.length e2)) ∧ (w'.cell? ⟨w.heap.size + 1, 0, none⟩ = some (.bool n3) ∧ w'.cell? ⟨w.heap.size + 1, 1, none⟩ = some (.slice A3 a3.length c3) ∧ w'.cell? ⟨w.heap.size + 1, 2, none⟩ = some (.slice D3 d3.length e3) ∧ w'.cell? ⟨w.heap.size + 1, 3, none⟩ = some (.bool n4) ∧ w'.cell? ⟨w.heap.size + 1, 4, none⟩ = some (.slice A4 a4.length c4) ∧ w'.cell? ⟨w.heap.size + 1, 5, none⟩ = some (.slice D4 d4.length e4)) ∧ (w'.cell? ⟨w.heap.size + 1 + 1, 0, none⟩ = some (.bool n5) ∧ w'.cell? ⟨w.heap.size + 1 + 1, 1, none⟩ = some (.slice A5 a5.length c5) ∧ w'.cell? ⟨w.heap.size + 1 + 1, 2, none⟩ = some (.slice D5 d5.length e5) ∧ w'.cell? ⟨w.heap.size + 1 + 1, 3, none⟩ = some (.bool n6) ∧ w'.cell? ⟨w.heap.size + 1 + 1, 4, none⟩ = some (.slice A6 a6.length c6) ∧ w'.cell? ⟨w.heap.size + 1 + 1, 5, none⟩ = some (.slice D6 d6.length e6)))
      (first | (refine ⟨kept6 H1.out ?_, kept6 H2.out ?_, kept6 H3.out ?_⟩ <;> first | (with_reducible exact K5) | (with_reducible exact K4) | (with_reducible exact K3) | (with_reducible exact K2) | (with_reducible exact K1) | (with_reducible exact K0) | (with_reducible exact KO) | ((repeat (first | (with_reducible refine Below.setCell ?_ (by dsimp only; omega) _) | (with_reducible refine Below.alloc ?_ (by first | omega | exact Nat.le_refl _ | (have := K5.size; omega) | (have := K4.size; omega) | (have := K3.size; omega) | (have := K2.size; omega) | (have := K1.size; omega) | (simp; omega) | (have := K5.size; simp [World.setCell]; omega)) _))); first | (with_reducible exact K5) | (with_reducible exact K4) | (with_reducible exact K3) | (with_reducible exact K2) | (with_reducible exact K1) | (with_reducible exact K0))) | go_keep)
      ((first
        | (go_at_call_of 45 (Value.slice A4 a4.length c4); (first | (with_reducible refine Calls.mono (C0.out _ K0) ?_) | (with_reducible refine Calls.mono (C0.out _ KO) ?_)); rintro e w1 ⟨n50, a50, A50, c50, d50, D50, e50, rfl, s50, r50, q50, b1⟩; (first | (guard_hyp b1 : Below W.drew.heap.size W.drew w1; have K1 := below_next K0 (Nat.le_refl _) b1) | (obtain ⟨kX, sz⟩ := got13d b1; have kX1 := kX.lt; obtain ⟨o0, o1, o2, o3, o4, o5⟩ := kX.facts; have K1 := below_next KO (Nat.le_refl _) b1)); have z1 : W.heap.size ≤ w1.heap.size := K1.size)
        | (go_at_call_of 44 (Value.slice A1 a1.length c1); (first | (with_reducible refine Calls.mono (C1.out _ K1 n50 a50 d50 A50 D50 c50 e50 s50 r50 q50 ) ?_) | (with_reducible refine Calls.mono (C1.out _ (keep_one K1 _) n50 a50 d50 A50 D50 c50 e50 s50 (r50.on (below_new _ _)) (q50.on (below_new _ _)) ) ?_)); rintro e w2 ⟨n51, a51, A51, c51, d51, D51, e51, rfl, s51, r51, q51, b2⟩; (first | (guard_hyp b2 : Below w1.heap.size w1 w2; have dd2 : Below w1.heap.size w1 w2 := b2; have K2 := below_next K1 (Nat.le_refl _) b2; (try (have kX := kX.on dd2; have kX1 := kX.lt; obtain ⟨o0, o1, o2, o3, o4, o5⟩ := kX.facts))) | (obtain ⟨kX, sz⟩ := got13 b2; have kX1 := kX.lt; obtain ⟨o0, o1, o2, o3, o4, o5⟩ := kX.facts; have dd2 : Below w1.heap.size w1 w2 := (below_new w1 _).trans (b2.mono (by simp)); have K2 := below_next (keep_one K1 _) (Nat.le_refl _) b2)); have z2 : w1.heap.size ≤ w2.heap.size := dd2.size)
        | (go_at_call_of 45 (Value.slice A2 a2.length c2); (first | (with_reducible refine Calls.mono (C2.out _ K2) ?_) | (with_reducible refine Calls.mono (C2.out _ (keep_one K2 _)) ?_)); rintro e w3 ⟨n52, a52, A52, c52, d52, D52, e52, rfl, s52, r52, q52, b3⟩; (first | (guard_hyp b3 : Below w2.heap.size w2 w3; have dd3 : Below w2.heap.size w2 w3 := b3; have K3 := below_next K2 (Nat.le_refl _) b3; (try (have kX := kX.on dd3; have kX1 := kX.lt; obtain ⟨o0, o1, o2, o3, o4, o5⟩ := kX.facts))) | (obtain ⟨kX, sz⟩ := got13 b3; have kX1 := kX.lt; obtain ⟨o0, o1, o2, o3, o4, o5⟩ := kX.facts; have dd3 : Below w2.heap.size w2 w3 := (below_new w2 _).trans (b3.mono (by simp)); have K3 := below_next (keep_one K2 _) (Nat.le_refl _) b3)); have z3 : w2.heap.size ≤ w3.heap.size := dd3.size; have r51 := r51.on dd3; have q51 := q51.on dd3)
        | (go_at_call_of 44 (Value.slice A3 a3.length c3); (first | (with_reducible refine Calls.mono (C3.out _ K3 n52 a52 d52 A52 D52 c52 e52 s52 r52 q52 ) ?_) | (with_reducible refine Calls.mono (C3.out _ (keep_one K3 _) n52 a52 d52 A52 D52 c52 e52 s52 (r52.on (below_new _ _)) (q52.on (below_new _ _)) ) ?_)); rintro e w4 ⟨n53, a53, A53, c53, d53, D53, e53, rfl, s53, r53, q53, b4⟩; (first | (guard_hyp b4 : Below w3.heap.size w3 w4; have dd4 : Below w3.heap.size w3 w4 := b4; have K4 := below_next K3 (Nat.le_refl _) b4; (try (have kX := kX.on dd4; have kX1 := kX.lt; obtain ⟨o0, o1, o2, o3, o4, o5⟩ := kX.facts))) | (obtain ⟨kX, sz⟩ := got13 b4; have kX1 := kX.lt; obtain ⟨o0, o1, o2, o3, o4, o5⟩ := kX.facts; have dd4 : Below w3.heap.size w3 w4 := (below_new w3 _).trans (b4.mono (by simp)); have K4 := below_next (keep_one K3 _) (Nat.le_refl _) b4)); have z4 : w3.heap.size ≤ w4.heap.size := dd4.size; have r51 := r51.on dd4; have q51 := q51.on dd4)
        | (go_at_call 43; (first | (with_reducible refine Calls.mono (C4.out _ K4 n51 n53 a51 d51 a53 d53 A51 D51 A53 D53 c51 e51 c53 e53 s51 s53 r51 q51 r53 q53 ) ?_) | (with_reducible refine Calls.mono (C4.out _ (keep_one K4 _) n51 n53 a51 d51 a53 d53 A51 D51 A53 D53 c51 e51 c53 e53 s51 s53 (r51.on (below_new _ _)) (q51.on (below_new _ _)) (r53.on (below_new _ _)) (q53.on (below_new _ _)) ) ?_)); rintro e w5 ⟨n54, a54, A54, c54, d54, D54, e54, rfl, s54, r54, q54, b5⟩; (first | (guard_hyp b5 : Below w4.heap.size w4 w5; have dd5 : Below w4.heap.size w4 w5 := b5; have K5 := below_next K4 (Nat.le_refl _) b5; (try (have kX := kX.on dd5; have kX1 := kX.lt; obtain ⟨o0, o1, o2, o3, o4, o5⟩ := kX.facts))) | (obtain ⟨kX, sz⟩ := got13 b5; have kX1 := kX.lt; obtain ⟨o0, o1, o2, o3, o4, o5⟩ := kX.facts; have dd5 : Below w4.heap.size w4 w5 := (below_new w4 _).trans (b5.mono (by simp)); have K5 := below_next (keep_one K4 _) (Nat.le_refl _) b5)); have z5 : w4.heap.size ≤ w5.heap.size := dd5.size)))
    all_goals
      have hsz : W.heap.size ≤ w5.heap.size := K5.size
      go_wp2_with fail
      go_meet
      refine ⟨_, n54, a54, A54, c54, d54, D54, e54, rfl, ⟨s54, by first | omega | exact K5.size⟩, ?_⟩
      first
        | (with_reducible exact oneF K5 _ _ _ r54 q54)
        | (with_reducible exact oneG kX (by omega) K5 _ _ _ r54 q54)
  case rest =>
    obtain ⟨g7, n54, a54, A54, c54, d54, D54, e54, rfl, ⟨s54, hge⟩, k7, ⟨r54, q54⟩, B7⟩ := hcut
    obtain ⟨wd, hwd⟩ : ∃ x, x = wc := ⟨_, rfl⟩
    subst hwd
    obtain ⟨⟨s1, s2⟩, ⟨s3, s4⟩, ⟨s5, s6⟩⟩ := HS.out
    obtain ⟨⟨⟨r1, q1⟩, ⟨r2, q2⟩⟩, ⟨⟨r3, q3⟩, ⟨r4, q4⟩⟩, ⟨⟨r5, q5⟩, ⟨r6, q6⟩⟩⟩ := HR.out
    have x5 := X5.out
    have x6 := X6.out
    have x7 := X7.out
    have C5 := Lib.hid (fun (V : World) (hV : Below wd.heap.size wd V) => x5 n2 n4 a2 d2 a4 d4 A2 D2 A4 D4 c2 e2 c4 e4 V s2 s4 ((r2.on (HB0.out.trans (B7.mono HB0.out.size))).on hV) ((q2.on (HB0.out.trans (B7.mono HB0.out.size))).on hV) ((r4.on (HB0.out.trans (B7.mono HB0.out.size))).on hV) ((q4.on (HB0.out.trans (B7.mono HB0.out.size))).on hV))
    have C6 := Lib.hid (fun (V : World) (hV : Below wd.heap.size wd V) (n55 : Bool) (a55 d55 : List Nat) (A55 D55 : Option Addr) (c55 e55 : Nat) (s55 : V5 n55 a55 c55 d55 e55) (r55 : Rd V (fun g => g < V.heap.size) .u32 A55 a55) (q55 : Rd V (fun g => g < V.heap.size) .u32 D55 d55) => x6 n5 n55 a5 d5 a55 d55 A5 D5 A55 D55 c5 e5 c55 e55 V s5 s55 ((r5.on (HB0.out.trans (B7.mono HB0.out.size))).on hV) ((q5.on (HB0.out.trans (B7.mono HB0.out.size))).on hV) r55 q55)
    have C7 := Lib.hid (fun (V : World) (hV : Below wd.heap.size wd V) (n56 : Bool) (a56 d56 : List Nat) (A56 D56 : Option Addr) (c56 e56 : Nat) (s56 : V6 n56 a56 c56 d56 e56) (r56 : Rd V (fun g => g < V.heap.size) .u32 A56 a56) (q56 : Rd V (fun g => g < V.heap.size) .u32 D56 d56) => x7 n54 n56 a54 d54 a56 d56 A54 D54 A56 D56 c54 e54 c56 e56 V s54 s56 (r54.on hV) (q54.on hV) r56 q56)
    have H1 := Lib.hid (H1.out.on B7)
    have H2 := Lib.hid (H2.out.on B7)
    have H3 := Lib.hid (H3.out.on B7)
    have H7 := Lib.hid k7
    have HKR := Lib.hid (HKR.out.on B7)
    have HB7 := Lib.hid (HB0.out.trans (B7.mono HB0.out.size))
    have hl1 : w.heap.size + 1 + 1 + 1 < wd.heap.size := HKR.out.lt
    have hg7 : w.heap.size + 1 + 1 + 1 < g7 := by omega
    obtain ⟨x00, x01, x02, x03, x04, x05⟩ := H1.out.facts6.1
    obtain ⟨x10, x11, x12, x13, x14, x15⟩ := H2.out.facts6.1
    obtain ⟨x20, x21, x22, x23, x24, x25⟩ := H3.out.facts6.1
    obtain ⟨y0, y1, y2, -, -, -⟩ := k7.facts
    have K0 : Below wd.heap.size wd wd.drew := below_drewN (Below.refl _ _) 1
    clear k7 B7 x5 x6 x7 X5 X6 X7 C0 C1 C2 C3 C4 s54 r54 q54 HB0 s1 r1 q1 s2 r2 q2 s3 r3 q3 s4 r4 q4 s5 r5 q5 s6 r6 q6
    go_wp2_with fail
    go_region_held3 (fun w' => (w'.cell? ⟨w.heap.size, 0, none⟩ = some (.bool n1) ∧ w'.cell? ⟨w.heap.size, 1, none⟩ = some (.slice A1 a1.length c1) ∧ w'.cell? ⟨w.heap.size, 2, none⟩ = some (.slice D1 d1.length e1) ∧ w'.cell? ⟨w.heap.size, 3, none⟩ = some (.bool n2) ∧ w'.cell? ⟨w.heap.size, 4, none⟩ = some (.slice A2 a2.length c2) ∧ w'.cell? ⟨w.heap.size, 5, none⟩ = some (.slice D2 d2.length e2)) ∧ (w'.cell? ⟨w.heap.size + 1, 0, none⟩ = some (.bool n3) ∧ w'.cell? ⟨w.heap.size + 1, 1, none⟩ = some (.slice A3 a3.length c3) ∧ w'.cell? ⟨w.heap.size + 1, 2, none⟩ = some (.slice D3 d3.length e3) ∧ w'.cell? ⟨w.heap.size + 1, 3, none⟩ = some (.bool n4) ∧ w'.cell? ⟨w.heap.size + 1, 4, none⟩ = some (.slice A4 a4.length c4) ∧ w'.cell? ⟨w.heap.size + 1, 5, none⟩ = some (.slice D4 d4.length e4)) ∧ (w'.cell? ⟨w.heap.size + 1 + 1, 0, none⟩ = some (.bool n5) ∧ w'.cell? ⟨w.heap.size + 1 + 1, 1, none⟩ = some (.slice A5 a5.length c5) ∧ w'.cell? ⟨w.heap.size + 1 + 1, 2, none⟩ = some (.slice D5 d5.length e5) ∧ w'.cell? ⟨w.heap.size + 1 + 1, 3, none⟩ = some (.bool n6) ∧ w'.cell? ⟨w.heap.size + 1 + 1, 4, none⟩ = some (.slice A6 a6.length c6) ∧ w'.cell? ⟨w.heap.size + 1 + 1, 5, none⟩ = some (.slice D6 d6.length e6)) ∧ (w'.cell? ⟨g7, 0, none⟩ = some (.bool n54) ∧ w'.cell? ⟨g7, 1, none⟩ = some (.slice A54 a54.length c54) ∧ w'.cell? ⟨g7, 2, none⟩ = some (.slice D54 d54.length e54)))
      (first | (with_reducible exact ⟨kept6 H1.out K0, kept6 H2.out K0, kept6 H3.out K0, keep3 H7.out K0⟩) | (with_reducible exact ⟨kept6 H1.out K1, kept6 H2.out K1, kept6 H3.out K1, keep3 H7.out K1⟩) | (with_reducible exact ⟨kept6 H1.out K2, kept6 H2.out K2, kept6 H3.out K2, keep3 H7.out K2⟩) | (with_reducible exact ⟨kept6 H1.out K3, kept6 H2.out K3, kept6 H3.out K3, keep3 H7.out K3⟩) | (with_reducible exact ⟨far63 (H1.out.on K3) (by omega) _ _ _, far63 (H2.out.on K3) (by omega) _ _ _, far63 (H3.out.on K3) (by omega) _ _ _, far33 (H7.out.on K3) (by omega) _ _ _⟩) | go_keep)
      ((first
        | (go_at_call_of 45 (Value.slice A4 a4.length c4); (with_reducible refine Calls.mono (C5.out _ K0) ?_); rintro e w1 ⟨n55, a55, A55, c55, d55, D55, e55, rfl, s55, r55, q55, b1⟩; have K1 := below_next K0 (Nat.le_refl _) b1)
        | (go_at_call_of 44 (Value.slice A5 a5.length c5); (with_reducible refine Calls.mono (C6.out _ K1 n55 a55 d55 A55 D55 c55 e55 s55 r55 q55 ) ?_); rintro e w2 ⟨n56, a56, A56, c56, d56, D56, e56, rfl, s56, r56, q56, b2⟩; have K2 := below_next K1 (Nat.le_refl _) b2)
        | (go_at_call 43; (with_reducible refine Calls.mono (C7.out _ K2 n56 a56 d56 A56 D56 c56 e56 s56 r56 q56 ) ?_); rintro e w3 ⟨n57, a57, A57, c57, d57, D57, e57, rfl, s57, r57, q57, b3⟩; have K3 := below_next K2 (Nat.le_refl _) b3; obtain ⟨i0, i1, i2, j0, j1, j2⟩ := (HKR.out.on K3).facts)))
    obtain ⟨U, hU, u0, u1, u2, hG⟩ := fin_any (w := w) (HKR.out.on K3) (by omega) (HB7.out.trans (K3.mono HB7.out.size)) s57 r57 q57
    have HU := Lib.hid hU
    have HF := Lib.hid (And.intro u0 (And.intro u1 u2))
    have HG := Lib.hid hG
    clear hU u0 u1 u2 hG i0 i1 i2 j0 j1 j2 C5 C6 C7 s55 s56 s57 r55 r56 r57 q55 q56 q57
    go_wp2_with fail
    rw [HU.out]
    obtain ⟨u0, u1, u2⟩ := HF.out
    exact bodyPost_ret (by simp [results, Tryz.results31, go_sem, u0, u1, u2]) rfl HG.out
end Go.Proofs.YtkgedgaddpojkaaGreatDoor
