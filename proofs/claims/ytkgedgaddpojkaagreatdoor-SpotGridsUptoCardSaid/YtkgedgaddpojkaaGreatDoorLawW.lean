/- The law SpotGrids: on which side of any way of the grid any point and any spot are: the program answers as the document does. -/
import Derived.Test.YtkgedgaddpojkaaGreatDoorSpG
import Derived.Test.YtkgedgaddpojkaaGreatDoorSpW
import Derived.Test.YtkgedgaddpojkaaGreatDoorSpX
import Derived.Test.YtkgedgaddpojkaaGreatDoorSpR
import Derived.Test.YtkgedgaddpojkaaGreatDoorLawV
import Derived.Deep.RegionHeld3
namespace Go.Proofs.YtkgedgaddpojkaaGreatDoor
open Go.RowKit Num

theorem int_G {x : Int} (hx : In x) {n : Bool} {a d : List Nat} {ca cd : Nat} (k : SF x 1 n a ca d cd) : SG x 1 2 n a ca d cd := k.toG (int_small hx.1 hx.2) (by decide)
theorem ref5_AtG (x y : Int) (hx : In x) (hy : In y) (w : World) : Calls Tryz.prog 12 #[.agg #[.int .i64 x, .int .i64 y]] w (Gs (SG x 1 2) (SG y 1 2) w) :=
  (ref5_At (SF x 1) (SF y 1) x y (fun V => (ref4_Int x hx.1 hx.2 V).mono fun _ _ => gv_of_f) (fun V => (ref4_Int y hy.1 hy.2 V).mono fun _ _ => gv_of_f) w).mono fun _ _ => Gs.imp (fun _ _ _ _ _ => int_G hx) (fun _ _ _ _ _ => int_G hy)
theorem spot_AtG (x y : Int) (hx : In x) (hy : In y) (w : World) : Calls Tryz.prog 16 #[.agg #[.int .i64 x, .int .i64 y]] w (Gs (SG x 1 2) (SG y 1 2) w) :=
  (spot_At (SF x 1) (SF y 1) x y (fun V => frac_Int x hx.1 hx.2 V) (fun V => frac_Int y hy.1 hy.2 V) w).mono fun _ _ => Gs.imp (fun _ _ _ _ _ => int_G hx) (fun _ _ _ _ _ => int_G hy)
theorem SG.wideV {P : Int} {m m' : Nat} (hm : m ≤ m') {n : Bool} {a d : List Nat} {ca cd : Nat} (k : SG P 1 m n a ca d cd) : SV P 1 m' n a ca d cd := (k.toV (by omega)).wide hm

set_option maxRecDepth 100000 in
set_option maxHeartbeats 51200000 in
theorem walk_SpotGrids (x1 y1 x2 y2 x3 y3 : Int) (n5 n6 : Bool) (a5 d5 a6 d6 : List Nat) (A5 D5 A6 D6 : Option Addr) (c5 e5 c6 e6 : Nat) (w : World) (i1 : In x1) (j1 : In y1) (i2 : In x2) (j2 : In y2) (i3 : In x3) (j3 : In y3) (r5 : Rd w (fun g => g < w.heap.size) .u32 A5 a5) (q5 : Rd w (fun g => g < w.heap.size) .u32 D5 d5) (r6 : Rd w (fun g => g < w.heap.size) .u32 A6 a6) (q6 : Rd w (fun g => g < w.heap.size) .u32 D6 d6) (hl : (a5.length + d5.length) + (a6.length + d6.length) ≤ 1048559) (hc5 : a5.length ≤ c5) (he5 : d5.length ≤ e5) (ga5 : Dg 4294967296 a5) (gd5 : Dg 4294967296 d5) (hc6 : a6.length ≤ c6) (he6 : d6.length ≤ e6) (ga6 : Dg 4294967296 a6) (gd6 : Dg 4294967296 d6) (htab : Tab w) :
    Calls Tryz.prog 4 #[.agg #[.int .i64 x1, .int .i64 y1, .int .i64 x2, .int .i64 y2, .int .i64 x3, .int .i64 y3], .agg #[.bool n5, .slice A5 a5.length c5, .slice D5 d5.length e5, .bool n6, .slice A6 a6.length c6, .slice D6 d6.length e6]] w fun e w' => e = .returned (.bool true) ∧ Below w.heap.size w w' := by
  have h5 := loD_pos d5
  have p5 : (upN n5 a5 d5).natAbs < 4294967296 ^ (a5.length + d5.length) := Nat.lt_of_lt_of_le (up_lt ga5) (Nat.pow_le_pow_right (by omega) (by omega))
  have y5 : loD d5 ≤ 4294967296 ^ (a5.length + d5.length) := Nat.le_trans (loD_le gd5) (Nat.pow_le_pow_right (by omega) (by omega))
  obtain ⟨P5, hP5⟩ : ∃ P, upN n5 a5 d5 = P := ⟨_, rfl⟩
  obtain ⟨Q5, hQ5⟩ : ∃ Q, loD d5 = Q := ⟨_, rfl⟩
  rw [hQ5] at h5 y5
  rw [hP5] at p5
  have h6 := loD_pos d6
  have p6 : (upN n6 a6 d6).natAbs < 4294967296 ^ (a6.length + d6.length) := Nat.lt_of_lt_of_le (up_lt ga6) (Nat.pow_le_pow_right (by omega) (by omega))
  have y6 : loD d6 ≤ 4294967296 ^ (a6.length + d6.length) := Nat.le_trans (loD_le gd6) (Nat.pow_le_pow_right (by omega) (by omega))
  obtain ⟨P6, hP6⟩ : ∃ P, upN n6 a6 d6 = P := ⟨_, rfl⟩
  obtain ⟨Q6, hQ6⟩ : ∃ Q, loD d6 = Q := ⟨_, rfl⟩
  rw [hQ6] at h6 y6
  rw [hP6] at p6
  obtain ⟨u5, hu5⟩ : ∃ u, a5.length + d5.length = u := ⟨_, rfl⟩
  rw [hu5] at p5 y5
  obtain ⟨u6, hu6⟩ : ∃ u, a6.length + d6.length = u := ⟨_, rfl⟩
  rw [hu6] at p6 y6
  have s5 : SI P5 Q5 (u5 + 1) n5 a5 c5 d5 e5 := ⟨hc5, he5, ga5, gd5, by omega, by omega, hP5, hQ5⟩
  have s6 : SI P6 Q6 (u6 + 1) n6 a6 c6 d6 e6 := ⟨hc6, he6, ga6, gd6, by omega, by omega, hP6, hQ6⟩
  obtain ⟨W, hW, k100, k101, b0, s0⟩ := bxb w 34 28 [.int .i64 x1, .int .i64 y1, .int .i64 x2, .int .i64 y2, .int .i64 x3, .int .i64 y3] [.bool n5, .slice A5 a5.length c5, .slice D5 d5.length e5, .bool n6, .slice A6 a6.length c6, .slice D6 d6.length e6]
  obtain ⟨⟨p00, p01, p02, p03, p04, p05⟩, -⟩ := k100.facts6
  obtain ⟨⟨p10, p11, p12, p13, p14, p15⟩, -⟩ := k101.facts6
  obtain ⟨z1, hz1⟩ : ∃ z, sgn (det x1 y1 x2 y2 x3 y3 1 1 1 1 1 1) = z := ⟨_, rfl⟩
  obtain ⟨z2, hz2⟩ : ∃ z, sgn (det x1 y1 x2 y2 P5 P6 1 1 1 1 Q5 Q6) = z := ⟨_, rfl⟩
  have e1 : (1 : Nat) ≤ 4294967296 ^ 2 := by decide
  have t0 := fun (V : World) => ref5_AtG x1 y1 i1 j1 V
  have t1 := fun (V : World) => ref5_AtG x2 y2 i2 j2 V
  have t2 := fun (V : World) => ref5_AtG x3 y3 i3 j3 V
  have t3 := fun (V : World) => spot_Turns x1 y1 x2 y2 x3 y3 z1 hz1 V i1 j1 i2 j2 i3 j3
  have t4 := rv_Turn (u1 := 2) (u2 := 2) (u3 := 2) (u4 := 2) (u5 := 2) (u6 := 2) (by omega) (int_small i1.1 i1.2) (int_small j1.1 j1.2) (int_small i2.1 i2.2) (int_small j2.1 j2.2) (int_small i3.1 i3.2) (int_small j3.1 j3.2) e1 e1 e1 e1 e1 e1 (by omega) (by omega) (by omega) (by omega) (by omega) (by omega)
  have t5 := fun (V : World) (hV : Below W.heap.size W V) => spot_Side x1 y1 x2 y2 z2 (m5 := u5 + 1) (m6 := u6 + 1) (by omega) (by omega) (by omega) hz2 n5 n6 a5 d5 a6 d6 A5 D5 A6 D6 c5 e5 c6 e6 V i1 j1 i2 j2 s5 s6 ((r5.on b0).on hV) ((q5.on b0).on hV) ((r6.on b0).on hV) ((q6.on b0).on hV)
  have t6' := rv_Turn (u1 := 2) (u2 := 2) (u3 := 2) (u4 := 2) (u5 := u5) (u6 := u6) (by omega) (int_small i1.1 i1.2) (int_small j1.1 j1.2) (int_small i2.1 i2.2) (int_small j2.1 j2.2) p5 p6 e1 e1 e1 e1 y5 y6 (by omega) (by omega) (by omega) (by omega) h5 h6
  have s5' : SV P5 Q5 2097150 n5 a5 c5 d5 e5 := s5.widen (by omega)
  have s6' : SV P6 Q6 2097150 n6 a6 c6 d6 e6 := s6.widen (by omega)
  simp only [hz1] at t4
  simp only [hz2] at t6'
  have t4 := fun (n51 n52 n53 n54 n55 n56 : Bool) (a51 d51 a52 d52 a53 d53 a54 d54 a55 d55 a56 d56 : List Nat) (A51 D51 A52 D52 A53 D53 A54 D54 A55 D55 A56 D56 : Option Addr) (c51 e51 c52 e52 c53 e53 c54 e54 c55 e55 c56 e56 : Nat) (V : World) (s51 : SG x1 1 2 n51 a51 c51 d51 e51) (s52 : SG y1 1 2 n52 a52 c52 d52 e52) (s53 : SG x2 1 2 n53 a53 c53 d53 e53) (s54 : SG y2 1 2 n54 a54 c54 d54 e54) (s55 : SG x3 1 2 n55 a55 c55 d55 e55) (s56 : SG y3 1 2 n56 a56 c56 d56 e56) (r51 : Rd V (fun g => g < V.heap.size) .u32 A51 a51) (q51 : Rd V (fun g => g < V.heap.size) .u32 D51 d51) (r52 : Rd V (fun g => g < V.heap.size) .u32 A52 a52) (q52 : Rd V (fun g => g < V.heap.size) .u32 D52 d52) (r53 : Rd V (fun g => g < V.heap.size) .u32 A53 a53) (q53 : Rd V (fun g => g < V.heap.size) .u32 D53 d53) (r54 : Rd V (fun g => g < V.heap.size) .u32 A54 a54) (q54 : Rd V (fun g => g < V.heap.size) .u32 D54 d54) (r55 : Rd V (fun g => g < V.heap.size) .u32 A55 a55) (q55 : Rd V (fun g => g < V.heap.size) .u32 D55 d55) (r56 : Rd V (fun g => g < V.heap.size) .u32 A56 a56) (q56 : Rd V (fun g => g < V.heap.size) .u32 D56 d56) => t4 n51 n52 n53 n54 n55 n56 a51 d51 a52 d52 a53 d53 a54 d54 a55 d55 a56 d56 A51 D51 A52 D52 A53 D53 A54 D54 A55 D55 A56 D56 c51 e51 c52 e52 c53 e53 c54 e54 c55 e55 c56 e56 V (s51.wideV (by omega)) (s52.wideV (by omega)) (s53.wideV (by omega)) (s54.wideV (by omega)) (s55.wideV (by omega)) (s56.wideV (by omega)) r51 q51 r52 q52 r53 q53 r54 q54 r55 q55 r56 q56
  have t6 := fun (n51 n52 n53 n54 : Bool) (a51 d51 a52 d52 a53 d53 a54 d54 : List Nat) (A51 D51 A52 D52 A53 D53 A54 D54 : Option Addr) (c51 e51 c52 e52 c53 e53 c54 e54 : Nat) (V : World) (hV : Below W.heap.size W V) (s51 : SG x1 1 2 n51 a51 c51 d51 e51) (s52 : SG y1 1 2 n52 a52 c52 d52 e52) (s53 : SG x2 1 2 n53 a53 c53 d53 e53) (s54 : SG y2 1 2 n54 a54 c54 d54 e54) (r51 : Rd V (fun g => g < V.heap.size) .u32 A51 a51) (q51 : Rd V (fun g => g < V.heap.size) .u32 D51 d51) (r52 : Rd V (fun g => g < V.heap.size) .u32 A52 a52) (q52 : Rd V (fun g => g < V.heap.size) .u32 D52 d52) (r53 : Rd V (fun g => g < V.heap.size) .u32 A53 a53) (q53 : Rd V (fun g => g < V.heap.size) .u32 D53 d53) (r54 : Rd V (fun g => g < V.heap.size) .u32 A54 a54) (q54 : Rd V (fun g => g < V.heap.size) .u32 D54 d54) => t6' n51 n52 n53 n54 n5 n6 a51 d51 a52 d52 a53 d53 a54 d54 a5 d5 a6 d6 A51 D51 A52 D52 A53 D53 A54 D54 A5 D5 A6 D6 c51 e51 c52 e52 c53 e53 c54 e54 c5 e5 c6 e6 V (s51.wideV (by omega)) (s52.wideV (by omega)) (s53.wideV (by omega)) (s54.wideV (by omega)) s5' s6' r51 q51 r52 q52 r53 q53 r54 q54 ((r5.on b0).on hV) ((q5.on b0).on hV) ((r6.on b0).on hV) ((q6.on b0).on hV)
  have t7 := fun (V : World) => spot_AtG x1 y1 i1 j1 V
  have t8 := ref5_Same (rv_Same x1 1 2 (by omega)) (rv_Same y1 1 2 (by omega))
  have t9 := fun (V : World) (hV : Below W.heap.size W V) => law5_lives V ((htab.on b0).on hV)
  have C0 := Lib.hid t0
  have C1 := Lib.hid t1
  have C2 := Lib.hid t2
  have C3 := Lib.hid t3
  have C4 := Lib.hid t4
  have C5 := Lib.hid t5
  have C6 := Lib.hid t6
  have C7 := Lib.hid t7
  have C8 := Lib.hid t8
  have C9 := Lib.hid t9
  have HK0 := Lib.hid k100
  have HK1 := Lib.hid k101
  have HB := Lib.hid b0
  have K0 : Below W.heap.size W W.drew := below_drewN (Below.refl _ _) 1
  have KO : Below W.heap.size W (W.alloc (.cells #[.bool false, .slice none 0 0, .slice none 0 0, .bool false, .slice none 0 0, .slice none 0 0] 28)).drew := below_drewN (keep_one (Below.refl W.heap.size W) _) 1
  have KT : Below W.heap.size W ((W.alloc (.cells #[.bool false, .slice none 0 0, .slice none 0 0, .bool false, .slice none 0 0, .slice none 0 0] 28)).alloc (.cells #[.bool false, .slice none 0 0, .slice none 0 0, .bool false, .slice none 0 0, .slice none 0 0] 28)).drew := below_drewN (keep_two (Below.refl W.heap.size W) _ _) 1
  have hlt : w.heap.size + 1 < W.heap.size := by omega
  clear t0 t1 t2 t3 t4 t5 t6 t7 t8 t9 t6' s5' s6' hz1 hz2 e1 s5 r5 q5 h5 p5 y5 hP5 hQ5 hu5 hc5 he5 ga5 gd5 s6 r6 q6 h6 p6 y6 hP6 hQ6 hu6 hc6 he6 ga6 gd6 hl htab b0 k100 k101 s0 i1 i2 i3 j1 j2 j3
  go_enter Tryz.func4, Tryz.ntmps4
  go_wp2_with fail
  try rw [hW]
  clear hW
  go_cut [5, 6] from 7 (fun v5 v6 wc => ∃ g5 g6 n51 a51 A51 c51 d51 D51 e51 n52 a52 A52 c52 d52 D52 e52 n53 a53 A53 c53 d53 D53 e53 n54 a54 A54 c54 d54 D54 e54, (v5 = .pointer (some ⟨g5, 0, none⟩) ∧ v6 = .pointer (some ⟨g6, 0, none⟩)) ∧ ((SG x1 1 2 n51 a51 c51 d51 e51 ∧ SG y1 1 2 n52 a52 c52 d52 e52) ∧ (SG x2 1 2 n53 a53 c53 d53 e53 ∧ SG y2 1 2 n54 a54 c54 d54 e54)) ∧ (Blk wc g5 28 [.bool n51, .slice A51 a51.length c51, .slice D51 d51.length e51, .bool n52, .slice A52 a52.length c52, .slice D52 d52.length e52] ∧ Blk wc g6 28 [.bool n53, .slice A53 a53.length c53, .slice D53 d53.length e53, .bool n54, .slice A54 a54.length c54, .slice D54 d54.length e54]) ∧ ((Rd wc (fun b => b < wc.heap.size) .u32 A51 a51 ∧ Rd wc (fun b => b < wc.heap.size) .u32 D51 d51) ∧ (Rd wc (fun b => b < wc.heap.size) .u32 A52 a52 ∧ Rd wc (fun b => b < wc.heap.size) .u32 D52 d52) ∧ (Rd wc (fun b => b < wc.heap.size) .u32 A53 a53 ∧ Rd wc (fun b => b < wc.heap.size) .u32 D53 d53) ∧ (Rd wc (fun b => b < wc.heap.size) .u32 A54 a54 ∧ Rd wc (fun b => b < wc.heap.size) .u32 D54 d54)) ∧ Below W.heap.size W wc)
  case first =>
    go_region_held3 (fun w' => w'.cell? ⟨w.heap.size, 0, none⟩ = some (.int .i64 x1) ∧ w'.cell? ⟨w.heap.size, 1, none⟩ = some (.int .i64 y1) ∧ w'.cell? ⟨w.heap.size, 2, none⟩ = some (.int .i64 x2) ∧ w'.cell? ⟨w.heap.size, 3, none⟩ = some (.int .i64 y2) ∧ w'.cell? ⟨w.heap.size, 4, none⟩ = some (.int .i64 x3) ∧ w'.cell? ⟨w.heap.size, 5, none⟩ = some (.int .i64 y3))
      (first | (refine kept6 HK0.out ?_; first | (with_reducible exact KB) | (with_reducible exact KA) | (with_reducible exact K0) | ((repeat (first | (with_reducible refine Below.setCell ?_ (by dsimp only; omega) _) | (with_reducible refine Below.alloc ?_ (by first | omega | exact Nat.le_refl _ | (have := KB.size; omega) | (have := KA.size; omega) | (simp; omega) | (have := KB.size; simp [World.setCell]; omega) | (have := KA.size; simp; omega)) _))); first | (with_reducible exact KB) | (with_reducible exact KA) | (with_reducible exact K0))) | go_keep)
      ((first
        | (go_at_call_of 12 (Value.int .i64 x1); (with_reducible refine Calls.mono (C0.out _) ?_); rintro e w2 ⟨n51, a51, A51, c51, d51, D51, e51, n52, a52, A52, c52, d52, D52, e52, rfl, ⟨s51, s52⟩, ⟨r51, q51⟩, ⟨r52, q52⟩, b2⟩; (first | (guard_hyp b2 : Below W.drew.heap.size W.drew w2; have sz2 : W.heap.size ≤ w2.heap.size := b2.size; have KA := below_next K0 (Nat.le_refl _) b2) | (guard_hyp b2 : Below (W.alloc (.cells #[.bool false, .slice none 0 0, .slice none 0 0, .bool false, .slice none 0 0, .slice none 0 0] 28)).drew.heap.size (W.alloc (.cells #[.bool false, .slice none 0 0, .slice none 0 0, .bool false, .slice none 0 0, .slice none 0 0] 28)).drew w2; obtain ⟨kA, sz2⟩ := got16d b2; obtain ⟨⟨o0, o1, o2, o3, o4, o5⟩, ⟨o6, o7, o8, o9, o10, o11⟩⟩ := kA.facts6; have KA := below_next KO (Nat.le_refl _) b2) | (obtain ⟨⟨kA, sz2⟩, kB⟩ := got26d b2; obtain ⟨⟨o0, o1, o2, o3, o4, o5⟩, ⟨o6, o7, o8, o9, o10, o11⟩⟩ := kA.facts6; obtain ⟨⟨l0, l1, l2, l3, l4, l5⟩, ⟨l6, l7, l8, l9, l10, l11⟩⟩ := kB.facts6; have KA := below_next KT (Nat.le_refl _) b2)))
        | (go_at_call_of 12 (Value.int .i64 x2); (with_reducible refine Calls.mono (C1.out _) ?_); rintro e w3 ⟨n53, a53, A53, c53, d53, D53, e53, n54, a54, A54, c54, d54, D54, e54, rfl, ⟨s53, s54⟩, ⟨r53, q53⟩, ⟨r54, q54⟩, b3⟩; (first | (guard_hyp b3 : Below w2.heap.size w2 w3; have sz3 : w2.heap.size ≤ w3.heap.size := b3.size; have KB := below_next KA (Nat.le_refl _) b3; have b23 : Below w2.heap.size w2 w3 := b3) | (guard_hyp b3 : Below (w2.alloc (.cells #[.bool false, .slice none 0 0, .slice none 0 0, .bool false, .slice none 0 0, .slice none 0 0] 28)).heap.size (w2.alloc (.cells #[.bool false, .slice none 0 0, .slice none 0 0, .bool false, .slice none 0 0, .slice none 0 0] 28)) w3; obtain ⟨kC, sz3⟩ := got16 b3; obtain ⟨⟨t0, t1, t2, t3, t4, t5⟩, ⟨t6, t7, t8, t9, t10, t11⟩⟩ := kC.facts6; have KB := below_next (keep_one KA _) (Nat.le_refl _) b3; have b23 : Below w2.heap.size w2 w3 := (below_new w2 _).trans (b3.mono (by simp))) | (obtain ⟨⟨kC, sz3⟩, kD⟩ := got26 b3; obtain ⟨⟨t0, t1, t2, t3, t4, t5⟩, ⟨t6, t7, t8, t9, t10, t11⟩⟩ := kC.facts6; obtain ⟨⟨m0, m1, m2, m3, m4, m5⟩, ⟨m6, m7, m8, m9, m10, m11⟩⟩ := kD.facts6; have KB := below_next (keep_two KA _ _) (Nat.le_refl _) b3; have b23 : Below w2.heap.size w2 w3 := ((below_new w2 _).trans ((below_new _ _).mono (by simp))).trans (b3.mono (by simp; omega)))); have r51 := r51.on b23; have q51 := q51.on b23; have r52 := r52.on b23; have q52 := q52.on b23; (first | (guard_hyp b2 : Below W.drew.heap.size W.drew w2; have kX := b23) | (guard_hyp b2 : Below (W.alloc (.cells #[.bool false, .slice none 0 0, .slice none 0 0, .bool false, .slice none 0 0, .slice none 0 0] 28)).drew.heap.size (W.alloc (.cells #[.bool false, .slice none 0 0, .slice none 0 0, .bool false, .slice none 0 0, .slice none 0 0] 28)).drew w2; have kX := kA.on b23; have z1' := kX.lt; obtain ⟨⟨o0, o1, o2, o3, o4, o5⟩, ⟨o6, o7, o8, o9, o10, o11⟩⟩ := kX.facts6) | (have kX := kA.on b23; have z1' := kX.lt; have kY := kB.on b23; have z2' := kY.lt; obtain ⟨⟨o0, o1, o2, o3, o4, o5⟩, ⟨o6, o7, o8, o9, o10, o11⟩⟩ := kX.facts6; obtain ⟨⟨l0, l1, l2, l3, l4, l5⟩, ⟨l6, l7, l8, l9, l10, l11⟩⟩ := kY.facts6)))))
    all_goals
      have hsz3 : W.heap.size ≤ w3.heap.size := KB.size
      go_wp2_with fail
      go_meet
      refine ⟨_, _, n51, a51, A51, c51, d51, D51, e51, n52, a52, A52, c52, d52, D52, e52, n53, a53, A53, c53, d53, D53, e53, n54, a54, A54, c54, d54, D54, e54, ⟨rfl, rfl⟩, ⟨⟨s51, s52⟩, ⟨s53, s54⟩⟩, ?_⟩
      first
        | (with_reducible exact endSA KB r51 q51 r52 q52 r53 q53 r54 q54)
        | (with_reducible exact endSA' KB r51 q51 r52 q52 r53 q53 r54 q54)
        | (with_reducible exact endSB kX (by omega) KB r51 q51 r52 q52 r53 q53 r54 q54)
        | (with_reducible exact endSB' kX (by omega) KB r51 q51 r52 q52 r53 q53 r54 q54)
        | (with_reducible exact endSB kY (by omega) KB r51 q51 r52 q52 r53 q53 r54 q54)
        | (with_reducible exact endSB' kY (by omega) KB r51 q51 r52 q52 r53 q53 r54 q54)
        | (with_reducible exact endSB kC (by omega) KB r51 q51 r52 q52 r53 q53 r54 q54)
        | (with_reducible exact endSB' kC (by omega) KB r51 q51 r52 q52 r53 q53 r54 q54)
        | (with_reducible exact endSC kX kY (by omega) (by omega) (by omega) KB r51 q51 r52 q52 r53 q53 r54 q54)
        | (with_reducible exact endSC kY kX (by omega) (by omega) (by omega) KB r51 q51 r52 q52 r53 q53 r54 q54)
        | (with_reducible exact endSC kX kC (by omega) (by omega) (by omega) KB r51 q51 r52 q52 r53 q53 r54 q54)
        | (with_reducible exact endSC kC kX (by omega) (by omega) (by omega) KB r51 q51 r52 q52 r53 q53 r54 q54)
        | (with_reducible exact endSC kC kD (by omega) (by omega) (by omega) KB r51 q51 r52 q52 r53 q53 r54 q54)
        | (with_reducible exact endSC kD kC (by omega) (by omega) (by omega) KB r51 q51 r52 q52 r53 q53 r54 q54)
  case rest =>
    obtain ⟨g5, g6, n51, a51, A51, c51, d51, D51, e51, n52, a52, A52, c52, d52, D52, e52, n53, a53, A53, c53, d53, D53, e53, n54, a54, A54, c54, d54, D54, e54, ⟨rfl, rfl⟩, ⟨⟨s51, s52⟩, ⟨s53, s54⟩⟩, ⟨k5, k6⟩, ⟨⟨r51, q51⟩, ⟨r52, q52⟩, ⟨r53, q53⟩, ⟨r54, q54⟩⟩, BV⟩ := hcut
    obtain ⟨V, hV⟩ : ∃ x, x = wc := ⟨_, rfl⟩
    subst hV
    have J0 := Lib.hid (HK0.out.on BV)
    have J1 := Lib.hid (HK1.out.on BV)
    have J2 := Lib.hid k5
    have J3 := Lib.hid k6
    clear k5 k6 K0 KO KT
    have K0 : Below V.heap.size V V.drew := below_drewN (Below.refl _ _) 1
    obtain ⟨p00, p01, p02, p03, p04, p05⟩ := kept6 J0.out (Below.refl _ _)
    obtain ⟨p10, p11, p12, p13, p14, p15⟩ := kept6 J1.out (Below.refl _ _)
    obtain ⟨p20, p21, p22, p23, p24, p25⟩ := kept6 J2.out (Below.refl _ _)
    obtain ⟨p30, p31, p32, p33, p34, p35⟩ := kept6 J3.out (Below.refl _ _)
    go_wp2_with fail
    go_region_held3 (fun w' => (w'.cell? ⟨w.heap.size, 0, none⟩ = some (.int .i64 x1) ∧ w'.cell? ⟨w.heap.size, 1, none⟩ = some (.int .i64 y1) ∧ w'.cell? ⟨w.heap.size, 2, none⟩ = some (.int .i64 x2) ∧ w'.cell? ⟨w.heap.size, 3, none⟩ = some (.int .i64 y2) ∧ w'.cell? ⟨w.heap.size, 4, none⟩ = some (.int .i64 x3) ∧ w'.cell? ⟨w.heap.size, 5, none⟩ = some (.int .i64 y3)) ∧ (w'.cell? ⟨w.heap.size + 1, 0, none⟩ = some (.bool n5) ∧ w'.cell? ⟨w.heap.size + 1, 1, none⟩ = some (.slice A5 a5.length c5) ∧ w'.cell? ⟨w.heap.size + 1, 2, none⟩ = some (.slice D5 d5.length e5) ∧ w'.cell? ⟨w.heap.size + 1, 3, none⟩ = some (.bool n6) ∧ w'.cell? ⟨w.heap.size + 1, 4, none⟩ = some (.slice A6 a6.length c6) ∧ w'.cell? ⟨w.heap.size + 1, 5, none⟩ = some (.slice D6 d6.length e6)) ∧ (w'.cell? ⟨g5, 0, none⟩ = some (.bool n51) ∧ w'.cell? ⟨g5, 1, none⟩ = some (.slice A51 a51.length c51) ∧ w'.cell? ⟨g5, 2, none⟩ = some (.slice D51 d51.length e51) ∧ w'.cell? ⟨g5, 3, none⟩ = some (.bool n52) ∧ w'.cell? ⟨g5, 4, none⟩ = some (.slice A52 a52.length c52) ∧ w'.cell? ⟨g5, 5, none⟩ = some (.slice D52 d52.length e52)) ∧ (w'.cell? ⟨g6, 0, none⟩ = some (.bool n53) ∧ w'.cell? ⟨g6, 1, none⟩ = some (.slice A53 a53.length c53) ∧ w'.cell? ⟨g6, 2, none⟩ = some (.slice D53 d53.length e53) ∧ w'.cell? ⟨g6, 3, none⟩ = some (.bool n54) ∧ w'.cell? ⟨g6, 4, none⟩ = some (.slice A54 a54.length c54) ∧ w'.cell? ⟨g6, 5, none⟩ = some (.slice D54 d54.length e54)))
      (first | (with_reducible exact ⟨kept6 J0.out K0, kept6 J1.out K0, kept6 J2.out K0, kept6 J3.out K0⟩) | (with_reducible exact ⟨kept6 J0.out K1, kept6 J1.out K1, kept6 J2.out K1, kept6 J3.out K1⟩) | (with_reducible exact ⟨kept6 J0.out K2, kept6 J1.out K2, kept6 J2.out K2, kept6 J3.out K2⟩) | (with_reducible exact ⟨kept6 J0.out K3, kept6 J1.out K3, kept6 J2.out K3, kept6 J3.out K3⟩) | (with_reducible exact ⟨kept6 J0.out K4, kept6 J1.out K4, kept6 J2.out K4, kept6 J3.out K4⟩) | (with_reducible exact ⟨kept6 J0.out K5, kept6 J1.out K5, kept6 J2.out K5, kept6 J3.out K5⟩) | (with_reducible exact ⟨kept6 J0.out K6, kept6 J1.out K6, kept6 J2.out K6, kept6 J3.out K6⟩) | (with_reducible exact ⟨kept6 J0.out K7, kept6 J1.out K7, kept6 J2.out K7, kept6 J3.out K7⟩) | (with_reducible exact ⟨kept6 J0.out K8, kept6 J1.out K8, kept6 J2.out K8, kept6 J3.out K8⟩) | go_keep)
      ((first
        | (go_at_call 13; (with_reducible refine Calls.mono (C3.out _) ?_); rintro e u1 ⟨rfl, f1⟩; have K1 := below_next K0 (Nat.le_refl _) f1)
        | (go_at_call_of 12 (Value.int .i64 x3); (with_reducible refine Calls.mono (C2.out _) ?_); rintro e u2 ⟨n55, a55, A55, c55, d55, D55, e55, n56, a56, A56, c56, d56, D56, e56, rfl, ⟨s55, s56⟩, ⟨r55, q55⟩, ⟨r56, q56⟩, f2⟩; have K2 := below_next K1 (Nat.le_refl _) f2)
        | (go_at_call_of 8 (Value.slice A55 a55.length c55); (with_reducible refine Calls.mono (C4.out n51 n52 n53 n54 n55 n56 a51 d51 a52 d52 a53 d53 a54 d54 a55 d55 a56 d56 A51 D51 A52 D52 A53 D53 A54 D54 A55 D55 A56 D56 c51 e51 c52 e52 c53 e53 c54 e54 c55 e55 c56 e56 _ s51 s52 s53 s54 s55 s56 (r51.on K2) (q51.on K2) (r52.on K2) (q52.on K2) (r53.on K2) (q53.on K2) (r54.on K2) (q54.on K2) r55 q55 r56 q56) ?_); rintro e u3 ⟨rfl, f3⟩; have K3 := below_next K2 (Nat.le_refl _) f3)
        | (go_at_call 14; (with_reducible refine Calls.mono (C5.out _ (BV.trans (K3.mono BV.size))) ?_); rintro e u4 ⟨rfl, f4⟩; have K4 := below_next K3 (Nat.le_refl _) f4)
        | (go_at_call_of 8 (Value.slice A5 a5.length c5); (with_reducible refine Calls.mono (C6.out n51 n52 n53 n54 a51 d51 a52 d52 a53 d53 a54 d54 A51 D51 A52 D52 A53 D53 A54 D54 c51 e51 c52 e52 c53 e53 c54 e54 _ (BV.trans (K4.mono BV.size)) s51 s52 s53 s54 (r51.on K4) (q51.on K4) (r52.on K4) (q52.on K4) (r53.on K4) (q53.on K4) (r54.on K4) (q54.on K4)) ?_); rintro e u5 ⟨rfl, f5⟩; have K5 := below_next K4 (Nat.le_refl _) f5)
        | (go_at_call 16; (with_reducible refine Calls.mono (C7.out _) ?_); rintro e u6 ⟨n57, a57, A57, c57, d57, D57, e57, n58, a58, A58, c58, d58, D58, e58, rfl, ⟨s57, s58⟩, ⟨r57, q57⟩, ⟨r58, q58⟩, f6⟩; have K6 := below_next K5 (Nat.le_refl _) f6)
        | (go_at_call 15; (with_reducible refine Calls.mono (C8.out n57 n58 n51 n52 a57 d57 a58 d58 a51 d51 a52 d52 A57 D57 A58 D58 A51 D51 A52 D52 c57 e57 c58 e58 c51 e51 c52 e52 _ s57 s58 s51 s52 r57 q57 r58 q58 (r51.on K6) (q51.on K6) (r52.on K6) (q52.on K6)) ?_); rintro e u7 ⟨rfl, f7⟩; have K7 := below_next K6 (Nat.le_refl _) f7)
        | (go_at_call 11; (with_reducible refine Calls.mono (C9.out _ (BV.trans (K7.mono BV.size))) ?_); rintro e u8 ⟨rfl, f8⟩; have K8 := below_next K7 (Nat.le_refl _) f8)))
    go_wp2_with fail
    go_ret
    exact ⟨rfl, HB.out.trans ((BV.trans (K8.mono BV.size)).mono HB.out.size)⟩
end Go.Proofs.YtkgedgaddpojkaaGreatDoor
