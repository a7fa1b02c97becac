/- The law SpotTurns: on which side of any way any spot is, and whether it is on it: the program answers as the document does. -/
import Derived.Test.YtkgedgaddpojkaaGreatDoorSpV
import Derived.Test.YtkgedgaddpojkaaGreatDoorSpX
namespace Go.Proofs.YtkgedgaddpojkaaGreatDoor
open Go.RowKit Num
open Go.Sort (grow)

set_option maxRecDepth 100000 in
set_option maxHeartbeats 12800000 in
theorem walk_SpotTurns (n1 n2 n3 n4 n5 n6 : Bool) (a1 d1 a2 d2 a3 d3 a4 d4 a5 d5 a6 d6 : List Nat) (A1 D1 A2 D2 A3 D3 A4 D4 A5 D5 A6 D6 : Option Addr) (c1 e1 c2 e2 c3 e3 c4 e4 c5 e5 c6 e6 : Nat) (w : World) (r1 : Rd w (fun g => g < w.heap.size) .u32 A1 a1) (q1 : Rd w (fun g => g < w.heap.size) .u32 D1 d1) (r2 : Rd w (fun g => g < w.heap.size) .u32 A2 a2) (q2 : Rd w (fun g => g < w.heap.size) .u32 D2 d2) (r3 : Rd w (fun g => g < w.heap.size) .u32 A3 a3) (q3 : Rd w (fun g => g < w.heap.size) .u32 D3 d3) (r4 : Rd w (fun g => g < w.heap.size) .u32 A4 a4) (q4 : Rd w (fun g => g < w.heap.size) .u32 D4 d4) (r5 : Rd w (fun g => g < w.heap.size) .u32 A5 a5) (q5 : Rd w (fun g => g < w.heap.size) .u32 D5 d5) (r6 : Rd w (fun g => g < w.heap.size) .u32 A6 a6) (q6 : Rd w (fun g => g < w.heap.size) .u32 D6 d6) (hl : (a1.length + d1.length) + (a2.length + d2.length) + (a3.length + d3.length) + (a4.length + d4.length) + (a5.length + d5.length) + (a6.length + d6.length) ≤ 1048570) (hc1 : a1.length ≤ c1) (he1 : d1.length ≤ e1) (ga1 : Dg 4294967296 a1) (gd1 : Dg 4294967296 d1) (hc2 : a2.length ≤ c2) (he2 : d2.length ≤ e2) (ga2 : Dg 4294967296 a2) (gd2 : Dg 4294967296 d2) (hc3 : a3.length ≤ c3) (he3 : d3.length ≤ e3) (ga3 : Dg 4294967296 a3) (gd3 : Dg 4294967296 d3) (hc4 : a4.length ≤ c4) (he4 : d4.length ≤ e4) (ga4 : Dg 4294967296 a4) (gd4 : Dg 4294967296 d4) (hc5 : a5.length ≤ c5) (he5 : d5.length ≤ e5) (ga5 : Dg 4294967296 a5) (gd5 : Dg 4294967296 d5) (hc6 : a6.length ≤ c6) (he6 : d6.length ≤ e6) (ga6 : Dg 4294967296 a6) (gd6 : Dg 4294967296 d6) (htab : Tab w) :
    Calls Tryz.prog 3 #[.agg #[.bool n1, .slice A1 a1.length c1, .slice D1 d1.length e1, .bool n2, .slice A2 a2.length c2, .slice D2 d2.length e2], .agg #[.bool n3, .slice A3 a3.length c3, .slice D3 d3.length e3, .bool n4, .slice A4 a4.length c4, .slice D4 d4.length e4], .agg #[.bool n5, .slice A5 a5.length c5, .slice D5 d5.length e5, .bool n6, .slice A6 a6.length c6, .slice D6 d6.length e6]] w fun e w' => e = .returned (.bool true) ∧ Below w.heap.size w w' := by
  have h1 := loD_pos d1
  have p1 : (upN n1 a1 d1).natAbs < 4294967296 ^ (a1.length + d1.length) := Nat.lt_of_lt_of_le (up_lt ga1) (Nat.pow_le_pow_right (by omega) (by omega))
  have y1 : loD d1 ≤ 4294967296 ^ (a1.length + d1.length) := Nat.le_trans (loD_le gd1) (Nat.pow_le_pow_right (by omega) (by omega))
  obtain ⟨P1, hP1⟩ : ∃ P, upN n1 a1 d1 = P := ⟨_, rfl⟩
  obtain ⟨Q1, hQ1⟩ : ∃ Q, loD d1 = Q := ⟨_, rfl⟩
  rw [hQ1] at h1 y1
  rw [hP1] at p1
  have h2 := loD_pos d2
  have p2 : (upN n2 a2 d2).natAbs < 4294967296 ^ (a2.length + d2.length) := Nat.lt_of_lt_of_le (up_lt ga2) (Nat.pow_le_pow_right (by omega) (by omega))
  have y2 : loD d2 ≤ 4294967296 ^ (a2.length + d2.length) := Nat.le_trans (loD_le gd2) (Nat.pow_le_pow_right (by omega) (by omega))
  obtain ⟨P2, hP2⟩ : ∃ P, upN n2 a2 d2 = P := ⟨_, rfl⟩
  obtain ⟨Q2, hQ2⟩ : ∃ Q, loD d2 = Q := ⟨_, rfl⟩
  rw [hQ2] at h2 y2
  rw [hP2] at p2
  have h3 := loD_pos d3
  have p3 : (upN n3 a3 d3).natAbs < 4294967296 ^ (a3.length + d3.length) := Nat.lt_of_lt_of_le (up_lt ga3) (Nat.pow_le_pow_right (by omega) (by omega))
  have y3 : loD d3 ≤ 4294967296 ^ (a3.length + d3.length) := Nat.le_trans (loD_le gd3) (Nat.pow_le_pow_right (by omega) (by omega))
  obtain ⟨P3, hP3⟩ : ∃ P, upN n3 a3 d3 = P := ⟨_, rfl⟩
  obtain ⟨Q3, hQ3⟩ : ∃ Q, loD d3 = Q := ⟨_, rfl⟩
  rw [hQ3] at h3 y3
  rw [hP3] at p3
  have h4 := loD_pos d4
  have p4 : (upN n4 a4 d4).natAbs < 4294967296 ^ (a4.length + d4.length) := Nat.lt_of_lt_of_le (up_lt ga4) (Nat.pow_le_pow_right (by omega) (by omega))
  have y4 : loD d4 ≤ 4294967296 ^ (a4.length + d4.length) := Nat.le_trans (loD_le gd4) (Nat.pow_le_pow_right (by omega) (by omega))
  obtain ⟨P4, hP4⟩ : ∃ P, upN n4 a4 d4 = P := ⟨_, rfl⟩
  obtain ⟨Q4, hQ4⟩ : ∃ Q, loD d4 = Q := ⟨_, rfl⟩
  rw [hQ4] at h4 y4
  rw [hP4] at p4
  have h5 := loD_pos d5
  have p5 : (upN n5 a5 d5).natAbs < 4294967296 ^ (a5.length + d5.length) := Nat.lt_of_lt_of_le (up_lt ga5) (Nat.pow_le_pow_right (by omega) (by omega))
  have y5 : loD d5 ≤ 4294967296 ^ (a5.length + d5.length) := Nat.le_trans (loD_le gd5) (Nat.pow_le_pow_right (by omega) (by omega))
  obtain ⟨P5, hP5⟩ : ∃ P, upN n5 a5 d5 = P := ⟨_, rfl⟩
  obtain ⟨Q5, hQ5⟩ : ∃ Q, loD d5 = Q := ⟨_, rfl⟩
  rw [hQ5] at h5 y5
  rw [hP5] at p5
  have h6 := loD_pos d6
  have p6 : (upN n6 a6 d6).natAbs < 4294967296 ^ (a6.length + d6.length) := Nat.lt_of_lt_of_le (up_lt ga6) (Nat.pow_le_pow_right (by omega) (by omega))
  have y6 : loD d6 ≤ 4294967296 ^ (a6.length + d6.length) := Nat.le_trans (loD_le gd6) (Nat.pow_le_pow_right (by omega) (by omega))
  obtain ⟨P6, hP6⟩ : ∃ P, upN n6 a6 d6 = P := ⟨_, rfl⟩
  obtain ⟨Q6, hQ6⟩ : ∃ Q, loD d6 = Q := ⟨_, rfl⟩
  rw [hQ6] at h6 y6
  rw [hP6] at p6
  obtain ⟨u1, hu1⟩ : ∃ u, a1.length + d1.length = u := ⟨_, rfl⟩
  rw [hu1] at p1 y1
  obtain ⟨u2, hu2⟩ : ∃ u, a2.length + d2.length = u := ⟨_, rfl⟩
  rw [hu2] at p2 y2
  obtain ⟨u3, hu3⟩ : ∃ u, a3.length + d3.length = u := ⟨_, rfl⟩
  rw [hu3] at p3 y3
  obtain ⟨u4, hu4⟩ : ∃ u, a4.length + d4.length = u := ⟨_, rfl⟩
  rw [hu4] at p4 y4
  obtain ⟨u5, hu5⟩ : ∃ u, a5.length + d5.length = u := ⟨_, rfl⟩
  rw [hu5] at p5 y5
  obtain ⟨u6, hu6⟩ : ∃ u, a6.length + d6.length = u := ⟨_, rfl⟩
  rw [hu6] at p6 y6
  have s1 : SI P1 Q1 (u1 + 1) n1 a1 c1 d1 e1 := ⟨hc1, he1, ga1, gd1, by omega, by omega, hP1, hQ1⟩
  have s2 : SI P2 Q2 (u2 + 1) n2 a2 c2 d2 e2 := ⟨hc2, he2, ga2, gd2, by omega, by omega, hP2, hQ2⟩
  have s3 : SI P3 Q3 (u3 + 1) n3 a3 c3 d3 e3 := ⟨hc3, he3, ga3, gd3, by omega, by omega, hP3, hQ3⟩
  have s4 : SI P4 Q4 (u4 + 1) n4 a4 c4 d4 e4 := ⟨hc4, he4, ga4, gd4, by omega, by omega, hP4, hQ4⟩
  have s5 : SI P5 Q5 (u5 + 1) n5 a5 c5 d5 e5 := ⟨hc5, he5, ga5, gd5, by omega, by omega, hP5, hQ5⟩
  have s6 : SI P6 Q6 (u6 + 1) n6 a6 c6 d6 e6 := ⟨hc6, he6, ga6, gd6, by omega, by omega, hP6, hQ6⟩
  have hu : u1 + u2 + u3 + u4 + u5 + u6 ≤ 1048570 := by omega
  obtain ⟨W, hW, k100, k101, k102, b0, s0⟩ := bxc w 28 28 28 [.bool n1, .slice A1 a1.length c1, .slice D1 d1.length e1, .bool n2, .slice A2 a2.length c2, .slice D2 d2.length e2] [.bool n3, .slice A3 a3.length c3, .slice D3 d3.length e3, .bool n4, .slice A4 a4.length c4, .slice D4 d4.length e4] [.bool n5, .slice A5 a5.length c5, .slice D5 d5.length e5, .bool n6, .slice A6 a6.length c6, .slice D6 d6.length e6]
  obtain ⟨⟨p00, p01, p02, p03, p04, p05⟩, -⟩ := k100.facts6
  obtain ⟨⟨p10, p11, p12, p13, p14, p15⟩, -⟩ := k101.facts6
  obtain ⟨⟨p20, p21, p22, p23, p24, p25⟩, -⟩ := k102.facts6
  have t1 := fun (V : World) (hV : Below W.heap.size W V) => spot_Turn (by omega) (by omega) (by omega) (by omega) (by omega) (by omega) (by omega) n1 n2 n3 n4 n5 n6 a1 d1 a2 d2 a3 d3 a4 d4 a5 d5 a6 d6 A1 D1 A2 D2 A3 D3 A4 D4 A5 D5 A6 D6 c1 e1 c2 e2 c3 e3 c4 e4 c5 e5 c6 e6 V s1 s2 s3 s4 s5 s6 ((r1.on b0).on hV) ((q1.on b0).on hV) ((r2.on b0).on hV) ((q2.on b0).on hV) ((r3.on b0).on hV) ((q3.on b0).on hV) ((r4.on b0).on hV) ((q4.on b0).on hV) ((r5.on b0).on hV) ((q5.on b0).on hV) ((r6.on b0).on hV) ((q6.on b0).on hV)
  have t2 := fun (V : World) (hV : Below W.heap.size W V) => rv_Turn hu p1 p2 p3 p4 p5 p6 y1 y2 y3 y4 y5 y6 h1 h2 h3 h4 h5 h6 n1 n2 n3 n4 n5 n6 a1 d1 a2 d2 a3 d3 a4 d4 a5 d5 a6 d6 A1 D1 A2 D2 A3 D3 A4 D4 A5 D5 A6 D6 c1 e1 c2 e2 c3 e3 c4 e4 c5 e5 c6 e6 V (s1.widen (by omega)) (s2.widen (by omega)) (s3.widen (by omega)) (s4.widen (by omega)) (s5.widen (by omega)) (s6.widen (by omega)) ((r1.on b0).on hV) ((q1.on b0).on hV) ((r2.on b0).on hV) ((q2.on b0).on hV) ((r3.on b0).on hV) ((q3.on b0).on hV) ((r4.on b0).on hV) ((q4.on b0).on hV) ((r5.on b0).on hV) ((q5.on b0).on hV) ((r6.on b0).on hV) ((q6.on b0).on hV)
  have t3 := fun (V : World) (hV : Below W.heap.size W V) => fv_On (by omega) (by omega) (by omega) (by omega) (by omega) (by omega) (by omega) h1 h2 h3 h4 h5 h6 n1 n2 n3 n4 n5 n6 a1 d1 a2 d2 a3 d3 a4 d4 a5 d5 a6 d6 A1 D1 A2 D2 A3 D3 A4 D4 A5 D5 A6 D6 c1 e1 c2 e2 c3 e3 c4 e4 c5 e5 c6 e6 V s1 s2 s3 s4 s5 s6 ((r1.on b0).on hV) ((q1.on b0).on hV) ((r2.on b0).on hV) ((q2.on b0).on hV) ((r3.on b0).on hV) ((q3.on b0).on hV) ((r4.on b0).on hV) ((q4.on b0).on hV) ((r5.on b0).on hV) ((q5.on b0).on hV) ((r6.on b0).on hV) ((q6.on b0).on hV)
  have t4 := fun (V : World) (hV : Below W.heap.size W V) => rv_On hu p1 p2 p3 p4 p5 p6 y1 y2 y3 y4 y5 y6 h1 h2 h3 h4 h5 h6 n1 n2 n3 n4 n5 n6 a1 d1 a2 d2 a3 d3 a4 d4 a5 d5 a6 d6 A1 D1 A2 D2 A3 D3 A4 D4 A5 D5 A6 D6 c1 e1 c2 e2 c3 e3 c4 e4 c5 e5 c6 e6 V (s1.widen (by omega)) (s2.widen (by omega)) (s3.widen (by omega)) (s4.widen (by omega)) (s5.widen (by omega)) (s6.widen (by omega)) ((r1.on b0).on hV) ((q1.on b0).on hV) ((r2.on b0).on hV) ((q2.on b0).on hV) ((r3.on b0).on hV) ((q3.on b0).on hV) ((r4.on b0).on hV) ((q4.on b0).on hV) ((r5.on b0).on hV) ((q5.on b0).on hV) ((r6.on b0).on hV) ((q6.on b0).on hV)
  have t5 := fun (V : World) (hV : Below W.heap.size W V) => law5_lives V ((htab.on b0).on hV)
  obtain ⟨z, hz⟩ : ∃ z, sgn (det P1 P2 P3 P4 P5 P6 Q1 Q2 Q3 Q4 Q5 Q6) = z := ⟨_, rfl⟩
  obtain ⟨b, hb⟩ : ∃ b, onB P1 P2 P3 P4 P5 P6 Q1 Q2 Q3 Q4 Q5 Q6 = b := ⟨_, rfl⟩
  simp only [hz] at t1 t2
  simp only [hb] at t3 t4
  have C1 := quiet_of t1
  have C2 := quiet_of t2
  have C3 := quiet_of t3
  have C4 := quiet_of t4
  have C5 := quiet_of t5
  have z00 := cell_regrown p00
  have z01 := cell_regrown p01
  have z02 := cell_regrown p02
  have z03 := cell_regrown p03
  have z04 := cell_regrown p04
  have z05 := cell_regrown p05
  have z10 := cell_regrown p10
  have z11 := cell_regrown p11
  have z12 := cell_regrown p12
  have z13 := cell_regrown p13
  have z14 := cell_regrown p14
  have z15 := cell_regrown p15
  have z20 := cell_regrown p20
  have z21 := cell_regrown p21
  have z22 := cell_regrown p22
  have z23 := cell_regrown p23
  have z24 := cell_regrown p24
  have z25 := cell_regrown p25
  have HB := Lib.hid b0
  clear t1 t2 t3 t4 t5 hz hb s1 r1 q1 h1 p1 y1 hP1 hQ1 hu1 hc1 he1 ga1 gd1 s2 r2 q2 h2 p2 y2 hP2 hQ2 hu2 hc2 he2 ga2 gd2 s3 r3 q3 h3 p3 y3 hP3 hQ3 hu3 hc3 he3 ga3 gd3 s4 r4 q4 h4 p4 y4 hP4 hQ4 hu4 hc4 he4 ga4 gd4 s5 r5 q5 h5 p5 y5 hP5 hQ5 hu5 hc5 he5 ga5 gd5 s6 r6 q6 h6 p6 y6 hP6 hQ6 hu6 hc6 he6 ga6 gd6 hu hl htab b0 k100 k101 k102 s0
  go_enter Tryz.func3, Tryz.ntmps3
  go_wp2_with fail
  try rw [hW]
  clear hW
  refine wp_region_quiet_below (by kernel_rfl) (by kernel_rfl) ?_
  quiet_step (fail)
  quiet_step (fail)
  quiet_step (fail)
  quiet_step (with_reducible exact C1 _ _)
  quiet_step (fail)
  quiet_step (fail)
  quiet_step (fail)
  quiet_step (with_reducible exact C2 _ _)
  quiet_step (fail)
  quiet_step (fail)
  quiet_step (fail)
  quiet_step (fail)
  quiet_step (fail)
  quiet_step (with_reducible exact C3 _ _)
  quiet_step (fail)
  quiet_step (fail)
  quiet_step (fail)
  quiet_step (with_reducible exact C4 _ _)
  quiet_step (fail)
  quiet_step (fail)
  quiet_step (fail)
  quiet_step (with_reducible exact C5 _ _)
  quiet_step (fail)
  quiet_step (fail)
  refine wpQuiet_nil ?_
  intro _ hw'
  obtain ⟨⟨dq, osq⟩, hw''⟩ := hw'
  subst hw''
  go_wp2_with fail
  go_ret
  exact ⟨rfl, HB.out.trans ((below_regrown W dq osq).mono HB.out.size)⟩
end Go.Proofs.YtkgedgaddpojkaaGreatDoor
