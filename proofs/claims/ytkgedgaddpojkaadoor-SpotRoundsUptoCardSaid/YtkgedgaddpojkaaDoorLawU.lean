/- The law SpotRounds: going round three spots keeps on which side one is, going back turns it, and what is half way is on the way. -/
import Derived.Test.YtkgedgaddpojkaaDoorSpW
import Derived.Test.YtkgedgaddpojkaaDoorSpX
namespace Go.Proofs.YtkgedgaddpojkaaDoor
open Go.RowKit Num

theorem SG.exact {P : Int} {Q m : Nat} (hQ : 0 < Q) {n : Bool} {a d : List Nat} {ca cd : Nat} (k : SG P Q m n a ca d cd) : SI (wv n a) (val 4294967296 d) m n a ca d cd ∧ 0 < val 4294967296 d ∧ wv n a * (Q : Int) = P * (val 4294967296 d : Int) := by
  obtain ⟨h1, h2, h3, h4, h5, h6, h7⟩ := k.toV hQ
  have hd : 0 < val 4294967296 d := by
    have e := k.1.2.2.2.2.2.2
    rw [e]
    exact Nat.div_pos (Nat.le_of_dvd hQ (Nat.gcd_dvd_right _ _)) (Nat.gcd_pos_of_pos_right _ hQ)
  exact ⟨⟨h1, h2, h3, h4, h5, h6, upN_of hd, loD_of hd⟩, hd, by rw [upN_of hd, loD_of hd] at h7; exact h7⟩

set_option maxRecDepth 100000 in
set_option maxHeartbeats 12800000 in
theorem walk_SpotRounds (n1 n2 n3 n4 n5 n6 : Bool) (a1 d1 a2 d2 a3 d3 a4 d4 a5 d5 a6 d6 : List Nat) (A1 D1 A2 D2 A3 D3 A4 D4 A5 D5 A6 D6 : Option Addr) (c1 e1 c2 e2 c3 e3 c4 e4 c5 e5 c6 e6 : Nat) (w : World) (r1 : Rd w (fun g => g < w.heap.size) .u32 A1 a1) (q1 : Rd w (fun g => g < w.heap.size) .u32 D1 d1) (r2 : Rd w (fun g => g < w.heap.size) .u32 A2 a2) (q2 : Rd w (fun g => g < w.heap.size) .u32 D2 d2) (r3 : Rd w (fun g => g < w.heap.size) .u32 A3 a3) (q3 : Rd w (fun g => g < w.heap.size) .u32 D3 d3) (r4 : Rd w (fun g => g < w.heap.size) .u32 A4 a4) (q4 : Rd w (fun g => g < w.heap.size) .u32 D4 d4) (r5 : Rd w (fun g => g < w.heap.size) .u32 A5 a5) (q5 : Rd w (fun g => g < w.heap.size) .u32 D5 d5) (r6 : Rd w (fun g => g < w.heap.size) .u32 A6 a6) (q6 : Rd w (fun g => g < w.heap.size) .u32 D6 d6) (hl : (a1.length + d1.length) + (a2.length + d2.length) + (a3.length + d3.length) + (a4.length + d4.length) + (a5.length + d5.length) + (a6.length + d6.length) ≤ 1048570) (hc1 : a1.length ≤ c1) (he1 : d1.length ≤ e1) (ga1 : Dg 4294967296 a1) (gd1 : Dg 4294967296 d1) (hc2 : a2.length ≤ c2) (he2 : d2.length ≤ e2) (ga2 : Dg 4294967296 a2) (gd2 : Dg 4294967296 d2) (hc3 : a3.length ≤ c3) (he3 : d3.length ≤ e3) (ga3 : Dg 4294967296 a3) (gd3 : Dg 4294967296 d3) (hc4 : a4.length ≤ c4) (he4 : d4.length ≤ e4) (ga4 : Dg 4294967296 a4) (gd4 : Dg 4294967296 d4) (hc5 : a5.length ≤ c5) (he5 : d5.length ≤ e5) (ga5 : Dg 4294967296 a5) (gd5 : Dg 4294967296 d5) (hc6 : a6.length ≤ c6) (he6 : d6.length ≤ e6) (ga6 : Dg 4294967296 a6) (gd6 : Dg 4294967296 d6) (htab : Tab w) :
    Calls Tryd.prog 3 #[.agg #[.bool n1, .slice A1 a1.length c1, .slice D1 d1.length e1, .bool n2, .slice A2 a2.length c2, .slice D2 d2.length e2], .agg #[.bool n3, .slice A3 a3.length c3, .slice D3 d3.length e3, .bool n4, .slice A4 a4.length c4, .slice D4 d4.length e4], .agg #[.bool n5, .slice A5 a5.length c5, .slice D5 d5.length e5, .bool n6, .slice A6 a6.length c6, .slice D6 d6.length e6]] w fun e w' => e = .returned (.bool true) ∧ Below w.heap.size w w' := by
  have h1 := loD_pos d1
  have p1 : (upN n1 a1 d1).natAbs < 4294967296 ^ (a1.length + d1.length) := Nat.lt_of_lt_of_le (up_lt ga1) (Nat.pow_le_pow_right (by omega) (by omega))
  have y1 : loD d1 ≤ 4294967296 ^ (a1.length + d1.length) := Nat.le_trans (loD_le gd1) (Nat.pow_le_pow_right (by omega) (by omega))
  obtain ⟨P1, hP1⟩ : ∃ P, upN n1 a1 d1 = P := ⟨_, rfl⟩
  obtain ⟨Q1, hQ1⟩ : ∃ Q, loD d1 = Q := ⟨_, rfl⟩
  rw [hQ1] at h1 y1
  rw [hP1] at p1
  have h2 := loD_pos d2
  have p2 : (upN n2 a2 d2).natAbs < 4294967296 ^ (a2.length + d2.length) := Nat.lt_of_lt_of_le (up_lt ga2) (Nat.pow_le_pow_right (by omega) (by omega))
  have y2 : loD d2 ≤ 4294967296 ^ (a2.length + d2.length) := Nat.le_trans (loD_le gd2) (Nat.pow_le_pow_right (by omega) (by omega))
  obtain ⟨P2, hP2⟩ : ∃ P, upN n2 a2 d2 = P := ⟨_, rfl⟩
  obtain ⟨Q2, hQ2⟩ : ∃ Q, loD d2 = Q := ⟨_, rfl⟩
  rw [hQ2] at h2 y2
  rw [hP2] at p2
  have h3 := loD_pos d3
  have p3 : (upN n3 a3 d3).natAbs < 4294967296 ^ (a3.length + d3.length) := Nat.lt_of_lt_of_le (up_lt ga3) (Nat.pow_le_pow_right (by omega) (by omega))
  have y3 : loD d3 ≤ 4294967296 ^ (a3.length + d3.length) := Nat.le_trans (loD_le gd3) (Nat.pow_le_pow_right (by omega) (by omega))
  obtain ⟨P3, hP3⟩ : ∃ P, upN n3 a3 d3 = P := ⟨_, rfl⟩
  obtain ⟨Q3, hQ3⟩ : ∃ Q, loD d3 = Q := ⟨_, rfl⟩
  rw [hQ3] at h3 y3
  rw [hP3] at p3
  have h4 := loD_pos d4
  have p4 : (upN n4 a4 d4).natAbs < 4294967296 ^ (a4.length + d4.length) := Nat.lt_of_lt_of_le (up_lt ga4) (Nat.pow_le_pow_right (by omega) (by omega))
  have y4 : loD d4 ≤ 4294967296 ^ (a4.length + d4.length) := Nat.le_trans (loD_le gd4) (Nat.pow_le_pow_right (by omega) (by omega))
  obtain ⟨P4, hP4⟩ : ∃ P, upN n4 a4 d4 = P := ⟨_, rfl⟩
  obtain ⟨Q4, hQ4⟩ : ∃ Q, loD d4 = Q := ⟨_, rfl⟩
  rw [hQ4] at h4 y4
  rw [hP4] at p4
  have h5 := loD_pos d5
  have p5 : (upN n5 a5 d5).natAbs < 4294967296 ^ (a5.length + d5.length) := Nat.lt_of_lt_of_le (up_lt ga5) (Nat.pow_le_pow_right (by omega) (by omega))
  have y5 : loD d5 ≤ 4294967296 ^ (a5.length + d5.length) := Nat.le_trans (loD_le gd5) (Nat.pow_le_pow_right (by omega) (by omega))
  obtain ⟨P5, hP5⟩ : ∃ P, upN n5 a5 d5 = P := ⟨_, rfl⟩
  obtain ⟨Q5, hQ5⟩ : ∃ Q, loD d5 = Q := ⟨_, rfl⟩
  rw [hQ5] at h5 y5
  rw [hP5] at p5
  have h6 := loD_pos d6
  have p6 : (upN n6 a6 d6).natAbs < 4294967296 ^ (a6.length + d6.length) := Nat.lt_of_lt_of_le (up_lt ga6) (Nat.pow_le_pow_right (by omega) (by omega))
  have y6 : loD d6 ≤ 4294967296 ^ (a6.length + d6.length) := Nat.le_trans (loD_le gd6) (Nat.pow_le_pow_right (by omega) (by omega))
  obtain ⟨P6, hP6⟩ : ∃ P, upN n6 a6 d6 = P := ⟨_, rfl⟩
  obtain ⟨Q6, hQ6⟩ : ∃ Q, loD d6 = Q := ⟨_, rfl⟩
  rw [hQ6] at h6 y6
  rw [hP6] at p6
  obtain ⟨u1, hu1⟩ : ∃ u, a1.length + d1.length = u := ⟨_, rfl⟩
  rw [hu1] at p1 y1
  obtain ⟨u2, hu2⟩ : ∃ u, a2.length + d2.length = u := ⟨_, rfl⟩
  rw [hu2] at p2 y2
  obtain ⟨u3, hu3⟩ : ∃ u, a3.length + d3.length = u := ⟨_, rfl⟩
  rw [hu3] at p3 y3
  obtain ⟨u4, hu4⟩ : ∃ u, a4.length + d4.length = u := ⟨_, rfl⟩
  rw [hu4] at p4 y4
  obtain ⟨u5, hu5⟩ : ∃ u, a5.length + d5.length = u := ⟨_, rfl⟩
  rw [hu5] at p5 y5
  obtain ⟨u6, hu6⟩ : ∃ u, a6.length + d6.length = u := ⟨_, rfl⟩
  rw [hu6] at p6 y6
  have s1 : SI P1 Q1 (u1 + 1) n1 a1 c1 d1 e1 := ⟨hc1, he1, ga1, gd1, by omega, by omega, hP1, hQ1⟩
  have s2 : SI P2 Q2 (u2 + 1) n2 a2 c2 d2 e2 := ⟨hc2, he2, ga2, gd2, by omega, by omega, hP2, hQ2⟩
  have s3 : SI P3 Q3 (u3 + 1) n3 a3 c3 d3 e3 := ⟨hc3, he3, ga3, gd3, by omega, by omega, hP3, hQ3⟩
  have s4 : SI P4 Q4 (u4 + 1) n4 a4 c4 d4 e4 := ⟨hc4, he4, ga4, gd4, by omega, by omega, hP4, hQ4⟩
  have s5 : SI P5 Q5 (u5 + 1) n5 a5 c5 d5 e5 := ⟨hc5, he5, ga5, gd5, by omega, by omega, hP5, hQ5⟩
  have s6 : SI P6 Q6 (u6 + 1) n6 a6 c6 d6 e6 := ⟨hc6, he6, ga6, gd6, by omega, by omega, hP6, hQ6⟩
  have hu : u1 + u2 + u3 + u4 + u5 + u6 ≤ 1048570 := by omega
  obtain ⟨W, hW, k100, k101, k102, b0, s0⟩ := bxc w 28 28 28 [.bool n1, .slice A1 a1.length c1, .slice D1 d1.length e1, .bool n2, .slice A2 a2.length c2, .slice D2 d2.length e2] [.bool n3, .slice A3 a3.length c3, .slice D3 d3.length e3, .bool n4, .slice A4 a4.length c4, .slice D4 d4.length e4] [.bool n5, .slice A5 a5.length c5, .slice D5 d5.length e5, .bool n6, .slice A6 a6.length c6, .slice D6 d6.length e6]
  obtain ⟨⟨p00, p01, p02, p03, p04, p05⟩, -⟩ := k100.facts6
  obtain ⟨⟨p10, p11, p12, p13, p14, p15⟩, -⟩ := k101.facts6
  obtain ⟨⟨p20, p21, p22, p23, p24, p25⟩, -⟩ := k102.facts6
  obtain ⟨z, hz⟩ : ∃ z, sgn (det P1 P2 P3 P4 P5 P6 Q1 Q2 Q3 Q4 Q5 Q6) = z := ⟨_, rfl⟩
  have hz3 := sgn_three (det P1 P2 P3 P4 P5 P6 Q1 Q2 Q3 Q4 Q5 Q6)
  rw [hz] at hz3
  obtain ⟨g51, hg51⟩ : ∃ g, u1 + u3 + 2 = g := ⟨_, rfl⟩
  obtain ⟨g52, hg52⟩ : ∃ g, u2 + u4 + 2 = g := ⟨_, rfl⟩
  have t1 := fun (V : World) (hV : Below W.heap.size W V) => spot_Turn (by omega) (by omega) (by omega) (by omega) (by omega) (by omega) (by omega) n1 n2 n3 n4 n5 n6 a1 d1 a2 d2 a3 d3 a4 d4 a5 d5 a6 d6 A1 D1 A2 D2 A3 D3 A4 D4 A5 D5 A6 D6 c1 e1 c2 e2 c3 e3 c4 e4 c5 e5 c6 e6 V s1 s2 s3 s4 s5 s6 ((r1.on b0).on hV) ((q1.on b0).on hV) ((r2.on b0).on hV) ((q2.on b0).on hV) ((r3.on b0).on hV) ((q3.on b0).on hV) ((r4.on b0).on hV) ((q4.on b0).on hV) ((r5.on b0).on hV) ((q5.on b0).on hV) ((r6.on b0).on hV) ((q6.on b0).on hV)
  have t2 := fun (V : World) (hV : Below W.heap.size W V) => spot_Mid _ _ _ _ _ _ (fv_halfWay (m := 2097150) (k := g51) h1 h3 p1 p3 y1 y3 (by omega) (by omega) (by omega) (by omega)) (fv_halfWay (m := 2097150) (k := g52) h2 h4 p2 p4 y2 y4 (by omega) (by omega) (by omega) (by omega)) n1 n2 n3 n4 a1 d1 a2 d2 a3 d3 a4 d4 A1 D1 A2 D2 A3 D3 A4 D4 c1 e1 c2 e2 c3 e3 c4 e4 V (s1.widen (by omega)) (s2.widen (by omega)) (s3.widen (by omega)) (s4.widen (by omega)) ((r1.on b0).on hV) ((q1.on b0).on hV) ((r2.on b0).on hV) ((q2.on b0).on hV) ((r3.on b0).on hV) ((q3.on b0).on hV) ((r4.on b0).on hV) ((q4.on b0).on hV)
  have t3 := fun (V : World) (hV : Below W.heap.size W V) => spot_Turn (by omega) (by omega) (by omega) (by omega) (by omega) (by omega) (by omega) n3 n4 n5 n6 n1 n2 a3 d3 a4 d4 a5 d5 a6 d6 a1 d1 a2 d2 A3 D3 A4 D4 A5 D5 A6 D6 A1 D1 A2 D2 c3 e3 c4 e4 c5 e5 c6 e6 c1 e1 c2 e2 V s3 s4 s5 s6 s1 s2 ((r3.on b0).on hV) ((q3.on b0).on hV) ((r4.on b0).on hV) ((q4.on b0).on hV) ((r5.on b0).on hV) ((q5.on b0).on hV) ((r6.on b0).on hV) ((q6.on b0).on hV) ((r1.on b0).on hV) ((q1.on b0).on hV) ((r2.on b0).on hV) ((q2.on b0).on hV)
  have t4 := fun (V : World) (hV : Below W.heap.size W V) => spot_Turn (by omega) (by omega) (by omega) (by omega) (by omega) (by omega) (by omega) n5 n6 n3 n4 n1 n2 a5 d5 a6 d6 a3 d3 a4 d4 a1 d1 a2 d2 A5 D5 A6 D6 A3 D3 A4 D4 A1 D1 A2 D2 c5 e5 c6 e6 c3 e3 c4 e4 c1 e1 c2 e2 V s5 s6 s3 s4 s1 s2 ((r5.on b0).on hV) ((q5.on b0).on hV) ((r6.on b0).on hV) ((q6.on b0).on hV) ((r3.on b0).on hV) ((q3.on b0).on hV) ((r4.on b0).on hV) ((q4.on b0).on hV) ((r1.on b0).on hV) ((q1.on b0).on hV) ((r2.on b0).on hV) ((q2.on b0).on hV)
  simp only [hz] at t1
  simp only [det_round P1 P2 P3 P4 P5 P6 Q1 Q2 Q3 Q4 Q5 Q6, hz] at t3
  simp only [det_back P1 P2 P3 P4 P5 P6 Q1 Q2 Q3 Q4 Q5 Q6, sgn_neg_, hz] at t4
  have t7 := fun (V : World) (hV : Below W.heap.size W V) => fv_On (by omega) (by omega) (by omega) (by omega) (by omega) (by omega) (by omega) h1 h2 h3 h4 h1 h2 n1 n2 n3 n4 n1 n2 a1 d1 a2 d2 a3 d3 a4 d4 a1 d1 a2 d2 A1 D1 A2 D2 A3 D3 A4 D4 A1 D1 A2 D2 c1 e1 c2 e2 c3 e3 c4 e4 c1 e1 c2 e2 V s1 s2 s3 s4 s1 s2 ((r1.on b0).on hV) ((q1.on b0).on hV) ((r2.on b0).on hV) ((q2.on b0).on hV) ((r3.on b0).on hV) ((q3.on b0).on hV) ((r4.on b0).on hV) ((q4.on b0).on hV) ((r1.on b0).on hV) ((q1.on b0).on hV) ((r2.on b0).on hV) ((q2.on b0).on hV)
  have t8 := fun (V : World) (hV : Below W.heap.size W V) => fv_On (by omega) (by omega) (by omega) (by omega) (by omega) (by omega) (by omega) h1 h2 h3 h4 h3 h4 n1 n2 n3 n4 n3 n4 a1 d1 a2 d2 a3 d3 a4 d4 a3 d3 a4 d4 A1 D1 A2 D2 A3 D3 A4 D4 A3 D3 A4 D4 c1 e1 c2 e2 c3 e3 c4 e4 c3 e3 c4 e4 V s1 s2 s3 s4 s3 s4 ((r1.on b0).on hV) ((q1.on b0).on hV) ((r2.on b0).on hV) ((q2.on b0).on hV) ((r3.on b0).on hV) ((q3.on b0).on hV) ((r4.on b0).on hV) ((q4.on b0).on hV) ((r3.on b0).on hV) ((q3.on b0).on hV) ((r4.on b0).on hV) ((q4.on b0).on hV)
  simp only [on_first h1 h2 h3 h4] at t7
  simp only [on_second h1 h2 h3 h4] at t8
  obtain ⟨N51, hN51⟩ : ∃ N, P1 * (Q3 : Int) + P3 * (Q1 : Int) = N := ⟨_, rfl⟩
  obtain ⟨N52, hN52⟩ : ∃ N, P2 * (Q4 : Int) + P4 * (Q2 : Int) = N := ⟨_, rfl⟩
  obtain ⟨L51, hDe51⟩ : ∃ D, Q1 * Q3 * 2 = D := ⟨_, rfl⟩
  obtain ⟨L52, hDe52⟩ : ∃ D, Q2 * Q4 * 2 = D := ⟨_, rfl⟩
  have hD51 : 0 < L51 := by rw [← hDe51]; exact Nat.mul_pos (Nat.mul_pos h1 h3) (by omega)
  have hD52 : 0 < L52 := by rw [← hDe52]; exact Nat.mul_pos (Nat.mul_pos h2 h4) (by omega)
  simp only [hN51, hN52, hDe51, hDe52] at t2
  have rel : ∀ {x5 x6 : Int} {y5 y6 : Nat}, x5 * (L51 : Int) = N51 * (y5 : Int) → x6 * (L52 : Int) = N52 * (y6 : Int) → det P1 P2 P3 P4 x5 x6 Q1 Q2 Q3 Q4 y5 y6 = 0 := fun e1 e2 => mid_det h1 h2 h3 h4 (by rw [hDe51, hN51]; exact e1) (by rw [hDe52, hN52]; exact e2)
  have t5 := fun (V : World) (hV : Below W.heap.size W V) (n51 n52 : Bool) (a51 d51 a52 d52 : List Nat) (A51 D51 A52 D52 : Option Addr) (c51 e51 c52 e52 : Nat) (s51 : SG N51 L51 g51 n51 a51 c51 d51 e51) (s52 : SG N52 L52 g52 n52 a52 c52 d52 e52) (r51 : Rd V (fun g => g < V.heap.size) .u32 A51 a51) (q51 : Rd V (fun g => g < V.heap.size) .u32 D51 d51) (r52 : Rd V (fun g => g < V.heap.size) .u32 A52 a52) (q52 : Rd V (fun g => g < V.heap.size) .u32 D52 d52) => by
    obtain ⟨i1, j1, l1⟩ := s51.exact hD51
    obtain ⟨i2, j2, l2⟩ := s52.exact hD52
    have e := fv_On (by omega) (by omega) (by omega) (by omega) (by omega) (by omega) (by omega) h1 h2 h3 h4 j1 j2 n1 n2 n3 n4 n51 n52 a1 d1 a2 d2 a3 d3 a4 d4 a51 d51 a52 d52 A1 D1 A2 D2 A3 D3 A4 D4 A51 D51 A52 D52 c1 e1 c2 e2 c3 e3 c4 e4 c51 e51 c52 e52 V s1 s2 s3 s4 i1 i2 ((r1.on b0).on hV) ((q1.on b0).on hV) ((r2.on b0).on hV) ((q2.on b0).on hV) ((r3.on b0).on hV) ((q3.on b0).on hV) ((r4.on b0).on hV) ((q4.on b0).on hV) r51 q51 r52 q52
    rwa [onB_true h1 h2 h3 h4 (rel l1 l2) (mid_between h1 h3 j1 (by rw [hDe51, hN51]; exact l1)) (mid_between h2 h4 j2 (by rw [hDe52, hN52]; exact l2))] at e
  have t6 := fun (V : World) (hV : Below W.heap.size W V) (n51 n52 : Bool) (a51 d51 a52 d52 : List Nat) (A51 D51 A52 D52 : Option Addr) (c51 e51 c52 e52 : Nat) (s51 : SG N51 L51 g51 n51 a51 c51 d51 e51) (s52 : SG N52 L52 g52 n52 a52 c52 d52 e52) (r51 : Rd V (fun g => g < V.heap.size) .u32 A51 a51) (q51 : Rd V (fun g => g < V.heap.size) .u32 D51 d51) (r52 : Rd V (fun g => g < V.heap.size) .u32 A52 a52) (q52 : Rd V (fun g => g < V.heap.size) .u32 D52 d52) => by
    obtain ⟨i1, j1, l1⟩ := s51.exact hD51
    obtain ⟨i2, j2, l2⟩ := s52.exact hD52
    have e := spot_Turn (by omega) (by omega) (by omega) (by omega) (by omega) (by omega) (by omega) n1 n2 n3 n4 n51 n52 a1 d1 a2 d2 a3 d3 a4 d4 a51 d51 a52 d52 A1 D1 A2 D2 A3 D3 A4 D4 A51 D51 A52 D52 c1 e1 c2 e2 c3 e3 c4 e4 c51 e51 c52 e52 V s1 s2 s3 s4 i1 i2 ((r1.on b0).on hV) ((q1.on b0).on hV) ((r2.on b0).on hV) ((q2.on b0).on hV) ((r3.on b0).on hV) ((q3.on b0).on hV) ((r4.on b0).on hV) ((q4.on b0).on hV) r51 q51 r52 q52
    rwa [rel l1 l2, show sgn 0 = 0 from rfl] at e
  have t9 := fun (V : World) (hV : Below W.heap.size W V) => law5_lives V ((htab.on b0).on hV)
  have C1 := Lib.hid t1
  have C2 := Lib.hid t2
  have C3 := Lib.hid t3
  have C4 := Lib.hid t4
  have C5 := Lib.hid t5
  have C6 := Lib.hid t6
  have C7 := Lib.hid t7
  have C8 := Lib.hid t8
  have C9 := Lib.hid t9
  have HK0 := Lib.hid k100
  have HK1 := Lib.hid k101
  have HK2 := Lib.hid k102
  have HB := Lib.hid b0
  have hlt : w.heap.size + 2 < W.heap.size := by omega
  clear t1 t2 t3 t4 t5 t6 t7 t8 t9 rel hz s1 r1 q1 h1 p1 y1 hP1 hQ1 hu1 hc1 he1 ga1 gd1 s2 r2 q2 h2 p2 y2 hP2 hQ2 hu2 hc2 he2 ga2 gd2 s3 r3 q3 h3 p3 y3 hP3 hQ3 hu3 hc3 he3 ga3 gd3 s4 r4 q4 h4 p4 y4 hP4 hQ4 hu4 hc4 he4 ga4 gd4 s5 r5 q5 h5 p5 y5 hP5 hQ5 hu5 hc5 he5 ga5 gd5 s6 r6 q6 h6 p6 y6 hP6 hQ6 hu6 hc6 he6 ga6 gd6 hu hl htab b0 k100 k101 k102 s0 hN51 hN52 hDe51 hDe52 hD51 hD52 hg51 hg52
  rcases hz3 with rfl | rfl | rfl
  all_goals
    go_enter Tryd.func3, Tryd.ntmps3
    go_wp2_with fail
    try rw [hW]
    clear hW
    refine (C1.out _ (Below.refl _ _)).mono ?_
    rintro e w1 ⟨rfl, B1⟩
    obtain ⟨p00, p01, p02, p03, p04, p05⟩ := kept6 HK0.out B1
    obtain ⟨p10, p11, p12, p13, p14, p15⟩ := kept6 HK1.out B1
    obtain ⟨p20, p21, p22, p23, p24, p25⟩ := kept6 HK2.out B1
    go_wp2_with fail
    refine (C2.out _ B1).mono ?_
    rintro e w2 ⟨n51, a51, A51, c51, d51, D51', e51, n52, a52, A52, c52, d52, D52', e52, rfl, ⟨s51, s52⟩, ⟨r51, q51⟩, ⟨r52, q52⟩, b2⟩
    have B2 := B1.trans (b2.mono B1.size)
    obtain ⟨V, hV, kV, bV, sV⟩ := bxa w2 28 [.bool n51, .slice A51 a51.length c51, .slice D51' d51.length e51, .bool n52, .slice A52 a52.length c52, .slice D52' d52.length e52]
    have HV := Lib.hid hV
    have HKV := Lib.hid kV
    have BV : Below W.heap.size W V := B2.trans (bV.mono B2.size)
    obtain ⟨v0, v1, v2, v3, v4, v5⟩ := kV.facts6.1
    obtain ⟨p00, p01, p02, p03, p04, p05⟩ := kept6 HK0.out B2
    obtain ⟨p10, p11, p12, p13, p14, p15⟩ := kept6 HK1.out B2
    obtain ⟨p20, p21, p22, p23, p24, p25⟩ := kept6 HK2.out B2
    have hz2 : w.heap.size < w2.heap.size ∧ w.heap.size + 1 < w2.heap.size ∧ w.heap.size + 1 + 1 < w2.heap.size := by have := B2.size; omega
    obtain ⟨hz21, hz22, hz23⟩ := hz2
    have r51 := r51.on bV
    have q51 := q51.on bV
    have r52 := r52.on bV
    have q52 := q52.on bV
    have hlV : w2.heap.size < V.heap.size := by omega
    clear hV kV b2 bV sV
    go_wp2_with fail
    try rw [HV.out]
    refine (C3.out _ BV).mono ?_
    rintro e w3 ⟨rfl, b3⟩
    have B3 := BV.trans (b3.mono BV.size)
    have F3 := b3
    obtain ⟨v0, v1, v2, v3, v4, v5⟩ := kept6 HKV.out F3
    obtain ⟨p00, p01, p02, p03, p04, p05⟩ := kept6 HK0.out B3
    obtain ⟨p10, p11, p12, p13, p14, p15⟩ := kept6 HK1.out B3
    obtain ⟨p20, p21, p22, p23, p24, p25⟩ := kept6 HK2.out B3
    go_wp2_with fail
    refine (C4.out _ B3).mono ?_
    rintro e w4 ⟨rfl, b4⟩
    have B4 := B3.trans (b4.mono B3.size)
    have F4 := F3.trans (b4.mono F3.size)
    obtain ⟨v0, v1, v2, v3, v4, v5⟩ := kept6 HKV.out F4
    obtain ⟨p00, p01, p02, p03, p04, p05⟩ := kept6 HK0.out B4
    obtain ⟨p10, p11, p12, p13, p14, p15⟩ := kept6 HK1.out B4
    obtain ⟨p20, p21, p22, p23, p24, p25⟩ := kept6 HK2.out B4
    go_wp2_with fail
    refine (C5.out _ B4 n51 n52 a51 d51 a52 d52 A51 D51' A52 D52' c51 e51 c52 e52 s51 s52 (r51.on F4) (q51.on F4) (r52.on F4) (q52.on F4)).mono ?_
    rintro e w5 ⟨rfl, b5⟩
    have B5 := B4.trans (b5.mono B4.size)
    have F5 := F4.trans (b5.mono F4.size)
    obtain ⟨v0, v1, v2, v3, v4, v5⟩ := kept6 HKV.out F5
    obtain ⟨p00, p01, p02, p03, p04, p05⟩ := kept6 HK0.out B5
    obtain ⟨p10, p11, p12, p13, p14, p15⟩ := kept6 HK1.out B5
    obtain ⟨p20, p21, p22, p23, p24, p25⟩ := kept6 HK2.out B5
    go_wp2_with fail
    refine (C6.out _ B5 n51 n52 a51 d51 a52 d52 A51 D51' A52 D52' c51 e51 c52 e52 s51 s52 (r51.on F5) (q51.on F5) (r52.on F5) (q52.on F5)).mono ?_
    rintro e w6 ⟨rfl, b6⟩
    have B6 := B5.trans (b6.mono B5.size)
    obtain ⟨p00, p01, p02, p03, p04, p05⟩ := kept6 HK0.out B6
    obtain ⟨p10, p11, p12, p13, p14, p15⟩ := kept6 HK1.out B6
    obtain ⟨p20, p21, p22, p23, p24, p25⟩ := kept6 HK2.out B6
    go_wp2_with fail
    refine (C7.out _ B6).mono ?_
    rintro e w7 ⟨rfl, b7⟩
    have B7 := B6.trans (b7.mono B6.size)
    obtain ⟨p00, p01, p02, p03, p04, p05⟩ := kept6 HK0.out B7
    obtain ⟨p10, p11, p12, p13, p14, p15⟩ := kept6 HK1.out B7
    obtain ⟨p20, p21, p22, p23, p24, p25⟩ := kept6 HK2.out B7
    go_wp2_with fail
    refine (C8.out _ B7).mono ?_
    rintro e w8 ⟨rfl, b8⟩
    have B8 := B7.trans (b8.mono B7.size)
    go_wp2_with fail
    refine (C9.out _ B8).mono ?_
    rintro e w9 ⟨rfl, b9⟩
    go_wp2_with fail
    go_ret
    exact ⟨rfl, HB.out.trans ((B8.trans (b9.mono B8.size)).mono HB.out.size)⟩
end Go.Proofs.YtkgedgaddpojkaaDoor
