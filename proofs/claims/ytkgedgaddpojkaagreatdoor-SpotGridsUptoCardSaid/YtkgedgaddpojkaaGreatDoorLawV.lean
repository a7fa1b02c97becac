/- The law SpotWays: how any two spots stand, and what is on the way from one to the other: the program answers as the document does. -/
import Derived.Test.YtkgedgaddpojkaaGreatDoorSpW
import Derived.Test.YtkgedgaddpojkaaGreatDoorSpX
import Derived.Test.YtkgedgaddpojkaaGreatDoorSpR
import Derived.Test.YtkgedgaddpojkaaGreatDoorZFrV
import Derived.Deep.RegionHeld3
namespace Go.Proofs.YtkgedgaddpojkaaGreatDoor
open Go.RowKit Num

theorem rv_Same (P : Int) (Q k : Nat) (hk : k ≤ 4611686018427387904) : Fb2 37 (SG P Q k) (SG P Q k) true :=
  fun n n' a d a' d' A D A' D' ca cd ca' cd' w hS hT r q r' q' => by
    obtain ⟨rfl, rfl, rfl⟩ := SG.same hS hT
    exact ref4_same_true n a d A D A' D' ca cd ca' cd' w r q r' q' (Nat.le_trans hS.2.1 hk) (Nat.le_trans hS.2.2 hk)
theorem rv_along {P P' R : Int} {Q Q' T i j l m k : Nat} (hQ : 0 < Q) (hQ' : 0 < Q') (hT : 0 < T) (hp : P.natAbs < 4294967296 ^ i) (hp' : P'.natAbs < 4294967296 ^ j) (hr : R.natAbs < 4294967296 ^ l) (hq : Q ≤ 4294967296 ^ i) (hq' : Q' ≤ 4294967296 ^ j) (ht : T ≤ 4294967296 ^ l) (hm : m ≤ 2097150) (hl : i + j + l + 2 ≤ m) (hk : i + i + j + l + 3 ≤ k) :
    Fn2 45 (SV P' Q' m) (SV P Q m) (SV (P' * (Q : Int) - P * (Q' : Int)) (Q' * Q) m) ∧ Fn2 44 (SV R T m) (SV (P' * (Q : Int) - P * (Q' : Int)) (Q' * Q) m) (SV (R * (P' * (Q : Int) - P * (Q' : Int))) (T * (Q' * Q)) m) ∧ Fn2 43 (SV P Q m) (SV (R * (P' * (Q : Int) - P * (Q' : Int))) (T * (Q' * Q)) m) (SG (alongN P P' R Q Q' T) (alongD Q Q' T) k) := by
  have n0 := sub_lt hp' hp hq' hq (s := i + j) (by omega) (by omega)
  have d0 := prod_le hq' hq (Nat.le_refl _)
  have n1 := mulI_lt hr n0 (Nat.le_refl _)
  have d1 := prod_le ht d0 (Nat.le_refl _)
  have n2 := sum_lt hp n1 hq d1 (s := i + i + j + l + 1) (by omega) (by omega)
  have d2 := prod_le hq d1 (Nat.le_refl _)
  have k0 := Nat.mul_pos hQ' hQ
  have k1 := Nat.mul_pos hT k0
  exact ⟨(rv_Sub P' P Q' Q m hQ' hQ hm).fit (m := m) k0 n0 (by omega) d0 (by omega), (rv_Mul R _ T _ m hT k0 (by omega)).fit (m := m) k1 n1 (by omega) d1 (by omega), (rv_Add P _ Q _ m hQ k1 hm).fitG (m := k) n2 (by omega) d2 (by omega)⟩
theorem half_same (P P' : Int) (Q Q' : Nat) : alongN P P' 1 Q Q' 2 * ((Q * Q' * 2 : Nat) : Int) = (P * (Q' : Int) + P' * (Q : Int)) * ((alongD Q Q' 2 : Nat) : Int) := by
  unfold alongN alongD
  simp only [Int.natCast_mul]
  grind
theorem alongD_pos {Q Q' T : Nat} (hQ : 0 < Q) (hQ' : 0 < Q') (hT : 0 < T) : 0 < alongD Q Q' T := Nat.mul_pos hQ (Nat.mul_pos hT (Nat.mul_pos hQ' hQ))

set_option maxRecDepth 100000 in
set_option maxHeartbeats 51200000 in
theorem walk_SpotWays (n1 n2 n3 n4 n5 : Bool) (a1 d1 a2 d2 a3 d3 a4 d4 a5 d5 : List Nat) (A1 D1 A2 D2 A3 D3 A4 D4 A5 D5 : Option Addr) (c1 e1 c2 e2 c3 e3 c4 e4 c5 e5 : Nat) (w : World) (r1 : Rd w (fun g => g < w.heap.size) .u32 A1 a1) (q1 : Rd w (fun g => g < w.heap.size) .u32 D1 d1) (r2 : Rd w (fun g => g < w.heap.size) .u32 A2 a2) (q2 : Rd w (fun g => g < w.heap.size) .u32 D2 d2) (r3 : Rd w (fun g => g < w.heap.size) .u32 A3 a3) (q3 : Rd w (fun g => g < w.heap.size) .u32 D3 d3) (r4 : Rd w (fun g => g < w.heap.size) .u32 A4 a4) (q4 : Rd w (fun g => g < w.heap.size) .u32 D4 d4) (r5 : Rd w (fun g => g < w.heap.size) .u32 A5 a5) (q5 : Rd w (fun g => g < w.heap.size) .u32 D5 d5) (hl : (a1.length + d1.length) + (a2.length + d2.length) + (a3.length + d3.length) + (a4.length + d4.length) + (a5.length + d5.length) ≤ 1048572) (hc1 : a1.length ≤ c1) (he1 : d1.length ≤ e1) (ga1 : Dg 4294967296 a1) (gd1 : Dg 4294967296 d1) (hc2 : a2.length ≤ c2) (he2 : d2.length ≤ e2) (ga2 : Dg 4294967296 a2) (gd2 : Dg 4294967296 d2) (hc3 : a3.length ≤ c3) (he3 : d3.length ≤ e3) (ga3 : Dg 4294967296 a3) (gd3 : Dg 4294967296 d3) (hc4 : a4.length ≤ c4) (he4 : d4.length ≤ e4) (ga4 : Dg 4294967296 a4) (gd4 : Dg 4294967296 d4) (hc5 : a5.length ≤ c5) (he5 : d5.length ≤ e5) (ga5 : Dg 4294967296 a5) (gd5 : Dg 4294967296 d5) (htab : Tab w) :
    Calls Tryz.prog 5 #[.agg #[.bool n1, .slice A1 a1.length c1, .slice D1 d1.length e1, .bool n2, .slice A2 a2.length c2, .slice D2 d2.length e2], .agg #[.bool n3, .slice A3 a3.length c3, .slice D3 d3.length e3, .bool n4, .slice A4 a4.length c4, .slice D4 d4.length e4], .agg #[.bool n5, .slice A5 a5.length c5, .slice D5 d5.length e5]] w fun e w' => e = .returned (.bool true) ∧ Below w.heap.size w w' := by
  have h1 := loD_pos d1
  have p1 : (upN n1 a1 d1).natAbs < 4294967296 ^ (a1.length + d1.length) := Nat.lt_of_lt_of_le (up_lt ga1) (Nat.pow_le_pow_right (by omega) (by omega))
  have y1 : loD d1 ≤ 4294967296 ^ (a1.length + d1.length) := Nat.le_trans (loD_le gd1) (Nat.pow_le_pow_right (by omega) (by omega))
  obtain ⟨P1, hP1⟩ : ∃ P, upN n1 a1 d1 = P := ⟨_, rfl⟩
  obtain ⟨Q1, hQ1⟩ : ∃ Q, loD d1 = Q := ⟨_, rfl⟩
  rw [hQ1] at h1 y1
  rw [hP1] at p1
  have h2 := loD_pos d2
  have p2 : (upN n2 a2 d2).natAbs < 4294967296 ^ (a2.length + d2.length) := Nat.lt_of_lt_of_le (up_lt ga2) (Nat.pow_le_pow_right (by omega) (by omega))
  have y2 : loD d2 ≤ 4294967296 ^ (a2.length + d2.length) := Nat.le_trans (loD_le gd2) (Nat.pow_le_pow_right (by omega) (by omega))
  obtain ⟨P2, hP2⟩ : ∃ P, upN n2 a2 d2 = P := ⟨_, rfl⟩
  obtain ⟨Q2, hQ2⟩ : ∃ Q, loD d2 = Q := ⟨_, rfl⟩
  rw [hQ2] at h2 y2
  rw [hP2] at p2
  have h3 := loD_pos d3
  have p3 : (upN n3 a3 d3).natAbs < 4294967296 ^ (a3.length + d3.length) := Nat.lt_of_lt_of_le (up_lt ga3) (Nat.pow_le_pow_right (by omega) (by omega))
  have y3 : loD d3 ≤ 4294967296 ^ (a3.length + d3.length) := Nat.le_trans (loD_le gd3) (Nat.pow_le_pow_right (by omega) (by omega))
  obtain ⟨P3, hP3⟩ : ∃ P, upN n3 a3 d3 = P := ⟨_, rfl⟩
  obtain ⟨Q3, hQ3⟩ : ∃ Q, loD d3 = Q := ⟨_, rfl⟩
  rw [hQ3] at h3 y3
  rw [hP3] at p3
  have h4 := loD_pos d4
  have p4 : (upN n4 a4 d4).natAbs < 4294967296 ^ (a4.length + d4.length) := Nat.lt_of_lt_of_le (up_lt ga4) (Nat.pow_le_pow_right (by omega) (by omega))
  have y4 : loD d4 ≤ 4294967296 ^ (a4.length + d4.length) := Nat.le_trans (loD_le gd4) (Nat.pow_le_pow_right (by omega) (by omega))
  obtain ⟨P4, hP4⟩ : ∃ P, upN n4 a4 d4 = P := ⟨_, rfl⟩
  obtain ⟨Q4, hQ4⟩ : ∃ Q, loD d4 = Q := ⟨_, rfl⟩
  rw [hQ4] at h4 y4
  rw [hP4] at p4
  have h5 := loD_pos d5
  have p5 : (upN n5 a5 d5).natAbs < 4294967296 ^ (a5.length + d5.length) := Nat.lt_of_lt_of_le (up_lt ga5) (Nat.pow_le_pow_right (by omega) (by omega))
  have y5 : loD d5 ≤ 4294967296 ^ (a5.length + d5.length) := Nat.le_trans (loD_le gd5) (Nat.pow_le_pow_right (by omega) (by omega))
  obtain ⟨P5, hP5⟩ : ∃ P, upN n5 a5 d5 = P := ⟨_, rfl⟩
  obtain ⟨Q5, hQ5⟩ : ∃ Q, loD d5 = Q := ⟨_, rfl⟩
  rw [hQ5] at h5 y5
  rw [hP5] at p5
  obtain ⟨u1, hu1⟩ : ∃ u, a1.length + d1.length = u := ⟨_, rfl⟩
  rw [hu1] at p1 y1
  obtain ⟨u2, hu2⟩ : ∃ u, a2.length + d2.length = u := ⟨_, rfl⟩
  rw [hu2] at p2 y2
  obtain ⟨u3, hu3⟩ : ∃ u, a3.length + d3.length = u := ⟨_, rfl⟩
  rw [hu3] at p3 y3
  obtain ⟨u4, hu4⟩ : ∃ u, a4.length + d4.length = u := ⟨_, rfl⟩
  rw [hu4] at p4 y4
  obtain ⟨u5, hu5⟩ : ∃ u, a5.length + d5.length = u := ⟨_, rfl⟩
  rw [hu5] at p5 y5
  have s1 : SI P1 Q1 (u1 + 1) n1 a1 c1 d1 e1 := ⟨hc1, he1, ga1, gd1, by omega, by omega, hP1, hQ1⟩
  have s2 : SI P2 Q2 (u2 + 1) n2 a2 c2 d2 e2 := ⟨hc2, he2, ga2, gd2, by omega, by omega, hP2, hQ2⟩
  have s3 : SI P3 Q3 (u3 + 1) n3 a3 c3 d3 e3 := ⟨hc3, he3, ga3, gd3, by omega, by omega, hP3, hQ3⟩
  have s4 : SI P4 Q4 (u4 + 1) n4 a4 c4 d4 e4 := ⟨hc4, he4, ga4, gd4, by omega, by omega, hP4, hQ4⟩
  have s5 : SI P5 Q5 (u5 + 1) n5 a5 c5 d5 e5 := ⟨hc5, he5, ga5, gd5, by omega, by omega, hP5, hQ5⟩
  have hu : u1 + u2 + u3 + u4 + u5 ≤ 1048572 := by omega
  obtain ⟨W, hW, k100, k101, k102, b0, s0⟩ := bxc w 28 28 26 [.bool n1, .slice A1 a1.length c1, .slice D1 d1.length e1, .bool n2, .slice A2 a2.length c2, .slice D2 d2.length e2] [.bool n3, .slice A3 a3.length c3, .slice D3 d3.length e3, .bool n4, .slice A4 a4.length c4, .slice D4 d4.length e4] [.bool n5, .slice A5 a5.length c5, .slice D5 d5.length e5]
  obtain ⟨⟨p00, p01, p02, p03, p04, p05⟩, -⟩ := k100.facts6
  obtain ⟨⟨p10, p11, p12, p13, p14, p15⟩, -⟩ := k101.facts6
  obtain ⟨p20, p21, p22, -, -, -⟩ := k102.facts
  have q1s : (1 : Int).natAbs < 4294967296 ^ 1 := by decide
  have q2s : 2 ≤ 4294967296 ^ 1 := by decide
  have t0 := fun (V : World) => (ref4_Half V).mono fun _ _ hh => (gv_of_f hh).imp fun _ _ _ _ _ k => (SF.toV (m := 1) (by omega) (by decide) (by decide) k).wide (m' := 2097150) (by omega)
  have t1 := fun (V : World) (hV : Below W.heap.size W V) => fv_SCmp (m := 4194304) (by omega) (Nat.le_refl _) h1 h2 h3 h4 n1 n2 n3 n4 a1 d1 a2 d2 a3 d3 a4 d4 A1 D1 A2 D2 A3 D3 A4 D4 c1 e1 c2 e2 c3 e3 c4 e4 V (s1.widen (by omega)) (s2.widen (by omega)) (s3.widen (by omega)) (s4.widen (by omega)) ((r1.on b0).on hV) ((q1.on b0).on hV) ((r2.on b0).on hV) ((q2.on b0).on hV) ((r3.on b0).on hV) ((q3.on b0).on hV) ((r4.on b0).on hV) ((q4.on b0).on hV)
  have t2 := fun (V : World) (hV : Below W.heap.size W V) => rv_SCmp (m := 2097152) (Nat.le_refl _) h1 h2 h3 h4 n1 n2 n3 n4 a1 d1 a2 d2 a3 d3 a4 d4 A1 D1 A2 D2 A3 D3 A4 D4 c1 e1 c2 e2 c3 e3 c4 e4 V (s1.widen (by omega)) (s2.widen (by omega)) (s3.widen (by omega)) (s4.widen (by omega)) ((r1.on b0).on hV) ((q1.on b0).on hV) ((r2.on b0).on hV) ((q2.on b0).on hV) ((r3.on b0).on hV) ((q3.on b0).on hV) ((r4.on b0).on hV) ((q4.on b0).on hV)
  obtain ⟨z, hz⟩ : ∃ z, lex (sgn (P1 * (Q3 : Int) - P3 * (Q1 : Int))) (sgn (P2 * (Q4 : Int) - P4 * (Q2 : Int))) = z := ⟨_, rfl⟩
  obtain ⟨b, hb⟩ : ∃ b, (z == 0) = b := ⟨_, rfl⟩
  have t3 := fun (V : World) (hV : Below W.heap.size W V) => spot_Same (show (lex (sgn (P1 * (Q3 : Int) - P3 * (Q1 : Int))) (sgn (P2 * (Q4 : Int) - P4 * (Q2 : Int))) == 0) = b by rw [hz]; exact hb) (fv_SCmp (m := 4194304) (by omega) (Nat.le_refl _) h1 h2 h3 h4) n1 n2 n3 n4 a1 d1 a2 d2 a3 d3 a4 d4 A1 D1 A2 D2 A3 D3 A4 D4 c1 e1 c2 e2 c3 e3 c4 e4 V (s1.widen (by omega)) (s2.widen (by omega)) (s3.widen (by omega)) (s4.widen (by omega)) ((r1.on b0).on hV) ((q1.on b0).on hV) ((r2.on b0).on hV) ((q2.on b0).on hV) ((r3.on b0).on hV) ((q3.on b0).on hV) ((r4.on b0).on hV) ((q4.on b0).on hV)
  simp only [hz] at t1 t2
  have t4 := fun (V : World) (hV : Below W.heap.size W V) => spot_Mid _ _ _ _ _ _ (fv_halfWay (m := 2097150) (k := 4194303) h1 h3 p1 p3 y1 y3 (by omega) (by omega) (by omega) (by omega)) (fv_halfWay (m := 2097150) (k := 4194303) h2 h4 p2 p4 y2 y4 (by omega) (by omega) (by omega) (by omega)) n1 n2 n3 n4 a1 d1 a2 d2 a3 d3 a4 d4 A1 D1 A2 D2 A3 D3 A4 D4 c1 e1 c2 e2 c3 e3 c4 e4 V (s1.widen (by omega)) (s2.widen (by omega)) (s3.widen (by omega)) (s4.widen (by omega)) ((r1.on b0).on hV) ((q1.on b0).on hV) ((r2.on b0).on hV) ((q2.on b0).on hV) ((r3.on b0).on hV) ((q3.on b0).on hV) ((r4.on b0).on hV) ((q4.on b0).on hV)
  obtain ⟨v0, v1, v2⟩ := rv_along (m := 2097150) (k := 4194303) h1 h3 (by omega : 0 < 2) p1 p3 q1s y1 y3 q2s (by omega) (by omega) (by omega)
  obtain ⟨v3, v4, v5⟩ := rv_along (m := 2097150) (k := 4194303) h2 h4 (by omega : 0 < 2) p2 p4 q1s y2 y4 q2s (by omega) (by omega) (by omega)
  have v2 := v2.convG (alongD_pos h1 h3 (by omega)) (Nat.mul_pos (Nat.mul_pos h1 h3) (by omega)) (half_same P1 P3 Q1 Q3)
  have v5 := v5.convG (alongD_pos h2 h4 (by omega)) (Nat.mul_pos (Nat.mul_pos h2 h4) (by omega)) (half_same P2 P4 Q2 Q4)
  have t5 := fun (V : World) (hV : Below W.heap.size W V) (n6 : Bool) (a6 d6 : List Nat) (A6 D6 : Option Addr) (c6 e6 : Nat) (s6 : SV 1 2 2097150 n6 a6 c6 d6 e6) (r6 : Rd V (fun g => g < V.heap.size) .u32 A6 a6) (q6 : Rd V (fun g => g < V.heap.size) .u32 D6 d6) => ref5_Toward _ _ _ _ _ _ _ _ _ _ _ v0 v1 v2 v3 v4 v5 n1 n2 n3 n4 n6 a1 d1 a2 d2 a3 d3 a4 d4 a6 d6 A1 D1 A2 D2 A3 D3 A4 D4 A6 D6 c1 e1 c2 e2 c3 e3 c4 e4 c6 e6 V (s1.widen (by omega)) (s2.widen (by omega)) (s3.widen (by omega)) (s4.widen (by omega)) s6 ((r1.on b0).on hV) ((q1.on b0).on hV) ((r2.on b0).on hV) ((q2.on b0).on hV) ((r3.on b0).on hV) ((q3.on b0).on hV) ((r4.on b0).on hV) ((q4.on b0).on hV) r6 q6
  have t6 := fun (V : World) (hV : Below W.heap.size W V) => spot_Toward _ _ _ _ _ _ _ (fv_along (m := 2097150) (k := 4194303) h1 h3 h5 p1 p3 p5 y1 y3 y5 (by omega) (by omega) (by omega) (by omega)) (fv_along (m := 2097150) (k := 4194303) h2 h4 h5 p2 p4 p5 y2 y4 y5 (by omega) (by omega) (by omega) (by omega)) n1 n2 n3 n4 n5 a1 d1 a2 d2 a3 d3 a4 d4 a5 d5 A1 D1 A2 D2 A3 D3 A4 D4 A5 D5 c1 e1 c2 e2 c3 e3 c4 e4 c5 e5 V (s1.widen (by omega)) (s2.widen (by omega)) (s3.widen (by omega)) (s4.widen (by omega)) (s5.widen (by omega)) ((r1.on b0).on hV) ((q1.on b0).on hV) ((r2.on b0).on hV) ((q2.on b0).on hV) ((r3.on b0).on hV) ((q3.on b0).on hV) ((r4.on b0).on hV) ((q4.on b0).on hV) ((r5.on b0).on hV) ((q5.on b0).on hV)
  obtain ⟨x0, x1, x2⟩ := rv_along (m := 2097150) (k := 4194303) h1 h3 h5 p1 p3 p5 y1 y3 y5 (by omega) (by omega) (by omega)
  obtain ⟨x3, x4, x5⟩ := rv_along (m := 2097150) (k := 4194303) h2 h4 h5 p2 p4 p5 y2 y4 y5 (by omega) (by omega) (by omega)
  have t7 := fun (V : World) (hV : Below W.heap.size W V) => ref5_Toward _ _ _ _ _ _ _ _ _ _ _ x0 x1 x2 x3 x4 x5 n1 n2 n3 n4 n5 a1 d1 a2 d2 a3 d3 a4 d4 a5 d5 A1 D1 A2 D2 A3 D3 A4 D4 A5 D5 c1 e1 c2 e2 c3 e3 c4 e4 c5 e5 V (s1.widen (by omega)) (s2.widen (by omega)) (s3.widen (by omega)) (s4.widen (by omega)) (s5.widen (by omega)) ((r1.on b0).on hV) ((q1.on b0).on hV) ((r2.on b0).on hV) ((q2.on b0).on hV) ((r3.on b0).on hV) ((q3.on b0).on hV) ((r4.on b0).on hV) ((q4.on b0).on hV) ((r5.on b0).on hV) ((q5.on b0).on hV)
  obtain ⟨N1, hN1⟩ : ∃ S, SG (P1 * (Q3 : Int) + P3 * (Q1 : Int)) (Q1 * Q3 * 2) 4194303 = S := ⟨_, rfl⟩
  obtain ⟨N2, hN2⟩ : ∃ S, SG (P2 * (Q4 : Int) + P4 * (Q2 : Int)) (Q2 * Q4 * 2) 4194303 = S := ⟨_, rfl⟩
  obtain ⟨N3, hN3⟩ : ∃ S, SG (alongN P1 P3 P5 Q1 Q3 Q5) (alongD Q1 Q3 Q5) 4194303 = S := ⟨_, rfl⟩
  obtain ⟨N4, hN4⟩ : ∃ S, SG (alongN P2 P4 P5 Q2 Q4 Q5) (alongD Q2 Q4 Q5) 4194303 = S := ⟨_, rfl⟩
  have t8 := ref5_Same (rv_Same (P1 * (Q3 : Int) + P3 * (Q1 : Int)) (Q1 * Q3 * 2) 4194303 (by omega)) (rv_Same (P2 * (Q4 : Int) + P4 * (Q2 : Int)) (Q2 * Q4 * 2) 4194303 (by omega))
  have t9 := ref5_Same (rv_Same (alongN P1 P3 P5 Q1 Q3 Q5) (alongD Q1 Q3 Q5) 4194303 (by omega)) (rv_Same (alongN P2 P4 P5 Q2 Q4 Q5) (alongD Q2 Q4 Q5) 4194303 (by omega))
  simp only [hN1, hN2] at t4 t5 t8
  simp only [hN3, hN4] at t6 t7 t9
  have t10 := fun (V : World) (hV : Below W.heap.size W V) => law5_lives V ((htab.on b0).on hV)
  have C0 := Lib.hid t0
  have C1 := Lib.hid t1
  have C2 := Lib.hid t2
  have C3 := Lib.hid t3
  have C4 := Lib.hid t4
  have C5 := Lib.hid t5
  have C6 := Lib.hid t6
  have C7 := Lib.hid t7
  have C8 := Lib.hid t8
  have C9 := Lib.hid t9
  have C10 := Lib.hid t10
  have HK0 := Lib.hid k100
  have HK1 := Lib.hid k101
  have HK2 := Lib.hid k102
  have HB := Lib.hid b0
  have hlt : w.heap.size + 2 < W.heap.size := by omega
  clear t0 t1 t2 t3 t4 t5 t6 t7 t8 t9 t10 hz v0 v1 v2 v3 v4 v5 x0 x1 x2 x3 x4 x5 q1s q2s s1 r1 q1 h1 p1 y1 hP1 hQ1 hu1 hc1 he1 ga1 gd1 s2 r2 q2 h2 p2 y2 hP2 hQ2 hu2 hc2 he2 ga2 gd2 s3 r3 q3 h3 p3 y3 hP3 hQ3 hu3 hc3 he3 ga3 gd3 s4 r4 q4 h4 p4 y4 hP4 hQ4 hu4 hc4 he4 ga4 gd4 s5 r5 q5 h5 p5 y5 hP5 hQ5 hu5 hc5 he5 ga5 gd5 hu hl htab b0 k100 k101 k102 s0 hN1 hN2 hN3 hN4
  go_enter Tryz.func5, Tryz.ntmps5
  go_wp2_with fail
  try rw [hW]
  clear hW
  refine (C0.out _).mono ?_
  rintro e w1 ⟨n6, a6, A6, c6, d6, D6, e6, rfl, s6, r6, q6, b1⟩
  obtain ⟨V, hV, kV, bV, sV⟩ := bxa w1 26 [.bool n6, .slice A6 a6.length c6, .slice D6 d6.length e6]
  have HV := Lib.hid hV
  have J3 := Lib.hid kV
  have BV : Below W.heap.size W V := b1.trans (bV.mono b1.size)
  have J0 := Lib.hid (HK0.out.on BV)
  have J1 := Lib.hid (HK1.out.on BV)
  have J2 := Lib.hid (HK2.out.on BV)
  have r6 := r6.on bV
  have q6 := q6.on bV
  have hsz := b1.size
  have hlV : w1.heap.size < V.heap.size := by omega
  clear hV kV b1 bV sV
  go_wp2_with fail
  try rw [HV.out]
  have K0 : Below V.heap.size V V.drew := below_drewN (Below.refl _ _) 1
  obtain ⟨p00, p01, p02, p03, p04, p05⟩ := kept6 J0.out (Below.refl _ _)
  obtain ⟨p10, p11, p12, p13, p14, p15⟩ := kept6 J1.out (Below.refl _ _)
  obtain ⟨p20, p21, p22⟩ := keep3 J2.out (Below.refl _ _)
  obtain ⟨p30, p31, p32⟩ := keep3 J3.out (Below.refl _ _)
  go_region_held3 (fun w' => (w'.cell? ⟨w.heap.size, 0, none⟩ = some (.bool n1) ∧ w'.cell? ⟨w.heap.size, 1, none⟩ = some (.slice A1 a1.length c1) ∧ w'.cell? ⟨w.heap.size, 2, none⟩ = some (.slice D1 d1.length e1) ∧ w'.cell? ⟨w.heap.size, 3, none⟩ = some (.bool n2) ∧ w'.cell? ⟨w.heap.size, 4, none⟩ = some (.slice A2 a2.length c2) ∧ w'.cell? ⟨w.heap.size, 5, none⟩ = some (.slice D2 d2.length e2)) ∧ (w'.cell? ⟨w.heap.size + 1, 0, none⟩ = some (.bool n3) ∧ w'.cell? ⟨w.heap.size + 1, 1, none⟩ = some (.slice A3 a3.length c3) ∧ w'.cell? ⟨w.heap.size + 1, 2, none⟩ = some (.slice D3 d3.length e3) ∧ w'.cell? ⟨w.heap.size + 1, 3, none⟩ = some (.bool n4) ∧ w'.cell? ⟨w.heap.size + 1, 4, none⟩ = some (.slice A4 a4.length c4) ∧ w'.cell? ⟨w.heap.size + 1, 5, none⟩ = some (.slice D4 d4.length e4)) ∧ (w'.cell? ⟨w.heap.size + 1 + 1, 0, none⟩ = some (.bool n5) ∧ w'.cell? ⟨w.heap.size + 1 + 1, 1, none⟩ = some (.slice A5 a5.length c5) ∧ w'.cell? ⟨w.heap.size + 1 + 1, 2, none⟩ = some (.slice D5 d5.length e5)) ∧ (w'.cell? ⟨w1.heap.size, 0, none⟩ = some (.bool n6) ∧ w'.cell? ⟨w1.heap.size, 1, none⟩ = some (.slice A6 a6.length c6) ∧ w'.cell? ⟨w1.heap.size, 2, none⟩ = some (.slice D6 d6.length e6)))
    (first | (with_reducible exact ⟨kept6 J0.out K0, kept6 J1.out K0, keep3 J2.out K0, keep3 J3.out K0⟩) | (with_reducible exact ⟨kept6 J0.out K1, kept6 J1.out K1, keep3 J2.out K1, keep3 J3.out K1⟩) | (with_reducible exact ⟨kept6 J0.out K2, kept6 J1.out K2, keep3 J2.out K2, keep3 J3.out K2⟩) | (with_reducible exact ⟨kept6 J0.out K3, kept6 J1.out K3, keep3 J2.out K3, keep3 J3.out K3⟩) | (with_reducible exact ⟨kept6 J0.out K4, kept6 J1.out K4, keep3 J2.out K4, keep3 J3.out K4⟩) | (with_reducible exact ⟨kept6 J0.out K5, kept6 J1.out K5, keep3 J2.out K5, keep3 J3.out K5⟩) | (with_reducible exact ⟨kept6 J0.out K6, kept6 J1.out K6, keep3 J2.out K6, keep3 J3.out K6⟩) | (with_reducible exact ⟨kept6 J0.out K7, kept6 J1.out K7, keep3 J2.out K7, keep3 J3.out K7⟩) | (with_reducible exact ⟨kept6 J0.out K8, kept6 J1.out K8, keep3 J2.out K8, keep3 J3.out K8⟩) | (with_reducible exact ⟨kept6 J0.out K9, kept6 J1.out K9, keep3 J2.out K9, keep3 J3.out K9⟩) | (with_reducible exact ⟨kept6 J0.out K10, kept6 J1.out K10, keep3 J2.out K10, keep3 J3.out K10⟩) | (with_reducible exact ⟨kept6 J0.out K11, kept6 J1.out K11, keep3 J2.out K11, keep3 J3.out K11⟩) | go_keep)
    ((first
      | (go_at_call 18; (with_reducible refine Calls.mono (C1.out _ (BV.trans (K0.mono BV.size))) ?_); rintro e u1 ⟨rfl, f1⟩; have K1 := below_next K0 (Nat.le_refl _) f1)
      | (go_at_call 19; first | ((with_reducible refine Calls.mono (C2.out _ (BV.trans (K3.mono BV.size))) ?_); rintro e u4 ⟨rfl, f4⟩; have K4 := below_next K3 (Nat.le_refl _) f4) | ((with_reducible refine Calls.mono (C2.out _ (BV.trans (K1.mono BV.size))) ?_); rintro e u2 ⟨rfl, f2⟩; have K2 := below_next K1 (Nat.le_refl _) f2))
      | (go_at_call 20; (with_reducible refine Calls.mono (C3.out _ (BV.trans (K2.mono BV.size))) ?_); rintro e u3 ⟨rfl, f3⟩; have K3 := below_next K2 (Nat.le_refl _) f3)
      | (go_at_call 21; (with_reducible refine Calls.mono (C4.out _ (BV.trans (K4.mono BV.size))) ?_); rintro e u5 ⟨n61, a61, A61, c61, d61, D61, e61, n62, a62, A62, c62, d62, D62, e62, rfl, ⟨s61, s62⟩, ⟨r61, q61⟩, ⟨r62, q62⟩, f5⟩; have K5 := below_next K4 (Nat.le_refl _) f5)
      | (go_at_call_of 22 (Value.slice A6 a6.length c6); (with_reducible refine Calls.mono (C5.out _ (BV.trans (K5.mono BV.size)) n6 a6 d6 A6 D6 c6 e6 s6 (r6.on K5) (q6.on K5)) ?_); rintro e u6 ⟨n63, a63, A63, c63, d63, D63, e63, n64, a64, A64, c64, d64, D64, e64, rfl, ⟨s63, s64⟩, ⟨r63, q63⟩, ⟨r64, q64⟩, f6⟩; have K6 := below_next K5 (Nat.le_refl _) f6; have r61 := r61.on f6; have q61 := q61.on f6; have r62 := r62.on f6; have q62 := q62.on f6)
      | (go_at_call_of 15 (Value.slice A61 a61.length c61); (with_reducible refine Calls.mono (C8.out n61 n62 n63 n64 a61 d61 a62 d62 a63 d63 a64 d64 A61 D61 A62 D62 A63 D63 A64 D64 c61 e61 c62 e62 c63 e63 c64 e64 _ s61 s62 s63 s64 r61 q61 r62 q62 r63 q63 r64 q64) ?_); rintro e u7 ⟨rfl, f7⟩; have K7 := below_next K6 (Nat.le_refl _) f7)
      | (go_at_call 23; (with_reducible refine Calls.mono (C6.out _ (BV.trans (K7.mono BV.size))) ?_); rintro e u8 ⟨n65, a65, A65, c65, d65, D65, e65, n66, a66, A66, c66, d66, D66, e66, rfl, ⟨s65, s66⟩, ⟨r65, q65⟩, ⟨r66, q66⟩, f8⟩; have K8 := below_next K7 (Nat.le_refl _) f8)
      | (go_at_call_of 22 (Value.slice A5 a5.length c5); (with_reducible refine Calls.mono (C7.out _ (BV.trans (K8.mono BV.size))) ?_); rintro e u9 ⟨n67, a67, A67, c67, d67, D67, e67, n68, a68, A68, c68, d68, D68, e68, rfl, ⟨s67, s68⟩, ⟨r67, q67⟩, ⟨r68, q68⟩, f9⟩; have K9 := below_next K8 (Nat.le_refl _) f9; have r65 := r65.on f9; have q65 := q65.on f9; have r66 := r66.on f9; have q66 := q66.on f9)
      | (go_at_call_of 15 (Value.slice A65 a65.length c65); (with_reducible refine Calls.mono (C9.out n65 n66 n67 n68 a65 d65 a66 d66 a67 d67 a68 d68 A65 D65 A66 D66 A67 D67 A68 D68 c65 e65 c66 e66 c67 e67 c68 e68 _ s65 s66 s67 s68 r65 q65 r66 q66 r67 q67 r68 q68) ?_); rintro e u10 ⟨rfl, f10⟩; have K10 := below_next K9 (Nat.le_refl _) f10)
      | (go_at_call 11; (with_reducible refine Calls.mono (C10.out _ (BV.trans (K10.mono BV.size))) ?_); rintro e u11 ⟨rfl, f11⟩; have K11 := below_next K10 (Nat.le_refl _) f11)))
  go_wp2_with fail
  go_ret
  exact ⟨rfl, HB.out.trans ((BV.trans (K11.mono BV.size)).mono HB.out.size)⟩
end Go.Proofs.YtkgedgaddpojkaaGreatDoor
