/- Spots: contracts by what the parts are worth. -/
import Derived.Test.YtkgedgaddpojkaaGreatDoorSpM
import Derived.Test.YtkgedgaddpojkaaGreatDoorSpE
namespace Go.Proofs.YtkgedgaddpojkaaGreatDoor
open Go.RowKit Num

theorem SI.widen {P : Int} {Q m m' : Nat} (hm : m ≤ m') {n : Bool} {a d : List Nat} {ca cd : Nat} (k : SI P Q m n a ca d cd) : SV P Q m' n a ca d cd := k.toV.wide hm
theorem fv_Cmp (P P' : Int) (Q Q' m : Nat) (hQ : 0 < Q) (hQ' : 0 < Q') (hm1 : 1 ≤ m) (hm : m ≤ 4194304) : Fi2 40 (SV P Q m) (SV P' Q' m) (sgn (P * (Q' : Int) - P' * (Q : Int))) :=
  fun n n' a d a' d' A D A' D' ca cd ca' cd' w hS hT r q r' q' => frac_Cmp (SV P Q m) (SV P' Q' m) P P' Q Q' m hQ hQ' hm (hold_V P Q m hm1 hm) (hold_V P' Q' m hm1 hm) n n' a d a' d' A D A' D' ca cd ca' cd' w hS hT r q r' q'
theorem rv_Cmp (P P' : Int) (Q Q' m : Nat) (hQ : 0 < Q) (hQ' : 0 < Q') (hm : m ≤ 2097152) : Fi2 41 (SV P Q m) (SV P' Q' m) (sgn (P * (Q' : Int) - P' * (Q : Int))) :=
  fun n n' a d a' d' A D A' D' ca cd ca' cd' w hS hT r q r' q' => by
    have h := ref4_Cmp n n' a d a' d' A D A' D' ca cd ca' cd' w r q r' q' (Nat.le_trans hS.2.2.2.2.1 hm) (Nat.le_trans hS.2.2.2.2.2.1 hm) (Nat.le_trans hT.2.2.2.2.1 hm) (Nat.le_trans hT.2.2.2.2.2.1 hm) hS.2.2.1 hS.2.2.2.1 hT.2.2.1 hT.2.2.2.1
    have p1 := loD_pos d
    have p2 := loD_pos d'
    rwa [sgn_cross (y := (loD d : Int) * (loD d' : Int)) (Q := (Q : Int) * (Q' : Int)) (Int.mul_pos (by omega) (by omega)) (Int.mul_pos (by omega) (by omega)) (cross_sub hS.2.2.2.2.2.2 hT.2.2.2.2.2.2)] at h
theorem rv_Sign (P : Int) (Q m : Nat) (hQ : 0 < Q) (hm : m ≤ 4194304) : Fi1 30 (SV P Q m) (sgn P) :=
  fun n a d A D ca cd w hS r q => by
    have h := ref4_Sign n a d A D ca cd w r q (Nat.le_trans hS.2.2.2.2.1 hm) (Nat.le_trans hS.2.2.2.2.2.1 hm) hS.2.2.1 hS.2.2.2.1
    have p1 := loD_pos d
    rwa [sgn_cross (y := (loD d : Int)) (Q := (Q : Int)) (by omega) (by omega) hS.2.2.2.2.2.2] at h
/-- a result that is not too great -/
theorem Fn2.fit {f : FuncId} {S S' : Shape} {P : Int} {Q m : Nat} (h : Fn2 f S S' (SF P Q)) (hQ : 0 < Q) {i j : Nat} (hP : P.natAbs < 4294967296 ^ i) (hi : i ≤ m) (hm : Q ≤ 4294967296 ^ j) (hj : j < m) : Fn2 f S S' (SV P Q m) :=
  h.imp (fun _ _ _ _ _ k => k) (fun _ _ _ _ _ k => k) fun _ _ _ _ _ k => k.toV hQ (Nat.lt_of_lt_of_le hP (Nat.pow_le_pow_right (by omega) hi)) (lt_of_le_pow hm hj)
theorem Fi2.pre {f : FuncId} {S T S' T' : Shape} {z : Int} (h : Fi2 f S T z) (hs : ∀ n a ca d cd, S' n a ca d cd → S n a ca d cd) (ht : ∀ n a ca d cd, T' n a ca d cd → T n a ca d cd) : Fi2 f S' T' z :=
  fun n n' a d a' d' A D A' D' ca cd ca' cd' w hS hT r q r' q' => h n n' a d a' d' A D A' D' ca cd ca' cd' w (hs _ _ _ _ _ hS) (ht _ _ _ _ _ hT) r q r' q'

set_option maxHeartbeats 1600000 in
/-- the sign of the area, as the document reckons it -/
theorem rv_Turn {P1 P2 P3 P4 P5 P6 : Int} {Q1 Q2 Q3 Q4 Q5 Q6 u1 u2 u3 u4 u5 u6 : Nat} (hu : u1 + u2 + u3 + u4 + u5 + u6 ≤ 1048570) (p1 : P1.natAbs < 4294967296 ^ u1) (p2 : P2.natAbs < 4294967296 ^ u2) (p3 : P3.natAbs < 4294967296 ^ u3) (p4 : P4.natAbs < 4294967296 ^ u4) (p5 : P5.natAbs < 4294967296 ^ u5) (p6 : P6.natAbs < 4294967296 ^ u6) (q1 : Q1 ≤ 4294967296 ^ u1) (q2 : Q2 ≤ 4294967296 ^ u2) (q3 : Q3 ≤ 4294967296 ^ u3) (q4 : Q4 ≤ 4294967296 ^ u4) (q5 : Q5 ≤ 4294967296 ^ u5) (q6 : Q6 ≤ 4294967296 ^ u6) (h1 : 0 < Q1) (h2 : 0 < Q2) (h3 : 0 < Q3) (h4 : 0 < Q4) (h5 : 0 < Q5) (h6 : 0 < Q6) :
    Si3 8 (SV P1 Q1 2097150) (SV P2 Q2 2097150) (SV P3 Q3 2097150) (SV P4 Q4 2097150) (SV P5 Q5 2097150) (SV P6 Q6 2097150) (sgn (det P1 P2 P3 P4 P5 P6 Q1 Q2 Q3 Q4 Q5 Q6)) := by
  have n0 := sub_lt p4 p6 q4 q6 (s := u4 + u6) (by omega) (by omega)
  have d0 := prod_le q4 q6 (Nat.le_refl _)
  have n1 := mulI_lt p1 n0 (Nat.le_refl _)
  have d1 := prod_le q1 d0 (Nat.le_refl _)
  have n2 := sub_lt p6 p2 q6 q2 (s := u6 + u2) (by omega) (by omega)
  have d2 := prod_le q6 q2 (Nat.le_refl _)
  have n3 := mulI_lt p3 n2 (Nat.le_refl _)
  have d3 := prod_le q3 d2 (Nat.le_refl _)
  have n4 := sum_lt n1 n3 d1 d3 (s := u1 + u3 + u6 + u6 + u4 + u2 + 1) (by omega) (by omega)
  have d4 := prod_le d1 d3 (Nat.le_refl _)
  have n5 := sub_lt p2 p4 q2 q4 (s := u2 + u4) (by omega) (by omega)
  have d5 := prod_le q2 q4 (Nat.le_refl _)
  have n6 := mulI_lt p5 n5 (Nat.le_refl _)
  have d6 := prod_le q5 d5 (Nat.le_refl _)
  have n7 := sum_lt n4 n6 d4 d6 (s := 4000000) (by omega) (by omega)
  have d7 := prod_le d4 d6 (Nat.le_refl _)
  have k0 := Nat.mul_pos h4 h6
  have k1 := Nat.mul_pos h1 k0
  have k2 := Nat.mul_pos h6 h2
  have k3 := Nat.mul_pos h3 k2
  have k4 := Nat.mul_pos k1 k3
  have k5 := Nat.mul_pos h2 h4
  have k6 := Nat.mul_pos h5 k5
  have k7 := Nat.mul_pos k4 k6
  have x0 := (rv_Sub P4 P6 Q4 Q6 2097150 h4 h6 (by omega)).fit (m := 2097150) k0 n0 (by omega) d0 (by omega)
  have x1 := (rv_Mul P1 _ Q1 _ 2097150 h1 k0 (by omega)).fit (m := 2097150) k1 n1 (by omega) d1 (by omega)
  have x2 := (rv_Sub P6 P2 Q6 Q2 2097150 h6 h2 (by omega)).fit (m := 2097150) k2 n2 (by omega) d2 (by omega)
  have x3 := (rv_Mul P3 _ Q3 _ 2097150 h3 k2 (by omega)).fit (m := 2097150) k3 n3 (by omega) d3 (by omega)
  have x4 := (rv_Add _ _ _ _ 2097150 k1 k3 (by omega)).fit (m := 2097150) k4 n4 (by omega) d4 (by omega)
  have x5 := (rv_Sub P2 P4 Q2 Q4 2097150 h2 h4 (by omega)).fit (m := 2097150) k5 n5 (by omega) d5 (by omega)
  have x6 := (rv_Mul P5 _ Q5 _ 2097150 h5 k5 (by omega)).fit (m := 2097150) k6 n6 (by omega) d6 (by omega)
  have x7 := (rv_Add _ _ _ _ 2097150 k4 k6 (by omega)).fit (m := 4194304) k7 n7 (by omega) d7 (by omega)
  have hT := ref5_Turn (ref5_Area x0 x1 x2 x3 x4 x5 x6 x7) (rv_Sign _ _ 4194304 k7 (Nat.le_refl _))
  have e := area_sgn (P1 := P1) (P2 := P2) (P3 := P3) (P4 := P4) (P5 := P5) (P6 := P6) (Q1 := Q1) (Q3 := Q3) (Q5 := Q5) h2 h4 h6
  unfold areaN at e
  rwa [e] at hT
/-- how two spots stand -/
theorem fv_SCmp {P1 P2 P3 P4 : Int} {Q1 Q2 Q3 Q4 m : Nat} (hm1 : 1 ≤ m) (hm : m ≤ 4194304) (h1 : 0 < Q1) (h2 : 0 < Q2) (h3 : 0 < Q3) (h4 : 0 < Q4) : Si2 18 (SV P1 Q1 m) (SV P2 Q2 m) (SV P3 Q3 m) (SV P4 Q4 m) (lex (sgn (P1 * (Q3 : Int) - P3 * (Q1 : Int))) (sgn (P2 * (Q4 : Int) - P4 * (Q2 : Int)))) :=
  spot_Cmp (fv_Cmp P1 P3 Q1 Q3 m h1 h3 hm1 hm) (fv_Cmp P2 P4 Q2 Q4 m h2 h4 hm1 hm)
theorem rv_SCmp {P1 P2 P3 P4 : Int} {Q1 Q2 Q3 Q4 m : Nat} (hm : m ≤ 2097152) (h1 : 0 < Q1) (h2 : 0 < Q2) (h3 : 0 < Q3) (h4 : 0 < Q4) : Si2 19 (SV P1 Q1 m) (SV P2 Q2 m) (SV P3 Q3 m) (SV P4 Q4 m) (lex (sgn (P1 * (Q3 : Int) - P3 * (Q1 : Int))) (sgn (P2 * (Q4 : Int) - P4 * (Q2 : Int)))) :=
  ref5_Cmp (rv_Cmp P1 P3 Q1 Q3 m h1 h3 hm) (rv_Cmp P2 P4 Q2 Q4 m h2 h4 hm)
/-- is a spot on a way: what both ask -/
def onB (P1 P2 P3 P4 P5 P6 : Int) (Q1 Q2 Q3 Q4 Q5 Q6 : Nat) : Bool := decide (0 ≤ lex (sgn (P1 * (Q5 : Int) - P5 * (Q1 : Int))) (sgn (P2 * (Q6 : Int) - P6 * (Q2 : Int))) * lex (sgn (P5 * (Q3 : Int) - P3 * (Q5 : Int))) (sgn (P6 * (Q4 : Int) - P4 * (Q6 : Int)))) && (sgn (det P1 P2 P3 P4 P5 P6 Q1 Q2 Q3 Q4 Q5 Q6) == 0)
theorem rv_On {P1 P2 P3 P4 P5 P6 : Int} {Q1 Q2 Q3 Q4 Q5 Q6 u1 u2 u3 u4 u5 u6 : Nat} (hu : u1 + u2 + u3 + u4 + u5 + u6 ≤ 1048570) (p1 : P1.natAbs < 4294967296 ^ u1) (p2 : P2.natAbs < 4294967296 ^ u2) (p3 : P3.natAbs < 4294967296 ^ u3) (p4 : P4.natAbs < 4294967296 ^ u4) (p5 : P5.natAbs < 4294967296 ^ u5) (p6 : P6.natAbs < 4294967296 ^ u6) (q1 : Q1 ≤ 4294967296 ^ u1) (q2 : Q2 ≤ 4294967296 ^ u2) (q3 : Q3 ≤ 4294967296 ^ u3) (q4 : Q4 ≤ 4294967296 ^ u4) (q5 : Q5 ≤ 4294967296 ^ u5) (q6 : Q6 ≤ 4294967296 ^ u6) (h1 : 0 < Q1) (h2 : 0 < Q2) (h3 : 0 < Q3) (h4 : 0 < Q4) (h5 : 0 < Q5) (h6 : 0 < Q6) : Sb3 10 (SV P1 Q1 2097150) (SV P2 Q2 2097150) (SV P3 Q3 2097150) (SV P4 Q4 2097150) (SV P5 Q5 2097150) (SV P6 Q6 2097150) (onB P1 P2 P3 P4 P5 P6 Q1 Q2 Q3 Q4 Q5 Q6) := by
  refine ref5_On ?_ (rv_Turn hu p1 p2 p3 p4 p5 p6 q1 q2 q3 q4 q5 q6 h1 h2 h3 h4 h5 h6)
    (ref5_between (sgn_three _) (sgn_three _) rfl (rv_Cmp P1 P5 Q1 Q5 2097150 h1 h5 (by omega)) (rv_Cmp P3 P5 Q3 Q5 2097150 h3 h5 (by omega)))
    (ref5_between (sgn_three _) (sgn_three _) rfl (rv_Cmp P2 P6 Q2 Q6 2097150 h2 h6 (by omega)) (rv_Cmp P4 P6 Q4 Q6 2097150 h4 h6 (by omega)))
  unfold onB
  by_cases hd : sgn (det P1 P2 P3 P4 P5 P6 Q1 Q2 Q3 Q4 Q5 Q6) = 0
  · rw [decide_eq_decide.2 (on_same h1 h2 h3 h4 hd), hd, Bool.decide_and]
    simp
  · have e : (sgn (det P1 P2 P3 P4 P5 P6 Q1 Q2 Q3 Q4 Q5 Q6) == 0) = false := by simpa using hd
    rw [e]; simp
set_option maxHeartbeats 800000 in
/-- the program's own On, of parts just as they are handed in -/
theorem fv_On {P1 P2 P3 P4 P5 P6 : Int} {Q1 Q2 Q3 Q4 Q5 Q6 m1 m2 m3 m4 m5 m6 : Nat} (g1 : 1 ≤ m1) (g2 : 1 ≤ m2) (g3 : 1 ≤ m3) (g4 : 1 ≤ m4) (g5 : 1 ≤ m5) (g6 : 1 ≤ m6) (hm : m1 + m2 + m3 + m4 + m5 + m6 ≤ 4194304) (h1 : 0 < Q1) (h2 : 0 < Q2) (h3 : 0 < Q3) (h4 : 0 < Q4) (h5 : 0 < Q5) (h6 : 0 < Q6) : Sb3 9 (SI P1 Q1 m1) (SI P2 Q2 m2) (SI P3 Q3 m3) (SI P4 Q4 m4) (SI P5 Q5 m5) (SI P6 Q6 m6) (onB P1 P2 P3 P4 P5 P6 Q1 Q2 Q3 Q4 Q5 Q6) := by
  have c1 : Si2 18 (SI P1 Q1 m1) (SI P2 Q2 m2) (SI P5 Q5 m5) (SI P6 Q6 m6) (lex (sgn (P1 * (Q5 : Int) - P5 * (Q1 : Int))) (sgn (P2 * (Q6 : Int) - P6 * (Q2 : Int)))) := spot_Cmp ((fv_Cmp P1 P5 Q1 Q5 4194304 h1 h5 (by omega) (Nat.le_refl _)).pre (fun _ _ _ _ _ => SI.widen (by omega)) (fun _ _ _ _ _ => SI.widen (by omega))) ((fv_Cmp P2 P6 Q2 Q6 4194304 h2 h6 (by omega) (Nat.le_refl _)).pre (fun _ _ _ _ _ => SI.widen (by omega)) (fun _ _ _ _ _ => SI.widen (by omega)))
  have c2 : Si2 18 (SI P5 Q5 m5) (SI P6 Q6 m6) (SI P3 Q3 m3) (SI P4 Q4 m4) (lex (sgn (P5 * (Q3 : Int) - P3 * (Q5 : Int))) (sgn (P6 * (Q4 : Int) - P4 * (Q6 : Int)))) := spot_Cmp ((fv_Cmp P5 P3 Q5 Q3 4194304 h5 h3 (by omega) (Nat.le_refl _)).pre (fun _ _ _ _ _ => SI.widen (by omega)) (fun _ _ _ _ _ => SI.widen (by omega))) ((fv_Cmp P6 P4 Q6 Q4 4194304 h6 h4 (by omega) (Nat.le_refl _)).pre (fun _ _ _ _ _ => SI.widen (by omega)) (fun _ _ _ _ _ => SI.widen (by omega)))
  refine spot_On (lex_three (sgn_three _) (sgn_three _)) (lex_three (sgn_three _) (sgn_three _)) ?_ ?_ c1 c2 (fun n1 n2 n3 n4 n5 n6 a1 d1 a2 d2 a3 d3 a4 d4 a5 d5 a6 d6 A1 D1 A2 D2 A3 D3 A4 D4 A5 D5 A6 D6 c1 e1 c2 e2 c3 e3 c4 e4 c5 e5 c6 e6 w s1 s2 s3 s4 s5 s6 r1 q1 r2 q2 r3 q3 r4 q4 r5 q5 r6 q6 => spot_Turn g1 g2 g3 g4 g5 g6 hm n1 n2 n3 n4 n5 n6 a1 d1 a2 d2 a3 d3 a4 d4 a5 d5 a6 d6 A1 D1 A2 D2 A3 D3 A4 D4 A5 D5 A6 D6 c1 e1 c2 e2 c3 e3 c4 e4 c5 e5 c6 e6 w s1 s2 s3 s4 s5 s6 r1 q1 r2 q2 r3 q3 r4 q4 r5 q5 r6 q6)
  · intro h
    unfold onB
    rw [decide_eq_true h, Bool.true_and]
  · intro h
    unfold onB
    rw [decide_eq_false (by omega), Bool.false_and]
end Go.Proofs.YtkgedgaddpojkaaGreatDoor
