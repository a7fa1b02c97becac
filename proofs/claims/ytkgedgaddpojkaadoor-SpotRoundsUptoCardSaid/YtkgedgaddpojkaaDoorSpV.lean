/- Spots: contracts by what the parts are worth. -/
import Derived.Test.YtkgedgaddpojkaaDoorSpM
import Derived.Test.YtkgedgaddpojkaaDoorSpE
namespace Go.Proofs.YtkgedgaddpojkaaDoor
open Go.RowKit Num

theorem SI.widen {P : Int} {Q m m' : Nat} (hm : m ≤ m') {n : Bool} {a d : List Nat} {ca cd : Nat} (k : SI P Q m n a ca d cd) : SV P Q m' n a ca d cd := k.toV.wide hm
theorem fv_Cmp (P P' : Int) (Q Q' m : Nat) (hQ : 0 < Q) (hQ' : 0 < Q') (hm1 : 1 ≤ m) (hm : m ≤ 4194304) : Fi2 25 (SV P Q m) (SV P' Q' m) (sgn (P * (Q' : Int) - P' * (Q : Int))) :=
  fun n n' a d a' d' A D A' D' ca cd ca' cd' w hS hT r q r' q' => frac_Cmp (SV P Q m) (SV P' Q' m) P P' Q Q' m hQ hQ' hm (hold_V P Q m hm1 hm) (hold_V P' Q' m hm1 hm) n n' a d a' d' A D A' D' ca cd ca' cd' w hS hT r q r' q'
/-- a result that is not too great -/
theorem Fn2.fit {f : FuncId} {S S' : Shape} {P : Int} {Q m : Nat} (h : Fn2 f S S' (SF P Q)) (hQ : 0 < Q) {i j : Nat} (hP : P.natAbs < 4294967296 ^ i) (hi : i ≤ m) (hm : Q ≤ 4294967296 ^ j) (hj : j < m) : Fn2 f S S' (SV P Q m) :=
  h.imp (fun _ _ _ _ _ k => k) (fun _ _ _ _ _ k => k) fun _ _ _ _ _ k => k.toV hQ (Nat.lt_of_lt_of_le hP (Nat.pow_le_pow_right (by omega) hi)) (lt_of_le_pow hm hj)
theorem Fi2.pre {f : FuncId} {S T S' T' : Shape} {z : Int} (h : Fi2 f S T z) (hs : ∀ n a ca d cd, S' n a ca d cd → S n a ca d cd) (ht : ∀ n a ca d cd, T' n a ca d cd → T n a ca d cd) : Fi2 f S' T' z :=
  fun n n' a d a' d' A D A' D' ca cd ca' cd' w hS hT r q r' q' => h n n' a d a' d' A D A' D' ca cd ca' cd' w (hs _ _ _ _ _ hS) (ht _ _ _ _ _ hT) r q r' q'

/-- how two spots stand -/
theorem fv_SCmp {P1 P2 P3 P4 : Int} {Q1 Q2 Q3 Q4 m : Nat} (hm1 : 1 ≤ m) (hm : m ≤ 4194304) (h1 : 0 < Q1) (h2 : 0 < Q2) (h3 : 0 < Q3) (h4 : 0 < Q4) : Si2 13 (SV P1 Q1 m) (SV P2 Q2 m) (SV P3 Q3 m) (SV P4 Q4 m) (lex (sgn (P1 * (Q3 : Int) - P3 * (Q1 : Int))) (sgn (P2 * (Q4 : Int) - P4 * (Q2 : Int)))) :=
  spot_Cmp (fv_Cmp P1 P3 Q1 Q3 m h1 h3 hm1 hm) (fv_Cmp P2 P4 Q2 Q4 m h2 h4 hm1 hm)
/-- is a spot on a way: what both ask -/
def onB (P1 P2 P3 P4 P5 P6 : Int) (Q1 Q2 Q3 Q4 Q5 Q6 : Nat) : Bool := decide (0 ≤ lex (sgn (P1 * (Q5 : Int) - P5 * (Q1 : Int))) (sgn (P2 * (Q6 : Int) - P6 * (Q2 : Int))) * lex (sgn (P5 * (Q3 : Int) - P3 * (Q5 : Int))) (sgn (P6 * (Q4 : Int) - P4 * (Q6 : Int)))) && (sgn (det P1 P2 P3 P4 P5 P6 Q1 Q2 Q3 Q4 Q5 Q6) == 0)
set_option maxHeartbeats 800000 in
/-- the program's own On, of parts just as they are handed in -/
theorem fv_On {P1 P2 P3 P4 P5 P6 : Int} {Q1 Q2 Q3 Q4 Q5 Q6 m1 m2 m3 m4 m5 m6 : Nat} (g1 : 1 ≤ m1) (g2 : 1 ≤ m2) (g3 : 1 ≤ m3) (g4 : 1 ≤ m4) (g5 : 1 ≤ m5) (g6 : 1 ≤ m6) (hm : m1 + m2 + m3 + m4 + m5 + m6 ≤ 4194304) (h1 : 0 < Q1) (h2 : 0 < Q2) (h3 : 0 < Q3) (h4 : 0 < Q4) (h5 : 0 < Q5) (h6 : 0 < Q6) : Sb3 6 (SI P1 Q1 m1) (SI P2 Q2 m2) (SI P3 Q3 m3) (SI P4 Q4 m4) (SI P5 Q5 m5) (SI P6 Q6 m6) (onB P1 P2 P3 P4 P5 P6 Q1 Q2 Q3 Q4 Q5 Q6) := by
  have c1 : Si2 13 (SI P1 Q1 m1) (SI P2 Q2 m2) (SI P5 Q5 m5) (SI P6 Q6 m6) (lex (sgn (P1 * (Q5 : Int) - P5 * (Q1 : Int))) (sgn (P2 * (Q6 : Int) - P6 * (Q2 : Int)))) := spot_Cmp ((fv_Cmp P1 P5 Q1 Q5 4194304 h1 h5 (by omega) (Nat.le_refl _)).pre (fun _ _ _ _ _ => SI.widen (by omega)) (fun _ _ _ _ _ => SI.widen (by omega))) ((fv_Cmp P2 P6 Q2 Q6 4194304 h2 h6 (by omega) (Nat.le_refl _)).pre (fun _ _ _ _ _ => SI.widen (by omega)) (fun _ _ _ _ _ => SI.widen (by omega)))
  have c2 : Si2 13 (SI P5 Q5 m5) (SI P6 Q6 m6) (SI P3 Q3 m3) (SI P4 Q4 m4) (lex (sgn (P5 * (Q3 : Int) - P3 * (Q5 : Int))) (sgn (P6 * (Q4 : Int) - P4 * (Q6 : Int)))) := spot_Cmp ((fv_Cmp P5 P3 Q5 Q3 4194304 h5 h3 (by omega) (Nat.le_refl _)).pre (fun _ _ _ _ _ => SI.widen (by omega)) (fun _ _ _ _ _ => SI.widen (by omega))) ((fv_Cmp P6 P4 Q6 Q4 4194304 h6 h4 (by omega) (Nat.le_refl _)).pre (fun _ _ _ _ _ => SI.widen (by omega)) (fun _ _ _ _ _ => SI.widen (by omega)))
  refine spot_On (lex_three (sgn_three _) (sgn_three _)) (lex_three (sgn_three _) (sgn_three _)) ?_ ?_ c1 c2 (fun n1 n2 n3 n4 n5 n6 a1 d1 a2 d2 a3 d3 a4 d4 a5 d5 a6 d6 A1 D1 A2 D2 A3 D3 A4 D4 A5 D5 A6 D6 c1 e1 c2 e2 c3 e3 c4 e4 c5 e5 c6 e6 w s1 s2 s3 s4 s5 s6 r1 q1 r2 q2 r3 q3 r4 q4 r5 q5 r6 q6 => spot_Turn g1 g2 g3 g4 g5 g6 hm n1 n2 n3 n4 n5 n6 a1 d1 a2 d2 a3 d3 a4 d4 a5 d5 a6 d6 A1 D1 A2 D2 A3 D3 A4 D4 A5 D5 A6 D6 c1 e1 c2 e2 c3 e3 c4 e4 c5 e5 c6 e6 w s1 s2 s3 s4 s5 s6 r1 q1 r2 q2 r3 q3 r4 q4 r5 q5 r6 q6)
  · intro h
    unfold onB
    rw [decide_eq_true h, Bool.true_and]
  · intro h
    unfold onB
    rw [decide_eq_false (by omega), Bool.false_and]
end Go.Proofs.YtkgedgaddpojkaaDoor
