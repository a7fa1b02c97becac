/- Spots: contracts by what the parts are worth: half way, along a way; the numbers of SpotRounds. -/
import Derived.Test.YtkgedgaddpojkaaGreatDoorSpV
import Derived.Test.YtkgedgaddpojkaaGreatDoorSpB
namespace Go.Proofs.YtkgedgaddpojkaaGreatDoor
open Go.RowKit Num

theorem Fn2.fitG {f : FuncId} {S S' : Shape} {P : Int} {Q m : Nat} (h : Fn2 f S S' (SF P Q)) {i j : Nat} (hP : P.natAbs < 4294967296 ^ i) (hi : i ≤ m) (hm : Q ≤ 4294967296 ^ j) (hj : j < m) : Fn2 f S S' (SG P Q m) :=
  h.imp (fun _ _ _ _ _ k => k) (fun _ _ _ _ _ k => k) fun _ _ _ _ _ k => k.toG (Nat.lt_of_lt_of_le hP (Nat.pow_le_pow_right (by omega) hi)) (lt_of_le_pow hm hj)
theorem Fn1.fitG {f : FuncId} {S : Shape} {P : Int} {Q m : Nat} (h : Fn1 f S (SF P Q)) {i j : Nat} (hP : P.natAbs < 4294967296 ^ i) (hi : i ≤ m) (hm : Q ≤ 4294967296 ^ j) (hj : j < m) : Fn1 f S (SG P Q m) :=
  h.imp (fun _ _ _ _ _ k => k) fun _ _ _ _ _ k => k.toG (Nat.lt_of_lt_of_le hP (Nat.pow_le_pow_right (by omega) hi)) (lt_of_le_pow hm hj)
theorem Fn2.convG {f : FuncId} {S S' : Shape} {P P' : Int} {Q Q' m : Nat} (h : Fn2 f S S' (SG P Q m)) (hQ : 0 < Q) (hQ' : 0 < Q') (e : P * (Q' : Int) = P' * (Q : Int)) : Fn2 f S S' (SG P' Q' m) :=
  h.imp (fun _ _ _ _ _ k => k) (fun _ _ _ _ _ k => k) fun _ _ _ _ _ k => ⟨k.1.conv hQ hQ' e, k.2⟩
/-- half of the sum -/
theorem fv_halfWay {P P' : Int} {Q Q' i j m k : Nat} (hQ : 0 < Q) (hQ' : 0 < Q') (hp : P.natAbs < 4294967296 ^ i) (hp' : P'.natAbs < 4294967296 ^ j) (hq : Q ≤ 4294967296 ^ i) (hq' : Q' ≤ 4294967296 ^ j) (hm1 : 1 ≤ m) (hm : m ≤ 2097150) (hk : i + j + 2 ≤ k) (hk2 : k ≤ 4194303) :
    Fn2 42 (SV P Q m) (SV P' Q' m) (SG (P * (Q' : Int) + P' * (Q : Int)) (Q * Q' * 2) k) := by
  have n0 := sum_lt hp hp' hq hq' (s := i + j) (by omega) (by omega)
  have d0 := prod_le hq hq' (Nat.le_refl _)
  have d1 := prod_le d0 (show 2 ≤ 4294967296 ^ 1 by decide) (Nat.le_refl _)
  have k0 := Nat.mul_pos hQ hQ'
  exact spot_halfWay _ _ _ _ ((fv_Add P P' Q Q' m hQ hQ' hm1 hm).fit (m := k) k0 n0 (by omega) d0 (by omega)) ((fv_Half _ _ k k0 (by omega) hk2).fitG (m := k) n0 (by omega) d1 (by omega))
/-- a, and t times what b has more -/
def alongN (P P' R : Int) (Q Q' T : Nat) : Int := P * ((T * (Q' * Q) : Nat) : Int) + R * (P' * (Q : Int) - P * (Q' : Int)) * (Q : Int)
def alongD (Q Q' T : Nat) : Nat := Q * (T * (Q' * Q))
theorem fv_along {P P' R : Int} {Q Q' T i j l m k : Nat} (hQ : 0 < Q) (hQ' : 0 < Q') (hT : 0 < T) (hp : P.natAbs < 4294967296 ^ i) (hp' : P'.natAbs < 4294967296 ^ j) (hr : R.natAbs < 4294967296 ^ l) (hq : Q ≤ 4294967296 ^ i) (hq' : Q' ≤ 4294967296 ^ j) (ht : T ≤ 4294967296 ^ l) (hm1 : 1 ≤ m) (hm : m ≤ 2097150) (hl : i + j + l + 2 ≤ m) (hk : i + i + j + l + 3 ≤ k) :
    Fn3 46 (SV P Q m) (SV P' Q' m) (SV R T m) (SG (alongN P P' R Q Q' T) (alongD Q Q' T) k) := by
  have n0 := sub_lt hp' hp hq' hq (s := i + j) (by omega) (by omega)
  have d0 := prod_le hq' hq (Nat.le_refl _)
  have n1 := mulI_lt hr n0 (Nat.le_refl _)
  have d1 := prod_le ht d0 (Nat.le_refl _)
  have n2 := sum_lt hp n1 hq d1 (s := i + i + j + l + 1) (by omega) (by omega)
  have d2 := prod_le hq d1 (Nat.le_refl _)
  have k0 := Nat.mul_pos hQ' hQ
  have k1 := Nat.mul_pos hT k0
  have x0 := (fv_Sub P' P Q' Q m hQ' hQ hm1 hm).fit (m := m) k0 n0 (by omega) d0 (by omega)
  have x1 := (fv_Mul R _ T _ m hT k0 hm1 (by omega)).fit (m := m) k1 n1 (by omega) d1 (by omega)
  have x2 := (fv_Add P _ Q _ m hQ k1 hm1 hm).fitG (m := k) n2 (by omega) d2 (by omega)
  exact fun n1 n2 n3 a1 d1 a2 d2 a3 d3 A1 D1 A2 D2 A3 D3 c1 e1 c2 e2 c3 e3 w s1 s2 s3 r1 q1 r2 q2 r3 q3 => spot_along _ _ _ _ _ _ x0 x1 x2 n1 n2 n3 a1 d1 a2 d2 a3 d3 A1 D1 A2 D2 A3 D3 c1 e1 c2 e2 c3 e3 w s1 s2 s3 r1 q1 r2 q2 r3 q3

/-- going round, going back -/
theorem det_round (P1 P2 P3 P4 P5 P6 : Int) (Q1 Q2 Q3 Q4 Q5 Q6 : Nat) : det P3 P4 P5 P6 P1 P2 Q3 Q4 Q5 Q6 Q1 Q2 = det P1 P2 P3 P4 P5 P6 Q1 Q2 Q3 Q4 Q5 Q6 := by
  unfold det
  grind
theorem det_back (P1 P2 P3 P4 P5 P6 : Int) (Q1 Q2 Q3 Q4 Q5 Q6 : Nat) : det P5 P6 P3 P4 P1 P2 Q5 Q6 Q3 Q4 Q1 Q2 = - det P1 P2 P3 P4 P5 P6 Q1 Q2 Q3 Q4 Q5 Q6 := by
  unfold det
  grind
theorem det_first (P1 P2 P3 P4 : Int) (Q1 Q2 Q3 Q4 : Nat) : det P1 P2 P3 P4 P1 P2 Q1 Q2 Q3 Q4 Q1 Q2 = 0 := by
  unfold det
  grind
theorem det_second (P1 P2 P3 P4 : Int) (Q1 Q2 Q3 Q4 : Nat) : det P1 P2 P3 P4 P3 P4 Q1 Q2 Q3 Q4 Q3 Q4 = 0 := by
  unfold det
  grind
theorem onB_true {P1 P2 P3 P4 P5 P6 : Int} {Q1 Q2 Q3 Q4 Q5 Q6 : Nat} (h1 : 0 < Q1) (h2 : 0 < Q2) (h3 : 0 < Q3) (h4 : 0 < Q4) (hd : det P1 P2 P3 P4 P5 P6 Q1 Q2 Q3 Q4 Q5 Q6 = 0)
    (hx : sgn (P1 * (Q5 : Int) - P5 * (Q1 : Int)) * sgn (P3 * (Q5 : Int) - P5 * (Q3 : Int)) ≤ 0) (hy : sgn (P2 * (Q6 : Int) - P6 * (Q2 : Int)) * sgn (P4 * (Q6 : Int) - P6 * (Q4 : Int)) ≤ 0) : onB P1 P2 P3 P4 P5 P6 Q1 Q2 Q3 Q4 Q5 Q6 = true := by
  have hs : sgn (det P1 P2 P3 P4 P5 P6 Q1 Q2 Q3 Q4 Q5 Q6) = 0 := sgn_zero.2 hd
  unfold onB
  rw [decide_eq_true ((on_same h1 h2 h3 h4 hs).2 ⟨hx, hy⟩), hs]
  rfl
theorem on_first {P1 P2 P3 P4 : Int} {Q1 Q2 Q3 Q4 : Nat} (h1 : 0 < Q1) (h2 : 0 < Q2) (h3 : 0 < Q3) (h4 : 0 < Q4) : onB P1 P2 P3 P4 P1 P2 Q1 Q2 Q3 Q4 Q1 Q2 = true :=
  onB_true h1 h2 h3 h4 (det_first P1 P2 P3 P4 Q1 Q2 Q3 Q4) (by rw [Int.sub_self, show sgn 0 = 0 from rfl, Int.zero_mul]; omega) (by rw [Int.sub_self, show sgn 0 = 0 from rfl, Int.zero_mul]; omega)
theorem on_second {P1 P2 P3 P4 : Int} {Q1 Q2 Q3 Q4 : Nat} (h1 : 0 < Q1) (h2 : 0 < Q2) (h3 : 0 < Q3) (h4 : 0 < Q4) : onB P1 P2 P3 P4 P3 P4 Q1 Q2 Q3 Q4 Q3 Q4 = true :=
  onB_true h1 h2 h3 h4 (det_second P1 P2 P3 P4 Q1 Q2 Q3 Q4) (by rw [Int.sub_self (P3 * (Q3 : Int)), show sgn 0 = 0 from rfl, Int.mul_zero]; omega) (by rw [Int.sub_self (P4 * (Q4 : Int)), show sgn 0 = 0 from rfl, Int.mul_zero]; omega)
/-- what is half way lies between -/
theorem mid_between {P P' x : Int} {Q Q' y : Nat} (hQ : 0 < Q) (hQ' : 0 < Q') (hy : 0 < y) (h : x * ((Q * Q' * 2 : Nat) : Int) = (P * (Q' : Int) + P' * (Q : Int)) * (y : Int)) : sgn (P * (y : Int) - x * (Q : Int)) * sgn (P' * (y : Int) - x * (Q' : Int)) ≤ 0 := by
  simp only [Int.natCast_mul] at h
  have hp : (0 : Int) < (Q : Int) * (Q' : Int) * 2 := Int.mul_pos (Int.mul_pos (by omega) (by omega)) (by omega)
  have e1 : sgn (P * (y : Int) - x * (Q : Int)) = sgn (P * (Q' : Int) - P' * (Q : Int)) := sgn_cross (y := (y : Int) * (Q : Int)) (Q := (Q : Int) * (Q' : Int) * 2) (Int.mul_pos (by omega) (by omega)) hp (by grind)
  have e2 : sgn (P' * (y : Int) - x * (Q' : Int)) = sgn (-(P * (Q' : Int) - P' * (Q : Int))) := sgn_cross (y := (y : Int) * (Q' : Int)) (Q := (Q : Int) * (Q' : Int) * 2) (Int.mul_pos (by omega) (by omega)) hp (by grind)
  rw [e1, e2, sgn_neg_]
  rcases sgn_three (P * (Q' : Int) - P' * (Q : Int)) with e | e | e <;> rw [e] <;> decide
theorem mid_det {P1 P2 P3 P4 x5 x6 : Int} {Q1 Q2 Q3 Q4 y5 y6 : Nat} (h1 : 0 < Q1) (h2 : 0 < Q2) (h3 : 0 < Q3) (h4 : 0 < Q4) (h5 : x5 * ((Q1 * Q3 * 2 : Nat) : Int) = (P1 * (Q3 : Int) + P3 * (Q1 : Int)) * (y5 : Int)) (h6 : x6 * ((Q2 * Q4 * 2 : Nat) : Int) = (P2 * (Q4 : Int) + P4 * (Q2 : Int)) * (y6 : Int)) : det P1 P2 P3 P4 x5 x6 Q1 Q2 Q3 Q4 y5 y6 = 0 := by
  have hp : (Q1 : Int) * (Q3 : Int) * 2 * ((Q2 : Int) * (Q4 : Int) * 2) ≠ 0 := by
    have := Int.mul_pos (Int.mul_pos (Int.mul_pos (show (0 : Int) < Q1 by omega) (show (0 : Int) < Q3 by omega)) (show (0 : Int) < 2 by omega)) (Int.mul_pos (Int.mul_pos (show (0 : Int) < Q2 by omega) (show (0 : Int) < Q4 by omega)) (show (0 : Int) < 2 by omega))
    omega
  simp only [Int.natCast_mul] at h5 h6
  have e : det P1 P2 P3 P4 x5 x6 Q1 Q2 Q3 Q4 y5 y6 * ((Q1 : Int) * (Q3 : Int) * 2 * ((Q2 : Int) * (Q4 : Int) * 2)) = 0 := by
    unfold det
    grind
  rcases Int.mul_eq_zero.1 e with h | h
  · exact h
  · exact absurd h hp
end Go.Proofs.YtkgedgaddpojkaaGreatDoor
