/- Spots: numbers: the area of three spots, who lies between whom. -/
import Derived.Test.YtkgedgaddpojkaaGreatDoorSpT
import Derived.Test.YtkgedgaddpojkaaGreatDoorSpC
namespace Go.Proofs.YtkgedgaddpojkaaGreatDoor

theorem sgn_three (x : Int) : sgn x = -1 ∨ sgn x = 0 ∨ sgn x = 1 := by
  unfold sgn
  split
  · exact .inl rfl
  · split
    · exact .inr (.inr rfl)
    · exact .inr (.inl rfl)
theorem sgn_one {x : Int} (h : 0 < x) : sgn x = 1 := by unfold sgn; rw [if_neg (by omega), if_pos h]
theorem sgn_mone {x : Int} (h : x < 0) : sgn x = -1 := by unfold sgn; rw [if_pos h]
theorem sgn_neg_ (x : Int) : sgn (-x) = - sgn x := by
  rcases Int.lt_trichotomy x 0 with hx | hx | hx
  · rw [sgn_mone hx, sgn_one (by omega)]; rfl
  · subst hx; rfl
  · rw [sgn_one hx, sgn_mone (by omega)]
theorem sgn_mul_ (x y : Int) : sgn (x * y) = sgn x * sgn y := by
  rcases Int.lt_trichotomy x 0 with hx | hx | hx <;> rcases Int.lt_trichotomy y 0 with hy | hy | hy
  · rw [sgn_mone hx, sgn_mone hy, sgn_one (Int.mul_pos_of_neg_of_neg hx hy)]; rfl
  · subst hy; rw [Int.mul_zero, show sgn 0 = 0 from rfl, Int.mul_zero]
  · rw [sgn_mone hx, sgn_one hy, sgn_mone (Int.mul_neg_of_neg_of_pos hx hy)]; rfl
  · subst hx; rw [Int.zero_mul, show sgn 0 = 0 from rfl, Int.zero_mul]
  · subst hx; rw [Int.zero_mul, show sgn 0 = 0 from rfl, Int.zero_mul]
  · subst hx; rw [Int.zero_mul, show sgn 0 = 0 from rfl, Int.zero_mul]
  · rw [sgn_one hx, sgn_mone hy, sgn_mone (Int.mul_neg_of_pos_of_neg hx hy)]; rfl
  · subst hy; rw [Int.mul_zero, show sgn 0 = 0 from rfl, Int.mul_zero]
  · rw [sgn_one hx, sgn_one hy, sgn_one (Int.mul_pos hx hy)]; rfl
theorem lex_three {x y : Int} (hx : x = -1 ∨ x = 0 ∨ x = 1) (hy : y = -1 ∨ y = 0 ∨ y = 1) : lex x y = -1 ∨ lex x y = 0 ∨ lex x y = 1 := by
  unfold lex
  split
  · exact hy
  · exact hx
set_option maxHeartbeats 3200000 in
/-- one that lies on the line of two others lies between them just when it does so by both numbers -/
theorem on_signs {ux uy vx vy : Int} (h1 : ux = -1 ∨ ux = 0 ∨ ux = 1) (h2 : uy = -1 ∨ uy = 0 ∨ uy = 1) (h3 : vx = -1 ∨ vx = 0 ∨ vx = 1) (h4 : vy = -1 ∨ vy = 0 ∨ vy = 1) (h : ux * vy = uy * vx) : (0 ≤ lex ux uy * lex vx vy) ↔ (ux * -vx ≤ 0 ∧ uy * -vy ≤ 0) := by
  rcases h1 with rfl | rfl | rfl <;> rcases h2 with rfl | rfl | rfl <;> rcases h3 with rfl | rfl | rfl <;> rcases h4 with rfl | rfl | rfl <;> revert h <;> decide
theorem det_on (P1 P2 P3 P4 P5 P6 : Int) (Q1 Q2 Q3 Q4 Q5 Q6 : Nat) : (P1 * (Q5 : Int) - P5 * (Q1 : Int)) * (P6 * (Q4 : Int) - P4 * (Q6 : Int)) * ((Q2 : Int) * (Q3 : Int)) - (P2 * (Q6 : Int) - P6 * (Q2 : Int)) * (P5 * (Q3 : Int) - P3 * (Q5 : Int)) * ((Q1 : Int) * (Q4 : Int)) = - det P1 P2 P3 P4 P5 P6 Q1 Q2 Q3 Q4 Q5 Q6 := by
  unfold det
  grind
/-- the area's upper part, as the document reckons it -/
def areaN (P1 P2 P3 P4 P5 P6 : Int) (Q1 Q2 Q3 Q4 Q5 Q6 : Nat) : Int :=
  (P1 * (P4 * (Q6 : Int) - P6 * (Q4 : Int)) * ((Q3 * (Q6 * Q2) : Nat) : Int) + P3 * (P6 * (Q2 : Int) - P2 * (Q6 : Int)) * ((Q1 * (Q4 * Q6) : Nat) : Int)) * ((Q5 * (Q2 * Q4) : Nat) : Int) + P5 * (P2 * (Q4 : Int) - P4 * (Q2 : Int)) * ((Q1 * (Q4 * Q6) * (Q3 * (Q6 * Q2)) : Nat) : Int)
theorem area_det (P1 P2 P3 P4 P5 P6 : Int) (Q1 Q2 Q3 Q4 Q5 Q6 : Nat) : areaN P1 P2 P3 P4 P5 P6 Q1 Q2 Q3 Q4 Q5 Q6 = det P1 P2 P3 P4 P5 P6 Q1 Q2 Q3 Q4 Q5 Q6 * ((Q2 : Int) * (Q4 : Int) * (Q6 : Int)) := by
  unfold det areaN
  simp only [Int.natCast_mul]
  grind
theorem area_sgn {P1 P2 P3 P4 P5 P6 : Int} {Q1 Q2 Q3 Q4 Q5 Q6 : Nat} (h2 : 0 < Q2) (h4 : 0 < Q4) (h6 : 0 < Q6) : sgn (areaN P1 P2 P3 P4 P5 P6 Q1 Q2 Q3 Q4 Q5 Q6) = sgn (det P1 P2 P3 P4 P5 P6 Q1 Q2 Q3 Q4 Q5 Q6) := by
  have hp : (0 : Int) < (Q2 : Int) * (Q4 : Int) * (Q6 : Int) := Int.mul_pos (Int.mul_pos (by omega) (by omega)) (by omega)
  exact sgn_cross (y := (Q2 : Int) * (Q4 : Int) * (Q6 : Int)) (Q := 1) hp (by omega) (by rw [Int.mul_one]; exact area_det P1 P2 P3 P4 P5 P6 Q1 Q2 Q3 Q4 Q5 Q6)
/-- what the program asks of On is what the document asks -/
theorem on_same {P1 P2 P3 P4 P5 P6 : Int} {Q1 Q2 Q3 Q4 Q5 Q6 : Nat} (h1 : 0 < Q1) (h2 : 0 < Q2) (h3 : 0 < Q3) (h4 : 0 < Q4) (hd : sgn (det P1 P2 P3 P4 P5 P6 Q1 Q2 Q3 Q4 Q5 Q6) = 0) :
    (0 ≤ lex (sgn (P1 * (Q5 : Int) - P5 * (Q1 : Int))) (sgn (P2 * (Q6 : Int) - P6 * (Q2 : Int))) * lex (sgn (P5 * (Q3 : Int) - P3 * (Q5 : Int))) (sgn (P6 * (Q4 : Int) - P4 * (Q6 : Int)))) ↔
      (sgn (P1 * (Q5 : Int) - P5 * (Q1 : Int)) * sgn (P3 * (Q5 : Int) - P5 * (Q3 : Int)) ≤ 0 ∧ sgn (P2 * (Q6 : Int) - P6 * (Q2 : Int)) * sgn (P4 * (Q6 : Int) - P6 * (Q4 : Int)) ≤ 0) := by
  have e1 : sgn (P3 * (Q5 : Int) - P5 * (Q3 : Int)) = - sgn (P5 * (Q3 : Int) - P3 * (Q5 : Int)) := by rw [← sgn_neg_, Int.neg_sub]
  have e2 : sgn (P4 * (Q6 : Int) - P6 * (Q4 : Int)) = - sgn (P6 * (Q4 : Int) - P4 * (Q6 : Int)) := by rw [← sgn_neg_, Int.neg_sub]
  rw [e1, e2]
  refine on_signs (sgn_three _) (sgn_three _) (sgn_three _) (sgn_three _) ?_
  rw [← sgn_mul_, ← sgn_mul_]
  have h := det_on P1 P2 P3 P4 P5 P6 Q1 Q2 Q3 Q4 Q5 Q6
  rw [sgn_zero.1 hd] at h
  exact sgn_cross (y := (Q1 : Int) * (Q4 : Int)) (Q := (Q2 : Int) * (Q3 : Int)) (Int.mul_pos (by omega) (by omega)) (Int.mul_pos (by omega) (by omega)) (by omega)
end Go.Proofs.YtkgedgaddpojkaaGreatDoor
