/- Whole numbers: what Div answers. -/
import Derived.Test.YtdkgnechiloimaaZWhX
import Derived.Test.YtdkgnechiloimaaZNatY
namespace Go.Proofs.Ytdkgnechiloimaa
open Go.RowKit Num

theorem euclid {N D Q R : Int} (h : R + D * Q = N) (h0 : 0 ≤ R) (h1 : R < D.natAbs) : N / D = Q ∧ N % D = R := by
  have pos : ∀ {D Q : Int}, 0 < D → R + D * Q = N → R < D → N / D = Q ∧ N % D = R := fun {D Q} hD h h1 => (Int.ediv_emod_unique hD).2 ⟨h, h0, h1⟩
  rcases Int.lt_trichotomy D 0 with hD | hD | hD
  · have := pos (D := -D) (Q := -Q) (by omega) (by rw [Int.neg_mul_neg]; exact h) (by omega)
    rw [Int.ediv_neg, Int.emod_neg] at this
    exact ⟨by omega, this.2⟩
  · subst hD; simp at h1; omega
  · exact pos hD h (by omega)

theorem quo_flat (n1 n2 : Bool) {N D : Int} {n d p m : Nat} (hN : N = if n1 then -(n : Int) else n) (hD : D = if n2 then -(d : Int) else d) (hk : d * p + m = n) (hm : m < d) (hx : n1 = true → m = 0) :
    N / D = (if (n1 != n2) then -(p : Int) else p) ∧ N % D = m := by
  have hk' : (d : Int) * p + m = n := by exact_mod_cast hk
  refine euclid ?_ (by omega) (by cases n2 <;> simp at hD <;> omega)
  cases n1 <;> cases n2 <;> simp at hN hD hx <;> subst hN hD
  · show (m : Int) + (d : Int) * (p : Int) = n; omega
  · show (m : Int) + -(d : Int) * -(p : Int) = n; rw [Int.neg_mul_neg]; omega
  · show (m : Int) + (d : Int) * -(p : Int) = -n; rw [Int.mul_neg]; omega
  · show (m : Int) + -(d : Int) * (p : Int) = -n; rw [Int.neg_mul]; omega
theorem quo_up (n2 : Bool) {N D : Int} {n d p m : Nat} (hN : N = -(n : Int)) (hD : D = if n2 then -(d : Int) else d) (hk : d * p + m = n) (h0 : 0 < m) (hm : m < d) :
    N / D = (if (true != n2) then -((p + 1 : Nat) : Int) else ((p + 1 : Nat) : Int)) ∧ N % D = ((d - m : Nat) : Int) := by
  have hk' : (d : Int) * p + m = n := by exact_mod_cast hk
  have e : (d : Int) * ((p + 1 : Nat) : Int) = d * p + d := by rw [Int.natCast_add, Int.mul_add]; simp
  refine euclid ?_ (by omega) (by cases n2 <;> simp at hD <;> omega)
  cases n2
  · simp only [Bool.false_eq_true, if_false] at hD
    subst hN hD
    simp only [Bool.bne_false, if_true]
    rw [Int.mul_neg, e]; omega
  · simp only [if_true] at hD
    subst hN hD
    simp only [bne_self_eq_false, Bool.false_eq_true, if_false]
    rw [Int.neg_mul, e]; omega

/-- a quotient and what is left, never below 0; zeros and false, where there is nothing to divide by. -/
def GivesWQR (N D : Int) (w : World) (e : Ending) (w' : World) : Prop :=
  ∃ A q c A' r c', e = .returned (.tuple #[.agg #[.bool (decide (N / D < 0)), .slice A q.length c], .agg #[.bool false, .slice A' r.length c'], .bool (decide (D ≠ 0))]) ∧ q.length ≤ c ∧ r.length ≤ c' ∧ Norm 4294967296 q ∧ Norm 4294967296 r ∧
    val 4294967296 q = (N / D).natAbs ∧ val 4294967296 r = (if D = 0 then 0 else N % D).natAbs ∧ Rd w' (fun g => g < w'.heap.size) .u32 A q ∧ Rd w' (fun g => g < w'.heap.size) .u32 A' r ∧ Below w.heap.size w w'

end Go.Proofs.Ytdkgnechiloimaa
