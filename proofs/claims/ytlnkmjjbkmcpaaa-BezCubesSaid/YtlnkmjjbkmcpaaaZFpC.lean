/- Fractions: what the program's own turned, plus and minus answer. -/
import Derived.Test.YtlnkmjjbkmcpaaaZFpX
import Derived.Test.YtlnkmjjbkmcpaaaZLawF
import Derived.Test.YtlnkmjjbkmcpaaaZFrL
import Derived.Test.YtlnkmjjbkmcpaaaZFrZ
namespace Go.Proofs.Ytlnkmjjbkmcpaaa
open Go.RowKit Num

/-- 1 by P by Q: its upper part -/
def turnN (P : Int) (Q : Nat) : Int := if P < 0 then - (Q : Int) else Q
theorem turn_sign {n : Bool} {a d : List Nat} {P : Int} {Q : Nat} (hQ : 0 < Q) (hd : 0 < val 4294967296 d) (h : wv n a * (Q : Int) = P * (val 4294967296 d : Int)) :
    val 4294967296 a * Q = P.natAbs * val 4294967296 d ∧ (P ≠ 0 → 0 < val 4294967296 a ∧ wv n d = (if P < 0 then - (val 4294967296 d : Int) else val 4294967296 d)) := by
  have e := congrArg Int.natAbs h
  rw [Int.natAbs_mul, Int.natAbs_mul, Int.natAbs_natCast, Int.natAbs_natCast, wv_abs] at e
  refine ⟨e, fun hP => ?_⟩
  have hp : 0 < P.natAbs * val 4294967296 d := Nat.mul_pos (by omega) hd
  have ha : 0 < val 4294967296 a := by
    rcases Nat.eq_zero_or_pos (val 4294967296 a) with h0 | h0
    · rw [h0, Nat.zero_mul] at e; omega
    · exact h0
  refine ⟨ha, ?_⟩
  have q1 : (0 : Int) < (val 4294967296 a : Int) * Q := Int.mul_pos (by omega) (by omega)
  cases n
  · rw [wv_false] at h ⊢
    by_cases hn : P < 0
    · have := Int.mul_neg_of_neg_of_pos hn (show (0 : Int) < (val 4294967296 d : Int) by omega)
      omega
    · rw [if_neg hn]
  · rw [wv_true] at h ⊢
    by_cases hn : P < 0
    · rw [if_pos hn]
    · have := Int.mul_nonneg (show 0 ≤ P by omega) (show (0 : Int) ≤ (val 4294967296 d : Int) by omega)
      rw [Int.neg_mul] at h
      omega

theorem cmpI_ne {a b : Nat} (h : ¬ a = b) : ¬ cmpI a b = 0 := by
  unfold cmpI
  split
  · omega
  · split
    · omega
    · omega
theorem plus_same {x x' P P' y Q Q' : Int} (h : x * Q = P * y) (g : x' * Q' = P' * y) : (x + x') * (Q * Q') = (P * Q' + P' * Q) * y := by
  rw [Int.add_mul, show x * (Q * Q') = (x * Q) * Q' by ac_rfl, show x' * (Q * Q') = (x' * Q') * Q by ac_rfl, h, g, Int.add_mul]
  ac_rfl
theorem plus_other {x x' P P' y y' u u' g Q Q' : Int} (h : x * Q = P * y) (k : x' * Q' = P' * y') (e : y = u * g) (e' : y' = u' * g) : (x * u' + x' * u) * (Q * Q') = (P * Q' + P' * Q) * (y * u') := by
  rw [Int.add_mul, show x * u' * (Q * Q') = (x * Q) * (u' * Q') by ac_rfl, show x' * u * (Q * Q') = (x' * Q') * (u * Q) by ac_rfl, h, k, Int.add_mul, e, e']
  congr 1 <;> ac_rfl

/-- a whole number stored where it lies -/
theorem box_end {W v : World} {g : Nat} {t : TypeId} (k : Blk v g t [.bool false, .slice none 0 0]) (hg : W.heap.size ≤ g) (B : Below W.heap.size W v) (u0 u1 : Value) {X Y : Option Addr} {x y : List Nat} (r : Rd v (fun g => g < v.heap.size) .u32 X x) (q : Rd v (fun g => g < v.heap.size) .u32 Y y) :
    Blk ((v.setCell ⟨g, 0, none⟩ u0).setCell ⟨g, 1, none⟩ u1) g t [u0, u1] ∧ W.heap.size ≤ g ∧ Rd ((v.setCell ⟨g, 0, none⟩ u0).setCell ⟨g, 1, none⟩ u1) (fun b => b < ((v.setCell ⟨g, 0, none⟩ u0).setCell ⟨g, 1, none⟩ u1).heap.size) .u32 X x ∧ Rd ((v.setCell ⟨g, 0, none⟩ u0).setCell ⟨g, 1, none⟩ u1) (fun b => b < ((v.setCell ⟨g, 0, none⟩ u0).setCell ⟨g, 1, none⟩ u1).heap.size) .u32 Y y ∧ Below W.heap.size W ((v.setCell ⟨g, 0, none⟩ u0).setCell ⟨g, 1, none⟩ u1) :=
  ⟨k.pair _ _, hg, r.far2 k _ _, q.far2 k _ _, (B.setCell hg _).setCell hg _⟩

end Go.Proofs.Ytlnkmjjbkmcpaaa
