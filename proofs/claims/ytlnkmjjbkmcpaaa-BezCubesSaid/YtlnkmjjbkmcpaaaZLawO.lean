/- The law FracSums: sums, differences, products are the document's own. -/
import Derived.Test.YtlnkmjjbkmcpaaaZFpV
import Derived.Test.YtlnkmjjbkmcpaaaZFpZ
import Derived.Test.YtlnkmjjbkmcpaaaZFrV
import Derived.Test.YtlnkmjjbkmcpaaaZFrZ
import Derived.Deep.RegionWith
import Derived.Deep.RegionHeld3
namespace Go.Proofs.Ytlnkmjjbkmcpaaa
open Go.RowKit Num

theorem up_lt {n : Bool} {a d : List Nat} (ha : Dg 4294967296 a) : (upN n a d).natAbs < 4294967296 ^ a.length := Nat.lt_of_le_of_lt (up_abs n a d) (val_lt ha)
theorem loD_le {d : List Nat} (hd : Dg 4294967296 d) : loD d ≤ 4294967296 ^ d.length := by
  unfold loD
  split
  · exact Nat.pow_pos (by omega)
  · exact Nat.le_of_lt (val_lt hd)
/-- how great a product of such parts is -/
theorem prod_lt {x y i j k : Nat} (hx : x < 4294967296 ^ i) (hy : y ≤ 4294967296 ^ j) (hk : i + j ≤ k) : x * y < 4294967296 ^ k := by
  refine Nat.lt_of_lt_of_le ?_ (Nat.pow_le_pow_right (n := 4294967296) (by omega) hk)
  rw [Nat.pow_add]
  have h1 : x * y ≤ x * 4294967296 ^ j := Nat.mul_le_mul_left _ hy
  have h2 : x * 4294967296 ^ j < 4294967296 ^ i * 4294967296 ^ j := Nat.mul_lt_mul_of_pos_right hx (Nat.pow_pos (by omega))
  omega
theorem prod_le {x y i j k : Nat} (hx : x ≤ 4294967296 ^ i) (hy : y ≤ 4294967296 ^ j) (hk : i + j ≤ k) : x * y ≤ 4294967296 ^ k := by
  refine Nat.le_trans ?_ (Nat.pow_le_pow_right (n := 4294967296) (by omega) hk)
  rw [Nat.pow_add]
  exact Nat.mul_le_mul hx hy
theorem lt_of_le_pow {x k m : Nat} (hx : x ≤ 4294967296 ^ k) (h : k < m) : x < 4294967296 ^ m := by
  refine Nat.lt_of_le_of_lt hx (Nat.pow_lt_pow_right (by omega) h)
theorem sum_lt {P P' : Int} {Q Q' i j k l s : Nat} (h1 : P.natAbs < 4294967296 ^ i) (h2 : P'.natAbs < 4294967296 ^ j) (h3 : Q ≤ 4294967296 ^ k) (h4 : Q' ≤ 4294967296 ^ l) (e1 : i + l ≤ s) (e2 : j + k ≤ s) : (P * (Q' : Int) + P' * (Q : Int)).natAbs < 4294967296 ^ (s + 1) := by
  have a1 := prod_lt h1 h4 e1
  have a2 := prod_lt h2 h3 e2
  have a3 := Int.natAbs_add_le (P * (Q' : Int)) (P' * (Q : Int))
  rw [Int.natAbs_mul, Int.natAbs_mul, Int.natAbs_natCast, Int.natAbs_natCast] at a3
  rw [Nat.pow_succ]
  omega
theorem sub_lt {P P' : Int} {Q Q' i j k l s : Nat} (h1 : P.natAbs < 4294967296 ^ i) (h2 : P'.natAbs < 4294967296 ^ j) (h3 : Q ≤ 4294967296 ^ k) (h4 : Q' ≤ 4294967296 ^ l) (e1 : i + l ≤ s) (e2 : j + k ≤ s) : (P * (Q' : Int) - P' * (Q : Int)).natAbs < 4294967296 ^ (s + 1) := by
  have := sum_lt (P := P) (P' := -P') h1 (by rw [Int.natAbs_neg]; exact h2) h3 h4 e1 e2
  rwa [Int.neg_mul, ← Int.sub_eq_add_neg] at this
/-- a reduced fraction of at most m words each -/
def SG (P : Int) (Q m : Nat) : Shape := fun n a ca d cd => SF P Q n a ca d cd ∧ a.length ≤ m ∧ d.length ≤ m
theorem SF.toG {P : Int} {Q m : Nat} (hP : P.natAbs < 4294967296 ^ m) (hQ : Q < 4294967296 ^ m) {n : Bool} {a d : List Nat} {ca cd : Nat} (k : SF P Q n a ca d cd) : SG P Q m n a ca d cd := by
  refine ⟨k, ?_⟩
  obtain ⟨-, -, -, h3, h4, h5, h6⟩ := k
  constructor
  · refine h3.2.length_le (b := 4294967296) (by omega) ?_
    rw [h5]; exact Nat.lt_of_le_of_lt (Nat.div_le_self _ _) hP
  · refine h4.2.length_le (b := 4294967296) (by omega) ?_
    rw [h6]; exact Nat.lt_of_le_of_lt (Nat.div_le_self _ _) hQ
theorem SG.toV {P : Int} {Q m : Nat} (hQ : 0 < Q) {n : Bool} {a d : List Nat} {ca cd : Nat} (k : SG P Q m n a ca d cd) : SV P Q m n a ca d cd := by
  have h := k.1.toV (m := P.natAbs + Q) hQ (Nat.lt_of_lt_of_le (Nat.lt_pow_self (n := P.natAbs) (by omega)) (Nat.pow_le_pow_right (by omega) (by omega))) (Nat.lt_of_lt_of_le (Nat.lt_pow_self (n := Q) (by omega)) (Nat.pow_le_pow_right (by omega) (by omega)))
  obtain ⟨h1, h2, h3, h4, h5, h6, h7⟩ := h
  exact ⟨h1, h2, h3, h4, k.2.1, k.2.2, h7⟩
theorem SG.same {P : Int} {Q m m' : Nat} {n n' : Bool} {a a' d d' : List Nat} {ca ca' cd cd' : Nat} (k : SG P Q m n a ca d cd) (k' : SG P Q m' n' a' ca' d' cd') : n = n' ∧ a = a' ∧ d = d' := SF.same k.1 k'.1
end Go.Proofs.Ytlnkmjjbkmcpaaa
