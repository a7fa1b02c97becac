/- The second layer's laws: a quotient below 0 is right. -/
import Derived.Test.YtlnkmjjbkmcpaaaZWhY
import Derived.Test.YtlnkmjjbkmcpaaaZWhI
import Derived.Test.YtlnkmjjbkmcpaaaZWrX
namespace Go.Proofs.Ytlnkmjjbkmcpaaa
open Go.RowKit Num

/-- a whole number of at most m words -/
def GivesWL (N : Int) (m : Nat) (w : World) (e : Ending) (w' : World) : Prop :=
  ∃ A xs c, e = .returned (.agg #[.bool (decide (N < 0)), .slice A xs.length c]) ∧ xs.length ≤ c ∧ xs.length ≤ m ∧ Norm 4294967296 xs ∧ val 4294967296 xs = N.natAbs ∧ Rd w' (fun g => g < w'.heap.size) .u32 A xs ∧ Below w.heap.size w w'
theorem lim {N : Int} {m : Nat} {w w' : World} {e : Ending} (hN : N.natAbs < 4294967296 ^ m) (h : GivesW N w e w') : GivesWL N m w e w' := by
  obtain ⟨A, xs, c, h1, h2, h3, h4, h5, h6⟩ := h
  exact ⟨A, xs, c, h1, h2, h3.2.length_le (b := 4294967296) (by omega) (by rw [h4]; exact hN), h3, h4, h5, h6⟩
theorem lim_sum {a b : List Nat} {m n : Nat} {N : Int} (ha : Dg 4294967296 a) (hb : Dg 4294967296 b) (h1 : a.length ≤ n) (h2 : b.length ≤ n) (hm : n + 1 ≤ m) (hN : N.natAbs ≤ val 4294967296 a + val 4294967296 b) : N.natAbs < 4294967296 ^ m := by
  have k1 := val_lt_pow ha (by omega) h1
  have k2 := val_lt_pow hb (by omega) h2
  have k3 : 4294967296 ^ (n + 1) ≤ 4294967296 ^ m := Nat.pow_le_pow_right (by omega) hm
  rw [Nat.pow_succ] at k3
  omega
theorem lim_one {a : List Nat} {m : Nat} {N : Int} (ha : Dg 4294967296 a) (h1 : a.length ≤ m) (hN : N.natAbs ≤ val 4294967296 a) : N.natAbs < 4294967296 ^ m := by
  have k1 := val_lt_pow ha (by omega) h1
  omega
theorem lim_prod {a b : List Nat} {m : Nat} (n1 n2 : Bool) (ha : Dg 4294967296 a) (hb : Dg 4294967296 b) (h1 : a.length + b.length ≤ m) : (wv n1 a * wv n2 b).natAbs < 4294967296 ^ m := by
  rw [Int.natAbs_mul, wv_abs, wv_abs]
  refine Nat.lt_of_lt_of_le (Nat.mul_lt_mul'' (val_lt ha) (val_lt hb)) ?_
  rw [← Nat.pow_add]
  exact Nat.pow_le_pow_right (by omega) h1
theorem next {B : Nat} {W V w' : World} (K : Below B W V) (hB : B ≤ W.heap.size) (b : Below V.heap.size V w') : Below B W w' := K.trans (b.mono (Nat.le_trans hB K.size))
end Go.Proofs.Ytlnkmjjbkmcpaaa
