/- What the program's own calls answer: Uint; Text of a number of 64 bits; lives. -/
import Derived.Test.YtbhahddgajkchaaZNatX
import Derived.Test.YtbhahddgajkchaaZRefX
import Derived.Test.YtbhahddgajkchaaZBase
import Derived.Lib.Hide
import Derived.WalkLawsBesides
import Derived.Lib.ItoaMem
import Derived.Lib.AppendIntMem
import Derived.Deep.RegionWith
namespace Go.Proofs.Ytbhahddgajkchaa
open Go.RowKit Num

theorem or_words (p q : Nat) (hp : p < 4294967296) (hq : q < 4294967296) : bits .or .u64 ((q * 4294967296 : Nat) : Int) (p : Int) = ((p + 4294967296 * q : Nat) : Int) := by
  rw [u64_or_nat _ _ (by omega) (by omega)]
  have h := Nat.shiftLeft_add_eq_or_of_lt (a := q) (b := p) (i := 32) (by omega)
  rw [Nat.shiftLeft_eq] at h
  rw [show q * 4294967296 = q * 2 ^ 32 from rfl, ← h]
  congr 1
  omega
theorem row_u32 {w : World} {g : Nat} {vs : Array Value} (xs : List Nat) (h : w.heap[g]? = some (.cells vs 60 (0, 0))) (e : vs = (cells .u32 xs).toArray) : Row w g 60 .u32 xs := by
  unfold Row; rw [h, e]

end Go.Proofs.Ytbhahddgajkchaa
/- What the library answers for a number's decimal digits: strconv.FormatUint, strconv.AppendUint at base 10. -/

namespace Go.Proofs.Ytbhahddgajkchaa
open Go.RowKit Num

/-- the table of powers of 10, as the program's text lays it -/
def Tab (w : World) : Prop := Lib.TabIs Try.prog w "internal/strconv.uint64pow10" .u64 Lib.pow10Tab

/-- the table stays as it is laid -/
theorem Tab.on {w w' : World} (h : Tab w) (hb : Below w.heap.size w w') : Tab w' := Lib.tabBelow_of_tabIs h w' hb
end Go.Proofs.Ytbhahddgajkchaa
/- What the program's own Text answers for a number of 64 bits. -/

namespace Go.Proofs.Ytbhahddgajkchaa
open Go.RowKit Num

end Go.Proofs.Ytbhahddgajkchaa
/- What the program's own calls on numbers answer: Of, moveUp, moveDown, shiftUp, shiftDown, Shift. -/

namespace Go.Proofs.Ytbhahddgajkchaa
open Go.RowKit Num

theorem splice_zeros {k m : Nat} {a : List Nat} (h : a.length = m) : splice (List.replicate (k + m + 1) 0) k a = List.replicate k 0 ++ (a ++ [0]) := by
  simp only [splice, h]
  rw [List.take_replicate, List.drop_replicate, Nat.min_eq_left (by omega), show k + m + 1 - (k + m) = 1 by omega]
  rfl
theorem splice_behind {Z Y cs : List Nat} {k : Nat} (hk : Z.length = k) (h : cs.length = Y.length) : splice (Z ++ Y) k cs = Z ++ cs := by
  simp only [splice]
  rw [List.take_left' hk, List.drop_of_length_le (by rw [List.length_append]; omega), List.append_nil]
theorem over_zero {q V X c : Nat} (hX : X < q) (h : V + q * c = X) : c = 0 := by
  rcases Nat.eq_zero_or_pos c with h0 | h0
  · exact h0
  · have h1 : q * 1 ≤ q * c := Nat.mul_le_mul_left _ h0
    omega

end Go.Proofs.Ytbhahddgajkchaa
/- What the program's Shift answers. -/

namespace Go.Proofs.Ytbhahddgajkchaa
open Go.RowKit Num

/-- a number times a power of 2 -/
theorem up_value {n words s N V : Nat} (h : n = 32 * words + s) (hV : V = 4294967296 ^ words * (N * 2 ^ s)) : V = N * 2 ^ n := by
  rw [hV, h, Nat.pow_add, Nat.pow_mul]
  grind

/-- a number times a power of 2, or by one; of others 0 -/
def shiftVal (N : Nat) (n : Int) : Nat := if n < -4096 ∨ 4096 < n then 0 else if n < 0 then N / 2 ^ (-n).toNat else N * 2 ^ n.toNat
end Go.Proofs.Ytbhahddgajkchaa
