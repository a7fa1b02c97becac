/- Whole numbers: what Of, Int, Text answer. -/
import Derived.Test.YtbhahddgajkchaaZWhX
import Derived.Test.YtbhahddgajkchaaZTxtY
namespace Go.Proofs.Ytbhahddgajkchaa
open Go.RowKit Num

theorem wrap_back (m : Nat) (h : m < 18446744073709551616) : IntKind.u64.wrap (-IntKind.u64.wrap (-(m : Int))) = m := by
  simp [IntKind.wrap, IntKind.bits, IntKind.signed]
  omega

end Go.Proofs.Ytbhahddgajkchaa
/- Whole numbers: what Int answers. -/

namespace Go.Proofs.Ytbhahddgajkchaa
open Go.RowKit Num

/-- is it an int? -/
def isInt (N : Int) : Bool := decide (-9223372036854775808 ≤ N) && decide (N ≤ 9223372036854775807)
def intOr0 (N : Int) : Int := if isInt N then N else 0
theorem isInt_yes {N : Int} (h : -9223372036854775808 ≤ N) (h' : N ≤ 9223372036854775807) : isInt N = true ∧ intOr0 N = N := by
  have e : isInt N = true := by simp [isInt, h, h']
  exact ⟨e, by rw [intOr0, e]; rfl⟩
theorem isInt_no {N : Int} (h : N < -9223372036854775808 ∨ 9223372036854775807 < N) : isInt N = false ∧ intOr0 N = 0 := by
  have e : isInt N = false := by
    unfold isInt
    rcases h with h | h
    · rw [decide_eq_false (by omega)]; rfl
    · rw [decide_eq_false (p := N ≤ 9223372036854775807) (by omega)]; simp
  exact ⟨e, by rw [intOr0, e]; rfl⟩
theorem wrap_in (m : Nat) (h : m ≤ 9223372036854775807) : IntKind.i64.wrap (m : Int) = m := IntWalk.i64_in _ (by omega)
theorem wrap_neg (m : Nat) (h : m ≤ 9223372036854775808) : IntKind.i64.wrap (IntKind.u64.wrap (-(m : Int))) = -(m : Int) := by
  rw [IntKind.wrap_i64]
  simp [IntKind.wrap, IntKind.bits, IntKind.signed]
  omega
/-- what Int hands back -/
def IntIs (N : Int) (w : World) (e : Ending) (w' : World) : Prop := e = .returned (.tuple #[.int .i64 (intOr0 N), .bool (isInt N)]) ∧ Below w.heap.size w w'
theorem intIs_yes {N : Int} {w w' : World} (h : -9223372036854775808 ≤ N) (h' : N ≤ 9223372036854775807) (hb : Below w.heap.size w w') : IntIs N w (.returned (.tuple #[.int .i64 N, .bool true])) w' := by
  unfold IntIs
  rw [(isInt_yes h h').1, (isInt_yes h h').2]
  exact ⟨rfl, hb⟩
theorem intIs_no {N : Int} {w w' : World} (h : N < -9223372036854775808 ∨ 9223372036854775807 < N) (hb : Below w.heap.size w w') : IntIs N w (.returned (.tuple #[.int .i64 0, .bool false])) w' := by
  unfold IntIs
  rw [(isInt_no h).1, (isInt_no h).2]
  exact ⟨rfl, hb⟩

theorem wv_below {n1 : Bool} {a : List Nat} (h : wv n1 a < 0) : wv n1 a = -(val 4294967296 a : Int) := by
  have := wv_abs n1 a; omega
theorem wv_above {n1 : Bool} {a : List Nat} (h : ¬ wv n1 a < 0) : wv n1 a = (val 4294967296 a : Int) := by
  have := wv_abs n1 a; omega

end Go.Proofs.Ytbhahddgajkchaa
/- Whole numbers: what Text answers. -/

namespace Go.Proofs.Ytbhahddgajkchaa
open Go.RowKit Num

/-- a whole number's text -/
def wtext (N : Int) : List UInt8 := if N < 0 then 45 :: Lib.decDigits N.natAbs else Lib.decDigits N.natAbs

end Go.Proofs.Ytbhahddgajkchaa
