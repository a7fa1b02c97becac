/- Is a text a word: the program's and the document's own. -/
import Derived.Test.YtaiinglogpbfjaaDoorLxN
import Derived.Lib.Hide
import Derived.WalkLawsBesides
import Derived.Deep.LoopGhost
import Derived.Test.YtaiinglogpbfjaaDoorChecked
namespace Go.Proofs.YtaiinglogpbfjaaDoor
open Go.RowKit

theorem str_get (s : ByteArray) (j : Nat) (h : j < s.size) : s.data.toList[j]'(by rw [Array.length_toList]; exact h) = s[j] := rfl
theorem str_len (s : ByteArray) : s.data.toList.length = s.size := Array.length_toList
theorem okB_yes {c : UInt8} (h : okB c = true) : (33 : Int) ≤ (c.toNat : Int) ∧ (c.toNat : Int) ≤ 126 := by
  unfold okB at h
  simp only [Bool.and_eq_true, decide_eq_true_eq] at h
  omega
theorem okB_no {c : UInt8} (h : okB c = false) : (c.toNat : Int) < 33 ∨ ((33 : Int) ≤ (c.toNat : Int) ∧ (126 : Int) < (c.toNat : Int)) := by
  unfold okB at h
  simp only [Bool.and_eq_false_iff, decide_eq_false_iff_not] at h
  omega

end Go.Proofs.YtaiinglogpbfjaaDoor
