/- Fractions, the document's own: what Text answers. -/
import Derived.Test.YtlnkmjjbkmcpaaaZFrV
import Derived.Test.YtlnkmjjbkmcpaaaZWrG
import Derived.Test.YtlnkmjjbkmcpaaaZTxtE
namespace Go.Proofs.Ytlnkmjjbkmcpaaa
open Go.RowKit Num

/-- the text of P by Q -/
def ftop (P : Int) (Q : Nat) : Int := if P < 0 then - ((P.natAbs / Nat.gcd P.natAbs Q : Nat) : Int) else ((P.natAbs / Nat.gcd P.natAbs Q : Nat) : Int)
def ftext (P : Int) (Q : Nat) : List UInt8 := if Q / Nat.gcd P.natAbs Q = 1 then wtext (ftop P Q) else wtext (ftop P Q) ++ 47 :: Lib.decDigits (Q / Nat.gcd P.natAbs Q)
theorem ftop_of {P : Int} {Q : Nat} {x : List Nat} (h : val 4294967296 x = P.natAbs / Nat.gcd P.natAbs Q) : wv (decide (P < 0)) x = ftop P Q := by
  unfold ftop
  by_cases hp : P < 0
  · rw [if_pos hp, decide_eq_true hp, wv_true, h]
  · rw [if_neg hp, decide_eq_false hp, wv_false, h]
theorem one_iff {y : List Nat} (h : Norm 4294967296 y) : y = [1] ↔ val 4294967296 y = 1 :=
  ⟨fun e => by rw [e]; rfl, fun e => Norm.ext (by omega) h (norm_one (by omega) (by omega)) (by rw [e]; rfl)⟩
theorem text_join (N M : List UInt8) : ((⟨N.toArray⟩ : ByteArray) ++ ⟨#[47]⟩ ++ ⟨M.toArray⟩) = ⟨(N ++ 47 :: M).toArray⟩ := by
  apply ByteArray.ext
  simp [ByteArray.data_append]
theorem wtext_len (N : Int) : (wtext N).length ≤ (Lib.decDigits N.natAbs).length + 1 := by
  unfold wtext
  split <;> simp

end Go.Proofs.Ytlnkmjjbkmcpaaa
