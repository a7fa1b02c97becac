/- Colours: the document's own over, mix, Over, Fade, Mix, May. Written by gen/genco.py. -/
import Derived.Test.YtaiinglogpbfjaaDoorCoB
namespace Go.Proofs.YtaiinglogpbfjaaDoor
open Go.RowKit

theorem mix_bounds (a b n : UInt8) : 0 ≤ (a.toNat : Int) * (255 - (n.toNat : Int)) ∧ (a.toNat : Int) * (255 - (n.toNat : Int)) ≤ 65025 ∧ 0 ≤ (b.toNat : Int) * (n.toNat : Int) ∧ (b.toNat : Int) * (n.toNat : Int) ≤ 65025 := by
  have h1 := mul_parts a (255 - n)
  rw [not255] at h1
  have hn := n.toNat_lt
  have e : ((255 - n.toNat : Nat) : Int) = 255 - (n.toNat : Int) := by omega
  rw [e] at h1
  exact ⟨h1.1, h1.2, mul_parts b n⟩
end Go.Proofs.YtaiinglogpbfjaaDoor
