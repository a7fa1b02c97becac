/- Lengths, offsets and areas as mathematics. No program is named here. -/
import Derived.Test.YtdmoibphidipeaaGreatDoorZOaB
namespace Go.Proofs.YtdmoibphidipeaaGreatDoor

/-- twice the area of a triangle, signed; of a way and the origin -/
def crG (o a b : Pt) : Int := (a.x - o.x) * (b.y - o.y) - (a.y - o.y) * (b.x - o.x)
/-- bounds -/
theorem cr_size {o a b : Pt} (ho : FitP o) (ha : FitP a) (hb : FitP b) : -562949819203592 ≤ crG o a b ∧ crG o a b ≤ 562949819203592 := by
  have m : ∀ x y : Int, -16777214 ≤ x ∧ x ≤ 16777214 → -16777214 ≤ y ∧ y ≤ 16777214 → -281474909601796 ≤ x * y ∧ x * y ≤ 281474909601796 := fun x y hx hy => by
    have h1 := Int.mul_nonneg (show 0 ≤ 16777214 - x by omega) (show 0 ≤ 16777214 - y by omega)
    have h2 := Int.mul_nonneg (show 0 ≤ 16777214 - x by omega) (show 0 ≤ 16777214 + y by omega)
    have h3 := Int.mul_nonneg (show 0 ≤ 16777214 + x by omega) (show 0 ≤ 16777214 - y by omega)
    have h4 := Int.mul_nonneg (show 0 ≤ 16777214 + x by omega) (show 0 ≤ 16777214 + y by omega)
    constructor <;> grind
  unfold FitP at ho ha hb
  have h1 := m (a.x - o.x) (b.y - o.y) (by omega) (by omega)
  have h2 := m (a.y - o.y) (b.x - o.x) (by omega) (by omega)
  unfold crG
  omega
end Go.Proofs.YtdmoibphidipeaaGreatDoor
