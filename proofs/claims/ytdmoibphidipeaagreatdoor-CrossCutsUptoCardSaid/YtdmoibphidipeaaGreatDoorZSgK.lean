/- What the closings of layer 10 need: an argument that is a point, a map, two ints, a row of points, of maps, opened. -/
import Derived.Test.YtdmoibphidipeaaGreatDoorRows
import Derived.Test.YtdmoibphidipeaaGreatDoorZOaA
import Derived.WalkKit
import Derived.ProofKit
import Derived.OpenShut
import Derived.JoinedOf
import Derived.SizedLaws
import Derived.Lib.SmallJoins
import Derived.Deep.Slices
import Derived.Deep.Strs
namespace Go.Proofs.YtdmoibphidipeaaGreatDoor.shut
open Go.Joins Go.ChangeShapes Go.WideShapes Go.ChangeAt Go.RowKit Go.Deep

/-- an int among the cells -/
theorem int_of {H : Type} {enc : TypeId × Value → H} {W : World} {c : Value} {fuel : Nat} {y : DataW H × List MemPlace} (hf : DataW.trod enc Tryz.prog W 0 (fun _ => true) true fuel 3 [c] = some y) : ∃ x : Int, c = .int .i64 x ∧ -9223372036854775808 ≤ x ∧ x ≤ 9223372036854775807 := by
  obtain ⟨x, f, -, w⟩ := DataW.trod_int Tryz.underlying3 hf
  have b := bounds_i64 w
  exact ⟨x, by simpa using f, by omega, by omega⟩
theorem list2 {α : Type} {cs : List α} (h : cs.length = 2) : ∃ c0 c1, cs = [c0, c1] := by
  match cs, h with
  | [c0, c1], _ => exact ⟨c0, c1, rfl⟩
set_option maxRecDepth 10000 in
/-- a point among the cells -/
theorem point_of {H : Type} {enc : TypeId × Value → H} {W : World} {cs : List Value} {fuel : Nat} {y : DataW H × List MemPlace} (hl : cs.length = 2) (hf : DataW.trod enc Tryz.prog W 0 (fun _ => true) true fuel 23 cs = some y) : ∃ p : Pt, cs = ptCells p := by
  obtain ⟨c0, c1, rfl⟩ := list2 hl
  have e1 : Tryz.prog.cellsOf 3 = 1 := by kernel_rfl
  obtain ⟨y0, y1, m, -, -, h0, h1⟩ := trod_struct2 Tryz.underlying23 hf
  simp only [e1] at h0 h1
  obtain ⟨x0, rfl, -⟩ := int_of (show DataW.trod enc Tryz.prog W 0 (fun _ => true) true m 3 [c0] = some y0 from h0)
  obtain ⟨x1, rfl, -⟩ := int_of (show DataW.trod enc Tryz.prog W 0 (fun _ => true) true m 3 [c1] = some y1 from h1)
  exact ⟨⟨x0, x1⟩, rfl⟩
set_option maxRecDepth 10000 in
/-- AN ARGUMENT THAT IS A POINT. -/
theorem point {H : Type} {enc : TypeId × Value → H} {W : World} {base : Nat} {v : Value} {d : DataW H} {p : List MemPlace} (hv : Value.okWide Tryz.prog W .any base 23 v) (h : DataW.Trod enc Tryz.prog W 0 (fun _ => true) true 23 v d p) :
    ∃ q : Pt, v = ptV q := by
  obtain ⟨cs, rfl, hsz⟩ := okWide_struct Tryz.underlying23 hv
  have hc : Tryz.prog.cellsOf 23 = 2 := by kernel_rfl
  rw [hc] at hsz
  obtain ⟨l⟩ := cs
  obtain ⟨fuel, hf⟩ := h
  obtain ⟨q, hq⟩ := point_of (show l.length = 2 from hsz) (show DataW.trod enc Tryz.prog W 0 (fun _ => true) true fuel 23 l = some (d, p) from hf)
  exact ⟨q, by rw [hq]; rfl⟩
end Go.Proofs.YtdmoibphidipeaaGreatDoor.shut
/- A row of structs that came in, opened; rows of points, of maps. -/

namespace Go.Proofs.YtdmoibphidipeaaGreatDoor.shut
open Go.Joins Go.ChangeShapes Go.WideShapes Go.ChangeAt Go.RowKit Go.Deep

end Go.Proofs.YtdmoibphidipeaaGreatDoor.shut
