/- What the closings of layer 17 need: an argument that is a way, opened. -/
import Derived.Test.YtdmoibphidipeaaGreatDoorZSgK
import Derived.Test.YtdmoibphidipeaaGreatDoorZCrY
namespace Go.Proofs.YtdmoibphidipeaaGreatDoor.shut
open Go.ChangeShapes Go.WideShapes Go.ChangeAt Go.RowKit

theorem list4 {α : Type} {cs : List α} (h : cs.length = 4) : ∃ c0 c1 c2 c3, cs = [c0, c1, c2, c3] := by
  match cs, h with
  | [c0, c1, c2, c3], _ => exact ⟨c0, c1, c2, c3, rfl⟩
set_option maxRecDepth 10000 in
/-- a way among the cells -/
theorem seg_of {H : Type} {enc : TypeId × Value → H} {W : World} {cs : List Value} {fuel : Nat} {y : DataW H × List MemPlace} (hl : cs.length = 4) (hf : DataW.trod enc Tryz.prog W 0 (fun _ => true) true fuel 25 cs = some y) : ∃ a b : Pt, cs = segCells a b := by
  obtain ⟨c0, c1, c2, c3, rfl⟩ := list4 hl
  have e2 : Tryz.prog.cellsOf 23 = 2 := by kernel_rfl
  obtain ⟨y0, y1, m, -, -, h0, h1⟩ := trod_struct2 Tryz.underlying25 hf
  simp only [e2] at h0 h1
  obtain ⟨a, ha⟩ := point_of (show [c0, c1].length = 2 from rfl) (show DataW.trod enc Tryz.prog W 0 (fun _ => true) true m 23 [c0, c1] = some y0 from h0)
  obtain ⟨b, hb⟩ := point_of (show [c2, c3].length = 2 from rfl) (show DataW.trod enc Tryz.prog W 0 (fun _ => true) true m 23 [c2, c3] = some y1 from h1)
  unfold ptCells at ha hb
  injection ha with a1 a2
  injection a2 with a2 _
  injection hb with b1 b2
  injection b2 with b2 _
  subst a1 a2 b1 b2
  exact ⟨a, b, rfl⟩
set_option maxRecDepth 10000 in
/-- AN ARGUMENT THAT IS A WAY. -/
theorem seg {H : Type} {enc : TypeId × Value → H} {W : World} {base : Nat} {v : Value} {d : DataW H} {p : List MemPlace} (hv : Value.okWide Tryz.prog W .any base 25 v) (h : DataW.Trod enc Tryz.prog W 0 (fun _ => true) true 25 v d p) :
    ∃ a b : Pt, v = segV a b := by
  obtain ⟨cs, rfl, hsz⟩ := okWide_struct Tryz.underlying25 hv
  have hc : Tryz.prog.cellsOf 25 = 4 := by kernel_rfl
  rw [hc] at hsz
  obtain ⟨l⟩ := cs
  obtain ⟨fuel, hf⟩ := h
  obtain ⟨a, b, hq⟩ := seg_of (show l.length = 4 from hsz) (show DataW.trod enc Tryz.prog W 0 (fun _ => true) true fuel 25 l = some (d, p) from hf)
  exact ⟨a, b, by rw [hq]; rfl⟩
end Go.Proofs.YtdmoibphidipeaaGreatDoor.shut
