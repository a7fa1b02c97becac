/- What the closings of layer 10 need: an argument that is a point, a map, two ints, a row of points, of maps, opened. -/
import Derived.Test.YtlnkmjjbkmcpaaaRows
import Derived.Test.YtlnkmjjbkmcpaaaZAfW
import Derived.WalkKit
import Derived.ProofKit
import Derived.OpenShut
import Derived.JoinedOf
import Derived.SizedLaws
import Derived.Lib.SmallJoins
import Derived.Deep.Slices
import Derived.Deep.Strs
namespace Go.Proofs.Ytlnkmjjbkmcpaaa.shut
open Go.Joins Go.ChangeShapes Go.WideShapes Go.ChangeAt Go.RowKit Go.Deep

/-- an int among the cells -/
theorem int_of {H : Type} {enc : TypeId × Value → H} {W : World} {c : Value} {fuel : Nat} {y : DataW H × List MemPlace} (hf : DataW.trod enc Try.prog W 0 (fun _ => true) true fuel 3 [c] = some y) : ∃ x : Int, c = .int .i64 x ∧ -9223372036854775808 ≤ x ∧ x ≤ 9223372036854775807 := by
  obtain ⟨x, f, -, w⟩ := DataW.trod_int Try.underlying3 hf
  have b := bounds_i64 w
  exact ⟨x, by simpa using f, by omega, by omega⟩
theorem list2 {α : Type} {cs : List α} (h : cs.length = 2) : ∃ c0 c1, cs = [c0, c1] := by
  match cs, h with
  | [c0, c1], _ => exact ⟨c0, c1, rfl⟩
theorem list6 {α : Type} {cs : List α} (h : cs.length = 6) : ∃ c0 c1 c2 c3 c4 c5, cs = [c0, c1, c2, c3, c4, c5] := by
  match cs, h with
  | [c0, c1, c2, c3, c4, c5], _ => exact ⟨c0, c1, c2, c3, c4, c5, rfl⟩
/-- six fields -/
theorem trod_struct6 {H : Type} {enc : TypeId × Value → H} {P : Program} {w : World} {base : Nat} {spare : Nat → Bool} {held : Bool} {t : TypeId} {f0 f1 f2 f3 f4 f5 : Field} {fuel : Nat} {cs : List Value} {x : DataW H × List MemPlace} (ht : P.underlying t = some (.struct #[f0, f1, f2, f3, f4, f5])) (h : DataW.trod enc P w base spare held fuel t cs = some x) :
    ∃ y0 y1 y2 y3 y4 y5 n, DataW.trod enc P w base spare held n f0.type ((cs.drop f0.offset).take (P.cellsOf f0.type)) = some y0 ∧
      DataW.trod enc P w base spare held n f1.type ((cs.drop f1.offset).take (P.cellsOf f1.type)) = some y1 ∧ DataW.trod enc P w base spare held n f2.type ((cs.drop f2.offset).take (P.cellsOf f2.type)) = some y2 ∧
      DataW.trod enc P w base spare held n f3.type ((cs.drop f3.offset).take (P.cellsOf f3.type)) = some y3 ∧ DataW.trod enc P w base spare held n f4.type ((cs.drop f4.offset).take (P.cellsOf f4.type)) = some y4 ∧ DataW.trod enc P w base spare held n f5.type ((cs.drop f5.offset).take (P.cellsOf f5.type)) = some y5 := by
  obtain ⟨xs, n, _, rfl, hl, hlen, hf⟩ := DataW.trod_struct ht h
  match xs, hlen with
  | [y0, y1, y2, y3, y4, y5], _ => exact ⟨y0, y1, y2, y3, y4, y5, n, by simpa using hf 0 f0 rfl, by simpa using hf 1 f1 rfl, by simpa using hf 2 f2 rfl, by simpa using hf 3 f3 rfl, by simpa using hf 4 f4 rfl, by simpa using hf 5 f5 rfl⟩
set_option maxRecDepth 10000 in
/-- a point among the cells -/
theorem point_of {H : Type} {enc : TypeId × Value → H} {W : World} {cs : List Value} {fuel : Nat} {y : DataW H × List MemPlace} (hl : cs.length = 2) (hf : DataW.trod enc Try.prog W 0 (fun _ => true) true fuel 23 cs = some y) : ∃ p : Pt, cs = ptCells p := by
  obtain ⟨c0, c1, rfl⟩ := list2 hl
  have e1 : Try.prog.cellsOf 3 = 1 := by kernel_rfl
  obtain ⟨y0, y1, m, -, -, h0, h1⟩ := trod_struct2 Try.underlying23 hf
  simp only [e1] at h0 h1
  obtain ⟨x0, rfl, -⟩ := int_of (show DataW.trod enc Try.prog W 0 (fun _ => true) true m 3 [c0] = some y0 from h0)
  obtain ⟨x1, rfl, -⟩ := int_of (show DataW.trod enc Try.prog W 0 (fun _ => true) true m 3 [c1] = some y1 from h1)
  exact ⟨⟨x0, x1⟩, rfl⟩
set_option maxRecDepth 10000 in
/-- AN ARGUMENT THAT IS A POINT. -/
theorem point {H : Type} {enc : TypeId × Value → H} {W : World} {base : Nat} {v : Value} {d : DataW H} {p : List MemPlace} (hv : Value.okWide Try.prog W .any base 23 v) (h : DataW.Trod enc Try.prog W 0 (fun _ => true) true 23 v d p) :
    ∃ q : Pt, v = ptV q := by
  obtain ⟨cs, rfl, hsz⟩ := okWide_struct Try.underlying23 hv
  have hc : Try.prog.cellsOf 23 = 2 := by kernel_rfl
  rw [hc] at hsz
  obtain ⟨l⟩ := cs
  obtain ⟨fuel, hf⟩ := h
  obtain ⟨q, hq⟩ := point_of (show l.length = 2 from hsz) (show DataW.trod enc Try.prog W 0 (fun _ => true) true fuel 23 l = some (d, p) from hf)
  exact ⟨q, by rw [hq]; rfl⟩
theorem ownA : ownKnob Try.prog.godebug = none := by kernel_rfl
theorem laidOutA : laidOutB Try.prog = true := by kernel_rfl
end Go.Proofs.Ytlnkmjjbkmcpaaa.shut
/- What the closings of layer 11 need: an argument that is three points, or four, opened. -/

namespace Go.Proofs.Ytlnkmjjbkmcpaaa.shut
open Go.Joins Go.ChangeShapes Go.WideShapes Go.ChangeAt Go.RowKit Go.Deep

theorem list6k {α : Type} {cs : List α} (h : cs.length = 6) : ∃ c0 c1 c2 c3 c4 c5, cs = [c0, c1, c2, c3, c4, c5] := by
  match cs, h with
  | [c0, c1, c2, c3, c4, c5], _ => exact ⟨c0, c1, c2, c3, c4, c5, rfl⟩
set_option maxRecDepth 10000 in
/-- AN ARGUMENT THAT IS 3 POINTS. -/
theorem arrP3 {H : Type} {enc : TypeId × Value → H} {W : World} {base : Nat} {v : Value} {d : DataW H} {p : List MemPlace} (hv : Value.okWide Try.prog W .any base 24 v) (h : DataW.Trod enc Try.prog W 0 (fun _ => true) true 24 v d p) :
    ∃ a0 a1 a2 : Pt, v = .agg #[.int .i64 a0.x, .int .i64 a0.y, .int .i64 a1.x, .int .i64 a1.y, .int .i64 a2.x, .int .i64 a2.y] := by
  have hu := Try.underlying24
  have hc : Try.prog.cellsOf 24 = 6 := by kernel_rfl
  have e1 : Try.prog.cellsOf 23 = 2 := by kernel_rfl
  simp only [Value.okWide, hu] at hv
  obtain ⟨cs, rfl, hsz, -⟩ := hv
  rw [hc] at hsz
  obtain ⟨l⟩ := cs
  obtain ⟨c0, c1, c2, c3, c4, c5, rfl⟩ := list6k (show l.length = 6 from hsz)
  obtain ⟨fuel, hf⟩ := h
  obtain ⟨xs, m, -, hd, -, hxl, hx⟩ := DataW.trod_array hu (show DataW.trod enc Try.prog W 0 (fun _ => true) true fuel 24 [c0, c1, c2, c3, c4, c5] = some (d, p) from hf)
  simp only [e1] at hx
  obtain ⟨a0, h0⟩ := point_of (y := xs[0]'(by omega)) (cs := [c0, c1]) rfl ((hx 0 (by omega)).trans (List.getElem?_eq_getElem (by omega)))
  obtain ⟨a1, h1⟩ := point_of (y := xs[1]'(by omega)) (cs := [c2, c3]) rfl ((hx 1 (by omega)).trans (List.getElem?_eq_getElem (by omega)))
  obtain ⟨a2, h2⟩ := point_of (y := xs[2]'(by omega)) (cs := [c4, c5]) rfl ((hx 2 (by omega)).trans (List.getElem?_eq_getElem (by omega)))
  simp only [ptCells, List.cons.injEq, and_true] at h0
  obtain ⟨rfl, rfl⟩ := h0
  simp only [ptCells, List.cons.injEq, and_true] at h1
  obtain ⟨rfl, rfl⟩ := h1
  simp only [ptCells, List.cons.injEq, and_true] at h2
  obtain ⟨rfl, rfl⟩ := h2
  exact ⟨a0, a1, a2, rfl⟩
theorem list8k {α : Type} {cs : List α} (h : cs.length = 8) : ∃ c0 c1 c2 c3 c4 c5 c6 c7, cs = [c0, c1, c2, c3, c4, c5, c6, c7] := by
  match cs, h with
  | [c0, c1, c2, c3, c4, c5, c6, c7], _ => exact ⟨c0, c1, c2, c3, c4, c5, c6, c7, rfl⟩
set_option maxRecDepth 10000 in
/-- AN ARGUMENT THAT IS 4 POINTS. -/
theorem arrP4 {H : Type} {enc : TypeId × Value → H} {W : World} {base : Nat} {v : Value} {d : DataW H} {p : List MemPlace} (hv : Value.okWide Try.prog W .any base 36 v) (h : DataW.Trod enc Try.prog W 0 (fun _ => true) true 36 v d p) :
    ∃ a0 a1 a2 a3 : Pt, v = .agg #[.int .i64 a0.x, .int .i64 a0.y, .int .i64 a1.x, .int .i64 a1.y, .int .i64 a2.x, .int .i64 a2.y, .int .i64 a3.x, .int .i64 a3.y] := by
  have hu := Try.underlying36
  have hc : Try.prog.cellsOf 36 = 8 := by kernel_rfl
  have e1 : Try.prog.cellsOf 23 = 2 := by kernel_rfl
  simp only [Value.okWide, hu] at hv
  obtain ⟨cs, rfl, hsz, -⟩ := hv
  rw [hc] at hsz
  obtain ⟨l⟩ := cs
  obtain ⟨c0, c1, c2, c3, c4, c5, c6, c7, rfl⟩ := list8k (show l.length = 8 from hsz)
  obtain ⟨fuel, hf⟩ := h
  obtain ⟨xs, m, -, hd, -, hxl, hx⟩ := DataW.trod_array hu (show DataW.trod enc Try.prog W 0 (fun _ => true) true fuel 36 [c0, c1, c2, c3, c4, c5, c6, c7] = some (d, p) from hf)
  simp only [e1] at hx
  obtain ⟨a0, h0⟩ := point_of (y := xs[0]'(by omega)) (cs := [c0, c1]) rfl ((hx 0 (by omega)).trans (List.getElem?_eq_getElem (by omega)))
  obtain ⟨a1, h1⟩ := point_of (y := xs[1]'(by omega)) (cs := [c2, c3]) rfl ((hx 1 (by omega)).trans (List.getElem?_eq_getElem (by omega)))
  obtain ⟨a2, h2⟩ := point_of (y := xs[2]'(by omega)) (cs := [c4, c5]) rfl ((hx 2 (by omega)).trans (List.getElem?_eq_getElem (by omega)))
  obtain ⟨a3, h3⟩ := point_of (y := xs[3]'(by omega)) (cs := [c6, c7]) rfl ((hx 3 (by omega)).trans (List.getElem?_eq_getElem (by omega)))
  simp only [ptCells, List.cons.injEq, and_true] at h0
  obtain ⟨rfl, rfl⟩ := h0
  simp only [ptCells, List.cons.injEq, and_true] at h1
  obtain ⟨rfl, rfl⟩ := h1
  simp only [ptCells, List.cons.injEq, and_true] at h2
  obtain ⟨rfl, rfl⟩ := h2
  simp only [ptCells, List.cons.injEq, and_true] at h3
  obtain ⟨rfl, rfl⟩ := h3
  exact ⟨a0, a1, a2, a3, rfl⟩
end Go.Proofs.Ytlnkmjjbkmcpaaa.shut
