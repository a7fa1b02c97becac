/- An argument that is three points of the grid, opened. -/
import Derived.Test.YtkgedgaddpojkaaGreatDoorShutS
import Derived.OpenShut
namespace Go.Proofs.YtkgedgaddpojkaaGreatDoor.shut
open Go.Joins Go.ChangeShapes Go.WideShapes Go.ChangeAt Go.RowKit Go.Deep Num

theorem point_cells {H : Type} {enc : TypeId × Value → H} {W : World} {c0 c1 : Value} {fuel : Nat} {y : DataW H × List MemPlace} (hf : DataW.trod enc Tryz.prog W 0 (fun _ => true) true fuel 33 [c0, c1] = some y) :
    ∃ x0 x1 : Int, c0 = .int .i64 x0 ∧ c1 = .int .i64 x1 ∧ (-9223372036854775808 ≤ x0 ∧ x0 ≤ 9223372036854775807) ∧ (-9223372036854775808 ≤ x1 ∧ x1 ≤ 9223372036854775807) := by
  have e2 : Tryz.prog.cellsOf 3 = 1 := by kernel_rfl
  obtain ⟨y0, y1, m, rfl, -, h0, h1⟩ := trod_struct2 Tryz.underlying33 hf
  simp only [e2] at h0 h1
  obtain ⟨x, f0, -, wx⟩ := DataW.trod_int Tryz.underlying3 (show DataW.trod enc Tryz.prog W 0 (fun _ => true) true m 3 [c0] = some y0 from h0)
  obtain ⟨z, f1, -, wz⟩ := DataW.trod_int Tryz.underlying3 (show DataW.trod enc Tryz.prog W 0 (fun _ => true) true m 3 [c1] = some y1 from h1)
  obtain rfl : c0 = .int .i64 x := by simpa using f0
  obtain rfl : c1 = .int .i64 z := by simpa using f1
  have hx := bounds_i64 wx
  have hz := bounds_i64 wz
  exact ⟨x, z, rfl, rfl, by omega, by omega⟩
set_option maxRecDepth 10000 in
set_option maxHeartbeats 800000 in
/-- AN ARGUMENT THAT IS THREE POINTS. -/
theorem points {H : Type} {enc : TypeId × Value → H} {W : World} {base : Nat} {v : Value} {d : DataW H} {p : List MemPlace} (hv : Value.okWide Tryz.prog W .any base 34 v) (h : DataW.Trod enc Tryz.prog W 0 (fun _ => true) true 34 v d p) :
    ∃ x1 y1 x2 y2 x3 y3 : Int, v = .agg #[.int .i64 x1, .int .i64 y1, .int .i64 x2, .int .i64 y2, .int .i64 x3, .int .i64 y3] ∧ ((-9223372036854775808 ≤ x1 ∧ x1 ≤ 9223372036854775807) ∧ (-9223372036854775808 ≤ y1 ∧ y1 ≤ 9223372036854775807)) ∧ ((-9223372036854775808 ≤ x2 ∧ x2 ≤ 9223372036854775807) ∧ (-9223372036854775808 ≤ y2 ∧ y2 ≤ 9223372036854775807)) ∧ ((-9223372036854775808 ≤ x3 ∧ x3 ≤ 9223372036854775807) ∧ (-9223372036854775808 ≤ y3 ∧ y3 ≤ 9223372036854775807)) := by
  have hu := Tryz.underlying34
  have hc : Tryz.prog.cellsOf 34 = 6 := by kernel_rfl
  have e1 : Tryz.prog.cellsOf 33 = 2 := by kernel_rfl
  simp only [Value.okWide, hu] at hv
  obtain ⟨cs, rfl, hsz, -⟩ := hv
  obtain ⟨c0, c1, c2, c3, c4, c5, rfl⟩ := array6 (hsz.trans hc)
  obtain ⟨fuel, hf⟩ := h
  obtain ⟨xs, m, -, -, -, hxl, hx⟩ := DataW.trod_array hu (show DataW.trod enc Tryz.prog W 0 (fun _ => true) true fuel 34 [c0, c1, c2, c3, c4, c5] = some (d, p) from hf)
  simp only [e1] at hx
  have get : ∀ i, i < 3 → ∃ y, xs[i]? = some y := fun i hi => ⟨xs[i]'(by omega), List.getElem?_eq_getElem (by omega)⟩
  obtain ⟨y0, g0⟩ := get 0 (by omega)
  obtain ⟨y1, g1⟩ := get 1 (by omega)
  obtain ⟨y2, g2⟩ := get 2 (by omega)
  obtain ⟨a0, a1, rfl, rfl, b0, b1⟩ := point_cells (show DataW.trod enc Tryz.prog W 0 (fun _ => true) true m 33 [c0, c1] = some y0 from (hx 0 (by omega)).trans g0)
  obtain ⟨a2, a3, rfl, rfl, b2, b3⟩ := point_cells (show DataW.trod enc Tryz.prog W 0 (fun _ => true) true m 33 [c2, c3] = some y1 from (hx 1 (by omega)).trans g1)
  obtain ⟨a4, a5, rfl, rfl, b4, b5⟩ := point_cells (show DataW.trod enc Tryz.prog W 0 (fun _ => true) true m 33 [c4, c5] = some y2 from (hx 2 (by omega)).trans g2)
  exact ⟨a0, a1, a2, a3, a4, a5, rfl, ⟨b0, b1⟩, ⟨b2, b3⟩, ⟨b4, b5⟩⟩
end Go.Proofs.YtkgedgaddpojkaaGreatDoor.shut
