/- What the closings of layer 14 need: an argument that is a point whose parts are ints of 64 bits; a line of whatever length. -/
import Derived.Test.YtbhahddgajkchaaZSgK
namespace Go.Proofs.Ytbhahddgajkchaa.shut
open Go.Joins Go.ChangeShapes Go.WideShapes Go.ChangeAt Go.RowKit Go.Deep

set_option maxRecDepth 10000 in
/-- AN ARGUMENT THAT IS A POINT, and within which bounds its parts are. -/
theorem pointR {H : Type} {enc : TypeId × Value → H} {W : World} {base : Nat} {v : Value} {d : DataW H} {p : List MemPlace} (hv : Value.okWide Try.prog W .any base 23 v) (h : DataW.Trod enc Try.prog W 0 (fun _ => true) true 23 v d p) :
    ∃ q : Pt, v = ptV q ∧ (-9223372036854775808 ≤ q.x ∧ q.x ≤ 9223372036854775807) ∧ (-9223372036854775808 ≤ q.y ∧ q.y ≤ 9223372036854775807) := by
  obtain ⟨cs, rfl, hsz⟩ := okWide_struct Try.underlying23 hv
  have hc : Try.prog.cellsOf 23 = 2 := by kernel_rfl
  rw [hc] at hsz
  obtain ⟨l⟩ := cs
  obtain ⟨fuel, hf⟩ := h
  obtain ⟨c0, c1, rfl⟩ := list2 (show l.length = 2 from hsz)
  have e1 : Try.prog.cellsOf 3 = 1 := by kernel_rfl
  obtain ⟨y0, y1, m, -, -, h0, h1⟩ := trod_struct2 Try.underlying23 (show DataW.trod enc Try.prog W 0 (fun _ => true) true fuel 23 [c0, c1] = some (d, p) from hf)
  simp only [e1] at h0 h1
  obtain ⟨x0, rfl, a0⟩ := int_of (show DataW.trod enc Try.prog W 0 (fun _ => true) true m 3 [c0] = some y0 from h0)
  obtain ⟨x1, rfl, a1⟩ := int_of (show DataW.trod enc Try.prog W 0 (fun _ => true) true m 3 [c1] = some y1 from h1)
  exact ⟨⟨x0, x1⟩, rfl, a0, a1⟩
set_option maxRecDepth 10000 in
/-- AN ARGUMENT THAT IS A LINE, of whatever length. -/
theorem line_any {H : Type} {enc : TypeId × Value → H} {W : World} {base : Nat} {v : Value} {d : DataW H} {p : List MemPlace} (hv : Value.okWide Try.prog W .any base 32 v) (h : DataW.Trod enc Try.prog W 0 (fun _ => true) true 32 v d p)
    (hlt : ∀ x ∈ p, x.block < W.heap.size) (hk : (DataW.weights Try.prog 32 d).all (· ≤ reachBytes) = true) :
    ∃ A l c b, v = .agg #[.slice A (List.length l) c, .bool b] ∧ l.length * 16 ≤ 140737488351232 ∧ l.length ≤ c ∧ RdV W W.heap.size A (ptRow l) := by
  obtain ⟨cs, rfl, hsz⟩ := okWide_struct Try.underlying32 hv
  have hc : Try.prog.cellsOf 32 = 2 := by kernel_rfl
  rw [hc] at hsz
  obtain ⟨l⟩ := cs
  obtain ⟨fuel, hf⟩ := h
  obtain ⟨c0, c1, rfl⟩ := list2 (show l.length = 2 from hsz)
  have e1 : Try.prog.cellsOf 30 = 1 := by kernel_rfl
  have e2 : Try.prog.cellsOf 4 = 1 := by kernel_rfl
  obtain ⟨y0, y1, m, he, -, h0, h1⟩ := trod_struct2 Try.underlying32 (show DataW.trod enc Try.prog W 0 (fun _ => true) true fuel 32 [c0, c1] = some (d, p) from hf)
  simp only [Prod.mk.injEq] at he
  obtain ⟨rfl, rfl⟩ := he
  simp only [e1, e2] at h0 h1
  simp only [DataW.weights, Try.underlying32, List.map_cons, List.map_nil, DataW.weightsEach, List.all_append, Bool.and_eq_true] at hk
  obtain ⟨A, q, c, hA, hb1, hb2, hr⟩ := rows_of (f := ptCells) (k := 2) (b := 16) (by omega) ptCells_length Try.underlying30 (by kernel_rfl) (by kernel_rfl) (fun cs fuel y hl hf => point_of hl hf) (show DataW.trod enc Try.prog W 0 (fun _ => true) true m 30 [c0] = some y0 from h0) (fun x hx => hlt x (List.mem_append.2 (.inl hx))) hk.1
  obtain ⟨b, hB, -⟩ := DataW.trod_bool Try.underlying4 (show DataW.trod enc Try.prog W 0 (fun _ => true) true m 4 [c1] = some y1 from h1)
  simp only [List.cons.injEq, and_true] at hA hB
  subst hA hB
  exact ⟨A, q, c, b, rfl, hb1, hb2, hr⟩
end Go.Proofs.Ytbhahddgajkchaa.shut
