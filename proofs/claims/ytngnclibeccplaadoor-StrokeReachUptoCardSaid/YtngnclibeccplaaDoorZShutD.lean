/- What the bounded closings of layer 15 need: an argument that is a line, or a row of ints, opened; the bound. -/
import Derived.Test.YtngnclibeccplaaDoorZSgK
import Derived.Test.YtngnclibeccplaaDoorZOaB
namespace Go.Proofs.YtngnclibeccplaaDoor.shut
open Go.Joins Go.ChangeShapes Go.WideShapes Go.ChangeAt Go.RowKit Go.Deep

set_option maxRecDepth 10000 in
/-- a row of points, how many they are, and that there is room for them -/
theorem points_bulkC {H : Type} {enc : TypeId × Value → H} {W : World} {cs : List Value} {fuel : Nat} {y : DataW H × List MemPlace} (h : DataW.trod enc Tryd.prog W 0 (fun _ => true) true fuel 22 cs = some y) (hlt : ∀ x ∈ y.2, x.block < W.heap.size) :
    ∃ A l c, cs = [.slice A (List.length l) c] ∧ l.length ≤ Rows.uptoBulk y.1 ∧ l.length ≤ c ∧ RdV W W.heap.size A (ptRow l) := by
  have hc : Tryd.prog.cellsOf 34 = 2 := by kernel_rfl
  rcases open_slice Tryd.underlying22 h with ⟨hcs, -⟩ | ⟨a, len, cap, m, n, D, Pl, hcs, -, hl, hcm, hm, hx, hcell⟩
  · exact ⟨none, [], 0, hcs, by simp, Nat.le_refl _, RdV.nil _ _ _⟩
  · simp only [if_true] at hm
    subst hm
    rw [hc] at hx hcell
    subst hx
    have each : ∀ i, i < len → ∃ x : Pt, ∀ j u, (ptCells x)[j]? = some u → W.cell? ((a.add (i * 2)).add j) = some u := fun i hi => by
      obtain ⟨cs, h1, h2⟩ := hcell i (by omega)
      obtain ⟨-, h4, h5⟩ := World.cells?_some h1
      obtain ⟨x, rfl⟩ := point_of h4 h2
      exact ⟨x, fun j u hu => (h5 j (by have := (List.getElem?_eq_some_iff.1 hu).1; rwa [ptCells_length] at this)).trans hu⟩
    obtain ⟨ss, hs⟩ := choose_lt each
    have hll : ((List.range len).map ss).length = len := by simp
    have hbk := bulk_lenO ((List.range len).map D)
    rw [List.length_map, List.length_range] at hbk
    refine ⟨some a, (List.range len).map ss, _, by rw [hll]; exact hcs, by rw [hll]; simp only [Rows.uptoBulk]; omega, by rw [hll]; omega, fun hn => ?_⟩
    unfold ptRow at hn ⊢
    rw [flat_length ptCells_length, hll] at hn
    have hlen : 0 < len := Nat.pos_of_mul_pos_right hn
    obtain ⟨b', off, spot⟩ := a
    have h0 := hs 0 (by omega) 0 _ rfl
    have hspot : spot = none := by
      have := World.cell?_spot h0
      simpa [Addr.add] using this
    subst hspot
    refine ⟨b', off, rfl, hlt (.cell b' off) (List.mem_append.2 (.inl (MemPlace.mem_row.2 ⟨0, Nat.mul_pos (by omega) (by omega), by simp⟩))), fun j hj => ?_⟩
    have hj' := hj
    rw [flat_length ptCells_length, hll] at hj'
    have hi : j / 2 < len := Nat.div_lt_of_lt_mul (by rwa [Nat.mul_comm] at hj')
    have hjm : j % 2 < 2 := Nat.mod_lt _ (by omega)
    have hg := flat_get ptCells_length ((List.range len).map ss) (j / 2) (by rw [hll]; exact hi) (j % 2) hjm
    have hsum : j / 2 * 2 + j % 2 = j := by rw [Nat.mul_comm]; exact Nat.div_add_mod j 2
    rw [hsum, List.getElem?_eq_getElem hj] at hg
    simp only [List.getElem_map, List.getElem_range] at hg
    have h1 := hs (j / 2) hi (j % 2) _ hg.symm
    rw [addr_add, addr_add] at h1
    rw [show off + j = off + j / 2 * 2 + j % 2 by omega]
    exact h1
set_option maxRecDepth 10000 in
/-- AN ARGUMENT THAT IS A LINE. -/
theorem line_upto {H : Type} {enc : TypeId × Value → H} {W : World} {base : Nat} {v : Value} {d : DataW H} {p : List MemPlace} (hv : Value.okWide Tryd.prog W .any base 24 v) (h : DataW.Trod enc Tryd.prog W 0 (fun _ => true) true 24 v d p)
    (hlt : ∀ x ∈ p, x.block < W.heap.size) (hk : Rows.uptoBulk d ≤ 1048576) :
    ∃ A l c b, v = .agg #[.slice A (List.length l) c, .bool b] ∧ l.length ≤ 1048576 ∧ l.length ≤ c ∧ RdV W W.heap.size A (ptRow l) := by
  obtain ⟨cs, rfl, hsz⟩ := okWide_struct Tryd.underlying24 hv
  have hc : Tryd.prog.cellsOf 24 = 2 := by kernel_rfl
  rw [hc] at hsz
  obtain ⟨l⟩ := cs
  obtain ⟨fuel, hf⟩ := h
  obtain ⟨c0, c1, rfl⟩ := list2 (show l.length = 2 from hsz)
  have e1 : Tryd.prog.cellsOf 22 = 1 := by kernel_rfl
  have e2 : Tryd.prog.cellsOf 4 = 1 := by kernel_rfl
  obtain ⟨y0, y1, m, he, -, h0, h1⟩ := trod_struct2 Tryd.underlying24 (show DataW.trod enc Tryd.prog W 0 (fun _ => true) true fuel 24 [c0, c1] = some (d, p) from hf)
  simp only [Prod.mk.injEq] at he
  obtain ⟨rfl, rfl⟩ := he
  simp only [e1, e2] at h0 h1
  obtain ⟨A, q, c, hA, hb1, hb2, hr⟩ := points_bulkC (show DataW.trod enc Tryd.prog W 0 (fun _ => true) true m 22 [c0] = some y0 from h0) (fun x hx => hlt x (List.mem_append.2 (.inl hx)))
  obtain ⟨b, hB, -⟩ := DataW.trod_bool Tryd.underlying4 (show DataW.trod enc Tryd.prog W 0 (fun _ => true) true m 4 [c1] = some y1 from h1)
  simp only [List.cons.injEq, and_true] at hA hB
  subst hA hB
  refine ⟨A, q, c, b, rfl, ?_, hb2, hr⟩
  simp only [Rows.uptoBulk, Rows.uptoBulkAll] at hk
  omega
theorem cellsIntD : Tryd.prog.cellsOf 3 = 1 := by kernel_rfl
set_option maxRecDepth 10000 in
/-- AN ARGUMENT THAT IS A ROW OF INTS. -/
theorem ints_upto {H : Type} {enc : TypeId × Value → H} {W : World} {base : Nat} {v : Value} {d : DataW H} {p : List MemPlace} (hv : Value.okWide Tryd.prog W .any base 25 v) (h : DataW.Trod enc Tryd.prog W 0 (fun _ => true) true 25 v d p)
    (hlt : ∀ x ∈ p, x.block < W.heap.size) (hk : Rows.uptoBulk d ≤ 1048576) :
    ∃ A xs c, v = .slice A (List.length xs) c ∧ xs.length ≤ 1048576 ∧ xs.length ≤ c ∧ RdV W W.heap.size A (icells xs) := by
  obtain ⟨a0, len, cap, rfl⟩ := okWide_slice Tryd.underlying25 hv
  obtain ⟨fuel, hf⟩ := h
  rcases open_ints Tryd.underlying25 Tryd.underlying3 cellsIntD hf with ⟨hcs, _⟩ | ⟨a, len', cap', zs, hcs, _, hl, hm, hz, hx, hcell, hwz⟩
  · simp [Value.cells] at hcs
    obtain ⟨rfl, rfl, rfl⟩ := hcs
    exact ⟨none, [], 0, rfl, by simp, Nat.le_refl _, RdV.nil _ _ _⟩
  · simp [Value.cells] at hcs
    obtain ⟨rfl, rfl, rfl⟩ := hcs
    simp only [Prod.mk.injEq] at hx
    obtain ⟨rfl, rfl⟩ := hx
    simp only [if_true] at hz
    have hlen : (zs.take len).length = len := by rw [List.length_take]; omega
    have hbk := bulk_lenO (H := H) (lits .i64 (zs.take len))
    have hll : (lits (H := H) .i64 (zs.take len)).length = len := by simp only [lits, List.length_map]; exact hlen
    simp only [Rows.uptoBulk] at hk
    refine ⟨some a, zs.take len, cap, by rw [hlen], by omega, by omega, ?_⟩
    intro hn
    rw [icells_length, hlen] at hn
    obtain ⟨b, off, spot⟩ := a
    have hspot : spot = none := by simpa [Addr.add] using World.cell?_spot (hcell 0 (by omega))
    subst hspot
    refine ⟨b, off, rfl, hlt (.cell b off) (MemPlace.mem_row.2 ⟨0, by omega, by simp⟩), fun j hj => ?_⟩
    rw [icells_length, hlen] at hj
    have hj' : j < zs.length := by omega
    have hc := hcell j hj'
    rw [addr_add] at hc
    rw [hc]
    simp only [icells, List.getElem_map, List.getElem_take, List.getD_eq_getElem?_getD, List.getElem?_eq_getElem hj', Option.getD_some]
set_option maxRecDepth 10000 in
/-- AN ARGUMENT THAT IS AN INT, and within which bounds. -/
theorem intR {H : Type} {enc : TypeId × Value → H} {W : World} {base : Nat} {v : Value} {d : DataW H} {p : List MemPlace} (hv : Value.okWide Tryd.prog W .any base 3 v) (h : DataW.Trod enc Tryd.prog W 0 (fun _ => true) true 3 v d p) : ∃ x : Int, v = .int .i64 x ∧ -9223372036854775808 ≤ x ∧ x ≤ 9223372036854775807 := by
  obtain ⟨n, rfl⟩ := okWide_int Tryd.underlying3 hv
  obtain ⟨fuel, hf⟩ := h
  obtain ⟨x, hc, -, w⟩ := DataW.trod_int Tryd.underlying3 hf
  simp [Value.cells] at hc
  subst hc
  have hb := bounds_i64 w
  exact ⟨n, rfl, by omega, by omega⟩
end Go.Proofs.YtngnclibeccplaaDoor.shut
