/- A row of structs that came in, opened; rows of points, of maps. -/
import Derived.Test.YtemipepahglndaaZShutA
namespace Go.Proofs.Ytemipepahglndaa.shut
open Go.Joins Go.ChangeShapes Go.WideShapes Go.ChangeAt Go.RowKit Go.Deep

set_option maxRecDepth 10000 in
/-- a row of structs of k cells each, of whatever length -/
theorem rows_of {H : Type} {enc : TypeId × Value → H} {W : World} {α : Type} [Inhabited α] {f : α → List Value} {k b : Nat} (hk : 0 < k) (hf : ∀ a, (f a).length = k) {t e : TypeId} (ht : Try.prog.underlying t = some (.slice e)) (hc : Try.prog.cellsOf e = k) (hby : Try.prog.bytesOf e = b)
    (open1 : ∀ (cs : List Value) (fuel : Nat) (y : DataW H × List MemPlace), cs.length = k → DataW.trod enc Try.prog W 0 (fun _ => true) true fuel e cs = some y → ∃ a, cs = f a)
    {cs : List Value} {fuel : Nat} {y : DataW H × List MemPlace} (h : DataW.trod enc Try.prog W 0 (fun _ => true) true fuel t cs = some y) (hlt : ∀ x ∈ y.2, x.block < W.heap.size) (hw : (DataW.weights Try.prog t y.1).all (· ≤ reachBytes) = true) :
    ∃ A l c, cs = [.slice A (List.length l) c] ∧ l.length * b ≤ 140737488351232 ∧ l.length ≤ c ∧ RdV W W.heap.size A (l.flatMap f) := by
  rcases open_slice ht h with ⟨hcs, -⟩ | ⟨a, len, cap, m, n, D, Pl, hcs, -, hl, hcm, hm, hx, hcell⟩
  · exact ⟨none, [], 0, hcs, by simp, Nat.le_refl _, RdV.nil _ _ _⟩
  · simp only [if_true] at hm
    subst hm
    rw [hc] at hx hcell
    subst hx
    simp only [DataW.weights, ht, hby, List.all_cons, Bool.and_eq_true, decide_eq_true_eq, List.length_map, List.length_range] at hw
    have hw1 : (len + (m - len)) * b ≤ 140737488351232 := hw.1
    have hw2 : len * b ≤ (len + (m - len)) * b := Nat.mul_le_mul_right _ (by omega)
    have each : ∀ i, i < len → ∃ x : α, ∀ j u, (f x)[j]? = some u → W.cell? ((a.add (i * k)).add j) = some u := fun i hi => by
      obtain ⟨cs, h1, h2⟩ := hcell i (by omega)
      obtain ⟨-, h4, h5⟩ := World.cells?_some h1
      obtain ⟨x, rfl⟩ := open1 _ _ _ h4 h2
      exact ⟨x, fun j u hu => (h5 j (by have := (List.getElem?_eq_some_iff.1 hu).1; rwa [hf] at this)).trans hu⟩
    obtain ⟨ss, hs⟩ := choose_lt each
    have hll : ((List.range len).map ss).length = len := by simp
    refine ⟨some a, (List.range len).map ss, _, by rw [hll]; exact hcs, by rw [hll]; omega, by omega, fun hn => ?_⟩
    rw [flat_length hf, hll] at hn
    have hlen : 0 < len := Nat.pos_of_mul_pos_right hn
    obtain ⟨b', off, spot⟩ := a
    have hf0 : 0 < (f (ss 0)).length := by rw [hf]; exact hk
    have h0 := hs 0 (by omega) 0 _ (List.getElem?_eq_getElem hf0)
    have hspot : spot = none := by
      have := World.cell?_spot h0
      simpa [Addr.add] using this
    subst hspot
    refine ⟨b', off, rfl, hlt (.cell b' off) (List.mem_append.2 (.inl (MemPlace.mem_row.2 ⟨0, Nat.mul_pos (by omega) hk, by simp⟩))), fun j hj => ?_⟩
    have hj' := hj
    rw [flat_length hf, hll] at hj'
    have hi : j / k < len := Nat.div_lt_of_lt_mul (by rwa [Nat.mul_comm] at hj')
    have hjm : j % k < k := Nat.mod_lt _ hk
    have hg := flat_get hf ((List.range len).map ss) (j / k) (by rw [hll]; exact hi) (j % k) hjm
    have hsum : j / k * k + j % k = j := by rw [Nat.mul_comm]; exact Nat.div_add_mod j k
    rw [hsum, List.getElem?_eq_getElem hj] at hg
    simp only [List.getElem_map, List.getElem_range] at hg
    have h1 := hs (j / k) hi (j % k) _ hg.symm
    rw [addr_add, addr_add] at h1
    rw [show off + j = off + j / k * k + j % k by omega]
    exact h1
set_option maxRecDepth 10000 in
/-- AN ARGUMENT THAT IS A ROW OF POINTS, of whatever length. -/
theorem points_any {H : Type} {enc : TypeId × Value → H} {W : World} {base : Nat} {v : Value} {d : DataW H} {p : List MemPlace} (hv : Value.okWide Try.prog W .any base 37 v) (h : DataW.Trod enc Try.prog W 0 (fun _ => true) true 37 v d p)
    (hlt : ∀ x ∈ p, x.block < W.heap.size) (hk : (DataW.weights Try.prog 37 d).all (· ≤ reachBytes) = true) :
    ∃ A l c, v = .slice A (List.length l) c ∧ l.length * 16 ≤ 140737488351232 ∧ l.length ≤ c ∧ RdV W W.heap.size A (ptRow l) := by
  obtain ⟨a0, len, cap, rfl⟩ := okWide_slice Try.underlying37 hv
  obtain ⟨fuel, hf⟩ := h
  obtain ⟨A, l, c, hcs, h1, h2, h3⟩ := rows_of (f := ptCells) (k := 2) (b := 16) (by omega) ptCells_length Try.underlying37 (by kernel_rfl) (by kernel_rfl) (fun cs fuel y hl hf => point_of hl hf) hf hlt hk
  exact ⟨A, l, c, by simpa [Value.cells] using hcs, h1, h2, h3⟩
set_option maxRecDepth 10000 in
/-- AN ARGUMENT THAT IS A ROW OF MAPS, of whatever length. -/
theorem maps_any {H : Type} {enc : TypeId × Value → H} {W : World} {base : Nat} {v : Value} {d : DataW H} {p : List MemPlace} (hv : Value.okWide Try.prog W .any base 36 v) (h : DataW.Trod enc Try.prog W 0 (fun _ => true) true 36 v d p)
    (hlt : ∀ x ∈ p, x.block < W.heap.size) (hk : (DataW.weights Try.prog 36 d).all (· ≤ reachBytes) = true) :
    ∃ A l c, v = .slice A (List.length l) c ∧ l.length * 48 ≤ 140737488351232 ∧ l.length ≤ c ∧ RdV W W.heap.size A (mpRow l) := by
  obtain ⟨a0, len, cap, rfl⟩ := okWide_slice Try.underlying36 hv
  obtain ⟨fuel, hf⟩ := h
  obtain ⟨A, l, c, hcs, h1, h2, h3⟩ := rows_of (f := mpCells) (k := 6) (b := 48) (by omega) mpCells_length Try.underlying36 (by kernel_rfl) (by kernel_rfl) (fun cs fuel y hl hf => map_of hl hf) hf hlt hk
  exact ⟨A, l, c, by simpa [Value.cells] using hcs, h1, h2, h3⟩
end Go.Proofs.Ytemipepahglndaa.shut
