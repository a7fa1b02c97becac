/- What the closings of layers 17 and 18 need: a row of structs opened where its bulk is bounded; rows of ways. -/
import Derived.Test.YtdmoibphidipeaaGreatDoorZSgK
import Derived.Test.YtdmoibphidipeaaGreatDoorZShutCr
import Derived.Test.YtdmoibphidipeaaGreatDoorZCuX
namespace Go.Proofs.YtdmoibphidipeaaGreatDoor.shut
open Go.Joins Go.ChangeShapes Go.WideShapes Go.ChangeAt Go.RowKit Go.Deep

theorem bulk_posS {H : Type} (d : DataW H) : 1 ≤ Rows.uptoBulk d := by
  cases d with
  | lit l => cases l <;> simp [Rows.uptoBulk]
  | _ => simp [Rows.uptoBulk]
theorem bulk_partR {H : Type} {d : DataW H} {l : List (DataW H)} (h : d ∈ l) : Rows.uptoBulk d ≤ Rows.uptoBulkAll l := by
  induction l with
  | nil => cases h
  | cons a r ih =>
    simp only [Rows.uptoBulkAll]
    rcases List.mem_cons.1 h with rfl | h
    · omega
    · have := ih h; omega
theorem bulk_lenM {H : Type} (m : Nat) (l : List (DataW H)) (h : ∀ d ∈ l, m ≤ Rows.uptoBulk d) : l.length * m ≤ Rows.uptoBulkAll l := by
  induction l with
  | nil => simp
  | cons a r ih =>
    simp only [Rows.uptoBulkAll, List.length_cons, Nat.succ_mul]
    have := h a (by simp)
    have := ih fun d hd => h d (List.mem_cons_of_mem _ hd)
    omega
set_option maxRecDepth 10000 in
/-- a row of structs of k cells each, of bulk m each at least -/
theorem rows_upto {H : Type} {enc : TypeId × Value → H} {W : World} {α : Type} [Inhabited α] {f : α → List Value} {k m : Nat} (hk : 0 < k) (hf : ∀ a, (f a).length = k) {t e : TypeId} (ht : Tryz.prog.underlying t = some (.slice e)) (hc : Tryz.prog.cellsOf e = k)
    (open1 : ∀ (cs : List Value) (fuel : Nat) (y : DataW H × List MemPlace), cs.length = k → DataW.trod enc Tryz.prog W 0 (fun _ => true) true fuel e cs = some y → (∃ a, cs = f a) ∧ m ≤ Rows.uptoBulk y.1)
    {cs : List Value} {fuel : Nat} {y : DataW H × List MemPlace} (h : DataW.trod enc Tryz.prog W 0 (fun _ => true) true fuel t cs = some y) (hlt : ∀ x ∈ y.2, x.block < W.heap.size) (hb : Rows.uptoBulk y.1 ≤ 1048576) :
    ∃ A l c, cs = [.slice A (List.length l) c] ∧ l.length * m ≤ 1048576 ∧ l.length ≤ c ∧ RdV W W.heap.size A (l.flatMap f) := by
  rcases open_slice ht h with ⟨hcs, -⟩ | ⟨a, len, cap, mm, n, D, Pl, hcs, -, hl, hcm, hm, hx, hcell⟩
  · exact ⟨none, [], 0, hcs, by simp, Nat.le_refl _, RdV.nil _ _ _⟩
  · simp only [if_true] at hm
    subst hm
    rw [hc] at hx hcell
    subst hx
    simp only [Rows.uptoBulk] at hb
    have each : ∀ i, i < len → ∃ x : α, (∀ j u, (f x)[j]? = some u → W.cell? ((a.add (i * k)).add j) = some u) ∧ m ≤ Rows.uptoBulk (D i) := fun i hi => by
      obtain ⟨cs, h1, h2⟩ := hcell i (by omega)
      obtain ⟨-, h4, h5⟩ := World.cells?_some h1
      obtain ⟨⟨x, rfl⟩, h6⟩ := open1 _ _ _ h4 h2
      exact ⟨x, fun j u hu => (h5 j (by have := (List.getElem?_eq_some_iff.1 hu).1; rwa [hf] at this)).trans hu, h6⟩
    obtain ⟨ss, hs⟩ := choose_lt each
    have hll : ((List.range len).map ss).length = len := by simp
    have hbl : len * m ≤ 1048576 := by
      have h1 := bulk_lenM m ((List.range len).map D) fun d hd => by
        obtain ⟨i, hi, rfl⟩ := List.mem_map.1 hd
        exact (hs i (List.mem_range.1 hi)).2
      simp only [List.length_map, List.length_range] at h1
      omega
    refine ⟨some a, (List.range len).map ss, _, by rw [hll]; exact hcs, by rw [hll]; exact hbl, by omega, fun hn => ?_⟩
    rw [flat_length hf, hll] at hn
    have hlen : 0 < len := Nat.pos_of_mul_pos_right hn
    obtain ⟨b', off, spot⟩ := a
    have hf0 : 0 < (f (ss 0)).length := by rw [hf]; exact hk
    have h0 := (hs 0 (by omega)).1 0 _ (List.getElem?_eq_getElem hf0)
    have hspot : spot = none := by
      have := World.cell?_spot h0
      simpa [Addr.add] using this
    subst hspot
    refine ⟨b', off, rfl, hlt (.cell b' off) (List.mem_append.2 (.inl (MemPlace.mem_row.2 ⟨0, Nat.mul_pos (by omega) hk, by simp⟩))), fun j hj => ?_⟩
    have hj' := hj
    rw [flat_length hf, hll] at hj'
    have hi : j / k < len := Nat.div_lt_of_lt_mul (by rwa [Nat.mul_comm] at hj')
    have hjm : j % k < k := Nat.mod_lt _ hk
    have hg := flat_get hf ((List.range len).map ss) (j / k) (by rw [hll]; exact hi) (j % k) hjm
    have hsum : j / k * k + j % k = j := by rw [Nat.mul_comm]; exact Nat.div_add_mod j k
    rw [hsum, List.getElem?_eq_getElem hj] at hg
    simp only [List.getElem_map, List.getElem_range] at hg
    have h1 := (hs (j / k) hi).1 (j % k) _ hg.symm
    rw [addr_add, addr_add] at h1
    rw [show off + j = off + j / k * k + j % k by omega]
    exact h1
set_option maxRecDepth 10000 in
theorem seg_bulk {H : Type} {enc : TypeId × Value → H} {W : World} {cs : List Value} {fuel : Nat} {y : DataW H × List MemPlace} (hf : DataW.trod enc Tryz.prog W 0 (fun _ => true) true fuel 25 cs = some y) : 3 ≤ Rows.uptoBulk y.1 := by
  obtain ⟨y0, y1, m, rfl, -, -, -⟩ := trod_struct2 Tryz.underlying25 hf
  simp only [Rows.uptoBulk, Rows.uptoBulkAll]
  have := bulk_posS y0.1
  have := bulk_posS y1.1
  omega
set_option maxRecDepth 10000 in
/-- AN ARGUMENT THAT IS A ROW OF WAYS. -/
theorem segs_upto {H : Type} {enc : TypeId × Value → H} {W : World} {base : Nat} {v : Value} {d : DataW H} {p : List MemPlace} (hv : Value.okWide Tryz.prog W .any base 31 v) (h : DataW.Trod enc Tryz.prog W 0 (fun _ => true) true 31 v d p)
    (hlt : ∀ x ∈ p, x.block < W.heap.size) (hk : Rows.uptoBulk d ≤ 1048576) :
    ∃ A l c, v = .slice A (List.length l) c ∧ l.length ≤ 349525 ∧ l.length ≤ c ∧ RdV W W.heap.size A (segRow l) := by
  obtain ⟨a0, len, cap, rfl⟩ := okWide_slice Tryz.underlying31 hv
  obtain ⟨fuel, hf⟩ := h
  obtain ⟨A, l, c, hcs, h1, h2, h3⟩ := rows_upto (α := Wy) (f := fun s => segCells s.1 s.2) (k := 4) (m := 3) (by omega) segCells_length Tryz.underlying31 (by kernel_rfl) (fun cs fuel y hl hf => ⟨by
    obtain ⟨a, b, e⟩ := seg_of hl hf
    exact ⟨(a, b), e⟩, seg_bulk hf⟩) hf hlt hk
  exact ⟨A, l, c, by simpa [Value.cells] using hcs, by omega, h2, h3⟩
end Go.Proofs.YtdmoibphidipeaaGreatDoor.shut
