/- An argument that is a row of spots, opened. -/
import Derived.Test.YtokaapljlpngdaaGreatDoorShutS
import Derived.Test.YtokaapljlpngdaaGreatDoorMC
import Derived.Deep.Slices
namespace Go.Proofs.YtokaapljlpngdaaGreatDoor.shut
open Go.Joins Go.ChangeShapes Go.WideShapes Go.ChangeAt Go.RowKit Go.Deep Num

theorem bulk_mem {H : Type} (D : Nat → DataW H) (n : Nat) {i : Nat} (hi : i < n) : Rows.uptoBulk (D i) ≤ Rows.uptoBulkAll ((List.range n).map D) :=
  part_le (List.mem_map.2 ⟨i, List.mem_range.2 hi, rfl⟩)
theorem bulk_len {H : Type} (l : List (DataW H)) (h : ∀ d ∈ l, 1 ≤ Rows.uptoBulk d) : l.length ≤ Rows.uptoBulkAll l := by
  induction l with
  | nil => exact Nat.zero_le _
  | cons a r ih =>
    simp only [Rows.uptoBulkAll, List.length_cons]
    have := h a (by simp)
    have := ih fun d hd => h d (List.mem_cons_of_mem _ hd)
    omega
theorem list6 {α : Type} {cs : List α} (h : cs.length = 6) : ∃ c0 c1 c2 c3 c4 c5, cs = [c0, c1, c2, c3, c4, c5] := by
  match cs, h with
  | [c0, c1, c2, c3, c4, c5], _ => exact ⟨c0, c1, c2, c3, c4, c5, rfl⟩

set_option maxRecDepth 10000 in
set_option maxHeartbeats 800000 in
/-- one spot of a row -/
theorem spot1 {H : Type} {enc : TypeId × Value → H} {W : World} {cs : List Value} {a : Addr} {fuel : Nat} {d : DataW H} {p : List MemPlace} (hc : W.cells? 0 a 6 = some cs) (hf : DataW.trod enc Tryz.prog W 0 (fun _ => true) true fuel 31 cs = some (d, p))
    (hlt : ∀ x ∈ p, x.block < W.heap.size) (hk : Rows.uptoBulk d ≤ 1048576) : ∃ s : Sp, (∀ j u, s.cells[j]? = some u → W.cell? (a.add j) = some u) ∧ s.Ok W ∧ s.Sh 1048576 ∧ 1 ≤ Rows.uptoBulk d := by
  obtain ⟨h1, h2, h3⟩ := World.cells?_some hc
  obtain ⟨c0, c1, c2, c3, c4, c5, rfl⟩ := list6 h2
  obtain ⟨n, A, a1, ca, D, e, cd, n', A', a', ca', D', e', cd', ⟨rfl, rfl, rfl, rfl, rfl, rfl⟩, k1, k2, k3, k4, k5, k6, k7, k8, k9, r1, r2, r3, r4⟩ := spot_cells (y := (d, p)) hf hlt
  dsimp only at k5
  have m1 : a1.length ≤ 1048576 := by omega
  have m2 : e.length ≤ 1048576 := by omega
  have m3 : a'.length ≤ 1048576 := by omega
  have m4 : e'.length ≤ 1048576 := by omega
  exact ⟨⟨n, a1, A, ca, e, D, cd, n', a', A', ca', e', D', cd'⟩, fun j u hu => (h3 j (by have := (List.getElem?_eq_some_iff.1 hu).1; rwa [cells_len] at this)).trans hu, ⟨⟨r1, r2⟩, r3, r4⟩, ⟨⟨k1, k2, k6, k7, m1, m2, rfl, rfl⟩, k3, k4, k8, k9, m3, m4, rfl, rfl⟩, by omega⟩

set_option maxRecDepth 10000 in
set_option maxHeartbeats 800000 in
/-- AN ARGUMENT THAT IS A ROW OF SPOTS. -/
theorem spots {H : Type} {enc : TypeId × Value → H} {W : World} {base : Nat} {v : Value} {d : DataW H} {p : List MemPlace} (hv : Value.okWide Tryz.prog W .any base 22 v) (h : DataW.Trod enc Tryz.prog W 0 (fun _ => true) true 22 v d p)
    (hlt : ∀ x ∈ p, x.block < W.heap.size) (hk : Rows.uptoBulk d ≤ 1048576) :
    ∃ A L c, v = .slice A (List.length L) c ∧ L.length ≤ c ∧ L.length ≤ 1048576 ∧ RdS W A L ∧ (∀ s ∈ L, s.Ok W) ∧ ∀ s ∈ L, s.Sh 1048576 := by
  have e6 : Tryz.prog.cellsOf 31 = 6 := by kernel_rfl
  obtain ⟨a0, len, cap, rfl⟩ := okWide_slice Tryz.underlying22 hv
  obtain ⟨fuel, hf⟩ := h
  rcases open_slice Tryz.underlying22 hf with ⟨hcs, _⟩ | ⟨a, len', cap', m, n, D, Pl, hcs, _, hl, _, hm, hx, hc⟩
  · simp [Value.cells] at hcs
    obtain ⟨rfl, rfl, rfl⟩ := hcs
    exact ⟨none, [], 0, rfl, by simp, by simp, fun hn => by simp at hn, by simp, by simp⟩
  · simp [Value.cells] at hcs
    obtain ⟨rfl, rfl, rfl⟩ := hcs
    simp only [if_true] at hm
    subst hm
    simp only [e6, Prod.mk.injEq] at hx hc
    obtain ⟨rfl, rfl⟩ := hx
    simp only [Rows.uptoBulk] at hk
    have each : ∀ i, i < len → ∃ s : Sp, (∀ j u, s.cells[j]? = some u → W.cell? ((a.add (i * 6)).add j) = some u) ∧ s.Ok W ∧ s.Sh 1048576 ∧ 1 ≤ Rows.uptoBulk (D i) := fun i hi => by
      obtain ⟨cs, h1, h2⟩ := hc i (by omega)
      have hb := bulk_mem D len hi
      exact spot1 h1 h2 (fun x hx => hlt x (List.mem_append.2 (.inr (List.mem_flatMap.2 ⟨i, List.mem_range.2 (by omega), hx⟩)))) (by omega)
    obtain ⟨ss, hs⟩ := choose_lt each
    have hlen : len ≤ 1048576 := by
      have h1 := bulk_len ((List.range len).map D) fun d hd => by
        obtain ⟨i, hi, rfl⟩ := List.mem_map.1 hd
        exact (hs i (List.mem_range.1 hi)).2.2.2
      simp only [List.length_map, List.length_range] at h1
      omega
    have hll : ((List.range len).map ss).length = len := by simp
    refine ⟨some a, (List.range len).map ss, m, by rw [hll], by omega, by omega, ?_, ?_, ?_⟩
    · intro hn
      rw [hll] at hn
      obtain ⟨b, off, spot⟩ := a
      have h0 := (hs 0 hn).1 0 _ rfl
      have hspot : spot = none := by
        have := World.cell?_spot h0
        simpa [Addr.add] using this
      subst hspot
      refine ⟨b, off, rfl, hlt (.cell b off) (List.mem_append.2 (.inl (MemPlace.mem_row.2 ⟨0, by omega, by simp⟩))), fun i hi j u hu => ?_⟩
      rw [hll] at hi
      have := (hs i hi).1 j u (by simpa using hu)
      rw [add_mk, add_mk] at this
      exact this
    · intro s h
      obtain ⟨i, hi, rfl⟩ := List.mem_map.1 h
      exact (hs i (List.mem_range.1 hi)).2.1
    · intro s h
      obtain ⟨i, hi, rfl⟩ := List.mem_map.1 h
      exact (hs i (List.mem_range.1 hi)).2.2.1
end Go.Proofs.YtokaapljlpngdaaGreatDoor.shut
