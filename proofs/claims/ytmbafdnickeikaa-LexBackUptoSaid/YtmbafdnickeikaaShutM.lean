/- An argument that is lines of words, opened. -/
import Derived.Test.YtmbafdnickeikaaShutL
import Derived.Test.YtmbafdnickeikaaLxK
namespace Go.Proofs.Ytmbafdnickeikaa.shut
open Go.ChangeShapes Go.WideShapes Go.ChangeAt Go.RowKit Go.Deep

theorem bulk_strs {H : Type} (S : Nat → ByteArray) (l : List Nat) : Rows.uptoBulkAll (l.map fun i => (DataW.lit (.string (S i).data.toList) : DataW H)) = l.length + sumOf (l.map fun i => (S i).data.toList) := by
  induction l with
  | nil => rfl
  | cons a r ih =>
    simp only [List.map_cons, Rows.uptoBulkAll, Rows.uptoBulk, ih, sumOf, List.sum_cons, List.length_cons]
    omega
theorem bulk_mem {H : Type} (D : Nat → DataW H) (n : Nat) {i : Nat} (hi : i < n) : Rows.uptoBulk (D i) ≤ Rows.uptoBulkAll ((List.range n).map D) :=
  part_le (List.mem_map.2 ⟨i, List.mem_range.2 hi, rfl⟩)
theorem bulk_len {H : Type} (l : List (DataW H)) (h : ∀ d ∈ l, 1 ≤ Rows.uptoBulk d) : l.length ≤ Rows.uptoBulkAll l := by
  induction l with
  | nil => exact Nat.zero_le _
  | cons a r ih =>
    simp only [Rows.uptoBulkAll, List.length_cons]
    have := h a (by simp)
    have := ih fun d hd => h d (List.mem_cons_of_mem _ hd)
    omega

set_option maxRecDepth 10000 in
/-- one row's slice -/
theorem row1 {H : Type} {enc : TypeId × Value → H} {W : World} {v : Value} {d : DataW H} {p : List MemPlace} {fuel : Nat} (hf : DataW.trod enc Try.prog W 0 (fun _ => true) true fuel 37 [v] = some (d, p))
    (hlt : ∀ x ∈ p, x.block < W.heap.size) : ∃ r : Rw, v = r.hd ∧ RdV W W.heap.size r.A (scells r.ws) ∧ r.ws.length + sumOf r.ws + 1 ≤ Rows.uptoBulk d := by
  rcases open_strs Try.underlying37 Try.underlying9 cellsStr hf with ⟨hcs, hx⟩ | ⟨a, len, cap, m, S, hcs, _, hl, _, hm, hx, hc⟩
  · simp only [Prod.mk.injEq] at hx
    obtain ⟨rfl, rfl⟩ := hx
    refine ⟨⟨none, 0, []⟩, by simpa [Rw.hd] using hcs, RdV.nil _ _ _, by simp [sumOf, Rows.uptoBulk]⟩
  · simp only [if_true] at hm
    simp only [Prod.mk.injEq] at hx
    obtain ⟨rfl, rfl⟩ := hx
    refine ⟨⟨some a, cap, (List.range len).map fun i => (S i).data.toList⟩, by simpa [Rw.hd] using hcs, ?_, ?_⟩
    · intro hn
      rw [scells_length] at hn
      simp only [List.length_map, List.length_range] at hn
      obtain ⟨b, off, spot⟩ := a
      have hspot : spot = none := by simpa [Addr.add] using World.cell?_spot (hc 0 (by omega)).1
      subst hspot
      refine ⟨b, off, rfl, hlt (.cell b off) (MemPlace.mem_row.2 ⟨0, by omega, by simp⟩), fun j hj => ?_⟩
      rw [scells_length] at hj
      simp only [List.length_map, List.length_range] at hj
      have h1 := (hc j (by omega)).1
      rw [addr_add] at h1
      rw [h1]
      simp [scells, str_of]
    · simp only [List.length_map, List.length_range, Rows.uptoBulk, bulk_strs]
      omega

set_option maxRecDepth 10000 in
/-- AN ARGUMENT THAT IS LINES OF WORDS. -/
theorem lines {H : Type} {enc : TypeId × Value → H} {W : World} {base : Nat} {v : Value} {d : DataW H} {p : List MemPlace} (hv : Value.okWide Try.prog W .any base 23 v) (h : DataW.Trod enc Try.prog W 0 (fun _ => true) true 23 v d p)
    (hlt : ∀ x ∈ p, x.block < W.heap.size) (hk : Rows.uptoBulk d ≤ 1048576) :
    ∃ A Ls c, v = .slice A (List.length Ls) c ∧ Ls.length ≤ c ∧ (Ls.length ≤ 1073741824 ∧ ∀ r ∈ Ls, r.ws.length ≤ 1073741824 ∧ sumOf r.ws ≤ 1073741824) ∧ (A = none → c = 0) ∧ RdL W W.heap.size A Ls := by
  obtain ⟨a0, len, cap, rfl⟩ := okWide_slice Try.underlying23 hv
  obtain ⟨fuel, hf⟩ := h
  rcases open_slice1 Try.underlying23 cellsRow hf with ⟨hcs, _⟩ | ⟨a, len', cap', m, n, V, D, Pl, hcs, _, hl, _, hm, hx, hc⟩
  · simp [Value.cells] at hcs
    obtain ⟨rfl, rfl, rfl⟩ := hcs
    exact ⟨none, [], 0, rfl, by simp, ⟨by simp, by simp⟩, fun _ => rfl, RdL.nil _ _ _⟩
  · simp [Value.cells] at hcs
    obtain ⟨rfl, rfl, rfl⟩ := hcs
    simp only [if_true] at hm
    subst hm
    simp only [Prod.mk.injEq] at hx
    obtain ⟨rfl, rfl⟩ := hx
    have each : ∀ i, i < len → ∃ r : Rw, V i = r.hd ∧ RdV W W.heap.size r.A (scells r.ws) ∧ r.ws.length + sumOf r.ws + 1 ≤ Rows.uptoBulk (D i) := fun i hi =>
      row1 (hc i (by omega)).2 fun x hx => hlt x (List.mem_append.2 (.inr (List.mem_flatMap.2 ⟨i, List.mem_range.2 (by omega), hx⟩)))
    have : Inhabited Rw := ⟨⟨none, 0, []⟩⟩
    obtain ⟨rr, hr⟩ := choose_lt each
    simp only [Rows.uptoBulk] at hk
    have hb : ∀ i, i < len → (rr i).ws.length + sumOf (rr i).ws + 1 ≤ 1048576 := fun i hi => by
      have h1 := (hr i hi).2.2
      have h2 := bulk_mem D len hi
      omega
    have hlen : len ≤ 1048576 := by
      have h1 := bulk_len ((List.range len).map D) fun d hd => by
        obtain ⟨i, hi, rfl⟩ := List.mem_map.1 hd
        have := (hr i (List.mem_range.1 hi)).2.2
        omega
      simp only [List.length_map, List.length_range] at h1
      omega
    have hll : ((List.range len).map rr).length = len := by simp
    refine ⟨some a, (List.range len).map rr, m, by rw [hll], by omega, ⟨by omega, ?_⟩, fun e => (by cases e), ?_, ?_⟩
    · intro r h
      obtain ⟨i, hi, rfl⟩ := List.mem_map.1 h
      have := hb i (List.mem_range.1 hi)
      omega
    · intro hn
      rw [List.length_map, hll] at hn
      obtain ⟨b, off, spot⟩ := a
      have hspot : spot = none := by simpa [Addr.add] using World.cell?_spot (hc 0 (by omega)).1
      subst hspot
      refine ⟨b, off, rfl, hlt (.cell b off) (List.mem_append.2 (.inl (MemPlace.mem_row.2 ⟨0, by omega, by simp⟩))), fun j hj => ?_⟩
      rw [List.length_map, hll] at hj
      have h1 := (hc j (by omega)).1
      rw [addr_add] at h1
      rw [h1, (hr j hj).1]
      simp
    · intro r h
      obtain ⟨i, hi, rfl⟩ := List.mem_map.1 h
      exact (hr i (List.mem_range.1 hi)).2.1
end Go.Proofs.Ytmbafdnickeikaa.shut
