/- Maps of the plane: the program's own All. -/
import Derived.Test.YtbhahddgajkchaaZAfY
import Derived.Test.YtbhahddgajkchaaZAgY
namespace Go.Proofs.Ytbhahddgajkchaa
open Go.RowKit

theorem ptRow_set : ∀ (l : List Pt) (i : Nat) (q : Pt), i < l.length → ((ptRow l).set (i * 2) (.int .i64 q.x)).set (i * 2 + 1) (.int .i64 q.y) = ptRow (l.set i q)
  | [], i, _, h => absurd h (by simp)
  | p :: l, 0, q, _ => rfl
  | p :: l, i + 1, q, h => by
    have h1 := ptRow_set l i q (by simp at h; omega)
    rw [show (i + 1) * 2 = i * 2 + 2 by omega]
    show (.int .i64 p.x :: .int .i64 p.y :: ((ptRow l).set (i * 2) (.int .i64 q.x)).set (i * 2 + 1) (.int .i64 q.y) : List Value) = _
    rw [h1]
    rfl
theorem zero_pts : ∀ n : Nat, ptRow (List.replicate n pt0) = List.replicate (n * 2) (.int .i64 0)
  | 0 => rfl
  | n + 1 => by
    rw [List.replicate_succ, show (n + 1) * 2 = 2 + n * 2 by omega, ← List.replicate_append_replicate, ← zero_pts n]
    rfl
theorem made_pts (n : Nat) : madeCells #[(.int .i64 0 : Value), .int .i64 0] (n * 2) = (List.replicate (n * 2) (.int .i64 0)).toArray := by
  apply Array.ext
  · simp [madeCells]
  · intro j h1 h2
    simp only [madeCells, Array.getElem_map, Array.getElem_range, List.getElem_toArray, List.getElem_replicate]
    have : j % 2 < 2 := Nat.mod_lt _ (by omega)
    have hs : (#[(.int .i64 0 : Value), .int .i64 0]).size = 2 := rfl
    rw [hs]
    generalize j % 2 = k at this
    match k, this with
    | 0, _ => rfl
    | 1, _ => rfl
theorem run_make_pts (n : Nat) (hn : n ≤ 17592186044416) (u : World) :
    (Instr.makeSlice 30 (.int .i64 (n : Int)) (.int .i64 (n : Int))).run Try.prog u = .ok (.slice (some ⟨u.heap.size, 0, none⟩) n n) (u.alloc (.cells (ptRow (List.replicate n pt0)).toArray 23)) := by
  obtain ⟨i, hi, hz0, hz1, hz2⟩ := info_parts info_pt
  have hb : (i.bytes : Int) * (n : Int) ≤ 281474976710656 := by rw [hz2]; omega
  have h := run_make (P := Try.prog) u 30 23 i _ Try.underlying30 hi hz0 .i64 .i64 n n (by omega) (Int.le_refl _) hb (by omega)
  rw [Int.toNat_natCast] at h
  rw [h, hz1, zero_pts, ← made_pts]
  rfl
/-- two cells of a row's block, written anew -/
theorem Box.set2 {w : World} {g : Nat} {t : TypeId} {l : List Pt} (h : Box w g t (ptRow l)) {i : Nat} (hi : i < l.length) (q : Pt) : ∃ U, (w.setCell ⟨g, i * 2, none⟩ (.int .i64 q.x)).setCell ⟨g, i * 2 + 1, none⟩ (.int .i64 q.y) = U ∧ Box U g t (ptRow (l.set i q)) ∧ ∀ B, B ≤ g → Below B w U := by
  refine ⟨_, rfl, ?_, fun B hB => ((Below.refl B w).setCell (p := ⟨g, i * 2, none⟩) hB _).setCell (p := ⟨g, i * 2 + 1, none⟩) hB _⟩
  rw [← ptRow_set l i q hi]
  exact (h.set (i * 2) _).set (i * 2 + 1) _
theorem Box.pts {w : World} {g : Nat} {t : TypeId} {l : List Pt} (h : Box w g t (ptRow l)) {i : Nat} (hi : i < l.length) : (w.cell? ⟨g, i * 2, none⟩ = some (.int .i64 l[i].x) ∧ w.cell? ⟨g, i * 2 + 1, none⟩ = some (.int .i64 l[i].y)) ∧ w.frozen? ⟨g, i * 2, none⟩ = false ∧ w.frozen? ⟨g, i * 2 + 1, none⟩ = false :=
  ⟨⟨h.cell _ (flat_get ptCells_length l i hi 0 (by omega)), h.cell _ (flat_get ptCells_length l i hi 1 (by omega))⟩, h.frozen _, h.frozen _⟩

end Go.Proofs.Ytbhahddgajkchaa
