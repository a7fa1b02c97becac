/- A row that make made, filled place by place. -/
import Derived.Test.YtchfbpgbojnakaaDoorZFgY
namespace Go.Proofs.YtchfbpgbojnakaaDoor
open Go.RowKit

/-- BLOCK g IS JUST THE CELLS vs. -/
def Arr (w : World) (g : Nat) (t : TypeId) (vs : List Value) : Prop := w.heap[g]? = some (.cells vs.toArray t (0, 0))
section
variable {w w' : World} {g : Nat} {t : TypeId} {vs : List Value}
theorem Arr.lt (h : Arr w g t vs) : g < w.heap.size := by
  rcases Nat.lt_or_ge g w.heap.size with hlt | hge
  · exact hlt
  · unfold Arr at h; rw [Array.getElem?_eq_none hge] at h; cases h
theorem Arr.cell (h : Arr w g t vs) (i : Nat) {v : Value} (hv : vs[i]? = some v) : w.cell? ⟨g, i, none⟩ = some v := by
  rw [cell_of_row w g i _ t (0, 0) h]
  simpa using hv
theorem Arr.frozen (h : Arr w g t vs) (i : Nat) : w.frozen? ⟨g, i, none⟩ = false := frozen_of_row w g i _ t h
theorem Arr.set (h : Arr w g t vs) (i : Nat) (v : Value) : Arr (w.setCell ⟨g, i, none⟩ v) g t (vs.set i v) := by
  have := heap_setCell_same w g i _ t v h
  unfold Arr
  rw [this]
  simp
theorem Arr.alloc (h : Arr w g t vs) (o : Obj) : Arr (w.alloc o) g t vs := (Below.heap_alloc w o g h.lt).trans h
theorem Arr.drewN (h : Arr w g t vs) (n : Nat) : Arr (w.drewN n) g t vs := h
theorem Arr.new (w : World) (t : TypeId) (vs : List Value) : Arr (w.alloc (.cells vs.toArray t)) w.heap.size t vs := heap_alloc_new w _
theorem Arr.below {B : Nat} (h : Arr w g t vs) (hb : Below B w w') (hg : g < B) : Arr w' g t vs := (hb.block g hg).trans h
theorem Arr.rd (h : Arr w g t vs) : RdV w w.heap.size (some ⟨g, 0, none⟩) vs := fun _ => ⟨g, 0, rfl, h.lt, fun j hj => by rw [Nat.zero_add]; exact h.cell j (List.getElem?_eq_getElem hj)⟩
end
/-- 'make([]T, n)', an element being one cell -/
theorem run_make_one {P : Program} (t e : TypeId) (v : Value) (bytes : Nat) (hv : v.cells = #[v]) (ht : P.underlying t = some (.slice e)) (hi : (P.info? e).map (fun i => (i.zero, i.size, i.bytes)) = some (some v, 1, bytes)) (n : Nat) (hn : bytes * n ≤ 281474976710656) (hn1 : n ≤ 281474976710656) (u : World) :
    (Instr.makeSlice t (.int .i64 (n : Int)) (.int .i64 (n : Int))).run P u = .ok (.slice (some ⟨u.heap.size, 0, none⟩) n n) (u.alloc (.cells (List.replicate n v).toArray e)) := by
  obtain ⟨i, hi, hz0, hz1, hz2⟩ := info_parts hi
  have hb : (i.bytes : Int) * (n : Int) ≤ 281474976710656 := by
    rw [← hz2] at hn
    have h' : ((i.bytes * n : Nat) : Int) ≤ 281474976710656 := by omega
    rwa [Int.natCast_mul] at h'
  have h := run_make (P := P) u t e i v ht hi hz0 .i64 .i64 n n (by omega) (Int.le_refl _) hb (by omega)
  rw [Int.toNat_natCast] at h
  rw [h, hz1, hv]
  have e2 : (madeCells #[v] n) = (List.replicate n v).toArray := by
    rw [← toList_madeCells_one]
  simp [e2]
/-- the first i places filled, the rest as made -/
def fills (vs : List Value) (z : Value) (n : Nat) : List Value := vs ++ List.replicate (n - vs.length) z
theorem fills_none (z : Value) (n : Nat) : fills [] z n = List.replicate n z := by simp [fills]
theorem fills_all {vs : List Value} {z : Value} {n : Nat} (h : vs.length = n) : fills vs z n = vs := by simp [fills, h]
theorem fills_at {vs : List Value} {z : Value} {n : Nat} (h : vs.length < n) : (fills vs z n)[vs.length]? = some z := by
  unfold fills
  rw [List.getElem?_append_right (Nat.le_refl _), Nat.sub_self, List.getElem?_replicate]
  rw [if_pos (by omega)]
theorem fills_set {vs : List Value} {z v : Value} {n : Nat} (h : vs.length < n) : (fills vs z n).set vs.length v = fills (vs ++ [v]) z n := by
  unfold fills
  rw [List.set_append_right _ _ (Nat.le_refl _), Nat.sub_self]
  obtain ⟨k, hk⟩ : ∃ k, n - vs.length = k + 1 := ⟨n - vs.length - 1, by omega⟩
  rw [hk, List.replicate_succ, List.set_cons_zero, List.append_assoc]
  congr 2
  congr 1
  simp
  omega
end Go.Proofs.YtchfbpgbojnakaaDoor
