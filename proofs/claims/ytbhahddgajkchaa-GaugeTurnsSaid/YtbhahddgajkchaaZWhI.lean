/- Whole numbers: what Div answers. -/
import Derived.Test.YtbhahddgajkchaaZWhX
import Derived.Test.YtbhahddgajkchaaZNatY
namespace Go.Proofs.Ytbhahddgajkchaa
open Go.RowKit Num

theorem euclid {N D Q R : Int} (h : R + D * Q = N) (h0 : 0 ≤ R) (h1 : R < D.natAbs) : N / D = Q ∧ N % D = R := by
  have pos : ∀ {D Q : Int}, 0 < D → R + D * Q = N → R < D → N / D = Q ∧ N % D = R := fun {D Q} hD h h1 => (Int.ediv_emod_unique hD).2 ⟨h, h0, h1⟩
  rcases Int.lt_trichotomy D 0 with hD | hD | hD
  · have := pos (D := -D) (Q := -Q) (by omega) (by rw [Int.neg_mul_neg]; exact h) (by omega)
    rw [Int.ediv_neg, Int.emod_neg] at this
    exact ⟨by omega, this.2⟩
  · subst hD; simp at h1; omega
  · exact pos hD h (by omega)

theorem quo_flat (n1 n2 : Bool) {N D : Int} {n d p m : Nat} (hN : N = if n1 then -(n : Int) else n) (hD : D = if n2 then -(d : Int) else d) (hk : d * p + m = n) (hm : m < d) (hx : n1 = true → m = 0) :
    N / D = (if (n1 != n2) then -(p : Int) else p) ∧ N % D = m := by
  have hk' : (d : Int) * p + m = n := by exact_mod_cast hk
  refine euclid ?_ (by omega) (by cases n2 <;> simp at hD <;> omega)
  cases n1 <;> cases n2 <;> simp at hN hD hx <;> subst hN hD
  · show (m : Int) + (d : Int) * (p : Int) = n; omega
  · show (m : Int) + -(d : Int) * -(p : Int) = n; rw [Int.neg_mul_neg]; omega
  · show (m : Int) + (d : Int) * -(p : Int) = -n; rw [Int.mul_neg]; omega
  · show (m : Int) + -(d : Int) * (p : Int) = -n; rw [Int.neg_mul]; omega
theorem quo_up (n2 : Bool) {N D : Int} {n d p m : Nat} (hN : N = -(n : Int)) (hD : D = if n2 then -(d : Int) else d) (hk : d * p + m = n) (h0 : 0 < m) (hm : m < d) :
    N / D = (if (true != n2) then -((p + 1 : Nat) : Int) else ((p + 1 : Nat) : Int)) ∧ N % D = ((d - m : Nat) : Int) := by
  have hk' : (d : Int) * p + m = n := by exact_mod_cast hk
  have e : (d : Int) * ((p + 1 : Nat) : Int) = d * p + d := by rw [Int.natCast_add, Int.mul_add]; simp
  refine euclid ?_ (by omega) (by cases n2 <;> simp at hD <;> omega)
  cases n2
  · simp only [Bool.false_eq_true, if_false] at hD
    subst hN hD
    simp only [Bool.bne_false, if_true]
    rw [Int.mul_neg, e]; omega
  · simp only [if_true] at hD
    subst hN hD
    simp only [bne_self_eq_false, Bool.false_eq_true, if_false]
    rw [Int.neg_mul, e]; omega

/-- two arguments in their boxes, and two results' places -/
def Four (w : World) (g : Nat) (n1 n2 : Bool) (v1 v2 : Value) : Prop :=
  w.heap[g]? = some (.cells #[.bool n1, v1] 48 (0, 0)) ∧ w.heap[g + 1]? = some (.cells #[.bool n2, v2] 48 (0, 0)) ∧ w.heap[g + 1 + 1]? = some (.cells #[.bool false, .slice none 0 0] 48 (0, 0)) ∧ w.heap[g + 1 + 1 + 1]? = some (.cells #[.bool false, .slice none 0 0] 48 (0, 0)) ∧ g + 4 ≤ w.heap.size
theorem Four.new (w : World) (n1 n2 : Bool) (v1 v2 : Value) : Four ((((w.alloc (.cells #[.bool n1, v1] 48)).alloc (.cells #[.bool n2, v2] 48)).alloc (.cells #[.bool false, .slice none 0 0] 48)).alloc (.cells #[.bool false, .slice none 0 0] 48)) w.heap.size n1 n2 v1 v2 := by
  have s1 : ∀ (u : World) (o : Obj), (u.alloc o).heap.size = u.heap.size + 1 := fun u o => by simp
  have e : ∀ (u : World) (o : Obj) (k : Nat), k = u.heap.size → (u.alloc o).heap[k]? = some o := fun u o k hk => by rw [hk]; exact heap_alloc_new u o
  refine ⟨?_, ?_, ?_, ?_, by rw [s1, s1, s1, s1]; omega⟩
  · rw [Below.heap_alloc _ _ _ (by rw [s1, s1, s1]; omega), Below.heap_alloc _ _ _ (by rw [s1, s1]; omega), Below.heap_alloc _ _ _ (by rw [s1]; omega)]
    exact e _ _ _ rfl
  · rw [Below.heap_alloc _ _ _ (by rw [s1, s1, s1]; omega), Below.heap_alloc _ _ _ (by rw [s1, s1]; omega)]
    exact e _ _ _ (by rw [s1])
  · rw [Below.heap_alloc _ _ _ (by rw [s1, s1, s1]; omega)]
    exact e _ _ _ (by rw [s1, s1])
  · exact e _ _ _ (by rw [s1, s1, s1])
theorem Four.on {w w' : World} {g : Nat} {n1 n2 : Bool} {v1 v2 : Value} (h : Four w g n1 n2 v1 v2) (hb : Below w.heap.size w w') : Four w' g n1 n2 v1 v2 := by
  obtain ⟨h0, h1, h2, h3, h4⟩ := h
  exact ⟨(hb.block _ (by omega)).trans h0, (hb.block _ (by omega)).trans h1, (hb.block _ (by omega)).trans h2, (hb.block _ (by omega)).trans h3, Nat.le_trans h4 hb.size⟩
theorem Four.on_low {w w' : World} {g B : Nat} {n1 n2 : Bool} {v1 v2 : Value} (h : Four w g n1 n2 v1 v2) (hB : g + 4 ≤ B) (hb : Below B w w') : Four w' g n1 n2 v1 v2 := by
  obtain ⟨h0, h1, h2, h3, h4⟩ := h
  exact ⟨(hb.block _ (by omega)).trans h0, (hb.block _ (by omega)).trans h1, (hb.block _ (by omega)).trans h2, (hb.block _ (by omega)).trans h3, Nat.le_trans h4 hb.size⟩
theorem Four.boxes {w : World} {g : Nat} {n1 n2 : Bool} {v1 v2 : Value} (h : Four w g n1 n2 v1 v2) :
    w.cell? ⟨g, 0, none⟩ = some (.bool n1) ∧ w.cell? ⟨g, 1, none⟩ = some v1 ∧ w.cell? ⟨g + 1, 0, none⟩ = some (.bool n2) ∧ w.cell? ⟨g + 1, 1, none⟩ = some v2 := by
  obtain ⟨h0, h1, h2, h3, h4⟩ := h
  exact ⟨by rw [cell_of_row _ _ _ _ _ _ h0]; rfl, by rw [cell_of_row _ _ _ _ _ _ h0]; rfl, by rw [cell_of_row _ _ _ _ _ _ h1]; rfl, by rw [cell_of_row _ _ _ _ _ _ h1]; rfl⟩
theorem Four.place {w : World} {g : Nat} {n1 n2 : Bool} {v1 v2 : Value} (h : Four w g n1 n2 v1 v2) :
    (w.cell? ⟨g + 1 + 1, 0, none⟩ = some (.bool false) ∧ w.cell? ⟨g + 1 + 1, 1, none⟩ = some (.slice none 0 0) ∧ w.frozen? ⟨g + 1 + 1, 0, none⟩ = false ∧ w.frozen? ⟨g + 1 + 1, 1, none⟩ = false) ∧
    (w.cell? ⟨g + 1 + 1 + 1, 0, none⟩ = some (.bool false) ∧ w.cell? ⟨g + 1 + 1 + 1, 1, none⟩ = some (.slice none 0 0) ∧ w.frozen? ⟨g + 1 + 1 + 1, 0, none⟩ = false ∧ w.frozen? ⟨g + 1 + 1 + 1, 1, none⟩ = false) := by
  obtain ⟨h0, h1, h2, h3, h4⟩ := h
  exact ⟨⟨by rw [cell_of_row _ _ _ _ _ _ h2]; rfl, by rw [cell_of_row _ _ _ _ _ _ h2]; rfl, frozen_of_row _ _ _ _ _ h2, frozen_of_row _ _ _ _ _ h2⟩, ⟨by rw [cell_of_row _ _ _ _ _ _ h3]; rfl, by rw [cell_of_row _ _ _ _ _ _ h3]; rfl, frozen_of_row _ _ _ _ _ h3, frozen_of_row _ _ _ _ _ h3⟩⟩

/-- both results are stored -/
theorem Four.stored {w : World} {g : Nat} {n1 n2 : Bool} {v1 v2 : Value} (h : Four w g n1 n2 v1 v2) (u v x y : Value) : ∃ W', (((w.setCell ⟨g + 1 + 1, 0, none⟩ u).setCell ⟨g + 1 + 1, 1, none⟩ v).setCell ⟨g + 1 + 1 + 1, 0, none⟩ x).setCell ⟨g + 1 + 1 + 1, 1, none⟩ y = W' ∧
    W'.cell? ⟨g + 1 + 1, 0, none⟩ = some u ∧ W'.cell? ⟨g + 1 + 1, 1, none⟩ = some v ∧ W'.cell? ⟨g + 1 + 1 + 1, 0, none⟩ = some x ∧ W'.cell? ⟨g + 1 + 1 + 1, 1, none⟩ = some y ∧ (∀ B, B ≤ g → Below B w W') ∧
    (∀ k A xs, Rd w (fun b => b < w.heap.size) k A xs → Rd W' (fun b => b < W'.heap.size) k A xs) := by
  obtain ⟨h0, h1, h2, h3, h4⟩ := h
  obtain ⟨e0, e1, e2, e3⟩ := stored_whole h2 u v
  have h3' := h3
  rw [← Below.heap_setCell w ⟨g + 1 + 1, 0, none⟩ u (g + 1 + 1 + 1) (by show g + 1 + 1 + 1 ≠ g + 1 + 1; omega), ← Below.heap_setCell _ ⟨g + 1 + 1, 1, none⟩ v (g + 1 + 1 + 1) (by show g + 1 + 1 + 1 ≠ g + 1 + 1; omega)] at h3'
  obtain ⟨d0, d1, d2, d3⟩ := stored_whole h3' x y
  have h2' := e2
  rw [← Below.heap_setCell _ ⟨g + 1 + 1 + 1, 0, none⟩ x (g + 1 + 1) (by show g + 1 + 1 ≠ g + 1 + 1 + 1; omega), ← Below.heap_setCell _ ⟨g + 1 + 1 + 1, 1, none⟩ y (g + 1 + 1) (by show g + 1 + 1 ≠ g + 1 + 1 + 1; omega)] at h2'
  exact ⟨_, rfl, by rw [cell_of_row _ _ _ _ _ _ h2']; rfl, by rw [cell_of_row _ _ _ _ _ _ h2']; rfl, d0, d1, fun B hB => (e3 B (by omega)).trans (d3 B (by omega)), fun k A xs hr => (hr.stored h2 u v).stored h3' x y⟩

/-- a quotient and what is left, never below 0; zeros and false, where there is nothing to divide by. -/
def GivesWQR (N D : Int) (w : World) (e : Ending) (w' : World) : Prop :=
  ∃ A q c A' r c', e = .returned (.tuple #[.agg #[.bool (decide (N / D < 0)), .slice A q.length c], .agg #[.bool false, .slice A' r.length c'], .bool (decide (D ≠ 0))]) ∧ q.length ≤ c ∧ r.length ≤ c' ∧ Norm 4294967296 q ∧ Norm 4294967296 r ∧
    val 4294967296 q = (N / D).natAbs ∧ val 4294967296 r = (if D = 0 then 0 else N % D).natAbs ∧ Rd w' (fun g => g < w'.heap.size) .u32 A q ∧ Rd w' (fun g => g < w'.heap.size) .u32 A' r ∧ Below w.heap.size w w'

end Go.Proofs.Ytbhahddgajkchaa
