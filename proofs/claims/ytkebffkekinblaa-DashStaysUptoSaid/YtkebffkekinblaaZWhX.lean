/- Whole numbers: what a sign and a size are worth; what own, hold and Make answer. -/
import Derived.Test.YtkebffkekinblaaZOaC
import Derived.Test.YtkebffkekinblaaZOaB
import Derived.StillTailTactics
import Derived.Deep.CutRange
namespace Go.Proofs.Ytkebffkekinblaa
open Go.RowKit Num

/-- what a sign and words are worth -/
def wv (neg : Bool) (xs : List Nat) : Int := if neg then -(val 4294967296 xs : Int) else (val 4294967296 xs : Int)
theorem wv_true (xs : List Nat) : wv true xs = -(val 4294967296 xs : Int) := rfl
theorem wv_false (xs : List Nat) : wv false xs = (val 4294967296 xs : Int) := rfl
theorem wv_abs (neg : Bool) (xs : List Nat) : (wv neg xs).natAbs = val 4294967296 xs := by cases neg <;> simp [wv]
theorem wv_not (neg : Bool) (xs : List Nat) : wv (!neg) xs = - wv neg xs := by cases neg <;> simp [wv]

/-- A WHOLE NUMBER THAT A CALL HANDS BACK, of value N: a sign, and words without noughts at the top. -/
def GivesW (N : Int) (w : World) (e : Ending) (w' : World) : Prop :=
  ∃ A xs c, e = .returned (.agg #[.bool (decide (N < 0)), .slice A xs.length c]) ∧ xs.length ≤ c ∧ Norm 4294967296 xs ∧ val 4294967296 xs = N.natAbs ∧ Rd w' (fun g => g < w'.heap.size) .u32 A xs ∧ Below w.heap.size w w'

theorem top_pos {xs : List Nat} (h : Norm 4294967296 xs) : decide (0 < xs.length) = decide (0 < val 4294967296 xs) := by
  have := h.2.nil_iff (b := 4294967296) (by omega)
  rw [decide_eq_decide]
  constructor
  · intro hl
    rcases Nat.eq_zero_or_pos (val 4294967296 xs) with h0 | h0
    · rw [this.2 h0] at hl; simp at hl
    · exact h0
  · intro hv
    rcases Nat.eq_zero_or_pos xs.length with h0 | h0
    · rw [this.1 (List.eq_nil_of_length_eq_zero h0)] at hv; omega
    · exact h0
theorem sign_of (neg : Bool) {xs : List Nat} (h : Norm 4294967296 xs) : (neg && decide (0 < xs.length)) = decide (wv neg xs < 0) := by
  rw [top_pos h]
  cases neg <;> simp [wv]

/-- the result's place behind calls -/
theorem new_whole (w : World) {w2 : World} (h : Below (w.alloc (.cells #[.bool false, .slice none 0 0] 79)).heap.size (w.alloc (.cells #[.bool false, .slice none 0 0] 79)) w2) :
    w2.heap[w.heap.size]? = some (.cells #[.bool false, .slice none 0 0] 79 (0, 0)) ∧ w2.cell? ⟨w.heap.size, 0, none⟩ = some (.bool false) ∧ w2.cell? ⟨w.heap.size, 1, none⟩ = some (.slice none 0 0) ∧ (∀ i, w2.frozen? ⟨w.heap.size, i, none⟩ = false) := by
  have hb : w2.heap[w.heap.size]? = some (.cells #[.bool false, .slice none 0 0] 79 (0, 0)) := (h.block w.heap.size (by simp)).trans (heap_alloc_new w _)
  exact ⟨hb, by rw [cell_of_row _ _ _ _ _ _ hb]; rfl, by rw [cell_of_row _ _ _ _ _ _ hb]; rfl, fun i => frozen_of_row _ _ i _ _ hb⟩

theorem wv_ext (neg : Bool) {xs ys : List Nat} (h : val 4294967296 xs = val 4294967296 ys) : wv neg xs = wv neg ys := by unfold wv; rw [h]
/-- a sign and words stored into a place of two cells -/
theorem stored_whole {w : World} {g : Nat} {a b : Value} {t : TypeId} (h : w.heap[g]? = some (.cells #[a, b] t (0, 0))) (u v : Value) :
    ((w.setCell ⟨g, 0, none⟩ u).setCell ⟨g, 1, none⟩ v).cell? ⟨g, 0, none⟩ = some u ∧ ((w.setCell ⟨g, 0, none⟩ u).setCell ⟨g, 1, none⟩ v).cell? ⟨g, 1, none⟩ = some v ∧
      ((w.setCell ⟨g, 0, none⟩ u).setCell ⟨g, 1, none⟩ v).heap[g]? = some (.cells #[u, v] t (0, 0)) ∧ (∀ B, B ≤ g → Below B w ((w.setCell ⟨g, 0, none⟩ u).setCell ⟨g, 1, none⟩ v)) := by
  have h1 := heap_setCell_same w g 0 _ t u h
  have h2 := heap_setCell_same _ g 1 _ t v h1
  have hb : ((w.setCell ⟨g, 0, none⟩ u).setCell ⟨g, 1, none⟩ v).heap[g]? = some (.cells #[u, v] t (0, 0)) := by rw [h2]; simp
  exact ⟨by rw [cell_of_row _ _ _ _ _ _ hb]; rfl, by rw [cell_of_row _ _ _ _ _ _ hb]; rfl, hb, fun B hB => ((Below.refl _ _).setCell hB _).setCell hB _⟩
theorem Num.Rd.stored {w : World} {g : Nat} {x : Bool} {p : Option Addr} {n m : Nat} {t : TypeId} {k : IntKind} {A : Option Addr} {xs : List Nat} (h : Rd w (fun g => g < w.heap.size) k A xs) (f0 : w.heap[g]? = some (.cells #[.bool x, .slice p n m] t (0, 0))) (u v : Value) : Rd ((w.setCell ⟨g, 0, none⟩ u).setCell ⟨g, 1, none⟩ v) (fun x => x < ((w.setCell ⟨g, 0, none⟩ u).setCell ⟨g, 1, none⟩ v).heap.size) k A xs := fun hn => by
  obtain ⟨b, o, e, hb, hc⟩ := h hn
  have hne : b ≠ g := by
    rintro rfl
    have h0 := hc 0 hn
    rw [cell_of_row _ _ _ _ _ _ f0] at h0
    match o, h0 with
    | 0, h0 => simp at h0
    | 1, h0 => simp at h0
    | o + 2, h0 => simp at h0
  refine ⟨b, o, e, by simpa [World.setCell] using hb, fun j hj => ?_⟩
  rw [← hc j hj]
  exact (World.cell?_of_block ((Below.heap_setCell _ _ v b hne).trans (Below.heap_setCell _ _ u b hne)))

/-- a sign and words stored where the result lies: a whole number is handed back -/
theorem gives_stored {w w2 : World} {g : Nat} {x : Bool} {p : Option Addr} {n m : Nat} {t : TypeId} {N : Int} {A : Option Addr} {xs : List Nat} {c : Nat} (f0 : w2.heap[g]? = some (.cells #[.bool x, .slice p n m] t (0, 0))) (B : Below w.heap.size w w2) (hg : w.heap.size ≤ g)
    (hc : xs.length ≤ c) (hn : Norm 4294967296 xs) (hv : val 4294967296 xs = N.natAbs) (hr : Rd w2 (fun g => g < w2.heap.size) .u32 A xs) (u v : Value) :
    GivesW N w (.returned (.agg #[.bool (decide (N < 0)), .slice A xs.length c])) ((w2.setCell ⟨g, 0, none⟩ u).setCell ⟨g, 1, none⟩ v) :=
  ⟨A, xs, c, rfl, hc, hn, hv, hr.stored f0 u v, B.trans ((stored_whole f0 u v).2.2.2 _ hg)⟩
theorem abs_of {neg : Bool} {xs : List Nat} {N : Int} (h : wv neg xs = N) : val 4294967296 xs = N.natAbs := by rw [← h, wv_abs]
theorem below_new (w : World) (o : Obj) : Below w.heap.size w (w.alloc o) := (Below.refl _ _).alloc (Nat.le_refl _) _

end Go.Proofs.Ytkebffkekinblaa
/- Whole numbers: what plus, Add, Sub, Neg answer. -/

namespace Go.Proofs.Ytkebffkekinblaa
open Go.RowKit Num

theorem wv_add (neg : Bool) {xs a b : List Nat} (h : val 4294967296 xs = val 4294967296 a + val 4294967296 b) : wv neg xs = wv neg a + wv neg b := by unfold wv; cases neg <;> simp <;> omega
theorem wv_sub (neg : Bool) {xs a b : List Nat} (h : val 4294967296 xs = val 4294967296 a - val 4294967296 b) (hle : val 4294967296 b ≤ val 4294967296 a) : wv neg xs = wv neg a + wv (!neg) b := by unfold wv; cases neg <;> simp <;> omega
theorem wv_sub' (neg : Bool) {xs a b : List Nat} (h : val 4294967296 xs = val 4294967296 b - val 4294967296 a) (hle : val 4294967296 a ≤ val 4294967296 b) : wv (!neg) xs = wv neg a + wv (!neg) b := by unfold wv; cases neg <;> simp <;> omega

end Go.Proofs.Ytkebffkekinblaa
/- Whole numbers: what Add, Sub, Neg, Mul answer. -/

namespace Go.Proofs.Ytkebffkekinblaa
open Go.RowKit Num

theorem new_whole_at (W : World) {w2 : World} (g : Nat) (hg : g = W.heap.size) (h : Below (W.alloc (.cells #[.bool false, .slice none 0 0] 79)).heap.size (W.alloc (.cells #[.bool false, .slice none 0 0] 79)) w2) :
    w2.heap[g]? = some (.cells #[.bool false, .slice none 0 0] 79 (0, 0)) ∧ w2.cell? ⟨g, 0, none⟩ = some (.bool false) ∧ w2.cell? ⟨g, 1, none⟩ = some (.slice none 0 0) ∧ (∀ i, w2.frozen? ⟨g, i, none⟩ = false) := by
  subst hg; exact new_whole W h
theorem below_new2 (w : World) (o o' : Obj) : Below w.heap.size w ((w.alloc o).alloc o') := (below_new _ _).trans ((below_new _ _).mono (by simp))
theorem below_new3 (w : World) (o o' o'' : Obj) : Below w.heap.size w (((w.alloc o).alloc o').alloc o'') := (below_new2 _ _ _).trans ((below_new _ _).mono (by simp; omega))

theorem wv_mul (n1 n2 : Bool) {xs a b : List Nat} (h : val 4294967296 xs = val 4294967296 a * val 4294967296 b) : wv (n1 != n2) xs = wv n1 a * wv n2 b := by
  unfold wv; rw [h]; cases n1 <;> cases n2 <;> simp [Int.neg_mul, Int.mul_neg]

/-- two arguments in their boxes, and the result's place -/
theorem boxes2 (w : World) (x y p q : Value) (t t' : TypeId) : ∃ W, ((w.alloc (.cells #[x, y] t)).alloc (.cells #[p, q] t)).alloc (.cells #[.bool false, .slice none 0 0] t') = W ∧
    W.cell? ⟨w.heap.size, 0, none⟩ = some x ∧ W.cell? ⟨w.heap.size, 1, none⟩ = some y ∧ W.cell? ⟨w.heap.size + 1, 0, none⟩ = some p ∧ W.cell? ⟨w.heap.size + 1, 1, none⟩ = some q ∧
    W.heap[w.heap.size + 1 + 1]? = some (.cells #[.bool false, .slice none 0 0] t' (0, 0)) ∧ W.heap.size = w.heap.size + 3 ∧ Below w.heap.size w W := by
  have s1 : ∀ (u : World) (o : Obj), (u.alloc o).heap.size = u.heap.size + 1 := fun u o => by simp
  have e1 : (((w.alloc (.cells #[x, y] t)).alloc (.cells #[p, q] t)).alloc (.cells #[.bool false, .slice none 0 0] t')).heap[w.heap.size]? = some (.cells #[x, y] t (0, 0)) := by
    rw [Below.heap_alloc _ _ _ (by rw [s1, s1]; omega), Below.heap_alloc _ _ _ (by rw [s1]; omega)]
    exact heap_alloc_new w _
  have e2 : (((w.alloc (.cells #[x, y] t)).alloc (.cells #[p, q] t)).alloc (.cells #[.bool false, .slice none 0 0] t')).heap[w.heap.size + 1]? = some (.cells #[p, q] t (0, 0)) := by
    rw [Below.heap_alloc _ _ _ (by rw [s1, s1]; omega), ← s1 w (.cells #[x, y] t)]
    exact heap_alloc_new _ _
  have e3 : (((w.alloc (.cells #[x, y] t)).alloc (.cells #[p, q] t)).alloc (.cells #[.bool false, .slice none 0 0] t')).heap[w.heap.size + 1 + 1]? = some (.cells #[.bool false, .slice none 0 0] t' (0, 0)) := by
    rw [← s1 w (.cells #[x, y] t), ← s1 (w.alloc (.cells #[x, y] t)) (.cells #[p, q] t)]
    exact heap_alloc_new _ _
  exact ⟨_, rfl, by rw [cell_of_row _ _ _ _ _ _ e1]; rfl, by rw [cell_of_row _ _ _ _ _ _ e1]; rfl, by rw [cell_of_row _ _ _ _ _ _ e2]; rfl, by rw [cell_of_row _ _ _ _ _ _ e2]; rfl, e3, by rw [s1, s1, s1], below_new3 _ _ _ _⟩

theorem lower {W w1 : World} {g : Nat} (k6 : W.heap.size = g + 3) (hb : Below W.drew.heap.size W.drew w1) : Below (g + 1 + 1) W w1 := by
  have hs : W.drew.heap.size = g + 3 := k6
  exact Below.trans (below_drewN (Below.refl _ _) 1) (hb.mono (by rw [hs]; omega))
theorem cells4 {W w1 : World} {g : Nat} {x y p q : Value} (k1 : W.cell? ⟨g, 0, none⟩ = some x) (k2 : W.cell? ⟨g, 1, none⟩ = some y) (k3 : W.cell? ⟨g + 1, 0, none⟩ = some p) (k4 : W.cell? ⟨g + 1, 1, none⟩ = some q) (hb : Below (g + 1 + 1) W w1) :
    w1.cell? ⟨g, 0, none⟩ = some x ∧ w1.cell? ⟨g, 1, none⟩ = some y ∧ w1.cell? ⟨g + 1, 0, none⟩ = some p ∧ w1.cell? ⟨g + 1, 1, none⟩ = some q :=
  ⟨(hb.cell (p := ⟨g, 0, none⟩) (show g < g + 1 + 1 by omega)).trans k1, (hb.cell (p := ⟨g, 1, none⟩) (show g < g + 1 + 1 by omega)).trans k2, (hb.cell (p := ⟨g + 1, 0, none⟩) (show g + 1 < g + 1 + 1 by omega)).trans k3, (hb.cell (p := ⟨g + 1, 1, none⟩) (show g + 1 < g + 1 + 1 by omega)).trans k4⟩
/-- the result's place, with its cells, behind calls -/
theorem place2 {W w1 : World} {g : Nat} {t : TypeId} (k5 : W.heap[g + 1 + 1]? = some (.cells #[.bool false, .slice none 0 0] t (0, 0))) (k6 : W.heap.size = g + 3) (hb : Below W.drew.heap.size W.drew w1) :
    w1.heap[g + 1 + 1]? = some (.cells #[.bool false, .slice none 0 0] t (0, 0)) ∧ w1.cell? ⟨g + 1 + 1, 0, none⟩ = some (.bool false) ∧ w1.cell? ⟨g + 1 + 1, 1, none⟩ = some (.slice none 0 0) ∧ (∀ i, w1.frozen? ⟨g + 1 + 1, i, none⟩ = false) := by
  have hs : W.drew.heap.size = g + 3 := k6
  have h := (hb.block (g + 1 + 1) (by rw [hs]; omega)).trans k5
  exact ⟨h, by rw [cell_of_row _ _ _ _ _ _ h]; rfl, by rw [cell_of_row _ _ _ _ _ _ h]; rfl, fun i => frozen_of_row _ _ i _ _ h⟩

end Go.Proofs.Ytkebffkekinblaa
/- Whole numbers: what hold, Sign, Cmp answer. -/

namespace Go.Proofs.Ytkebffkekinblaa
open Go.RowKit Num

theorem isBits_some (N : Nat) : ∃ n, IsBits N n := by
  rcases Nat.eq_zero_or_pos N with h | h
  · subst h; exact ⟨0, by simp [IsBits]⟩
  · exact ⟨N.log2 + 1, Nat.lt_log2_self, .inr (by simpa using Nat.log2_self_le (by omega))⟩
theorem isBits_zero_iff {N n : Nat} (h : IsBits N n) : n = 0 ↔ N = 0 := by
  constructor
  · intro h0; subst h0; have := h.1; omega
  · intro h0
    subst h0
    rcases h.2 with h1 | h1
    · exact h1
    · have : 0 < 2 ^ (n - 1) := Nat.pow_pos (by omega)
      omega
/-- an argument in its box, and the result's place -/
theorem boxes1 (w : World) (x y : Value) (t t' : TypeId) : ∃ W, (w.alloc (.cells #[x, y] t)).alloc (.cells #[.bool false, .slice none 0 0] t') = W ∧
    W.cell? ⟨w.heap.size, 0, none⟩ = some x ∧ W.cell? ⟨w.heap.size, 1, none⟩ = some y ∧
    W.heap[w.heap.size + 1]? = some (.cells #[.bool false, .slice none 0 0] t' (0, 0)) ∧ W.heap.size = w.heap.size + 2 ∧ Below w.heap.size w W := by
  have s1 : ∀ (u : World) (o : Obj), (u.alloc o).heap.size = u.heap.size + 1 := fun u o => by simp
  have e1 : ((w.alloc (.cells #[x, y] t)).alloc (.cells #[.bool false, .slice none 0 0] t')).heap[w.heap.size]? = some (.cells #[x, y] t (0, 0)) := by
    rw [Below.heap_alloc _ _ _ (by rw [s1]; omega)]
    exact heap_alloc_new w _
  have e3 : ((w.alloc (.cells #[x, y] t)).alloc (.cells #[.bool false, .slice none 0 0] t')).heap[w.heap.size + 1]? = some (.cells #[.bool false, .slice none 0 0] t' (0, 0)) := by
    rw [← s1 w (.cells #[x, y] t)]
    exact heap_alloc_new _ _
  exact ⟨_, rfl, by rw [cell_of_row _ _ _ _ _ _ e1]; rfl, by rw [cell_of_row _ _ _ _ _ _ e1]; rfl, e3, by rw [s1, s1], below_new2 _ _ _⟩
/-- a place's cells -/
theorem cells_of {w1 : World} {g : Nat} {x y : Value} {t : TypeId} (h : w1.heap[g]? = some (.cells #[x, y] t (0, 0))) :
    w1.cell? ⟨g, 0, none⟩ = some x ∧ w1.cell? ⟨g, 1, none⟩ = some y ∧ w1.frozen? ⟨g, 0, none⟩ = false ∧ w1.frozen? ⟨g, 1, none⟩ = false :=
  ⟨by rw [cell_of_row _ _ _ _ _ _ h]; rfl, by rw [cell_of_row _ _ _ _ _ _ h]; rfl, frozen_of_row _ _ _ _ _ h, frozen_of_row _ _ _ _ _ h⟩

def sgn (N : Int) : Int := if N < 0 then -1 else if 0 < N then 1 else 0

end Go.Proofs.Ytkebffkekinblaa
/- Whole numbers: what Cmp answers. -/

namespace Go.Proofs.Ytkebffkekinblaa
open Go.RowKit Num

/-- two arguments in their boxes -/
theorem boxes20 (w : World) (x y p q : Value) (t : TypeId) : ∃ W, ((w.alloc (.cells #[x, y] t)).alloc (.cells #[p, q] t)) = W ∧
    W.cell? ⟨w.heap.size, 0, none⟩ = some x ∧ W.cell? ⟨w.heap.size, 1, none⟩ = some y ∧ W.cell? ⟨w.heap.size + 1, 0, none⟩ = some p ∧ W.cell? ⟨w.heap.size + 1, 1, none⟩ = some q ∧
    W.heap.size = w.heap.size + 2 ∧ Below w.heap.size w W := by
  have s1 : ∀ (u : World) (o : Obj), (u.alloc o).heap.size = u.heap.size + 1 := fun u o => by simp
  have e1 : ((w.alloc (.cells #[x, y] t)).alloc (.cells #[p, q] t)).heap[w.heap.size]? = some (.cells #[x, y] t (0, 0)) := by
    rw [Below.heap_alloc _ _ _ (by rw [s1]; omega)]
    exact heap_alloc_new w _
  have e3 : ((w.alloc (.cells #[x, y] t)).alloc (.cells #[p, q] t)).heap[w.heap.size + 1]? = some (.cells #[p, q] t (0, 0)) := by
    rw [← s1 w (.cells #[x, y] t)]
    exact heap_alloc_new _ _
  exact ⟨_, rfl, by rw [cell_of_row _ _ _ _ _ _ e1]; rfl, by rw [cell_of_row _ _ _ _ _ _ e1]; rfl, by rw [cell_of_row _ _ _ _ _ _ e3]; rfl, by rw [cell_of_row _ _ _ _ _ _ e3]; rfl, by rw [s1, s1], below_new2 _ _ _⟩
theorem low_new2 {B : Nat} {W w2 : World} (h : Below B W w2) (hB : B ≤ w2.heap.size) (o o' : Obj) : Below B W ((w2.alloc o).alloc o') := (h.alloc hB o).alloc (by simp; omega) o'
theorem keep4 {W w1 : World} {g B : Nat} {x y p q : Value} (k1 : W.cell? ⟨g, 0, none⟩ = some x) (k2 : W.cell? ⟨g, 1, none⟩ = some y) (k3 : W.cell? ⟨g + 1, 0, none⟩ = some p) (k4 : W.cell? ⟨g + 1, 1, none⟩ = some q) (hB : g + 2 ≤ B) (hb : Below B W w1) :
    w1.cell? ⟨g, 0, none⟩ = some x ∧ w1.cell? ⟨g, 1, none⟩ = some y ∧ w1.cell? ⟨g + 1, 0, none⟩ = some p ∧ w1.cell? ⟨g + 1, 1, none⟩ = some q :=
  ⟨(hb.cell (p := ⟨g, 0, none⟩) (show g < B by omega)).trans k1, (hb.cell (p := ⟨g, 1, none⟩) (show g < B by omega)).trans k2, (hb.cell (p := ⟨g + 1, 0, none⟩) (show g + 1 < B by omega)).trans k3, (hb.cell (p := ⟨g + 1, 1, none⟩) (show g + 1 < B by omega)).trans k4⟩

theorem seen0 {W w1 : World} (h : Below W.heap.size W w1) : Below W.heap.size W w1 ∧ W.heap.size ≤ w1.heap.size := ⟨h, h.size⟩
theorem seen1 {W w1 : World} {o : Obj} (h : Below (W.alloc o).heap.size (W.alloc o) w1) : (Below W.heap.size W w1 ∧ W.heap.size < w1.heap.size) ∧ w1.heap[W.heap.size]? = some o := by
  have s := h.size
  simp only [World.size_alloc] at s
  exact ⟨⟨(below_new _ _).trans (h.mono (by simp)), by omega⟩, (h.block _ (by simp)).trans (heap_alloc_new W o)⟩
theorem seen2 {W w1 : World} {o o' : Obj} (h : Below ((W.alloc o).alloc o').heap.size ((W.alloc o).alloc o') w1) : (Below W.heap.size W w1 ∧ W.heap.size + 1 < w1.heap.size) ∧ w1.heap[W.heap.size]? = some o ∧ w1.heap[W.heap.size + 1]? = some o' := by
  have s := h.size
  simp only [World.size_alloc] at s
  refine ⟨⟨(below_new2 _ _ _).trans (h.mono (by simp; omega)), by omega⟩, (h.block _ (by simp; omega)).trans ((Below.heap_alloc _ _ _ (by simp)).trans (heap_alloc_new W o)), (h.block _ (by simp)).trans ?_⟩
  rw [← World.size_alloc W o]
  exact heap_alloc_new _ o'

theorem size_alloc_ok {B : Nat} {w : World} (h : B ≤ w.heap.size) (o : Obj) : B ≤ (w.alloc o).heap.size := by simp; omega
theorem size_set_ok {B : Nat} {w : World} (h : B ≤ w.heap.size) (p : Addr) (u : Value) : B ≤ (w.setCell p u).heap.size := by simpa using h
theorem seen0d {W w1 : World} (h : Below W.drew.heap.size W.drew w1) : Below W.heap.size W.drew w1 ∧ W.heap.size ≤ w1.heap.size := seen0 (W := W.drew) h
theorem seen1d {W w1 : World} {o : Obj} (h : Below (W.alloc o).drew.heap.size (W.alloc o).drew w1) : (Below W.heap.size W.drew w1 ∧ W.heap.size < w1.heap.size) ∧ w1.heap[W.heap.size]? = some o := seen1 (W := W.drew) h
theorem seen2d {W w1 : World} {o o' : Obj} (h : Below ((W.alloc o).alloc o').drew.heap.size ((W.alloc o).alloc o').drew w1) : (Below W.heap.size W.drew w1 ∧ W.heap.size + 1 < w1.heap.size) ∧ w1.heap[W.heap.size]? = some o ∧ w1.heap[W.heap.size + 1]? = some o' := seen2 (W := W.drew) h

theorem sgn_cmp {X Y : Int} {x y : Nat} (h : X - Y = (x : Int) - y) : sgn (X - Y) = cmpI x y := by
  rw [h]; unfold sgn cmpI
  by_cases h1 : x < y
  · rw [if_pos (by omega), if_pos h1]
  · rw [if_neg (by omega), if_neg h1]
    by_cases h2 : y < x
    · rw [if_pos (by omega), if_pos h2]
    · rw [if_neg (by omega), if_neg h2]

end Go.Proofs.Ytkebffkekinblaa
