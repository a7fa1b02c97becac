/- Whole numbers: what a sign and a size are worth; what own, hold and Make answer. -/
import Derived.Test.YtkmgmppmhgoadaaDoorDivD
namespace Go.Proofs.YtkmgmppmhgoadaaDoor
open Go.RowKit Num

/-- what a sign and words are worth -/
def wv (neg : Bool) (xs : List Nat) : Int := if neg then -(val 4294967296 xs : Int) else (val 4294967296 xs : Int)
theorem wv_true (xs : List Nat) : wv true xs = -(val 4294967296 xs : Int) := rfl
theorem wv_false (xs : List Nat) : wv false xs = (val 4294967296 xs : Int) := rfl
theorem wv_abs (neg : Bool) (xs : List Nat) : (wv neg xs).natAbs = val 4294967296 xs := by cases neg <;> simp [wv]
theorem wv_not (neg : Bool) (xs : List Nat) : wv (!neg) xs = - wv neg xs := by cases neg <;> simp [wv]

/-- A WHOLE NUMBER THAT A CALL HANDS BACK, of value N: a sign, and words without noughts at the top. -/
def GivesW (N : Int) (w : World) (e : Ending) (w' : World) : Prop :=
  ∃ A xs c, e = .returned (.agg #[.bool (decide (N < 0)), .slice A xs.length c]) ∧ xs.length ≤ c ∧ Norm 4294967296 xs ∧ val 4294967296 xs = N.natAbs ∧ Rd w' (fun g => g < w'.heap.size) .u32 A xs ∧ Below w.heap.size w w'

theorem top_pos {xs : List Nat} (h : Norm 4294967296 xs) : decide (0 < xs.length) = decide (0 < val 4294967296 xs) := by
  have := h.2.nil_iff (b := 4294967296) (by omega)
  rw [decide_eq_decide]
  constructor
  · intro hl
    rcases Nat.eq_zero_or_pos (val 4294967296 xs) with h0 | h0
    · rw [this.2 h0] at hl; simp at hl
    · exact h0
  · intro hv
    rcases Nat.eq_zero_or_pos xs.length with h0 | h0
    · rw [this.1 (List.eq_nil_of_length_eq_zero h0)] at hv; omega
    · exact h0
theorem sign_of (neg : Bool) {xs : List Nat} (h : Norm 4294967296 xs) : (neg && decide (0 < xs.length)) = decide (wv neg xs < 0) := by
  rw [top_pos h]
  cases neg <;> simp [wv]

/-- the result's place behind calls -/
theorem new_whole (w : World) {w2 : World} (h : Below (w.alloc (.cells #[.bool false, .slice none 0 0] 24)).heap.size (w.alloc (.cells #[.bool false, .slice none 0 0] 24)) w2) :
    w2.heap[w.heap.size]? = some (.cells #[.bool false, .slice none 0 0] 24 (0, 0)) ∧ w2.cell? ⟨w.heap.size, 0, none⟩ = some (.bool false) ∧ w2.cell? ⟨w.heap.size, 1, none⟩ = some (.slice none 0 0) ∧ (∀ i, w2.frozen? ⟨w.heap.size, i, none⟩ = false) := by
  have hb : w2.heap[w.heap.size]? = some (.cells #[.bool false, .slice none 0 0] 24 (0, 0)) := (h.block w.heap.size (by simp)).trans (heap_alloc_new w _)
  exact ⟨hb, by rw [cell_of_row _ _ _ _ _ _ hb]; rfl, by rw [cell_of_row _ _ _ _ _ _ hb]; rfl, fun i => frozen_of_row _ _ i _ _ hb⟩

theorem wv_ext (neg : Bool) {xs ys : List Nat} (h : val 4294967296 xs = val 4294967296 ys) : wv neg xs = wv neg ys := by unfold wv; rw [h]
/-- a sign and words stored into a place of two cells -/
theorem stored_whole {w : World} {g : Nat} {a b : Value} {t : TypeId} (h : w.heap[g]? = some (.cells #[a, b] t (0, 0))) (u v : Value) :
    ((w.setCell ⟨g, 0, none⟩ u).setCell ⟨g, 1, none⟩ v).cell? ⟨g, 0, none⟩ = some u ∧ ((w.setCell ⟨g, 0, none⟩ u).setCell ⟨g, 1, none⟩ v).cell? ⟨g, 1, none⟩ = some v ∧
      ((w.setCell ⟨g, 0, none⟩ u).setCell ⟨g, 1, none⟩ v).heap[g]? = some (.cells #[u, v] t (0, 0)) ∧ (∀ B, B ≤ g → Below B w ((w.setCell ⟨g, 0, none⟩ u).setCell ⟨g, 1, none⟩ v)) := by
  have h1 := heap_setCell_same w g 0 _ t u h
  have h2 := heap_setCell_same _ g 1 _ t v h1
  have hb : ((w.setCell ⟨g, 0, none⟩ u).setCell ⟨g, 1, none⟩ v).heap[g]? = some (.cells #[u, v] t (0, 0)) := by rw [h2]; simp
  exact ⟨by rw [cell_of_row _ _ _ _ _ _ hb]; rfl, by rw [cell_of_row _ _ _ _ _ _ hb]; rfl, hb, fun B hB => ((Below.refl _ _).setCell hB _).setCell hB _⟩
theorem Num.Rd.stored {w : World} {g : Nat} {x : Bool} {p : Option Addr} {n m : Nat} {t : TypeId} {k : IntKind} {A : Option Addr} {xs : List Nat} (h : Rd w (fun g => g < w.heap.size) k A xs) (f0 : w.heap[g]? = some (.cells #[.bool x, .slice p n m] t (0, 0))) (u v : Value) : Rd ((w.setCell ⟨g, 0, none⟩ u).setCell ⟨g, 1, none⟩ v) (fun x => x < ((w.setCell ⟨g, 0, none⟩ u).setCell ⟨g, 1, none⟩ v).heap.size) k A xs := fun hn => by
  obtain ⟨b, o, e, hb, hc⟩ := h hn
  have hne : b ≠ g := by
    rintro rfl
    have h0 := hc 0 hn
    rw [cell_of_row _ _ _ _ _ _ f0] at h0
    match o, h0 with
    | 0, h0 => simp at h0
    | 1, h0 => simp at h0
    | o + 2, h0 => simp at h0
  refine ⟨b, o, e, by simpa [World.setCell] using hb, fun j hj => ?_⟩
  rw [← hc j hj]
  exact (World.cell?_of_block ((Below.heap_setCell _ _ v b hne).trans (Below.heap_setCell _ _ u b hne)))

/-- a sign and words stored where the result lies: a whole number is handed back -/
theorem gives_stored {w w2 : World} {g : Nat} {x : Bool} {p : Option Addr} {n m : Nat} {t : TypeId} {N : Int} {A : Option Addr} {xs : List Nat} {c : Nat} (f0 : w2.heap[g]? = some (.cells #[.bool x, .slice p n m] t (0, 0))) (B : Below w.heap.size w w2) (hg : w.heap.size ≤ g)
    (hc : xs.length ≤ c) (hn : Norm 4294967296 xs) (hv : val 4294967296 xs = N.natAbs) (hr : Rd w2 (fun g => g < w2.heap.size) .u32 A xs) (u v : Value) :
    GivesW N w (.returned (.agg #[.bool (decide (N < 0)), .slice A xs.length c])) ((w2.setCell ⟨g, 0, none⟩ u).setCell ⟨g, 1, none⟩ v) :=
  ⟨A, xs, c, rfl, hc, hn, hv, hr.stored f0 u v, B.trans ((stored_whole f0 u v).2.2.2 _ hg)⟩
theorem abs_of {neg : Bool} {xs : List Nat} {N : Int} (h : wv neg xs = N) : val 4294967296 xs = N.natAbs := by rw [← h, wv_abs]
theorem below_new (w : World) (o : Obj) : Below w.heap.size w (w.alloc o) := (Below.refl _ _).alloc (Nat.le_refl _) _

set_option maxHeartbeats 400000 in
/-- own: what is handed in has no noughts at the top -/
theorem whole_own (neg : Bool) (xs : List Nat) (A : Option Addr) (c : Nat) (N : Int) (w : World) (hn : Norm 4294967296 xs) (hN : wv neg xs = N) :
    Calls Tryd.prog 40 #[.bool neg, .slice A xs.length c] w fun e w' => e = .returned (.agg #[.bool (decide (N < 0)), .slice A xs.length c]) ∧ Below w.heap.size w w' := by
  have hs := sign_of neg hn
  rw [← hN, ← hs]
  clear hs hn hN
  cases neg
  · go_enter Tryd.func40, Tryd.ntmps40
    go_wp2
    exact bodyPost_ret (v := .agg #[.bool false, .slice A xs.length c]) (by simp [results, Tryd.results40, go_sem]) rfl ⟨rfl, below_new _ _⟩
  · go_enter Tryd.func40, Tryd.ntmps40
    go_wp2
    exact bodyPost_ret (v := .agg #[.bool (decide (0 < xs.length)), .slice A xs.length c]) (by simp [results, Tryd.results40, go_sem]) rfl ⟨by simp, below_new _ _⟩

set_option maxHeartbeats 400000 in
theorem whole_Make (neg : Bool) (a : List Nat) (A : Option Addr) (ca : Nat) (N : Int) (w : World) (h : Rd w (fun g => g < w.heap.size) .u32 A a) (hl : a.length ≤ 2147483648) (hc : a.length ≤ ca) (ha : Dg 4294967296 a) (hN : wv neg a = N) :
    Calls Tryd.prog 28 #[.bool neg, .slice A a.length ca] w (GivesW N w) := by
  have HE := Lib.hid hN
  clear hN
  go_enter Tryd.func28, Tryd.ntmps28
  go_wp2_with fail
  have B0 := below_new w (.cells #[.bool false, .slice none 0 0] 24)
  refine (nat_Trim_g a A ca _ _ (h.on B0) (fun g hg => hg) hl hc ha).mono ?_
  rintro e w1 ⟨A1, xs, c1, rfl, hc1, hn1, hv1, hr1, hb1⟩
  have HN := Lib.hid hn1
  have HV := Lib.hid ((wv_ext neg hv1).trans HE.out)
  clear hn1 hv1
  go_wp2_with fail
  refine (whole_own neg xs A1 c1 N _ HN.out HV.out).mono ?_
  rintro e w2 ⟨rfl, hb2⟩
  have b2 := hb1.trans (hb2.mono hb1.size)
  obtain ⟨f0, f1, f2, f3⟩ := new_whole w b2
  go_wp2_with fail
  obtain ⟨r0, r1, r2, r3⟩ := stored_whole f0 (.bool (decide (N < 0))) (.slice A1 xs.length c1)
  exact bodyPost_ret (v := .agg #[.bool (decide (N < 0)), .slice A1 xs.length c1]) (by simp [results, Tryd.results28, go_sem, r0, r1]) rfl
    (gives_stored f0 (B0.trans (b2.mono B0.size)) (Nat.le_refl _) hc1 HN.out (abs_of HV.out) (hr1.on hb2) _ _)
end Go.Proofs.YtkmgmppmhgoadaaDoor
