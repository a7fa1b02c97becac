/- Whole numbers: what a sign and a size are worth; what own, hold and Make answer. -/
import Derived.Test.YtdmoibphidipeaaGreatDoorZOaC
import Derived.Test.YtdmoibphidipeaaGreatDoorZOaB
import Derived.StillTailTactics
import Derived.Deep.CutRange
namespace Go.Proofs.YtdmoibphidipeaaGreatDoor
open Go.RowKit Num

/-- what a sign and words are worth -/
def wv (neg : Bool) (xs : List Nat) : Int := if neg then -(val 4294967296 xs : Int) else (val 4294967296 xs : Int)
theorem wv_true (xs : List Nat) : wv true xs = -(val 4294967296 xs : Int) := rfl
theorem wv_false (xs : List Nat) : wv false xs = (val 4294967296 xs : Int) := rfl
theorem wv_abs (neg : Bool) (xs : List Nat) : (wv neg xs).natAbs = val 4294967296 xs := by cases neg <;> simp [wv]
theorem wv_not (neg : Bool) (xs : List Nat) : wv (!neg) xs = - wv neg xs := by cases neg <;> simp [wv]

/-- A WHOLE NUMBER THAT A CALL HANDS BACK, of value N: a sign, and words without noughts at the top. -/
def GivesW (N : Int) (w : World) (e : Ending) (w' : World) : Prop :=
  ∃ A xs c, e = .returned (.agg #[.bool (decide (N < 0)), .slice A xs.length c]) ∧ xs.length ≤ c ∧ Norm 4294967296 xs ∧ val 4294967296 xs = N.natAbs ∧ Rd w' (fun g => g < w'.heap.size) .u32 A xs ∧ Below w.heap.size w w'

theorem top_pos {xs : List Nat} (h : Norm 4294967296 xs) : decide (0 < xs.length) = decide (0 < val 4294967296 xs) := by
  have := h.2.nil_iff (b := 4294967296) (by omega)
  rw [decide_eq_decide]
  constructor
  · intro hl
    rcases Nat.eq_zero_or_pos (val 4294967296 xs) with h0 | h0
    · rw [this.2 h0] at hl; simp at hl
    · exact h0
  · intro hv
    rcases Nat.eq_zero_or_pos xs.length with h0 | h0
    · rw [this.1 (List.eq_nil_of_length_eq_zero h0)] at hv; omega
    · exact h0
theorem sign_of (neg : Bool) {xs : List Nat} (h : Norm 4294967296 xs) : (neg && decide (0 < xs.length)) = decide (wv neg xs < 0) := by
  rw [top_pos h]
  cases neg <;> simp [wv]

/-- the result's place behind calls -/
theorem new_whole (w : World) {w2 : World} (h : Below (w.alloc (.cells #[.bool false, .slice none 0 0] 37)).heap.size (w.alloc (.cells #[.bool false, .slice none 0 0] 37)) w2) :
    w2.heap[w.heap.size]? = some (.cells #[.bool false, .slice none 0 0] 37 (0, 0)) ∧ w2.cell? ⟨w.heap.size, 0, none⟩ = some (.bool false) ∧ w2.cell? ⟨w.heap.size, 1, none⟩ = some (.slice none 0 0) ∧ (∀ i, w2.frozen? ⟨w.heap.size, i, none⟩ = false) := by
  have hb : w2.heap[w.heap.size]? = some (.cells #[.bool false, .slice none 0 0] 37 (0, 0)) := (h.block w.heap.size (by simp)).trans (heap_alloc_new w _)
  exact ⟨hb, by rw [cell_of_row _ _ _ _ _ _ hb]; rfl, by rw [cell_of_row _ _ _ _ _ _ hb]; rfl, fun i => frozen_of_row _ _ i _ _ hb⟩

theorem wv_ext (neg : Bool) {xs ys : List Nat} (h : val 4294967296 xs = val 4294967296 ys) : wv neg xs = wv neg ys := by unfold wv; rw [h]
/-- a sign and words stored into a place of two cells -/
theorem stored_whole {w : World} {g : Nat} {a b : Value} {t : TypeId} (h : w.heap[g]? = some (.cells #[a, b] t (0, 0))) (u v : Value) :
    ((w.setCell ⟨g, 0, none⟩ u).setCell ⟨g, 1, none⟩ v).cell? ⟨g, 0, none⟩ = some u ∧ ((w.setCell ⟨g, 0, none⟩ u).setCell ⟨g, 1, none⟩ v).cell? ⟨g, 1, none⟩ = some v ∧
      ((w.setCell ⟨g, 0, none⟩ u).setCell ⟨g, 1, none⟩ v).heap[g]? = some (.cells #[u, v] t (0, 0)) ∧ (∀ B, B ≤ g → Below B w ((w.setCell ⟨g, 0, none⟩ u).setCell ⟨g, 1, none⟩ v)) := by
  have h1 := heap_setCell_same w g 0 _ t u h
  have h2 := heap_setCell_same _ g 1 _ t v h1
  have hb : ((w.setCell ⟨g, 0, none⟩ u).setCell ⟨g, 1, none⟩ v).heap[g]? = some (.cells #[u, v] t (0, 0)) := by rw [h2]; simp
  exact ⟨by rw [cell_of_row _ _ _ _ _ _ hb]; rfl, by rw [cell_of_row _ _ _ _ _ _ hb]; rfl, hb, fun B hB => ((Below.refl _ _).setCell hB _).setCell hB _⟩
theorem Num.Rd.stored {w : World} {g : Nat} {x : Bool} {p : Option Addr} {n m : Nat} {t : TypeId} {k : IntKind} {A : Option Addr} {xs : List Nat} (h : Rd w (fun g => g < w.heap.size) k A xs) (f0 : w.heap[g]? = some (.cells #[.bool x, .slice p n m] t (0, 0))) (u v : Value) : Rd ((w.setCell ⟨g, 0, none⟩ u).setCell ⟨g, 1, none⟩ v) (fun x => x < ((w.setCell ⟨g, 0, none⟩ u).setCell ⟨g, 1, none⟩ v).heap.size) k A xs := fun hn => by
  obtain ⟨b, o, e, hb, hc⟩ := h hn
  have hne : b ≠ g := by
    rintro rfl
    have h0 := hc 0 hn
    rw [cell_of_row _ _ _ _ _ _ f0] at h0
    match o, h0 with
    | 0, h0 => simp at h0
    | 1, h0 => simp at h0
    | o + 2, h0 => simp at h0
  refine ⟨b, o, e, by simpa [World.setCell] using hb, fun j hj => ?_⟩
  rw [← hc j hj]
  exact (World.cell?_of_block ((Below.heap_setCell _ _ v b hne).trans (Below.heap_setCell _ _ u b hne)))

/-- a sign and words stored where the result lies: a whole number is handed back -/
theorem gives_stored {w w2 : World} {g : Nat} {x : Bool} {p : Option Addr} {n m : Nat} {t : TypeId} {N : Int} {A : Option Addr} {xs : List Nat} {c : Nat} (f0 : w2.heap[g]? = some (.cells #[.bool x, .slice p n m] t (0, 0))) (B : Below w.heap.size w w2) (hg : w.heap.size ≤ g)
    (hc : xs.length ≤ c) (hn : Norm 4294967296 xs) (hv : val 4294967296 xs = N.natAbs) (hr : Rd w2 (fun g => g < w2.heap.size) .u32 A xs) (u v : Value) :
    GivesW N w (.returned (.agg #[.bool (decide (N < 0)), .slice A xs.length c])) ((w2.setCell ⟨g, 0, none⟩ u).setCell ⟨g, 1, none⟩ v) :=
  ⟨A, xs, c, rfl, hc, hn, hv, hr.stored f0 u v, B.trans ((stored_whole f0 u v).2.2.2 _ hg)⟩
theorem abs_of {neg : Bool} {xs : List Nat} {N : Int} (h : wv neg xs = N) : val 4294967296 xs = N.natAbs := by rw [← h, wv_abs]
theorem below_new (w : World) (o : Obj) : Below w.heap.size w (w.alloc o) := (Below.refl _ _).alloc (Nat.le_refl _) _

set_option maxHeartbeats 400000 in
/-- own: what is handed in has no noughts at the top -/
theorem whole_own (neg : Bool) (xs : List Nat) (A : Option Addr) (c : Nat) (N : Int) (w : World) (hn : Norm 4294967296 xs) (hN : wv neg xs = N) :
    Calls Tryz.prog 147 #[.bool neg, .slice A xs.length c] w fun e w' => e = .returned (.agg #[.bool (decide (N < 0)), .slice A xs.length c]) ∧ Below w.heap.size w w' := by
  have hs := sign_of neg hn
  rw [← hN, ← hs]
  clear hs hn hN
  cases neg
  · go_enter Tryz.func147, Tryz.ntmps147
    go_wp2
    exact bodyPost_ret (v := .agg #[.bool false, .slice A xs.length c]) (by simp [results, Tryz.results147, go_sem]) rfl ⟨rfl, below_new _ _⟩
  · go_enter Tryz.func147, Tryz.ntmps147
    go_wp2
    exact bodyPost_ret (v := .agg #[.bool (decide (0 < xs.length)), .slice A xs.length c]) (by simp [results, Tryz.results147, go_sem]) rfl ⟨by simp, below_new _ _⟩

set_option maxHeartbeats 400000 in
theorem whole_Make (neg : Bool) (a : List Nat) (A : Option Addr) (ca : Nat) (N : Int) (w : World) (h : Rd w (fun g => g < w.heap.size) .u32 A a) (hl : a.length ≤ 2147483648) (hc : a.length ≤ ca) (ha : Dg 4294967296 a) (hN : wv neg a = N) :
    Calls Tryz.prog 187 #[.bool neg, .slice A a.length ca] w (GivesW N w) := by
  have HE := Lib.hid hN
  clear hN
  go_enter Tryz.func187, Tryz.ntmps187
  go_wp2_with fail
  have B0 := below_new w (.cells #[.bool false, .slice none 0 0] 37)
  refine (nat_Trim_g a A ca _ _ (h.on B0) (fun g hg => hg) hl hc ha).mono ?_
  rintro e w1 ⟨A1, xs, c1, rfl, hc1, hn1, hv1, hr1, hb1⟩
  have HN := Lib.hid hn1
  have HV := Lib.hid ((wv_ext neg hv1).trans HE.out)
  clear hn1 hv1
  go_wp2_with fail
  refine (whole_own neg xs A1 c1 N _ HN.out HV.out).mono ?_
  rintro e w2 ⟨rfl, hb2⟩
  have b2 := hb1.trans (hb2.mono hb1.size)
  obtain ⟨f0, f1, f2, f3⟩ := new_whole w b2
  go_wp2_with fail
  obtain ⟨r0, r1, r2, r3⟩ := stored_whole f0 (.bool (decide (N < 0))) (.slice A1 xs.length c1)
  exact bodyPost_ret (v := .agg #[.bool (decide (N < 0)), .slice A1 xs.length c1]) (by simp [results, Tryz.results187, go_sem, r0, r1]) rfl
    (gives_stored f0 (B0.trans (b2.mono B0.size)) (Nat.le_refl _) hc1 HN.out (abs_of HV.out) (hr1.on hb2) _ _)
end Go.Proofs.YtdmoibphidipeaaGreatDoor
/- Whole numbers: what plus, Add, Sub, Neg answer. -/

namespace Go.Proofs.YtdmoibphidipeaaGreatDoor
open Go.RowKit Num

theorem wv_add (neg : Bool) {xs a b : List Nat} (h : val 4294967296 xs = val 4294967296 a + val 4294967296 b) : wv neg xs = wv neg a + wv neg b := by unfold wv; cases neg <;> simp <;> omega
theorem wv_sub (neg : Bool) {xs a b : List Nat} (h : val 4294967296 xs = val 4294967296 a - val 4294967296 b) (hle : val 4294967296 b ≤ val 4294967296 a) : wv neg xs = wv neg a + wv (!neg) b := by unfold wv; cases neg <;> simp <;> omega
theorem wv_sub' (neg : Bool) {xs a b : List Nat} (h : val 4294967296 xs = val 4294967296 b - val 4294967296 a) (hle : val 4294967296 a ≤ val 4294967296 b) : wv (!neg) xs = wv neg a + wv (!neg) b := by unfold wv; cases neg <;> simp <;> omega

set_option maxHeartbeats 800000 in
theorem whole_plus_same (neg : Bool) (a b : List Nat) (A A' : Option Addr) (ca cb : Nat) (w : World) (h : Rd w (fun g => g < w.heap.size) .u32 A a) (h' : Rd w (fun g => g < w.heap.size) .u32 A' b) (hl : a.length ≤ 1073741824) (hl' : b.length ≤ 1073741824) (hc : a.length ≤ ca) (hc' : b.length ≤ cb) (ha : Dg 4294967296 a) (hb : Dg 4294967296 b) :
    Calls Tryz.prog 176 #[.bool neg, .slice A a.length ca, .bool neg, .slice A' b.length cb] w (GivesW (wv neg a + wv neg b) w) := by
  obtain ⟨N, hN⟩ : ∃ N, wv neg a + wv neg b = N := ⟨_, rfl⟩
  rw [hN]
  have HE := Lib.hid hN
  clear hN
  have B0 := below_new w (.cells #[.bool false, .slice none 0 0] 37)
  have ct := nat_Add a b A A' ca cb _ _ _ (h.on B0) (h'.on B0) (fun g hg => hg) (fun g hg => hg) (by omega) (by omega) hc hc' ha hb
  cases neg
  all_goals
    go_enter Tryz.func176, Tryz.ntmps176
    go_wp2_with fail
    refine ct.mono ?_
    rintro e w1 ⟨A1, xs, c1, rfl, hc1, hn1, hv1, hr1, hb1⟩
    have HN := Lib.hid hn1
    have HV := Lib.hid ((wv_add _ hv1).trans HE.out)
    clear hn1 hv1 ct
    go_wp2_with fail
    refine (whole_own _ xs A1 c1 N _ HN.out HV.out).mono ?_
    rintro e w2 ⟨rfl, hb2⟩
    have b2 := hb1.trans (hb2.mono hb1.size)
    obtain ⟨f0, f1, f2, f3⟩ := new_whole w b2
    go_wp2_with fail
    obtain ⟨r0, r1, r2, r3⟩ := stored_whole f0 (.bool (decide (N < 0))) (.slice A1 xs.length c1)
    exact bodyPost_ret (v := .agg #[.bool (decide (N < 0)), .slice A1 xs.length c1]) (by simp [results, Tryz.results176, go_sem, r0, r1]) rfl
      (gives_stored f0 (B0.trans (b2.mono B0.size)) (Nat.le_refl _) hc1 HN.out (abs_of HV.out) (hr1.on hb2) _ _)

set_option maxHeartbeats 800000 in
theorem whole_plus_other (neg : Bool) (a b : List Nat) (A A' : Option Addr) (ca cb : Nat) (w : World) (h : Rd w (fun g => g < w.heap.size) .u32 A a) (h' : Rd w (fun g => g < w.heap.size) .u32 A' b) (hl : a.length ≤ 1073741824) (hl' : b.length ≤ 1073741824) (hc : a.length ≤ ca) (hc' : b.length ≤ cb) (ha : Dg 4294967296 a) (hb : Dg 4294967296 b) :
    Calls Tryz.prog 176 #[.bool neg, .slice A a.length ca, .bool (!neg), .slice A' b.length cb] w (GivesW (wv neg a + wv (!neg) b) w) := by
  obtain ⟨N, hN⟩ : ∃ N, wv neg a + wv (!neg) b = N := ⟨_, rfl⟩
  rw [hN]
  have HE := Lib.hid hN
  clear hN
  have B0 := below_new w (.cells #[.bool false, .slice none 0 0] 37)
  have ct := nat_Sub a b A A' ca cb _ _ _ (h.on B0) (h'.on B0) (fun g hg => hg) (fun g hg => hg) (by omega) (by omega) hc hc' ha hb
  by_cases hle : val 4294967296 b ≤ val 4294967296 a
  · have HL := Lib.hid hle
    rw [decide_eq_true hle] at ct
    clear hle
    cases neg
    all_goals
      go_enter Tryz.func176, Tryz.ntmps176
      go_wp2_with fail
      refine ct.mono ?_
      rintro e w1 ⟨A1, xs, c1, rfl, hc1, hn1, hv1, hr1, hb1⟩
      have HN := Lib.hid hn1
      have HV := Lib.hid ((wv_sub _ hv1 HL.out).trans HE.out)
      clear hn1 hv1 ct
      go_wp2_with fail
      refine (whole_own _ xs A1 c1 N _ HN.out HV.out).mono ?_
      rintro e w2 ⟨rfl, hb2⟩
      have b2 := hb1.trans (hb2.mono hb1.size)
      obtain ⟨f0, f1, f2, f3⟩ := new_whole w b2
      go_wp2_with fail
      obtain ⟨r0, r1, r2, r3⟩ := stored_whole f0 (.bool (decide (N < 0))) (.slice A1 xs.length c1)
      exact bodyPost_ret (v := .agg #[.bool (decide (N < 0)), .slice A1 xs.length c1]) (by simp [results, Tryz.results176, go_sem, r0, r1]) rfl
        (gives_stored f0 (B0.trans (b2.mono B0.size)) (Nat.le_refl _) hc1 HN.out (abs_of HV.out) (hr1.on hb2) _ _)
  · have HL := Lib.hid (show val 4294967296 a ≤ val 4294967296 b by omega)
    rw [decide_eq_false hle] at ct
    clear hle
    cases neg
    all_goals
      go_enter Tryz.func176, Tryz.ntmps176
      go_wp2_with fail
      refine ct.mono ?_
      rintro e w0 ⟨A0, ys, c0, rfl, hc0, -, -, -, hb0⟩
      have B1 := B0.trans (hb0.mono B0.size)
      have ct := nat_Sub b a A' A cb ca _ _ _ (h'.on B1) (h.on B1) (fun g hg => hg) (fun g hg => hg) (by omega) (by omega) hc' hc hb ha
      rw [decide_eq_true HL.out] at ct
      go_wp2_with fail
      refine ct.mono ?_
      rintro e w1 ⟨A1, xs, c1, rfl, hc1, hn1, hv1, hr1, hb1⟩
      have HN := Lib.hid hn1
      have HV := Lib.hid ((wv_sub' _ hv1 HL.out).trans HE.out)
      clear hn1 hv1 ct
      go_wp2_with fail
      refine (whole_own _ xs A1 c1 N _ HN.out HV.out).mono ?_
      rintro e w2 ⟨rfl, hb2⟩
      have b2 := hb0.trans ((hb1.trans (hb2.mono hb1.size)).mono hb0.size)
      obtain ⟨f0, f1, f2, f3⟩ := new_whole w b2
      go_wp2_with fail
      obtain ⟨r0, r1, r2, r3⟩ := stored_whole f0 (.bool (decide (N < 0))) (.slice A1 xs.length c1)
      exact bodyPost_ret (v := .agg #[.bool (decide (N < 0)), .slice A1 xs.length c1]) (by simp [results, Tryz.results176, go_sem, r0, r1]) rfl
        (gives_stored f0 (B0.trans (b2.mono B0.size)) (Nat.le_refl _) hc1 HN.out (abs_of HV.out) (hr1.on hb2) _ _)

theorem whole_plus (n1 n2 : Bool) (a b : List Nat) (A A' : Option Addr) (ca cb : Nat) (w : World) (h : Rd w (fun g => g < w.heap.size) .u32 A a) (h' : Rd w (fun g => g < w.heap.size) .u32 A' b) (hl : a.length ≤ 1073741824) (hl' : b.length ≤ 1073741824) (hc : a.length ≤ ca) (hc' : b.length ≤ cb) (ha : Dg 4294967296 a) (hb : Dg 4294967296 b) :
    Calls Tryz.prog 176 #[.bool n1, .slice A a.length ca, .bool n2, .slice A' b.length cb] w (GivesW (wv n1 a + wv n2 b) w) := by
  by_cases e : n2 = n1
  · subst e; exact whole_plus_same n2 a b A A' ca cb w h h' hl hl' hc hc' ha hb
  · obtain rfl : n2 = !n1 := by cases n1 <;> cases n2 <;> simp_all
    exact whole_plus_other n1 a b A A' ca cb w h h' hl hl' hc hc' ha hb
end Go.Proofs.YtdmoibphidipeaaGreatDoor
/- Whole numbers: what Add, Sub, Neg, Mul answer. -/

namespace Go.Proofs.YtdmoibphidipeaaGreatDoor
open Go.RowKit Num

theorem new_whole_at (W : World) {w2 : World} (g : Nat) (hg : g = W.heap.size) (h : Below (W.alloc (.cells #[.bool false, .slice none 0 0] 37)).heap.size (W.alloc (.cells #[.bool false, .slice none 0 0] 37)) w2) :
    w2.heap[g]? = some (.cells #[.bool false, .slice none 0 0] 37 (0, 0)) ∧ w2.cell? ⟨g, 0, none⟩ = some (.bool false) ∧ w2.cell? ⟨g, 1, none⟩ = some (.slice none 0 0) ∧ (∀ i, w2.frozen? ⟨g, i, none⟩ = false) := by
  subst hg; exact new_whole W h
theorem below_new2 (w : World) (o o' : Obj) : Below w.heap.size w ((w.alloc o).alloc o') := (below_new _ _).trans ((below_new _ _).mono (by simp))
theorem below_new3 (w : World) (o o' o'' : Obj) : Below w.heap.size w (((w.alloc o).alloc o').alloc o'') := (below_new2 _ _ _).trans ((below_new _ _).mono (by simp; omega))

set_option maxHeartbeats 800000 in
theorem whole_Add (n1 n2 : Bool) (a b : List Nat) (A A' : Option Addr) (ca cb : Nat) (w : World) (h : Rd w (fun g => g < w.heap.size) .u32 A a) (h' : Rd w (fun g => g < w.heap.size) .u32 A' b) (hl : a.length ≤ 1073741824) (hl' : b.length ≤ 1073741824) (hc : a.length ≤ ca) (hc' : b.length ≤ cb) (ha : Dg 4294967296 a) (hb : Dg 4294967296 b) :
    Calls Tryz.prog 233 #[.agg #[.bool n1, .slice A a.length ca], .agg #[.bool n2, .slice A' b.length cb]] w (GivesW (wv n1 a + wv n2 b) w) := by
  obtain ⟨N, hN⟩ : ∃ N, wv n1 a + wv n2 b = N := ⟨_, rfl⟩
  have B0 := below_new3 w (.cells #[.bool n1, .slice A a.length ca] 37) (.cells #[.bool n2, .slice A' b.length cb] 37) (.cells #[.bool false, .slice none 0 0] 37)
  have ct := whole_plus n1 n2 a b A A' ca cb _ (h.on B0) (h'.on B0) hl hl' hc hc' ha hb
  rw [hN] at ct
  rw [hN]
  clear hN
  go_enter Tryz.func233, Tryz.ntmps233
  go_wp2_with fail
  refine ct.mono ?_
  rintro e w2 ⟨A1, xs, c1, rfl, hc1, hn1, hv1, hr1, b2⟩
  have HN := Lib.hid hn1
  have HV := Lib.hid hv1
  clear hn1 hv1 ct
  obtain ⟨f0, f1, f2, f3⟩ := new_whole_at _ (w.heap.size + 1 + 1) (by simp) b2
  go_wp2_with fail
  obtain ⟨r0, r1, r2, r3⟩ := stored_whole f0 (.bool (decide (N < 0))) (.slice A1 xs.length c1)
  exact bodyPost_ret (v := .agg #[.bool (decide (N < 0)), .slice A1 xs.length c1]) (by simp [results, Tryz.results233, go_sem, r0, r1]) rfl
    (gives_stored f0 (B0.trans (b2.mono B0.size)) (by omega) hc1 HN.out HV.out hr1 _ _)

set_option maxHeartbeats 800000 in
theorem whole_Neg (n1 : Bool) (a : List Nat) (A : Option Addr) (ca : Nat) (w : World) (h : Rd w (fun g => g < w.heap.size) .u32 A a) (hl : a.length ≤ 1073741824) (hc : a.length ≤ ca) (ha : Dg 4294967296 a) :
    Calls Tryz.prog 249 #[.agg #[.bool n1, .slice A a.length ca]] w (GivesW (- wv n1 a) w) := by
  have B0 := below_new2 w (.cells #[.bool n1, .slice A a.length ca] 37) (.cells #[.bool false, .slice none 0 0] 37)
  have ct := whole_Make (!n1) a A ca _ _ (h.on B0) (by omega) hc ha rfl
  obtain ⟨N, hN⟩ : ∃ N, - wv n1 a = N := ⟨_, rfl⟩
  rw [wv_not, hN] at ct
  rw [hN]
  clear hN
  go_enter Tryz.func249, Tryz.ntmps249
  go_wp2_with fail
  refine ct.mono ?_
  rintro e w2 ⟨A1, xs, c1, rfl, hc1, hn1, hv1, hr1, b2⟩
  have HN := Lib.hid hn1
  have HV := Lib.hid hv1
  clear hn1 hv1 ct
  obtain ⟨f0, f1, f2, f3⟩ := new_whole_at _ (w.heap.size + 1) (by simp) b2
  go_wp2_with fail
  obtain ⟨r0, r1, r2, r3⟩ := stored_whole f0 (.bool (decide (N < 0))) (.slice A1 xs.length c1)
  exact bodyPost_ret (v := .agg #[.bool (decide (N < 0)), .slice A1 xs.length c1]) (by simp [results, Tryz.results249, go_sem, r0, r1]) rfl
    (gives_stored f0 (B0.trans (b2.mono B0.size)) (by omega) hc1 HN.out HV.out hr1 _ _)

theorem wv_mul (n1 n2 : Bool) {xs a b : List Nat} (h : val 4294967296 xs = val 4294967296 a * val 4294967296 b) : wv (n1 != n2) xs = wv n1 a * wv n2 b := by
  unfold wv; rw [h]; cases n1 <;> cases n2 <;> simp [Int.neg_mul, Int.mul_neg]

/-- two arguments in their boxes, and the result's place -/
theorem boxes2 (w : World) (x y p q : Value) (t t' : TypeId) : ∃ W, ((w.alloc (.cells #[x, y] t)).alloc (.cells #[p, q] t)).alloc (.cells #[.bool false, .slice none 0 0] t') = W ∧
    W.cell? ⟨w.heap.size, 0, none⟩ = some x ∧ W.cell? ⟨w.heap.size, 1, none⟩ = some y ∧ W.cell? ⟨w.heap.size + 1, 0, none⟩ = some p ∧ W.cell? ⟨w.heap.size + 1, 1, none⟩ = some q ∧
    W.heap[w.heap.size + 1 + 1]? = some (.cells #[.bool false, .slice none 0 0] t' (0, 0)) ∧ W.heap.size = w.heap.size + 3 ∧ Below w.heap.size w W := by
  have s1 : ∀ (u : World) (o : Obj), (u.alloc o).heap.size = u.heap.size + 1 := fun u o => by simp
  have e1 : (((w.alloc (.cells #[x, y] t)).alloc (.cells #[p, q] t)).alloc (.cells #[.bool false, .slice none 0 0] t')).heap[w.heap.size]? = some (.cells #[x, y] t (0, 0)) := by
    rw [Below.heap_alloc _ _ _ (by rw [s1, s1]; omega), Below.heap_alloc _ _ _ (by rw [s1]; omega)]
    exact heap_alloc_new w _
  have e2 : (((w.alloc (.cells #[x, y] t)).alloc (.cells #[p, q] t)).alloc (.cells #[.bool false, .slice none 0 0] t')).heap[w.heap.size + 1]? = some (.cells #[p, q] t (0, 0)) := by
    rw [Below.heap_alloc _ _ _ (by rw [s1, s1]; omega), ← s1 w (.cells #[x, y] t)]
    exact heap_alloc_new _ _
  have e3 : (((w.alloc (.cells #[x, y] t)).alloc (.cells #[p, q] t)).alloc (.cells #[.bool false, .slice none 0 0] t')).heap[w.heap.size + 1 + 1]? = some (.cells #[.bool false, .slice none 0 0] t' (0, 0)) := by
    rw [← s1 w (.cells #[x, y] t), ← s1 (w.alloc (.cells #[x, y] t)) (.cells #[p, q] t)]
    exact heap_alloc_new _ _
  exact ⟨_, rfl, by rw [cell_of_row _ _ _ _ _ _ e1]; rfl, by rw [cell_of_row _ _ _ _ _ _ e1]; rfl, by rw [cell_of_row _ _ _ _ _ _ e2]; rfl, by rw [cell_of_row _ _ _ _ _ _ e2]; rfl, e3, by rw [s1, s1, s1], below_new3 _ _ _ _⟩

theorem lower {W w1 : World} {g : Nat} (k6 : W.heap.size = g + 3) (hb : Below W.drew.heap.size W.drew w1) : Below (g + 1 + 1) W w1 := by
  have hs : W.drew.heap.size = g + 3 := k6
  exact Below.trans (below_drewN (Below.refl _ _) 1) (hb.mono (by rw [hs]; omega))
theorem cells4 {W w1 : World} {g : Nat} {x y p q : Value} (k1 : W.cell? ⟨g, 0, none⟩ = some x) (k2 : W.cell? ⟨g, 1, none⟩ = some y) (k3 : W.cell? ⟨g + 1, 0, none⟩ = some p) (k4 : W.cell? ⟨g + 1, 1, none⟩ = some q) (hb : Below (g + 1 + 1) W w1) :
    w1.cell? ⟨g, 0, none⟩ = some x ∧ w1.cell? ⟨g, 1, none⟩ = some y ∧ w1.cell? ⟨g + 1, 0, none⟩ = some p ∧ w1.cell? ⟨g + 1, 1, none⟩ = some q :=
  ⟨(hb.cell (p := ⟨g, 0, none⟩) (show g < g + 1 + 1 by omega)).trans k1, (hb.cell (p := ⟨g, 1, none⟩) (show g < g + 1 + 1 by omega)).trans k2, (hb.cell (p := ⟨g + 1, 0, none⟩) (show g + 1 < g + 1 + 1 by omega)).trans k3, (hb.cell (p := ⟨g + 1, 1, none⟩) (show g + 1 < g + 1 + 1 by omega)).trans k4⟩
/-- the result's place, with its cells, behind calls -/
theorem place2 {W w1 : World} {g : Nat} {t : TypeId} (k5 : W.heap[g + 1 + 1]? = some (.cells #[.bool false, .slice none 0 0] t (0, 0))) (k6 : W.heap.size = g + 3) (hb : Below W.drew.heap.size W.drew w1) :
    w1.heap[g + 1 + 1]? = some (.cells #[.bool false, .slice none 0 0] t (0, 0)) ∧ w1.cell? ⟨g + 1 + 1, 0, none⟩ = some (.bool false) ∧ w1.cell? ⟨g + 1 + 1, 1, none⟩ = some (.slice none 0 0) ∧ (∀ i, w1.frozen? ⟨g + 1 + 1, i, none⟩ = false) := by
  have hs : W.drew.heap.size = g + 3 := k6
  have h := (hb.block (g + 1 + 1) (by rw [hs]; omega)).trans k5
  exact ⟨h, by rw [cell_of_row _ _ _ _ _ _ h]; rfl, by rw [cell_of_row _ _ _ _ _ _ h]; rfl, fun i => frozen_of_row _ _ i _ _ h⟩

set_option maxHeartbeats 1600000 in
theorem whole_Mul (n1 n2 : Bool) (a b : List Nat) (A A' : Option Addr) (ca cb : Nat) (w : World) (h : Rd w (fun g => g < w.heap.size) .u32 A a) (h' : Rd w (fun g => g < w.heap.size) .u32 A' b) (hl : a.length ≤ 1073741824) (hl' : b.length ≤ 1073741824) (hc : a.length ≤ ca) (hc' : b.length ≤ cb) (ha : Dg 4294967296 a) (hb : Dg 4294967296 b) :
    Calls Tryz.prog 110 #[.agg #[.bool n1, .slice A a.length ca], .agg #[.bool n2, .slice A' b.length cb]] w (GivesW (wv n1 a * wv n2 b) w) := by
  obtain ⟨N, hN⟩ : ∃ N, wv n1 a * wv n2 b = N := ⟨_, rfl⟩
  have B0 := below_new3 w (.cells #[.bool n1, .slice A a.length ca] 37) (.cells #[.bool n2, .slice A' b.length cb] 37) (.cells #[.bool false, .slice none 0 0] 37)
  rw [hN]
  have HE := Lib.hid hN
  clear hN
  obtain ⟨W, hW, k1, k2, k3, k4, k5, k6, k7⟩ := boxes2 w (.bool n1) (.slice A a.length ca) (.bool n2) (.slice A' b.length cb) 37 37
  have cM : Calls Tryz.prog 148 #[.slice A a.length ca, .slice A' b.length cb] W.drew (Gives .u32 4294967296 (val 4294967296 a * val 4294967296 b) W.drew) :=
    nat_Mul a b A A' ca cb _ _ _ (h.on (below_drewN k7 1)) (h'.on (below_drewN k7 1)) (fun g hg => hg) (fun g hg => hg) hl hl' hc hc' ha hb
  go_enter Tryz.func110, Tryz.ntmps110
  go_wp2_with fail
  try rw [hW]
  clear hW B0
  go_region_held3 (fun w' => w'.cell? ⟨w.heap.size, 0, none⟩ = some (.bool n1) ∧ w'.cell? ⟨w.heap.size, 1, none⟩ = some (.slice A a.length ca) ∧ w'.cell? ⟨w.heap.size + 1, 0, none⟩ = some (.bool n2) ∧ w'.cell? ⟨w.heap.size + 1, 1, none⟩ = some (.slice A' b.length cb))
    (first | exact cells4 k1 k2 k3 k4 (lower k6 hb1) | exact cells4 k1 k2 k3 k4 (lower k6 (hb1.trans (hb2.mono hb1.size))) | exact cells4 k1 k2 k3 k4 ((lower k6 (hb1.trans (hb2.mono hb1.size))).trans ((stored_whole f0 _ _).2.2.2 _ (Nat.le_refl _))) | go_keep)
    ((first
      | (go_at_call 148; (with_reducible refine Calls.mono cM ?_); rintro e w1 ⟨A1, xs, c1, rfl, hc1, hn1, hv1, hr1, hb1⟩)
      | (go_at_call 147; (with_reducible refine Calls.mono (whole_own _ _ _ _ N _ hn1 ?_) ?_) <;> first | exact (wv_mul _ _ hv1).trans HE.out | (rintro e w2 ⟨rfl, hb2⟩; obtain ⟨f0, f1, f2, f3⟩ := place2 k5 k6 (hb1.trans (hb2.mono hb1.size))))))
  have HN := Lib.hid hn1
  have HV := Lib.hid ((wv_mul n1 n2 hv1).trans HE.out)
  have b2 := hb1.trans (hb2.mono hb1.size)
  clear hn1 hv1 cM
  obtain ⟨r0, r1, r2, r3⟩ := stored_whole f0 (.bool (decide (N < 0))) (.slice A1 xs.length c1)
  go_wp2_with fail
  exact bodyPost_ret (v := .agg #[.bool (decide (N < 0)), .slice A1 xs.length c1]) (by simp [results, Tryz.results110, go_sem, r0, r1]) rfl
    (gives_stored f0 ((below_drewN k7 1).trans (b2.mono (below_drewN k7 1).size)) (by omega) hc1 HN.out (abs_of HV.out) (hr1.on hb2) _ _)
end Go.Proofs.YtdmoibphidipeaaGreatDoor
/- Whole numbers: what hold, Sign, Cmp answer. -/

namespace Go.Proofs.YtdmoibphidipeaaGreatDoor
open Go.RowKit Num

theorem isBits_some (N : Nat) : ∃ n, IsBits N n := by
  rcases Nat.eq_zero_or_pos N with h | h
  · subst h; exact ⟨0, by simp [IsBits]⟩
  · exact ⟨N.log2 + 1, Nat.lt_log2_self, .inr (by simpa using Nat.log2_self_le (by omega))⟩
theorem isBits_zero_iff {N n : Nat} (h : IsBits N n) : n = 0 ↔ N = 0 := by
  constructor
  · intro h0; subst h0; have := h.1; omega
  · intro h0
    subst h0
    rcases h.2 with h1 | h1
    · exact h1
    · have : 0 < 2 ^ (n - 1) := Nat.pow_pos (by omega)
      omega
theorem nat_Bits_at (d : List Nat) (A : Option Addr) (c n : Nat) (w : World) (h : Rd w (fun g => g < w.heap.size) .u32 A d) (hl : d.length ≤ 1073741824) (hc : d.length ≤ c) (hd : Dg 4294967296 d) (hn : IsBits (val 4294967296 d) n) :
    Calls Tryz.prog 144 #[.slice A d.length c] w fun e w' => e = .returned (.int .i64 n) ∧ w = w' := by
  refine (nat_Bits d A c _ w h hl hc hd).mono ?_
  rintro e w' ⟨m, rfl, hm, -, rfl⟩
  obtain rfl := hm.unique hn
  exact ⟨rfl, rfl⟩

/-- an argument in its box, and the result's place -/
theorem boxes1 (w : World) (x y : Value) (t t' : TypeId) : ∃ W, (w.alloc (.cells #[x, y] t)).alloc (.cells #[.bool false, .slice none 0 0] t') = W ∧
    W.cell? ⟨w.heap.size, 0, none⟩ = some x ∧ W.cell? ⟨w.heap.size, 1, none⟩ = some y ∧
    W.heap[w.heap.size + 1]? = some (.cells #[.bool false, .slice none 0 0] t' (0, 0)) ∧ W.heap.size = w.heap.size + 2 ∧ Below w.heap.size w W := by
  have s1 : ∀ (u : World) (o : Obj), (u.alloc o).heap.size = u.heap.size + 1 := fun u o => by simp
  have e1 : ((w.alloc (.cells #[x, y] t)).alloc (.cells #[.bool false, .slice none 0 0] t')).heap[w.heap.size]? = some (.cells #[x, y] t (0, 0)) := by
    rw [Below.heap_alloc _ _ _ (by rw [s1]; omega)]
    exact heap_alloc_new w _
  have e3 : ((w.alloc (.cells #[x, y] t)).alloc (.cells #[.bool false, .slice none 0 0] t')).heap[w.heap.size + 1]? = some (.cells #[.bool false, .slice none 0 0] t' (0, 0)) := by
    rw [← s1 w (.cells #[x, y] t)]
    exact heap_alloc_new _ _
  exact ⟨_, rfl, by rw [cell_of_row _ _ _ _ _ _ e1]; rfl, by rw [cell_of_row _ _ _ _ _ _ e1]; rfl, e3, by rw [s1, s1], below_new2 _ _ _⟩
/-- a place's cells -/
theorem cells_of {w1 : World} {g : Nat} {x y : Value} {t : TypeId} (h : w1.heap[g]? = some (.cells #[x, y] t (0, 0))) :
    w1.cell? ⟨g, 0, none⟩ = some x ∧ w1.cell? ⟨g, 1, none⟩ = some y ∧ w1.frozen? ⟨g, 0, none⟩ = false ∧ w1.frozen? ⟨g, 1, none⟩ = false :=
  ⟨by rw [cell_of_row _ _ _ _ _ _ h]; rfl, by rw [cell_of_row _ _ _ _ _ _ h]; rfl, frozen_of_row _ _ _ _ _ h, frozen_of_row _ _ _ _ _ h⟩

set_option maxRecDepth 10000 in
set_option maxHeartbeats 1600000 in
/-- hold: a sign that counts -/
theorem whole_hold (n1 : Bool) (a : List Nat) (A : Option Addr) (ca : Nat) (w : World) (h : Rd w (fun g => g < w.heap.size) .u32 A a) (hl : a.length ≤ 1073741824) (hc : a.length ≤ ca) (ha : Dg 4294967296 a) :
    Calls Tryz.prog 136 #[.agg #[.bool n1, .slice A a.length ca]] w fun e w' => e = .returned (.agg #[.bool (decide (wv n1 a < 0)), .slice A a.length ca]) ∧ Below w.heap.size w w' := by
  obtain ⟨n, hn⟩ := isBits_some (val 4294967296 a)
  have hz := isBits_zero_iff hn
  obtain ⟨W, hW, k1, k2, k5, k6, k7⟩ := boxes1 w (.bool n1) (.slice A a.length ca) 37 135
  obtain ⟨z, hzn⟩ : ∃ z : Int, z = n := ⟨_, rfl⟩
  have cB : Calls Tryz.prog 144 #[.slice A a.length ca] W.drew fun e w' => e = .returned (.int .i64 z) ∧ w' = W.drew := by
    rw [hzn]
    exact (nat_Bits_at a A ca n W.drew (h.on (below_drewN k7 1)) hl hc ha hn).mono fun e w' hh => ⟨hh.1, hh.2.symm⟩
  obtain ⟨f0, f1, f2, f3⟩ := cells_of k5
  have k7 : Below w.heap.size w W.drew := below_drewN k7 1
  cases n1
  · have HD := Lib.hid (show decide (wv false a < 0) = false by simp [wv])
    rw [HD.out]
    clear hz hn cB
    go_enter Tryz.func136, Tryz.ntmps136
    go_wp2_with fail
    try rw [hW]
    clear hW
    go_still_tail 11, (by kernel_rfl)
    change wpList _ _ _ _ _ W.drew
    obtain ⟨f0, f1, f2, f3⟩ := cells_of (w1 := W.drew) k5
    obtain ⟨r0, r1, r2, r3⟩ := stored_whole (w := W.drew) k5 (.bool false) (.slice A a.length ca)
    generalize W.drew = w2 at *
    go_wp2_with fail
    exact bodyPost_ret (v := .agg #[.bool false, .slice A a.length ca]) (by simp [results, Tryz.results136, go_sem, r0, r1]) rfl
      ⟨rfl, k7.trans (r3 w.heap.size (by omega))⟩
  · have HD := Lib.hid (show decide (wv true a < 0) = decide (0 < z) by simp [wv]; omega)
    rw [HD.out]
    have hz0 : z = 0 ∨ 0 < z := by omega
    clear hz hn hzn
    rcases hz0 with rfl | h0
    all_goals
      go_enter Tryz.func136, Tryz.ntmps136
      go_wp2_with fail
      try rw [hW]
      clear hW
      go_still_tail 11, (by kernel_rfl)
      still_call cB
      repeat still_step
      try refine wpStill_nil ?_
      clear cB
      change wpList _ _ _ _ _ W.drew
      obtain ⟨f0, f1, f2, f3⟩ := cells_of (w1 := W.drew) k5
    · obtain ⟨r0, r1, r2, r3⟩ := stored_whole (w := W.drew) k5 (.bool false) (.slice A a.length ca)
      generalize W.drew = w2 at *
      go_wp2_with fail
      exact bodyPost_ret (v := .agg #[.bool false, .slice A a.length ca]) (by simp [results, Tryz.results136, go_sem, r0, r1]) rfl
        ⟨rfl, k7.trans (r3 w.heap.size (by omega))⟩
    · obtain ⟨r0, r1, r2, r3⟩ := stored_whole (w := W.drew) k5 (.bool true) (.slice A a.length ca)
      generalize W.drew = w2 at *
      go_wp2_with fail
      exact bodyPost_ret (v := .agg #[.bool true, .slice A a.length ca]) (by simp [results, Tryz.results136, go_sem, r0, r1]) rfl
        ⟨by simp [h0], k7.trans (r3 w.heap.size (by omega))⟩

def sgn (N : Int) : Int := if N < 0 then -1 else if 0 < N then 1 else 0

set_option maxRecDepth 10000 in
set_option maxHeartbeats 1600000 in
theorem whole_Sign (n1 : Bool) (a : List Nat) (A : Option Addr) (ca : Nat) (w : World) (h : Rd w (fun g => g < w.heap.size) .u32 A a) (hl : a.length ≤ 1073741824) (hc : a.length ≤ ca) (ha : Dg 4294967296 a) :
    Calls Tryz.prog 200 #[.agg #[.bool n1, .slice A a.length ca]] w fun e w' => e = .returned (.int .i64 (sgn (wv n1 a))) ∧ Below w.heap.size w w' := by
  obtain ⟨n, hn⟩ := isBits_some (val 4294967296 a)
  have hz := isBits_zero_iff hn
  have B0 := below_new w (.cells #[.bool n1, .slice A a.length ca] 37)
  have cH := whole_hold n1 a A ca _ (h.on B0) hl hc ha
  by_cases hneg : wv n1 a < 0
  · have HS := Lib.hid (show sgn (wv n1 a) = -1 by simp [sgn, hneg])
    rw [HS.out]
    rw [decide_eq_true hneg] at cH
    clear hz hn hneg
    go_enter Tryz.func200, Tryz.ntmps200
    go_wp2_with fail
    refine cH.mono ?_
    rintro e w1 ⟨rfl, b1⟩
    clear cH
    go_wp2_with fail
    go_ret
    exact ⟨rfl, B0.trans ((b1.trans ((below_new _ _).mono b1.size)).mono B0.size)⟩
  · obtain ⟨z, hzn⟩ : ∃ z : Int, z = n := ⟨_, rfl⟩
    have hab := wv_abs n1 a
    have cB : ∀ W, Below w.heap.size w W → Calls Tryz.prog 144 #[.slice A a.length ca] W fun e w' => e = .returned (.int .i64 z) ∧ W = w' := fun W hW => by
      rw [hzn]
      exact nat_Bits_at a A ca n W (h.on hW) hl hc ha hn
    rw [decide_eq_false hneg] at cH
    have hz0 : (z = 0 ∧ sgn (wv n1 a) = 0) ∨ (0 < z ∧ sgn (wv n1 a) = 1) := by
      unfold sgn
      rw [if_neg hneg]
      rcases Nat.eq_zero_or_pos n with h0 | h0
      · exact .inl ⟨by omega, if_neg (by omega)⟩
      · exact .inr ⟨by omega, if_pos (by omega)⟩
    clear hz hn hneg hzn hab
    rcases hz0 with ⟨rfl, hs⟩ | ⟨h0, hs⟩
    all_goals
      rw [hs]
      clear hs
      have HB := Lib.hid cB
      clear cB
      go_enter Tryz.func200, Tryz.ntmps200
      go_wp2_with fail
      refine cH.mono ?_
      rintro e w1 ⟨rfl, b1⟩
      clear cH
      have B1 := B0.trans (b1.mono B0.size)
      have B2 := B1.trans ((below_new w1 (.cells #[.bool false, .slice A a.length ca] 135)).mono B1.size)
      go_wp2_with fail
      refine (HB.out _ B2).mono ?_
      rintro e w2 ⟨rfl, rfl⟩
      go_wp2_with fail
      go_ret
      exact ⟨rfl, B2⟩
end Go.Proofs.YtdmoibphidipeaaGreatDoor
/- Whole numbers: what Cmp answers. -/

namespace Go.Proofs.YtdmoibphidipeaaGreatDoor
open Go.RowKit Num

/-- two arguments in their boxes -/
theorem boxes20 (w : World) (x y p q : Value) (t : TypeId) : ∃ W, ((w.alloc (.cells #[x, y] t)).alloc (.cells #[p, q] t)) = W ∧
    W.cell? ⟨w.heap.size, 0, none⟩ = some x ∧ W.cell? ⟨w.heap.size, 1, none⟩ = some y ∧ W.cell? ⟨w.heap.size + 1, 0, none⟩ = some p ∧ W.cell? ⟨w.heap.size + 1, 1, none⟩ = some q ∧
    W.heap.size = w.heap.size + 2 ∧ Below w.heap.size w W := by
  have s1 : ∀ (u : World) (o : Obj), (u.alloc o).heap.size = u.heap.size + 1 := fun u o => by simp
  have e1 : ((w.alloc (.cells #[x, y] t)).alloc (.cells #[p, q] t)).heap[w.heap.size]? = some (.cells #[x, y] t (0, 0)) := by
    rw [Below.heap_alloc _ _ _ (by rw [s1]; omega)]
    exact heap_alloc_new w _
  have e3 : ((w.alloc (.cells #[x, y] t)).alloc (.cells #[p, q] t)).heap[w.heap.size + 1]? = some (.cells #[p, q] t (0, 0)) := by
    rw [← s1 w (.cells #[x, y] t)]
    exact heap_alloc_new _ _
  exact ⟨_, rfl, by rw [cell_of_row _ _ _ _ _ _ e1]; rfl, by rw [cell_of_row _ _ _ _ _ _ e1]; rfl, by rw [cell_of_row _ _ _ _ _ _ e3]; rfl, by rw [cell_of_row _ _ _ _ _ _ e3]; rfl, by rw [s1, s1], below_new2 _ _ _⟩
theorem low_new2 {B : Nat} {W w2 : World} (h : Below B W w2) (hB : B ≤ w2.heap.size) (o o' : Obj) : Below B W ((w2.alloc o).alloc o') := (h.alloc hB o).alloc (by simp; omega) o'
theorem keep4 {W w1 : World} {g B : Nat} {x y p q : Value} (k1 : W.cell? ⟨g, 0, none⟩ = some x) (k2 : W.cell? ⟨g, 1, none⟩ = some y) (k3 : W.cell? ⟨g + 1, 0, none⟩ = some p) (k4 : W.cell? ⟨g + 1, 1, none⟩ = some q) (hB : g + 2 ≤ B) (hb : Below B W w1) :
    w1.cell? ⟨g, 0, none⟩ = some x ∧ w1.cell? ⟨g, 1, none⟩ = some y ∧ w1.cell? ⟨g + 1, 0, none⟩ = some p ∧ w1.cell? ⟨g + 1, 1, none⟩ = some q :=
  ⟨(hb.cell (p := ⟨g, 0, none⟩) (show g < B by omega)).trans k1, (hb.cell (p := ⟨g, 1, none⟩) (show g < B by omega)).trans k2, (hb.cell (p := ⟨g + 1, 0, none⟩) (show g + 1 < B by omega)).trans k3, (hb.cell (p := ⟨g + 1, 1, none⟩) (show g + 1 < B by omega)).trans k4⟩

theorem seen0 {W w1 : World} (h : Below W.heap.size W w1) : Below W.heap.size W w1 ∧ W.heap.size ≤ w1.heap.size := ⟨h, h.size⟩
theorem seen1 {W w1 : World} {o : Obj} (h : Below (W.alloc o).heap.size (W.alloc o) w1) : (Below W.heap.size W w1 ∧ W.heap.size < w1.heap.size) ∧ w1.heap[W.heap.size]? = some o := by
  have s := h.size
  simp only [World.size_alloc] at s
  exact ⟨⟨(below_new _ _).trans (h.mono (by simp)), by omega⟩, (h.block _ (by simp)).trans (heap_alloc_new W o)⟩
theorem seen2 {W w1 : World} {o o' : Obj} (h : Below ((W.alloc o).alloc o').heap.size ((W.alloc o).alloc o') w1) : (Below W.heap.size W w1 ∧ W.heap.size + 1 < w1.heap.size) ∧ w1.heap[W.heap.size]? = some o ∧ w1.heap[W.heap.size + 1]? = some o' := by
  have s := h.size
  simp only [World.size_alloc] at s
  refine ⟨⟨(below_new2 _ _ _).trans (h.mono (by simp; omega)), by omega⟩, (h.block _ (by simp; omega)).trans ((Below.heap_alloc _ _ _ (by simp)).trans (heap_alloc_new W o)), (h.block _ (by simp)).trans ?_⟩
  rw [← World.size_alloc W o]
  exact heap_alloc_new _ o'

theorem size_alloc_ok {B : Nat} {w : World} (h : B ≤ w.heap.size) (o : Obj) : B ≤ (w.alloc o).heap.size := by simp; omega
theorem size_set_ok {B : Nat} {w : World} (h : B ≤ w.heap.size) (p : Addr) (u : Value) : B ≤ (w.setCell p u).heap.size := by simpa using h
theorem seen0d {W w1 : World} (h : Below W.drew.heap.size W.drew w1) : Below W.heap.size W.drew w1 ∧ W.heap.size ≤ w1.heap.size := seen0 (W := W.drew) h
theorem seen1d {W w1 : World} {o : Obj} (h : Below (W.alloc o).drew.heap.size (W.alloc o).drew w1) : (Below W.heap.size W.drew w1 ∧ W.heap.size < w1.heap.size) ∧ w1.heap[W.heap.size]? = some o := seen1 (W := W.drew) h
theorem seen2d {W w1 : World} {o o' : Obj} (h : Below ((W.alloc o).alloc o').drew.heap.size ((W.alloc o).alloc o').drew w1) : (Below W.heap.size W.drew w1 ∧ W.heap.size + 1 < w1.heap.size) ∧ w1.heap[W.heap.size]? = some o ∧ w1.heap[W.heap.size + 1]? = some o' := seen2 (W := W.drew) h

theorem sgn_cmp {X Y : Int} {x y : Nat} (h : X - Y = (x : Int) - y) : sgn (X - Y) = cmpI x y := by
  rw [h]; unfold sgn cmpI
  by_cases h1 : x < y
  · rw [if_pos (by omega), if_pos h1]
  · rw [if_neg (by omega), if_neg h1]
    by_cases h2 : y < x
    · rw [if_pos (by omega), if_pos h2]
    · rw [if_neg (by omega), if_neg h2]

set_option maxRecDepth 10000 in
set_option maxHeartbeats 1600000 in
theorem whole_Cmp (n1 n2 : Bool) (a b : List Nat) (A A' : Option Addr) (ca cb : Nat) (w : World) (h : Rd w (fun g => g < w.heap.size) .u32 A a) (h' : Rd w (fun g => g < w.heap.size) .u32 A' b) (hl : a.length ≤ 1073741824) (hl' : b.length ≤ 1073741824) (hc : a.length ≤ ca) (hc' : b.length ≤ cb) (ha : Dg 4294967296 a) (hb : Dg 4294967296 b) :
    Calls Tryz.prog 91 #[.agg #[.bool n1, .slice A a.length ca], .agg #[.bool n2, .slice A' b.length cb]] w fun e w' => e = .returned (.int .i64 (sgn (wv n1 a - wv n2 b))) ∧ Below w.heap.size w w' := by
  obtain ⟨W, hW, k1, k2, k3, k4, k5, k6⟩ := boxes20 w (.bool n1) (.slice A a.length ca) (.bool n2) (.slice A' b.length cb) 37
  have hW1 : w.heap.size + 1 < W.heap.size := by omega
  have HW := Lib.hid k5
  clear k5
  go_enter Tryz.func91, Tryz.ntmps91
  go_wp2_with fail
  try rw [hW]
  clear hW
  go_cut [5, 6] from 7 (fun v5 v6 wc => ∃ g5 g6, v5 = .pointer (some ⟨g5, 0, none⟩) ∧ v6 = .pointer (some ⟨g6, 0, none⟩) ∧ wc.cell? ⟨g5, 0, none⟩ = some (.bool (decide (wv n1 a < 0))) ∧ wc.cell? ⟨g5, 1, none⟩ = some (.slice A a.length ca) ∧ wc.cell? ⟨g6, 0, none⟩ = some (.bool (decide (wv n2 b < 0))) ∧ wc.cell? ⟨g6, 1, none⟩ = some (.slice A' b.length cb) ∧ Below w.heap.size w wc)
  case first =>
    go_region_held3 (fun w' => w'.cell? ⟨w.heap.size, 0, none⟩ = some (.bool n1) ∧ w'.cell? ⟨w.heap.size, 1, none⟩ = some (.slice A a.length ca) ∧ w'.cell? ⟨w.heap.size + 1, 0, none⟩ = some (.bool n2) ∧ w'.cell? ⟨w.heap.size + 1, 1, none⟩ = some (.slice A' b.length cb))
      (first | exact keep4 (W := W.drew) k1 k2 k3 k4 hW1 X1 | exact keep4 (W := W.drew) k1 k2 k3 k4 hW1 (X1.trans (X12.mono X1.size)) | (refine keep4 (W := W.drew) k1 k2 k3 k4 hW1 ?_; (repeat (first | refine Below.setCell ?_ (by first | exact Nat.le_refl _ | (dsimp only; omega)) _ | refine Below.alloc ?_ (by repeat (first | omega | refine size_alloc_ok ?_ _ | refine size_set_ok ?_ _ _)) _)); exact X1.trans (X12.mono X1.size)) | go_keep)
      ((first
        | (go_at_call 136; (with_reducible refine Calls.mono (whole_hold n1 a A ca _ ?_ hl hc ha) ?_) <;> first | (refine Num.Rd.on h ?_; first | exact below_drewN k6 1 | exact below_drewN (k6.alloc k6.size _) 1 | exact below_drewN ((k6.alloc k6.size _).alloc (size_alloc_ok k6.size _) _) 1) | (rintro e w1 ⟨rfl, hb1⟩; (first | (guard_hyp hb1 : Below W.drew.heap.size W.drew w1; obtain ⟨X1, s1⟩ := seen0d hb1) | (guard_hyp hb1 : Below (W.alloc (.cells #[.bool false, .slice none 0 0] 135)).drew.heap.size (W.alloc (.cells #[.bool false, .slice none 0 0] 135)).drew w1; obtain ⟨⟨X1, s1⟩, p1⟩ := seen1d hb1; obtain ⟨q0, q1, q2, q3⟩ := cells_of p1) | (obtain ⟨⟨X1, s1⟩, p1, p2⟩ := seen2d hb1; obtain ⟨q0, q1, q2, q3⟩ := cells_of p1; obtain ⟨q4, q5, q6, q7⟩ := cells_of p2)); have K1 : Below w.heap.size w w1 := Below.trans (below_drewN k6 1) (X1.mono k6.size)))
        | (go_at_call 136; (with_reducible refine Calls.mono (whole_hold n2 b A' cb _ ?_ hl' hc' hb) ?_) <;> first | (refine Num.Rd.on h' ?_; first | exact K1 | exact K1.alloc K1.size _ | exact (K1.alloc K1.size _).alloc (size_alloc_ok K1.size _) _) | (rintro e w2 ⟨rfl, hb2⟩; (first | (guard_hyp hb2 : Below w1.heap.size w1 w2; obtain ⟨X12, s2⟩ := seen0 (W := w1) hb2) | (guard_hyp hb2 : Below (w1.alloc (.cells #[.bool false, .slice none 0 0] 135)).heap.size (w1.alloc (.cells #[.bool false, .slice none 0 0] 135)) w2; obtain ⟨⟨X12, s2⟩, p3⟩ := seen1 (W := w1) hb2; obtain ⟨u0, u1, u2, u3⟩ := cells_of p3) | (obtain ⟨⟨X12, s2⟩, p3, p4⟩ := seen2 (W := w1) hb2; obtain ⟨u0, u1, u2, u3⟩ := cells_of p3; obtain ⟨u4, u5, u6, u7⟩ := cells_of p4)); (try have z1 : W.heap.size < w2.heap.size := (by omega)); (try have z2 : W.heap.size + 1 < w2.heap.size := (by omega)); (try have z3 : W.heap.size < w1.heap.size := (by omega)); (try (have r1 := (X12.block _ (by first | exact s1 | exact Nat.lt_of_succ_lt s1)).trans p1; obtain ⟨v0, v1, v2, v3⟩ := cells_of r1)); (try (have r2 := (X12.block _ s1).trans p2; obtain ⟨x0, x1, x2, x3⟩ := cells_of r2))))))
    all_goals
      have K2 : Below w.heap.size w w2 := K1.trans (X12.mono K1.size)
      have HK := Lib.hid K2
      clear K2 K1 X1 X12 hb1 hb2
      go_wp2_with fail
      go_meet
      refine ⟨_, _, rfl, rfl, ?_, ?_, ?_, ?_, ?_⟩
      · go_simp
      · go_simp
      · go_simp
      · go_simp
      · have s0 := HK.out.size
        repeat (first | exact HK.out | refine Below.setCell ?_ (by dsimp only; omega) _ | refine Below.alloc ?_ (by repeat (first | omega | refine size_alloc_ok ?_ _ | refine size_set_ok ?_ _ _)) _)
  case rest =>
    clear hW1 HW k1 k2 k3 k4 k6
    obtain ⟨g5, g6, rfl, rfl, c1, c2, c3, c4, B⟩ := hcut
    have xa := wv_abs n1 a
    have ya := wv_abs n2 b
    have cA := nat_Cmp a b A A' ca cb _ _ wc (h.on B) (h'.on B) hl hl' hc hc' ha hb
    have cB := nat_Cmp b a A' A cb ca _ _ wc (h'.on B) (h.on B) hl' hl hc' hc hb ha
    by_cases hx : wv n1 a < 0 <;> by_cases hy : wv n2 b < 0
    · rw [decide_eq_true hx] at c1
      rw [decide_eq_true hy] at c3
      rw [← sgn_cmp (X := wv n1 a) (Y := wv n2 b) (by omega)] at cB
      clear cA hx hy xa ya
      go_wp2_with fail
      refine cB.mono ?_
      rintro e w3 ⟨rfl, m, hw3⟩
      have B3 : Below w.heap.size w w3 := by rw [hw3]; exact below_drewN B m
      clear hw3 cB
      go_wp2_with fail
      go_ret
      exact ⟨rfl, B3⟩
    · rw [decide_eq_true hx] at c1
      rw [decide_eq_false hy] at c3
      have HS := Lib.hid (show sgn (wv n1 a - wv n2 b) = -1 by unfold sgn; rw [if_pos (by omega)])
      clear cA cB hx hy xa ya
      go_wp2_with fail
      go_ret
      exact ⟨by rw [HS.out]; rfl, B⟩
    · rw [decide_eq_false hx] at c1
      rw [decide_eq_true hy] at c3
      have HS := Lib.hid (show sgn (wv n1 a - wv n2 b) = 1 by unfold sgn; rw [if_neg (by omega), if_pos (by omega)])
      clear cA cB hx hy xa ya
      go_wp2_with fail
      go_ret
      exact ⟨by rw [HS.out]; rfl, B⟩
    · rw [decide_eq_false hx] at c1
      rw [decide_eq_false hy] at c3
      rw [← sgn_cmp (X := wv n1 a) (Y := wv n2 b) (by omega)] at cA
      clear cB hx hy xa ya
      go_wp2_with fail
      refine cA.mono ?_
      rintro e w3 ⟨rfl, m, hw3⟩
      have B3 : Below w.heap.size w w3 := by rw [hw3]; exact below_drewN B m
      clear hw3 cA
      go_wp2_with fail
      go_ret
      exact ⟨rfl, B3⟩
end Go.Proofs.YtdmoibphidipeaaGreatDoor
