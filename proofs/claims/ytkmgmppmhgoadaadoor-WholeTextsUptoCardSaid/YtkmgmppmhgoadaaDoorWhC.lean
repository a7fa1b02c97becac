/- Whole numbers: what Add, Sub, Neg, Mul answer. -/
import Derived.Test.YtkmgmppmhgoadaaDoorWhB
namespace Go.Proofs.YtkmgmppmhgoadaaDoor
open Go.RowKit Num

theorem new_whole_at (W : World) {w2 : World} (g : Nat) (hg : g = W.heap.size) (h : Below (W.alloc (.cells #[.bool false, .slice none 0 0] 24)).heap.size (W.alloc (.cells #[.bool false, .slice none 0 0] 24)) w2) :
    w2.heap[g]? = some (.cells #[.bool false, .slice none 0 0] 24 (0, 0)) ∧ w2.cell? ⟨g, 0, none⟩ = some (.bool false) ∧ w2.cell? ⟨g, 1, none⟩ = some (.slice none 0 0) ∧ (∀ i, w2.frozen? ⟨g, i, none⟩ = false) := by
  subst hg; exact new_whole W h
theorem below_new2 (w : World) (o o' : Obj) : Below w.heap.size w ((w.alloc o).alloc o') := (below_new _ _).trans ((below_new _ _).mono (by simp))
theorem below_new3 (w : World) (o o' o'' : Obj) : Below w.heap.size w (((w.alloc o).alloc o').alloc o'') := (below_new2 _ _ _).trans ((below_new _ _).mono (by simp; omega))

set_option maxHeartbeats 800000 in
theorem whole_Add (n1 n2 : Bool) (a b : List Nat) (A A' : Option Addr) (ca cb : Nat) (w : World) (h : Rd w (fun g => g < w.heap.size) .u32 A a) (h' : Rd w (fun g => g < w.heap.size) .u32 A' b) (hl : a.length ≤ 1073741824) (hl' : b.length ≤ 1073741824) (hc : a.length ≤ ca) (hc' : b.length ≤ cb) (ha : Dg 4294967296 a) (hb : Dg 4294967296 b) :
    Calls Tryd.prog 9 #[.agg #[.bool n1, .slice A a.length ca], .agg #[.bool n2, .slice A' b.length cb]] w (GivesW (wv n1 a + wv n2 b) w) := by
  obtain ⟨N, hN⟩ : ∃ N, wv n1 a + wv n2 b = N := ⟨_, rfl⟩
  have B0 := below_new3 w (.cells #[.bool n1, .slice A a.length ca] 24) (.cells #[.bool n2, .slice A' b.length cb] 24) (.cells #[.bool false, .slice none 0 0] 24)
  have ct := whole_plus n1 n2 a b A A' ca cb _ (h.on B0) (h'.on B0) hl hl' hc hc' ha hb
  rw [hN] at ct
  rw [hN]
  clear hN
  go_enter Tryd.func9, Tryd.ntmps9
  go_wp2_with fail
  refine ct.mono ?_
  rintro e w2 ⟨A1, xs, c1, rfl, hc1, hn1, hv1, hr1, b2⟩
  have HN := Lib.hid hn1
  have HV := Lib.hid hv1
  clear hn1 hv1 ct
  obtain ⟨f0, f1, f2, f3⟩ := new_whole_at _ (w.heap.size + 1 + 1) (by simp) b2
  go_wp2_with fail
  obtain ⟨r0, r1, r2, r3⟩ := stored_whole f0 (.bool (decide (N < 0))) (.slice A1 xs.length c1)
  exact bodyPost_ret (v := .agg #[.bool (decide (N < 0)), .slice A1 xs.length c1]) (by simp [results, Tryd.results9, go_sem, r0, r1]) rfl
    (gives_stored f0 (B0.trans (b2.mono B0.size)) (by omega) hc1 HN.out HV.out hr1 _ _)

set_option maxHeartbeats 800000 in
theorem whole_Sub (n1 n2 : Bool) (a b : List Nat) (A A' : Option Addr) (ca cb : Nat) (w : World) (h : Rd w (fun g => g < w.heap.size) .u32 A a) (h' : Rd w (fun g => g < w.heap.size) .u32 A' b) (hl : a.length ≤ 1073741824) (hl' : b.length ≤ 1073741824) (hc : a.length ≤ ca) (hc' : b.length ≤ cb) (ha : Dg 4294967296 a) (hb : Dg 4294967296 b) :
    Calls Tryd.prog 11 #[.agg #[.bool n1, .slice A a.length ca], .agg #[.bool n2, .slice A' b.length cb]] w (GivesW (wv n1 a - wv n2 b) w) := by
  obtain ⟨N, hN⟩ : ∃ N, wv n1 a - wv n2 b = N := ⟨_, rfl⟩
  have B0 := below_new3 w (.cells #[.bool n1, .slice A a.length ca] 24) (.cells #[.bool n2, .slice A' b.length cb] 24) (.cells #[.bool false, .slice none 0 0] 24)
  have ct := whole_plus n1 (!n2) a b A A' ca cb _ (h.on B0) (h'.on B0) hl hl' hc hc' ha hb
  rw [wv_not, ← Int.sub_eq_add_neg, hN] at ct
  rw [hN]
  clear hN
  go_enter Tryd.func11, Tryd.ntmps11
  go_wp2_with fail
  refine ct.mono ?_
  rintro e w2 ⟨A1, xs, c1, rfl, hc1, hn1, hv1, hr1, b2⟩
  have HN := Lib.hid hn1
  have HV := Lib.hid hv1
  clear hn1 hv1 ct
  obtain ⟨f0, f1, f2, f3⟩ := new_whole_at _ (w.heap.size + 1 + 1) (by simp) b2
  go_wp2_with fail
  obtain ⟨r0, r1, r2, r3⟩ := stored_whole f0 (.bool (decide (N < 0))) (.slice A1 xs.length c1)
  exact bodyPost_ret (v := .agg #[.bool (decide (N < 0)), .slice A1 xs.length c1]) (by simp [results, Tryd.results11, go_sem, r0, r1]) rfl
    (gives_stored f0 (B0.trans (b2.mono B0.size)) (by omega) hc1 HN.out HV.out hr1 _ _)

set_option maxHeartbeats 800000 in
theorem whole_Neg (n1 : Bool) (a : List Nat) (A : Option Addr) (ca : Nat) (w : World) (h : Rd w (fun g => g < w.heap.size) .u32 A a) (hl : a.length ≤ 1073741824) (hc : a.length ≤ ca) (ha : Dg 4294967296 a) :
    Calls Tryd.prog 19 #[.agg #[.bool n1, .slice A a.length ca]] w (GivesW (- wv n1 a) w) := by
  have B0 := below_new2 w (.cells #[.bool n1, .slice A a.length ca] 24) (.cells #[.bool false, .slice none 0 0] 24)
  have ct := whole_Make (!n1) a A ca _ _ (h.on B0) (by omega) hc ha rfl
  obtain ⟨N, hN⟩ : ∃ N, - wv n1 a = N := ⟨_, rfl⟩
  rw [wv_not, hN] at ct
  rw [hN]
  clear hN
  go_enter Tryd.func19, Tryd.ntmps19
  go_wp2_with fail
  refine ct.mono ?_
  rintro e w2 ⟨A1, xs, c1, rfl, hc1, hn1, hv1, hr1, b2⟩
  have HN := Lib.hid hn1
  have HV := Lib.hid hv1
  clear hn1 hv1 ct
  obtain ⟨f0, f1, f2, f3⟩ := new_whole_at _ (w.heap.size + 1) (by simp) b2
  go_wp2_with fail
  obtain ⟨r0, r1, r2, r3⟩ := stored_whole f0 (.bool (decide (N < 0))) (.slice A1 xs.length c1)
  exact bodyPost_ret (v := .agg #[.bool (decide (N < 0)), .slice A1 xs.length c1]) (by simp [results, Tryd.results19, go_sem, r0, r1]) rfl
    (gives_stored f0 (B0.trans (b2.mono B0.size)) (by omega) hc1 HN.out HV.out hr1 _ _)

theorem wv_mul (n1 n2 : Bool) {xs a b : List Nat} (h : val 4294967296 xs = val 4294967296 a * val 4294967296 b) : wv (n1 != n2) xs = wv n1 a * wv n2 b := by
  unfold wv; rw [h]; cases n1 <;> cases n2 <;> simp [Int.neg_mul, Int.mul_neg]

/-- two arguments in their boxes, and the result's place -/
theorem boxes2 (w : World) (x y p q : Value) (t t' : TypeId) : ∃ W, ((w.alloc (.cells #[x, y] t)).alloc (.cells #[p, q] t)).alloc (.cells #[.bool false, .slice none 0 0] t') = W ∧
    W.cell? ⟨w.heap.size, 0, none⟩ = some x ∧ W.cell? ⟨w.heap.size, 1, none⟩ = some y ∧ W.cell? ⟨w.heap.size + 1, 0, none⟩ = some p ∧ W.cell? ⟨w.heap.size + 1, 1, none⟩ = some q ∧
    W.heap[w.heap.size + 1 + 1]? = some (.cells #[.bool false, .slice none 0 0] t' (0, 0)) ∧ W.heap.size = w.heap.size + 3 ∧ Below w.heap.size w W := by
  have s1 : ∀ (u : World) (o : Obj), (u.alloc o).heap.size = u.heap.size + 1 := fun u o => by simp
  have e1 : (((w.alloc (.cells #[x, y] t)).alloc (.cells #[p, q] t)).alloc (.cells #[.bool false, .slice none 0 0] t')).heap[w.heap.size]? = some (.cells #[x, y] t (0, 0)) := by
    rw [Below.heap_alloc _ _ _ (by rw [s1, s1]; omega), Below.heap_alloc _ _ _ (by rw [s1]; omega)]
    exact heap_alloc_new w _
  have e2 : (((w.alloc (.cells #[x, y] t)).alloc (.cells #[p, q] t)).alloc (.cells #[.bool false, .slice none 0 0] t')).heap[w.heap.size + 1]? = some (.cells #[p, q] t (0, 0)) := by
    rw [Below.heap_alloc _ _ _ (by rw [s1, s1]; omega), ← s1 w (.cells #[x, y] t)]
    exact heap_alloc_new _ _
  have e3 : (((w.alloc (.cells #[x, y] t)).alloc (.cells #[p, q] t)).alloc (.cells #[.bool false, .slice none 0 0] t')).heap[w.heap.size + 1 + 1]? = some (.cells #[.bool false, .slice none 0 0] t' (0, 0)) := by
    rw [← s1 w (.cells #[x, y] t), ← s1 (w.alloc (.cells #[x, y] t)) (.cells #[p, q] t)]
    exact heap_alloc_new _ _
  exact ⟨_, rfl, by rw [cell_of_row _ _ _ _ _ _ e1]; rfl, by rw [cell_of_row _ _ _ _ _ _ e1]; rfl, by rw [cell_of_row _ _ _ _ _ _ e2]; rfl, by rw [cell_of_row _ _ _ _ _ _ e2]; rfl, e3, by rw [s1, s1, s1], below_new3 _ _ _ _⟩

theorem lower {W w1 : World} {g : Nat} (k6 : W.heap.size = g + 3) (hb : Below W.drew.heap.size W.drew w1) : Below (g + 1 + 1) W w1 := by
  have hs : W.drew.heap.size = g + 3 := k6
  exact Below.trans (below_drewN (Below.refl _ _) 1) (hb.mono (by rw [hs]; omega))
theorem cells4 {W w1 : World} {g : Nat} {x y p q : Value} (k1 : W.cell? ⟨g, 0, none⟩ = some x) (k2 : W.cell? ⟨g, 1, none⟩ = some y) (k3 : W.cell? ⟨g + 1, 0, none⟩ = some p) (k4 : W.cell? ⟨g + 1, 1, none⟩ = some q) (hb : Below (g + 1 + 1) W w1) :
    w1.cell? ⟨g, 0, none⟩ = some x ∧ w1.cell? ⟨g, 1, none⟩ = some y ∧ w1.cell? ⟨g + 1, 0, none⟩ = some p ∧ w1.cell? ⟨g + 1, 1, none⟩ = some q :=
  ⟨(hb.cell (p := ⟨g, 0, none⟩) (show g < g + 1 + 1 by omega)).trans k1, (hb.cell (p := ⟨g, 1, none⟩) (show g < g + 1 + 1 by omega)).trans k2, (hb.cell (p := ⟨g + 1, 0, none⟩) (show g + 1 < g + 1 + 1 by omega)).trans k3, (hb.cell (p := ⟨g + 1, 1, none⟩) (show g + 1 < g + 1 + 1 by omega)).trans k4⟩
/-- the result's place, with its cells, behind calls -/
theorem place2 {W w1 : World} {g : Nat} {t : TypeId} (k5 : W.heap[g + 1 + 1]? = some (.cells #[.bool false, .slice none 0 0] t (0, 0))) (k6 : W.heap.size = g + 3) (hb : Below W.drew.heap.size W.drew w1) :
    w1.heap[g + 1 + 1]? = some (.cells #[.bool false, .slice none 0 0] t (0, 0)) ∧ w1.cell? ⟨g + 1 + 1, 0, none⟩ = some (.bool false) ∧ w1.cell? ⟨g + 1 + 1, 1, none⟩ = some (.slice none 0 0) ∧ (∀ i, w1.frozen? ⟨g + 1 + 1, i, none⟩ = false) := by
  have hs : W.drew.heap.size = g + 3 := k6
  have h := (hb.block (g + 1 + 1) (by rw [hs]; omega)).trans k5
  exact ⟨h, by rw [cell_of_row _ _ _ _ _ _ h]; rfl, by rw [cell_of_row _ _ _ _ _ _ h]; rfl, fun i => frozen_of_row _ _ i _ _ h⟩

set_option maxHeartbeats 1600000 in
theorem whole_Mul (n1 n2 : Bool) (a b : List Nat) (A A' : Option Addr) (ca cb : Nat) (w : World) (h : Rd w (fun g => g < w.heap.size) .u32 A a) (h' : Rd w (fun g => g < w.heap.size) .u32 A' b) (hl : a.length ≤ 1073741824) (hl' : b.length ≤ 1073741824) (hc : a.length ≤ ca) (hc' : b.length ≤ cb) (ha : Dg 4294967296 a) (hb : Dg 4294967296 b) :
    Calls Tryd.prog 13 #[.agg #[.bool n1, .slice A a.length ca], .agg #[.bool n2, .slice A' b.length cb]] w (GivesW (wv n1 a * wv n2 b) w) := by
  obtain ⟨N, hN⟩ : ∃ N, wv n1 a * wv n2 b = N := ⟨_, rfl⟩
  have B0 := below_new3 w (.cells #[.bool n1, .slice A a.length ca] 24) (.cells #[.bool n2, .slice A' b.length cb] 24) (.cells #[.bool false, .slice none 0 0] 24)
  rw [hN]
  have HE := Lib.hid hN
  clear hN
  obtain ⟨W, hW, k1, k2, k3, k4, k5, k6, k7⟩ := boxes2 w (.bool n1) (.slice A a.length ca) (.bool n2) (.slice A' b.length cb) 24 24
  have cM : Calls Tryd.prog 41 #[.slice A a.length ca, .slice A' b.length cb] W.drew (Gives .u32 4294967296 (val 4294967296 a * val 4294967296 b) W.drew) :=
    nat_Mul a b A A' ca cb _ _ _ (h.on (below_drewN k7 1)) (h'.on (below_drewN k7 1)) (fun g hg => hg) (fun g hg => hg) hl hl' hc hc' ha hb
  go_enter Tryd.func13, Tryd.ntmps13
  go_wp2_with fail
  try rw [hW]
  clear hW B0
  go_region_held3 (fun w' => w'.cell? ⟨w.heap.size, 0, none⟩ = some (.bool n1) ∧ w'.cell? ⟨w.heap.size, 1, none⟩ = some (.slice A a.length ca) ∧ w'.cell? ⟨w.heap.size + 1, 0, none⟩ = some (.bool n2) ∧ w'.cell? ⟨w.heap.size + 1, 1, none⟩ = some (.slice A' b.length cb))
    (first | exact cells4 k1 k2 k3 k4 (lower k6 hb1) | exact cells4 k1 k2 k3 k4 (lower k6 (hb1.trans (hb2.mono hb1.size))) | exact cells4 k1 k2 k3 k4 ((lower k6 (hb1.trans (hb2.mono hb1.size))).trans ((stored_whole f0 _ _).2.2.2 _ (Nat.le_refl _))) | go_keep)
    ((first
      | (go_at_call 41; (with_reducible refine Calls.mono cM ?_); rintro e w1 ⟨A1, xs, c1, rfl, hc1, hn1, hv1, hr1, hb1⟩)
      | (go_at_call 40; (with_reducible refine Calls.mono (whole_own _ _ _ _ N _ hn1 ?_) ?_) <;> first | exact (wv_mul _ _ hv1).trans HE.out | (rintro e w2 ⟨rfl, hb2⟩; obtain ⟨f0, f1, f2, f3⟩ := place2 k5 k6 (hb1.trans (hb2.mono hb1.size))))))
  have HN := Lib.hid hn1
  have HV := Lib.hid ((wv_mul n1 n2 hv1).trans HE.out)
  have b2 := hb1.trans (hb2.mono hb1.size)
  clear hn1 hv1 cM
  obtain ⟨r0, r1, r2, r3⟩ := stored_whole f0 (.bool (decide (N < 0))) (.slice A1 xs.length c1)
  go_wp2_with fail
  exact bodyPost_ret (v := .agg #[.bool (decide (N < 0)), .slice A1 xs.length c1]) (by simp [results, Tryd.results13, go_sem, r0, r1]) rfl
    (gives_stored f0 ((below_drewN k7 1).trans (b2.mono (below_drewN k7 1).size)) (by omega) hc1 HN.out (abs_of HV.out) (hr1.on hb2) _ _)
end Go.Proofs.YtkmgmppmhgoadaaDoor
