/- Whole numbers, the document's own: what Mul, Add, Sub, Cmp, Same answer. -/
import Derived.Test.YtkmgmppmhgoadaaDoorWrA
namespace Go.Proofs.YtkmgmppmhgoadaaDoor
open Go.RowKit Num

/-- two arguments in their boxes, and the result's place -/
def Three (w : World) (g : Nat) (n1 n2 : Bool) (v1 v2 : Value) : Prop :=
  w.heap[g]? = some (.cells #[.bool n1, v1] 24 (0, 0)) ∧ w.heap[g + 1]? = some (.cells #[.bool n2, v2] 24 (0, 0)) ∧ w.heap[g + 1 + 1]? = some (.cells #[.bool false, .slice none 0 0] 24 (0, 0)) ∧ g + 3 ≤ w.heap.size
theorem Three.new (w : World) (n1 n2 : Bool) (v1 v2 : Value) : Three (((w.alloc (.cells #[.bool n1, v1] 24)).alloc (.cells #[.bool n2, v2] 24)).alloc (.cells #[.bool false, .slice none 0 0] 24)) w.heap.size n1 n2 v1 v2 := by
  have s1 : ∀ (u : World) (o : Obj), (u.alloc o).heap.size = u.heap.size + 1 := fun u o => by simp
  have e : ∀ (u : World) (o : Obj) (k : Nat), k = u.heap.size → (u.alloc o).heap[k]? = some o := fun u o k hk => by rw [hk]; exact heap_alloc_new u o
  refine ⟨?_, ?_, ?_, by rw [s1, s1, s1]; omega⟩
  · rw [Below.heap_alloc _ _ _ (by rw [s1, s1]; omega), Below.heap_alloc _ _ _ (by rw [s1]; omega)]
    exact e _ _ _ rfl
  · rw [Below.heap_alloc _ _ _ (by rw [s1, s1]; omega)]
    exact e _ _ _ (by rw [s1])
  · exact e _ _ _ (by rw [s1, s1])
theorem Three.on {w w' : World} {g : Nat} {n1 n2 : Bool} {v1 v2 : Value} (h : Three w g n1 n2 v1 v2) (hb : Below w.heap.size w w') : Three w' g n1 n2 v1 v2 := by
  obtain ⟨h0, h1, h2, h4⟩ := h
  exact ⟨(hb.block _ (by omega)).trans h0, (hb.block _ (by omega)).trans h1, (hb.block _ (by omega)).trans h2, Nat.le_trans h4 hb.size⟩
theorem Three.boxes {w : World} {g : Nat} {n1 n2 : Bool} {v1 v2 : Value} (h : Three w g n1 n2 v1 v2) :
    w.cell? ⟨g, 0, none⟩ = some (.bool n1) ∧ w.cell? ⟨g, 1, none⟩ = some v1 ∧ w.cell? ⟨g + 1, 0, none⟩ = some (.bool n2) ∧ w.cell? ⟨g + 1, 1, none⟩ = some v2 := by
  obtain ⟨h0, h1, h2, h4⟩ := h
  exact ⟨by rw [cell_of_row _ _ _ _ _ _ h0]; rfl, by rw [cell_of_row _ _ _ _ _ _ h0]; rfl, by rw [cell_of_row _ _ _ _ _ _ h1]; rfl, by rw [cell_of_row _ _ _ _ _ _ h1]; rfl⟩
theorem Three.place {w : World} {g : Nat} {n1 n2 : Bool} {v1 v2 : Value} (h : Three w g n1 n2 v1 v2) :
    w.heap[g + 1 + 1]? = some (.cells #[.bool false, .slice none 0 0] 24 (0, 0)) ∧ w.cell? ⟨g + 1 + 1, 0, none⟩ = some (.bool false) ∧ w.cell? ⟨g + 1 + 1, 1, none⟩ = some (.slice none 0 0) ∧ w.frozen? ⟨g + 1 + 1, 0, none⟩ = false ∧ w.frozen? ⟨g + 1 + 1, 1, none⟩ = false :=
  ⟨h.2.2.1, cells_of h.2.2.1⟩

set_option maxRecDepth 10000 in
set_option maxHeartbeats 1600000 in
theorem ref2_Mul (n1 n2 : Bool) (a b : List Nat) (A A' : Option Addr) (ca cb : Nat) (w : World) (h : Rd w (fun g => g < w.heap.size) .u32 A a) (h' : Rd w (fun g => g < w.heap.size) .u32 A' b) (hl : a.length ≤ 134217728) (hl' : b.length ≤ 134217728) (ha : Dg 4294967296 a) (hb : Dg 4294967296 b) :
    Calls Tryd.prog 14 #[.agg #[.bool n1, .slice A a.length ca], .agg #[.bool n2, .slice A' b.length cb]] w (GivesW (wv n1 a * wv n2 b) w) := by
  obtain ⟨N, hN⟩ : ∃ N, wv n1 a * wv n2 b = N := ⟨_, rfl⟩
  rw [hN]
  have HE := Lib.hid hN
  clear hN
  obtain ⟨W, hW, k1, k2, k3, k4, k5, k6, k7⟩ := boxes2 w (.bool n1) (.slice A a.length ca) (.bool n2) (.slice A' b.length cb) 24 24
  have cM : Calls Tryd.prog 42 #[.slice A a.length ca, .slice A' b.length cb] W.drew (Gives .u32 4294967296 (val 4294967296 a * val 4294967296 b) W.drew) :=
    ref_Mul a b A A' ca cb _ _ _ (h.on (below_drewN k7 1)) (h'.on (below_drewN k7 1)) (fun g hg => hg) (fun g hg => hg) hl hl' ha hb
  go_enter Tryd.func14, Tryd.ntmps14
  go_wp2_with fail
  try rw [hW]
  clear hW
  go_region_held3 (fun w' => w'.cell? ⟨w.heap.size, 0, none⟩ = some (.bool n1) ∧ w'.cell? ⟨w.heap.size, 1, none⟩ = some (.slice A a.length ca) ∧ w'.cell? ⟨w.heap.size + 1, 0, none⟩ = some (.bool n2) ∧ w'.cell? ⟨w.heap.size + 1, 1, none⟩ = some (.slice A' b.length cb))
    (first | exact cells4 k1 k2 k3 k4 (lower k6 hb1) | exact cells4 k1 k2 k3 k4 (lower k6 (hb1.trans (hb2.mono hb1.size))) | exact cells4 k1 k2 k3 k4 ((lower k6 (hb1.trans (hb2.mono hb1.size))).trans ((stored_whole f0 _ _).2.2.2 _ (Nat.le_refl _))) | go_keep)
    ((first
      | (go_at_call 42; (with_reducible refine Calls.mono cM ?_); rintro e w1 ⟨A1, xs, c1, rfl, hc1, hn1, hv1, hr1, hb1⟩; obtain ⟨hd1, ht1⟩ := hn1)
      | (go_at_call 29; (with_reducible refine Calls.mono (ref2_Make _ xs A1 c1 N _ hr1 ?_ hd1 ?_) ?_) <;> first | exact Nat.le_trans (len_mul (b := 4294967296) (by omega) ht1 ha hb hv1) (by omega) | exact (wv_mul n1 n2 hv1).trans HE.out | (rintro e w2 ⟨A2, ys, c2, rfl, hc2, hn2, hv2, hr2, hb2⟩; obtain ⟨f0, f1, f2, f3⟩ := place2 k5 k6 (hb1.trans (hb2.mono hb1.size))))))
  have HN := Lib.hid hn2
  have HV := Lib.hid hv2
  have b2 := hb1.trans (hb2.mono hb1.size)
  clear hd1 ht1 hv1 cM hn2 hv2
  obtain ⟨r0, r1, r2, r3⟩ := stored_whole f0 (.bool (decide (N < 0))) (.slice A2 ys.length c2)
  go_wp2_with fail
  exact bodyPost_ret (v := .agg #[.bool (decide (N < 0)), .slice A2 ys.length c2]) (by simp [results, Tryd.results14, go_sem, r0, r1]) rfl
    (gives_stored f0 ((below_drewN k7 1).trans (b2.mono (below_drewN k7 1).size)) (by omega) hc2 HN.out HV.out hr2 _ _)

set_option maxRecDepth 10000 in
set_option maxHeartbeats 1600000 in
theorem ref2_Add_same (n1 : Bool) (a b : List Nat) (A A' : Option Addr) (ca cb : Nat) (w : World) (h : Rd w (fun g => g < w.heap.size) .u32 A a) (h' : Rd w (fun g => g < w.heap.size) .u32 A' b) (hl : a.length ≤ 268435456) (hl' : b.length ≤ 268435456) (ha : Dg 4294967296 a) (hb : Dg 4294967296 b) :
    Calls Tryd.prog 10 #[.agg #[.bool n1, .slice A a.length ca], .agg #[.bool n1, .slice A' b.length cb]] w (GivesW (wv n1 a + wv n1 b) w) := by
  obtain ⟨N, hN⟩ : ∃ N, wv n1 a + wv n1 b = N := ⟨_, rfl⟩
  rw [hN]
  have HE := Lib.hid hN
  clear hN
  obtain ⟨W, hW, k1, k2, k3, k4, k5, k6, k7⟩ := boxes2 w (.bool n1) (.slice A a.length ca) (.bool n1) (.slice A' b.length cb) 24 24
  have cM : Calls Tryd.prog 37 #[.slice A a.length ca, .slice A' b.length cb] W.drew (Gives .u32 4294967296 (val 4294967296 a + val 4294967296 b) W.drew) :=
    ref_add a b A A' ca cb _ _ _ (h.on (below_drewN k7 1)) (h'.on (below_drewN k7 1)) (fun g hg => hg) (fun g hg => hg) (by omega) (by omega) ha hb
  go_enter Tryd.func10, Tryd.ntmps10
  go_wp2_with fail
  try rw [hW]
  clear hW
  go_region_held3 (fun w' => w'.cell? ⟨w.heap.size, 0, none⟩ = some (.bool n1) ∧ w'.cell? ⟨w.heap.size, 1, none⟩ = some (.slice A a.length ca) ∧ w'.cell? ⟨w.heap.size + 1, 0, none⟩ = some (.bool n1) ∧ w'.cell? ⟨w.heap.size + 1, 1, none⟩ = some (.slice A' b.length cb))
    (first | exact cells4 k1 k2 k3 k4 (lower k6 hb1) | exact cells4 k1 k2 k3 k4 (lower k6 (hb1.trans (hb2.mono hb1.size))) | exact cells4 k1 k2 k3 k4 ((lower k6 (hb1.trans (hb2.mono hb1.size))).trans ((stored_whole f0 _ _).2.2.2 _ (Nat.le_refl _))) | go_keep)
    ((first
      | (go_at_call 37; (with_reducible refine Calls.mono cM ?_); rintro e w1 ⟨A1, xs, c1, rfl, hc1, hn1, hv1, hr1, hb1⟩; obtain ⟨hd1, ht1⟩ := hn1)
      | (go_at_call 29; (with_reducible refine Calls.mono (ref2_Make _ xs A1 c1 N _ hr1 ?_ hd1 ?_) ?_) <;> first | exact Nat.le_trans (len_add (b := 4294967296) (by omega) ht1 ha hb hv1 hl hl') (by omega) | exact (wv_add n1 hv1).trans HE.out | (rintro e w2 ⟨A2, ys, c2, rfl, hc2, hn2, hv2, hr2, hb2⟩; obtain ⟨f0, f1, f2, f3⟩ := place2 k5 k6 (hb1.trans (hb2.mono hb1.size))))))
  have HN := Lib.hid hn2
  have HV := Lib.hid hv2
  have b2 := hb1.trans (hb2.mono hb1.size)
  clear hd1 ht1 hv1 cM hn2 hv2
  obtain ⟨r0, r1, r2, r3⟩ := stored_whole f0 (.bool (decide (N < 0))) (.slice A2 ys.length c2)
  go_wp2_with fail
  exact bodyPost_ret (v := .agg #[.bool (decide (N < 0)), .slice A2 ys.length c2]) (by simp [results, Tryd.results10, go_sem, r0, r1]) rfl
    (gives_stored f0 ((below_drewN k7 1).trans (b2.mono (below_drewN k7 1).size)) (by omega) hc2 HN.out HV.out hr2 _ _)

set_option maxRecDepth 10000 in
set_option maxHeartbeats 3200000 in
theorem ref2_Add_other (n1 : Bool) (a b : List Nat) (A A' : Option Addr) (ca cb : Nat) (w : World) (h : Rd w (fun g => g < w.heap.size) .u32 A a) (h' : Rd w (fun g => g < w.heap.size) .u32 A' b) (hl : a.length ≤ 268435456) (hl' : b.length ≤ 268435456) (ha : Dg 4294967296 a) (hb : Dg 4294967296 b) :
    Calls Tryd.prog 10 #[.agg #[.bool n1, .slice A a.length ca], .agg #[.bool (!n1), .slice A' b.length cb]] w (GivesW (wv n1 a + wv (!n1) b) w) := by
  obtain ⟨N, hN⟩ : ∃ N, wv n1 a + wv (!n1) b = N := ⟨_, rfl⟩
  rw [hN]
  have HE := Lib.hid hN
  clear hN
  have F0 := Three.new w n1 (!n1) (.slice A a.length ca) (.slice A' b.length cb)
  have B0 := below_new3 w (.cells #[.bool n1, .slice A a.length ca] 24) (.cells #[.bool (!n1), .slice A' b.length cb] 24) (.cells #[.bool false, .slice none 0 0] 24)
  have cC := ref_Cmp a b A A' ca cb _ _ _ (h.on B0) (h'.on B0) (fun g hg => hg) (fun g hg => hg) (by omega) (by omega) ha hb
  by_cases hle : val 4294967296 b ≤ val 4294967296 a
  · obtain ⟨z, hz, hz0⟩ : ∃ z : Int, cmpI (val 4294967296 a) (val 4294967296 b) = z ∧ 0 ≤ z := ⟨_, rfl, by unfold cmpI; rw [if_neg (by omega)]; split <;> omega⟩
    rw [hz] at cC
    have HL := Lib.hid hle
    clear hle hz
    cases n1
    all_goals
      go_enter Tryd.func10, Tryd.ntmps10
      go_wp2_with fail
      refine cC.mono ?_
      rintro e w1 ⟨rfl, b1⟩
      have B1 := B0.trans (b1.mono B0.size)
      have F1 := F0.on b1
      obtain ⟨k1, k2, k3, k4⟩ := F1.boxes
      clear cC
      have cS := ref_Sub a b A A' ca cb _ _ w1 (h.on B1) (h'.on B1) (fun g hg => hg) (fun g hg => hg) (by omega) (by omega) ha hb
      rw [decide_eq_true HL.out] at cS
      go_wp2_with fail
      refine cS.mono ?_
      rintro e w2 ⟨A2, x, c2, rfl, hc2, hn2, hv2, hr2, b2⟩
      have B2 := B1.trans (b2.mono B1.size)
      have F2 := F1.on b2
      have HN2 := Lib.hid hn2
      have HV2 := Lib.hid hv2
      clear hn2 hv2 cS k1 k2 k3 k4
      obtain ⟨k1, k2, k3, k4⟩ := F2.boxes
      have hxl : x.length ≤ 1073741824 := Nat.le_trans (len_le (b := 4294967296) (by omega) HN2.out.2 ha (by rw [HV2.out]; omega)) (by omega)
      have cK := ref2_Make _ x A2 c2 N w2 hr2 hxl HN2.out.1 ((wv_sub _ HV2.out HL.out).trans HE.out)
      go_wp2_with fail
      refine cK.mono ?_
      rintro e w3 ⟨A3, y, c3, rfl, hc3, hn3, hv3, hr3, b3⟩
      have B3 := B2.trans (b3.mono B2.size)
      have F3 := F2.on b3
      have HN3 := Lib.hid hn3
      have HV3 := Lib.hid hv3
      clear hn3 hv3 cK k1 k2 k3 k4
      obtain ⟨f0, f1, f2, f3, f4⟩ := F3.place
      go_wp2_with fail
      obtain ⟨r0, r1, r2, r3⟩ := stored_whole f0 (.bool (decide (N < 0))) (.slice A3 y.length c3)
      exact bodyPost_ret (v := .agg #[.bool (decide (N < 0)), .slice A3 y.length c3]) (by simp [results, Tryd.results10, go_sem, r0, r1]) rfl
        (gives_stored f0 B3 (by omega) hc3 HN3.out HV3.out hr3 _ _)
  · obtain ⟨z, hz, hz0⟩ : ∃ z : Int, cmpI (val 4294967296 a) (val 4294967296 b) = z ∧ z < 0 := ⟨_, rfl, by unfold cmpI; rw [if_pos (by omega)]; omega⟩
    rw [hz] at cC
    have HL := Lib.hid (show val 4294967296 a ≤ val 4294967296 b by omega)
    clear hle hz
    cases n1
    all_goals
      go_enter Tryd.func10, Tryd.ntmps10
      go_wp2_with fail
      refine cC.mono ?_
      rintro e w1 ⟨rfl, b1⟩
      have B1 := B0.trans (b1.mono B0.size)
      have F1 := F0.on b1
      obtain ⟨k1, k2, k3, k4⟩ := F1.boxes
      clear cC
      have cS := ref_Sub b a A' A cb ca _ _ w1 (h'.on B1) (h.on B1) (fun g hg => hg) (fun g hg => hg) (by omega) (by omega) hb ha
      rw [decide_eq_true HL.out] at cS
      go_wp2_with fail
      refine cS.mono ?_
      rintro e w2 ⟨A2, x, c2, rfl, hc2, hn2, hv2, hr2, b2⟩
      have B2 := B1.trans (b2.mono B1.size)
      have F2 := F1.on b2
      have HN2 := Lib.hid hn2
      have HV2 := Lib.hid hv2
      clear hn2 hv2 cS k1 k2 k3 k4
      obtain ⟨k1, k2, k3, k4⟩ := F2.boxes
      have hxl : x.length ≤ 1073741824 := Nat.le_trans (len_le (b := 4294967296) (by omega) HN2.out.2 hb (by rw [HV2.out]; omega)) (by omega)
      have cK := ref2_Make _ x A2 c2 N w2 hr2 hxl HN2.out.1 ((wv_sub' _ HV2.out HL.out).trans HE.out)
      go_wp2_with fail
      refine cK.mono ?_
      rintro e w3 ⟨A3, y, c3, rfl, hc3, hn3, hv3, hr3, b3⟩
      have B3 := B2.trans (b3.mono B2.size)
      have F3 := F2.on b3
      have HN3 := Lib.hid hn3
      have HV3 := Lib.hid hv3
      clear hn3 hv3 cK k1 k2 k3 k4
      obtain ⟨f0, f1, f2, f3, f4⟩ := F3.place
      go_wp2_with fail
      obtain ⟨r0, r1, r2, r3⟩ := stored_whole f0 (.bool (decide (N < 0))) (.slice A3 y.length c3)
      exact bodyPost_ret (v := .agg #[.bool (decide (N < 0)), .slice A3 y.length c3]) (by simp [results, Tryd.results10, go_sem, r0, r1]) rfl
        (gives_stored f0 B3 (by omega) hc3 HN3.out HV3.out hr3 _ _)

theorem ref2_Add (n1 n2 : Bool) (a b : List Nat) (A A' : Option Addr) (ca cb : Nat) (w : World) (h : Rd w (fun g => g < w.heap.size) .u32 A a) (h' : Rd w (fun g => g < w.heap.size) .u32 A' b) (hl : a.length ≤ 268435456) (hl' : b.length ≤ 268435456) (ha : Dg 4294967296 a) (hb : Dg 4294967296 b) :
    Calls Tryd.prog 10 #[.agg #[.bool n1, .slice A a.length ca], .agg #[.bool n2, .slice A' b.length cb]] w (GivesW (wv n1 a + wv n2 b) w) := by
  by_cases e : n2 = n1
  · subst e; exact ref2_Add_same n2 a b A A' ca cb w h h' hl hl' ha hb
  · obtain rfl : n2 = !n1 := by cases n1 <;> cases n2 <;> simp_all
    exact ref2_Add_other n1 a b A A' ca cb w h h' hl hl' ha hb
end Go.Proofs.YtkmgmppmhgoadaaDoor
