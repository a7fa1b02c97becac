/- Whole numbers, the document's own: what Make, Neg, Sign, Mul answer. -/
import Derived.Test.YtdmoibphidipeaaGreatDoorZWhX
import Derived.Test.YtdmoibphidipeaaGreatDoorZRefY
import Derived.Test.YtdmoibphidipeaaGreatDoorZRefX
namespace Go.Proofs.YtdmoibphidipeaaGreatDoor
open Go.RowKit Num

/-- an argument in its box, behind calls -/
theorem box_cells {w w1 : World} {x y : Value} {t : TypeId} (hb : Below (w.alloc (.cells #[x, y] t)).heap.size (w.alloc (.cells #[x, y] t)) w1) : w1.cell? ⟨w.heap.size, 0, none⟩ = some x ∧ w1.cell? ⟨w.heap.size, 1, none⟩ = some y := by
  have h : w1.heap[w.heap.size]? = some (.cells #[x, y] t (0, 0)) := (hb.block w.heap.size (by simp)).trans (heap_alloc_new w _)
  exact ⟨by rw [cell_of_row _ _ _ _ _ _ h]; rfl, by rw [cell_of_row _ _ _ _ _ _ h]; rfl⟩

set_option maxRecDepth 10000 in
set_option maxHeartbeats 800000 in
theorem ref2_Make (neg : Bool) (a : List Nat) (A : Option Addr) (ca : Nat) (N : Int) (w : World) (h : Rd w (fun g => g < w.heap.size) .u32 A a) (hl : a.length ≤ 1073741824) (ha : Dg 4294967296 a) (hN : wv neg a = N) :
    Calls Tryz.prog 125 #[.bool neg, .slice A a.length ca] w (GivesW N w) := by
  have HE := Lib.hid hN
  clear hN
  have B0 := below_new w (.cells #[.bool false, .slice none 0 0] 37)
  have cH := ref_half a A ca _ _ (h.on B0) (fun g hg => hg) hl ha
  cases neg
  all_goals
    go_enter Tryz.func125, Tryz.ntmps125
    go_wp2_with fail
    refine cH.mono ?_
    rintro e w1 ⟨A1, x, c1, rfl, hc1, hl1, hn1, hv1, hr1, b1⟩
    have HN1 := Lib.hid hn1
    have HV1 := Lib.hid hv1
    clear hn1 hv1 cH
    have cW := ref_words x A1 c1 _ _ hr1 (fun g hg => hg.2) (by omega) hc1 HN1.out.1
    go_wp2_with fail
    refine cW.mono ?_
    rintro e w2 ⟨A2, y, c2, rfl, hc2, hn2, hv2, hr2, b2⟩
    have HN2 := Lib.hid hn2
    have HV2 := Lib.hid ((wv_ext _ (hv2.trans HV1.out)).trans HE.out)
    have b12 := b1.trans (b2.mono b1.size)
    obtain ⟨f0, f1, f2, f3⟩ := new_whole w b12
    clear hn2 hv2 cW
    go_wp2_with fail
  · have HD := Lib.hid (show decide (N < 0) = false by rw [← HV2.out]; simp [wv])
    obtain ⟨r0, r1, r2, r3⟩ := stored_whole f0 (.bool false) (.slice A2 y.length c2)
    refine bodyPost_ret (v := .agg #[.bool false, .slice A2 y.length c2]) (by simp [results, Tryz.results125, go_sem, r0, r1]) rfl ?_
    rw [← HD.out]
    exact gives_stored f0 (B0.trans (b12.mono B0.size)) (Nat.le_refl _) hc2 HN2.out (abs_of HV2.out) (hr2.imp fun g hg => hg.2) _ _
  · have HD := Lib.hid (show decide (N < 0) = decide (0 < y.length) by rw [← HV2.out, ← sign_of true HN2.out]; simp)
    obtain ⟨r0, r1, r2, r3⟩ := stored_whole f0 (.bool (decide (0 < y.length))) (.slice A2 y.length c2)
    refine bodyPost_ret (v := .agg #[.bool (decide (0 < y.length)), .slice A2 y.length c2]) (by simp [results, Tryz.results125, go_sem, r0, r1]) rfl ?_
    rw [← HD.out]
    exact gives_stored f0 (B0.trans (b12.mono B0.size)) (Nat.le_refl _) hc2 HN2.out (abs_of HV2.out) (hr2.imp fun g hg => hg.2) _ _

set_option maxRecDepth 10000 in
set_option maxHeartbeats 800000 in
theorem ref2_Neg (n1 : Bool) (a : List Nat) (A : Option Addr) (ca : Nat) (w : World) (h : Rd w (fun g => g < w.heap.size) .u32 A a) (hl : a.length ≤ 1073741824) (ha : Dg 4294967296 a) :
    Calls Tryz.prog 126 #[.agg #[.bool n1, .slice A a.length ca]] w (GivesW (- wv n1 a) w) := by
  have B0 := below_new2 w (.cells #[.bool n1, .slice A a.length ca] 37) (.cells #[.bool false, .slice none 0 0] 37)
  have ct := ref2_Make (!n1) a A ca _ _ (h.on B0) hl ha rfl
  obtain ⟨N, hN⟩ : ∃ N, - wv n1 a = N := ⟨_, rfl⟩
  rw [wv_not, hN] at ct
  rw [hN]
  clear hN
  go_enter Tryz.func126, Tryz.ntmps126
  go_wp2_with fail
  refine ct.mono ?_
  rintro e w2 ⟨A1, xs, c1, rfl, hc1, hn1, hv1, hr1, b2⟩
  have HN := Lib.hid hn1
  have HV := Lib.hid hv1
  clear hn1 hv1 ct
  obtain ⟨f0, f1, f2, f3⟩ := new_whole_at _ (w.heap.size + 1) (by simp) b2
  go_wp2_with fail
  obtain ⟨r0, r1, r2, r3⟩ := stored_whole f0 (.bool (decide (N < 0))) (.slice A1 xs.length c1)
  exact bodyPost_ret (v := .agg #[.bool (decide (N < 0)), .slice A1 xs.length c1]) (by simp [results, Tryz.results126, go_sem, r0, r1]) rfl
    (gives_stored f0 (B0.trans (b2.mono B0.size)) (by omega) hc1 HN.out HV.out hr1 _ _)

set_option maxRecDepth 10000 in
set_option maxHeartbeats 1600000 in
theorem ref2_Sign (n1 : Bool) (a : List Nat) (A : Option Addr) (ca : Nat) (w : World) (h : Rd w (fun g => g < w.heap.size) .u32 A a) (hl : a.length ≤ 536870912) (ha : Dg 4294967296 a) :
    Calls Tryz.prog 123 #[.agg #[.bool n1, .slice A a.length ca]] w fun e w' => e = .returned (.int .i64 (sgn (wv n1 a))) ∧ Below w.heap.size w w' := by
  obtain ⟨n, hn⟩ := isBits_some (val 4294967296 a)
  have hz := isBits_zero_iff hn
  have B0 := below_new w (.cells #[.bool n1, .slice A a.length ca] 37)
  obtain ⟨z, hzn⟩ : ∃ z : Int, z = n := ⟨_, rfl⟩
  have cB : Calls Tryz.prog 122 #[.slice A a.length ca] (w.alloc (.cells #[.bool n1, .slice A a.length ca] 37)) fun e w' => e = .returned (.int .i64 z) ∧ Below (w.alloc (.cells #[.bool n1, .slice A a.length ca] 37)).heap.size (w.alloc (.cells #[.bool n1, .slice A a.length ca] 37)) w' := by
    refine (ref_Bits a A ca _ _ (h.on B0) (fun g hg => hg) hl ha).mono ?_
    rintro e w' ⟨m, rfl, hm, hb⟩
    obtain rfl := hm.unique hn
    exact ⟨by rw [hzn], hb⟩
  have hs : (z = 0 ∧ sgn (wv n1 a) = 0) ∨ (0 < z ∧ n1 = true ∧ sgn (wv n1 a) = -1) ∨ (0 < z ∧ n1 = false ∧ sgn (wv n1 a) = 1) := by
    have hab := wv_abs n1 a
    rcases Nat.eq_zero_or_pos n with h0 | h0
    · have : wv n1 a = 0 := by omega
      exact .inl ⟨by omega, by rw [this]; rfl⟩
    · cases n1
      · refine .inr (.inr ⟨by omega, rfl, ?_⟩)
        unfold sgn
        rw [wv_false] at *
        rw [if_neg (by omega), if_pos (by omega)]
      · refine .inr (.inl ⟨by omega, rfl, ?_⟩)
        unfold sgn
        rw [wv_true] at *
        rw [if_pos (by omega)]
  clear hz hn hzn
  rcases hs with ⟨rfl, hs⟩ | ⟨h0, rfl, hs⟩ | ⟨h0, rfl, hs⟩
  all_goals
    rw [hs]
    clear hs
    go_enter Tryz.func123, Tryz.ntmps123
    go_wp2_with fail
    refine cB.mono ?_
    rintro e w1 ⟨rfl, b1⟩
    obtain ⟨k1, k2⟩ := box_cells b1
    clear cB
    go_wp2_with fail
    go_ret
    exact ⟨rfl, B0.trans (b1.mono B0.size)⟩
end Go.Proofs.YtdmoibphidipeaaGreatDoor
/- Whole numbers, the document's own: what Mul, Add, Sub, Cmp, Same answer. -/

namespace Go.Proofs.YtdmoibphidipeaaGreatDoor
open Go.RowKit Num

/-- two arguments in their boxes, and the result's place -/
def Three (w : World) (g : Nat) (n1 n2 : Bool) (v1 v2 : Value) : Prop :=
  w.heap[g]? = some (.cells #[.bool n1, v1] 37 (0, 0)) ∧ w.heap[g + 1]? = some (.cells #[.bool n2, v2] 37 (0, 0)) ∧ w.heap[g + 1 + 1]? = some (.cells #[.bool false, .slice none 0 0] 37 (0, 0)) ∧ g + 3 ≤ w.heap.size
theorem Three.new (w : World) (n1 n2 : Bool) (v1 v2 : Value) : Three (((w.alloc (.cells #[.bool n1, v1] 37)).alloc (.cells #[.bool n2, v2] 37)).alloc (.cells #[.bool false, .slice none 0 0] 37)) w.heap.size n1 n2 v1 v2 := by
  have s1 : ∀ (u : World) (o : Obj), (u.alloc o).heap.size = u.heap.size + 1 := fun u o => by simp
  have e : ∀ (u : World) (o : Obj) (k : Nat), k = u.heap.size → (u.alloc o).heap[k]? = some o := fun u o k hk => by rw [hk]; exact heap_alloc_new u o
  refine ⟨?_, ?_, ?_, by rw [s1, s1, s1]; omega⟩
  · rw [Below.heap_alloc _ _ _ (by rw [s1, s1]; omega), Below.heap_alloc _ _ _ (by rw [s1]; omega)]
    exact e _ _ _ rfl
  · rw [Below.heap_alloc _ _ _ (by rw [s1, s1]; omega)]
    exact e _ _ _ (by rw [s1])
  · exact e _ _ _ (by rw [s1, s1])
theorem Three.on {w w' : World} {g : Nat} {n1 n2 : Bool} {v1 v2 : Value} (h : Three w g n1 n2 v1 v2) (hb : Below w.heap.size w w') : Three w' g n1 n2 v1 v2 := by
  obtain ⟨h0, h1, h2, h4⟩ := h
  exact ⟨(hb.block _ (by omega)).trans h0, (hb.block _ (by omega)).trans h1, (hb.block _ (by omega)).trans h2, Nat.le_trans h4 hb.size⟩
theorem Three.boxes {w : World} {g : Nat} {n1 n2 : Bool} {v1 v2 : Value} (h : Three w g n1 n2 v1 v2) :
    w.cell? ⟨g, 0, none⟩ = some (.bool n1) ∧ w.cell? ⟨g, 1, none⟩ = some v1 ∧ w.cell? ⟨g + 1, 0, none⟩ = some (.bool n2) ∧ w.cell? ⟨g + 1, 1, none⟩ = some v2 := by
  obtain ⟨h0, h1, h2, h4⟩ := h
  exact ⟨by rw [cell_of_row _ _ _ _ _ _ h0]; rfl, by rw [cell_of_row _ _ _ _ _ _ h0]; rfl, by rw [cell_of_row _ _ _ _ _ _ h1]; rfl, by rw [cell_of_row _ _ _ _ _ _ h1]; rfl⟩
theorem Three.place {w : World} {g : Nat} {n1 n2 : Bool} {v1 v2 : Value} (h : Three w g n1 n2 v1 v2) :
    w.heap[g + 1 + 1]? = some (.cells #[.bool false, .slice none 0 0] 37 (0, 0)) ∧ w.cell? ⟨g + 1 + 1, 0, none⟩ = some (.bool false) ∧ w.cell? ⟨g + 1 + 1, 1, none⟩ = some (.slice none 0 0) ∧ w.frozen? ⟨g + 1 + 1, 0, none⟩ = false ∧ w.frozen? ⟨g + 1 + 1, 1, none⟩ = false :=
  ⟨h.2.2.1, cells_of h.2.2.1⟩

set_option maxRecDepth 10000 in
set_option maxHeartbeats 1600000 in
theorem ref2_Mul (n1 n2 : Bool) (a b : List Nat) (A A' : Option Addr) (ca cb : Nat) (w : World) (h : Rd w (fun g => g < w.heap.size) .u32 A a) (h' : Rd w (fun g => g < w.heap.size) .u32 A' b) (hl : a.length ≤ 134217728) (hl' : b.length ≤ 134217728) (ha : Dg 4294967296 a) (hb : Dg 4294967296 b) :
    Calls Tryz.prog 78 #[.agg #[.bool n1, .slice A a.length ca], .agg #[.bool n2, .slice A' b.length cb]] w (GivesW (wv n1 a * wv n2 b) w) := by
  obtain ⟨N, hN⟩ : ∃ N, wv n1 a * wv n2 b = N := ⟨_, rfl⟩
  rw [hN]
  have HE := Lib.hid hN
  clear hN
  obtain ⟨W, hW, k1, k2, k3, k4, k5, k6, k7⟩ := boxes2 w (.bool n1) (.slice A a.length ca) (.bool n2) (.slice A' b.length cb) 37 37
  have cM : Calls Tryz.prog 121 #[.slice A a.length ca, .slice A' b.length cb] W.drew (Gives .u32 4294967296 (val 4294967296 a * val 4294967296 b) W.drew) :=
    ref_Mul a b A A' ca cb _ _ _ (h.on (below_drewN k7 1)) (h'.on (below_drewN k7 1)) (fun g hg => hg) (fun g hg => hg) hl hl' ha hb
  go_enter Tryz.func78, Tryz.ntmps78
  go_wp2_with fail
  try rw [hW]
  clear hW
  go_region_held3 (fun w' => w'.cell? ⟨w.heap.size, 0, none⟩ = some (.bool n1) ∧ w'.cell? ⟨w.heap.size, 1, none⟩ = some (.slice A a.length ca) ∧ w'.cell? ⟨w.heap.size + 1, 0, none⟩ = some (.bool n2) ∧ w'.cell? ⟨w.heap.size + 1, 1, none⟩ = some (.slice A' b.length cb))
    (first | exact cells4 k1 k2 k3 k4 (lower k6 hb1) | exact cells4 k1 k2 k3 k4 (lower k6 (hb1.trans (hb2.mono hb1.size))) | exact cells4 k1 k2 k3 k4 ((lower k6 (hb1.trans (hb2.mono hb1.size))).trans ((stored_whole f0 _ _).2.2.2 _ (Nat.le_refl _))) | go_keep)
    ((first
      | (go_at_call 121; (with_reducible refine Calls.mono cM ?_); rintro e w1 ⟨A1, xs, c1, rfl, hc1, hn1, hv1, hr1, hb1⟩; obtain ⟨hd1, ht1⟩ := hn1)
      | (go_at_call 125; (with_reducible refine Calls.mono (ref2_Make _ xs A1 c1 N _ hr1 ?_ hd1 ?_) ?_) <;> first | exact Nat.le_trans (len_mul (b := 4294967296) (by omega) ht1 ha hb hv1) (by omega) | exact (wv_mul n1 n2 hv1).trans HE.out | (rintro e w2 ⟨A2, ys, c2, rfl, hc2, hn2, hv2, hr2, hb2⟩; obtain ⟨f0, f1, f2, f3⟩ := place2 k5 k6 (hb1.trans (hb2.mono hb1.size))))))
  have HN := Lib.hid hn2
  have HV := Lib.hid hv2
  have b2 := hb1.trans (hb2.mono hb1.size)
  clear hd1 ht1 hv1 cM hn2 hv2
  obtain ⟨r0, r1, r2, r3⟩ := stored_whole f0 (.bool (decide (N < 0))) (.slice A2 ys.length c2)
  go_wp2_with fail
  exact bodyPost_ret (v := .agg #[.bool (decide (N < 0)), .slice A2 ys.length c2]) (by simp [results, Tryz.results78, go_sem, r0, r1]) rfl
    (gives_stored f0 ((below_drewN k7 1).trans (b2.mono (below_drewN k7 1).size)) (by omega) hc2 HN.out HV.out hr2 _ _)

set_option maxRecDepth 10000 in
set_option maxHeartbeats 1600000 in
theorem ref2_Add_same (n1 : Bool) (a b : List Nat) (A A' : Option Addr) (ca cb : Nat) (w : World) (h : Rd w (fun g => g < w.heap.size) .u32 A a) (h' : Rd w (fun g => g < w.heap.size) .u32 A' b) (hl : a.length ≤ 268435456) (hl' : b.length ≤ 268435456) (ha : Dg 4294967296 a) (hb : Dg 4294967296 b) :
    Calls Tryz.prog 120 #[.agg #[.bool n1, .slice A a.length ca], .agg #[.bool n1, .slice A' b.length cb]] w (GivesW (wv n1 a + wv n1 b) w) := by
  obtain ⟨N, hN⟩ : ∃ N, wv n1 a + wv n1 b = N := ⟨_, rfl⟩
  rw [hN]
  have HE := Lib.hid hN
  clear hN
  obtain ⟨W, hW, k1, k2, k3, k4, k5, k6, k7⟩ := boxes2 w (.bool n1) (.slice A a.length ca) (.bool n1) (.slice A' b.length cb) 37 37
  have cM : Calls Tryz.prog 137 #[.slice A a.length ca, .slice A' b.length cb] W.drew (Gives .u32 4294967296 (val 4294967296 a + val 4294967296 b) W.drew) :=
    ref_add a b A A' ca cb _ _ _ (h.on (below_drewN k7 1)) (h'.on (below_drewN k7 1)) (fun g hg => hg) (fun g hg => hg) (by omega) (by omega) ha hb
  go_enter Tryz.func120, Tryz.ntmps120
  go_wp2_with fail
  try rw [hW]
  clear hW
  go_region_held3 (fun w' => w'.cell? ⟨w.heap.size, 0, none⟩ = some (.bool n1) ∧ w'.cell? ⟨w.heap.size, 1, none⟩ = some (.slice A a.length ca) ∧ w'.cell? ⟨w.heap.size + 1, 0, none⟩ = some (.bool n1) ∧ w'.cell? ⟨w.heap.size + 1, 1, none⟩ = some (.slice A' b.length cb))
    (first | exact cells4 k1 k2 k3 k4 (lower k6 hb1) | exact cells4 k1 k2 k3 k4 (lower k6 (hb1.trans (hb2.mono hb1.size))) | exact cells4 k1 k2 k3 k4 ((lower k6 (hb1.trans (hb2.mono hb1.size))).trans ((stored_whole f0 _ _).2.2.2 _ (Nat.le_refl _))) | go_keep)
    ((first
      | (go_at_call 137; (with_reducible refine Calls.mono cM ?_); rintro e w1 ⟨A1, xs, c1, rfl, hc1, hn1, hv1, hr1, hb1⟩; obtain ⟨hd1, ht1⟩ := hn1)
      | (go_at_call 125; (with_reducible refine Calls.mono (ref2_Make _ xs A1 c1 N _ hr1 ?_ hd1 ?_) ?_) <;> first | exact Nat.le_trans (len_add (b := 4294967296) (by omega) ht1 ha hb hv1 hl hl') (by omega) | exact (wv_add n1 hv1).trans HE.out | (rintro e w2 ⟨A2, ys, c2, rfl, hc2, hn2, hv2, hr2, hb2⟩; obtain ⟨f0, f1, f2, f3⟩ := place2 k5 k6 (hb1.trans (hb2.mono hb1.size))))))
  have HN := Lib.hid hn2
  have HV := Lib.hid hv2
  have b2 := hb1.trans (hb2.mono hb1.size)
  clear hd1 ht1 hv1 cM hn2 hv2
  obtain ⟨r0, r1, r2, r3⟩ := stored_whole f0 (.bool (decide (N < 0))) (.slice A2 ys.length c2)
  go_wp2_with fail
  exact bodyPost_ret (v := .agg #[.bool (decide (N < 0)), .slice A2 ys.length c2]) (by simp [results, Tryz.results120, go_sem, r0, r1]) rfl
    (gives_stored f0 ((below_drewN k7 1).trans (b2.mono (below_drewN k7 1).size)) (by omega) hc2 HN.out HV.out hr2 _ _)

set_option maxRecDepth 10000 in
set_option maxHeartbeats 3200000 in
theorem ref2_Add_other (n1 : Bool) (a b : List Nat) (A A' : Option Addr) (ca cb : Nat) (w : World) (h : Rd w (fun g => g < w.heap.size) .u32 A a) (h' : Rd w (fun g => g < w.heap.size) .u32 A' b) (hl : a.length ≤ 268435456) (hl' : b.length ≤ 268435456) (ha : Dg 4294967296 a) (hb : Dg 4294967296 b) :
    Calls Tryz.prog 120 #[.agg #[.bool n1, .slice A a.length ca], .agg #[.bool (!n1), .slice A' b.length cb]] w (GivesW (wv n1 a + wv (!n1) b) w) := by
  obtain ⟨N, hN⟩ : ∃ N, wv n1 a + wv (!n1) b = N := ⟨_, rfl⟩
  rw [hN]
  have HE := Lib.hid hN
  clear hN
  have F0 := Three.new w n1 (!n1) (.slice A a.length ca) (.slice A' b.length cb)
  have B0 := below_new3 w (.cells #[.bool n1, .slice A a.length ca] 37) (.cells #[.bool (!n1), .slice A' b.length cb] 37) (.cells #[.bool false, .slice none 0 0] 37)
  have cC := ref_Cmp a b A A' ca cb _ _ _ (h.on B0) (h'.on B0) (fun g hg => hg) (fun g hg => hg) (by omega) (by omega) ha hb
  by_cases hle : val 4294967296 b ≤ val 4294967296 a
  · obtain ⟨z, hz, hz0⟩ : ∃ z : Int, cmpI (val 4294967296 a) (val 4294967296 b) = z ∧ 0 ≤ z := ⟨_, rfl, by unfold cmpI; rw [if_neg (by omega)]; split <;> omega⟩
    rw [hz] at cC
    have HL := Lib.hid hle
    clear hle hz
    cases n1
    all_goals
      go_enter Tryz.func120, Tryz.ntmps120
      go_wp2_with fail
      refine cC.mono ?_
      rintro e w1 ⟨rfl, b1⟩
      have B1 := B0.trans (b1.mono B0.size)
      have F1 := F0.on b1
      obtain ⟨k1, k2, k3, k4⟩ := F1.boxes
      clear cC
      have cS := ref_Sub a b A A' ca cb _ _ w1 (h.on B1) (h'.on B1) (fun g hg => hg) (fun g hg => hg) (by omega) (by omega) ha hb
      rw [decide_eq_true HL.out] at cS
      go_wp2_with fail
      refine cS.mono ?_
      rintro e w2 ⟨A2, x, c2, rfl, hc2, hn2, hv2, hr2, b2⟩
      have B2 := B1.trans (b2.mono B1.size)
      have F2 := F1.on b2
      have HN2 := Lib.hid hn2
      have HV2 := Lib.hid hv2
      clear hn2 hv2 cS k1 k2 k3 k4
      obtain ⟨k1, k2, k3, k4⟩ := F2.boxes
      have hxl : x.length ≤ 1073741824 := Nat.le_trans (len_le (b := 4294967296) (by omega) HN2.out.2 ha (by rw [HV2.out]; omega)) (by omega)
      have cK := ref2_Make _ x A2 c2 N w2 hr2 hxl HN2.out.1 ((wv_sub _ HV2.out HL.out).trans HE.out)
      go_wp2_with fail
      refine cK.mono ?_
      rintro e w3 ⟨A3, y, c3, rfl, hc3, hn3, hv3, hr3, b3⟩
      have B3 := B2.trans (b3.mono B2.size)
      have F3 := F2.on b3
      have HN3 := Lib.hid hn3
      have HV3 := Lib.hid hv3
      clear hn3 hv3 cK k1 k2 k3 k4
      obtain ⟨f0, f1, f2, f3, f4⟩ := F3.place
      go_wp2_with fail
      obtain ⟨r0, r1, r2, r3⟩ := stored_whole f0 (.bool (decide (N < 0))) (.slice A3 y.length c3)
      exact bodyPost_ret (v := .agg #[.bool (decide (N < 0)), .slice A3 y.length c3]) (by simp [results, Tryz.results120, go_sem, r0, r1]) rfl
        (gives_stored f0 B3 (by omega) hc3 HN3.out HV3.out hr3 _ _)
  · obtain ⟨z, hz, hz0⟩ : ∃ z : Int, cmpI (val 4294967296 a) (val 4294967296 b) = z ∧ z < 0 := ⟨_, rfl, by unfold cmpI; rw [if_pos (by omega)]; omega⟩
    rw [hz] at cC
    have HL := Lib.hid (show val 4294967296 a ≤ val 4294967296 b by omega)
    clear hle hz
    cases n1
    all_goals
      go_enter Tryz.func120, Tryz.ntmps120
      go_wp2_with fail
      refine cC.mono ?_
      rintro e w1 ⟨rfl, b1⟩
      have B1 := B0.trans (b1.mono B0.size)
      have F1 := F0.on b1
      obtain ⟨k1, k2, k3, k4⟩ := F1.boxes
      clear cC
      have cS := ref_Sub b a A' A cb ca _ _ w1 (h'.on B1) (h.on B1) (fun g hg => hg) (fun g hg => hg) (by omega) (by omega) hb ha
      rw [decide_eq_true HL.out] at cS
      go_wp2_with fail
      refine cS.mono ?_
      rintro e w2 ⟨A2, x, c2, rfl, hc2, hn2, hv2, hr2, b2⟩
      have B2 := B1.trans (b2.mono B1.size)
      have F2 := F1.on b2
      have HN2 := Lib.hid hn2
      have HV2 := Lib.hid hv2
      clear hn2 hv2 cS k1 k2 k3 k4
      obtain ⟨k1, k2, k3, k4⟩ := F2.boxes
      have hxl : x.length ≤ 1073741824 := Nat.le_trans (len_le (b := 4294967296) (by omega) HN2.out.2 hb (by rw [HV2.out]; omega)) (by omega)
      have cK := ref2_Make _ x A2 c2 N w2 hr2 hxl HN2.out.1 ((wv_sub' _ HV2.out HL.out).trans HE.out)
      go_wp2_with fail
      refine cK.mono ?_
      rintro e w3 ⟨A3, y, c3, rfl, hc3, hn3, hv3, hr3, b3⟩
      have B3 := B2.trans (b3.mono B2.size)
      have F3 := F2.on b3
      have HN3 := Lib.hid hn3
      have HV3 := Lib.hid hv3
      clear hn3 hv3 cK k1 k2 k3 k4
      obtain ⟨f0, f1, f2, f3, f4⟩ := F3.place
      go_wp2_with fail
      obtain ⟨r0, r1, r2, r3⟩ := stored_whole f0 (.bool (decide (N < 0))) (.slice A3 y.length c3)
      exact bodyPost_ret (v := .agg #[.bool (decide (N < 0)), .slice A3 y.length c3]) (by simp [results, Tryz.results120, go_sem, r0, r1]) rfl
        (gives_stored f0 B3 (by omega) hc3 HN3.out HV3.out hr3 _ _)

theorem ref2_Add (n1 n2 : Bool) (a b : List Nat) (A A' : Option Addr) (ca cb : Nat) (w : World) (h : Rd w (fun g => g < w.heap.size) .u32 A a) (h' : Rd w (fun g => g < w.heap.size) .u32 A' b) (hl : a.length ≤ 268435456) (hl' : b.length ≤ 268435456) (ha : Dg 4294967296 a) (hb : Dg 4294967296 b) :
    Calls Tryz.prog 120 #[.agg #[.bool n1, .slice A a.length ca], .agg #[.bool n2, .slice A' b.length cb]] w (GivesW (wv n1 a + wv n2 b) w) := by
  by_cases e : n2 = n1
  · subst e; exact ref2_Add_same n2 a b A A' ca cb w h h' hl hl' ha hb
  · obtain rfl : n2 = !n1 := by cases n1 <;> cases n2 <;> simp_all
    exact ref2_Add_other n1 a b A A' ca cb w h h' hl hl' ha hb
end Go.Proofs.YtdmoibphidipeaaGreatDoor
/- Whole numbers, the document's own: what Sub, Cmp, Same answer. -/

namespace Go.Proofs.YtdmoibphidipeaaGreatDoor
open Go.RowKit Num

theorem wv_dec {N : Int} {xs : List Nat} (h : val 4294967296 xs = N.natAbs) : wv (decide (N < 0)) xs = N := by
  by_cases hn : N < 0
  · rw [decide_eq_true hn, wv_true]; omega
  · rw [decide_eq_false hn, wv_false]; omega
theorem len_abs {xs a : List Nat} (hn : Norm 4294967296 xs) (ha : Dg 4294967296 a) {N : Int} (h : val 4294967296 xs = N.natAbs) (hN : N.natAbs ≤ val 4294967296 a) : xs.length ≤ a.length :=
  len_le (b := 4294967296) (by omega) hn.2 ha (by omega)
theorem len_sum {xs a b : List Nat} {n : Nat} (hn : Norm 4294967296 xs) (ha : Dg 4294967296 a) (hb : Dg 4294967296 b) {N : Int} (h : val 4294967296 xs = N.natAbs) (hN : N.natAbs ≤ val 4294967296 a + val 4294967296 b) (h1 : a.length ≤ n) (h2 : b.length ≤ n) : xs.length ≤ n + 1 := by
  refine hn.2.length_le (b := 4294967296) (by omega) ?_
  have k1 := val_lt_pow ha (by omega) h1
  have k2 := val_lt_pow hb (by omega) h2
  rw [h, Nat.pow_succ]
  omega

set_option maxRecDepth 10000 in
set_option maxHeartbeats 1600000 in
theorem ref2_Sub (n1 n2 : Bool) (a b : List Nat) (A A' : Option Addr) (ca cb : Nat) (w : World) (h : Rd w (fun g => g < w.heap.size) .u32 A a) (h' : Rd w (fun g => g < w.heap.size) .u32 A' b) (hl : a.length ≤ 268435456) (hl' : b.length ≤ 268435456) (ha : Dg 4294967296 a) (hb : Dg 4294967296 b) :
    Calls Tryz.prog 124 #[.agg #[.bool n1, .slice A a.length ca], .agg #[.bool n2, .slice A' b.length cb]] w (GivesW (wv n1 a - wv n2 b) w) := by
  obtain ⟨N, hN⟩ : ∃ N, wv n1 a - wv n2 b = N := ⟨_, rfl⟩
  rw [hN]
  have HE := Lib.hid hN
  have xb := wv_abs n2 b
  obtain ⟨M, hM⟩ : ∃ M, - wv n2 b = M := ⟨_, rfl⟩
  have HM := Lib.hid (show wv n1 a + M = N by omega)
  have HMb := Lib.hid (show M.natAbs ≤ val 4294967296 b by omega)
  obtain ⟨W, hW, k1, k2, k3, k4, k5, k6, k7⟩ := boxes2 w (.bool n1) (.slice A a.length ca) (.bool n2) (.slice A' b.length cb) 37 37
  have cM := ref2_Neg n2 b A' cb W.drew (h'.on (below_drewN k7 1)) (by omega) hb
  rw [hM] at cM
  clear hN hM xb
  go_enter Tryz.func124, Tryz.ntmps124
  go_wp2_with fail
  try rw [hW]
  clear hW
  go_region_held3 (fun w' => w'.cell? ⟨w.heap.size, 0, none⟩ = some (.bool n1) ∧ w'.cell? ⟨w.heap.size, 1, none⟩ = some (.slice A a.length ca) ∧ w'.cell? ⟨w.heap.size + 1, 0, none⟩ = some (.bool n2) ∧ w'.cell? ⟨w.heap.size + 1, 1, none⟩ = some (.slice A' b.length cb))
    (first | exact cells4 k1 k2 k3 k4 (lower k6 hb1) | exact cells4 k1 k2 k3 k4 (lower k6 (hb1.trans (hb2.mono hb1.size))) | exact cells4 k1 k2 k3 k4 ((lower k6 (hb1.trans (hb2.mono hb1.size))).trans ((stored_whole f0 _ _).2.2.2 _ (Nat.le_refl _))) | go_keep)
    ((first
      | (go_at_call 126; (with_reducible refine Calls.mono cM ?_); rintro e w1 ⟨A1, xs, c1, rfl, hc1, hn1, hv1, hr1, hb1⟩; have K1 : Below w.heap.size w w1 := (below_drewN k7 1).trans (hb1.mono (below_drewN k7 1).size); obtain ⟨hd1, ht1⟩ := hn1)
      | (go_at_call 120; (with_reducible refine Calls.mono (ref2_Add n1 _ a xs A A1 ca c1 _ (h.on K1) hr1 hl ?_ ha hd1) ?_) <;> first | exact Nat.le_trans (len_abs ⟨hd1, ht1⟩ hb hv1 HMb.out) hl' | (rintro e w2 ⟨A2, ys, c2, rfl, hc2, hn2, hv2, hr2, hb2⟩; obtain ⟨f0, f1, f2, f3⟩ := place2 k5 k6 (hb1.trans (hb2.mono hb1.size))))))
  have HS := Lib.hid (show wv n1 a + wv (decide (M < 0)) xs = N by rw [wv_dec hv1]; exact HM.out)
  rw [HS.out]
  have HN := Lib.hid hn2
  have HV := Lib.hid (hv2.trans (by rw [HS.out]))
  have b2 := hb1.trans (hb2.mono hb1.size)
  clear hv1 cM hn2 hv2
  obtain ⟨r0, r1, r2, r3⟩ := stored_whole f0 (.bool (decide (N < 0))) (.slice A2 ys.length c2)
  go_wp2_with fail
  exact bodyPost_ret (v := .agg #[.bool (decide (N < 0)), .slice A2 ys.length c2]) (by simp [results, Tryz.results124, go_sem, r0, r1]) rfl
    (gives_stored f0 ((below_drewN k7 1).trans (b2.mono (below_drewN k7 1).size)) (by omega) hc2 HN.out HV.out hr2 _ _)

set_option maxRecDepth 10000 in
set_option maxHeartbeats 1600000 in
theorem ref2_Cmp (n1 n2 : Bool) (a b : List Nat) (A A' : Option Addr) (ca cb : Nat) (w : World) (h : Rd w (fun g => g < w.heap.size) .u32 A a) (h' : Rd w (fun g => g < w.heap.size) .u32 A' b) (hl : a.length ≤ 268435456) (hl' : b.length ≤ 268435456) (ha : Dg 4294967296 a) (hb : Dg 4294967296 b) :
    Calls Tryz.prog 77 #[.agg #[.bool n1, .slice A a.length ca], .agg #[.bool n2, .slice A' b.length cb]] w fun e w' => e = .returned (.int .i64 (sgn (wv n1 a - wv n2 b))) ∧ Below w.heap.size w w' := by
  have xa := wv_abs n1 a
  have xb := wv_abs n2 b
  have B0 := below_new2 w (.cells #[.bool n1, .slice A a.length ca] 37) (.cells #[.bool n2, .slice A' b.length cb] 37)
  have cS := ref2_Sub n1 n2 a b A A' ca cb _ (h.on B0) (h'.on B0) hl hl' ha hb
  obtain ⟨N, hN⟩ : ∃ N, wv n1 a - wv n2 b = N := ⟨_, rfl⟩
  rw [hN] at cS ⊢
  have HB := Lib.hid (show N.natAbs ≤ val 4294967296 a + val 4294967296 b by omega)
  clear hN xa xb
  go_enter Tryz.func77, Tryz.ntmps77
  go_wp2_with fail
  refine cS.mono ?_
  rintro e w1 ⟨A1, xs, c1, rfl, hc1, hn1, hv1, hr1, b1⟩
  have HN := Lib.hid hn1
  have HV := Lib.hid hv1
  clear hn1 hv1 cS
  have hxl : xs.length ≤ 536870912 := Nat.le_trans (len_sum HN.out ha hb HV.out HB.out hl hl') (by omega)
  have cG := ref2_Sign (decide (N < 0)) xs A1 c1 w1 hr1 hxl HN.out.1
  rw [wv_dec HV.out] at cG
  go_wp2_with fail
  refine cG.mono ?_
  rintro e w2 ⟨rfl, b2⟩
  go_wp2_with fail
  go_ret
  exact ⟨rfl, B0.trans ((b1.trans (b2.mono b1.size)).mono B0.size)⟩

end Go.Proofs.YtdmoibphidipeaaGreatDoor
