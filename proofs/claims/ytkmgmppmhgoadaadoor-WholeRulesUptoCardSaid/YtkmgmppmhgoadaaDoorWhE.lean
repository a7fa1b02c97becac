/- Whole numbers: what Cmp answers. -/
import Derived.Test.YtkmgmppmhgoadaaDoorWhD
import Derived.Deep.CutRange
namespace Go.Proofs.YtkmgmppmhgoadaaDoor
open Go.RowKit Num

/-- two arguments in their boxes -/
theorem boxes20 (w : World) (x y p q : Value) (t : TypeId) : ∃ W, ((w.alloc (.cells #[x, y] t)).alloc (.cells #[p, q] t)) = W ∧
    W.cell? ⟨w.heap.size, 0, none⟩ = some x ∧ W.cell? ⟨w.heap.size, 1, none⟩ = some y ∧ W.cell? ⟨w.heap.size + 1, 0, none⟩ = some p ∧ W.cell? ⟨w.heap.size + 1, 1, none⟩ = some q ∧
    W.heap.size = w.heap.size + 2 ∧ Below w.heap.size w W := by
  have s1 : ∀ (u : World) (o : Obj), (u.alloc o).heap.size = u.heap.size + 1 := fun u o => by simp
  have e1 : ((w.alloc (.cells #[x, y] t)).alloc (.cells #[p, q] t)).heap[w.heap.size]? = some (.cells #[x, y] t (0, 0)) := by
    rw [Below.heap_alloc _ _ _ (by rw [s1]; omega)]
    exact heap_alloc_new w _
  have e3 : ((w.alloc (.cells #[x, y] t)).alloc (.cells #[p, q] t)).heap[w.heap.size + 1]? = some (.cells #[p, q] t (0, 0)) := by
    rw [← s1 w (.cells #[x, y] t)]
    exact heap_alloc_new _ _
  exact ⟨_, rfl, by rw [cell_of_row _ _ _ _ _ _ e1]; rfl, by rw [cell_of_row _ _ _ _ _ _ e1]; rfl, by rw [cell_of_row _ _ _ _ _ _ e3]; rfl, by rw [cell_of_row _ _ _ _ _ _ e3]; rfl, by rw [s1, s1], below_new2 _ _ _⟩
theorem low_new2 {B : Nat} {W w2 : World} (h : Below B W w2) (hB : B ≤ w2.heap.size) (o o' : Obj) : Below B W ((w2.alloc o).alloc o') := (h.alloc hB o).alloc (by simp; omega) o'
theorem keep4 {W w1 : World} {g B : Nat} {x y p q : Value} (k1 : W.cell? ⟨g, 0, none⟩ = some x) (k2 : W.cell? ⟨g, 1, none⟩ = some y) (k3 : W.cell? ⟨g + 1, 0, none⟩ = some p) (k4 : W.cell? ⟨g + 1, 1, none⟩ = some q) (hB : g + 2 ≤ B) (hb : Below B W w1) :
    w1.cell? ⟨g, 0, none⟩ = some x ∧ w1.cell? ⟨g, 1, none⟩ = some y ∧ w1.cell? ⟨g + 1, 0, none⟩ = some p ∧ w1.cell? ⟨g + 1, 1, none⟩ = some q :=
  ⟨(hb.cell (p := ⟨g, 0, none⟩) (show g < B by omega)).trans k1, (hb.cell (p := ⟨g, 1, none⟩) (show g < B by omega)).trans k2, (hb.cell (p := ⟨g + 1, 0, none⟩) (show g + 1 < B by omega)).trans k3, (hb.cell (p := ⟨g + 1, 1, none⟩) (show g + 1 < B by omega)).trans k4⟩

theorem seen0 {W w1 : World} (h : Below W.heap.size W w1) : Below W.heap.size W w1 ∧ W.heap.size ≤ w1.heap.size := ⟨h, h.size⟩
theorem seen1 {W w1 : World} {o : Obj} (h : Below (W.alloc o).heap.size (W.alloc o) w1) : (Below W.heap.size W w1 ∧ W.heap.size < w1.heap.size) ∧ w1.heap[W.heap.size]? = some o := by
  have s := h.size
  simp only [World.size_alloc] at s
  exact ⟨⟨(below_new _ _).trans (h.mono (by simp)), by omega⟩, (h.block _ (by simp)).trans (heap_alloc_new W o)⟩
theorem seen2 {W w1 : World} {o o' : Obj} (h : Below ((W.alloc o).alloc o').heap.size ((W.alloc o).alloc o') w1) : (Below W.heap.size W w1 ∧ W.heap.size + 1 < w1.heap.size) ∧ w1.heap[W.heap.size]? = some o ∧ w1.heap[W.heap.size + 1]? = some o' := by
  have s := h.size
  simp only [World.size_alloc] at s
  refine ⟨⟨(below_new2 _ _ _).trans (h.mono (by simp; omega)), by omega⟩, (h.block _ (by simp; omega)).trans ((Below.heap_alloc _ _ _ (by simp)).trans (heap_alloc_new W o)), (h.block _ (by simp)).trans ?_⟩
  rw [← World.size_alloc W o]
  exact heap_alloc_new _ o'

theorem size_alloc_ok {B : Nat} {w : World} (h : B ≤ w.heap.size) (o : Obj) : B ≤ (w.alloc o).heap.size := by simp; omega
theorem size_set_ok {B : Nat} {w : World} (h : B ≤ w.heap.size) (p : Addr) (u : Value) : B ≤ (w.setCell p u).heap.size := by simpa using h
theorem seen0d {W w1 : World} (h : Below W.drew.heap.size W.drew w1) : Below W.heap.size W.drew w1 ∧ W.heap.size ≤ w1.heap.size := seen0 (W := W.drew) h
theorem seen1d {W w1 : World} {o : Obj} (h : Below (W.alloc o).drew.heap.size (W.alloc o).drew w1) : (Below W.heap.size W.drew w1 ∧ W.heap.size < w1.heap.size) ∧ w1.heap[W.heap.size]? = some o := seen1 (W := W.drew) h
theorem seen2d {W w1 : World} {o o' : Obj} (h : Below ((W.alloc o).alloc o').drew.heap.size ((W.alloc o).alloc o').drew w1) : (Below W.heap.size W.drew w1 ∧ W.heap.size + 1 < w1.heap.size) ∧ w1.heap[W.heap.size]? = some o ∧ w1.heap[W.heap.size + 1]? = some o' := seen2 (W := W.drew) h

theorem sgn_cmp {X Y : Int} {x y : Nat} (h : X - Y = (x : Int) - y) : sgn (X - Y) = cmpI x y := by
  rw [h]; unfold sgn cmpI
  by_cases h1 : x < y
  · rw [if_pos (by omega), if_pos h1]
  · rw [if_neg (by omega), if_neg h1]
    by_cases h2 : y < x
    · rw [if_pos (by omega), if_pos h2]
    · rw [if_neg (by omega), if_neg h2]

set_option maxRecDepth 10000 in
set_option maxHeartbeats 1600000 in
theorem whole_Cmp (n1 n2 : Bool) (a b : List Nat) (A A' : Option Addr) (ca cb : Nat) (w : World) (h : Rd w (fun g => g < w.heap.size) .u32 A a) (h' : Rd w (fun g => g < w.heap.size) .u32 A' b) (hl : a.length ≤ 1073741824) (hl' : b.length ≤ 1073741824) (hc : a.length ≤ ca) (hc' : b.length ≤ cb) (ha : Dg 4294967296 a) (hb : Dg 4294967296 b) :
    Calls Tryd.prog 15 #[.agg #[.bool n1, .slice A a.length ca], .agg #[.bool n2, .slice A' b.length cb]] w fun e w' => e = .returned (.int .i64 (sgn (wv n1 a - wv n2 b))) ∧ Below w.heap.size w w' := by
  obtain ⟨W, hW, k1, k2, k3, k4, k5, k6⟩ := boxes20 w (.bool n1) (.slice A a.length ca) (.bool n2) (.slice A' b.length cb) 24
  have hW1 : w.heap.size + 1 < W.heap.size := by omega
  have HW := Lib.hid k5
  clear k5
  go_enter Tryd.func15, Tryd.ntmps15
  go_wp2_with fail
  try rw [hW]
  clear hW
  go_cut [5, 6] from 7 (fun v5 v6 wc => ∃ g5 g6, v5 = .pointer (some ⟨g5, 0, none⟩) ∧ v6 = .pointer (some ⟨g6, 0, none⟩) ∧ wc.cell? ⟨g5, 0, none⟩ = some (.bool (decide (wv n1 a < 0))) ∧ wc.cell? ⟨g5, 1, none⟩ = some (.slice A a.length ca) ∧ wc.cell? ⟨g6, 0, none⟩ = some (.bool (decide (wv n2 b < 0))) ∧ wc.cell? ⟨g6, 1, none⟩ = some (.slice A' b.length cb) ∧ Below w.heap.size w wc)
  case first =>
    go_region_held3 (fun w' => w'.cell? ⟨w.heap.size, 0, none⟩ = some (.bool n1) ∧ w'.cell? ⟨w.heap.size, 1, none⟩ = some (.slice A a.length ca) ∧ w'.cell? ⟨w.heap.size + 1, 0, none⟩ = some (.bool n2) ∧ w'.cell? ⟨w.heap.size + 1, 1, none⟩ = some (.slice A' b.length cb))
      (first | exact keep4 (W := W.drew) k1 k2 k3 k4 hW1 X1 | exact keep4 (W := W.drew) k1 k2 k3 k4 hW1 (X1.trans (X12.mono X1.size)) | (refine keep4 (W := W.drew) k1 k2 k3 k4 hW1 ?_; (repeat (first | refine Below.setCell ?_ (by first | exact Nat.le_refl _ | (dsimp only; omega)) _ | refine Below.alloc ?_ (by repeat (first | omega | refine size_alloc_ok ?_ _ | refine size_set_ok ?_ _ _)) _)); exact X1.trans (X12.mono X1.size)) | go_keep)
      ((first
        | (go_at_call 43; (with_reducible refine Calls.mono (whole_hold n1 a A ca _ ?_ hl hc ha) ?_) <;> first | (refine Num.Rd.on h ?_; first | exact below_drewN k6 1 | exact below_drewN (k6.alloc k6.size _) 1 | exact below_drewN ((k6.alloc k6.size _).alloc (size_alloc_ok k6.size _) _) 1) | (rintro e w1 ⟨rfl, hb1⟩; (first | (guard_hyp hb1 : Below W.drew.heap.size W.drew w1; obtain ⟨X1, s1⟩ := seen0d hb1) | (guard_hyp hb1 : Below (W.alloc (.cells #[.bool false, .slice none 0 0] 53)).drew.heap.size (W.alloc (.cells #[.bool false, .slice none 0 0] 53)).drew w1; obtain ⟨⟨X1, s1⟩, p1⟩ := seen1d hb1; obtain ⟨q0, q1, q2, q3⟩ := cells_of p1) | (obtain ⟨⟨X1, s1⟩, p1, p2⟩ := seen2d hb1; obtain ⟨q0, q1, q2, q3⟩ := cells_of p1; obtain ⟨q4, q5, q6, q7⟩ := cells_of p2)); have K1 : Below w.heap.size w w1 := Below.trans (below_drewN k6 1) (X1.mono k6.size)))
        | (go_at_call 43; (with_reducible refine Calls.mono (whole_hold n2 b A' cb _ ?_ hl' hc' hb) ?_) <;> first | (refine Num.Rd.on h' ?_; first | exact K1 | exact K1.alloc K1.size _ | exact (K1.alloc K1.size _).alloc (size_alloc_ok K1.size _) _) | (rintro e w2 ⟨rfl, hb2⟩; (first | (guard_hyp hb2 : Below w1.heap.size w1 w2; obtain ⟨X12, s2⟩ := seen0 (W := w1) hb2) | (guard_hyp hb2 : Below (w1.alloc (.cells #[.bool false, .slice none 0 0] 53)).heap.size (w1.alloc (.cells #[.bool false, .slice none 0 0] 53)) w2; obtain ⟨⟨X12, s2⟩, p3⟩ := seen1 (W := w1) hb2; obtain ⟨u0, u1, u2, u3⟩ := cells_of p3) | (obtain ⟨⟨X12, s2⟩, p3, p4⟩ := seen2 (W := w1) hb2; obtain ⟨u0, u1, u2, u3⟩ := cells_of p3; obtain ⟨u4, u5, u6, u7⟩ := cells_of p4)); (try have z1 : W.heap.size < w2.heap.size := (by omega)); (try have z2 : W.heap.size + 1 < w2.heap.size := (by omega)); (try have z3 : W.heap.size < w1.heap.size := (by omega)); (try (have r1 := (X12.block _ (by first | exact s1 | exact Nat.lt_of_succ_lt s1)).trans p1; obtain ⟨v0, v1, v2, v3⟩ := cells_of r1)); (try (have r2 := (X12.block _ s1).trans p2; obtain ⟨x0, x1, x2, x3⟩ := cells_of r2))))))
    all_goals
      have K2 : Below w.heap.size w w2 := K1.trans (X12.mono K1.size)
      have HK := Lib.hid K2
      clear K2 K1 X1 X12 hb1 hb2
      go_wp2_with fail
      go_meet
      refine ⟨_, _, rfl, rfl, ?_, ?_, ?_, ?_, ?_⟩
      · go_simp
      · go_simp
      · go_simp
      · go_simp
      · have s0 := HK.out.size
        repeat (first | exact HK.out | refine Below.setCell ?_ (by dsimp only; omega) _ | refine Below.alloc ?_ (by repeat (first | omega | refine size_alloc_ok ?_ _ | refine size_set_ok ?_ _ _)) _)
  case rest =>
    clear hW1 HW k1 k2 k3 k4 k6
    obtain ⟨g5, g6, rfl, rfl, c1, c2, c3, c4, B⟩ := hcut
    have xa := wv_abs n1 a
    have ya := wv_abs n2 b
    have cA := nat_Cmp a b A A' ca cb _ _ wc (h.on B) (h'.on B) hl hl' hc hc' ha hb
    have cB := nat_Cmp b a A' A cb ca _ _ wc (h'.on B) (h.on B) hl' hl hc' hc hb ha
    by_cases hx : wv n1 a < 0 <;> by_cases hy : wv n2 b < 0
    · rw [decide_eq_true hx] at c1
      rw [decide_eq_true hy] at c3
      rw [← sgn_cmp (X := wv n1 a) (Y := wv n2 b) (by omega)] at cB
      clear cA hx hy xa ya
      go_wp2_with fail
      refine cB.mono ?_
      rintro e w3 ⟨rfl, m, hw3⟩
      have B3 : Below w.heap.size w w3 := by rw [hw3]; exact below_drewN B m
      clear hw3 cB
      go_wp2_with fail
      go_ret
      exact ⟨rfl, B3⟩
    · rw [decide_eq_true hx] at c1
      rw [decide_eq_false hy] at c3
      have HS := Lib.hid (show sgn (wv n1 a - wv n2 b) = -1 by unfold sgn; rw [if_pos (by omega)])
      clear cA cB hx hy xa ya
      go_wp2_with fail
      go_ret
      exact ⟨by rw [HS.out]; rfl, B⟩
    · rw [decide_eq_false hx] at c1
      rw [decide_eq_true hy] at c3
      have HS := Lib.hid (show sgn (wv n1 a - wv n2 b) = 1 by unfold sgn; rw [if_neg (by omega), if_pos (by omega)])
      clear cA cB hx hy xa ya
      go_wp2_with fail
      go_ret
      exact ⟨by rw [HS.out]; rfl, B⟩
    · rw [decide_eq_false hx] at c1
      rw [decide_eq_false hy] at c3
      rw [← sgn_cmp (X := wv n1 a) (Y := wv n2 b) (by omega)] at cA
      clear cB hx hy xa ya
      go_wp2_with fail
      refine cA.mono ?_
      rintro e w3 ⟨rfl, m, hw3⟩
      have B3 : Below w.heap.size w w3 := by rw [hw3]; exact below_drewN B m
      clear hw3 cA
      go_wp2_with fail
      go_ret
      exact ⟨rfl, B3⟩
end Go.Proofs.YtkmgmppmhgoadaaDoor
