/- Whole numbers, the document's own: what Make, Neg, Sign, Mul answer. -/
import Derived.Test.YtkmgmppmhgoadaaDoorWhD
import Derived.Test.YtkmgmppmhgoadaaDoorRefG
namespace Go.Proofs.YtkmgmppmhgoadaaDoor
open Go.RowKit Num

/-- an argument in its box, behind calls -/
theorem box_cells {w w1 : World} {x y : Value} {t : TypeId} (hb : Below (w.alloc (.cells #[x, y] t)).heap.size (w.alloc (.cells #[x, y] t)) w1) : w1.cell? ⟨w.heap.size, 0, none⟩ = some x ∧ w1.cell? ⟨w.heap.size, 1, none⟩ = some y := by
  have h : w1.heap[w.heap.size]? = some (.cells #[x, y] t (0, 0)) := (hb.block w.heap.size (by simp)).trans (heap_alloc_new w _)
  exact ⟨by rw [cell_of_row _ _ _ _ _ _ h]; rfl, by rw [cell_of_row _ _ _ _ _ _ h]; rfl⟩

set_option maxRecDepth 10000 in
set_option maxHeartbeats 800000 in
theorem ref2_Make (neg : Bool) (a : List Nat) (A : Option Addr) (ca : Nat) (N : Int) (w : World) (h : Rd w (fun g => g < w.heap.size) .u32 A a) (hl : a.length ≤ 1073741824) (ha : Dg 4294967296 a) (hN : wv neg a = N) :
    Calls Tryd.prog 29 #[.bool neg, .slice A a.length ca] w (GivesW N w) := by
  have HE := Lib.hid hN
  clear hN
  have B0 := below_new w (.cells #[.bool false, .slice none 0 0] 24)
  have cH := ref_half a A ca _ _ (h.on B0) (fun g hg => hg) hl ha
  cases neg
  all_goals
    go_enter Tryd.func29, Tryd.ntmps29
    go_wp2_with fail
    refine cH.mono ?_
    rintro e w1 ⟨A1, x, c1, rfl, hc1, hl1, hn1, hv1, hr1, b1⟩
    have HN1 := Lib.hid hn1
    have HV1 := Lib.hid hv1
    clear hn1 hv1 cH
    have cW := ref_words x A1 c1 _ _ hr1 (fun g hg => hg.2) (by omega) hc1 HN1.out.1
    go_wp2_with fail
    refine cW.mono ?_
    rintro e w2 ⟨A2, y, c2, rfl, hc2, hn2, hv2, hr2, b2⟩
    have HN2 := Lib.hid hn2
    have HV2 := Lib.hid ((wv_ext _ (hv2.trans HV1.out)).trans HE.out)
    have b12 := b1.trans (b2.mono b1.size)
    obtain ⟨f0, f1, f2, f3⟩ := new_whole w b12
    clear hn2 hv2 cW
    go_wp2_with fail
  · have HD := Lib.hid (show decide (N < 0) = false by rw [← HV2.out]; simp [wv])
    obtain ⟨r0, r1, r2, r3⟩ := stored_whole f0 (.bool false) (.slice A2 y.length c2)
    refine bodyPost_ret (v := .agg #[.bool false, .slice A2 y.length c2]) (by simp [results, Tryd.results29, go_sem, r0, r1]) rfl ?_
    rw [← HD.out]
    exact gives_stored f0 (B0.trans (b12.mono B0.size)) (Nat.le_refl _) hc2 HN2.out (abs_of HV2.out) (hr2.imp fun g hg => hg.2) _ _
  · have HD := Lib.hid (show decide (N < 0) = decide (0 < y.length) by rw [← HV2.out, ← sign_of true HN2.out]; simp)
    obtain ⟨r0, r1, r2, r3⟩ := stored_whole f0 (.bool (decide (0 < y.length))) (.slice A2 y.length c2)
    refine bodyPost_ret (v := .agg #[.bool (decide (0 < y.length)), .slice A2 y.length c2]) (by simp [results, Tryd.results29, go_sem, r0, r1]) rfl ?_
    rw [← HD.out]
    exact gives_stored f0 (B0.trans (b12.mono B0.size)) (Nat.le_refl _) hc2 HN2.out (abs_of HV2.out) (hr2.imp fun g hg => hg.2) _ _

set_option maxRecDepth 10000 in
set_option maxHeartbeats 800000 in
theorem ref2_Neg (n1 : Bool) (a : List Nat) (A : Option Addr) (ca : Nat) (w : World) (h : Rd w (fun g => g < w.heap.size) .u32 A a) (hl : a.length ≤ 1073741824) (ha : Dg 4294967296 a) :
    Calls Tryd.prog 20 #[.agg #[.bool n1, .slice A a.length ca]] w (GivesW (- wv n1 a) w) := by
  have B0 := below_new2 w (.cells #[.bool n1, .slice A a.length ca] 24) (.cells #[.bool false, .slice none 0 0] 24)
  have ct := ref2_Make (!n1) a A ca _ _ (h.on B0) hl ha rfl
  obtain ⟨N, hN⟩ : ∃ N, - wv n1 a = N := ⟨_, rfl⟩
  rw [wv_not, hN] at ct
  rw [hN]
  clear hN
  go_enter Tryd.func20, Tryd.ntmps20
  go_wp2_with fail
  refine ct.mono ?_
  rintro e w2 ⟨A1, xs, c1, rfl, hc1, hn1, hv1, hr1, b2⟩
  have HN := Lib.hid hn1
  have HV := Lib.hid hv1
  clear hn1 hv1 ct
  obtain ⟨f0, f1, f2, f3⟩ := new_whole_at _ (w.heap.size + 1) (by simp) b2
  go_wp2_with fail
  obtain ⟨r0, r1, r2, r3⟩ := stored_whole f0 (.bool (decide (N < 0))) (.slice A1 xs.length c1)
  exact bodyPost_ret (v := .agg #[.bool (decide (N < 0)), .slice A1 xs.length c1]) (by simp [results, Tryd.results20, go_sem, r0, r1]) rfl
    (gives_stored f0 (B0.trans (b2.mono B0.size)) (by omega) hc1 HN.out HV.out hr1 _ _)

set_option maxRecDepth 10000 in
set_option maxHeartbeats 1600000 in
theorem ref2_Sign (n1 : Bool) (a : List Nat) (A : Option Addr) (ca : Nat) (w : World) (h : Rd w (fun g => g < w.heap.size) .u32 A a) (hl : a.length ≤ 536870912) (ha : Dg 4294967296 a) :
    Calls Tryd.prog 18 #[.agg #[.bool n1, .slice A a.length ca]] w fun e w' => e = .returned (.int .i64 (sgn (wv n1 a))) ∧ Below w.heap.size w w' := by
  obtain ⟨n, hn⟩ := isBits_some (val 4294967296 a)
  have hz := isBits_zero_iff hn
  have B0 := below_new w (.cells #[.bool n1, .slice A a.length ca] 24)
  obtain ⟨z, hzn⟩ : ∃ z : Int, z = n := ⟨_, rfl⟩
  have cB : Calls Tryd.prog 46 #[.slice A a.length ca] (w.alloc (.cells #[.bool n1, .slice A a.length ca] 24)) fun e w' => e = .returned (.int .i64 z) ∧ Below (w.alloc (.cells #[.bool n1, .slice A a.length ca] 24)).heap.size (w.alloc (.cells #[.bool n1, .slice A a.length ca] 24)) w' := by
    refine (ref_Bits a A ca _ _ (h.on B0) (fun g hg => hg) hl ha).mono ?_
    rintro e w' ⟨m, rfl, hm, hb⟩
    obtain rfl := hm.unique hn
    exact ⟨by rw [hzn], hb⟩
  have hs : (z = 0 ∧ sgn (wv n1 a) = 0) ∨ (0 < z ∧ n1 = true ∧ sgn (wv n1 a) = -1) ∨ (0 < z ∧ n1 = false ∧ sgn (wv n1 a) = 1) := by
    have hab := wv_abs n1 a
    rcases Nat.eq_zero_or_pos n with h0 | h0
    · have : wv n1 a = 0 := by omega
      exact .inl ⟨by omega, by rw [this]; rfl⟩
    · cases n1
      · refine .inr (.inr ⟨by omega, rfl, ?_⟩)
        unfold sgn
        rw [wv_false] at *
        rw [if_neg (by omega), if_pos (by omega)]
      · refine .inr (.inl ⟨by omega, rfl, ?_⟩)
        unfold sgn
        rw [wv_true] at *
        rw [if_pos (by omega)]
  clear hz hn hzn
  rcases hs with ⟨rfl, hs⟩ | ⟨h0, rfl, hs⟩ | ⟨h0, rfl, hs⟩
  all_goals
    rw [hs]
    clear hs
    go_enter Tryd.func18, Tryd.ntmps18
    go_wp2_with fail
    refine cB.mono ?_
    rintro e w1 ⟨rfl, b1⟩
    obtain ⟨k1, k2⟩ := box_cells b1
    clear cB
    go_wp2_with fail
    go_ret
    exact ⟨rfl, B0.trans (b1.mono B0.size)⟩
end Go.Proofs.YtkmgmppmhgoadaaDoor
