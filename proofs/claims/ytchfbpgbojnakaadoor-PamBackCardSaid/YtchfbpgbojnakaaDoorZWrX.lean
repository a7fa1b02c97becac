/- Whole numbers, the document's own: what Make, Neg, Sign, Mul answer. -/
import Derived.Test.YtchfbpgbojnakaaDoorZWhX
import Derived.Test.YtchfbpgbojnakaaDoorZRefY
import Derived.Test.YtchfbpgbojnakaaDoorZRefX
namespace Go.Proofs.YtchfbpgbojnakaaDoor
open Go.RowKit Num

/-- an argument in its box, behind calls -/
theorem box_cells {w w1 : World} {x y : Value} {t : TypeId} (hb : Below (w.alloc (.cells #[x, y] t)).heap.size (w.alloc (.cells #[x, y] t)) w1) : w1.cell? ⟨w.heap.size, 0, none⟩ = some x ∧ w1.cell? ⟨w.heap.size, 1, none⟩ = some y := by
  have h : w1.heap[w.heap.size]? = some (.cells #[x, y] t (0, 0)) := (hb.block w.heap.size (by simp)).trans (heap_alloc_new w _)
  exact ⟨by rw [cell_of_row _ _ _ _ _ _ h]; rfl, by rw [cell_of_row _ _ _ _ _ _ h]; rfl⟩

set_option maxRecDepth 10000 in
set_option maxHeartbeats 800000 in
theorem ref2_Make (neg : Bool) (a : List Nat) (A : Option Addr) (ca : Nat) (N : Int) (w : World) (h : Rd w (fun g => g < w.heap.size) .u32 A a) (hl : a.length ≤ 1073741824) (ha : Dg 4294967296 a) (hN : wv neg a = N) :
    Calls Tryd.prog 43 #[.bool neg, .slice A a.length ca] w (GivesW N w) := by
  have HE := Lib.hid hN
  clear hN
  have B0 := below_new w (.cells #[.bool false, .slice none 0 0] 68)
  have cH := ref_half a A ca _ _ (h.on B0) (fun g hg => hg) hl ha
  cases neg
  all_goals
    go_enter Tryd.func43, Tryd.ntmps43
    go_wp2_with fail
    refine cH.mono ?_
    rintro e w1 ⟨A1, x, c1, rfl, hc1, hl1, hn1, hv1, hr1, b1⟩
    have HN1 := Lib.hid hn1
    have HV1 := Lib.hid hv1
    clear hn1 hv1 cH
    have cW := ref_words x A1 c1 _ _ hr1 (fun g hg => hg.2) (by omega) hc1 HN1.out.1
    go_wp2_with fail
    refine cW.mono ?_
    rintro e w2 ⟨A2, y, c2, rfl, hc2, hn2, hv2, hr2, b2⟩
    have HN2 := Lib.hid hn2
    have HV2 := Lib.hid ((wv_ext _ (hv2.trans HV1.out)).trans HE.out)
    have b12 := b1.trans (b2.mono b1.size)
    obtain ⟨f0, f1, f2, f3⟩ := new_whole w b12
    clear hn2 hv2 cW
    go_wp2_with fail
  · have HD := Lib.hid (show decide (N < 0) = false by rw [← HV2.out]; simp [wv])
    obtain ⟨r0, r1, r2, r3⟩ := stored_whole f0 (.bool false) (.slice A2 y.length c2)
    refine bodyPost_ret (v := .agg #[.bool false, .slice A2 y.length c2]) (by simp [results, Tryd.results43, go_sem, r0, r1]) rfl ?_
    rw [← HD.out]
    exact gives_stored f0 (B0.trans (b12.mono B0.size)) (Nat.le_refl _) hc2 HN2.out (abs_of HV2.out) (hr2.imp fun g hg => hg.2) _ _
  · have HD := Lib.hid (show decide (N < 0) = decide (0 < y.length) by rw [← HV2.out, ← sign_of true HN2.out]; simp)
    obtain ⟨r0, r1, r2, r3⟩ := stored_whole f0 (.bool (decide (0 < y.length))) (.slice A2 y.length c2)
    refine bodyPost_ret (v := .agg #[.bool (decide (0 < y.length)), .slice A2 y.length c2]) (by simp [results, Tryd.results43, go_sem, r0, r1]) rfl ?_
    rw [← HD.out]
    exact gives_stored f0 (B0.trans (b12.mono B0.size)) (Nat.le_refl _) hc2 HN2.out (abs_of HV2.out) (hr2.imp fun g hg => hg.2) _ _

set_option maxRecDepth 10000 in
set_option maxHeartbeats 1600000 in
theorem ref2_Sign (n1 : Bool) (a : List Nat) (A : Option Addr) (ca : Nat) (w : World) (h : Rd w (fun g => g < w.heap.size) .u32 A a) (hl : a.length ≤ 536870912) (ha : Dg 4294967296 a) :
    Calls Tryd.prog 41 #[.agg #[.bool n1, .slice A a.length ca]] w fun e w' => e = .returned (.int .i64 (sgn (wv n1 a))) ∧ Below w.heap.size w w' := by
  obtain ⟨n, hn⟩ := isBits_some (val 4294967296 a)
  have hz := isBits_zero_iff hn
  have B0 := below_new w (.cells #[.bool n1, .slice A a.length ca] 68)
  obtain ⟨z, hzn⟩ : ∃ z : Int, z = n := ⟨_, rfl⟩
  have cB : Calls Tryd.prog 54 #[.slice A a.length ca] (w.alloc (.cells #[.bool n1, .slice A a.length ca] 68)) fun e w' => e = .returned (.int .i64 z) ∧ Below (w.alloc (.cells #[.bool n1, .slice A a.length ca] 68)).heap.size (w.alloc (.cells #[.bool n1, .slice A a.length ca] 68)) w' := by
    refine (ref_Bits a A ca _ _ (h.on B0) (fun g hg => hg) hl ha).mono ?_
    rintro e w' ⟨m, rfl, hm, hb⟩
    obtain rfl := hm.unique hn
    exact ⟨by rw [hzn], hb⟩
  have hs : (z = 0 ∧ sgn (wv n1 a) = 0) ∨ (0 < z ∧ n1 = true ∧ sgn (wv n1 a) = -1) ∨ (0 < z ∧ n1 = false ∧ sgn (wv n1 a) = 1) := by
    have hab := wv_abs n1 a
    rcases Nat.eq_zero_or_pos n with h0 | h0
    · have : wv n1 a = 0 := by omega
      exact .inl ⟨by omega, by rw [this]; rfl⟩
    · cases n1
      · refine .inr (.inr ⟨by omega, rfl, ?_⟩)
        unfold sgn
        rw [wv_false] at *
        rw [if_neg (by omega), if_pos (by omega)]
      · refine .inr (.inl ⟨by omega, rfl, ?_⟩)
        unfold sgn
        rw [wv_true] at *
        rw [if_pos (by omega)]
  clear hz hn hzn
  rcases hs with ⟨rfl, hs⟩ | ⟨h0, rfl, hs⟩ | ⟨h0, rfl, hs⟩
  all_goals
    rw [hs]
    clear hs
    go_enter Tryd.func41, Tryd.ntmps41
    go_wp2_with fail
    refine cB.mono ?_
    rintro e w1 ⟨rfl, b1⟩
    obtain ⟨k1, k2⟩ := box_cells b1
    clear cB
    go_wp2_with fail
    go_ret
    exact ⟨rfl, B0.trans (b1.mono B0.size)⟩
end Go.Proofs.YtchfbpgbojnakaaDoor
/- Whole numbers, the document's own: what Mul, Add, Sub, Cmp, Same answer. -/

namespace Go.Proofs.YtchfbpgbojnakaaDoor
open Go.RowKit Num

/-- two arguments in their boxes, and the result's place -/
def Three (w : World) (g : Nat) (n1 n2 : Bool) (v1 v2 : Value) : Prop :=
  w.heap[g]? = some (.cells #[.bool n1, v1] 68 (0, 0)) ∧ w.heap[g + 1]? = some (.cells #[.bool n2, v2] 68 (0, 0)) ∧ w.heap[g + 1 + 1]? = some (.cells #[.bool false, .slice none 0 0] 68 (0, 0)) ∧ g + 3 ≤ w.heap.size
theorem Three.new (w : World) (n1 n2 : Bool) (v1 v2 : Value) : Three (((w.alloc (.cells #[.bool n1, v1] 68)).alloc (.cells #[.bool n2, v2] 68)).alloc (.cells #[.bool false, .slice none 0 0] 68)) w.heap.size n1 n2 v1 v2 := by
  have s1 : ∀ (u : World) (o : Obj), (u.alloc o).heap.size = u.heap.size + 1 := fun u o => by simp
  have e : ∀ (u : World) (o : Obj) (k : Nat), k = u.heap.size → (u.alloc o).heap[k]? = some o := fun u o k hk => by rw [hk]; exact heap_alloc_new u o
  refine ⟨?_, ?_, ?_, by rw [s1, s1, s1]; omega⟩
  · rw [Below.heap_alloc _ _ _ (by rw [s1, s1]; omega), Below.heap_alloc _ _ _ (by rw [s1]; omega)]
    exact e _ _ _ rfl
  · rw [Below.heap_alloc _ _ _ (by rw [s1, s1]; omega)]
    exact e _ _ _ (by rw [s1])
  · exact e _ _ _ (by rw [s1, s1])
theorem Three.on {w w' : World} {g : Nat} {n1 n2 : Bool} {v1 v2 : Value} (h : Three w g n1 n2 v1 v2) (hb : Below w.heap.size w w') : Three w' g n1 n2 v1 v2 := by
  obtain ⟨h0, h1, h2, h4⟩ := h
  exact ⟨(hb.block _ (by omega)).trans h0, (hb.block _ (by omega)).trans h1, (hb.block _ (by omega)).trans h2, Nat.le_trans h4 hb.size⟩
theorem Three.boxes {w : World} {g : Nat} {n1 n2 : Bool} {v1 v2 : Value} (h : Three w g n1 n2 v1 v2) :
    w.cell? ⟨g, 0, none⟩ = some (.bool n1) ∧ w.cell? ⟨g, 1, none⟩ = some v1 ∧ w.cell? ⟨g + 1, 0, none⟩ = some (.bool n2) ∧ w.cell? ⟨g + 1, 1, none⟩ = some v2 := by
  obtain ⟨h0, h1, h2, h4⟩ := h
  exact ⟨by rw [cell_of_row _ _ _ _ _ _ h0]; rfl, by rw [cell_of_row _ _ _ _ _ _ h0]; rfl, by rw [cell_of_row _ _ _ _ _ _ h1]; rfl, by rw [cell_of_row _ _ _ _ _ _ h1]; rfl⟩
theorem Three.place {w : World} {g : Nat} {n1 n2 : Bool} {v1 v2 : Value} (h : Three w g n1 n2 v1 v2) :
    w.heap[g + 1 + 1]? = some (.cells #[.bool false, .slice none 0 0] 68 (0, 0)) ∧ w.cell? ⟨g + 1 + 1, 0, none⟩ = some (.bool false) ∧ w.cell? ⟨g + 1 + 1, 1, none⟩ = some (.slice none 0 0) ∧ w.frozen? ⟨g + 1 + 1, 0, none⟩ = false ∧ w.frozen? ⟨g + 1 + 1, 1, none⟩ = false :=
  ⟨h.2.2.1, cells_of h.2.2.1⟩

end Go.Proofs.YtchfbpgbojnakaaDoor
/- Whole numbers, the document's own: what Sub, Cmp, Same answer. -/

namespace Go.Proofs.YtchfbpgbojnakaaDoor
open Go.RowKit Num

theorem wv_dec {N : Int} {xs : List Nat} (h : val 4294967296 xs = N.natAbs) : wv (decide (N < 0)) xs = N := by
  by_cases hn : N < 0
  · rw [decide_eq_true hn, wv_true]; omega
  · rw [decide_eq_false hn, wv_false]; omega
theorem len_abs {xs a : List Nat} (hn : Norm 4294967296 xs) (ha : Dg 4294967296 a) {N : Int} (h : val 4294967296 xs = N.natAbs) (hN : N.natAbs ≤ val 4294967296 a) : xs.length ≤ a.length :=
  len_le (b := 4294967296) (by omega) hn.2 ha (by omega)
theorem len_sum {xs a b : List Nat} {n : Nat} (hn : Norm 4294967296 xs) (ha : Dg 4294967296 a) (hb : Dg 4294967296 b) {N : Int} (h : val 4294967296 xs = N.natAbs) (hN : N.natAbs ≤ val 4294967296 a + val 4294967296 b) (h1 : a.length ≤ n) (h2 : b.length ≤ n) : xs.length ≤ n + 1 := by
  refine hn.2.length_le (b := 4294967296) (by omega) ?_
  have k1 := val_lt_pow ha (by omega) h1
  have k2 := val_lt_pow hb (by omega) h2
  rw [h, Nat.pow_succ]
  omega

end Go.Proofs.YtchfbpgbojnakaaDoor
