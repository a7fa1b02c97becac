/- Whole numbers: what hold, Sign, Cmp answer. -/
import Derived.Test.YtkmgmppmhgoadaaDoorWhC
import Derived.StillTailTactics
namespace Go.Proofs.YtkmgmppmhgoadaaDoor
open Go.RowKit Num

theorem isBits_some (N : Nat) : ∃ n, IsBits N n := by
  rcases Nat.eq_zero_or_pos N with h | h
  · subst h; exact ⟨0, by simp [IsBits]⟩
  · exact ⟨N.log2 + 1, Nat.lt_log2_self, .inr (by simpa using Nat.log2_self_le (by omega))⟩
theorem isBits_zero_iff {N n : Nat} (h : IsBits N n) : n = 0 ↔ N = 0 := by
  constructor
  · intro h0; subst h0; have := h.1; omega
  · intro h0
    subst h0
    rcases h.2 with h1 | h1
    · exact h1
    · have : 0 < 2 ^ (n - 1) := Nat.pow_pos (by omega)
      omega
theorem nat_Bits_at (d : List Nat) (A : Option Addr) (c n : Nat) (w : World) (h : Rd w (fun g => g < w.heap.size) .u32 A d) (hl : d.length ≤ 1073741824) (hc : d.length ≤ c) (hd : Dg 4294967296 d) (hn : IsBits (val 4294967296 d) n) :
    Calls Tryd.prog 45 #[.slice A d.length c] w fun e w' => e = .returned (.int .i64 n) ∧ w = w' := by
  refine (nat_Bits d A c _ w h hl hc hd).mono ?_
  rintro e w' ⟨m, rfl, hm, -, rfl⟩
  obtain rfl := hm.unique hn
  exact ⟨rfl, rfl⟩

/-- an argument in its box, and the result's place -/
theorem boxes1 (w : World) (x y : Value) (t t' : TypeId) : ∃ W, (w.alloc (.cells #[x, y] t)).alloc (.cells #[.bool false, .slice none 0 0] t') = W ∧
    W.cell? ⟨w.heap.size, 0, none⟩ = some x ∧ W.cell? ⟨w.heap.size, 1, none⟩ = some y ∧
    W.heap[w.heap.size + 1]? = some (.cells #[.bool false, .slice none 0 0] t' (0, 0)) ∧ W.heap.size = w.heap.size + 2 ∧ Below w.heap.size w W := by
  have s1 : ∀ (u : World) (o : Obj), (u.alloc o).heap.size = u.heap.size + 1 := fun u o => by simp
  have e1 : ((w.alloc (.cells #[x, y] t)).alloc (.cells #[.bool false, .slice none 0 0] t')).heap[w.heap.size]? = some (.cells #[x, y] t (0, 0)) := by
    rw [Below.heap_alloc _ _ _ (by rw [s1]; omega)]
    exact heap_alloc_new w _
  have e3 : ((w.alloc (.cells #[x, y] t)).alloc (.cells #[.bool false, .slice none 0 0] t')).heap[w.heap.size + 1]? = some (.cells #[.bool false, .slice none 0 0] t' (0, 0)) := by
    rw [← s1 w (.cells #[x, y] t)]
    exact heap_alloc_new _ _
  exact ⟨_, rfl, by rw [cell_of_row _ _ _ _ _ _ e1]; rfl, by rw [cell_of_row _ _ _ _ _ _ e1]; rfl, e3, by rw [s1, s1], below_new2 _ _ _⟩
/-- a place's cells -/
theorem cells_of {w1 : World} {g : Nat} {x y : Value} {t : TypeId} (h : w1.heap[g]? = some (.cells #[x, y] t (0, 0))) :
    w1.cell? ⟨g, 0, none⟩ = some x ∧ w1.cell? ⟨g, 1, none⟩ = some y ∧ w1.frozen? ⟨g, 0, none⟩ = false ∧ w1.frozen? ⟨g, 1, none⟩ = false :=
  ⟨by rw [cell_of_row _ _ _ _ _ _ h]; rfl, by rw [cell_of_row _ _ _ _ _ _ h]; rfl, frozen_of_row _ _ _ _ _ h, frozen_of_row _ _ _ _ _ h⟩

set_option maxRecDepth 10000 in
set_option maxHeartbeats 1600000 in
/-- hold: a sign that counts -/
theorem whole_hold (n1 : Bool) (a : List Nat) (A : Option Addr) (ca : Nat) (w : World) (h : Rd w (fun g => g < w.heap.size) .u32 A a) (hl : a.length ≤ 1073741824) (hc : a.length ≤ ca) (ha : Dg 4294967296 a) :
    Calls Tryd.prog 43 #[.agg #[.bool n1, .slice A a.length ca]] w fun e w' => e = .returned (.agg #[.bool (decide (wv n1 a < 0)), .slice A a.length ca]) ∧ Below w.heap.size w w' := by
  obtain ⟨n, hn⟩ := isBits_some (val 4294967296 a)
  have hz := isBits_zero_iff hn
  obtain ⟨W, hW, k1, k2, k5, k6, k7⟩ := boxes1 w (.bool n1) (.slice A a.length ca) 24 53
  obtain ⟨z, hzn⟩ : ∃ z : Int, z = n := ⟨_, rfl⟩
  have cB : Calls Tryd.prog 45 #[.slice A a.length ca] W.drew fun e w' => e = .returned (.int .i64 z) ∧ w' = W.drew := by
    rw [hzn]
    exact (nat_Bits_at a A ca n W.drew (h.on (below_drewN k7 1)) hl hc ha hn).mono fun e w' hh => ⟨hh.1, hh.2.symm⟩
  obtain ⟨f0, f1, f2, f3⟩ := cells_of k5
  have k7 : Below w.heap.size w W.drew := below_drewN k7 1
  cases n1
  · have HD := Lib.hid (show decide (wv false a < 0) = false by simp [wv])
    rw [HD.out]
    clear hz hn cB
    go_enter Tryd.func43, Tryd.ntmps43
    go_wp2_with fail
    try rw [hW]
    clear hW
    go_still_tail 11, (by kernel_rfl)
    change wpList _ _ _ _ _ W.drew
    obtain ⟨f0, f1, f2, f3⟩ := cells_of (w1 := W.drew) k5
    obtain ⟨r0, r1, r2, r3⟩ := stored_whole (w := W.drew) k5 (.bool false) (.slice A a.length ca)
    generalize W.drew = w2 at *
    go_wp2_with fail
    exact bodyPost_ret (v := .agg #[.bool false, .slice A a.length ca]) (by simp [results, Tryd.results43, go_sem, r0, r1]) rfl
      ⟨rfl, k7.trans (r3 w.heap.size (by omega))⟩
  · have HD := Lib.hid (show decide (wv true a < 0) = decide (0 < z) by simp [wv]; omega)
    rw [HD.out]
    have hz0 : z = 0 ∨ 0 < z := by omega
    clear hz hn hzn
    rcases hz0 with rfl | h0
    all_goals
      go_enter Tryd.func43, Tryd.ntmps43
      go_wp2_with fail
      try rw [hW]
      clear hW
      go_still_tail 11, (by kernel_rfl)
      still_call cB
      repeat still_step
      try refine wpStill_nil ?_
      clear cB
      change wpList _ _ _ _ _ W.drew
      obtain ⟨f0, f1, f2, f3⟩ := cells_of (w1 := W.drew) k5
    · obtain ⟨r0, r1, r2, r3⟩ := stored_whole (w := W.drew) k5 (.bool false) (.slice A a.length ca)
      generalize W.drew = w2 at *
      go_wp2_with fail
      exact bodyPost_ret (v := .agg #[.bool false, .slice A a.length ca]) (by simp [results, Tryd.results43, go_sem, r0, r1]) rfl
        ⟨rfl, k7.trans (r3 w.heap.size (by omega))⟩
    · obtain ⟨r0, r1, r2, r3⟩ := stored_whole (w := W.drew) k5 (.bool true) (.slice A a.length ca)
      generalize W.drew = w2 at *
      go_wp2_with fail
      exact bodyPost_ret (v := .agg #[.bool true, .slice A a.length ca]) (by simp [results, Tryd.results43, go_sem, r0, r1]) rfl
        ⟨by simp [h0], k7.trans (r3 w.heap.size (by omega))⟩

def sgn (N : Int) : Int := if N < 0 then -1 else if 0 < N then 1 else 0

set_option maxRecDepth 10000 in
set_option maxHeartbeats 1600000 in
theorem whole_Sign (n1 : Bool) (a : List Nat) (A : Option Addr) (ca : Nat) (w : World) (h : Rd w (fun g => g < w.heap.size) .u32 A a) (hl : a.length ≤ 1073741824) (hc : a.length ≤ ca) (ha : Dg 4294967296 a) :
    Calls Tryd.prog 17 #[.agg #[.bool n1, .slice A a.length ca]] w fun e w' => e = .returned (.int .i64 (sgn (wv n1 a))) ∧ Below w.heap.size w w' := by
  obtain ⟨n, hn⟩ := isBits_some (val 4294967296 a)
  have hz := isBits_zero_iff hn
  have B0 := below_new w (.cells #[.bool n1, .slice A a.length ca] 24)
  have cH := whole_hold n1 a A ca _ (h.on B0) hl hc ha
  by_cases hneg : wv n1 a < 0
  · have HS := Lib.hid (show sgn (wv n1 a) = -1 by simp [sgn, hneg])
    rw [HS.out]
    rw [decide_eq_true hneg] at cH
    clear hz hn hneg
    go_enter Tryd.func17, Tryd.ntmps17
    go_wp2_with fail
    refine cH.mono ?_
    rintro e w1 ⟨rfl, b1⟩
    clear cH
    go_wp2_with fail
    go_ret
    exact ⟨rfl, B0.trans ((b1.trans ((below_new _ _).mono b1.size)).mono B0.size)⟩
  · obtain ⟨z, hzn⟩ : ∃ z : Int, z = n := ⟨_, rfl⟩
    have hab := wv_abs n1 a
    have cB : ∀ W, Below w.heap.size w W → Calls Tryd.prog 45 #[.slice A a.length ca] W fun e w' => e = .returned (.int .i64 z) ∧ W = w' := fun W hW => by
      rw [hzn]
      exact nat_Bits_at a A ca n W (h.on hW) hl hc ha hn
    rw [decide_eq_false hneg] at cH
    have hz0 : (z = 0 ∧ sgn (wv n1 a) = 0) ∨ (0 < z ∧ sgn (wv n1 a) = 1) := by
      unfold sgn
      rw [if_neg hneg]
      rcases Nat.eq_zero_or_pos n with h0 | h0
      · exact .inl ⟨by omega, if_neg (by omega)⟩
      · exact .inr ⟨by omega, if_pos (by omega)⟩
    clear hz hn hneg hzn hab
    rcases hz0 with ⟨rfl, hs⟩ | ⟨h0, hs⟩
    all_goals
      rw [hs]
      clear hs
      have HB := Lib.hid cB
      clear cB
      go_enter Tryd.func17, Tryd.ntmps17
      go_wp2_with fail
      refine cH.mono ?_
      rintro e w1 ⟨rfl, b1⟩
      clear cH
      have B1 := B0.trans (b1.mono B0.size)
      have B2 := B1.trans ((below_new w1 (.cells #[.bool false, .slice A a.length ca] 53)).mono B1.size)
      go_wp2_with fail
      refine (HB.out _ B2).mono ?_
      rintro e w2 ⟨rfl, rfl⟩
      go_wp2_with fail
      go_ret
      exact ⟨rfl, B2⟩
end Go.Proofs.YtkmgmppmhgoadaaDoor
