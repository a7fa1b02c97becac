/- The third layer's laws: 6 is in 12 and 18. -/
import Derived.Test.YtoidhoiadkafhaaRrD
namespace Go.Proofs.Ytoidhoiadkafhaa
open Go.RowKit Num

/-- one word that the text writes out -/
theorem one_word (w : World) (v : Nat) (z : Int) (hz : z = (v : Int)) : ∃ W, w.alloc (.cells #[.int .u32 z] 36) = W ∧ Rd W (fun g => g < W.heap.size) .u32 (some ⟨w.heap.size, 0, none⟩) [v] ∧ Below w.heap.size w W ∧ W.heap.size = w.heap.size + 1 := by
  subst hz
  have hr : Row (w.alloc (.cells #[.int .u32 (v : Int)] 36)) w.heap.size 36 .u32 [v] := Row.new w 36 .u32 [v]
  exact ⟨_, rfl, hr.rd_all hr.lt, below_one _ _, by simp⟩
theorem dg_one {v : Nat} (h : v < 4294967296) : Dg 4294967296 [v] := by simpa [Dg] using h
theorem norm_one {v : Nat} (h : v < 4294967296) (h0 : 0 < v) : Norm 4294967296 [v] := ⟨dg_one h, by simp [Top]; omega⟩

set_option maxRecDepth 10000 in
set_option maxHeartbeats 1600000 in
theorem law3_lives (w : World) : Calls Try.prog 13 #[] w fun e w' => e = .returned (.bool true) ∧ Below w.heap.size w w' := by
  obtain ⟨v1, h1, r1, b1, s1⟩ := one_word w 12 12 rfl
  obtain ⟨v2, h2, r2, b2, s2⟩ := one_word v1 18 18 rfl
  have B2 := b1.trans (b2.mono b1.size)
  have cG := root_Gcd [12] [18] _ _ 1 1 v2 (r1.on b2) r2 (by simp) (by simp) (by simp) (by simp) (dg_one (by omega)) (dg_one (by omega))
  rw [show Nat.gcd (val 4294967296 [12]) (val 4294967296 [18]) = 6 by decide, s1] at cG
  go_enter Try.func13, Try.ntmps13
  go_wp2_with fail
  try rw [h1]
  try rw [h2]
  clear r1 r2 b1 b2 s1 s2 h1 h2
  refine cG.mono ?_
  rintro e w3 ⟨A3, xs, c3, rfl, hc3, hn3, hv3, r3, b3⟩
  obtain rfl : xs = [6] := Norm.ext (b := 4294967296) (by omega) hn3 (norm_one (by omega) (by omega)) (by rw [hv3]; decide)
  have B3 := B2.trans (b3.mono B2.size)
  obtain ⟨v4, h4, r4, b4, s4⟩ := one_word w3 6 6 rfl
  have cS := ref_same [6] A3 _ c3 1 _ _ v4 (r3.on b4) r4 (by simp)
  have B4 := B3.trans (b4.mono B3.size)
  clear cG hn3 hv3
  go_wp2_with fail
  try rw [h4]
  clear h4 r4 b4 s4 r3
  refine cS.mono ?_
  rintro e w5 ⟨rfl, m5, hw5⟩
  have B5 : Below w.heap.size w w5 := by rw [hw5]; exact below_drewN B4 m5
  obtain ⟨v6, h6, r6, b6, s6⟩ := one_word w5 24 24 rfl
  have cQ := root_Sqrt [24] _ 1 v6 r6 (by simp) (by simp) (dg_one (by omega))
  have B6 := B5.trans (b6.mono B5.size)
  clear hw5 cS
  go_wp2_with fail
  try rw [h6]
  clear h6 r6 b6 s6
  refine cQ.mono ?_
  rintro e w7 ⟨A7, ys, c7, rfl, hc7, hn7, hv7, r7, b7⟩
  obtain rfl : ys = [4] := Norm.ext (b := 4294967296) (by omega) hn7 (norm_one (by omega) (by omega)) (hv7.unique ⟨by decide, by decide⟩)
  have B7 := B6.trans (b7.mono B6.size)
  obtain ⟨v8, h8, r8, b8, s8⟩ := one_word w7 4 4 rfl
  have cS := ref_same [4] A7 _ c7 1 _ _ v8 (r7.on b8) r8 (by simp)
  have B8 := B7.trans (b8.mono B7.size)
  clear cQ hn7 hv7
  go_wp2_with fail
  try rw [h8]
  clear h8 r8 b8 s8 r7
  refine cS.mono ?_
  rintro e w9 ⟨rfl, m9, hw9⟩
  have B9 : Below w.heap.size w w9 := by rw [hw9]; exact below_drewN B8 m9
  obtain ⟨v10, h10, r10, b10, s10⟩ := one_word w9 25 25 rfl
  have cQ := root_Square [25] _ 1 v10 r10 (by simp) (by simp) (dg_one (by omega))
  have B10 := B9.trans (b10.mono B9.size)
  clear hw9 cS
  go_wp2_with fail
  try rw [h10]
  clear h10 r10 b10 s10
  refine cQ.mono ?_
  rintro e w11 ⟨r, hr, rfl, b11⟩
  obtain rfl : r = 5 := hr.unique ⟨by decide, by decide⟩
  rw [show decide (5 * 5 = val 4294967296 [25]) = true by decide]
  clear cQ hr
  go_wp2_with fail
  go_ret
  exact ⟨rfl, B10.trans (b11.mono B10.size)⟩
end Go.Proofs.Ytoidhoiadkafhaa
