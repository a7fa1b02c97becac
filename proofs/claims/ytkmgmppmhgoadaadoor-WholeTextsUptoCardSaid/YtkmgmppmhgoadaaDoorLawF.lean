/- The second layer's laws: a quotient below 0 is right. -/
import Derived.Test.YtkmgmppmhgoadaaDoorWhH
import Derived.Test.YtkmgmppmhgoadaaDoorWhI
import Derived.Test.YtkmgmppmhgoadaaDoorWrC
namespace Go.Proofs.YtkmgmppmhgoadaaDoor
open Go.RowKit Num

/-- the number of a size below 2^32 -/
theorem whole_Of_at (n : Int) (m : Nat) (d : Bool) (hd : decide (n < 0) = d) (hm : n.natAbs = m) (h0 : 0 < m) (hs : m < 4294967296) (w : World) :
    Calls Tryd.prog 26 #[.int .i64 n] w fun e w' => ∃ A c, e = .returned (.agg #[.bool d, .slice A 1 c]) ∧ 1 ≤ c ∧ Rd w' (fun g => g < w'.heap.size) .u32 A [m] ∧ Below w.heap.size w w' := by
  refine (whole_Of n (by omega) (by omega) w).mono ?_
  rintro e w' ⟨A, xs, c, rfl, hc, hn, hv, hr, hb⟩
  obtain rfl : xs = [m] := Norm.ext (b := 4294967296) (by omega) hn ⟨by simp [Dg]; omega, by simp [Top]; omega⟩ (by rw [hv, hm]; simp [val])
  exact ⟨A, c, by rw [hd]; rfl, hc, hr, hb⟩

set_option maxRecDepth 10000 in
set_option maxHeartbeats 1600000 in
theorem law2_lives (w : World) (htab : Tab w) : Calls Tryd.prog 21 #[] w fun e w' => e = .returned (.bool true) ∧ Below w.heap.size w w' := by
  have c7 := whole_Of_at (-7) 7 true (by decide) (by decide) (by omega) (by omega) w
  go_enter Tryd.func21, Tryd.ntmps21
  go_wp2_with fail
  refine c7.mono ?_
  rintro e w1 ⟨A1, c1, rfl, hc1, r1, b1⟩
  clear c7
  have c2 := whole_Of_at 2 2 false (by decide) (by decide) (by omega) (by omega) w1
  go_wp2_with fail
  refine c2.mono ?_
  rintro e w2 ⟨A2, c2, rfl, hc2, r2, b2⟩
  have B2 := b1.trans (b2.mono b1.size)
  have cD := whole_Div true false [7] [2] A1 A2 c1 c2 w2 (r1.on b2) r2 (by simp) (by simp) hc1 hc2 (by simp [Dg]) (by simp [Dg])
  rw [show wv true [7] = -7 from rfl, show wv false [2] = 2 from rfl] at cD
  go_wp2_with fail
  refine cD.mono ?_
  rintro e w3 ⟨A3, q, c3, A4, r, c4, rfl, hc3, hc4, hn3, hn4, hv3, hv4, r3, r4, b3⟩
  obtain rfl : q = [4] := Norm.ext (b := 4294967296) (by omega) hn3 ⟨by simp [Dg], by simp [Top]⟩ (by rw [hv3]; decide)
  obtain rfl : r = [1] := Norm.ext (b := 4294967296) (by omega) hn4 ⟨by simp [Dg], by simp [Top]⟩ (by rw [hv4]; decide)
  have B3 := B2.trans (b3.mono B2.size)
  clear cD hn3 hn4 hv3 hv4
  go_wp2_with fail
  have B4 := below_new2 w3 (.cells #[.bool true, .slice A3 1 c3] 24) (.cells #[.bool false, .slice A4 1 c4] 24)
  have B34 := B3.trans (B4.mono B3.size)
  have cT := whole_Text true [4] A3 c3 _ ((r3.on B4)) (by simp) hc3 (by simp [Dg]) (htab.on B34)
  rw [show wtext (wv true [4]) = [45, 52] by decide +kernel] at cT
  refine cT.mono ?_
  rintro e w5 ⟨rfl, b5⟩
  have B5 := B34.trans (b5.mono B34.size)
  have k : w5.heap[w3.heap.size + 1]? = some (.cells #[.bool false, .slice A4 1 c4] 24 (0, 0)) := (b5.block _ (by simp)).trans (by
    rw [← World.size_alloc w3 (.cells #[.bool true, .slice A3 1 c3] 24)]
    exact heap_alloc_new _ _)
  obtain ⟨k1, k2, k3, k4⟩ := cells_of k
  have cT2 := whole_Text false [1] A4 c4 w5 (r4.on (B4.trans (b5.mono B4.size))) (by simp) hc4 (by simp [Dg]) (htab.on B5)
  rw [show wtext (wv false [1]) = [49] by decide +kernel] at cT2
  clear cT k
  go_wp2_with fail
  refine cT2.mono ?_
  rintro e w6 ⟨rfl, b6⟩
  have B6 := B5.trans (b6.mono B5.size)
  clear cT2
  have c3 := whole_Of_at (-3) 3 true (by decide) (by decide) (by omega) (by omega) w6
  go_wp2_with fail
  refine c3.mono ?_
  rintro e w7 ⟨A7, c7, rfl, hc7, r7, b7⟩
  have B7 := B6.trans (b7.mono B6.size)
  clear c3
  have cS := whole_Sign true [3] A7 c7 w7 r7 (by simp) hc7 (by simp [Dg])
  rw [show sgn (wv true [3]) = -1 by decide +kernel] at cS
  go_wp2_with fail
  refine cS.mono ?_
  rintro e w8 ⟨rfl, b8⟩
  clear cS
  go_wp2_with fail
  go_ret
  exact ⟨rfl, B7.trans (b8.mono B7.size)⟩

/-- a whole number of at most m words -/
def GivesWL (N : Int) (m : Nat) (w : World) (e : Ending) (w' : World) : Prop :=
  ∃ A xs c, e = .returned (.agg #[.bool (decide (N < 0)), .slice A xs.length c]) ∧ xs.length ≤ c ∧ xs.length ≤ m ∧ Norm 4294967296 xs ∧ val 4294967296 xs = N.natAbs ∧ Rd w' (fun g => g < w'.heap.size) .u32 A xs ∧ Below w.heap.size w w'
theorem lim {N : Int} {m : Nat} {w w' : World} {e : Ending} (hN : N.natAbs < 4294967296 ^ m) (h : GivesW N w e w') : GivesWL N m w e w' := by
  obtain ⟨A, xs, c, h1, h2, h3, h4, h5, h6⟩ := h
  exact ⟨A, xs, c, h1, h2, h3.2.length_le (b := 4294967296) (by omega) (by rw [h4]; exact hN), h3, h4, h5, h6⟩
theorem lim_sum {a b : List Nat} {m n : Nat} {N : Int} (ha : Dg 4294967296 a) (hb : Dg 4294967296 b) (h1 : a.length ≤ n) (h2 : b.length ≤ n) (hm : n + 1 ≤ m) (hN : N.natAbs ≤ val 4294967296 a + val 4294967296 b) : N.natAbs < 4294967296 ^ m := by
  have k1 := val_lt_pow ha (by omega) h1
  have k2 := val_lt_pow hb (by omega) h2
  have k3 : 4294967296 ^ (n + 1) ≤ 4294967296 ^ m := Nat.pow_le_pow_right (by omega) hm
  rw [Nat.pow_succ] at k3
  omega
theorem lim_one {a : List Nat} {m : Nat} {N : Int} (ha : Dg 4294967296 a) (h1 : a.length ≤ m) (hN : N.natAbs ≤ val 4294967296 a) : N.natAbs < 4294967296 ^ m := by
  have k1 := val_lt_pow ha (by omega) h1
  omega
theorem lim_prod {a b : List Nat} {m : Nat} (n1 n2 : Bool) (ha : Dg 4294967296 a) (hb : Dg 4294967296 b) (h1 : a.length + b.length ≤ m) : (wv n1 a * wv n2 b).natAbs < 4294967296 ^ m := by
  rw [Int.natAbs_mul, wv_abs, wv_abs]
  refine Nat.lt_of_lt_of_le (Nat.mul_lt_mul'' (val_lt ha) (val_lt hb)) ?_
  rw [← Nat.pow_add]
  exact Nat.pow_le_pow_right (by omega) h1
theorem next {B : Nat} {W V w' : World} (K : Below B W V) (hB : B ≤ W.heap.size) (b : Below V.heap.size V w') : Below B W w' := K.trans (b.mono (Nat.le_trans hB K.size))
end Go.Proofs.YtkmgmppmhgoadaaDoor
