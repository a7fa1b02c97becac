/- The second layer's laws: a quotient below 0 is right. -/
import Derived.Test.YtdmoibphidipeaaGreatDoorZOaD
import Derived.Test.YtdmoibphidipeaaGreatDoorZWrX
import Derived.Test.YtdmoibphidipeaaGreatDoorZWhX
import Derived.Deep.CutRange
import Derived.Deep.RegionWith
import Derived.StillTailTactics
namespace Go.Proofs.YtdmoibphidipeaaGreatDoor
open Go.RowKit Num

theorem lim_sum {a b : List Nat} {m n : Nat} {N : Int} (ha : Dg 4294967296 a) (hb : Dg 4294967296 b) (h1 : a.length ≤ n) (h2 : b.length ≤ n) (hm : n + 1 ≤ m) (hN : N.natAbs ≤ val 4294967296 a + val 4294967296 b) : N.natAbs < 4294967296 ^ m := by
  have k1 := val_lt_pow ha (by omega) h1
  have k2 := val_lt_pow hb (by omega) h2
  have k3 : 4294967296 ^ (n + 1) ≤ 4294967296 ^ m := Nat.pow_le_pow_right (by omega) hm
  rw [Nat.pow_succ] at k3
  omega
theorem next {B : Nat} {W V w' : World} (K : Below B W V) (hB : B ≤ W.heap.size) (b : Below V.heap.size V w') : Below B W w' := K.trans (b.mono (Nat.le_trans hB K.size))
end Go.Proofs.YtdmoibphidipeaaGreatDoor
/- Whole numbers, the document's own: what Div answers. -/

namespace Go.Proofs.YtdmoibphidipeaaGreatDoor
open Go.RowKit Num

theorem four_at {w : World} {g g' : Nat} {x y x' y' : Value} {t t' : TypeId} (h : w.heap[g]? = some (.cells #[x, y] t (0, 0))) (h' : w.heap[g']? = some (.cells #[x', y'] t' (0, 0))) : w.cell? ⟨g, 0, none⟩ = some x ∧ w.cell? ⟨g, 1, none⟩ = some y ∧ w.cell? ⟨g', 0, none⟩ = some x' ∧ w.cell? ⟨g', 1, none⟩ = some y' :=
  ⟨(cells_of h).1, (cells_of h).2.1, (cells_of h').1, (cells_of h').2.1⟩
theorem heap_two {w : World} {k s : Nat} (h : ¬ k = s) (u v : Value) : ((w.setCell ⟨s, 0, none⟩ u).setCell ⟨s, 1, none⟩ v).heap[k]? = w.heap[k]? :=
  (Below.heap_setCell _ _ _ _ h).trans (Below.heap_setCell _ _ _ _ h)
theorem far0 {w : World} {g g' : Nat} {x y x' y' : Value} {t t' : TypeId} (h : w.heap[g]? = some (.cells #[x, y] t (0, 0))) (h' : w.heap[g']? = some (.cells #[x', y'] t' (0, 0))) : w.drew.cell? ⟨g, 0, none⟩ = some x ∧ w.drew.cell? ⟨g, 1, none⟩ = some y ∧ w.drew.cell? ⟨g', 0, none⟩ = some x' ∧ w.drew.cell? ⟨g', 1, none⟩ = some y' := four_at (w := w.drew) h h'
theorem far1 {w : World} {g g' s : Nat} {x y x' y' : Value} {t t' : TypeId} (n1 : ¬ g = s) (n2 : ¬ g' = s) (u v : Value) (h : w.heap[g]? = some (.cells #[x, y] t (0, 0))) (h' : w.heap[g']? = some (.cells #[x', y'] t' (0, 0))) :
    ((w.setCell ⟨s, 0, none⟩ u).setCell ⟨s, 1, none⟩ v).drew.cell? ⟨g, 0, none⟩ = some x ∧ ((w.setCell ⟨s, 0, none⟩ u).setCell ⟨s, 1, none⟩ v).drew.cell? ⟨g, 1, none⟩ = some y ∧ ((w.setCell ⟨s, 0, none⟩ u).setCell ⟨s, 1, none⟩ v).drew.cell? ⟨g', 0, none⟩ = some x' ∧ ((w.setCell ⟨s, 0, none⟩ u).setCell ⟨s, 1, none⟩ v).drew.cell? ⟨g', 1, none⟩ = some y' :=
  far0 ((heap_two n1 u v).trans h) ((heap_two n2 u v).trans h')
theorem far2 {w : World} {g g' s s' : Nat} {x y x' y' : Value} {t t' : TypeId} (n1 : ¬ g = s) (n2 : ¬ g' = s) (n3 : ¬ g = s') (n4 : ¬ g' = s') (u v u' v' : Value) (h : w.heap[g]? = some (.cells #[x, y] t (0, 0))) (h' : w.heap[g']? = some (.cells #[x', y'] t' (0, 0))) :
    ((((w.setCell ⟨s, 0, none⟩ u).setCell ⟨s, 1, none⟩ v).setCell ⟨s', 0, none⟩ u').setCell ⟨s', 1, none⟩ v').drew.cell? ⟨g, 0, none⟩ = some x ∧ ((((w.setCell ⟨s, 0, none⟩ u).setCell ⟨s, 1, none⟩ v).setCell ⟨s', 0, none⟩ u').setCell ⟨s', 1, none⟩ v').drew.cell? ⟨g, 1, none⟩ = some y ∧ ((((w.setCell ⟨s, 0, none⟩ u).setCell ⟨s, 1, none⟩ v).setCell ⟨s', 0, none⟩ u').setCell ⟨s', 1, none⟩ v').drew.cell? ⟨g', 0, none⟩ = some x' ∧ ((((w.setCell ⟨s, 0, none⟩ u).setCell ⟨s, 1, none⟩ v).setCell ⟨s', 0, none⟩ u').setCell ⟨s', 1, none⟩ v').drew.cell? ⟨g', 1, none⟩ = some y' :=
  far1 n3 n4 u' v' ((heap_two n1 u v).trans h) ((heap_two n2 u v).trans h')
end Go.Proofs.YtdmoibphidipeaaGreatDoor
/- Whole numbers, the document's own: what Of answers. -/

namespace Go.Proofs.YtdmoibphidipeaaGreatDoor
open Go.RowKit Num

set_option maxRecDepth 10000 in
set_option maxHeartbeats 1600000 in
theorem ref2_Of (n : Int) (hn1 : -9223372036854775808 ≤ n) (hn2 : n ≤ 9223372036854775807) (w : World) :
    Calls Tryz.prog 92 #[.int .i64 n] w (GivesW n w) := by
  by_cases hneg : n < 0
  · obtain ⟨m, rfl⟩ : ∃ m : Nat, n = -1 - (m : Int) := ⟨(-1 - n).toNat, by omega⟩
    have hm : m < 9223372036854775808 := by omega
    have hw : IntKind.u64.wrap (-1 - (-1 - (m : Int))) = m := IntWalk.u64_in _ (by omega) |>.trans (by omega)
    go_enter Tryz.func92, Tryz.ntmps92
    go_wp2_with fail
    clear hw
    have B0 := below_new w (.cells #[.bool false, .slice none 0 0] 37)
    refine (ref_Of m (by omega) _).mono ?_
    rintro e w1 ⟨A1, xs, c1, rfl, hc1, hn1', hv1, hr1, hb1⟩
    have HN := Lib.hid hn1'
    have HV := Lib.hid hv1
    have hlx : xs.length ≤ 2 := HN.out.2.length_le (b := 4294967296) (by omega) (by rw [HV.out]; omega)
    clear hn1' hv1
    have b1a := below_new w1 (.cells #[.int .u32 1] 102)
    have cA := ref_add xs [1] A1 (some ⟨w1.heap.size, 0, none⟩) c1 1 _ _ (w1.alloc (.cells #[.int .u32 1] 102)) (hr1.on b1a) ((row_one w1 102 1).rd_all (S := fun b => b < (w1.alloc (.cells #[.int .u32 1] 102)).heap.size) (by simp)) (fun g hg => hg) (fun g hg => hg) (by omega) (by simp) HN.out.1 (by simp [Dg])
    go_wp2_with fail
    refine cA.mono ?_
    rintro e w2 ⟨A2, s, c2, rfl, hc2, hn2', hv2, hr2, hb2⟩
    have HN2 := Lib.hid hn2'
    have HV2 := Lib.hid (show val 4294967296 s = m + 1 by rw [hv2, HV.out]; simp [val])
    have hls : s.length ≤ 3 := HN2.out.2.length_le (b := 4294967296) (by omega) (by rw [HV2.out]; omega)
    clear hn2' hv2 cA
    have b12 := b1a.trans (hb2.mono (by simp))
    go_wp2_with fail
    refine (ref2_Make true s A2 c2 (-1 - (m : Int)) w2 hr2 (by omega) HN2.out.1 (by rw [wv_true, HV2.out]; omega)).mono ?_
    rintro e w3 ⟨A3, y, c3, rfl, hc3, hn3, hv3, hr3, hb3⟩
    have HN3 := Lib.hid hn3
    have HV3 := Lib.hid hv3
    have b13 := b12.trans (hb3.mono b12.size)
    have b2 := hb1.trans (b13.mono hb1.size)
    clear hn3 hv3
    obtain ⟨f0, f1, f2, f3⟩ := new_whole w b2
    obtain ⟨dd, hd⟩ : ∃ d, decide (-1 - (m : Int) < 0) = d := ⟨_, rfl⟩
    have HD := Lib.hid hd
    rw [hd]
    clear hd
    go_wp2_with fail
    obtain ⟨r0, r1, r2, r3⟩ := stored_whole f0 (.bool dd) (.slice A3 y.length c3)
    refine bodyPost_ret (v := .agg #[.bool dd, .slice A3 y.length c3]) (by simp [results, Tryz.results92, go_sem, r0, r1]) rfl ?_
    rw [← HD.out]
    exact gives_stored f0 (B0.trans (b2.mono B0.size)) (Nat.le_refl _) hc3 HN3.out HV3.out hr3 _ _
  · obtain ⟨m, rfl⟩ : ∃ m : Nat, n = (m : Int) := ⟨n.toNat, by omega⟩
    go_enter Tryz.func92, Tryz.ntmps92
    go_wp2_with fail
    have B0 := below_new w (.cells #[.bool false, .slice none 0 0] 37)
    refine (ref_Of m (by omega) _).mono ?_
    rintro e w1 ⟨A1, xs, c1, rfl, hc1, hn1', hv1, hr1, hb1⟩
    have HN := Lib.hid hn1'
    have HV := Lib.hid hv1
    have hlx : xs.length ≤ 2 := HN.out.2.length_le (b := 4294967296) (by omega) (by rw [HV.out]; omega)
    clear hn1' hv1
    go_wp2_with fail
    refine (ref2_Make false xs A1 c1 (m : Int) w1 hr1 (by omega) HN.out.1 (by rw [wv_false, HV.out])).mono ?_
    rintro e w3 ⟨A3, y, c3, rfl, hc3, hn3, hv3, hr3, hb3⟩
    have HN3 := Lib.hid hn3
    have HV3 := Lib.hid hv3
    have b2 := hb1.trans (hb3.mono hb1.size)
    clear hn3 hv3
    obtain ⟨f0, f1, f2, f3⟩ := new_whole w b2
    obtain ⟨dd, hd⟩ : ∃ d, decide ((m : Int) < 0) = d := ⟨_, rfl⟩
    have HD := Lib.hid hd
    rw [hd]
    clear hd
    go_wp2_with fail
    obtain ⟨r0, r1, r2, r3⟩ := stored_whole f0 (.bool dd) (.slice A3 y.length c3)
    refine bodyPost_ret (v := .agg #[.bool dd, .slice A3 y.length c3]) (by simp [results, Tryz.results92, go_sem, r0, r1]) rfl ?_
    rw [← HD.out]
    exact gives_stored f0 (B0.trans (b2.mono B0.size)) (Nat.le_refl _) hc3 HN3.out HV3.out hr3 _ _
end Go.Proofs.YtdmoibphidipeaaGreatDoor
