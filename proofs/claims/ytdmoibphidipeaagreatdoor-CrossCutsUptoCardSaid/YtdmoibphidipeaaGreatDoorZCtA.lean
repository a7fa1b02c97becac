/- Where ways meet, the document's own: rows that are the same; going through. -/
import Derived.Test.YtdmoibphidipeaaGreatDoorZCsF
namespace Go.Proofs.YtdmoibphidipeaaGreatDoor
open Go.RowKit Num rows
open Go.Sort (grow)

set_option maxRecDepth 100000 in
set_option maxHeartbeats 6400000 in
theorem ref17_SameM {M : Nat} (hM : M ≤ 100000) (xs ys : List Sp) (R : List Qp) (p q : Option Addr) (k1 k2 : Nat) (w : World) (hx : RdS w p xs) (hy : RdS w q ys) (rx : RowW M w xs R) (ry : RowW M w ys R) (hl : R.length ≤ 1073741824) :
    Calls Tryz.prog 9 #[.slice p xs.length k1, .slice q ys.length k2] w fun e w' => e = .returned (.bool true) ∧ Below w.heap.size w w' := by
  have e1 := rx.length
  have e2 := ry.length
  obtain ⟨n, hn⟩ : ∃ n, n = xs.length := ⟨_, rfl⟩
  have hn2 : ys.length = n := by omega
  have HLN := Lib.hid (And.intro hn (And.intro hn2 (show R.length = n by omega)))
  have HX := Lib.hid (And.intro hx rx)
  have HY := Lib.hid (And.intro hy ry)
  rw [← hn, hn2]
  have hnb : n ≤ 1073741824 := by omega
  clear e1 e2 hn hn2 hx hy rx ry hl
  go_enter Tryz.func9, Tryz.ntmps9
  go_wp2_with fail
  go_loopg [5] n (fun gh v5 wr => ∃ i : Nat, v5 = .int .i64 i ∧ gh + i = n ∧ Below w.heap.size w wr)
  case atStart => exact ⟨0, rfl, rfl, Below.refl _ _⟩
  case round =>
    obtain ⟨i, rfl, hg, hbl⟩ := hrel
    have HG := Lib.hid hg
    clear hg
    by_cases hi : i < n
    · have hix : i < xs.length := by have := HLN.out.1; omega
      have hiy : i < ys.length := by have := HLN.out.2.1; omega
      have hiR : i < R.length := by have := HLN.out.2.2; omega
      obtain ⟨ka1, ka2, ka3⟩ := HX.out.2.get i hix hiR
      obtain ⟨kb1, kb2, kb3⟩ := HY.out.2.get i hiy hiR
      obtain ⟨b1, o1, rfl, hq1, hc1⟩ := (HX.out.1.on hbl) (by omega)
      obtain ⟨b2, o2, rfl, hq2, hc2⟩ := (HY.out.1.on hbl) (by omega)
      have cM := fun (V : World) (hV : Below wr.heap.size wr V) => ref5_SameW (M := M) hM xs[i] ys[i] ka1 kb1 (ka3.trans kb3.symm) V ((ka2.on hbl).on hV) ((kb2.on hbl).on hV)
      unfold spV at cM
      have CM := quiet_of cM
      have x0 := cell_regrown (hc1 i hix 0 _ rfl)
      have y0 := cell_regrown (hc2 i hiy 0 _ rfl)
      have x1 := cell_regrown (hc1 i hix 1 _ rfl)
      have y1 := cell_regrown (hc2 i hiy 1 _ rfl)
      have x2 := cell_regrown (hc1 i hix 2 _ rfl)
      have y2 := cell_regrown (hc2 i hiy 2 _ rfl)
      have x3 := cell_regrown (hc1 i hix 3 _ rfl)
      have y3 := cell_regrown (hc2 i hiy 3 _ rfl)
      have x4 := cell_regrown (hc1 i hix 4 _ rfl)
      have y4 := cell_regrown (hc2 i hiy 4 _ rfl)
      have x5 := cell_regrown (hc1 i hix 5 _ rfl)
      have y5 := cell_regrown (hc2 i hiy 5 _ rfl)
      simp only [Nat.add_zero] at x0 y0
      have HBL := Lib.hid hbl
      have hii : (i : Int) < n := by omega
      clear cM ka1 ka2 ka3 kb1 kb2 kb3 hc1 hc2 hbl hiR
      go_wp2_with fail
      refine wp_region_quiet_below (by kernel_rfl) (by kernel_rfl) ?_
      quiet_step (fail)
      quiet_step (fail)
      quiet_step (fail)
      quiet_step (fail)
      quiet_step (fail)
      quiet_step (fail)
      quiet_step (fail)
      quiet_step (fail)
      quiet_step (with_reducible exact CM _ _)
      quiet_step (fail)
      refine wpQuiet_nil ?_
      intro _ hw'
      obtain ⟨⟨dq, osq⟩, hw''⟩ := hw'
      subst hw''
      obtain ⟨wq, hwq⟩ : ∃ x, grow (redrawn wr dq) osq = x := ⟨_, rfl⟩
      have Bq : Below wr.heap.size wr wq := by rw [← hwq]; exact below_regrown wr dq osq
      rw [hwq]
      have BQ := Lib.hid Bq
      clear hwq Bq CM x0 y0 x1 y1 x2 y2 x3 y3 x4 y4 x5 y5
      go_wp2_with fail
      go_roundg (gk - 1)
      case measure => have := HG.out; omega
      case rel => exact ⟨i + 1, by go_num, by have := HG.out; omega, HBL.out.trans (BQ.out.mono HBL.out.size)⟩
    · have hie : i = n := by have := HG.out; omega
      subst hie
      have HB := Lib.hid hbl
      clear hbl
      go_wp2_with fail
      go_ret
      exact ⟨rfl, HB.out⟩
end Go.Proofs.YtdmoibphidipeaaGreatDoor
