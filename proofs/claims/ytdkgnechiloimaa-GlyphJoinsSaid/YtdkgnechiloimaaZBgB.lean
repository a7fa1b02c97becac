/- Curves: what the program's own fit, bend and Pieces answer. -/
import Derived.Test.YtdkgnechiloimaaZBgA
import Derived.Test.YtdkgnechiloimaaZAgZ
import Derived.BigRegion
import Derived.Deep.RegionHeld3
namespace Go.Proofs.Ytdkgnechiloimaa
open Go.RowKit

set_option maxRecDepth 10000 in
set_option maxHeartbeats 1600000 in
theorem bez_fit (L : List Pt) (A : Option Addr) (c : Nat) (w : World) (hL : RdV w w.heap.size A (ptRow L)) (hl : L.length ≤ 1073741824) :
    Calls Try.prog 28 #[.slice A L.length c] w fun e w' => e = .returned (.bool (decide (FitL L))) ∧ Below w.heap.size w w' := by
  obtain ⟨n, hn⟩ : ∃ n, L.length = n := ⟨_, rfl⟩
  have HN := Lib.hid hn
  have HL := Lib.hid hL
  rw [hn] at hl ⊢
  obtain ⟨r, hr⟩ : ∃ r : Bool, decide (FitL L) = r := ⟨_, rfl⟩
  have HR := Lib.hid hr
  rw [hr]
  clear hn hL hr
  go_enter Try.func28, Try.ntmps28
  go_wp2_with fail
  go_loopg [7] n (fun gh it wr => ∃ i : Nat, it = .int .i64 (i : Int) ∧ gh + i = n ∧ (∀ p ∈ L.take i, FitP p) ∧ Below w.heap.size w wr)
  case atStart => exact ⟨0, rfl, by omega, by simp, Below.refl _ _⟩
  case round =>
    obtain ⟨i, rfl, hg, hok, hB⟩ := hrel
    by_cases hlt : i < n
    · have hlt' : i < L.length := by rw [HN.out]; exact hlt
      obtain ⟨g, o, rfl, hgl, e0, e1⟩ := (HL.out.below hB).pt (i := i) hlt'
      have hil : (i : Int) < (n : Int) := by omega
      obtain ⟨p, hpp⟩ : ∃ p, L[i] = p := ⟨_, rfl⟩
      have HST := Lib.hid (fitL_step hlt' hok)
      have HNO := Lib.hid (fitL_not hlt')
      rw [hpp] at e0 e1 HST HNO
      obtain ⟨d, hd⟩ : ∃ d : Bool, decide (FitP p) = d := ⟨_, rfl⟩
      have cF := fun V => aff_Fits p V
      rw [hd] at cF
      obtain ⟨x, y⟩ := p
      unfold ptV at cF
      dsimp only at e0 e1 cF
      obtain ⟨V0, hV0, k0, c0⟩ := endP wr 24 (.int .i64 x) (.int .i64 y)
      obtain ⟨⟨t0, t1⟩, -⟩ := Box.pair k0
      have CF := Lib.hid cF
      have HB := Lib.hid (hB.trans (c0.mono hB.size))
      have HD := Lib.hid hd
      clear hok hB cF hpp hlt' hd k0 c0
      cases d with
      | true =>
        have HS := Lib.hid (HST.out (of_decide_eq_true HD.out))
        clear HST HNO
        go_wp2_with first
          | (rw [hV0])
          | ((try rw [hV0]); go_at_call 8; with_reducible refine Calls.mono (CF.out _) ?_; rintro e w1 ⟨rfl, b1⟩)
        have hBB := HB.out.trans (b1.mono HB.out.size)
        go_roundg (n - (i + 1))
        case measure => omega
        case rel => exact ⟨i + 1, by simp, by omega, HS.out, hBB⟩
      | false =>
        have HS := Lib.hid (decide_eq_false (HNO.out (of_decide_eq_false HD.out)))
        clear HST HNO
        go_wp2_with first
          | (rw [hV0])
          | ((try rw [hV0]); go_at_call 8; with_reducible refine Calls.mono (CF.out _) ?_; rintro e w1 ⟨rfl, b1⟩)
        have hBB := HB.out.trans (b1.mono HB.out.size)
        go_ret
        rw [← HR.out, HS.out]
        exact ⟨rfl, hBB⟩
    · obtain rfl : i = n := by omega
      have HF := Lib.hid (decide_eq_true (fitL_all (l := L) (by rw [HN.out]; exact hok)))
      have HB := Lib.hid hB
      clear hok hB
      go_wp2_with fail
      go_ret
      rw [← HR.out, HF.out]
      exact ⟨rfl, HB.out⟩

/-- three boxes of points -/
theorem bx3pt (w : World) (t : TypeId) (x0 y0 x1 y1 x2 y2 : Value) : ∃ W, ((w.alloc (.cells #[x0, y0] t)).alloc (.cells #[x1, y1] t)).alloc (.cells #[x2, y2] t) = W ∧ Box W w.heap.size t [x0, y0] ∧ Box W (w.heap.size + 1) t [x1, y1] ∧ Box W (w.heap.size + 1 + 1) t [x2, y2] ∧ Below w.heap.size w W := by
  refine ⟨_, rfl, ((Box.new w _ [x0, y0]).alloc _).alloc _, (Box.at_new (w.alloc (.cells #[x0, y0] t)) _ [x1, y1] (by simp)).alloc _, Box.at_new ((w.alloc (.cells #[x0, y0] t)).alloc (.cells #[x1, y1] t)) _ [x2, y2] (by simp), ?_⟩
  exact (((Below.refl _ w).alloc (Nat.le_refl _) _).alloc (by simp) _).alloc (by simp; omega) _

/-- .. written -/
theorem st3 {W : World} {t : TypeId} {A B C : Nat} {a0 a1 b0 b1 c0 c1 : Value} (kA : Box W A t [a0, a1]) (kB : Box W B t [b0, b1]) (kC : Box W C t [c0, c1]) (hAB : A ≠ B) (hAC : A ≠ C) (hBC : B ≠ C) (x0 y0 x1 y1 x2 y2 : Value) :
    ∃ V, (((((W.setCell ⟨A, 0, none⟩ x0).setCell ⟨A, 1, none⟩ y0).setCell ⟨B, 0, none⟩ x1).setCell ⟨B, 1, none⟩ y1).setCell ⟨C, 0, none⟩ x2).setCell ⟨C, 1, none⟩ y2 = V ∧ Box V A t [x0, y0] ∧ Box V B t [x1, y1] ∧ Box V C t [x2, y2] ∧ ∀ n, n ≤ A → n ≤ B → n ≤ C → Below n W V := by
  obtain ⟨U, hU, kU, -, bU⟩ := kA.stored2 x0 y0
  have kB' : Box U B t [b0, b1] := by rw [← hU]; exact (kB.far (p := ⟨A, 0, none⟩) (Ne.symm hAB) _).far (p := ⟨A, 1, none⟩) (Ne.symm hAB) _
  have kC' : Box U C t [c0, c1] := by rw [← hU]; exact (kC.far (p := ⟨A, 0, none⟩) (Ne.symm hAC) _).far (p := ⟨A, 1, none⟩) (Ne.symm hAC) _
  obtain ⟨X, hX, kX, -, bX⟩ := kB'.stored2 x1 y1
  have kA' : Box X A t [x0, y0] := by rw [← hX]; exact (kU.far (p := ⟨B, 0, none⟩) hAB _).far (p := ⟨B, 1, none⟩) hAB _
  have kC2 : Box X C t [c0, c1] := by rw [← hX]; exact (kC'.far (p := ⟨B, 0, none⟩) (Ne.symm hBC) _).far (p := ⟨B, 1, none⟩) (Ne.symm hBC) _
  obtain ⟨V, hV, kV, -, bV⟩ := kC2.stored2 x2 y2
  have kA3 : Box V A t [x0, y0] := by rw [← hV]; exact (kA'.far (p := ⟨C, 0, none⟩) hAC _).far (p := ⟨C, 1, none⟩) hAC _
  have kB3 : Box V B t [x1, y1] := by rw [← hV]; exact (kX.far (p := ⟨C, 0, none⟩) hBC _).far (p := ⟨C, 1, none⟩) hBC _
  exact ⟨V, by rw [hU, hX, hV], kA3, kB3, kV, fun n h1 h2 h3 => ((bU n h1).trans (bX n h2)).trans (bV n h3)⟩

set_option maxRecDepth 10000 in
set_option maxHeartbeats 3200000 in
theorem bez_bend (L : List Pt) (A : Option Addr) (c : Nat) (w : World) (hL : RdV w w.heap.size A (ptRow L)) (hF : FitL L) (hl : L.length ≤ 1073741824) :
    Calls Try.prog 29 #[.slice A L.length c] w fun e w' => e = .returned (.int .i64 (bendTo L (L.length - 2))) ∧ Below w.heap.size w w' := by
  obtain ⟨n, hn⟩ : ∃ n, L.length = n := ⟨_, rfl⟩
  have HN := Lib.hid hn
  have HL := Lib.hid hL
  have HF := Lib.hid hF
  rw [hn] at hl ⊢
  obtain ⟨r, hr⟩ : ∃ r, bendTo L (n - 2) = r := ⟨_, rfl⟩
  have HR := Lib.hid hr
  rw [hr]
  clear hn hL hr hF
  go_enter Try.func29, Try.ntmps29
  go_wp2_with fail
  go_loopg [3, 4] n (fun gh mt it wr => ∃ j : Nat, it = .int .i64 ((j : Int) + 2) ∧ mt = .int .i64 (bendTo L j) ∧ gh + j = n ∧ (j = 0 ∨ j + 2 ≤ n) ∧ Below w.heap.size w wr)
  case atStart => exact ⟨0, rfl, rfl, by omega, .inl rfl, Below.refl _ _⟩
  case round =>
    obtain ⟨j, rfl, rfl, hg2, hj0, hB⟩ := hrel
    have hwk : IntKind.i64.wrap ((j : Int) + 2 + 1) = (j : Int) + 3 := by rw [IntWalk.i64_in _ (by omega)]; omega
    have hwk1 : IntKind.i64.wrap ((j : Int) + 2 - 1) = (j : Int) + 1 := by rw [IntWalk.i64_in _ (by omega)]; omega
    have hwk2 : IntKind.i64.wrap ((j : Int) + 2 - 2) = (j : Int) := by rw [IntWalk.i64_in _ (by omega)]; omega
    by_cases hlt : j + 2 < n
    · have hlt' : j + 2 < L.length := by rw [HN.out]; exact hlt
      obtain ⟨g, o, rfl, hgl, e0, e1⟩ := (HL.out.below hB).pt (i := j) (by omega)
      obtain ⟨g', o', hgo, -, e2, e3⟩ := (HL.out.below hB).pt (i := j + 1) (by omega)
      cases hgo
      obtain ⟨g', o', hgo, -, e4, e5⟩ := (HL.out.below hB).pt (i := j + 2) (by omega)
      cases hgo
      rw [← getD_get (by omega : j < L.length)] at e0 e1
      rw [← getD_get (by omega : j + 1 < L.length)] at e2 e3
      rw [← getD_get (by omega : j + 2 < L.length)] at e4 e5
      have hb := bend_bound HF.out j
      have hm := bendTo_bound HF.out j
      have hst : bendTo L (j + 1) = max (bendTo L j) (max (absI (bendX L j)) (absI (bendY L j))) := rfl
      have f0 := HF.out.getD j
      have f1 := HF.out.getD (j + 1)
      have f2 := HF.out.getD (j + 2)
      unfold bendX bendY at hb hst
      generalize bendTo L j = m at hst hm ⊢
      generalize L.getD j pt0 = p0 at e0 e1 hb hst f0
      generalize L.getD (j + 1) pt0 = p1 at e2 e3 hb hst f1
      generalize L.getD (j + 2) pt0 = p2 at e4 e5 hb hst f2
      obtain ⟨x0, y0⟩ := p0
      obtain ⟨x1, y1⟩ := p1
      obtain ⟨x2, y2⟩ := p2
      unfold FitP at f0 f1 f2
      dsimp only at e0 e1 e2 e3 e4 e5 hb hst f0 f1 f2
      obtain ⟨⟨b1, b2⟩, b3, b4⟩ := hb
      have v1 : IntKind.i64.wrap (x0 - 2 * x1) = x0 - 2 * x1 := IntWalk.i64_in _ (by omega)
      have v2 : IntKind.i64.wrap (2 * x1) = 2 * x1 := IntWalk.i64_in _ (by omega)
      have v3 : IntKind.i64.wrap (x0 - 2 * x1 + x2) = x0 - 2 * x1 + x2 := IntWalk.i64_in _ (by omega)
      have v4 : IntKind.i64.wrap (y0 - 2 * y1) = y0 - 2 * y1 := IntWalk.i64_in _ (by omega)
      have v5 : IntKind.i64.wrap (2 * y1) = 2 * y1 := IntWalk.i64_in _ (by omega)
      have v6 : IntKind.i64.wrap (y0 - 2 * y1 + y2) = y0 - 2 * y1 + y2 := IntWalk.i64_in _ (by omega)
      have v7 : IntKind.i64.wrap (-(x0 - 2 * x1 + x2)) = -(x0 - 2 * x1 + x2) := IntWalk.i64_in _ (by omega)
      have v8 : IntKind.i64.wrap (-(y0 - 2 * y1 + y2)) = -(y0 - 2 * y1 + y2) := IntWalk.i64_in _ (by omega)
      rw [absI_max, absI_max] at hst
      obtain ⟨m', hm'⟩ : ∃ m', bendTo L (j + 1) = m' := ⟨_, rfl⟩
      rw [hm'] at hst
      have hmx := fun ts t W => max5_run (P := Try.prog) m (x0 - 2 * x1 + x2) (-(x0 - 2 * x1 + x2)) (y0 - 2 * y1 + y2) (-(y0 - 2 * y1 + y2)) m' hst.symm ts t W
      have i0 : (j : Int) < (n : Int) := by omega
      have i1 : 0 ≤ (j : Int) + 1 ∧ (j : Int) + 1 < (n : Int) := by omega
      have i2 : 0 ≤ (j : Int) + 2 ∧ (j : Int) + 2 < (n : Int) := by omega
      have t1 : ((j : Int) + 1).toNat = j + 1 := by omega
      have t2 : ((j : Int) + 2).toNat = j + 2 := by omega
      have i3 : (j : Int) + 2 < (n : Int) := by omega
      have HB2 := Lib.hid hB
      have HM := Lib.hid hm'
      have HJ := Lib.hid hlt
      obtain ⟨W, hW, kp, kq, kr, bW⟩ := bx3pt wr 24 (.int .i64 0) (.int .i64 0) (.int .i64 0) (.int .i64 0) (.int .i64 0) (.int .i64 0)
      have hgw : g < wr.heap.size := Nat.lt_of_lt_of_le hgl hB.size
      have d0 := (bW.cell (p := ⟨g, o + j * 2, none⟩) hgw).trans e0
      have d1 := (bW.cell (p := ⟨g, o + j * 2 + 1, none⟩) hgw).trans e1
      have d2 := (bW.cell (p := ⟨g, o + (j + 1) * 2, none⟩) hgw).trans e2
      have d3 := (bW.cell (p := ⟨g, o + (j + 1) * 2 + 1, none⟩) hgw).trans e3
      have d4 := (bW.cell (p := ⟨g, o + (j + 2) * 2, none⟩) hgw).trans e4
      have d5 := (bW.cell (p := ⟨g, o + (j + 2) * 2 + 1, none⟩) hgw).trans e5
      obtain ⟨⟨p0, p1⟩, p2, p3⟩ := Box.pair kp
      obtain ⟨⟨q0, q1⟩, q2, q3⟩ := Box.pair kq
      obtain ⟨⟨r0, r1⟩, r2, r3⟩ := Box.pair kr
      have HW := Lib.hid (And.intro kp (And.intro kq (And.intro kr bW)))
      clear hB hm' hst hm f0 f1 f2 b1 b2 b3 b4 hlt' hlt kp kq kr bW
      go_wp2_with fail
      go_cut [5, 6, 7] from 10 to 55 (fun v5 v6 v7 wc => ∃ A B C, v5 = .pointer (some ⟨A, 0, none⟩) ∧ v6 = .pointer (some ⟨B, 0, none⟩) ∧ v7 = .pointer (some ⟨C, 0, none⟩) ∧ Box wc A 24 [.int .i64 x0, .int .i64 y0] ∧ Box wc B 24 [.int .i64 x1, .int .i64 y1] ∧ Box wc C 24 [.int .i64 x2, .int .i64 y2] ∧ Below w.heap.size w wc)
      case first =>
        go_region
        all_goals
          first
            | (obtain ⟨V, hV, kA, kB, kC, bV⟩ := st3 HW.out.1 HW.out.2.1 HW.out.2.2.1 (by omega) (by omega) (by omega) (.int .i64 x0) (.int .i64 y0) (.int .i64 x1) (.int .i64 y1) (.int .i64 x2) (.int .i64 y2); rw [hV])
            | (obtain ⟨V, hV, kA, kB, kC, bV⟩ := st3 HW.out.1 HW.out.2.2.1 HW.out.2.1 (by omega) (by omega) (by omega) (.int .i64 x0) (.int .i64 y0) (.int .i64 x1) (.int .i64 y1) (.int .i64 x2) (.int .i64 y2); rw [hV])
            | (obtain ⟨V, hV, kA, kB, kC, bV⟩ := st3 HW.out.2.1 HW.out.1 HW.out.2.2.1 (by omega) (by omega) (by omega) (.int .i64 x0) (.int .i64 y0) (.int .i64 x1) (.int .i64 y1) (.int .i64 x2) (.int .i64 y2); rw [hV])
            | (obtain ⟨V, hV, kA, kB, kC, bV⟩ := st3 HW.out.2.1 HW.out.2.2.1 HW.out.1 (by omega) (by omega) (by omega) (.int .i64 x0) (.int .i64 y0) (.int .i64 x1) (.int .i64 y1) (.int .i64 x2) (.int .i64 y2); rw [hV])
            | (obtain ⟨V, hV, kA, kB, kC, bV⟩ := st3 HW.out.2.2.1 HW.out.1 HW.out.2.1 (by omega) (by omega) (by omega) (.int .i64 x0) (.int .i64 y0) (.int .i64 x1) (.int .i64 y1) (.int .i64 x2) (.int .i64 y2); rw [hV])
            | (obtain ⟨V, hV, kA, kB, kC, bV⟩ := st3 HW.out.2.2.1 HW.out.2.1 HW.out.1 (by omega) (by omega) (by omega) (.int .i64 x0) (.int .i64 y0) (.int .i64 x1) (.int .i64 y1) (.int .i64 x2) (.int .i64 y2); rw [hV])
          have HV := HB2.out.trans (((HW.out.2.2.2.mono HB2.out.size).trans (bV w.heap.size (by have := HB2.out.size; omega) (by have := HB2.out.size; omega) (by have := HB2.out.size; omega))))
          clear hW
          go_wp2_with fail
          go_meet
          exact ⟨_, _, _, rfl, rfl, rfl, kA, kB, kC, HV.drew⟩
      case rest =>
        obtain ⟨A, B, C, rfl, rfl, rfl, kA, kB, kC, HV⟩ := hcut
        replace HV := Lib.hid HV
        clear d0 d1 d2 d3 d4 d5 p0 p1 p2 p3 q0 q1 q2 q3 r0 r1 r2 r3 e0 e1 e2 e3 e4 e5 hW
        obtain ⟨⟨p0, p1⟩, -⟩ := Box.pair kA
        obtain ⟨⟨q0, q1⟩, -⟩ := Box.pair kB
        obtain ⟨⟨r0, r1⟩, -⟩ := Box.pair kC
        clear kA kB kC
        go_wp2_with fail
        go_quiet (fail)
        have hBB := below_figE HV.out nq
        go_wp2_with fail
        go_roundg (n - (j + 1))
        case measure => have := HJ.out; omega
        case rel => exact ⟨j + 1, by simp; omega, by rw [HM.out], by have := HJ.out; omega, .inr (by have := HJ.out; omega), hBB⟩
    · have hbe : bendTo L j = r := by rw [← HR.out]; congr 1; omega
      have HB2 := Lib.hid hB
      rw [hbe]
      have hnl : ¬ (j : Int) + 2 < (n : Int) := by omega
      clear hB hbe hj0 hlt hwk hwk1 hwk2
      go_wp2_with fail
      go_ret
      exact ⟨rfl, HB2.out⟩
end Go.Proofs.Ytdkgnechiloimaa
/- Curves: what the program's own Pieces, near and slices.Clone answer. -/

namespace Go.Proofs.Ytdkgnechiloimaa
open Go.RowKit

set_option maxRecDepth 10000 in
set_option maxHeartbeats 1600000 in
theorem bez_Pieces (L : List Pt) (A : Option Addr) (c : Nat) (w : World) (hL : RdV w w.heap.size A (ptRow L)) (hl : L.length ≤ 1073741824) :
    Calls Try.prog 26 #[.slice A L.length c] w fun e w' => e = .returned (.int .i64 (piecesM L : Int)) ∧ Below w.heap.size w w' := by
  have cF := bez_fit L A c w hL hl
  obtain ⟨r, hr⟩ : ∃ r, piecesM L = r := ⟨_, rfl⟩
  rw [hr]
  by_cases hf : FitL L
  · have cB := fun V (h : Below w.heap.size w V) => bez_bend L A c V ((hL.below h).mono h.size) hf hl
    rw [decide_eq_true hf] at cF
    obtain ⟨d, hd⟩ : ∃ d, bendTo L (L.length - 2) = d := ⟨_, rfl⟩
    have hg := piecesM_yes hf
    have hdb := bendTo_bound hf (L.length - 2)
    rw [hd] at hdb hg
    rw [hr] at hg
    simp only [hd] at cB
    have HG := Lib.hid (show goP d (32 - 1) 1 = r from hg.symm)
    obtain ⟨n, hn⟩ : ∃ n, L.length = n := ⟨_, rfl⟩
    rw [hn] at hl cF
    simp only [hn] at cB
    rw [hn]
    have CF := Lib.hid cF
    have CB := Lib.hid cB
    clear cF cB hg hd hn hL hf hr
    go_enter Try.func26, Try.ntmps26
    go_wp2_with first
      | (go_at_call 28; with_reducible refine Calls.mono CF.out ?_; rintro e w1 ⟨rfl, b1⟩)
      | (go_at_call 29; with_reducible refine Calls.mono (CB.out _ b1) ?_; rintro e w2 ⟨rfl, b2⟩)
    have HB2 := Lib.hid (b1.trans (b2.mono b1.size))
    clear b1 b2
    go_loopg [4] 31 (fun gh it wr => ∃ q : Nat, it = .int .i64 (q : Int) ∧ gh + q = 32 ∧ 1 ≤ q ∧ goP d (32 - q) q = r ∧ Below w.heap.size w wr)
    case atStart => exact ⟨1, rfl, rfl, Nat.le_refl _, HG.out, HB2.out⟩
    case round =>
      obtain ⟨q, rfl, hg3, hq1, hgo, hB⟩ := hrel
      by_cases hq : q < 32
      · have hql : (q : Int) < 32 := by omega
        have q1 : IntKind.i64.wrap (16 * (q : Int)) = 16 * (q : Int) := IntWalk.i64_in _ (by omega)
        have hqq : (q : Int) * q ≤ 1024 ∧ 0 ≤ (q : Int) * q := ⟨by have := Int.mul_le_mul (show (q : Int) ≤ 32 by omega) (show (q : Int) ≤ 32 by omega) (by omega) (by omega); omega, Int.mul_nonneg (by omega) (by omega)⟩
        have q2 : IntKind.i64.wrap (16 * (q : Int) * q) = 16 * (q : Int) * q := IntWalk.i64_in _ (by rw [Int.mul_assoc]; omega)
        obtain ⟨f, hf⟩ : ∃ f, 32 - q = f + 1 := ⟨31 - q, by omega⟩
        rw [hf] at hgo
        unfold goP at hgo
        have HB3 := Lib.hid hB
        by_cases hc : 16 * (q : Int) * q < d
        · rw [if_pos hc] at hgo
          have HO := Lib.hid (show goP d (32 - (q + 1)) (q + 1) = r by rw [show 32 - (q + 1) = f by omega]; exact hgo)
          clear hgo hB hf hqq
          go_wp2_with fail
          go_roundg (32 - (q + 1))
          case measure => omega
          case rel => exact ⟨q + 1, by simp, by omega, by omega, HO.out, HB3.out⟩
        · rw [if_neg hc] at hgo
          clear hB hf hqq
          have HO := Lib.hid hgo
          clear hgo
          go_wp2_with fail
          go_ret
          exact ⟨by rw [HO.out]; rfl, HB3.out⟩
      · obtain rfl : q = 32 := by omega
        have hr : r = 32 := hgo.symm
        have HB3 := Lib.hid (And.intro hr hB)
        clear hr hB hgo
        go_wp2_with fail
        go_ret
        exact ⟨by rw [HB3.out.1]; rfl, HB3.out.2⟩
  · rw [decide_eq_false hf] at cF
    have hz := piecesM_no hf
    rw [hr] at hz
    subst hz
    obtain ⟨n, hn⟩ : ∃ n, L.length = n := ⟨_, rfl⟩
    rw [hn] at cF
    rw [hn]
    have CF := Lib.hid cF
    clear cF hn hL hf hr
    go_enter Try.func26, Try.ntmps26
    go_wp2_with first
      | (go_at_call 28; with_reducible refine Calls.mono CF.out ?_; rintro e w1 ⟨rfl, b1⟩)
    go_ret
    exact ⟨rfl, b1⟩

/-- v by d, cut towards 0 and mended, is the floor -/
theorem floor_quo {u t : Int} (ht : 0 < t) : (u.tmod t < 0 → u.tdiv t - 1 = u / t) ∧ (¬ u.tmod t < 0 → u.tdiv t = u / t) := by
  have h1 := Int.mul_tdiv_add_tmod u t
  have h2 := Int.tmod_lt_of_pos u ht
  have h3 : -t < u.tmod t := by
    rcases Int.le_total 0 u with h | h
    · have := Int.tmod_nonneg t h; omega
    · have e : (-u).tmod t = -(u.tmod t) := Int.neg_tmod u t
      have := Int.tmod_lt_of_pos (-u) ht
      omega
  generalize u.tmod t = r at *
  generalize u.tdiv t = q at *
  subst h1
  constructor
  · intro h
    rw [show t * q + r = t * (q - 1) + (t + r) by rw [Int.mul_sub]; omega, Int.mul_add_ediv_left _ _ (by omega), Int.ediv_eq_zero_of_lt (by omega) (by omega)]
    omega
  · intro h
    rw [Int.mul_add_ediv_left _ _ (by omega), Int.ediv_eq_zero_of_lt (by omega) (by omega)]
    omega

end Go.Proofs.Ytdkgnechiloimaa
/- Curves: what the program's own slices.Clone answers. -/

namespace Go.Proofs.Ytdkgnechiloimaa
open Go.RowKit

/-- a row of points in a block of its own, and what room there is behind it -/
def Lies (w : World) (g : Nat) (l : List Pt) (R : List Value) : Prop := Box w g 24 (ptRow l ++ R)
theorem Lies.set {w : World} {g : Nat} {l : List Pt} {R : List Value} (h : Lies w g l R) {i : Nat} (hi : i < l.length) (q : Pt) : ∃ U, (w.setCell ⟨g, i * 2, none⟩ (.int .i64 q.x)).setCell ⟨g, i * 2 + 1, none⟩ (.int .i64 q.y) = U ∧ Lies U g (l.set i q) R ∧ ∀ B, B ≤ g → Below B w U := by
  refine ⟨_, rfl, ?_, fun B hB => ((Below.refl B w).setCell (p := ⟨g, i * 2, none⟩) hB _).setCell (p := ⟨g, i * 2 + 1, none⟩) hB _⟩
  have hl := ptRow_length l
  have e : ((ptRow l ++ R).set (i * 2) (.int .i64 q.x)).set (i * 2 + 1) (.int .i64 q.y) = ptRow (l.set i q) ++ R := by
    rw [List.set_append_left _ _ (by omega), List.set_append_left _ _ (by rw [List.length_set]; omega), ptRow_set l i q hi]
  unfold Lies
  rw [← e]
  exact (Box.set h (i * 2) _).set (i * 2 + 1) _
theorem Lies.pt {w : World} {g : Nat} {l : List Pt} {R : List Value} (h : Lies w g l R) {i : Nat} (hi : i < l.length) : (w.cell? ⟨g, i * 2, none⟩ = some (.int .i64 l[i].x) ∧ w.cell? ⟨g, i * 2 + 1, none⟩ = some (.int .i64 l[i].y)) ∧ w.frozen? ⟨g, i * 2, none⟩ = false ∧ w.frozen? ⟨g, i * 2 + 1, none⟩ = false := by
  have hl := ptRow_length l
  refine ⟨⟨Box.cell h _ ?_, Box.cell h _ ?_⟩, Box.frozen h _, Box.frozen h _⟩
  · rw [List.getElem?_append_left (by omega)]; exact flat_get ptCells_length l i hi 0 (by omega)
  · rw [List.getElem?_append_left (by omega)]; exact flat_get ptCells_length l i hi 1 (by omega)
theorem Lies.below {w w' : World} {g : Nat} {l : List Pt} {R : List Value} (h : Lies w g l R) {B : Nat} (hb : Below B w w') (hg : g < B) : Lies w' g l R := Box.below h hb hg
theorem Lies.ofOwn {w : World} {base n : Nat} {v : Value} {l : List Pt} (h : w.ownsRow base 24 2 v n (ptRow l)) (hn : 0 < n) : ∃ g cap R, v = .slice (some ⟨g, 0, none⟩) n cap ∧ n ≤ cap ∧ base ≤ g ∧ Lies w g l R := by
  rcases h.2 with ⟨rfl, rfl⟩ | ⟨g, cap, cur, rfl, hb, hg, hnc, hcm, hcs, htake⟩
  · omega
  · refine ⟨g, cap, cur.toList.drop (n * 2), rfl, hnc, hb, ?_⟩
    unfold Lies Box
    rw [← htake, List.take_append_drop]
    exact hg

end Go.Proofs.Ytdkgnechiloimaa
/- Curves: what the program's own along answers. -/

namespace Go.Proofs.Ytdkgnechiloimaa
open Go.RowKit

theorem bx2pt (w : World) (t : TypeId) (x0 y0 x1 y1 : Value) : ∃ W, (w.alloc (.cells #[x0, y0] t)).alloc (.cells #[x1, y1] t) = W ∧ Box W w.heap.size t [x0, y0] ∧ Box W (w.heap.size + 1) t [x1, y1] ∧ Below w.heap.size w W := by
  refine ⟨_, rfl, (Box.new w _ [x0, y0]).alloc _, Box.at_new (w.alloc (.cells #[x0, y0] t)) _ [x1, y1] (by simp), ?_⟩
  exact ((Below.refl _ w).alloc (Nat.le_refl _) _).alloc (by simp) _
theorem st2 {W : World} {t : TypeId} {A B : Nat} {a0 a1 b0 b1 : Value} (kA : Box W A t [a0, a1]) (kB : Box W B t [b0, b1]) (hAB : A ≠ B) (x0 y0 x1 y1 : Value) :
    ∃ V, (((W.setCell ⟨A, 0, none⟩ x0).setCell ⟨A, 1, none⟩ y0).setCell ⟨B, 0, none⟩ x1).setCell ⟨B, 1, none⟩ y1 = V ∧ Box V A t [x0, y0] ∧ Box V B t [x1, y1] ∧ ∀ n, n ≤ A → n ≤ B → Below n W V := by
  obtain ⟨U, hU, kU, -, bU⟩ := kA.stored2 x0 y0
  have kB' : Box U B t [b0, b1] := by rw [← hU]; exact (kB.far (p := ⟨A, 0, none⟩) (Ne.symm hAB) _).far (p := ⟨A, 1, none⟩) (Ne.symm hAB) _
  obtain ⟨X, hX, kX, -, bX⟩ := kB'.stored2 x1 y1
  have kA' : Box X A t [x0, y0] := by rw [← hX]; exact (kU.far (p := ⟨B, 0, none⟩) hAB _).far (p := ⟨B, 1, none⟩) hAB _
  exact ⟨X, by rw [hU, hX], kA', kX, fun n h1 h2 => (bU n h1).trans (bX n h2)⟩
theorem cast_le {L : List Pt} (hF : FitL L) {k n r : Nat} (hk : k ≤ n) (hn : n ≤ 32) (hr : r ≤ 3) {i : Nat} (hi : i < (castP k n r L).length) : (-274877874176 ≤ ((castP k n r L)[i]).x ∧ ((castP k n r L)[i]).x ≤ 274877874176) ∧ (-274877874176 ≤ ((castP k n r L)[i]).y ∧ ((castP k n r L)[i]).y ≤ 274877874176) := cast_bound hF hk hn hr _ (List.getElem_mem hi)
theorem Lies.drew {w : World} {g : Nat} {l : List Pt} {R : List Value} (h : Lies w g l R) : Lies w.drew g l R := h
theorem Lies.lt {w : World} {g : Nat} {l : List Pt} {R : List Value} (h : Lies w g l R) : g < w.heap.size := Box.lt h

end Go.Proofs.Ytdkgnechiloimaa
/- Curves: what the program's own curve, Quad and Cube answer; that a curve bends. -/

namespace Go.Proofs.Ytdkgnechiloimaa
open Go.RowKit

/-- a curve under way: the first i points, the rest as made -/
def under (n : Nat) (l : List Pt) (i : Nat) : List Pt := curveTo n l i ++ List.replicate (n - i) pt0
theorem under_length (n : Nat) (l : List Pt) {i : Nat} (h : i ≤ n) : (under n l i).length = n := by
  simp [under, curveTo_length]; omega
theorem under_step (n : Nat) (l : List Pt) {i : Nat} (hi : i < n) : (under n l i).set i (curveAt (i + 1) n l) = under n l (i + 1) := by
  have hl := curveTo_length n l i
  unfold under
  rw [curveTo_step, List.set_append_right _ _ (by omega), hl, Nat.sub_self]
  obtain ⟨k, hk⟩ : ∃ k, n - i = k + 1 := ⟨n - i - 1, by omega⟩
  rw [hk, List.replicate_succ, List.set_cons_zero, List.append_assoc, show n - (i + 1) = k by omega]
  rfl
theorem under_all (n : Nat) (l : List Pt) : under n l n = curveTo n l n := by simp [under]
/-- what a call hands back: a row of points, and an error -/
def Curved (l : List Pt) (w : World) (e : Ending) (w' : World) : Prop := (∃ q k, e = .returned (.tuple #[.slice q (curveP l).length k, .int .i64 (curveE l)]) ∧ RdV w' w'.heap.size q (ptRow (curveP l))) ∧ Below w.heap.size w w'

end Go.Proofs.Ytdkgnechiloimaa
/- Curves: what the program's own Quad and Cube answer; that a curve bends. -/

namespace Go.Proofs.Ytdkgnechiloimaa
open Go.RowKit

/-- three points, handed in one by one -/
theorem q_boxes (w : World) (a b c : Pt) : ∃ W, ((w.alloc (.cells #[.int .i64 a.x, .int .i64 a.y] 24)).alloc (.cells #[.int .i64 b.x, .int .i64 b.y] 24)).alloc (.cells #[.int .i64 c.x, .int .i64 c.y] 24) = W ∧
    (W.cell? ⟨w.heap.size, 0, none⟩ = some (.int .i64 a.x) ∧ W.cell? ⟨w.heap.size, 1, none⟩ = some (.int .i64 a.y)) ∧ (W.cell? ⟨w.heap.size + 1, 0, none⟩ = some (.int .i64 b.x) ∧ W.cell? ⟨w.heap.size + 1, 1, none⟩ = some (.int .i64 b.y)) ∧ (W.cell? ⟨w.heap.size + 1 + 1, 0, none⟩ = some (.int .i64 c.x) ∧ W.cell? ⟨w.heap.size + 1 + 1, 1, none⟩ = some (.int .i64 c.y)) ∧ Below w.heap.size w W := by
  obtain ⟨W, hW, k1, k2, k3, b⟩ := bx3pt w 24 (.int .i64 a.x) (.int .i64 a.y) (.int .i64 b.x) (.int .i64 b.y) (.int .i64 c.x) (.int .i64 c.y)
  exact ⟨W, hW, (Box.pair k1).1, (Box.pair k2).1, (Box.pair k3).1, b⟩
theorem c_boxes (w : World) (a b c d : Pt) : ∃ W, (((w.alloc (.cells #[.int .i64 a.x, .int .i64 a.y] 24)).alloc (.cells #[.int .i64 b.x, .int .i64 b.y] 24)).alloc (.cells #[.int .i64 c.x, .int .i64 c.y] 24)).alloc (.cells #[.int .i64 d.x, .int .i64 d.y] 24) = W ∧
    (W.cell? ⟨w.heap.size, 0, none⟩ = some (.int .i64 a.x) ∧ W.cell? ⟨w.heap.size, 1, none⟩ = some (.int .i64 a.y)) ∧ (W.cell? ⟨w.heap.size + 1, 0, none⟩ = some (.int .i64 b.x) ∧ W.cell? ⟨w.heap.size + 1, 1, none⟩ = some (.int .i64 b.y)) ∧ (W.cell? ⟨w.heap.size + 1 + 1, 0, none⟩ = some (.int .i64 c.x) ∧ W.cell? ⟨w.heap.size + 1 + 1, 1, none⟩ = some (.int .i64 c.y)) ∧ (W.cell? ⟨w.heap.size + 1 + 1 + 1, 0, none⟩ = some (.int .i64 d.x) ∧ W.cell? ⟨w.heap.size + 1 + 1 + 1, 1, none⟩ = some (.int .i64 d.y)) ∧ Below w.heap.size w W := by
  obtain ⟨V, hV, k1, k2, k3, b⟩ := bx3pt w 24 (.int .i64 a.x) (.int .i64 a.y) (.int .i64 b.x) (.int .i64 b.y) (.int .i64 c.x) (.int .i64 c.y)
  have hs : V.heap.size = w.heap.size + 1 + 1 + 1 := by rw [← hV]; simp
  rw [hV]
  have k4 := Box.new V 24 [.int .i64 d.x, .int .i64 d.y]
  rw [hs] at k4
  exact ⟨_, rfl, (Box.pair (k1.alloc _)).1, (Box.pair (k2.alloc _)).1, (Box.pair (k3.alloc _)).1, (Box.pair k4).1, b.alloc b.size _⟩

end Go.Proofs.Ytdkgnechiloimaa
