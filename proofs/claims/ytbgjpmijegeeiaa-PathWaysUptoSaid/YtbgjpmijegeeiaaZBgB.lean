/- Curves: what the program's own fit, bend and Pieces answer. -/
import Derived.Test.YtbgjpmijegeeiaaZBgA
import Derived.Test.YtbgjpmijegeeiaaZAgZ
import Derived.BigRegion
import Derived.Deep.RegionHeld3
namespace Go.Proofs.Ytbgjpmijegeeiaa
open Go.RowKit

set_option maxRecDepth 10000 in
set_option maxHeartbeats 1600000 in
theorem bez_fit (L : List Pt) (A : Option Addr) (c : Nat) (w : World) (hL : RdV w w.heap.size A (ptRow L)) (hl : L.length ≤ 1073741824) :
    Calls Try.prog 33 #[.slice A L.length c] w fun e w' => e = .returned (.bool (decide (FitL L))) ∧ Below w.heap.size w w' := by
  obtain ⟨n, hn⟩ : ∃ n, L.length = n := ⟨_, rfl⟩
  have HN := Lib.hid hn
  have HL := Lib.hid hL
  rw [hn] at hl ⊢
  obtain ⟨r, hr⟩ : ∃ r : Bool, decide (FitL L) = r := ⟨_, rfl⟩
  have HR := Lib.hid hr
  rw [hr]
  clear hn hL hr
  go_enter Try.func33, Try.ntmps33
  go_wp2_with fail
  go_loopg [7] n (fun gh it wr => ∃ i : Nat, it = .int .i64 (i : Int) ∧ gh + i = n ∧ (∀ p ∈ L.take i, FitP p) ∧ Below w.heap.size w wr)
  case atStart => exact ⟨0, rfl, by omega, by simp, Below.refl _ _⟩
  case round =>
    obtain ⟨i, rfl, hg, hok, hB⟩ := hrel
    by_cases hlt : i < n
    · have hlt' : i < L.length := by rw [HN.out]; exact hlt
      obtain ⟨g, o, rfl, hgl, e0, e1⟩ := (HL.out.below hB).pt (i := i) hlt'
      have hil : (i : Int) < (n : Int) := by omega
      obtain ⟨p, hpp⟩ : ∃ p, L[i] = p := ⟨_, rfl⟩
      have HST := Lib.hid (fitL_step hlt' hok)
      have HNO := Lib.hid (fitL_not hlt')
      rw [hpp] at e0 e1 HST HNO
      obtain ⟨d, hd⟩ : ∃ d : Bool, decide (FitP p) = d := ⟨_, rfl⟩
      have cF := fun V => aff_Fits p V
      rw [hd] at cF
      obtain ⟨x, y⟩ := p
      unfold ptV at cF
      dsimp only at e0 e1 cF
      obtain ⟨V0, hV0, k0, c0⟩ := endP wr 42 (.int .i64 x) (.int .i64 y)
      obtain ⟨⟨t0, t1⟩, -⟩ := Box.pair k0
      have CF := Lib.hid cF
      have HB := Lib.hid (hB.trans (c0.mono hB.size))
      have HD := Lib.hid hd
      clear hok hB cF hpp hlt' hd k0 c0
      cases d with
      | true =>
        have HS := Lib.hid (HST.out (of_decide_eq_true HD.out))
        clear HST HNO
        go_wp2_with first
          | (rw [hV0])
          | ((try rw [hV0]); go_at_call 35; with_reducible refine Calls.mono (CF.out _) ?_; rintro e w1 ⟨rfl, b1⟩)
        have hBB := HB.out.trans (b1.mono HB.out.size)
        go_roundg (n - (i + 1))
        case measure => omega
        case rel => exact ⟨i + 1, by simp, by omega, HS.out, hBB⟩
      | false =>
        have HS := Lib.hid (decide_eq_false (HNO.out (of_decide_eq_false HD.out)))
        clear HST HNO
        go_wp2_with first
          | (rw [hV0])
          | ((try rw [hV0]); go_at_call 35; with_reducible refine Calls.mono (CF.out _) ?_; rintro e w1 ⟨rfl, b1⟩)
        have hBB := HB.out.trans (b1.mono HB.out.size)
        go_ret
        rw [← HR.out, HS.out]
        exact ⟨rfl, hBB⟩
    · obtain rfl : i = n := by omega
      have HF := Lib.hid (decide_eq_true (fitL_all (l := L) (by rw [HN.out]; exact hok)))
      have HB := Lib.hid hB
      clear hok hB
      go_wp2_with fail
      go_ret
      rw [← HR.out, HF.out]
      exact ⟨rfl, HB.out⟩

/-- three boxes of points -/
theorem bx3pt (w : World) (t : TypeId) (x0 y0 x1 y1 x2 y2 : Value) : ∃ W, ((w.alloc (.cells #[x0, y0] t)).alloc (.cells #[x1, y1] t)).alloc (.cells #[x2, y2] t) = W ∧ Box W w.heap.size t [x0, y0] ∧ Box W (w.heap.size + 1) t [x1, y1] ∧ Box W (w.heap.size + 1 + 1) t [x2, y2] ∧ Below w.heap.size w W := by
  refine ⟨_, rfl, ((Box.new w _ [x0, y0]).alloc _).alloc _, (Box.at_new (w.alloc (.cells #[x0, y0] t)) _ [x1, y1] (by simp)).alloc _, Box.at_new ((w.alloc (.cells #[x0, y0] t)).alloc (.cells #[x1, y1] t)) _ [x2, y2] (by simp), ?_⟩
  exact (((Below.refl _ w).alloc (Nat.le_refl _) _).alloc (by simp) _).alloc (by simp; omega) _

/-- .. written -/
theorem st3 {W : World} {t : TypeId} {A B C : Nat} {a0 a1 b0 b1 c0 c1 : Value} (kA : Box W A t [a0, a1]) (kB : Box W B t [b0, b1]) (kC : Box W C t [c0, c1]) (hAB : A ≠ B) (hAC : A ≠ C) (hBC : B ≠ C) (x0 y0 x1 y1 x2 y2 : Value) :
    ∃ V, (((((W.setCell ⟨A, 0, none⟩ x0).setCell ⟨A, 1, none⟩ y0).setCell ⟨B, 0, none⟩ x1).setCell ⟨B, 1, none⟩ y1).setCell ⟨C, 0, none⟩ x2).setCell ⟨C, 1, none⟩ y2 = V ∧ Box V A t [x0, y0] ∧ Box V B t [x1, y1] ∧ Box V C t [x2, y2] ∧ ∀ n, n ≤ A → n ≤ B → n ≤ C → Below n W V := by
  obtain ⟨U, hU, kU, -, bU⟩ := kA.stored2 x0 y0
  have kB' : Box U B t [b0, b1] := by rw [← hU]; exact (kB.far (p := ⟨A, 0, none⟩) (Ne.symm hAB) _).far (p := ⟨A, 1, none⟩) (Ne.symm hAB) _
  have kC' : Box U C t [c0, c1] := by rw [← hU]; exact (kC.far (p := ⟨A, 0, none⟩) (Ne.symm hAC) _).far (p := ⟨A, 1, none⟩) (Ne.symm hAC) _
  obtain ⟨X, hX, kX, -, bX⟩ := kB'.stored2 x1 y1
  have kA' : Box X A t [x0, y0] := by rw [← hX]; exact (kU.far (p := ⟨B, 0, none⟩) hAB _).far (p := ⟨B, 1, none⟩) hAB _
  have kC2 : Box X C t [c0, c1] := by rw [← hX]; exact (kC'.far (p := ⟨B, 0, none⟩) (Ne.symm hBC) _).far (p := ⟨B, 1, none⟩) (Ne.symm hBC) _
  obtain ⟨V, hV, kV, -, bV⟩ := kC2.stored2 x2 y2
  have kA3 : Box V A t [x0, y0] := by rw [← hV]; exact (kA'.far (p := ⟨C, 0, none⟩) hAC _).far (p := ⟨C, 1, none⟩) hAC _
  have kB3 : Box V B t [x1, y1] := by rw [← hV]; exact (kX.far (p := ⟨C, 0, none⟩) hBC _).far (p := ⟨C, 1, none⟩) hBC _
  exact ⟨V, by rw [hU, hX, hV], kA3, kB3, kV, fun n h1 h2 h3 => ((bU n h1).trans (bX n h2)).trans (bV n h3)⟩

set_option maxRecDepth 10000 in
set_option maxHeartbeats 3200000 in
theorem bez_bend (L : List Pt) (A : Option Addr) (c : Nat) (w : World) (hL : RdV w w.heap.size A (ptRow L)) (hF : FitL L) (hl : L.length ≤ 1073741824) :
    Calls Try.prog 34 #[.slice A L.length c] w fun e w' => e = .returned (.int .i64 (bendTo L (L.length - 2))) ∧ Below w.heap.size w w' := by
  obtain ⟨n, hn⟩ : ∃ n, L.length = n := ⟨_, rfl⟩
  have HN := Lib.hid hn
  have HL := Lib.hid hL
  have HF := Lib.hid hF
  rw [hn] at hl ⊢
  obtain ⟨r, hr⟩ : ∃ r, bendTo L (n - 2) = r := ⟨_, rfl⟩
  have HR := Lib.hid hr
  rw [hr]
  clear hn hL hr hF
  go_enter Try.func34, Try.ntmps34
  go_wp2_with fail
  go_loopg [3, 4] n (fun gh mt it wr => ∃ j : Nat, it = .int .i64 ((j : Int) + 2) ∧ mt = .int .i64 (bendTo L j) ∧ gh + j = n ∧ (j = 0 ∨ j + 2 ≤ n) ∧ Below w.heap.size w wr)
  case atStart => exact ⟨0, rfl, rfl, by omega, .inl rfl, Below.refl _ _⟩
  case round =>
    obtain ⟨j, rfl, rfl, hg2, hj0, hB⟩ := hrel
    have hwk : IntKind.i64.wrap ((j : Int) + 2 + 1) = (j : Int) + 3 := by rw [IntWalk.i64_in _ (by omega)]; omega
    have hwk1 : IntKind.i64.wrap ((j : Int) + 2 - 1) = (j : Int) + 1 := by rw [IntWalk.i64_in _ (by omega)]; omega
    have hwk2 : IntKind.i64.wrap ((j : Int) + 2 - 2) = (j : Int) := by rw [IntWalk.i64_in _ (by omega)]; omega
    by_cases hlt : j + 2 < n
    · have hlt' : j + 2 < L.length := by rw [HN.out]; exact hlt
      obtain ⟨g, o, rfl, hgl, e0, e1⟩ := (HL.out.below hB).pt (i := j) (by omega)
      obtain ⟨g', o', hgo, -, e2, e3⟩ := (HL.out.below hB).pt (i := j + 1) (by omega)
      cases hgo
      obtain ⟨g', o', hgo, -, e4, e5⟩ := (HL.out.below hB).pt (i := j + 2) (by omega)
      cases hgo
      rw [← getD_get (by omega : j < L.length)] at e0 e1
      rw [← getD_get (by omega : j + 1 < L.length)] at e2 e3
      rw [← getD_get (by omega : j + 2 < L.length)] at e4 e5
      have hb := bend_bound HF.out j
      have hm := bendTo_bound HF.out j
      have hst : bendTo L (j + 1) = max (bendTo L j) (max (absI (bendX L j)) (absI (bendY L j))) := rfl
      have f0 := HF.out.getD j
      have f1 := HF.out.getD (j + 1)
      have f2 := HF.out.getD (j + 2)
      unfold bendX bendY at hb hst
      generalize bendTo L j = m at hst hm ⊢
      generalize L.getD j pt0 = p0 at e0 e1 hb hst f0
      generalize L.getD (j + 1) pt0 = p1 at e2 e3 hb hst f1
      generalize L.getD (j + 2) pt0 = p2 at e4 e5 hb hst f2
      obtain ⟨x0, y0⟩ := p0
      obtain ⟨x1, y1⟩ := p1
      obtain ⟨x2, y2⟩ := p2
      unfold FitP at f0 f1 f2
      dsimp only at e0 e1 e2 e3 e4 e5 hb hst f0 f1 f2
      obtain ⟨⟨b1, b2⟩, b3, b4⟩ := hb
      have v1 : IntKind.i64.wrap (x0 - 2 * x1) = x0 - 2 * x1 := IntWalk.i64_in _ (by omega)
      have v2 : IntKind.i64.wrap (2 * x1) = 2 * x1 := IntWalk.i64_in _ (by omega)
      have v3 : IntKind.i64.wrap (x0 - 2 * x1 + x2) = x0 - 2 * x1 + x2 := IntWalk.i64_in _ (by omega)
      have v4 : IntKind.i64.wrap (y0 - 2 * y1) = y0 - 2 * y1 := IntWalk.i64_in _ (by omega)
      have v5 : IntKind.i64.wrap (2 * y1) = 2 * y1 := IntWalk.i64_in _ (by omega)
      have v6 : IntKind.i64.wrap (y0 - 2 * y1 + y2) = y0 - 2 * y1 + y2 := IntWalk.i64_in _ (by omega)
      have v7 : IntKind.i64.wrap (-(x0 - 2 * x1 + x2)) = -(x0 - 2 * x1 + x2) := IntWalk.i64_in _ (by omega)
      have v8 : IntKind.i64.wrap (-(y0 - 2 * y1 + y2)) = -(y0 - 2 * y1 + y2) := IntWalk.i64_in _ (by omega)
      rw [absI_max, absI_max] at hst
      obtain ⟨m', hm'⟩ : ∃ m', bendTo L (j + 1) = m' := ⟨_, rfl⟩
      rw [hm'] at hst
      have hmx := fun ts t W => max5_run (P := Try.prog) m (x0 - 2 * x1 + x2) (-(x0 - 2 * x1 + x2)) (y0 - 2 * y1 + y2) (-(y0 - 2 * y1 + y2)) m' hst.symm ts t W
      have i0 : (j : Int) < (n : Int) := by omega
      have i1 : 0 ≤ (j : Int) + 1 ∧ (j : Int) + 1 < (n : Int) := by omega
      have i2 : 0 ≤ (j : Int) + 2 ∧ (j : Int) + 2 < (n : Int) := by omega
      have t1 : ((j : Int) + 1).toNat = j + 1 := by omega
      have t2 : ((j : Int) + 2).toNat = j + 2 := by omega
      have i3 : (j : Int) + 2 < (n : Int) := by omega
      have HB2 := Lib.hid hB
      have HM := Lib.hid hm'
      have HJ := Lib.hid hlt
      obtain ⟨W, hW, kp, kq, kr, bW⟩ := bx3pt wr 42 (.int .i64 0) (.int .i64 0) (.int .i64 0) (.int .i64 0) (.int .i64 0) (.int .i64 0)
      have hgw : g < wr.heap.size := Nat.lt_of_lt_of_le hgl hB.size
      have d0 := (bW.cell (p := ⟨g, o + j * 2, none⟩) hgw).trans e0
      have d1 := (bW.cell (p := ⟨g, o + j * 2 + 1, none⟩) hgw).trans e1
      have d2 := (bW.cell (p := ⟨g, o + (j + 1) * 2, none⟩) hgw).trans e2
      have d3 := (bW.cell (p := ⟨g, o + (j + 1) * 2 + 1, none⟩) hgw).trans e3
      have d4 := (bW.cell (p := ⟨g, o + (j + 2) * 2, none⟩) hgw).trans e4
      have d5 := (bW.cell (p := ⟨g, o + (j + 2) * 2 + 1, none⟩) hgw).trans e5
      obtain ⟨⟨p0, p1⟩, p2, p3⟩ := Box.pair kp
      obtain ⟨⟨q0, q1⟩, q2, q3⟩ := Box.pair kq
      obtain ⟨⟨r0, r1⟩, r2, r3⟩ := Box.pair kr
      have HW := Lib.hid (And.intro kp (And.intro kq (And.intro kr bW)))
      clear hB hm' hst hm f0 f1 f2 b1 b2 b3 b4 hlt' hlt kp kq kr bW
      go_wp2_with fail
      go_cut [5, 6, 7] from 10 to 55 (fun v5 v6 v7 wc => ∃ A B C, v5 = .pointer (some ⟨A, 0, none⟩) ∧ v6 = .pointer (some ⟨B, 0, none⟩) ∧ v7 = .pointer (some ⟨C, 0, none⟩) ∧ Box wc A 42 [.int .i64 x0, .int .i64 y0] ∧ Box wc B 42 [.int .i64 x1, .int .i64 y1] ∧ Box wc C 42 [.int .i64 x2, .int .i64 y2] ∧ Below w.heap.size w wc)
      case first =>
        go_region
        all_goals
          first
            | (obtain ⟨V, hV, kA, kB, kC, bV⟩ := st3 HW.out.1 HW.out.2.1 HW.out.2.2.1 (by omega) (by omega) (by omega) (.int .i64 x0) (.int .i64 y0) (.int .i64 x1) (.int .i64 y1) (.int .i64 x2) (.int .i64 y2); rw [hV])
            | (obtain ⟨V, hV, kA, kB, kC, bV⟩ := st3 HW.out.1 HW.out.2.2.1 HW.out.2.1 (by omega) (by omega) (by omega) (.int .i64 x0) (.int .i64 y0) (.int .i64 x1) (.int .i64 y1) (.int .i64 x2) (.int .i64 y2); rw [hV])
            | (obtain ⟨V, hV, kA, kB, kC, bV⟩ := st3 HW.out.2.1 HW.out.1 HW.out.2.2.1 (by omega) (by omega) (by omega) (.int .i64 x0) (.int .i64 y0) (.int .i64 x1) (.int .i64 y1) (.int .i64 x2) (.int .i64 y2); rw [hV])
            | (obtain ⟨V, hV, kA, kB, kC, bV⟩ := st3 HW.out.2.1 HW.out.2.2.1 HW.out.1 (by omega) (by omega) (by omega) (.int .i64 x0) (.int .i64 y0) (.int .i64 x1) (.int .i64 y1) (.int .i64 x2) (.int .i64 y2); rw [hV])
            | (obtain ⟨V, hV, kA, kB, kC, bV⟩ := st3 HW.out.2.2.1 HW.out.1 HW.out.2.1 (by omega) (by omega) (by omega) (.int .i64 x0) (.int .i64 y0) (.int .i64 x1) (.int .i64 y1) (.int .i64 x2) (.int .i64 y2); rw [hV])
            | (obtain ⟨V, hV, kA, kB, kC, bV⟩ := st3 HW.out.2.2.1 HW.out.2.1 HW.out.1 (by omega) (by omega) (by omega) (.int .i64 x0) (.int .i64 y0) (.int .i64 x1) (.int .i64 y1) (.int .i64 x2) (.int .i64 y2); rw [hV])
          have HV := HB2.out.trans (((HW.out.2.2.2.mono HB2.out.size).trans (bV w.heap.size (by have := HB2.out.size; omega) (by have := HB2.out.size; omega) (by have := HB2.out.size; omega))))
          clear hW
          go_wp2_with fail
          go_meet
          exact ⟨_, _, _, rfl, rfl, rfl, kA, kB, kC, HV.drew⟩
      case rest =>
        obtain ⟨A, B, C, rfl, rfl, rfl, kA, kB, kC, HV⟩ := hcut
        replace HV := Lib.hid HV
        clear d0 d1 d2 d3 d4 d5 p0 p1 p2 p3 q0 q1 q2 q3 r0 r1 r2 r3 e0 e1 e2 e3 e4 e5 hW
        obtain ⟨⟨p0, p1⟩, -⟩ := Box.pair kA
        obtain ⟨⟨q0, q1⟩, -⟩ := Box.pair kB
        obtain ⟨⟨r0, r1⟩, -⟩ := Box.pair kC
        clear kA kB kC
        go_wp2_with fail
        go_quiet (fail)
        have hBB := below_figE HV.out nq
        go_wp2_with fail
        go_roundg (n - (j + 1))
        case measure => have := HJ.out; omega
        case rel => exact ⟨j + 1, by simp; omega, by rw [HM.out], by have := HJ.out; omega, .inr (by have := HJ.out; omega), hBB⟩
    · have hbe : bendTo L j = r := by rw [← HR.out]; congr 1; omega
      have HB2 := Lib.hid hB
      rw [hbe]
      have hnl : ¬ (j : Int) + 2 < (n : Int) := by omega
      clear hB hbe hj0 hlt hwk hwk1 hwk2
      go_wp2_with fail
      go_ret
      exact ⟨rfl, HB2.out⟩
end Go.Proofs.Ytbgjpmijegeeiaa
/- Curves: what the program's own Pieces, near and slices.Clone answer. -/

namespace Go.Proofs.Ytbgjpmijegeeiaa
open Go.RowKit

set_option maxRecDepth 10000 in
set_option maxHeartbeats 1600000 in
theorem bez_Pieces (L : List Pt) (A : Option Addr) (c : Nat) (w : World) (hL : RdV w w.heap.size A (ptRow L)) (hl : L.length ≤ 1073741824) :
    Calls Try.prog 24 #[.slice A L.length c] w fun e w' => e = .returned (.int .i64 (piecesM L : Int)) ∧ Below w.heap.size w w' := by
  have cF := bez_fit L A c w hL hl
  obtain ⟨r, hr⟩ : ∃ r, piecesM L = r := ⟨_, rfl⟩
  rw [hr]
  by_cases hf : FitL L
  · have cB := fun V (h : Below w.heap.size w V) => bez_bend L A c V ((hL.below h).mono h.size) hf hl
    rw [decide_eq_true hf] at cF
    obtain ⟨d, hd⟩ : ∃ d, bendTo L (L.length - 2) = d := ⟨_, rfl⟩
    have hg := piecesM_yes hf
    have hdb := bendTo_bound hf (L.length - 2)
    rw [hd] at hdb hg
    rw [hr] at hg
    simp only [hd] at cB
    have HG := Lib.hid (show goP d (32 - 1) 1 = r from hg.symm)
    obtain ⟨n, hn⟩ : ∃ n, L.length = n := ⟨_, rfl⟩
    rw [hn] at hl cF
    simp only [hn] at cB
    rw [hn]
    have CF := Lib.hid cF
    have CB := Lib.hid cB
    clear cF cB hg hd hn hL hf hr
    go_enter Try.func24, Try.ntmps24
    go_wp2_with first
      | (go_at_call 33; with_reducible refine Calls.mono CF.out ?_; rintro e w1 ⟨rfl, b1⟩)
      | (go_at_call 34; with_reducible refine Calls.mono (CB.out _ b1) ?_; rintro e w2 ⟨rfl, b2⟩)
    have HB2 := Lib.hid (b1.trans (b2.mono b1.size))
    clear b1 b2
    go_loopg [4] 31 (fun gh it wr => ∃ q : Nat, it = .int .i64 (q : Int) ∧ gh + q = 32 ∧ 1 ≤ q ∧ goP d (32 - q) q = r ∧ Below w.heap.size w wr)
    case atStart => exact ⟨1, rfl, rfl, Nat.le_refl _, HG.out, HB2.out⟩
    case round =>
      obtain ⟨q, rfl, hg3, hq1, hgo, hB⟩ := hrel
      by_cases hq : q < 32
      · have hql : (q : Int) < 32 := by omega
        have q1 : IntKind.i64.wrap (16 * (q : Int)) = 16 * (q : Int) := IntWalk.i64_in _ (by omega)
        have hqq : (q : Int) * q ≤ 1024 ∧ 0 ≤ (q : Int) * q := ⟨by have := Int.mul_le_mul (show (q : Int) ≤ 32 by omega) (show (q : Int) ≤ 32 by omega) (by omega) (by omega); omega, Int.mul_nonneg (by omega) (by omega)⟩
        have q2 : IntKind.i64.wrap (16 * (q : Int) * q) = 16 * (q : Int) * q := IntWalk.i64_in _ (by rw [Int.mul_assoc]; omega)
        obtain ⟨f, hf⟩ : ∃ f, 32 - q = f + 1 := ⟨31 - q, by omega⟩
        rw [hf] at hgo
        unfold goP at hgo
        have HB3 := Lib.hid hB
        by_cases hc : 16 * (q : Int) * q < d
        · rw [if_pos hc] at hgo
          have HO := Lib.hid (show goP d (32 - (q + 1)) (q + 1) = r by rw [show 32 - (q + 1) = f by omega]; exact hgo)
          clear hgo hB hf hqq
          go_wp2_with fail
          go_roundg (32 - (q + 1))
          case measure => omega
          case rel => exact ⟨q + 1, by simp, by omega, by omega, HO.out, HB3.out⟩
        · rw [if_neg hc] at hgo
          clear hB hf hqq
          have HO := Lib.hid hgo
          clear hgo
          go_wp2_with fail
          go_ret
          exact ⟨by rw [HO.out]; rfl, HB3.out⟩
      · obtain rfl : q = 32 := by omega
        have hr : r = 32 := hgo.symm
        have HB3 := Lib.hid (And.intro hr hB)
        clear hr hB hgo
        go_wp2_with fail
        go_ret
        exact ⟨by rw [HB3.out.1]; rfl, HB3.out.2⟩
  · rw [decide_eq_false hf] at cF
    have hz := piecesM_no hf
    rw [hr] at hz
    subst hz
    obtain ⟨n, hn⟩ : ∃ n, L.length = n := ⟨_, rfl⟩
    rw [hn] at cF
    rw [hn]
    have CF := Lib.hid cF
    clear cF hn hL hf hr
    go_enter Try.func24, Try.ntmps24
    go_wp2_with first
      | (go_at_call 33; with_reducible refine Calls.mono CF.out ?_; rintro e w1 ⟨rfl, b1⟩)
    go_ret
    exact ⟨rfl, b1⟩

/-- v by d, cut towards 0 and mended, is the floor -/
theorem floor_quo {u t : Int} (ht : 0 < t) : (u.tmod t < 0 → u.tdiv t - 1 = u / t) ∧ (¬ u.tmod t < 0 → u.tdiv t = u / t) := by
  have h1 := Int.mul_tdiv_add_tmod u t
  have h2 := Int.tmod_lt_of_pos u ht
  have h3 : -t < u.tmod t := by
    rcases Int.le_total 0 u with h | h
    · have := Int.tmod_nonneg t h; omega
    · have e : (-u).tmod t = -(u.tmod t) := Int.neg_tmod u t
      have := Int.tmod_lt_of_pos (-u) ht
      omega
  generalize u.tmod t = r at *
  generalize u.tdiv t = q at *
  subst h1
  constructor
  · intro h
    rw [show t * q + r = t * (q - 1) + (t + r) by rw [Int.mul_sub]; omega, Int.mul_add_ediv_left _ _ (by omega), Int.ediv_eq_zero_of_lt (by omega) (by omega)]
    omega
  · intro h
    rw [Int.mul_add_ediv_left _ _ (by omega), Int.ediv_eq_zero_of_lt (by omega) (by omega)]
    omega

set_option maxRecDepth 10000 in
theorem bez_near (v d : Int) (hv : -1125899906842624 ≤ v ∧ v ≤ 1125899906842624) (hd : 0 < d ∧ d ≤ 1125899906842624) (w : World) :
    Calls Try.prog 57 #[.int .i64 v, .int .i64 d] w fun e w' => e = .returned (.int .i64 (nearQ v d)) ∧ w = w' := by
  obtain ⟨h1, h2⟩ := hv
  obtain ⟨h3, h4⟩ := hd
  have w1 : IntKind.i64.wrap (2 * d) = 2 * d := IntWalk.i64_in _ (by omega)
  have w2 : IntKind.i64.wrap (2 * v) = 2 * v := IntWalk.i64_in _ (by omega)
  have w3 : IntKind.i64.wrap (2 * v + d) = 2 * v + d := IntWalk.i64_in _ (by omega)
  have hz : ¬ 2 * d = 0 := by omega
  have hq := floor_quo (u := 2 * v + d) (t := 2 * d) (by omega)
  have hb : -9223372036854775808 ≤ (2 * v + d).tdiv (2 * d) - 1 ∧ (2 * v + d).tdiv (2 * d) ≤ 9223372036854775807 := by
    have e1 := Int.natAbs_tdiv_le_natAbs (2 * v + d) (2 * d)
    omega
  have w4 : IntKind.i64.wrap ((2 * v + d).tdiv (2 * d)) = (2 * v + d).tdiv (2 * d) := IntWalk.i64_in _ (by omega)
  have w5 : IntKind.i64.wrap ((2 * v + d).tdiv (2 * d) - 1) = (2 * v + d).tdiv (2 * d) - 1 := IntWalk.i64_in _ (by omega)
  unfold nearQ
  by_cases hc : (2 * v + d).tmod (2 * d) < 0
  · have HQ := Lib.hid (hq.1 hc)
    clear hq hb
    go_enter Try.func57, Try.ntmps57
    go_wp2_with fail
    go_ret
    exact ⟨by rw [← HQ.out]; rfl, rfl⟩
  · have HQ := Lib.hid (hq.2 hc)
    clear hq hb
    go_enter Try.func57, Try.ntmps57
    go_wp2_with fail
    go_ret
    exact ⟨by rw [← HQ.out]; rfl, rfl⟩
end Go.Proofs.Ytbgjpmijegeeiaa
/- Curves: what the program's own slices.Clone answers. -/

namespace Go.Proofs.Ytbgjpmijegeeiaa
open Go.RowKit

/-- a row of points in a block of its own, and what room there is behind it -/
def Lies (w : World) (g : Nat) (l : List Pt) (R : List Value) : Prop := Box w g 42 (ptRow l ++ R)
theorem Lies.set {w : World} {g : Nat} {l : List Pt} {R : List Value} (h : Lies w g l R) {i : Nat} (hi : i < l.length) (q : Pt) : ∃ U, (w.setCell ⟨g, i * 2, none⟩ (.int .i64 q.x)).setCell ⟨g, i * 2 + 1, none⟩ (.int .i64 q.y) = U ∧ Lies U g (l.set i q) R ∧ ∀ B, B ≤ g → Below B w U := by
  refine ⟨_, rfl, ?_, fun B hB => ((Below.refl B w).setCell (p := ⟨g, i * 2, none⟩) hB _).setCell (p := ⟨g, i * 2 + 1, none⟩) hB _⟩
  have hl := ptRow_length l
  have e : ((ptRow l ++ R).set (i * 2) (.int .i64 q.x)).set (i * 2 + 1) (.int .i64 q.y) = ptRow (l.set i q) ++ R := by
    rw [List.set_append_left _ _ (by omega), List.set_append_left _ _ (by rw [List.length_set]; omega), ptRow_set l i q hi]
  unfold Lies
  rw [← e]
  exact (Box.set h (i * 2) _).set (i * 2 + 1) _
theorem Lies.pt {w : World} {g : Nat} {l : List Pt} {R : List Value} (h : Lies w g l R) {i : Nat} (hi : i < l.length) : (w.cell? ⟨g, i * 2, none⟩ = some (.int .i64 l[i].x) ∧ w.cell? ⟨g, i * 2 + 1, none⟩ = some (.int .i64 l[i].y)) ∧ w.frozen? ⟨g, i * 2, none⟩ = false ∧ w.frozen? ⟨g, i * 2 + 1, none⟩ = false := by
  have hl := ptRow_length l
  refine ⟨⟨Box.cell h _ ?_, Box.cell h _ ?_⟩, Box.frozen h _, Box.frozen h _⟩
  · rw [List.getElem?_append_left (by omega)]; exact flat_get ptCells_length l i hi 0 (by omega)
  · rw [List.getElem?_append_left (by omega)]; exact flat_get ptCells_length l i hi 1 (by omega)
theorem Lies.below {w w' : World} {g : Nat} {l : List Pt} {R : List Value} (h : Lies w g l R) {B : Nat} (hb : Below B w w') (hg : g < B) : Lies w' g l R := Box.below h hb hg
theorem Lies.ofOwn {w : World} {base n : Nat} {v : Value} {l : List Pt} (h : w.ownsRow base 42 2 v n (ptRow l)) (hn : 0 < n) : ∃ g cap R, v = .slice (some ⟨g, 0, none⟩) n cap ∧ n ≤ cap ∧ base ≤ g ∧ Lies w g l R := by
  rcases h.2 with ⟨rfl, rfl⟩ | ⟨g, cap, cur, rfl, hb, hg, hnc, hcm, hcs, htake⟩
  · omega
  · refine ⟨g, cap, cur.toList.drop (n * 2), rfl, hnc, hb, ?_⟩
    unfold Lies Box
    rw [← htake, List.take_append_drop]
    exact hg

set_option maxRecDepth 10000 in
set_option maxHeartbeats 1600000 in
theorem slices_Clone (L : List Pt) (A : Option Addr) (c : Nat) (w : World) (hL : RdV w w.heap.size A (ptRow L)) (hl : L.length ≤ 1073741824) (h0 : 0 < L.length) :
    Calls Try.prog 56 #[.slice A L.length c] w fun e w' => ∃ g cap R, e = .returned (.slice (some ⟨g, 0, none⟩) L.length cap) ∧ L.length ≤ cap ∧ w.heap.size ≤ g ∧ Lies w' g L R ∧ Below w.heap.size w w' := by
  obtain ⟨b, o, rfl, hb, hc⟩ := hL (by rw [ptRow_length]; omega)
  obtain ⟨i0, hi, hz0, hz1, hz2⟩ := info_parts info_pt
  obtain ⟨n, hn⟩ : ∃ n, L.length = n := ⟨_, rfl⟩
  have HC := Lib.hid hc
  have HL := Lib.hid (ptRow_length L)
  rw [hn] at hl h0 ⊢
  have HN := Lib.hid hn
  clear hc hL hn
  have hnil : ∀ W, (binOp .eql 47 (.slice (some ⟨b, o, none⟩) n c) (.slice none 0 0)).run Try.prog W = .ok (.bool false) W := fun W => Lib.run_eql_slice_nil W _ _ _ _ _ _ _ Try.underlying47
  go_enter Try.func56, Try.ntmps56
  have hown : (w.alloc (.cells #[] 42)).ownsRow w.heap.size 42 2 (.slice (some ⟨w.heap.size, 0, none⟩) 0 0) 0 [] := ⟨rfl, .inr ⟨w.heap.size, 0, #[], rfl, Nat.le_refl _, heap_alloc_new w _, Nat.le_refl _, by simp [maxLen], rfl, rfl⟩⟩
  have hB := (Below.refl w.heap.size w).alloc (Nat.le_refl _) (.cells #[] 42)
  have HO := Lib.hid (And.intro hown hB)
  have HR := Lib.hid (show ∀ j u, (ptRow L)[j]? = some u → (w.alloc (.cells #[] 42)).cell? ((⟨b, o, none⟩ : Addr).add j) = some u from by
    intro j u hu
    obtain ⟨h1, rfl⟩ := List.getElem?_eq_some_iff.1 hu
    rw [addr_add]
    exact (hB.cell (p := ⟨b, o + j, none⟩) hb).trans (HC.out j h1))
  have H1 := Lib.hid (show ∀ u ∈ ptRow L, u.oneCell' = true from by
    intro u hu
    obtain ⟨p, -, hp⟩ := List.mem_flatMap.1 hu
    simp only [ptCells, List.mem_cons, List.not_mem_nil, or_false] at hp
    rcases hp with rfl | rfl <;> rfl)
  clear hown hB
  go_wp2_with (at_builtin; refine wpList_append_own _ rfl _ _ 47 rfl w.heap.size 42 i0 (.agg #[.int .i64 0, .int .i64 0]) 2 16 Try.underlying47 hi hz0 hz1 hz2 rfl (by decide) _ 0 _ rfl HO.out.1 ⟨b, o, none⟩ n c (ptRow L) rfl (by rw [HL.out, HN.out]) HR.out H1.out (by simp [maxLen]; omega) (by omega) (by simp) ?_; intro v' w3 hown' hgrow _; replace hown' := Lib.hid hown'; replace hgrow := Lib.hid hgrow)
  have hBs := below_grow2 HO.out.2 HO.out.1 (by simp) hgrow.out
  have ho := hown'.out
  rw [Nat.zero_add, List.nil_append] at ho
  obtain ⟨g, cap, R, rfl, h1, h2, h3⟩ := Lies.ofOwn ho h0
  go_ret
  exact ⟨g, cap, R, rfl, h1, h2, h3, hBs⟩
end Go.Proofs.Ytbgjpmijegeeiaa
/- Curves: what the program's own along answers. -/

namespace Go.Proofs.Ytbgjpmijegeeiaa
open Go.RowKit

theorem bx2pt (w : World) (t : TypeId) (x0 y0 x1 y1 : Value) : ∃ W, (w.alloc (.cells #[x0, y0] t)).alloc (.cells #[x1, y1] t) = W ∧ Box W w.heap.size t [x0, y0] ∧ Box W (w.heap.size + 1) t [x1, y1] ∧ Below w.heap.size w W := by
  refine ⟨_, rfl, (Box.new w _ [x0, y0]).alloc _, Box.at_new (w.alloc (.cells #[x0, y0] t)) _ [x1, y1] (by simp), ?_⟩
  exact ((Below.refl _ w).alloc (Nat.le_refl _) _).alloc (by simp) _
theorem st2 {W : World} {t : TypeId} {A B : Nat} {a0 a1 b0 b1 : Value} (kA : Box W A t [a0, a1]) (kB : Box W B t [b0, b1]) (hAB : A ≠ B) (x0 y0 x1 y1 : Value) :
    ∃ V, (((W.setCell ⟨A, 0, none⟩ x0).setCell ⟨A, 1, none⟩ y0).setCell ⟨B, 0, none⟩ x1).setCell ⟨B, 1, none⟩ y1 = V ∧ Box V A t [x0, y0] ∧ Box V B t [x1, y1] ∧ ∀ n, n ≤ A → n ≤ B → Below n W V := by
  obtain ⟨U, hU, kU, -, bU⟩ := kA.stored2 x0 y0
  have kB' : Box U B t [b0, b1] := by rw [← hU]; exact (kB.far (p := ⟨A, 0, none⟩) (Ne.symm hAB) _).far (p := ⟨A, 1, none⟩) (Ne.symm hAB) _
  obtain ⟨X, hX, kX, -, bX⟩ := kB'.stored2 x1 y1
  have kA' : Box X A t [x0, y0] := by rw [← hX]; exact (kU.far (p := ⟨B, 0, none⟩) hAB _).far (p := ⟨B, 1, none⟩) hAB _
  exact ⟨X, by rw [hU, hX], kA', kX, fun n h1 h2 => (bU n h1).trans (bX n h2)⟩
theorem cast_le {L : List Pt} (hF : FitL L) {k n r : Nat} (hk : k ≤ n) (hn : n ≤ 32) (hr : r ≤ 3) {i : Nat} (hi : i < (castP k n r L).length) : (-274877874176 ≤ ((castP k n r L)[i]).x ∧ ((castP k n r L)[i]).x ≤ 274877874176) ∧ (-274877874176 ≤ ((castP k n r L)[i]).y ∧ ((castP k n r L)[i]).y ≤ 274877874176) := cast_bound hF hk hn hr _ (List.getElem_mem hi)
theorem mid_wraps {k n : Nat} (hk : k ≤ n) (hn : n ≤ 32) {a b : Int} (ha : -274877874176 ≤ a ∧ a ≤ 274877874176) (hb : -274877874176 ≤ b ∧ b ≤ 274877874176) :
    IntKind.i64.wrap (((n : Int) - (k : Int)) * a) = ((n : Int) - (k : Int)) * a ∧ IntKind.i64.wrap ((k : Int) * b) = (k : Int) * b ∧ IntKind.i64.wrap (((n : Int) - (k : Int)) * a + (k : Int) * b) = ((n : Int) - (k : Int)) * a + (k : Int) * b := by
  have h1 := mul_bound (a := (n : Int) - k) (A := 32) (x := a) (X := 274877874176) (by omega) ha
  have h2 := mul_bound (a := (k : Int)) (A := 32) (x := b) (X := 274877874176) (by omega) hb
  exact ⟨IntWalk.i64_in _ (by omega), IntWalk.i64_in _ (by omega), IntWalk.i64_in _ (by omega)⟩
/-- a round in place: what it reads, what it leaves -/
theorem round_pt {w : World} {g : Nat} {cur G : List Pt} {R : List Value} {k n : Int} {i : Nat} (h : Lies w g ((stepP k n cur).take i ++ (cur.drop i ++ G)) R) (hi : i + 1 < cur.length) :
    ∃ a b : Pt, a ∈ cur ∧ b ∈ cur ∧ ((w.cell? ⟨g, i * 2, none⟩ = some (.int .i64 a.x) ∧ w.cell? ⟨g, i * 2 + 1, none⟩ = some (.int .i64 a.y)) ∧ w.frozen? ⟨g, i * 2, none⟩ = false ∧ w.frozen? ⟨g, i * 2 + 1, none⟩ = false) ∧ (w.cell? ⟨g, (i + 1) * 2, none⟩ = some (.int .i64 b.x) ∧ w.cell? ⟨g, (i + 1) * 2 + 1, none⟩ = some (.int .i64 b.y)) ∧
      ∀ V, Lies V g ((stepP k n cur).take i ++ (cur.drop i ++ G)) R → ∃ U, (V.setCell ⟨g, i * 2, none⟩ (.int .i64 ((n - k) * a.x + k * b.x))).setCell ⟨g, i * 2 + 1, none⟩ (.int .i64 ((n - k) * a.y + k * b.y)) = U ∧ Lies U g ((stepP k n cur).take (i + 1) ++ (cur.drop (i + 1) ++ G)) R ∧ ∀ B, B ≤ g → Below B V U := by
  have hs := stepP_length k n cur
  have hlen : ((stepP k n cur).take i ++ (cur.drop i ++ G)).length = cur.length + G.length := by
    rw [List.length_append, List.length_append, List.length_take, List.length_drop]; omega
  have h0 := h.pt (i := i) (by omega)
  have h1 := h.pt (i := i + 1) (by omega)
  rw [round_get i (Nat.le_refl _) (by omega) (by omega) (by omega)] at h0
  rw [round_get (i + 1) (by omega) (by omega) (by omega) (by omega)] at h1
  refine ⟨cur[i], cur[i + 1], List.getElem_mem _, List.getElem_mem _, h0, h1.1, fun V hV => ?_⟩
  obtain ⟨U, hU, kU, bU⟩ := hV.set (i := i) (by omega) (midP k n cur[i] cur[i + 1])
  rw [round_set hi] at kU
  exact ⟨U, hU, kU, bU⟩
theorem Lies.drew {w : World} {g : Nat} {l : List Pt} {R : List Value} (h : Lies w g l R) : Lies w.drew g l R := h
theorem Lies.lt {w : World} {g : Nat} {l : List Pt} {R : List Value} (h : Lies w g l R) : g < w.heap.size := Box.lt h

set_option maxRecDepth 10000 in
set_option maxHeartbeats 6400000 in
theorem bez_along (L : List Pt) (hF : FitL L) (A : Option Addr) (c : Nat) (k n : Nat) (hk : k ≤ n) (hn : n ≤ 32) (hn1 : 1 ≤ n) (hl : L.length ≤ 4) (h0 : 0 < L.length) (w : World) (hL : RdV w w.heap.size A (ptRow L)) :
    Calls Try.prog 44 #[.int .i64 (k : Int), .int .i64 (n : Int), .slice A L.length c] w fun e w' => e = .returned (ptV (curveAt k n L)) ∧ Below w.heap.size w w' := by
  obtain ⟨W, hW, kW, B0⟩ : ∃ W, w.alloc (.cells #[.int .i64 0, .int .i64 0] 42) = W ∧ Box W w.heap.size 42 [.int .i64 0, .int .i64 0] ∧ Below w.heap.size w W := ⟨_, rfl, Box.new w _ [.int .i64 0, .int .i64 0], (Below.refl _ _).alloc (Nat.le_refl _) _⟩
  have cC := slices_Clone L A c W ((hL.below B0).mono B0.size) (by omega) h0
  obtain ⟨nl, hnl⟩ : ∃ nl, L.length = nl := ⟨_, rfl⟩
  obtain ⟨p, hp⟩ : ∃ p, curveAt k n L = p := ⟨_, rfl⟩
  have HP := Lib.hid hp
  have HN := Lib.hid hnl
  rw [hnl] at hl h0 cC
  rw [hp, hnl]
  have CC := Lib.hid cC
  have HK := Lib.hid (And.intro kW B0)
  have hWs : w.heap.size < W.heap.size := kW.lt
  clear cC hL hp hnl kW B0
  go_enter Try.func44, Try.ntmps44
  go_wp2_with first
    | (go_at_call 56; with_reducible refine Calls.mono CC.out ?_; rintro e w1 ⟨g, cap, R, rfl, hcap, hg, hLi, b1⟩)
    | (rw [hW])
  have HK1 := Lib.hid (And.intro (HK.out.1.below b1 HK.out.1.lt) (And.intro hLi (HK.out.2.trans (b1.mono HK.out.2.size))))
  clear hLi b1 hW
  go_loopg [8, 9] (nl - 1) (fun gh tv rv wr => ∃ (G : List Pt), rv = .int .i64 (gh : Int) ∧ tv = .int .i64 ((n ^ (nl - 1 - gh) : Nat) : Int) ∧ gh ≤ nl - 1 ∧ Lies wr g (castP k n (nl - 1 - gh) L ++ G) R ∧ Box wr w.heap.size 42 [.int .i64 0, .int .i64 0] ∧ Below w.heap.size w wr)
  case atStart => exact ⟨[], congrArg (Value.int .i64) (by omega), by rw [Nat.sub_self]; rfl, Nat.le_refl _, by rw [Nat.sub_self, List.append_nil]; exact HK1.out.2.1, HK1.out.1, HK1.out.2.2⟩
  case round =>
    obtain ⟨G, rfl, rfl, hgk, hLi, kR, hB⟩ := hrel
    obtain ⟨j, hj⟩ : ∃ j, nl - 1 - gk = j := ⟨_, rfl⟩
    have hcl := castP_length (k : Int) (n : Int) j L
    rw [HN.out] at hcl
    have hT0 := pow_32 (n := n) (r := j) hn (by omega)
    rw [hj] at hLi ⊢
    cases gk with
    | zero =>
      have hj3 : nl - 1 = j := by omega
      have hnz := Nat.pow_pos (n := j) (show 0 < n by omega)
      have hcb := cast_bound hF (r := j) hk hn (by omega)
      have hcv : curveAt k n L = ⟨nearQ ((castP k n j L).getD 0 pt0).x ((n ^ j : Nat) : Int), nearQ ((castP k n j L).getD 0 pt0).y ((n ^ j : Nat) : Int)⟩ := by unfold curveAt; rw [HN.out, hj3]
      have hcp : 0 < (castP (k : Int) (n : Int) j L).length := by omega
      have hpt := hLi.pt (i := 0) (by rw [List.length_append]; omega)
      rw [List.getElem_append_left hcp] at hpt
      rw [getD_get hcp] at hcv
      have hcb0 := hcb _ (List.getElem_mem hcp)
      obtain ⟨T, hT⟩ : ∃ T, n ^ j = T := ⟨_, rfl⟩
      rw [hT] at hT0 hnz hcv ⊢
      obtain ⟨a, ha⟩ : ∃ a, (castP (k : Int) (n : Int) j L)[0] = a := ⟨_, rfl⟩
      rw [ha] at hpt hcv hcb0
      have hpv : p = ⟨nearQ a.x (T : Int), nearQ a.y (T : Int)⟩ := by rw [← HP.out, hcv]
      obtain ⟨ax, ay⟩ := a
      dsimp only at hpt hpv hcb0
      have cX := fun V => bez_near ax (T : Int) (by omega) (by omega) V
      have cY := fun V => bez_near ay (T : Int) (by omega) (by omega) V
      obtain ⟨X, hX⟩ : ∃ X, nearQ ax (T : Int) = X := ⟨_, rfl⟩
      obtain ⟨Y, hY⟩ : ∃ Y, nearQ ay (T : Int) = Y := ⟨_, rfl⟩
      rw [hX, hY] at hpv
      simp only [hX] at cX
      simp only [hY] at cY
      subst hpv
      obtain ⟨⟨e0, e1⟩, -⟩ := hpt
      obtain ⟨⟨z0, z1⟩, z2, z3⟩ := Box.pair kR
      have hg0 : w.heap.size < g := by omega
      have hcap0 : 0 < nl := h0
      have CX := Lib.hid cX
      have CY := Lib.hid cY
      have HKR := Lib.hid (And.intro kR hB)
      simp only [Nat.zero_mul, Nat.zero_add] at e0 e1
      clear hT ha hcb hcb0 hcv hcp hLi kR hB hX hY cX cY hnz hT0 hcl
      go_wp2_with fail
      go_still_tail 13, (by kernel_rfl)
      have c1 := (CX.out wr.drew).mono fun e w' (h : _ ∧ wr.drew = w') => And.intro h.1 h.2.symm
      have c2 := (CY.out wr.drew).mono fun e w' (h : _ ∧ wr.drew = w') => And.intro h.1 h.2.symm
      still_call c1
      repeat still_step
      still_call c2
      repeat still_step
      try refine wpStill_nil ?_
      clear c1 c2
      change wpList _ _ _ _ _ wr.drew
      obtain ⟨U, hU, kU, ⟨u0, u1⟩, bU⟩ := HKR.out.1.stored2 (.int .i64 X) (.int .i64 Y)
      have HBU := Lib.hid ((HKR.out.2.trans (bU w.heap.size (Nat.le_refl _))).drew)
      clear kU bU
      go_wp2_with fail
      try rw [hU]
      exact bodyPost_ret (by simp [results, Try.results44, go_sem, u0, u1, ptV]) rfl ⟨rfl, HBU.out⟩
    | succ r =>
      have hT1 := pow_32 (n := n) (r := j + 1) hn (by omega)
      rw [Nat.pow_succ] at hT1
      have hnx : nl - 1 - r = j + 1 := by omega
      have HT := Lib.hid (show ((n ^ j : Nat) : Int) * (n : Int) = ((n ^ (nl - 1 - r) : Nat) : Int) by rw [hnx, Nat.pow_succ, Int.natCast_mul])
      have HC := Lib.hid (castP_succ (k : Int) (n : Int) j L)
      have HNX := Lib.hid hnx
      obtain ⟨T, hT⟩ : ∃ T, n ^ j = T := ⟨_, rfl⟩
      rw [hT] at hT0 hT1 HT ⊢
      have hTm : (T : Int) * (n : Int) ≤ 32768 ∧ 0 ≤ (T : Int) * (n : Int) := ⟨by have := Int.ofNat_le.2 hT1; rw [Int.natCast_mul] at this; omega, Int.mul_nonneg (by omega) (by omega)⟩
      have hwT : IntKind.i64.wrap ((T : Int) * (n : Int)) = (T : Int) * (n : Int) := IntWalk.i64_in _ (by omega)
      have hsz := cast_bound hF (r := j) hk hn (by omega)
      obtain ⟨cur, hcur⟩ : ∃ cur, castP k n j L = cur := ⟨_, rfl⟩
      rw [hcur] at hcl hLi HC hsz
      have HS := Lib.hid hsz
      have HCL := Lib.hid (show cur.length = r + 2 by omega)
      have HI := Lib.hid (And.intro hLi (And.intro kR hB))
      have hr1 : (0 : Int) < ((r + 1 : Nat) : Int) := by omega
      have hr2 : IntKind.i64.wrap (((r + 1 : Nat) : Int) - 1) = (r : Int) := by rw [IntWalk.i64_in _ (by omega)]; omega
      have HJ := Lib.hid (And.intro hj hgk)
      obtain ⟨q, hq⟩ : ∃ q, r + 1 = q := ⟨_, rfl⟩
      have HQ := Lib.hid hq
      rw [hq] at hr1 hr2
      simp only [hq]
      have hq4 : q ≤ 4 := by omega
      clear hT hcur hcl hsz hLi kR hB hnx hT0 hT1 hTm hj hgk hq
      go_wp2_with fail
      go_loopg [23] q (fun gh it wr => ∃ i : Nat, it = .int .i64 (i : Int) ∧ gh + i = q ∧ Lies wr g ((stepP k n cur).take i ++ (cur.drop i ++ G)) R ∧ Box wr w.heap.size 42 [.int .i64 0, .int .i64 0] ∧ Below w.heap.size w wr)
      case atStart => exact ⟨0, rfl, by omega, by simpa using HI.out.1, HI.out.2.1, HI.out.2.2⟩
      case round =>
        obtain ⟨i, rfl, hgi, hLi, kR, hB⟩ := hrel
        by_cases hlt : i < q
        · obtain ⟨a, b, ha, hb, ⟨⟨e0, e1⟩, e2, e3⟩, ⟨e4, e5⟩, hset⟩ := round_pt hLi (by rw [HCL.out]; have := HQ.out; omega)
          have HB := Lib.hid hB
          have hgv : g < wr.heap.size := hLi.lt
          have hil : (i : Int) < (q : Int) := by omega
          obtain ⟨W2, hW2, kp, kq, bW⟩ := bx2pt wr 42 (.int .i64 0) (.int .i64 0) (.int .i64 0) (.int .i64 0)
          obtain ⟨⟨pa, pa'⟩, pb, pb'⟩ := HS.out a ha
          obtain ⟨⟨qa, qa'⟩, qb, qb'⟩ := HS.out b hb
          obtain ⟨ax, ay⟩ := a
          obtain ⟨bx, bY⟩ := b
          dsimp only at e0 e1 e4 e5 hset pa pa' pb pb' qa qa' qb qb'
          obtain ⟨v1, v2, v3⟩ := mid_wraps hk hn (a := ax) (b := bx) ⟨pa, pa'⟩ ⟨qa, qa'⟩
          obtain ⟨v4, v5, v6⟩ := mid_wraps hk hn (a := ay) (b := bY) ⟨pb, pb'⟩ ⟨qb, qb'⟩
          have v7 : IntKind.i64.wrap ((n : Int) - (k : Int)) = (n : Int) - (k : Int) := IntWalk.i64_in _ (by omega)
          have HSE := Lib.hid hset
          have HL2 := Lib.hid (And.intro hLi kR)
          have d0 := (bW.cell (p := ⟨g, i * 2, none⟩) hgv).trans e0
          have d1 := (bW.cell (p := ⟨g, i * 2 + 1, none⟩) hgv).trans e1
          have d4 := (bW.cell (p := ⟨g, (i + 1) * 2, none⟩) hgv).trans e4
          have d5 := (bW.cell (p := ⟨g, (i + 1) * 2 + 1, none⟩) hgv).trans e5
          obtain ⟨⟨p0, p1⟩, p2, p3⟩ := Box.pair kp
          obtain ⟨⟨q0, q1⟩, q2, q3⟩ := Box.pair kq
          have HW2 := Lib.hid (And.intro kp (And.intro kq bW))
          have i1 : 0 ≤ (i : Int) + 1 ∧ (i : Int) + 1 < (nl : Int) := by have := HQ.out; have := HJ.out; omega
          have t1 : ((i : Int) + 1).toNat = i + 1 := by omega
          have hin : (i : Int) < (nl : Int) := by omega
          have HH := Lib.hid (And.intro ha hb)
          clear hB ha hb hset hLi kR kp kq bW pa pa' pb pb' qa qa' qb qb'
          go_wp2_with fail
          go_cut [11, 12] from 25 to 61 (fun v11 v12 wc => ∃ P Q, v11 = .pointer (some ⟨P, 0, none⟩) ∧ v12 = .pointer (some ⟨Q, 0, none⟩) ∧ Box wc P 42 [.int .i64 ax, .int .i64 ay] ∧ Box wc Q 42 [.int .i64 bx, .int .i64 bY] ∧ Below wr.heap.size wr wc)
          case first =>
            go_region
            all_goals
              first
                | (obtain ⟨V, hV, kA, kB, bV⟩ := st2 HW2.out.1 HW2.out.2.1 (by omega) (.int .i64 ax) (.int .i64 ay) (.int .i64 bx) (.int .i64 bY); rw [hV])
                | (obtain ⟨V, hV, kA, kB, bV⟩ := st2 HW2.out.2.1 HW2.out.1 (by omega) (.int .i64 ax) (.int .i64 ay) (.int .i64 bx) (.int .i64 bY); rw [hV])
              have HV := (HW2.out.2.2.trans (bV wr.heap.size (by omega) (by omega)))
              clear hW2
              go_wp2_with fail
              go_meet
              exact ⟨_, _, rfl, rfl, kA, kB, HV.drew⟩
          case rest =>
            obtain ⟨P, Q, rfl, rfl, kA, kB, HV⟩ := hcut
            have hwg : w.heap.size < g := by omega
            have hL3 := HL2.out.1.below HV hgv
            have kR3 := HL2.out.2.below HV HL2.out.2.lt
            clear d0 d1 d4 d5 p0 p1 p2 p3 q0 q1 q2 q3 e0 e1 e2 e3 e4 e5 hW2 HW2
            obtain ⟨⟨p0, p1⟩, -⟩ := Box.pair kA
            obtain ⟨⟨q0, q1⟩, -⟩ := Box.pair kB
            obtain ⟨U, hU, kU, bU⟩ := HSE.out wc hL3
            obtain ⟨a9, b9, -, -, ⟨⟨e0, e1⟩, e2, e3⟩, -, -⟩ := round_pt hL3 (by rw [HCL.out]; have := HQ.out; omega)
            have HB2 := Lib.hid (HB.out.trans ((HV.mono HB.out.size).trans (bU w.heap.size (by omega))))
            have kR4 : Box U w.heap.size 42 [.int .i64 0, .int .i64 0] := by rw [← hU]; exact (kR3.far (p := ⟨g, i * 2, none⟩) (by show w.heap.size ≠ g; omega) _).far (p := ⟨g, i * 2 + 1, none⟩) (by show w.heap.size ≠ g; omega) _
            have HK4 := Lib.hid (And.intro kU kR4)
            clear kA kB HV hL3 kR3 kU bU kR4
            go_wp2_with fail
            try rw [hU]
            go_roundg (q - (i + 1))
            case measure => omega
            case rel => exact ⟨i + 1, by simp, by omega, HK4.out.1, HK4.out.2, HB2.out⟩
        · obtain rfl : i = q := by omega
          have hst := stepP_length (k : Int) (n : Int) cur
          have hnew : castP k n (nl - 1 - r) L ++ (cur.drop i ++ G) = (stepP k n cur).take i ++ (cur.drop i ++ G) := by
            have h1 := HNX.out
            have h2 := HQ.out
            have h3 := HCL.out
            rw [h1, HC.out, List.take_of_length_le (by omega)]
          rw [← hnew] at hLi
          have HI2 := Lib.hid (And.intro hLi (And.intro kR hB))
          have HTT := Lib.hid HT.out
          clear hLi kR hB hnew hst
          go_wp2_with fail
          go_roundg r
          case measure => omega
          case rel => exact ⟨cur.drop i ++ G, rfl, congrArg (Value.int .i64) HTT.out, by have := HJ.out.2; omega, HI2.out.1, HI2.out.2.1, HI2.out.2.2⟩
end Go.Proofs.Ytbgjpmijegeeiaa
/- Curves: what the program's own curve, Quad and Cube answer; that a curve bends. -/

namespace Go.Proofs.Ytbgjpmijegeeiaa
open Go.RowKit

/-- a curve under way: the first i points, the rest as made -/
def under (n : Nat) (l : List Pt) (i : Nat) : List Pt := curveTo n l i ++ List.replicate (n - i) pt0
theorem under_length (n : Nat) (l : List Pt) {i : Nat} (h : i ≤ n) : (under n l i).length = n := by
  simp [under, curveTo_length]; omega
theorem under_step (n : Nat) (l : List Pt) {i : Nat} (hi : i < n) : (under n l i).set i (curveAt (i + 1) n l) = under n l (i + 1) := by
  have hl := curveTo_length n l i
  unfold under
  rw [curveTo_step, List.set_append_right _ _ (by omega), hl, Nat.sub_self]
  obtain ⟨k, hk⟩ : ∃ k, n - i = k + 1 := ⟨n - i - 1, by omega⟩
  rw [hk, List.replicate_succ, List.set_cons_zero, List.append_assoc, show n - (i + 1) = k by omega]
  rfl
theorem under_all (n : Nat) (l : List Pt) : under n l n = curveTo n l n := by simp [under]
/-- what a call hands back: a row of points, and an error -/
def Curved (l : List Pt) (w : World) (e : Ending) (w' : World) : Prop := (∃ q k, e = .returned (.tuple #[.slice q (curveP l).length k, .int .i64 (curveE l)]) ∧ RdV w' w'.heap.size q (ptRow (curveP l))) ∧ Below w.heap.size w w'

set_option maxRecDepth 10000 in
set_option maxHeartbeats 3200000 in
theorem bez_curve (L : List Pt) (A : Option Addr) (c : Nat) (hl : L.length ≤ 4) (h0 : 0 < L.length) (w : World) (hL : RdV w w.heap.size A (ptRow L)) :
    Calls Try.prog 36 #[.slice A L.length c] w (Curved L w) := by
  have cP := bez_Pieces L A c w hL (by omega)
  unfold Curved
  rw [curveP_length]
  have cA := fun (k n : Nat) (hF : FitL L) (hk : k ≤ n) (hn : n ≤ 32) (hn1 : 1 ≤ n) V (h : Below w.heap.size w V) => bez_along L hF A c k n hk hn hn1 hl h0 V ((hL.below h).mono h.size)
  obtain ⟨nl, hnl⟩ : ∃ nl, L.length = nl := ⟨_, rfl⟩
  rw [hnl] at cP ⊢
  simp only [hnl] at cA
  obtain ⟨n, hn⟩ : ∃ n, piecesM L = n := ⟨_, rfl⟩
  have hle := piecesM_le L
  have HN := Lib.hid hn
  have HF0 := Lib.hid (piecesM_fit (l := L))
  rw [hn] at cP hle ⊢
  have CP := Lib.hid cP
  have CA := Lib.hid cA
  clear cP cA hn hnl hL
  by_cases hz : n = 0
  · subst hz
    have he : curveE L = 4 := by unfold curveE; rw [if_pos HN.out]
    have hcp : curveP L = [] := List.eq_nil_of_length_eq_zero (by rw [curveP_length]; exact HN.out)
    rw [he, hcp]
    clear he hcp
    go_enter Try.func36, Try.ntmps36
    go_wp2_with (go_at_call 24; with_reducible refine Calls.mono CP.out ?_; rintro e w1 ⟨rfl, b1⟩)
    go_ret2
    exact ⟨⟨none, 0, rfl, RdV.nil _ _ _⟩, b1⟩
  · have he : curveE L = 0 := by unfold curveE; rw [if_neg (by rw [HN.out]; exact hz)]
    have hcp : curveP L = curveTo n L n := by unfold curveP; rw [HN.out]
    have HF := HF0.out (by rw [HN.out]; exact hz)
    rw [he, hcp]
    have hzi : ¬ (n : Int) = 0 := by omega
    have hzb : ((n : Int) == 0) = false := by simpa using hzi
    clear he hcp
    have hmk := fun u => run_make_pts n (by omega) u
    go_enter Try.func36, Try.ntmps36
    go_wp2_with (go_at_call 24; with_reducible refine Calls.mono CP.out ?_; rintro e w1 ⟨rfl, b1⟩)
    obtain ⟨W, hW, kW, bW⟩ : ∃ W, w1.alloc (.cells (ptRow (List.replicate n pt0)).toArray 42) = W ∧ Box W w1.heap.size 42 (ptRow (under n L 0)) ∧ Below w.heap.size w W := by
      refine ⟨_, rfl, ?_, b1.alloc b1.size _⟩
      have e : under n L 0 = List.replicate n pt0 := by simp [under, curveTo]
      rw [e]
      exact Box.new w1 _ _
    have HK := Lib.hid (And.intro kW bW)
    have hs1 := b1.size
    clear kW bW b1 hmk
    try rw [hW]
    go_loopg [15] n (fun gh it wr => ∃ i : Nat, it = .int .i64 (i : Int) ∧ gh + i = n ∧ Box wr w1.heap.size 42 (ptRow (under n L i)) ∧ Below w.heap.size w wr)
    case atStart => exact ⟨0, rfl, by omega, HK.out.1, HK.out.2⟩
    case round =>
      obtain ⟨i, rfl, hg, hbx, hB⟩ := hrel
      by_cases hlt : i < n
      · have hil : (i : Int) < (n : Int) := by omega
        have cA := CA.out (i + 1) n HF (by omega) (by omega) (by omega)
        have hfl : i < (under n L i).length := by rw [under_length _ _ (by omega)]; exact hlt
        have HFL := Lib.hid hfl
        have HST := Lib.hid (under_step n L hlt)
        obtain ⟨p, hp⟩ : ∃ p, curveAt (i + 1) n L = p := ⟨_, rfl⟩
        rw [hp] at HST
        simp only [hp] at cA
        obtain ⟨X, Y⟩ := p
        have ei : ((i + 1 : Nat) : Int) = (i : Int) + 1 := by omega
        unfold ptV at cA
        dsimp only at cA
        rw [ei] at cA
        have CA1 := Lib.hid cA
        have HO := Lib.hid (And.intro hbx hB)
        clear cA hp hbx hB hfl ei
        go_wp2_with (go_at_call 44; with_reducible refine Calls.mono (CA1.out _ HO.out.2) ?_; rintro e w2 ⟨rfl, b2⟩
                     have HV := Lib.hid (And.intro (HO.out.1.below b2 HO.out.1.lt) (HO.out.2.trans (b2.mono HO.out.2.size)))
                     obtain ⟨⟨y0, y1⟩, y2, y3⟩ := Box.pts HV.out.1 HFL.out
                     clear b2)
        obtain ⟨U, hU, kU, bU⟩ := HV.out.1.set2 HFL.out ⟨X, Y⟩
        have hBs := HV.out.2.trans (bU w.heap.size (by omega))
        rw [HST.out] at kU
        try rw [hU]
        go_roundg (n - (i + 1))
        case measure => omega
        case rel => exact ⟨i + 1, by simp, by omega, kU, hBs⟩
      · obtain rfl : i = n := by omega
        rw [under_all] at hbx
        have HF2 := Lib.hid (And.intro hbx.rd hB)
        clear hB hbx
        go_wp2_with fail
        go_ret2
        exact ⟨⟨_, _, rfl, HF2.out.1⟩, HF2.out.2⟩
end Go.Proofs.Ytbgjpmijegeeiaa
/- Curves: what the program's own Quad and Cube answer; that a curve bends. -/

namespace Go.Proofs.Ytbgjpmijegeeiaa
open Go.RowKit

/-- three points, handed in one by one -/
theorem q_boxes (w : World) (a b c : Pt) : ∃ W, ((w.alloc (.cells #[.int .i64 a.x, .int .i64 a.y] 42)).alloc (.cells #[.int .i64 b.x, .int .i64 b.y] 42)).alloc (.cells #[.int .i64 c.x, .int .i64 c.y] 42) = W ∧
    (W.cell? ⟨w.heap.size, 0, none⟩ = some (.int .i64 a.x) ∧ W.cell? ⟨w.heap.size, 1, none⟩ = some (.int .i64 a.y)) ∧ (W.cell? ⟨w.heap.size + 1, 0, none⟩ = some (.int .i64 b.x) ∧ W.cell? ⟨w.heap.size + 1, 1, none⟩ = some (.int .i64 b.y)) ∧ (W.cell? ⟨w.heap.size + 1 + 1, 0, none⟩ = some (.int .i64 c.x) ∧ W.cell? ⟨w.heap.size + 1 + 1, 1, none⟩ = some (.int .i64 c.y)) ∧ Below w.heap.size w W := by
  obtain ⟨W, hW, k1, k2, k3, b⟩ := bx3pt w 42 (.int .i64 a.x) (.int .i64 a.y) (.int .i64 b.x) (.int .i64 b.y) (.int .i64 c.x) (.int .i64 c.y)
  exact ⟨W, hW, (Box.pair k1).1, (Box.pair k2).1, (Box.pair k3).1, b⟩
theorem c_boxes (w : World) (a b c d : Pt) : ∃ W, (((w.alloc (.cells #[.int .i64 a.x, .int .i64 a.y] 42)).alloc (.cells #[.int .i64 b.x, .int .i64 b.y] 42)).alloc (.cells #[.int .i64 c.x, .int .i64 c.y] 42)).alloc (.cells #[.int .i64 d.x, .int .i64 d.y] 42) = W ∧
    (W.cell? ⟨w.heap.size, 0, none⟩ = some (.int .i64 a.x) ∧ W.cell? ⟨w.heap.size, 1, none⟩ = some (.int .i64 a.y)) ∧ (W.cell? ⟨w.heap.size + 1, 0, none⟩ = some (.int .i64 b.x) ∧ W.cell? ⟨w.heap.size + 1, 1, none⟩ = some (.int .i64 b.y)) ∧ (W.cell? ⟨w.heap.size + 1 + 1, 0, none⟩ = some (.int .i64 c.x) ∧ W.cell? ⟨w.heap.size + 1 + 1, 1, none⟩ = some (.int .i64 c.y)) ∧ (W.cell? ⟨w.heap.size + 1 + 1 + 1, 0, none⟩ = some (.int .i64 d.x) ∧ W.cell? ⟨w.heap.size + 1 + 1 + 1, 1, none⟩ = some (.int .i64 d.y)) ∧ Below w.heap.size w W := by
  obtain ⟨V, hV, k1, k2, k3, b⟩ := bx3pt w 42 (.int .i64 a.x) (.int .i64 a.y) (.int .i64 b.x) (.int .i64 b.y) (.int .i64 c.x) (.int .i64 c.y)
  have hs : V.heap.size = w.heap.size + 1 + 1 + 1 := by rw [← hV]; simp
  rw [hV]
  have k4 := Box.new V 42 [.int .i64 d.x, .int .i64 d.y]
  rw [hs] at k4
  exact ⟨_, rfl, (Box.pair (k1.alloc _)).1, (Box.pair (k2.alloc _)).1, (Box.pair (k3.alloc _)).1, (Box.pair k4).1, b.alloc b.size _⟩

set_option maxRecDepth 10000 in
set_option maxHeartbeats 1600000 in
theorem bez_Quad (a b c : Pt) (w : World) : Calls Try.prog 28 #[ptV a, ptV b, ptV c] w (Curved [a, b, c] w) := by
  obtain ⟨W, hW, ⟨p0, p1⟩, ⟨q0, q1⟩, ⟨r0, r1⟩, bW⟩ := q_boxes w a b c
  have cC := bez_curve [a, b, c] (some ⟨W.heap.size, 0, none⟩) 3 (by simp) (by simp) (W.alloc (.cells (ptRow [a, b, c]).toArray 42)) (Box.new W 42 (ptRow [a, b, c])).rd
  have HB := Lib.hid (bW.alloc bW.size (.cells (ptRow [a, b, c]).toArray 42))
  unfold Curved at *
  obtain ⟨r, hr⟩ : ∃ r, curveP [a, b, c] = r := ⟨_, rfl⟩
  obtain ⟨E, hE⟩ : ∃ E, curveE [a, b, c] = E := ⟨_, rfl⟩
  rw [hr, hE] at cC ⊢
  obtain ⟨ax, ay⟩ := a
  obtain ⟨bx, bY⟩ := b
  obtain ⟨cx, cy⟩ := c
  have CC := Lib.hid cC
  clear cC hr hE bW
  unfold ptV
  dsimp only at *
  go_enter Try.func28, Try.ntmps28
  go_wp2_with first
    | (go_at_call 36; refine Calls.mono CC.out ?_; rintro e w1 ⟨⟨q, k, rfl, h1⟩, b1⟩)
    | (rw [hW])
  go_ret2
  exact ⟨⟨q, k, rfl, h1⟩, HB.out.trans (b1.mono HB.out.size)⟩

set_option maxRecDepth 10000 in
set_option maxHeartbeats 1600000 in
theorem bez_Cube (a b c d : Pt) (w : World) : Calls Try.prog 30 #[ptV a, ptV b, ptV c, ptV d] w (Curved [a, b, c, d] w) := by
  obtain ⟨W, hW, ⟨p0, p1⟩, ⟨q0, q1⟩, ⟨r0, r1⟩, ⟨s0, s1⟩, bW⟩ := c_boxes w a b c d
  have cC := bez_curve [a, b, c, d] (some ⟨W.heap.size, 0, none⟩) 4 (by simp) (by simp) (W.alloc (.cells (ptRow [a, b, c, d]).toArray 42)) (Box.new W 42 (ptRow [a, b, c, d])).rd
  have HB := Lib.hid (bW.alloc bW.size (.cells (ptRow [a, b, c, d]).toArray 42))
  unfold Curved at *
  obtain ⟨r, hr⟩ : ∃ r, curveP [a, b, c, d] = r := ⟨_, rfl⟩
  obtain ⟨E, hE⟩ : ∃ E, curveE [a, b, c, d] = E := ⟨_, rfl⟩
  rw [hr, hE] at cC ⊢
  obtain ⟨ax, ay⟩ := a
  obtain ⟨bx, bY⟩ := b
  obtain ⟨cx, cy⟩ := c
  obtain ⟨dx, dY⟩ := d
  have CC := Lib.hid cC
  clear cC hr hE bW
  unfold ptV
  dsimp only at *
  go_enter Try.func30, Try.ntmps30
  go_wp2_with first
    | (go_at_call 36; refine Calls.mono CC.out ?_; rintro e w1 ⟨⟨q, k, rfl, h1⟩, b1⟩)
    | (rw [hW])
  go_ret2
  exact ⟨⟨q, k, rfl, h1⟩, HB.out.trans (b1.mono HB.out.size)⟩

end Go.Proofs.Ytbgjpmijegeeiaa
