/- Lines as areas: that the law lives; the walk of StrokeReach. -/
import Derived.Test.YtngnclibeccplaaDoorZSuW
import Derived.Test.YtngnclibeccplaaDoorZGcY
import Derived.Test.YtngnclibeccplaaDoorZOaG
namespace Go.Proofs.YtngnclibeccplaaDoor
open Go.RowKit

set_option maxRecDepth 100000 in
theorem stroke_lives : strokeM [pt0, ⟨10, 0⟩] false ⟨4, 0, 0, 256, [], 0⟩ = ([[⟨0, -2⟩, ⟨10, -2⟩, ⟨10, 2⟩, ⟨0, 2⟩]], 0) := by kernel_rfl
theorem areas_lives {V : List Av} (h : Av.all V = [[⟨0, -2⟩, ⟨10, -2⟩, ⟨10, 2⟩, ⟨0, 2⟩]]) : ∃ x, V = [x] ∧ x.pts = [⟨0, -2⟩, ⟨10, -2⟩, ⟨10, 2⟩, ⟨0, 2⟩] := by
  match V, avs_length h, h with
  | [x], _, h => exact ⟨x, rfl, by simpa [Av.all] using h⟩

set_option maxRecDepth 10000 in
set_option maxHeartbeats 3200000 in
theorem law16_lives (w : World) (hS : Sxt w) : Calls Tryd.prog 5 #[] w fun e w' => e = .returned (.bool true) ∧ Below w.heap.size w w' := by
  have hC := fun V A (hT : Sxt V) (hA : RdV V V.heap.size A (ptRow [pt0, ⟨10, 0⟩])) => stroke_Line [pt0, ⟨10, 0⟩] A 2 false ⟨4, 0, 0, 256, [], 0⟩ none 0 V hT hA (by simp) (by simp) (RdV.nil V _ none) (by simp) (by simp) (by unfold PnIn In64; simp)
  unfold StrokeTo at hC
  rw [stroke_lives] at hC
  unfold penV at hC
  dsimp only [List.length_cons, List.length_nil, Nat.zero_add, Nat.reduceAdd] at hC
  have hSm := fun V A c B d (h1 : RdV V V.heap.size A (ptRow [⟨0, -2⟩, ⟨10, -2⟩, ⟨10, 2⟩, ⟨0, 2⟩])) (h2 : RdV V V.heap.size B (ptRow [⟨0, -2⟩, ⟨10, -2⟩, ⟨10, 2⟩, ⟨0, 2⟩])) => ref10_Same A B c d [⟨0, -2⟩, ⟨10, -2⟩, ⟨10, 2⟩, ⟨0, 2⟩] [⟨0, -2⟩, ⟨10, -2⟩, ⟨10, 2⟩, ⟨0, 2⟩] V h1 h2 (by simp)
  dsimp only [List.length_cons, List.length_nil, Nat.zero_add, Nat.reduceAdd] at hSm
  have HC := Lib.hid hC
  have HS := Lib.hid hSm
  have HTB := Lib.hid hS
  obtain ⟨W, hW, kA, bA⟩ : ∃ W, w.alloc (.cells #[.int .i64 0, .int .i64 0, .int .i64 10, .int .i64 0] 34) = W ∧ Box W w.heap.size 34 [.int .i64 0, .int .i64 0, .int .i64 10, .int .i64 0] ∧ Below w.heap.size w W := ⟨_, rfl, Box.new w _ [.int .i64 0, .int .i64 0, .int .i64 10, .int .i64 0], below_new w _⟩
  have HRA := Lib.hid (show RdV W W.heap.size (some ⟨w.heap.size, 0, none⟩) (ptRow [pt0, ⟨10, 0⟩]) from kA.rd)
  have HB := Lib.hid bA
  clear hC hSm hS kA bA
  go_enter Tryd.func5, Tryd.ntmps5
  go_wp2_with first
    | (rw [hW])
    | (go_at_call 4; (with_reducible refine Calls.mono (HC.out W _ (HTB.out.on HB.out) HRA.out) ?_); rintro e w1 ⟨⟨q, k, V, rfl, hV, -, hq⟩, b1⟩
       obtain ⟨x, rfl, hx⟩ := areas_lives hV
       obtain ⟨g, o, rfl, hgl, hcell⟩ := hq.row (i := 0) (by simp)
       have hxp := hq.2 x (by simp)
       obtain ⟨xA, xc, xp⟩ := x
       dsimp only at hx
       subst hx
       dsimp only [List.getElem_cons_zero, List.length_cons, List.length_nil, Nat.zero_add, Nat.reduceAdd, Nat.add_zero] at hcell hxp
       obtain ⟨U, hU, kB, bB⟩ : ∃ U, w1.alloc (.cells #[.int .i64 0, .int .i64 (-2), .int .i64 10, .int .i64 (-2), .int .i64 10, .int .i64 2, .int .i64 0, .int .i64 2] 34) = U ∧ Box U w1.heap.size 34 [.int .i64 0, .int .i64 (-2), .int .i64 10, .int .i64 (-2), .int .i64 10, .int .i64 2, .int .i64 0, .int .i64 2] ∧ Below w1.heap.size w1 U := ⟨_, rfl, Box.new w1 _ [.int .i64 0, .int .i64 (-2), .int .i64 10, .int .i64 (-2), .int .i64 10, .int .i64 2, .int .i64 0, .int .i64 2], below_new w1 _⟩
       have HR1 := Lib.hid (show RdV U U.heap.size xA (ptRow [⟨0, -2⟩, ⟨10, -2⟩, ⟨10, 2⟩, ⟨0, 2⟩]) from hxp.on bB)
       have HR2 := Lib.hid (show RdV U U.heap.size (some ⟨w1.heap.size, 0, none⟩) (ptRow [⟨0, -2⟩, ⟨10, -2⟩, ⟨10, 2⟩, ⟨0, 2⟩]) from kB.rd)
       have HB1 := Lib.hid (HB.out.trans ((b1.trans (bB.mono b1.size)).mono HB.out.size))
       clear hV hq hxp b1 kB bB
       simp only [List.length_cons, List.length_nil, Nat.zero_add])
    | (rw [hU])
    | (go_at_call 13; (with_reducible refine Calls.mono (HS.out U _ _ _ _ HR1.out HR2.out) ?_); rintro e w2 ⟨⟨z, rfl, hz⟩, b2⟩
       obtain rfl : z = true := hz.2 rfl)
  go_ret
  exact ⟨rfl, HB1.out.trans (b2.mono HB1.out.size)⟩
set_option maxRecDepth 10000 in
set_option maxHeartbeats 12800000 in
/-- StrokeReach, walked -/
theorem law16_Reach (L : List Pt) (cl : Bool) (P : Pn) (A : Option Addr) (c : Nat) (B : Option Addr) (d : Nat) (w : World) (hS : Sxt w) (hL : RdV w w.heap.size A (ptRow L)) (hl : L.length ≤ 1048576) (hc : L.length ≤ c) (hP : RdV w w.heap.size B (icells P.dash)) (hp : P.dash.length ≤ 1048576) (hd : P.dash.length ≤ d) (hx : PnIn P) :
    Calls Tryd.prog 3 #[.agg #[.slice A L.length c, .bool cl], penV P B d] w fun e w' => e = .returned (.bool true) ∧ Below w.heap.size w w' := by
  obtain ⟨W, hW, kL, kP, bW⟩ := lp_boxes w (.slice A L.length c) (.bool cl) (.int .i64 P.w) (.int .i64 P.cap) (.int .i64 P.join) (.int .i64 P.lim) (.slice B P.dash.length d) (.int .i64 P.phase) 24 27
  have c1 := fun V (hb : Below w.heap.size w V) => stroke_Line L A c cl P B d V (hS.on hb) (hL.on hb) hl hc (hP.on hb) hp hd hx
  have c2 := fun V (hb : Below w.heap.size w V) => ref14_Box L A c V (hL.on hb) (by omega)
  have c3 := fun V Q k (l : List Pt) (hq : RdV V V.heap.size Q (ptRow l)) (hk : l.length ≤ 16) => ref14_Twice l Q k V hq (by omega)
  have hin := stroke_in (l := L) (c := cl) (P := P)
  have hok := strokeM_ok (l := L) (c := cl) (P := P)
  have herr := strokeM_err (l := L) (c := cl) (P := P)
  obtain ⟨s1, s2⟩ := strokeM_small L cl P
  have f1 := fun h : FitL L => low_fit h L.length
  have f2 := fun h : FitL L => high_fit h L.length
  unfold StrokeTo at c1
  unfold Boxed at c2
  unfold penV at c1 ⊢
  generalize strokeM L cl P = X at c1 s1 s2 hok hin herr
  generalize lowTo L L.length = lo at c2 hin f1
  generalize highTo L L.length = hi at c2 hin f2
  generalize decide (0 < L.length) = dn at c2
  obtain ⟨O, E⟩ := X
  obtain ⟨lx, ly⟩ := lo
  obtain ⟨hx', hy⟩ := hi
  unfold ptV at c2
  dsimp only at c1 c2 s1 s2 hok hin herr f1 f2
  have HS := Lib.hid (And.intro s1 s2)
  obtain ⟨nl, hnl⟩ : ∃ x, L.length = x := ⟨_, rfl⟩
  obtain ⟨np, hnp⟩ : ∃ x, P.dash.length = x := ⟨_, rfl⟩
  rw [hnl, hnp] at c1 hW
  rw [hnl] at kL
  rw [hnp] at kP
  rw [hnl] at c2 HS hl
  rw [hnl, hnp]
  obtain ⟨⟨p0, p1⟩, -⟩ := Box.pair kL
  obtain ⟨q0, q1, q2, q3, q4, q5⟩ := Box.six kP
  have HK := Lib.hid (And.intro kL (And.intro kP bW))
  have C1 := Lib.hid c1
  have C2 := Lib.hid c2
  have C3 := Lib.hid c3
  have C9 := Lib.hid (fun V (hb : Below w.heap.size w V) => law16_lives V (hS.on hb))
  by_cases hE : E = 0
  · subst hE
    obtain ⟨hPk, hfit⟩ := hok rfl
    have g1 := f1 hfit
    have g2 := f2 hfit
    have gh := halfM_in hPk
    have gl := hPk.2.2.2.1
    obtain ⟨pw, pcap, pjoin, plim, pdash, pph⟩ := P
    unfold reachM at hin
    unfold halfM at gh hin
    dsimp only at *
    obtain ⟨h, hh⟩ : ∃ h, pw / 2 = h := ⟨_, rfl⟩
    rw [hh] at gh hin
    have m1 := mul_in (x := h) (y := plim) (M := 32768) (N := 8192) (by omega) (by omega)
    have m0 := Int.mul_nonneg (show 0 ≤ h by omega) (show 0 ≤ plim by omega)
    have m2 := mul_in (x := h * plim) (y := plim) (M := 268435456) (N := 8192) (by omega) (by omega)
    have m3 := Int.mul_nonneg m0 (show 0 ≤ plim by omega)
    obtain ⟨r, hr⟩ : ∃ r, 2 * h + h * plim * plim / 65536 + 4 = r := ⟨_, rfl⟩
    rw [hr] at hin
    have u1 : IntKind.i64.wrap (pw.tdiv 2) = h := by rw [Int.tdiv_eq_ediv_of_nonneg (by have := hPk.1; omega), hh]; exact IntWalk.i64_in _ (by omega)
    have u2 : IntKind.i64.wrap (2 * h) = 2 * h := IntWalk.i64_in _ (by omega)
    have u3 : IntKind.i64.wrap (h * plim) = h * plim := IntWalk.i64_in _ (by omega)
    have u4 : IntKind.i64.wrap (h * plim * plim) = h * plim * plim := IntWalk.i64_in _ (by omega)
    have u5 : IntKind.i64.wrap ((h * plim * plim).tdiv 65536) = h * plim * plim / 65536 := by rw [Int.tdiv_eq_ediv_of_nonneg m3]; exact IntWalk.i64_in _ (by omega)
    have u6 : IntKind.i64.wrap (2 * h + h * plim * plim / 65536) = 2 * h + h * plim * plim / 65536 := IntWalk.i64_in _ (by omega)
    have u7 : IntKind.i64.wrap (2 * h + h * plim * plim / 65536 + 4) = r := by rw [hr]; exact IntWalk.i64_in _ (by omega)
    unfold FitP at g1 g2
    dsimp only at g1 g2
    obtain ⟨a1, ha1⟩ : ∃ x, lx - r = x := ⟨_, rfl⟩
    obtain ⟨a2, ha2⟩ : ∃ x, ly - r = x := ⟨_, rfl⟩
    obtain ⟨a3, ha3⟩ : ∃ x, hx' + r = x := ⟨_, rfl⟩
    obtain ⟨a4, ha4⟩ : ∃ x, hy + r = x := ⟨_, rfl⟩
    rw [ha1, ha2, ha3, ha4] at hin
    have v1 : IntKind.i64.wrap (lx - r) = a1 := by rw [ha1]; exact IntWalk.i64_in _ (by omega)
    have v2 : IntKind.i64.wrap (ly - r) = a2 := by rw [ha2]; exact IntWalk.i64_in _ (by omega)
    have v3 : IntKind.i64.wrap (hx' + r) = a3 := by rw [ha3]; exact IntWalk.i64_in _ (by omega)
    have v4 : IntKind.i64.wrap (hy + r) = a4 := by rw [ha4]; exact IntWalk.i64_in _ (by omega)
    have HIN := Lib.hid hin
    have HV := Lib.hid (And.intro v1 (And.intro v2 (And.intro v3 v4)))
    clear c1 c2 c3 hL hP hp hc hd hnl hnp kL kP bW s1 s2 hin herr hok f1 f2 hPk hfit g1 g2 gh gl hh m0 m1 m2 m3 hr ha1 ha2 ha3 ha4 v1 v2 v3 v4 hx
    go_enter Tryd.func3, Tryd.ntmps3
    go_wp2_with first
      | (rw [hW])
      | (go_at_call 4; (with_reducible refine Calls.mono (C1.out _ HK.out.2.2) ?_); rintro e w1 ⟨⟨q, k, V, rfl, hV, -, r1⟩, b1⟩
         have G1 := Lib.hid (HK.out.2.2.trans (b1.mono HK.out.2.2.size))
         have R1 := Lib.hid (And.intro hV r1)
         have K1 := Lib.hid (And.intro (HK.out.1.below b1 HK.out.1.lt) (HK.out.2.1.below b1 HK.out.2.1.lt))
         obtain ⟨⟨p0, p1⟩, -⟩ := Box.pair K1.out.1
         clear b1 hV r1)
      | (go_at_call 6; (with_reducible refine Calls.mono (C2.out _ G1.out) ?_); rintro e w2 ⟨rfl, b2⟩
         obtain ⟨V2, hV2, y1, y2, d2, -⟩ := two_boxes w2 ⟨lx, ly⟩ ⟨hx', hy⟩
         have hb2 := b2.trans (d2.mono b2.size)
         have G2 := Lib.hid (G1.out.trans (hb2.mono G1.out.size))
         have R2 := Lib.hid (R1.out.2.on hb2)
         have K2 := Lib.hid (And.intro y1 y2)
         obtain ⟨q0, q1, q2, q3, q4, q5⟩ := Box.six (K1.out.2.below hb2 K1.out.2.lt)
         dsimp only at hV2
         clear b2 d2 y1 y2 hb2)
      | (rw [hV2])
    obtain ⟨nv, hnv⟩ : ∃ nv, V.length = nv := ⟨_, rfl⟩
    have HNV := Lib.hid (And.intro hnv (show nv ≤ 2 * nl + 2 ∧ nl ≤ 1048576 by have := avs_length R1.out.1; have := HS.out.2; omega))
    (try rw [hnv])
    clear hW hV2 p0 p1 q0 q1 q2 q3 q4 q5 hnv u1 u2 u3 u4 u5 u6 u7
    go_loopg [12] nv (fun gh it wr => ∃ i : Nat, it = .int .i64 (i : Int) ∧ gh + i = nv ∧ Below V2.heap.size V2 wr)
    case atStart => exact ⟨0, rfl, by omega, Below.refl _ _⟩
    case round =>
      obtain ⟨i, rfl, hg, hB⟩ := hrel
      have hnv2 := HNV.out.2
      have hwi : IntKind.i64.wrap ((i : Int) + 1) = (i : Int) + 1 := IntWalk.i64_in _ (by omega)
      have HB := Lib.hid hB
      have HG := Lib.hid hg
      by_cases hlt : i < nv
      · have hlt' : i < V.length := by rw [HNV.out.1]; exact hlt
        have hil : (i : Int) < (nv : Int) := by omega
        have hmem : V[i] ∈ V := List.getElem_mem hlt'
        have hmo : V[i].pts ∈ O := by rw [← R1.out.1]; exact List.mem_map.2 ⟨_, hmem, rfl⟩
        obtain ⟨hpos, hbox⟩ := HIN.out V[i].pts hmo
        have hsm := HS.out.1 V[i].pts hmo
        have HRW := Lib.hid (fun U (hU : Below V2.heap.size V2 U) => RdAs.row (R2.out.on hU) hlt')
        have HPT := Lib.hid (fun U (hU : Below V2.heap.size V2 U) => (R2.out.on hU).2 _ hmem)
        generalize V[i] = y at hpos hbox hsm HRW HPT
        obtain ⟨yA, yc, ypts⟩ := y
        dsimp only at hpos hbox hsm HRW HPT
        have HBOX := Lib.hid hbox
        have C4 := Lib.hid (fun U (hU : Below V2.heap.size V2 U) => C3.out U yA yc ypts (HPT.out U hU) hsm)
        obtain ⟨t, ht⟩ : ∃ t, twiceM ypts = t := ⟨_, rfl⟩
        rw [ht] at hpos
        simp only [ht] at C4
        have ht0 : ¬ t ≤ 0 := by omega
        obtain ⟨m, hm⟩ : ∃ m, ypts.length = m := ⟨_, rfl⟩
        have HM := Lib.hid hm
        rw [hm] at hsm
        simp only [hm] at HRW C4
        obtain ⟨g, o, rfl, hgl, r0⟩ := HRW.out _ HB.out
        clear hlt' hmem hmo hB hg hm hbox ht hpos
        go_wp2_with (go_at_call 7; (with_reducible refine Calls.mono (C4.out _ HB.out) ?_); rintro e w5 ⟨rfl, b5⟩
                     have HB5 := Lib.hid (HB.out.trans (b5.mono HB.out.size))
                     clear b5 r0)
        go_loopg [13] m (fun gh jt wr2 => ∃ j : Nat, jt = .int .i64 (j : Int) ∧ gh + j = m ∧ Below V2.heap.size V2 wr2)
        case atStart => exact ⟨0, rfl, by omega, HB5.out⟩
        case round =>
          obtain ⟨j, rfl, hgj, hB2⟩ := hrel
          have hwj : IntKind.i64.wrap ((j : Int) + 1) = (j : Int) + 1 := IntWalk.i64_in _ (by omega)
          have HB2 := Lib.hid hB2
          have HGJ := Lib.hid hgj
          obtain ⟨g', o', hgo, hgl', r0⟩ := HRW.out _ hB2
          simp only [Option.some.injEq, Addr.mk.injEq, and_true] at hgo
          obtain ⟨rfl, rfl⟩ := hgo
          by_cases hltj : j < m
          · have hlj : j < ypts.length := by rw [HM.out]; exact hltj
            have hjl : (j : Int) < (m : Int) := by omega
            obtain ⟨g2, o2, rfl, hgl2, e0, e1⟩ := (HPT.out _ hB2).ptD hlj
            have hbx := getD_in HBOX.out hlj
            generalize ypts.getD j pt0 = z at e0 e1 hbx
            obtain ⟨zx, zy⟩ := z
            obtain ⟨⟨h1, h2⟩, h3, h4⟩ := hbx
            dsimp only at e0 e1 h1 h2 h3 h4
            have n1 : ¬ zx < a1 := by omega
            have n2 : ¬ a3 < zx := by omega
            have n3 : ¬ zy < a2 := by omega
            have n4 : ¬ a4 < zy := by omega
            obtain ⟨v1, v2, v3, v4⟩ := HV.out
            obtain ⟨V0, hV0, k0, c0⟩ := endP wr 34 (.int .i64 zx) (.int .i64 zy)
            have hb0 := hB2.trans (c0.mono hB2.size)
            obtain ⟨⟨t0, t1⟩, -⟩ := Box.pair k0
            obtain ⟨⟨a0, a1'⟩, -⟩ := Box.pair (K2.out.1.below hb0 K2.out.1.lt)
            obtain ⟨⟨b0, b1⟩, -⟩ := Box.pair (K2.out.2.below hb0 K2.out.2.lt)
            have HB0 := Lib.hid hb0
            clear hB2 hgj hlj h1 h2 h3 h4 k0 c0 hb0
            go_wp2_with (rw [hV0])
            go_roundg (m - (j + 1))
            case measure => have := HGJ.out; omega
            case rel => exact ⟨j + 1, by simp, by have := HGJ.out; omega, HB0.out⟩
          · obtain rfl : j = m := by omega
            clear hB2 hgj
            go_wp2_with fail
            go_roundg (nv - (i + 1))
            case measure => have := HG.out; omega
            case rel => exact ⟨i + 1, by simp, by have := HG.out; omega, HB2.out⟩
      · obtain rfl : i = nv := by omega
        have G3 := Lib.hid (G2.out.trans (hB.mono G2.out.size))
        clear hB hg
        go_wp2_with (go_at_call 5; (with_reducible refine Calls.mono (C9.out _ G3.out) ?_); rintro e w5 ⟨rfl, b5⟩)
        go_ret
        exact ⟨rfl, G3.out.trans (b5.mono G3.out.size)⟩
  · obtain rfl := herr hE
    have hEb : (E == 0) = false := by simpa using hE
    have hEc : (E != 0) = true := by simpa using hE
    clear c1 c2 c3 hL hP hp hc hd hnl hnp kL kP bW s1 s2 hin herr hok f1 f2 hx
    go_enter Tryd.func3, Tryd.ntmps3
    go_wp2_with first
      | (rw [hW])
      | (go_at_call 4; (with_reducible refine Calls.mono (C1.out _ HK.out.2.2) ?_); rintro e w1 ⟨⟨q, k, V, rfl, hV, -, -⟩, b1⟩
         have G1 := Lib.hid (HK.out.2.2.trans (b1.mono HK.out.2.2.size))
         obtain rfl : V = [] := List.eq_nil_of_length_eq_zero (avs_length hV)
         simp only [List.length_nil]
         clear b1 hV)
      | (go_at_call 5; (with_reducible refine Calls.mono (C9.out _ G1.out) ?_); rintro e w5 ⟨rfl, b5⟩)
    go_ret
    exact ⟨rfl, G1.out.trans (b5.mono G1.out.size)⟩
end Go.Proofs.YtngnclibeccplaaDoor
