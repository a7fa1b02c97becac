/- Lengths, the document's own: Long, Twice. -/
import Derived.Test.YtngnclibeccplaaDoorZGaW
import Derived.Test.YtngnclibeccplaaDoorZGaV
namespace Go.Proofs.YtngnclibeccplaaDoor
open Go.RowKit Num

theorem fan_next (L : List Pt) (k : Nat) : fanTo L (k + 1) = fanTo L k + crG (L.getD 0 pt0) (L.getD (k + 1) pt0) (L.getD (k + 2) pt0) := rfl
theorem longM_yes {L : List Pt} (h : FitL L) (c : Bool) : longM L c = chainTo L (L.length - 1) + closeG L c := if_pos h

set_option maxRecDepth 10000 in
set_option maxHeartbeats 3200000 in
theorem ref14_Twice (L : List Pt) (A : Option Addr) (c : Nat) (w : World) (hL : RdV w w.heap.size A (ptRow L)) (hl : L.length ≤ 10000) :
    Calls Tryd.prog 7 #[.slice A L.length c] w fun e w' => e = .returned (.int .i64 (twiceM L)) ∧ Below w.heap.size w w' := by
  have cF := ref14_Fits L A c w hL (by omega)
  have HL := Lib.hid hL
  obtain ⟨r, hr⟩ : ∃ r, twiceM L = r := ⟨_, rfl⟩
  have HR := Lib.hid hr
  rw [hr]
  clear hr hL
  by_cases hf : FitL L
  · rw [decide_eq_true hf] at cF
    have CF := Lib.hid cF
    have HE := Lib.hid (show fanTo L (L.length - 2) = r from by rw [← HR.out, twiceM_yes hf]; exact fanTo_all L)
    have HFT := Lib.hid hf
    obtain ⟨n, hn⟩ : ∃ n, L.length = n := ⟨_, rfl⟩
    have HN := Lib.hid hn
    rw [hn] at HE CF hl ⊢
    clear cF hf HR hn
    go_enter Tryd.func7, Tryd.ntmps7
    go_wp2_with first
      | (go_at_call 14; refine Calls.mono CF.out ?_; rintro e w1 ⟨rfl, b1⟩)
    go_loopg [3, 4] n (fun gh sv it wr => ∃ j k : Nat, it = .int .i64 (j : Int) ∧ j = k + 1 ∧ sv = .int .i64 (fanTo L k) ∧ gh + k = n ∧ k ≤ n - 2 ∧ Below w.heap.size w wr)
    case atStart => exact ⟨1, 0, rfl, rfl, rfl, by omega, by omega, b1⟩
    case round =>
      obtain ⟨j, k, rfl, hjk, rfl, hg, hk, hB⟩ := hrel
      have hwi : IntKind.i64.wrap ((j : Int) + 1) = (j : Int) + 1 := IntWalk.i64_in _ (by omega)
      by_cases hlt : k + 2 < n
      · have hlt' : k + 2 < L.length := by rw [HN.out]; omega
        obtain ⟨g, o, rfl, hgl, e0, e1⟩ := (HL.out.on hB).ptD (i := 0) (by omega)
        obtain ⟨g', o', hgo, -, e2, e3⟩ := (HL.out.on hB).ptD (i := k + 1) (by omega)
        cases hgo
        obtain ⟨g', o', hgo, -, e4, e5⟩ := (HL.out.on hB).ptD (i := k + 2) hlt'
        cases hgo
        have hst := fan_next L k
        have hcb := fanTo_in HFT.out k
        have f0 := HFT.out.getD 0
        have f1 := HFT.out.getD (k + 1)
        have f2 := HFT.out.getD (k + 2)
        have hsb := cr_size f0 f1 f2
        have d1 := diff_in f0 f1
        have d2 := diff_in f0 f2
        unfold crG at hst hsb
        generalize L.getD 0 pt0 = p0 at e0 e1 hst hsb d1 d2
        generalize L.getD (k + 1) pt0 = p1 at e2 e3 hst hsb d1
        generalize L.getD (k + 2) pt0 = p2 at e4 e5 hst hsb d2
        obtain ⟨x0, y0⟩ := p0
        obtain ⟨x1, y1⟩ := p1
        obtain ⟨x2, y2⟩ := p2
        obtain ⟨S, hS⟩ : ∃ S, fanTo L k = S := ⟨_, rfl⟩
        dsimp only at e0 e1 e2 e3 e4 e5 hst hsb d1 d2
        obtain ⟨d11, d12⟩ := d1
        obtain ⟨d21, d22⟩ := d2
        rw [hS] at hst hcb ⊢
        have v1 : IntKind.i64.wrap (x1 - x0) = x1 - x0 := IntWalk.i64_in _ (by omega)
        have v2 : IntKind.i64.wrap (y1 - y0) = y1 - y0 := IntWalk.i64_in _ (by omega)
        have v3 : IntKind.i64.wrap (x2 - x0) = x2 - x0 := IntWalk.i64_in _ (by omega)
        have v4 : IntKind.i64.wrap (y2 - y0) = y2 - y0 := IntWalk.i64_in _ (by omega)
        obtain ⟨a1, ha1⟩ : ∃ a, x1 - x0 = a := ⟨_, rfl⟩
        obtain ⟨a2, ha2⟩ : ∃ a, y1 - y0 = a := ⟨_, rfl⟩
        obtain ⟨a3, ha3⟩ : ∃ a, x2 - x0 = a := ⟨_, rfl⟩
        obtain ⟨a4, ha4⟩ : ∃ a, y2 - y0 = a := ⟨_, rfl⟩
        rw [ha1] at v1 d11
        rw [ha2] at v2 d12
        rw [ha3] at v3 d21
        rw [ha4] at v4 d22
        rw [ha1, ha2, ha3, ha4] at hst hsb
        have m1 := mul_in (x := a1) (y := a4) (M := 16777214) (N := 16777214) (by omega) (by omega)
        have m2 := mul_in (x := a2) (y := a3) (M := 16777214) (N := 16777214) (by omega) (by omega)
        obtain ⟨u, hu⟩ : ∃ u, a1 * a4 = u := ⟨_, rfl⟩
        obtain ⟨v, hv⟩ : ∃ u, a2 * a3 = u := ⟨_, rfl⟩
        rw [hu] at m1
        rw [hv] at m2
        rw [hu, hv] at hst hsb
        have w1 : IntKind.i64.wrap u = u := IntWalk.i64_in _ (by omega)
        have w2 : IntKind.i64.wrap v = v := IntWalk.i64_in _ (by omega)
        have w3 : IntKind.i64.wrap (u - v) = u - v := IntWalk.i64_in _ (by omega)
        have w4 : IntKind.i64.wrap (S + (u - v)) = S + (u - v) := IntWalk.i64_in _ (by omega)
        rw [← hjk] at e2 e3
        have hjk2 : k + 2 = j + 1 := by omega
        rw [hjk2] at e4 e5
        have i0 : (j : Int) + 1 < (n : Int) := by omega
        have i1 : 0 ≤ (j : Int) + 1 ∧ (j : Int) + 1 < (n : Int) := by omega
        have i2 : (j : Int) < (n : Int) := by omega
        have i3 : j < n := by omega
        have i4 : (0 : Int) < (n : Int) := by omega
        have i5 : 0 < n := by omega
        have t1 : ((j : Int) + 1).toNat = j + 1 := by omega
        simp only [Nat.zero_mul, Nat.add_zero] at e0 e1
        have HB := Lib.hid hB
        have HST := Lib.hid hst
        have HG := Lib.hid (And.intro hg hjk)
        clear hB hst hS hcb hlt' hg hsb m1 m2 d11 d12 d21 d22 f0 f1 f2 hjk hjk2
        go_wp2_with fail
        go_quiet (fail)
        go_wp2_with fail
        go_roundg (n - (k + 1))
        case measure => have := HG.out.1; omega
        case rel => exact ⟨j + 1, k + 1, by simp, by have := HG.out.2; omega, by rw [HST.out], by have := HG.out.1; omega, by omega, below_figE HB.out nq⟩
      · obtain rfl : k = n - 2 := by omega
        have HB := Lib.hid hB
        have hge : ¬ (j : Int) + 1 < (n : Int) := by omega
        have HJ := Lib.hid hjk
        clear hB hg hjk hk
        go_wp2_with fail
        go_ret
        exact ⟨by rw [← HE.out]; rfl, HB.out⟩
  · rw [decide_eq_false hf] at cF
    have CF := Lib.hid cF
    obtain rfl : r = 0 := by rw [← HR.out]; exact twiceM_no hf
    clear cF hf HR
    go_enter Tryd.func7, Tryd.ntmps7
    go_wp2_with first
      | (go_at_call 14; refine Calls.mono CF.out ?_; rintro e w1 ⟨rfl, b1⟩)
    go_ret
    exact ⟨rfl, b1⟩

end Go.Proofs.YtngnclibeccplaaDoor
/- Lengths, the document's own: Box. Written by gen/genref14box.py. -/

namespace Go.Proofs.YtngnclibeccplaaDoor
open Go.RowKit Num

theorem lowTo_one {L : List Pt} : lowTo L 1 = L.getD 0 pt0 := by
  show lowP (L.getD 0 pt0) (L.getD 0 pt0) = L.getD 0 pt0
  unfold lowP
  cases L.getD 0 pt0
  simp
theorem highTo_one {L : List Pt} : highTo L 1 = L.getD 0 pt0 := by
  show highP (L.getD 0 pt0) (L.getD 0 pt0) = L.getD 0 pt0
  unfold highP
  cases L.getD 0 pt0
  simp
section
variable {U : World} {s : Nat} {t : TypeId} {a b c d : Value}
theorem two_storedB {w : World} {s : Nat} {t : TypeId} {a b c d : Value} (h1 : Box w s t [a, b]) (h2 : Box w (s + 1) t [c, d]) (x y z u : Value) : ∃ U, (((w.setCell ⟨s, 0, none⟩ x).setCell ⟨s, 1, none⟩ y).setCell ⟨s + 1, 0, none⟩ z).setCell ⟨s + 1, 1, none⟩ u = U ∧ Box U s t [x, y] ∧ Box U (s + 1) t [z, u] ∧ Below s w U := by
  obtain ⟨V, hV, kV, -, bV⟩ := h1.stored2 x y
  have k2 : Box V (s + 1) t [c, d] := by
    rw [← hV]
    exact (h2.far (p := ⟨s, 0, none⟩) (by show s + 1 ≠ s; omega) _).far (p := ⟨s, 1, none⟩) (by show s + 1 ≠ s; omega) _
  obtain ⟨U, hU, kU, -, bU⟩ := k2.stored2 z u
  have k1 : Box U s t [x, y] := by
    rw [← hU]
    exact (kV.far (p := ⟨s + 1, 0, none⟩) (by show s ≠ s + 1; omega) _).far (p := ⟨s + 1, 1, none⟩) (by show s ≠ s + 1; omega) _
  exact ⟨U, by rw [hV, hU], k1, kU, (bV s (Nat.le_refl _)).trans (bU s (by omega))⟩
theorem stage0 (h1 : Box U s t [a, b]) (h2 : Box U (s + 1) t [c, d]) (q : Nat) : ∃ V, U.drewN q = V ∧ Box V s t [a, b] ∧ Box V (s + 1) t [c, d] ∧ Below s U V :=
  ⟨_, rfl, h1.drewN q, h2.drewN q, below_drewN (Below.refl _ _) q⟩
theorem stage1 (h1 : Box U s t [a, b]) (h2 : Box U (s + 1) t [c, d]) (q : Nat) (x : Value) : ∃ V, (U.drewN q).setCell ⟨s, 0, none⟩ x = V ∧ Box V s t [x, b] ∧ Box V (s + 1) t [c, d] ∧ Below s U V :=
  ⟨_, rfl, (h1.drewN q).set 0 x, (h2.drewN q).far (p := ⟨s, 0, none⟩) (by show s + 1 ≠ s; omega) _, (below_drewN (Below.refl _ _) q).setCell (p := ⟨s, 0, none⟩) (Nat.le_refl _) _⟩
theorem stage2 (h1 : Box U s t [a, b]) (h2 : Box U (s + 1) t [c, d]) (q : Nat) (x : Value) : ∃ V, (U.drewN q).setCell ⟨s, 1, none⟩ x = V ∧ Box V s t [a, x] ∧ Box V (s + 1) t [c, d] ∧ Below s U V :=
  ⟨_, rfl, (h1.drewN q).set 1 x, (h2.drewN q).far (p := ⟨s, 1, none⟩) (by show s + 1 ≠ s; omega) _, (below_drewN (Below.refl _ _) q).setCell (p := ⟨s, 1, none⟩) (Nat.le_refl _) _⟩
theorem stage3 (h1 : Box U s t [a, b]) (h2 : Box U (s + 1) t [c, d]) (q : Nat) (x : Value) : ∃ V, (U.drewN q).setCell ⟨s + 1, 0, none⟩ x = V ∧ Box V s t [a, b] ∧ Box V (s + 1) t [x, d] ∧ Below s U V :=
  ⟨_, rfl, (h1.drewN q).far (p := ⟨s + 1, 0, none⟩) (by show s ≠ s + 1; omega) _, (h2.drewN q).set 0 x, (below_drewN (Below.refl _ _) q).setCell (p := ⟨s + 1, 0, none⟩) (by show s ≤ s + 1; omega) _⟩
theorem stage4 (h1 : Box U s t [a, b]) (h2 : Box U (s + 1) t [c, d]) (q : Nat) (x : Value) : ∃ V, (U.drewN q).setCell ⟨s + 1, 1, none⟩ x = V ∧ Box V s t [a, b] ∧ Box V (s + 1) t [c, x] ∧ Below s U V :=
  ⟨_, rfl, (h1.drewN q).far (p := ⟨s + 1, 1, none⟩) (by show s ≠ s + 1; omega) _, (h2.drewN q).set 1 x, (below_drewN (Below.refl _ _) q).setCell (p := ⟨s + 1, 1, none⟩) (by show s ≤ s + 1; omega) _⟩
end

set_option maxRecDepth 10000 in
set_option maxHeartbeats 12800000 in
theorem ref14_Box (L : List Pt) (A : Option Addr) (c : Nat) (w : World) (hL : RdV w w.heap.size A (ptRow L)) (hl : L.length ≤ 4611686018427387904) :
    Calls Tryd.prog 6 #[.slice A L.length c] w (Boxed L w) := by
  obtain ⟨W, hW, k1, k2, bW⟩ := pair_boxes w 34 (.int .i64 0) (.int .i64 0) (.int .i64 0) (.int .i64 0)
  have sW : W.heap.size = w.heap.size + 2 := by rw [← hW]; simp
  obtain ⟨V, hV, k5, k6, bV⟩ := pair_boxes W 34 (.int .i64 0) (.int .i64 0) (.int .i64 0) (.int .i64 0)
  have k1V := k1.below bV k1.lt
  have k2V := k2.below bV k2.lt
  rw [sW] at k5 k6
  obtain ⟨Z, hZ, z5, z6, bZ⟩ := two_storedB k5 k6 (.int .i64 0) (.int .i64 0) (.int .i64 0) (.int .i64 0)
  obtain ⟨⟨c0, c1⟩, c2, c3⟩ := Box.pair k5
  obtain ⟨⟨d0, d1⟩, d2, d3⟩ := Box.pair k6
  have HV := Lib.hid (And.intro z5 (And.intro z6 (And.intro (k1V.below bZ (by omega)) (And.intro (k2V.below bZ (by omega)) ((bW.trans (bV.mono bW.size)).trans (bZ.mono (by omega)))))))
  obtain ⟨n, hn⟩ : ∃ n, L.length = n := ⟨_, rfl⟩
  have HN := Lib.hid hn
  have HL := Lib.hid hL
  unfold Boxed
  rw [hn] at hl ⊢
  have HZ := Lib.hid hZ
  clear hn hL k1 k2 k5 k6 bV bW k1V k2V z5 z6 bZ hZ
  go_enter Tryd.func6, Tryd.ntmps6
  go_wp2_with first
    | (rw [hW])
    | (rw [hV])
    | (rw [HZ.out])
  try rw [HZ.out]
  clear HZ hW hV c0 c1 c2 c3 d0 d1 d2 d3 sW
  go_loopg [7] n (fun gh it wr => ∃ (i : Nat) (lo hi : Pt), it = .int .i64 (i : Int) ∧ gh + i = n ∧ Box wr (w.heap.size + 2) 34 [.int .i64 lo.x, .int .i64 lo.y] ∧ Box wr (w.heap.size + 2 + 1) 34 [.int .i64 hi.x, .int .i64 hi.y] ∧ Below (w.heap.size + 2) Z wr ∧ ((i = 0 ∧ lo = pt0 ∧ hi = pt0) ∨ (0 < i ∧ lo = lowTo L i ∧ hi = highTo L i)))
  case atStart => exact ⟨0, pt0, pt0, rfl, by omega, HV.out.1, HV.out.2.1, Below.refl _ _, .inl ⟨rfl, rfl, rfl⟩⟩
  case round =>
    obtain ⟨i, lo, hi, rfl, hg, K5, K6, hB, hcase⟩ := hrel
    by_cases hlt : i < n
    · have hlt' : i < L.length := by rw [HN.out]; exact hlt
      obtain ⟨g, o, rfl, hgl, -, -⟩ := HL.out.ptD hlt'
      have HPT := Lib.hid (fun V (h : Below (w.heap.size + 2) Z V) => show V.cell? ⟨g, o + i * 2, none⟩ = some (.int .i64 (L.getD i pt0).x) ∧ V.cell? ⟨g, o + i * 2 + 1, none⟩ = some (.int .i64 (L.getD i pt0).y) from by
        have hb : Below w.heap.size w V := HV.out.2.2.2.2.trans (h.mono (by omega))
        obtain ⟨g', o', hgo, -, e0, e1⟩ := (HL.out.below hb).ptD hlt'
        cases hgo
        exact ⟨e0, e1⟩)
      have hil : (i : Int) < (n : Int) := by omega
      have hwi : IntKind.i64.wrap ((i : Int) + 1) = (i : Int) + 1 := IntWalk.i64_in _ (by omega)
      have hst1 : lowTo L (i + 1) = lowP (lowTo L i) (L.getD i pt0) := rfl
      have hst2 : highTo L (i + 1) = highP (highTo L i) (L.getD i pt0) := rfl
      have HG := Lib.hid hg
      have HB0 := Lib.hid hB
      clear hg hB
      rcases hcase with ⟨rfl, rfl, rfl⟩ | ⟨hi0, rfl, rfl⟩
      · have hone1 := lowTo_one (L := L)
        have hone2 := highTo_one (L := L)
        generalize L.getD 0 pt0 = p at HPT hone1 hone2
        obtain ⟨x, y⟩ := p
        have HO := Lib.hid (And.intro hone1 hone2)
        clear hst1 hst2 hone1 hone2
        dsimp only [pt0] at K5 K6 HPT
        simp only [Nat.zero_mul, Nat.add_zero] at HPT
        obtain ⟨e0, e1⟩ := HPT.out _ HB0.out
        obtain ⟨⟨a0, a1⟩, a2, a3⟩ := Box.pair K5
        obtain ⟨⟨b0, b1⟩, b2, b3⟩ := Box.pair K6
        go_wp2_with fail
        go_quiet (fail)
        go_wp2_with fail
        obtain ⟨U1, hU, K5', K6', bU⟩ := stage1 K5 K6 nq (.int .i64 x)
        rw [hU]
        have HB1 := Lib.hid (HB0.out.trans bU)
        clear hU bU K5 K6 e0 e1 a0 a1 a2 a3 b0 b1 b2 b3
        have K5 := K5'
        have K6 := K6'
        clear K5' K6'
        obtain ⟨e0, e1⟩ := HPT.out _ HB1.out
        obtain ⟨⟨a0, a1⟩, a2, a3⟩ := Box.pair K5
        obtain ⟨⟨b0, b1⟩, b2, b3⟩ := Box.pair K6
        go_wp2_with fail
        go_quiet (fail)
        go_wp2_with fail
        obtain ⟨U2, hU, K5', K6', bU⟩ := stage2 K5 K6 nq (.int .i64 y)
        rw [hU]
        have HB2 := Lib.hid (HB1.out.trans bU)
        clear hU bU K5 K6 e0 e1 a0 a1 a2 a3 b0 b1 b2 b3
        have K5 := K5'
        have K6 := K6'
        clear K5' K6'
        obtain ⟨e0, e1⟩ := HPT.out _ HB2.out
        obtain ⟨⟨a0, a1⟩, a2, a3⟩ := Box.pair K5
        obtain ⟨⟨b0, b1⟩, b2, b3⟩ := Box.pair K6
        go_wp2_with fail
        go_quiet (fail)
        go_wp2_with fail
        obtain ⟨U3, hU, K5', K6', bU⟩ := stage3 K5 K6 nq (.int .i64 x)
        rw [hU]
        have HB3 := Lib.hid (HB2.out.trans bU)
        clear hU bU K5 K6 e0 e1 a0 a1 a2 a3 b0 b1 b2 b3
        have K5 := K5'
        have K6 := K6'
        clear K5' K6'
        obtain ⟨e0, e1⟩ := HPT.out _ HB3.out
        obtain ⟨⟨a0, a1⟩, a2, a3⟩ := Box.pair K5
        obtain ⟨⟨b0, b1⟩, b2, b3⟩ := Box.pair K6
        go_wp2_with fail
        go_quiet (fail)
        go_wp2_with fail
        obtain ⟨U4, hU, K5', K6', bU⟩ := stage4 K5 K6 nq (.int .i64 y)
        rw [hU]
        have HB4 := Lib.hid (HB3.out.trans bU)
        clear hU bU K5 K6 e0 e1 a0 a1 a2 a3 b0 b1 b2 b3
        have K5 := K5'
        have K6 := K6'
        clear K5' K6'
        have HK := Lib.hid (And.intro K5 K6)
        clear K5 K6
        go_wp2_with fail
        go_roundg (n - 1)
        case measure => have := HG.out; omega
        case rel => exact ⟨1, ⟨x, y⟩, ⟨x, y⟩, by simp, by have := HG.out; omega, HK.out.1, HK.out.2, HB4.out, .inr ⟨by omega, HO.out.1.symm, HO.out.2.symm⟩⟩
      · generalize L.getD i pt0 = p at HPT hst1 hst2
        generalize lowTo L i = lo at K5 hst1
        generalize highTo L i = hi at K6 hst2
        obtain ⟨x, y⟩ := p
        obtain ⟨lx, ly⟩ := lo
        obtain ⟨hx, hy⟩ := hi
        unfold lowP at hst1
        unfold highP at hst2
        dsimp only at K5 K6 HPT hst1 hst2
        have hiz : ((i : Int) == 0) = false := by simp; omega
        obtain ⟨m1, hm1⟩ : ∃ m, min lx x = m := ⟨_, rfl⟩
        obtain ⟨e0, e1⟩ := HPT.out _ HB0.out
        obtain ⟨⟨a0, a1⟩, a2, a3⟩ := Box.pair K5
        obtain ⟨⟨b0, b1⟩, b2, b3⟩ := Box.pair K6
        have HM0 := Lib.hid hm1
        rcases Classical.em (x < lx) with hc | hc
        all_goals
          first
            | (have hmx : x = m1 := by omega
               have HMX := Lib.hid hmx
               clear hmx hm1
               go_wp2_with fail
               go_quiet (fail)
               go_wp2_with fail
               obtain ⟨U1, hU, K5', K6', bU⟩ := stage1 K5 K6 nq (.int .i64 x)
               rw [hU]
               rw [HMX.out] at K5'
               have HB1 := Lib.hid (HB0.out.trans bU)
               clear hU bU K5 K6 e0 e1 a0 a1 a2 a3 b0 b1 b2 b3 hc HMX
               have K5 := K5'
               have K6 := K6'
               clear K5' K6')
            | (have hmx : lx = m1 := by omega
               have HMX := Lib.hid hmx
               clear hmx hm1
               go_wp2_with fail
               go_quiet (fail)
               go_wp2_with fail
               obtain ⟨U1, hU, K5', K6', bU⟩ := stage0 K5 K6 nq
               rw [hU]
               rw [HMX.out] at K5'
               have HB1 := Lib.hid (HB0.out.trans bU)
               clear hU bU K5 K6 e0 e1 a0 a1 a2 a3 b0 b1 b2 b3 hc HMX
               have K5 := K5'
               have K6 := K6'
               clear K5' K6')
        all_goals
          obtain ⟨m2, hm2⟩ : ∃ m, min ly y = m := ⟨_, rfl⟩
          obtain ⟨e0, e1⟩ := HPT.out _ HB1.out
          obtain ⟨⟨a0, a1⟩, a2, a3⟩ := Box.pair K5
          obtain ⟨⟨b0, b1⟩, b2, b3⟩ := Box.pair K6
          have HM1 := Lib.hid hm2
          rcases Classical.em (y < ly) with hc | hc
        all_goals
          first
            | (have hmx : y = m2 := by omega
               have HMX := Lib.hid hmx
               clear hmx hm2
               go_wp2_with fail
               go_quiet (fail)
               go_wp2_with fail
               obtain ⟨U2, hU, K5', K6', bU⟩ := stage2 K5 K6 nq (.int .i64 y)
               rw [hU]
               rw [HMX.out] at K5'
               have HB2 := Lib.hid (HB1.out.trans bU)
               clear hU bU K5 K6 e0 e1 a0 a1 a2 a3 b0 b1 b2 b3 hc HMX
               have K5 := K5'
               have K6 := K6'
               clear K5' K6')
            | (have hmx : ly = m2 := by omega
               have HMX := Lib.hid hmx
               clear hmx hm2
               go_wp2_with fail
               go_quiet (fail)
               go_wp2_with fail
               obtain ⟨U2, hU, K5', K6', bU⟩ := stage0 K5 K6 nq
               rw [hU]
               rw [HMX.out] at K5'
               have HB2 := Lib.hid (HB1.out.trans bU)
               clear hU bU K5 K6 e0 e1 a0 a1 a2 a3 b0 b1 b2 b3 hc HMX
               have K5 := K5'
               have K6 := K6'
               clear K5' K6')
        all_goals
          obtain ⟨m3, hm3⟩ : ∃ m, max hx x = m := ⟨_, rfl⟩
          obtain ⟨e0, e1⟩ := HPT.out _ HB2.out
          obtain ⟨⟨a0, a1⟩, a2, a3⟩ := Box.pair K5
          obtain ⟨⟨b0, b1⟩, b2, b3⟩ := Box.pair K6
          have HM2 := Lib.hid hm3
          rcases Classical.em (hx < x) with hc | hc
        all_goals
          first
            | (have hmx : x = m3 := by omega
               have HMX := Lib.hid hmx
               clear hmx hm3
               go_wp2_with fail
               go_quiet (fail)
               go_wp2_with fail
               obtain ⟨U3, hU, K5', K6', bU⟩ := stage3 K5 K6 nq (.int .i64 x)
               rw [hU]
               rw [HMX.out] at K6'
               have HB3 := Lib.hid (HB2.out.trans bU)
               clear hU bU K5 K6 e0 e1 a0 a1 a2 a3 b0 b1 b2 b3 hc HMX
               have K5 := K5'
               have K6 := K6'
               clear K5' K6')
            | (have hmx : hx = m3 := by omega
               have HMX := Lib.hid hmx
               clear hmx hm3
               go_wp2_with fail
               go_quiet (fail)
               go_wp2_with fail
               obtain ⟨U3, hU, K5', K6', bU⟩ := stage0 K5 K6 nq
               rw [hU]
               rw [HMX.out] at K6'
               have HB3 := Lib.hid (HB2.out.trans bU)
               clear hU bU K5 K6 e0 e1 a0 a1 a2 a3 b0 b1 b2 b3 hc HMX
               have K5 := K5'
               have K6 := K6'
               clear K5' K6')
        all_goals
          obtain ⟨m4, hm4⟩ : ∃ m, max hy y = m := ⟨_, rfl⟩
          obtain ⟨e0, e1⟩ := HPT.out _ HB3.out
          obtain ⟨⟨a0, a1⟩, a2, a3⟩ := Box.pair K5
          obtain ⟨⟨b0, b1⟩, b2, b3⟩ := Box.pair K6
          have HM3 := Lib.hid hm4
          rcases Classical.em (hy < y) with hc | hc
        all_goals
          first
            | (have hmx : y = m4 := by omega
               have HMX := Lib.hid hmx
               clear hmx hm4
               go_wp2_with fail
               go_quiet (fail)
               go_wp2_with fail
               obtain ⟨U4, hU, K5', K6', bU⟩ := stage4 K5 K6 nq (.int .i64 y)
               rw [hU]
               rw [HMX.out] at K6'
               have HB4 := Lib.hid (HB3.out.trans bU)
               clear hU bU K5 K6 e0 e1 a0 a1 a2 a3 b0 b1 b2 b3 hc HMX
               have K5 := K5'
               have K6 := K6'
               clear K5' K6')
            | (have hmx : hy = m4 := by omega
               have HMX := Lib.hid hmx
               clear hmx hm4
               go_wp2_with fail
               go_quiet (fail)
               go_wp2_with fail
               obtain ⟨U4, hU, K5', K6', bU⟩ := stage0 K5 K6 nq
               rw [hU]
               rw [HMX.out] at K6'
               have HB4 := Lib.hid (HB3.out.trans bU)
               clear hU bU K5 K6 e0 e1 a0 a1 a2 a3 b0 b1 b2 b3 hc HMX
               have K5 := K5'
               have K6 := K6'
               clear K5' K6')
        all_goals
          rw [HM0.out, HM1.out] at hst1
          rw [HM2.out, HM3.out] at hst2
          have HK := Lib.hid (And.intro K5 (And.intro K6 (And.intro hst1 hst2)))
          clear K5 K6 hst1 hst2
          go_wp2_with fail
          go_roundg (n - (i + 1))
          case measure => have := HG.out; omega
          case rel => exact ⟨i + 1, ⟨m1, m2⟩, ⟨m3, m4⟩, by simp, by have := HG.out; omega, HK.out.1, HK.out.2.1, HB4.out, .inr ⟨by omega, HK.out.2.2.1.symm, HK.out.2.2.2.symm⟩⟩
    · obtain rfl : i = n := by omega
      have hlh : lo = lowTo L i ∧ hi = highTo L i := by
        rcases hcase with ⟨h0, rfl, rfl⟩ | ⟨-, h1, h2⟩
        · have hl0 : L.length = 0 := by rw [HN.out]; exact h0
          obtain rfl := List.eq_nil_of_length_eq_zero hl0
          subst h0
          exact ⟨rfl, rfl⟩
        · exact ⟨h1, h2⟩
      obtain ⟨⟨a0, a1⟩, -⟩ := Box.pair K5
      obtain ⟨⟨b0, b1⟩, -⟩ := Box.pair K6
      have z1 := HV.out.2.2.1.below hB (by omega)
      have z2 := HV.out.2.2.2.1.below hB (by omega)
      obtain ⟨⟨c0, c1⟩, c2, c3⟩ := Box.pair z1
      obtain ⟨⟨d0, d1⟩, d2, d3⟩ := Box.pair z2
      have HD : decide ((0 : Int) < (i : Int)) = decide (0 < i) := by simp
      obtain ⟨lx, ly⟩ := lo
      obtain ⟨hx, hy⟩ := hi
      dsimp only at a0 a1 b0 b1
      have HLO := Lib.hid (show Ending.returned (.tuple #[.agg #[.int .i64 lx, .int .i64 ly], .agg #[.int .i64 hx, .int .i64 hy], .bool (decide (0 < i))]) = Ending.returned (.tuple #[ptV (lowTo L i), ptV (highTo L i), .bool (decide (0 < i))]) from by rw [← hlh.1, ← hlh.2]; rfl)
      have HZ := Lib.hid (And.intro z1 (And.intro z2 (HV.out.2.2.2.2.trans (hB.mono (by omega)))))
      clear K5 K6 hB z1 z2 hg hcase hlh
      go_wp2_with fail
      go_region
      all_goals
        first
          | (obtain ⟨U, hU, v0, v1, y0, y1, bU⟩ := two_stored HZ.out.1 HZ.out.2.1 (.int .i64 lx) (.int .i64 ly) (.int .i64 hx) (.int .i64 hy)
             rw [hU])
          | (obtain ⟨U, hU, v0, v1, y0, y1, bU⟩ := two_storedR HZ.out.1 HZ.out.2.1 (.int .i64 lx) (.int .i64 ly) (.int .i64 hx) (.int .i64 hy)
             rw [hU])
        have HB := Lib.hid (HZ.out.2.2.trans bU.drew)
        clear hU bU
        have v0' : U.drew.cell? ⟨w.heap.size, 0, none⟩ = some (.int .i64 lx) := v0
        have v1' : U.drew.cell? ⟨w.heap.size, 1, none⟩ = some (.int .i64 ly) := v1
        have y0' : U.drew.cell? ⟨w.heap.size + 1, 0, none⟩ = some (.int .i64 hx) := y0
        have y1' : U.drew.cell? ⟨w.heap.size + 1, 1, none⟩ = some (.int .i64 hy) := y1
        go_wp2_with fail
        exact bodyPost_ret (by simp [results, Tryd.results6, go_sem, v0, v1, y0, y1]) rfl ⟨HLO.out, HB.out⟩
end Go.Proofs.YtngnclibeccplaaDoor
