/- Where ways meet, the program's own: the point in which two ways go through one another. -/
import Derived.Test.YtdmoibphidipeaaGreatDoorZCrU
import Derived.Test.YtdmoibphidipeaaGreatDoorZCsX
import Derived.Test.YtdmoibphidipeaaGreatDoorZSoE
namespace Go.Proofs.YtdmoibphidipeaaGreatDoor
open Go.RowKit Num rows
open Go.Sort (grow)

theorem arI_crG (c d a : Pt) : arI c.x c.y d.x d.y a.x a.y = crG c d a := by unfold arI crG; grind
theorem along_one (P P' R : Int) (N : Nat) : alongN P P' R 1 1 N = P * N + R * (P' - P) ∧ alongD 1 1 N = N := by
  unfold alongN alongD
  constructor
  · simp
  · simp
theorem along_fn {P1 P3 F : Int} {N : Nat} (h1 : InG P1) (h3 : InG P3) (hN : 0 < N) (hN2 : N ≤ 2251799813685248) (hF : -2251799813685248 ≤ F ∧ F ≤ 2251799813685248) :
    Fn3 116 (SV P1 1 8) (SV P3 1 8) (SV F N 8) (SG (P1 * N + F * (P3 - P1)) N 8) := by
  unfold InG at h1 h3
  have e1 : (4294967296 : Nat) = 4294967296 ^ 1 := by decide
  have e2 : (18446744073709551616 : Nat) = 4294967296 ^ 2 := by decide
  have h := fv_along (P := P1) (P' := P3) (R := F) (Q := 1) (Q' := 1) (T := N) (i := 1) (j := 1) (l := 2) (m := 8) (k := 8) (by omega) (by omega) hN (by omega) (by omega) (by omega) (by omega) (by omega) (by omega) (by omega) (by omega) (by omega) (by omega)
  rw [(along_one P1 P3 F N).1, (along_one P1 P3 F N).2] at h
  exact h
theorem spot_TowardW {s t : Sp} {f : Fc} {a b : Pt} {F : Int} {N : Nat} (fa : FitP a) (fb : FitP b) (hs : s.Red 8) (es : sw s = qAt a) (ht : t.Red 8) (et : sw t = qAt b) (hf : f.Is F N 8) (hN : 0 < N) (hN2 : N ≤ 2251799813685248) (hF : -2251799813685248 ≤ F ∧ F ≤ 2251799813685248) (V : World) (os : s.Ok V) (ot : t.Ok V) (of : f.Ok V) :
    Calls Tryz.prog 68 #[spV s, spV t, fcV f] V (AtTo (qs (a.x * N + F * (b.x - a.x)) (a.y * N + F * (b.y - a.y)) N N) V) := by
  obtain ⟨i1, i2⟩ := hs.atV es
  obtain ⟨i3, i4⟩ := ht.atV et
  obtain ⟨g1, g2⟩ := fit_InG fa
  obtain ⟨g3, g4⟩ := fit_InG fb
  exact (spot_Toward _ _ _ _ _ _ _ (along_fn g1 g3 hN hN2 hF) (along_fn g2 g4 hN hN2 hF) s.n1 s.n2 t.n1 t.n2 f.n s.a1 s.d1 s.a2 s.d2 t.a1 t.d1 t.a2 t.d2 f.a f.d s.A1 s.D1 s.A2 s.D2 t.A1 t.D1 t.A2 t.D2 f.A f.D s.c1 s.e1 s.c2 s.e2 t.c1 t.e1 t.c2 t.e2 f.c f.e V
    i1 i2 i3 i4 hf os.1.1 os.1.2 os.2.1 os.2.2 ot.1.1 ot.1.2 ot.2.1 ot.2.2 of.1 of.2).mono fun _ _ h => Gs.toAt hN hN h
theorem frac_OfW (n d : Int) (hn : -562949953421312 ≤ n ∧ n ≤ 562949953421312) (hd : -1125899906842624 ≤ d ∧ d ≤ 1125899906842624) (h0 : d ≠ 0) (w : World) :
    Calls Tryz.prog 67 #[.int .i64 n, .int .i64 d] w fun e w' => ∃ u : Fc, e = .returned (.tuple #[fcV u, .int .i64 0]) ∧ u.Is (acrossN n d) d.natAbs 8 ∧ u.Ok w' ∧ Below w.heap.size w w' := by
  refine (frac_Of n d (by omega) (by omega) (by omega) (by omega) _ _ rfl rfl w).mono ?_
  rintro e w' (⟨h, -⟩ | ⟨hQ, v, rfl, h⟩)
  · omega
  · have e2 : (18446744073709551616 : Nat) = 4294967296 ^ 2 := by decide
    have b1 : (acrossN n d).natAbs < 4294967296 ^ 4 := Nat.lt_of_lt_of_le (show (acrossN n d).natAbs < 4294967296 ^ 2 by unfold acrossN; split <;> omega) (by decide)
    have b2 : d.natAbs < 4294967296 ^ 4 := Nat.lt_of_lt_of_le (show d.natAbs < 4294967296 ^ 2 by omega) (by decide)
    obtain ⟨u, hu, h2, h3, h4⟩ := Gv.toFc ((gv_of_f h).imp (fun _ _ _ _ _ k => SF.toV hQ (lt8 b1) (lt8 b2) k))
    cases hu
    exact ⟨u, rfl, h2, h3, h4⟩
theorem fin_at {w v : World} {g : Nat} (k : Blk v g 41 zeroS) (hg : w.heap.size ≤ g) (B : Below w.heap.size w v) {q : Qp} {s : Sp} (h : s.Red 8) (ho : s.Ok v) (e : sw s = q) :
    ∃ U, ((((((v.setCell ⟨g, 0, none⟩ (.bool s.n1)).setCell ⟨g, 1, none⟩ (.slice s.A1 s.a1.length s.c1)).setCell ⟨g, 2, none⟩ (.slice s.D1 s.d1.length s.e1)).setCell ⟨g, 3, none⟩ (.bool s.n2)).setCell ⟨g, 4, none⟩ (.slice s.A2 s.a2.length s.c2)).setCell ⟨g, 5, none⟩ (.slice s.D2 s.d2.length s.e2)) = U ∧ (U.cell? ⟨g, 0, none⟩ = some (.bool s.n1) ∧ U.cell? ⟨g, 1, none⟩ = some (.slice s.A1 s.a1.length s.c1) ∧ U.cell? ⟨g, 2, none⟩ = some (.slice s.D1 s.d1.length s.e1) ∧ U.cell? ⟨g, 3, none⟩ = some (.bool s.n2) ∧ U.cell? ⟨g, 4, none⟩ = some (.slice s.A2 s.a2.length s.c2) ∧ U.cell? ⟨g, 5, none⟩ = some (.slice s.D2 s.d2.length s.e2)) ∧ AtTo q w (.returned (spV s)) U := by
  unfold zeroS at k
  have K := k.six (.bool s.n1) (.slice s.A1 s.a1.length s.c1) (.slice s.D1 s.d1.length s.e1) (.bool s.n2) (.slice s.A2 s.a2.length s.c2) (.slice s.D2 s.d2.length s.e2)
  exact ⟨_, rfl, K.facts6.1, s, rfl, h, ⟨⟨ho.1.1.six k _ _ _ _ _ _, ho.1.2.six k _ _ _ _ _ _⟩, ho.2.1.six k _ _ _ _ _ _, ho.2.2.six k _ _ _ _ _ _⟩, e, below_six B hg _ _ _ _ _ _⟩

set_option maxRecDepth 10000 in
set_option maxHeartbeats 6400000 in
theorem cross_where (a b c d : Pt) (ha : FitP a) (hb : FitP b) (hc : FitP c) (hd : FitP d) (hp : PartsG c d a b) (w : World) :
    Calls Tryz.prog 36 #[segV a b, segV c d] w (AtTo (crossQ (qAt a) (qAt b) (qAt c) (qAt d)) w) := by
  obtain ⟨W0, hW0, k1, k2, bW, sW⟩ := seg_boxes w a b c d
  obtain ⟨W, hW, k3, b0⟩ : ∃ W, W0.alloc (.cells #[.bool false, .slice none 0 0, .slice none 0 0, .bool false, .slice none 0 0, .slice none 0 0] 41) = W ∧ Blk W W0.heap.size 41 zeroS ∧ Below W0.heap.size W0 W := ⟨_, rfl, Blk.new W0 _ zeroS, (Below.refl _ _).alloc (Nat.le_refl _) _⟩
  replace k1 := k1.below b0 k1.lt
  replace k2 := k2.below b0 k2.lt
  have c1 := quiet_ofC (W := W) (fun V => cross_aside c d a hc hd ha V)
  have c2 := quiet_ofC (W := W) (fun V => cross_aside c d b hc hd hb V)
  have r1 := cr_size hc hd ha
  have r2 := cr_size hc hd hb
  have hcq := cross_qs a b c d
  rw [arI_crG, arI_crG] at hcq
  obtain ⟨u, hu⟩ : ∃ u, crG c d a = u := ⟨_, rfl⟩
  obtain ⟨v, hv⟩ : ∃ v, crG c d b = v := ⟨_, rfl⟩
  unfold PartsG at hp
  rw [hu, hv] at hp hcq
  rw [hu] at c1 r1
  rw [hv] at c2 r2
  have hne : u - v ≠ 0 := by omega
  have hN0 : 0 < (u - v).natAbs := by omega
  have hNB : (u - v).natAbs ≤ 2251799813685248 := by omega
  have hFB : -2251799813685248 ≤ acrossN u (u - v) ∧ acrossN u (u - v) ≤ 2251799813685248 := by unfold acrossN; split <;> omega
  have hX := hcq hne rfl rfl
  obtain ⟨X, hXX⟩ : ∃ X, crossQ (qAt a) (qAt b) (qAt c) (qAt d) = X := ⟨_, rfl⟩
  rw [hXX] at hX ⊢
  have cO := fun V => frac_OfW u (u - v) (by omega) (by omega) hne V
  have cT := fun (s t : Sp) (f : Fc) V hs es ht et hf os ot of => spot_TowardW (s := s) (t := t) (f := f) ha hb hs es ht et hf hN0 hNB hFB V os ot of
  rw [hX] at cT
  have cA := fun V => spot_AtW a ha V
  have cB := fun V => spot_AtW b hb V
  have hwr : IntKind.i64.wrap (u - v) = u - v := IntWalk.i64_in _ (by omega)
  unfold segCells at k1 k2
  obtain ⟨p0, p1, p2, p3⟩ := Box.quad k1
  obtain ⟨q0, q1, q2, q3⟩ := Box.quad k2
  unfold segV ptV spV fcV at *
  have C1 := Lib.hid c1
  have C2 := Lib.hid c2
  have CO := Lib.hid cO
  have CT := Lib.hid cT
  have CA := Lib.hid cA
  have CB := Lib.hid cB
  have HK := Lib.hid (And.intro k1 (And.intro k3 (And.intro (bW.trans (b0.mono bW.size)) (show w.heap.size < W0.heap.size ∧ w.heap.size ≤ W0.heap.size ∧ W0.heap.size < W.heap.size from ⟨by omega, by omega, k3.lt⟩))))
  have x0 := cell_regrown p0
  have x1 := cell_regrown p1
  have x2 := cell_regrown p2
  have x3 := cell_regrown p3
  have y0 := cell_regrown q0
  have y1 := cell_regrown q1
  have y2 := cell_regrown q2
  have y3 := cell_regrown q3
  clear k1 k2 k3 bW b0 sW c1 c2 cO cT cA cB hu hv hp hcq hne hN0 hNB hFB hX hXX r1 r2 ha hb hc hd p0 p1 p2 p3 q0 q1 q2 q3
  go_enter Tryz.func36, Tryz.ntmps36
  go_wp2_with first
    | (rw [hW0])
    | (rw [hW])
  refine wp_region_quiet_below (by kernel_rfl) (by kernel_rfl) ?_
  quiet_step (fail)
  quiet_step (fail)
  quiet_step (fail)
  quiet_step (with_reducible exact C1.out _ _)
  quiet_step (fail)
  quiet_step (fail)
  quiet_step (fail)
  quiet_step (with_reducible exact C2.out _ _)
  quiet_step (fail)
  quiet_step (fail)
  refine wpQuiet_nil ?_
  intro _ hw'
  obtain ⟨⟨dq, osq⟩, hw''⟩ := hw'
  subst hw''
  obtain ⟨wq, hwq⟩ : ∃ x, grow (redrawn W dq) osq = x := ⟨_, rfl⟩
  have Bq : Below W.heap.size W wq := by rw [← hwq]; exact below_regrown W dq osq
  rw [hwq]
  have BQ := Lib.hid Bq
  clear hwq Bq C1 C2 x0 x1 x2 x3 y0 y1 y2 y3
  go_wp2_with first
    | (go_at_call 67; (with_reducible refine Calls.mono (CO.out _) ?_); rintro e w3 ⟨f, rfl, hf, of, b3⟩

       obtain ⟨W4, hW4⟩ : ∃ W4, w3.alloc (.cells #[.bool f.n, .slice f.A f.a.length f.c, .slice f.D f.d.length f.e] 39) = W4 := ⟨_, rfl⟩
       have bn : Below w3.heap.size w3 W4 := by rw [← hW4]; exact (Below.refl _ _).alloc (Nat.le_refl _) _
       have kF : Blk W4 w3.heap.size 39 f.cells := by rw [← hW4]; exact Blk.new w3 _ f.cells
       have B4 : Below W.heap.size W W4 := BQ.out.trans ((b3.trans (bn.mono b3.size)).mono BQ.out.size)
       have HF := Lib.hid (And.intro hf (And.intro (of.on bn) kF))
       have hgf : W0.heap.size < w3.heap.size := Nat.lt_of_lt_of_le HK.out.2.2.2.2.2 (Nat.le_trans BQ.out.size b3.size)
       have HB4 := Lib.hid (And.intro B4 hgf)
       clear hf of kF B4 bn hgf)
    | (rw [hW4])
  have HS := Lib.hid (show ∀ V, Below W4.heap.size W4 V → (V.cell? ⟨w.heap.size, 0, none⟩ = some (.int .i64 a.x) ∧ V.cell? ⟨w.heap.size, 1, none⟩ = some (.int .i64 a.y) ∧ V.cell? ⟨w.heap.size, 2, none⟩ = some (.int .i64 b.x) ∧ V.cell? ⟨w.heap.size, 3, none⟩ = some (.int .i64 b.y)) ∧ (V.cell? ⟨w3.heap.size, 0, none⟩ = some (.bool f.n) ∧ V.cell? ⟨w3.heap.size, 1, none⟩ = some (.slice f.A f.a.length f.c) ∧ V.cell? ⟨w3.heap.size, 2, none⟩ = some (.slice f.D f.d.length f.e)) from fun V hV => by
    have kS := (HK.out.1.below HB4.out.1 HK.out.1.lt).below hV (Nat.lt_of_lt_of_le HK.out.1.lt HB4.out.1.size)
    obtain ⟨l0, l1, l2, -⟩ := Blk.facts (HF.out.2.2.on hV)
    exact ⟨Box.quad kS, l0, l1, l2⟩)
  have HS6 := Lib.hid (show ∀ V, Below W4.heap.size W4 V → ∀ u0 u1 u2 u3 u4 u5 : Value, (((((((V.setCell ⟨W0.heap.size, 0, none⟩ u0).setCell ⟨W0.heap.size, 1, none⟩ u1).setCell ⟨W0.heap.size, 2, none⟩ u2).setCell ⟨W0.heap.size, 3, none⟩ u3).setCell ⟨W0.heap.size, 4, none⟩ u4).setCell ⟨W0.heap.size, 5, none⟩ u5).cell? ⟨w.heap.size, 0, none⟩ = some (.int .i64 a.x) ∧ ((((((V.setCell ⟨W0.heap.size, 0, none⟩ u0).setCell ⟨W0.heap.size, 1, none⟩ u1).setCell ⟨W0.heap.size, 2, none⟩ u2).setCell ⟨W0.heap.size, 3, none⟩ u3).setCell ⟨W0.heap.size, 4, none⟩ u4).setCell ⟨W0.heap.size, 5, none⟩ u5).cell? ⟨w.heap.size, 1, none⟩ = some (.int .i64 a.y) ∧ ((((((V.setCell ⟨W0.heap.size, 0, none⟩ u0).setCell ⟨W0.heap.size, 1, none⟩ u1).setCell ⟨W0.heap.size, 2, none⟩ u2).setCell ⟨W0.heap.size, 3, none⟩ u3).setCell ⟨W0.heap.size, 4, none⟩ u4).setCell ⟨W0.heap.size, 5, none⟩ u5).cell? ⟨w.heap.size, 2, none⟩ = some (.int .i64 b.x) ∧ ((((((V.setCell ⟨W0.heap.size, 0, none⟩ u0).setCell ⟨W0.heap.size, 1, none⟩ u1).setCell ⟨W0.heap.size, 2, none⟩ u2).setCell ⟨W0.heap.size, 3, none⟩ u3).setCell ⟨W0.heap.size, 4, none⟩ u4).setCell ⟨W0.heap.size, 5, none⟩ u5).cell? ⟨w.heap.size, 3, none⟩ = some (.int .i64 b.y)) ∧ (((((((V.setCell ⟨W0.heap.size, 0, none⟩ u0).setCell ⟨W0.heap.size, 1, none⟩ u1).setCell ⟨W0.heap.size, 2, none⟩ u2).setCell ⟨W0.heap.size, 3, none⟩ u3).setCell ⟨W0.heap.size, 4, none⟩ u4).setCell ⟨W0.heap.size, 5, none⟩ u5).cell? ⟨w3.heap.size, 0, none⟩ = some (.bool f.n) ∧ ((((((V.setCell ⟨W0.heap.size, 0, none⟩ u0).setCell ⟨W0.heap.size, 1, none⟩ u1).setCell ⟨W0.heap.size, 2, none⟩ u2).setCell ⟨W0.heap.size, 3, none⟩ u3).setCell ⟨W0.heap.size, 4, none⟩ u4).setCell ⟨W0.heap.size, 5, none⟩ u5).cell? ⟨w3.heap.size, 1, none⟩ = some (.slice f.A f.a.length f.c) ∧ ((((((V.setCell ⟨W0.heap.size, 0, none⟩ u0).setCell ⟨W0.heap.size, 1, none⟩ u1).setCell ⟨W0.heap.size, 2, none⟩ u2).setCell ⟨W0.heap.size, 3, none⟩ u3).setCell ⟨W0.heap.size, 4, none⟩ u4).setCell ⟨W0.heap.size, 5, none⟩ u5).cell? ⟨w3.heap.size, 2, none⟩ = some (.slice f.D f.d.length f.e)) from fun V hV u0 u1 u2 u3 u4 u5 => by
    have kS := (HK.out.1.below HB4.out.1 HK.out.1.lt).below hV (Nat.lt_of_lt_of_le HK.out.1.lt HB4.out.1.size)
    have h1 : w.heap.size ≠ W0.heap.size := by have := HK.out.2.2.2.1; omega
    have h2 : w3.heap.size ≠ W0.heap.size := by have := HB4.out.2; omega
    obtain ⟨l0, l1, l2, -⟩ := Blk.facts (Blk.off6 (HF.out.2.2.on hV) h2 u0 u1 u2 u3 u4 u5)
    exact ⟨Box.quad (Blk.off6 kS h1 u0 u1 u2 u3 u4 u5), l0, l1, l2⟩)
  have K0 : Below W4.heap.size W4 W4.drew := below_drewN (Below.refl _ _) 1
  go_region_held3 (fun w' => (w'.cell? ⟨w.heap.size, 0, none⟩ = some (.int .i64 a.x) ∧ w'.cell? ⟨w.heap.size, 1, none⟩ = some (.int .i64 a.y) ∧ w'.cell? ⟨w.heap.size, 2, none⟩ = some (.int .i64 b.x) ∧ w'.cell? ⟨w.heap.size, 3, none⟩ = some (.int .i64 b.y)) ∧ (w'.cell? ⟨w3.heap.size, 0, none⟩ = some (.bool f.n) ∧ w'.cell? ⟨w3.heap.size, 1, none⟩ = some (.slice f.A f.a.length f.c) ∧ w'.cell? ⟨w3.heap.size, 2, none⟩ = some (.slice f.D f.d.length f.e)))
    (first | (with_reducible exact HS.out _ K0) | (with_reducible exact HS.out _ K5) | (with_reducible exact HS.out _ K6) | (with_reducible exact HS.out _ K7) | (with_reducible exact HS6.out _ K7 _ _ _ _ _ _) | go_keep)
    ((first
      | (go_at_call 50; (with_reducible refine Calls.mono (CA.out _) ?_); rintro e w5 ⟨sA, rfl, rA, oA, eA, b5⟩; unfold spV; have K5 := below_next K0 (Nat.le_refl _) b5)
      | (go_at_call 50; (with_reducible refine Calls.mono (CB.out _) ?_); rintro e w6 ⟨sB, rfl, rB, oB, eB, b6⟩; unfold spV; have K6 := below_next K5 (Nat.le_refl _) b6)
      | (go_at_call 68; (with_reducible refine Calls.mono (CT.out sA sB f _ rA eA rB eB HF.out.1 (oA.on b6) oB (HF.out.2.1.on K6)) ?_); rintro e w7 ⟨sX, rfl, rX, oX, eX, b7⟩; unfold spV; have K7 := below_next K6 (Nat.le_refl _) b7; have kR := (HK.out.2.1.below HB4.out.1 HK.out.2.2.2.2.2).below K7 (Nat.lt_of_lt_of_le HK.out.2.2.2.2.2 HB4.out.1.size); obtain ⟨⟨i0, i1, i2, i3, i4, i5⟩, ⟨j0, j1, j2, j3, j4, j5⟩⟩ := Blk.facts6 kR)))
  obtain ⟨U, hU, ⟨u0, u1, u2, u3, u4, u5⟩, hG⟩ := fin_at (w := w) kR HK.out.2.2.2.2.1 (HK.out.2.2.1.trans ((HB4.out.1.trans (K7.mono HB4.out.1.size)).mono HK.out.2.2.1.size)) rX oX eX
  have HU := Lib.hid hU
  have HFF := Lib.hid (And.intro u0 (And.intro u1 (And.intro u2 (And.intro u3 (And.intro u4 u5)))))
  have HG := Lib.hid hG
  clear hU u0 u1 u2 u3 u4 u5 hG i0 i1 i2 i3 i4 i5 j0 j1 j2 j3 j4 j5 CA CB CT rA oA eA rB oB eB rX oX eX
  go_wp2_with fail
  unfold spV at HG
  rw [HU.out]
  obtain ⟨u0, u1, u2, u3, u4, u5⟩ := HFF.out
  exact bodyPost_ret (by simp [results, Tryz.results36, go_sem, u0, u1, u2, u3, u4, u5]) rfl HG.out
end Go.Proofs.YtdmoibphidipeaaGreatDoor
