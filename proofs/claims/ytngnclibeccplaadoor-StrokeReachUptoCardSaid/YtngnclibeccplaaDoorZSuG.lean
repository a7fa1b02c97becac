/- Lines as areas, the program's own: Tip. -/
import Derived.Test.YtngnclibeccplaaDoorZSuX
namespace Go.Proofs.YtngnclibeccplaaDoor
open Go.RowKit Num

theorem ahead_cap (a b : Pt) {h : Int} (hh : 0 ≤ h ∧ h ≤ 33554432) : aheadG a b h = addP a (capM a b h) := by
  unfold aheadG capM addP
  rw [if_pos hh]
theorem cap_back (a b : Pt) {h : Int} (hh : 0 ≤ h ∧ h ≤ 33554432) : subP (aheadG a b h) a = capM a b h := by
  rw [ahead_cap a b hh]
  obtain ⟨x, y⟩ := a
  generalize capM ⟨x, y⟩ b h = f
  obtain ⟨u, v⟩ := f
  unfold subP addP
  simp only [Pt.mk.injEq]
  omega
/-- the boxes of two points and a pen that came in -/
theorem tip_boxes (w : World) (a b : Pt) (d e f g h i : Value) : ∃ W, ((w.alloc (.cells #[.int .i64 a.x, .int .i64 a.y] 34)).alloc (.cells #[.int .i64 b.x, .int .i64 b.y] 34)).alloc (.cells #[d, e, f, g, h, i] 27) = W ∧ Box W w.heap.size 34 [.int .i64 a.x, .int .i64 a.y] ∧ Box W (w.heap.size + 1) 34 [.int .i64 b.x, .int .i64 b.y] ∧ Box W (w.heap.size + 2) 27 [d, e, f, g, h, i] ∧ Below w.heap.size w W := by
  obtain ⟨V, hV, k1, k2, bV, sV⟩ := two_boxes w a b
  rw [hV]
  have k4 := Box.at_new V 27 [d, e, f, g, h, i] (g := w.heap.size + 2) (by omega)
  exact ⟨_, rfl, k1.alloc _, k2.alloc _, k4, bV.alloc bV.size _⟩

set_option maxRecDepth 10000 in
set_option maxHeartbeats 12800000 in
theorem stroke_Tip (a b : Pt) (P : Pn) (B : Option Addr) (d : Nat) (w : World) (hS : Sxt w) (ha : FitP a) (hb : FitP b) (hP : RdV w w.heap.size B (icells P.dash)) (hpl : P.dash.length ≤ 1048576) (hd : P.dash.length ≤ d) (hok : PenOk P) :
    Calls Tryd.prog 22 #[ptV a, ptV b, penV P B d] w (PtsTo (tipM a b P) w) := by
  obtain ⟨W, hW, k1, k2, k4, bW⟩ := tip_boxes w a b (.int .i64 P.w) (.int .i64 P.cap) (.int .i64 P.join) (.int .i64 P.lim) (.slice B P.dash.length d) (.int .i64 P.phase)
  have hh := halfM_in hok
  have cH := fun V => stroke_half P B d V (by have := hok.1; unfold In64; omega)
  rw [show P.w.tdiv 2 = halfM P from Int.tdiv_eq_ediv_of_nonneg (by have := hok.1; omega)] at cH
  have cM := fun V (h : Below W.heap.size W V) => stroke_May P B d V ((hP.on bW).on h) hpl hd
  rw [decide_eq_true hok] at cM
  have cD := fun V (h : Below W.heap.size W V) => stroke_Disc b (halfM P) hb V ((hS.on bW).on h)
  have cN := fun V => gauge_Aside a b (halfM P) V
  have cA := fun V => gauge_Ahead a b (halfM P) (by unfold FitP at ha; omega) V
  have hn := aside_in (a := a) (b := b) (show 0 ≤ halfM P by omega)
  have hf := cap_in (a := a) (b := b) (show 0 ≤ halfM P by omega)
  have hA := ahead_cap a b (h := halfM P) (by omega)
  have hC := cap_back a b (h := halfM P) (by omega)
  unfold penV at cH cM ⊢
  have HK := Lib.hid (And.intro k1 (And.intro k2 (And.intro k4 bW)))
  have HC := Lib.hid (fun V (h : Below W.heap.size W V) => show Box V w.heap.size 34 [.int .i64 a.x, .int .i64 a.y] ∧ Box V (w.heap.size + 1) 34 [.int .i64 b.x, .int .i64 b.y] ∧ Box V (w.heap.size + 2) 27 [.int .i64 P.w, .int .i64 P.cap, .int .i64 P.join, .int .i64 P.lim, .slice B P.dash.length d, .int .i64 P.phase] ∧ Below w.heap.size w V from
    ⟨k1.below h k1.lt, k2.below h k2.lt, k4.below h k4.lt, bW.trans (h.mono bW.size)⟩)
  unfold tipM
  rw [if_pos hok]
  obtain ⟨h, hhe⟩ : ∃ h, halfM P = h := ⟨_, rfl⟩
  rw [hhe] at hh hn hf hA hC ⊢
  simp only [hhe] at cH cD cN cA
  obtain ⟨n, hne⟩ : ∃ n, asideG a b h = n := ⟨_, rfl⟩
  obtain ⟨f, hfe⟩ : ∃ f, capM a b h = f := ⟨_, rfl⟩
  rw [hne] at hn
  rw [hfe] at hf hA hC
  simp only [hne] at cN
  rw [hA] at hC
  simp only [hA] at cA
  rw [hne, hfe]
  obtain ⟨pw, pc, pj, pl, pd, pf⟩ := P
  dsimp only at *
  obtain ⟨np, hnp⟩ : ∃ np, pd.length = np := ⟨_, rfl⟩
  rw [hnp] at hW HC HK
  simp only [hnp] at cH cM
  rw [hnp]
  obtain ⟨q0, q1, q2, q3, q4, q5⟩ := Box.six HK.out.2.2.1
  have CH := Lib.hid cH
  have CM := Lib.hid cM
  have CD := Lib.hid cD
  have CN := Lib.hid cN
  clear cH cM cD cN k1 k2 k4 bW hok hP hpl hd hS hhe hne hfe hnp hA
  obtain ⟨⟨a0, a1⟩, -⟩ := Box.pair HK.out.1
  obtain ⟨⟨b0, b1⟩, -⟩ := Box.pair HK.out.2.1
  obtain ⟨⟨c0, c1⟩, -⟩ := Box.pair HK.out.2.1
  clear b0 b1
  obtain ⟨R, hR⟩ : ∃ R, (if pc = 2 then discM b h else if pc = 0 ∨ n = pt0 then [] else [subP b n, addP (subP b n) f, addP (addP b n) f, addP b n]) = R := ⟨_, rfl⟩
  rw [hR]
  by_cases hj : pc = 2
  · rw [if_pos hj] at hR
    subst hj
    simp only [hR] at CD
    clear hR cA hn hf hC
    unfold PtsTo at CD ⊢
    obtain ⟨ax, ay⟩ := a
    obtain ⟨bx, bY⟩ := b
    obtain ⟨nx, ny⟩ := n
    unfold ptV at *
    dsimp only at *
    go_enter Tryd.func22, Tryd.ntmps22
    go_wp2_with first
      | (rw [hW])
      | (go_at_call 20; (with_reducible refine Calls.mono (CH.out _) ?_); rintro e w1 ⟨rfl, b1⟩
         clear a0 a1 c0 c1 q0 q1 q2 q3 q4 q5
         obtain ⟨⟨a0, a1⟩, -⟩ := Box.pair (HC.out w1 b1).1
         obtain ⟨⟨c0, c1⟩, -⟩ := Box.pair (HC.out w1 b1).2.1
         have B1 := Lib.hid b1
         clear b1)
      | (go_at_call 30; (with_reducible refine Calls.mono (CN.out _) ?_); rintro e w2 ⟨rfl, b2⟩
         clear a0 a1 c0 c1
         obtain ⟨V2, hV2, k2, c2⟩ := endP w2 34 (.int .i64 nx) (.int .i64 ny)
         have B2 := Lib.hid (B1.out.trans ((b2.trans (c2.mono b2.size)).mono B1.out.size))
         obtain ⟨q0, q1, q2, q3, q4, q5⟩ := Box.six (HC.out V2 B2.out).2.2.1
         have N2 := Lib.hid k2
         clear b2 c2 k2)
      | (rw [hV2])
      | (go_at_call 8; (with_reducible refine Calls.mono (CM.out _ B2.out) ?_); rintro e w3 ⟨rfl, b3⟩
         clear q0 q1 q2 q3 q4 q5
         have B3 := Lib.hid (B2.out.trans (b3.mono B2.out.size))
         have N3 := Lib.hid (N2.out.below b3 N2.out.lt)
         obtain ⟨q0, q1, q2, q3, q4, q5⟩ := Box.six (HC.out w3 B3.out).2.2.1
         obtain ⟨⟨c0, c1⟩, -⟩ := Box.pair (HC.out w3 B3.out).2.1
         obtain ⟨⟨n0, n1⟩, -⟩ := Box.pair N3.out
         clear b3)
      | (go_at_call 33; (with_reducible refine Calls.mono (CD.out _ B3.out) ?_); rintro e w4 ⟨⟨q, k, rfl, hk, hq⟩, b4⟩
         have H4 := Lib.hid (And.intro hk (And.intro hq ((HC.out w3 B3.out).2.2.2.trans (b4.mono (HC.out w3 B3.out).2.2.2.size))))
         clear hk hq b4)
    go_ret
    exact ⟨⟨_, _, rfl, H4.out.1, H4.out.2.1⟩, H4.out.2.2⟩
  · rw [if_neg hj] at hR
    have hjb : (pc == 2) = false := by simpa using hj
    by_cases hj0 : pc = 0
    · rw [if_pos (.inl hj0)] at hR
      subst hj0 hR
      clear CD cA hn hf hC hj hjb
      obtain ⟨ax, ay⟩ := a
      obtain ⟨bx, bY⟩ := b
      obtain ⟨nx, ny⟩ := n
      unfold ptV at *
      dsimp only at *
      go_enter Tryd.func22, Tryd.ntmps22
      go_wp2_with first
      | (rw [hW])
      | (go_at_call 20; (with_reducible refine Calls.mono (CH.out _) ?_); rintro e w1 ⟨rfl, b1⟩
         clear a0 a1 c0 c1 q0 q1 q2 q3 q4 q5
         obtain ⟨⟨a0, a1⟩, -⟩ := Box.pair (HC.out w1 b1).1
         obtain ⟨⟨c0, c1⟩, -⟩ := Box.pair (HC.out w1 b1).2.1
         have B1 := Lib.hid b1
         clear b1)
      | (go_at_call 30; (with_reducible refine Calls.mono (CN.out _) ?_); rintro e w2 ⟨rfl, b2⟩
         clear a0 a1 c0 c1
         obtain ⟨V2, hV2, k2, c2⟩ := endP w2 34 (.int .i64 nx) (.int .i64 ny)
         have B2 := Lib.hid (B1.out.trans ((b2.trans (c2.mono b2.size)).mono B1.out.size))
         obtain ⟨q0, q1, q2, q3, q4, q5⟩ := Box.six (HC.out V2 B2.out).2.2.1
         have N2 := Lib.hid k2
         clear b2 c2 k2)
      | (rw [hV2])
      | (go_at_call 8; (with_reducible refine Calls.mono (CM.out _ B2.out) ?_); rintro e w3 ⟨rfl, b3⟩
         clear q0 q1 q2 q3 q4 q5
         have B3 := Lib.hid (B2.out.trans (b3.mono B2.out.size))
         have N3 := Lib.hid (N2.out.below b3 N2.out.lt)
         obtain ⟨q0, q1, q2, q3, q4, q5⟩ := Box.six (HC.out w3 B3.out).2.2.1
         obtain ⟨⟨c0, c1⟩, -⟩ := Box.pair (HC.out w3 B3.out).2.1
         obtain ⟨⟨n0, n1⟩, -⟩ := Box.pair N3.out
         clear b3)
      go_ret
      exact ⟨⟨none, 0, rfl, Nat.le_refl _, RdV.nil _ _ _⟩, (HC.out w3 B3.out).2.2.2⟩
    have hj0b : (pc == 0) = false := by simpa using hj0
    have hN : (n = pt0 ∧ R = []) ∨ (¬ n = pt0 ∧ R = [subP b n, addP (subP b n) f, addP (addP b n) f, addP b n]) := by
      by_cases h0 : n = pt0
      · rw [if_pos (.inr h0)] at hR
        exact .inl ⟨h0, hR.symm⟩
      · rw [if_neg (fun k => k.elim hj0 h0)] at hR
        exact .inr ⟨h0, hR.symm⟩
    obtain ⟨ax, ay⟩ := a
    obtain ⟨bx, bY⟩ := b
    obtain ⟨nx, ny⟩ := n
    obtain ⟨fx, fy⟩ := f
    unfold FitP at ha hb
    unfold OffP at hn hf
    have cL := fun V => stroke_less (addP ⟨ax, ay⟩ ⟨fx, fy⟩) ⟨ax, ay⟩ V (by unfold addP; dsimp only at *; omega) (by unfold addP; dsimp only at *; omega)
    have k1 := fun V => stroke_less ⟨bx, bY⟩ ⟨nx, ny⟩ V (by dsimp only at *; omega) (by dsimp only at *; omega)
    have k2 := fun V => stroke_plus (subP ⟨bx, bY⟩ ⟨nx, ny⟩) ⟨fx, fy⟩ V (by unfold subP; dsimp only at *; omega) (by unfold subP; dsimp only at *; omega)
    have k3 := fun V => stroke_plus ⟨bx, bY⟩ ⟨nx, ny⟩ V (by dsimp only at *; omega) (by dsimp only at *; omega)
    have k4 := fun V => stroke_plus (addP ⟨bx, bY⟩ ⟨nx, ny⟩) ⟨fx, fy⟩ V (by unfold addP; dsimp only at *; omega) (by unfold addP; dsimp only at *; omega)
    simp only [hC] at cL
    generalize addP ⟨ax, ay⟩ ⟨fx, fy⟩ = g at cL cA
    generalize addP (subP ⟨bx, bY⟩ ⟨nx, ny⟩) ⟨fx, fy⟩ = d2 at k2 hN
    generalize subP ⟨bx, bY⟩ ⟨nx, ny⟩ = d1 at k1 k2 hN
    generalize addP (addP ⟨bx, bY⟩ ⟨nx, ny⟩) ⟨fx, fy⟩ = d3 at k4 hN
    generalize addP ⟨bx, bY⟩ ⟨nx, ny⟩ = d4 at k3 k4 hN
    obtain ⟨gx, gy⟩ := g
    obtain ⟨d1x, d1y⟩ := d1
    obtain ⟨d2x, d2y⟩ := d2
    obtain ⟨d3x, d3y⟩ := d3
    obtain ⟨d4x, d4y⟩ := d4
    unfold ptV at *
    dsimp only at *
    have HN := Lib.hid hN
    have CA := Lib.hid cA
    have CL := Lib.hid cL
    have K1 := Lib.hid k1
    have K2 := Lib.hid k2
    have K3 := Lib.hid k3
    have K4 := Lib.hid k4
    clear CD hN hR cA hn hf hC cL k1 k2 k3 k4 ha hb hh
    go_enter Tryd.func22, Tryd.ntmps22
    go_upto_region 7 with first
      | (rw [hW])
      | (go_at_call 20; (with_reducible refine Calls.mono (CH.out _) ?_); rintro e w1 ⟨rfl, b1⟩
         clear a0 a1 c0 c1 q0 q1 q2 q3 q4 q5
         obtain ⟨⟨a0, a1⟩, -⟩ := Box.pair (HC.out w1 b1).1
         obtain ⟨⟨c0, c1⟩, -⟩ := Box.pair (HC.out w1 b1).2.1
         have B1 := Lib.hid b1
         clear b1)
      | (go_at_call 30; (with_reducible refine Calls.mono (CN.out _) ?_); rintro e w2 ⟨rfl, b2⟩
         clear a0 a1 c0 c1
         obtain ⟨V2, hV2, k2, c2⟩ := endP w2 34 (.int .i64 nx) (.int .i64 ny)
         have B2 := Lib.hid (B1.out.trans ((b2.trans (c2.mono b2.size)).mono B1.out.size))
         obtain ⟨q0, q1, q2, q3, q4, q5⟩ := Box.six (HC.out V2 B2.out).2.2.1
         have N2 := Lib.hid k2
         clear b2 c2 k2)
      | (rw [hV2])
      | (go_at_call 8; (with_reducible refine Calls.mono (CM.out _ B2.out) ?_); rintro e w3 ⟨rfl, b3⟩
         clear q0 q1 q2 q3 q4 q5
         have B3 := Lib.hid (B2.out.trans (b3.mono B2.out.size))
         have N3 := Lib.hid (N2.out.below b3 N2.out.lt)
         obtain ⟨q0, q1, q2, q3, q4, q5⟩ := Box.six (HC.out w3 B3.out).2.2.1
         obtain ⟨⟨c0, c1⟩, -⟩ := Box.pair (HC.out w3 B3.out).2.1
         obtain ⟨⟨n0, n1⟩, -⟩ := Box.pair N3.out
         clear b3)
    rcases HN.out with ⟨h1, rfl⟩ | ⟨h1, h2⟩
    · obtain ⟨rfl, rfl⟩ : nx = 0 ∧ ny = 0 := by simpa [pt0] using h1
      clear h1 HN
      go_wp2_with fail
      go_ret
      exact ⟨⟨none, 0, rfl, Nat.le_refl _, RdV.nil _ _ _⟩, (HC.out w3 B3.out).2.2.2⟩
    · have h3 : ¬ nx = 0 ∨ (nx = 0 ∧ ¬ ny = 0) := by
        by_cases e : nx = 0
        · exact .inr ⟨e, fun e2 => h1 (by rw [e, e2]; rfl)⟩
        · exact .inl e
      clear h1
      rcases h3 with h1 | ⟨rfl, h1⟩
      · have h1b : (nx == 0) = false := by simpa using h1
        clear HN
        go_wp2_with fail
        have G3 := Lib.hid (HC.out w3 B3.out)
        obtain ⟨⟨a0, a1⟩, -⟩ := Box.pair G3.out.1
        have HP0 := Lib.hid (show ((w3.drew.cell? ⟨w.heap.size, 0, none⟩ = some (.int .i64 ax) ∧ w3.drew.cell? ⟨w.heap.size, 1, none⟩ = some (.int .i64 ay)) ∧ (w3.drew.cell? ⟨w.heap.size + 1, 0, none⟩ = some (.int .i64 bx) ∧ w3.drew.cell? ⟨w.heap.size + 1, 1, none⟩ = some (.int .i64 bY)) ∧ (w3.drew.cell? ⟨w2.heap.size, 0, none⟩ = some (.int .i64 nx) ∧ w3.drew.cell? ⟨w2.heap.size, 1, none⟩ = some (.int .i64 ny))) ∧ Below w3.heap.size w3 w3.drew ∧ w3.heap.size ≤ w3.drew.heap.size from ⟨⟨⟨a0, a1⟩, ⟨c0, c1⟩, n0, n1⟩, (Below.refl _ _).drew, Nat.le_refl _⟩)
        have t1 := G3.out.1.lt
        have t2 := G3.out.2.1.lt
        have t3 := N3.out.lt
        have HSV := Lib.hid (fun V (hb : Below w3.heap.size w3 V) => tri_call (W := w3) t1 t2 t3 ⟨⟨⟨a0, a1⟩, ⟨c0, c1⟩, n0, n1⟩, Below.refl w3.heap.size w3, Nat.le_refl _⟩ hb)
        have HT := Lib.hid (And.intro t1 (And.intro t2 t3))
        clear q0 q1 q2 q3 q4 q5 a0 a1 c0 c1 n0 n1 t1 t2 t3 hj hjb hj0 hj0b hW hV2
        go_cut [9] from 10 to 58 (fun v9 wc => ∃ gf, v9 = .pointer (some ⟨gf, 0, none⟩) ∧ Box wc gf 34 [.int .i64 fx, .int .i64 fy] ∧ w3.heap.size ≤ gf ∧ Below w3.heap.size w3 wc)
        case first =>
          clear G3 HC B1 B2 B3 N2 N3 K1 K2 K3 K4 CH CM CN HK
          obtain ⟨t1, t2, t3⟩ := HT.out
          go_region_held3 (fun w' => ((w'.cell? ⟨w.heap.size, 0, none⟩ = some (.int .i64 ax) ∧ w'.cell? ⟨w.heap.size, 1, none⟩ = some (.int .i64 ay)) ∧ (w'.cell? ⟨w.heap.size + 1, 0, none⟩ = some (.int .i64 bx) ∧ w'.cell? ⟨w.heap.size + 1, 1, none⟩ = some (.int .i64 bY)) ∧ (w'.cell? ⟨w2.heap.size, 0, none⟩ = some (.int .i64 nx) ∧ w'.cell? ⟨w2.heap.size, 1, none⟩ = some (.int .i64 ny))) ∧ Below w3.heap.size w3 w' ∧ w3.heap.size ≤ w'.heap.size)
            (first
              | (with_reducible exact HP0.out)
              | (with_reducible exact tri_call t1 t2 t3 (by assumption) b10)
              | (with_reducible exact tri_call t1 t2 t3 (by assumption) b9)
              | (with_reducible exact tri_call t1 t2 t3 (by assumption) (below_new _ _))
              | (with_reducible exact tri_call t1 t2 t3 (by assumption) (below_new _ _).drew)
              | (with_reducible exact tri_call t1 t2 t3 HP0.out (below_new _ _))
              | (with_reducible exact HSV.out _ (SB.out.alloc SB.out.size _))
              | ((with_reducible refine tri_store t1 t2 t3 (by assumption) ?_ _ _); with_reducible first | exact Nat.le_refl _ | exact z9 | exact SB.out.size)
              | trace "KEEP")
            ((first
              | (go_at_call 36; (with_reducible refine Calls.mono (CA.out _) ?_); rintro e w9 ⟨rfl, b9⟩; (have z9 : w3.heap.size ≤ w9.heap.size := Nat.le_trans (lowZ (by assumption)) b9.size)
                 try (with_reducible have ka := fz1d b9))
              | (go_at_call 31; (with_reducible refine Calls.mono (CL.out _) ?_); rintro e w10 ⟨rfl, b10⟩; (have SB := Lib.hid ((lowS (by assumption)).trans (b10.mono (lowS (by assumption)).size)))
                 try first
                   | (with_reducible have kc := fz1 b10; obtain ⟨⟨x0, x1⟩, x2, x3⟩ := Box.pair kc)
                   | ((have kc := ka.below b10 (Box.lt ka)); obtain ⟨⟨x0, x1⟩, x2, x3⟩ := Box.pair kc))))
          all_goals
            rename_i hHeld
            have hB := hHeld.2.1
            go_wp2_with fail
            go_meet
            first
              | (with_reducible exact ⟨_, rfl, (kc.set 0 _).set 1 _, Nat.le_refl _, hB⟩)
              | (with_reducible exact ⟨_, rfl, (kc.set 0 _).set 1 _, z9, hB⟩)
              | (with_reducible exact ⟨_, rfl, Box.new _ _ [.int .i64 fx, .int .i64 fy], SB.out.size, hB⟩)
        case rest =>
          obtain ⟨gf, rfl, kf, hgf, hBf⟩ := hcut
          have BC := Lib.hid (B3.out.trans (hBf.mono B3.out.size))
          have G4 := Lib.hid (HC.out wc BC.out)
          have N4 := N3.out.below hBf N3.out.lt
          obtain ⟨⟨c0, c1⟩, -⟩ := Box.pair G4.out.2.1
          obtain ⟨⟨n0, n1⟩, -⟩ := Box.pair N4
          obtain ⟨⟨f0, f1⟩, -⟩ := Box.pair kf
          have HP4 := Lib.hid (show ((wc.drew.cell? ⟨w.heap.size + 1, 0, none⟩ = some (.int .i64 bx) ∧ wc.drew.cell? ⟨w.heap.size + 1, 1, none⟩ = some (.int .i64 bY)) ∧ (wc.drew.cell? ⟨w2.heap.size, 0, none⟩ = some (.int .i64 nx) ∧ wc.drew.cell? ⟨w2.heap.size, 1, none⟩ = some (.int .i64 ny)) ∧ (wc.drew.cell? ⟨gf, 0, none⟩ = some (.int .i64 fx) ∧ wc.drew.cell? ⟨gf, 1, none⟩ = some (.int .i64 fy))) ∧ Below wc.heap.size wc wc.drew ∧ wc.heap.size ≤ wc.drew.heap.size from ⟨⟨⟨c0, c1⟩, ⟨n0, n1⟩, f0, f1⟩, (Below.refl _ _).drew, Nat.le_refl _⟩)
          have t1 := G4.out.2.1.lt
          have t2 := N4.lt
          have t3 := kf.lt
          have HR4 := Lib.hid (fun U => four_row U ⟨d1x, d1y⟩ ⟨d2x, d2y⟩ ⟨d3x, d3y⟩ ⟨d4x, d4y⟩)
          dsimp only at HR4
          subst h2
          clear CH CM CN CA CL B1 B2 B3 N2 N3 HSV HT HP0 HK G3 kf N4 hgf hBf h1 h1b
          go_wp2_with fail
          go_region_held3 (fun w' => ((w'.cell? ⟨w.heap.size + 1, 0, none⟩ = some (.int .i64 bx) ∧ w'.cell? ⟨w.heap.size + 1, 1, none⟩ = some (.int .i64 bY)) ∧ (w'.cell? ⟨w2.heap.size, 0, none⟩ = some (.int .i64 nx) ∧ w'.cell? ⟨w2.heap.size, 1, none⟩ = some (.int .i64 ny)) ∧ (w'.cell? ⟨gf, 0, none⟩ = some (.int .i64 fx) ∧ w'.cell? ⟨gf, 1, none⟩ = some (.int .i64 fy))) ∧ Below wc.heap.size wc w' ∧ wc.heap.size ≤ w'.heap.size)
            (first
              | (with_reducible exact HP4.out)
              | (with_reducible exact tri_call t1 t2 t3 (by assumption) b20)
              | (with_reducible exact tri_call t1 t2 t3 (by assumption) (below_new _ _)))
            ((first
              | (go_at_call 31; (with_reducible refine Calls.mono (K1.out _) ?_); rintro e w20 ⟨rfl, b20⟩)
              | (go_at_call 32; (with_reducible refine Calls.mono (K2.out _) ?_); rintro e w20 ⟨rfl, b20⟩)
              | (go_at_call 32; (with_reducible refine Calls.mono (K3.out _) ?_); rintro e w20 ⟨rfl, b20⟩)
              | (go_at_call 32; (with_reducible refine Calls.mono (K4.out _) ?_); rintro e w20 ⟨rfl, b20⟩)))
          rename_i hHeld
          obtain ⟨U, hU, kU, bU⟩ := HR4.out w20
          rw [hU] at hHeld ⊢
          have HE := Lib.hid (And.intro kU.rd (G4.out.2.2.2.trans (hHeld.2.1.mono G4.out.2.2.2.size)))
          clear kU bU hHeld
          go_wp2_with fail
          go_ret
          exact ⟨⟨_, _, rfl, Nat.le_refl _, HE.out.1⟩, HE.out.2⟩
      · have h1b : (ny == 0) = false := by simpa using h1
        clear HN
        go_wp2_with fail
        have G3 := Lib.hid (HC.out w3 B3.out)
        obtain ⟨⟨a0, a1⟩, -⟩ := Box.pair G3.out.1
        have HP0 := Lib.hid (show ((w3.drew.cell? ⟨w.heap.size, 0, none⟩ = some (.int .i64 ax) ∧ w3.drew.cell? ⟨w.heap.size, 1, none⟩ = some (.int .i64 ay)) ∧ (w3.drew.cell? ⟨w.heap.size + 1, 0, none⟩ = some (.int .i64 bx) ∧ w3.drew.cell? ⟨w.heap.size + 1, 1, none⟩ = some (.int .i64 bY)) ∧ (w3.drew.cell? ⟨w2.heap.size, 0, none⟩ = some (.int .i64 0) ∧ w3.drew.cell? ⟨w2.heap.size, 1, none⟩ = some (.int .i64 ny))) ∧ Below w3.heap.size w3 w3.drew ∧ w3.heap.size ≤ w3.drew.heap.size from ⟨⟨⟨a0, a1⟩, ⟨c0, c1⟩, n0, n1⟩, (Below.refl _ _).drew, Nat.le_refl _⟩)
        have t1 := G3.out.1.lt
        have t2 := G3.out.2.1.lt
        have t3 := N3.out.lt
        have HSV := Lib.hid (fun V (hb : Below w3.heap.size w3 V) => tri_call (W := w3) t1 t2 t3 ⟨⟨⟨a0, a1⟩, ⟨c0, c1⟩, n0, n1⟩, Below.refl w3.heap.size w3, Nat.le_refl _⟩ hb)
        have HT := Lib.hid (And.intro t1 (And.intro t2 t3))
        clear q0 q1 q2 q3 q4 q5 a0 a1 c0 c1 n0 n1 t1 t2 t3 hj hjb hj0 hj0b hW hV2
        go_cut [9] from 10 to 58 (fun v9 wc => ∃ gf, v9 = .pointer (some ⟨gf, 0, none⟩) ∧ Box wc gf 34 [.int .i64 fx, .int .i64 fy] ∧ w3.heap.size ≤ gf ∧ Below w3.heap.size w3 wc)
        case first =>
          clear G3 HC B1 B2 B3 N2 N3 K1 K2 K3 K4 CH CM CN HK
          obtain ⟨t1, t2, t3⟩ := HT.out
          go_region_held3 (fun w' => ((w'.cell? ⟨w.heap.size, 0, none⟩ = some (.int .i64 ax) ∧ w'.cell? ⟨w.heap.size, 1, none⟩ = some (.int .i64 ay)) ∧ (w'.cell? ⟨w.heap.size + 1, 0, none⟩ = some (.int .i64 bx) ∧ w'.cell? ⟨w.heap.size + 1, 1, none⟩ = some (.int .i64 bY)) ∧ (w'.cell? ⟨w2.heap.size, 0, none⟩ = some (.int .i64 0) ∧ w'.cell? ⟨w2.heap.size, 1, none⟩ = some (.int .i64 ny))) ∧ Below w3.heap.size w3 w' ∧ w3.heap.size ≤ w'.heap.size)
            (first
              | (with_reducible exact HP0.out)
              | (with_reducible exact tri_call t1 t2 t3 (by assumption) b10)
              | (with_reducible exact tri_call t1 t2 t3 (by assumption) b9)
              | (with_reducible exact tri_call t1 t2 t3 (by assumption) (below_new _ _))
              | (with_reducible exact tri_call t1 t2 t3 (by assumption) (below_new _ _).drew)
              | (with_reducible exact tri_call t1 t2 t3 HP0.out (below_new _ _))
              | (with_reducible exact HSV.out _ (SB.out.alloc SB.out.size _))
              | ((with_reducible refine tri_store t1 t2 t3 (by assumption) ?_ _ _); with_reducible first | exact Nat.le_refl _ | exact z9 | exact SB.out.size)
              | trace "KEEP")
            ((first
              | (go_at_call 36; (with_reducible refine Calls.mono (CA.out _) ?_); rintro e w9 ⟨rfl, b9⟩; (have z9 : w3.heap.size ≤ w9.heap.size := Nat.le_trans (lowZ (by assumption)) b9.size)
                 try (with_reducible have ka := fz1d b9))
              | (go_at_call 31; (with_reducible refine Calls.mono (CL.out _) ?_); rintro e w10 ⟨rfl, b10⟩; (have SB := Lib.hid ((lowS (by assumption)).trans (b10.mono (lowS (by assumption)).size)))
                 try first
                   | (with_reducible have kc := fz1 b10; obtain ⟨⟨x0, x1⟩, x2, x3⟩ := Box.pair kc)
                   | ((have kc := ka.below b10 (Box.lt ka)); obtain ⟨⟨x0, x1⟩, x2, x3⟩ := Box.pair kc))))
          all_goals
            rename_i hHeld
            have hB := hHeld.2.1
            go_wp2_with fail
            go_meet
            first
              | (with_reducible exact ⟨_, rfl, (kc.set 0 _).set 1 _, Nat.le_refl _, hB⟩)
              | (with_reducible exact ⟨_, rfl, (kc.set 0 _).set 1 _, z9, hB⟩)
              | (with_reducible exact ⟨_, rfl, Box.new _ _ [.int .i64 fx, .int .i64 fy], SB.out.size, hB⟩)
        case rest =>
          obtain ⟨gf, rfl, kf, hgf, hBf⟩ := hcut
          have BC := Lib.hid (B3.out.trans (hBf.mono B3.out.size))
          have G4 := Lib.hid (HC.out wc BC.out)
          have N4 := N3.out.below hBf N3.out.lt
          obtain ⟨⟨c0, c1⟩, -⟩ := Box.pair G4.out.2.1
          obtain ⟨⟨n0, n1⟩, -⟩ := Box.pair N4
          obtain ⟨⟨f0, f1⟩, -⟩ := Box.pair kf
          have HP4 := Lib.hid (show ((wc.drew.cell? ⟨w.heap.size + 1, 0, none⟩ = some (.int .i64 bx) ∧ wc.drew.cell? ⟨w.heap.size + 1, 1, none⟩ = some (.int .i64 bY)) ∧ (wc.drew.cell? ⟨w2.heap.size, 0, none⟩ = some (.int .i64 0) ∧ wc.drew.cell? ⟨w2.heap.size, 1, none⟩ = some (.int .i64 ny)) ∧ (wc.drew.cell? ⟨gf, 0, none⟩ = some (.int .i64 fx) ∧ wc.drew.cell? ⟨gf, 1, none⟩ = some (.int .i64 fy))) ∧ Below wc.heap.size wc wc.drew ∧ wc.heap.size ≤ wc.drew.heap.size from ⟨⟨⟨c0, c1⟩, ⟨n0, n1⟩, f0, f1⟩, (Below.refl _ _).drew, Nat.le_refl _⟩)
          have t1 := G4.out.2.1.lt
          have t2 := N4.lt
          have t3 := kf.lt
          have HR4 := Lib.hid (fun U => four_row U ⟨d1x, d1y⟩ ⟨d2x, d2y⟩ ⟨d3x, d3y⟩ ⟨d4x, d4y⟩)
          dsimp only at HR4
          subst h2
          clear CH CM CN CA CL B1 B2 B3 N2 N3 HSV HT HP0 HK G3 kf N4 hgf hBf h1 h1b
          go_wp2_with fail
          go_region_held3 (fun w' => ((w'.cell? ⟨w.heap.size + 1, 0, none⟩ = some (.int .i64 bx) ∧ w'.cell? ⟨w.heap.size + 1, 1, none⟩ = some (.int .i64 bY)) ∧ (w'.cell? ⟨w2.heap.size, 0, none⟩ = some (.int .i64 0) ∧ w'.cell? ⟨w2.heap.size, 1, none⟩ = some (.int .i64 ny)) ∧ (w'.cell? ⟨gf, 0, none⟩ = some (.int .i64 fx) ∧ w'.cell? ⟨gf, 1, none⟩ = some (.int .i64 fy))) ∧ Below wc.heap.size wc w' ∧ wc.heap.size ≤ w'.heap.size)
            (first
              | (with_reducible exact HP4.out)
              | (with_reducible exact tri_call t1 t2 t3 (by assumption) b20)
              | (with_reducible exact tri_call t1 t2 t3 (by assumption) (below_new _ _)))
            ((first
              | (go_at_call 31; (with_reducible refine Calls.mono (K1.out _) ?_); rintro e w20 ⟨rfl, b20⟩)
              | (go_at_call 32; (with_reducible refine Calls.mono (K2.out _) ?_); rintro e w20 ⟨rfl, b20⟩)
              | (go_at_call 32; (with_reducible refine Calls.mono (K3.out _) ?_); rintro e w20 ⟨rfl, b20⟩)
              | (go_at_call 32; (with_reducible refine Calls.mono (K4.out _) ?_); rintro e w20 ⟨rfl, b20⟩)))
          rename_i hHeld
          obtain ⟨U, hU, kU, bU⟩ := HR4.out w20
          rw [hU] at hHeld ⊢
          have HE := Lib.hid (And.intro kU.rd (G4.out.2.2.2.trans (hHeld.2.1.mono G4.out.2.2.2.size)))
          clear kU bU hHeld
          go_wp2_with fail
          go_ret
          exact ⟨⟨_, _, rfl, Nat.le_refl _, HE.out.1⟩, HE.out.2⟩
end Go.Proofs.YtngnclibeccplaaDoor
