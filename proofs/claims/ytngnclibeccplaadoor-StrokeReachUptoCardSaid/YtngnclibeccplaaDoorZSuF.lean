/- Lines as areas, the program's own: Corner. -/
import Derived.Test.YtngnclibeccplaaDoorZSuX
import Derived.Test.YtngnclibeccplaaDoorZSpF
import Derived.Test.YtngnclibeccplaaDoorZOaJ
namespace Go.Proofs.YtngnclibeccplaaDoor
open Go.RowKit Num

/-- what is put between two ways lies in the law's own words -/
theorem det_cr (a p b : Pt) : det a.x a.y p.x p.y b.x b.y 1 1 1 1 1 1 = crG a p b := by
  unfold det crG
  simp
theorem corner_turns (a p b : Pt) (ha : FitP a) (hp : FitP p) (hb : FitP b) (w : World) :
    Calls Tryd.prog 34 #[ptV a, ptV p, ptV b] w fun e w' => e = .returned (.int .i64 (sgn (crG a p b))) ∧ Below w.heap.size w w' := by
  have h := spot_Turns a.x a.y p.x p.y b.x b.y (sgn (crG a p b)) (by rw [det_cr]) w
  unfold FitP at ha hp hb
  unfold In at h
  exact h (by omega) (by omega) (by omega) (by omega) (by omega) (by omega)
/-- the boxes of three points and a pen that came in -/
theorem corner_boxes (w : World) (a b c : Pt) (d e f g h i : Value) : ∃ W, (((w.alloc (.cells #[.int .i64 a.x, .int .i64 a.y] 34)).alloc (.cells #[.int .i64 b.x, .int .i64 b.y] 34)).alloc (.cells #[.int .i64 c.x, .int .i64 c.y] 34)).alloc (.cells #[d, e, f, g, h, i] 27) = W ∧ Box W w.heap.size 34 [.int .i64 a.x, .int .i64 a.y] ∧ Box W (w.heap.size + 1) 34 [.int .i64 b.x, .int .i64 b.y] ∧ Box W (w.heap.size + 2) 34 [.int .i64 c.x, .int .i64 c.y] ∧ Box W (w.heap.size + 3) 27 [d, e, f, g, h, i] ∧ Below w.heap.size w W := by
  obtain ⟨V, hV, k1, k2, bV, sV⟩ := two_boxes w a b
  rw [hV]
  have k3 := Box.at_new V 34 [.int .i64 c.x, .int .i64 c.y] (g := w.heap.size + 2) (by omega)
  have k4 := Box.at_new (V.alloc (.cells #[.int .i64 c.x, .int .i64 c.y] 34)) 27 [d, e, f, g, h, i] (g := w.heap.size + 3) (by simp; omega)
  exact ⟨_, rfl, (k1.alloc _).alloc _, (k2.alloc _).alloc _, k3.alloc _, k4, (bV.alloc bV.size _).alloc (by have := bV.size; simp; omega) _⟩

set_option maxRecDepth 10000 in
set_option maxHeartbeats 12800000 in
theorem stroke_Corner (a p b : Pt) (P : Pn) (B : Option Addr) (d : Nat) (w : World) (hS : Sxt w) (ha : FitP a) (hp : FitP p) (hb : FitP b) (hP : RdV w w.heap.size B (icells P.dash)) (hpl : P.dash.length ≤ 1048576) (hd : P.dash.length ≤ d) (hok : PenOk P) :
    Calls Tryd.prog 21 #[ptV a, ptV p, ptV b, penV P B d] w (PtsTo (cornerM a p b P) w) := by
  obtain ⟨W, hW, k1, k2, k3, k4, bW⟩ := corner_boxes w a p b (.int .i64 P.w) (.int .i64 P.cap) (.int .i64 P.join) (.int .i64 P.lim) (.slice B P.dash.length d) (.int .i64 P.phase)
  have hh := halfM_in hok
  have hlm := hok.2.2.2.1
  have cH := fun V => stroke_half P B d V (by have := hok.1; unfold In64; omega)
  rw [show P.w.tdiv 2 = halfM P from Int.tdiv_eq_ediv_of_nonneg (by have := hok.1; omega)] at cH
  have cM := fun V (h : Below W.heap.size W V) => stroke_May P B d V ((hP.on bW).on h) hpl hd
  rw [decide_eq_true hok] at cM
  have cD := fun V (h : Below W.heap.size W V) => stroke_Disc p (halfM P) hp V ((hS.on bW).on h)
  have cN := fun V => gauge_Aside a p (halfM P) V
  have cQ := fun V => gauge_Aside p b (halfM P) V
  have cT := fun V => corner_turns a p b ha hp hb V
  have hn := aside_in (a := a) (b := p) (show 0 ≤ halfM P by omega)
  have hm := aside_in (a := p) (b := b) (show 0 ≤ halfM P by omega)
  unfold penV at cH cM ⊢
  have HK := Lib.hid (And.intro k1 (And.intro k2 (And.intro k3 (And.intro k4 bW))))
  have HC := Lib.hid (fun V (h : Below W.heap.size W V) => show Box V w.heap.size 34 [.int .i64 a.x, .int .i64 a.y] ∧ Box V (w.heap.size + 1) 34 [.int .i64 p.x, .int .i64 p.y] ∧ Box V (w.heap.size + 2) 34 [.int .i64 b.x, .int .i64 b.y] ∧ Box V (w.heap.size + 3) 27 [.int .i64 P.w, .int .i64 P.cap, .int .i64 P.join, .int .i64 P.lim, .slice B P.dash.length d, .int .i64 P.phase] ∧ Below w.heap.size w V from
    ⟨k1.below h k1.lt, k2.below h k2.lt, k3.below h k3.lt, k4.below h k4.lt, bW.trans (h.mono bW.size)⟩)
  unfold cornerM
  rw [if_pos hok]
  unfold wedgeM
  obtain ⟨h, hhe⟩ : ∃ h, halfM P = h := ⟨_, rfl⟩
  rw [hhe] at hh hn hm ⊢
  simp only [hhe] at cH cD cN cQ
  obtain ⟨n, hne⟩ : ∃ n, asideG a p h = n := ⟨_, rfl⟩
  obtain ⟨m, hme⟩ : ∃ m, asideG p b h = m := ⟨_, rfl⟩
  rw [hne] at hn
  rw [hme] at hm
  simp only [hne] at cN
  simp only [hme] at cQ
  rw [hne, hme]
  obtain ⟨pw, pc, pj, pl, pd, pf⟩ := P
  dsimp only at *
  obtain ⟨np, hnp⟩ : ∃ np, pd.length = np := ⟨_, rfl⟩
  rw [hnp] at hW HC HK
  simp only [hnp] at cH cM
  rw [hnp]
  obtain ⟨q0, q1, q2, q3, q4, q5⟩ := Box.six HK.out.2.2.2.1
  have CH := Lib.hid cH
  have CM := Lib.hid cM
  have CD := Lib.hid cD
  have HFP := Lib.hid hp
  clear cH cM cD k1 k2 k3 k4 bW hok hP hpl hd hS hhe hne hme hnp
  by_cases hj : pj = 2
  · rw [if_pos hj]
    subst hj
    obtain ⟨⟨p0, p1⟩, -⟩ := Box.pair HK.out.2.1
    unfold PtsTo at CD ⊢
    generalize discM p h = D at CD ⊢
    clear cN cQ cT hn hm
    obtain ⟨ax, ay⟩ := a
    obtain ⟨px, py⟩ := p
    obtain ⟨bx, bY⟩ := b
    unfold ptV at *
    dsimp only at *
    go_enter Tryd.func21, Tryd.ntmps21
    go_wp2_with first
      | (rw [hW])
      | (go_at_call 20; (with_reducible refine Calls.mono (CH.out _) ?_); rintro e w1 ⟨rfl, b1⟩
         have G1 := Lib.hid (HC.out w1 b1)
         have B1 := Lib.hid b1
         obtain ⟨q0, q1, q2, q3, q4, q5⟩ := Box.six G1.out.2.2.2.1
         clear b1)
      | (go_at_call 8; (with_reducible refine Calls.mono (CM.out _ B1.out) ?_); rintro e w2 ⟨rfl, b2⟩
         have B2 := Lib.hid (B1.out.trans (b2.mono B1.out.size))
         have G2 := Lib.hid (HC.out w2 B2.out)
         obtain ⟨q0, q1, q2, q3, q4, q5⟩ := Box.six G2.out.2.2.2.1
         obtain ⟨⟨p0, p1⟩, -⟩ := Box.pair G2.out.2.1
         clear b2)
      | (go_at_call 33; (with_reducible refine Calls.mono (CD.out _ B2.out) ?_); rintro e w3 ⟨⟨q, k, rfl, hk, hq⟩, b3⟩
         have H3 := Lib.hid (And.intro hk (And.intro hq (G2.out.2.2.2.2.trans (b3.mono G2.out.2.2.2.2.size))))
         clear hk hq b3)
    go_ret
    exact ⟨⟨_, _, rfl, H3.out.1, H3.out.2.1⟩, H3.out.2.2⟩
  · rw [if_neg hj]
    have hjb : (pj == 2) = false := by simpa using hj
    obtain ⟨R, hR⟩ : ∃ R, (if crG a p b = 0 then [] else if pj = 1 ∧ 131072 * h * h ≤ pl * pl * byM h (sideM a p b n) (sideM a p b m) then [p, addP p (sideM a p b n), addP p (spikeM h (sideM a p b n) (sideM a p b m)), addP p (sideM a p b m)] else [p, addP p (sideM a p b n), addP p (sideM a p b m)]) = R := ⟨_, rfl⟩
    rw [hR]
    unfold sideM at hR
    obtain ⟨C, hC⟩ : ∃ C, crG a p b = C := ⟨_, rfl⟩
    rw [hC] at hR
    simp only [hC] at cT
    have HR := Lib.hid hR
    clear hR hC
    have HN := Lib.hid hn
    have HM := Lib.hid hm
    have CN := Lib.hid cN
    have CQ := Lib.hid cQ
    have CT := Lib.hid cT
    obtain ⟨nx, ny⟩ := n
    obtain ⟨mx, my⟩ := m
    clear cN cQ cT hn hm CD
    obtain ⟨⟨p0, p1⟩, -⟩ := Box.pair HK.out.2.1
    obtain ⟨ax, ay⟩ := a
    obtain ⟨px, py⟩ := p
    obtain ⟨bx, bY⟩ := b
    unfold ptV at CN CQ CT ⊢
    dsimp only at HK HC CN CQ CT hW p0 p1 ⊢
    go_enter Tryd.func21, Tryd.ntmps21
    go_wp2_with first
      | (rw [hW])
      | (go_at_call 20; (with_reducible refine Calls.mono (CH.out _) ?_); rintro e w1 ⟨rfl, b1⟩
         have G1 := Lib.hid (HC.out w1 b1)
         have B1 := Lib.hid b1
         clear b1 q0 q1 q2 q3 q4 q5 p0 p1
         obtain ⟨q0, q1, q2, q3, q4, q5⟩ := Box.six G1.out.2.2.2.1)
      | (go_at_call 8; (with_reducible refine Calls.mono (CM.out _ B1.out) ?_); rintro e w2 ⟨rfl, b2⟩
         have B2 := Lib.hid (B1.out.trans (b2.mono B1.out.size))
         have G2 := Lib.hid (HC.out w2 B2.out)
         clear b2 q0 q1 q2 q3 q4 q5
         obtain ⟨q0, q1, q2, q3, q4, q5⟩ := Box.six G2.out.2.2.2.1)
    obtain ⟨⟨a0, a1⟩, -⟩ := Box.pair G2.out.1
    obtain ⟨⟨p0, p1⟩, -⟩ := Box.pair G2.out.2.1
    obtain ⟨⟨b0, b1⟩, -⟩ := Box.pair G2.out.2.2.1
    have l1 := G2.out.1.lt
    have l2 := G2.out.2.1.lt
    have l3 := G2.out.2.2.1.lt
    have HL := Lib.hid (And.intro l1 (And.intro l2 l3))
    have HP0 := Lib.hid (show ((w2.drew.cell? ⟨w.heap.size, 0, none⟩ = some (.int .i64 ax) ∧ w2.drew.cell? ⟨w.heap.size, 1, none⟩ = some (.int .i64 ay)) ∧ (w2.drew.cell? ⟨w.heap.size + 1, 0, none⟩ = some (.int .i64 px) ∧ w2.drew.cell? ⟨w.heap.size + 1, 1, none⟩ = some (.int .i64 py)) ∧ (w2.drew.cell? ⟨w.heap.size + 2, 0, none⟩ = some (.int .i64 bx) ∧ w2.drew.cell? ⟨w.heap.size + 2, 1, none⟩ = some (.int .i64 bY))) ∧ Below w2.heap.size w2 w2.drew ∧ w2.heap.size ≤ w2.drew.heap.size from ⟨⟨⟨a0, a1⟩, ⟨p0, p1⟩, b0, b1⟩, (Below.refl _ _).drew, Nat.le_refl _⟩)
    clear l1 l2 l3 q0 q1 q2 q3 q4 q5
    go_cut [10, 11] from 15 to 81 (fun v10 v11 wc => TwoB w2 34 (.int .i64 nx) (.int .i64 ny) (.int .i64 mx) (.int .i64 my) v10 v11 wc)
    case first =>
      obtain ⟨t1, t2, t3⟩ := HL.out
      have HSV := Lib.hid (fun V (hb : Below w2.heap.size w2 V) => tri_call (W := w2) t1 t2 t3 ⟨⟨⟨a0, a1⟩, ⟨p0, p1⟩, b0, b1⟩, Below.refl w2.heap.size w2, Nat.le_refl _⟩ hb)
      clear CH CM CT HC HM HN hj hjb HFP HR G1 B1 G2 B2 HL HK hW a0 a1 p0 p1 b0 b1 ha hp hb hh hlm w1
      go_region_held3 (fun w' => (((w'.cell? ⟨w.heap.size, 0, none⟩ = some (.int .i64 ax) ∧ w'.cell? ⟨w.heap.size, 1, none⟩ = some (.int .i64 ay)) ∧ (w'.cell? ⟨w.heap.size + 1, 0, none⟩ = some (.int .i64 px) ∧ w'.cell? ⟨w.heap.size + 1, 1, none⟩ = some (.int .i64 py)) ∧ (w'.cell? ⟨w.heap.size + 2, 0, none⟩ = some (.int .i64 bx) ∧ w'.cell? ⟨w.heap.size + 2, 1, none⟩ = some (.int .i64 bY))) ∧ Below w2.heap.size w2 w' ∧ w2.heap.size ≤ w'.heap.size))
        (first
          | (with_reducible exact HP0.out)
          | (with_reducible exact tri_call t1 t2 t3 (by assumption) b10)
          | (with_reducible exact tri_call t1 t2 t3 (by assumption) b9)
          | (with_reducible exact tri_call t1 t2 t3 (by assumption) (below_new _ _))
          | (with_reducible exact tri_call t1 t2 t3 (by assumption) (below_new _ _).drew)
          | (with_reducible exact tri_call t1 t2 t3 HP0.out (below_new _ _))
          | (with_reducible exact tri_call t1 t2 t3 (tri_call t1 t2 t3 (by assumption) (below_new _ _)) (below_new _ _))
          | (with_reducible exact HSV.out _ ((SB.out.alloc SB.out.size _).alloc (Nat.le_trans SB.out.size (by simp)) _))
          | (with_reducible exact HSV.out _ (SB.out.alloc SB.out.size _))
          | ((with_reducible refine tri_store t1 t2 t3 (by assumption) ?_ _ _); with_reducible first | exact Nat.le_refl _ | exact Nat.le_succ _ | exact z9 | exact Nat.le_succ_of_le z9 | exact SB.out.size | exact Nat.le_succ_of_le SB.out.size)
          | trace "KEEP")
        ((first
          | (go_at_call 30; (with_reducible refine Calls.mono (CN.out _) ?_); rintro e w9 ⟨rfl, b9⟩; (have z9 : w2.heap.size ≤ w9.heap.size := Nat.le_trans (lowZ (by assumption)) b9.size); (have s9 := b9.size); (try simp at s9)
             try first
               | (with_reducible have kab := fz2d b9; obtain ⟨ka, kb⟩ := kab)
               | (with_reducible have ka := fz1d b9))
          | (go_at_call 30; (with_reducible refine Calls.mono (CQ.out _) ?_); rintro e w10 ⟨rfl, b10⟩; (have SB := Lib.hid ((lowS (by assumption)).trans (b10.mono (lowS (by assumption)).size))); (have s10 := b10.size); (try simp at s10)
             try first
               | (with_reducible have kcd := fz2 b10; obtain ⟨kc, kd⟩ := kcd; (have ncd := Nat.ne_of_lt (Nat.lt_succ_self w9.heap.size)); (obtain ⟨f1, f2, f3, f4⟩ := facts_two (x := .int .i64 nx) (y := .int .i64 ny) kc kd ncd); (obtain ⟨⟨x0, x1⟩, x2, x3⟩ := Box.pair f1); (obtain ⟨⟨y0, y1⟩, y2, y3⟩ := Box.pair f2); (obtain ⟨⟨z0, z1⟩, z2, z3⟩ := Box.pair f3); (obtain ⟨⟨v0, v1⟩, v2, v3⟩ := Box.pair f4); clear f1 f2 f3 f4)
               | (with_reducible have kcd := facts_mid ka b10; obtain ⟨kc, kd, ncd⟩ := kcd; (obtain ⟨f1, f2, f3, f4⟩ := facts_two (x := .int .i64 nx) (y := .int .i64 ny) kc kd ncd); (obtain ⟨⟨x0, x1⟩, x2, x3⟩ := Box.pair f1); (obtain ⟨⟨y0, y1⟩, y2, y3⟩ := Box.pair f2); (obtain ⟨⟨z0, z1⟩, z2, z3⟩ := Box.pair f3); (obtain ⟨⟨v0, v1⟩, v2, v3⟩ := Box.pair f4); clear f1 f2 f3 f4)
               | (with_reducible have kc := fz1 b10; (obtain ⟨f1, f2, f3, f4⟩ := facts_one (x := .int .i64 nx) (y := .int .i64 ny) (z0 := .int .i64 0) (u0 := .int .i64 0) kc); (obtain ⟨⟨x0, x1⟩, x2, x3⟩ := Box.pair f1); (obtain ⟨⟨y0, y1⟩, y2, y3⟩ := Box.pair f2); (obtain ⟨⟨z0, z1⟩, z2, z3⟩ := Box.pair f3); (obtain ⟨⟨v0, v1⟩, v2, v3⟩ := Box.pair f4); clear f1 f2 f3 f4)
               | ((have kc := ka.below b10 (Box.lt ka)); (have kd := kb.below b10 (Box.lt kb)); (have ncd := Nat.ne_of_lt (Nat.lt_succ_self w2.heap.size)); (obtain ⟨f1, f2, f3, f4⟩ := facts_two (x := .int .i64 nx) (y := .int .i64 ny) kc kd ncd); (obtain ⟨⟨x0, x1⟩, x2, x3⟩ := Box.pair f1); (obtain ⟨⟨y0, y1⟩, y2, y3⟩ := Box.pair f2); (obtain ⟨⟨z0, z1⟩, z2, z3⟩ := Box.pair f3); (obtain ⟨⟨v0, v1⟩, v2, v3⟩ := Box.pair f4); clear f1 f2 f3 f4)
               | ((have kc := ka.below b10 (Box.lt ka)); (obtain ⟨f1, f2, f3, f4⟩ := facts_one (x := .int .i64 nx) (y := .int .i64 ny) (z0 := .int .i64 0) (u0 := .int .i64 0) kc); (obtain ⟨⟨x0, x1⟩, x2, x3⟩ := Box.pair f1); (obtain ⟨⟨y0, y1⟩, y2, y3⟩ := Box.pair f2); (obtain ⟨⟨z0, z1⟩, z2, z3⟩ := Box.pair f3); (obtain ⟨⟨v0, v1⟩, v2, v3⟩ := Box.pair f4); clear f1 f2 f3 f4))))
      all_goals
        rename_i hHeld
        have hB := hHeld.2.1
        go_wp2_with fail
        go_meet
        first
          | ((with_reducible refine two_rel ez1 hB ?_ ?_ ?_) <;> omega)
          | ((with_reducible refine two_rel ez2 hB ?_ ?_ ?_) <;> omega)
          | ((with_reducible refine two_rel (ez3 kc) hB ?_ ?_ ?_) <;> omega)
          | ((with_reducible refine two_rel (ez4 kc) hB ?_ ?_ ?_) <;> omega)
          | ((with_reducible refine two_rel (ez5 kc kd ncd) hB ncd ?_ ?_) <;> omega)
          | ((with_reducible refine two_rel (ez5 kd kc (Ne.symm ncd)) hB (Ne.symm ncd) ?_ ?_) <;> omega)
    case rest =>
      obtain ⟨gn, gm, rfl, rfl, kn, km, hne, hge, hB⟩ := hcut
      clear a0 a1 p0 p1 b0 b1 HP0 HL hW CH CM CN CQ G1 HK
      have HCX := Lib.hid (fun V (hb : Below w2.heap.size w2 V) => HC.out V (B2.out.trans (hb.mono B2.out.size)))
      obtain ⟨⟨a0, a1⟩, -⟩ := Box.pair (HCX.out wc hB).1
      obtain ⟨⟨p0, p1⟩, -⟩ := Box.pair (HCX.out wc hB).2.1
      obtain ⟨⟨b0, b1⟩, -⟩ := Box.pair (HCX.out wc hB).2.2.1
      have HW := Lib.hid (And.intro kn (And.intro km (And.intro hne (And.intro hge hB))))
      clear kn km hne hge hB HC
      by_cases hC0 : C = 0
      · subst hC0
        have hR : [] = R := HR.out
        subst hR
        clear HR
        go_wp2_with (go_at_call 34; (with_reducible refine Calls.mono (CT.out _) ?_); rintro e w11 ⟨rfl, b11⟩
                     have H11 := Lib.hid ((HCX.out w11 (HW.out.2.2.2.2.trans (b11.mono HW.out.2.2.2.2.size))).2.2.2.2)
                     clear b11)
        go_ret
        exact ⟨⟨none, 0, rfl, Nat.le_refl _, RdV.nil _ _ _⟩, H11.out⟩
      obtain ⟨o, ho⟩ : ∃ o, (if 0 < C then negP ⟨nx, ny⟩ else ⟨nx, ny⟩) = o := ⟨_, rfl⟩
      obtain ⟨q, hq⟩ : ∃ q, (if 0 < C then negP ⟨mx, my⟩ else ⟨mx, my⟩) = q := ⟨_, rfl⟩
      have hR := HR.out
      rw [if_neg hC0, ho, hq] at hR
      have HO := Lib.hid (show OffP h o ∧ OffP h q from by
        have h1 := HN.out
        have h2 := HM.out
        rw [← ho, ← hq]
        unfold OffP negP at *
        split <;> dsimp only at * <;> omega)
      have HOQ := Lib.hid (show (0 < C ∧ o = ⟨-nx, -ny⟩ ∧ q = ⟨-mx, -my⟩) ∨ (C < 0 ∧ o = ⟨nx, ny⟩ ∧ q = ⟨mx, my⟩) from by
        rw [← ho, ← hq]
        by_cases h1 : 0 < C
        · rw [if_pos h1, if_pos h1]
          exact .inl ⟨h1, rfl, rfl⟩
        · rw [if_neg h1, if_neg h1]
          exact .inr ⟨by omega, rfl, rfl⟩)
      clear HR ho hq hC0
      have HR := Lib.hid hR
      clear hR
      obtain ⟨ox, oy⟩ := o
      obtain ⟨qx, qy⟩ := q
      go_step
      go_step
      go_cut [10, 11] from 15 to 81 (fun v10 v11 wd => v10 = .pointer (some ⟨gn, 0, none⟩) ∧ v11 = .pointer (some ⟨gm, 0, none⟩) ∧ Box wd gn 34 [.int .i64 ox, .int .i64 oy] ∧ Box wd gm 34 [.int .i64 qx, .int .i64 qy] ∧ Below w2.heap.size w2 wd)
      case first =>
        rcases HOQ.out with ⟨h1, h2, h3⟩ | ⟨h1, h2, h3⟩
        · have hs : sgn C = 1 := sgn_gt h1
          rw [hs] at CT
          obtain ⟨rfl, rfl⟩ : ox = -nx ∧ oy = -ny := by simpa using h2
          obtain ⟨rfl, rfl⟩ : qx = -mx ∧ qy = -my := by simpa using h3
          have CL1 := Lib.hid (fun V => show Calls Tryd.prog 31 #[.agg #[.int .i64 0, .int .i64 0], .agg #[.int .i64 nx, .int .i64 ny]] V fun e w' => e = .returned (.agg #[.int .i64 (-nx), .int .i64 (-ny)]) ∧ Below V.heap.size V w' from by
            have h5 := stroke_less pt0 ⟨nx, ny⟩ V (by have h4 := HN.out; unfold OffP at h4; unfold pt0; dsimp only at *; omega) (by have h4 := HN.out; unfold OffP at h4; unfold pt0; dsimp only at *; omega)
            simpa [ptV, subP, pt0] using h5)
          have CL2 := Lib.hid (fun V => show Calls Tryd.prog 31 #[.agg #[.int .i64 0, .int .i64 0], .agg #[.int .i64 mx, .int .i64 my]] V fun e w' => e = .returned (.agg #[.int .i64 (-mx), .int .i64 (-my)]) ∧ Below V.heap.size V w' from by
            have h5 := stroke_less pt0 ⟨mx, my⟩ V (by have h4 := HM.out; unfold OffP at h4; unfold pt0; dsimp only at *; omega) (by have h4 := HM.out; unfold OffP at h4; unfold pt0; dsimp only at *; omega)
            simpa [ptV, subP, pt0] using h5)
          clear h1 h2 h3 hs HR HO HOQ HN HM HFP hj hjb hh hlm ha hp hb
          go_wp2_with (go_at_call 34; (with_reducible refine Calls.mono (CT.out _) ?_); rintro e w11 ⟨rfl, b11⟩
                       have H11 := Lib.hid (And.intro (HW.out.1.below b11 HW.out.1.lt) (And.intro (HW.out.2.1.below b11 HW.out.2.1.lt) (HW.out.2.2.2.2.trans (b11.mono HW.out.2.2.2.2.size))))
                       clear b11 a0 a1 p0 p1 b0 b1)
          obtain ⟨⟨n0, n1⟩, n2, n3⟩ := Box.pair H11.out.1
          obtain ⟨⟨m0, m1⟩, m2, m3⟩ := Box.pair H11.out.2.1
          clear CT
          go_region_law (go_simp; first
            | (go_at_call 31; (with_reducible refine Calls.mono (CL1.out _) ?_); rintro e w12 ⟨rfl, b12⟩
               have b12' : Below w11.heap.size w11 w12 := (Below.refl _ w11).drew.trans b12
               obtain ⟨⟨x0, x1⟩, -⟩ := Box.pair (H11.out.2.1.below b12' H11.out.2.1.lt)
               have B12 := Lib.hid b12'
               clear b12 b12')
            | (go_at_call 31; (with_reducible refine Calls.mono (CL2.out _) ?_); rintro e w13 ⟨rfl, b13⟩
               have b13' : Below w11.heap.size w11 w13 := B12.out.trans (b13.mono B12.out.size)
               have kn13 := H11.out.1.below b13' H11.out.1.lt
               have km13 := H11.out.2.1.below b13' H11.out.2.1.lt
               obtain ⟨⟨y0, y1⟩, y2, y3⟩ := Box.pair kn13
               obtain ⟨⟨z0, z1⟩, z2, z3⟩ := Box.pair km13
               have nab := HW.out.2.2.1
               have nba := Ne.symm nab
               have H13 := Lib.hid (And.intro kn13 (And.intro km13 (H11.out.2.2.trans (b13'.mono H11.out.2.2.size))))
               clear b13 b13' kn13 km13))
          all_goals
            have hE := ez5 (x := .int .i64 (-nx)) (y := .int .i64 (-ny)) (z := .int .i64 (-mx)) (u := .int .i64 (-my)) H13.out.1 H13.out.2.1 HW.out.2.2.1
            have hBE := (((H13.out.2.2.setCell (p := ⟨gn, 0, none⟩) HW.out.2.2.2.1.1 (.int .i64 (-nx))).setCell (p := ⟨gn, 1, none⟩) HW.out.2.2.2.1.1 (.int .i64 (-ny))).setCell (p := ⟨gm, 0, none⟩) HW.out.2.2.2.1.2 (.int .i64 (-mx))).setCell (p := ⟨gm, 1, none⟩) HW.out.2.2.2.1.2 (.int .i64 (-my))
            have HE := Lib.hid (And.intro hE hBE)
            clear hE hBE
            go_wp2_with fail
            go_meet
            exact ⟨rfl, rfl, HE.out.1.1, HE.out.1.2, HE.out.2⟩
        · have hs : sgn C = -1 := sgn_lt h1
          rw [hs] at CT
          obtain ⟨rfl, rfl⟩ : ox = nx ∧ oy = ny := by simpa using h2
          obtain ⟨rfl, rfl⟩ : qx = mx ∧ qy = my := by simpa using h3
          clear h1 h2 h3 hs HR HO HOQ HN HM HFP hj hjb hh hlm ha hp hb
          go_wp2_with (go_at_call 34; (with_reducible refine Calls.mono (CT.out _) ?_); rintro e w11 ⟨rfl, b11⟩
                       have H11 := Lib.hid (And.intro (HW.out.1.below b11 HW.out.1.lt) (And.intro (HW.out.2.1.below b11 HW.out.2.1.lt) (HW.out.2.2.2.2.trans (b11.mono HW.out.2.2.2.2.size))))
                       clear b11)
          go_meet
          exact ⟨rfl, rfl, H11.out.1, H11.out.2.1, H11.out.2.2⟩
      case rest =>
        obtain ⟨rfl, rfl, kn, km, hBd⟩ := hcut
        clear a0 a1 p0 p1 b0 b1 CT HOQ
        have c1 := fun V => stroke_plus ⟨px, py⟩ ⟨ox, oy⟩ V (add_in HFP.out HO.out.1 (by omega)).1 (add_in HFP.out HO.out.1 (by omega)).2
        have c3 := fun V => stroke_plus ⟨px, py⟩ ⟨qx, qy⟩ V (add_in HFP.out HO.out.2 (by omega)).1 (add_in HFP.out HO.out.2 (by omega)).2
        have ct := fun V => stroke_top ⟨ox, oy⟩ ⟨qx, qy⟩ h pl hh hlm HO.out.1 HO.out.2 V
        obtain ⟨T, hT⟩ : ∃ T, topM h pl ⟨ox, oy⟩ ⟨qx, qy⟩ = T := ⟨_, rfl⟩
        have c2 := fun V => stroke_plus ⟨px, py⟩ T V (by
          have h1 := HFP.out
          unfold FitP at h1
          rw [← hT]
          unfold topM spikeM pt0
          split
          · have n1 := nearG_in (((⟨ox, oy⟩ : Pt).x + (⟨qx, qy⟩ : Pt).x) * h * h) (byM h ⟨ox, oy⟩ ⟨qx, qy⟩)
            dsimp only at *
            omega
          · dsimp only at *
            omega) (by
          have h1 := HFP.out
          unfold FitP at h1
          rw [← hT]
          unfold topM spikeM pt0
          split
          · have n1 := nearG_in (((⟨ox, oy⟩ : Pt).y + (⟨qx, qy⟩ : Pt).y) * h * h) (byM h ⟨ox, oy⟩ ⟨qx, qy⟩)
            dsimp only at *
            omega
          · dsimp only at *
            omega)
        simp only [hT] at ct
        have hR2 : R = if pj = 1 ∧ SpikeOk h pl ⟨ox, oy⟩ ⟨qx, qy⟩ then [⟨px, py⟩, addP ⟨px, py⟩ ⟨ox, oy⟩, addP ⟨px, py⟩ T, addP ⟨px, py⟩ ⟨qx, qy⟩] else [⟨px, py⟩, addP ⟨px, py⟩ ⟨ox, oy⟩, addP ⟨px, py⟩ ⟨qx, qy⟩] := by
          rw [← HR.out, ← hT]
          unfold topM
          by_cases hk : pj = 1 ∧ SpikeOk h pl ⟨ox, oy⟩ ⟨qx, qy⟩
          · rw [if_pos hk, if_pos hk.2, if_pos (show pj = 1 ∧ 131072 * h * h ≤ pl * pl * byM h ⟨ox, oy⟩ ⟨qx, qy⟩ from hk)]
          · rw [if_neg hk, if_neg (show ¬ (pj = 1 ∧ 131072 * h * h ≤ pl * pl * byM h ⟨ox, oy⟩ ⟨qx, qy⟩) from hk)]
        have hdd : decide (SpikeOk h pl ⟨ox, oy⟩ ⟨qx, qy⟩) = true ↔ SpikeOk h pl ⟨ox, oy⟩ ⟨qx, qy⟩ := decide_eq_true_iff
        have hR3 : (decide (SpikeOk h pl ⟨ox, oy⟩ ⟨qx, qy⟩) = true ∧ pj = 1 ∧ R = [⟨px, py⟩, addP ⟨px, py⟩ ⟨ox, oy⟩, addP ⟨px, py⟩ T, addP ⟨px, py⟩ ⟨qx, qy⟩]) ∨ (¬ (decide (SpikeOk h pl ⟨ox, oy⟩ ⟨qx, qy⟩) = true ∧ pj = 1) ∧ R = [⟨px, py⟩, addP ⟨px, py⟩ ⟨ox, oy⟩, addP ⟨px, py⟩ ⟨qx, qy⟩]) := by
          by_cases hk : pj = 1 ∧ SpikeOk h pl ⟨ox, oy⟩ ⟨qx, qy⟩
          · rw [if_pos hk] at hR2
            exact .inl ⟨hdd.2 hk.2, hk.1, hR2⟩
          · rw [if_neg hk] at hR2
            exact .inr ⟨fun h2 => hk ⟨h2.2, hdd.1 h2.1⟩, hR2⟩
        clear hR2 hdd HR hT
        generalize decide (SpikeOk h pl ⟨ox, oy⟩ ⟨qx, qy⟩) = dd at ct hR3
        unfold addP at c1 c2 c3 hR3
        obtain ⟨tx, ty⟩ := T
        unfold ptV at c1 c2 c3 ct
        dsimp only at c1 c2 c3 ct hR3
        generalize px + ox = r1x at c1 hR3
        generalize py + oy = r1y at c1 hR3
        generalize px + tx = r2x at c2 hR3
        generalize py + ty = r2y at c2 hR3
        generalize px + qx = r3x at c3 hR3
        generalize py + qy = r3y at c3 hR3
        have C1 := Lib.hid c1
        have C2 := Lib.hid c2
        have C3 := Lib.hid c3
        have CTP := Lib.hid ct
        have HR3 := Lib.hid hR3
        obtain ⟨i0, hi0, hz0, hz1, hz2⟩ := info_parts info_pt
        clear c1 c2 c3 ct hR3 HO HN HM HFP hh hlm ha hp hb hj hjb
        have HDV := Lib.hid (fun V (hb : Below wc.heap.size wc V) => show Box V (w.heap.size + 1) 34 [.int .i64 px, .int .i64 py] ∧ Box V gn 34 [.int .i64 ox, .int .i64 oy] ∧ Box V gm 34 [.int .i64 qx, .int .i64 qy] ∧ Box V (w.heap.size + 3) 27 [.int .i64 pw, .int .i64 pc, .int .i64 pj, .int .i64 pl, .slice B np d, .int .i64 pf] ∧ Below w.heap.size w V from by
          have h := HCX.out V (hBd.trans (hb.mono hBd.size))
          exact ⟨h.2.1, kn.below hb kn.lt, km.below hb km.lt, h.2.2.2.1, h.2.2.2.2⟩)
        obtain ⟨⟨p0, p1⟩, -⟩ := Box.pair (HDV.out wc (Below.refl _ _)).1
        obtain ⟨⟨n0, n1⟩, -⟩ := Box.pair kn
        obtain ⟨⟨m0, m1⟩, -⟩ := Box.pair km
        have HL := Lib.hid (And.intro (HDV.out wc (Below.refl _ _)).1.lt (And.intro kn.lt km.lt))
        have HP0 := Lib.hid (show ((wc.drew.cell? ⟨w.heap.size + 1, 0, none⟩ = some (.int .i64 px) ∧ wc.drew.cell? ⟨w.heap.size + 1, 1, none⟩ = some (.int .i64 py)) ∧ (wc.drew.cell? ⟨gn, 0, none⟩ = some (.int .i64 ox) ∧ wc.drew.cell? ⟨gn, 1, none⟩ = some (.int .i64 oy)) ∧ (wc.drew.cell? ⟨gm, 0, none⟩ = some (.int .i64 qx) ∧ wc.drew.cell? ⟨gm, 1, none⟩ = some (.int .i64 qy))) ∧ Below wc.heap.size wc wc.drew ∧ wc.heap.size ≤ wc.drew.heap.size from ⟨⟨⟨p0, p1⟩, ⟨n0, n1⟩, m0, m1⟩, (Below.refl _ _).drew, Nat.le_refl _⟩)
        clear kn km hBd
        go_wp2_with fail
        go_region_held3 (fun w' => ((w'.cell? ⟨w.heap.size + 1, 0, none⟩ = some (.int .i64 px) ∧ w'.cell? ⟨w.heap.size + 1, 1, none⟩ = some (.int .i64 py)) ∧ (w'.cell? ⟨gn, 0, none⟩ = some (.int .i64 ox) ∧ w'.cell? ⟨gn, 1, none⟩ = some (.int .i64 oy)) ∧ (w'.cell? ⟨gm, 0, none⟩ = some (.int .i64 qx) ∧ w'.cell? ⟨gm, 1, none⟩ = some (.int .i64 qy))) ∧ Below wc.heap.size wc w' ∧ wc.heap.size ≤ w'.heap.size)
          (first
            | (with_reducible exact HP0.out)
            | (with_reducible exact tri_call HL.out.1 HL.out.2.1 HL.out.2.2 (by assumption) b15)
            | (with_reducible exact tri_call HL.out.1 HL.out.2.1 HL.out.2.2 (by assumption) (below_new _ _)))
          ((first
            | (go_at_call 32; (with_reducible refine Calls.mono (C1.out _) ?_); rintro e w15 ⟨rfl, b15⟩; (have SB15 := Lib.hid (show wc.heap.size ≤ w15.heap.size from Nat.le_trans (lowZ (by assumption)) b15.size)))))
        rename_i hHeld
        clear p0 p1 n0 n1 m0 m1
        obtain ⟨X, hX, oX, hBX⟩ : ∃ X, w15.alloc (.cells #[.int .i64 px, .int .i64 py, .int .i64 r1x, .int .i64 r1y] 34) = X ∧ X.ownsRow wc.heap.size 34 2 (.slice (some ⟨w15.heap.size, 0, none⟩) 2 2) 2 (ptRow [⟨px, py⟩, ⟨r1x, r1y⟩]) ∧ Below wc.heap.size wc X := by
          refine ⟨_, rfl, ?_, hHeld.2.1⟩
          have h15 := hHeld.2.2
          refine ⟨rfl, .inr ⟨w15.heap.size, 2, #[.int .i64 px, .int .i64 py, .int .i64 r1x, .int .i64 r1y], rfl, ?_, heap_alloc_new w15 _, Nat.le_refl _, by simp [maxLen], rfl, rfl⟩⟩
          exact Nat.le_trans SB15.out (Nat.le_refl _)
        rw [hX]
        clear hX hHeld
        have HOX := Lib.hid (And.intro oX hBX)
        obtain ⟨g1, g2, g3, g4, -⟩ := HDV.out X hBX
        obtain ⟨⟨n0, n1⟩, -⟩ := Box.pair g2
        obtain ⟨⟨m0, m1⟩, -⟩ := Box.pair g3
        obtain ⟨q0, q1, q2, q3, q4, q5⟩ := Box.six g4
        clear g1 g2 g3 g4 oX hBX
        rcases HR3.out with ⟨h1, h2, h3⟩ | ⟨h1, h2⟩
        · subst h1 h2
          subst h3
          go_wp2_with first
          | (go_at_call 35; (with_reducible refine Calls.mono (CTP.out _) ?_); rintro e w16 ⟨rfl, b16⟩
             obtain ⟨V17, hV17, k17, c17⟩ := endP w16 34 (.int .i64 tx) (.int .i64 ty)
             have b17 := b16.trans (c17.mono b16.size)
             have b17' := HOX.out.2.trans (b17.mono HOX.out.2.size)
             have H17 := Lib.hid (And.intro b17' (And.intro (own_below HOX.out.1 b17) k17))
             obtain ⟨g1, g2, g3, g4, -⟩ := HDV.out V17 b17'
             obtain ⟨⟨p0, p1⟩, -⟩ := Box.pair g1
             obtain ⟨⟨n0, n1⟩, -⟩ := Box.pair g2
             obtain ⟨⟨m0, m1⟩, -⟩ := Box.pair g3
             obtain ⟨⟨t0, t1⟩, -⟩ := Box.pair k17
             obtain ⟨q0, q1, q2, q3, q4, q5⟩ := Box.six g4
             clear g1 g2 g3 g4 k17 b16 c17 b17 b17')
          | (rw [hV17])
          | (go_at_call 32; (with_reducible refine Calls.mono (C2.out _) ?_); rintro e w18 ⟨rfl, b18⟩
             have Hw18 := Lib.hid (And.intro (H17.out.1.trans (b18.mono H17.out.1.size)) (own_below H17.out.2.1 b18))
             clear b18)
          | (at_builtin; refine wpList_append_own _ rfl _ _ 22 rfl wc.heap.size 34 i0 (.agg #[.int .i64 0, .int .i64 0]) 2 16 Tryd.underlying22 hi0 hz0 hz1 hz2 rfl (by decide) _ 2 _ rfl (Hw18.out.2.alloc _) ⟨w18.heap.size, 0, none⟩ 1 1 [.int .i64 r2x, .int .i64 r2y] rfl rfl (two_new _ _ _ _) (by simp [Value.oneCell']) (by simp [maxLen]) (by omega) (by have := Hw18.out.1.size; simp; omega) ?_; intro v19 w19 hown hgrow _
             obtain ⟨qq, kk, rfl, hkk, -, hrd⟩ := RdV.ofOwnK hown
             have H19 := Lib.hid (And.intro (below_grow2 ((Hw18.out.1.trans ((below_new w18 _).mono Hw18.out.1.size))) (Hw18.out.2.alloc _) (by have := Hw18.out.1.size; simp; omega) hgrow) (And.intro hown (And.intro hkk hrd)))
             clear hown hgrow hkk hrd
             obtain ⟨g1, g2, g3, g4, -⟩ := HDV.out w19 H19.out.1
             obtain ⟨⟨p0, p1⟩, -⟩ := Box.pair g1
             obtain ⟨⟨m0, m1⟩, -⟩ := Box.pair g3
             clear g1 g2 g3 g4)
          | (go_at_call 32; (with_reducible refine Calls.mono (C3.out _) ?_); rintro e w20 ⟨rfl, b20⟩
             have Hw20 := Lib.hid (And.intro (H19.out.1.trans (b20.mono H19.out.1.size)) (own_below H19.out.2.1 b20))
             clear b20)
          | (at_builtin; refine wpList_append_own _ rfl _ _ 22 rfl wc.heap.size 34 i0 (.agg #[.int .i64 0, .int .i64 0]) 2 16 Tryd.underlying22 hi0 hz0 hz1 hz2 rfl (by decide) _ 3 _ rfl (Hw20.out.2.alloc _) ⟨w20.heap.size, 0, none⟩ 1 1 [.int .i64 r3x, .int .i64 r3y] rfl rfl (two_new _ _ _ _) (by simp [Value.oneCell']) (by simp [maxLen]) (by omega) (by have := Hw20.out.1.size; simp; omega) ?_; intro v21 w21 hown hgrow _
             obtain ⟨qq, kk, rfl, hkk, -, hrd⟩ := RdV.ofOwnK hown
             have H21 := Lib.hid (And.intro (below_grow2 ((Hw20.out.1.trans ((below_new w20 _).mono Hw20.out.1.size))) (Hw20.out.2.alloc _) (by have := Hw20.out.1.size; simp; omega) hgrow) (And.intro hown (And.intro hkk hrd)))
             clear hown hgrow hkk hrd
             skip)
          go_ret
          exact ⟨⟨_, _, rfl, H21.out.2.2.1, H21.out.2.2.2⟩, (HDV.out _ H21.out.1).2.2.2.2⟩
        · subst h2
          have h3 : dd = false ∨ (dd = true ∧ ¬ pj = 1) := by
            cases dd
            · exact .inl rfl
            · exact .inr ⟨rfl, fun k => h1 ⟨rfl, k⟩⟩
          clear h1
          rcases h3 with rfl | ⟨rfl, h3⟩
          · go_wp2_with first
            | (go_at_call 35; (with_reducible refine Calls.mono (CTP.out _) ?_); rintro e w16 ⟨rfl, b16⟩
               obtain ⟨V17, hV17, k17, c17⟩ := endP w16 34 (.int .i64 tx) (.int .i64 ty)
               have b17 := b16.trans (c17.mono b16.size)
               have b17' := HOX.out.2.trans (b17.mono HOX.out.2.size)
               have H17 := Lib.hid (And.intro b17' (And.intro (own_below HOX.out.1 b17) k17))
               obtain ⟨g1, g2, g3, g4, -⟩ := HDV.out V17 b17'
               obtain ⟨⟨p0, p1⟩, -⟩ := Box.pair g1
               obtain ⟨⟨n0, n1⟩, -⟩ := Box.pair g2
               obtain ⟨⟨m0, m1⟩, -⟩ := Box.pair g3
               obtain ⟨⟨t0, t1⟩, -⟩ := Box.pair k17
               obtain ⟨q0, q1, q2, q3, q4, q5⟩ := Box.six g4
               clear g1 g2 g3 g4 k17 b16 c17 b17 b17')
            | (rw [hV17])
            | (go_at_call 32; (with_reducible refine Calls.mono (C3.out _) ?_); rintro e w18 ⟨rfl, b18⟩
               have Hw18 := Lib.hid (And.intro (H17.out.1.trans (b18.mono H17.out.1.size)) (own_below H17.out.2.1 b18))
               clear b18)
            | (at_builtin; refine wpList_append_own _ rfl _ _ 22 rfl wc.heap.size 34 i0 (.agg #[.int .i64 0, .int .i64 0]) 2 16 Tryd.underlying22 hi0 hz0 hz1 hz2 rfl (by decide) _ 2 _ rfl (Hw18.out.2.alloc _) ⟨w18.heap.size, 0, none⟩ 1 1 [.int .i64 r3x, .int .i64 r3y] rfl rfl (two_new _ _ _ _) (by simp [Value.oneCell']) (by simp [maxLen]) (by omega) (by have := Hw18.out.1.size; simp; omega) ?_; intro v19 w19 hown hgrow _
               obtain ⟨qq, kk, rfl, hkk, -, hrd⟩ := RdV.ofOwnK hown
               have H19 := Lib.hid (And.intro (below_grow2 ((Hw18.out.1.trans ((below_new w18 _).mono Hw18.out.1.size))) (Hw18.out.2.alloc _) (by have := Hw18.out.1.size; simp; omega) hgrow) (And.intro hown (And.intro hkk hrd)))
               clear hown hgrow hkk hrd
               skip)
            go_ret
            exact ⟨⟨_, _, rfl, H19.out.2.2.1, H19.out.2.2.2⟩, (HDV.out _ H19.out.1).2.2.2.2⟩
          · have h3b : (pj == 1) = false := by simpa using h3
            go_wp2_with first
            | (go_at_call 35; (with_reducible refine Calls.mono (CTP.out _) ?_); rintro e w16 ⟨rfl, b16⟩
               obtain ⟨V17, hV17, k17, c17⟩ := endP w16 34 (.int .i64 tx) (.int .i64 ty)
               have b17 := b16.trans (c17.mono b16.size)
               have b17' := HOX.out.2.trans (b17.mono HOX.out.2.size)
               have H17 := Lib.hid (And.intro b17' (And.intro (own_below HOX.out.1 b17) k17))
               obtain ⟨g1, g2, g3, g4, -⟩ := HDV.out V17 b17'
               obtain ⟨⟨p0, p1⟩, -⟩ := Box.pair g1
               obtain ⟨⟨n0, n1⟩, -⟩ := Box.pair g2
               obtain ⟨⟨m0, m1⟩, -⟩ := Box.pair g3
               obtain ⟨⟨t0, t1⟩, -⟩ := Box.pair k17
               obtain ⟨q0, q1, q2, q3, q4, q5⟩ := Box.six g4
               clear g1 g2 g3 g4 k17 b16 c17 b17 b17')
            | (rw [hV17])
            | (go_at_call 32; (with_reducible refine Calls.mono (C3.out _) ?_); rintro e w18 ⟨rfl, b18⟩
               have Hw18 := Lib.hid (And.intro (H17.out.1.trans (b18.mono H17.out.1.size)) (own_below H17.out.2.1 b18))
               clear b18)
            | (at_builtin; refine wpList_append_own _ rfl _ _ 22 rfl wc.heap.size 34 i0 (.agg #[.int .i64 0, .int .i64 0]) 2 16 Tryd.underlying22 hi0 hz0 hz1 hz2 rfl (by decide) _ 2 _ rfl (Hw18.out.2.alloc _) ⟨w18.heap.size, 0, none⟩ 1 1 [.int .i64 r3x, .int .i64 r3y] rfl rfl (two_new _ _ _ _) (by simp [Value.oneCell']) (by simp [maxLen]) (by omega) (by have := Hw18.out.1.size; simp; omega) ?_; intro v19 w19 hown hgrow _
               obtain ⟨qq, kk, rfl, hkk, -, hrd⟩ := RdV.ofOwnK hown
               have H19 := Lib.hid (And.intro (below_grow2 ((Hw18.out.1.trans ((below_new w18 _).mono Hw18.out.1.size))) (Hw18.out.2.alloc _) (by have := Hw18.out.1.size; simp; omega) hgrow) (And.intro hown (And.intro hkk hrd)))
               clear hown hgrow hkk hrd
               skip)
            go_ret
            exact ⟨⟨_, _, rfl, H19.out.2.2.1, H19.out.2.2.2⟩, (HDV.out _ H19.out.1).2.2.2.2⟩
end Go.Proofs.YtngnclibeccplaaDoor
