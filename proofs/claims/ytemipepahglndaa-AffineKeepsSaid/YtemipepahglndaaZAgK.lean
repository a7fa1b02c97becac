/- The walk of AffineKeeps. -/
import Derived.Test.YtemipepahglndaaZAgY
import Derived.Test.YtemipepahglndaaZAgX
import Derived.Test.YtemipepahglndaaZAfX
import Derived.Deep.RegionHeld3
namespace Go.Proofs.Ytemipepahglndaa
open Go.RowKit

/-- the boxes of a law that takes a point and two pairs -/
theorem keep_boxes (x y a0 a1 b0 b1 : Int) (w : World) : ∃ W, ((w.alloc (.cells #[.int .i64 x, .int .i64 y] 25)).alloc (.cells #[.int .i64 a0, .int .i64 a1] 46)).alloc (.cells #[.int .i64 b0, .int .i64 b1] 46) = W ∧
    Box W w.heap.size 25 [.int .i64 x, .int .i64 y] ∧ Box W (w.heap.size + 1) 46 [.int .i64 a0, .int .i64 a1] ∧ Box W (w.heap.size + 2) 46 [.int .i64 b0, .int .i64 b1] ∧ Below w.heap.size w W ∧ w.heap.size + 3 ≤ W.heap.size := by
  refine ⟨_, rfl, ((Box.new w _ [.int .i64 x, .int .i64 y]).alloc _).alloc _, (Box.at_new (w.alloc (.cells #[.int .i64 x, .int .i64 y] 25)) _ [.int .i64 a0, .int .i64 a1] (by simp)).alloc _, Box.at_new _ _ [.int .i64 b0, .int .i64 b1] (by simp), ?_, by simp⟩
  exact (((Below.refl _ w).alloc (Nat.le_refl _) _).alloc (by simp) _).alloc (by simp; omega) _

theorem newCells (v : World) (t : TypeId) (vs : List Value) : ∃ Z, v.alloc (.cells vs.toArray t) = Z ∧ Box Z v.heap.size t vs ∧ Below v.heap.size v Z :=
  ⟨_, rfl, Box.new v t vs, (Below.refl _ _).alloc (Nat.le_refl _) _⟩
theorem through_two (a0 a1 b0 b1 : Int) (p : Pt) (g : Nat) (V : World) (h : Box V g 23 [.int .i64 256, .int .i64 0, .int .i64 0, .int .i64 256, .int .i64 a0, .int .i64 a1, .int .i64 256, .int .i64 0, .int .i64 0, .int .i64 256, .int .i64 b0, .int .i64 b1]) :
    Calls Try.prog 17 #[.slice (some ⟨g, 0, none⟩) 2 2, ptV p] V fun e w' => e = .returned (.tuple #[ptV (throughM [⟨256, 0, 0, 256, a0, a1⟩, ⟨256, 0, 0, 256, b0, b1⟩] p).1, .int .i64 (throughM [⟨256, 0, 0, 256, a0, a1⟩, ⟨256, 0, 0, 256, b0, b1⟩] p).2]) ∧ Below V.heap.size V w' :=
  aff_Through [⟨256, 0, 0, 256, a0, a1⟩, ⟨256, 0, 0, 256, b0, b1⟩] _ 2 p V h.rd (by simp)

set_option maxRecDepth 10000 in
set_option maxHeartbeats 6400000 in
theorem walk_AffineKeeps (p : Pt) (a0 a1 b0 b1 : Int) (w : World) :
    Calls Try.prog 5 #[ptV p, .agg #[.int .i64 a0, .int .i64 a1], .agg #[.int .i64 b0, .int .i64 b1]] w fun e w' => e = .returned (.bool true) ∧ Below w.heap.size w w' := by
  have c1 := aff_Same
  have c2 := aff_Apply ⟨256, 0, 0, 256, 0, 0⟩ p
  have c3 := ref10_Fits p
  have HSG := Lib.hid (same_go p)
  obtain ⟨t, ht⟩ : ∃ t, decide (FitP p) = t := ⟨_, rfl⟩
  rw [ht] at c3
  have HT := Lib.hid (show t = true → FitP p from fun h => by rw [h] at ht; exact of_decide_eq_true ht)
  clear ht
  obtain ⟨X, Y, hXY⟩ : ∃ X Y, applyP ⟨256, 0, 0, 256, 0, 0⟩ p = ⟨X, Y⟩ := ⟨_, _, rfl⟩
  obtain ⟨E, hE⟩ : ∃ E, applyE ⟨256, 0, 0, 256, 0, 0⟩ p = E := ⟨_, rfl⟩
  rw [hXY, hE] at c2 HSG
  have c4 := through_two a0 a1 b0 b1 p
  have c5 := through_two b0 b1 a0 a1 p
  have hsh := shifts_same (a0, a1) (b0, b1) p
  dsimp only at hsh
  obtain ⟨X1, Y1, h1⟩ : ∃ X Y, (throughM [⟨256, 0, 0, 256, a0, a1⟩, ⟨256, 0, 0, 256, b0, b1⟩] p).1 = ⟨X, Y⟩ := ⟨_, _, rfl⟩
  obtain ⟨X2, Y2, h2⟩ : ∃ X Y, (throughM [⟨256, 0, 0, 256, b0, b1⟩, ⟨256, 0, 0, 256, a0, a1⟩] p).1 = ⟨X, Y⟩ := ⟨_, _, rfl⟩
  obtain ⟨F1, h3⟩ : ∃ F, (throughM [⟨256, 0, 0, 256, a0, a1⟩, ⟨256, 0, 0, 256, b0, b1⟩] p).2 = F := ⟨_, rfl⟩
  obtain ⟨F2, h4⟩ : ∃ F, (throughM [⟨256, 0, 0, 256, b0, b1⟩, ⟨256, 0, 0, 256, a0, a1⟩] p).2 = F := ⟨_, rfl⟩
  rw [h1, h2, h3, h4] at hsh
  simp only [h1, h3] at c4
  simp only [h2, h4] at c5
  have HSH := Lib.hid hsh
  have C9 := Lib.hid law10_lives
  obtain ⟨x, y⟩ := p
  obtain ⟨W, hW, k1, k2, k3, B0, hz⟩ := keep_boxes x y a0 a1 b0 b1 w
  obtain ⟨⟨q0, q1⟩, -⟩ := Box.pair k1
  obtain ⟨⟨q2, q3⟩, -⟩ := Box.pair k2
  obtain ⟨⟨q4, q5⟩, -⟩ := Box.pair k3
  have HK := Lib.hid (And.intro k1 (And.intro k2 (And.intro k3 (And.intro B0 hz))))
  have hlt : w.heap.size < W.heap.size := k1.lt
  have hS := fun V (hb : Below W.heap.size W V) => And.intro (And.intro (q0.symm ▸ hb.cell (p := ⟨w.heap.size, 0, none⟩) hlt : V.cell? ⟨w.heap.size, 0, none⟩ = some (.int .i64 x)) (q1.symm ▸ hb.cell (p := ⟨w.heap.size, 1, none⟩) hlt : V.cell? ⟨w.heap.size, 1, none⟩ = some (.int .i64 y))) hb
  have HS := Lib.hid hS
  have HP := Lib.hid (HS.out W.drew (Below.refl _ _).drew)
  unfold mpV ptV at *
  dsimp only at *
  have C1 := Lib.hid c1
  have C2 := Lib.hid c2
  have C3 := Lib.hid c3
  have C4 := Lib.hid c4
  have C5 := Lib.hid c5
  clear c1 c2 c3 c4 c5 hsh h1 h2 h3 h4 hXY hE k1 k2 k3 B0 hz hS hlt
  go_enter Try.func5, Try.ntmps5
  go_wp2_with (rw [hW])
  try rw [hW]
  clear hW
  go_region_held3 (fun w' => (w'.cell? ⟨w.heap.size, 0, none⟩ = some (.int .i64 x) ∧ w'.cell? ⟨w.heap.size, 1, none⟩ = some (.int .i64 y)) ∧ Below W.heap.size W w')
    (first
      | (with_reducible exact HP.out)
      | (with_reducible exact HS.out _ (below_on (low3 (by assumption)) (low3 (by assumption)).size b9))
      | (with_reducible exact HS.out _ (below_on (low3 (by assumption)) (low3 (by assumption)).size b10))
      | (with_reducible exact HS.out _ ((low3 (by assumption)).alloc (low3 (by assumption)).size _))
      | (with_reducible exact HS.out _ (below_on2 (low3 HP.out) b9 b10 _))
      | (with_reducible exact HS.out _ (((low3 (by assumption)).setCell (p := ⟨_, 0, none⟩) s9 _).setCell (p := ⟨_, 1, none⟩) s9 _))
      | (with_reducible exact HS.out _ (((low3 (by assumption)).setCell (p := ⟨_, 0, none⟩) (Nat.le_refl _) _).setCell (p := ⟨_, 1, none⟩) (Nat.le_refl _) _)))
    ((first
      | (go_at_call 20; (with_reducible refine Calls.mono (C1.out _) ?_); rintro e w9 ⟨rfl, b9⟩; (have s9 : W.heap.size ≤ w9.heap.size := by (have z9 := b9.size; (try simp at z9); first | omega | exact z9)); (try (have kb := fresh2d b9; obtain ⟨⟨i0, i1⟩, i2, i3⟩ := Box.pair kb)))
      | (go_at_call 6; (with_reducible refine Calls.mono (C2.out _) ?_); rintro e w10 ⟨rfl, b10⟩; (try first | (have kc := fresh2 b10; obtain ⟨⟨j0, j1⟩, j2, j3⟩ := Box.pair kc) | (have kc := kb.below b10 kb.lt; obtain ⟨⟨j0, j1⟩, j2, j3⟩ := Box.pair kc)))))
  all_goals
    rename_i hHeld
    obtain ⟨-, hBV⟩ := hHeld
    first
      | (obtain ⟨V, hV, kV, -, -⟩ := kc.stored2 (.int .i64 X) (.int .i64 Y); rw [hV] at hBV ⊢; clear kc hV)
      | (obtain ⟨V, hV, kV, -⟩ := endP w10 25 (.int .i64 X) (.int .i64 Y); rw [hV] at hBV ⊢; clear hV)
    have HV := Lib.hid (And.intro kV hBV)
    clear kV hBV
    cases t
  all_goals
    (try (obtain ⟨rfl, hxy⟩ := HSG.out (HT.out rfl); obtain ⟨rfl, rfl⟩ : X = x ∧ Y = y := ⟨congrArg Pt.x hxy, congrArg Pt.y hxy⟩; clear hxy))
    clear HSG HT
    obtain ⟨⟨s0, s1⟩, -⟩ := Box.pair (HK.out.1.below HV.out.2 HK.out.1.lt)
    go_wp2_with first
      | (go_at_call 11; with_reducible refine Calls.mono (C3.out _) ?_; rintro e w11 ⟨rfl, b11⟩
         obtain ⟨⟨x0, x1⟩, -⟩ := Box.pair (HV.out.1.below b11 HV.out.1.lt)
         have d0 := HV.out.2.trans (b11.mono HV.out.2.size)
         obtain ⟨⟨x2, x3⟩, -⟩ := Box.pair (HK.out.1.below d0 HK.out.1.lt)
         obtain ⟨⟨x4, x5⟩, -⟩ := Box.pair (HK.out.2.1.below d0 HK.out.2.1.lt)
         obtain ⟨V4, hV4, k4, d4⟩ := newCells w11 23 [.int .i64 256, .int .i64 0, .int .i64 0, .int .i64 256, .int .i64 a0, .int .i64 a1]
         have d04 := d0.trans (d4.mono d0.size)
         obtain ⟨⟨x6, x7⟩, -⟩ := Box.pair (HK.out.2.2.1.below d04 HK.out.2.2.1.lt)
         obtain ⟨V5, hV5, k5, d5⟩ := newCells V4 23 [.int .i64 256, .int .i64 0, .int .i64 0, .int .i64 256, .int .i64 b0, .int .i64 b1]
         have d05 := d04.trans (d5.mono d04.size)
         obtain ⟨y0, y1, y2, y3, y4, y5⟩ := Box.six (k4.below d5 k4.lt)
         obtain ⟨z0, z1, z2, z3, z4, z5⟩ := Box.six k5
         obtain ⟨V6, hV6, k6, d6⟩ := newCells V5 23 [.int .i64 256, .int .i64 0, .int .i64 0, .int .i64 256, .int .i64 a0, .int .i64 a1, .int .i64 256, .int .i64 0, .int .i64 0, .int .i64 256, .int .i64 b0, .int .i64 b1]
         have d06 := d05.trans (d6.mono d05.size)
         obtain ⟨⟨t0, t1⟩, -⟩ := Box.pair (HK.out.1.below d06 HK.out.1.lt)
         have H6 := Lib.hid (And.intro k6 (And.intro d06 (And.intro ((k4.below d5 k4.lt).below d6 (k4.below d5 k4.lt).lt) (k5.below d6 k5.lt))))
         replace hV4 := hV4
         clear d0 d04 d05 d06 k4 k5 k6 d4 d5 d6 b11)
      | (rw [hV4])
      | (rw [hV5])
      | (rw [hV6])
      | (go_at_call 17; with_reducible refine Calls.mono (C4.out _ _ H6.out.1) ?_; rintro e w12 ⟨rfl, b12⟩
         obtain ⟨V7, hV7, k7, d7⟩ := newCells w12 25 [.int .i64 X1, .int .i64 Y1]
         have d67 := b12.trans (d7.mono b12.size)
         obtain ⟨y0, y1, y2, y3, y4, y5⟩ := Box.six (H6.out.2.2.1.below d67 H6.out.2.2.1.lt)
         obtain ⟨z0, z1, z2, z3, z4, z5⟩ := Box.six (H6.out.2.2.2.below d67 H6.out.2.2.2.lt)
         have d07 := H6.out.2.1.trans (d67.mono H6.out.2.1.size)
         obtain ⟨V8, hV8, k8, d8⟩ := newCells V7 23 [.int .i64 256, .int .i64 0, .int .i64 0, .int .i64 256, .int .i64 b0, .int .i64 b1, .int .i64 256, .int .i64 0, .int .i64 0, .int .i64 256, .int .i64 a0, .int .i64 a1]
         have d08 := d07.trans (d8.mono d07.size)
         obtain ⟨⟨t0, t1⟩, -⟩ := Box.pair (HK.out.1.below d08 HK.out.1.lt)
         have H8 := Lib.hid (And.intro k8 (And.intro d08 (k7.below d8 k7.lt)))
         clear d67 d07 d08 d7 d8 b12 k7 k8)
      | (rw [hV7])
      | (rw [hV8])
    by_cases hF1 : F1 = 0 <;> by_cases hF2 : F2 = 0
  all_goals
    (try (have hF12 := HSH.out hF1 hF2; obtain ⟨rfl, rfl⟩ : X2 = X1 ∧ Y2 = Y1 := ⟨(congrArg Pt.x hF12).symm, (congrArg Pt.y hF12).symm⟩; clear hF12))
    (try have hF3 : (F1 == 0) = false := by simpa using hF1)
    (try have hF4 : (F2 == 0) = false := by simpa using hF2)
    (try subst hF1)
    (try subst hF2)
    clear HSH
    go_wp2_with first
      | (with_reducible refine Calls.mono (C5.out _ _ H8.out.1) ?_; rintro e w13 ⟨rfl, b13⟩
         obtain ⟨V9, hV9, k9, d9⟩ := newCells w13 25 [.int .i64 X2, .int .i64 Y2]
         have d89 := b13.trans (d9.mono b13.size)
         obtain ⟨⟨x0, x1⟩, -⟩ := Box.pair (H8.out.2.2.below d89 H8.out.2.2.lt)
         obtain ⟨⟨x2, x3⟩, -⟩ := Box.pair k9
         have H9 := Lib.hid (H8.out.2.1.trans (d89.mono H8.out.2.1.size))
         clear k9 d9 d89 b13)
      | (rw [hV9])
      | (go_at_call 14; with_reducible refine Calls.mono (C9.out _) ?_; rintro e w14 ⟨rfl, b14⟩)
    go_ret
    have b := HK.out.2.2.2.1.trans (H9.out.mono HK.out.2.2.2.1.size)
    exact ⟨rfl, b.trans (b14.mono b.size)⟩
end Go.Proofs.Ytemipepahglndaa
