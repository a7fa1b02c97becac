/- The walk of AffineApplies. -/
import Derived.Test.YtemipepahglndaaZAgX
import Derived.Test.YtemipepahglndaaZAfX
import Derived.Lib.QuietBelow
import Derived.BigQuiet
namespace Go.Proofs.Ytemipepahglndaa
open Go.RowKit
open Go.Sort (grow)

theorem quiet_ofA {P : Program} {f : FuncId} {args : Array Value} {W : World} {v : Value} (h : ∀ V, Calls P f args V fun e w' => e = .returned v ∧ Below V.heap.size V w') :
    ∀ (d : Nat) (os : Array Obj), Calls P f args (grow (redrawn W d) os) fun e w'' => e = .returned v ∧ ∃ p : Regrown, w'' = grow (redrawn W p.d) p.os := fun _ _ => Calls.regrown_of (h _)
/-- the boxes of a law that takes a map and a point -/
theorem law_boxes (a b c d e f x y : Int) (w : World) : ∃ W, (w.alloc (.cells #[.int .i64 a, .int .i64 b, .int .i64 c, .int .i64 d, .int .i64 e, .int .i64 f] 23)).alloc (.cells #[.int .i64 x, .int .i64 y] 25) = W ∧
    Box W w.heap.size 23 [.int .i64 a, .int .i64 b, .int .i64 c, .int .i64 d, .int .i64 e, .int .i64 f] ∧ Box W (w.heap.size + 1) 25 [.int .i64 x, .int .i64 y] ∧ Below w.heap.size w W ∧ w.heap.size + 2 ≤ W.heap.size := by
  refine ⟨_, rfl, (Box.new w _ [.int .i64 a, .int .i64 b, .int .i64 c, .int .i64 d, .int .i64 e, .int .i64 f]).alloc _, Box.at_new (w.alloc (.cells #[.int .i64 a, .int .i64 b, .int .i64 c, .int .i64 d, .int .i64 e, .int .i64 f] 23)) _ [.int .i64 x, .int .i64 y] (by simp), ?_, by simp⟩
  exact ((Below.refl _ w).alloc (Nat.le_refl _) _).alloc (by simp) _
theorem box2 (v : World) (t : TypeId) (x y : Value) : ∃ Z, v.alloc (.cells #[x, y] t) = Z ∧ Box Z v.heap.size t [x, y] ∧ Below v.heap.size v Z :=
  ⟨_, rfl, Box.new v t [x, y], (Below.refl _ _).alloc (Nat.le_refl _) _⟩

set_option maxRecDepth 10000 in
set_option maxHeartbeats 6400000 in
theorem walk_AffineApplies (m : Mp) (p : Pt) (w : World) :
    Calls Try.prog 3 #[mpV m, ptV p] w fun e w' => e = .returned (.bool true) ∧ Below w.heap.size w w' := by
  have C1 := Lib.hid (aff_Apply m p)
  have C2 := Lib.hid (ref10_Apply m p)
  have c3 := aff_May m
  have c4 := ref10_May m
  have c5 := aff_Fits p
  have c6 := ref10_Fits p
  have c7 := aff_Det m
  have c8 := aff_Flat m
  have c9 := law10_lives
  obtain ⟨X, Y, hXY⟩ : ∃ X Y, applyP m p = ⟨X, Y⟩ := ⟨_, _, rfl⟩
  obtain ⟨E, hE⟩ : ∃ E, applyE m p = E := ⟨_, rfl⟩
  rw [hXY, hE] at C1 C2
  clear hXY hE
  obtain ⟨t, ht⟩ : ∃ t, decide (FitP p) = t := ⟨_, rfl⟩
  rw [ht] at c5 c6
  clear ht
  obtain ⟨a, b, c, d, e, f⟩ := m
  obtain ⟨x, y⟩ := p
  obtain ⟨W, hW, k1, k2, B0, hz⟩ := law_boxes a b c d e f x y w
  obtain ⟨p0, p1, p2, p3, p4, p5⟩ := Box.six k1
  obtain ⟨⟨q0, q1⟩, -⟩ := Box.pair k2
  have HK := Lib.hid (And.intro k1 (And.intro k2 (And.intro B0 hz)))
  clear k1 k2 B0 hz
  by_cases hm : MayM ⟨a, b, c, d, e, f⟩
  · rw [decide_eq_true hm] at c3 c4
    have hr : detF ⟨a, b, c, d, e, f⟩ = a * d - b * c := by unfold detF; rw [if_pos hm]; rfl
    rw [hr] at c7 c8
    obtain ⟨b1, b2⟩ := may_mul hm.1 hm.2.2.2.1
    obtain ⟨b3, b4⟩ := may_mul hm.2.1 hm.2.2.1
    dsimp only at b1 b2 b3 b4
    obtain ⟨u, hu⟩ : ∃ u, a * d = u := ⟨_, rfl⟩
    obtain ⟨v, hv⟩ : ∃ u, b * c = u := ⟨_, rfl⟩
    rw [hu] at b1 b2
    rw [hv] at b3 b4
    rw [hu, hv] at c7 c8
    have w1 : IntKind.i64.wrap u = u := IntWalk.i64_in _ (by omega)
    have w2 : IntKind.i64.wrap v = v := IntWalk.i64_in _ (by omega)
    obtain ⟨D, hD⟩ : ∃ D, u - v = D := ⟨_, rfl⟩
    have w3 : IntKind.i64.wrap D = D := IntWalk.i64_in _ (by omega)
    rw [hD] at c7 c8
    obtain ⟨F, hF⟩ : ∃ F, decide (D = 0) = F := ⟨_, rfl⟩
    have hF2 : (u == v) = F := by
      rw [← hF, Bool.eq_iff_iff, beq_iff_eq, decide_eq_true_iff]; omega
    rw [hF] at c8
    have CC := Lib.hid (And.intro c3 (And.intro c4 (And.intro c5 (And.intro c6 (And.intro c7 (And.intro c8 c9))))))
    clear c3 c4 c5 c6 c7 c8 c9 hr hm b1 b2 b3 b4 hF
    unfold mpV ptV at *
    dsimp only at *
    go_enter Try.func3, Try.ntmps3
    go_wp2_with first
      | ((try rw [hW]); go_at_call 6; with_reducible refine Calls.mono (C1.out _) ?_; rintro e w1 ⟨rfl, b1⟩
         obtain ⟨V1, hV1, k3, b1'⟩ := box2 w1 25 (.int .i64 X) (.int .i64 Y)
         have b11 := b1.trans (b1'.mono b1.size)
         obtain ⟨p0, p1, p2, p3, p4, p5⟩ := Box.six (HK.out.1.below b11 HK.out.1.lt)
         obtain ⟨⟨q0, q1⟩, -⟩ := Box.pair (HK.out.2.1.below b11 HK.out.2.1.lt)
         have K1 := Lib.hid (And.intro k3 b11)
         clear k3 b11 b1 b1')
      | ((try rw [hV1]); go_at_call 7; with_reducible refine Calls.mono (C2.out _) ?_; rintro e w2 ⟨rfl, b2⟩
         obtain ⟨V2, hV2, k4, b2'⟩ := box2 w2 25 (.int .i64 X) (.int .i64 Y)
         have b22 := b2.trans (b2'.mono b2.size)
         have b02 := K1.out.2.trans (b22.mono K1.out.2.size)
         obtain ⟨p0, p1, p2, p3, p4, p5⟩ := Box.six (HK.out.1.below b02 HK.out.1.lt)
         obtain ⟨⟨q0, q1⟩, -⟩ := Box.pair (HK.out.2.1.below b02 HK.out.2.1.lt)
         obtain ⟨⟨r0, r1⟩, -⟩ := Box.pair (K1.out.1.below b22 K1.out.1.lt)
         obtain ⟨⟨s0, s1⟩, -⟩ := Box.pair k4
         have HB := Lib.hid (HK.out.2.2.1.trans (b02.mono HK.out.2.2.1.size))
         clear k4 b22 b02 b2 b2')
    try rw [hV2]
    clear hV2
    have z0 := cell_regrown p0
    have z1 := cell_regrown p1
    have z2 := cell_regrown p2
    have z3 := cell_regrown p3
    have z4 := cell_regrown p4
    have z5 := cell_regrown p5
    have z6 := cell_regrown q0
    have z7 := cell_regrown q1
    have z8 := cell_regrown r0
    have z9 := cell_regrown r1
    have y0 := cell_regrown s0
    have y1 := cell_regrown s1
    obtain ⟨c3, c4, c5, c6, c7, c8, c9⟩ := CC.out
    have D3 := quiet_ofA (W := V2) c3
    have D4 := quiet_ofA (W := V2) c4
    have D5 := quiet_ofA (W := V2) c5
    have D6 := quiet_ofA (W := V2) c6
    have D7 := quiet_ofA (W := V2) c7
    have D8 := quiet_ofA (W := V2) c8
    have D9 := quiet_ofA (W := V2) c9
    clear c3 c4 c5 c6 c7 c8 c9 CC
    refine wp_region_quiet_below (by kernel_rfl) (by kernel_rfl) ?_
    quiet_step (fail)
    quiet_step (fail)
    quiet_step (fail)
    quiet_step (fail)
    quiet_step (fail)
    quiet_step (fail)
    quiet_step (fail)
    quiet_step (fail)
    quiet_step (fail)
    quiet_step (fail)
    quiet_step (with_reducible exact D3 _ _)
    quiet_step (fail)
    quiet_step (with_reducible exact D4 _ _)
    quiet_step (fail)
    quiet_step (fail)
    quiet_step (fail)
    quiet_step (fail)
    quiet_step (with_reducible exact D5 _ _)
    quiet_step (fail)
    quiet_step (with_reducible exact D6 _ _)
    quiet_step (fail)
    quiet_step (fail)
    quiet_step (fail)
    quiet_step (fail)
    quiet_step (with_reducible exact D4 _ _)
    quiet_step (fail)
    quiet_step (fail)
    quiet_step (fail)
    quiet_step (with_reducible exact D7 _ _)
    quiet_step (fail)
    quiet_step (fail)
    quiet_step (fail)
    quiet_step (fail)
    quiet_step (fail)
    quiet_step (fail)
    quiet_step (fail)
    quiet_step (fail)
    quiet_step (fail)
    quiet_step (fail)
    quiet_step (fail)
    quiet_step (fail)
    quiet_step (fail)
    quiet_step (fail)
    quiet_step (with_reducible exact D8 _ _)
    quiet_step (fail)
    quiet_step (fail)
    quiet_step (fail)
    quiet_step (fail)
    quiet_step (fail)
    quiet_step (fail)
    quiet_step (fail)
    quiet_step (fail)
    quiet_step (fail)
    quiet_step (fail)
    quiet_step (fail)
    quiet_step (fail)
    quiet_step (fail)
    quiet_step (fail)
    quiet_step (fail)
    quiet_step (fail)
    quiet_step (with_reducible exact D9 _ _)
    quiet_step (fail)
    quiet_step (fail)
    refine wpQuiet_nil ?_
    intro _ hw'
    obtain ⟨⟨dq, osq⟩, hw''⟩ := hw'
    subst hw''
    go_wp2_with fail
    go_ret
    exact ⟨rfl, HB.out.trans ((below_regrown V2 dq osq).mono HB.out.size)⟩
  · rw [decide_eq_false hm] at c3 c4
    have CC := Lib.hid (And.intro c3 (And.intro c4 (And.intro c5 (And.intro c6 c9))))
    clear c3 c4 c5 c6 c7 c8 c9 hm
    unfold mpV ptV at *
    dsimp only at *
    go_enter Try.func3, Try.ntmps3
    go_wp2_with first
      | ((try rw [hW]); go_at_call 6; with_reducible refine Calls.mono (C1.out _) ?_; rintro e w1 ⟨rfl, b1⟩
         obtain ⟨V1, hV1, k3, b1'⟩ := box2 w1 25 (.int .i64 X) (.int .i64 Y)
         have b11 := b1.trans (b1'.mono b1.size)
         obtain ⟨p0, p1, p2, p3, p4, p5⟩ := Box.six (HK.out.1.below b11 HK.out.1.lt)
         obtain ⟨⟨q0, q1⟩, -⟩ := Box.pair (HK.out.2.1.below b11 HK.out.2.1.lt)
         have K1 := Lib.hid (And.intro k3 b11)
         clear k3 b11 b1 b1')
      | ((try rw [hV1]); go_at_call 7; with_reducible refine Calls.mono (C2.out _) ?_; rintro e w2 ⟨rfl, b2⟩
         obtain ⟨V2, hV2, k4, b2'⟩ := box2 w2 25 (.int .i64 X) (.int .i64 Y)
         have b22 := b2.trans (b2'.mono b2.size)
         have b02 := K1.out.2.trans (b22.mono K1.out.2.size)
         obtain ⟨p0, p1, p2, p3, p4, p5⟩ := Box.six (HK.out.1.below b02 HK.out.1.lt)
         obtain ⟨⟨q0, q1⟩, -⟩ := Box.pair (HK.out.2.1.below b02 HK.out.2.1.lt)
         obtain ⟨⟨r0, r1⟩, -⟩ := Box.pair (K1.out.1.below b22 K1.out.1.lt)
         obtain ⟨⟨s0, s1⟩, -⟩ := Box.pair k4
         have HB := Lib.hid (HK.out.2.2.1.trans (b02.mono HK.out.2.2.1.size))
         clear k4 b22 b02 b2 b2')
    try rw [hV2]
    clear hV2
    have z0 := cell_regrown p0
    have z1 := cell_regrown p1
    have z2 := cell_regrown p2
    have z3 := cell_regrown p3
    have z4 := cell_regrown p4
    have z5 := cell_regrown p5
    have z6 := cell_regrown q0
    have z7 := cell_regrown q1
    have z8 := cell_regrown r0
    have z9 := cell_regrown r1
    have y0 := cell_regrown s0
    have y1 := cell_regrown s1
    obtain ⟨c3, c4, c5, c6, c9⟩ := CC.out
    have D3 := quiet_ofA (W := V2) c3
    have D4 := quiet_ofA (W := V2) c4
    have D5 := quiet_ofA (W := V2) c5
    have D6 := quiet_ofA (W := V2) c6
    have D9 := quiet_ofA (W := V2) c9
    clear c3 c4 c5 c6 c9 CC
    refine wp_region_quiet_below (by kernel_rfl) (by kernel_rfl) ?_
    quiet_step (fail)
    quiet_step (fail)
    quiet_step (fail)
    quiet_step (fail)
    quiet_step (fail)
    quiet_step (fail)
    quiet_step (fail)
    quiet_step (fail)
    quiet_step (fail)
    quiet_step (fail)
    quiet_step (with_reducible exact D3 _ _)
    quiet_step (fail)
    quiet_step (with_reducible exact D4 _ _)
    quiet_step (fail)
    quiet_step (fail)
    quiet_step (fail)
    quiet_step (fail)
    quiet_step (with_reducible exact D5 _ _)
    quiet_step (fail)
    quiet_step (with_reducible exact D6 _ _)
    quiet_step (fail)
    quiet_step (fail)
    quiet_step (fail)
    quiet_step (fail)
    quiet_step (with_reducible exact D4 _ _)
    quiet_step (fail)
    quiet_step (fail)
    go_big_quiet_skip
    go_big_quiet_skip
    go_big_quiet_skip
    go_big_quiet_skip
    go_big_quiet_skip
    go_big_quiet_skip
    go_big_quiet_skip
    go_big_quiet_skip
    go_big_quiet_skip
    go_big_quiet_skip
    go_big_quiet_skip
    go_big_quiet_skip
    go_big_quiet_skip
    go_big_quiet_skip
    go_big_quiet_skip
    go_big_quiet_skip
    go_big_quiet_skip
    go_big_quiet_skip
    go_big_quiet_skip
    go_big_quiet_skip
    go_big_quiet_skip
    go_big_quiet_skip
    go_big_quiet_skip
    go_big_quiet_skip
    go_big_quiet_skip
    go_big_quiet_skip
    go_big_quiet_skip
    go_big_quiet_skip
    go_big_quiet_skip
    go_big_quiet_skip
    quiet_step (fail)
    quiet_step (fail)
    quiet_step (fail)
    quiet_step (with_reducible exact D9 _ _)
    quiet_step (fail)
    quiet_step (fail)
    refine wpQuiet_nil ?_
    intro _ hw'
    obtain ⟨⟨dq, osq⟩, hw''⟩ := hw'
    subst hw''
    go_wp2_with fail
    go_ret
    exact ⟨rfl, HB.out.trans ((below_regrown V2 dq osq).mono HB.out.size)⟩
end Go.Proofs.Ytemipepahglndaa
