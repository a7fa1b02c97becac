/- Colours: the program's own Mix, Over: two colours' parts. Written by gen/genco8.py. -/
import Derived.Test.YtaiinglogpbfjaaCoQ
import Derived.Test.YtaiinglogpbfjaaCoH
import Derived.Test.YtaiinglogpbfjaaCoC
import Derived.Deep.CutRange
namespace Go.Proofs.Ytaiinglogpbfjaa
open Go.RowKit

theorem gotP1 {X Y w' : World} (b : Below Y.heap.size Y w') (h : Y.heap = (X.alloc (.cells #[.int .u8 0, .int .u8 0, .int .u8 0, .int .u8 0] 36)).heap) : Box w' X.heap.size 36 [.int .u8 0, .int .u8 0, .int .u8 0, .int .u8 0] ∧ X.heap.size + 1 ≤ w'.heap.size := by
  have hs : Y.heap.size = X.heap.size + 1 := by rw [h]; simp
  have h1 := b.size
  refine ⟨?_, by omega⟩
  refine (b.block X.heap.size (by omega)).trans ?_
  rw [h]
  exact heap_alloc_new X (.cells #[.int .u8 0, .int .u8 0, .int .u8 0, .int .u8 0] 36)
theorem gotP2 {X Y w' : World} (b : Below Y.heap.size Y w') (h : Y.heap = ((X.alloc (.cells #[.int .u8 0, .int .u8 0, .int .u8 0, .int .u8 0] 36)).alloc (.cells #[.int .u8 0, .int .u8 0, .int .u8 0, .int .u8 0] 36)).heap) : (Box w' X.heap.size 36 [.int .u8 0, .int .u8 0, .int .u8 0, .int .u8 0] ∧ X.heap.size + 1 + 1 ≤ w'.heap.size) ∧ Box w' (X.heap.size + 1) 36 [.int .u8 0, .int .u8 0, .int .u8 0, .int .u8 0] := by
  have hs : Y.heap.size = X.heap.size + 1 + 1 := by rw [h]; simp
  have h1 := b.size
  refine ⟨⟨?_, by omega⟩, ?_⟩
  · refine (b.block X.heap.size (by omega)).trans ?_
    rw [h]
    exact (Below.heap_alloc _ _ _ (by simp)).trans (heap_alloc_new X (.cells #[.int .u8 0, .int .u8 0, .int .u8 0, .int .u8 0] 36))
  · refine (b.block (X.heap.size + 1) (by omega)).trans ?_
    rw [h]
    have := heap_alloc_new (X.alloc (.cells #[.int .u8 0, .int .u8 0, .int .u8 0, .int .u8 0] 36)) (.cells #[.int .u8 0, .int .u8 0, .int .u8 0, .int .u8 0] 36)
    unfold Box at *
    simpa using this
/-- two colours that a call is handed, in boxes of their own, and the box of its answer -/
theorem three_boxes (c d : Col) (w : World) : ∃ W, ((w.alloc (.cells (colCells c).toArray 23)).alloc (.cells (colCells d).toArray 23)).alloc (.cells zero4.toArray 23) = W ∧ Box W w.heap.size 23 (colCells c) ∧ Box W (w.heap.size + 1) 23 (colCells d) ∧ Box W (w.heap.size + 2) 23 zero4 ∧ Below w.heap.size w W ∧ W.heap.size = w.heap.size + 3 :=
  ⟨_, rfl, ((Box.new w _ _).alloc _).alloc _, (Box.at_new _ _ _ (by simp)).alloc _, Box.at_new _ _ _ (by simp), (((Below.refl _ _).alloc (Nat.le_refl _) _).alloc (by simp) _).alloc (by simp; omega) _, by simp⟩

theorem mix_facts (a b n : UInt8) : ∃ (x y z : Nat) (p q : Int), a.toNat = x ∧ b.toNat = y ∧ n.toNat = z ∧ (x : Int) * (255 - (z : Int)) = p ∧ (y : Int) * (z : Int) = q ∧
    IntKind.i64.wrap (x : Int) = (x : Int) ∧ IntKind.i64.wrap (y : Int) = (y : Int) ∧ IntKind.i64.wrap (z : Int) = (z : Int) ∧ IntKind.i64.wrap (255 - (z : Int)) = 255 - (z : Int) ∧ IntKind.i64.wrap p = p ∧ IntKind.i64.wrap q = q ∧ IntKind.i64.wrap (p + q) = p + q ∧ IntKind.u8.wrap (255 - (z : Int)) = 255 - (z : Int) ∧
    (∀ V, Calls Try.prog 6 #[.int .i64 (p + q)] V fun e w' => e = .returned (.int .u8 ((mixU a b n).toNat : Int)) ∧ V = w') := by
  obtain ⟨m1, m2, m3, m4⟩ := mix_bounds a b n
  have ha := a.toNat_lt
  have hb := b.toNat_lt
  have hn := n.toNat_lt
  refine ⟨a.toNat, b.toNat, n.toNat, _, _, rfl, rfl, rfl, rfl, rfl, ?_, ?_, ?_, ?_, ?_, ?_, ?_, ?_, fun V => col_Part0 _ (by omega) (by omega) V⟩
  any_goals exact IntWalk.i64_in _ (by omega)
  exact IntWalk.u8_in _ (by omega)

set_option maxRecDepth 10000 in
set_option maxHeartbeats 6400000 in
theorem col_Mix (c d : Col) (n : UInt8) (w : World) :
    Calls Try.prog 16 #[colV c, colV d, .int .u8 (n.toNat : Int)] w fun e w' => e = .returned (colV (mixC c d n)) ∧ Below w.heap.size w w' := by
  obtain ⟨W, hW, k1, k2, k3, B0, hz⟩ := three_boxes c d w
  have hP := parts_of k1 k2 (Below.refl W.heap.size W)
  have hP' := hP
  obtain ⟨⟨⟨⟨p0, p1, p2, p3⟩, q0, q1, q2, q3⟩, hl⟩, -⟩ := hP'
  have HP := Lib.hid hP
  have HK := Lib.hid (And.intro k1 (And.intro k3 (And.intro B0 hz)))
  clear hP k1 k2 k3 B0
  have C0 := Lib.hid (fun V => col_partsOf c V)
  have C1 := Lib.hid (fun V => col_partsOf d V)
  obtain ⟨X, hX⟩ : ∃ X, mixC c d n = X := ⟨_, rfl⟩
  have HX := Lib.hid hX
  have CC := Lib.hid (fun V => col_colour X V)
  have hz0 : w.heap.size + 2 ≤ W.heap.size := by omega
  have hz1 : w.heap.size ≤ W.heap.size := by omega
  rw [hX]
  clear hz hX
  unfold colV colCells zero4 at *
  go_enter Try.func16, Try.ntmps16
  go_wp2_with fail
  try rw [hW]
  clear hW
  go_cut [7, 8] from 9 (fun v7 v8 wc => ∃ g7 g8, v7 = .pointer (some ⟨g7, 0, none⟩) ∧ v8 = .pointer (some ⟨g8, 0, none⟩) ∧ W.heap.size ≤ g7 ∧ Box wc g7 36 (colCells c) ∧ Box wc g8 36 (colCells d) ∧ (((wc.cell? ⟨w.heap.size, 0, none⟩ = some (.int .u8 (c.r.toNat : Int)) ∧ wc.cell? ⟨w.heap.size, 1, none⟩ = some (.int .u8 (c.g.toNat : Int)) ∧ wc.cell? ⟨w.heap.size, 2, none⟩ = some (.int .u8 (c.b.toNat : Int)) ∧ wc.cell? ⟨w.heap.size, 3, none⟩ = some (.int .u8 (c.a.toNat : Int))) ∧ (wc.cell? ⟨w.heap.size + 1, 0, none⟩ = some (.int .u8 (d.r.toNat : Int)) ∧ wc.cell? ⟨w.heap.size + 1, 1, none⟩ = some (.int .u8 (d.g.toNat : Int)) ∧ wc.cell? ⟨w.heap.size + 1, 2, none⟩ = some (.int .u8 (d.b.toNat : Int)) ∧ wc.cell? ⟨w.heap.size + 1, 3, none⟩ = some (.int .u8 (d.a.toNat : Int)))) ∧ w.heap.size + 1 < wc.heap.size) ∧ Below W.heap.size W wc)
  case first =>
    have P0 := Lib.hid (parts_drew HP.out)
    go_region_held3 (fun w' => (((w'.cell? ⟨w.heap.size, 0, none⟩ = some (.int .u8 (c.r.toNat : Int)) ∧ w'.cell? ⟨w.heap.size, 1, none⟩ = some (.int .u8 (c.g.toNat : Int)) ∧ w'.cell? ⟨w.heap.size, 2, none⟩ = some (.int .u8 (c.b.toNat : Int)) ∧ w'.cell? ⟨w.heap.size, 3, none⟩ = some (.int .u8 (c.a.toNat : Int))) ∧ (w'.cell? ⟨w.heap.size + 1, 0, none⟩ = some (.int .u8 (d.r.toNat : Int)) ∧ w'.cell? ⟨w.heap.size + 1, 1, none⟩ = some (.int .u8 (d.g.toNat : Int)) ∧ w'.cell? ⟨w.heap.size + 1, 2, none⟩ = some (.int .u8 (d.b.toNat : Int)) ∧ w'.cell? ⟨w.heap.size + 1, 3, none⟩ = some (.int .u8 (d.a.toNat : Int)))) ∧ w.heap.size + 1 < w'.heap.size) ∧ Below W.heap.size W w')
      (first | (with_reducible exact P0.out) | (with_reducible exact HP.out) | (with_reducible exact P1.out) | (with_reducible exact P2.out) | (with_reducible exact parts_alloc P0.out _) | (with_reducible exact parts_alloc P1.out _) | (with_reducible exact parts_alloc P2.out _) | (with_reducible exact parts_alloc (parts_alloc P0.out _) _) | (with_reducible exact parts_alloc (parts_alloc P1.out _) _) | (with_reducible exact parts_alloc (parts_alloc P2.out _) _) | (with_reducible exact parts_set4 P2.out _ _ _ _ _ (by omega) (by omega)) | (with_reducible exact parts_alloc (parts_set4 P2.out _ _ _ _ _ (by omega) (by omega)) _) | (with_reducible exact parts_set4 (parts_set4 P2.out _ _ _ _ _ (by omega) (by omega)) _ _ _ _ _ (by omega) (by omega)) | (with_reducible exact parts_alloc HP.out _) | (with_reducible exact parts_alloc (parts_alloc HP.out _) _) | (with_reducible exact parts_drew (parts_alloc HP.out _)) | (with_reducible exact parts_drew (parts_alloc (parts_alloc HP.out _) _)) | (with_reducible exact parts_alloc (parts_drew (parts_alloc HP.out _)) _))
      ((first
        | (go_at_call 21; (with_reducible refine Calls.mono (C0.out _) ?_); rintro e w1 ⟨rfl, b1⟩
           have P1 := Lib.hid (parts_on (g := w.heap.size) (v := W) (c := c) (d := d) (by assumption) b1)
           (first
            | (guard_hyp b1 : Below W.drew.heap.size W.drew w1; have s1 : W.heap.size ≤ w1.heap.size := b1.size)
            | (guard_hyp b1 : Below (W.alloc (.cells #[.int .u8 0, .int .u8 0, .int .u8 0, .int .u8 0] 36)).drew.heap.size (W.alloc (.cells #[.int .u8 0, .int .u8 0, .int .u8 0, .int .u8 0] 36)).drew w1; obtain ⟨kA, s1⟩ := gotP1 (X := W) b1 rfl)
            | (obtain ⟨⟨kA, s1⟩, kB⟩ := gotP2 (X := W) b1 rfl)))
        | (go_at_call 21; (with_reducible refine Calls.mono (C1.out _) ?_); rintro e w2 ⟨rfl, b2⟩
           have P2 := Lib.hid (parts_on (g := w.heap.size) (v := W) (c := c) (d := d) (by assumption) b2)
           (first
            | (guard_hyp b2 : Below w1.heap.size w1 w2; have s2 : w1.heap.size ≤ w2.heap.size := b2.size; have c2 : Below w1.heap.size w1 w2 := b2)
            | (guard_hyp b2 : Below (w1.alloc (.cells #[.int .u8 0, .int .u8 0, .int .u8 0, .int .u8 0] 36)).heap.size (w1.alloc (.cells #[.int .u8 0, .int .u8 0, .int .u8 0, .int .u8 0] 36)) w2; obtain ⟨kC, s2⟩ := gotP1 (X := w1) b2 rfl; have c2 : Below w1.heap.size w1 w2 := ((Below.refl _ _).alloc (Nat.le_refl _) _).trans (b2.mono (by simp)); obtain ⟨⟨z0, z1, z2, z3⟩, y0, y1, y2, y3⟩ := Box.four kC; have lkC := kC.lt; have mkC := kC.alloc (.cells #[.int .u8 0, .int .u8 0, .int .u8 0, .int .u8 0] 36); obtain ⟨⟨z0, z1, z2, z3⟩, y0, y1, y2, y3⟩ := Box.four mkC)
            | (obtain ⟨⟨kC, s2⟩, kD⟩ := gotP2 (X := w1) b2 rfl; have c2 : Below w1.heap.size w1 w2 := (((Below.refl _ _).alloc (Nat.le_refl _) _).alloc (by simp) _).trans (b2.mono (by simp; omega)); obtain ⟨⟨z0, z1, z2, z3⟩, y0, y1, y2, y3⟩ := Box.four kC; have lkC := kC.lt; have mkC := kC.alloc (.cells #[.int .u8 0, .int .u8 0, .int .u8 0, .int .u8 0] 36); obtain ⟨⟨z0, z1, z2, z3⟩, y0, y1, y2, y3⟩ := Box.four mkC; obtain ⟨⟨z0, z1, z2, z3⟩, y0, y1, y2, y3⟩ := Box.four kD; have lkD := kD.lt; have mkD := kD.alloc (.cells #[.int .u8 0, .int .u8 0, .int .u8 0, .int .u8 0] 36); obtain ⟨⟨z0, z1, z2, z3⟩, y0, y1, y2, y3⟩ := Box.four mkD))
           (first
            | (guard_hyp b1 : Below W.drew.heap.size W.drew w1)
            | (guard_hyp b1 : Below (W.alloc (.cells #[.int .u8 0, .int .u8 0, .int .u8 0, .int .u8 0] 36)).drew.heap.size (W.alloc (.cells #[.int .u8 0, .int .u8 0, .int .u8 0, .int .u8 0] 36)).drew w1; have lA := kA.lt; have kX := kA.below c2 kA.lt; obtain ⟨⟨z0, z1, z2, z3⟩, y0, y1, y2, y3⟩ := Box.four kX; have lkX := kX.lt; have mkX := kX.alloc (.cells #[.int .u8 0, .int .u8 0, .int .u8 0, .int .u8 0] 36); obtain ⟨⟨z0, z1, z2, z3⟩, y0, y1, y2, y3⟩ := Box.four mkX)
            | (have lA := kA.lt; have kX := kA.below c2 kA.lt; have lB := kB.lt; have kY := kB.below c2 kB.lt; obtain ⟨⟨z0, z1, z2, z3⟩, y0, y1, y2, y3⟩ := Box.four kX; have lkX := kX.lt; have mkX := kX.alloc (.cells #[.int .u8 0, .int .u8 0, .int .u8 0, .int .u8 0] 36); obtain ⟨⟨z0, z1, z2, z3⟩, y0, y1, y2, y3⟩ := Box.four mkX; obtain ⟨⟨z0, z1, z2, z3⟩, y0, y1, y2, y3⟩ := Box.four kY; have lkY := kY.lt; have mkY := kY.alloc (.cells #[.int .u8 0, .int .u8 0, .int .u8 0, .int .u8 0] 36); obtain ⟨⟨z0, z1, z2, z3⟩, y0, y1, y2, y3⟩ := Box.four mkY)))))
    all_goals
      go_wp2_with fail
      go_meet
      refine ⟨_, _, rfl, rfl, ?_, ?_, ?_, by assumption⟩
      · first | (simp; done) | omega | (simp; omega)
      all_goals
        unfold colCells
        first
          | (with_reducible exact Box.new _ _ _)
          | (with_reducible exact (Box.new _ _ _).alloc _)
          | (with_reducible exact Box.at_new _ _ _ (by simp))
          | (with_reducible exact Box.at_new _ _ _ (by simp [World.setCell]))
          | (with_reducible exact (kX.put4 _ _ _ _).alloc _)
          | (with_reducible exact (kY.put4 _ _ _ _).alloc _)
          | (with_reducible exact (kC.put4 _ _ _ _).alloc _)
          | (with_reducible exact (kD.put4 _ _ _ _).alloc _)
          | (with_reducible exact (kX.far4 (by omega) _ _ _ _).put4 _ _ _ _)
          | (with_reducible exact (kX.put4 _ _ _ _).far4 (by omega) _ _ _ _)
          | (with_reducible exact (kY.far4 (by omega) _ _ _ _).put4 _ _ _ _)
          | (with_reducible exact (kY.put4 _ _ _ _).far4 (by omega) _ _ _ _)
          | (with_reducible exact (kC.far4 (by omega) _ _ _ _).put4 _ _ _ _)
          | (with_reducible exact (kC.put4 _ _ _ _).far4 (by omega) _ _ _ _)
          | (with_reducible exact (kD.far4 (by omega) _ _ _ _).put4 _ _ _ _)
          | (with_reducible exact (kD.put4 _ _ _ _).far4 (by omega) _ _ _ _)
  case rest =>
    obtain ⟨g7, g8, rfl, rfl, hg7, k7, k8, -, hB⟩ := hcut
    obtain ⟨k1, k3, B0, hz⟩ := HK.out
    have kA := k1.below hB (by omega)
    have kR := k3.below hB (by omega)
    have kB := B0.trans (hB.mono (by omega))
    obtain ⟨⟨x0, x1, x2, x3⟩, -⟩ := Box.four k8
    have kG := Lib.hid (And.intro k7 (And.intro kA (And.intro kR kB)))
    have hg : w.heap.size + 3 ≤ g7 := by omega
    clear k7 k8 k1 k3 B0 hz hz0 hz1 kA kR kB hl hB p0 p1 p2 p3 q0 q1 q2 q3 HP HK C0 C1 hg7
    go_wp2_with fail
    go_loopg [9, 10, 16] 4 (fun gh _ _ it wr => ∃ k : Nat, it = .int .i64 (k : Int) ∧ gh + k = 4 ∧ Box wr g7 36 (half4 X c k) ∧ Box wr w.heap.size 23 (colCells c) ∧ Box wr (w.heap.size + 2) 23 zero4 ∧ Below w.heap.size w wr)
    case atStart => exact ⟨0, rfl, rfl, kG.out.1, kG.out.2.1, kG.out.2.2.1, kG.out.2.2.2⟩
    case round =>
      obtain ⟨k, rfl, hgk, hbox, hcol, hres, hB⟩ := hrel
      have hB := Lib.hid hB
      have hres := Lib.hid hres
      have hk5 : k = 0 ∨ k = 1 ∨ k = 2 ∨ k = 3 ∨ k = 4 := by omega
      clear kG
      rcases hk5 with rfl | rfl | rfl | rfl | rfl
      · obtain ⟨x, y, z, p, q, hxe, hye, hze, hp, hq, s1, s2, s3, s4, s5, s6, s7, s8, CP⟩ := mix_facts c.r d.r n
        have ix : ∀ W, (Instr.index 36 (.agg #[.int .u8 (d.r.toNat : Int), .int .u8 (d.g.toNat : Int), .int .u8 (d.b.toNat : Int), .int .u8 (d.a.toNat : Int)]) (.int .i64 0)).run Try.prog W = .ok (.int .u8 (y : Int)) W := fun W => by rw [← hye]; exact parts_index (.int .u8 (d.r.toNat : Int)) (.int .u8 (d.g.toNat : Int)) (.int .u8 (d.b.toNat : Int)) (.int .u8 (d.a.toNat : Int)) 0 _ rfl W
        have hcell := hbox.cell 0 rfl
        have hfro := hbox.frozen 0
        have kn := Lib.hid (half4_step X c (by omega) wr g7 36 hbox (.int .u8 (X.r.toNat : Int)) rfl)
        have hx : mixU c.r d.r n = X.r := by rw [← HX.out]; rfl
        clear hbox
        rw [hx] at CP
        rw [hxe] at hcell
        have hx2 := Lib.hid hx
        clear hx hxe hye
        try rw [hze]
        go_wp2_with (go_at_call 6; (try rw [hp]); (try rw [s5]); (try rw [hq]); (try rw [s6]); (try rw [s7]); (with_reducible refine Calls.mono (CP _) ?_); rintro e w1 ⟨rfl, rfl⟩)
        subst hze
        go_roundg 3
        case measure => omega
        case rel => exact ⟨1, rfl, by omega, kn.out, hcol.far (by simp; omega) _, hres.out.far (by simp; omega) _, hB.out.setCell (by simp; omega) _⟩
      · obtain ⟨x, y, z, p, q, hxe, hye, hze, hp, hq, s1, s2, s3, s4, s5, s6, s7, s8, CP⟩ := mix_facts c.g d.g n
        have ix : ∀ W, (Instr.index 36 (.agg #[.int .u8 (d.r.toNat : Int), .int .u8 (d.g.toNat : Int), .int .u8 (d.b.toNat : Int), .int .u8 (d.a.toNat : Int)]) (.int .i64 1)).run Try.prog W = .ok (.int .u8 (y : Int)) W := fun W => by rw [← hye]; exact parts_index (.int .u8 (d.r.toNat : Int)) (.int .u8 (d.g.toNat : Int)) (.int .u8 (d.b.toNat : Int)) (.int .u8 (d.a.toNat : Int)) 1 _ rfl W
        have hcell := hbox.cell 1 rfl
        have hfro := hbox.frozen 1
        have kn := Lib.hid (half4_step X c (by omega) wr g7 36 hbox (.int .u8 (X.g.toNat : Int)) rfl)
        have hx : mixU c.g d.g n = X.g := by rw [← HX.out]; rfl
        clear hbox
        rw [hx] at CP
        rw [hxe] at hcell
        have hx2 := Lib.hid hx
        clear hx hxe hye
        try rw [hze]
        go_wp2_with (go_at_call 6; (try rw [hp]); (try rw [s5]); (try rw [hq]); (try rw [s6]); (try rw [s7]); (with_reducible refine Calls.mono (CP _) ?_); rintro e w1 ⟨rfl, rfl⟩)
        subst hze
        go_roundg 2
        case measure => omega
        case rel => exact ⟨2, rfl, by omega, kn.out, hcol.far (by simp; omega) _, hres.out.far (by simp; omega) _, hB.out.setCell (by simp; omega) _⟩
      · obtain ⟨x, y, z, p, q, hxe, hye, hze, hp, hq, s1, s2, s3, s4, s5, s6, s7, s8, CP⟩ := mix_facts c.b d.b n
        have ix : ∀ W, (Instr.index 36 (.agg #[.int .u8 (d.r.toNat : Int), .int .u8 (d.g.toNat : Int), .int .u8 (d.b.toNat : Int), .int .u8 (d.a.toNat : Int)]) (.int .i64 2)).run Try.prog W = .ok (.int .u8 (y : Int)) W := fun W => by rw [← hye]; exact parts_index (.int .u8 (d.r.toNat : Int)) (.int .u8 (d.g.toNat : Int)) (.int .u8 (d.b.toNat : Int)) (.int .u8 (d.a.toNat : Int)) 2 _ rfl W
        have hcell := hbox.cell 2 rfl
        have hfro := hbox.frozen 2
        have kn := Lib.hid (half4_step X c (by omega) wr g7 36 hbox (.int .u8 (X.b.toNat : Int)) rfl)
        have hx : mixU c.b d.b n = X.b := by rw [← HX.out]; rfl
        clear hbox
        rw [hx] at CP
        rw [hxe] at hcell
        have hx2 := Lib.hid hx
        clear hx hxe hye
        try rw [hze]
        go_wp2_with (go_at_call 6; (try rw [hp]); (try rw [s5]); (try rw [hq]); (try rw [s6]); (try rw [s7]); (with_reducible refine Calls.mono (CP _) ?_); rintro e w1 ⟨rfl, rfl⟩)
        subst hze
        go_roundg 1
        case measure => omega
        case rel => exact ⟨3, rfl, by omega, kn.out, hcol.far (by simp; omega) _, hres.out.far (by simp; omega) _, hB.out.setCell (by simp; omega) _⟩
      · obtain ⟨x, y, z, p, q, hxe, hye, hze, hp, hq, s1, s2, s3, s4, s5, s6, s7, s8, CP⟩ := mix_facts c.a d.a n
        have ix : ∀ W, (Instr.index 36 (.agg #[.int .u8 (d.r.toNat : Int), .int .u8 (d.g.toNat : Int), .int .u8 (d.b.toNat : Int), .int .u8 (d.a.toNat : Int)]) (.int .i64 3)).run Try.prog W = .ok (.int .u8 (y : Int)) W := fun W => by rw [← hye]; exact parts_index (.int .u8 (d.r.toNat : Int)) (.int .u8 (d.g.toNat : Int)) (.int .u8 (d.b.toNat : Int)) (.int .u8 (d.a.toNat : Int)) 3 _ rfl W
        have hcell := hbox.cell 3 rfl
        have hfro := hbox.frozen 3
        have kn := Lib.hid (half4_step X c (by omega) wr g7 36 hbox (.int .u8 (X.a.toNat : Int)) rfl)
        have hx : mixU c.a d.a n = X.a := by rw [← HX.out]; rfl
        clear hbox
        rw [hx] at CP
        rw [hxe] at hcell
        have hx2 := Lib.hid hx
        clear hx hxe hye
        try rw [hze]
        go_wp2_with (go_at_call 6; (try rw [hp]); (try rw [s5]); (try rw [hq]); (try rw [s6]); (try rw [s7]); (with_reducible refine Calls.mono (CP _) ?_); rintro e w1 ⟨rfl, rfl⟩)
        subst hze
        go_roundg 0
        case measure => omega
        case rel => exact ⟨4, rfl, by omega, kn.out, hcol.far (by simp; omega) _, hres.out.far (by simp; omega) _, hB.out.setCell (by simp; omega) _⟩
      · rw [half4_4] at hbox
        obtain ⟨⟨u0, u1, u2, u3⟩, -⟩ := Box.four hbox
        have hr := hres
        clear hbox hres
        go_wp2_with (go_at_call 22; (with_reducible refine Calls.mono (CC.out _) ?_); rintro e w2 ⟨rfl, hB3⟩; have hx := hr.out.below hB3 hr.out.lt; obtain ⟨⟨q0, q1, q2, q3⟩, f0, f1, f2, f3⟩ := Box.four hx; have hx2 := Lib.hid (And.intro hx hB3); clear hx hB3)
        obtain ⟨hx, hB3⟩ := hx2.out
        obtain ⟨U, hU, kU, bU⟩ := hx.stored (.int .u8 (X.r.toNat : Int)) (.int .u8 (X.g.toNat : Int)) (.int .u8 (X.b.toNat : Int)) (.int .u8 (X.a.toNat : Int))
        rw [hU]
        have hB4 := ((hB.out.trans (hB3.mono (by have := hr.out.lt; omega))).trans (bU w.heap.size (by omega)))
        obtain ⟨⟨v0, v1, v2, v3⟩, -⟩ := Box.four kU
        exact bodyPost_ret (by simp [results, Try.results16, go_sem, v0, v1, v2, v3]) rfl ⟨rfl, hB4⟩

end Go.Proofs.Ytaiinglogpbfjaa
