/- The walk of ColourKeeps. Written by gen/genck.py. -/
import Derived.Test.YtaiinglogpbfjaaCoF
import Derived.Deep.CutRange
namespace Go.Proofs.Ytaiinglogpbfjaa
open Go.RowKit

set_option maxRecDepth 10000 in
set_option maxHeartbeats 6400000 in
theorem walk_ColourKeeps (c d : Col) (n : UInt8) (w : World) : Calls Try.prog 5 #[colV c, colV d, .int .u8 (n.toNat : Int)] w fun e w' => e = .returned (.bool true) ∧ Below w.heap.size w w' := by
  obtain ⟨W, hW, k1, k2, B0, hz⟩ := two_boxes c d w
  have hP := parts_of k1 k2 B0
  have hP' := hP
  obtain ⟨⟨⟨⟨p0, p1, p2, p3⟩, q0, q1, q2, q3⟩, hl⟩, -⟩ := hP'
  have HP := Lib.hid hP
  clear hP k1 k2 B0
  obtain ⟨x, hx⟩ : ∃ x, weighC c = x := ⟨_, rfl⟩
  obtain ⟨y, hy⟩ : ∃ x, weighC d = x := ⟨_, rfl⟩
  have C0 := Lib.hid (fun V => col_Weigh c V)
  have C1 := Lib.hid (fun V => col_Weigh d V)
  rw [hx] at C0
  rw [hy] at C1
  have HX := Lib.hid (And.intro hx hy)
  clear hx hy
  have hz0 : w.heap.size + 2 ≤ W.heap.size := by omega
  have hz1 : w.heap.size ≤ W.heap.size := by omega
  clear hz
  unfold colV colCells at *
  go_enter Try.func5, Try.ntmps5
  go_wp2_with fail
  try rw [hW]
  clear hW
  go_cut [7, 8] from 9 (fun v7 v8 wc => ∃ g7 g8, v7 = .pointer (some ⟨g7, 0, none⟩) ∧ v8 = .pointer (some ⟨g8, 0, none⟩) ∧ Box wc g7 23 (colCells x) ∧ Box wc g8 23 (colCells y) ∧ (((wc.cell? ⟨w.heap.size, 0, none⟩ = some (.int .u8 (c.r.toNat : Int)) ∧ wc.cell? ⟨w.heap.size, 1, none⟩ = some (.int .u8 (c.g.toNat : Int)) ∧ wc.cell? ⟨w.heap.size, 2, none⟩ = some (.int .u8 (c.b.toNat : Int)) ∧ wc.cell? ⟨w.heap.size, 3, none⟩ = some (.int .u8 (c.a.toNat : Int))) ∧ (wc.cell? ⟨w.heap.size + 1, 0, none⟩ = some (.int .u8 (d.r.toNat : Int)) ∧ wc.cell? ⟨w.heap.size + 1, 1, none⟩ = some (.int .u8 (d.g.toNat : Int)) ∧ wc.cell? ⟨w.heap.size + 1, 2, none⟩ = some (.int .u8 (d.b.toNat : Int)) ∧ wc.cell? ⟨w.heap.size + 1, 3, none⟩ = some (.int .u8 (d.a.toNat : Int)))) ∧ w.heap.size + 1 < wc.heap.size) ∧ Below w.heap.size w wc)
  case first =>
    have P0 := Lib.hid (parts_drew HP.out)
    go_region_held3 (fun w' => (((w'.cell? ⟨w.heap.size, 0, none⟩ = some (.int .u8 (c.r.toNat : Int)) ∧ w'.cell? ⟨w.heap.size, 1, none⟩ = some (.int .u8 (c.g.toNat : Int)) ∧ w'.cell? ⟨w.heap.size, 2, none⟩ = some (.int .u8 (c.b.toNat : Int)) ∧ w'.cell? ⟨w.heap.size, 3, none⟩ = some (.int .u8 (c.a.toNat : Int))) ∧ (w'.cell? ⟨w.heap.size + 1, 0, none⟩ = some (.int .u8 (d.r.toNat : Int)) ∧ w'.cell? ⟨w.heap.size + 1, 1, none⟩ = some (.int .u8 (d.g.toNat : Int)) ∧ w'.cell? ⟨w.heap.size + 1, 2, none⟩ = some (.int .u8 (d.b.toNat : Int)) ∧ w'.cell? ⟨w.heap.size + 1, 3, none⟩ = some (.int .u8 (d.a.toNat : Int)))) ∧ w.heap.size + 1 < w'.heap.size) ∧ Below w.heap.size w w')
      (first | (with_reducible exact P0.out) | (with_reducible exact HP.out) | (with_reducible exact P1.out) | (with_reducible exact P2.out) | (with_reducible exact parts_alloc P0.out _) | (with_reducible exact parts_alloc P1.out _) | (with_reducible exact parts_alloc P2.out _) | (with_reducible exact parts_alloc (parts_alloc P0.out _) _) | (with_reducible exact parts_alloc (parts_alloc P1.out _) _) | (with_reducible exact parts_alloc (parts_alloc P2.out _) _) | (with_reducible exact parts_set4 P2.out _ _ _ _ _ (by omega) (by omega)) | (with_reducible exact parts_alloc (parts_set4 P2.out _ _ _ _ _ (by omega) (by omega)) _) | (with_reducible exact parts_set4 (parts_set4 P2.out _ _ _ _ _ (by omega) (by omega)) _ _ _ _ _ (by omega) (by omega)) | (with_reducible exact parts_alloc HP.out _) | (with_reducible exact parts_alloc (parts_alloc HP.out _) _) | (with_reducible exact parts_drew (parts_alloc HP.out _)) | (with_reducible exact parts_drew (parts_alloc (parts_alloc HP.out _) _)) | (with_reducible exact parts_alloc (parts_drew (parts_alloc HP.out _)) _))
      ((first
        | (go_at_call 10; (with_reducible refine Calls.mono (C0.out _) ?_); rintro e w1 ⟨rfl, b1⟩
           have P1 := Lib.hid (parts_on (g := w.heap.size) (v := w) (c := c) (d := d) (by assumption) b1)
           (first
            | (guard_hyp b1 : Below W.drew.heap.size W.drew w1; have s1 : W.heap.size ≤ w1.heap.size := b1.size)
            | (guard_hyp b1 : Below (W.alloc (.cells #[.int .u8 0, .int .u8 0, .int .u8 0, .int .u8 0] 23)).drew.heap.size (W.alloc (.cells #[.int .u8 0, .int .u8 0, .int .u8 0, .int .u8 0] 23)).drew w1; obtain ⟨kA, s1⟩ := gotC1 (X := W) b1 rfl)
            | (obtain ⟨⟨kA, s1⟩, kB⟩ := gotC2 (X := W) b1 rfl)))
        | (go_at_call 10; (with_reducible refine Calls.mono (C1.out _) ?_); rintro e w2 ⟨rfl, b2⟩
           have P2 := Lib.hid (parts_on (g := w.heap.size) (v := w) (c := c) (d := d) (by assumption) b2)
           (first
            | (guard_hyp b2 : Below w1.heap.size w1 w2; have s2 : w1.heap.size ≤ w2.heap.size := b2.size; have c2 : Below w1.heap.size w1 w2 := b2)
            | (guard_hyp b2 : Below (w1.alloc (.cells #[.int .u8 0, .int .u8 0, .int .u8 0, .int .u8 0] 23)).heap.size (w1.alloc (.cells #[.int .u8 0, .int .u8 0, .int .u8 0, .int .u8 0] 23)) w2; obtain ⟨kC, s2⟩ := gotC1 (X := w1) b2 rfl; have c2 : Below w1.heap.size w1 w2 := ((Below.refl _ _).alloc (Nat.le_refl _) _).trans (b2.mono (by simp)); obtain ⟨⟨z0, z1, z2, z3⟩, y0, y1, y2, y3⟩ := Box.four kC; have lkC := kC.lt; have mkC := kC.alloc (.cells #[.int .u8 0, .int .u8 0, .int .u8 0, .int .u8 0] 23); obtain ⟨⟨z0, z1, z2, z3⟩, y0, y1, y2, y3⟩ := Box.four mkC)
            | (obtain ⟨⟨kC, s2⟩, kD⟩ := gotC2 (X := w1) b2 rfl; have c2 : Below w1.heap.size w1 w2 := (((Below.refl _ _).alloc (Nat.le_refl _) _).alloc (by simp) _).trans (b2.mono (by simp; omega)); obtain ⟨⟨z0, z1, z2, z3⟩, y0, y1, y2, y3⟩ := Box.four kC; have lkC := kC.lt; have mkC := kC.alloc (.cells #[.int .u8 0, .int .u8 0, .int .u8 0, .int .u8 0] 23); obtain ⟨⟨z0, z1, z2, z3⟩, y0, y1, y2, y3⟩ := Box.four mkC; obtain ⟨⟨z0, z1, z2, z3⟩, y0, y1, y2, y3⟩ := Box.four kD; have lkD := kD.lt; have mkD := kD.alloc (.cells #[.int .u8 0, .int .u8 0, .int .u8 0, .int .u8 0] 23); obtain ⟨⟨z0, z1, z2, z3⟩, y0, y1, y2, y3⟩ := Box.four mkD))
           (first
            | (guard_hyp b1 : Below W.drew.heap.size W.drew w1)
            | (guard_hyp b1 : Below (W.alloc (.cells #[.int .u8 0, .int .u8 0, .int .u8 0, .int .u8 0] 23)).drew.heap.size (W.alloc (.cells #[.int .u8 0, .int .u8 0, .int .u8 0, .int .u8 0] 23)).drew w1; have lA := kA.lt; have kX := kA.below c2 kA.lt; obtain ⟨⟨z0, z1, z2, z3⟩, y0, y1, y2, y3⟩ := Box.four kX; have lkX := kX.lt; have mkX := kX.alloc (.cells #[.int .u8 0, .int .u8 0, .int .u8 0, .int .u8 0] 23); obtain ⟨⟨z0, z1, z2, z3⟩, y0, y1, y2, y3⟩ := Box.four mkX)
            | (have lA := kA.lt; have kX := kA.below c2 kA.lt; have lB := kB.lt; have kY := kB.below c2 kB.lt; obtain ⟨⟨z0, z1, z2, z3⟩, y0, y1, y2, y3⟩ := Box.four kX; have lkX := kX.lt; have mkX := kX.alloc (.cells #[.int .u8 0, .int .u8 0, .int .u8 0, .int .u8 0] 23); obtain ⟨⟨z0, z1, z2, z3⟩, y0, y1, y2, y3⟩ := Box.four mkX; obtain ⟨⟨z0, z1, z2, z3⟩, y0, y1, y2, y3⟩ := Box.four kY; have lkY := kY.lt; have mkY := kY.alloc (.cells #[.int .u8 0, .int .u8 0, .int .u8 0, .int .u8 0] 23); obtain ⟨⟨z0, z1, z2, z3⟩, y0, y1, y2, y3⟩ := Box.four mkY)))))
    all_goals
      go_wp2_with fail
      go_meet
      refine ⟨_, _, rfl, rfl, ?_, ?_, by assumption⟩
      all_goals
        unfold colCells
        first
          | (with_reducible exact Box.new _ _ _)
          | (with_reducible exact (Box.new _ _ _).alloc _)
          | (with_reducible exact Box.at_new _ _ _ (by simp))
          | (with_reducible exact Box.at_new _ _ _ (by simp [World.setCell]))
          | (with_reducible exact (kX.put4 _ _ _ _).alloc _)
          | (with_reducible exact (kY.put4 _ _ _ _).alloc _)
          | (with_reducible exact (kC.put4 _ _ _ _).alloc _)
          | (with_reducible exact (kD.put4 _ _ _ _).alloc _)
          | (with_reducible exact (kX.far4 (by omega) _ _ _ _).put4 _ _ _ _)
          | (with_reducible exact (kX.put4 _ _ _ _).far4 (by omega) _ _ _ _)
          | (with_reducible exact (kY.far4 (by omega) _ _ _ _).put4 _ _ _ _)
          | (with_reducible exact (kY.put4 _ _ _ _).far4 (by omega) _ _ _ _)
          | (with_reducible exact (kC.far4 (by omega) _ _ _ _).put4 _ _ _ _)
          | (with_reducible exact (kC.put4 _ _ _ _).far4 (by omega) _ _ _ _)
          | (with_reducible exact (kD.far4 (by omega) _ _ _ _).put4 _ _ _ _)
          | (with_reducible exact (kD.put4 _ _ _ _).far4 (by omega) _ _ _ _)
  case rest =>
    obtain ⟨g7, g8, rfl, rfl, k7, k8, ⟨⟨⟨c0, c1, c2, c3⟩, d0, d1, d2, d3⟩, hl2⟩, hB⟩ := hcut
    have L3 : Lies wc w.heap.size c := ⟨⟨c0, c1, c2, c3⟩, by omega⟩
    have L4 : Lies wc (w.heap.size + 1) d := ⟨⟨d0, d1, d2, d3⟩, hl2⟩
    have L7 := Lies.box k7
    have L8 := Lies.box k8
    obtain ⟨⟨x0, x1, x2, x3⟩, -⟩ := L7
    obtain ⟨⟨y0, y1, y2, y3⟩, -⟩ := L8
    obtain ⟨z, hz⟩ : ∃ z, weighC ⟨c.r, c.g, c.b, 255⟩ = z := ⟨_, rfl⟩
    have hza : z.a = 255 := by rw [← hz]; rfl
    have mx : mayC x = true := by rw [← HX.out.1]; exact may_weigh c
    have my : mayC y = true := by rw [← HX.out.2]; exact may_weigh d
    obtain ⟨o, ho⟩ : ∃ o, overC x y = o := ⟨_, rfl⟩
    have mo : mayC o = true := by rw [← ho]; exact may_over mx my
    obtain ⟨q, hq⟩ : ∃ q, fadeC x n = q := ⟨_, rfl⟩
    have mq : mayC q = true := by rw [← hq]; exact may_fade mx n
    have hcov : (x.a.toNat : Int) ≤ (o.a.toNat : Int) := by rw [← ho]; have := over_covers x y; omega
    have Ez := Lib.hid (show ∀ V, Calls Try.prog 10 #[.agg #[.int .u8 (c.r.toNat : Int), .int .u8 (c.g.toNat : Int), .int .u8 (c.b.toNat : Int), .int .u8 255]] V (fun e w' => e = .returned (.agg #[.int .u8 (z.r.toNat : Int), .int .u8 (z.g.toNat : Int), .int .u8 (z.b.toNat : Int), .int .u8 (z.a.toNat : Int)]) ∧ Below V.heap.size V w') from fun V => by have h := col_Weigh ⟨c.r, c.g, c.b, 255⟩ V; rw [hz] at h; exact h)
    have Ex := Lib.hid (show ∀ V, Calls Try.prog 12 #[.agg #[.int .u8 (x.r.toNat : Int), .int .u8 (x.g.toNat : Int), .int .u8 (x.b.toNat : Int), .int .u8 (x.a.toNat : Int)]] V (fun e w' => e = .returned (.bool true) ∧ Below V.heap.size V w') from fun V => by have h := col_May x V; rw [mx] at h; exact h)
    have Eo := Lib.hid (show ∀ V, Calls Try.prog 12 #[.agg #[.int .u8 (o.r.toNat : Int), .int .u8 (o.g.toNat : Int), .int .u8 (o.b.toNat : Int), .int .u8 (o.a.toNat : Int)]] V (fun e w' => e = .returned (.bool true) ∧ Below V.heap.size V w') from fun V => by have h := col_May o V; rw [mo] at h; exact h)
    have Eq := Lib.hid (show ∀ V, Calls Try.prog 12 #[.agg #[.int .u8 (q.r.toNat : Int), .int .u8 (q.g.toNat : Int), .int .u8 (q.b.toNat : Int), .int .u8 (q.a.toNat : Int)]] V (fun e w' => e = .returned (.bool true) ∧ Below V.heap.size V w') from fun V => by have h := col_May q V; rw [mq] at h; exact h)
    have Exy := Lib.hid (show ∀ V, Calls Try.prog 19 #[.agg #[.int .u8 (x.r.toNat : Int), .int .u8 (x.g.toNat : Int), .int .u8 (x.b.toNat : Int), .int .u8 (x.a.toNat : Int)], .agg #[.int .u8 (y.r.toNat : Int), .int .u8 (y.g.toNat : Int), .int .u8 (y.b.toNat : Int), .int .u8 (y.a.toNat : Int)]] V (fun e w' => e = .returned (.agg #[.int .u8 (o.r.toNat : Int), .int .u8 (o.g.toNat : Int), .int .u8 (o.b.toNat : Int), .int .u8 (o.a.toNat : Int)]) ∧ Below V.heap.size V w') from fun V => by have h := col_Over x y V; rw [ho] at h; exact h)
    have Ezy := Lib.hid (show ∀ V, Calls Try.prog 19 #[.agg #[.int .u8 (z.r.toNat : Int), .int .u8 (z.g.toNat : Int), .int .u8 (z.b.toNat : Int), .int .u8 (z.a.toNat : Int)], .agg #[.int .u8 (y.r.toNat : Int), .int .u8 (y.g.toNat : Int), .int .u8 (y.b.toNat : Int), .int .u8 (y.a.toNat : Int)]] V (fun e w' => e = .returned (.agg #[.int .u8 (z.r.toNat : Int), .int .u8 (z.g.toNat : Int), .int .u8 (z.b.toNat : Int), .int .u8 (z.a.toNat : Int)]) ∧ Below V.heap.size V w') from fun V => by have h := col_Over z y V; rw [over_all z y hza] at h; exact h)
    have E0y := Lib.hid (show ∀ V, Calls Try.prog 19 #[.agg #[.int .u8 0, .int .u8 0, .int .u8 0, .int .u8 0], .agg #[.int .u8 (y.r.toNat : Int), .int .u8 (y.g.toNat : Int), .int .u8 (y.b.toNat : Int), .int .u8 (y.a.toNat : Int)]] V (fun e w' => e = .returned (.agg #[.int .u8 (y.r.toNat : Int), .int .u8 (y.g.toNat : Int), .int .u8 (y.b.toNat : Int), .int .u8 (y.a.toNat : Int)]) ∧ Below V.heap.size V w') from fun V => by have h := col_Over col0 y V; rw [over_nothing] at h; exact h)
    have Ex0 := Lib.hid (show ∀ V, Calls Try.prog 19 #[.agg #[.int .u8 (x.r.toNat : Int), .int .u8 (x.g.toNat : Int), .int .u8 (x.b.toNat : Int), .int .u8 (x.a.toNat : Int)], .agg #[.int .u8 0, .int .u8 0, .int .u8 0, .int .u8 0]] V (fun e w' => e = .returned (.agg #[.int .u8 (x.r.toNat : Int), .int .u8 (x.g.toNat : Int), .int .u8 (x.b.toNat : Int), .int .u8 (x.a.toNat : Int)]) ∧ Below V.heap.size V w') from fun V => by have h := col_Over x col0 V; rw [over_blank] at h; exact h)
    have Fn := Lib.hid (show ∀ V, Calls Try.prog 14 #[.agg #[.int .u8 (x.r.toNat : Int), .int .u8 (x.g.toNat : Int), .int .u8 (x.b.toNat : Int), .int .u8 (x.a.toNat : Int)], .int .u8 (n.toNat : Int)] V (fun e w' => e = .returned (.agg #[.int .u8 (q.r.toNat : Int), .int .u8 (q.g.toNat : Int), .int .u8 (q.b.toNat : Int), .int .u8 (q.a.toNat : Int)]) ∧ Below V.heap.size V w') from fun V => by have h := col_Fade x n V; rw [hq] at h; exact h)
    have Fa := Lib.hid (show ∀ V, Calls Try.prog 14 #[.agg #[.int .u8 (x.r.toNat : Int), .int .u8 (x.g.toNat : Int), .int .u8 (x.b.toNat : Int), .int .u8 (x.a.toNat : Int)], .int .u8 255] V (fun e w' => e = .returned (.agg #[.int .u8 (x.r.toNat : Int), .int .u8 (x.g.toNat : Int), .int .u8 (x.b.toNat : Int), .int .u8 (x.a.toNat : Int)]) ∧ Below V.heap.size V w') from fun V => by have h := col_Fade x 255 V; rw [fade_all] at h; exact h)
    have F0 := Lib.hid (show ∀ V, Calls Try.prog 14 #[.agg #[.int .u8 (x.r.toNat : Int), .int .u8 (x.g.toNat : Int), .int .u8 (x.b.toNat : Int), .int .u8 (x.a.toNat : Int)], .int .u8 0] V (fun e w' => e = .returned (.agg #[.int .u8 0, .int .u8 0, .int .u8 0, .int .u8 0]) ∧ Below V.heap.size V w') from fun V => by have h := col_Fade x 0 V; rw [fade_none] at h; exact h)
    have M0 := Lib.hid (show ∀ V, Calls Try.prog 16 #[.agg #[.int .u8 (c.r.toNat : Int), .int .u8 (c.g.toNat : Int), .int .u8 (c.b.toNat : Int), .int .u8 (c.a.toNat : Int)], .agg #[.int .u8 (d.r.toNat : Int), .int .u8 (d.g.toNat : Int), .int .u8 (d.b.toNat : Int), .int .u8 (d.a.toNat : Int)], .int .u8 0] V (fun e w' => e = .returned (.agg #[.int .u8 (c.r.toNat : Int), .int .u8 (c.g.toNat : Int), .int .u8 (c.b.toNat : Int), .int .u8 (c.a.toNat : Int)]) ∧ Below V.heap.size V w') from fun V => by have h := col_Mix c d 0 V; rw [mix_zero] at h; exact h)
    have Ma := Lib.hid (show ∀ V, Calls Try.prog 16 #[.agg #[.int .u8 (c.r.toNat : Int), .int .u8 (c.g.toNat : Int), .int .u8 (c.b.toNat : Int), .int .u8 (c.a.toNat : Int)], .agg #[.int .u8 (d.r.toNat : Int), .int .u8 (d.g.toNat : Int), .int .u8 (d.b.toNat : Int), .int .u8 (d.a.toNat : Int)], .int .u8 255] V (fun e w' => e = .returned (.agg #[.int .u8 (d.r.toNat : Int), .int .u8 (d.g.toNat : Int), .int .u8 (d.b.toNat : Int), .int .u8 (d.a.toNat : Int)]) ∧ Below V.heap.size V w') from fun V => by have h := col_Mix c d 255 V; rw [mix_all] at h; exact h)
    have hfd : ∀ V : World, (Instr.field 23 (.agg #[.int .u8 (o.r.toNat : Int), .int .u8 (o.g.toNat : Int), .int .u8 (o.b.toNat : Int), .int .u8 (o.a.toNat : Int)]) 3).run Try.prog V = .ok (.int .u8 (o.a.toNat : Int)) V := fun V => field_a _ _ _ _ V
    have LL := Lib.hid (And.intro L3 (And.intro L4 (And.intro (Lies.box k7) (And.intro (Lies.box k8) hB))))
    clear L3 L4 k7 k8 mx my mo mq ho hq hz hza hB HX HP hl2 hl hz0 hz1
    have hcv : (decide ((x.a.toNat : Int) ≤ (o.a.toNat : Int))) = true := decide_eq_true hcov
    go_wp2_with first
      | (go_at_call 10; (with_reducible refine Calls.mono (Ez.out _) ?_); rintro e w5 ⟨rfl, b5⟩
         have F := Lib.hid (show Five (w5.alloc (.cells #[.int .u8 (z.r.toNat : Int), .int .u8 (z.g.toNat : Int), .int .u8 (z.b.toNat : Int), .int .u8 (z.a.toNat : Int)] 23)) w.heap.size (w.heap.size + 1) g7 g8 w5.heap.size c d x y z from ⟨(LL.out.1.on b5).alloc _, (LL.out.2.1.on b5).alloc _, (LL.out.2.2.1.on b5).alloc _, (LL.out.2.2.2.1.on b5).alloc _, Lies.box (Box.new w5 23 (colCells z))⟩)
         have B := Lib.hid ((LL.out.2.2.2.2.trans (b5.mono LL.out.2.2.2.2.size)).alloc ((LL.out.2.2.2.2.trans (b5.mono LL.out.2.2.2.2.size)).size) (.cells #[.int .u8 (z.r.toNat : Int), .int .u8 (z.g.toNat : Int), .int .u8 (z.b.toNat : Int), .int .u8 (z.a.toNat : Int)] 23))
         clear c0 c1 c2 c3 d0 d1 d2 d3 x0 x1 x2 x3 y0 y1 y2 y3
         obtain ⟨⟨⟨f00, f01, f02, f03⟩, -⟩, ⟨⟨f10, f11, f12, f13⟩, -⟩, ⟨⟨f20, f21, f22, f23⟩, -⟩, ⟨⟨f30, f31, f32, f33⟩, -⟩, ⟨f40, f41, f42, f43⟩, -⟩ := F.out)
    have hS : ((((w5.alloc (.cells #[.int .u8 (z.r.toNat : Int), .int .u8 (z.g.toNat : Int), .int .u8 (z.b.toNat : Int), .int .u8 (z.a.toNat : Int)] 23)).cell? ⟨w.heap.size, 0, none⟩ = some (.int .u8 (c.r.toNat : Int)) ∧ (w5.alloc (.cells #[.int .u8 (z.r.toNat : Int), .int .u8 (z.g.toNat : Int), .int .u8 (z.b.toNat : Int), .int .u8 (z.a.toNat : Int)] 23)).cell? ⟨w.heap.size, 1, none⟩ = some (.int .u8 (c.g.toNat : Int)) ∧ (w5.alloc (.cells #[.int .u8 (z.r.toNat : Int), .int .u8 (z.g.toNat : Int), .int .u8 (z.b.toNat : Int), .int .u8 (z.a.toNat : Int)] 23)).cell? ⟨w.heap.size, 2, none⟩ = some (.int .u8 (c.b.toNat : Int)) ∧ (w5.alloc (.cells #[.int .u8 (z.r.toNat : Int), .int .u8 (z.g.toNat : Int), .int .u8 (z.b.toNat : Int), .int .u8 (z.a.toNat : Int)] 23)).cell? ⟨w.heap.size, 3, none⟩ = some (.int .u8 (c.a.toNat : Int))) ∧ ((w5.alloc (.cells #[.int .u8 (z.r.toNat : Int), .int .u8 (z.g.toNat : Int), .int .u8 (z.b.toNat : Int), .int .u8 (z.a.toNat : Int)] 23)).cell? ⟨w.heap.size + 1, 0, none⟩ = some (.int .u8 (d.r.toNat : Int)) ∧ (w5.alloc (.cells #[.int .u8 (z.r.toNat : Int), .int .u8 (z.g.toNat : Int), .int .u8 (z.b.toNat : Int), .int .u8 (z.a.toNat : Int)] 23)).cell? ⟨w.heap.size + 1, 1, none⟩ = some (.int .u8 (d.g.toNat : Int)) ∧ (w5.alloc (.cells #[.int .u8 (z.r.toNat : Int), .int .u8 (z.g.toNat : Int), .int .u8 (z.b.toNat : Int), .int .u8 (z.a.toNat : Int)] 23)).cell? ⟨w.heap.size + 1, 2, none⟩ = some (.int .u8 (d.b.toNat : Int)) ∧ (w5.alloc (.cells #[.int .u8 (z.r.toNat : Int), .int .u8 (z.g.toNat : Int), .int .u8 (z.b.toNat : Int), .int .u8 (z.a.toNat : Int)] 23)).cell? ⟨w.heap.size + 1, 3, none⟩ = some (.int .u8 (d.a.toNat : Int))) ∧ ((w5.alloc (.cells #[.int .u8 (z.r.toNat : Int), .int .u8 (z.g.toNat : Int), .int .u8 (z.b.toNat : Int), .int .u8 (z.a.toNat : Int)] 23)).cell? ⟨g7, 0, none⟩ = some (.int .u8 (x.r.toNat : Int)) ∧ (w5.alloc (.cells #[.int .u8 (z.r.toNat : Int), .int .u8 (z.g.toNat : Int), .int .u8 (z.b.toNat : Int), .int .u8 (z.a.toNat : Int)] 23)).cell? ⟨g7, 1, none⟩ = some (.int .u8 (x.g.toNat : Int)) ∧ (w5.alloc (.cells #[.int .u8 (z.r.toNat : Int), .int .u8 (z.g.toNat : Int), .int .u8 (z.b.toNat : Int), .int .u8 (z.a.toNat : Int)] 23)).cell? ⟨g7, 2, none⟩ = some (.int .u8 (x.b.toNat : Int)) ∧ (w5.alloc (.cells #[.int .u8 (z.r.toNat : Int), .int .u8 (z.g.toNat : Int), .int .u8 (z.b.toNat : Int), .int .u8 (z.a.toNat : Int)] 23)).cell? ⟨g7, 3, none⟩ = some (.int .u8 (x.a.toNat : Int))) ∧ ((w5.alloc (.cells #[.int .u8 (z.r.toNat : Int), .int .u8 (z.g.toNat : Int), .int .u8 (z.b.toNat : Int), .int .u8 (z.a.toNat : Int)] 23)).cell? ⟨g8, 0, none⟩ = some (.int .u8 (y.r.toNat : Int)) ∧ (w5.alloc (.cells #[.int .u8 (z.r.toNat : Int), .int .u8 (z.g.toNat : Int), .int .u8 (z.b.toNat : Int), .int .u8 (z.a.toNat : Int)] 23)).cell? ⟨g8, 1, none⟩ = some (.int .u8 (y.g.toNat : Int)) ∧ (w5.alloc (.cells #[.int .u8 (z.r.toNat : Int), .int .u8 (z.g.toNat : Int), .int .u8 (z.b.toNat : Int), .int .u8 (z.a.toNat : Int)] 23)).cell? ⟨g8, 2, none⟩ = some (.int .u8 (y.b.toNat : Int)) ∧ (w5.alloc (.cells #[.int .u8 (z.r.toNat : Int), .int .u8 (z.g.toNat : Int), .int .u8 (z.b.toNat : Int), .int .u8 (z.a.toNat : Int)] 23)).cell? ⟨g8, 3, none⟩ = some (.int .u8 (y.a.toNat : Int))) ∧ ((w5.alloc (.cells #[.int .u8 (z.r.toNat : Int), .int .u8 (z.g.toNat : Int), .int .u8 (z.b.toNat : Int), .int .u8 (z.a.toNat : Int)] 23)).cell? ⟨w5.heap.size, 0, none⟩ = some (.int .u8 (z.r.toNat : Int)) ∧ (w5.alloc (.cells #[.int .u8 (z.r.toNat : Int), .int .u8 (z.g.toNat : Int), .int .u8 (z.b.toNat : Int), .int .u8 (z.a.toNat : Int)] 23)).cell? ⟨w5.heap.size, 1, none⟩ = some (.int .u8 (z.g.toNat : Int)) ∧ (w5.alloc (.cells #[.int .u8 (z.r.toNat : Int), .int .u8 (z.g.toNat : Int), .int .u8 (z.b.toNat : Int), .int .u8 (z.a.toNat : Int)] 23)).cell? ⟨w5.heap.size, 2, none⟩ = some (.int .u8 (z.b.toNat : Int)) ∧ (w5.alloc (.cells #[.int .u8 (z.r.toNat : Int), .int .u8 (z.g.toNat : Int), .int .u8 (z.b.toNat : Int), .int .u8 (z.a.toNat : Int)] 23)).cell? ⟨w5.heap.size, 3, none⟩ = some (.int .u8 (z.a.toNat : Int)))) ∧ (w.heap.size < (w5.alloc (.cells #[.int .u8 (z.r.toNat : Int), .int .u8 (z.g.toNat : Int), .int .u8 (z.b.toNat : Int), .int .u8 (z.a.toNat : Int)] 23)).heap.size ∧ w.heap.size + 1 < (w5.alloc (.cells #[.int .u8 (z.r.toNat : Int), .int .u8 (z.g.toNat : Int), .int .u8 (z.b.toNat : Int), .int .u8 (z.a.toNat : Int)] 23)).heap.size ∧ g7 < (w5.alloc (.cells #[.int .u8 (z.r.toNat : Int), .int .u8 (z.g.toNat : Int), .int .u8 (z.b.toNat : Int), .int .u8 (z.a.toNat : Int)] 23)).heap.size ∧ g8 < (w5.alloc (.cells #[.int .u8 (z.r.toNat : Int), .int .u8 (z.g.toNat : Int), .int .u8 (z.b.toNat : Int), .int .u8 (z.a.toNat : Int)] 23)).heap.size ∧ w5.heap.size < (w5.alloc (.cells #[.int .u8 (z.r.toNat : Int), .int .u8 (z.g.toNat : Int), .int .u8 (z.b.toNat : Int), .int .u8 (z.a.toNat : Int)] 23)).heap.size)) ∧ Below w.heap.size w (w5.alloc (.cells #[.int .u8 (z.r.toNat : Int), .int .u8 (z.g.toNat : Int), .int .u8 (z.b.toNat : Int), .int .u8 (z.a.toNat : Int)] 23)) := ⟨⟨⟨F.out.1.1, F.out.2.1.1, F.out.2.2.1.1, F.out.2.2.2.1.1, F.out.2.2.2.2.1⟩, F.out.1.2, F.out.2.1.2, F.out.2.2.1.2, F.out.2.2.2.1.2, F.out.2.2.2.2.2⟩, B.out⟩
    have HS := Lib.hid hS
    clear hS F B LL
    generalize w5.heap.size = g9 at *
    dsimp only [List.append]
    go_region_held3 (fun w' => (((w'.cell? ⟨w.heap.size, 0, none⟩ = some (.int .u8 (c.r.toNat : Int)) ∧ w'.cell? ⟨w.heap.size, 1, none⟩ = some (.int .u8 (c.g.toNat : Int)) ∧ w'.cell? ⟨w.heap.size, 2, none⟩ = some (.int .u8 (c.b.toNat : Int)) ∧ w'.cell? ⟨w.heap.size, 3, none⟩ = some (.int .u8 (c.a.toNat : Int))) ∧ (w'.cell? ⟨w.heap.size + 1, 0, none⟩ = some (.int .u8 (d.r.toNat : Int)) ∧ w'.cell? ⟨w.heap.size + 1, 1, none⟩ = some (.int .u8 (d.g.toNat : Int)) ∧ w'.cell? ⟨w.heap.size + 1, 2, none⟩ = some (.int .u8 (d.b.toNat : Int)) ∧ w'.cell? ⟨w.heap.size + 1, 3, none⟩ = some (.int .u8 (d.a.toNat : Int))) ∧ (w'.cell? ⟨g7, 0, none⟩ = some (.int .u8 (x.r.toNat : Int)) ∧ w'.cell? ⟨g7, 1, none⟩ = some (.int .u8 (x.g.toNat : Int)) ∧ w'.cell? ⟨g7, 2, none⟩ = some (.int .u8 (x.b.toNat : Int)) ∧ w'.cell? ⟨g7, 3, none⟩ = some (.int .u8 (x.a.toNat : Int))) ∧ (w'.cell? ⟨g8, 0, none⟩ = some (.int .u8 (y.r.toNat : Int)) ∧ w'.cell? ⟨g8, 1, none⟩ = some (.int .u8 (y.g.toNat : Int)) ∧ w'.cell? ⟨g8, 2, none⟩ = some (.int .u8 (y.b.toNat : Int)) ∧ w'.cell? ⟨g8, 3, none⟩ = some (.int .u8 (y.a.toNat : Int))) ∧ (w'.cell? ⟨g9, 0, none⟩ = some (.int .u8 (z.r.toNat : Int)) ∧ w'.cell? ⟨g9, 1, none⟩ = some (.int .u8 (z.g.toNat : Int)) ∧ w'.cell? ⟨g9, 2, none⟩ = some (.int .u8 (z.b.toNat : Int)) ∧ w'.cell? ⟨g9, 3, none⟩ = some (.int .u8 (z.a.toNat : Int)))) ∧ (w.heap.size < w'.heap.size ∧ w.heap.size + 1 < w'.heap.size ∧ g7 < w'.heap.size ∧ g8 < w'.heap.size ∧ g9 < w'.heap.size)) ∧ Below w.heap.size w w')
      (first | (with_reducible exact five_drew HS.out) | (with_reducible exact HS.out) | (with_reducible exact five_on (by assumption) b6) | (with_reducible exact five_drew (by assumption)) | go_keep)
      ((first
        | (go_at_call 12; (with_reducible refine Calls.mono (Ex.out _) ?_); rintro e w6 ⟨rfl, b6⟩)
        | (go_at_call 12; (with_reducible refine Calls.mono (Eo.out _) ?_); rintro e w6 ⟨rfl, b6⟩)
        | (go_at_call 12; (with_reducible refine Calls.mono (Eq.out _) ?_); rintro e w6 ⟨rfl, b6⟩)
        | (go_at_call 19; (with_reducible refine Calls.mono (Exy.out _) ?_); rintro e w6 ⟨rfl, b6⟩)
        | (go_at_call 19; (with_reducible refine Calls.mono (Ezy.out _) ?_); rintro e w6 ⟨rfl, b6⟩)
        | (go_at_call 19; (with_reducible refine Calls.mono (E0y.out _) ?_); rintro e w6 ⟨rfl, b6⟩)
        | (go_at_call 19; (with_reducible refine Calls.mono (Ex0.out _) ?_); rintro e w6 ⟨rfl, b6⟩)
        | (go_at_call 14; (with_reducible refine Calls.mono (Fn.out _) ?_); rintro e w6 ⟨rfl, b6⟩)
        | (go_at_call 14; (with_reducible refine Calls.mono (Fa.out _) ?_); rintro e w6 ⟨rfl, b6⟩)
        | (go_at_call 14; (with_reducible refine Calls.mono (F0.out _) ?_); rintro e w6 ⟨rfl, b6⟩)
        | (go_at_call 16; (with_reducible refine Calls.mono (M0.out _) ?_); rintro e w6 ⟨rfl, b6⟩)
        | (go_at_call 16; (with_reducible refine Calls.mono (Ma.out _) ?_); rintro e w6 ⟨rfl, b6⟩)
        | (go_at_call 18; (with_reducible refine Calls.mono (law8_lives _) ?_); rintro e w6 ⟨rfl, b6⟩)))
    all_goals
      rename_i hHeld
      obtain ⟨-, hB⟩ := hHeld
      go_wp2_with fail
      go_ret
      exact ⟨rfl, hB⟩
end Go.Proofs.Ytaiinglogpbfjaa
