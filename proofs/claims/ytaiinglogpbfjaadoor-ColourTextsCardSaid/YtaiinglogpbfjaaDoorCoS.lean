/- Colours: the program's own Over, May. Written by gen/genco8.py. -/
import Derived.Test.YtaiinglogpbfjaaDoorCoR
import Derived.Deep.RegionLaw
namespace Go.Proofs.YtaiinglogpbfjaaDoor
open Go.RowKit

theorem over_facts (a b n : UInt8) : ∃ (x y z m : Nat), a.toNat = z ∧ n.toNat = m ∧ (overU a b n).toNat = y ∧ IntKind.u8.wrap (255 - (m : Int)) = 255 - (m : Int) ∧ IntKind.i64.wrap (z : Int) = (z : Int) ∧ IntKind.i64.wrap (x : Int) = (x : Int) ∧ IntKind.i64.wrap ((z : Int) + (x : Int)) = (z : Int) + (x : Int) ∧ IntKind.u8.wrap (y : Int) = (y : Int) ∧ (z : Int) + (x : Int) ≤ 510 ∧ (y = min 255 (z + x)) ∧
    (∀ V, Calls Tryd.prog 20 #[.int .u8 (b.toNat : Int), .int .u8 (255 - (m : Int))] V fun e w' => e = .returned (.int .u8 (x : Int)) ∧ V = w') := by
  have ha := a.toNat_lt
  have hb := b.toNat_lt
  have hn := n.toNat_lt
  have ht := (timesU b (255 - n)).toNat_lt
  have ho := (overU a b n).toNat_lt
  have e : ((255 - n).toNat : Int) = 255 - (n.toNat : Int) := by rw [not255]; omega
  refine ⟨(timesU b (255 - n)).toNat, (overU a b n).toNat, a.toNat, n.toNat, rfl, rfl, rfl, ?_, ?_, ?_, ?_, ?_, by omega, overU_nat a b n, fun V => by rw [← e]; exact col_Times0 b (255 - n) V⟩
  any_goals exact IntWalk.i64_in _ (by omega)
  any_goals exact IntWalk.u8_in _ (by omega)

set_option maxRecDepth 10000 in
set_option maxHeartbeats 6400000 in
theorem col_Over (c d : Col) (w : World) :
    Calls Tryd.prog 16 #[colV c, colV d] w fun e w' => e = .returned (colV (overC c d)) ∧ Below w.heap.size w w' := by
  obtain ⟨W, hW, k1, k2, k3, B0, hz⟩ := three_boxes c d w
  have hP := parts_of k1 k2 (Below.refl W.heap.size W)
  have hP' := hP
  obtain ⟨⟨⟨⟨p0, p1, p2, p3⟩, q0, q1, q2, q3⟩, hl⟩, -⟩ := hP'
  have HP := Lib.hid hP
  have HK := Lib.hid (And.intro k1 (And.intro k3 (And.intro B0 hz)))
  clear hP k1 k2 k3 B0
  have C0 := Lib.hid (fun V => col_partsOf c V)
  have C1 := Lib.hid (fun V => col_partsOf d V)
  obtain ⟨X, hX⟩ : ∃ X, overC c d = X := ⟨_, rfl⟩
  have HX := Lib.hid hX
  have CC := Lib.hid (fun V => col_colour X V)
  have hz0 : w.heap.size + 2 ≤ W.heap.size := by omega
  have hz1 : w.heap.size ≤ W.heap.size := by omega
  rw [hX]
  clear hz hX
  unfold colV colCells zero4 at *
  go_enter Tryd.func16, Tryd.ntmps16
  go_wp2_with fail
  try rw [hW]
  clear hW
  go_cut [5, 6] from 7 (fun v7 v8 wc => ∃ g7 g8, v7 = .pointer (some ⟨g7, 0, none⟩) ∧ v8 = .pointer (some ⟨g8, 0, none⟩) ∧ W.heap.size ≤ g7 ∧ Box wc g7 33 (colCells c) ∧ Box wc g8 33 (colCells d) ∧ (((wc.cell? ⟨w.heap.size, 0, none⟩ = some (.int .u8 (c.r.toNat : Int)) ∧ wc.cell? ⟨w.heap.size, 1, none⟩ = some (.int .u8 (c.g.toNat : Int)) ∧ wc.cell? ⟨w.heap.size, 2, none⟩ = some (.int .u8 (c.b.toNat : Int)) ∧ wc.cell? ⟨w.heap.size, 3, none⟩ = some (.int .u8 (c.a.toNat : Int))) ∧ (wc.cell? ⟨w.heap.size + 1, 0, none⟩ = some (.int .u8 (d.r.toNat : Int)) ∧ wc.cell? ⟨w.heap.size + 1, 1, none⟩ = some (.int .u8 (d.g.toNat : Int)) ∧ wc.cell? ⟨w.heap.size + 1, 2, none⟩ = some (.int .u8 (d.b.toNat : Int)) ∧ wc.cell? ⟨w.heap.size + 1, 3, none⟩ = some (.int .u8 (d.a.toNat : Int)))) ∧ w.heap.size + 1 < wc.heap.size) ∧ Below W.heap.size W wc)
  case first =>
    have P0 := Lib.hid (parts_drew HP.out)
    go_region_held3 (fun w' => (((w'.cell? ⟨w.heap.size, 0, none⟩ = some (.int .u8 (c.r.toNat : Int)) ∧ w'.cell? ⟨w.heap.size, 1, none⟩ = some (.int .u8 (c.g.toNat : Int)) ∧ w'.cell? ⟨w.heap.size, 2, none⟩ = some (.int .u8 (c.b.toNat : Int)) ∧ w'.cell? ⟨w.heap.size, 3, none⟩ = some (.int .u8 (c.a.toNat : Int))) ∧ (w'.cell? ⟨w.heap.size + 1, 0, none⟩ = some (.int .u8 (d.r.toNat : Int)) ∧ w'.cell? ⟨w.heap.size + 1, 1, none⟩ = some (.int .u8 (d.g.toNat : Int)) ∧ w'.cell? ⟨w.heap.size + 1, 2, none⟩ = some (.int .u8 (d.b.toNat : Int)) ∧ w'.cell? ⟨w.heap.size + 1, 3, none⟩ = some (.int .u8 (d.a.toNat : Int)))) ∧ w.heap.size + 1 < w'.heap.size) ∧ Below W.heap.size W w')
      (first | (with_reducible exact P0.out) | (with_reducible exact HP.out) | (with_reducible exact P1.out) | (with_reducible exact P2.out) | (with_reducible exact parts_alloc P0.out _) | (with_reducible exact parts_alloc P1.out _) | (with_reducible exact parts_alloc P2.out _) | (with_reducible exact parts_alloc (parts_alloc P0.out _) _) | (with_reducible exact parts_alloc (parts_alloc P1.out _) _) | (with_reducible exact parts_alloc (parts_alloc P2.out _) _) | (with_reducible exact parts_set4 P2.out _ _ _ _ _ (by omega) (by omega)) | (with_reducible exact parts_alloc (parts_set4 P2.out _ _ _ _ _ (by omega) (by omega)) _) | (with_reducible exact parts_set4 (parts_set4 P2.out _ _ _ _ _ (by omega) (by omega)) _ _ _ _ _ (by omega) (by omega)) | (with_reducible exact parts_alloc HP.out _) | (with_reducible exact parts_alloc (parts_alloc HP.out _) _) | (with_reducible exact parts_drew (parts_alloc HP.out _)) | (with_reducible exact parts_drew (parts_alloc (parts_alloc HP.out _) _)) | (with_reducible exact parts_alloc (parts_drew (parts_alloc HP.out _)) _))
      ((first
        | (go_at_call 12; (with_reducible refine Calls.mono (C0.out _) ?_); rintro e w1 ⟨rfl, b1⟩
           have P1 := Lib.hid (parts_on (g := w.heap.size) (v := W) (c := c) (d := d) (by assumption) b1)
           (first
            | (guard_hyp b1 : Below W.drew.heap.size W.drew w1; have s1 : W.heap.size ≤ w1.heap.size := b1.size)
            | (guard_hyp b1 : Below (W.alloc (.cells #[.int .u8 0, .int .u8 0, .int .u8 0, .int .u8 0] 33)).drew.heap.size (W.alloc (.cells #[.int .u8 0, .int .u8 0, .int .u8 0, .int .u8 0] 33)).drew w1; obtain ⟨kA, s1⟩ := gotP1 (X := W) b1 rfl)
            | (obtain ⟨⟨kA, s1⟩, kB⟩ := gotP2 (X := W) b1 rfl)))
        | (go_at_call 12; (with_reducible refine Calls.mono (C1.out _) ?_); rintro e w2 ⟨rfl, b2⟩
           have P2 := Lib.hid (parts_on (g := w.heap.size) (v := W) (c := c) (d := d) (by assumption) b2)
           (first
            | (guard_hyp b2 : Below w1.heap.size w1 w2; have s2 : w1.heap.size ≤ w2.heap.size := b2.size; have c2 : Below w1.heap.size w1 w2 := b2)
            | (guard_hyp b2 : Below (w1.alloc (.cells #[.int .u8 0, .int .u8 0, .int .u8 0, .int .u8 0] 33)).heap.size (w1.alloc (.cells #[.int .u8 0, .int .u8 0, .int .u8 0, .int .u8 0] 33)) w2; obtain ⟨kC, s2⟩ := gotP1 (X := w1) b2 rfl; have c2 : Below w1.heap.size w1 w2 := ((Below.refl _ _).alloc (Nat.le_refl _) _).trans (b2.mono (by simp)); obtain ⟨⟨z0, z1, z2, z3⟩, y0, y1, y2, y3⟩ := Box.four kC; have lkC := kC.lt; have mkC := kC.alloc (.cells #[.int .u8 0, .int .u8 0, .int .u8 0, .int .u8 0] 33); obtain ⟨⟨z0, z1, z2, z3⟩, y0, y1, y2, y3⟩ := Box.four mkC)
            | (obtain ⟨⟨kC, s2⟩, kD⟩ := gotP2 (X := w1) b2 rfl; have c2 : Below w1.heap.size w1 w2 := (((Below.refl _ _).alloc (Nat.le_refl _) _).alloc (by simp) _).trans (b2.mono (by simp; omega)); obtain ⟨⟨z0, z1, z2, z3⟩, y0, y1, y2, y3⟩ := Box.four kC; have lkC := kC.lt; have mkC := kC.alloc (.cells #[.int .u8 0, .int .u8 0, .int .u8 0, .int .u8 0] 33); obtain ⟨⟨z0, z1, z2, z3⟩, y0, y1, y2, y3⟩ := Box.four mkC; obtain ⟨⟨z0, z1, z2, z3⟩, y0, y1, y2, y3⟩ := Box.four kD; have lkD := kD.lt; have mkD := kD.alloc (.cells #[.int .u8 0, .int .u8 0, .int .u8 0, .int .u8 0] 33); obtain ⟨⟨z0, z1, z2, z3⟩, y0, y1, y2, y3⟩ := Box.four mkD))
           (first
            | (guard_hyp b1 : Below W.drew.heap.size W.drew w1)
            | (guard_hyp b1 : Below (W.alloc (.cells #[.int .u8 0, .int .u8 0, .int .u8 0, .int .u8 0] 33)).drew.heap.size (W.alloc (.cells #[.int .u8 0, .int .u8 0, .int .u8 0, .int .u8 0] 33)).drew w1; have lA := kA.lt; have kX := kA.below c2 kA.lt; obtain ⟨⟨z0, z1, z2, z3⟩, y0, y1, y2, y3⟩ := Box.four kX; have lkX := kX.lt; have mkX := kX.alloc (.cells #[.int .u8 0, .int .u8 0, .int .u8 0, .int .u8 0] 33); obtain ⟨⟨z0, z1, z2, z3⟩, y0, y1, y2, y3⟩ := Box.four mkX)
            | (have lA := kA.lt; have kX := kA.below c2 kA.lt; have lB := kB.lt; have kY := kB.below c2 kB.lt; obtain ⟨⟨z0, z1, z2, z3⟩, y0, y1, y2, y3⟩ := Box.four kX; have lkX := kX.lt; have mkX := kX.alloc (.cells #[.int .u8 0, .int .u8 0, .int .u8 0, .int .u8 0] 33); obtain ⟨⟨z0, z1, z2, z3⟩, y0, y1, y2, y3⟩ := Box.four mkX; obtain ⟨⟨z0, z1, z2, z3⟩, y0, y1, y2, y3⟩ := Box.four kY; have lkY := kY.lt; have mkY := kY.alloc (.cells #[.int .u8 0, .int .u8 0, .int .u8 0, .int .u8 0] 33); obtain ⟨⟨z0, z1, z2, z3⟩, y0, y1, y2, y3⟩ := Box.four mkY)))))
    all_goals
      go_wp2_with fail
      go_meet
      refine ⟨_, _, rfl, rfl, ?_, ?_, ?_, by assumption⟩
      · first | (simp; done) | omega | (simp; omega)
      all_goals
        unfold colCells
        first
          | (with_reducible exact Box.new _ _ _)
          | (with_reducible exact (Box.new _ _ _).alloc _)
          | (with_reducible exact Box.at_new _ _ _ (by simp))
          | (with_reducible exact Box.at_new _ _ _ (by simp [World.setCell]))
          | (with_reducible exact (kX.put4 _ _ _ _).alloc _)
          | (with_reducible exact (kY.put4 _ _ _ _).alloc _)
          | (with_reducible exact (kC.put4 _ _ _ _).alloc _)
          | (with_reducible exact (kD.put4 _ _ _ _).alloc _)
          | (with_reducible exact (kX.far4 (by omega) _ _ _ _).put4 _ _ _ _)
          | (with_reducible exact (kX.put4 _ _ _ _).far4 (by omega) _ _ _ _)
          | (with_reducible exact (kY.far4 (by omega) _ _ _ _).put4 _ _ _ _)
          | (with_reducible exact (kY.put4 _ _ _ _).far4 (by omega) _ _ _ _)
          | (with_reducible exact (kC.far4 (by omega) _ _ _ _).put4 _ _ _ _)
          | (with_reducible exact (kC.put4 _ _ _ _).far4 (by omega) _ _ _ _)
          | (with_reducible exact (kD.far4 (by omega) _ _ _ _).put4 _ _ _ _)
          | (with_reducible exact (kD.put4 _ _ _ _).far4 (by omega) _ _ _ _)
  case rest =>
    obtain ⟨g7, g8, rfl, rfl, hg7, k7, k8, -, hB⟩ := hcut
    obtain ⟨k1, k3, B0, hz⟩ := HK.out
    have kA := k1.below hB (by omega)
    have kR := k3.below hB (by omega)
    have kB := B0.trans (hB.mono (by omega))
    obtain ⟨⟨x0, x1, x2, x3⟩, -⟩ := Box.four k8
    have kG := Lib.hid (And.intro k7 (And.intro kA (And.intro kR kB)))
    have hg : w.heap.size + 3 ≤ g7 := by omega
    clear k7 k8 k1 k3 B0 hz hz0 hz1 kA kR kB hl hB p0 p1 p2 p3 q0 q1 q2 q3 HP HK C0 C1 hg7
    go_wp2_with fail
    go_loopg [7, 8, 14] 4 (fun gh _ _ it wr => ∃ k : Nat, it = .int .i64 (k : Int) ∧ gh + k = 4 ∧ Box wr g7 33 (half4 X c k) ∧ Box wr w.heap.size 23 (colCells c) ∧ Box wr (w.heap.size + 2) 23 zero4 ∧ Below w.heap.size w wr)
    case atStart => exact ⟨0, rfl, rfl, kG.out.1, kG.out.2.1, kG.out.2.2.1, kG.out.2.2.2⟩
    case round =>
      obtain ⟨k, rfl, hgk, hbox, hcol, hres, hB⟩ := hrel
      have hB := Lib.hid hB
      have hres := Lib.hid hres
      have hk5 : k = 0 ∨ k = 1 ∨ k = 2 ∨ k = 3 ∨ k = 4 := by omega
      clear kG
      rcases hk5 with rfl | rfl | rfl | rfl | rfl
      · obtain ⟨x, y, z, m, hze, hme, hye, s1, s2, s3, s4, s5, hb5, hmin, CP⟩ := over_facts c.r d.r c.a
        have ix : ∀ W, (Instr.index 33 (.agg #[.int .u8 (d.r.toNat : Int), .int .u8 (d.g.toNat : Int), .int .u8 (d.b.toNat : Int), .int .u8 (d.a.toNat : Int)]) (.int .i64 0)).run Tryd.prog W = .ok (.int .u8 (d.r.toNat : Int)) W := fun W => parts_index (.int .u8 (d.r.toNat : Int)) (.int .u8 (d.g.toNat : Int)) (.int .u8 (d.b.toNat : Int)) (.int .u8 (d.a.toNat : Int)) 0 _ rfl W
        have hcell := hbox.cell 0 rfl
        have hcov := hcol.cell 3 rfl
        have hfro := hbox.frozen 0
        have hx : (X.r.toNat : Int) = (y : Int) := by rw [← HX.out, ← hye]; rfl
        rw [hze] at hcell
        rw [hme] at hcov
        have hbox := Lib.hid hbox
        have hcol := Lib.hid hcol
        clear hye
        by_cases hc : (255 : Int) < (z : Int) + (x : Int)
        · have hx := Lib.hid (show (X.r.toNat : Int) = IntKind.u8.wrap 255 by rw [hx, show IntKind.u8.wrap 255 = 255 from rfl]; omega)
          clear hmin hb5 s5
          go_wp2_with fail
          go_region_law (first
            | (go_simp; go_at_call 20; (with_reducible refine Calls.mono (CP _) ?_); rintro e w1 ⟨rfl, rfl⟩))
          all_goals
            have kn := half4_step X c (by omega) wr g7 33 hbox.out (.int .u8 (IntKind.u8.wrap 255)) (by rw [← hx.out]; rfl)
            have hcl := hcol.out
            have hr := hres.out
            go_wp2_with fail
            subst hze hme
            go_roundg 3
            case measure => omega
            case rel => exact ⟨1, rfl, by omega, kn.drewN 1, (hcl.far (by simp; omega) _).drewN 1, (hr.far (by simp; omega) _).drewN 1, (hB.out.setCell (by simp; omega) _).drew⟩
        · have s6 : IntKind.u8.wrap ((z : Int) + (x : Int)) = (z : Int) + (x : Int) := IntWalk.u8_in _ (by omega)
          have hx := Lib.hid (show (X.r.toNat : Int) = (z : Int) + (x : Int) by rw [hx]; omega)
          clear hmin hb5 s5
          go_wp2_with fail
          go_region_law (first
            | (go_simp; go_at_call 20; (with_reducible refine Calls.mono (CP _) ?_); rintro e w1 ⟨rfl, rfl⟩))
          all_goals
            have kn := half4_step X c (by omega) wr g7 33 hbox.out (.int .u8 ((z : Int) + (x : Int))) (by rw [← hx.out]; rfl)
            have hcl := hcol.out
            have hr := hres.out
            go_wp2_with fail
            subst hze hme
            go_roundg 3
            case measure => omega
            case rel => exact ⟨1, rfl, by omega, kn.drewN 1, (hcl.far (by simp; omega) _).drewN 1, (hr.far (by simp; omega) _).drewN 1, (hB.out.setCell (by simp; omega) _).drew⟩
      · obtain ⟨x, y, z, m, hze, hme, hye, s1, s2, s3, s4, s5, hb5, hmin, CP⟩ := over_facts c.g d.g c.a
        have ix : ∀ W, (Instr.index 33 (.agg #[.int .u8 (d.r.toNat : Int), .int .u8 (d.g.toNat : Int), .int .u8 (d.b.toNat : Int), .int .u8 (d.a.toNat : Int)]) (.int .i64 1)).run Tryd.prog W = .ok (.int .u8 (d.g.toNat : Int)) W := fun W => parts_index (.int .u8 (d.r.toNat : Int)) (.int .u8 (d.g.toNat : Int)) (.int .u8 (d.b.toNat : Int)) (.int .u8 (d.a.toNat : Int)) 1 _ rfl W
        have hcell := hbox.cell 1 rfl
        have hcov := hcol.cell 3 rfl
        have hfro := hbox.frozen 1
        have hx : (X.g.toNat : Int) = (y : Int) := by rw [← HX.out, ← hye]; rfl
        rw [hze] at hcell
        rw [hme] at hcov
        have hbox := Lib.hid hbox
        have hcol := Lib.hid hcol
        clear hye
        by_cases hc : (255 : Int) < (z : Int) + (x : Int)
        · have hx := Lib.hid (show (X.g.toNat : Int) = IntKind.u8.wrap 255 by rw [hx, show IntKind.u8.wrap 255 = 255 from rfl]; omega)
          clear hmin hb5 s5
          go_wp2_with fail
          go_region_law (first
            | (go_simp; go_at_call 20; (with_reducible refine Calls.mono (CP _) ?_); rintro e w1 ⟨rfl, rfl⟩))
          all_goals
            have kn := half4_step X c (by omega) wr g7 33 hbox.out (.int .u8 (IntKind.u8.wrap 255)) (by rw [← hx.out]; rfl)
            have hcl := hcol.out
            have hr := hres.out
            go_wp2_with fail
            subst hze hme
            go_roundg 2
            case measure => omega
            case rel => exact ⟨2, rfl, by omega, kn.drewN 1, (hcl.far (by simp; omega) _).drewN 1, (hr.far (by simp; omega) _).drewN 1, (hB.out.setCell (by simp; omega) _).drew⟩
        · have s6 : IntKind.u8.wrap ((z : Int) + (x : Int)) = (z : Int) + (x : Int) := IntWalk.u8_in _ (by omega)
          have hx := Lib.hid (show (X.g.toNat : Int) = (z : Int) + (x : Int) by rw [hx]; omega)
          clear hmin hb5 s5
          go_wp2_with fail
          go_region_law (first
            | (go_simp; go_at_call 20; (with_reducible refine Calls.mono (CP _) ?_); rintro e w1 ⟨rfl, rfl⟩))
          all_goals
            have kn := half4_step X c (by omega) wr g7 33 hbox.out (.int .u8 ((z : Int) + (x : Int))) (by rw [← hx.out]; rfl)
            have hcl := hcol.out
            have hr := hres.out
            go_wp2_with fail
            subst hze hme
            go_roundg 2
            case measure => omega
            case rel => exact ⟨2, rfl, by omega, kn.drewN 1, (hcl.far (by simp; omega) _).drewN 1, (hr.far (by simp; omega) _).drewN 1, (hB.out.setCell (by simp; omega) _).drew⟩
      · obtain ⟨x, y, z, m, hze, hme, hye, s1, s2, s3, s4, s5, hb5, hmin, CP⟩ := over_facts c.b d.b c.a
        have ix : ∀ W, (Instr.index 33 (.agg #[.int .u8 (d.r.toNat : Int), .int .u8 (d.g.toNat : Int), .int .u8 (d.b.toNat : Int), .int .u8 (d.a.toNat : Int)]) (.int .i64 2)).run Tryd.prog W = .ok (.int .u8 (d.b.toNat : Int)) W := fun W => parts_index (.int .u8 (d.r.toNat : Int)) (.int .u8 (d.g.toNat : Int)) (.int .u8 (d.b.toNat : Int)) (.int .u8 (d.a.toNat : Int)) 2 _ rfl W
        have hcell := hbox.cell 2 rfl
        have hcov := hcol.cell 3 rfl
        have hfro := hbox.frozen 2
        have hx : (X.b.toNat : Int) = (y : Int) := by rw [← HX.out, ← hye]; rfl
        rw [hze] at hcell
        rw [hme] at hcov
        have hbox := Lib.hid hbox
        have hcol := Lib.hid hcol
        clear hye
        by_cases hc : (255 : Int) < (z : Int) + (x : Int)
        · have hx := Lib.hid (show (X.b.toNat : Int) = IntKind.u8.wrap 255 by rw [hx, show IntKind.u8.wrap 255 = 255 from rfl]; omega)
          clear hmin hb5 s5
          go_wp2_with fail
          go_region_law (first
            | (go_simp; go_at_call 20; (with_reducible refine Calls.mono (CP _) ?_); rintro e w1 ⟨rfl, rfl⟩))
          all_goals
            have kn := half4_step X c (by omega) wr g7 33 hbox.out (.int .u8 (IntKind.u8.wrap 255)) (by rw [← hx.out]; rfl)
            have hcl := hcol.out
            have hr := hres.out
            go_wp2_with fail
            subst hze hme
            go_roundg 1
            case measure => omega
            case rel => exact ⟨3, rfl, by omega, kn.drewN 1, (hcl.far (by simp; omega) _).drewN 1, (hr.far (by simp; omega) _).drewN 1, (hB.out.setCell (by simp; omega) _).drew⟩
        · have s6 : IntKind.u8.wrap ((z : Int) + (x : Int)) = (z : Int) + (x : Int) := IntWalk.u8_in _ (by omega)
          have hx := Lib.hid (show (X.b.toNat : Int) = (z : Int) + (x : Int) by rw [hx]; omega)
          clear hmin hb5 s5
          go_wp2_with fail
          go_region_law (first
            | (go_simp; go_at_call 20; (with_reducible refine Calls.mono (CP _) ?_); rintro e w1 ⟨rfl, rfl⟩))
          all_goals
            have kn := half4_step X c (by omega) wr g7 33 hbox.out (.int .u8 ((z : Int) + (x : Int))) (by rw [← hx.out]; rfl)
            have hcl := hcol.out
            have hr := hres.out
            go_wp2_with fail
            subst hze hme
            go_roundg 1
            case measure => omega
            case rel => exact ⟨3, rfl, by omega, kn.drewN 1, (hcl.far (by simp; omega) _).drewN 1, (hr.far (by simp; omega) _).drewN 1, (hB.out.setCell (by simp; omega) _).drew⟩
      · obtain ⟨x, y, z, m, hze, hme, hye, s1, s2, s3, s4, s5, hb5, hmin, CP⟩ := over_facts c.a d.a c.a
        have ix : ∀ W, (Instr.index 33 (.agg #[.int .u8 (d.r.toNat : Int), .int .u8 (d.g.toNat : Int), .int .u8 (d.b.toNat : Int), .int .u8 (d.a.toNat : Int)]) (.int .i64 3)).run Tryd.prog W = .ok (.int .u8 (d.a.toNat : Int)) W := fun W => parts_index (.int .u8 (d.r.toNat : Int)) (.int .u8 (d.g.toNat : Int)) (.int .u8 (d.b.toNat : Int)) (.int .u8 (d.a.toNat : Int)) 3 _ rfl W
        have hcell := hbox.cell 3 rfl
        have hcov := hcol.cell 3 rfl
        have hfro := hbox.frozen 3
        have hx : (X.a.toNat : Int) = (y : Int) := by rw [← HX.out, ← hye]; rfl
        rw [hze] at hcell
        rw [hme] at hcov
        have hbox := Lib.hid hbox
        have hcol := Lib.hid hcol
        clear hye
        by_cases hc : (255 : Int) < (z : Int) + (x : Int)
        · have hx := Lib.hid (show (X.a.toNat : Int) = IntKind.u8.wrap 255 by rw [hx, show IntKind.u8.wrap 255 = 255 from rfl]; omega)
          clear hmin hb5 s5
          go_wp2_with fail
          go_region_law (first
            | (go_simp; go_at_call 20; (with_reducible refine Calls.mono (CP _) ?_); rintro e w1 ⟨rfl, rfl⟩))
          all_goals
            have kn := half4_step X c (by omega) wr g7 33 hbox.out (.int .u8 (IntKind.u8.wrap 255)) (by rw [← hx.out]; rfl)
            have hcl := hcol.out
            have hr := hres.out
            go_wp2_with fail
            subst hze hme
            go_roundg 0
            case measure => omega
            case rel => exact ⟨4, rfl, by omega, kn.drewN 1, (hcl.far (by simp; omega) _).drewN 1, (hr.far (by simp; omega) _).drewN 1, (hB.out.setCell (by simp; omega) _).drew⟩
        · have s6 : IntKind.u8.wrap ((z : Int) + (x : Int)) = (z : Int) + (x : Int) := IntWalk.u8_in _ (by omega)
          have hx := Lib.hid (show (X.a.toNat : Int) = (z : Int) + (x : Int) by rw [hx]; omega)
          clear hmin hb5 s5
          go_wp2_with fail
          go_region_law (first
            | (go_simp; go_at_call 20; (with_reducible refine Calls.mono (CP _) ?_); rintro e w1 ⟨rfl, rfl⟩))
          all_goals
            have kn := half4_step X c (by omega) wr g7 33 hbox.out (.int .u8 ((z : Int) + (x : Int))) (by rw [← hx.out]; rfl)
            have hcl := hcol.out
            have hr := hres.out
            go_wp2_with fail
            subst hze hme
            go_roundg 0
            case measure => omega
            case rel => exact ⟨4, rfl, by omega, kn.drewN 1, (hcl.far (by simp; omega) _).drewN 1, (hr.far (by simp; omega) _).drewN 1, (hB.out.setCell (by simp; omega) _).drew⟩
      · rw [half4_4] at hbox
        obtain ⟨⟨u0, u1, u2, u3⟩, -⟩ := Box.four hbox
        have hr := hres
        clear hbox hres
        go_wp2_with (go_at_call 10; (with_reducible refine Calls.mono (CC.out _) ?_); rintro e w2 ⟨rfl, hB3⟩; have hx := hr.out.below hB3 hr.out.lt; obtain ⟨⟨q0, q1, q2, q3⟩, f0, f1, f2, f3⟩ := Box.four hx; have hx2 := Lib.hid (And.intro hx hB3); clear hx hB3)
        obtain ⟨hx, hB3⟩ := hx2.out
        obtain ⟨U, hU, kU, bU⟩ := hx.stored (.int .u8 (X.r.toNat : Int)) (.int .u8 (X.g.toNat : Int)) (.int .u8 (X.b.toNat : Int)) (.int .u8 (X.a.toNat : Int))
        rw [hU]
        have hB4 := ((hB.out.trans (hB3.mono (by have := hr.out.lt; omega))).trans (bU w.heap.size (by omega)))
        obtain ⟨⟨v0, v1, v2, v3⟩, -⟩ := Box.four kU
        exact bodyPost_ret (by simp [results, Tryd.results16, go_sem, v0, v1, v2, v3]) rfl ⟨rfl, hB4⟩

end Go.Proofs.YtaiinglogpbfjaaDoor
