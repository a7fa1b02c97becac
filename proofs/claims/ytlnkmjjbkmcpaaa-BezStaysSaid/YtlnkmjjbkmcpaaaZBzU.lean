/- The walk of BezStays. -/
import Derived.Test.YtlnkmjjbkmcpaaaZBgB
import Derived.BigQuiet
namespace Go.Proofs.Ytlnkmjjbkmcpaaa
open Go.RowKit

theorem min4_run {P : Program} (a b c d m : Int) (h : min (min (min a b) c) d = m) (ts : Array TypeId) (t : TypeId) (W : World) : (Builtin.min_ ts t #[.int .i64 a, .int .i64 b, .int .i64 c, .int .i64 d]).run P W = .ok (.int .i64 m) W := by
  have e2 : (Builtin.min_ ts t #[.int .i64 a, .int .i64 b, .int .i64 c, .int .i64 d]).run P W = .ok (.int .i64 (min (min (min a b) c) d)) W := by
    simp only [Builtin.min_, Builtin.min2, List.foldlM_cons, List.foldlM_nil, Sem.run_bind, Sem.run_pure, Result.andThen_ok]
    congr 2
    omega
  rw [e2, h]
theorem max4_run {P : Program} (a b c d m : Int) (h : max (max (max a b) c) d = m) (ts : Array TypeId) (t : TypeId) (W : World) : (Builtin.max_ ts t #[.int .i64 a, .int .i64 b, .int .i64 c, .int .i64 d]).run P W = .ok (.int .i64 m) W := by
  have e2 : (Builtin.max_ ts t #[.int .i64 a, .int .i64 b, .int .i64 c, .int .i64 d]).run P W = .ok (.int .i64 (max (max (max a b) c) d)) W := by
    simp only [Builtin.max_, Builtin.max2, List.foldlM_cons, List.foldlM_nil, Sem.run_bind, Sem.run_pure, Result.andThen_ok]
    congr 2
    omega
  rw [e2, h]
theorem curveP_none {l : List Pt} (h : ¬ FitL l) : curveP l = [] ∧ curveE l = 4 := by
  have h0 := piecesM_no h
  exact ⟨List.eq_nil_of_length_eq_zero (by rw [curveP_length]; exact h0), by unfold curveE; rw [if_pos h0]⟩
theorem curveE_fit {l : List Pt} (h : FitL l) : curveE l = 0 := by
  have := piecesM_pos h
  unfold curveE
  rw [if_neg (by omega)]
theorem FitL.front {a b c d : Pt} (h : FitL [a, b, c, d]) : FitL [a, b, c] := fun p hp => h p (by simp at hp ⊢; rcases hp with h | h | h <;> simp [h])

set_option maxRecDepth 10000 in
set_option maxHeartbeats 12800000 in
theorem walk_BezStays (a b c d : Pt) (w : World) :
    Calls Try.prog 5 #[.agg #[.int .i64 a.x, .int .i64 a.y, .int .i64 b.x, .int .i64 b.y, .int .i64 c.x, .int .i64 c.y, .int .i64 d.x, .int .i64 d.y]] w fun e w' => e = .returned (.bool true) ∧ Below w.heap.size w w' := by
  obtain ⟨W, hW, kW, B0⟩ : ∃ W, w.alloc (.cells #[.int .i64 a.x, .int .i64 a.y, .int .i64 b.x, .int .i64 b.y, .int .i64 c.x, .int .i64 c.y, .int .i64 d.x, .int .i64 d.y] 36) = W ∧ Box W w.heap.size 36 (ptRow [a, b, c, d]) ∧ Below w.heap.size w W := ⟨_, rfl, Box.new w _ (ptRow [a, b, c, d]), (Below.refl _ _).alloc (Nat.le_refl _) _⟩
  have cC := fun V => bez_Cube a b c d V
  have cQ := fun V => bez_Quad a b c V
  have C9 := Lib.hid law11_lives
  unfold Curved at cQ cC
  have hc6 : ∀ V, Below W.heap.size W V → (V.cell? ⟨w.heap.size, 0, none⟩ = some (.int .i64 a.x) ∧ V.cell? ⟨w.heap.size, 1, none⟩ = some (.int .i64 a.y) ∧ V.cell? ⟨w.heap.size, 2, none⟩ = some (.int .i64 b.x) ∧ V.cell? ⟨w.heap.size, 3, none⟩ = some (.int .i64 b.y) ∧ V.cell? ⟨w.heap.size, 4, none⟩ = some (.int .i64 c.x) ∧ V.cell? ⟨w.heap.size, 5, none⟩ = some (.int .i64 c.y) ∧ V.cell? ⟨w.heap.size, 6, none⟩ = some (.int .i64 d.x) ∧ V.cell? ⟨w.heap.size, 7, none⟩ = some (.int .i64 d.y)) := fun V h => by
    have k := kW.below h kW.lt
    exact ⟨k.cell 0 rfl, k.cell 1 rfl, k.cell 2 rfl, k.cell 3 rfl, k.cell 4 rfl, k.cell 5 rfl, k.cell 6 rfl, k.cell 7 rfl⟩
  have HB0 := Lib.hid B0
  by_cases hf : FitL [a, b, c, d]
  · have hf3 := hf.front
    have n4p := piecesM_pos hf
    have n3p := piecesM_pos hf3
    have n4l := piecesM_le [a, b, c, d]
    have n3l := piecesM_le [a, b, c]
    have l4 := curveP_length [a, b, c, d]
    have l3 := curveP_length [a, b, c]
    have h4 : (curveP [a, b, c, d]).getD (piecesM [a, b, c, d] - 1) pt0 = d := (getD_get (by omega)).trans (curveP_last (l := [a, b, c, d]) (by simp) n4p (by omega))
    have h3 : (curveP [a, b, c]).getD (piecesM [a, b, c] - 1) pt0 = c := (getD_get (by omega)).trans (curveP_last (l := [a, b, c]) (by simp) n3p (by omega))
    rw [curveE_fit hf] at cC
    rw [curveE_fit hf3] at cQ
    obtain ⟨lo, hlo⟩ : ∃ lo, min (min (min a.x b.x) c.x) d.x = lo := ⟨_, rfl⟩
    obtain ⟨hi, hhi⟩ : ∃ hi, max (max (max a.x b.x) c.x) d.x = hi := ⟨_, rfl⟩
    obtain ⟨lo', hlo'⟩ : ∃ lo, min (min (min a.y b.y) c.y) d.y = lo := ⟨_, rfl⟩
    obtain ⟨hi', hhi'⟩ : ∃ hi, max (max (max a.y b.y) c.y) d.y = hi := ⟨_, rfl⟩
    have bt4 : Btw lo hi lo' hi' [a, b, c, d] := fun p hp => by
      simp only [List.mem_cons, List.not_mem_nil, or_false] at hp
      rcases hp with rfl | rfl | rfl | rfl <;> omega
    have bt3 : Btw lo hi lo' hi' [a, b, c] := fun p hp => bt4 p (by simp at hp ⊢; rcases hp with h | h | h <;> simp [h])
    have in4 := curveP_in bt4 (by simp)
    have in3 := curveP_in bt3 (by simp)
    have hmn := fun ts t W => min4_run (P := Try.prog) a.x b.x c.x d.x lo hlo ts t W
    have hmx := fun ts t W => max4_run (P := Try.prog) a.x b.x c.x d.x hi hhi ts t W
    generalize curveP [a, b, c, d] = r4 at cC h4 l4 in4
    generalize curveP [a, b, c] = r3 at cQ h3 l3 in3
    generalize piecesM [a, b, c, d] = n4 at n4p n4l h4 l4
    generalize piecesM [a, b, c] = n3 at n3p n3l h3 l3
    simp only [l4] at cC
    simp only [l3] at cQ
    have HL4 := Lib.hid l4
    have HL3 := Lib.hid l3
    have H4 := Lib.hid h4
    have H3 := Lib.hid h3
    have HI4 := Lib.hid in4
    have HI3 := Lib.hid in3
    obtain ⟨ax, ay⟩ := a
    obtain ⟨bx, bY⟩ := b
    obtain ⟨cx, cy⟩ := c
    obtain ⟨dx, dY⟩ := d
    unfold ptV at cQ cC
    dsimp only at cQ cC hc6 hW hmn hmx ⊢
    have CC := Lib.hid cC
    have CQ := Lib.hid cQ
    have HC := Lib.hid hc6
    obtain ⟨p0, p1, p2, p3, p4, p5, p6, p7⟩ := hc6 W (Below.refl _ _)
    clear cQ cC hc6 kW B0 hlo hhi hlo' hhi' bt4 bt3 in4 in3 h4 h3 l4 l3 hf hf3
    go_enter Try.func5, Try.ntmps5
    go_wp2_with first
      | (rw [hW])
      | (go_at_call 12; (with_reducible refine Calls.mono (CC.out _) ?_); rintro e w1 ⟨⟨q1, k1, rfl, r1⟩, b1⟩
         obtain ⟨p0, p1, p2, p3, p4, p5, p6, p7⟩ := HC.out w1 b1)
      | (go_at_call 6; (with_reducible refine Calls.mono (CQ.out _) ?_); rintro e w2 ⟨⟨q2, k2, rfl, r2⟩, b2⟩
         obtain ⟨p0, p1, p2, p3, p4, p5, p6, p7⟩ := HC.out w2 (b1.trans (b2.mono b1.size))
         obtain ⟨g1, o1, rfl, hg1, e0, e1⟩ := (r1.on b2).pt (i := n4 - 1) (by rw [HL4.out]; omega)
         obtain ⟨g2, o2, rfl, hg2, f0, f1⟩ := r2.pt (i := n3 - 1) (by rw [HL3.out]; omega)
         rw [← getD_get (by rw [HL4.out]; omega), H4.out] at e0 e1
         rw [← getD_get (by rw [HL3.out]; omega), H3.out] at f0 f1
         dsimp only at e0 e1 f0 f1
         have HR := Lib.hid (And.intro (r1.on b2) (And.intro r2 (b1.trans (b2.mono b1.size))))
         have m4 : IntKind.i64.wrap ((n4 : Int) - 1) = (n4 : Int) - 1 := IntWalk.i64_in _ (by omega)
         have m3 : IntKind.i64.wrap ((n3 : Int) - 1) = (n3 : Int) - 1 := IntWalk.i64_in _ (by omega)
         have j4 : 0 ≤ (n4 : Int) - 1 ∧ (n4 : Int) - 1 < (n4 : Int) := by omega
         have j3 : 0 ≤ (n3 : Int) - 1 ∧ (n3 : Int) - 1 < (n3 : Int) := by omega
         have t4 : ((n4 : Int) - 1).toNat = n4 - 1 := by omega
         have t3 : ((n3 : Int) - 1).toNat = n3 - 1 := by omega
         have z4 : ((n4 : Int) == 0) = false := by simp; omega
         have z3 : ((n3 : Int) == 0) = false := by simp; omega
         have y4 : ¬ n4 = 0 := by omega
         have y3 : ¬ n3 = 0 := by omega
         clear r1 r2 b1 b2)
    go_quiet (fail)
    have hBq := below_figE HR.out.2.2 nq
    have k0 : Below w2.heap.size w2 (w2.drewN nq) := below_figE (Below.refl _ _) nq
    have HQ := Lib.hid (And.intro hBq k0)
    clear e0 e1 f0 f1 hBq k0 j4 j3 t4 t3 m4 m3
    go_wp2_with fail
    go_loopg [9] n4 (fun gh it wr => ∃ i : Nat, it = .int .i64 (i : Int) ∧ gh + i = n4 ∧ Below w2.heap.size w2 wr)
    case atStart => exact ⟨0, rfl, by omega, HQ.out.2⟩
    case round =>
      obtain ⟨i, rfl, hg, hB⟩ := hrel
      have HG := Lib.hid hg
      by_cases hlt : i < n4
      · have hlt' : i < r4.length := by rw [HL4.out]; exact hlt
        obtain ⟨g, o, hgo, hgl, e0, e1⟩ := (HR.out.1.below hB).pt (i := i) hlt'
        cases hgo
        have hil : (i : Int) < (n4 : Int) := by omega
        have hbt := HI4.out _ (List.getElem_mem hlt')
        obtain ⟨p, hpp⟩ : ∃ p, r4[i] = p := ⟨_, rfl⟩
        rw [hpp] at e0 e1 hbt
        obtain ⟨x, y⟩ := p
        dsimp only at e0 e1 hbt
        obtain ⟨⟨x1, x2⟩, -⟩ := hbt
        have x3 : ¬ x < lo := by omega
        have x4 : ¬ hi < x := by omega
        have HB1 := Lib.hid hB
        clear hpp hlt' hB x1 x2
        go_wp2_with fail
        go_roundg (n4 - (i + 1))
        case measure => have := HG.out; omega
        case rel => exact ⟨i + 1, by simp, by omega, HB1.out⟩
      · have HB1 := Lib.hid hB
        clear hB
        go_wp2_with fail
        go_loopg [10] n3 (fun gh it wr => ∃ i : Nat, it = .int .i64 (i : Int) ∧ gh + i = n3 ∧ Below w2.heap.size w2 wr)
        case atStart => exact ⟨0, rfl, by omega, HB1.out⟩
        case round =>
          obtain ⟨i, rfl, hg, hB⟩ := hrel
          have HG := Lib.hid hg
          by_cases hlt : i < n3
          · have hlt' : i < r3.length := by rw [HL3.out]; exact hlt
            obtain ⟨g, o, hgo, hgl, e0, e1⟩ := (HR.out.2.1.below hB).pt (i := i) hlt'
            cases hgo
            have hil : (i : Int) < (n3 : Int) := by omega
            have hbt := HI3.out _ (List.getElem_mem hlt')
            obtain ⟨p, hpp⟩ : ∃ p, r3[i] = p := ⟨_, rfl⟩
            rw [hpp] at e0 e1 hbt
            obtain ⟨x, y⟩ := p
            dsimp only at e0 e1 hbt
            obtain ⟨⟨x1, x2⟩, -⟩ := hbt
            have x3 : ¬ x < lo := by omega
            have x4 : ¬ hi < x := by omega
            have HB1 := Lib.hid hB
            clear hpp hlt' hB x1 x2
            go_wp2_with fail
            go_roundg (n3 - (i + 1))
            case measure => have := HG.out; omega
            case rel => exact ⟨i + 1, by simp, by omega, HB1.out⟩
          · have HB2 := Lib.hid (HB0.out.trans ((HR.out.2.2.trans (hB.mono HR.out.2.2.size)).mono HB0.out.size))
            clear hB
            go_wp2_with (go_at_call 11; (with_reducible refine Calls.mono (C9.out _) ?_); rintro e w8 ⟨rfl, b8⟩)
            go_ret
            exact ⟨rfl, HB2.out.trans (b8.mono HB2.out.size)⟩
  · obtain ⟨e4, e5⟩ := curveP_none hf
    rw [e4, e5] at cC
    generalize curveP [a, b, c] = r3 at cQ
    generalize curveE [a, b, c] = F at cQ
    obtain ⟨ax, ay⟩ := a
    obtain ⟨bx, bY⟩ := b
    obtain ⟨cx, cy⟩ := c
    obtain ⟨dx, dY⟩ := d
    obtain ⟨n3, hn3⟩ : ∃ n3, r3.length = n3 := ⟨_, rfl⟩
    simp only [hn3] at cQ
    unfold ptV at cQ cC
    dsimp only [List.length_nil] at cQ cC hc6 hW ⊢
    have CC := Lib.hid cC
    have CQ := Lib.hid cQ
    have HC := Lib.hid hc6
    obtain ⟨p0, p1, p2, p3, p4, p5, p6, p7⟩ := hc6 W (Below.refl _ _)
    clear cQ cC hc6 kW B0 e4 e5 hf hn3
    go_enter Try.func5, Try.ntmps5
    go_wp2_with first
      | (rw [hW])
      | (go_at_call 12; (with_reducible refine Calls.mono (CC.out _) ?_); rintro e w1 ⟨⟨q1, k1, rfl, r1⟩, b1⟩
         obtain ⟨p0, p1, p2, p3, p4, p5, p6, p7⟩ := HC.out w1 b1
         clear r1)
      | (go_at_call 6; (with_reducible refine Calls.mono (CQ.out _) ?_); rintro e w2 ⟨⟨q2, k2, rfl, r2⟩, b2⟩
         have HB2 := Lib.hid (HB0.out.trans ((b1.trans (b2.mono b1.size)).mono HB0.out.size))
         clear r2 b1 b2)
      | (go_at_call 11; (with_reducible refine Calls.mono (C9.out _) ?_); rintro e w8 ⟨rfl, b8⟩)
    go_ret
    exact ⟨rfl, HB2.out.trans (b8.mono HB2.out.size)⟩
end Go.Proofs.Ytlnkmjjbkmcpaaa
