/- Lengths: that the law lives; the walks of GaugeNear and GaugeWays. -/
import Derived.Test.YtbhahddgajkchaaZGaX
import Derived.Test.YtbhahddgajkchaaZGcX
namespace Go.Proofs.Ytbhahddgajkchaa
open Go.RowKit Num

theorem len_lives : lenG pt0 ⟨3, 4⟩ = 5 := by
  rw [lenG_yes (by decide) (by decide)]
  have e : (sqG pt0 ⟨3, 4⟩).toNat = 25 := by decide
  rw [e]
  exact rootG_of ⟨by omega, by omega⟩
theorem aside_lives : asideG pt0 ⟨3, 4⟩ 10 = ⟨-8, 6⟩ := by
  unfold asideG
  rw [if_pos (by omega), len_lives]
  decide

set_option maxRecDepth 10000 in
set_option maxHeartbeats 1600000 in
theorem law14_lives (w : World) : Calls Try.prog 13 #[] w fun e w' => e = .returned (.bool true) ∧ Below w.heap.size w w' := by
  obtain ⟨W, hW, k1, k2, bW, sW⟩ := two_boxes w pt0 ⟨3, 4⟩
  have cL := fun V => gauge_Len pt0 ⟨3, 4⟩ V
  have cA := fun V => gauge_Aside pt0 ⟨3, 4⟩ 10 V
  rw [len_lives] at cL
  rw [aside_lives] at cA
  obtain ⟨⟨p0, p1⟩, -⟩ := Box.pair k1
  obtain ⟨⟨q0, q1⟩, -⟩ := Box.pair k2
  unfold ptV at *
  simp only [pt0] at *
  have HK := Lib.hid (And.intro k1 (And.intro k2 bW))
  have CL := Lib.hid cL
  have CA := Lib.hid cA
  clear k1 k2 bW sW cL cA
  go_enter Try.func13, Try.ntmps13
  go_wp2_with first
    | (rw [hW])
    | (go_at_call 7; (with_reducible refine Calls.mono (CL.out _) ?_); rintro e w1 ⟨rfl, b1⟩
       obtain ⟨⟨p0, p1⟩, -⟩ := Box.pair (HK.out.1.below b1 HK.out.1.lt)
       obtain ⟨⟨q0, q1⟩, -⟩ := Box.pair (HK.out.2.1.below b1 HK.out.2.1.lt))
    | (go_at_call 9; (with_reducible refine Calls.mono (CA.out _) ?_); rintro e w2 ⟨rfl, b2⟩)
  go_ret
  have b12 := b1.trans (b2.mono b1.size)
  exact ⟨rfl, HK.out.2.2.trans (b12.mono HK.out.2.2.size)⟩

set_option maxRecDepth 10000 in
set_option maxHeartbeats 1600000 in
/-- GaugeNear, walked -/
theorem law14_Near (n d : Int) (w : World) : Calls Try.prog 4 #[.int .i64 n, .int .i64 d] w fun e w' => e = .returned (.bool true) ∧ Below w.heap.size w w' := by
  have c1 := fun V => gauge_Near n d V
  have c2 := fun V => ref14_Near n d V
  generalize nearG n d = r at c1 c2
  have C1 := Lib.hid c1
  have C2 := Lib.hid c2
  have C9 := Lib.hid law14_lives
  clear c1 c2
  go_enter Try.func4, Try.ntmps4
  go_wp2_with first
    | (go_at_call 14; (with_reducible refine Calls.mono (C1.out _) ?_); rintro e w1 ⟨rfl, rfl⟩)
    | (go_at_call 15; (with_reducible refine Calls.mono (C2.out _) ?_); rintro e w2 ⟨rfl, b2⟩)
    | (go_at_call 13; (with_reducible refine Calls.mono (C9.out _) ?_); rintro e w3 ⟨rfl, b3⟩)
  go_ret
  exact ⟨rfl, b2.trans (b3.mono b2.size)⟩

set_option maxRecDepth 10000 in
set_option maxHeartbeats 6400000 in
/-- GaugeWays, walked -/
theorem law14_Ways (a b : Pt) (h : Int) (hx : (-9223372036854775808 ≤ a.x ∧ a.x ≤ 9223372036854775807) ∧ (-9223372036854775808 ≤ a.y ∧ a.y ≤ 9223372036854775807)) (w : World) : Calls Try.prog 3 #[ptV a, ptV b, .int .i64 h] w fun e w' => e = .returned (.bool true) ∧ Below w.heap.size w w' := by
  obtain ⟨W, hW, k1, k2, bW, sW⟩ := two_boxes w a b
  have c1 := fun V => gauge_Len a b V
  have c2 := fun V => ref14_Len a b V
  have c3 := fun V => gauge_Aside a b h V
  have c4 := fun V => ref14_Aside a b h V
  have c5 := fun V => gauge_Ahead a b h hx V
  have c6 := fun V => ref14_Ahead a b h V
  generalize lenG a b = l at c1 c2
  generalize asideG a b h = r at c3 c4
  generalize aheadG a b h = s at c5 c6
  have hc4 : ∀ V, Below W.heap.size W V → ((V.cell? ⟨w.heap.size, 0, none⟩ = some (.int .i64 a.x) ∧ V.cell? ⟨w.heap.size, 1, none⟩ = some (.int .i64 a.y)) ∧ V.cell? ⟨w.heap.size + 1, 0, none⟩ = some (.int .i64 b.x) ∧ V.cell? ⟨w.heap.size + 1, 1, none⟩ = some (.int .i64 b.y)) ∧ Below W.heap.size W V := fun V hV =>
    ⟨⟨(Box.pair (k1.below hV k1.lt)).1, (Box.pair (k2.below hV k2.lt)).1⟩, hV⟩
  obtain ⟨⟨p0, p1⟩, q0, q1⟩ := (hc4 W (Below.refl _ _)).1
  obtain ⟨ax, ay⟩ := a
  obtain ⟨bx, bY⟩ := b
  obtain ⟨rx, ry⟩ := r
  obtain ⟨sx, sy⟩ := s
  unfold ptV at *
  dsimp only at *
  have C1 := Lib.hid c1
  have C2 := Lib.hid c2
  have C3 := Lib.hid c3
  have C4 := Lib.hid c4
  have C5 := Lib.hid c5
  have C6 := Lib.hid c6
  have C9 := Lib.hid law14_lives
  have HC := Lib.hid hc4
  have HB0 := Lib.hid bW
  have G0 := Lib.hid ((Below.refl W.heap.size W).drew)
  have HP := Lib.hid (HC.out W.drew G0.out)
  clear c1 c2 c3 c4 c5 c6 hc4 k1 k2 bW sW hx
  go_enter Try.func3, Try.ntmps3
  go_wp2_with (rw [hW])
  clear hW
  go_region_held3 (fun w' => ((w'.cell? ⟨w.heap.size, 0, none⟩ = some (.int .i64 ax) ∧ w'.cell? ⟨w.heap.size, 1, none⟩ = some (.int .i64 ay)) ∧ w'.cell? ⟨w.heap.size + 1, 0, none⟩ = some (.int .i64 bx) ∧ w'.cell? ⟨w.heap.size + 1, 1, none⟩ = some (.int .i64 bY)) ∧ Below W.heap.size W w')
    (first
      | (with_reducible exact HP.out)
      | (with_reducible exact HC.out _ G1.out)
      | (with_reducible exact HC.out _ G2.out)
      | (with_reducible exact HC.out _ G3.out)
      | (with_reducible exact HC.out _ G4.out)
      | (with_reducible exact HC.out _ G5.out)
      | (with_reducible exact HC.out _ G6.out)
      | (with_reducible exact HC.out _ G7.out))
    ((first
      | (go_at_call 7; (with_reducible refine Calls.mono (C1.out _) ?_); rintro e w1 ⟨rfl, b1⟩; have G1 := Lib.hid (G0.out.trans (b1.mono G0.out.size)); clear b1)
      | (go_at_call 8; (with_reducible refine Calls.mono (C2.out w1) ?_); rintro e w2 ⟨rfl, b2⟩; have G2 := Lib.hid (G1.out.trans (b2.mono G1.out.size)); clear b2)
      | (go_at_call 9; (with_reducible refine Calls.mono (C3.out w2) ?_); rintro e w3 ⟨rfl, b3⟩; have G3 := Lib.hid (G2.out.trans (b3.mono G2.out.size)); clear b3)
      | (go_at_call 10; (with_reducible refine Calls.mono (C4.out w3) ?_); rintro e w4 ⟨rfl, b4⟩; have G4 := Lib.hid (G3.out.trans (b4.mono G3.out.size)); clear b4)
      | (go_at_call 11; (with_reducible refine Calls.mono (C5.out w4) ?_); rintro e w5 ⟨rfl, b5⟩; have G5 := Lib.hid (G4.out.trans (b5.mono G4.out.size)); clear b5)
      | (go_at_call 12; (with_reducible refine Calls.mono (C6.out w5) ?_); rintro e w6 ⟨rfl, b6⟩; have G6 := Lib.hid (G5.out.trans (b6.mono G5.out.size)); clear b6)
      | (go_at_call 13; (with_reducible refine Calls.mono (C9.out w6) ?_); rintro e w7 ⟨rfl, b7⟩; have G7 := Lib.hid (G6.out.trans (b7.mono G6.out.size)); clear b7)))
  go_wp2_with fail
  go_ret
  exact ⟨rfl, HB0.out.trans (G7.out.mono HB0.out.size)⟩
end Go.Proofs.Ytbhahddgajkchaa
