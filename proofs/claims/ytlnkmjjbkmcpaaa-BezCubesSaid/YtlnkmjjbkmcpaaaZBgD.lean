/- The walk of BezQuads. -/
import Derived.Test.YtlnkmjjbkmcpaaaZBgC
import Derived.Test.YtlnkmjjbkmcpaaaZBgB
namespace Go.Proofs.Ytlnkmjjbkmcpaaa
open Go.RowKit

theorem same_true {q1 q2 : Option Addr} {k1 k2 : Nat} {l : List Pt} {V : World} (h1 : RdV V V.heap.size q1 (ptRow l)) (h2 : RdV V V.heap.size q2 (ptRow l)) (hl : l.length ≤ 32) : Calls Try.prog 8 #[.slice q1 l.length k1, .slice q2 l.length k2] V fun e w' => e = .returned (.bool true) ∧ Below V.heap.size V w' := by
  refine (ref10_Same q1 q2 k1 k2 l l V h1 h2 (by omega)).mono ?_
  rintro e w' ⟨⟨b, rfl, hb⟩, h⟩
  have : b = true := by simpa using hb
  rw [this]
  exact ⟨rfl, h⟩
theorem RdV.front {w : World} {B : Nat} {p : Option Addr} {a b : List Value} (h : RdV w B p (a ++ b)) : RdV w B p a := fun hn => by
  obtain ⟨g, o, e, hb, hc⟩ := h (by rw [List.length_append]; omega)
  exact ⟨g, o, e, hb, fun j hj => by rw [hc j (by rw [List.length_append]; omega), List.getElem_append_left hj]⟩
theorem curveP_le (l : List Pt) : (curveP l).length ≤ 32 := by rw [curveP_length]; exact piecesM_le l

set_option maxRecDepth 10000 in
set_option maxHeartbeats 12800000 in
theorem walk_BezQuads (a b c : Pt) (w : World) :
    Calls Try.prog 3 #[.agg #[.int .i64 a.x, .int .i64 a.y, .int .i64 b.x, .int .i64 b.y, .int .i64 c.x, .int .i64 c.y]] w fun e w' => e = .returned (.bool true) ∧ Below w.heap.size w w' := by
  obtain ⟨W, hW, kW, B0⟩ : ∃ W, w.alloc (.cells #[.int .i64 a.x, .int .i64 a.y, .int .i64 b.x, .int .i64 b.y, .int .i64 c.x, .int .i64 c.y] 24) = W ∧ Box W w.heap.size 24 (ptRow [a, b, c]) ∧ Below w.heap.size w W := ⟨_, rfl, Box.new w _ (ptRow [a, b, c]), (Below.refl _ _).alloc (Nat.le_refl _) _⟩
  have rW := fun V (h : Below W.heap.size W V) => (kW.below h kW.lt).rd
  have cQ := fun V => bez_Quad a b c V
  have cC := fun V (h : Below W.heap.size W V) => ref11_Curve [a, b, c] (some ⟨w.heap.size, 0, none⟩) 3 (by simp) (by simp) V (rW V h)
  have cP3 := fun (V : World) => bez_Pieces [a, b, c] (some ⟨V.heap.size, 0, none⟩) 3 (V.alloc (.cells #[.int .i64 a.x, .int .i64 a.y, .int .i64 b.x, .int .i64 b.y, .int .i64 c.x, .int .i64 c.y] 23)) (Box.new V 23 (ptRow [a, b, c])).rd (by simp)
  have cP2 := fun (V : World) => bez_Pieces [a, b] (some ⟨V.heap.size, 0, none⟩) 2 (V.alloc (.cells #[.int .i64 a.x, .int .i64 a.y, .int .i64 b.x, .int .i64 b.y] 23)) (Box.new V 23 (ptRow [a, b])).rd (by simp)
  have cR3 := fun V (h : Below W.heap.size W V) => ref11_Pieces [a, b, c] (some ⟨w.heap.size, 0, none⟩) 3 V (rW V h) (by simp)
  have cR2 := fun V (h : Below W.heap.size W V) => ref11_Pieces [a, b] (some ⟨w.heap.size, 0, none⟩) 3 V (RdV.front (b := ptRow [c]) (rW V h)) (by simp)
  have C9 := Lib.hid law11_lives
  unfold Curved at cQ cC
  have hle := curveP_le [a, b, c]
  generalize curveP [a, b, c] = r at cQ cC hle
  generalize curveE [a, b, c] = E at cQ cC
  generalize piecesM [a, b, c] = N3 at cP3 cR3
  generalize piecesM [a, b] = N2 at cP2 cR2
  have HS := Lib.hid (fun q1 q2 k1 k2 V (h1 : RdV V V.heap.size q1 (ptRow r)) (h2 : RdV V V.heap.size q2 (ptRow r)) => same_true (k1 := k1) (k2 := k2) h1 h2 hle)
  have hc6 : ∀ V, Below W.heap.size W V → (V.cell? ⟨w.heap.size, 0, none⟩ = some (.int .i64 a.x) ∧ V.cell? ⟨w.heap.size, 1, none⟩ = some (.int .i64 a.y) ∧ V.cell? ⟨w.heap.size, 2, none⟩ = some (.int .i64 b.x) ∧ V.cell? ⟨w.heap.size, 3, none⟩ = some (.int .i64 b.y) ∧ V.cell? ⟨w.heap.size, 4, none⟩ = some (.int .i64 c.x) ∧ V.cell? ⟨w.heap.size, 5, none⟩ = some (.int .i64 c.y)) ∧ Below W.heap.size W V := fun V h => by
    have k := kW.below h kW.lt
    exact ⟨⟨k.cell 0 rfl, k.cell 1 rfl, k.cell 2 rfl, k.cell 3 rfl, k.cell 4 rfl, k.cell 5 rfl⟩, h⟩
  obtain ⟨ax, ay⟩ := a
  obtain ⟨bx, bY⟩ := b
  obtain ⟨cx, cy⟩ := c
  unfold ptV at cQ
  dsimp only [List.length_cons, List.length_nil, Nat.zero_add, Nat.reduceAdd] at cQ cC cP3 cP2 cR3 cR2 hc6 hW
  obtain ⟨nr, hnr⟩ : ∃ nr, r.length = nr := ⟨_, rfl⟩
  simp only [hnr] at cQ cC HS
  have CQ := Lib.hid cQ
  have CC := Lib.hid cC
  have CP3 := Lib.hid cP3
  have CP2 := Lib.hid cP2
  have CR3 := Lib.hid cR3
  have CR2 := Lib.hid cR2
  have HC := Lib.hid hc6
  have HB0 := Lib.hid B0
  obtain ⟨p0, p1, p2, p3, p4, p5⟩ := (hc6 W (Below.refl _ _)).1
  clear cQ cC cP3 cP2 cR3 cR2 hc6 kW rW B0 hnr hle
  go_enter Try.func3, Try.ntmps3
  go_wp2_with first
    | (rw [hW])
    | (go_at_call 6; (with_reducible refine Calls.mono (CQ.out _) ?_); rintro e w1 ⟨⟨q1, k1, rfl, r1⟩, b1⟩
       obtain ⟨⟨p0, p1, p2, p3, p4, p5⟩, -⟩ := HC.out w1 b1)
    | (go_at_call 7; (with_reducible refine Calls.mono (CC.out w1 b1) ?_); rintro e w2 ⟨⟨q2, k2, rfl, r2⟩, b2⟩)
  have HR := Lib.hid (And.intro ((r1.on b2).on ((Below.refl _ w2).drew)) (r2.on ((Below.refl _ w2).drew)))
  have G0 := Lib.hid ((b1.trans (b2.mono b1.size)).drew)
  have HP := Lib.hid (HC.out w2.drew G0.out)
  clear r1 r2 b1 b2 hW
  go_region_held3 (fun w' => (w'.cell? ⟨w.heap.size, 0, none⟩ = some (.int .i64 ax) ∧ w'.cell? ⟨w.heap.size, 1, none⟩ = some (.int .i64 ay) ∧ w'.cell? ⟨w.heap.size, 2, none⟩ = some (.int .i64 bx) ∧ w'.cell? ⟨w.heap.size, 3, none⟩ = some (.int .i64 bY) ∧ w'.cell? ⟨w.heap.size, 4, none⟩ = some (.int .i64 cx) ∧ w'.cell? ⟨w.heap.size, 5, none⟩ = some (.int .i64 cy)) ∧ Below W.heap.size W w')
    (first
      | (with_reducible exact HP.out)
      | (with_reducible exact HC.out _ G1.out)
      | (with_reducible exact HC.out _ G2.out)
      | (with_reducible exact HC.out _ G3.out)
      | (with_reducible exact HC.out _ G4.out)
      | (with_reducible exact HC.out _ G5.out)
      | (with_reducible exact HC.out _ G6.out)
      | (with_reducible exact HC.out _ G7.out)
      | (with_reducible exact HC.out _ G8.out))
    ((first
      | (go_at_call 8; (with_reducible refine Calls.mono (HS.out q1 q2 k1 k2 _ HR.out.1 HR.out.2) ?_); rintro e w3 ⟨rfl, b3⟩; have G1 := Lib.hid (G0.out.trans (b3.mono G0.out.size)); have G2 := Lib.hid (G1.out.alloc G1.out.size (.cells #[.int .i64 ax, .int .i64 ay, .int .i64 bx, .int .i64 bY, .int .i64 cx, .int .i64 cy] 23)); clear b3)
      | (go_at_call 9; (with_reducible refine Calls.mono (CP3.out w3) ?_); rintro e w4 ⟨rfl, b4⟩; have G3 := Lib.hid (G2.out.trans (b4.mono G2.out.size)); clear b4)
      | (go_at_call 10; (with_reducible refine Calls.mono (CR3.out w4 G3.out) ?_); rintro e w5 ⟨rfl, b5⟩; have G4 := Lib.hid (G3.out.trans (b5.mono G3.out.size)); have G5 := Lib.hid (G4.out.alloc G4.out.size (.cells #[.int .i64 ax, .int .i64 ay, .int .i64 bx, .int .i64 bY] 23)); clear b5)
      | (go_at_call 9; (with_reducible refine Calls.mono (CP2.out w5) ?_); rintro e w6 ⟨rfl, b6⟩; have G6 := Lib.hid (G5.out.trans (b6.mono G5.out.size)); clear b6)
      | (go_at_call 10; (with_reducible refine Calls.mono (CR2.out w6 G6.out) ?_); rintro e w7 ⟨rfl, b7⟩; have G7 := Lib.hid (G6.out.trans (b7.mono G6.out.size)); clear b7)
      | (go_at_call 11; (with_reducible refine Calls.mono (C9.out w7) ?_); rintro e w8 ⟨rfl, b8⟩; have G8 := Lib.hid (G7.out.trans (b8.mono G7.out.size)); clear b8)))
  go_wp2_with fail
  go_ret
  exact ⟨rfl, HB0.out.trans (G8.out.mono HB0.out.size)⟩
end Go.Proofs.Ytlnkmjjbkmcpaaa
/- The walk of BezCubes. -/

namespace Go.Proofs.Ytlnkmjjbkmcpaaa
open Go.RowKit

set_option maxRecDepth 10000 in
set_option maxHeartbeats 12800000 in
theorem walk_BezCubes (a b c d : Pt) (w : World) :
    Calls Try.prog 4 #[.agg #[.int .i64 a.x, .int .i64 a.y, .int .i64 b.x, .int .i64 b.y, .int .i64 c.x, .int .i64 c.y, .int .i64 d.x, .int .i64 d.y]] w fun e w' => e = .returned (.bool true) ∧ Below w.heap.size w w' := by
  obtain ⟨W, hW, kW, B0⟩ : ∃ W, w.alloc (.cells #[.int .i64 a.x, .int .i64 a.y, .int .i64 b.x, .int .i64 b.y, .int .i64 c.x, .int .i64 c.y, .int .i64 d.x, .int .i64 d.y] 36) = W ∧ Box W w.heap.size 36 (ptRow [a, b, c, d]) ∧ Below w.heap.size w W := ⟨_, rfl, Box.new w _ (ptRow [a, b, c, d]), (Below.refl _ _).alloc (Nat.le_refl _) _⟩
  have rW := fun V (h : Below W.heap.size W V) => (kW.below h kW.lt).rd
  have cQ := fun V => bez_Cube a b c d V
  have cC := fun V (h : Below W.heap.size W V) => ref11_Curve [a, b, c, d] (some ⟨w.heap.size, 0, none⟩) 4 (by simp) (by simp) V (rW V h)
  have cP3 := fun (V : World) => bez_Pieces [a, b, c, d] (some ⟨V.heap.size, 0, none⟩) 4 (V.alloc (.cells #[.int .i64 a.x, .int .i64 a.y, .int .i64 b.x, .int .i64 b.y, .int .i64 c.x, .int .i64 c.y, .int .i64 d.x, .int .i64 d.y] 23)) (Box.new V 23 (ptRow [a, b, c, d])).rd (by simp)
  have cR3 := fun V (h : Below W.heap.size W V) => ref11_Pieces [a, b, c, d] (some ⟨w.heap.size, 0, none⟩) 4 V (rW V h) (by simp)
  have C9 := Lib.hid law11_lives
  unfold Curved at cQ cC
  have hle := curveP_le [a, b, c, d]
  generalize curveP [a, b, c, d] = r at cQ cC hle
  generalize curveE [a, b, c, d] = E at cQ cC
  generalize piecesM [a, b, c, d] = N3 at cP3 cR3
  have HS := Lib.hid (fun q1 q2 k1 k2 V (h1 : RdV V V.heap.size q1 (ptRow r)) (h2 : RdV V V.heap.size q2 (ptRow r)) => same_true (k1 := k1) (k2 := k2) h1 h2 hle)
  have hc6 : ∀ V, Below W.heap.size W V → (V.cell? ⟨w.heap.size, 0, none⟩ = some (.int .i64 a.x) ∧ V.cell? ⟨w.heap.size, 1, none⟩ = some (.int .i64 a.y) ∧ V.cell? ⟨w.heap.size, 2, none⟩ = some (.int .i64 b.x) ∧ V.cell? ⟨w.heap.size, 3, none⟩ = some (.int .i64 b.y) ∧ V.cell? ⟨w.heap.size, 4, none⟩ = some (.int .i64 c.x) ∧ V.cell? ⟨w.heap.size, 5, none⟩ = some (.int .i64 c.y) ∧ V.cell? ⟨w.heap.size, 6, none⟩ = some (.int .i64 d.x) ∧ V.cell? ⟨w.heap.size, 7, none⟩ = some (.int .i64 d.y)) ∧ Below W.heap.size W V := fun V h => by
    have k := kW.below h kW.lt
    exact ⟨⟨k.cell 0 rfl, k.cell 1 rfl, k.cell 2 rfl, k.cell 3 rfl, k.cell 4 rfl, k.cell 5 rfl, k.cell 6 rfl, k.cell 7 rfl⟩, h⟩
  obtain ⟨ax, ay⟩ := a
  obtain ⟨bx, bY⟩ := b
  obtain ⟨cx, cy⟩ := c
  obtain ⟨dx, dY⟩ := d
  unfold ptV at cQ
  dsimp only [List.length_cons, List.length_nil, Nat.zero_add, Nat.reduceAdd] at cQ cC cP3 cR3 hc6 hW
  obtain ⟨nr, hnr⟩ : ∃ nr, r.length = nr := ⟨_, rfl⟩
  simp only [hnr] at cQ cC HS
  have CQ := Lib.hid cQ
  have CC := Lib.hid cC
  have CP3 := Lib.hid cP3
  have CR3 := Lib.hid cR3
  have HC := Lib.hid hc6
  have HB0 := Lib.hid B0
  obtain ⟨p0, p1, p2, p3, p4, p5, p6, p7⟩ := (hc6 W (Below.refl _ _)).1
  clear cQ cC cP3 cR3 hc6 kW rW B0 hnr hle
  go_enter Try.func4, Try.ntmps4
  go_wp2_with first
    | (rw [hW])
    | (go_at_call 12; (with_reducible refine Calls.mono (CQ.out _) ?_); rintro e w1 ⟨⟨q1, k1, rfl, r1⟩, b1⟩
       obtain ⟨⟨p0, p1, p2, p3, p4, p5, p6, p7⟩, -⟩ := HC.out w1 b1)
    | (go_at_call 7; (with_reducible refine Calls.mono (CC.out w1 b1) ?_); rintro e w2 ⟨⟨q2, k2, rfl, r2⟩, b2⟩)
  have HR := Lib.hid (And.intro ((r1.on b2).on ((Below.refl _ w2).drew)) (r2.on ((Below.refl _ w2).drew)))
  have G0 := Lib.hid ((b1.trans (b2.mono b1.size)).drew)
  have HP := Lib.hid (HC.out w2.drew G0.out)
  clear r1 r2 b1 b2 hW
  go_region_held3 (fun w' => (w'.cell? ⟨w.heap.size, 0, none⟩ = some (.int .i64 ax) ∧ w'.cell? ⟨w.heap.size, 1, none⟩ = some (.int .i64 ay) ∧ w'.cell? ⟨w.heap.size, 2, none⟩ = some (.int .i64 bx) ∧ w'.cell? ⟨w.heap.size, 3, none⟩ = some (.int .i64 bY) ∧ w'.cell? ⟨w.heap.size, 4, none⟩ = some (.int .i64 cx) ∧ w'.cell? ⟨w.heap.size, 5, none⟩ = some (.int .i64 cy) ∧ w'.cell? ⟨w.heap.size, 6, none⟩ = some (.int .i64 dx) ∧ w'.cell? ⟨w.heap.size, 7, none⟩ = some (.int .i64 dY)) ∧ Below W.heap.size W w')
    (first
      | (with_reducible exact HP.out)
      | (with_reducible exact HC.out _ G1.out)
      | (with_reducible exact HC.out _ G2.out)
      | (with_reducible exact HC.out _ G3.out)
      | (with_reducible exact HC.out _ G4.out)
      | (with_reducible exact HC.out _ G8.out))
    ((first
      | (go_at_call 8; (with_reducible refine Calls.mono (HS.out q1 q2 k1 k2 _ HR.out.1 HR.out.2) ?_); rintro e w3 ⟨rfl, b3⟩; have G1 := Lib.hid (G0.out.trans (b3.mono G0.out.size)); have G2 := Lib.hid (G1.out.alloc G1.out.size (.cells #[.int .i64 ax, .int .i64 ay, .int .i64 bx, .int .i64 bY, .int .i64 cx, .int .i64 cy, .int .i64 dx, .int .i64 dY] 23)); clear b3)
      | (go_at_call 9; (with_reducible refine Calls.mono (CP3.out w3) ?_); rintro e w4 ⟨rfl, b4⟩; have G3 := Lib.hid (G2.out.trans (b4.mono G2.out.size)); clear b4)
      | (go_at_call 10; (with_reducible refine Calls.mono (CR3.out w4 G3.out) ?_); rintro e w5 ⟨rfl, b5⟩; have G4 := Lib.hid (G3.out.trans (b5.mono G3.out.size)); clear b5)
      | (go_at_call 11; (with_reducible refine Calls.mono (C9.out w5) ?_); rintro e w8 ⟨rfl, b8⟩; have G8 := Lib.hid (G4.out.trans (b8.mono G4.out.size)); clear b8)))
  go_wp2_with fail
  go_ret
  exact ⟨rfl, HB0.out.trans (G8.out.mono HB0.out.size)⟩
end Go.Proofs.Ytlnkmjjbkmcpaaa
