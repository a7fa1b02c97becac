/- Lengths: the walk of GaugeLines. -/
import Derived.Test.YtbhahddgajkchaaZGdA
import Derived.Test.YtbhahddgajkchaaZGcY
import Derived.Lib.QuietBelow
import Derived.BigQuiet
namespace Go.Proofs.Ytbhahddgajkchaa
open Go.RowKit Num

theorem same_trueG {q1 q2 : Option Addr} {k1 k2 : Nat} {l : List Pt} {V : World} (h1 : RdV V V.heap.size q1 (ptRow l)) (h2 : RdV V V.heap.size q2 (ptRow l)) (hl : l.length ≤ 10000) : Calls Try.prog 23 #[.slice q1 l.length k1, .slice q2 l.length k2] V fun e w' => e = .returned (.bool true) ∧ Below V.heap.size V w' := by
  refine (ref10_Same q1 q2 k1 k2 l l V h1 h2 (by omega)).mono ?_
  rintro e w' ⟨⟨b, rfl, hb⟩, h⟩
  have : b = true := by simpa using hb
  rw [this]
  exact ⟨rfl, h⟩
theorem law14_few (A : Option Addr) (n c : Nat) (b : Bool) (hb : decide ((n : Int) ≤ 10000) = b) (w : World) : Calls Try.prog 18 #[.slice A n c] w fun e w' => e = .returned (.bool b) ∧ w = w' := by
  subst hb
  go_enter Try.func18, Try.ntmps18
  go_wp2_with fail
  go_ret
  exact ⟨rfl, rfl⟩

set_option maxRecDepth 10000 in
set_option maxHeartbeats 12800000 in
/-- GaugeLines, walked -/
theorem law14_Lines (L : List Pt) (A : Option Addr) (c : Nat) (cl : Bool) (w : World) (hL : RdV w w.heap.size A (ptRow L)) (hl : L.length ≤ 4611686018427387904) (hc : L.length ≤ c) :
    Calls Try.prog 5 #[.agg #[.slice A L.length c, .bool cl]] w fun e w' => e = .returned (.bool true) ∧ Below w.heap.size w w' := by
  obtain ⟨W, hW, kW, bW⟩ := line_box w (.slice A L.length c) (.bool cl)
  have c1 := fun V (h : Below w.heap.size w V) => gauge_Box L A c V (hL.on h) hl
  have c2 := fun V (h : Below w.heap.size w V) => ref14_Box L A c V (hL.on h) hl
  unfold Boxed at c1 c2
  generalize lowTo L L.length = lo at c1 c2
  generalize highTo L L.length = hi at c1 c2
  obtain ⟨D, hD⟩ : ∃ D, decide (0 < L.length) = D := ⟨_, rfl⟩
  rw [hD] at c1 c2
  obtain ⟨lx, ly⟩ := lo
  obtain ⟨hx, hy⟩ := hi
  unfold ptV at c1 c2
  dsimp only at c1 c2
  obtain ⟨n, hn⟩ : ∃ n, L.length = n := ⟨_, rfl⟩
  rw [hn] at kW hW c1 c2
  obtain ⟨⟨p0, p1⟩, -⟩ := Box.pair kW
  have HK := Lib.hid (And.intro kW bW)
  have C9 := Lib.hid law14_lives
  by_cases hf : L.length ≤ 10000
  · have c0 := fun V => law14_few A L.length c true (decide_eq_true (by omega)) V
    have c3 := fun V (h : Below w.heap.size w V) => gauge_Long L A c cl V (hL.on h) hf hc
    have c4 := fun V (h : Below w.heap.size w V) => ref14_Long L A c cl V (hL.on h) hf
    have c5 := fun V (h : Below w.heap.size w V) => gauge_Twice L A c V (hL.on h) hf hc
    have c6 := fun V (h : Below w.heap.size w V) => ref14_Twice L A c V (hL.on h) hf
    have c7 := fun V (h : Below w.heap.size w V) => gauge_Round L A c V (hL.on h) hf hc
    have c8 := fun V (h : Below w.heap.size w V) => ref14_Round L A c V (hL.on h) hf
    unfold RoundedG at c7 c8
    have htl := turnedM_length L
    have HS := Lib.hid (fun q1 q2 k1 k2 V (h1 : RdV V V.heap.size q1 (ptRow (turnedM L))) (h2 : RdV V V.heap.size q2 (ptRow (turnedM L))) => same_trueG (k1 := k1) (k2 := k2) h1 h2 (by omega))
    obtain ⟨nt, hnt⟩ : ∃ nt, (turnedM L).length = nt := ⟨_, rfl⟩
    simp only [hnt] at c7 c8 HS
    generalize turnedM L = T at c7 c8 HS
    generalize longM L cl = lg at c3 c4
    generalize twiceM L = tw at c5 c6
    rw [hn] at c0 c3 c4 c5 c6 c7 c8
    rw [hn]
    have C0 := Lib.hid c0
    have C1 := Lib.hid c1
    have C2 := Lib.hid c2
    have C3 := Lib.hid c3
    have C4 := Lib.hid c4
    have C5 := Lib.hid c5
    have C6 := Lib.hid c6
    have C7 := Lib.hid c7
    have C8 := Lib.hid c8
    have hsl : w.heap.size < W.heap.size := kW.lt
    clear c0 c1 c2 c3 c4 c5 c6 c7 c8 hD hl hc hL htl hnt kW bW hn hf
    go_enter Try.func5, Try.ntmps5
    go_wp2_with first
      | (rw [hW])
      | (go_at_call 16; (with_reducible refine Calls.mono (C1.out _ HK.out.2) ?_); rintro e w1 ⟨rfl, b1⟩
         obtain ⟨V1, hV1, x1, x2, d1, -⟩ := two_boxes w1 ⟨lx, ly⟩ ⟨hx, hy⟩
         have G1 := Lib.hid (b1.trans (d1.mono b1.size))
         have X1 := Lib.hid (And.intro x1 x2)
         obtain ⟨⟨p0, p1⟩, -⟩ := Box.pair (HK.out.1.below G1.out HK.out.1.lt)
         dsimp only at hV1
         clear b1 d1 x1 x2)
      | (rw [hV1])
      | (go_at_call 17; (with_reducible refine Calls.mono (C2.out _ (HK.out.2.trans (G1.out.mono HK.out.2.size))) ?_); rintro e w2 ⟨rfl, b2⟩
         obtain ⟨V2, hV2, y1, y2, d2, -⟩ := two_boxes w2 ⟨lx, ly⟩ ⟨hx, hy⟩
         have G2 := Lib.hid (b2.trans (d2.mono b2.size))
         have X2 := Lib.hid (And.intro (X1.out.1.below G2.out X1.out.1.lt) (And.intro (X1.out.2.below G2.out X1.out.2.lt) (And.intro y1 y2)))
         have G12 := Lib.hid (G1.out.trans (G2.out.mono G1.out.size))
         obtain ⟨⟨p0, p1⟩, -⟩ := Box.pair (HK.out.1.below G12.out HK.out.1.lt)
         dsimp only at hV2
         clear b2 d2 y1 y2)
      | (rw [hV2])
      | (go_at_call 18; (with_reducible refine Calls.mono (C0.out _) ?_); rintro e w3 ⟨rfl, rfl⟩)
    have HC := Lib.hid (fun V (h : Below V2.heap.size V2 V) => show ((V.cell? ⟨w.heap.size, 0, none⟩ = some (.slice A n c) ∧ V.cell? ⟨w.heap.size, 1, none⟩ = some (.bool cl)) ∧ (V.cell? ⟨w1.heap.size, 0, none⟩ = some (.int .i64 lx) ∧ V.cell? ⟨w1.heap.size, 1, none⟩ = some (.int .i64 ly)) ∧ (V.cell? ⟨w1.heap.size + 1, 0, none⟩ = some (.int .i64 hx) ∧ V.cell? ⟨w1.heap.size + 1, 1, none⟩ = some (.int .i64 hy)) ∧ (V.cell? ⟨w2.heap.size, 0, none⟩ = some (.int .i64 lx) ∧ V.cell? ⟨w2.heap.size, 1, none⟩ = some (.int .i64 ly)) ∧ (V.cell? ⟨w2.heap.size + 1, 0, none⟩ = some (.int .i64 hx) ∧ V.cell? ⟨w2.heap.size + 1, 1, none⟩ = some (.int .i64 hy))) ∧ Below V2.heap.size V2 V from by
      have k0 := HK.out.1.below G12.out HK.out.1.lt
      exact ⟨⟨(Box.pair (k0.below h k0.lt)).1, (Box.pair (X2.out.1.below h X2.out.1.lt)).1, (Box.pair (X2.out.2.1.below h X2.out.2.1.lt)).1, (Box.pair (X2.out.2.2.1.below h X2.out.2.2.1.lt)).1, (Box.pair (X2.out.2.2.2.below h X2.out.2.2.2.lt)).1⟩, h⟩)
    have HW2 := Lib.hid (HK.out.2.trans (G12.out.mono HK.out.2.size))
    have H0 := Lib.hid (fun V (h : Below V2.heap.size V2 V) => show Below w.heap.size w V from HW2.out.trans (h.mono HW2.out.size))
    have F0 := Lib.hid ((Below.refl V2.heap.size V2).drew)
    have HP := Lib.hid (HC.out V2.drew F0.out)
    clear hW hV1 hV2 p0 p1
    go_region_held3 (fun w' => ((w'.cell? ⟨w.heap.size, 0, none⟩ = some (.slice A n c) ∧ w'.cell? ⟨w.heap.size, 1, none⟩ = some (.bool cl)) ∧ (w'.cell? ⟨w1.heap.size, 0, none⟩ = some (.int .i64 lx) ∧ w'.cell? ⟨w1.heap.size, 1, none⟩ = some (.int .i64 ly)) ∧ (w'.cell? ⟨w1.heap.size + 1, 0, none⟩ = some (.int .i64 hx) ∧ w'.cell? ⟨w1.heap.size + 1, 1, none⟩ = some (.int .i64 hy)) ∧ (w'.cell? ⟨w2.heap.size, 0, none⟩ = some (.int .i64 lx) ∧ w'.cell? ⟨w2.heap.size, 1, none⟩ = some (.int .i64 ly)) ∧ (w'.cell? ⟨w2.heap.size + 1, 0, none⟩ = some (.int .i64 hx) ∧ w'.cell? ⟨w2.heap.size + 1, 1, none⟩ = some (.int .i64 hy))) ∧ Below V2.heap.size V2 w')
      (first
        | (with_reducible exact HP.out)
        | (with_reducible exact HC.out _ F1.out)
        | (with_reducible exact HC.out _ F2.out)
        | (with_reducible exact HC.out _ F3.out)
        | (with_reducible exact HC.out _ F4.out)
        | (with_reducible exact HC.out _ F5.out)
        | (with_reducible exact HC.out _ F6.out)
        | (with_reducible exact HC.out _ F7.out)
        | (with_reducible exact HC.out _ F8.out))
      ((first
        | (go_at_call 19; (with_reducible refine Calls.mono (C3.out _ (H0.out _ F0.out)) ?_); rintro e u1 ⟨rfl, b1⟩; have F1 := Lib.hid (F0.out.trans (b1.mono F0.out.size)); clear b1)
        | (go_at_call 20; (with_reducible refine Calls.mono (C4.out u1 (H0.out _ F1.out)) ?_); rintro e u2 ⟨rfl, b2⟩; have F2 := Lib.hid (F1.out.trans (b2.mono F1.out.size)); clear b2)
        | (go_at_call 21; (with_reducible refine Calls.mono (C5.out u2 (H0.out _ F2.out)) ?_); rintro e u3 ⟨rfl, b3⟩; have F3 := Lib.hid (F2.out.trans (b3.mono F2.out.size)); clear b3)
        | (go_at_call 22; (with_reducible refine Calls.mono (C6.out u3 (H0.out _ F3.out)) ?_); rintro e u4 ⟨rfl, b4⟩; have F4 := Lib.hid (F3.out.trans (b4.mono F3.out.size)); clear b4)
        | (go_at_call 24; (with_reducible refine Calls.mono (C7.out u4 (H0.out _ F4.out)) ?_); rintro e u5 ⟨⟨q1, k1, rfl, -, r1⟩, b5⟩; have F5 := Lib.hid (F4.out.trans (b5.mono F4.out.size)); have R1 := Lib.hid r1; clear b5 r1)
        | (go_at_call 25; (with_reducible refine Calls.mono (C8.out u5 (H0.out _ F5.out)) ?_); rintro e u6 ⟨⟨q2, k2, rfl, -, r2⟩, b6⟩; have F6 := Lib.hid (F5.out.trans (b6.mono F5.out.size)); have R2 := Lib.hid (And.intro (R1.out.on b6) r2); clear b6 r2)
        | (go_at_call 23; (with_reducible refine Calls.mono (HS.out q1 q2 k1 k2 u6 R2.out.1 R2.out.2) ?_); rintro e u7 ⟨rfl, b7⟩; have F7 := Lib.hid (F6.out.trans (b7.mono F6.out.size)); clear b7)
        | (go_at_call 13; (with_reducible refine Calls.mono (C9.out u7) ?_); rintro e u8 ⟨rfl, b8⟩; have F8 := Lib.hid (F7.out.trans (b8.mono F7.out.size)); clear b8)))
    go_wp2_with fail
    go_ret
    exact ⟨rfl, H0.out _ F8.out⟩
  · have c0 := fun V => law14_few A L.length c false (decide_eq_false (by omega)) V
    rw [hn] at c0
    rw [hn]
    have C0 := Lib.hid c0
    have C1 := Lib.hid c1
    have C2 := Lib.hid c2
    clear c0 c1 c2 hD hl hc hL kW bW hn hf
    go_enter Try.func5, Try.ntmps5
    go_wp2_with first
      | (rw [hW])
      | (go_at_call 16; (with_reducible refine Calls.mono (C1.out _ HK.out.2) ?_); rintro e w1 ⟨rfl, b1⟩
         obtain ⟨V1, hV1, x1, x2, d1, -⟩ := two_boxes w1 ⟨lx, ly⟩ ⟨hx, hy⟩
         have G1 := Lib.hid (b1.trans (d1.mono b1.size))
         obtain ⟨⟨p0, p1⟩, -⟩ := Box.pair (HK.out.1.below G1.out HK.out.1.lt)
         dsimp only at hV1
         clear b1 d1 x1 x2)
      | (rw [hV1])
      | (go_at_call 17; (with_reducible refine Calls.mono (C2.out _ (HK.out.2.trans (G1.out.mono HK.out.2.size))) ?_); rintro e w2 ⟨rfl, b2⟩
         obtain ⟨V2, hV2, y1, y2, d2, -⟩ := two_boxes w2 ⟨lx, ly⟩ ⟨hx, hy⟩
         have G2 := Lib.hid (b2.trans (d2.mono b2.size))
         have G12 := Lib.hid (G1.out.trans (G2.out.mono G1.out.size))
         obtain ⟨⟨p0, p1⟩, -⟩ := Box.pair (HK.out.1.below G12.out HK.out.1.lt)
         dsimp only at hV2
         clear b2 d2 y1 y2)
      | (rw [hV2])
      | (go_at_call 18; (with_reducible refine Calls.mono (C0.out _) ?_); rintro e w3 ⟨rfl, rfl⟩)
      | (go_at_call 13; (with_reducible refine Calls.mono (C9.out _) ?_); rintro e w4 ⟨rfl, b4⟩)
    go_ret
    exact ⟨rfl, HK.out.2.trans ((G12.out.trans (b4.mono G12.out.size)).mono HK.out.2.size)⟩
end Go.Proofs.Ytbhahddgajkchaa
/- Lengths: the walk of GaugeTurns. -/

namespace Go.Proofs.Ytbhahddgajkchaa
open Go.RowKit Num
open Go.Sort (grow)

theorem quiet_ofG {P : Program} {f : FuncId} {args : Array Value} {W : World} {v : Value} (h : ∀ V, Calls P f args V fun e w' => e = .returned v ∧ Below V.heap.size V w') :
    ∀ (d : Nat) (os : Array Obj), Calls P f args (grow (redrawn W d) os) fun e w'' => e = .returned v ∧ ∃ p : Regrown, w'' = grow (redrawn W p.d) p.os := fun _ _ => Calls.regrown_of (h _)
theorem twiceM_in {L : List Pt} (hl : L.length ≤ 10000) : -5629498192035920000 ≤ twiceM L ∧ twiceM L ≤ 5629498192035920000 := by
  by_cases h : FitL L
  · rw [twiceM_yes h, ← fanTo_all L]
    have := fanTo_in h (L.length - 2)
    omega
  · rw [twiceM_no h]; omega
theorem back_next {L : List Pt} {k : Nat} (h : k < L.length) : L.reverse.take (k + 1) = L.reverse.take k ++ [L.getD (L.length - 1 - k) pt0] := by
  rw [List.take_succ_eq_append_getElem (by rw [List.length_reverse]; exact h), List.getElem_reverse, getD_lt (by omega)]

set_option maxRecDepth 10000 in
set_option maxHeartbeats 12800000 in
/-- GaugeTurns, walked -/
theorem law14_Turns (L : List Pt) (a b : Pt) (A : Option Addr) (c : Nat) (w : World) (hL : RdV w w.heap.size A (ptRow L)) (hl : L.length ≤ 8796093022208) (hc : L.length ≤ c)
    (hx : (-9223372036854775808 ≤ a.x ∧ a.x ≤ 9223372036854775807) ∧ (-9223372036854775808 ≤ a.y ∧ a.y ≤ 9223372036854775807)) :
    Calls Try.prog 6 #[.slice A L.length c, ptV a, ptV b] w fun e w' => e = .returned (.bool true) ∧ Below w.heap.size w w' := by
  obtain ⟨W, hW, k1, k2, bW, sW⟩ := two_boxes w a b
  have c1 := fun V => gauge_Len a b V
  have c2 := fun V => gauge_Len b a V
  have c3 := fun V => gauge_Ahead a b 0 hx V
  rw [aheadG_stay] at c3
  rw [lenG_comm] at c2
  generalize lenG a b = l at c1 c2
  have hc4 : ∀ V, Below W.heap.size W V → ((V.cell? ⟨w.heap.size, 0, none⟩ = some (.int .i64 a.x) ∧ V.cell? ⟨w.heap.size, 1, none⟩ = some (.int .i64 a.y)) ∧ V.cell? ⟨w.heap.size + 1, 0, none⟩ = some (.int .i64 b.x) ∧ V.cell? ⟨w.heap.size + 1, 1, none⟩ = some (.int .i64 b.y)) ∧ Below W.heap.size W V := fun V hV =>
    ⟨⟨(Box.pair (k1.below hV k1.lt)).1, (Box.pair (k2.below hV k2.lt)).1⟩, hV⟩
  obtain ⟨ax, ay⟩ := a
  obtain ⟨bx, bY⟩ := b
  unfold ptV at *
  dsimp only at *
  obtain ⟨i0, hi, hz0, hz1, hz2⟩ := info_parts info_pt
  obtain ⟨n, hn⟩ : ∃ n, L.length = n := ⟨_, rfl⟩
  have HN := Lib.hid hn
  have HL := Lib.hid (hL.on bW)
  have C1 := Lib.hid c1
  have C2 := Lib.hid c2
  have C3 := Lib.hid c3
  have C9 := Lib.hid law14_lives
  have HC := Lib.hid hc4
  have HB0 := Lib.hid bW
  rw [hn] at hl hc ⊢
  have hsW : W.heap.size = W.heap.size := rfl
  clear c1 c2 c3 hc4 k1 k2 bW sW hx hn hL hsW
  have hwm : IntKind.i64.wrap ((n : Int) - 1) = (n : Int) - 1 := IntWalk.i64_in _ (by omega)
  go_enter Try.func6, Try.ntmps6
  go_wp2_with (rw [hW])
  try simp only [show wrap64 ((n : Int) - 1) = (n : Int) - 1 from by unfold wrap64; omega]
  clear hW
  go_loopg [7, 8] n (fun gh v it wr => ∃ k : Nat, it = .int .i64 ((n : Int) - 1 - (k : Int)) ∧ gh + k = n ∧ wr.ownsRow W.heap.size 23 2 v k (ptRow (L.reverse.take k)) ∧ Below W.heap.size W wr)
  case atStart => exact ⟨0, by simp, by omega, by simpa [ptRow] using World.ownsRow_nil W W.heap.size 23 2, Below.refl _ _⟩
  case round =>
    obtain ⟨k, rfl, hg, hown, hB⟩ := hrel
    by_cases hlt : k < n
    · have hlt' : k < L.length := by rw [HN.out]; exact hlt
      have hnx := back_next hlt'
      obtain ⟨j, hj⟩ : ∃ j, L.length - 1 - k = j := ⟨_, rfl⟩
      rw [hj] at hnx
      have hjl : j < L.length := by omega
      have hjn : j < n := by rw [← HN.out]; exact hjl
      have hji : (n : Int) - 1 - (k : Int) = (j : Int) := by have := HN.out; omega
      rw [hji]
      have hw2 : IntKind.i64.wrap ((j : Int) - 1) = (j : Int) - 1 := IntWalk.i64_in _ (by omega)
      have i1 : (j : Int) < (n : Int) := by omega
      have i2 : 0 ≤ (j : Int) := by omega
      obtain ⟨g, o, rfl, hgl, e2, e3⟩ := (HL.out.on hB).ptD hjl
      generalize L.getD j pt0 = p at e2 e3 hnx
      obtain ⟨x, y⟩ := p
      dsimp only at e2 e3
      have HNX := Lib.hid hnx
      have HO := Lib.hid (And.intro hown hB)
      have HG := Lib.hid (And.intro hg hji)
      clear hown hB hlt' hjl hj hnx hg hji
      go_wp2_with first
        | (at_builtin; refine wpList_append_own _ rfl _ _ 30 rfl W.heap.size 23 i0 (.agg #[.int .i64 0, .int .i64 0]) 2 16 Try.underlying30 hi hz0 hz1 hz2 rfl (by decide) _ k _ rfl (HO.out.1.alloc _) ⟨wr.heap.size, 0, none⟩ 1 1 [.int .i64 x, .int .i64 y] rfl rfl (two_new _ _ _ _) (by simp [Value.oneCell']) (by simp [maxLen]; omega) (by omega) (by have h1 := HO.out.2.size; simp; omega) ?_; intro v' w3 hown' hgrow _; replace hown' := Lib.hid hown'; replace hgrow := Lib.hid hgrow)
      have hstep : w3.ownsRow W.heap.size 23 2 v' (k + 1) (ptRow (L.reverse.take (k + 1))) := by
        rw [HNX.out, ptRow_append]
        exact hown'.out
      have hBs := below_grow2 (HO.out.2.alloc HO.out.2.size (.cells #[.int .i64 x, .int .i64 y] 23)) (HO.out.1.alloc _) (by have h1 := HO.out.2.size; simp; omega) hgrow.out
      go_roundg (n - (k + 1))
      case measure => have := HG.out.1; omega
      case rel => exact ⟨k + 1, by have := HG.out.2; congr 1; simp; omega, by have := HG.out.1; omega, hstep, hBs⟩
    · obtain rfl : k = n := by omega
      obtain ⟨q, kq, rfl, hkq, -, hr⟩ := RdV.ofOwnK hown
      have hall : L.reverse.take k = L.reverse := by rw [← HN.out, ← List.length_reverse, List.take_length]
      rw [hall] at hr
      have HR := Lib.hid (And.intro hr hkq)
      have G0 := Lib.hid hB
      have hge : ¬ (0 : Int) ≤ (k : Int) - 1 - (k : Int) := by omega
      obtain ⟨⟨⟨p0, p1⟩, q0, q1⟩, -⟩ := HC.out wr hB
      clear hown hr hB hall hg hkq
      by_cases hf : k ≤ 10000
      · have hfL : L.length ≤ 10000 := by rw [HN.out]; exact hf
        have c0 := fun V => law14_few A k c true (decide_eq_true (by omega)) V
        have c5 := fun V (h : Below W.heap.size W V) => gauge_Twice L A c V (HL.out.on h) hfL (by rw [HN.out]; exact hc)
        have c6 := fun V (h : Below wr.heap.size wr V) => gauge_Twice L.reverse q kq V (HR.out.1.on h) (by rw [List.length_reverse]; exact hfL) (by rw [List.length_reverse, HN.out]; exact HR.out.2)
        have c7 := fun V (h : Below W.heap.size W V) => gauge_Round L A c V (HL.out.on h) hfL (by rw [HN.out]; exact hc)
        have c8 := fun q2 k2 V (h : RdV V V.heap.size q2 (ptRow (turnedM L))) (h2 : (turnedM L).length ≤ k2) => gauge_Twice (turnedM L) q2 k2 V h (by rw [turnedM_length]; exact hfL) h2
        have htb := twiceM_in hfL
        have hpos := turnedM_twice L
        rw [twiceM_reverse, List.length_reverse, HN.out] at c6
        rw [HN.out] at c5 c7
        unfold RoundedG at c7
        obtain ⟨tw, htw⟩ : ∃ t, twiceM L = t := ⟨_, rfl⟩
        obtain ⟨tt, htt⟩ : ∃ t, twiceM (turnedM L) = t := ⟨_, rfl⟩
        rw [htw] at c5 c6 htb
        rw [htt] at c8 hpos
        obtain ⟨nt, hnt⟩ : ∃ nt, (turnedM L).length = nt := ⟨_, rfl⟩
        rw [hnt] at c7 c8
        generalize turnedM L = T at c7 c8
        have hwn : IntKind.i64.wrap (-tw) = -tw := IntWalk.i64_in _ (by omega)
        have hnp : ¬ tt < 0 := by omega
        have C0 := Lib.hid c0
        have C5 := Lib.hid c5
        have C6 := Lib.hid c6
        have C7 := Lib.hid c7
        have C8 := Lib.hid c8
        clear c0 c5 c6 c7 c8 htb hpos htw htt hnt hfL hlt
        go_wp2_with first
          | (go_at_call 18; (with_reducible refine Calls.mono (C0.out _) ?_); rintro e z1 ⟨rfl, rfl⟩)
          | (go_at_call 21; (with_reducible refine Calls.mono (C6.out _ (Below.refl _ _)) ?_); rintro e z2 ⟨rfl, b2⟩; have G1 := Lib.hid (G0.out.trans (b2.mono G0.out.size)); clear b2)
          | (go_at_call 21; (with_reducible refine Calls.mono (C5.out _ G1.out) ?_); rintro e z3 ⟨rfl, b3⟩; have G2 := Lib.hid (G1.out.trans (b3.mono G1.out.size)); clear b3)
          | (go_at_call 24; (with_reducible refine Calls.mono (C7.out _ G2.out) ?_); rintro e z4 ⟨⟨q2, k2, rfl, hk2, r2⟩, b4⟩; have G3 := Lib.hid (G2.out.trans (b4.mono G2.out.size)); have R2 := Lib.hid (And.intro r2 hk2); clear b4 r2 hk2)
          | (go_at_call 21; (with_reducible refine Calls.mono (C8.out _ _ _ R2.out.1 R2.out.2) ?_); rintro e z5 ⟨rfl, b5⟩; have G4 := Lib.hid (G3.out.trans (b5.mono G3.out.size)); clear b5; obtain ⟨⟨⟨p0, p1⟩, q0, q1⟩, -⟩ := HC.out z5 G4.out)
          | (go_at_call 7; (with_reducible refine Calls.mono (C1.out _) ?_); rintro e z6 ⟨rfl, b6⟩; have G5 := Lib.hid (G4.out.trans (b6.mono G4.out.size)); clear b6)
        have F0 := Lib.hid (G5.out.drew)
        have HP := Lib.hid (HC.out z6.drew F0.out)
        by_cases hl0 : l = 0
        · subst hl0
          obtain ⟨⟨⟨r0, r1⟩, s0, s1⟩, -⟩ := HC.out z6 G5.out
          have t0 := cell_regrown r0
          have t1 := cell_regrown r1
          have t2 := cell_regrown s0
          have t3 := cell_regrown s1
          have D2 := quiet_ofG (W := z6) C2.out
          have D9 := quiet_ofG (W := z6) C9.out
          clear C2 C9 C1 C3
          refine wp_region_quiet_below (by kernel_rfl) (by kernel_rfl) ?_
          quiet_step (fail)
          quiet_step (fail)
          quiet_step (fail)
          go_big_quiet_skip
          go_big_quiet_skip
          go_big_quiet_skip
          go_big_quiet_skip
          go_big_quiet_skip
          quiet_step (fail)
          quiet_step (fail)
          quiet_step (fail)
          quiet_step (fail)
          quiet_step (with_reducible exact D2 _ _)
          quiet_step (fail)
          quiet_step (fail)
          quiet_step (fail)
          quiet_step (fail)
          quiet_step (with_reducible exact D9 _ _)
          quiet_step (fail)
          quiet_step (fail)
          refine wpQuiet_nil ?_
          intro _ hw'
          obtain ⟨⟨dq, osq⟩, hw''⟩ := hw'
          subst hw''
          go_wp2_with fail
          go_ret
          have hG := G5.out.trans ((below_regrown z6 dq osq).mono G5.out.size)
          exact ⟨rfl, HB0.out.trans (hG.mono HB0.out.size)⟩
        · have hlz : ((l : Int) == 0) = false := by simp; omega
          go_region_held3 (fun w' => ((w'.cell? ⟨w.heap.size, 0, none⟩ = some (.int .i64 ax) ∧ w'.cell? ⟨w.heap.size, 1, none⟩ = some (.int .i64 ay)) ∧ w'.cell? ⟨w.heap.size + 1, 0, none⟩ = some (.int .i64 bx) ∧ w'.cell? ⟨w.heap.size + 1, 1, none⟩ = some (.int .i64 bY)) ∧ Below W.heap.size W w')
            (first
              | (with_reducible exact HP.out)
              | (with_reducible exact HC.out _ F1.out)
              | (with_reducible exact HC.out _ F2.out)
              | (with_reducible exact HC.out _ F3.out))
            ((first
              | (go_at_call 11; (with_reducible refine Calls.mono (C3.out _) ?_); rintro e y1 ⟨rfl, b1⟩; have F1 := Lib.hid (F0.out.trans (b1.mono F0.out.size)); clear b1)
              | (go_at_call 7; (with_reducible refine Calls.mono (C2.out y1) ?_); rintro e y2 ⟨rfl, b2⟩; have F2 := Lib.hid (F1.out.trans (b2.mono F1.out.size)); clear b2)
              | (go_at_call 13; (with_reducible refine Calls.mono (C9.out y2) ?_); rintro e y3 ⟨rfl, b3⟩; have F3 := Lib.hid (F2.out.trans (b3.mono F2.out.size)); clear b3)))
          go_wp2_with fail
          go_ret
          exact ⟨rfl, HB0.out.trans (F3.out.mono HB0.out.size)⟩
      · have c0 := fun V => law14_few A k c false (decide_eq_false (by omega)) V
        have C0 := Lib.hid c0
        clear c0 hlt
        go_wp2_with first
          | (go_at_call 18; (with_reducible refine Calls.mono (C0.out _) ?_); rintro e z1 ⟨rfl, rfl⟩)
          | (go_at_call 7; (with_reducible refine Calls.mono (C1.out _) ?_); rintro e z6 ⟨rfl, b6⟩; have G5 := Lib.hid (G0.out.trans (b6.mono G0.out.size)); clear b6)
        have F0 := Lib.hid (G5.out.drew)
        have HP := Lib.hid (HC.out z6.drew F0.out)
        by_cases hl0 : l = 0
        · subst hl0
          obtain ⟨⟨⟨r0, r1⟩, s0, s1⟩, -⟩ := HC.out z6 G5.out
          have t0 := cell_regrown r0
          have t1 := cell_regrown r1
          have t2 := cell_regrown s0
          have t3 := cell_regrown s1
          have D2 := quiet_ofG (W := z6) C2.out
          have D9 := quiet_ofG (W := z6) C9.out
          clear C2 C9 C1 C3
          refine wp_region_quiet_below (by kernel_rfl) (by kernel_rfl) ?_
          quiet_step (fail)
          quiet_step (fail)
          quiet_step (fail)
          go_big_quiet_skip
          go_big_quiet_skip
          go_big_quiet_skip
          go_big_quiet_skip
          go_big_quiet_skip
          quiet_step (fail)
          quiet_step (fail)
          quiet_step (fail)
          quiet_step (fail)
          quiet_step (with_reducible exact D2 _ _)
          quiet_step (fail)
          quiet_step (fail)
          quiet_step (fail)
          quiet_step (fail)
          quiet_step (with_reducible exact D9 _ _)
          quiet_step (fail)
          quiet_step (fail)
          refine wpQuiet_nil ?_
          intro _ hw'
          obtain ⟨⟨dq, osq⟩, hw''⟩ := hw'
          subst hw''
          go_wp2_with fail
          go_ret
          have hG := G5.out.trans ((below_regrown z6 dq osq).mono G5.out.size)
          exact ⟨rfl, HB0.out.trans (hG.mono HB0.out.size)⟩
        · have hlz : ((l : Int) == 0) = false := by simp; omega
          go_region_held3 (fun w' => ((w'.cell? ⟨w.heap.size, 0, none⟩ = some (.int .i64 ax) ∧ w'.cell? ⟨w.heap.size, 1, none⟩ = some (.int .i64 ay)) ∧ w'.cell? ⟨w.heap.size + 1, 0, none⟩ = some (.int .i64 bx) ∧ w'.cell? ⟨w.heap.size + 1, 1, none⟩ = some (.int .i64 bY)) ∧ Below W.heap.size W w')
            (first
              | (with_reducible exact HP.out)
              | (with_reducible exact HC.out _ F1.out)
              | (with_reducible exact HC.out _ F2.out)
              | (with_reducible exact HC.out _ F3.out))
            ((first
              | (go_at_call 11; (with_reducible refine Calls.mono (C3.out _) ?_); rintro e y1 ⟨rfl, b1⟩; have F1 := Lib.hid (F0.out.trans (b1.mono F0.out.size)); clear b1)
              | (go_at_call 7; (with_reducible refine Calls.mono (C2.out y1) ?_); rintro e y2 ⟨rfl, b2⟩; have F2 := Lib.hid (F1.out.trans (b2.mono F1.out.size)); clear b2)
              | (go_at_call 13; (with_reducible refine Calls.mono (C9.out y2) ?_); rintro e y3 ⟨rfl, b3⟩; have F3 := Lib.hid (F2.out.trans (b3.mono F2.out.size)); clear b3)))
          go_wp2_with fail
          go_ret
          exact ⟨rfl, HB0.out.trans (F3.out.mono HB0.out.size)⟩
end Go.Proofs.Ytbhahddgajkchaa
