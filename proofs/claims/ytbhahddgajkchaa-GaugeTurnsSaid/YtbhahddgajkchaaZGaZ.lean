/- Lengths, the program's own: Box. -/
import Derived.Test.YtbhahddgajkchaaZGaY
namespace Go.Proofs.Ytbhahddgajkchaa
open Go.RowKit

theorem min2_runG {P : Program} (a b m : Int) (h : min a b = m) (ts : Array TypeId) (t : TypeId) (W : World) : (Builtin.min_ ts t #[.int .i64 a, .int .i64 b]).run P W = .ok (.int .i64 m) W := by
  rw [run_min_int2]
  congr 2
  omega
theorem max2_runG {P : Program} (a b m : Int) (h : max a b = m) (ts : Array TypeId) (t : TypeId) (W : World) : (Builtin.max_ ts t #[.int .i64 a, .int .i64 b]).run P W = .ok (.int .i64 m) W := by
  rw [run_max_int2]
  congr 2
  omega
theorem min2_ite {a b m : Int} (h : min a b = m) : (if b < a then b else a) = m := by omega
theorem max2_ite {a b m : Int} (h : max a b = m) : (if a < b then b else a) = m := by omega
theorem two_stored {w : World} {s : Nat} {t : TypeId} {a b c d : Value} (h1 : Box w s t [a, b]) (h2 : Box w (s + 1) t [c, d]) (x y z u : Value) : ∃ U, (((w.setCell ⟨s, 0, none⟩ x).setCell ⟨s, 1, none⟩ y).setCell ⟨s + 1, 0, none⟩ z).setCell ⟨s + 1, 1, none⟩ u = U ∧ U.cell? ⟨s, 0, none⟩ = some x ∧ U.cell? ⟨s, 1, none⟩ = some y ∧ U.cell? ⟨s + 1, 0, none⟩ = some z ∧ U.cell? ⟨s + 1, 1, none⟩ = some u ∧ Below s w U := by
  obtain ⟨V, hV, kV, -, bV⟩ := h1.stored2 x y
  have k2 : Box V (s + 1) t [c, d] := by
    rw [← hV]
    exact (h2.far (p := ⟨s, 0, none⟩) (by show s + 1 ≠ s; omega) _).far (p := ⟨s, 1, none⟩) (by show s + 1 ≠ s; omega) _
  obtain ⟨U, hU, kU, ⟨u0, u1⟩, bU⟩ := k2.stored2 z u
  have k1 : Box U s t [x, y] := by
    rw [← hU]
    exact (kV.far (p := ⟨s + 1, 0, none⟩) (by show s ≠ s + 1; omega) _).far (p := ⟨s + 1, 1, none⟩) (by show s ≠ s + 1; omega) _
  obtain ⟨⟨x0, x1⟩, -⟩ := Box.pair k1
  exact ⟨U, by rw [hV, hU], x0, x1, u0, u1, (bV s (Nat.le_refl _)).trans (bU s (by omega))⟩
theorem two_storedR {w : World} {s : Nat} {t : TypeId} {a b c d : Value} (h1 : Box w s t [a, b]) (h2 : Box w (s + 1) t [c, d]) (x y z u : Value) : ∃ U, (((w.setCell ⟨s + 1, 0, none⟩ z).setCell ⟨s + 1, 1, none⟩ u).setCell ⟨s, 0, none⟩ x).setCell ⟨s, 1, none⟩ y = U ∧ U.cell? ⟨s, 0, none⟩ = some x ∧ U.cell? ⟨s, 1, none⟩ = some y ∧ U.cell? ⟨s + 1, 0, none⟩ = some z ∧ U.cell? ⟨s + 1, 1, none⟩ = some u ∧ Below s w U := by
  obtain ⟨V, hV, kV, -, bV⟩ := h2.stored2 z u
  have k1 : Box V s t [a, b] := by
    rw [← hV]
    exact (h1.far (p := ⟨s + 1, 0, none⟩) (by show s ≠ s + 1; omega) _).far (p := ⟨s + 1, 1, none⟩) (by show s ≠ s + 1; omega) _
  obtain ⟨U, hU, kU, ⟨u0, u1⟩, bU⟩ := k1.stored2 x y
  have k2 : Box U (s + 1) t [z, u] := by
    rw [← hU]
    exact (kV.far (p := ⟨s, 0, none⟩) (by show s + 1 ≠ s; omega) _).far (p := ⟨s, 1, none⟩) (by show s + 1 ≠ s; omega) _
  obtain ⟨⟨x0, x1⟩, -⟩ := Box.pair k2
  exact ⟨U, by rw [hV, hU], u0, u1, x0, x1, (bV s (by omega)).trans (bU s (Nat.le_refl _))⟩
/-- what Box answers -/
def Boxed (L : List Pt) (w : World) (e : Ending) (w' : World) : Prop := e = .returned (.tuple #[ptV (lowTo L L.length), ptV (highTo L L.length), .bool (decide (0 < L.length))]) ∧ Below w.heap.size w w'

set_option maxRecDepth 10000 in
set_option maxHeartbeats 3200000 in
theorem gauge_Box (L : List Pt) (A : Option Addr) (c : Nat) (w : World) (hL : RdV w w.heap.size A (ptRow L)) (hl : L.length ≤ 4611686018427387904) :
    Calls Try.prog 16 #[.slice A L.length c] w (Boxed L w) := by
  obtain ⟨W, hW, k1, k2, bW⟩ := pair_boxes w 23 (.int .i64 0) (.int .i64 0) (.int .i64 0) (.int .i64 0)
  have sW : W.heap.size = w.heap.size + 2 := by rw [← hW]; simp
  obtain ⟨⟨p0, p1⟩, p2, p3⟩ := Box.pair k1
  obtain ⟨⟨q0, q1⟩, q2, q3⟩ := Box.pair k2
  unfold Boxed
  by_cases h0 : L.length = 0
  · obtain rfl := List.eq_nil_of_length_eq_zero h0
    have e1 : lowTo [] ([] : List Pt).length = pt0 := rfl
    have e2 : highTo [] ([] : List Pt).length = pt0 := rfl
    rw [e1, e2]
    obtain ⟨U, hU, kU, ⟨u0, u1⟩, bU⟩ := k1.stored2 (.int .i64 0) (.int .i64 0)
    have k2' : Box U (w.heap.size + 1) 23 [.int .i64 0, .int .i64 0] := by
      rw [← hU]
      exact (k2.far (p := ⟨w.heap.size, 0, none⟩) (by show w.heap.size + 1 ≠ w.heap.size; omega) _).far (p := ⟨w.heap.size, 1, none⟩) (by show w.heap.size + 1 ≠ w.heap.size; omega) _
    obtain ⟨V, hV, kV, ⟨v0, v1⟩, bV⟩ := k2'.stored2 (.int .i64 0) (.int .i64 0)
    have kU' : Box V w.heap.size 23 [.int .i64 0, .int .i64 0] := by
      rw [← hV]
      exact (kU.far (p := ⟨w.heap.size + 1, 0, none⟩) (by show w.heap.size ≠ w.heap.size + 1; omega) _).far (p := ⟨w.heap.size + 1, 1, none⟩) (by show w.heap.size ≠ w.heap.size + 1; omega) _
    obtain ⟨⟨x0, x1⟩, -⟩ := Box.pair kU'
    have HB := Lib.hid (bW.trans ((bU w.heap.size (by omega)).trans (bV w.heap.size (by omega))))
    have HU := Lib.hid hU
    have HV := Lib.hid hV
    obtain ⟨⟨r0, r1⟩, r2, r3⟩ := Box.pair k2'
    clear bW bU bV kU kV k1 k2 k2' kU' hL hl hV hU h0 e1 e2 sW
    simp only [List.length_nil]
    unfold ptV pt0
    dsimp only
    go_enter Try.func16, Try.ntmps16
    go_wp2_with first
      | (rw [hW])
      | (rw [HU.out])
    try rw [HU.out]
    try rw [HV.out]
    exact bodyPost_ret (by simp [results, Try.results16, go_sem, v0, v1, x0, x1]) rfl ⟨rfl, HB.out⟩
  · obtain ⟨n, hn⟩ : ∃ n, L.length = n := ⟨_, rfl⟩
    have HN := Lib.hid hn
    have hL0 := hL.ptD (i := 0) (by omega)
    have HL := Lib.hid hL
    have HK := Lib.hid (And.intro k1 (And.intro k2 (And.intro bW sW)))
    obtain ⟨g, o, rfl, hgl, e0, e1⟩ := hL0
    rw [hn]
    rw [hn] at hl
    have hd : decide (0 < n) = true := decide_eq_true (by omega)
    rw [hd]
    have f0 := (bW.cell (p := ⟨g, o + 0 * 2, none⟩) hgl).trans e0
    have f1 := (bW.cell (p := ⟨g, o + 0 * 2 + 1, none⟩) hgl).trans e1
    simp only [Nat.zero_mul, Nat.add_zero] at f0 f1
    have HZ1 := Lib.hid (show lowTo L 0 = L.getD 0 pt0 from rfl)
    have HZ2 := Lib.hid (show highTo L 0 = L.getD 0 pt0 from rfl)
    generalize L.getD 0 pt0 = z at f0 f1 HZ1 HZ2
    obtain ⟨zx, zy⟩ := z
    dsimp only at f0 f1
    have hn0 : ¬ (n : Int) = 0 := by omega
    have hn1 : (0 : Int) < (n : Int) := by omega
    have hn2 : 0 < n := by omega
    have hgW : g < W.heap.size := by omega
    clear hL k1 k2 bW sW e0 e1 hn h0 hd p0 p1 p2 p3 q0 q1 q2 q3
    go_enter Try.func16, Try.ntmps16
    go_wp2_with (rw [hW])
    go_region
    rotate_left
    obtain ⟨V, hV, k6, k5, bV⟩ := pair_boxes W 23 (.int .i64 zx) (.int .i64 zy) (.int .i64 zx) (.int .i64 zy)
    rw [hV]
    obtain ⟨x5, hx5⟩ : ∃ x, W.heap.size + 1 = x := ⟨_, rfl⟩
    obtain ⟨x6, hx6⟩ : ∃ x, W.heap.size = x := ⟨_, rfl⟩
    rw [hx5, hx6]
    rw [hx5] at k5
    rw [hx6] at k6
    have HX := Lib.hid (show x5 ≠ x6 ∧ w.heap.size + 2 ≤ x5 ∧ w.heap.size + 2 ≤ x6 from by have := HK.out.2.2.2; omega)
    rotate_left
    obtain ⟨V, hV, k5, k6, bV⟩ := pair_boxes W 23 (.int .i64 zx) (.int .i64 zy) (.int .i64 zx) (.int .i64 zy)
    rw [hV]
    obtain ⟨x6, hx6⟩ : ∃ x, W.heap.size + 1 = x := ⟨_, rfl⟩
    obtain ⟨x5, hx5⟩ : ∃ x, W.heap.size = x := ⟨_, rfl⟩
    rw [hx6, hx5]
    rw [hx5] at k5
    rw [hx6] at k6
    have HX := Lib.hid (show x5 ≠ x6 ∧ w.heap.size + 2 ≤ x5 ∧ w.heap.size + 2 ≤ x6 from by have := HK.out.2.2.2; omega)
    all_goals
      have HQ := Lib.hid (And.intro (Box.drewN k5 1) (And.intro (Box.drewN k6 1) (show Below (w.heap.size + 2) W V.drew from (bV.mono (by rw [HK.out.2.2.2]; omega)).drew)))
      clear k5 k6 bV hV hx5 hx6 f0 f1
      go_wp2_with fail
      go_loopg [22] n (fun gh it wr => ∃ i : Nat, it = .int .i64 (i : Int) ∧ gh + i = n ∧ Box wr x5 23 [.int .i64 (lowTo L i).x, .int .i64 (lowTo L i).y] ∧ Box wr x6 23 [.int .i64 (highTo L i).x, .int .i64 (highTo L i).y] ∧ Below (w.heap.size + 2) W wr)
      case atStart => exact ⟨0, rfl, by omega, by rw [HZ1.out]; exact HQ.out.1, by rw [HZ2.out]; exact HQ.out.2.1, HQ.out.2.2⟩
      case round =>
        obtain ⟨i, rfl, hg, h5, h6, hB⟩ := hrel
        by_cases hlt : i < n
        · have hlt' : i < L.length := by rw [HN.out]; exact hlt
          have bw : Below w.heap.size w wr := HK.out.2.2.1.trans (hB.mono (by omega))
          obtain ⟨g', o', hgo, -, e0, e1⟩ := (HL.out.below bw).ptD hlt'
          cases hgo
          have hil : (i : Int) < (n : Int) := by omega
          have hwi : IntKind.i64.wrap ((i : Int) + 1) = (i : Int) + 1 := IntWalk.i64_in _ (by omega)
          have hst1 : lowTo L (i + 1) = lowP (lowTo L i) (L.getD i pt0) := rfl
          have hst2 : highTo L (i + 1) = highP (highTo L i) (L.getD i pt0) := rfl
          generalize L.getD i pt0 = p at e0 e1 hst1 hst2
          generalize lowTo L i = lo at h5 hst1
          generalize highTo L i = hi at h6 hst2
          obtain ⟨x, y⟩ := p
          obtain ⟨lx, ly⟩ := lo
          obtain ⟨hx, hy⟩ := hi
          unfold lowP at hst1
          unfold highP at hst2
          dsimp only at *
          obtain ⟨m1, hm1⟩ : ∃ m, min lx x = m := ⟨_, rfl⟩
          obtain ⟨m2, hm2⟩ : ∃ m, min ly y = m := ⟨_, rfl⟩
          obtain ⟨m3, hm3⟩ : ∃ m, max hx x = m := ⟨_, rfl⟩
          obtain ⟨m4, hm4⟩ : ∃ m, max hy y = m := ⟨_, rfl⟩
          rw [hm1, hm2] at hst1
          rw [hm3, hm4] at hst2
          have r1 := fun ts t W => min2_runG (P := Try.prog) lx x m1 hm1 ts t W
          have r2 := fun ts t W => min2_runG (P := Try.prog) ly y m2 hm2 ts t W
          have r3 := fun ts t W => max2_runG (P := Try.prog) hx x m3 hm3 ts t W
          have r4 := fun ts t W => max2_runG (P := Try.prog) hy y m4 hm4 ts t W
          have v1 := min2_ite hm1
          have v2 := min2_ite hm2
          have v3 := max2_ite hm3
          have v4 := max2_ite hm4
          have l5 := h5.lt
          have l6 := h6.lt
          obtain ⟨V0, hV0, k0, c0⟩ := endP wr 23 (.int .i64 x) (.int .i64 y)
          have h50 := h5.below c0 l5
          have h60 := h6.below c0 l6
          obtain ⟨⟨t0, t1⟩, -⟩ := Box.pair k0
          obtain ⟨⟨a0, a1⟩, a2, a3⟩ := Box.pair h50
          obtain ⟨U, hU, kU, -, bU⟩ := h50.stored2 (.int .i64 m1) (.int .i64 m2)
          have h61 : Box U x6 23 [.int .i64 hx, .int .i64 hy] := by
            rw [← hU]
            exact (h60.far (p := ⟨x5, 0, none⟩) (Ne.symm HX.out.1) _).far (p := ⟨x5, 1, none⟩) (Ne.symm HX.out.1) _
          have k1 : Box U wr.heap.size 23 [.int .i64 x, .int .i64 y] := by
            rw [← hU]
            exact (k0.far (p := ⟨x5, 0, none⟩) (by show wr.heap.size ≠ x5; omega) _).far (p := ⟨x5, 1, none⟩) (by show wr.heap.size ≠ x5; omega) _
          obtain ⟨⟨b0, b1⟩, b2, b3⟩ := Box.pair h61
          obtain ⟨⟨d0, d1⟩, -⟩ := Box.pair k1
          obtain ⟨U2, hU2, kU2, -, bU2⟩ := h61.stored2 (.int .i64 m3) (.int .i64 m4)
          have h52 : Box U2 x5 23 [.int .i64 m1, .int .i64 m2] := by
            rw [← hU2]
            exact (kU.far (p := ⟨x6, 0, none⟩) HX.out.1 _).far (p := ⟨x6, 1, none⟩) HX.out.1 _
          have HF := Lib.hid (show Box U2 x5 23 [.int .i64 (lowTo L (i + 1)).x, .int .i64 (lowTo L (i + 1)).y] ∧ Box U2 x6 23 [.int .i64 (highTo L (i + 1)).x, .int .i64 (highTo L (i + 1)).y] ∧ Below (w.heap.size + 2) W U2 from
            ⟨by rw [hst1]; exact h52, by rw [hst2]; exact kU2, hB.trans ((c0.mono (by have := HX.out; omega)).trans ((bU _ HX.out.2.1).trans (bU2 _ HX.out.2.2)))⟩)
          have HG := Lib.hid hg
          clear hg hB bw h5 h6 hst1 hst2 hm1 hm2 hm3 hm4 k0 c0 h50 h60 kU bU h61 k1 kU2 bU2 h52 l5 l6 hlt'
          go_wp2_with first
            | (rw [hV0])
            | (rw [hU])
            | (rw [hU2])
          try rw [hU2]
          go_roundg (n - (i + 1))
          case measure => have := HG.out; omega
          case rel => exact ⟨i + 1, by simp, by have := HG.out; omega, HF.out.1, HF.out.2.1, HF.out.2.2⟩
        · obtain rfl : i = n := by omega
          obtain ⟨⟨a0, a1⟩, -⟩ := Box.pair h5
          obtain ⟨⟨b0, b1⟩, -⟩ := Box.pair h6
          have z1 := HK.out.1.below hB (by omega)
          have z2 := HK.out.2.1.below hB (by omega)
          obtain ⟨⟨c0, c1⟩, c2, c3⟩ := Box.pair z1
          obtain ⟨⟨d0, d1⟩, d2, d3⟩ := Box.pair z2
          obtain ⟨lo, hlo⟩ : ∃ lo, lowTo L i = lo := ⟨_, rfl⟩
          obtain ⟨hi, hhi⟩ : ∃ hi, highTo L i = hi := ⟨_, rfl⟩
          rw [hlo] at a0 a1
          rw [hhi] at b0 b1
          obtain ⟨lx, ly⟩ := lo
          obtain ⟨hx, hy⟩ := hi
          dsimp only at a0 a1 b0 b1
          have HLO := Lib.hid (show Ending.returned (.tuple #[.agg #[.int .i64 lx, .int .i64 ly], .agg #[.int .i64 hx, .int .i64 hy], .bool true]) = Ending.returned (.tuple #[ptV (lowTo L i), ptV (highTo L i), .bool true]) from by rw [hlo, hhi]; rfl)
          clear hlo hhi
          have HZ := Lib.hid (And.intro z1 (And.intro z2 (HK.out.2.2.1.trans (hB.mono (by omega)))))
          have HX5 := HX.out.2.1
          have HX6 := HX.out.2.2
          have n1 : ¬ w.heap.size = x5 := by omega
          have n2 : ¬ x5 = w.heap.size := by omega
          have n3 : ¬ w.heap.size = x6 := by omega
          have n4 : ¬ x6 = w.heap.size := by omega
          have n5 : ¬ w.heap.size + 1 = x5 := by omega
          have n6 : ¬ x5 = w.heap.size + 1 := by omega
          have n7 : ¬ w.heap.size + 1 = x6 := by omega
          have n8 : ¬ x6 = w.heap.size + 1 := by omega
          clear h5 h6 hB z1 z2 hg HX5 HX6
          go_wp2_with fail
          go_region
          all_goals
            first
              | (obtain ⟨U, hU, v0, v1, y0, y1, bU⟩ := two_stored HZ.out.1 HZ.out.2.1 (.int .i64 lx) (.int .i64 ly) (.int .i64 hx) (.int .i64 hy)
                 rw [hU])
              | (obtain ⟨U, hU, v0, v1, y0, y1, bU⟩ := two_storedR HZ.out.1 HZ.out.2.1 (.int .i64 lx) (.int .i64 ly) (.int .i64 hx) (.int .i64 hy)
                 rw [hU])
            have HB := Lib.hid (HZ.out.2.2.trans bU.drew)
            clear hU bU
            have v0' : U.drew.cell? ⟨w.heap.size, 0, none⟩ = some (.int .i64 lx) := v0
            have v1' : U.drew.cell? ⟨w.heap.size, 1, none⟩ = some (.int .i64 ly) := v1
            have y0' : U.drew.cell? ⟨w.heap.size + 1, 0, none⟩ = some (.int .i64 hx) := y0
            have y1' : U.drew.cell? ⟨w.heap.size + 1, 1, none⟩ = some (.int .i64 hy) := y1
            go_wp2_with fail
            exact bodyPost_ret (by simp [results, Try.results16, go_sem, v0, v1, y0, y1]) rfl ⟨HLO.out, HB.out⟩
end Go.Proofs.Ytbhahddgajkchaa
/- Lengths, the program's own: slices.Clone and slices.Reverse at points, Round. -/

namespace Go.Proofs.Ytbhahddgajkchaa
open Go.RowKit

/-- a row that Clone made -/
def ClonedG (L : List Pt) (w : World) (e : Ending) (w' : World) : Prop :=
  ∃ q k, e = .returned (.slice q L.length k) ∧ L.length ≤ k ∧ (0 < L.length → ∃ g R, q = some ⟨g, 0, none⟩ ∧ w.heap.size ≤ g ∧ Lies w' g L R) ∧ Below w.heap.size w w'

set_option maxRecDepth 10000 in
set_option maxHeartbeats 1600000 in
theorem slices_CloneG (L : List Pt) (A : Option Addr) (c : Nat) (w : World) (hL : RdV w w.heap.size A (ptRow L)) (hl : L.length ≤ 1073741824) :
    Calls Try.prog 36 #[.slice A L.length c] w (ClonedG L w) := by
  by_cases h0 : 0 < L.length
  · refine (slices_Clone L A c w hL hl h0).mono ?_
    rintro e w' ⟨g, cap, R, rfl, h1, h2, h3, h4⟩
    unfold ClonedG
    exact ⟨_, _, rfl, h1, fun _ => ⟨g, R, rfl, h2, h3⟩, h4⟩
  · obtain rfl := List.eq_nil_of_length_eq_zero (show L.length = 0 by omega)
    simp only [List.length_nil]
    clear hL hl h0
    cases A with
    | none =>
      have hnil : ∀ W, (binOp .eql 30 (.slice none 0 c) (.slice none 0 0)).run Try.prog W = .ok (.bool true) W := fun W => Lib.run_eql_slice_nil W _ _ _ _ _ _ _ Try.underlying30
      go_enter Try.func36, Try.ntmps36
      go_wp2_with fail
      go_ret
      unfold ClonedG
      exact ⟨none, 0, rfl, Nat.le_refl _, fun h => absurd h (by simp), Below.refl _ _⟩
    | some a =>
      obtain ⟨i0, hi, hz0, hz1, hz2⟩ := info_parts info_pt
      have hnil : ∀ W, (binOp .eql 30 (.slice (some a) 0 c) (.slice none 0 0)).run Try.prog W = .ok (.bool false) W := fun W => Lib.run_eql_slice_nil W _ _ _ _ _ _ _ Try.underlying30
      have hown : (w.alloc (.cells #[] 23)).ownsRow w.heap.size 23 2 (.slice (some ⟨w.heap.size, 0, none⟩) 0 0) 0 [] := ⟨rfl, .inr ⟨w.heap.size, 0, #[], rfl, Nat.le_refl _, heap_alloc_new w _, Nat.le_refl _, by simp [maxLen], rfl, rfl⟩⟩
      have hB := (Below.refl w.heap.size w).alloc (Nat.le_refl _) (.cells #[] 23)
      have HO := Lib.hid (And.intro hown hB)
      clear hown hB
      go_enter Try.func36, Try.ntmps36
      go_wp2_with (at_builtin; refine wpList_append_own _ rfl _ _ 30 rfl w.heap.size 23 i0 (.agg #[.int .i64 0, .int .i64 0]) 2 16 Try.underlying30 hi hz0 hz1 hz2 rfl (by decide) _ 0 _ rfl HO.out.1 a 0 c [] rfl rfl (by simp) (by simp) (by simp [maxLen]) (by omega) (by simp) ?_; intro v' w3 hown' hgrow _; replace hown' := Lib.hid hown'; replace hgrow := Lib.hid hgrow)
      have hBs := below_grow2 HO.out.2 HO.out.1 (by simp) hgrow.out
      have ho := hown'.out
      obtain ⟨p, cap, rfl, -, -, hr⟩ := RdV.ofOwnK ho
      go_ret
      unfold ClonedG
      exact ⟨p, cap, rfl, Nat.zero_le _, fun h => absurd h (by simp), hBs⟩

theorem flip_at {L : List Pt} {i : Nat} (h : 2 * i + 1 < L.length) : (flipTo L i)[i]'(by rw [flipTo_length]; omega) = L.getD i pt0 ∧ (flipTo L i)[L.length - 1 - i]'(by rw [flipTo_length]; omega) = L.getD (L.length - 1 - i) pt0 := by
  rw [flipTo_getElem, flipTo_getElem, if_neg (by omega), if_neg (by omega)]
  exact ⟨rfl, rfl⟩

set_option maxRecDepth 10000 in
set_option maxHeartbeats 3200000 in
theorem slices_ReverseG (L : List Pt) (g : Nat) (R : List Value) (c : Nat) (w : World) (hL : Lies w g L R) (hl : L.length ≤ 1073741824) :
    Calls Try.prog 37 #[.slice (some ⟨g, 0, none⟩) L.length c] w fun e w' => e = .returned (.tuple #[]) ∧ Lies w' g L.reverse R ∧ Below g w w' := by
  obtain ⟨n, hn⟩ : ∃ n, L.length = n := ⟨_, rfl⟩
  have HN := Lib.hid hn
  have HL := Lib.hid hL
  rw [hn] at hl ⊢
  clear hn hL
  have hwm : IntKind.i64.wrap ((n : Int) - 1) = (n : Int) - 1 := IntWalk.i64_in _ (by omega)
  go_enter Try.func37, Try.ntmps37
  go_wp2_with fail
  try simp only [show wrap64 ((n : Int) - 1) = (n : Int) - 1 from by unfold wrap64; omega]
  go_loopg [2, 3] n (fun gh iv jv wr => ∃ i : Nat, iv = .int .i64 (i : Int) ∧ jv = .int .i64 ((n : Int) - 1 - (i : Int)) ∧ gh + i = n ∧ Lies wr g (flipTo L i) R ∧ Below g w wr)
  case atStart => exact ⟨0, rfl, by simp, by omega, by rw [flipTo_zero]; exact HL.out, Below.refl _ _⟩
  case round =>
    obtain ⟨i, rfl, rfl, hg, hl2, hB⟩ := hrel
    by_cases hlt : 2 * i + 1 < n
    · have hlt' : 2 * i + 1 < L.length := by rw [HN.out]; exact hlt
      obtain ⟨f1, f2⟩ := flip_at hlt'
      have hi : i < (flipTo L i).length := by rw [flipTo_length]; omega
      have hj : L.length - 1 - i < (flipTo L i).length := by rw [flipTo_length]; omega
      obtain ⟨⟨a0, a1⟩, a2, a3⟩ := hl2.pt hi
      obtain ⟨⟨b0, b1⟩, b2, b3⟩ := hl2.pt hj
      have hst := flipTo_step hlt'
      rw [f1] at a0 a1
      rw [f2] at b0 b1
      obtain ⟨j, hje⟩ : ∃ j, L.length - 1 - i = j := ⟨_, rfl⟩
      rw [hje] at b0 b1 b2 b3 hst hj
      generalize L.getD i pt0 = x at a0 a1 hst
      generalize L.getD j pt0 = y at b0 b1 hst
      have hji : (n : Int) - 1 - (i : Int) = (j : Int) := by have := HN.out; omega
      rw [hji]
      obtain ⟨U1, hU1, l1, d1⟩ := hl2.set hi y
      obtain ⟨U2, hU2, l2, d2⟩ := l1.set (i := j) (by rw [List.length_set]; exact hj) x
      obtain ⟨V1, hV1, m1, e1⟩ := hl2.set hj x
      obtain ⟨V2, hV2, m2, e2⟩ := m1.set (i := i) (by rw [List.length_set]; exact hi) y
      have hij : i < j := by have := HN.out; omega
      rw [hst] at l2
      rw [List.set_comm _ _ (by omega), hst] at m2
      rw [← hU1] at hU2
      rw [← hV1] at hV2
      have HE := Lib.hid (And.intro hU2 (And.intro hV2 (And.intro l2 (And.intro m2 (And.intro (hB.trans ((d1 g (Nat.le_refl _)).trans (d2 g (Nat.le_refl _)))) (hB.trans ((e1 g (Nat.le_refl _)).trans (e2 g (Nat.le_refl _)))))))))
      obtain ⟨x0, x1⟩ := x
      obtain ⟨y0, y1⟩ := y
      dsimp only at a0 a1 b0 b1 HE
      have n1 : ¬ i * 2 = j * 2 := by omega
      have n2 : ¬ j * 2 = i * 2 := by omega
      have n3 : ¬ i * 2 + 1 = j * 2 := by omega
      have n4 : ¬ j * 2 = i * 2 + 1 := by omega
      have n5 : ¬ i * 2 = j * 2 + 1 := by omega
      have n6 : ¬ j * 2 + 1 = i * 2 := by omega
      have n7 : ¬ i * 2 + 1 = j * 2 + 1 := by omega
      have n8 : ¬ j * 2 + 1 = i * 2 + 1 := by omega
      have i1 : (i : Int) < (j : Int) := by omega
      have i2 : (i : Int) < (n : Int) := by omega
      have i3 : i < n := by omega
      have i4 : (j : Int) < (n : Int) := by have := HN.out; omega
      have i5 : j < n := by omega
      have w1 : IntKind.i64.wrap ((i : Int) + 1) = (i : Int) + 1 := IntWalk.i64_in _ (by omega)
      have w2 : IntKind.i64.wrap ((j : Int) - 1) = (j : Int) - 1 := IntWalk.i64_in _ (by omega)
      have HG := Lib.hid (And.intro hg hji)
      clear hU1 hU2 hV1 hV2 l1 l2 m1 m2 d1 d2 e1 e2 hst hl2 hB hi hj f1 f2 hlt' hje hji hg
      go_wp2_with fail
      go_region
      all_goals
        first
          | (rw [HE.out.1]
             have HZ := Lib.hid (show Lies U2.drew g (flipTo L (i + 1)) R ∧ Below g w U2.drew from ⟨HE.out.2.2.1, HE.out.2.2.2.2.1.drew⟩))
          | (rw [HE.out.2.1]
             have HZ := Lib.hid (show Lies V2.drew g (flipTo L (i + 1)) R ∧ Below g w V2.drew from ⟨HE.out.2.2.2.1, HE.out.2.2.2.2.2.drew⟩))
        clear HE
        go_wp2_with fail
        go_roundg (n - (i + 1))
        case measure => have := HG.out.1; omega
        case rel => exact ⟨i + 1, by simp, by have := HG.out.2; congr 1; simp; omega, by have := HG.out.1; omega, HZ.out.1, HZ.out.2⟩
    · have he := flipTo_all (l := L) (i := i) (by rw [HN.out]; omega)
      rw [he] at hl2
      have HF := Lib.hid (And.intro hl2 hB)
      have hge : ¬ (i : Int) < (n : Int) - 1 - (i : Int) := by omega
      clear hl2 hB he
      go_wp2_with fail
      go_end0
      exact ⟨rfl, HF.out⟩

/-- what Round answers -/
def RoundedG (L : List Pt) (w : World) (e : Ending) (w' : World) : Prop :=
  (∃ q k, e = .returned (.slice q (turnedM L).length k) ∧ (turnedM L).length ≤ k ∧ RdV w' w'.heap.size q (ptRow (turnedM L))) ∧ Below w.heap.size w w'
theorem Lies.rd {w : World} {g : Nat} {l : List Pt} {R : List Value} (h : Lies w g l R) : RdV w w.heap.size (some ⟨g, 0, none⟩) (ptRow l) := fun _ => ⟨g, 0, rfl, Box.lt h, fun j hj => by
  rw [Nat.zero_add]
  exact Box.cell h j (by rw [List.getElem?_append_left hj]; exact List.getElem?_eq_getElem hj)⟩

set_option maxRecDepth 10000 in
set_option maxHeartbeats 3200000 in
theorem gauge_Round (L : List Pt) (A : Option Addr) (c : Nat) (w : World) (hL : RdV w w.heap.size A (ptRow L)) (hl : L.length ≤ 10000) (hc : L.length ≤ c) :
    Calls Try.prog 24 #[.slice A L.length c] w (RoundedG L w) := by
  have cC := slices_CloneG L A c w hL (by omega)
  have cT := fun V (h : Below w.heap.size w V) => gauge_Twice L A c V (hL.on h) hl hc
  have HL := Lib.hid hl
  unfold ClonedG at cC
  have CC := Lib.hid cC
  obtain ⟨t, ht⟩ : ∃ t, twiceM L = t := ⟨_, rfl⟩
  rw [ht] at cT
  have CT := Lib.hid cT
  clear cC cT hL hl hc
  by_cases h : t < 0
  · have he : turnedM L = L.reverse := by unfold turnedM; rw [ht, if_pos h]
    have hp : 0 < L.length := by
      rcases Nat.eq_zero_or_pos L.length with h0 | h0
      · obtain rfl := List.eq_nil_of_length_eq_zero h0
        have : twiceM [] = 0 := rfl
        omega
      · exact h0
    have HE := Lib.hid (And.intro he hp)
    clear he hp ht
    go_enter Try.func24, Try.ntmps24
    go_wp2_with first
      | (go_at_call 36; refine Calls.mono CC.out ?_; rintro e w1 ⟨q, k, rfl, hk, hq, b1⟩
         obtain ⟨g, R, rfl, hg, h1⟩ := hq HE.out.2
         have HK := Lib.hid (And.intro hk (And.intro hg h1))
         clear hk hg h1)
      | (go_at_call 21; refine Calls.mono (CT.out _ b1) ?_; rintro e w2 ⟨rfl, b2⟩)
      | (go_at_call 37; refine Calls.mono (slices_ReverseG L g R k w2 (HK.out.2.2.below b2 (Box.lt HK.out.2.2)) (by have := HL.out; omega)) ?_; rintro e w3 ⟨rfl, h3, b3⟩)
    go_ret
    unfold RoundedG
    rw [HE.out.1, List.length_reverse]
    exact ⟨⟨_, _, rfl, HK.out.1, h3.rd⟩, (b1.trans (b2.mono b1.size)).trans (b3.mono HK.out.2.1)⟩
  · have he : turnedM L = L := by unfold turnedM; rw [ht, if_neg h]
    have HE := Lib.hid he
    clear he ht
    go_enter Try.func24, Try.ntmps24
    go_wp2_with first
      | (go_at_call 36; refine Calls.mono CC.out ?_; rintro e w1 ⟨q, k, rfl, hk, hq, b1⟩)
      | (go_at_call 21; refine Calls.mono (CT.out _ b1) ?_; rintro e w2 ⟨rfl, b2⟩)
    go_ret
    unfold RoundedG
    rw [HE.out]
    refine ⟨⟨_, _, rfl, hk, ?_⟩, b1.trans (b2.mono b1.size)⟩
    rcases Nat.eq_zero_or_pos L.length with h0 | h0
    · obtain rfl := List.eq_nil_of_length_eq_zero h0
      exact RdV.nil _ _ _
    · obtain ⟨g, R, rfl, hg, h1⟩ := hq h0
      exact (h1.below b2 (Box.lt h1)).rd
end Go.Proofs.Ytbhahddgajkchaa
