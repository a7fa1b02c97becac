/- Lengths, the program's own: around, Long. -/
import Derived.Test.YtngnclibeccplaaDoorZGaW
import Derived.Deep.RegionHeld3
import Derived.Deep.RegionLawGrows
namespace Go.Proofs.YtngnclibeccplaaDoor
open Go.RowKit

theorem rim_row {L : List Pt} (h : 0 < L.length) : ptRow (rimG L) = ptRow L ++ [.int .i64 L[0].x, .int .i64 L[0].y] := by
  rw [rimG_eq h, ptRow_append, getD_lt h]
  rfl
/-- what around answers -/
def Rimmed (L : List Pt) (w : World) (e : Ending) (w' : World) : Prop := (∃ q k, e = .returned (.slice q (rimG L).length k) ∧ RdV w' w'.heap.size q (ptRow (rimG L))) ∧ Below w.heap.size w w'

set_option maxRecDepth 10000 in
set_option maxHeartbeats 1600000 in
theorem gauge_around (L : List Pt) (A : Option Addr) (c : Nat) (w : World) (hL : RdV w w.heap.size A (ptRow L)) (hl : L.length ≤ 1073741824) (hc : L.length ≤ c) :
    Calls Tryd.prog 38 #[.slice A L.length c] w (Rimmed L w) := by
  unfold Rimmed
  by_cases h0 : L.length = 0
  · obtain rfl := List.eq_nil_of_length_eq_zero h0
    clear hL hl hc h0
    simp only [List.length_nil]
    go_enter Tryd.func38, Tryd.ntmps38
    go_wp2_with fail
    go_ret
    exact ⟨⟨none, 0, rfl, RdV.nil _ _ _⟩, Below.refl _ _⟩
  · have hp : 0 < L.length := by omega
    obtain ⟨g, o, rfl, hgl, e0, e1⟩ := hL.pt (i := 0) hp
    obtain ⟨i0, hi, hz0, hz1, hz2⟩ := info_parts info_pt
    have hrow := rim_row hp
    have hlen := rimG_length hp
    obtain ⟨b', o', hbo, hb', hcs⟩ := hL (by rw [ptRow_length]; omega)
    obtain ⟨rfl, rfl⟩ : g = b' ∧ o = o' := by cases hbo; exact ⟨rfl, rfl⟩
    obtain ⟨X, hX⟩ : ∃ X, L[0].x = X := ⟨_, rfl⟩
    obtain ⟨Y, hY⟩ : ∃ X, L[0].y = X := ⟨_, rfl⟩
    rw [hX, hY] at hrow
    rw [hX] at e0
    rw [hY] at e1
    simp only [Nat.zero_mul, Nat.add_zero] at e0 e1
    have hpl := ptRow_length L
    obtain ⟨n, hn⟩ : ∃ n, L.length = n := ⟨_, rfl⟩
    have HR := Lib.hid hrow
    have HN := Lib.hid hlen
    have HPL := Lib.hid hpl
    have HB := Lib.hid (show Below w.heap.size w (w.alloc (.cells #[.int .i64 X, .int .i64 Y] 34)).drew from (below_new w _).drew)
    have HC := Lib.hid (show ∀ j u, (ptRow L)[j]? = some u → (w.alloc (.cells #[.int .i64 X, .int .i64 Y] 34)).drew.cell? ((⟨g, o, none⟩ : Addr).add j) = some u from by
      intro j u hu
      obtain ⟨h1, rfl⟩ := List.getElem?_eq_some_iff.1 hu
      rw [addr_add]
      exact (HB.out.cell (p := ⟨g, o + j, none⟩) hb').trans (hcs j h1))
    have HNW := Lib.hid (show ∀ j u, [(.int .i64 X : Value), .int .i64 Y][j]? = some u → (w.alloc (.cells #[.int .i64 X, .int .i64 Y] 34)).drew.cell? ((⟨w.heap.size, 0, none⟩ : Addr).add j) = some u from two_new w 34 _ _)
    have HNN := Lib.hid hn
    have hn0 : ¬ (n : Int) = 0 := by omega
    have hn1 : (0 : Int) < (n : Int) := by omega
    have hn2 : 0 < n := by omega
    have hnc : (n : Int) ≤ (c : Int) := by omega
    have hm1 : n + 1 ≤ maxLen := by unfold maxLen; omega
    have hm2 : (n + 1) * 16 ≤ 140737488355328 := by omega
    rw [hn]
    clear hrow hlen hpl hL hX hY hcs h0 hp
    go_enter Tryd.func38, Tryd.ntmps38
    go_wp2_with fail
    go_region_law (refine step_append_grows (by rfl) _ _ 22 (by rfl) 34 i0 (.agg #[.int .i64 0, .int .i64 0]) 2 16 Tryd.underlying22 hi hz0 hz1 hz2 rfl (by omega) (some ⟨g, o, none⟩) n n (ptRow L) (by rfl) (by intro h; cases h) (by rw [HPL.out, HNN.out]) (by intro b h; cases h; exact HC.out) ⟨w.heap.size, 0, none⟩ 1 1 [.int .i64 X, .int .i64 Y] (by rfl) (by rfl) HNW.out (by simp [Value.oneCell']) (by omega) hm1 hm2 ?_
                   intro v' w' hown hgrow
                   replace hown := Lib.hid hown
                   replace hgrow := Lib.hid hgrow)
    all_goals
      obtain ⟨q, k, rfl, hk, -, hr⟩ := RdV.ofOwnK hown.out
      have HF := Lib.hid (And.intro hr (HB.out.grown hgrow.out HB.out.size (fun k e => by cases e)))
      clear hr
      go_wp2_with fail
      go_ret
      rw [HN.out, HR.out]
      exact ⟨⟨q, k, by rw [HNN.out]; rfl, HF.out.1⟩, HF.out.2⟩
end Go.Proofs.YtngnclibeccplaaDoor
/- Lengths, the program's own: Long, Twice. -/

namespace Go.Proofs.YtngnclibeccplaaDoor
open Go.RowKit

theorem RdV.ptD {w : World} {B : Nat} {p : Option Addr} {l : List Pt} (h : RdV w B p (ptRow l)) {i : Nat} (hi : i < l.length) : ∃ b o, p = some ⟨b, o, none⟩ ∧ b < B ∧ w.cell? ⟨b, o + i * 2, none⟩ = some (.int .i64 (l.getD i pt0).x) ∧ w.cell? ⟨b, o + i * 2 + 1, none⟩ = some (.int .i64 (l.getD i pt0).y) := by
  rw [getD_lt hi]
  exact h.pt hi
theorem low1 {v w : World} (h : Below v.heap.size v w) : Below v.heap.size v w := h
theorem chain_next (R : List Pt) (i : Nat) : chainTo R (i + 1) = chainTo R i + (lenG (R.getD i pt0) (R.getD (i + 1) pt0) : Int) := rfl
/-- a line's box -/
theorem line_box (w : World) (p b : Value) : ∃ W, w.alloc (.cells #[p, b] 24) = W ∧ Box W w.heap.size 24 [p, b] ∧ Below w.heap.size w W := endP w _ _ _

end Go.Proofs.YtngnclibeccplaaDoor
/- Lengths, the program's own: Twice. -/

namespace Go.Proofs.YtngnclibeccplaaDoor
open Go.RowKit

theorem gone_next (R : List Pt) (i : Nat) : goneTo R (i + 1) = goneTo R i + shG (R.getD i pt0) (R.getD (i + 1) pt0) := rfl
theorem goneTo_nil : goneTo (rimG []) 0 = twiceG [] := rfl
/-- two boxes of points, one behind the other, and a draw: each at its place -/
theorem pair_boxes (w : World) (t : TypeId) (a b c d : Value) : ∃ W, ((w.alloc (.cells #[a, b] t)).alloc (.cells #[c, d] t)) = W ∧ Box W w.heap.size t [a, b] ∧ Box W (w.heap.size + 1) t [c, d] ∧ Below w.heap.size w W := by
  refine ⟨_, rfl, (Box.new w _ [a, b]).alloc _, Box.at_new (w.alloc (.cells #[a, b] t)) _ [c, d] (by simp), ?_⟩
  exact ((Below.refl _ w).alloc (Nat.le_refl _) _).alloc (by simp) _

set_option maxRecDepth 10000 in
set_option maxHeartbeats 3200000 in
theorem gauge_Twice (L : List Pt) (A : Option Addr) (c : Nat) (w : World) (hL : RdV w w.heap.size A (ptRow L)) (hl : L.length ≤ 10000) (hc : L.length ≤ c) :
    Calls Tryd.prog 25 #[.slice A L.length c] w fun e w' => e = .returned (.int .i64 (twiceM L)) ∧ Below w.heap.size w w' := by
  have cF := gauge_fit L A c w hL (by omega)
  have HL := Lib.hid hL
  obtain ⟨r, hr⟩ : ∃ r, twiceM L = r := ⟨_, rfl⟩
  have HR := Lib.hid hr
  rw [hr]
  clear hr hL
  by_cases hf : FitL L
  · rw [decide_eq_true hf] at cF
    have CF := Lib.hid cF
    have HC := Lib.hid (fun V (h : Below w.heap.size w V) => gauge_around L A c V (HL.out.on h) (by omega) hc)
    have HE := Lib.hid (show goneTo (rimG L) L.length = r from by
      rw [← HR.out, twiceM_yes hf]
      rcases Nat.eq_zero_or_pos L.length with h0 | h0
      · obtain rfl := List.eq_nil_of_length_eq_zero h0
        rfl
      · exact goneTo_rim h0)
    have HFT := Lib.hid (fitL_rim hf)
    obtain ⟨n, hn⟩ : ∃ n, L.length = n := ⟨_, rfl⟩
    have HM := Lib.hid (show n = 0 ∨ (rimG L).length = n + 1 from by
      rcases Nat.eq_zero_or_pos L.length with h0 | h0
      · left; omega
      · right; rw [rimG_length h0, hn])
    rw [hn] at HE CF HC hl hc ⊢
    obtain ⟨R, hR⟩ : ∃ R, rimG L = R := ⟨_, rfl⟩
    unfold Rimmed at HC
    rw [hR] at HE HFT HM HC
    clear cF hf HR hR
    have hgt : ¬ (10000 : Int) < (n : Int) := by omega
    go_enter Tryd.func25, Tryd.ntmps25
    go_wp2_with first
      | (go_at_call 37; refine Calls.mono CF.out ?_; rintro e w1 ⟨rfl, b1⟩)
      | (go_at_call 38; refine Calls.mono (HC.out _ b1) ?_; rintro e w2 ⟨⟨q, k, rfl, hq⟩, b2⟩)
    obtain ⟨m, hm⟩ : ∃ m, R.length = m := ⟨_, rfl⟩
    rw [hm]
    have HQ := Lib.hid (And.intro hq (b1.trans (b2.mono b1.size)))
    rw [hm] at HM
    have HN := Lib.hid hm
    clear hq b1 b2 CF HC hm
    go_loopg [4, 20] n (fun gh sv it wr => ∃ i : Nat, it = .int .i64 (i : Int) ∧ sv = .int .i64 (goneTo R i) ∧ gh + i = n ∧ Below w.heap.size w wr ∧ RdV wr wr.heap.size q (ptRow R))
    case atStart => exact ⟨0, rfl, rfl, by omega, HQ.out.2, HQ.out.1⟩
    case round =>
      obtain ⟨i, rfl, rfl, hg, hB, hQ⟩ := hrel
      by_cases hlt : i < n
      · have hmn : m = n + 1 := by rcases HM.out with h | h <;> omega
        have hlt' : i + 1 < R.length := by rw [HN.out]; omega
        obtain ⟨g, o, rfl, hgl, e0, e1⟩ := hQ.ptD (i := i) (by omega)
        obtain ⟨g', o', hgo, -, e2, e3⟩ := hQ.ptD (i := i + 1) hlt'
        cases hgo
        have hst := gone_next R i
        have hcb := goneTo_in HFT.out i
        have hsb := shG_in (HFT.out.getD i) (HFT.out.getD (i + 1))
        have f0 := HFT.out.getD i
        have f1 := HFT.out.getD (i + 1)
        generalize R.getD i pt0 = p0 at e0 e1 hst hsb f0
        generalize R.getD (i + 1) pt0 = p1 at e2 e3 hst hsb f1
        obtain ⟨x0, y0⟩ := p0
        obtain ⟨x1, y1⟩ := p1
        obtain ⟨S, hS⟩ : ∃ S, goneTo R i = S := ⟨_, rfl⟩
        unfold FitP at f0 f1
        dsimp only at e0 e1 e2 e3 f0 f1
        rw [hS] at hst hcb ⊢
        have m1 := mul_in (x := x0) (y := y1) (M := 8388607) (N := 8388607) (by omega) (by omega)
        have m2 := mul_in (x := x1) (y := y0) (M := 8388607) (N := 8388607) (by omega) (by omega)
        have hsh : shG ⟨x0, y0⟩ ⟨x1, y1⟩ = x0 * y1 - x1 * y0 := by unfold shG; dsimp only; rw [Int.mul_comm y0 x1]
        rw [hsh] at hst hsb
        obtain ⟨u, hu⟩ : ∃ u, x0 * y1 = u := ⟨_, rfl⟩
        obtain ⟨v, hv⟩ : ∃ u, x1 * y0 = u := ⟨_, rfl⟩
        rw [hu, hv] at hst hsb
        rw [hu] at m1
        rw [hv] at m2
        have w1 : IntKind.i64.wrap u = u := IntWalk.i64_in _ (by omega)
        have w2 : IntKind.i64.wrap v = v := IntWalk.i64_in _ (by omega)
        have w3 : IntKind.i64.wrap (u - v) = u - v := IntWalk.i64_in _ (by omega)
        have w4 : IntKind.i64.wrap (S + (u - v)) = S + (u - v) := IntWalk.i64_in _ (by omega)
        have hwi : IntKind.i64.wrap ((i : Int) + 1) = (i : Int) + 1 := IntWalk.i64_in _ (by omega)
        subst hmn
        have i0 : (i : Int) < (n : Int) := by omega
        have i2 : (i : Int) < ((n + 1 : Nat) : Int) := by omega
        have i3 : i < n + 1 := by omega
        have i1 : 0 ≤ (i : Int) + 1 ∧ (i : Int) + 1 < ((n + 1 : Nat) : Int) := by omega
        have i5 : 0 ≤ (i : Int) + 1 ∧ (i : Int) + 1 < (n : Int) + 1 := by omega
        have i4 : (i : Int) < (n : Int) + 1 := by omega
        have t1 : ((i : Int) + 1).toNat = i + 1 := by omega
        have HB := Lib.hid (And.intro hB hQ)
        have HST := Lib.hid hst
        have HG := Lib.hid hg
        clear hB hQ hst hS hcb hlt' hg hsb m1 m2 f0 f1 hsh
        go_wp2_with fail
        go_region
        all_goals
          first
            | (obtain ⟨W, hW, k1, k2, bW⟩ := pair_boxes wr 34 (.int .i64 x0) (.int .i64 y0) (.int .i64 x1) (.int .i64 y1); rw [hW])
            | (obtain ⟨W, hW, k2, k1, bW⟩ := pair_boxes wr 34 (.int .i64 x1) (.int .i64 y1) (.int .i64 x0) (.int .i64 y0); rw [hW])
          obtain ⟨V, hV, bV, kV1, kV2⟩ : ∃ V, W.drew = V ∧ Below wr.heap.size wr V ∧ Box V _ _ _ ∧ Box V _ _ _ := ⟨_, rfl, bW.drew, Box.drewN k1 1, Box.drewN k2 1⟩
          obtain ⟨⟨p0, p1⟩, -⟩ := Box.pair kV1
          obtain ⟨⟨q0, q1⟩, -⟩ := Box.pair kV2
          rw [hV]
          have HF := Lib.hid bV
          clear bW k1 k2 hW hV bV kV1 kV2
          go_wp2_with fail
          go_roundg (n - (i + 1))
          case measure => have := HG.out; omega
          case rel => exact ⟨i + 1, by simp, by rw [HST.out], by have := HG.out; omega, HB.out.1.trans (HF.out.mono HB.out.1.size), HB.out.2.on HF.out⟩
      · obtain rfl : i = n := by omega
        have HB := Lib.hid hB
        clear hB hQ hg
        go_wp2_with fail
        go_ret
        exact ⟨by rw [HE.out]; rfl, HB.out⟩
  · rw [decide_eq_false hf] at cF
    have CF := Lib.hid cF
    obtain rfl : r = 0 := by rw [← HR.out]; exact twiceM_no hf
    clear cF hf HR
    have hgt : ¬ (10000 : Int) < (L.length : Int) := by omega
    go_enter Tryd.func25, Tryd.ntmps25
    go_wp2_with first
      | (go_at_call 37; refine Calls.mono CF.out ?_; rintro e w1 ⟨rfl, b1⟩)
    go_ret
    exact ⟨rfl, b1⟩
end Go.Proofs.YtngnclibeccplaaDoor
/- Lengths, the program's own: Box. -/

namespace Go.Proofs.YtngnclibeccplaaDoor
open Go.RowKit

theorem min2_runG {P : Program} (a b m : Int) (h : min a b = m) (ts : Array TypeId) (t : TypeId) (W : World) : (Builtin.min_ ts t #[.int .i64 a, .int .i64 b]).run P W = .ok (.int .i64 m) W := by
  rw [run_min_int2]
  congr 2
  omega
theorem max2_runG {P : Program} (a b m : Int) (h : max a b = m) (ts : Array TypeId) (t : TypeId) (W : World) : (Builtin.max_ ts t #[.int .i64 a, .int .i64 b]).run P W = .ok (.int .i64 m) W := by
  rw [run_max_int2]
  congr 2
  omega
theorem min2_ite {a b m : Int} (h : min a b = m) : (if b < a then b else a) = m := by omega
theorem max2_ite {a b m : Int} (h : max a b = m) : (if a < b then b else a) = m := by omega
theorem two_stored {w : World} {s : Nat} {t : TypeId} {a b c d : Value} (h1 : Box w s t [a, b]) (h2 : Box w (s + 1) t [c, d]) (x y z u : Value) : ∃ U, (((w.setCell ⟨s, 0, none⟩ x).setCell ⟨s, 1, none⟩ y).setCell ⟨s + 1, 0, none⟩ z).setCell ⟨s + 1, 1, none⟩ u = U ∧ U.cell? ⟨s, 0, none⟩ = some x ∧ U.cell? ⟨s, 1, none⟩ = some y ∧ U.cell? ⟨s + 1, 0, none⟩ = some z ∧ U.cell? ⟨s + 1, 1, none⟩ = some u ∧ Below s w U := by
  obtain ⟨V, hV, kV, -, bV⟩ := h1.stored2 x y
  have k2 : Box V (s + 1) t [c, d] := by
    rw [← hV]
    exact (h2.far (p := ⟨s, 0, none⟩) (by show s + 1 ≠ s; omega) _).far (p := ⟨s, 1, none⟩) (by show s + 1 ≠ s; omega) _
  obtain ⟨U, hU, kU, ⟨u0, u1⟩, bU⟩ := k2.stored2 z u
  have k1 : Box U s t [x, y] := by
    rw [← hU]
    exact (kV.far (p := ⟨s + 1, 0, none⟩) (by show s ≠ s + 1; omega) _).far (p := ⟨s + 1, 1, none⟩) (by show s ≠ s + 1; omega) _
  obtain ⟨⟨x0, x1⟩, -⟩ := Box.pair k1
  exact ⟨U, by rw [hV, hU], x0, x1, u0, u1, (bV s (Nat.le_refl _)).trans (bU s (by omega))⟩
theorem two_storedR {w : World} {s : Nat} {t : TypeId} {a b c d : Value} (h1 : Box w s t [a, b]) (h2 : Box w (s + 1) t [c, d]) (x y z u : Value) : ∃ U, (((w.setCell ⟨s + 1, 0, none⟩ z).setCell ⟨s + 1, 1, none⟩ u).setCell ⟨s, 0, none⟩ x).setCell ⟨s, 1, none⟩ y = U ∧ U.cell? ⟨s, 0, none⟩ = some x ∧ U.cell? ⟨s, 1, none⟩ = some y ∧ U.cell? ⟨s + 1, 0, none⟩ = some z ∧ U.cell? ⟨s + 1, 1, none⟩ = some u ∧ Below s w U := by
  obtain ⟨V, hV, kV, -, bV⟩ := h2.stored2 z u
  have k1 : Box V s t [a, b] := by
    rw [← hV]
    exact (h1.far (p := ⟨s + 1, 0, none⟩) (by show s ≠ s + 1; omega) _).far (p := ⟨s + 1, 1, none⟩) (by show s ≠ s + 1; omega) _
  obtain ⟨U, hU, kU, ⟨u0, u1⟩, bU⟩ := k1.stored2 x y
  have k2 : Box U (s + 1) t [z, u] := by
    rw [← hU]
    exact (kV.far (p := ⟨s, 0, none⟩) (by show s + 1 ≠ s; omega) _).far (p := ⟨s, 1, none⟩) (by show s + 1 ≠ s; omega) _
  obtain ⟨⟨x0, x1⟩, -⟩ := Box.pair k2
  exact ⟨U, by rw [hV, hU], u0, u1, x0, x1, (bV s (by omega)).trans (bU s (Nat.le_refl _))⟩
/-- what Box answers -/
def Boxed (L : List Pt) (w : World) (e : Ending) (w' : World) : Prop := e = .returned (.tuple #[ptV (lowTo L L.length), ptV (highTo L L.length), .bool (decide (0 < L.length))]) ∧ Below w.heap.size w w'

end Go.Proofs.YtngnclibeccplaaDoor
/- Lengths, the program's own: slices.Clone and slices.Reverse at points, Round. -/

namespace Go.Proofs.YtngnclibeccplaaDoor
open Go.RowKit

/-- a row that Clone made -/
def ClonedG (L : List Pt) (w : World) (e : Ending) (w' : World) : Prop :=
  ∃ q k, e = .returned (.slice q L.length k) ∧ L.length ≤ k ∧ (0 < L.length → ∃ g R, q = some ⟨g, 0, none⟩ ∧ w.heap.size ≤ g ∧ Lies w' g L R) ∧ Below w.heap.size w w'

set_option maxRecDepth 10000 in
set_option maxHeartbeats 1600000 in
theorem slices_CloneG (L : List Pt) (A : Option Addr) (c : Nat) (w : World) (hL : RdV w w.heap.size A (ptRow L)) (hl : L.length ≤ 1073741824) :
    Calls Tryd.prog 24 #[.slice A L.length c] w (ClonedG L w) := by
  by_cases h0 : 0 < L.length
  · refine (slices_Clone L A c w hL hl h0).mono ?_
    rintro e w' ⟨g, cap, R, rfl, h1, h2, h3, h4⟩
    unfold ClonedG
    exact ⟨_, _, rfl, h1, fun _ => ⟨g, R, rfl, h2, h3⟩, h4⟩
  · obtain rfl := List.eq_nil_of_length_eq_zero (show L.length = 0 by omega)
    simp only [List.length_nil]
    clear hL hl h0
    cases A with
    | none =>
      have hnil : ∀ W, (binOp .eql 22 (.slice none 0 c) (.slice none 0 0)).run Tryd.prog W = .ok (.bool true) W := fun W => Lib.run_eql_slice_nil W _ _ _ _ _ _ _ Tryd.underlying22
      go_enter Tryd.func24, Tryd.ntmps24
      go_wp2_with fail
      go_ret
      unfold ClonedG
      exact ⟨none, 0, rfl, Nat.le_refl _, fun h => absurd h (by simp), Below.refl _ _⟩
    | some a =>
      obtain ⟨i0, hi, hz0, hz1, hz2⟩ := info_parts info_pt
      have hnil : ∀ W, (binOp .eql 22 (.slice (some a) 0 c) (.slice none 0 0)).run Tryd.prog W = .ok (.bool false) W := fun W => Lib.run_eql_slice_nil W _ _ _ _ _ _ _ Tryd.underlying22
      have hown : (w.alloc (.cells #[] 34)).ownsRow w.heap.size 34 2 (.slice (some ⟨w.heap.size, 0, none⟩) 0 0) 0 [] := ⟨rfl, .inr ⟨w.heap.size, 0, #[], rfl, Nat.le_refl _, heap_alloc_new w _, Nat.le_refl _, by simp [maxLen], rfl, rfl⟩⟩
      have hB := (Below.refl w.heap.size w).alloc (Nat.le_refl _) (.cells #[] 34)
      have HO := Lib.hid (And.intro hown hB)
      clear hown hB
      go_enter Tryd.func24, Tryd.ntmps24
      go_wp2_with (at_builtin; refine wpList_append_own _ rfl _ _ 22 rfl w.heap.size 34 i0 (.agg #[.int .i64 0, .int .i64 0]) 2 16 Tryd.underlying22 hi hz0 hz1 hz2 rfl (by decide) _ 0 _ rfl HO.out.1 a 0 c [] rfl rfl (by simp) (by simp) (by simp [maxLen]) (by omega) (by simp) ?_; intro v' w3 hown' hgrow _; replace hown' := Lib.hid hown'; replace hgrow := Lib.hid hgrow)
      have hBs := below_grow2 HO.out.2 HO.out.1 (by simp) hgrow.out
      have ho := hown'.out
      obtain ⟨p, cap, rfl, -, -, hr⟩ := RdV.ofOwnK ho
      go_ret
      unfold ClonedG
      exact ⟨p, cap, rfl, Nat.zero_le _, fun h => absurd h (by simp), hBs⟩

theorem flip_at {L : List Pt} {i : Nat} (h : 2 * i + 1 < L.length) : (flipTo L i)[i]'(by rw [flipTo_length]; omega) = L.getD i pt0 ∧ (flipTo L i)[L.length - 1 - i]'(by rw [flipTo_length]; omega) = L.getD (L.length - 1 - i) pt0 := by
  rw [flipTo_getElem, flipTo_getElem, if_neg (by omega), if_neg (by omega)]
  exact ⟨rfl, rfl⟩

set_option maxRecDepth 10000 in
set_option maxHeartbeats 3200000 in
theorem slices_ReverseG (L : List Pt) (g : Nat) (R : List Value) (c : Nat) (w : World) (hL : Lies w g L R) (hl : L.length ≤ 1073741824) :
    Calls Tryd.prog 39 #[.slice (some ⟨g, 0, none⟩) L.length c] w fun e w' => e = .returned (.tuple #[]) ∧ Lies w' g L.reverse R ∧ Below g w w' := by
  obtain ⟨n, hn⟩ : ∃ n, L.length = n := ⟨_, rfl⟩
  have HN := Lib.hid hn
  have HL := Lib.hid hL
  rw [hn] at hl ⊢
  clear hn hL
  have hwm : IntKind.i64.wrap ((n : Int) - 1) = (n : Int) - 1 := IntWalk.i64_in _ (by omega)
  go_enter Tryd.func39, Tryd.ntmps39
  go_wp2_with fail
  try simp only [show wrap64 ((n : Int) - 1) = (n : Int) - 1 from by unfold wrap64; omega]
  go_loopg [2, 3] n (fun gh iv jv wr => ∃ i : Nat, iv = .int .i64 (i : Int) ∧ jv = .int .i64 ((n : Int) - 1 - (i : Int)) ∧ gh + i = n ∧ Lies wr g (flipTo L i) R ∧ Below g w wr)
  case atStart => exact ⟨0, rfl, by simp, by omega, by rw [flipTo_zero]; exact HL.out, Below.refl _ _⟩
  case round =>
    obtain ⟨i, rfl, rfl, hg, hl2, hB⟩ := hrel
    by_cases hlt : 2 * i + 1 < n
    · have hlt' : 2 * i + 1 < L.length := by rw [HN.out]; exact hlt
      obtain ⟨f1, f2⟩ := flip_at hlt'
      have hi : i < (flipTo L i).length := by rw [flipTo_length]; omega
      have hj : L.length - 1 - i < (flipTo L i).length := by rw [flipTo_length]; omega
      obtain ⟨⟨a0, a1⟩, a2, a3⟩ := hl2.pt hi
      obtain ⟨⟨b0, b1⟩, b2, b3⟩ := hl2.pt hj
      have hst := flipTo_step hlt'
      rw [f1] at a0 a1
      rw [f2] at b0 b1
      obtain ⟨j, hje⟩ : ∃ j, L.length - 1 - i = j := ⟨_, rfl⟩
      rw [hje] at b0 b1 b2 b3 hst hj
      generalize L.getD i pt0 = x at a0 a1 hst
      generalize L.getD j pt0 = y at b0 b1 hst
      have hji : (n : Int) - 1 - (i : Int) = (j : Int) := by have := HN.out; omega
      rw [hji]
      obtain ⟨U1, hU1, l1, d1⟩ := hl2.set hi y
      obtain ⟨U2, hU2, l2, d2⟩ := l1.set (i := j) (by rw [List.length_set]; exact hj) x
      obtain ⟨V1, hV1, m1, e1⟩ := hl2.set hj x
      obtain ⟨V2, hV2, m2, e2⟩ := m1.set (i := i) (by rw [List.length_set]; exact hi) y
      have hij : i < j := by have := HN.out; omega
      rw [hst] at l2
      rw [List.set_comm _ _ (by omega), hst] at m2
      rw [← hU1] at hU2
      rw [← hV1] at hV2
      have HE := Lib.hid (And.intro hU2 (And.intro hV2 (And.intro l2 (And.intro m2 (And.intro (hB.trans ((d1 g (Nat.le_refl _)).trans (d2 g (Nat.le_refl _)))) (hB.trans ((e1 g (Nat.le_refl _)).trans (e2 g (Nat.le_refl _)))))))))
      obtain ⟨x0, x1⟩ := x
      obtain ⟨y0, y1⟩ := y
      dsimp only at a0 a1 b0 b1 HE
      have n1 : ¬ i * 2 = j * 2 := by omega
      have n2 : ¬ j * 2 = i * 2 := by omega
      have n3 : ¬ i * 2 + 1 = j * 2 := by omega
      have n4 : ¬ j * 2 = i * 2 + 1 := by omega
      have n5 : ¬ i * 2 = j * 2 + 1 := by omega
      have n6 : ¬ j * 2 + 1 = i * 2 := by omega
      have n7 : ¬ i * 2 + 1 = j * 2 + 1 := by omega
      have n8 : ¬ j * 2 + 1 = i * 2 + 1 := by omega
      have i1 : (i : Int) < (j : Int) := by omega
      have i2 : (i : Int) < (n : Int) := by omega
      have i3 : i < n := by omega
      have i4 : (j : Int) < (n : Int) := by have := HN.out; omega
      have i5 : j < n := by omega
      have w1 : IntKind.i64.wrap ((i : Int) + 1) = (i : Int) + 1 := IntWalk.i64_in _ (by omega)
      have w2 : IntKind.i64.wrap ((j : Int) - 1) = (j : Int) - 1 := IntWalk.i64_in _ (by omega)
      have HG := Lib.hid (And.intro hg hji)
      clear hU1 hU2 hV1 hV2 l1 l2 m1 m2 d1 d2 e1 e2 hst hl2 hB hi hj f1 f2 hlt' hje hji hg
      go_wp2_with fail
      go_region
      all_goals
        first
          | (rw [HE.out.1]
             have HZ := Lib.hid (show Lies U2.drew g (flipTo L (i + 1)) R ∧ Below g w U2.drew from ⟨HE.out.2.2.1, HE.out.2.2.2.2.1.drew⟩))
          | (rw [HE.out.2.1]
             have HZ := Lib.hid (show Lies V2.drew g (flipTo L (i + 1)) R ∧ Below g w V2.drew from ⟨HE.out.2.2.2.1, HE.out.2.2.2.2.2.drew⟩))
        clear HE
        go_wp2_with fail
        go_roundg (n - (i + 1))
        case measure => have := HG.out.1; omega
        case rel => exact ⟨i + 1, by simp, by have := HG.out.2; congr 1; simp; omega, by have := HG.out.1; omega, HZ.out.1, HZ.out.2⟩
    · have he := flipTo_all (l := L) (i := i) (by rw [HN.out]; omega)
      rw [he] at hl2
      have HF := Lib.hid (And.intro hl2 hB)
      have hge : ¬ (i : Int) < (n : Int) - 1 - (i : Int) := by omega
      clear hl2 hB he
      go_wp2_with fail
      go_end0
      exact ⟨rfl, HF.out⟩

/-- what Round answers -/
def RoundedG (L : List Pt) (w : World) (e : Ending) (w' : World) : Prop :=
  (∃ q k, e = .returned (.slice q (turnedM L).length k) ∧ (turnedM L).length ≤ k ∧ RdV w' w'.heap.size q (ptRow (turnedM L))) ∧ Below w.heap.size w w'
theorem Lies.rd {w : World} {g : Nat} {l : List Pt} {R : List Value} (h : Lies w g l R) : RdV w w.heap.size (some ⟨g, 0, none⟩) (ptRow l) := fun _ => ⟨g, 0, rfl, Box.lt h, fun j hj => by
  rw [Nat.zero_add]
  exact Box.cell h j (by rw [List.getElem?_append_left hj]; exact List.getElem?_eq_getElem hj)⟩

set_option maxRecDepth 10000 in
set_option maxHeartbeats 3200000 in
theorem gauge_Round (L : List Pt) (A : Option Addr) (c : Nat) (w : World) (hL : RdV w w.heap.size A (ptRow L)) (hl : L.length ≤ 10000) (hc : L.length ≤ c) :
    Calls Tryd.prog 26 #[.slice A L.length c] w (RoundedG L w) := by
  have cC := slices_CloneG L A c w hL (by omega)
  have cT := fun V (h : Below w.heap.size w V) => gauge_Twice L A c V (hL.on h) hl hc
  have HL := Lib.hid hl
  unfold ClonedG at cC
  have CC := Lib.hid cC
  obtain ⟨t, ht⟩ : ∃ t, twiceM L = t := ⟨_, rfl⟩
  rw [ht] at cT
  have CT := Lib.hid cT
  clear cC cT hL hl hc
  by_cases h : t < 0
  · have he : turnedM L = L.reverse := by unfold turnedM; rw [ht, if_pos h]
    have hp : 0 < L.length := by
      rcases Nat.eq_zero_or_pos L.length with h0 | h0
      · obtain rfl := List.eq_nil_of_length_eq_zero h0
        have : twiceM [] = 0 := rfl
        omega
      · exact h0
    have HE := Lib.hid (And.intro he hp)
    clear he hp ht
    go_enter Tryd.func26, Tryd.ntmps26
    go_wp2_with first
      | (go_at_call 24; refine Calls.mono CC.out ?_; rintro e w1 ⟨q, k, rfl, hk, hq, b1⟩
         obtain ⟨g, R, rfl, hg, h1⟩ := hq HE.out.2
         have HK := Lib.hid (And.intro hk (And.intro hg h1))
         clear hk hg h1)
      | (go_at_call 25; refine Calls.mono (CT.out _ b1) ?_; rintro e w2 ⟨rfl, b2⟩)
      | (go_at_call 39; refine Calls.mono (slices_ReverseG L g R k w2 (HK.out.2.2.below b2 (Box.lt HK.out.2.2)) (by have := HL.out; omega)) ?_; rintro e w3 ⟨rfl, h3, b3⟩)
    go_ret
    unfold RoundedG
    rw [HE.out.1, List.length_reverse]
    exact ⟨⟨_, _, rfl, HK.out.1, h3.rd⟩, (b1.trans (b2.mono b1.size)).trans (b3.mono HK.out.2.1)⟩
  · have he : turnedM L = L := by unfold turnedM; rw [ht, if_neg h]
    have HE := Lib.hid he
    clear he ht
    go_enter Tryd.func26, Tryd.ntmps26
    go_wp2_with first
      | (go_at_call 24; refine Calls.mono CC.out ?_; rintro e w1 ⟨q, k, rfl, hk, hq, b1⟩)
      | (go_at_call 25; refine Calls.mono (CT.out _ b1) ?_; rintro e w2 ⟨rfl, b2⟩)
    go_ret
    unfold RoundedG
    rw [HE.out]
    refine ⟨⟨_, _, rfl, hk, ?_⟩, b1.trans (b2.mono b1.size)⟩
    rcases Nat.eq_zero_or_pos L.length with h0 | h0
    · obtain rfl := List.eq_nil_of_length_eq_zero h0
      exact RdV.nil _ _ _
    · obtain ⟨g, R, rfl, hg, h1⟩ := hq h0
      exact (h1.below b2 (Box.lt h1)).rd
end Go.Proofs.YtngnclibeccplaaDoor
