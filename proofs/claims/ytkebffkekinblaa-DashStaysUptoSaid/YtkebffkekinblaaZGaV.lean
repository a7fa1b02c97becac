/- Lengths, the program's own: around, Long. -/
import Derived.Test.YtkebffkekinblaaZGaW
import Derived.Deep.RegionHeld3
import Derived.Deep.RegionLawGrows
namespace Go.Proofs.Ytkebffkekinblaa
open Go.RowKit

theorem rim_row {L : List Pt} (h : 0 < L.length) : ptRow (rimG L) = ptRow L ++ [.int .i64 L[0].x, .int .i64 L[0].y] := by
  rw [rimG_eq h, ptRow_append, getD_lt h]
  rfl
/-- what around answers -/
def Rimmed (L : List Pt) (w : World) (e : Ending) (w' : World) : Prop := (∃ q k, e = .returned (.slice q (rimG L).length k) ∧ RdV w' w'.heap.size q (ptRow (rimG L))) ∧ Below w.heap.size w w'

set_option maxRecDepth 10000 in
set_option maxHeartbeats 1600000 in
theorem gauge_around (L : List Pt) (A : Option Addr) (c : Nat) (w : World) (hL : RdV w w.heap.size A (ptRow L)) (hl : L.length ≤ 1073741824) (hc : L.length ≤ c) :
    Calls Try.prog 36 #[.slice A L.length c] w (Rimmed L w) := by
  unfold Rimmed
  by_cases h0 : L.length = 0
  · obtain rfl := List.eq_nil_of_length_eq_zero h0
    clear hL hl hc h0
    simp only [List.length_nil]
    go_enter Try.func36, Try.ntmps36
    go_wp2_with fail
    go_ret
    exact ⟨⟨none, 0, rfl, RdV.nil _ _ _⟩, Below.refl _ _⟩
  · have hp : 0 < L.length := by omega
    obtain ⟨g, o, rfl, hgl, e0, e1⟩ := hL.pt (i := 0) hp
    obtain ⟨i0, hi, hz0, hz1, hz2⟩ := info_parts info_pt
    have hrow := rim_row hp
    have hlen := rimG_length hp
    obtain ⟨b', o', hbo, hb', hcs⟩ := hL (by rw [ptRow_length]; omega)
    obtain ⟨rfl, rfl⟩ : g = b' ∧ o = o' := by cases hbo; exact ⟨rfl, rfl⟩
    obtain ⟨X, hX⟩ : ∃ X, L[0].x = X := ⟨_, rfl⟩
    obtain ⟨Y, hY⟩ : ∃ X, L[0].y = X := ⟨_, rfl⟩
    rw [hX, hY] at hrow
    rw [hX] at e0
    rw [hY] at e1
    simp only [Nat.zero_mul, Nat.add_zero] at e0 e1
    have hpl := ptRow_length L
    obtain ⟨n, hn⟩ : ∃ n, L.length = n := ⟨_, rfl⟩
    have HR := Lib.hid hrow
    have HN := Lib.hid hlen
    have HPL := Lib.hid hpl
    have HB := Lib.hid (show Below w.heap.size w (w.alloc (.cells #[.int .i64 X, .int .i64 Y] 36)).drew from (below_new w _).drew)
    have HC := Lib.hid (show ∀ j u, (ptRow L)[j]? = some u → (w.alloc (.cells #[.int .i64 X, .int .i64 Y] 36)).drew.cell? ((⟨g, o, none⟩ : Addr).add j) = some u from by
      intro j u hu
      obtain ⟨h1, rfl⟩ := List.getElem?_eq_some_iff.1 hu
      rw [addr_add]
      exact (HB.out.cell (p := ⟨g, o + j, none⟩) hb').trans (hcs j h1))
    have HNW := Lib.hid (show ∀ j u, [(.int .i64 X : Value), .int .i64 Y][j]? = some u → (w.alloc (.cells #[.int .i64 X, .int .i64 Y] 36)).drew.cell? ((⟨w.heap.size, 0, none⟩ : Addr).add j) = some u from two_new w 36 _ _)
    have HNN := Lib.hid hn
    have hn0 : ¬ (n : Int) = 0 := by omega
    have hn1 : (0 : Int) < (n : Int) := by omega
    have hn2 : 0 < n := by omega
    have hnc : (n : Int) ≤ (c : Int) := by omega
    have hm1 : n + 1 ≤ maxLen := by unfold maxLen; omega
    have hm2 : (n + 1) * 16 ≤ 140737488355328 := by omega
    rw [hn]
    clear hrow hlen hpl hL hX hY hcs h0 hp
    go_enter Try.func36, Try.ntmps36
    go_wp2_with fail
    go_region_law (refine step_append_grows (by rfl) _ _ 22 (by rfl) 36 i0 (.agg #[.int .i64 0, .int .i64 0]) 2 16 Try.underlying22 hi hz0 hz1 hz2 rfl (by omega) (some ⟨g, o, none⟩) n n (ptRow L) (by rfl) (by intro h; cases h) (by rw [HPL.out, HNN.out]) (by intro b h; cases h; exact HC.out) ⟨w.heap.size, 0, none⟩ 1 1 [.int .i64 X, .int .i64 Y] (by rfl) (by rfl) HNW.out (by simp [Value.oneCell']) (by omega) hm1 hm2 ?_
                   intro v' w' hown hgrow
                   replace hown := Lib.hid hown
                   replace hgrow := Lib.hid hgrow)
    all_goals
      obtain ⟨q, k, rfl, hk, -, hr⟩ := RdV.ofOwnK hown.out
      have HF := Lib.hid (And.intro hr (HB.out.grown hgrow.out HB.out.size (fun k e => by cases e)))
      clear hr
      go_wp2_with fail
      go_ret
      rw [HN.out, HR.out]
      exact ⟨⟨q, k, by rw [HNN.out]; rfl, HF.out.1⟩, HF.out.2⟩
end Go.Proofs.Ytkebffkekinblaa
/- Lengths, the program's own: Long, Twice. -/

namespace Go.Proofs.Ytkebffkekinblaa
open Go.RowKit

theorem RdV.ptD {w : World} {B : Nat} {p : Option Addr} {l : List Pt} (h : RdV w B p (ptRow l)) {i : Nat} (hi : i < l.length) : ∃ b o, p = some ⟨b, o, none⟩ ∧ b < B ∧ w.cell? ⟨b, o + i * 2, none⟩ = some (.int .i64 (l.getD i pt0).x) ∧ w.cell? ⟨b, o + i * 2 + 1, none⟩ = some (.int .i64 (l.getD i pt0).y) := by
  rw [getD_lt hi]
  exact h.pt hi
theorem low1 {v w : World} (h : Below v.heap.size v w) : Below v.heap.size v w := h
theorem chain_next (R : List Pt) (i : Nat) : chainTo R (i + 1) = chainTo R i + (lenG (R.getD i pt0) (R.getD (i + 1) pt0) : Int) := rfl
/-- a line's box -/
theorem line_box (w : World) (p b : Value) : ∃ W, w.alloc (.cells #[p, b] 24) = W ∧ Box W w.heap.size 24 [p, b] ∧ Below w.heap.size w W := endP w _ _ _

set_option maxRecDepth 10000 in
set_option maxHeartbeats 3200000 in
theorem gauge_Long (L : List Pt) (A : Option Addr) (c : Nat) (cl : Bool) (w : World) (hL : RdV w w.heap.size A (ptRow L)) (hl : L.length ≤ 1073741824) (hc : L.length ≤ c) :
    Calls Try.prog 21 #[.agg #[.slice A L.length c, .bool cl]] w fun e w' => e = .returned (.int .i64 (longM L cl)) ∧ Below w.heap.size w w' := by
  obtain ⟨W, hW, kW, bW⟩ := line_box w (.slice A L.length c) (.bool cl)
  have cF := gauge_fit L A c W (hL.on bW) (by omega)
  have HK := Lib.hid (And.intro kW bW)
  have HL := Lib.hid hL
  obtain ⟨⟨p0, p1⟩, -⟩ := Box.pair kW
  obtain ⟨r, hr⟩ : ∃ r, longM L cl = r := ⟨_, rfl⟩
  have HR := Lib.hid hr
  rw [hr]
  clear hr hL kW bW
  by_cases hf : FitL L
  · rw [decide_eq_true hf] at cF
    have CF := Lib.hid cF
    have HC := Lib.hid (fun V (h : Below w.heap.size w V) => gauge_around L A c V (HL.out.on h) (by omega) hc)
    have HE := Lib.hid (show cl = true → chainTo (rimG L) ((rimG L).length - 1) = r from fun h => by
      rw [← HR.out, h]
      rcases Nat.eq_zero_or_pos L.length with h0 | h0
      · obtain rfl := List.eq_nil_of_length_eq_zero h0
        rw [longM_nil]; rfl
      · rw [longM_closed hf h0, rimG_length h0, Nat.add_sub_cancel])
    have HE2 := Lib.hid (show cl = false → chainTo L (L.length - 1) = r from fun h => by rw [← HR.out, h, longM_open hf])
    have HM := Lib.hid (show (rimG L).length ≤ 1073741825 from by
      rcases Nat.eq_zero_or_pos L.length with h0 | h0
      · obtain rfl := List.eq_nil_of_length_eq_zero h0
        simp [rimG]
      · rw [rimG_length h0]; omega)
    clear cF hf HR
    unfold Rimmed at HC
    cases cl
    all_goals
      go_enter Try.func21, Try.ntmps21
      go_wp2_with first
        | (go_at_call 35; refine Calls.mono CF.out ?_; rintro e w1 ⟨rfl, b1⟩
           obtain ⟨⟨p0, p1⟩, -⟩ := Box.pair (HK.out.1.below b1 HK.out.1.lt)
           have HB1 := Lib.hid (HK.out.2.trans (b1.mono HK.out.2.size)))
        | (go_at_call 36; refine Calls.mono (HC.out _ HB1.out) ?_; rintro e w2 ⟨⟨q, k, rfl, hq⟩, b2⟩)
        | (rw [hW])
      first
        | (obtain ⟨R, hR⟩ : ∃ R, rimG L = R := ⟨_, rfl⟩
           rw [hR] at hq HE HM
           have HQ := Lib.hid (And.intro hq (HB1.out.trans (b2.mono HB1.out.size)))
           have HS := Lib.hid (HE.out (by trivial))
           obtain ⟨V, hV⟩ : ∃ V, w2 = V := ⟨_, rfl⟩
           rw [hV] at HQ
           obtain ⟨m, hm⟩ : ∃ m, R.length = m := ⟨_, rfl⟩
           rw [hR, hm]
           rw [hm] at HM HS
           clear hq b1 b2 HE HE2 CF HC HK HB1 hW hR)
        | (have HQ := Lib.hid (And.intro (HL.out.on HB1.out) HB1.out)
           have HS := Lib.hid (HE2.out (by trivial))
           replace HM := Lib.hid (show L.length ≤ 1073741825 by omega)
           obtain ⟨V, hV⟩ : ∃ V, w1 = V := ⟨_, rfl⟩
           rw [hV] at HQ
           obtain ⟨R, hR⟩ : ∃ R, L = R := ⟨_, rfl⟩
           rw [hR] at HQ HS HM
           obtain ⟨m, hm⟩ : ∃ m, R.length = m := ⟨_, rfl⟩
           obtain ⟨q, hq⟩ : ∃ q, A = q := ⟨_, rfl⟩
           rw [hq] at HQ
           rw [hR, hm, hq]
           rw [hm] at HM HS
           clear b1 HE HE2 CF HC HK HB1 hW)
      have HN := Lib.hid hm
      have hm1 := HM.out
      have hwm : IntKind.i64.wrap ((m : Int) - 1) = (m : Int) - 1 := IntWalk.i64_in _ (by omega)
      subst hV
      clear hm
      try simp only [show wrap64 ((m : Int) - 1) = (m : Int) - 1 from by unfold wrap64; omega]
      go_wp2_with fail
      go_loopg [4, 19] m (fun gh sv it wr => ∃ i : Nat, it = .int .i64 (i : Int) ∧ sv = .int .i64 (chainTo R i) ∧ gh + i = m ∧ i ≤ m - 1 ∧ Below w.heap.size w wr ∧ RdV wr wr.heap.size q (ptRow R))
      case atStart => exact ⟨0, rfl, rfl, by omega, by omega, HQ.out.2, HQ.out.1⟩
      case round =>
        obtain ⟨i, rfl, rfl, hg, him, hB, hQ⟩ := hrel
        by_cases hlt : i + 1 < m
        · have hlt' : i + 1 < R.length := by rw [HN.out]; exact hlt
          obtain ⟨g, o, rfl, hgl, e0, e1⟩ := hQ.ptD (i := i) (by omega)
          obtain ⟨g', o', hgo, -, e2, e3⟩ := hQ.ptD (i := i + 1) hlt'
          cases hgo
          have hst := chain_next R i
          have hcb := chainTo_in R i
          have cL := fun V => gauge_Len (R.getD i pt0) (R.getD (i + 1) pt0) V
          have hll := lenG_lt (R.getD i pt0) (R.getD (i + 1) pt0)
          generalize lenG (R.getD i pt0) (R.getD (i + 1) pt0) = l at hst cL hll
          generalize R.getD i pt0 = p0 at e0 e1 cL
          generalize R.getD (i + 1) pt0 = p1 at e2 e3 cL
          obtain ⟨x0, y0⟩ := p0
          obtain ⟨x1, y1⟩ := p1
          obtain ⟨S, hS⟩ : ∃ S, chainTo R i = S := ⟨_, rfl⟩
          rw [hS] at hst hcb ⊢
          have hws : IntKind.i64.wrap (S + (l : Int)) = S + (l : Int) := IntWalk.i64_in _ (by omega)
          have hwi : IntKind.i64.wrap ((i : Int) + 1) = (i : Int) + 1 := IntWalk.i64_in _ (by omega)
          have i0 : (i : Int) < (m : Int) - 1 := by omega
          have i2 : (i : Int) < (m : Int) := by omega
          have i3 : i < m := by omega
          have i1 : 0 ≤ (i : Int) + 1 ∧ (i : Int) + 1 < (m : Int) := by omega
          have t1 : ((i : Int) + 1).toNat = i + 1 := by omega
          unfold ptV at cL
          dsimp only at e0 e1 e2 e3 cL
          have CL := Lib.hid cL
          have HB := Lib.hid (And.intro hB hQ)
          have HST := Lib.hid hst
          have HG := Lib.hid hg
          have hgw : g < wr.heap.size := hgl
          have HC := Lib.hid (fun V (h : Below wr.heap.size wr V) => show ((V.cell? ⟨g, o + i * 2, none⟩ = some (.int .i64 x0) ∧ V.cell? ⟨g, o + i * 2 + 1, none⟩ = some (.int .i64 y0)) ∧ V.cell? ⟨g, o + (i + 1) * 2, none⟩ = some (.int .i64 x1) ∧ V.cell? ⟨g, o + (i + 1) * 2 + 1, none⟩ = some (.int .i64 y1)) ∧ Below wr.heap.size wr V from
            ⟨⟨⟨(h.cell (p := ⟨g, o + i * 2, none⟩) hgw).trans e0, (h.cell (p := ⟨g, o + i * 2 + 1, none⟩) hgw).trans e1⟩, (h.cell (p := ⟨g, o + (i + 1) * 2, none⟩) hgw).trans e2, (h.cell (p := ⟨g, o + (i + 1) * 2 + 1, none⟩) hgw).trans e3⟩, h⟩)
          have HP := Lib.hid (HC.out wr.drew (Below.refl _ _).drew)
          clear hB hQ cL hst hS hcb hlt' hll hg
          go_wp2_with fail
          go_region_held3 (fun w' => ((w'.cell? ⟨g, o + i * 2, none⟩ = some (.int .i64 x0) ∧ w'.cell? ⟨g, o + i * 2 + 1, none⟩ = some (.int .i64 y0)) ∧ w'.cell? ⟨g, o + (i + 1) * 2, none⟩ = some (.int .i64 x1) ∧ w'.cell? ⟨g, o + (i + 1) * 2 + 1, none⟩ = some (.int .i64 y1)) ∧ Below wr.heap.size wr w')
            (first
              | (with_reducible exact HP.out)
              | (with_reducible exact HC.out _ (below_on (low3 (by assumption)) (low3 (by assumption)).size b9)))
            ((go_at_call 34; (with_reducible refine Calls.mono (CL.out _) ?_); rintro e w9 ⟨rfl, b9⟩))
          rename_i hHeld
          obtain ⟨-, hF⟩ := hHeld
          have HF := Lib.hid hF
          clear hF b9
          go_wp2_with fail
          go_roundg (m - (i + 1))
          case measure => have := HG.out; omega
          case rel => exact ⟨i + 1, by simp, by rw [HST.out], by omega, by omega, HB.out.1.trans (HF.out.mono HB.out.1.size), HB.out.2.on HF.out⟩
        · obtain rfl : i = m - 1 := by omega
          have hge : ¬ (((m - 1 : Nat) : Int) < (m : Int) - 1) := by omega
          have HB := Lib.hid hB
          obtain ⟨j, hj⟩ : ∃ j, m - 1 = j := ⟨_, rfl⟩
          rw [hj] at hge
          rw [hj] at HS ⊢
          clear hB hQ hg him
          go_wp2_with fail
          go_ret
          exact ⟨by rw [HS.out]; rfl, HB.out⟩
  · rw [decide_eq_false hf] at cF
    have CF := Lib.hid cF
    obtain rfl : r = 0 := by rw [← HR.out]; exact longM_no hf
    clear cF hf HR
    go_enter Try.func21, Try.ntmps21
    go_wp2_with first
      | (go_at_call 35; refine Calls.mono CF.out ?_; rintro e w1 ⟨rfl, b1⟩)
      | (rw [hW])
    go_ret
    exact ⟨rfl, HK.out.2.trans (b1.mono HK.out.2.size)⟩
end Go.Proofs.Ytkebffkekinblaa
/- Lengths, the program's own: Twice. -/

namespace Go.Proofs.Ytkebffkekinblaa
open Go.RowKit

theorem gone_next (R : List Pt) (i : Nat) : goneTo R (i + 1) = goneTo R i + shG (R.getD i pt0) (R.getD (i + 1) pt0) := rfl
theorem goneTo_nil : goneTo (rimG []) 0 = twiceG [] := rfl
/-- two boxes of points, one behind the other, and a draw: each at its place -/
theorem pair_boxes (w : World) (t : TypeId) (a b c d : Value) : ∃ W, ((w.alloc (.cells #[a, b] t)).alloc (.cells #[c, d] t)) = W ∧ Box W w.heap.size t [a, b] ∧ Box W (w.heap.size + 1) t [c, d] ∧ Below w.heap.size w W := by
  refine ⟨_, rfl, (Box.new w _ [a, b]).alloc _, Box.at_new (w.alloc (.cells #[a, b] t)) _ [c, d] (by simp), ?_⟩
  exact ((Below.refl _ w).alloc (Nat.le_refl _) _).alloc (by simp) _

end Go.Proofs.Ytkebffkekinblaa
/- Lengths, the program's own: Box. -/

namespace Go.Proofs.Ytkebffkekinblaa
open Go.RowKit

theorem min2_runG {P : Program} (a b m : Int) (h : min a b = m) (ts : Array TypeId) (t : TypeId) (W : World) : (Builtin.min_ ts t #[.int .i64 a, .int .i64 b]).run P W = .ok (.int .i64 m) W := by
  rw [run_min_int2]
  congr 2
  omega
theorem max2_runG {P : Program} (a b m : Int) (h : max a b = m) (ts : Array TypeId) (t : TypeId) (W : World) : (Builtin.max_ ts t #[.int .i64 a, .int .i64 b]).run P W = .ok (.int .i64 m) W := by
  rw [run_max_int2]
  congr 2
  omega
theorem min2_ite {a b m : Int} (h : min a b = m) : (if b < a then b else a) = m := by omega
theorem max2_ite {a b m : Int} (h : max a b = m) : (if a < b then b else a) = m := by omega
theorem two_stored {w : World} {s : Nat} {t : TypeId} {a b c d : Value} (h1 : Box w s t [a, b]) (h2 : Box w (s + 1) t [c, d]) (x y z u : Value) : ∃ U, (((w.setCell ⟨s, 0, none⟩ x).setCell ⟨s, 1, none⟩ y).setCell ⟨s + 1, 0, none⟩ z).setCell ⟨s + 1, 1, none⟩ u = U ∧ U.cell? ⟨s, 0, none⟩ = some x ∧ U.cell? ⟨s, 1, none⟩ = some y ∧ U.cell? ⟨s + 1, 0, none⟩ = some z ∧ U.cell? ⟨s + 1, 1, none⟩ = some u ∧ Below s w U := by
  obtain ⟨V, hV, kV, -, bV⟩ := h1.stored2 x y
  have k2 : Box V (s + 1) t [c, d] := by
    rw [← hV]
    exact (h2.far (p := ⟨s, 0, none⟩) (by show s + 1 ≠ s; omega) _).far (p := ⟨s, 1, none⟩) (by show s + 1 ≠ s; omega) _
  obtain ⟨U, hU, kU, ⟨u0, u1⟩, bU⟩ := k2.stored2 z u
  have k1 : Box U s t [x, y] := by
    rw [← hU]
    exact (kV.far (p := ⟨s + 1, 0, none⟩) (by show s ≠ s + 1; omega) _).far (p := ⟨s + 1, 1, none⟩) (by show s ≠ s + 1; omega) _
  obtain ⟨⟨x0, x1⟩, -⟩ := Box.pair k1
  exact ⟨U, by rw [hV, hU], x0, x1, u0, u1, (bV s (Nat.le_refl _)).trans (bU s (by omega))⟩
theorem two_storedR {w : World} {s : Nat} {t : TypeId} {a b c d : Value} (h1 : Box w s t [a, b]) (h2 : Box w (s + 1) t [c, d]) (x y z u : Value) : ∃ U, (((w.setCell ⟨s + 1, 0, none⟩ z).setCell ⟨s + 1, 1, none⟩ u).setCell ⟨s, 0, none⟩ x).setCell ⟨s, 1, none⟩ y = U ∧ U.cell? ⟨s, 0, none⟩ = some x ∧ U.cell? ⟨s, 1, none⟩ = some y ∧ U.cell? ⟨s + 1, 0, none⟩ = some z ∧ U.cell? ⟨s + 1, 1, none⟩ = some u ∧ Below s w U := by
  obtain ⟨V, hV, kV, -, bV⟩ := h2.stored2 z u
  have k1 : Box V s t [a, b] := by
    rw [← hV]
    exact (h1.far (p := ⟨s + 1, 0, none⟩) (by show s ≠ s + 1; omega) _).far (p := ⟨s + 1, 1, none⟩) (by show s ≠ s + 1; omega) _
  obtain ⟨U, hU, kU, ⟨u0, u1⟩, bU⟩ := k1.stored2 x y
  have k2 : Box U (s + 1) t [z, u] := by
    rw [← hU]
    exact (kV.far (p := ⟨s, 0, none⟩) (by show s + 1 ≠ s; omega) _).far (p := ⟨s, 1, none⟩) (by show s + 1 ≠ s; omega) _
  obtain ⟨⟨x0, x1⟩, -⟩ := Box.pair k2
  exact ⟨U, by rw [hV, hU], u0, u1, x0, x1, (bV s (by omega)).trans (bU s (Nat.le_refl _))⟩
/-- what Box answers -/
def Boxed (L : List Pt) (w : World) (e : Ending) (w' : World) : Prop := e = .returned (.tuple #[ptV (lowTo L L.length), ptV (highTo L L.length), .bool (decide (0 < L.length))]) ∧ Below w.heap.size w w'

end Go.Proofs.Ytkebffkekinblaa
/- Lengths, the program's own: slices.Clone and slices.Reverse at points, Round. -/

namespace Go.Proofs.Ytkebffkekinblaa
open Go.RowKit

/-- a row that Clone made -/
def ClonedG (L : List Pt) (w : World) (e : Ending) (w' : World) : Prop :=
  ∃ q k, e = .returned (.slice q L.length k) ∧ L.length ≤ k ∧ (0 < L.length → ∃ g R, q = some ⟨g, 0, none⟩ ∧ w.heap.size ≤ g ∧ Lies w' g L R) ∧ Below w.heap.size w w'

set_option maxRecDepth 10000 in
set_option maxHeartbeats 1600000 in
theorem slices_CloneG (L : List Pt) (A : Option Addr) (c : Nat) (w : World) (hL : RdV w w.heap.size A (ptRow L)) (hl : L.length ≤ 1073741824) :
    Calls Try.prog 19 #[.slice A L.length c] w (ClonedG L w) := by
  by_cases h0 : 0 < L.length
  · refine (slices_Clone L A c w hL hl h0).mono ?_
    rintro e w' ⟨g, cap, R, rfl, h1, h2, h3, h4⟩
    unfold ClonedG
    exact ⟨_, _, rfl, h1, fun _ => ⟨g, R, rfl, h2, h3⟩, h4⟩
  · obtain rfl := List.eq_nil_of_length_eq_zero (show L.length = 0 by omega)
    simp only [List.length_nil]
    clear hL hl h0
    cases A with
    | none =>
      have hnil : ∀ W, (binOp .eql 22 (.slice none 0 c) (.slice none 0 0)).run Try.prog W = .ok (.bool true) W := fun W => Lib.run_eql_slice_nil W _ _ _ _ _ _ _ Try.underlying22
      go_enter Try.func19, Try.ntmps19
      go_wp2_with fail
      go_ret
      unfold ClonedG
      exact ⟨none, 0, rfl, Nat.le_refl _, fun h => absurd h (by simp), Below.refl _ _⟩
    | some a =>
      obtain ⟨i0, hi, hz0, hz1, hz2⟩ := info_parts info_pt
      have hnil : ∀ W, (binOp .eql 22 (.slice (some a) 0 c) (.slice none 0 0)).run Try.prog W = .ok (.bool false) W := fun W => Lib.run_eql_slice_nil W _ _ _ _ _ _ _ Try.underlying22
      have hown : (w.alloc (.cells #[] 36)).ownsRow w.heap.size 36 2 (.slice (some ⟨w.heap.size, 0, none⟩) 0 0) 0 [] := ⟨rfl, .inr ⟨w.heap.size, 0, #[], rfl, Nat.le_refl _, heap_alloc_new w _, Nat.le_refl _, by simp [maxLen], rfl, rfl⟩⟩
      have hB := (Below.refl w.heap.size w).alloc (Nat.le_refl _) (.cells #[] 36)
      have HO := Lib.hid (And.intro hown hB)
      clear hown hB
      go_enter Try.func19, Try.ntmps19
      go_wp2_with (at_builtin; refine wpList_append_own _ rfl _ _ 22 rfl w.heap.size 36 i0 (.agg #[.int .i64 0, .int .i64 0]) 2 16 Try.underlying22 hi hz0 hz1 hz2 rfl (by decide) _ 0 _ rfl HO.out.1 a 0 c [] rfl rfl (by simp) (by simp) (by simp [maxLen]) (by omega) (by simp) ?_; intro v' w3 hown' hgrow _; replace hown' := Lib.hid hown'; replace hgrow := Lib.hid hgrow)
      have hBs := below_grow2 HO.out.2 HO.out.1 (by simp) hgrow.out
      have ho := hown'.out
      obtain ⟨p, cap, rfl, -, -, hr⟩ := RdV.ofOwnK ho
      go_ret
      unfold ClonedG
      exact ⟨p, cap, rfl, Nat.zero_le _, fun h => absurd h (by simp), hBs⟩

theorem flip_at {L : List Pt} {i : Nat} (h : 2 * i + 1 < L.length) : (flipTo L i)[i]'(by rw [flipTo_length]; omega) = L.getD i pt0 ∧ (flipTo L i)[L.length - 1 - i]'(by rw [flipTo_length]; omega) = L.getD (L.length - 1 - i) pt0 := by
  rw [flipTo_getElem, flipTo_getElem, if_neg (by omega), if_neg (by omega)]
  exact ⟨rfl, rfl⟩

/-- what Round answers -/
def RoundedG (L : List Pt) (w : World) (e : Ending) (w' : World) : Prop :=
  (∃ q k, e = .returned (.slice q (turnedM L).length k) ∧ (turnedM L).length ≤ k ∧ RdV w' w'.heap.size q (ptRow (turnedM L))) ∧ Below w.heap.size w w'
theorem Lies.rd {w : World} {g : Nat} {l : List Pt} {R : List Value} (h : Lies w g l R) : RdV w w.heap.size (some ⟨g, 0, none⟩) (ptRow l) := fun _ => ⟨g, 0, rfl, Box.lt h, fun j hj => by
  rw [Nat.zero_add]
  exact Box.cell h j (by rw [List.getElem?_append_left hj]; exact List.getElem?_eq_getElem hj)⟩

end Go.Proofs.Ytkebffkekinblaa
