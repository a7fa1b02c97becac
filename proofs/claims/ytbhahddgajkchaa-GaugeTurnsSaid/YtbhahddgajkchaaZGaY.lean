/- Lengths, the program's own: around, Long. -/
import Derived.Test.YtbhahddgajkchaaZGaX
import Derived.Deep.RegionHeld3
import Derived.Deep.RegionLawGrows
namespace Go.Proofs.Ytbhahddgajkchaa
open Go.RowKit

theorem rim_row {L : List Pt} (h : 0 < L.length) : ptRow (rimG L) = ptRow L ++ [.int .i64 L[0].x, .int .i64 L[0].y] := by
  rw [rimG_eq h, ptRow_append, getD_lt h]
  rfl
/-- what around answers -/
def Rimmed (L : List Pt) (w : World) (e : Ending) (w' : World) : Prop := (∃ q k, e = .returned (.slice q (rimG L).length k) ∧ RdV w' w'.heap.size q (ptRow (rimG L))) ∧ Below w.heap.size w w'

set_option maxRecDepth 10000 in
set_option maxHeartbeats 1600000 in
theorem gauge_around (L : List Pt) (A : Option Addr) (c : Nat) (w : World) (hL : RdV w w.heap.size A (ptRow L)) (hl : L.length ≤ 1073741824) (hc : L.length ≤ c) :
    Calls Try.prog 34 #[.slice A L.length c] w (Rimmed L w) := by
  unfold Rimmed
  by_cases h0 : L.length = 0
  · obtain rfl := List.eq_nil_of_length_eq_zero h0
    clear hL hl hc h0
    simp only [List.length_nil]
    go_enter Try.func34, Try.ntmps34
    go_wp2_with fail
    go_ret
    exact ⟨⟨none, 0, rfl, RdV.nil _ _ _⟩, Below.refl _ _⟩
  · have hp : 0 < L.length := by omega
    obtain ⟨g, o, rfl, hgl, e0, e1⟩ := hL.pt (i := 0) hp
    obtain ⟨i0, hi, hz0, hz1, hz2⟩ := info_parts info_pt
    have hrow := rim_row hp
    have hlen := rimG_length hp
    obtain ⟨b', o', hbo, hb', hcs⟩ := hL (by rw [ptRow_length]; omega)
    obtain ⟨rfl, rfl⟩ : g = b' ∧ o = o' := by cases hbo; exact ⟨rfl, rfl⟩
    obtain ⟨X, hX⟩ : ∃ X, L[0].x = X := ⟨_, rfl⟩
    obtain ⟨Y, hY⟩ : ∃ X, L[0].y = X := ⟨_, rfl⟩
    rw [hX, hY] at hrow
    rw [hX] at e0
    rw [hY] at e1
    simp only [Nat.zero_mul, Nat.add_zero] at e0 e1
    have hpl := ptRow_length L
    obtain ⟨n, hn⟩ : ∃ n, L.length = n := ⟨_, rfl⟩
    have HR := Lib.hid hrow
    have HN := Lib.hid hlen
    have HPL := Lib.hid hpl
    have HB := Lib.hid (show Below w.heap.size w (w.alloc (.cells #[.int .i64 X, .int .i64 Y] 23)).drew from (below_new w _).drew)
    have HC := Lib.hid (show ∀ j u, (ptRow L)[j]? = some u → (w.alloc (.cells #[.int .i64 X, .int .i64 Y] 23)).drew.cell? ((⟨g, o, none⟩ : Addr).add j) = some u from by
      intro j u hu
      obtain ⟨h1, rfl⟩ := List.getElem?_eq_some_iff.1 hu
      rw [addr_add]
      exact (HB.out.cell (p := ⟨g, o + j, none⟩) hb').trans (hcs j h1))
    have HNW := Lib.hid (show ∀ j u, [(.int .i64 X : Value), .int .i64 Y][j]? = some u → (w.alloc (.cells #[.int .i64 X, .int .i64 Y] 23)).drew.cell? ((⟨w.heap.size, 0, none⟩ : Addr).add j) = some u from two_new w 23 _ _)
    have HNN := Lib.hid hn
    have hn0 : ¬ (n : Int) = 0 := by omega
    have hn1 : (0 : Int) < (n : Int) := by omega
    have hn2 : 0 < n := by omega
    have hnc : (n : Int) ≤ (c : Int) := by omega
    have hm1 : n + 1 ≤ maxLen := by unfold maxLen; omega
    have hm2 : (n + 1) * 16 ≤ 140737488355328 := by omega
    rw [hn]
    clear hrow hlen hpl hL hX hY hcs h0 hp
    go_enter Try.func34, Try.ntmps34
    go_wp2_with fail
    go_region_law (refine step_append_grows (by rfl) _ _ 30 (by rfl) 23 i0 (.agg #[.int .i64 0, .int .i64 0]) 2 16 Try.underlying30 hi hz0 hz1 hz2 rfl (by omega) (some ⟨g, o, none⟩) n n (ptRow L) (by rfl) (by intro h; cases h) (by rw [HPL.out, HNN.out]) (by intro b h; cases h; exact HC.out) ⟨w.heap.size, 0, none⟩ 1 1 [.int .i64 X, .int .i64 Y] (by rfl) (by rfl) HNW.out (by simp [Value.oneCell']) (by omega) hm1 hm2 ?_
                   intro v' w' hown hgrow
                   replace hown := Lib.hid hown
                   replace hgrow := Lib.hid hgrow)
    all_goals
      obtain ⟨q, k, rfl, hk, -, hr⟩ := RdV.ofOwnK hown.out
      have HF := Lib.hid (And.intro hr (HB.out.grown hgrow.out HB.out.size (fun k e => by cases e)))
      clear hr
      go_wp2_with fail
      go_ret
      rw [HN.out, HR.out]
      exact ⟨⟨q, k, by rw [HNN.out]; rfl, HF.out.1⟩, HF.out.2⟩
end Go.Proofs.Ytbhahddgajkchaa
/- Lengths, the program's own: Long, Twice. -/

namespace Go.Proofs.Ytbhahddgajkchaa
open Go.RowKit

theorem RdV.ptD {w : World} {B : Nat} {p : Option Addr} {l : List Pt} (h : RdV w B p (ptRow l)) {i : Nat} (hi : i < l.length) : ∃ b o, p = some ⟨b, o, none⟩ ∧ b < B ∧ w.cell? ⟨b, o + i * 2, none⟩ = some (.int .i64 (l.getD i pt0).x) ∧ w.cell? ⟨b, o + i * 2 + 1, none⟩ = some (.int .i64 (l.getD i pt0).y) := by
  rw [getD_lt hi]
  exact h.pt hi
theorem low1 {v w : World} (h : Below v.heap.size v w) : Below v.heap.size v w := h
theorem chain_next (R : List Pt) (i : Nat) : chainTo R (i + 1) = chainTo R i + (lenG (R.getD i pt0) (R.getD (i + 1) pt0) : Int) := rfl
/-- a line's box -/
theorem line_box (w : World) (p b : Value) : ∃ W, w.alloc (.cells #[p, b] 32) = W ∧ Box W w.heap.size 32 [p, b] ∧ Below w.heap.size w W := endP w _ _ _

set_option maxRecDepth 10000 in
set_option maxHeartbeats 3200000 in
theorem gauge_Long (L : List Pt) (A : Option Addr) (c : Nat) (cl : Bool) (w : World) (hL : RdV w w.heap.size A (ptRow L)) (hl : L.length ≤ 10000) (hc : L.length ≤ c) :
    Calls Try.prog 19 #[.agg #[.slice A L.length c, .bool cl]] w fun e w' => e = .returned (.int .i64 (longM L cl)) ∧ Below w.heap.size w w' := by
  obtain ⟨W, hW, kW, bW⟩ := line_box w (.slice A L.length c) (.bool cl)
  have cF := gauge_fit L A c W (hL.on bW) (by omega)
  have HK := Lib.hid (And.intro kW bW)
  have HL := Lib.hid hL
  obtain ⟨⟨p0, p1⟩, -⟩ := Box.pair kW
  obtain ⟨r, hr⟩ : ∃ r, longM L cl = r := ⟨_, rfl⟩
  have HR := Lib.hid hr
  rw [hr]
  clear hr hL kW bW
  by_cases hf : FitL L
  · rw [decide_eq_true hf] at cF
    have CF := Lib.hid cF
    have HC := Lib.hid (fun V (h : Below w.heap.size w V) => gauge_around L A c V (HL.out.on h) (by omega) hc)
    have HE := Lib.hid (show cl = true → chainTo (rimG L) ((rimG L).length - 1) = r from fun h => by
      rw [← HR.out, h]
      rcases Nat.eq_zero_or_pos L.length with h0 | h0
      · obtain rfl := List.eq_nil_of_length_eq_zero h0
        rw [longM_nil]; rfl
      · rw [longM_closed hf h0, rimG_length h0, Nat.add_sub_cancel])
    have HE2 := Lib.hid (show cl = false → chainTo L (L.length - 1) = r from fun h => by rw [← HR.out, h, longM_open hf])
    have HM := Lib.hid (show (rimG L).length ≤ 10001 from by
      rcases Nat.eq_zero_or_pos L.length with h0 | h0
      · obtain rfl := List.eq_nil_of_length_eq_zero h0
        simp [rimG]
      · rw [rimG_length h0]; omega)
    clear cF hf HR
    unfold Rimmed at HC
    cases cl
    all_goals
      go_enter Try.func19, Try.ntmps19
      go_wp2_with first
        | (go_at_call 26; refine Calls.mono CF.out ?_; rintro e w1 ⟨rfl, b1⟩
           obtain ⟨⟨p0, p1⟩, -⟩ := Box.pair (HK.out.1.below b1 HK.out.1.lt)
           have HB1 := Lib.hid (HK.out.2.trans (b1.mono HK.out.2.size)))
        | (go_at_call 34; refine Calls.mono (HC.out _ HB1.out) ?_; rintro e w2 ⟨⟨q, k, rfl, hq⟩, b2⟩)
        | (rw [hW])
      first
        | (obtain ⟨R, hR⟩ : ∃ R, rimG L = R := ⟨_, rfl⟩
           rw [hR] at hq HE HM
           have HQ := Lib.hid (And.intro hq (HB1.out.trans (b2.mono HB1.out.size)))
           have HS := Lib.hid (HE.out (by trivial))
           obtain ⟨V, hV⟩ : ∃ V, w2 = V := ⟨_, rfl⟩
           rw [hV] at HQ
           obtain ⟨m, hm⟩ : ∃ m, R.length = m := ⟨_, rfl⟩
           rw [hR, hm]
           rw [hm] at HM HS
           clear hq b1 b2 HE HE2 CF HC HK HB1 hW hR)
        | (have HQ := Lib.hid (And.intro (HL.out.on HB1.out) HB1.out)
           have HS := Lib.hid (HE2.out (by trivial))
           replace HM := Lib.hid (show L.length ≤ 10001 by omega)
           obtain ⟨V, hV⟩ : ∃ V, w1 = V := ⟨_, rfl⟩
           rw [hV] at HQ
           obtain ⟨R, hR⟩ : ∃ R, L = R := ⟨_, rfl⟩
           rw [hR] at HQ HS HM
           obtain ⟨m, hm⟩ : ∃ m, R.length = m := ⟨_, rfl⟩
           obtain ⟨q, hq⟩ : ∃ q, A = q := ⟨_, rfl⟩
           rw [hq] at HQ
           rw [hR, hm, hq]
           rw [hm] at HM HS
           clear b1 HE HE2 CF HC HK HB1 hW)
      have HN := Lib.hid hm
      have hm1 := HM.out
      have hwm : IntKind.i64.wrap ((m : Int) - 1) = (m : Int) - 1 := IntWalk.i64_in _ (by omega)
      subst hV
      clear hm
      try simp only [show wrap64 ((m : Int) - 1) = (m : Int) - 1 from by unfold wrap64; omega]
      go_wp2_with fail
      go_loopg [4, 19] m (fun gh sv it wr => ∃ i : Nat, it = .int .i64 (i : Int) ∧ sv = .int .i64 (chainTo R i) ∧ gh + i = m ∧ i ≤ m - 1 ∧ Below w.heap.size w wr ∧ RdV wr wr.heap.size q (ptRow R))
      case atStart => exact ⟨0, rfl, rfl, by omega, by omega, HQ.out.2, HQ.out.1⟩
      case round =>
        obtain ⟨i, rfl, rfl, hg, him, hB, hQ⟩ := hrel
        by_cases hlt : i + 1 < m
        · have hlt' : i + 1 < R.length := by rw [HN.out]; exact hlt
          obtain ⟨g, o, rfl, hgl, e0, e1⟩ := hQ.ptD (i := i) (by omega)
          obtain ⟨g', o', hgo, -, e2, e3⟩ := hQ.ptD (i := i + 1) hlt'
          cases hgo
          have hst := chain_next R i
          have hcb := chainTo_in R i
          have cL := fun V => gauge_Len (R.getD i pt0) (R.getD (i + 1) pt0) V
          have hll := lenG_lt (R.getD i pt0) (R.getD (i + 1) pt0)
          generalize lenG (R.getD i pt0) (R.getD (i + 1) pt0) = l at hst cL hll
          generalize R.getD i pt0 = p0 at e0 e1 cL
          generalize R.getD (i + 1) pt0 = p1 at e2 e3 cL
          obtain ⟨x0, y0⟩ := p0
          obtain ⟨x1, y1⟩ := p1
          obtain ⟨S, hS⟩ : ∃ S, chainTo R i = S := ⟨_, rfl⟩
          rw [hS] at hst hcb ⊢
          have hws : IntKind.i64.wrap (S + (l : Int)) = S + (l : Int) := IntWalk.i64_in _ (by omega)
          have hwi : IntKind.i64.wrap ((i : Int) + 1) = (i : Int) + 1 := IntWalk.i64_in _ (by omega)
          have i0 : (i : Int) < (m : Int) - 1 := by omega
          have i2 : (i : Int) < (m : Int) := by omega
          have i3 : i < m := by omega
          have i1 : 0 ≤ (i : Int) + 1 ∧ (i : Int) + 1 < (m : Int) := by omega
          have t1 : ((i : Int) + 1).toNat = i + 1 := by omega
          unfold ptV at cL
          dsimp only at e0 e1 e2 e3 cL
          have CL := Lib.hid cL
          have HB := Lib.hid (And.intro hB hQ)
          have HST := Lib.hid hst
          have HG := Lib.hid hg
          have hgw : g < wr.heap.size := hgl
          have HC := Lib.hid (fun V (h : Below wr.heap.size wr V) => show ((V.cell? ⟨g, o + i * 2, none⟩ = some (.int .i64 x0) ∧ V.cell? ⟨g, o + i * 2 + 1, none⟩ = some (.int .i64 y0)) ∧ V.cell? ⟨g, o + (i + 1) * 2, none⟩ = some (.int .i64 x1) ∧ V.cell? ⟨g, o + (i + 1) * 2 + 1, none⟩ = some (.int .i64 y1)) ∧ Below wr.heap.size wr V from
            ⟨⟨⟨(h.cell (p := ⟨g, o + i * 2, none⟩) hgw).trans e0, (h.cell (p := ⟨g, o + i * 2 + 1, none⟩) hgw).trans e1⟩, (h.cell (p := ⟨g, o + (i + 1) * 2, none⟩) hgw).trans e2, (h.cell (p := ⟨g, o + (i + 1) * 2 + 1, none⟩) hgw).trans e3⟩, h⟩)
          have HP := Lib.hid (HC.out wr.drew (Below.refl _ _).drew)
          clear hB hQ cL hst hS hcb hlt' hll hg
          go_wp2_with fail
          go_region_held3 (fun w' => ((w'.cell? ⟨g, o + i * 2, none⟩ = some (.int .i64 x0) ∧ w'.cell? ⟨g, o + i * 2 + 1, none⟩ = some (.int .i64 y0)) ∧ w'.cell? ⟨g, o + (i + 1) * 2, none⟩ = some (.int .i64 x1) ∧ w'.cell? ⟨g, o + (i + 1) * 2 + 1, none⟩ = some (.int .i64 y1)) ∧ Below wr.heap.size wr w')
            (first
              | (with_reducible exact HP.out)
              | (with_reducible exact HC.out _ (below_on (low3 (by assumption)) (low3 (by assumption)).size b9)))
            ((go_at_call 7; (with_reducible refine Calls.mono (CL.out _) ?_); rintro e w9 ⟨rfl, b9⟩))
          rename_i hHeld
          obtain ⟨-, hF⟩ := hHeld
          have HF := Lib.hid hF
          clear hF b9
          go_wp2_with fail
          go_roundg (m - (i + 1))
          case measure => have := HG.out; omega
          case rel => exact ⟨i + 1, by simp, by rw [HST.out], by omega, by omega, HB.out.1.trans (HF.out.mono HB.out.1.size), HB.out.2.on HF.out⟩
        · obtain rfl : i = m - 1 := by omega
          have hge : ¬ (((m - 1 : Nat) : Int) < (m : Int) - 1) := by omega
          have HB := Lib.hid hB
          obtain ⟨j, hj⟩ : ∃ j, m - 1 = j := ⟨_, rfl⟩
          rw [hj] at hge
          rw [hj] at HS ⊢
          clear hB hQ hg him
          go_wp2_with fail
          go_ret
          exact ⟨by rw [HS.out]; rfl, HB.out⟩
  · rw [decide_eq_false hf] at cF
    have CF := Lib.hid cF
    obtain rfl : r = 0 := by rw [← HR.out]; exact longM_no hf
    clear cF hf HR
    go_enter Try.func19, Try.ntmps19
    go_wp2_with first
      | (go_at_call 26; refine Calls.mono CF.out ?_; rintro e w1 ⟨rfl, b1⟩)
      | (rw [hW])
    go_ret
    exact ⟨rfl, HK.out.2.trans (b1.mono HK.out.2.size)⟩
end Go.Proofs.Ytbhahddgajkchaa
/- Lengths, the program's own: Twice. -/

namespace Go.Proofs.Ytbhahddgajkchaa
open Go.RowKit

theorem gone_next (R : List Pt) (i : Nat) : goneTo R (i + 1) = goneTo R i + shG (R.getD i pt0) (R.getD (i + 1) pt0) := rfl
theorem goneTo_nil : goneTo (rimG []) 0 = twiceG [] := rfl
/-- two boxes of points, one behind the other, and a draw: each at its place -/
theorem pair_boxes (w : World) (t : TypeId) (a b c d : Value) : ∃ W, ((w.alloc (.cells #[a, b] t)).alloc (.cells #[c, d] t)) = W ∧ Box W w.heap.size t [a, b] ∧ Box W (w.heap.size + 1) t [c, d] ∧ Below w.heap.size w W := by
  refine ⟨_, rfl, (Box.new w _ [a, b]).alloc _, Box.at_new (w.alloc (.cells #[a, b] t)) _ [c, d] (by simp), ?_⟩
  exact ((Below.refl _ w).alloc (Nat.le_refl _) _).alloc (by simp) _

set_option maxRecDepth 10000 in
set_option maxHeartbeats 3200000 in
theorem gauge_Twice (L : List Pt) (A : Option Addr) (c : Nat) (w : World) (hL : RdV w w.heap.size A (ptRow L)) (hl : L.length ≤ 10000) (hc : L.length ≤ c) :
    Calls Try.prog 21 #[.slice A L.length c] w fun e w' => e = .returned (.int .i64 (twiceM L)) ∧ Below w.heap.size w w' := by
  have cF := gauge_fit L A c w hL (by omega)
  have HL := Lib.hid hL
  obtain ⟨r, hr⟩ : ∃ r, twiceM L = r := ⟨_, rfl⟩
  have HR := Lib.hid hr
  rw [hr]
  clear hr hL
  by_cases hf : FitL L
  · rw [decide_eq_true hf] at cF
    have CF := Lib.hid cF
    have HC := Lib.hid (fun V (h : Below w.heap.size w V) => gauge_around L A c V (HL.out.on h) (by omega) hc)
    have HE := Lib.hid (show goneTo (rimG L) L.length = r from by
      rw [← HR.out, twiceM_yes hf]
      rcases Nat.eq_zero_or_pos L.length with h0 | h0
      · obtain rfl := List.eq_nil_of_length_eq_zero h0
        rfl
      · exact goneTo_rim h0)
    have HFT := Lib.hid (fitL_rim hf)
    obtain ⟨n, hn⟩ : ∃ n, L.length = n := ⟨_, rfl⟩
    have HM := Lib.hid (show n = 0 ∨ (rimG L).length = n + 1 from by
      rcases Nat.eq_zero_or_pos L.length with h0 | h0
      · left; omega
      · right; rw [rimG_length h0, hn])
    rw [hn] at HE CF HC hl hc ⊢
    obtain ⟨R, hR⟩ : ∃ R, rimG L = R := ⟨_, rfl⟩
    unfold Rimmed at HC
    rw [hR] at HE HFT HM HC
    clear cF hf HR hR
    have hgt : ¬ (10000 : Int) < (n : Int) := by omega
    go_enter Try.func21, Try.ntmps21
    go_wp2_with first
      | (go_at_call 26; refine Calls.mono CF.out ?_; rintro e w1 ⟨rfl, b1⟩)
      | (go_at_call 34; refine Calls.mono (HC.out _ b1) ?_; rintro e w2 ⟨⟨q, k, rfl, hq⟩, b2⟩)
    obtain ⟨m, hm⟩ : ∃ m, R.length = m := ⟨_, rfl⟩
    rw [hm]
    have HQ := Lib.hid (And.intro hq (b1.trans (b2.mono b1.size)))
    rw [hm] at HM
    have HN := Lib.hid hm
    clear hq b1 b2 CF HC hm
    go_loopg [4, 20] n (fun gh sv it wr => ∃ i : Nat, it = .int .i64 (i : Int) ∧ sv = .int .i64 (goneTo R i) ∧ gh + i = n ∧ Below w.heap.size w wr ∧ RdV wr wr.heap.size q (ptRow R))
    case atStart => exact ⟨0, rfl, rfl, by omega, HQ.out.2, HQ.out.1⟩
    case round =>
      obtain ⟨i, rfl, rfl, hg, hB, hQ⟩ := hrel
      by_cases hlt : i < n
      · have hmn : m = n + 1 := by rcases HM.out with h | h <;> omega
        have hlt' : i + 1 < R.length := by rw [HN.out]; omega
        obtain ⟨g, o, rfl, hgl, e0, e1⟩ := hQ.ptD (i := i) (by omega)
        obtain ⟨g', o', hgo, -, e2, e3⟩ := hQ.ptD (i := i + 1) hlt'
        cases hgo
        have hst := gone_next R i
        have hcb := goneTo_in HFT.out i
        have hsb := shG_in (HFT.out.getD i) (HFT.out.getD (i + 1))
        have f0 := HFT.out.getD i
        have f1 := HFT.out.getD (i + 1)
        generalize R.getD i pt0 = p0 at e0 e1 hst hsb f0
        generalize R.getD (i + 1) pt0 = p1 at e2 e3 hst hsb f1
        obtain ⟨x0, y0⟩ := p0
        obtain ⟨x1, y1⟩ := p1
        obtain ⟨S, hS⟩ : ∃ S, goneTo R i = S := ⟨_, rfl⟩
        unfold FitP at f0 f1
        dsimp only at e0 e1 e2 e3 f0 f1
        rw [hS] at hst hcb ⊢
        have m1 := mul_in (x := x0) (y := y1) (M := 8388607) (N := 8388607) (by omega) (by omega)
        have m2 := mul_in (x := x1) (y := y0) (M := 8388607) (N := 8388607) (by omega) (by omega)
        have hsh : shG ⟨x0, y0⟩ ⟨x1, y1⟩ = x0 * y1 - x1 * y0 := by unfold shG; dsimp only; rw [Int.mul_comm y0 x1]
        rw [hsh] at hst hsb
        obtain ⟨u, hu⟩ : ∃ u, x0 * y1 = u := ⟨_, rfl⟩
        obtain ⟨v, hv⟩ : ∃ u, x1 * y0 = u := ⟨_, rfl⟩
        rw [hu, hv] at hst hsb
        rw [hu] at m1
        rw [hv] at m2
        have w1 : IntKind.i64.wrap u = u := IntWalk.i64_in _ (by omega)
        have w2 : IntKind.i64.wrap v = v := IntWalk.i64_in _ (by omega)
        have w3 : IntKind.i64.wrap (u - v) = u - v := IntWalk.i64_in _ (by omega)
        have w4 : IntKind.i64.wrap (S + (u - v)) = S + (u - v) := IntWalk.i64_in _ (by omega)
        have hwi : IntKind.i64.wrap ((i : Int) + 1) = (i : Int) + 1 := IntWalk.i64_in _ (by omega)
        subst hmn
        have i0 : (i : Int) < (n : Int) := by omega
        have i2 : (i : Int) < ((n + 1 : Nat) : Int) := by omega
        have i3 : i < n + 1 := by omega
        have i1 : 0 ≤ (i : Int) + 1 ∧ (i : Int) + 1 < ((n + 1 : Nat) : Int) := by omega
        have i5 : 0 ≤ (i : Int) + 1 ∧ (i : Int) + 1 < (n : Int) + 1 := by omega
        have i4 : (i : Int) < (n : Int) + 1 := by omega
        have t1 : ((i : Int) + 1).toNat = i + 1 := by omega
        have HB := Lib.hid (And.intro hB hQ)
        have HST := Lib.hid hst
        have HG := Lib.hid hg
        clear hB hQ hst hS hcb hlt' hg hsb m1 m2 f0 f1 hsh
        go_wp2_with fail
        go_region
        all_goals
          first
            | (obtain ⟨W, hW, k1, k2, bW⟩ := pair_boxes wr 23 (.int .i64 x0) (.int .i64 y0) (.int .i64 x1) (.int .i64 y1); rw [hW])
            | (obtain ⟨W, hW, k2, k1, bW⟩ := pair_boxes wr 23 (.int .i64 x1) (.int .i64 y1) (.int .i64 x0) (.int .i64 y0); rw [hW])
          obtain ⟨V, hV, bV, kV1, kV2⟩ : ∃ V, W.drew = V ∧ Below wr.heap.size wr V ∧ Box V _ _ _ ∧ Box V _ _ _ := ⟨_, rfl, bW.drew, Box.drewN k1 1, Box.drewN k2 1⟩
          obtain ⟨⟨p0, p1⟩, -⟩ := Box.pair kV1
          obtain ⟨⟨q0, q1⟩, -⟩ := Box.pair kV2
          rw [hV]
          have HF := Lib.hid bV
          clear bW k1 k2 hW hV bV kV1 kV2
          go_wp2_with fail
          go_roundg (n - (i + 1))
          case measure => have := HG.out; omega
          case rel => exact ⟨i + 1, by simp, by rw [HST.out], by have := HG.out; omega, HB.out.1.trans (HF.out.mono HB.out.1.size), HB.out.2.on HF.out⟩
      · obtain rfl : i = n := by omega
        have HB := Lib.hid hB
        clear hB hQ hg
        go_wp2_with fail
        go_ret
        exact ⟨by rw [HE.out]; rfl, HB.out⟩
  · rw [decide_eq_false hf] at cF
    have CF := Lib.hid cF
    obtain rfl : r = 0 := by rw [← HR.out]; exact twiceM_no hf
    clear cF hf HR
    have hgt : ¬ (10000 : Int) < (L.length : Int) := by omega
    go_enter Try.func21, Try.ntmps21
    go_wp2_with first
      | (go_at_call 26; refine Calls.mono CF.out ?_; rintro e w1 ⟨rfl, b1⟩)
    go_ret
    exact ⟨rfl, b1⟩
end Go.Proofs.Ytbhahddgajkchaa
