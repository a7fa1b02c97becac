/- The walk of FigureRows. -/
import Derived.Test.YtkeglcfndjpblaaDoorZFhZ
namespace Go.Proofs.YtkeglcfndjpblaaDoor
open Go.RowKit Num

theorem keep_both {a w' : World} {p q : Addr} {x y : Option Value} (h : a.cell? p = x ∧ a.cell? q = y) (hb : Below a.heap.size a w') (hp : p.block < a.heap.size) (hq : q.block < a.heap.size) : w'.cell? p = x ∧ w'.cell? q = y :=
  ⟨(hb.cell hp).trans h.1, (hb.cell hq).trans h.2⟩
theorem keep_drew {a : World} {p q : Addr} {x y : Option Value} (h : a.cell? p = x ∧ a.cell? q = y) : a.drew.cell? p = x ∧ a.drew.cell? q = y := h

set_option maxRecDepth 10000 in
set_option maxHeartbeats 3200000 in
theorem walk_FigureRows (A D : Option Addr) (c d : Nat) (l : List By) (ns : List Int) (lo hi : Int) (w : World) (hr : RdV w w.heap.size A (scells l)) (hq : RdV w w.heap.size D (icells ns)) (hl : l.length ≤ 8796093022208) (hs : ∀ s ∈ l, s.length ≤ 281474976710656) (hn : ns.length ≤ 17592186044416) (hb : ∀ n ∈ ns, -9223372036854775808 ≤ n ∧ n ≤ 9223372036854775807) (hlo : -9223372036854775808 ≤ lo) (hhi : hi ≤ 9223372036854775807) (hT : Tab w) (hR : Rng w) (hF : Figs w) :
    Calls Tryd.prog 4 #[.slice A l.length c, .slice D ns.length d, .agg #[.int .i64 lo, .int .i64 hi]] w fun e w' => e = .returned (.bool true) ∧ Below w.heap.size w w' := by
  obtain ⟨W, hW⟩ : ∃ W, w.alloc (.cells #[.int .i64 lo, .int .i64 hi] 22) = W := ⟨_, rfl⟩
  have B0 : Below w.heap.size w W := by rw [← hW]; exact (Below.refl _ _).alloc (Nat.le_refl _) _
  have ha : Arr W w.heap.size 22 [.int .i64 lo, .int .i64 hi] := by rw [← hW]; exact Arr.new w 22 [.int .i64 lo, .int .i64 hi]
  have i0 := ha.cell 0 (v := .int .i64 lo) rfl
  have i1 := ha.cell 1 (v := .int .i64 hi) rfl
  have CR := Lib.hid (fun (V : World) (h0 : RdV V V.heap.size A (scells l)) (h : Rng V) => fig_Nums A c l lo hi hlo hhi V h0 (by omega) (fun s h => by have := hs s h; omega) h)
  have CD := Lib.hid (fun (V : World) (h0 : RdV V V.heap.size A (scells l)) => ref7_Nums A c l lo hi hlo hhi V h0 (by omega) (fun s h => by have := hs s h; omega))
  have CW := Lib.hid (fun (V : World) (h0 : RdV V V.heap.size D (icells ns)) (h : Tab V) => fig_Words D d ns hb V h0 (by omega) h)
  have CN := Lib.hid (fun (V : World) (x : Int) (h1 : -9223372036854775808 ≤ x) (h2 : x ≤ 9223372036854775807) => ref7_Num x h1 h2 V)
  have HB := Lib.hid (And.intro hT (And.intro hR hF))
  have HR := Lib.hid (And.intro hr hq)
  have HN := Lib.hid (And.intro hs hb)
  clear hT hR hF hr hq hs hb
  go_enter Tryd.func4, Tryd.ntmps4
  go_upto_region 4 with first
    | (go_at_call 11; rw [hW]; with_reducible refine Calls.mono (CR.out W (HR.out.1.on B0) (HB.out.2.1.on B0)) ?_; rintro e w1 ⟨⟨p, cp, xs, i, k, rfl, hrd, r1⟩, b1⟩
       have K1 := B0.trans (b1.mono B0.size)
       have hb1 := ha.below b1 ha.lt
       have j0 := hb1.cell 0 (v := .int .i64 lo) rfl
       have j1 := hb1.cell 1 (v := .int .i64 hi) rfl
       replace r1 := Lib.hid r1
       replace hrd := Lib.hid hrd)
    | (go_at_call 11; with_reducible refine Calls.mono (CR.out W (HR.out.1.on B0) (HB.out.2.1.on B0)) ?_; rintro e w1 ⟨⟨p, cp, xs, i, k, rfl, hrd, r1⟩, b1⟩
       have K1 := B0.trans (b1.mono B0.size)
       have hb1 := ha.below b1 ha.lt
       have j0 := hb1.cell 0 (v := .int .i64 lo) rfl
       have j1 := hb1.cell 1 (v := .int .i64 hi) rfl
       replace r1 := Lib.hid r1
       replace hrd := Lib.hid hrd)
    | (go_at_call 12; with_reducible refine Calls.mono (CD.out w1 (HR.out.1.on K1)) ?_; rintro e w2 ⟨⟨p', cp', xs', i', k', rfl, hrd', r2⟩, b2⟩
       obtain ⟨rfl, rfl, rfl⟩ := hrd'.unique hrd.out
       clear hrd'
       replace r2 := Lib.hid r2
       have K2 := K1.trans (b2.mono K1.size))
    | (go_at_call 13; with_reducible refine Calls.mono (CW.out w2 (HR.out.2.on K2) (HB.out.1.on K2)) ?_; rintro e w3 ⟨⟨q, cq, rfl, r3⟩, b3⟩
       replace r3 := Lib.hid r3
       have K3 := K2.trans (b3.mono K2.size))
  have q1 := Lib.hid ((r1.out.on b2).on b3)
  have q2 := Lib.hid (r2.out.on b3)
  have hxl : xs'.length ≤ 4611686018427387904 := by
    rcases hrd.out with ⟨_, _, h, _⟩ | ⟨_, h, _⟩
    · omega
    · rw [h]; simp
  clear CR CD CW b1 b2 b3 j0 j1 i0 i1 hb1 ha hW r1 r2 hrd
  go_wp2_with fail
  go_loopg [14] ns.length (fun gh t wr => ∃ j : Nat, t = .int .i64 (j : Int) ∧ gh + j = ns.length ∧ Below w3.heap.size w3 wr)
  case atStart => exact ⟨0, rfl, by omega, Below.refl _ _⟩
  case round =>
    obtain ⟨j, rfl, hg, hB⟩ := hrel
    by_cases hj : j < ns.length
    · obtain ⟨g1, o1, hp1, hg1, hc1⟩ := (r3.out.below hB).word (i := j) (by rw [List.length_map]; exact hj)
      obtain ⟨g2, o2, hp2, hg2, hc2⟩ := ((HR.out.2.on K3).below hB).num hj
      subst hp1 hp2
      rw [List.getElem_map] at hc1
      have hx := HN.out.2 ns[j] (List.getElem_mem hj)
      obtain ⟨x, hxx⟩ : ∃ x, ns[j] = x := ⟨_, rfl⟩
      rw [hxx] at hc1 hc2 hx
      obtain ⟨s, hs⟩ : ∃ s : ByteArray, str (wtext x) = s := ⟨_, rfl⟩
      have cN := fun V => CN.out V x hx.1 hx.2
      rw [show (⟨(wtext x).toArray⟩ : ByteArray) = s from hs] at cN
      rw [hs] at hc1
      have CX := Lib.hid cN
      have hb1 : g1 < wr.heap.size := Nat.lt_of_lt_of_le hg1 hB.size
      have hb2 : g2 < wr.heap.size := Nat.lt_of_lt_of_le hg2 hB.size
      have HH := Lib.hid hB
      clear hs hxx cN CN hB
      go_wp2_with fail
      go_region_held3 (fun w' => w'.cell? ⟨g1, o1 + j, none⟩ = some (.string s) ∧ w'.cell? ⟨g2, o2 + j, none⟩ = some (.int .i64 x))
        (first | (with_reducible exact ⟨hc1, hc2⟩) | go_keep | (with_reducible exact keep_both (by assumption) b4 (by simp; omega) (by simp; omega)))
        ((first
          | (go_at_call 9; with_reducible refine Calls.mono (CX.out _) ?_; rintro e w4 ⟨rfl, b4⟩)))
      all_goals
        have hd := HH.out.drew
        have hB4 := hd.trans (b4.mono hd.size)
        go_wp2_with fail
        go_roundg (ns.length - (j + 1))
        case measure => omega
        case rel => exact ⟨j + 1, by simp, by omega, hB4⟩
    · obtain rfl : j = ns.length := by omega
      have K4 := K3.trans (hB.mono K3.size)
      have CS := Lib.hid (show Calls Tryd.prog 14 #[.slice p xs'.length cp, .slice p' xs'.length cp'] wr (fun e w' => e = .returned (.bool true) ∧ Below wr.heap.size wr w') from
        (ref7_Same p p' cp cp' xs' xs' wr (q1.out.on hB) (q2.out.on hB) hxl).mono fun e w' ⟨⟨d, h1, h2⟩, h3⟩ => ⟨by rw [h1, h2.2 rfl], h3⟩)
      go_wp2_with first
        | (go_at_call 14; with_reducible refine Calls.mono CS.out ?_; rintro e w4 ⟨rfl, b4⟩
           have K5 := K4.trans (b4.mono K4.size))
        | (go_at_call 10; with_reducible refine Calls.mono (law7_lives w4 (HB.out.2.1.on K5) (HB.out.2.2.on K5)) ?_; rintro e w5 ⟨rfl, b5⟩
           have K6 := K5.trans (b5.mono K5.size))
      go_ret
      exact ⟨rfl, K6⟩
end Go.Proofs.YtkeglcfndjpblaaDoor
