/- The walk of FigureReads. -/
import Derived.Test.YtkeglcfndjpblaaDoorZFhZ
namespace Go.Proofs.YtkeglcfndjpblaaDoor
open Go.RowKit Num

set_option maxRecDepth 10000 in
set_option maxHeartbeats 3200000 in
theorem walk_FigureReads (t : ByteArray) (x lo hi : Int) (w : World) (ht : t.size ≤ 281474976710656) (hx1 : -9223372036854775808 ≤ x) (hx2 : x ≤ 9223372036854775807) (hlo : -9223372036854775808 ≤ lo) (hhi : hi ≤ 9223372036854775807) (hT : Tab w) (hR : Rng w) (hF : Figs w) :
    Calls Tryd.prog 3 #[.string t, .int .i64 x, .agg #[.int .i64 lo, .int .i64 hi]] w fun e w' => e = .returned (.bool true) ∧ Below w.heap.size w w' := by
  obtain ⟨W, hW⟩ : ∃ W, w.alloc (.cells #[.int .i64 lo, .int .i64 hi] 22) = W := ⟨_, rfl⟩
  have B0 : Below w.heap.size w W := by rw [← hW]; exact (Below.refl _ _).alloc (Nat.le_refl _) _
  have ha : Arr W w.heap.size 22 [.int .i64 lo, .int .i64 hi] := by rw [← hW]; exact Arr.new w 22 [.int .i64 lo, .int .i64 hi]
  have i0 := ha.cell 0 (v := .int .i64 lo) rfl
  have i1 := ha.cell 1 (v := .int .i64 hi) rfl
  have HW := Lib.hid hW
  have CR := Lib.hid (fun (V : World) (h : Rng V) => fig_Read t (by omega) lo hi hlo hhi V h)
  have CD := Lib.hid (fun (V : World) => ref7_Read t (by omega) lo hi hlo hhi V)
  have CN := Lib.hid (fun (V : World) (h : Tab V) => fig_Num x hx1 hx2 V h)
  have CM := Lib.hid (fun (V : World) => ref7_Num x hx1 hx2 V)
  obtain ⟨s, hs⟩ : ∃ s : ByteArray, (⟨(wtext x).toArray⟩ : ByteArray) = s := ⟨_, rfl⟩
  have CB := Lib.hid (fun (V : World) (h : Rng V) => (show Calls Tryd.prog 6 #[.string s, .int .i64 (-9223372036854775808), .int .i64 9223372036854775807] V (fun e w' => e = .returned (.tuple #[.int .i64 x, .int .i64 0]) ∧ Below V.heap.size V w') from by
    have hsz : s.size ≤ 281474976710656 := by
      rw [← hs, ← str_len]
      have h1 : (wtext x).length ≤ 22 := by
        have h2 := dec_len_le 20 x.natAbs (by omega)
        unfold wtext
        split <;> simp <;> omega
      exact Nat.le_trans h1 (by omega)
    refine (fig_Read s hsz _ _ (by omega) (by omega) V h).mono fun e w' ⟨⟨n, k, h1, h2⟩, h3⟩ => ⟨?_, h3⟩
    rw [← hs] at h2
    obtain ⟨rfl, rfl⟩ := h2.unique (read_back x _ _ hx1 hx2)
    exact h1))
  rw [hs] at CM CN
  have HB := Lib.hid (And.intro hT (And.intro hR hF))
  clear hs hT hR hF
  go_enter Tryd.func3, Tryd.ntmps3
  go_wp2_with first
    | (go_at_call 6; with_reducible refine Calls.mono (CR.out W (HB.out.2.1.on B0)) ?_; rintro e w1 ⟨⟨n, k, rfl, hrd⟩, b1⟩
       have K1 := B0.trans (b1.mono B0.size)
       have hb1 := ha.below b1 ha.lt
       have j0 := hb1.cell 0 (v := .int .i64 lo) rfl
       have j1 := hb1.cell 1 (v := .int .i64 hi) rfl
       replace hrd := Lib.hid hrd)
    | (go_at_call 7; with_reducible refine Calls.mono (CD.out w1) ?_; rintro e w2 ⟨⟨n', k', rfl, hrd'⟩, b2⟩
       obtain ⟨rfl, rfl⟩ := hrd'.unique hrd.out
       clear hrd'
       have K2 := K1.trans (b2.mono K1.size))
    | (go_at_call 8; with_reducible refine Calls.mono (CN.out w2 (HB.out.1.on K2)) ?_; rintro e w3 ⟨rfl, b3⟩
       have K3 := K2.trans (b3.mono K2.size))
    | (go_at_call 6; with_reducible refine Calls.mono (CB.out w3 (HB.out.2.1.on K3)) ?_; rintro e w4 ⟨rfl, b4⟩
       have K4 := K3.trans (b4.mono K3.size))
    | (go_at_call 8; with_reducible refine Calls.mono (CN.out w4 (HB.out.1.on K4)) ?_; rintro e w5 ⟨rfl, b5⟩
       have K5 := K4.trans (b5.mono K4.size))
    | (go_at_call 9; with_reducible refine Calls.mono (CM.out w5) ?_; rintro e w6 ⟨rfl, b6⟩
       have K6 := K5.trans (b6.mono K5.size))
    | (go_at_call 10; with_reducible refine Calls.mono (law7_lives w6 (HB.out.2.1.on K6) (HB.out.2.2.on K6)) ?_; rintro e w7 ⟨rfl, b7⟩
       have K7 := K6.trans (b7.mono K6.size))
  go_ret
  exact ⟨rfl, K7⟩
end Go.Proofs.YtkeglcfndjpblaaDoor
