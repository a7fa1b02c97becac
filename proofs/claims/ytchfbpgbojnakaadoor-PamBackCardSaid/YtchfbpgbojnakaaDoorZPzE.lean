/- Rasters: the program's own sized, within, May, Blank and At. Written by gen/genpb9.py. -/
import Derived.Test.YtchfbpgbojnakaaDoorZPzB
import Derived.Test.YtchfbpgbojnakaaDoorZFhY
import Derived.OwnWalk
import Derived.StillTailTactics
import Derived.Deep.QuietTactic
import Derived.BigQuiet
namespace Go.Proofs.YtchfbpgbojnakaaDoor
open Go.RowKit

def Sized (x y : Int) : Prop := (1 ≤ x ∧ x ≤ 64) ∧ (1 ≤ y ∧ y ≤ 64)
instance (x y : Int) : Decidable (Sized x y) := by unfold Sized; infer_instance
def sizedB (x y : Int) : Bool := decide (Sized x y)
def Within (a n l : Int) : Prop := 0 ≤ a ∧ 1 ≤ n ∧ n ≤ l - a
instance (a n l : Int) : Decidable (Within a n l) := by unfold Within; infer_instance
def withinB (a n l : Int) : Bool := decide (Within a n l)

set_option maxRecDepth 10000 in
set_option maxHeartbeats 1600000 in
theorem pam_sized (x y : Int) (w : World) :
    Calls Tryd.prog 27 #[.int .i64 x, .int .i64 y] w fun e w' => e = .returned (.bool (sizedB x y)) ∧ w = w' := by
  obtain ⟨d, hd⟩ : ∃ d, sizedB x y = d := ⟨_, rfl⟩
  have hdd : d = true ↔ Sized x y := by rw [← hd]; simp [sizedB]
  rw [hd]
  clear hd
  unfold Sized at hdd
  have HD := Lib.hid hdd
  clear hdd
  by_cases h0 : 1 ≤ x
  · skip
    by_cases h1 : x ≤ 64
    · skip
      by_cases h2 : 1 ≤ y
      · skip
        by_cases h3 : y ≤ 64
        · skip
          have HR := Lib.hid (HD.out.2 ⟨⟨h0, h1⟩, h2, h3⟩)
          go_enter Tryd.func27, Tryd.ntmps27
          go_wp2_with fail
          go_ret
          exact ⟨by rw [HR.out]; first | rfl | (simp; done) | (simp; assumption), rfl⟩
        · skip
          have HR := Lib.hid (no_of HD.out fun h => h3 h.2.2)
          go_enter Tryd.func27, Tryd.ntmps27
          go_wp2_with fail
          go_ret
          exact ⟨by rw [HR.out]; first | rfl | (simp; done) | (simp; assumption), rfl⟩
      · skip
        have HR := Lib.hid (no_of HD.out fun h => h2 h.2.1)
        go_enter Tryd.func27, Tryd.ntmps27
        go_wp2_with fail
        go_ret
        exact ⟨by rw [HR.out]; first | rfl | (simp; done) | (simp; assumption), rfl⟩
    · skip
      have HR := Lib.hid (no_of HD.out fun h => h1 h.1.2)
      go_enter Tryd.func27, Tryd.ntmps27
      go_wp2_with fail
      go_ret
      exact ⟨by rw [HR.out]; first | rfl | (simp; done) | (simp; assumption), rfl⟩
  · skip
    have HR := Lib.hid (no_of HD.out fun h => h0 h.1.1)
    go_enter Tryd.func27, Tryd.ntmps27
    go_wp2_with fail
    go_ret
    exact ⟨by rw [HR.out]; first | rfl | (simp; done) | (simp; assumption), rfl⟩

set_option maxRecDepth 10000 in
set_option maxHeartbeats 1600000 in
theorem pam_within (x n l : Int) (hx : -9223372036854775808 ≤ x ∧ x ≤ 9223372036854775807) (hl : 1 ≤ l ∧ l ≤ 64) (w : World) :
    Calls Tryd.prog 26 #[.int .i64 x, .int .i64 n, .int .i64 l] w fun e w' => e = .returned (.bool (withinB x n l)) ∧ w = w' := by
  obtain ⟨d, hd⟩ : ∃ d, withinB x n l = d := ⟨_, rfl⟩
  have hdd : d = true ↔ Within x n l := by rw [← hd]; simp [withinB]
  rw [hd]
  clear hd
  unfold Within at hdd
  obtain ⟨m, hm⟩ : ∃ m, l - x = m := ⟨_, rfl⟩
  have hw : 0 ≤ x → IntKind.i64.wrap m = m := fun h => IntWalk.i64_in _ (by omega)
  rw [hm] at hdd
  obtain ⟨hx1, hx2⟩ := hx
  obtain ⟨hl1, hl2⟩ := hl
  have HD := Lib.hid hdd
  replace hw := Lib.hid hw
  clear hdd
  by_cases h0 : 0 ≤ x
  · have hw0 := hw.out h0
    by_cases h1 : 1 ≤ n
    · skip
      by_cases h2 : n ≤ m
      · skip
        have HR := Lib.hid (HD.out.2 ⟨h0, h1, h2⟩)
        go_enter Tryd.func26, Tryd.ntmps26
        go_wp2_with fail
        go_ret
        exact ⟨by rw [HR.out]; first | rfl | (simp; done) | (simp; assumption), rfl⟩
      · skip
        have HR := Lib.hid (no_of HD.out fun h => h2 h.2.2)
        go_enter Tryd.func26, Tryd.ntmps26
        go_wp2_with fail
        go_ret
        exact ⟨by rw [HR.out]; first | rfl | (simp; done) | (simp; assumption), rfl⟩
    · skip
      have HR := Lib.hid (no_of HD.out fun h => h1 h.2.1)
      go_enter Tryd.func26, Tryd.ntmps26
      go_wp2_with fail
      go_ret
      exact ⟨by rw [HR.out]; first | rfl | (simp; done) | (simp; assumption), rfl⟩
  · skip
    have HR := Lib.hid (no_of HD.out fun h => h0 h.1)
    go_enter Tryd.func26, Tryd.ntmps26
    go_wp2_with fail
    go_ret
    exact ⟨by rw [HR.out]; first | rfl | (simp; done) | (simp; assumption), rfl⟩

theorem mayR_iff {r : Ras} : mayR r = true ↔ RMay r := by simp [mayR]
set_option maxRecDepth 10000 in
set_option maxHeartbeats 1600000 in
theorem pam_May (r : Ras) (p : Option Addr) (c : Nat) (hR : RasOk r) (w : World) :
    Calls Tryd.prog 17 #[rasV r p c] w fun e w' => e = .returned (.bool (mayR r)) ∧ Below w.heap.size w w' := by
  obtain ⟨W, hW, ⟨p0, p1, p2⟩, B0, -⟩ := ras_box (w := w) (t := 24) r p c
  obtain ⟨d, hd⟩ : ∃ d, mayR r = d := ⟨_, rfl⟩
  have hdd : d = true ↔ RMay r := by rw [← hd]; exact mayR_iff
  have cS := fun V => pam_sized r.w r.h V
  obtain ⟨e, he⟩ : ∃ e, sizedB r.w r.h = e := ⟨_, rfl⟩
  have hee : e = true ↔ Sized r.w r.h := by rw [← he]; simp [sizedB]
  unfold rasV
  rw [hd]
  rw [he] at cS
  unfold RMay at hdd
  unfold Sized at hee
  obtain ⟨⟨o1, o2⟩, ⟨o3, o4⟩, o5⟩ := hR
  obtain ⟨x, hx⟩ : ∃ x, r.w = x := ⟨_, rfl⟩
  obtain ⟨y, hy⟩ : ∃ x, r.h = x := ⟨_, rfl⟩
  obtain ⟨n, hn⟩ : ∃ x, r.pix.length = x := ⟨_, rfl⟩
  rw [hx, hy, hn] at hdd hW ⊢
  rw [hx, hy] at hee cS
  rw [hx] at p0 o1 o2
  rw [hy] at p1 o3 o4
  rw [hn] at p2 o5
  clear hx hy hn hd he
  have HD := Lib.hid hdd
  have HE := Lib.hid hee
  have CS := Lib.hid cS
  clear hdd hee cS
  cases e with
  | true =>
    obtain ⟨h1, h2⟩ := HE.out.1 rfl
    have hp := side_mul h1 h2
    obtain ⟨q, hq⟩ : ∃ q, x * y = q := ⟨_, rfl⟩
    rw [hq] at hp HD
    have hw : IntKind.i64.wrap q = q := IntWalk.i64_in _ (by omega)
    by_cases h5 : (n : Int) = q
    · have HR := Lib.hid (HD.out.2 ⟨h1, h2, h5⟩)
      clear h1 h2
      go_enter Tryd.func17, Tryd.ntmps17
      go_wp2_with (go_at_call 27; with_reducible refine Calls.mono (CS.out W) ?_; rintro e w1 ⟨rfl, rfl⟩)
      go_ret
      exact ⟨by rw [HR.out]; first | rfl | (simp; done) | (simp; assumption), B0⟩
    · have HR := Lib.hid (no_of HD.out fun h => h5 h.2.2)
      clear h1 h2
      go_enter Tryd.func17, Tryd.ntmps17
      go_wp2_with (go_at_call 27; with_reducible refine Calls.mono (CS.out W) ?_; rintro e w1 ⟨rfl, rfl⟩)
      go_ret
      exact ⟨by rw [HR.out]; first | rfl | (simp; done) | (simp; assumption), B0⟩
  | false =>
    have HR := Lib.hid (no_of HD.out fun h => by have := HE.out.2 ⟨h.1, h.2.1⟩; cases this)
    go_enter Tryd.func17, Tryd.ntmps17
    go_wp2_with (go_at_call 27; with_reducible refine Calls.mono (CS.out W) ?_; rintro e w1 ⟨rfl, rfl⟩)
    go_ret
    exact ⟨by rw [HR.out]; first | rfl | (simp; done) | (simp; assumption), B0⟩
end Go.Proofs.YtchfbpgbojnakaaDoor
/- Rasters: the program's own At and Blank. Written by gen/genpb9b.py. -/

namespace Go.Proofs.YtchfbpgbojnakaaDoor
open Go.RowKit

set_option maxRecDepth 10000 in
set_option maxHeartbeats 3200000 in
theorem pam_At (r : Ras) (p : Option Addr) (c : Nat) (x y : Int) (hR : RasOk r) (hx : -9223372036854775808 ≤ x ∧ x ≤ 9223372036854775807) (hy : -9223372036854775808 ≤ y ∧ y ≤ 9223372036854775807) (w : World) (hq : RdV w w.heap.size p (rowCells r.pix)) :
    Calls Tryd.prog 13 #[rasV r p c, .int .i64 x, .int .i64 y] w fun e w' => e = .returned (.tuple #[colV ((atR r x y).getD col0), .bool (atR r x y).isSome]) ∧ Below w.heap.size w w' := by
  obtain ⟨W, hW, ⟨k1, k2⟩, B0⟩ := ras_boxes (w := w) r p c
  have cM := pam_May r p c hR W
  have HQ := Lib.hid (And.intro hq k2.lt)
  have HK := Lib.hid (And.intro k1 (And.intro k2 B0))
  obtain ⟨p0, p1, p2⟩ := Box.three k1
  clear hq k1 k2 B0
  unfold rasV at *
  obtain ⟨⟨o1, o2⟩, ⟨o3, o4⟩, o5⟩ := hR
  obtain ⟨o, ho⟩ : ∃ o, atR r x y = o := ⟨_, rfl⟩
  by_cases hm : RMay r
  · rw [show mayR r = true by simp [mayR, hm]] at cM
    have CM := Lib.hid cM
    clear cM
    by_cases h4 : x < 0
    · skip
      have HN := Lib.hid (at_no (r := r) (x := x) (y := y) fun h => by omega)
      clear ho hm
      obtain ⟨hc1, hc2⟩ := HN.out
      rw [hc1, hc2, colV_zeroP]
      clear hc1 hc2
      go_enter Tryd.func13, Tryd.ntmps13
      go_wp2_with (go_at_call 17; with_reducible refine Calls.mono CM.out ?_; rintro e w1 ⟨rfl, b1⟩
                   have kk := HK.out.2.1.below b1 HK.out.2.1.lt
                   obtain ⟨z0, z1, z2⟩ := Box.three (HK.out.1.below b1 HK.out.1.lt)
                   obtain ⟨⟨q0, q1, q2, q3⟩, f0, f1, f2, f3⟩ := Box.four kk)
      obtain ⟨U, hU, kU, bU⟩ := kk.stored (.int .u8 0) (.int .u8 0) (.int .u8 0) (.int .u8 0)
      obtain ⟨⟨u0, u1, u2, u3⟩, -⟩ := Box.four kU
      have hB := (HK.out.2.2.trans (b1.mono HK.out.2.2.size)).trans (bU w.heap.size (by omega))
      rw [hU]
      exact bodyPost_ret (by simp [results, Tryd.results13, go_sem, u0, u1, u2, u3]) rfl ⟨rfl, hB⟩
    · skip
      by_cases h6 : r.w ≤ x
      · skip
        have HN := Lib.hid (at_no (r := r) (x := x) (y := y) fun h => by omega)
        clear ho hm
        obtain ⟨hc1, hc2⟩ := HN.out
        rw [hc1, hc2, colV_zeroP]
        clear hc1 hc2
        go_enter Tryd.func13, Tryd.ntmps13
        go_wp2_with (go_at_call 17; with_reducible refine Calls.mono CM.out ?_; rintro e w1 ⟨rfl, b1⟩
                     have kk := HK.out.2.1.below b1 HK.out.2.1.lt
                     obtain ⟨z0, z1, z2⟩ := Box.three (HK.out.1.below b1 HK.out.1.lt)
                     obtain ⟨⟨q0, q1, q2, q3⟩, f0, f1, f2, f3⟩ := Box.four kk)
        obtain ⟨U, hU, kU, bU⟩ := kk.stored (.int .u8 0) (.int .u8 0) (.int .u8 0) (.int .u8 0)
        obtain ⟨⟨u0, u1, u2, u3⟩, -⟩ := Box.four kU
        have hB := (HK.out.2.2.trans (b1.mono HK.out.2.2.size)).trans (bU w.heap.size (by omega))
        rw [hU]
        exact bodyPost_ret (by simp [results, Tryd.results13, go_sem, u0, u1, u2, u3]) rfl ⟨rfl, hB⟩
      · skip
        by_cases h8 : y < 0
        · skip
          have HN := Lib.hid (at_no (r := r) (x := x) (y := y) fun h => by omega)
          clear ho hm
          obtain ⟨hc1, hc2⟩ := HN.out
          rw [hc1, hc2, colV_zeroP]
          clear hc1 hc2
          go_enter Tryd.func13, Tryd.ntmps13
          go_wp2_with (go_at_call 17; with_reducible refine Calls.mono CM.out ?_; rintro e w1 ⟨rfl, b1⟩
                       have kk := HK.out.2.1.below b1 HK.out.2.1.lt
                       obtain ⟨z0, z1, z2⟩ := Box.three (HK.out.1.below b1 HK.out.1.lt)
                       obtain ⟨⟨q0, q1, q2, q3⟩, f0, f1, f2, f3⟩ := Box.four kk)
          obtain ⟨U, hU, kU, bU⟩ := kk.stored (.int .u8 0) (.int .u8 0) (.int .u8 0) (.int .u8 0)
          obtain ⟨⟨u0, u1, u2, u3⟩, -⟩ := Box.four kU
          have hB := (HK.out.2.2.trans (b1.mono HK.out.2.2.size)).trans (bU w.heap.size (by omega))
          rw [hU]
          exact bodyPost_ret (by simp [results, Tryd.results13, go_sem, u0, u1, u2, u3]) rfl ⟨rfl, hB⟩
        · skip
          by_cases h10 : r.h ≤ y
          · skip
            have HN := Lib.hid (at_no (r := r) (x := x) (y := y) fun h => by omega)
            clear ho hm
            obtain ⟨hc1, hc2⟩ := HN.out
            rw [hc1, hc2, colV_zeroP]
            clear hc1 hc2
            go_enter Tryd.func13, Tryd.ntmps13
            go_wp2_with (go_at_call 17; with_reducible refine Calls.mono CM.out ?_; rintro e w1 ⟨rfl, b1⟩
                         have kk := HK.out.2.1.below b1 HK.out.2.1.lt
                         obtain ⟨z0, z1, z2⟩ := Box.three (HK.out.1.below b1 HK.out.1.lt)
                         obtain ⟨⟨q0, q1, q2, q3⟩, f0, f1, f2, f3⟩ := Box.four kk)
            obtain ⟨U, hU, kU, bU⟩ := kk.stored (.int .u8 0) (.int .u8 0) (.int .u8 0) (.int .u8 0)
            obtain ⟨⟨u0, u1, u2, u3⟩, -⟩ := Box.four kU
            have hB := (HK.out.2.2.trans (b1.mono HK.out.2.2.size)).trans (bU w.heap.size (by omega))
            rw [hU]
            exact bodyPost_ret (by simp [results, Tryd.results13, go_sem, u0, u1, u2, u3]) rfl ⟨rfl, hB⟩
          · skip
            obtain ⟨hi, hat⟩ := atR_some hm ⟨by omega, by omega⟩ ⟨by omega, by omega⟩ (x := x) (y := y)
            have hpl := place_lt (w := r.w) (h := r.h) (x := x) (y := y) ⟨by omega, by omega⟩ ⟨by omega, by omega⟩
            have hpm := side_mul hm.1 hm.2.1
            obtain ⟨i, hii⟩ : ∃ i, (x + r.w * y).toNat = i := ⟨_, rfl⟩
            rw [hat, Option.getD_some, Option.isSome_some]
            simp only [hii] at hi ⊢
            rw [Int.mul_comm] at hpl hii
            obtain ⟨q, hqq⟩ : ∃ q, y * r.w = q := ⟨_, rfl⟩
            rw [hqq] at hpl hii
            have hwq : IntKind.i64.wrap q = q := IntWalk.i64_in _ (by have := hm.1; have := hm.2.1; omega)
            have hxi : q + x = (i : Int) := by omega
            have hwi : IntKind.i64.wrap (i : Int) = (i : Int) := IntWalk.i64_in _ (by omega)
            obtain ⟨g, a, hp, hg, hc⟩ := HQ.out.1.col hi
            subst hp
            obtain ⟨cc, hcc⟩ : ∃ cc, r.pix[i] = cc := ⟨_, rfl⟩
            rw [hcc] at hc ⊢
            have HC := Lib.hid (And.intro hc hg)
            have hi' : (i : Int) < (r.pix.length : Int) := by omega
            clear hc hg hat hii hpm hpl ho hcc hm
            go_enter Tryd.func13, Tryd.ntmps13
            go_wp2_with (go_at_call 17; with_reducible refine Calls.mono CM.out ?_; rintro e w1 ⟨rfl, b1⟩
                         have kk := HK.out.2.1.below b1 HK.out.2.1.lt
                         have BB := HK.out.2.2.trans (b1.mono HK.out.2.2.size)
                         obtain ⟨z0, z1, z2⟩ := Box.three (HK.out.1.below b1 HK.out.1.lt)
                         obtain ⟨⟨q0, q1, q2, q3⟩, f0, f1, f2, f3⟩ := Box.four kk
                         have e0 : w1.cell? ⟨g, a + i * 4, none⟩ = _ := (BB.cell (p := ⟨g, a + i * 4, none⟩) HC.out.2).trans HC.out.1.1
                         have e1 : w1.cell? ⟨g, a + i * 4 + 1, none⟩ = _ := (BB.cell (p := ⟨g, a + i * 4 + 1, none⟩) HC.out.2).trans HC.out.1.2.1
                         have e2 : w1.cell? ⟨g, a + i * 4 + 2, none⟩ = _ := (BB.cell (p := ⟨g, a + i * 4 + 2, none⟩) HC.out.2).trans HC.out.1.2.2.1
                         have e3 : w1.cell? ⟨g, a + i * 4 + 3, none⟩ = _ := (BB.cell (p := ⟨g, a + i * 4 + 3, none⟩) HC.out.2).trans HC.out.1.2.2.2)
            obtain ⟨U, hU, kU, bU⟩ := kk.stored (.int .u8 (cc.r.toNat : Int)) (.int .u8 (cc.g.toNat : Int)) (.int .u8 (cc.b.toNat : Int)) (.int .u8 (cc.a.toNat : Int))
            obtain ⟨⟨u0, u1, u2, u3⟩, -⟩ := Box.four kU
            have hB := BB.trans (bU w.heap.size (by omega))
            rw [hU]
            exact bodyPost_ret (by simp [results, Tryd.results13, go_sem, u0, u1, u2, u3, colV]) rfl ⟨rfl, hB⟩
  · rw [show mayR r = false by simp [mayR, hm]] at cM
    have CM := Lib.hid cM
    clear cM
    have HN := Lib.hid (at_no (r := r) (x := x) (y := y) fun h => hm h.1)
    clear ho hm
    obtain ⟨hc1, hc2⟩ := HN.out
    rw [hc1, hc2, colV_zeroP]
    clear hc1 hc2
    go_enter Tryd.func13, Tryd.ntmps13
    go_wp2_with (go_at_call 17; with_reducible refine Calls.mono CM.out ?_; rintro e w1 ⟨rfl, b1⟩
                 have kk := HK.out.2.1.below b1 HK.out.2.1.lt
                 obtain ⟨z0, z1, z2⟩ := Box.three (HK.out.1.below b1 HK.out.1.lt)
                 obtain ⟨⟨q0, q1, q2, q3⟩, f0, f1, f2, f3⟩ := Box.four kk)
    obtain ⟨U, hU, kU, bU⟩ := kk.stored (.int .u8 0) (.int .u8 0) (.int .u8 0) (.int .u8 0)
    obtain ⟨⟨u0, u1, u2, u3⟩, -⟩ := Box.four kU
    have hB := (HK.out.2.2.trans (b1.mono HK.out.2.2.size)).trans (bU w.heap.size (by omega))
    rw [hU]
    exact bodyPost_ret (by simp [results, Tryd.results13, go_sem, u0, u1, u2, u3]) rfl ⟨rfl, hB⟩

theorem made_col (n : Nat) : madeCells #[(.int .u8 0 : Value), .int .u8 0, .int .u8 0, .int .u8 0] (n * 4) = (List.replicate (n * 4) (.int .u8 0)).toArray := by
  apply Array.ext
  · simp [madeCells]
  · intro j h1 h2
    simp only [madeCells, Array.getElem_map, Array.getElem_range, List.getElem_toArray, List.getElem_replicate]
    have : j % 4 < 4 := Nat.mod_lt _ (by omega)
    have hs : (#[(.int .u8 0 : Value), .int .u8 0, .int .u8 0, .int .u8 0]).size = 4 := rfl
    rw [hs]
    generalize j % 4 = k at this
    match k, this with
    | 0, _ => rfl
    | 1, _ => rfl
    | 2, _ => rfl
    | 3, _ => rfl
theorem zero_flat : ∀ n : Nat, rowCells (List.replicate n col0) = List.replicate (n * 4) (.int .u8 0)
  | 0 => rfl
  | n + 1 => by
    rw [List.replicate_succ, rowCells_cons, zero_flat n, Nat.succ_mul, Nat.add_comm (n * 4) 4, ← List.replicate_append_replicate]
    rfl
theorem run_make_col (n : Nat) (hn : n ≤ 70368744177664) (u : World) :
    (Instr.makeSlice 22 (.int .i64 (n : Int)) (.int .i64 (n : Int))).run Tryd.prog u = .ok (.slice (some ⟨u.heap.size, 0, none⟩) n n) (u.alloc (.cells (rowCells (List.replicate n col0)).toArray 41)) := by
  obtain ⟨i, hi, hz0, hz1, hz2⟩ := info_parts info_col
  have hb : (i.bytes : Int) * (n : Int) ≤ 281474976710656 := by rw [hz2]; omega
  have h := run_make (P := Tryd.prog) u 22 41 i _ Tryd.underlying22 hi hz0 .i64 .i64 n n (by omega) (Int.le_refl _) hb (by omega)
  rw [Int.toNat_natCast] at h
  rw [h, hz1, zero_flat, ← made_col]
  rfl
/-- a box of three, written anew -/
theorem ras_stored {w : World} {R : Nat} {t : TypeId} {a b d : Value} (hz : Box w R t [a, b, d]) (x y z : Value) :
    ∃ U, ((w.setCell ⟨R, 0, none⟩ x).setCell ⟨R, 1, none⟩ y).setCell ⟨R, 2, none⟩ z = U ∧ (U.cell? ⟨R, 0, none⟩ = some x ∧ U.cell? ⟨R, 1, none⟩ = some y ∧ U.cell? ⟨R, 2, none⟩ = some z) ∧ (∀ A, A ≤ R → Below A w U) ∧ (∀ g t vs, g ≠ R → Box w g t vs → Box U g t vs) := by
  have hb : Box (((w.setCell ⟨R, 0, none⟩ x).setCell ⟨R, 1, none⟩ y).setCell ⟨R, 2, none⟩ z) R t [x, y, z] := ((hz.set 0 _).set 1 _).set 2 _
  exact ⟨_, rfl, ⟨hb.cell 0 rfl, hb.cell 1 rfl, hb.cell 2 rfl⟩, fun A hA => (((Below.refl A w).setCell (p := ⟨R, 0, none⟩) hA _).setCell (p := ⟨R, 1, none⟩) hA _).setCell (p := ⟨R, 2, none⟩) hA _,
    fun g t vs hg hx => ((hx.far (p := ⟨R, 0, none⟩) hg _).far (p := ⟨R, 1, none⟩) hg _).far (p := ⟨R, 2, none⟩) hg _⟩
theorem Box.asArr {w : World} {g : Nat} {t : TypeId} {vs : List Value} (h : Box w g t vs) : Arr w g t vs := h

set_option maxRecDepth 10000 in
set_option maxHeartbeats 3200000 in
/-- what it made lies by itself, in a block that nothing else holds -/
theorem pam_BlankOk (x y : Int) (h : Sized x y) (n : Nat) (hn : x * y = (n : Int)) (w : World) :
    Calls Tryd.prog 19 #[.int .i64 x, .int .i64 y] w fun e w' => (e = .returned (.agg #[.int .i64 x, .int .i64 y, .slice (some ⟨w.heap.size + 1, 0, none⟩) n n]) ∧ Box w' (w.heap.size + 1) 41 (rowCells (List.replicate n col0))) ∧ Below w.heap.size w w' := by
  have hp := side_mul h.1 h.2
  have cS := fun V => pam_sized x y V
  rw [show sizedB x y = true by simp [sizedB, h]] at cS
  have hmk := run_make_col n (by omega) (w.alloc (.cells #[.int .i64 0, .int .i64 0, .slice none 0 0] 24))
  have hw : IntKind.i64.wrap (n : Int) = n := IntWalk.i64_in _ (by omega)
  have hz := (Box.new w 24 [.int .i64 0, .int .i64 0, .slice none 0 0]).alloc (.cells (rowCells (List.replicate n col0)).toArray 41)
  have hr := Box.at_new (w.alloc (.cells #[.int .i64 0, .int .i64 0, .slice none 0 0] 24)) 41 (rowCells (List.replicate n col0)) (g := w.heap.size + 1) (by simp)
  have hB := ((Below.refl w.heap.size w).alloc (Nat.le_refl _) (.cells #[.int .i64 0, .int .i64 0, .slice none 0 0] 24)).alloc (by simp) (.cells (rowCells (List.replicate n col0)).toArray 41)
  rw [show (w.alloc (.cells #[.int .i64 0, .int .i64 0, .slice none 0 0] 24)).heap.size = w.heap.size + 1 by simp] at hmk
  obtain ⟨V, hV⟩ : ∃ V, (w.alloc (.cells #[.int .i64 0, .int .i64 0, .slice none 0 0] 24)).alloc (.cells (rowCells (List.replicate n col0)).toArray 41) = V := ⟨_, rfl⟩
  have hV2 : (w.alloc (.cells [.int .i64 0, .int .i64 0, .slice none 0 0].toArray 24)).alloc (.cells (rowCells (List.replicate n col0)).toArray 41) = V := hV
  rw [hV] at hmk hr hB
  rw [hV2] at hz
  clear hV hV2
  have f0 := hz.frozen 0
  have f1 := hz.frozen 1
  have f2 := hz.frozen 2
  obtain ⟨q0, q1, q2⟩ := Box.three hz
  have HZ := Lib.hid (And.intro hz (And.intro hr hB))
  clear hz hr hB hp h
  replace cS := Lib.hid cS
  go_enter Tryd.func19, Tryd.ntmps19
  go_wp2_with (go_at_call 27; with_reducible refine Calls.mono (cS.out _) ?_; rintro e w1 ⟨rfl, rfl⟩)
  obtain ⟨U, hU, ⟨u0, u1, u2⟩, bU, kU⟩ := ras_stored HZ.out.1 (.int .i64 x) (.int .i64 y) (.slice (some ⟨w.heap.size + 1, 0, none⟩) n n)
  rw [hU]
  exact bodyPost_ret (by simp [results, Tryd.results19, go_sem, u0, u1, u2]) rfl ⟨⟨rfl, kU _ _ _ (by omega) HZ.out.2.1⟩, HZ.out.2.2.trans (bU _ (Nat.le_refl _))⟩
set_option maxRecDepth 10000 in
set_option maxHeartbeats 3200000 in
theorem pam_BlankNo (x y : Int) (h : ¬ Sized x y) (w : World) :
    Calls Tryd.prog 19 #[.int .i64 x, .int .i64 y] w fun e w' => e = .returned (rasV ras0 none 0) ∧ Below w.heap.size w w' := by
  have cS := fun V => pam_sized x y V
  rw [show sizedB x y = false by simp [sizedB, h]] at cS
  have hz := Box.new w 24 [.int .i64 0, .int .i64 0, .slice none 0 0]
  have f0 := hz.frozen 0
  have f1 := hz.frozen 1
  have f2 := hz.frozen 2
  obtain ⟨q0, q1, q2⟩ := Box.three hz
  have hB := (Below.refl w.heap.size w).alloc (Nat.le_refl _) (.cells #[.int .i64 0, .int .i64 0, .slice none 0 0] 24)
  have HZ := Lib.hid (And.intro hz hB)
  clear hz hB h
  replace cS := Lib.hid cS
  unfold rasV ras0
  go_enter Tryd.func19, Tryd.ntmps19
  go_wp2_with (go_at_call 27; with_reducible refine Calls.mono (cS.out _) ?_; rintro e w1 ⟨rfl, rfl⟩)
  exact bodyPost_ret (by simp [results, Tryd.results19, go_sem, q0, q1, q2]) rfl ⟨rfl, HZ.out.2⟩
theorem pam_Blank (x y : Int) (w : World) :
    Calls Tryd.prog 19 #[.int .i64 x, .int .i64 y] w fun e w' => (∃ p c, e = .returned (rasV (blankR x y) p c) ∧ RdV w' w'.heap.size p (rowCells (blankR x y).pix)) ∧ Below w.heap.size w w' := by
  by_cases h : Sized x y
  · have hp := side_mul h.1 h.2
    obtain ⟨n, hn⟩ : ∃ n : Nat, x * y = n := ⟨(x * y).toNat, by omega⟩
    refine (pam_BlankOk x y h n hn w).mono ?_
    rintro e w' ⟨⟨rfl, hb⟩, hB⟩
    rw [show blankR x y = ⟨x, y, List.replicate (x * y).toNat col0⟩ from if_pos h, hn, Int.toNat_natCast]
    unfold rasV
    refine ⟨⟨_, n, by simp, hb.asArr.rd⟩, hB⟩
  · refine (pam_BlankNo x y h w).mono ?_
    rintro e w' ⟨rfl, hB⟩
    rw [show blankR x y = ras0 from if_neg h]
    exact ⟨⟨none, 0, rfl, RdV.nil _ _ _⟩, hB⟩
end Go.Proofs.YtchfbpgbojnakaaDoor
/- Rasters: a part of one, the program's own Crop. -/

namespace Go.Proofs.YtchfbpgbojnakaaDoor
open Go.RowKit

theorem cropTo_whole (r : Ras) (x y : Int) (U k : Nat) : cropTo r x y U k 0 ++ (List.range U).map (fun a : Nat => cAt r (x + a) (y + k)) = cropTo r x y U (k + 1) 0 := by
  rw [← cropTo_row]
  simp [cropTo]
/-- a piece of a row, as it lies -/
theorem row_piece {r : Ras} {x y : Int} {U V k F : Nat} (h : CropOk r x y U V) (hk : k < V) (hF : (y + k) * r.w + x = (F : Int)) : F + U ≤ r.pix.length ∧ (r.pix.drop F).take U = (List.range U).map (fun a : Nat => cAt r (x + a) (y + k)) := by
  obtain ⟨hR, ⟨hu1, hu2⟩, ⟨hv1, hv2⟩, ⟨hx1, hx2⟩, ⟨hy1, hy2⟩, hxu, hyv⟩ := h
  have hl := hR.2.2
  have h2 := place_lt (w := r.w) (h := r.h) (x := x + (U - 1 : Nat)) (y := y + k) ⟨by omega, by omega⟩ ⟨by omega, by omega⟩
  rw [Int.mul_comm] at hF
  have hlen : F + U ≤ r.pix.length := by omega
  refine ⟨hlen, List.ext_getElem (by simp; omega) fun a h1 h3 => ?_⟩
  have ha : a < U := by simp at h3; omega
  rw [List.getElem_take, List.getElem_drop, List.getElem_map, List.getElem_range]
  obtain ⟨hi, he⟩ := atR_some hR (x := x + a) (y := y + k) ⟨by omega, by omega⟩ ⟨by omega, by omega⟩
  have e : (x + a + r.w * (y + k)).toNat = F + a := by omega
  unfold cAt
  rw [he]
  simp only [e, Option.getD_some]
theorem RdV.part {w : World} {B b o : Nat} {l : List Col} (h : RdV w B (some ⟨b, o, none⟩) (rowCells l)) (F U : Nat) (hF : F + U ≤ l.length) : ∀ j u, (rowCells ((l.drop F).take U))[j]? = some u → w.cell? ((⟨b, o + F * 4, none⟩ : Addr).add j) = some u := by
  intro j u hj
  have hadd : (⟨b, o + F * 4, none⟩ : Addr).add j = ⟨b, o + F * 4 + j, none⟩ := by unfold Addr.add; split <;> simp_all
  obtain ⟨hj1, hj2⟩ := List.getElem?_eq_some_iff.1 hj
  rw [rowCells_length, List.length_take, List.length_drop] at hj1
  have e : rowCells l = rowCells (l.take F) ++ (rowCells ((l.drop F).take U) ++ rowCells ((l.drop F).drop U)) := by
    rw [← rowCells_append, List.take_append_drop, ← rowCells_append, List.take_append_drop]
  have hg : (rowCells l)[F * 4 + j]? = some u := by
    rw [e, List.getElem?_append_right (by rw [rowCells_length, List.length_take]; omega), rowCells_length, List.length_take, List.getElem?_append_left (by rw [rowCells_length, List.length_take, List.length_drop]; omega)]
    rw [show F * 4 + j - 4 * min F l.length = j by omega]
    exact hj
  obtain ⟨hk1, hk2⟩ := List.getElem?_eq_some_iff.1 hg
  obtain ⟨b', o', e', -, hc⟩ := h (by omega)
  cases e'
  rw [hadd, Nat.add_assoc, hc _ hk1, hk2]
theorem rowCells_one (l : List Col) : ∀ u ∈ rowCells l, u.oneCell' = true := by
  intro u hu
  unfold rowCells at hu
  rw [List.mem_flatMap] at hu
  obtain ⟨c, -, hc⟩ := hu
  simp only [colCells, List.mem_cons, List.not_mem_nil, or_false] at hc
  rcases hc with rfl | rfl | rfl | rfl <;> rfl

/-- a part under way: its row g, which has room for all, and its box behind it -/
def Cropping (w wr : World) (g cap : Nat) (x y : Int) (l : List Col) : Prop :=
  Box wr (g + 1) 24 [.int .i64 x, .int .i64 y, .slice (some ⟨g, 0, none⟩) l.length cap] ∧ wr.ownsRow g 41 4 (.slice (some ⟨g, 0, none⟩) l.length cap) l.length (rowCells l) ∧ w.heap.size ≤ g ∧ Below w.heap.size w wr
theorem Cropping.step {w wr w3 : World} {g cap : Nat} {x y : Int} {l m : List Col} (h : Cropping w wr g cap x y l) (hg : wr.grownBy w3 (some g)) (hn : w3.ownsRow g 41 4 (.slice (some ⟨g, 0, none⟩) (l.length + m.length) cap) (l.length + m.length) (rowCells l ++ rowCells m)) :
    w3.frozen? ⟨g + 1, 2, none⟩ = false ∧ (w3.cell? ⟨g + 1, 2, none⟩ = some (.slice (some ⟨g, 0, none⟩) l.length cap)) ∧ Cropping w (w3.setCell ⟨g + 1, 2, none⟩ (.slice (some ⟨g, 0, none⟩) (l.length + m.length) cap)) g cap x y (l ++ m) := by
  obtain ⟨h1, h2, h3, h4⟩ := h
  have hk : Box w3 (g + 1) 24 [.int .i64 x, .int .i64 y, .slice (some ⟨g, 0, none⟩) l.length cap] := (hg.block (g + 1) h1.lt (by simp)).trans h1
  have hb3 : Below w.heap.size w w3 := h4.grown hg h4.size (fun k e => by cases e; exact h3)
  refine ⟨hk.frozen 2, hk.cell 2 rfl, ?_⟩
  unfold Cropping
  rw [List.length_append, rowCells_append]
  refine ⟨hk.set 2 _, ?_, h3, hb3.setCell (p := ⟨g + 1, 2, none⟩) (by show w.heap.size ≤ g + 1; omega) _⟩
  exact hn.kept (grown_set w3 (g + 1) 2 _) (.inr (by simp [Value.ownBlock]))

/- WALK -/
theorem Cropping.handed {w wr : World} {g cap R : Nat} {x y : Int} {l : List Col} (h : Cropping w wr g cap x y l) (hR : R < g) (a b d : Value) :
    RdV (((wr.setCell ⟨R, 0, none⟩ a).setCell ⟨R, 1, none⟩ b).setCell ⟨R, 2, none⟩ d) (((wr.setCell ⟨R, 0, none⟩ a).setCell ⟨R, 1, none⟩ b).setCell ⟨R, 2, none⟩ d).heap.size (some ⟨g, 0, none⟩) (rowCells l) := by
  have hne : (Value.slice (some ⟨g, 0, none⟩) l.length cap).ownBlock ≠ some R := by simp [Value.ownBlock]; omega
  have k1 := h.2.1.kept (grown_set wr R 0 a) (.inr hne)
  have k2 := k1.kept (grown_set _ R 1 b) (.inr hne)
  have k3 := k2.kept (grown_set _ R 2 d) (.inr hne)
  obtain ⟨p', c', e, _, _, hr⟩ := RdV.ofOwn4 k3
  cases e
  exact hr
theorem Cropping.new {w w1 : World} (h : Below w.heap.size w w1) (n : Nat) (hn : n ≤ 4096) (x y : Int) : Cropping w ((w1.alloc (.cells (madeCells #[(.int .u8 0 : Value), .int .u8 0, .int .u8 0, .int .u8 0] (n * 4)) 41)).alloc (.cells #[.int .i64 x, .int .i64 y, .slice (some ⟨w1.heap.size, 0, none⟩) 0 n] 24)) w1.heap.size n x y [] := by
  refine ⟨Box.at_new _ _ [.int .i64 x, .int .i64 y, .slice (some ⟨w1.heap.size, 0, none⟩) 0 n] (by simp), ?_, h.size, (h.alloc h.size _).alloc (by simp; have := h.size; omega) _⟩
  refine ⟨rfl, .inr ⟨w1.heap.size, n, _, rfl, Nat.le_refl _, (Below.heap_alloc _ _ w1.heap.size (by simp)).trans (heap_alloc_new w1 _), Nat.zero_le _, ?_, ?_, ?_⟩⟩
  · show n ≤ maxLen
    unfold maxLen; omega
  · simp [size_madeCells]
  · simp [rowCells]
theorem run_make_crop (n : Nat) (hn : n ≤ 70368744177664) (u : World) :
    (Instr.makeSlice 22 (.int .i64 0) (.int .i64 (n : Int))).run Tryd.prog u = .ok (.slice (some ⟨u.heap.size, 0, none⟩) 0 n) (u.alloc (.cells (madeCells #[(.int .u8 0 : Value), .int .u8 0, .int .u8 0, .int .u8 0] (n * 4)) 41)) := by
  obtain ⟨i, hi, hz0, hz1, hz2⟩ := info_parts info_col
  have hb : (i.bytes : Int) * (n : Int) ≤ 281474976710656 := by rw [hz2]; omega
  have h := run_make (P := Tryd.prog) u 22 41 i _ Tryd.underlying22 hi hz0 .i64 .i64 0 n (by omega) (by omega) hb (by omega)
  rw [Int.toNat_natCast] at h
  rw [h, hz1]
  rfl

set_option maxRecDepth 10000 in
set_option maxHeartbeats 3200000 in
theorem pam_CropOk (r : Ras) (p : Option Addr) (c : Nat) (hpc : r.pix.length ≤ c) (x y u v : Int) (h : CropOk r x y u v) (w : World) (hq : RdV w w.heap.size p (rowCells r.pix)) :
    Calls Tryd.prog 15 #[rasV r p c, .int .i64 x, .int .i64 y, .int .i64 u, .int .i64 v] w fun e w' => (∃ p c, e = .returned (.tuple #[rasV ⟨u, v, cropTo r x y u.toNat v.toNat 0⟩ p c, .int .i64 0]) ∧ RdV w' w'.heap.size p (rowCells (cropTo r x y u.toNat v.toNat 0))) ∧ Below w.heap.size w w' := by
  have hO := h
  obtain ⟨hR, ⟨hu1, hu2⟩, ⟨hv1, hv2⟩, ⟨hx1, hx2⟩, ⟨hy1, hy2⟩, hxu, hyv⟩ := h
  have hR' : RasOk r := by obtain ⟨⟨a1, a2⟩, ⟨a3, a4⟩, a5⟩ := hR; have := side_mul ⟨a1, a2⟩ ⟨a3, a4⟩; exact ⟨⟨by omega, by omega⟩, ⟨by omega, by omega⟩, by omega⟩
  obtain ⟨i0, hi, hz0, hz1, hz2⟩ := info_parts info_col
  have cM := fun V => pam_May r p c hR' V
  have cX := fun V => pam_within x u r.w ⟨by omega, by omega⟩ hR.1 V
  have cY := fun V => pam_within y v r.h ⟨by omega, by omega⟩ hR.2.1 V
  rw [show mayR r = true by simp [mayR, hR]] at cM
  rw [show withinB x u r.w = true from decide_eq_true (show Within x u r.w from ⟨by omega, by omega, by omega⟩)] at cX
  rw [show withinB y v r.h = true from decide_eq_true (show Within y v r.h from ⟨by omega, by omega, by omega⟩)] at cY
  obtain ⟨U, rfl⟩ : ∃ U : Nat, u = U := ⟨u.toNat, by omega⟩
  obtain ⟨V, rfl⟩ : ∃ V : Nat, v = V := ⟨v.toNat, by omega⟩
  have hUV : U * V ≤ 4096 := by
    have := Nat.mul_le_mul (show U ≤ 64 by omega) (show V ≤ 64 by omega)
    omega
  obtain ⟨N, hN⟩ : ∃ N, U * V = N := ⟨_, rfl⟩
  have hNi : (U : Int) * (V : Int) = (N : Int) := by rw [← hN]; simp
  have hmk := fun u => run_make_crop N (by omega) u
  have hwN : IntKind.i64.wrap (N : Int) = N := IntWalk.i64_in _ (by omega)
  obtain ⟨W, hW, HK⟩ : ∃ W, (w.alloc (.cells #[.int .i64 r.w, .int .i64 r.h, .slice p r.pix.length c] 24)).alloc (.cells #[.int .i64 0, .int .i64 0, .slice none 0 0] 24) = W ∧ Hid ((Box W w.heap.size 24 [.int .i64 r.w, .int .i64 r.h, .slice p r.pix.length c] ∧ Box W (w.heap.size + 1) 24 [.int .i64 0, .int .i64 0, .slice none 0 0]) ∧ Below w.heap.size w W) :=
    ⟨_, rfl, Lib.hid ⟨⟨(Box.new w _ [.int .i64 r.w, .int .i64 r.h, .slice p r.pix.length c]).alloc _, Box.at_new _ _ [.int .i64 0, .int .i64 0, .slice none 0 0] (by simp)⟩, ((Below.refl _ _).alloc (Nat.le_refl _) _).alloc (by simp) _⟩⟩
  obtain ⟨b, o, rfl, hbl, -⟩ := hq (by rw [rowCells_length]; have := hR.2.2; have := side_mul hR.1 hR.2.1; omega)
  replace hW := Lib.hid hW
  replace hq := Lib.hid hq
  have hRR := Lib.hid (And.intro hR (And.intro hO hpc))
  replace hUV := Lib.hid (And.intro hUV hN)
  clear hR' hO hN hpc
  unfold rasV at *
  replace cM := Lib.hid cM
  replace cX := Lib.hid cX
  replace cY := Lib.hid cY
  go_enter Tryd.func15, Tryd.ntmps15
  go_wp2_with first
    | (go_at_call 17; rw [hW.out]; with_reducible refine Calls.mono (cM.out _) ?_; rintro e w1 ⟨rfl, b1⟩
       have hk1 := Lib.hid (HK.out.1.1.below b1 HK.out.1.1.lt)
       have hk2 := Lib.hid (HK.out.1.2.below b1 HK.out.1.2.lt)
       have hk3 := Lib.hid (HK.out.2.trans (b1.mono HK.out.2.size))
       clear b1
       obtain ⟨z0, z1, z2⟩ := Box.three hk1.out)
    | (go_at_call 26; with_reducible refine Calls.mono (cX.out _) ?_; rintro e w3 ⟨rfl, rfl⟩)
    | (go_at_call 26; with_reducible refine Calls.mono (cY.out _) ?_; rintro e w3 ⟨rfl, rfl⟩)
  have HC := Lib.hid (Cropping.new (Below.refl w1.heap.size w1) N (by have := hUV.out.1; have := hUV.out.2; omega) (U : Int) (V : Int))
  generalize (w1.alloc (.cells (madeCells #[(.int .u8 0 : Value), .int .u8 0, .int .u8 0, .int .u8 0] (N * 4)) 41)).alloc (.cells #[.int .i64 (U : Int), .int .i64 (V : Int), .slice (some ⟨w1.heap.size, 0, none⟩) 0 N] 24) = w2 at HC ⊢
  clear z0 z1 z2 hmk
  go_loopg [13, 14, 43] V (fun gh _ _ it wr => ∃ (k : Nat), it = .int .i64 (k : Int) ∧ gh + k = V ∧ Cropping w1 wr w1.heap.size N (U : Int) (V : Int) (cropTo r x y U k 0))
  case atStart => exact ⟨0, rfl, by omega, HC.out⟩
  case round =>
    obtain ⟨k, rfl, hg, hm⟩ := hrel
    replace hm := Lib.hid hm
    by_cases hlt : k < V
    · have hil : (k : Int) < (V : Int) := by omega
      have hpl := place_lt (w := r.w) (h := r.h) (x := x) (y := y + k) ⟨by omega, by omega⟩ ⟨by omega, by omega⟩
      have hpm := side_mul hRR.out.1.1 hRR.out.1.2.1
      rw [Int.mul_comm r.w (y + k)] at hpl
      obtain ⟨q, hqq⟩ : ∃ q, (y + k) * r.w = q := ⟨_, rfl⟩
      rw [hqq] at hpl
      have hwy : IntKind.i64.wrap (y + k) = y + k := IntWalk.i64_in _ (by omega)
      have hwq : IntKind.i64.wrap q = q := IntWalk.i64_in _ (by have := hRR.out.1.1; have := hRR.out.1.2.1; omega)
      obtain ⟨F, hF⟩ : ∃ F : Nat, q + x = F := ⟨(q + x).toNat, by omega⟩
      have hwF : IntKind.i64.wrap (F : Int) = F := IntWalk.i64_in _ (by omega)
      obtain ⟨hfl, hpc⟩ := row_piece hRR.out.2.1 hlt (by rw [hqq]; exact hF)
      have hFc := hRR.out.2.2
      obtain ⟨G, hG⟩ : ∃ G, F + U = G := ⟨_, rfl⟩
      have hFU : (F : Int) + (U : Int) = (G : Int) := by omega
      have hwU : IntKind.i64.wrap (G : Int) = (G : Int) := IntWalk.i64_in _ (by omega)
      have hGc : (G : Int) ≤ (c : Int) := by omega
      have hFG : F ≤ G := by omega
      have hcF : ¬ c = F := by omega
      have hGF : G - F = U := by omega
      have HPC := Lib.hid hpc
      obtain ⟨z0, z1, z2⟩ := Box.three (hk1.out.below hm.out.2.2.2 hk1.out.lt)
      obtain ⟨y0, y1, y2⟩ := Box.three hm.out.1
      clear hpl hpm hpc
      go_wp2_with fail
      go_still_tail 9, (by kernel_rfl)
      change wpList _ _ _ _ _ wr.drew
      have hl0 := cropTo_len r x y U k 0
      obtain ⟨L, hL⟩ : ∃ L, cropTo r x y U k 0 = L := ⟨_, rfl⟩
      rw [hL] at hl0
      have hpa := RdV.part (w := wr.drew) (B := w.heap.size) (hq.out.below (below_drewN (hk3.out.trans (hm.out.2.2.2.mono hk3.out.size)) 1)) F U hfl
      rw [HPC.out] at hpa
      have hlen2 : ((List.range U).map (fun a : Nat => cAt r (x + a) (y + k))).length = U := by simp
      obtain ⟨M, hM⟩ : ∃ M, (List.range U).map (fun a : Nat => cAt r (x + a) (y + k)) = M := ⟨_, rfl⟩
      rw [hM] at hpa hlen2
      have hfit : L.length + U ≤ N := by
        have h1 := Nat.mul_le_mul_right U (show k + 1 ≤ V by omega)
        have h2 := hUV.out.2
        rw [Nat.succ_mul] at h1
        rw [Nat.mul_comm] at h2
        omega
      replace hm := Lib.hid (hL ▸ hm.out)
      have hown := hm.out.2.1.drew
      have hLM := Lib.hid (show cropTo r x y U (k + 1) 0 = L ++ M by rw [← cropTo_whole, hL, hM])
      rw [hL] at y2 ⊢
      clear hl0 hL hM HPC
      have hl3 := Lib.hid hlen2
      clear hlen2
      go_wp2_with (at_builtin; refine wpList_append_fits _ rfl _ _ 22 rfl w1.heap.size 41 i0 4 Tryd.underlying22 hi hz1 w1.heap.size L.length N (rowCells L) rfl hown ⟨b, o + F * 4, none⟩ U (c - F) (rowCells M) rfl (by rw [rowCells_length, hl3.out, Nat.mul_comm]) hpa (rowCells_one M) hfit ?_; intro w4 hown' hgrow; rw [← hl3.out] at hown'; obtain ⟨r0, r1, r2⟩ := hm.out.step ⟨hgrow.os, hgrow.tape, hgrow.output, hgrow.size, hgrow.block⟩ hown'; rw [hl3.out] at r2; replace r2 := Lib.hid r2; clear hown' hgrow)
      go_roundg (V - (k + 1))
      case measure => omega
      case rel => exact ⟨k + 1, by simp, by omega, by rw [hLM.out]; exact r2.out⟩
    · obtain rfl : k = V := by omega
      have HB := Lib.hid (hm.out.2.2.2)
      obtain ⟨y0, y1, y2⟩ := Box.three hm.out.1
      have hz := hk2.out.below HB.out hk2.out.lt
      obtain ⟨q0, q1, q2⟩ := Box.three hz
      have f0 := hz.frozen 0
      have f1 := hz.frozen 1
      have f2 := hz.frozen 2
      have hl1 : (cropTo r x y U k 0).length = N := by rw [cropTo_len, Nat.add_zero, Nat.mul_comm]; exact hUV.out.2
      rw [hl1] at y2
      have HZ := Lib.hid (And.intro hz hl1)
      clear hz hl1
      go_wp2_with fail
      obtain ⟨X, hX, ⟨u0, u1, u2⟩, bX, kX⟩ := ras_stored HZ.out.1 (.int .i64 (U : Int)) (.int .i64 (k : Int)) (.slice (some ⟨w1.heap.size, 0, none⟩) N N)
      rw [hX]
      have hB2 := hk3.out.trans ((HB.out.mono hk3.out.size).trans (bX w.heap.size (by omega)))
      refine bodyPost_ret (by simp [results, Tryd.results15, go_sem, u0, u1, u2]; rfl) rfl ⟨⟨some ⟨w1.heap.size, 0, none⟩, N, ?_, ?_⟩, hB2⟩
      · simp [HZ.out.2]
      · have h := hm.out.handed (R := w.heap.size + 1) (by have := hk2.out.lt; omega) (.int .i64 (U : Int)) (.int .i64 (k : Int)) (.slice (some ⟨w1.heap.size, 0, none⟩) N N)
        rw [hX] at h
        exact h
theorem crop_iff {r : Ras} {x y u v : Int} : CropOk r x y u v ↔ RMay r ∧ Within x u r.w ∧ Within y v r.h := by
  unfold CropOk Within
  constructor
  · rintro ⟨hm, h1, h2, h3, h4, h5, h6⟩
    exact ⟨hm, ⟨by omega, by omega, by omega⟩, by omega, by omega, by omega⟩
  · rintro ⟨hm, h1, h2⟩
    have := hm.1
    have := hm.2.1
    exact ⟨hm, ⟨by omega, by omega⟩, ⟨by omega, by omega⟩, ⟨by omega, by omega⟩, ⟨by omega, by omega⟩, by omega, by omega⟩

set_option maxRecDepth 10000 in
set_option maxHeartbeats 6400000 in
theorem pam_CropNo (r : Ras) (p : Option Addr) (c : Nat) (x y u v : Int) (hR' : RasOk r) (hx : -9223372036854775808 ≤ x ∧ x ≤ 9223372036854775807) (hy : -9223372036854775808 ≤ y ∧ y ≤ 9223372036854775807) (h : ¬ CropOk r x y u v) (w : World) :
    Calls Tryd.prog 15 #[rasV r p c, .int .i64 x, .int .i64 y, .int .i64 u, .int .i64 v] w fun e w' => e = .returned (.tuple #[rasV ras0 none 0, .int .i64 2]) ∧ Below w.heap.size w w' := by
  rw [crop_iff] at h
  have cM := fun V => pam_May r p c hR' V
  obtain ⟨W, hW, HK⟩ : ∃ W, (w.alloc (.cells #[.int .i64 r.w, .int .i64 r.h, .slice p r.pix.length c] 24)).alloc (.cells #[.int .i64 0, .int .i64 0, .slice none 0 0] 24) = W ∧ Hid ((Box W w.heap.size 24 [.int .i64 r.w, .int .i64 r.h, .slice p r.pix.length c] ∧ Box W (w.heap.size + 1) 24 [.int .i64 0, .int .i64 0, .slice none 0 0]) ∧ Below w.heap.size w W) :=
    ⟨_, rfl, Lib.hid ⟨⟨(Box.new w _ [.int .i64 r.w, .int .i64 r.h, .slice p r.pix.length c]).alloc _, Box.at_new _ _ [.int .i64 0, .int .i64 0, .slice none 0 0] (by simp)⟩, ((Below.refl _ _).alloc (Nat.le_refl _) _).alloc (by simp) _⟩⟩
  replace hW := Lib.hid hW
  unfold rasV ras0 at *
  clear hR'
  by_cases hm : RMay r
  · rw [show mayR r = true by simp [mayR, hm]] at cM
    replace cM := Lib.hid cM
    have cX := Lib.hid (fun V => pam_within x u r.w hx hm.1 V)
    have cY := Lib.hid (fun V => pam_within y v r.h hy hm.2.1 V)
    clear hx hy
    by_cases h1 : Within x u r.w
    · have h2 : ¬ Within y v r.h := fun h2 => h ⟨hm, h1, h2⟩
      rw [show withinB x u r.w = true from decide_eq_true h1] at cX
      rw [show withinB y v r.h = false from decide_eq_false h2] at cY
      clear h h1 h2 hm
      go_enter Tryd.func15, Tryd.ntmps15
      go_wp2_with first
        | (go_at_call 17; rw [hW.out]; with_reducible refine Calls.mono (cM.out _) ?_; rintro e w1 ⟨rfl, b1⟩
           obtain ⟨z0, z1, z2⟩ := Box.three (HK.out.1.1.below b1 HK.out.1.1.lt)
           have hk2 := HK.out.1.2.below b1 HK.out.1.2.lt
           obtain ⟨q0, q1, q2⟩ := Box.three hk2
           have f0 := hk2.frozen 0
           have f1 := hk2.frozen 1
           have f2 := hk2.frozen 2)
        | (go_at_call 26; with_reducible refine Calls.mono (cX.out _) ?_; rintro e w3 ⟨rfl, rfl⟩)
        | (go_at_call 26; with_reducible refine Calls.mono (cY.out _) ?_; rintro e w3 ⟨rfl, rfl⟩)
      obtain ⟨S, hS, ⟨u0, u1, u2⟩, hb⟩ := hk2.stored3 (.int .i64 0) (.int .i64 0) (.slice none 0 0)
      rw [hS]
      have hB2 := HK.out.2.trans ((b1.mono HK.out.2.size).trans (hb w.heap.size (by omega)))
      exact bodyPost_ret (by simp [results, Tryd.results15, go_sem, u0, u1, u2]) rfl ⟨rfl, hB2⟩
    · rw [show withinB x u r.w = false from decide_eq_false h1] at cX
      clear h h1 hm cY
      go_enter Tryd.func15, Tryd.ntmps15
      go_wp2_with first
        | (go_at_call 17; rw [hW.out]; with_reducible refine Calls.mono (cM.out _) ?_; rintro e w1 ⟨rfl, b1⟩
           obtain ⟨z0, z1, z2⟩ := Box.three (HK.out.1.1.below b1 HK.out.1.1.lt)
           have hk2 := HK.out.1.2.below b1 HK.out.1.2.lt
           obtain ⟨q0, q1, q2⟩ := Box.three hk2
           have f0 := hk2.frozen 0
           have f1 := hk2.frozen 1
           have f2 := hk2.frozen 2)
        | (go_at_call 26; with_reducible refine Calls.mono (cX.out _) ?_; rintro e w3 ⟨rfl, rfl⟩)
      obtain ⟨S, hS, ⟨u0, u1, u2⟩, hb⟩ := hk2.stored3 (.int .i64 0) (.int .i64 0) (.slice none 0 0)
      rw [hS]
      have hB2 := HK.out.2.trans ((b1.mono HK.out.2.size).trans (hb w.heap.size (by omega)))
      exact bodyPost_ret (by simp [results, Tryd.results15, go_sem, u0, u1, u2]) rfl ⟨rfl, hB2⟩
  · rw [show mayR r = false by simp [mayR, hm]] at cM
    replace cM := Lib.hid cM
    clear h hm hx hy
    go_enter Tryd.func15, Tryd.ntmps15
    go_wp2_with first
      | (go_at_call 17; rw [hW.out]; with_reducible refine Calls.mono (cM.out _) ?_; rintro e w1 ⟨rfl, b1⟩
         obtain ⟨z0, z1, z2⟩ := Box.three (HK.out.1.1.below b1 HK.out.1.1.lt)
         have hk2 := HK.out.1.2.below b1 HK.out.1.2.lt
         obtain ⟨q0, q1, q2⟩ := Box.three hk2
         have f0 := hk2.frozen 0
         have f1 := hk2.frozen 1
         have f2 := hk2.frozen 2)
    obtain ⟨S, hS, ⟨u0, u1, u2⟩, hb⟩ := hk2.stored3 (.int .i64 0) (.int .i64 0) (.slice none 0 0)
    rw [hS]
    have hB2 := HK.out.2.trans ((b1.mono HK.out.2.size).trans (hb w.heap.size (by omega)))
    exact bodyPost_ret (by simp [results, Tryd.results15, go_sem, u0, u1, u2]) rfl ⟨rfl, hB2⟩

theorem pam_Crop (r : Ras) (p : Option Addr) (c : Nat) (hpc : r.pix.length ≤ c) (x y u v : Int) (hR : RasOk r) (hx : -9223372036854775808 ≤ x ∧ x ≤ 9223372036854775807) (hy : -9223372036854775808 ≤ y ∧ y ≤ 9223372036854775807) (w : World) (hq : RdV w w.heap.size p (rowCells r.pix)) :
    Calls Tryd.prog 15 #[rasV r p c, .int .i64 x, .int .i64 y, .int .i64 u, .int .i64 v] w fun e w' => (∃ p c, e = .returned (.tuple #[rasV (cropR r x y u v) p c, .int .i64 (cropE r x y u v)]) ∧ RdV w' w'.heap.size p (rowCells (cropR r x y u v).pix)) ∧ Below w.heap.size w w' := by
  unfold cropR cropE
  by_cases h : CropOk r x y u v
  · rw [if_pos h, if_pos h]
    exact pam_CropOk r p c hpc x y u v h w hq
  · rw [if_neg h, if_neg h]
    refine Calls.mono (pam_CropNo r p c x y u v hR hx hy h w) ?_
    rintro e w' ⟨rfl, hb⟩
    exact ⟨⟨none, 0, rfl, RdV.nil _ _ _⟩, hb⟩
end Go.Proofs.YtchfbpgbojnakaaDoor
