/- Whole numbers, the document's own: what Text and Parse answer. -/
import Derived.Test.YtchfbpgbojnakaaDoorZLawF
import Derived.Test.YtchfbpgbojnakaaDoorZWhJ
namespace Go.Proofs.YtchfbpgbojnakaaDoor
open Go.RowKit Num

set_option maxRecDepth 10000 in
set_option maxHeartbeats 1600000 in
theorem ref2_Text (n1 : Bool) (a : List Nat) (A : Option Addr) (ca : Nat) (w : World) (h : Rd w (fun g => g < w.heap.size) .u32 A a) (hl : a.length ≤ 2097152) (ha : Dg 4294967296 a) :
    Calls Tryd.prog 35 #[.agg #[.bool n1, .slice A a.length ca]] w fun e w' => e = .returned (.string ⟨(wtext (wv n1 a)).toArray⟩) ∧ Below w.heap.size w w' := by
  have B0 := below_new w (.cells #[.bool n1, .slice A a.length ca] 68)
  have cG := ref2_Sign n1 a A ca _ (h.on B0) (by omega) ha
  have hlen := dec_len_words (val_lt ha)
  by_cases hneg : wv n1 a < 0
  · have HX := Lib.hid (show wtext (wv n1 a) = 45 :: Lib.decDigits (val 4294967296 a) by unfold wtext; rw [if_pos hneg, wv_abs])
    rw [HX.out]
    rw [show sgn (wv n1 a) = -1 by unfold sgn; rw [if_pos hneg]] at cG
    clear hneg
    go_enter Tryd.func35, Tryd.ntmps35
    go_wp2_with fail
    refine cG.mono ?_
    rintro e w1 ⟨rfl, b1⟩
    obtain ⟨k1, k2⟩ := box_cells b1
    have B1 := B0.trans (b1.mono B0.size)
    have cT := ref_Text a A ca w1 (h.on B1) hl ha
    obtain ⟨ds, hds⟩ : ∃ ds, Lib.decDigits (val 4294967296 a) = ds := ⟨_, rfl⟩
    have HDS := Lib.hid hds
    rw [hds] at cT hlen
    have hl2 : 1 + ds.length ≤ 9223372036854775807 := by omega
    clear cG hlen hds
    go_wp2_with fail
    refine cT.mono ?_
    rintro e w2 ⟨rfl, b2⟩
    clear cT
    go_wp2_with fail
    go_ret
    refine ⟨?_, B1.trans (b2.mono B1.size)⟩
    rw [HDS.out, app_text (l := 45 :: ds) (by simp)]; rfl
  · have HX := Lib.hid (show wtext (wv n1 a) = Lib.decDigits (val 4294967296 a) by unfold wtext; rw [if_neg hneg, wv_abs])
    rw [HX.out]
    obtain ⟨z, hz, hz0⟩ : ∃ z, sgn (wv n1 a) = z ∧ 0 ≤ z := ⟨_, rfl, by unfold sgn; rw [if_neg hneg]; split <;> omega⟩
    rw [hz] at cG
    clear hneg hz
    go_enter Tryd.func35, Tryd.ntmps35
    go_wp2_with fail
    refine cG.mono ?_
    rintro e w1 ⟨rfl, b1⟩
    obtain ⟨k1, k2⟩ := box_cells b1
    have B1 := B0.trans (b1.mono B0.size)
    have cT := ref_Text a A ca w1 (h.on B1) hl ha
    clear cG
    go_wp2_with fail
    refine cT.mono ?_
    rintro e w2 ⟨rfl, b2⟩
    clear cT
    go_wp2_with fail
    go_ret
    exact ⟨rfl, B1.trans (b2.mono B1.size)⟩

end Go.Proofs.YtchfbpgbojnakaaDoor
