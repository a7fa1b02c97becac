/- Whole numbers: what Text answers. -/
import Derived.Test.YtkmgmppmhgoadaaDoorWhG
import Derived.Test.YtkmgmppmhgoadaaDoorTxtE
import Derived.Test.YtkmgmppmhgoadaaDoorTxtF
namespace Go.Proofs.YtkmgmppmhgoadaaDoor
open Go.RowKit Num

/-- a whole number's text -/
def wtext (N : Int) : List UInt8 := if N < 0 then 45 :: Lib.decDigits N.natAbs else Lib.decDigits N.natAbs

set_option maxRecDepth 10000 in
set_option maxHeartbeats 1600000 in
theorem whole_textAbove (t : Bool) (a : List Nat) (A : Option Addr) (ca : Nat) (w : World) (h : Rd w (fun g => g < w.heap.size) .u32 A a) (hl : a.length ≤ 2097152) (hc : a.length ≤ ca) (ha : Dg 4294967296 a) (htab : Tab w) :
    Calls Tryd.prog 61 #[.agg #[.bool t, .slice A a.length ca]] w fun e w' => e = .returned (.string ⟨(Lib.decDigits (val 4294967296 a)).toArray⟩) ∧ Below w.heap.size w w' := by
  have B0 := below_new w (.cells #[.bool t, .slice A a.length ca] 53)
  have cT := nat_Text a A ca _ _ (h.on B0) (fun b hb => hb) hl hc ha (htab.on B0)
  obtain ⟨s, hs⟩ : ∃ s, (⟨(Lib.decDigits (val 4294967296 a)).toArray⟩ : ByteArray) = s := ⟨_, rfl⟩
  rw [hs] at cT ⊢
  clear hs
  go_enter Tryd.func61, Tryd.ntmps61
  go_wp2_with fail
  refine cT.mono ?_
  rintro e w1 ⟨rfl, b1⟩
  clear cT
  go_wp2_with fail
  go_ret
  exact ⟨rfl, B0.trans (b1.mono B0.size)⟩

set_option maxRecDepth 10000 in
set_option maxHeartbeats 1600000 in
theorem whole_textBelow (t : Bool) (a : List Nat) (A : Option Addr) (ca : Nat) (w : World) (h : Rd w (fun g => g < w.heap.size) .u32 A a) (hl : a.length ≤ 2097152) (hc : a.length ≤ ca) (ha : Dg 4294967296 a) (htab : Tab w) :
    Calls Tryd.prog 62 #[.agg #[.bool t, .slice A a.length ca]] w fun e w' => e = .returned (.string ⟨(45 :: Lib.decDigits (val 4294967296 a)).toArray⟩) ∧ Below w.heap.size w w' := by
  have B0 := below_new w (.cells #[.bool t, .slice A a.length ca] 53)
  have cT := nat_Text a A ca _ _ (h.on B0) (fun b hb => hb) hl hc ha (htab.on B0)
  have hlen := dec_len_words (val_lt ha)
  obtain ⟨ds, hds⟩ : ∃ ds, Lib.decDigits (val 4294967296 a) = ds := ⟨_, rfl⟩
  rw [hds] at hlen
  have hl2 : 1 + ds.length ≤ 9223372036854775807 := by omega
  clear hlen
  rw [hds] at cT ⊢
  clear hds
  go_enter Tryd.func62, Tryd.ntmps62
  go_wp2_with fail
  refine cT.mono ?_
  rintro e w1 ⟨rfl, b1⟩
  clear cT
  go_wp2_with fail
  go_ret
  exact ⟨by rw [app_text (l := 45 :: ds) (by simp)]; rfl, B0.trans (b1.mono B0.size)⟩

set_option maxRecDepth 10000 in
set_option maxHeartbeats 1600000 in
theorem whole_Text (n1 : Bool) (a : List Nat) (A : Option Addr) (ca : Nat) (w : World) (h : Rd w (fun g => g < w.heap.size) .u32 A a) (hl : a.length ≤ 2097152) (hc : a.length ≤ ca) (ha : Dg 4294967296 a) (htab : Tab w) :
    Calls Tryd.prog 32 #[.agg #[.bool n1, .slice A a.length ca]] w fun e w' => e = .returned (.string ⟨(wtext (wv n1 a)).toArray⟩) ∧ Below w.heap.size w w' := by
  have B0 := below_new w (.cells #[.bool n1, .slice A a.length ca] 24)
  have cH := whole_hold n1 a A ca _ (h.on B0) (by omega) hc ha
  by_cases hneg : wv n1 a < 0
  · have cI : ∀ W, Below w.heap.size w W → Calls Tryd.prog 62 #[.agg #[.bool true, .slice A a.length ca]] W fun e w' => e = .returned (.string ⟨(45 :: Lib.decDigits (val 4294967296 a)).toArray⟩) ∧ Below W.heap.size W w' := fun W hW =>
      whole_textBelow true a A ca W (h.on hW) hl hc ha (htab.on hW)
    rw [decide_eq_true hneg] at cH
    have HI := Lib.hid cI
    have HX := Lib.hid (show wtext (wv n1 a) = 45 :: Lib.decDigits (val 4294967296 a) by unfold wtext; rw [if_pos hneg, wv_abs])
    rw [HX.out]
    clear cI hneg
    go_enter Tryd.func32, Tryd.ntmps32
    go_wp2_with fail
    refine cH.mono ?_
    rintro e w1 ⟨rfl, b1⟩
    clear cH
    go_wp2_with fail
    have B1 := B0.trans (b1.mono B0.size)
    have B2 := B1.trans ((below_new w1 (.cells #[.bool true, .slice A a.length ca] 53)).mono B1.size)
    refine (HI.out _ B2).mono ?_
    rintro e w2 ⟨rfl, b2⟩
    go_wp2_with fail
    go_ret
    exact ⟨rfl, B2.trans (b2.mono B2.size)⟩
  · have cI : ∀ W, Below w.heap.size w W → Calls Tryd.prog 61 #[.agg #[.bool false, .slice A a.length ca]] W fun e w' => e = .returned (.string ⟨(Lib.decDigits (val 4294967296 a)).toArray⟩) ∧ Below W.heap.size W w' := fun W hW =>
      whole_textAbove false a A ca W (h.on hW) hl hc ha (htab.on hW)
    rw [decide_eq_false hneg] at cH
    have HI := Lib.hid cI
    have HX := Lib.hid (show wtext (wv n1 a) = Lib.decDigits (val 4294967296 a) by unfold wtext; rw [if_neg hneg, wv_abs])
    rw [HX.out]
    clear cI hneg
    go_enter Tryd.func32, Tryd.ntmps32
    go_wp2_with fail
    refine cH.mono ?_
    rintro e w1 ⟨rfl, b1⟩
    clear cH
    go_wp2_with fail
    have B1 := B0.trans (b1.mono B0.size)
    have B2 := B1.trans ((below_new w1 (.cells #[.bool false, .slice A a.length ca] 53)).mono B1.size)
    refine (HI.out _ B2).mono ?_
    rintro e w2 ⟨rfl, b2⟩
    go_wp2_with fail
    go_ret
    exact ⟨rfl, B2.trans (b2.mono B2.size)⟩
end Go.Proofs.YtkmgmppmhgoadaaDoor
