/- Whole numbers: what Of, Int, Text answer. -/
import Derived.Test.YtokaapljlpngdaaGreatDoorZWhX
import Derived.Test.YtokaapljlpngdaaGreatDoorZTxtF
import Derived.Test.YtokaapljlpngdaaGreatDoorZTxtE
namespace Go.Proofs.YtokaapljlpngdaaGreatDoor
open Go.RowKit Num

theorem wrap_back (m : Nat) (h : m < 18446744073709551616) : IntKind.u64.wrap (-IntKind.u64.wrap (-(m : Int))) = m := by
  simp [IntKind.wrap, IntKind.bits, IntKind.signed]
  omega

set_option maxRecDepth 10000 in
set_option maxHeartbeats 1600000 in
theorem whole_Of (n : Int) (hn1 : -9223372036854775808 ≤ n) (hn2 : n ≤ 9223372036854775807) (w : World) :
    Calls Tryz.prog 62 #[.int .i64 n] w (GivesW n w) := by
  by_cases hneg : n < 0
  · obtain ⟨m, rfl⟩ : ∃ m : Nat, n = -(m : Int) := ⟨(-n).toNat, by omega⟩
    go_enter Tryz.func62, Tryz.ntmps62
    go_wp2_with fail
    rw [wrap_back m (by omega)]
    have B0 := below_new w (.cells #[.bool false, .slice none 0 0] 27)
    refine (nat_Of m (by omega) _).mono ?_
    rintro e w1 ⟨A1, xs, c1, rfl, hc1, hn1, hv1, hr1, hb1⟩
    have HN := Lib.hid hn1
    have HV := Lib.hid (show wv true xs = -(m : Int) by rw [wv_true, hv1])
    clear hn1 hv1
    go_wp2_with fail
    refine (whole_own true xs A1 c1 (-(m : Int)) _ HN.out HV.out).mono ?_
    rintro e w2 ⟨rfl, hb2⟩
    have b2 := hb1.trans (hb2.mono hb1.size)
    obtain ⟨f0, f1, f2, f3⟩ := new_whole w b2
    obtain ⟨d, hd⟩ : ∃ d, decide (-(m : Int) < 0) = d := ⟨_, rfl⟩
    have HD := Lib.hid hd
    rw [hd]
    clear hd
    go_wp2_with fail
    obtain ⟨r0, r1, r2, r3⟩ := stored_whole f0 (.bool d) (.slice A1 xs.length c1)
    refine bodyPost_ret (v := .agg #[.bool d, .slice A1 xs.length c1]) (by simp [results, Tryz.results62, go_sem, r0, r1]) rfl ?_
    rw [← HD.out]
    exact gives_stored f0 (B0.trans (b2.mono B0.size)) (Nat.le_refl _) hc1 HN.out (abs_of HV.out) (hr1.on hb2) _ _
  · obtain ⟨m, rfl⟩ : ∃ m : Nat, n = (m : Int) := ⟨n.toNat, by omega⟩
    go_enter Tryz.func62, Tryz.ntmps62
    go_wp2_with fail
    have B0 := below_new w (.cells #[.bool false, .slice none 0 0] 27)
    refine (nat_Of m (by omega) _).mono ?_
    rintro e w1 ⟨A1, xs, c1, rfl, hc1, hn1, hv1, hr1, hb1⟩
    have HN := Lib.hid hn1
    have HV := Lib.hid (show wv false xs = (m : Int) by rw [wv_false, hv1])
    clear hn1 hv1
    go_wp2_with fail
    refine (whole_own false xs A1 c1 (m : Int) _ HN.out HV.out).mono ?_
    rintro e w2 ⟨rfl, hb2⟩
    have b2 := hb1.trans (hb2.mono hb1.size)
    obtain ⟨f0, f1, f2, f3⟩ := new_whole w b2
    obtain ⟨d, hd⟩ : ∃ d, decide ((m : Int) < 0) = d := ⟨_, rfl⟩
    have HD := Lib.hid hd
    rw [hd]
    clear hd
    go_wp2_with fail
    obtain ⟨r0, r1, r2, r3⟩ := stored_whole f0 (.bool d) (.slice A1 xs.length c1)
    refine bodyPost_ret (v := .agg #[.bool d, .slice A1 xs.length c1]) (by simp [results, Tryz.results62, go_sem, r0, r1]) rfl ?_
    rw [← HD.out]
    exact gives_stored f0 (B0.trans (b2.mono B0.size)) (Nat.le_refl _) hc1 HN.out (abs_of HV.out) (hr1.on hb2) _ _
end Go.Proofs.YtokaapljlpngdaaGreatDoor
/- Whole numbers: what Int answers. -/

namespace Go.Proofs.YtokaapljlpngdaaGreatDoor
open Go.RowKit Num

/-- is it an int? -/
def isInt (N : Int) : Bool := decide (-9223372036854775808 ≤ N) && decide (N ≤ 9223372036854775807)
def intOr0 (N : Int) : Int := if isInt N then N else 0
theorem isInt_yes {N : Int} (h : -9223372036854775808 ≤ N) (h' : N ≤ 9223372036854775807) : isInt N = true ∧ intOr0 N = N := by
  have e : isInt N = true := by simp [isInt, h, h']
  exact ⟨e, by rw [intOr0, e]; rfl⟩
theorem isInt_no {N : Int} (h : N < -9223372036854775808 ∨ 9223372036854775807 < N) : isInt N = false ∧ intOr0 N = 0 := by
  have e : isInt N = false := by
    unfold isInt
    rcases h with h | h
    · rw [decide_eq_false (by omega)]; rfl
    · rw [decide_eq_false (p := N ≤ 9223372036854775807) (by omega)]; simp
  exact ⟨e, by rw [intOr0, e]; rfl⟩
theorem wrap_in (m : Nat) (h : m ≤ 9223372036854775807) : IntKind.i64.wrap (m : Int) = m := IntWalk.i64_in _ (by omega)
theorem wrap_neg (m : Nat) (h : m ≤ 9223372036854775808) : IntKind.i64.wrap (IntKind.u64.wrap (-(m : Int))) = -(m : Int) := by
  rw [IntKind.wrap_i64]
  simp [IntKind.wrap, IntKind.bits, IntKind.signed]
  omega
/-- what Int hands back -/
def IntIs (N : Int) (w : World) (e : Ending) (w' : World) : Prop := e = .returned (.tuple #[.int .i64 (intOr0 N), .bool (isInt N)]) ∧ Below w.heap.size w w'
theorem intIs_yes {N : Int} {w w' : World} (h : -9223372036854775808 ≤ N) (h' : N ≤ 9223372036854775807) (hb : Below w.heap.size w w') : IntIs N w (.returned (.tuple #[.int .i64 N, .bool true])) w' := by
  unfold IntIs
  rw [(isInt_yes h h').1, (isInt_yes h h').2]
  exact ⟨rfl, hb⟩
theorem intIs_no {N : Int} {w w' : World} (h : N < -9223372036854775808 ∨ 9223372036854775807 < N) (hb : Below w.heap.size w w') : IntIs N w (.returned (.tuple #[.int .i64 0, .bool false])) w' := by
  unfold IntIs
  rw [(isInt_no h).1, (isInt_no h).2]
  exact ⟨rfl, hb⟩

theorem wv_below {n1 : Bool} {a : List Nat} (h : wv n1 a < 0) : wv n1 a = -(val 4294967296 a : Int) := by
  have := wv_abs n1 a; omega
theorem wv_above {n1 : Bool} {a : List Nat} (h : ¬ wv n1 a < 0) : wv n1 a = (val 4294967296 a : Int) := by
  have := wv_abs n1 a; omega

end Go.Proofs.YtokaapljlpngdaaGreatDoor
/- Whole numbers: what Text answers. -/

namespace Go.Proofs.YtokaapljlpngdaaGreatDoor
open Go.RowKit Num

/-- a whole number's text -/
def wtext (N : Int) : List UInt8 := if N < 0 then 45 :: Lib.decDigits N.natAbs else Lib.decDigits N.natAbs

set_option maxRecDepth 10000 in
set_option maxHeartbeats 1600000 in
theorem whole_textAbove (t : Bool) (a : List Nat) (A : Option Addr) (ca : Nat) (w : World) (h : Rd w (fun g => g < w.heap.size) .u32 A a) (hl : a.length ≤ 2097152) (hc : a.length ≤ ca) (ha : Dg 4294967296 a) (htab : Tab w) :
    Calls Tryz.prog 88 #[.agg #[.bool t, .slice A a.length ca]] w fun e w' => e = .returned (.string ⟨(Lib.decDigits (val 4294967296 a)).toArray⟩) ∧ Below w.heap.size w w' := by
  have B0 := below_new w (.cells #[.bool t, .slice A a.length ca] 97)
  have cT := nat_Text a A ca _ _ (h.on B0) (fun b hb => hb) hl hc ha (htab.on B0)
  obtain ⟨s, hs⟩ : ∃ s, (⟨(Lib.decDigits (val 4294967296 a)).toArray⟩ : ByteArray) = s := ⟨_, rfl⟩
  rw [hs] at cT ⊢
  clear hs
  go_enter Tryz.func88, Tryz.ntmps88
  go_wp2_with fail
  refine cT.mono ?_
  rintro e w1 ⟨rfl, b1⟩
  clear cT
  go_wp2_with fail
  go_ret
  exact ⟨rfl, B0.trans (b1.mono B0.size)⟩

set_option maxRecDepth 10000 in
set_option maxHeartbeats 1600000 in
theorem whole_textBelow (t : Bool) (a : List Nat) (A : Option Addr) (ca : Nat) (w : World) (h : Rd w (fun g => g < w.heap.size) .u32 A a) (hl : a.length ≤ 2097152) (hc : a.length ≤ ca) (ha : Dg 4294967296 a) (htab : Tab w) :
    Calls Tryz.prog 89 #[.agg #[.bool t, .slice A a.length ca]] w fun e w' => e = .returned (.string ⟨(45 :: Lib.decDigits (val 4294967296 a)).toArray⟩) ∧ Below w.heap.size w w' := by
  have B0 := below_new w (.cells #[.bool t, .slice A a.length ca] 97)
  have cT := nat_Text a A ca _ _ (h.on B0) (fun b hb => hb) hl hc ha (htab.on B0)
  have hlen := dec_len_words (val_lt ha)
  obtain ⟨ds, hds⟩ : ∃ ds, Lib.decDigits (val 4294967296 a) = ds := ⟨_, rfl⟩
  rw [hds] at hlen
  have hl2 : 1 + ds.length ≤ 9223372036854775807 := by omega
  clear hlen
  rw [hds] at cT ⊢
  clear hds
  go_enter Tryz.func89, Tryz.ntmps89
  go_wp2_with fail
  refine cT.mono ?_
  rintro e w1 ⟨rfl, b1⟩
  clear cT
  go_wp2_with fail
  go_ret
  exact ⟨by rw [app_text (l := 45 :: ds) (by simp)]; rfl, B0.trans (b1.mono B0.size)⟩

set_option maxRecDepth 10000 in
set_option maxHeartbeats 1600000 in
theorem whole_Text (n1 : Bool) (a : List Nat) (A : Option Addr) (ca : Nat) (w : World) (h : Rd w (fun g => g < w.heap.size) .u32 A a) (hl : a.length ≤ 2097152) (hc : a.length ≤ ca) (ha : Dg 4294967296 a) (htab : Tab w) :
    Calls Tryz.prog 60 #[.agg #[.bool n1, .slice A a.length ca]] w fun e w' => e = .returned (.string ⟨(wtext (wv n1 a)).toArray⟩) ∧ Below w.heap.size w w' := by
  have B0 := below_new w (.cells #[.bool n1, .slice A a.length ca] 27)
  have cH := whole_hold n1 a A ca _ (h.on B0) (by omega) hc ha
  by_cases hneg : wv n1 a < 0
  · have cI : ∀ W, Below w.heap.size w W → Calls Tryz.prog 89 #[.agg #[.bool true, .slice A a.length ca]] W fun e w' => e = .returned (.string ⟨(45 :: Lib.decDigits (val 4294967296 a)).toArray⟩) ∧ Below W.heap.size W w' := fun W hW =>
      whole_textBelow true a A ca W (h.on hW) hl hc ha (htab.on hW)
    rw [decide_eq_true hneg] at cH
    have HI := Lib.hid cI
    have HX := Lib.hid (show wtext (wv n1 a) = 45 :: Lib.decDigits (val 4294967296 a) by unfold wtext; rw [if_pos hneg, wv_abs])
    rw [HX.out]
    clear cI hneg
    go_enter Tryz.func60, Tryz.ntmps60
    go_wp2_with fail
    refine cH.mono ?_
    rintro e w1 ⟨rfl, b1⟩
    clear cH
    go_wp2_with fail
    have B1 := B0.trans (b1.mono B0.size)
    have B2 := B1.trans ((below_new w1 (.cells #[.bool true, .slice A a.length ca] 97)).mono B1.size)
    refine (HI.out _ B2).mono ?_
    rintro e w2 ⟨rfl, b2⟩
    go_wp2_with fail
    go_ret
    exact ⟨rfl, B2.trans (b2.mono B2.size)⟩
  · have cI : ∀ W, Below w.heap.size w W → Calls Tryz.prog 88 #[.agg #[.bool false, .slice A a.length ca]] W fun e w' => e = .returned (.string ⟨(Lib.decDigits (val 4294967296 a)).toArray⟩) ∧ Below W.heap.size W w' := fun W hW =>
      whole_textAbove false a A ca W (h.on hW) hl hc ha (htab.on hW)
    rw [decide_eq_false hneg] at cH
    have HI := Lib.hid cI
    have HX := Lib.hid (show wtext (wv n1 a) = Lib.decDigits (val 4294967296 a) by unfold wtext; rw [if_neg hneg, wv_abs])
    rw [HX.out]
    clear cI hneg
    go_enter Tryz.func60, Tryz.ntmps60
    go_wp2_with fail
    refine cH.mono ?_
    rintro e w1 ⟨rfl, b1⟩
    clear cH
    go_wp2_with fail
    have B1 := B0.trans (b1.mono B0.size)
    have B2 := B1.trans ((below_new w1 (.cells #[.bool false, .slice A a.length ca] 97)).mono B1.size)
    refine (HI.out _ B2).mono ?_
    rintro e w2 ⟨rfl, b2⟩
    go_wp2_with fail
    go_ret
    exact ⟨rfl, B2.trans (b2.mono B2.size)⟩
end Go.Proofs.YtokaapljlpngdaaGreatDoor
