/- Whole numbers: what Int answers. -/
import Derived.Test.YtkmgmppmhgoadaaDoorWhF
namespace Go.Proofs.YtkmgmppmhgoadaaDoor
open Go.RowKit Num

/-- is it an int? -/
def isInt (N : Int) : Bool := decide (-9223372036854775808 ≤ N) && decide (N ≤ 9223372036854775807)
def intOr0 (N : Int) : Int := if isInt N then N else 0
theorem isInt_yes {N : Int} (h : -9223372036854775808 ≤ N) (h' : N ≤ 9223372036854775807) : isInt N = true ∧ intOr0 N = N := by
  have e : isInt N = true := by simp [isInt, h, h']
  exact ⟨e, by rw [intOr0, e]; rfl⟩
theorem isInt_no {N : Int} (h : N < -9223372036854775808 ∨ 9223372036854775807 < N) : isInt N = false ∧ intOr0 N = 0 := by
  have e : isInt N = false := by
    unfold isInt
    rcases h with h | h
    · rw [decide_eq_false (by omega)]; rfl
    · rw [decide_eq_false (p := N ≤ 9223372036854775807) (by omega)]; simp
  exact ⟨e, by rw [intOr0, e]; rfl⟩
theorem wrap_in (m : Nat) (h : m ≤ 9223372036854775807) : IntKind.i64.wrap (m : Int) = m := IntWalk.i64_in _ (by omega)
theorem wrap_neg (m : Nat) (h : m ≤ 9223372036854775808) : IntKind.i64.wrap (IntKind.u64.wrap (-(m : Int))) = -(m : Int) := by
  rw [IntKind.wrap_i64]
  simp [IntKind.wrap, IntKind.bits, IntKind.signed]
  omega
/-- what Int hands back -/
def IntIs (N : Int) (w : World) (e : Ending) (w' : World) : Prop := e = .returned (.tuple #[.int .i64 (intOr0 N), .bool (isInt N)]) ∧ Below w.heap.size w w'
theorem intIs_yes {N : Int} {w w' : World} (h : -9223372036854775808 ≤ N) (h' : N ≤ 9223372036854775807) (hb : Below w.heap.size w w') : IntIs N w (.returned (.tuple #[.int .i64 N, .bool true])) w' := by
  unfold IntIs
  rw [(isInt_yes h h').1, (isInt_yes h h').2]
  exact ⟨rfl, hb⟩
theorem intIs_no {N : Int} {w w' : World} (h : N < -9223372036854775808 ∨ 9223372036854775807 < N) (hb : Below w.heap.size w w') : IntIs N w (.returned (.tuple #[.int .i64 0, .bool false])) w' := by
  unfold IntIs
  rw [(isInt_no h).1, (isInt_no h).2]
  exact ⟨rfl, hb⟩

set_option maxRecDepth 10000 in
set_option maxHeartbeats 1600000 in
theorem whole_intAbove (t : Bool) (a : List Nat) (A : Option Addr) (ca : Nat) (w : World) (h : Rd w (fun g => g < w.heap.size) .u32 A a) (hl : a.length ≤ 1073741824) (hc : a.length ≤ ca) (ha : Dg 4294967296 a) :
    Calls Tryd.prog 52 #[.agg #[.bool t, .slice A a.length ca]] w (IntIs ((val 4294967296 a : Int)) w) := by
  have B0 := below_new w (.cells #[.bool t, .slice A a.length ca] 53)
  have cU := nat_Uint a A ca _ _ (h.on B0) (by omega) hc ha
  obtain ⟨v, hv⟩ : ∃ v, val 4294967296 a = v := ⟨_, rfl⟩
  rw [hv] at cU ⊢
  clear hv
  go_enter Tryd.func52, Tryd.ntmps52
  go_wp2_with fail
  refine cU.mono ?_
  rintro e w1 ⟨rfl, ⟨hlt, rfl⟩ | ⟨hge, rfl⟩⟩
  · clear cU
    by_cases hs : v ≤ 9223372036854775807
    · have hw := wrap_in v hs
      go_wp2_with fail
      go_ret2
      exact intIs_yes (by omega) (by omega) B0
    · go_wp2_with fail
      go_ret2
      exact intIs_no (by omega) B0
  · clear cU
    have HG := Lib.hid hge
    clear hge
    go_wp2_with fail
    go_ret2
    exact intIs_no (by have := HG.out; omega) B0

set_option maxRecDepth 10000 in
set_option maxHeartbeats 1600000 in
theorem whole_intBelow (t : Bool) (a : List Nat) (A : Option Addr) (ca : Nat) (w : World) (h : Rd w (fun g => g < w.heap.size) .u32 A a) (hl : a.length ≤ 1073741824) (hc : a.length ≤ ca) (ha : Dg 4294967296 a) :
    Calls Tryd.prog 53 #[.agg #[.bool t, .slice A a.length ca]] w (IntIs (-(val 4294967296 a : Int)) w) := by
  have B0 := below_new w (.cells #[.bool t, .slice A a.length ca] 53)
  have cU := nat_Uint a A ca _ _ (h.on B0) (by omega) hc ha
  obtain ⟨v, hv⟩ : ∃ v, val 4294967296 a = v := ⟨_, rfl⟩
  rw [hv] at cU ⊢
  clear hv
  go_enter Tryd.func53, Tryd.ntmps53
  go_wp2_with fail
  refine cU.mono ?_
  rintro e w1 ⟨rfl, ⟨hlt, rfl⟩ | ⟨hge, rfl⟩⟩
  · clear cU
    by_cases hs : v ≤ 9223372036854775808
    · have hw := wrap_neg v hs
      go_wp2_with fail
      go_ret2
      exact intIs_yes (by omega) (by omega) B0
    · go_wp2_with fail
      go_ret2
      exact intIs_no (by omega) B0
  · clear cU
    have HG := Lib.hid hge
    clear hge
    go_wp2_with fail
    go_ret2
    exact intIs_no (by have := HG.out; omega) B0

theorem wv_below {n1 : Bool} {a : List Nat} (h : wv n1 a < 0) : wv n1 a = -(val 4294967296 a : Int) := by
  have := wv_abs n1 a; omega
theorem wv_above {n1 : Bool} {a : List Nat} (h : ¬ wv n1 a < 0) : wv n1 a = (val 4294967296 a : Int) := by
  have := wv_abs n1 a; omega

set_option maxRecDepth 10000 in
set_option maxHeartbeats 1600000 in
theorem whole_Int (n1 : Bool) (a : List Nat) (A : Option Addr) (ca : Nat) (w : World) (h : Rd w (fun g => g < w.heap.size) .u32 A a) (hl : a.length ≤ 1073741824) (hc : a.length ≤ ca) (ha : Dg 4294967296 a) :
    Calls Tryd.prog 24 #[.agg #[.bool n1, .slice A a.length ca]] w (IntIs (wv n1 a) w) := by
  have B0 := below_new w (.cells #[.bool n1, .slice A a.length ca] 24)
  have cH := whole_hold n1 a A ca _ (h.on B0) hl hc ha
  by_cases hneg : wv n1 a < 0
  · have cI : ∀ W, Below w.heap.size w W → Calls Tryd.prog 53 #[.agg #[.bool true, .slice A a.length ca]] W (IntIs (wv n1 a) W) := fun W hW => by
      rw [wv_below hneg]
      exact whole_intBelow true a A ca W (h.on hW) hl hc ha
    rw [decide_eq_true hneg] at cH
    have HI := Lib.hid cI
    clear cI hneg
    go_enter Tryd.func24, Tryd.ntmps24
    go_wp2_with fail
    refine cH.mono ?_
    rintro e w1 ⟨rfl, b1⟩
    clear cH
    go_wp2_with fail
    have B1 := B0.trans (b1.mono B0.size)
    have B2 := B1.trans ((below_new w1 (.cells #[.bool true, .slice A a.length ca] 53)).mono B1.size)
    refine (HI.out _ B2).mono ?_
    rintro e w2 ⟨rfl, b2⟩
    go_wp2_with fail
    go_ret2
    exact ⟨rfl, B2.trans (b2.mono B2.size)⟩
  · have cI : ∀ W, Below w.heap.size w W → Calls Tryd.prog 52 #[.agg #[.bool false, .slice A a.length ca]] W (IntIs (wv n1 a) W) := fun W hW => by
      rw [wv_above hneg]
      exact whole_intAbove false a A ca W (h.on hW) hl hc ha
    rw [decide_eq_false hneg] at cH
    have HI := Lib.hid cI
    clear cI hneg
    go_enter Tryd.func24, Tryd.ntmps24
    go_wp2_with fail
    refine cH.mono ?_
    rintro e w1 ⟨rfl, b1⟩
    clear cH
    go_wp2_with fail
    have B1 := B0.trans (b1.mono B0.size)
    have B2 := B1.trans ((below_new w1 (.cells #[.bool false, .slice A a.length ca] 53)).mono B1.size)
    refine (HI.out _ B2).mono ?_
    rintro e w2 ⟨rfl, b2⟩
    go_wp2_with fail
    go_ret2
    exact ⟨rfl, B2.trans (b2.mono B2.size)⟩
end Go.Proofs.YtkmgmppmhgoadaaDoor
