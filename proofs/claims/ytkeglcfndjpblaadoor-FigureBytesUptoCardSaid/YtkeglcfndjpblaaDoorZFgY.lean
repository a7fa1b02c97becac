/- What a number's text looks like: the document's own. Written by gen/genfgd.py. -/
import Derived.Test.YtkeglcfndjpblaaDoorZTxtX
import Derived.Test.YtkeglcfndjpblaaDoorZLxV
import Derived.Lib.Hide
import Derived.Deep.LoopGhost
import Derived.BigQuiet
namespace Go.Proofs.YtkeglcfndjpblaaDoor
open Go.RowKit Num

/-- a sign or none, and a decimal number behind it; but nought takes no sign -/
def IsSig (bs : By) : Prop := bs ≠ [45, 48] ∧ IsDec (if bs.head? = some 45 then bs.drop 1 else bs)
/-- a yes or no that leaves the world as it was -/
def SaysIt (p : Prop) (w : World) (e : Ending) (w' : World) : Prop := (∃ d : Bool, e = .returned (.bool d) ∧ (d = true ↔ p)) ∧ w = w'
theorem isSig_no0 : ¬ IsSig [45, 48] := fun h => h.1 rfl
theorem isSig_minus {bs : By} (h : bs ≠ [45, 48]) (h2 : bs.head? = some 45) : IsSig bs ↔ IsDec (bs.drop 1) := by
  unfold IsSig
  rw [if_pos h2]
  exact ⟨fun h => h.2, fun k => ⟨h, k⟩⟩
theorem isSig_plain {bs : By} (h2 : bs.head? ≠ some 45) : IsSig bs ↔ IsDec bs := by
  unfold IsSig
  rw [if_neg h2]
  exact ⟨fun h => h.2, fun k => ⟨fun e => h2 (by rw [e]; rfl), k⟩⟩
theorem drop_data (t : ByteArray) (a : Nat) : (t.extract a t.size).data.toList = t.data.toList.drop a := by
  simp [ByteArray.data_extract]
  exact List.take_of_length_le (by simp)
theorem toList_data (t : ByteArray) : t.toList = t.data.toList := ByteArray.toList_eq t
theorem head_get (t : ByteArray) (h : 0 < t.size) : t.data.toList.head? = some t[0] := by
  have h3 : 0 < t.data.toList.length := by rw [str_len]; exact h
  rw [List.head?_eq_getElem?, List.getElem?_eq_getElem h3, str_get t 0 h]
theorem isEmpty_no {t : ByteArray} (h : 0 < t.size) : t.toList.isEmpty = false ∧ ¬ t.toList = [] := by
  have h3 : 0 < t.data.toList.length := by rw [str_len]; exact h
  rw [toList_data]
  cases hl : t.data.toList with
  | nil => rw [hl] at h3; simp at h3
  | cons c cs => simp
theorem not_dec_at {u : ByteArray} {j : Nat} (hj : j < u.size) (h : ¬ (48 ≤ u[j].toNat ∧ u[j].toNat ≤ 57)) : ¬ IsDec u.data.toList := fun hd => h (by
  have := hd.2.2.get (j := j) (by rw [str_len]; exact hj)
  rwa [str_get] at this)
theorem all_dec_next {u : ByteArray} {k : Nat} (h : AllDec (u.data.toList.take k)) (hk : k < u.size) (hc : 48 ≤ u[k].toNat ∧ u[k].toNat ≤ 57) : AllDec (u.data.toList.take (k + 1)) := by
  rw [List.take_succ_eq_append_getElem (by rw [str_len]; exact hk), AllDec.append]
  refine ⟨h, fun c hc' => ?_⟩
  rw [List.mem_singleton] at hc'
  rw [hc', str_get u k hk]; exact hc
theorem dec_all_of {u : ByteArray} (h0 : 0 < u.size) (hz : ¬ ((u[0]'h0).toNat = 48 ∧ 1 < u.size)) (h : AllDec (u.data.toList.take u.size)) : IsDec u.data.toList := by
  refine ⟨fun e => by have := str_len u; rw [e] at this; simp at this; omega, fun ⟨h1, h2⟩ => hz ⟨?_, by rw [str_len] at h1; exact h1⟩, ?_⟩
  · rw [head_get u h0] at h2
    rw [Option.some.inj h2]; rfl
  · rwa [List.take_of_length_le (by rw [str_len]; exact Nat.le_refl _)] at h
theorem not_dec_lead {u : ByteArray} (h0 : 0 < u.size) (hz : (u[0]'h0).toNat = 48 ∧ 1 < u.size) : ¬ IsDec u.data.toList := fun hd => hd.2.1 ⟨by rw [str_len]; exact hz.2, by
  rw [head_get u h0]
  exact congrArg some (UInt8.toNat_inj.1 (by rw [hz.1]; rfl))⟩
theorem not_dec_none {u : ByteArray} (h0 : u.size = 0) : ¬ IsDec u.data.toList := fun hd => hd.1 (List.eq_nil_of_length_eq_zero (by rw [str_len]; exact h0))
theorem isEmpty_yes {u : ByteArray} (h0 : u.size = 0) : u.toList.isEmpty = true ∧ u.toList = [] := by
  rw [toList_data, List.eq_nil_of_length_eq_zero (show u.data.toList.length = 0 by rw [str_len]; exact h0)]
  exact ⟨rfl, rfl⟩

set_option maxRecDepth 10000 in
set_option maxHeartbeats 1600000 in
theorem digits_nought (t : ByteArray) (h0 : t.data.toList = [45, 48]) (w : World) : Calls Tryd.prog 21 #[.string t] w (SaysIt (IsSig t.data.toList) w) := by
  have HN := Lib.hid (show ¬ IsSig t.data.toList by rw [h0]; exact isSig_no0)
  have htl : t.toList = [45, 48] := by rw [toList_data, h0]
  have hs : t.size = 2 := by rw [← str_len, h0]; rfl
  have hh : (t[0]'(by omega)).toNat = 45 := by rw [← str_get]; simp [h0]
  go_enter Tryd.func21, Tryd.ntmps21
  go_wp2_with fail
  go_ret
  exact ⟨⟨false, rfl, by simp [HN.out]⟩, rfl⟩

set_option maxRecDepth 10000 in
set_option maxHeartbeats 3200000 in
theorem digits_plain (u : ByteArray) (hsz : u.size ≤ 4611686018427387904) (w : World) (hh : ∀ h : 0 < u.size, ¬ (u[0]'h).toNat = 45) : Calls Tryd.prog 21 #[.string u] w (SaysIt (IsSig u.data.toList) w) := by
  have HU := Lib.hid (isSig_plain (bs := u.data.toList) (fun e => by
    by_cases h : 0 < u.size
    · rw [head_get u h] at e
      exact hh h (by rw [Option.some.inj e]; rfl)
    · rw [List.eq_nil_of_length_eq_zero (show u.data.toList.length = 0 by rw [str_len]; omega)] at e
      cases e))
  by_cases e0 : u.size = 0
  · have HN := Lib.hid (not_dec_none e0)
    obtain ⟨em1, em2⟩ := isEmpty_yes e0
    go_enter Tryd.func21, Tryd.ntmps21
    go_wp2_with fail
    go_ret
    exact ⟨⟨false, rfl, by simp [HU.out, HN.out]⟩, rfl⟩
  · have e1 : 0 < u.size := by omega
    have hh := hh e1
    obtain ⟨em1, em2⟩ := isEmpty_no e1
    by_cases hz : (u[0]'e1).toNat = 48 ∧ 1 < u.size
    · have HN := Lib.hid (not_dec_lead e1 hz)
      obtain ⟨hz1, hz2⟩ := hz
      go_enter Tryd.func21, Tryd.ntmps21
      go_wp2_with fail
      go_ret
      exact ⟨⟨false, rfl, by simp [HU.out, HN.out]⟩, rfl⟩
    · have HALL := Lib.hid (dec_all_of e1 hz)
      obtain ⟨n, hn⟩ : ∃ n, (u[0]'e1).toNat = n := ⟨_, rfl⟩
      rw [hn] at hz
      have hcase : (n = 48 ∧ u.size = 1) ∨ ¬ n = 48 := by omega
      clear hz
      rcases hcase with ⟨hn1, hn2⟩ | hn1
      all_goals
        go_enter Tryd.func21, Tryd.ntmps21
        go_wp2_with fail
        go_loopg [3] u.size (fun gh it wr => ∃ pos : Nat, it = .int .i64 (pos : Int) ∧ gh + pos = u.size ∧ AllDec (u.data.toList.take pos) ∧ wr = w)
        case atStart => exact ⟨0, rfl, by omega, by simp [AllDec], rfl⟩
        case round =>
          obtain ⟨pos, rfl, hg, hall, rfl⟩ := hrel
          have HA := Lib.hid hall
          have HG := Lib.hid hg
          clear hall hg
          by_cases hp : pos < u.size
          · have HNO := Lib.hid (not_dec_at hp)
            have HNX := Lib.hid (all_dec_next HA.out hp)
            obtain ⟨m, hm⟩ : ∃ m, (u[pos]'hp).toNat = m := ⟨_, rfl⟩
            have HM := Lib.hid hm
            by_cases hlo : m < 48
            · go_wp2_with fail
              go_ret
              exact ⟨⟨false, rfl, by simp [HU.out, HNO.out (by rw [HM.out]; omega)]⟩, rfl⟩
            · by_cases hhi : 57 < m
              · go_wp2_with fail
                go_ret
                exact ⟨⟨false, rfl, by simp [HU.out, HNO.out (by rw [HM.out]; omega)]⟩, rfl⟩
              · go_wp2_with fail
                have := HG.out
                go_roundg (u.size - (pos + 1))
                case measure => omega
                case rel => exact ⟨pos + 1, by simp, by omega, HNX.out (by rw [HM.out]; omega), rfl⟩
          · obtain rfl : pos = u.size := by have := HG.out; omega
            have HD := Lib.hid (HALL.out HA.out)
            go_wp2_with fail
            go_ret
            exact ⟨⟨true, rfl, by simp [HU.out, HD.out]⟩, rfl⟩

set_option maxRecDepth 10000 in
set_option maxHeartbeats 3200000 in
theorem digits_minus (t u : ByteArray) (hsz : t.size ≤ 4611686018427387904) (w : World) (h0 : 0 < t.size) (hh : (t[0]'h0).toNat = 45) (hm : t.data.toList ≠ [45, 48]) (hu : t.extract 1 t.size = u) : Calls Tryd.prog 21 #[.string t] w (SaysIt (IsSig t.data.toList) w) := by
  have hus : u.size + 1 = t.size := by rw [← hu]; simp; omega
  have HU := Lib.hid (isSig_minus hm (by
    rw [head_get t h0]
    exact congrArg some (UInt8.toNat_inj.1 (by rw [hh]; rfl))))
  rw [← drop_data, hu] at HU
  have htl : (t.toList == [45, 48]) = false := by rw [toList_data]; simpa using hm
  have htl2 : ¬ t.toList = [45, 48] := by rw [toList_data]; exact hm
  obtain ⟨tm1, tm2⟩ := isEmpty_no h0
  have HS := Lib.hid hus
  have h1t : 1 ≤ t.size := h0
  clear hm
  by_cases e0 : u.size = 0
  · have HN := Lib.hid (not_dec_none e0)
    obtain ⟨em1, em2⟩ := isEmpty_yes e0
    go_enter Tryd.func21, Tryd.ntmps21
    go_wp2_with fail
    go_ret
    exact ⟨⟨false, rfl, by simp [HU.out, HN.out]⟩, rfl⟩
  · have e1 : 0 < u.size := by omega
    obtain ⟨em1, em2⟩ := isEmpty_no e1
    by_cases hz : (u[0]'e1).toNat = 48 ∧ 1 < u.size
    · have HN := Lib.hid (not_dec_lead e1 hz)
      obtain ⟨hz1, hz2⟩ := hz
      go_enter Tryd.func21, Tryd.ntmps21
      go_wp2_with fail
      go_ret
      exact ⟨⟨false, rfl, by simp [HU.out, HN.out]⟩, rfl⟩
    · have HALL := Lib.hid (dec_all_of e1 hz)
      obtain ⟨n, hn⟩ : ∃ n, (u[0]'e1).toNat = n := ⟨_, rfl⟩
      rw [hn] at hz
      have hcase : (n = 48 ∧ u.size = 1) ∨ ¬ n = 48 := by omega
      clear hz
      rcases hcase with ⟨hn1, hn2⟩ | hn1
      all_goals
        go_enter Tryd.func21, Tryd.ntmps21
        go_wp2_with fail
        go_loopg [3] u.size (fun gh it wr => ∃ pos : Nat, it = .int .i64 (pos : Int) ∧ gh + pos = u.size ∧ AllDec (u.data.toList.take pos) ∧ wr = w)
        case atStart => exact ⟨0, rfl, by omega, by simp [AllDec], rfl⟩
        case round =>
          obtain ⟨pos, rfl, hg, hall, rfl⟩ := hrel
          have HA := Lib.hid hall
          have HG := Lib.hid hg
          clear hall hg
          by_cases hp : pos < u.size
          · have HNO := Lib.hid (not_dec_at hp)
            have HNX := Lib.hid (all_dec_next HA.out hp)
            obtain ⟨m, hm⟩ : ∃ m, (u[pos]'hp).toNat = m := ⟨_, rfl⟩
            have HM := Lib.hid hm
            by_cases hlo : m < 48
            · go_wp2_with fail
              go_ret
              exact ⟨⟨false, rfl, by simp [HU.out, HNO.out (by rw [HM.out]; omega)]⟩, rfl⟩
            · by_cases hhi : 57 < m
              · go_wp2_with fail
                go_ret
                exact ⟨⟨false, rfl, by simp [HU.out, HNO.out (by rw [HM.out]; omega)]⟩, rfl⟩
              · go_wp2_with fail
                have := HG.out
                go_roundg (u.size - (pos + 1))
                case measure => omega
                case rel => exact ⟨pos + 1, by simp, by omega, HNX.out (by rw [HM.out]; omega), rfl⟩
          · obtain rfl : pos = u.size := by have := HG.out; omega
            have HD := Lib.hid (HALL.out HA.out)
            go_wp2_with fail
            go_ret
            exact ⟨⟨true, rfl, by simp [HU.out, HD.out]⟩, rfl⟩

theorem ref7_digits (t : ByteArray) (hsz : t.size ≤ 4611686018427387904) (w : World) : Calls Tryd.prog 21 #[.string t] w (SaysIt (IsSig t.data.toList) w) := by
  by_cases h0 : 0 < t.size
  · by_cases hh : (t[0]'h0).toNat = 45
    · by_cases hm : t.data.toList = [45, 48]
      · exact digits_nought t hm w
      · exact digits_minus t _ hsz w h0 hh hm rfl
    · exact digits_plain t hsz w fun _ => hh
  · exact digits_plain t hsz w fun h => absurd h h0
end Go.Proofs.YtkeglcfndjpblaaDoor
/- Two rows of numbers: are they the same? The document's own. -/

namespace Go.Proofs.YtkeglcfndjpblaaDoor
open Go.RowKit Num

def icells (l : List Int) : List Value := l.map (.int .i64 ·)
theorem icells_length (l : List Int) : (icells l).length = l.length := by simp [icells]
theorem RdV.num {w : World} {B : Nat} {p : Option Addr} {l : List Int} (h : RdV w B p (icells l)) {i : Nat} (hi : i < l.length) : ∃ b o, p = some ⟨b, o, none⟩ ∧ b < B ∧ w.cell? ⟨b, o + i, none⟩ = some (.int .i64 l[i]) := by
  obtain ⟨b, o, h1, h2, h3⟩ := h (by rw [icells_length]; omega)
  exact ⟨b, o, h1, h2, by rw [h3 i (by rw [icells_length]; exact hi)]; simp [icells]⟩
/-- a yes or no that writes nothing that was there -/
def TellsIt (p : Prop) (w : World) (e : Ending) (w' : World) : Prop := (∃ d : Bool, e = .returned (.bool d) ∧ (d = true ↔ p)) ∧ Below w.heap.size w w'
theorem below_figE {B : Nat} {a w : World} (h : Below B a w) (q : Nat) : Below B a (w.drewN q) := ⟨h.os, h.tape, h.output, h.size, h.block⟩
theorem same_step {a b : List Int} {i : Nat} (h : a.take i = b.take i) (ha : i < a.length) (hb : i < b.length) (he : a[i] = b[i]) : a.take (i + 1) = b.take (i + 1) := by
  rw [List.take_succ_eq_append_getElem ha, List.take_succ_eq_append_getElem hb, h, he]
theorem same_not {a b : List Int} {i : Nat} (ha : i < a.length) (hb : i < b.length) (he : ¬ a[i] = b[i]) : ¬ a = b := fun e => he (by subst e; rfl)
theorem same_end {a b : List Int} (h : a.take a.length = b.take a.length) (hl : a.length = b.length) : a = b := by
  rw [List.take_length, hl, List.take_length] at h; exact h

set_option maxRecDepth 10000 in
set_option maxHeartbeats 1600000 in
theorem ref7_Same (A B : Option Addr) (c d : Nat) (a b : List Int) (w : World) (ha : RdV w w.heap.size A (icells a)) (hb : RdV w w.heap.size B (icells b)) (hl : a.length ≤ 4611686018427387904) :
    Calls Tryd.prog 14 #[.slice A a.length c, .slice B b.length d] w (TellsIt (a = b) w) := by
  by_cases hab : a.length = b.length
  · obtain ⟨n, hn⟩ : ∃ n, a.length = n := ⟨_, rfl⟩
    have HA := Lib.hid hn
    have HB := Lib.hid (hab.symm.trans hn)
    rw [← hab, hn]
    rw [hn] at hl
    clear hab hn
    go_enter Tryd.func14, Tryd.ntmps14
    go_wp2_with fail
    go_loopg [5] n (fun gh it wr => ∃ i : Nat, it = .int .i64 (i : Int) ∧ gh + i = n ∧ a.take i = b.take i ∧ Below w.heap.size w wr)
    case atStart => exact ⟨0, rfl, by omega, rfl, Below.refl _ _⟩
    case round =>
      obtain ⟨i, rfl, hg, hs, hB⟩ := hrel
      by_cases hlt : i < n
      · obtain ⟨g, o, rfl, _, hc⟩ := (ha.below hB).num (i := i) (by rw [HA.out]; exact hlt)
        obtain ⟨g', o', rfl, _, hc'⟩ := (hb.below hB).num (i := i) (by rw [HB.out]; exact hlt)
        have HS := Lib.hid (And.intro hs hB)
        have HNX := Lib.hid (same_step hs (by rw [HA.out]; exact hlt) (by rw [HB.out]; exact hlt))
        have HNO := Lib.hid (same_not (a := a) (b := b) (i := i) (by rw [HA.out]; exact hlt) (by rw [HB.out]; exact hlt))
        obtain ⟨x, hx⟩ : ∃ x, a[i]'(by rw [HA.out]; exact hlt) = x := ⟨_, rfl⟩
        obtain ⟨y, hy⟩ : ∃ y, b[i]'(by rw [HB.out]; exact hlt) = y := ⟨_, rfl⟩
        rw [hx] at hc HNX HNO
        rw [hy] at hc' HNX HNO
        clear hs hB hx hy
        by_cases hxy : x = y
        · subst hxy
          have HX := Lib.hid (HNX.out rfl)
          clear HNX HNO
          go_wp2_with fail
          go_quiet (fail)
          go_wp2_with fail
          go_roundg (n - (i + 1))
          case measure => omega
          case rel => exact ⟨i + 1, by simp, by omega, HX.out, below_figE HS.out.2 nq⟩
        · go_wp2_with fail
          go_quiet (fail)
          go_wp2_with fail
          go_ret
          exact ⟨⟨false, rfl, by simp [HNO.out hxy]⟩, below_figE HS.out.2 nq⟩
      · obtain rfl : i = n := by omega
        have HE := Lib.hid (And.intro (same_end (a := a) (b := b) (by rw [HA.out]; exact hs) (HA.out.trans HB.out.symm)) hB)
        clear hs hB
        go_wp2_with fail
        go_ret
        exact ⟨⟨true, rfl, by simp [HE.out.1]⟩, HE.out.2⟩
  · have HN := Lib.hid (show ¬ a = b from fun e => hab (by rw [e]))
    go_enter Tryd.func14, Tryd.ntmps14
    go_wp2_with fail
    go_ret
    exact ⟨⟨false, rfl, by simp [HN.out]⟩, Below.refl _ _⟩
end Go.Proofs.YtkeglcfndjpblaaDoor
