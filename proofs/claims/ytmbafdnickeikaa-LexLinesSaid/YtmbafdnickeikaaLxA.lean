/- Is a text a word: the program's and the document's own. -/
import Derived.Test.YtmbafdnickeikaaLxN
import Derived.Lib.Hide
import Derived.WalkLawsBesides
import Derived.Deep.LoopGhost
import Derived.Test.YtmbafdnickeikaaChecked
namespace Go.Proofs.Ytmbafdnickeikaa
open Go.RowKit

theorem str_get (s : ByteArray) (j : Nat) (h : j < s.size) : s.data.toList[j]'(by rw [Array.length_toList]; exact h) = s[j] := rfl
theorem str_len (s : ByteArray) : s.data.toList.length = s.size := Array.length_toList
theorem okB_yes {c : UInt8} (h : okB c = true) : (33 : Int) ≤ (c.toNat : Int) ∧ (c.toNat : Int) ≤ 126 := by
  unfold okB at h
  simp only [Bool.and_eq_true, decide_eq_true_eq] at h
  omega
theorem okB_no {c : UInt8} (h : okB c = false) : (c.toNat : Int) < 33 ∨ ((33 : Int) ≤ (c.toNat : Int) ∧ (126 : Int) < (c.toNat : Int)) := by
  unfold okB at h
  simp only [Bool.and_eq_false_iff, decide_eq_false_iff_not] at h
  omega

set_option maxRecDepth 10000 in
set_option maxHeartbeats 1600000 in
theorem lex_Word (s : ByteArray) (hs : s.size ≤ 4611686018427387904) (w : World) :
    Calls Try.prog 13 #[.string s] w fun e w' => e = .returned (.bool (isW s.data.toList)) ∧ w' = w := by
  obtain ⟨res, hres⟩ : ∃ b, isW s.data.toList = b := ⟨_, rfl⟩
  have HRES := Lib.hid hres
  rw [hres]
  clear hres
  go_enter Try.func13, Try.ntmps13
  go_wp2_with fail
  go_loopg [3, 6] s.size (fun gh _ v wr => ∃ i : Nat, v = .int .i64 i ∧ gh + i = s.size ∧ (∀ j (h : j < s.size), j < i → okB s[j] = true) ∧ wr = w)
  case atStart => exact ⟨0, rfl, by omega, fun j _ h => by omega, rfl⟩
  case round =>
    obtain ⟨i, rfl, hg, hall, rfl⟩ := hrel
    by_cases hi : i < s.size
    · obtain ⟨c, hc⟩ : ∃ c, (s[i]'hi) = c := ⟨_, rfl⟩
      cases ho : okB c with
      | true =>
        obtain ⟨h1, h2⟩ := okB_yes ho
        have HA := Lib.hid hall
        clear hall
        go_wp2_with fail
        go_roundg (s.size - (i + 1))
        case measure => omega
        case rel =>
          refine ⟨i + 1, by simp, by omega, fun j hj h => ?_, rfl⟩
          by_cases e : j = i
          · subst e; rw [hc]; exact ho
          · exact HA.out j hj (by omega)
      | false =>
        have hb : isW s.data.toList = false := isW_bad (i := i) (by rw [str_len]; exact hi) (by rw [str_get s i hi, hc]; exact ho)
        have HBB := Lib.hid hb
        clear hall hb
        rcases okB_no ho with h1 | ⟨h1, h2⟩
        · go_wp2_with fail
          go_ret
          exact ⟨by rw [← HRES.out, HBB.out]; rfl, rfl⟩
        · go_wp2_with fail
          go_ret
          exact ⟨by rw [← HRES.out, HBB.out]; rfl, rfl⟩
    · obtain rfl : i = s.size := by omega
      by_cases h0 : s.data.toList = []
      · have hb : isW s.data.toList = false := by rw [h0]; rfl
        have HBB := Lib.hid hb
        clear hall hb
        go_wp2_with fail
        go_ret
        exact ⟨by rw [← HRES.out, HBB.out]; simp [ByteArray.toList_eq, h0], rfl⟩
      · have hb : isW s.data.toList = true := isW_of h0 fun j hj => hall j (by rw [← str_len]; exact hj) (by rw [← str_len]; exact hj)
        have HBB := Lib.hid hb
        clear hall hb
        go_wp2_with fail
        go_ret
        exact ⟨by rw [← HRES.out, HBB.out]; simp [ByteArray.toList_eq]; exact fun e => h0 (by rw [e]), rfl⟩

set_option maxRecDepth 10000 in
set_option maxHeartbeats 1600000 in
theorem ref6_Word (s : ByteArray) (hs : s.size ≤ 4611686018427387904) (w : World) :
    Calls Try.prog 19 #[.string s] w fun e w' => e = .returned (.bool (isW s.data.toList)) ∧ w' = w := by
  obtain ⟨res, hres⟩ : ∃ b, isW s.data.toList = b := ⟨_, rfl⟩
  have HRES := Lib.hid hres
  rw [hres]
  clear hres
  go_enter Try.func19, Try.ntmps19
  go_wp2_with fail
  go_loopg [3, 4] s.size (fun gh a v wr => ∃ i : Nat, v = .int .i64 i ∧ gh + i = s.size ∧ (∃ b : Bool, a = .bool b ∧ (b = true ↔ 0 < s.size ∧ ∀ j (h : j < s.size), j < i → okB s[j] = true)) ∧ wr = w)
  case atStart => exact ⟨0, rfl, by omega, ⟨_, rfl, by simp⟩, rfl⟩
  case round =>
    obtain ⟨i, rfl, hg, ⟨b, rfl, hb⟩, rfl⟩ := hrel
    have HB := Lib.hid hb
    clear hb
    by_cases hi : i < s.size
    · obtain ⟨c, hc⟩ : ∃ c, (s[i]'hi) = c := ⟨_, rfl⟩
      cases b with
      | false =>
        go_wp2_with fail
        go_roundg (s.size - (i + 1))
        case measure => omega
        case rel =>
          refine ⟨i + 1, by simp, by omega, ⟨false, rfl, ?_⟩, rfl⟩
          have := HB.out
          simp only [Bool.false_eq_true, false_iff] at this ⊢
          rintro ⟨h1, h2⟩
          exact this ⟨h1, fun j hj h => h2 j hj (by omega)⟩
      | true =>
        cases ho : okB c with
        | true =>
          obtain ⟨h1, h2⟩ := okB_yes ho
          go_wp2_with fail
          go_roundg (s.size - (i + 1))
          case measure => omega
          case rel =>
            refine ⟨i + 1, by simp, by omega, ⟨true, rfl, ?_⟩, rfl⟩
            have := HB.out
            simp only [true_iff] at this ⊢
            refine ⟨this.1, fun j hj h => ?_⟩
            by_cases e : j = i
            · subst e; rw [hc]; exact ho
            · exact this.2 j hj (by omega)
        | false =>
          have hno : ¬ (0 < s.size ∧ ∀ j (h : j < s.size), j < i + 1 → okB s[j] = true) := fun h => by
            have := h.2 i hi (by omega)
            rw [hc, ho] at this
            cases this
          have HN := Lib.hid hno
          clear hno
          rcases okB_no ho with h1 | ⟨h1, h2⟩
          · go_wp2_with fail
            go_roundg (s.size - (i + 1))
            case measure => omega
            case rel => exact ⟨i + 1, by simp, by omega, ⟨_, rfl, iff_of_false (by simp <;> omega) HN.out⟩, rfl⟩
          · go_wp2_with fail
            go_roundg (s.size - (i + 1))
            case measure => omega
            case rel => exact ⟨i + 1, by simp, by omega, ⟨_, rfl, iff_of_false (by simp <;> omega) HN.out⟩, rfl⟩
    · obtain rfl : i = s.size := by omega
      have hv : b = isW s.data.toList := by
        have h := HB.out
        cases hw : isW s.data.toList with
        | true =>
          refine h.2 ⟨?_, fun j hj _ => ?_⟩
          · have := isW_ne hw
            have := List.length_pos_iff.2 this
            rw [str_len] at this
            exact this
          · have := List.all_eq_true.1 (isW_all hw) (s.data.toList[j]'(by rw [str_len]; exact hj)) (List.getElem_mem _)
            rw [str_get s j hj] at this
            exact this
        | false =>
          cases hbb : b with
          | false => rfl
          | true =>
            obtain ⟨h1, h2⟩ := h.1 hbb
            have : isW s.data.toList = true := isW_of (by intro e; rw [← str_len, e] at h1; simp at h1) fun j hj => h2 j (by rw [← str_len]; exact hj) (by rw [← str_len]; exact hj)
            rw [hw] at this
            cases this
      go_wp2_with fail
      go_ret
      exact ⟨by rw [← HRES.out, ← hv]; rfl, rfl⟩
end Go.Proofs.Ytmbafdnickeikaa
