/- What the program's own Parse is made of: decimal, chunk, timesAnd. -/
import Derived.Test.YtkmgmppmhgoadaaDoorTxtN
import Derived.Test.YtkmgmppmhgoadaaDoorNatD
import Derived.Laws.RangeString
import Derived.Laws.RangeAny
import Derived.Laws.Strings
import Derived.BigQuiet
namespace Go.Proofs.YtkmgmppmhgoadaaDoor
open Go.RowKit Num

/-- whether it is so -/
def Tells (p : Prop) (w : World) (e : Ending) (w' : World) : Prop := ∃ d : Bool, e = .returned (.bool d) ∧ (d = true ↔ p) ∧ Below w.heap.size w w'
theorem below_iter {B : Nat} {w0 w : World} (h : Below B w0 w) (hB : B ≤ w.heap.size) (t : ByteArray) (pos : Nat) : Below B w0 (w.iter t pos) := h.alloc hB _
theorem data_size (t : ByteArray) : t.data.toList.length = t.size := by rw [Array.length_toList]; rfl
theorem data_get (t : ByteArray) {j : Nat} (h : j < t.size) : t.data.toList[j]'(by rw [data_size]; exact h) = t[j] := by
  rw [Array.getElem_toList]; rfl
theorem not_dec_of {bs : List UInt8} {j : Nat} (hj : j < bs.length) (h : ¬ (48 ≤ bs[j].toNat ∧ bs[j].toNat ≤ 57)) : ¬ IsDec bs := fun hd => h (hd.2.2.get hj)
theorem all_take_succ {bs : List UInt8} {k : Nat} (h : AllDec (bs.take k)) (hk : k < bs.length) (hc : 48 ≤ bs[k].toNat ∧ bs[k].toNat ≤ 57) : AllDec (bs.take (k + 1)) := by
  rw [List.take_succ_eq_append_getElem hk]
  exact AllDec.append.2 ⟨h, fun c hc' => by rw [List.mem_singleton] at hc'; rw [hc']; exact hc⟩

set_option maxHeartbeats 1600000 in
/-- the loop of decimal: behind what is ahead of it -/
theorem nat_decimal (t : ByteArray) (hsz : t.size ≤ 1048576) (w : World) :
    Calls Tryd.prog 81 #[.string t] w (Tells (IsDec t.data.toList) w) := by
  obtain ⟨bs, hbs⟩ : ∃ bs, t.data.toList = bs := ⟨_, rfl⟩
  have hlen : bs.length = t.size := by rw [← hbs]; exact data_size t
  have hget : ∀ j (h : j < t.size), ∃ h' : j < bs.length, bs[j]'h' = t[j] := fun j h => ⟨by rw [hlen]; exact h, by subst hbs; exact data_get t h⟩
  have htl : t.toList = bs := by rw [ByteArray.toList_eq]; exact hbs
  rw [hbs]
  clear hbs
  by_cases h0 : t.size = 0
  · have hnil : bs = [] := List.eq_nil_of_length_eq_zero (by omega)
    have hd : ¬ IsDec bs := fun h => h.1 hnil
    have HDD := Lib.hid hd
    clear hd
    have hE : t.toList.isEmpty = true := by rw [htl, hnil]; rfl
    have hE2 : t.toList = [] := by rw [htl, hnil]
    clear htl hlen hget hnil
    go_enter Tryd.func81, Tryd.ntmps81
    go_wp2_with fail
    go_ret
    exact ⟨false, rfl, by simp [HDD.out], Below.refl _ _⟩
  · have h1 : 0 < t.size := by omega
    have hE : t.toList.isEmpty = false := by
      rw [htl]
      cases bs with
      | nil => simp at hlen; omega
      | cons c cs => rfl
    have hE2 : ¬ t.toList = [] := by
      rw [htl]; rintro rfl; simp at hlen; omega
    have hhead : bs.head? = some t[0] := by
      obtain ⟨h2, h3⟩ := hget 0 h1
      rw [← h3]
      cases bs with
      | nil => simp at h2
      | cons c cs => rfl
    obtain ⟨n, hn⟩ : ∃ n, (t[0]'h1).toNat = n := ⟨_, rfl⟩
    have hn48 : n = 48 → bs.head? = some 48 := fun e => by
      rw [hhead]
      congr 1
      exact UInt8.toNat_inj.1 (by rw [hn, e]; rfl)
    by_cases hz : n = 48 ∧ 1 < t.size
    · obtain ⟨rfl, hz1⟩ := hz
      have hd : ¬ IsDec bs := fun h => h.2.1 ⟨by omega, hn48 rfl⟩
      have HDD := Lib.hid hd
      clear hd
      have h48 : (t.toList == [48]) = false := by
        rw [htl]
        refine Bool.eq_false_iff.2 fun e => ?_
        have e1 : bs = [48] := by simpa using e
        rw [e1] at hlen
        simp at hlen; omega
      clear htl hlen hget hhead hn48
      go_enter Tryd.func81, Tryd.ntmps81
      go_wp2_with fail
      go_ret
      exact ⟨false, rfl, by simp [HDD.out], Below.refl _ _⟩
    · have hne : bs ≠ [] := fun e => by rw [e] at hlen; simp at hlen; omega
      have hnz : ¬ (1 < bs.length ∧ bs.head? = some 48) := fun h => hz ⟨by
        have h2 := h.2
        rw [hhead] at h2
        rw [← hn, Option.some.inj h2]; rfl, by omega⟩
      have HNE := Lib.hid hne
      have HNZ := Lib.hid hnz
      have HGET := Lib.hid hget
      have HLEN := Lib.hid hlen
      by_cases h48 : n = 48
      · subst h48
        have hsz1 : t.size = 1 := by omega
        have hone : (t.toList == [48]) = true := by
          rw [htl]
          obtain ⟨c, hc⟩ := List.length_eq_one_iff.1 (hlen.trans hsz1)
          have e := hn48 rfl
          rw [hc, List.head?_cons] at e
          rw [hc, Option.some.inj e]; rfl
        clear htl hne hnz hget hlen hhead hn48 hsz1 hz
        go_enter Tryd.func81, Tryd.ntmps81
        go_wp2_with fail
        go_loopg [4] t.size (fun gh _ wr => ∃ pos, gh + pos = t.size ∧ wr = w.iter t pos ∧ AllDec (bs.take pos))
        case atStart => exact ⟨0, by omega, rfl, by simp [AllDec]⟩
        case round =>
          obtain ⟨pos, hg, rfl, hall⟩ := hrel
          have HG := Lib.hid hg
          clear hg
          by_cases hp : pos < t.size
          · obtain ⟨hpl, hgp⟩ := HGET.out pos hp
            by_cases ha : (t[pos]'hp).toNat < 128
            · have hnx := fun ty => run_next_ascii (P := Tryd.prog) w t pos ty hp ha
              have hdig : ¬ (48 ≤ (t[pos]'hp).toNat ∧ (t[pos]'hp).toNat ≤ 57) → ¬ IsDec bs := fun h => not_dec_of (j := pos) hpl (by rw [hgp]; exact h)
              have hnext : (48 ≤ (t[pos]'hp).toNat ∧ (t[pos]'hp).toNat ≤ 57) → AllDec (bs.take (pos + 1)) := fun h => all_take_succ hall hpl (by rw [hgp]; exact h)
              obtain ⟨m, hm⟩ : ∃ m, (t[pos]'hp).toNat = m := ⟨_, rfl⟩
              rw [hm] at hnx hdig hnext
              clear hm hgp ha
              by_cases hlo : m < 48
              · have hd : ¬ IsDec bs := hdig (by omega)
                have HDD := Lib.hid hd
                clear hd
                clear hdig hnext
                go_wp2_with fail
                go_ret
                exact ⟨false, rfl, by simp [HDD.out], below_iter (Below.refl _ _) (Nat.le_refl _) _ _⟩
              · by_cases hhi : 57 < m
                · have hd : ¬ IsDec bs := hdig (by omega)
                  have HDD := Lib.hid hd
                  clear hd
                  clear hdig hnext
                  go_wp2_with fail
                  go_ret
                  exact ⟨false, rfl, by simp [HDD.out], below_iter (Below.refl _ _) (Nat.le_refl _) _ _⟩
                · have hd := hnext (by omega)
                  clear hdig hnext
                  go_wp2_with fail
                  go_roundg (gk - 1)
                  case measure => have := HG.out; omega
                  case rel => exact ⟨pos + 1, by have := HG.out; omega, rfl, hd⟩
            · have hd : ¬ IsDec bs := not_dec_of (j := pos) hpl (by rw [hgp]; omega)
              have HDD := Lib.hid hd
              clear hd
              have hnx := fun ty => run_next_any (P := Tryd.prog) w t pos ty hp
              have hhi := (decode_high t pos hp (by omega)).1
              obtain ⟨m, hm⟩ : ∃ m, (Utf8.decode t pos).1 = m := ⟨_, rfl⟩
              obtain ⟨l, hl⟩ : ∃ l, (Utf8.decode t pos).2 = l := ⟨_, rfl⟩
              rw [hm, hl] at hnx
              rw [hm] at hhi
              clear hm hl hgp ha
              go_wp2_with fail
              go_ret
              exact ⟨false, rfl, by simp [HDD.out], below_iter (Below.refl _ _) (Nat.le_refl _) _ _⟩
          · have hnx := fun ty => run_next_end (P := Tryd.prog) w t pos ty hp
            have hall2 : AllDec bs := by
              rw [List.take_of_length_le (by rw [HLEN.out]; omega)] at hall
              exact hall
            have hd : IsDec bs := ⟨HNE.out, HNZ.out, hall2⟩
            have HDD := Lib.hid hd
            clear hd
            go_wp2_with fail
            go_ret
            exact ⟨true, rfl, by simp [HDD.out], below_iter (Below.refl _ _) (Nat.le_refl _) _ _⟩
      · clear htl hne hnz hget hlen hhead hn48 hz
        go_enter Tryd.func81, Tryd.ntmps81
        go_wp2_with fail
        go_loopg [4] t.size (fun gh _ wr => ∃ pos, gh + pos = t.size ∧ wr = w.iter t pos ∧ AllDec (bs.take pos))
        case atStart => exact ⟨0, by omega, rfl, by simp [AllDec]⟩
        case round =>
          obtain ⟨pos, hg, rfl, hall⟩ := hrel
          have HG := Lib.hid hg
          clear hg
          by_cases hp : pos < t.size
          · obtain ⟨hpl, hgp⟩ := HGET.out pos hp
            by_cases ha : (t[pos]'hp).toNat < 128
            · have hnx := fun ty => run_next_ascii (P := Tryd.prog) w t pos ty hp ha
              have hdig : ¬ (48 ≤ (t[pos]'hp).toNat ∧ (t[pos]'hp).toNat ≤ 57) → ¬ IsDec bs := fun h => not_dec_of (j := pos) hpl (by rw [hgp]; exact h)
              have hnext : (48 ≤ (t[pos]'hp).toNat ∧ (t[pos]'hp).toNat ≤ 57) → AllDec (bs.take (pos + 1)) := fun h => all_take_succ hall hpl (by rw [hgp]; exact h)
              obtain ⟨m, hm⟩ : ∃ m, (t[pos]'hp).toNat = m := ⟨_, rfl⟩
              rw [hm] at hnx hdig hnext
              clear hm hgp ha
              by_cases hlo : m < 48
              · have hd : ¬ IsDec bs := hdig (by omega)
                have HDD := Lib.hid hd
                clear hd
                clear hdig hnext
                go_wp2_with fail
                go_ret
                exact ⟨false, rfl, by simp [HDD.out], below_iter (Below.refl _ _) (Nat.le_refl _) _ _⟩
              · by_cases hhi : 57 < m
                · have hd : ¬ IsDec bs := hdig (by omega)
                  have HDD := Lib.hid hd
                  clear hd
                  clear hdig hnext
                  go_wp2_with fail
                  go_ret
                  exact ⟨false, rfl, by simp [HDD.out], below_iter (Below.refl _ _) (Nat.le_refl _) _ _⟩
                · have hd := hnext (by omega)
                  clear hdig hnext
                  go_wp2_with fail
                  go_roundg (gk - 1)
                  case measure => have := HG.out; omega
                  case rel => exact ⟨pos + 1, by have := HG.out; omega, rfl, hd⟩
            · have hd : ¬ IsDec bs := not_dec_of (j := pos) hpl (by rw [hgp]; omega)
              have HDD := Lib.hid hd
              clear hd
              have hnx := fun ty => run_next_any (P := Tryd.prog) w t pos ty hp
              have hhi := (decode_high t pos hp (by omega)).1
              obtain ⟨m, hm⟩ : ∃ m, (Utf8.decode t pos).1 = m := ⟨_, rfl⟩
              obtain ⟨l, hl⟩ : ∃ l, (Utf8.decode t pos).2 = l := ⟨_, rfl⟩
              rw [hm, hl] at hnx
              rw [hm] at hhi
              clear hm hl hgp ha
              go_wp2_with fail
              go_ret
              exact ⟨false, rfl, by simp [HDD.out], below_iter (Below.refl _ _) (Nat.le_refl _) _ _⟩
          · have hnx := fun ty => run_next_end (P := Tryd.prog) w t pos ty hp
            have hall2 : AllDec bs := by
              rw [List.take_of_length_le (by rw [HLEN.out]; omega)] at hall
              exact hall
            have hd : IsDec bs := ⟨HNE.out, HNZ.out, hall2⟩
            have HDD := Lib.hid hd
            clear hd
            go_wp2_with fail
            go_ret
            exact ⟨true, rfl, by simp [HDD.out], below_iter (Below.refl _ _) (Nat.le_refl _) _ _⟩
end Go.Proofs.YtkmgmppmhgoadaaDoor
