/- Plain facts about decimal texts: a number's digits, the number of digits, pieces of nine. -/
import Derived.Test.YtidbpkibjficnaaGreatDoorZBase
import Derived.Lib.ItoaNum
import Derived.Test.YtidbpkibjficnaaGreatDoorZNatX
import Derived.Laws.RangeString
import Derived.Laws.RangeAny
import Derived.Laws.Strings
import Derived.BigQuiet
import Derived.Laws.OwnMore
namespace Go.Proofs.YtidbpkibjficnaaGreatDoor.Num
open Go.Lib (decDigits decDigits_length decDigits_one nDigits)

theorem dec_small {u : Nat} (h : u < 10) : decDigits u = [UInt8.ofNat (48 + u % 10)] := by rw [decDigits_one h, Nat.mod_eq_of_lt h]
theorem dec_big {u : Nat} (h : ¬ u < 10) : decDigits u = decDigits (u / 10) ++ [UInt8.ofNat (48 + u % 10)] := by
  rw [decDigits, dif_neg h]
theorem dec_digit {r : Nat} (h : r < 10) : (UInt8.ofNat (48 + r)).toNat = 48 + r := by
  rw [UInt8.toNat_ofNat']; exact Nat.mod_eq_of_lt (by omega)
theorem dec_len_pos (u : Nat) : 1 ≤ (decDigits u).length := by rw [decDigits_length]; exact Lib.nDigits_pos u
theorem dec_len_le : ∀ (k u : Nat), u < 10 ^ (k + 1) → (decDigits u).length ≤ k + 1
  | 0, u, h => by rw [dec_small (by simpa using h)]; simp
  | k + 1, u, h => by
    by_cases h10 : u < 10
    · rw [dec_small h10]; simp
    · rw [dec_big h10, List.length_append]
      have := dec_len_le k (u / 10) (by rw [Nat.pow_succ] at h; omega)
      simp; omega
/-- the k lowest digits of r, with noughts ahead -/
def pad : Nat → Nat → List UInt8
  | 0, _ => []
  | k + 1, r => pad k (r / 10) ++ [UInt8.ofNat (48 + r % 10)]
theorem pad_length (k r : Nat) : (pad k r).length = k := by
  induction k generalizing r with
  | zero => rfl
  | succ k ih => simp [pad, ih]
theorem pad_zero (k : Nat) : pad k 0 = List.replicate k 48 := by
  induction k with
  | zero => rfl
  | succ k ih => rw [pad, Nat.zero_div, ih, List.replicate_succ']; rfl
theorem pad_eq : ∀ (k r : Nat), r < 10 ^ k → 1 ≤ k → pad k r = List.replicate (k - (decDigits r).length) 48 ++ decDigits r
  | 0, _, _, h => absurd h (by omega)
  | k + 1, r, h, _ => by
    rw [pad]
    by_cases h10 : r < 10
    · rw [Nat.div_eq_of_lt h10, pad_zero, dec_small h10]; simp
    · have hk : 1 ≤ k := by
        rcases Nat.eq_zero_or_pos k with h0 | h0
        · subst h0; rw [Nat.zero_add, Nat.pow_one] at h; omega
        · exact h0
      rw [pad_eq k (r / 10) (by rw [Nat.pow_succ] at h; omega) hk, dec_big h10, List.length_append, List.append_assoc]
      congr 2
      simp
/-- a number's digits, the k lowest of them apart -/
theorem dec_split : ∀ (k M r : Nat), 0 < M → r < 10 ^ k → decDigits (M * 10 ^ k + r) = decDigits M ++ pad k r
  | 0, M, r, _, h => by
    rw [Nat.pow_zero] at h
    obtain rfl : r = 0 := by omega
    simp [pad]
  | k + 1, M, r, hM, h => by
    have hp : 1 ≤ 10 ^ k := Nat.one_le_pow _ _ (by omega)
    have hM1 : 10 ^ k ≤ M * 10 ^ k := Nat.le_mul_of_pos_left _ hM
    have e : M * 10 ^ (k + 1) = 10 * (M * 10 ^ k) := by rw [Nat.pow_succ]; grind
    have e1 : (M * 10 ^ (k + 1) + r) / 10 = M * 10 ^ k + r / 10 := by rw [e, Nat.mul_add_div (by omega)]
    have e2 : (M * 10 ^ (k + 1) + r) % 10 = r % 10 := by rw [e, Nat.mul_add_mod]
    rw [dec_big (by omega), e1, e2, dec_split k M (r / 10) hM (by rw [Nat.pow_succ] at h; omega), pad, List.append_assoc]

/-- what digits are worth -/
def decVal (bs : List UInt8) : Nat := bs.foldl (fun v c => v * 10 + (c.toNat - 48)) 0
theorem decVal_nil : decVal [] = 0 := rfl
theorem decVal_snoc (bs : List UInt8) (c : UInt8) : decVal (bs ++ [c]) = decVal bs * 10 + (c.toNat - 48) := by
  simp [decVal, List.foldl_append]
theorem decVal_from (cs : List UInt8) : ∀ v, cs.foldl (fun v c => v * 10 + (c.toNat - 48)) v = v * 10 ^ cs.length + decVal cs := by
  induction cs with
  | nil => intro v; simp [decVal_nil]
  | cons c cs ih =>
    intro v
    have h1 := ih (v * 10 + (c.toNat - 48))
    have h2 : decVal (c :: cs) = (c.toNat - 48) * 10 ^ cs.length + decVal cs := by
      show cs.foldl (fun v c => v * 10 + (c.toNat - 48)) (0 * 10 + (c.toNat - 48)) = _
      rw [ih, Nat.zero_mul, Nat.zero_add]
    rw [List.foldl_cons, h1, h2, List.length_cons, Nat.pow_succ]
    grind
theorem decVal_append (bs cs : List UInt8) : decVal (bs ++ cs) = decVal bs * 10 ^ cs.length + decVal cs := by
  rw [decVal, List.foldl_append, decVal_from]
  rfl
/-- digits only -/
def AllDec (bs : List UInt8) : Prop := ∀ c ∈ bs, 48 ≤ c.toNat ∧ c.toNat ≤ 57
theorem AllDec.append {bs cs : List UInt8} : AllDec (bs ++ cs) ↔ AllDec bs ∧ AllDec cs := by
  simp only [AllDec, List.mem_append]
  exact ⟨fun h => ⟨fun c hc => h c (.inl hc), fun c hc => h c (.inr hc)⟩, fun h c hc => hc.elim (h.1 c) (h.2 c)⟩
theorem AllDec.get {bs : List UInt8} (h : AllDec bs) {j : Nat} (hj : j < bs.length) : 48 ≤ bs[j].toNat ∧ bs[j].toNat ≤ 57 := h _ (List.getElem_mem hj)
theorem AllDec.take {bs : List UInt8} (h : AllDec bs) (n : Nat) : AllDec (bs.take n) := fun c hc => h c (List.mem_of_mem_take hc)
theorem AllDec.drop {bs : List UInt8} (h : AllDec bs) (n : Nat) : AllDec (bs.drop n) := fun c hc => h c (List.mem_of_mem_drop hc)
theorem decVal_lt {bs : List UInt8} (h : AllDec bs) : decVal bs < 10 ^ bs.length := by
  induction bs with
  | nil => simp [decVal_nil]
  | cons c bs ih =>
    have h3 := ih fun d hd => h d (by simp [hd])
    have h4 := h c (by simp)
    have e : decVal (c :: bs) = (c.toNat - 48) * 10 ^ bs.length + decVal bs := by
      have := decVal_append [c] bs
      rw [show decVal [c] = c.toNat - 48 by simp [decVal]] at this
      exact this
    have h5 : (c.toNat - 48 + 1) * 10 ^ bs.length ≤ 10 * 10 ^ bs.length := Nat.mul_le_mul_right _ (by omega)
    rw [Nat.add_mul, Nat.one_mul] at h5
    rw [e, List.length_cons, Nat.pow_succ]
    omega
theorem decVal_take_succ {bs : List UInt8} {k : Nat} (h : k < bs.length) : decVal (bs.take (k + 1)) = decVal (bs.take k) * 10 + (bs[k].toNat - 48) := by
  rw [List.take_succ_eq_append_getElem h, decVal_snoc]
theorem dec_all (u : Nat) : AllDec (decDigits u) := by
  induction u using Nat.strongRecOn with
  | _ u ih =>
    have hd : AllDec [UInt8.ofNat (48 + u % 10)] := fun c hc => by
      rw [List.mem_singleton] at hc
      rw [hc, dec_digit (Nat.mod_lt _ (by omega))]
      have := Nat.mod_lt u (show 10 > 0 by omega)
      omega
    by_cases h : u < 10
    · rw [dec_small h]; exact hd
    · rw [dec_big h]; exact AllDec.append.2 ⟨ih _ (by omega), hd⟩
theorem decVal_dec (u : Nat) : decVal (decDigits u) = u := by
  induction u using Nat.strongRecOn with
  | _ u ih =>
    have hm := Nat.mod_lt u (show 10 > 0 by omega)
    by_cases h : u < 10
    · rw [dec_small h]
      show 0 * 10 + ((UInt8.ofNat (48 + u % 10)).toNat - 48) = u
      rw [dec_digit hm]; omega
    · rw [dec_big h, decVal_snoc, ih _ (by omega), dec_digit hm]; omega
/-- a text of a number: digits, without a nought ahead -/
def IsDec (bs : List UInt8) : Prop := bs ≠ [] ∧ ¬ (1 < bs.length ∧ bs.head? = some 48) ∧ AllDec bs
theorem dec_head {u : Nat} (h : 0 < u) : (decDigits u).head? ≠ some 48 := by
  induction u using Nat.strongRecOn with
  | _ u ih =>
    by_cases h10 : u < 10
    · rw [dec_small h10, List.head?_cons]
      intro e
      have e1 : UInt8.ofNat (48 + u % 10) = 48 := Option.some.inj e
      have e2 := dec_digit (Nat.mod_lt u (show 10 > 0 by omega))
      rw [e1] at e2
      have : (48 : UInt8).toNat = 48 := rfl
      omega
    · rw [dec_big h10]
      have h1 := dec_len_pos (u / 10)
      have h2 := ih (u / 10) (by omega) (by omega)
      match hd : decDigits (u / 10), h1, h2 with
      | c :: cs, _, h2 => exact h2
theorem dec_isDec (u : Nat) : IsDec (decDigits u) := by
  refine ⟨fun e => by have := dec_len_pos u; rw [e] at this; simp at this, ?_, dec_all u⟩
  rintro ⟨h1, h2⟩
  rcases Nat.eq_zero_or_pos u with h0 | h0
  · subst h0
    rw [dec_small (by omega)] at h1
    simp at h1
  · exact dec_head h0 h2
/-- a number of so many words has so many digits -/
theorem dec_len_words {n u : Nat} (h : u < 4294967296 ^ n) : (decDigits u).length ≤ 10 * n + 1 := by
  refine dec_len_le (10 * n) u (Nat.lt_of_lt_of_le h ?_)
  have h1 : (4294967296 : Nat) ^ n ≤ (10 ^ 10) ^ n := Nat.pow_le_pow_left (by decide) n
  rw [← Nat.pow_mul] at h1
  exact Nat.le_trans h1 (Nat.pow_le_pow_right (by omega) (by omega))
end Go.Proofs.YtidbpkibjficnaaGreatDoor.Num
/- What the program's own Parse is made of: decimal, chunk, timesAnd. -/

namespace Go.Proofs.YtidbpkibjficnaaGreatDoor
open Go.RowKit Num

/-- whether it is so -/
def Tells (p : Prop) (w : World) (e : Ending) (w' : World) : Prop := ∃ d : Bool, e = .returned (.bool d) ∧ (d = true ↔ p) ∧ Below w.heap.size w w'
theorem below_iter {B : Nat} {w0 w : World} (h : Below B w0 w) (hB : B ≤ w.heap.size) (t : ByteArray) (pos : Nat) : Below B w0 (w.iter t pos) := h.alloc hB _
theorem data_size (t : ByteArray) : t.data.toList.length = t.size := by rw [Array.length_toList]; rfl
theorem data_get (t : ByteArray) {j : Nat} (h : j < t.size) : t.data.toList[j]'(by rw [data_size]; exact h) = t[j] := by
  rw [Array.getElem_toList]; rfl
theorem not_dec_of {bs : List UInt8} {j : Nat} (hj : j < bs.length) (h : ¬ (48 ≤ bs[j].toNat ∧ bs[j].toNat ≤ 57)) : ¬ IsDec bs := fun hd => h (hd.2.2.get hj)
theorem all_take_succ {bs : List UInt8} {k : Nat} (h : AllDec (bs.take k)) (hk : k < bs.length) (hc : 48 ≤ bs[k].toNat ∧ bs[k].toNat ≤ 57) : AllDec (bs.take (k + 1)) := by
  rw [List.take_succ_eq_append_getElem hk]
  exact AllDec.append.2 ⟨h, fun c hc' => by rw [List.mem_singleton] at hc'; rw [hc']; exact hc⟩

set_option maxHeartbeats 1600000 in
/-- the loop of decimal: behind what is ahead of it -/
theorem nat_decimal (t : ByteArray) (hsz : t.size ≤ 1048576) (w : World) :
    Calls Tryz.prog 120 #[.string t] w (Tells (IsDec t.data.toList) w) := by
  obtain ⟨bs, hbs⟩ : ∃ bs, t.data.toList = bs := ⟨_, rfl⟩
  have hlen : bs.length = t.size := by rw [← hbs]; exact data_size t
  have hget : ∀ j (h : j < t.size), ∃ h' : j < bs.length, bs[j]'h' = t[j] := fun j h => ⟨by rw [hlen]; exact h, by subst hbs; exact data_get t h⟩
  have htl : t.toList = bs := by rw [ByteArray.toList_eq]; exact hbs
  rw [hbs]
  clear hbs
  by_cases h0 : t.size = 0
  · have hnil : bs = [] := List.eq_nil_of_length_eq_zero (by omega)
    have hd : ¬ IsDec bs := fun h => h.1 hnil
    have HDD := Lib.hid hd
    clear hd
    have hE : t.toList.isEmpty = true := by rw [htl, hnil]; rfl
    have hE2 : t.toList = [] := by rw [htl, hnil]
    clear htl hlen hget hnil
    go_enter Tryz.func120, Tryz.ntmps120
    go_wp2_with fail
    go_ret
    exact ⟨false, rfl, by simp [HDD.out], Below.refl _ _⟩
  · have h1 : 0 < t.size := by omega
    have hE : t.toList.isEmpty = false := by
      rw [htl]
      cases bs with
      | nil => simp at hlen; omega
      | cons c cs => rfl
    have hE2 : ¬ t.toList = [] := by
      rw [htl]; rintro rfl; simp at hlen; omega
    have hhead : bs.head? = some t[0] := by
      obtain ⟨h2, h3⟩ := hget 0 h1
      rw [← h3]
      cases bs with
      | nil => simp at h2
      | cons c cs => rfl
    obtain ⟨n, hn⟩ : ∃ n, (t[0]'h1).toNat = n := ⟨_, rfl⟩
    have hn48 : n = 48 → bs.head? = some 48 := fun e => by
      rw [hhead]
      congr 1
      exact UInt8.toNat_inj.1 (by rw [hn, e]; rfl)
    by_cases hz : n = 48 ∧ 1 < t.size
    · obtain ⟨rfl, hz1⟩ := hz
      have hd : ¬ IsDec bs := fun h => h.2.1 ⟨by omega, hn48 rfl⟩
      have HDD := Lib.hid hd
      clear hd
      have h48 : (t.toList == [48]) = false := by
        rw [htl]
        refine Bool.eq_false_iff.2 fun e => ?_
        have e1 : bs = [48] := by simpa using e
        rw [e1] at hlen
        simp at hlen; omega
      clear htl hlen hget hhead hn48
      go_enter Tryz.func120, Tryz.ntmps120
      go_wp2_with fail
      go_ret
      exact ⟨false, rfl, by simp [HDD.out], Below.refl _ _⟩
    · have hne : bs ≠ [] := fun e => by rw [e] at hlen; simp at hlen; omega
      have hnz : ¬ (1 < bs.length ∧ bs.head? = some 48) := fun h => hz ⟨by
        have h2 := h.2
        rw [hhead] at h2
        rw [← hn, Option.some.inj h2]; rfl, by omega⟩
      have HNE := Lib.hid hne
      have HNZ := Lib.hid hnz
      have HGET := Lib.hid hget
      have HLEN := Lib.hid hlen
      by_cases h48 : n = 48
      · subst h48
        have hsz1 : t.size = 1 := by omega
        have hone : (t.toList == [48]) = true := by
          rw [htl]
          obtain ⟨c, hc⟩ := List.length_eq_one_iff.1 (hlen.trans hsz1)
          have e := hn48 rfl
          rw [hc, List.head?_cons] at e
          rw [hc, Option.some.inj e]; rfl
        clear htl hne hnz hget hlen hhead hn48 hsz1 hz
        go_enter Tryz.func120, Tryz.ntmps120
        go_wp2_with fail
        go_loopg [4] t.size (fun gh _ wr => ∃ pos, gh + pos = t.size ∧ wr = w.iter t pos ∧ AllDec (bs.take pos))
        case atStart => exact ⟨0, by omega, rfl, by simp [AllDec]⟩
        case round =>
          obtain ⟨pos, hg, rfl, hall⟩ := hrel
          have HG := Lib.hid hg
          clear hg
          by_cases hp : pos < t.size
          · obtain ⟨hpl, hgp⟩ := HGET.out pos hp
            by_cases ha : (t[pos]'hp).toNat < 128
            · have hnx := fun ty => run_next_ascii (P := Tryz.prog) w t pos ty hp ha
              have hdig : ¬ (48 ≤ (t[pos]'hp).toNat ∧ (t[pos]'hp).toNat ≤ 57) → ¬ IsDec bs := fun h => not_dec_of (j := pos) hpl (by rw [hgp]; exact h)
              have hnext : (48 ≤ (t[pos]'hp).toNat ∧ (t[pos]'hp).toNat ≤ 57) → AllDec (bs.take (pos + 1)) := fun h => all_take_succ hall hpl (by rw [hgp]; exact h)
              obtain ⟨m, hm⟩ : ∃ m, (t[pos]'hp).toNat = m := ⟨_, rfl⟩
              rw [hm] at hnx hdig hnext
              clear hm hgp ha
              by_cases hlo : m < 48
              · have hd : ¬ IsDec bs := hdig (by omega)
                have HDD := Lib.hid hd
                clear hd
                clear hdig hnext
                go_wp2_with fail
                go_ret
                exact ⟨false, rfl, by simp [HDD.out], below_iter (Below.refl _ _) (Nat.le_refl _) _ _⟩
              · by_cases hhi : 57 < m
                · have hd : ¬ IsDec bs := hdig (by omega)
                  have HDD := Lib.hid hd
                  clear hd
                  clear hdig hnext
                  go_wp2_with fail
                  go_ret
                  exact ⟨false, rfl, by simp [HDD.out], below_iter (Below.refl _ _) (Nat.le_refl _) _ _⟩
                · have hd := hnext (by omega)
                  clear hdig hnext
                  go_wp2_with fail
                  go_roundg (gk - 1)
                  case measure => have := HG.out; omega
                  case rel => exact ⟨pos + 1, by have := HG.out; omega, rfl, hd⟩
            · have hd : ¬ IsDec bs := not_dec_of (j := pos) hpl (by rw [hgp]; omega)
              have HDD := Lib.hid hd
              clear hd
              have hnx := fun ty => run_next_any (P := Tryz.prog) w t pos ty hp
              have hhi := (decode_high t pos hp (by omega)).1
              obtain ⟨m, hm⟩ : ∃ m, (Utf8.decode t pos).1 = m := ⟨_, rfl⟩
              obtain ⟨l, hl⟩ : ∃ l, (Utf8.decode t pos).2 = l := ⟨_, rfl⟩
              rw [hm, hl] at hnx
              rw [hm] at hhi
              clear hm hl hgp ha
              go_wp2_with fail
              go_ret
              exact ⟨false, rfl, by simp [HDD.out], below_iter (Below.refl _ _) (Nat.le_refl _) _ _⟩
          · have hnx := fun ty => run_next_end (P := Tryz.prog) w t pos ty hp
            have hall2 : AllDec bs := by
              rw [List.take_of_length_le (by rw [HLEN.out]; omega)] at hall
              exact hall
            have hd : IsDec bs := ⟨HNE.out, HNZ.out, hall2⟩
            have HDD := Lib.hid hd
            clear hd
            go_wp2_with fail
            go_ret
            exact ⟨true, rfl, by simp [HDD.out], below_iter (Below.refl _ _) (Nat.le_refl _) _ _⟩
      · clear htl hne hnz hget hlen hhead hn48 hz
        go_enter Tryz.func120, Tryz.ntmps120
        go_wp2_with fail
        go_loopg [4] t.size (fun gh _ wr => ∃ pos, gh + pos = t.size ∧ wr = w.iter t pos ∧ AllDec (bs.take pos))
        case atStart => exact ⟨0, by omega, rfl, by simp [AllDec]⟩
        case round =>
          obtain ⟨pos, hg, rfl, hall⟩ := hrel
          have HG := Lib.hid hg
          clear hg
          by_cases hp : pos < t.size
          · obtain ⟨hpl, hgp⟩ := HGET.out pos hp
            by_cases ha : (t[pos]'hp).toNat < 128
            · have hnx := fun ty => run_next_ascii (P := Tryz.prog) w t pos ty hp ha
              have hdig : ¬ (48 ≤ (t[pos]'hp).toNat ∧ (t[pos]'hp).toNat ≤ 57) → ¬ IsDec bs := fun h => not_dec_of (j := pos) hpl (by rw [hgp]; exact h)
              have hnext : (48 ≤ (t[pos]'hp).toNat ∧ (t[pos]'hp).toNat ≤ 57) → AllDec (bs.take (pos + 1)) := fun h => all_take_succ hall hpl (by rw [hgp]; exact h)
              obtain ⟨m, hm⟩ : ∃ m, (t[pos]'hp).toNat = m := ⟨_, rfl⟩
              rw [hm] at hnx hdig hnext
              clear hm hgp ha
              by_cases hlo : m < 48
              · have hd : ¬ IsDec bs := hdig (by omega)
                have HDD := Lib.hid hd
                clear hd
                clear hdig hnext
                go_wp2_with fail
                go_ret
                exact ⟨false, rfl, by simp [HDD.out], below_iter (Below.refl _ _) (Nat.le_refl _) _ _⟩
              · by_cases hhi : 57 < m
                · have hd : ¬ IsDec bs := hdig (by omega)
                  have HDD := Lib.hid hd
                  clear hd
                  clear hdig hnext
                  go_wp2_with fail
                  go_ret
                  exact ⟨false, rfl, by simp [HDD.out], below_iter (Below.refl _ _) (Nat.le_refl _) _ _⟩
                · have hd := hnext (by omega)
                  clear hdig hnext
                  go_wp2_with fail
                  go_roundg (gk - 1)
                  case measure => have := HG.out; omega
                  case rel => exact ⟨pos + 1, by have := HG.out; omega, rfl, hd⟩
            · have hd : ¬ IsDec bs := not_dec_of (j := pos) hpl (by rw [hgp]; omega)
              have HDD := Lib.hid hd
              clear hd
              have hnx := fun ty => run_next_any (P := Tryz.prog) w t pos ty hp
              have hhi := (decode_high t pos hp (by omega)).1
              obtain ⟨m, hm⟩ : ∃ m, (Utf8.decode t pos).1 = m := ⟨_, rfl⟩
              obtain ⟨l, hl⟩ : ∃ l, (Utf8.decode t pos).2 = l := ⟨_, rfl⟩
              rw [hm, hl] at hnx
              rw [hm] at hhi
              clear hm hl hgp ha
              go_wp2_with fail
              go_ret
              exact ⟨false, rfl, by simp [HDD.out], below_iter (Below.refl _ _) (Nat.le_refl _) _ _⟩
          · have hnx := fun ty => run_next_end (P := Tryz.prog) w t pos ty hp
            have hall2 : AllDec bs := by
              rw [List.take_of_length_le (by rw [HLEN.out]; omega)] at hall
              exact hall
            have hd : IsDec bs := ⟨HNE.out, HNZ.out, hall2⟩
            have HDD := Lib.hid hd
            clear hd
            go_wp2_with fail
            go_ret
            exact ⟨true, rfl, by simp [HDD.out], below_iter (Below.refl _ _) (Nat.le_refl _) _ _⟩
end Go.Proofs.YtidbpkibjficnaaGreatDoor
/- What the program's own Parse is made of: chunk, timesAnd. -/

namespace Go.Proofs.YtidbpkibjficnaaGreatDoor
open Go.RowKit Num

set_option maxHeartbeats 1600000 in
theorem nat_chunk (t : ByteArray) (hsz : t.size ≤ 9) (hd : AllDec t.data.toList) (w : World) :
    Calls Tryz.prog 122 #[.string t] w fun e w' => e = .returned (.int .u32 ((decVal t.data.toList : Nat) : Int)) ∧ Below w.heap.size w w' := by
  obtain ⟨bs, hbs⟩ : ∃ bs, t.data.toList = bs := ⟨_, rfl⟩
  have hlen : bs.length = t.size := by rw [← hbs]; exact data_size t
  have hget : ∀ j (h : j < t.size), ∃ h' : j < bs.length, bs[j]'h' = t[j] := fun j h => ⟨by rw [hlen]; exact h, by subst hbs; exact data_get t h⟩
  rw [hbs] at hd ⊢
  have HLEN := Lib.hid hlen
  have HGET := Lib.hid hget
  have HD := Lib.hid hd
  clear hbs hget hlen hd
  go_enter Tryz.func122, Tryz.ntmps122
  go_wp2_with fail
  go_loopg [3] t.size (fun gh v wr => ∃ pos, gh + pos = t.size ∧ v = .int .u32 ((decVal (bs.take pos) : Nat) : Int) ∧ wr = w.iter t pos)
  case atStart => exact ⟨0, by omega, rfl, rfl⟩
  case round =>
    obtain ⟨pos, hg, rfl, rfl⟩ := hrel
    have HG := Lib.hid hg
    clear hg
    by_cases hp : pos < t.size
    · obtain ⟨hpl, hgp⟩ := HGET.out pos hp
      have hdig := HD.out.get hpl
      rw [hgp] at hdig
      have hnx := fun ty => run_next_ascii (P := Tryz.prog) w t pos ty hp (by omega)
      have hstep := decVal_take_succ hpl
      rw [hgp] at hstep
      have hV := decVal_lt (HD.out.take pos)
      rw [List.length_take, Nat.min_eq_left (by omega)] at hV
      have hV8 : (10 : Nat) ^ pos ≤ 10 ^ 8 := Nat.pow_le_pow_right (by omega) (by omega)
      obtain ⟨m, hm⟩ : ∃ m, (t[pos]'hp).toNat = m := ⟨_, rfl⟩
      obtain ⟨V, hVe⟩ : ∃ V, decVal (bs.take pos) = V := ⟨_, rfl⟩
      rw [hm] at hnx hdig hstep
      rw [hVe] at hstep hV ⊢
      have hV9 : V < 100000000 := by omega
      have HS := Lib.hid hstep
      clear hm hgp hVe hstep hV hV8
      go_wp2_with fail
      go_roundg (gk - 1)
      case measure => have := HG.out; omega
      case rel => exact ⟨pos + 1, by have := HG.out; omega, by rw [HS.out]; congr 1; omega, rfl⟩
    · have hnx := fun ty => run_next_end (P := Tryz.prog) w t pos ty hp
      rw [List.take_of_length_le (by rw [HLEN.out]; omega)]
      go_wp2_with fail
      go_ret
      exact ⟨rfl, below_iter (Below.refl _ _) (Nat.le_refl _) _ _⟩

theorem top_snoc {xs : List Nat} {c : Nat} (h : c ≠ 0) : Top (xs ++ [c]) := by
  unfold Top; rw [List.getLast?_concat]; intro e; exact h (Option.some.inj e)
theorem norm_times {xs cs : List Nat} {m more : Nat} (hx : Norm 4294967296 xs) (hl : cs.length = xs.length) (hd : Dg 4294967296 cs) (hm : 1 ≤ m) (hv : val 4294967296 cs = more + val 4294967296 xs * m) : Norm 4294967296 cs := by
  by_cases h0 : xs = []
  · subst h0
    obtain rfl : cs = [] := List.eq_nil_of_length_eq_zero hl
    exact norm_nil _
  · refine ⟨hd, top_of_le hd ?_⟩
    have h1 := top_le (b := 4294967296) hx.2 h0
    have h2 : val 4294967296 xs * 1 ≤ val 4294967296 xs * m := Nat.mul_le_mul_left _ hm
    rw [hl, hv]; omega

set_option maxHeartbeats 1600000 in
/-- the tail of timesAnd: a word behind the others where there is one -/
theorem nat_timesAnd (v : Value) (xs : List Nat) (base m more : Nat) (w : World) (hown : Own w base 50 .u32 v xs) (hbase : base ≤ w.heap.size) (hn : Norm 4294967296 xs) (hm1 : 1 ≤ m) (hm : m < 4294967296) (hmore : more < 4294967296) (hl : xs.length ≤ 1073741824) :
    Calls Tryz.prog 121 #[v, .int .u32 m, .int .u32 more] w fun e w' => ∃ v' ys, e = .returned v' ∧ Own w' base 50 .u32 v' ys ∧ Norm 4294967296 ys ∧ val 4294967296 ys = val 4294967296 xs * m + more ∧ ys.length ≤ xs.length + 1 ∧ Below base w w' := by
  rcases hown.2 with ⟨hv, h0⟩ | ⟨g, cap, cur, hv, hg, hh, hnc, hcm, hcs, -⟩
  · subst hv
    obtain rfl : xs = [] := List.eq_nil_of_length_eq_zero h0
    go_enter Tryz.func121, Tryz.ntmps121
    go_wp2_with fail
    go_loopg [7, 8, 9, 14] 0 (fun gh c' _ _ i wr => gh = 0 ∧ i = .int .i64 0 ∧ c' = .int .u64 (more : Nat) ∧ wr = w)
    case atStart => exact ⟨rfl, rfl, rfl, rfl⟩
    case round =>
      obtain ⟨rfl, rfl, rfl, rfl⟩ := hrel
      by_cases h00 : more = 0
      · subst h00
        go_wp2_with fail
        go_ret
        exact ⟨_, [], rfl, hown, norm_nil _, by simp [val], by simp, Below.refl _ _⟩
      · have hmm : (more : Int) % 4294967296 = (more : Int) := by omega
        go_wp2_with (at_builtin; refine wpList_app rfl _ _ _ rfl base 50 .u32 4 Tryz.underlying22 info_u32 (.slice none 0 0) [] rfl (hown.alloc _) wr.heap.size 1 1 [more] rfl rfl (by unfold Row; rw [heap_alloc_new]; simp [cells]) (by omega) (by simp) (by omega) (by simp; omega) ?_; intro v1 w3 hown1 hgrow)
        go_ret
        exact ⟨v1, [more], rfl, hown1, ⟨by simpa [Dg] using hmore, top_snoc (xs := []) h00⟩, by simp [val], by simp, ((Below.refl _ _).alloc hbase _).grown hgrow (by simp; omega) (fun q e => by cases e)⟩
  · subst hv
    have hlt := (World.ownsRow.lt hown g rfl).2
    clear hh hcs
    go_enter Tryz.func121, Tryz.ntmps121
    go_wp2_with fail
    go_loopg [7, 8, 9, 14] xs.length (fun gh c' _ _ i wr => ∃ (k cy : Nat) (cs : List Nat), gh + k = xs.length ∧ i = .int .i64 k ∧ c' = .int .u64 cy ∧ cy < 4294967296 ∧ cs.length = k ∧ Dg 4294967296 cs ∧ Own wr base 50 .u32 (.slice (some ⟨g, 0, none⟩) xs.length cap) (cs ++ xs.drop k) ∧ w.grownBy wr (some g) ∧
      val 4294967296 cs + 4294967296 ^ k * cy = more + val 4294967296 (xs.take k) * m)
    case atStart => exact ⟨0, more, [], by omega, rfl, rfl, hmore, rfl, Dg.nil _, hown, World.grownBy.refl _ _, by simp [val]⟩
    case round =>
      obtain ⟨k, cy, cs, hg2, rfl, rfl, hcy, rfl, hcd, hr, hgr, hv⟩ := hrel
      have HG := Lib.hid hg2
      have HV := Lib.hid hv
      clear hg2 hv
      by_cases hlt2 : cs.length < xs.length
      · have hll : (cs ++ xs.drop cs.length).length = xs.length := by rw [List.length_append, List.length_drop]; omega
        have hr' := hr
        unfold Own at hr'
        rw [hll] at hr'
        have ca := World.ownsRow.cellAt hr' cs.length (by omega)
        have hf := World.ownsRow.frozenAt hr' cs.length
        have hst := fun u => World.ownsRow.stored hr' cs.length u
        have hgc : (cells .u32 (cs ++ xs.drop cs.length))[cs.length]? = some (.int .u32 (xs[cs.length] : Int)) := by
          rw [get_cells (by rw [hll]; exact hlt2), List.getElem_append_right (Nat.le_refl _)]
          simp
        rw [hgc] at ca
        have hset : ∀ u : Nat, (cells .u32 (cs ++ xs.drop cs.length)).set cs.length (.int .u32 (u : Int)) = cells .u32 ((cs ++ [u]) ++ xs.drop (cs.length + 1)) := fun u => by
          have e1 : (cells .u32 (cs ++ xs.drop cs.length)).set cs.length (.int .u32 (u : Int)) = cells .u32 ((cs ++ xs.drop cs.length).set cs.length u) := by unfold cells; rw [List.map_set]
          rw [e1, List.set_append_right _ _ (Nat.le_refl _), Nat.sub_self, List.drop_eq_getElem_cons hlt2, List.append_assoc]
          rfl
        have hq1 := hn.1.get hlt2
        have hs2 := val_take_succ (b := 4294967296) hlt2
        obtain ⟨q, hq⟩ : ∃ q, xs[cs.length] = q := ⟨_, rfl⟩
        rw [hq] at ca hq1 hs2
        have HS2 := Lib.hid hs2
        have HST := Lib.hid hst
        have HSET := Lib.hid hset
        clear hq hs2 hst hset hgc hr'
        have hxq : q * m ≤ 4294967295 * 4294967295 := Nat.mul_le_mul (by omega) (by omega)
        have hxq1 : (q : Int) * (m : Int) ≤ 18446744065119617025 := by rw [← Int.natCast_mul]; omega
        have hxq0 : 0 ≤ (q : Int) * (m : Int) := by rw [← Int.natCast_mul]; omega
        go_wp2_with fail
        go_roundg (gk - 1)
        case measure => have := HG.out; omega
        case rel =>
          obtain ⟨h1, h2⟩ := HST.out (.int .u32 (((cy + (m * q + 0)) % 4294967296 : Nat) : Int))
          rw [HSET.out] at h1
          have e1 : ((cy : Int) + (q : Int) * (m : Int)) = ((cy + (m * q + 0) : Nat) : Int) := by rw [Nat.add_zero, Nat.mul_comm m q, Int.natCast_add, Int.natCast_mul]
          rw [e1]
          have hmq : m * q ≤ 4294967295 * 4294967295 := by rw [Nat.mul_comm]; exact hxq
          refine ⟨cs.length + 1, (cy + (m * q + 0)) / 4294967296, cs ++ [(cy + (m * q + 0)) % 4294967296], by have := HG.out; omega, by go_num, by go_num, by omega, by simp, hcd.snoc (Nat.mod_lt _ (by omega)), ?_, grown_trans hgr h2, ?_⟩
          · unfold Own
            have hll2 : ((cs ++ [(cy + (m * q + 0)) % 4294967296]) ++ xs.drop (cs.length + 1)).length = xs.length := by simp; omega
            rw [hll2]
            exact h1
          · have hmm := mul_step (x := m) (p := 0) (q := q) rfl HV.out
            rw [hmm, HS2.out]; simp
      · have hk : cs.length = xs.length := by have := HG.out; omega
        have hv := HV.out
        rw [hk, List.take_length] at hv
        rw [hk, List.drop_length, List.append_nil] at hr
        have hbel : Below base w wr := (Below.refl _ _).grown hgr hbase (fun q e => by injection e with e; omega)
        have hbs := hbel.size
        have HVV := Lib.hid hv
        have HK := Lib.hid hk
        have HR := Lib.hid hr
        clear hv hk hr
        by_cases h00 : cy = 0
        · subst h00
          go_wp2_with fail
          go_ret
          have hv := HVV.out
          rw [Nat.mul_zero, Nat.add_zero] at hv
          exact ⟨_, cs, rfl, HR.out, norm_times hn HK.out hcd hm1 hv, by rw [hv]; omega, by have := HK.out; omega, hbel⟩
        · have hmm : (cy : Int) % 4294967296 = (cy : Int) := by omega
          go_wp2_with (at_builtin; refine wpList_app rfl _ _ _ rfl base 50 .u32 4 Tryz.underlying22 info_u32 (.slice (some ⟨g, 0, none⟩) xs.length cap) cs rfl (HR.out.alloc _) wr.heap.size 1 1 [cy] rfl rfl (by unfold Row; rw [heap_alloc_new]; simp [cells]) (by omega) (by have := HK.out; omega) (by omega) (by simp; omega) ?_; intro v1 w3 hown1 hgrow)
          go_ret
          refine ⟨v1, cs ++ [cy], rfl, hown1, ⟨hcd.snoc hcy, top_snoc h00⟩, ?_, by have := HK.out; simp; omega, (hbel.alloc (Nat.le_trans hbase hbs) _).grown hgrow (by simp; omega) (fun q e => by injection e with e; subst e; exact hg)⟩
          rw [val_snoc, HK.out, HVV.out]; omega
end Go.Proofs.YtidbpkibjficnaaGreatDoor
/- What the program's own Parse answers. -/

namespace Go.Proofs.YtidbpkibjficnaaGreatDoor
open Go.RowKit Num

theorem extract_data (t : ByteArray) (a b : Nat) : (t.extract a b).data.toList = (t.data.toList.drop a).take (b - a) := by
  rw [ByteArray.data_extract, Array.toList_extract]
theorem extract_size (t : ByteArray) {a b : Nat} (h : b ≤ t.size) : (t.extract a b).size = b - a := by
  rw [← data_size, extract_data, List.length_take, List.length_drop, data_size]; omega
theorem decVal_take_add (bs : List UInt8) (p k : Nat) (h : p + k ≤ bs.length) : decVal (bs.take (p + k)) = decVal (bs.take p) * 10 ^ k + decVal ((bs.drop p).take k) := by
  rw [List.take_add, decVal_append, List.length_take, List.length_drop, Nat.min_eq_left (by omega)]
/-- what a text is read as: a number and no error, or an error -/
def IsParse (bs : List UInt8) (N er : Nat) : Prop := (2000 < bs.length ∧ N = 0 ∧ er = 4) ∨ (bs.length ≤ 2000 ∧ ¬ IsDec bs ∧ N = 0 ∧ er = 3) ∨ (bs.length ≤ 2000 ∧ IsDec bs ∧ N = decVal bs ∧ er = 0)
theorem IsParse.unique {bs : List UInt8} {N M er fr : Nat} (h : IsParse bs N er) (k : IsParse bs M fr) : N = M ∧ er = fr := by
  rcases h with ⟨h1, h2, h3⟩ | ⟨h1, h4, h2, h3⟩ | ⟨h1, h4, h2, h3⟩ <;> rcases k with ⟨k1, k2, k3⟩ | ⟨k1, k4, k2, k3⟩ | ⟨k1, k4, k2, k3⟩
  all_goals first | (exfalso; omega) | exact absurd k4 h4 | exact absurd h4 k4 | exact ⟨by rw [h2, k2], by rw [h3, k3]⟩
/-- a number that a text is read as -/
def Parses (bs : List UInt8) (w : World) (e : Ending) (w' : World) : Prop :=
  ∃ A xs c er, e = .returned (.tuple #[.slice A xs.length c, .int .i64 (er : Nat)]) ∧ xs.length ≤ c ∧ Norm 4294967296 xs ∧ IsParse bs (val 4294967296 xs) er ∧ Rd w' (fun g => g < w'.heap.size) .u32 A xs ∧ Below w.heap.size w w'

set_option maxHeartbeats 1600000 in
theorem nat_Parse (t : ByteArray) (hsz : t.size ≤ 1048576) (w : World) :
    Calls Tryz.prog 82 #[.string t] w (Parses t.data.toList w) := by
  obtain ⟨bs, hbs⟩ : ∃ bs, t.data.toList = bs := ⟨_, rfl⟩
  have hlen : bs.length = t.size := by rw [← hbs]; exact data_size t
  have cd := nat_decimal t hsz w
  rw [hbs] at cd ⊢
  by_cases hbig : 2000 < t.size
  · have HP := Lib.hid (show IsParse bs 0 4 from .inl ⟨by omega, rfl, rfl⟩)
    clear cd hbs hlen
    go_enter Tryz.func82, Tryz.ntmps82
    go_wp2_with fail
    go_ret2
    exact ⟨none, [], 0, 4, rfl, by simp, norm_nil _, HP.out, Rd.nil, Below.refl _ _⟩
  · have HLEN := Lib.hid hlen
    have HBS := Lib.hid hbs
    clear hlen hbs
    go_enter Tryz.func82, Tryz.ntmps82
    go_wp2_with fail
    refine cd.mono ?_
    rintro e w1 ⟨d, rfl, hd, hb1⟩
    clear cd
    cases d with
    | false =>
      have HP := Lib.hid (show IsParse bs 0 3 from .inr (.inl ⟨by have := HLEN.out; omega, by simpa using hd, rfl, rfl⟩))
      clear hd
      go_wp2_with fail
      go_ret2
      exact ⟨none, [], 0, 3, rfl, by simp, norm_nil _, HP.out, Rd.nil, hb1⟩
    | true =>
      have HD := Lib.hid (show IsDec bs from hd.1 rfl)
      clear hd
      obtain ⟨f, hf⟩ : ∃ f, t.size % 9 = f := ⟨_, rfl⟩
      have hfI : (t.size : Int) % 9 = (f : Int) := by omega
      have hf9 : f < 9 := by omega
      have hft : f ≤ t.size := by omega
      have hfm : (t.size - f) % 9 = 0 := by omega
      have hfd : (t.extract 0 f).data.toList = bs.take f := by rw [extract_data, HBS.out, List.drop_zero, Nat.sub_zero]
      have hfs : (t.extract 0 f).size = f := by rw [extract_size _ hft, Nat.sub_zero]
      have cc := nat_chunk (t.extract 0 f) (by rw [hfs]; omega) (by rw [hfd]; exact HD.out.2.2.take f) w1
      have hVlt := decVal_lt (HD.out.2.2.take f)
      have hV9 : (10 : Nat) ^ (bs.take f).length ≤ 10 ^ 8 := Nat.pow_le_pow_right (by omega) (by rw [List.length_take]; omega)
      rw [hfd] at cc
      obtain ⟨V, hV⟩ : ∃ V, decVal (bs.take f) = V := ⟨_, rfl⟩
      rw [hV] at cc hVlt
      have hV32 : V < 4294967296 := by omega
      have HV := Lib.hid hV
      have hrd : (t.extract f t.size).data.toList = bs.drop f := by rw [extract_data, HBS.out, List.take_of_length_le (by rw [List.length_drop, HLEN.out]; omega)]
      have hrs : (t.extract f t.size).size = t.size - f := extract_size _ (Nat.le_refl _)
      have HF := Lib.hid hf
      have HRD := Lib.hid hrd
      have HRS := Lib.hid hrs
      clear hfd hfs hV hVlt hV9 hrd hrs hf
      have hs1 := hb1.size
      go_wp2_with fail
      refine cc.mono ?_
      rintro e w2 ⟨rfl, hb2⟩
      have B2 : Below w.heap.size w w2 := hb1.trans (hb2.mono hs1)
      have hs2 := B2.size
      have ct := nat_timesAnd (.slice none 0 0) [] w.heap.size 1000000000 V w2 (Own.nil _ _ _ _) hs2 (norm_nil _) (by omega) (by omega) hV32 (by simp)
      clear cc hb2
      go_wp2_with fail
      refine ct.mono ?_
      rintro e w3 ⟨v3, xs3, rfl, hown3, hn3, hv3, hl3, hb3⟩
      have B3 : Below w.heap.size w w3 := B2.trans hb3
      have HO3 := Lib.hid hown3
      have HV3 := Lib.hid hv3
      have HN3 := Lib.hid hn3
      clear ct hown3 hv3 hn3 hb3
      go_wp2_with fail
      go_loopg [0, 4] (t.size / 9) (fun gh sv out wr => ∃ (t' : ByteArray) (v : Value) (xs : List Nat) (pos : Nat), sv = .string t' ∧ out = v ∧ t'.size = 9 * gh ∧ pos + t'.size = t.size ∧ t'.data.toList = bs.drop pos ∧ Own wr w.heap.size 50 .u32 v xs ∧ Norm 4294967296 xs ∧ val 4294967296 xs = decVal (bs.take pos) ∧ xs.length ≤ pos + 1 ∧ Below w.heap.size w wr)
      case atStart =>
        refine ⟨t.extract f t.size, v3, xs3, f, ?_, rfl, by rw [HRS.out]; omega, by rw [HRS.out]; omega, HRD.out, HO3.out, HN3.out, by rw [HV3.out, HV.out]; simp [val], by simp at hl3; omega, B3⟩
        first | rfl | (congr 1; omega)
      case round =>
        obtain ⟨t', v, xs, pos, rfl, rfl, ht1, ht2, ht3, hown, hn, hv, hl, B⟩ := hrel
        have HOW := Lib.hid hown
        have HNN := Lib.hid hn
        have HVV := Lib.hid hv
        have HT3 := Lib.hid ht3
        have HT1 := Lib.hid ht1
        have HT2 := Lib.hid ht2
        clear hv ht3 ht1 ht2 B2 hs2 B3
        have hBs := B.size
        by_cases hz : t'.size = 0
        · obtain ⟨A, c, rfl, hc, -, hrd⟩ := hown.form
          have hpos : pos = t.size := by have := HT2.out; omega
          have HR := Lib.hid (show Rd wr (fun g => g < wr.heap.size) .u32 A xs from hrd.imp (fun b hb => hb.2))
          have HP := Lib.hid (show IsParse bs (val 4294967296 xs) 0 from .inr (.inr ⟨by have := HLEN.out; omega, HD.out, by rw [HVV.out, List.take_of_length_le (by rw [HLEN.out]; omega)], rfl⟩))
          clear hown hn hrd hpos
          go_wp2_with fail
          go_ret2
          exact ⟨A, xs, c, 0, rfl, hc, HNN.out, HP.out, HR.out, B⟩
        · have h9 : 9 ≤ t'.size := by have := HT1.out; omega
          have hfd : (t'.extract 0 9).data.toList = (bs.drop pos).take 9 := by rw [extract_data, HT3.out, List.drop_zero]
          have hfs : (t'.extract 0 9).size = 9 := by rw [extract_size _ h9]
          have hall := (HD.out.2.2.drop pos).take 9
          have cc := nat_chunk (t'.extract 0 9) (by omega) (by rw [hfd]; exact hall) wr
          have hVlt := decVal_lt hall
          have hV9 : (10 : Nat) ^ ((bs.drop pos).take 9).length ≤ 10 ^ 9 := Nat.pow_le_pow_right (by omega) (by rw [List.length_take]; omega)
          rw [hfd] at cc
          have hadd := decVal_take_add bs pos 9 (by have := HLEN.out; have := HT2.out; omega)
          obtain ⟨V', hV'⟩ : ∃ V', decVal ((bs.drop pos).take 9) = V' := ⟨_, rfl⟩
          rw [hV'] at cc hVlt hadd
          have hV32 : V' < 4294967296 := by omega
          have hrd : (t'.extract 9 t'.size).data.toList = bs.drop (pos + 9) := by rw [extract_data, HT3.out, List.drop_drop, List.take_of_length_le (by rw [List.length_drop, HLEN.out]; have := HT2.out; omega)]
          have hrs : (t'.extract 9 t'.size).size = t'.size - 9 := extract_size _ (Nat.le_refl _)
          have HRD' := Lib.hid hrd
          have HRS' := Lib.hid hrs
          have HADD := Lib.hid hadd
          have hxl : xs.length ≤ 2001 := by have := HT2.out; omega
          clear hfd hfs hV' hVlt hV9 hrd hrs hall hadd hown
          go_wp2_with fail
          refine cc.mono ?_
          rintro e w5 ⟨rfl, hb5⟩
          have B5 : Below w.heap.size w w5 := B.trans (hb5.mono hBs)
          have hs5 := B5.size
          have ct := nat_timesAnd _ xs w.heap.size 1000000000 V' w5 (HOW.out.below hb5 (Nat.le_refl _)) hs5 hn (by omega) (by omega) hV32 (by omega)
          clear cc hb5
          go_wp2_with fail
          refine ct.mono ?_
          rintro e w6 ⟨v6, xs6, rfl, hown6, hn6, hv6, hl6, hb6⟩
          have B6 : Below w.heap.size w w6 := B5.trans hb6
          have HO6 := Lib.hid hown6
          have HV6 := Lib.hid hv6
          have HN6 := Lib.hid hn6
          clear ct hown6 hv6 hn6 hb6 hn
          go_wp2_with fail
          go_roundg (gk - 1)
          case measure => have := HT1.out; omega
          case rel =>
            refine ⟨t'.extract 9 t'.size, v6, xs6, pos + 9, rfl, rfl, by have := HT1.out; rw [HRS'.out]; omega, by have := HT2.out; rw [HRS'.out]; omega, HRD'.out, HO6.out, HN6.out, ?_, by omega, B6⟩
            rw [HV6.out, HADD.out, HVV.out]
set_option maxHeartbeats 1600000 in
/-- a text of any length -/
theorem nat_Parse_any (t : ByteArray) (hsz : t.size ≤ 20971521) (w : World) :
    Calls Tryz.prog 82 #[.string t] w (Parses t.data.toList w) := by
  by_cases hbig : 2000 < t.size
  · have HP := Lib.hid (show IsParse t.data.toList 0 4 from .inl ⟨by rw [data_size]; omega, rfl, rfl⟩)
    go_enter Tryz.func82, Tryz.ntmps82
    go_wp2_with fail
    go_ret2
    exact ⟨none, [], 0, 4, rfl, by simp, norm_nil _, HP.out, Rd.nil, Below.refl _ _⟩
  · exact nat_Parse t (by omega) w

end Go.Proofs.YtidbpkibjficnaaGreatDoor
