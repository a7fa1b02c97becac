/- Plain facts about decimal texts: a number's digits, the number of digits, pieces of nine. -/
import Derived.Test.YtbhahddgajkchaaZBase
import Derived.Lib.ItoaNum
import Derived.Test.YtbhahddgajkchaaZNatX
import Derived.Laws.RangeString
import Derived.Laws.RangeAny
import Derived.Laws.Strings
import Derived.BigQuiet
import Derived.Laws.OwnMore
namespace Go.Proofs.Ytbhahddgajkchaa.Num
open Go.Lib (decDigits decDigits_length decDigits_one nDigits)

theorem dec_small {u : Nat} (h : u < 10) : decDigits u = [UInt8.ofNat (48 + u % 10)] := by rw [decDigits_one h, Nat.mod_eq_of_lt h]
theorem dec_big {u : Nat} (h : ¬ u < 10) : decDigits u = decDigits (u / 10) ++ [UInt8.ofNat (48 + u % 10)] := by
  rw [decDigits, dif_neg h]
theorem dec_digit {r : Nat} (h : r < 10) : (UInt8.ofNat (48 + r)).toNat = 48 + r := by
  rw [UInt8.toNat_ofNat']; exact Nat.mod_eq_of_lt (by omega)
theorem dec_len_pos (u : Nat) : 1 ≤ (decDigits u).length := by rw [decDigits_length]; exact Lib.nDigits_pos u
theorem dec_len_le : ∀ (k u : Nat), u < 10 ^ (k + 1) → (decDigits u).length ≤ k + 1
  | 0, u, h => by rw [dec_small (by simpa using h)]; simp
  | k + 1, u, h => by
    by_cases h10 : u < 10
    · rw [dec_small h10]; simp
    · rw [dec_big h10, List.length_append]
      have := dec_len_le k (u / 10) (by rw [Nat.pow_succ] at h; omega)
      simp; omega
/-- the k lowest digits of r, with noughts ahead -/
def pad : Nat → Nat → List UInt8
  | 0, _ => []
  | k + 1, r => pad k (r / 10) ++ [UInt8.ofNat (48 + r % 10)]
theorem pad_length (k r : Nat) : (pad k r).length = k := by
  induction k generalizing r with
  | zero => rfl
  | succ k ih => simp [pad, ih]
theorem pad_zero (k : Nat) : pad k 0 = List.replicate k 48 := by
  induction k with
  | zero => rfl
  | succ k ih => rw [pad, Nat.zero_div, ih, List.replicate_succ']; rfl
theorem pad_eq : ∀ (k r : Nat), r < 10 ^ k → 1 ≤ k → pad k r = List.replicate (k - (decDigits r).length) 48 ++ decDigits r
  | 0, _, _, h => absurd h (by omega)
  | k + 1, r, h, _ => by
    rw [pad]
    by_cases h10 : r < 10
    · rw [Nat.div_eq_of_lt h10, pad_zero, dec_small h10]; simp
    · have hk : 1 ≤ k := by
        rcases Nat.eq_zero_or_pos k with h0 | h0
        · subst h0; rw [Nat.zero_add, Nat.pow_one] at h; omega
        · exact h0
      rw [pad_eq k (r / 10) (by rw [Nat.pow_succ] at h; omega) hk, dec_big h10, List.length_append, List.append_assoc]
      congr 2
      simp
/-- a number's digits, the k lowest of them apart -/
theorem dec_split : ∀ (k M r : Nat), 0 < M → r < 10 ^ k → decDigits (M * 10 ^ k + r) = decDigits M ++ pad k r
  | 0, M, r, _, h => by
    rw [Nat.pow_zero] at h
    obtain rfl : r = 0 := by omega
    simp [pad]
  | k + 1, M, r, hM, h => by
    have hp : 1 ≤ 10 ^ k := Nat.one_le_pow _ _ (by omega)
    have hM1 : 10 ^ k ≤ M * 10 ^ k := Nat.le_mul_of_pos_left _ hM
    have e : M * 10 ^ (k + 1) = 10 * (M * 10 ^ k) := by rw [Nat.pow_succ]; grind
    have e1 : (M * 10 ^ (k + 1) + r) / 10 = M * 10 ^ k + r / 10 := by rw [e, Nat.mul_add_div (by omega)]
    have e2 : (M * 10 ^ (k + 1) + r) % 10 = r % 10 := by rw [e, Nat.mul_add_mod]
    rw [dec_big (by omega), e1, e2, dec_split k M (r / 10) hM (by rw [Nat.pow_succ] at h; omega), pad, List.append_assoc]

/-- what digits are worth -/
def decVal (bs : List UInt8) : Nat := bs.foldl (fun v c => v * 10 + (c.toNat - 48)) 0
theorem decVal_nil : decVal [] = 0 := rfl
theorem decVal_snoc (bs : List UInt8) (c : UInt8) : decVal (bs ++ [c]) = decVal bs * 10 + (c.toNat - 48) := by
  simp [decVal, List.foldl_append]
theorem decVal_from (cs : List UInt8) : ∀ v, cs.foldl (fun v c => v * 10 + (c.toNat - 48)) v = v * 10 ^ cs.length + decVal cs := by
  induction cs with
  | nil => intro v; simp [decVal_nil]
  | cons c cs ih =>
    intro v
    have h1 := ih (v * 10 + (c.toNat - 48))
    have h2 : decVal (c :: cs) = (c.toNat - 48) * 10 ^ cs.length + decVal cs := by
      show cs.foldl (fun v c => v * 10 + (c.toNat - 48)) (0 * 10 + (c.toNat - 48)) = _
      rw [ih, Nat.zero_mul, Nat.zero_add]
    rw [List.foldl_cons, h1, h2, List.length_cons, Nat.pow_succ]
    grind
theorem decVal_append (bs cs : List UInt8) : decVal (bs ++ cs) = decVal bs * 10 ^ cs.length + decVal cs := by
  rw [decVal, List.foldl_append, decVal_from]
  rfl
/-- digits only -/
def AllDec (bs : List UInt8) : Prop := ∀ c ∈ bs, 48 ≤ c.toNat ∧ c.toNat ≤ 57
theorem AllDec.append {bs cs : List UInt8} : AllDec (bs ++ cs) ↔ AllDec bs ∧ AllDec cs := by
  simp only [AllDec, List.mem_append]
  exact ⟨fun h => ⟨fun c hc => h c (.inl hc), fun c hc => h c (.inr hc)⟩, fun h c hc => hc.elim (h.1 c) (h.2 c)⟩
theorem AllDec.get {bs : List UInt8} (h : AllDec bs) {j : Nat} (hj : j < bs.length) : 48 ≤ bs[j].toNat ∧ bs[j].toNat ≤ 57 := h _ (List.getElem_mem hj)
theorem AllDec.take {bs : List UInt8} (h : AllDec bs) (n : Nat) : AllDec (bs.take n) := fun c hc => h c (List.mem_of_mem_take hc)
theorem AllDec.drop {bs : List UInt8} (h : AllDec bs) (n : Nat) : AllDec (bs.drop n) := fun c hc => h c (List.mem_of_mem_drop hc)
theorem decVal_lt {bs : List UInt8} (h : AllDec bs) : decVal bs < 10 ^ bs.length := by
  induction bs with
  | nil => simp [decVal_nil]
  | cons c bs ih =>
    have h3 := ih fun d hd => h d (by simp [hd])
    have h4 := h c (by simp)
    have e : decVal (c :: bs) = (c.toNat - 48) * 10 ^ bs.length + decVal bs := by
      have := decVal_append [c] bs
      rw [show decVal [c] = c.toNat - 48 by simp [decVal]] at this
      exact this
    have h5 : (c.toNat - 48 + 1) * 10 ^ bs.length ≤ 10 * 10 ^ bs.length := Nat.mul_le_mul_right _ (by omega)
    rw [Nat.add_mul, Nat.one_mul] at h5
    rw [e, List.length_cons, Nat.pow_succ]
    omega
theorem decVal_take_succ {bs : List UInt8} {k : Nat} (h : k < bs.length) : decVal (bs.take (k + 1)) = decVal (bs.take k) * 10 + (bs[k].toNat - 48) := by
  rw [List.take_succ_eq_append_getElem h, decVal_snoc]
theorem dec_all (u : Nat) : AllDec (decDigits u) := by
  induction u using Nat.strongRecOn with
  | _ u ih =>
    have hd : AllDec [UInt8.ofNat (48 + u % 10)] := fun c hc => by
      rw [List.mem_singleton] at hc
      rw [hc, dec_digit (Nat.mod_lt _ (by omega))]
      have := Nat.mod_lt u (show 10 > 0 by omega)
      omega
    by_cases h : u < 10
    · rw [dec_small h]; exact hd
    · rw [dec_big h]; exact AllDec.append.2 ⟨ih _ (by omega), hd⟩
theorem decVal_dec (u : Nat) : decVal (decDigits u) = u := by
  induction u using Nat.strongRecOn with
  | _ u ih =>
    have hm := Nat.mod_lt u (show 10 > 0 by omega)
    by_cases h : u < 10
    · rw [dec_small h]
      show 0 * 10 + ((UInt8.ofNat (48 + u % 10)).toNat - 48) = u
      rw [dec_digit hm]; omega
    · rw [dec_big h, decVal_snoc, ih _ (by omega), dec_digit hm]; omega
/-- a text of a number: digits, without a nought ahead -/
def IsDec (bs : List UInt8) : Prop := bs ≠ [] ∧ ¬ (1 < bs.length ∧ bs.head? = some 48) ∧ AllDec bs
theorem dec_head {u : Nat} (h : 0 < u) : (decDigits u).head? ≠ some 48 := by
  induction u using Nat.strongRecOn with
  | _ u ih =>
    by_cases h10 : u < 10
    · rw [dec_small h10, List.head?_cons]
      intro e
      have e1 : UInt8.ofNat (48 + u % 10) = 48 := Option.some.inj e
      have e2 := dec_digit (Nat.mod_lt u (show 10 > 0 by omega))
      rw [e1] at e2
      have : (48 : UInt8).toNat = 48 := rfl
      omega
    · rw [dec_big h10]
      have h1 := dec_len_pos (u / 10)
      have h2 := ih (u / 10) (by omega) (by omega)
      match hd : decDigits (u / 10), h1, h2 with
      | c :: cs, _, h2 => exact h2
theorem dec_isDec (u : Nat) : IsDec (decDigits u) := by
  refine ⟨fun e => by have := dec_len_pos u; rw [e] at this; simp at this, ?_, dec_all u⟩
  rintro ⟨h1, h2⟩
  rcases Nat.eq_zero_or_pos u with h0 | h0
  · subst h0
    rw [dec_small (by omega)] at h1
    simp at h1
  · exact dec_head h0 h2
/-- a number of so many words has so many digits -/
theorem dec_len_words {n u : Nat} (h : u < 4294967296 ^ n) : (decDigits u).length ≤ 10 * n + 1 := by
  refine dec_len_le (10 * n) u (Nat.lt_of_lt_of_le h ?_)
  have h1 : (4294967296 : Nat) ^ n ≤ (10 ^ 10) ^ n := Nat.pow_le_pow_left (by decide) n
  rw [← Nat.pow_mul] at h1
  exact Nat.le_trans h1 (Nat.pow_le_pow_right (by omega) (by omega))
end Go.Proofs.Ytbhahddgajkchaa.Num
/- What the program's own Parse is made of: decimal, chunk, timesAnd. -/

namespace Go.Proofs.Ytbhahddgajkchaa
open Go.RowKit Num

/-- whether it is so -/
def Tells (p : Prop) (w : World) (e : Ending) (w' : World) : Prop := ∃ d : Bool, e = .returned (.bool d) ∧ (d = true ↔ p) ∧ Below w.heap.size w w'
theorem below_iter {B : Nat} {w0 w : World} (h : Below B w0 w) (hB : B ≤ w.heap.size) (t : ByteArray) (pos : Nat) : Below B w0 (w.iter t pos) := h.alloc hB _
theorem data_size (t : ByteArray) : t.data.toList.length = t.size := by rw [Array.length_toList]; rfl
theorem data_get (t : ByteArray) {j : Nat} (h : j < t.size) : t.data.toList[j]'(by rw [data_size]; exact h) = t[j] := by
  rw [Array.getElem_toList]; rfl
theorem not_dec_of {bs : List UInt8} {j : Nat} (hj : j < bs.length) (h : ¬ (48 ≤ bs[j].toNat ∧ bs[j].toNat ≤ 57)) : ¬ IsDec bs := fun hd => h (hd.2.2.get hj)
theorem all_take_succ {bs : List UInt8} {k : Nat} (h : AllDec (bs.take k)) (hk : k < bs.length) (hc : 48 ≤ bs[k].toNat ∧ bs[k].toNat ≤ 57) : AllDec (bs.take (k + 1)) := by
  rw [List.take_succ_eq_append_getElem hk]
  exact AllDec.append.2 ⟨h, fun c hc' => by rw [List.mem_singleton] at hc'; rw [hc']; exact hc⟩

end Go.Proofs.Ytbhahddgajkchaa
/- What the program's own Parse is made of: chunk, timesAnd. -/

namespace Go.Proofs.Ytbhahddgajkchaa
open Go.RowKit Num

theorem top_snoc {xs : List Nat} {c : Nat} (h : c ≠ 0) : Top (xs ++ [c]) := by
  unfold Top; rw [List.getLast?_concat]; intro e; exact h (Option.some.inj e)
theorem norm_times {xs cs : List Nat} {m more : Nat} (hx : Norm 4294967296 xs) (hl : cs.length = xs.length) (hd : Dg 4294967296 cs) (hm : 1 ≤ m) (hv : val 4294967296 cs = more + val 4294967296 xs * m) : Norm 4294967296 cs := by
  by_cases h0 : xs = []
  · subst h0
    obtain rfl : cs = [] := List.eq_nil_of_length_eq_zero hl
    exact norm_nil _
  · refine ⟨hd, top_of_le hd ?_⟩
    have h1 := top_le (b := 4294967296) hx.2 h0
    have h2 : val 4294967296 xs * 1 ≤ val 4294967296 xs * m := Nat.mul_le_mul_left _ hm
    rw [hl, hv]; omega

end Go.Proofs.Ytbhahddgajkchaa
/- What the program's own Parse answers. -/

namespace Go.Proofs.Ytbhahddgajkchaa
open Go.RowKit Num

theorem extract_data (t : ByteArray) (a b : Nat) : (t.extract a b).data.toList = (t.data.toList.drop a).take (b - a) := by
  rw [ByteArray.data_extract, Array.toList_extract]
theorem extract_size (t : ByteArray) {a b : Nat} (h : b ≤ t.size) : (t.extract a b).size = b - a := by
  rw [← data_size, extract_data, List.length_take, List.length_drop, data_size]; omega
theorem decVal_take_add (bs : List UInt8) (p k : Nat) (h : p + k ≤ bs.length) : decVal (bs.take (p + k)) = decVal (bs.take p) * 10 ^ k + decVal ((bs.drop p).take k) := by
  rw [List.take_add, decVal_append, List.length_take, List.length_drop, Nat.min_eq_left (by omega)]
/-- what a text is read as: a number and no error, or an error -/
def IsParse (bs : List UInt8) (N er : Nat) : Prop := (2000 < bs.length ∧ N = 0 ∧ er = 4) ∨ (bs.length ≤ 2000 ∧ ¬ IsDec bs ∧ N = 0 ∧ er = 3) ∨ (bs.length ≤ 2000 ∧ IsDec bs ∧ N = decVal bs ∧ er = 0)
theorem IsParse.unique {bs : List UInt8} {N M er fr : Nat} (h : IsParse bs N er) (k : IsParse bs M fr) : N = M ∧ er = fr := by
  rcases h with ⟨h1, h2, h3⟩ | ⟨h1, h4, h2, h3⟩ | ⟨h1, h4, h2, h3⟩ <;> rcases k with ⟨k1, k2, k3⟩ | ⟨k1, k4, k2, k3⟩ | ⟨k1, k4, k2, k3⟩
  all_goals first | (exfalso; omega) | exact absurd k4 h4 | exact absurd h4 k4 | exact ⟨by rw [h2, k2], by rw [h3, k3]⟩
/-- a number that a text is read as -/
def Parses (bs : List UInt8) (w : World) (e : Ending) (w' : World) : Prop :=
  ∃ A xs c er, e = .returned (.tuple #[.slice A xs.length c, .int .i64 (er : Nat)]) ∧ xs.length ≤ c ∧ Norm 4294967296 xs ∧ IsParse bs (val 4294967296 xs) er ∧ Rd w' (fun g => g < w'.heap.size) .u32 A xs ∧ Below w.heap.size w w'

end Go.Proofs.Ytbhahddgajkchaa
