/- A number's text as mathematics: its value, its length, what a reading within limits answers. -/
import Derived.Test.YtchfbpgbojnakaaDoorZFgY
import Derived.Test.YtchfbpgbojnakaaDoorZWhJ
import Derived.Test.YtchfbpgbojnakaaDoorZWhY
import Derived.Lib.AtoiAll
import Derived.Lib.AtoiAllCases
import Derived.Test.YtchfbpgbojnakaaDoorZBase
import Derived.Lib.OthersKept
import Derived.Laws.RangeAny
import Derived.BigQuiet
import Derived.Test.YtchfbpgbojnakaaDoorZNatY
import Derived.Lib.AtoiErrMem
namespace Go.Proofs.YtchfbpgbojnakaaDoor
open Go.RowKit Num

def sigVal (bs : By) : Int := if bs.head? = some 45 then -(decVal (bs.drop 1) : Int) else decVal bs
theorem dec_long {ds : By} {k : Nat} (h : IsDec ds) (hl : ds.length = k + 2) : 10 ^ (k + 1) ≤ decVal ds := by
  match ds, hl with
  | c :: cs, hl =>
    have hc := h.2.2 c (by simp)
    have h1 : c ≠ 48 := fun e => h.2.1 ⟨by rw [hl]; omega, by rw [e]; rfl⟩
    have h2 : c.toNat ≠ 48 := fun e => h1 (UInt8.toNat_inj.1 (by rw [e]; rfl))
    have e : decVal (c :: cs) = decVal [c] * 10 ^ cs.length + decVal cs := decVal_append [c] cs
    have e1 : decVal [c] = c.toNat - 48 := by simp [decVal]
    have hl2 : cs.length = k + 1 := by simp at hl; omega
    rw [e, e1, hl2]
    have : 1 * 10 ^ (k + 1) ≤ (c.toNat - 48) * 10 ^ (k + 1) := Nat.mul_le_mul_right _ (by omega)
    omega
theorem dec_pos {ds : By} (h : IsDec ds) (hn : ds ≠ [48]) : 0 < decVal ds := by
  match hd : ds, h with
  | [], h => exact absurd rfl h.1
  | [c], h =>
    have hc := h.2.2 c (by simp)
    have h2 : c.toNat ≠ 48 := fun e => hn (by rw [UInt8.toNat_inj.1 (show c.toNat = (48 : UInt8).toNat by rw [e]; rfl)])
    have e1 : decVal [c] = c.toNat - 48 := by simp [decVal]
    rw [e1]; omega
  | c :: d :: cs, h =>
    have := dec_long (k := cs.length) h (by simp)
    have h1 : 0 < 10 ^ (cs.length + 1) := Nat.pow_pos (by omega)
    omega
theorem sig_parse {bs : By} {N : Int} {er : Nat} (h : IsWParse bs N er) (hs : IsSig bs) (hl : bs.length ≤ 20) : er = 0 ∧ N = sigVal bs := by
  obtain ⟨neg, ds, M, e0, ha, hp, hc⟩ := h
  rcases ha with ⟨rfl, rfl⟩ | ⟨rfl, rfl, hh⟩
  · have hd : IsDec ds := (isSig_minus hs.1 rfl).1 hs
    rcases hp with ⟨h1, _⟩ | ⟨_, h1, _⟩ | ⟨_, _, rfl, rfl⟩
    · simp at hl; omega
    · exact absurd hd h1
    · have hpos := dec_pos hd fun e => hs.1 (by rw [e])
      rcases hc with ⟨h0, _⟩ | ⟨_, h0, _⟩ | ⟨_, _, rfl, rfl⟩
      · exact absurd rfl h0
      · omega
      · exact ⟨rfl, by simp [sigVal]⟩
  · have hd : IsDec bs := (isSig_plain hh).1 hs
    rcases hp with ⟨h1, _⟩ | ⟨_, h1, _⟩ | ⟨_, _, rfl, rfl⟩
    · omega
    · exact absurd hd h1
    · rcases hc with ⟨h0, _⟩ | ⟨_, h0, _⟩ | ⟨_, _, rfl, rfl⟩
      · exact absurd rfl h0
      · exact absurd h0.1 (by simp)
      · exact ⟨rfl, by simp [sigVal, hh]⟩
theorem sig_far {bs : By} (hs : IsSig bs) (hl : 20 < bs.length) : sigVal bs < -9223372036854775808 ∨ 9223372036854775807 < sigVal bs := by
  by_cases hh : bs.head? = some 45
  · have hd := (isSig_minus hs.1 hh).1 hs
    have h1 := dec_long (k := bs.length - 3) hd (by simp; omega)
    have h2 : 10 ^ 19 ≤ 10 ^ (bs.length - 3 + 1) := Nat.pow_le_pow_right (by omega) (by omega)
    simp only [sigVal, hh, if_true]
    omega
  · have hd := (isSig_plain hh).1 hs
    have h1 := dec_long (k := bs.length - 2) hd (by omega)
    have h2 : 10 ^ 19 ≤ 10 ^ (bs.length - 2 + 1) := Nat.pow_le_pow_right (by omega) (by omega)
    simp only [sigVal, hh, if_false]
    omega
theorem sig_near {bs : By} (hs : IsSig bs) (hl : bs.length ≤ 20) : (sigVal bs).natAbs < 4294967296 ^ 3 := by
  by_cases hh : bs.head? = some 45
  · have hd := (isSig_minus hs.1 hh).1 hs
    have h1 := decVal_lt hd.2.2
    have h2 : 10 ^ (bs.drop 1).length ≤ 10 ^ 20 := Nat.pow_le_pow_right (by omega) (by simp; omega)
    simp only [sigVal, hh, if_true]
    omega
  · have hd := (isSig_plain hh).1 hs
    have h1 := decVal_lt hd.2.2
    have h2 : 10 ^ bs.length ≤ 10 ^ 20 := Nat.pow_le_pow_right (by omega) hl
    simp only [sigVal, hh, if_false]
    omega
/-- what a reading within limits answers: a number and nought, or nought and the error's number -/
def IsRead (bs : By) (lo hi n : Int) (k : Nat) : Prop :=
  (¬ IsSig bs ∧ n = 0 ∧ k = 3) ∨ (IsSig bs ∧ ¬ (lo ≤ sigVal bs ∧ sigVal bs ≤ hi) ∧ n = 0 ∧ k = 4) ∨ (IsSig bs ∧ (lo ≤ sigVal bs ∧ sigVal bs ≤ hi) ∧ n = sigVal bs ∧ k = 0)
theorem IsRead.unique {bs : By} {lo hi n n' : Int} {k k' : Nat} (h : IsRead bs lo hi n k) (h' : IsRead bs lo hi n' k') : n = n' ∧ k = k' := by
  rcases h with ⟨a, b, c⟩ | ⟨a, d, b, c⟩ | ⟨a, d, b, c⟩ <;> rcases h' with ⟨a', b', c'⟩ | ⟨a', d', b', c'⟩ | ⟨a', d', b', c'⟩
  all_goals first | exact absurd a' a | exact absurd a a' | exact absurd d' d | exact absurd d d' | exact ⟨by rw [b, b'], by rw [c, c']⟩
end Go.Proofs.YtchfbpgbojnakaaDoor
/- What the library's Itoa and Atoi come to, in the document's terms: the text of a number, and the number of a text that is formed. -/

namespace Go.Proofs.YtchfbpgbojnakaaDoor
open Go.RowKit Num

theorem itoa_wtext (n : Int) : Lib.itoa n = wtext n := by
  unfold Lib.itoa wtext
  by_cases h : n < 0
  · rw [if_pos h, if_pos h]
  · rw [if_neg h, if_neg h]
    congr 1
    omega
theorem parse_far : ∀ (l : By) (acc : Nat), AllDec l → 18446744073709551616 ≤ acc → ∀ (c : UInt8), 48 ≤ c.toNat ∧ c.toNat ≤ 57 → True := fun _ _ _ _ _ _ => trivial
theorem pow_grow (acc k : Nat) : acc ≤ acc * 10 ^ k := Nat.le_mul_of_pos_right _ (Nat.pow_pos (by omega))
theorem parse10 : ∀ (l : By) (acc : Nat), AllDec l → acc < 18446744073709551616 → Lib.parseUint10 acc l = if acc * 10 ^ l.length + decVal l < 18446744073709551616 then .ok (acc * 10 ^ l.length + decVal l) else .range
  | [], acc, _, h => by
    rw [Lib.parseUint10, decVal_nil, List.length_nil, Nat.pow_zero, Nat.mul_one, Nat.add_zero, if_pos h]
  | c :: r, acc, hd, h => by
    have hc := hd c (by simp)
    have hr : AllDec r := fun d hd' => hd d (by simp [hd'])
    have e : decVal (c :: r) = decVal [c] * 10 ^ r.length + decVal r := decVal_append [c] r
    have e1 : decVal [c] = c.toNat - 48 := by simp [decVal]
    have e2 : acc * 10 ^ (c :: r).length + decVal (c :: r) = (acc * 10 + (c.toNat - 48)) * 10 ^ r.length + decVal r := by
      rw [e, e1, List.length_cons, Nat.pow_succ, Nat.add_mul]
      grind
    rw [e2]
    have hg := pow_grow (acc * 10 + (c.toNat - 48)) r.length
    unfold Lib.parseUint10
    rw [if_pos hc]
    by_cases h1 : 1844674407370955162 ≤ acc
    · rw [if_pos h1, if_neg (by omega)]
    · rw [if_neg h1]
      by_cases h2 : 18446744073709551616 ≤ acc * 10 + (c.toNat - 48)
      · rw [if_pos h2, if_neg (by omega)]
      · rw [if_neg h2]
        exact parse10 r _ hr (by omega)
theorem mag10 {l : By} (h : AllDec l) (h0 : l ≠ []) : Lib.parseMag l = if decVal l < 18446744073709551616 then .ok (decVal l) else .range := by
  unfold Lib.parseMag
  rw [if_neg h0, parse10 l 0 h (by omega), Nat.zero_mul, Nat.zero_add]
/-- a formed text that an int can hold -/
theorem atoi_sig_ok {bs : By} (h : IsSig bs) (h1 : -9223372036854775808 ≤ sigVal bs) (h2 : sigVal bs ≤ 9223372036854775807) : Lib.atoiAll bs = .ok (sigVal bs) := by
  match bs, h with
  | [], h => exact absurd rfl h.2.1
  | c :: r, h =>
    by_cases hc : c = 45
    · subst hc
      have hd := (isSig_minus h.1 rfl).1 h
      have e : sigVal (45 :: r) = -(decVal r : Int) := by simp [sigVal]
      rw [e] at h1 h2 ⊢
      have hm := mag10 (l := r) hd.2.2 hd.1
      rw [if_pos (by omega)] at hm
      rw [Lib.atoiAll_minus, hm]
      simp only [Lib.signed]
      rw [if_neg (by omega)]
    · have hh : (c :: r).head? ≠ some 45 := fun e => hc (Option.some.inj e)
      have hd := (isSig_plain hh).1 h
      have hcd := hd.2.2 c (by simp)
      have e : sigVal (c :: r) = (decVal (c :: r) : Int) := by simp only [sigVal, if_neg hh]
      rw [e] at h1 h2 ⊢
      have hm := mag10 hd.2.2 hd.1
      rw [if_pos (by omega)] at hm
      rw [Lib.atoiAll_plain c r (by omega) (by omega), hm]
      simp only [Lib.signless]
      rw [if_neg (by omega)]
/-- a formed text that is too great for an int -/
theorem atoi_sig_far {bs : By} (h : IsSig bs) (h1 : sigVal bs < -9223372036854775808 ∨ 9223372036854775807 < sigVal bs) : Lib.atoiAll bs = .range := by
  match bs, h with
  | [], h => exact absurd rfl h.2.1
  | c :: r, h =>
    by_cases hc : c = 45
    · subst hc
      have hd := (isSig_minus h.1 rfl).1 h
      have e : sigVal (45 :: r) = -(decVal r : Int) := by simp [sigVal]
      rw [e] at h1
      have hm := mag10 (l := r) hd.2.2 hd.1
      rw [Lib.atoiAll_minus, hm]
      split
      · simp only [Lib.signed]
        rw [if_pos (by omega)]
      · rfl
    · have hh : (c :: r).head? ≠ some 45 := fun e => hc (Option.some.inj e)
      have hd := (isSig_plain hh).1 h
      have hcd := hd.2.2 c (by simp)
      have e : sigVal (c :: r) = (decVal (c :: r) : Int) := by simp only [sigVal, if_neg hh]
      rw [e] at h1
      have hm := mag10 hd.2.2 hd.1
      rw [Lib.atoiAll_plain c r (by omega) (by omega), hm]
      split
      · simp only [Lib.signless]
        rw [if_pos (by omega)]
      · rfl
/-- a number's text is formed, and is worth the number -/
theorem sig_wtext (n : Int) : IsSig (wtext n) ∧ sigVal (wtext n) = n := by
  unfold wtext
  by_cases h : n < 0
  · rw [if_pos h]
    have hd := dec_isDec n.natAbs
    refine ⟨(isSig_minus (fun e => ?_) rfl).2 hd, ?_⟩
    · have e2 := congrArg decVal (List.cons.inj e).2
      rw [decVal_dec] at e2
      have : decVal [48] = 0 := by simp [decVal]
      omega
    · simp only [sigVal, List.head?_cons, if_pos, List.drop_succ_cons, List.drop_zero, decVal_dec]
      omega
  · rw [if_neg h]
    have hd := dec_isDec n.natAbs
    have hh : (Lib.decDigits n.natAbs).head? ≠ some 45 := by
      cases hl : Lib.decDigits n.natAbs with
      | nil => simp
      | cons c cs =>
        rw [hl] at hd
        have := hd.2.2 c (by simp)
        intro e
        rw [Option.some.inj e] at this
        have e45 : (45 : UInt8).toNat = 45 := rfl
        omega
    refine ⟨(isSig_plain hh).2 hd, ?_⟩
    simp only [sigVal, if_neg hh, decVal_dec]
    omega
theorem read_back (n lo hi : Int) (h1 : lo ≤ n) (h2 : n ≤ hi) : IsRead (wtext n) lo hi n 0 := by
  obtain ⟨hs, hv⟩ := sig_wtext n
  exact .inr (.inr ⟨hs, by rw [hv]; exact ⟨h1, h2⟩, hv.symm, rfl⟩)
end Go.Proofs.YtchfbpgbojnakaaDoor
/- Is a text how a number is told: the program's own. -/

namespace Go.Proofs.YtchfbpgbojnakaaDoor
open Go.RowKit Num

theorem width_at (s : ByteArray) (pos : Nat) (h : pos < s.size) : 1 ≤ (Utf8.decode s pos).2 := by
  by_cases ha : (s[pos]'h).toNat < 128
  · rw [decode_ascii s pos h ha]
    exact Nat.le_refl _
  · exact (decode_high s pos h (by omega)).2
/-- behind a stroke, or the whole -/
def sigTail (bs : By) : By := if bs.head? = some 45 then bs.drop 1 else bs
theorem sig_tail {bs : By} : IsSig bs ↔ bs ≠ [45, 48] ∧ IsDec (sigTail bs) := Iff.rfl
theorem sigTail_len (bs : By) : (sigTail bs).length ≤ bs.length := by
  unfold sigTail
  split
  · simp
  · exact Nat.le_refl _
/-- a nought ahead: only of the one text "0" -/
theorem sig_nought {bs : By} (h : (sigTail bs).head? = some 48) (hn : bs ≠ [48]) : ¬ IsSig bs := by
  intro hs
  obtain ⟨h1, h2⟩ := sig_tail.1 hs
  match ht : sigTail bs, h, h2 with
  | [c], h, h2 =>
    obtain rfl : c = 48 := Option.some.inj h
    unfold sigTail at ht
    split at ht
    · rename_i hh
      match bs, hh, ht with
      | x :: r, hh, ht =>
        obtain rfl : x = 45 := Option.some.inj hh
        exact h1 (by rw [show r = [48] from ht])
    · exact hn ht
  | c :: d :: r, h, h2 => exact h2.2.1 ⟨by simp, h⟩
theorem sig_of_all {bs : By} (h0 : sigTail bs ≠ []) (hz : (sigTail bs).head? ≠ some 48 ∨ bs = [48]) (h : AllDec (sigTail bs)) : IsSig bs := by
  refine sig_tail.2 ⟨fun e => ?_, h0, fun ⟨h1, h2⟩ => ?_, h⟩
  · subst e
    rcases hz with hz | hz
    · exact hz rfl
    · cases hz
  · rcases hz with hz | hz
    · exact hz h2
    · subst hz
      exact absurd h1 (by decide)

theorem trim_tail (bs : By) : Lib.trimPrefix bs [45] = sigTail bs := by
  unfold Lib.trimPrefix Lib.hasPrefix sigTail
  match bs with
  | [] => rfl
  | c :: r =>
    by_cases h : c = 45
    · subst h; simp
    · have h1 : ¬ 45 = c := fun e => h e.symm
      simp [h, h1]
theorem sig_all_next {u : ByteArray} {k : Nat} (h : AllDec (u.data.toList.take k)) (hk : k < u.size) (hc : 48 ≤ u[k].toNat ∧ u[k].toNat ≤ 57) : AllDec (u.data.toList.take (k + 1)) := all_dec_next h hk hc
theorem sig_not_at {u : ByteArray} {bs : By} {j : Nat} (hu : u.data.toList = sigTail bs) (hj : j < u.size) (h : ¬ (48 ≤ u[j].toNat ∧ u[j].toNat ≤ 57)) : ¬ IsSig bs := fun hs => not_dec_at hj h (by rw [hu]; exact (sig_tail.1 hs).2)

set_option maxRecDepth 10000 in
set_option maxHeartbeats 3200000 in
theorem fig_formed (t : ByteArray) (hsz : t.size ≤ 4611686018427387904) (w : World) :
    Calls Tryd.prog 51 #[.string t] w (TellsIt (IsSig t.data.toList) w) := by
  obtain ⟨u, hu⟩ : ∃ u : ByteArray, u = ⟨(sigTail t.data.toList).toArray⟩ := ⟨_, rfl⟩
  have hud : u.data.toList = sigTail t.data.toList := by rw [hu]
  have hus : u.size ≤ 4611686018427387904 := by
    have h1 := sigTail_len t.data.toList
    rw [← hud, str_len, str_len] at h1
    omega
  have c1 : Calls Tryd.prog 61 #[.string t, .string ⟨#[45]⟩] w fun e w' => e = .returned (.string u) ∧ w = w' := by
    have h := Tryd.strings_TrimPrefix t ⟨#[45]⟩ w
    refine h.mono fun e w' ⟨h1, h2⟩ => ⟨?_, h2.symm⟩
    rw [h1, hu, ← trim_tail]
  have CT := Lib.hid c1
  clear c1 hu
  obtain ⟨bs, hbs⟩ : ∃ bs, t.data.toList = bs := ⟨_, rfl⟩
  have htl : t.toList = bs := by rw [toList_data]; exact hbs
  have HTL := Lib.hid htl
  rw [hbs] at hud ⊢
  clear htl
  have HNA := Lib.hid (fun j (hj : j < u.size) h => sig_not_at (j := j) hud hj h)
  by_cases e0 : u.size = 0
  · have hnil : u.data.toList = [] := List.eq_nil_of_length_eq_zero (by rw [str_len]; exact e0)
    have HN := Lib.hid (show ¬ IsSig bs from fun hs => (sig_tail.1 hs).2.1 (by rw [← hud]; exact hnil))
    obtain ⟨em1, em2⟩ := isEmpty_yes e0
    clear hud hbs hnil
    go_enter Tryd.func51, Tryd.ntmps51
    go_wp2_with (go_at_call 61; with_reducible refine Calls.mono CT.out ?_; rintro e w1 ⟨rfl, rfl⟩)
    go_ret
    exact ⟨⟨false, rfl, by simp [HN.out]⟩, Below.refl _ _⟩
  · have e1 : 0 < u.size := by omega
    obtain ⟨em1, em2⟩ := isEmpty_no e1
    have hh := head_get u e1
    rw [hud] at hh
    have hne : sigTail bs ≠ [] := fun e => by rw [e] at hh; cases hh
    obtain ⟨n, hn⟩ : ∃ n, (u[0]'e1).toNat = n := ⟨_, rfl⟩
    by_cases hz : n = 48 ∧ bs ≠ [48]
    · have HN := Lib.hid (sig_nought (bs := bs) (by rw [hh, UInt8.toNat_inj.1 (show (u[0]'e1).toNat = (48 : UInt8).toNat by rw [hn, hz.1]; rfl)]) hz.2)
      have ht0 : (t.toList == [48]) = false := by rw [HTL.out]; simpa using hz.2
      have ht1 : ¬ t.toList = [48] := by rw [HTL.out]; exact hz.2
      obtain ⟨rfl, _⟩ := hz
      clear hud hbs hh hne
      go_enter Tryd.func51, Tryd.ntmps51
      go_wp2_with (go_at_call 61; with_reducible refine Calls.mono CT.out ?_; rintro e w1 ⟨rfl, rfl⟩)
      go_ret
      exact ⟨⟨false, rfl, by simp [HN.out]⟩, Below.refl _ _⟩
    · have hz2 : (sigTail bs).head? ≠ some 48 ∨ bs = [48] := by
        by_cases hb : bs = [48]
        · exact .inr hb
        · refine .inl fun e => hz ⟨?_, hb⟩
          rw [hh] at e
          rw [← hn, Option.some.inj e]; rfl
      have HALL := Lib.hid (sig_of_all hne hz2)
      have HUD := Lib.hid hud
      have hcase : (n = 48 ∧ (t.toList == [48]) = true ∧ t.toList = [48]) ∨ ¬ n = 48 := by
        by_cases h48 : n = 48
        · have hb : bs = [48] := by
            by_cases hb : bs = [48]
            · exact hb
            · exact absurd ⟨h48, hb⟩ hz
          exact .inl ⟨h48, by rw [HTL.out, hb]; rfl, by rw [HTL.out, hb]⟩
        · exact .inr h48
      clear hz hz2 hud hh hne hbs
      rcases hcase with ⟨hn1, ht0, ht1⟩ | hn1
      all_goals
        go_enter Tryd.func51, Tryd.ntmps51
        go_wp2_with (go_at_call 61; with_reducible refine Calls.mono CT.out ?_; rintro e w1 ⟨rfl, rfl⟩)
        go_loopg [5] u.size (fun gh v wr => ∃ pos : Nat, wr.heap[w.heap.size]? = some (.stringIter u pos) ∧ gh + pos = u.size ∧ AllDec (u.data.toList.take pos) ∧ Below w.heap.size w wr)
        case atStart => exact ⟨0, World.iter_heap w u 0, by omega, by simp [AllDec], (Below.refl _ _).alloc (Nat.le_refl _) _⟩
        case round =>
          obtain ⟨pos, hit, hg, hall, hB⟩ := hrel
          have HA := Lib.hid hall
          have HG := Lib.hid hg
          clear hall hg
          by_cases hp : pos < u.size
          · have HNO := Lib.hid (HNA.out pos hp)
            have HNX := Lib.hid (sig_all_next HA.out hp)
            obtain ⟨m, hm⟩ : ∃ m, (u[pos]'hp).toNat = m := ⟨_, rfl⟩
            have HM := Lib.hid hm
            by_cases ha : m < 128
            · have hnx : ∀ ty, (Instr.next (.pointer (some ⟨w.heap.size, 0, none⟩)) true ty).run Tryd.prog wr = .ok (.tuple #[.bool true, .int .i64 pos, .int .i32 (m : Int)]) (wr.iterAt w.heap.size u (pos + 1)) := fun ty => by
                rw [← HM.out]; exact Lib.run_next_ascii_at wr w.heap.size u pos ty hit hp (by rw [HM.out]; exact ha)
              have hit2 := Lib.iterAt_heap wr w.heap.size u pos (pos + 1) hit
              have hB2 := Lib.below_iterAt hB (k := w.heap.size) (Nat.le_refl _) u (pos + 1)
              clear hit hB
              generalize wr.iterAt w.heap.size u (pos + 1) = W1 at *
              by_cases hlo : m < 48
              · go_wp2_with fail
                go_ret
                exact ⟨⟨false, rfl, by simp [HNO.out (by rw [HM.out]; omega)]⟩, hB2⟩
              · by_cases hhi : 57 < m
                · go_wp2_with fail
                  go_ret
                  exact ⟨⟨false, rfl, by simp [HNO.out (by rw [HM.out]; omega)]⟩, hB2⟩
                · go_wp2_with fail
                  have := HG.out
                  go_roundg (u.size - (pos + 1))
                  case measure => omega
                  case rel => exact ⟨pos + 1, hit2, by omega, HNX.out (by rw [HM.out]; omega), hB2⟩
            · obtain ⟨d, hd⟩ : ∃ d, Utf8.decode u pos = d := ⟨_, rfl⟩
              obtain ⟨d1, hd1⟩ : ∃ k, d.1 = k := ⟨_, rfl⟩
              have h128 : 128 ≤ d1 := by rw [← hd1, ← hd]; exact (decode_high u pos hp (by rw [HM.out]; omega)).1
              have hdm : d1 ≤ 2147483647 := by rw [← hd1, ← hd]; exact decode_le u pos
              have hnx : ∀ ty, (Instr.next (.pointer (some ⟨w.heap.size, 0, none⟩)) true ty).run Tryd.prog wr = .ok (.tuple #[.bool true, .int .i64 pos, .int .i32 (d1 : Int)]) (wr.iterAt w.heap.size u (pos + d.2)) := fun ty => by
                rw [← hd1, ← hd]; exact Lib.run_next_any_at wr w.heap.size u pos ty hit hp
              have hB2 := Lib.below_iterAt hB (k := w.heap.size) (Nat.le_refl _) u (pos + d.2)
              have hlo : ¬ d1 < 48 := by omega
              have hhi : 57 < d1 := by omega
              clear hit hB hd hd1
              generalize wr.iterAt w.heap.size u (pos + d.2) = W1 at *
              go_wp2_with fail
              go_ret
              exact ⟨⟨false, rfl, by simp [HNO.out (by rw [HM.out]; omega)]⟩, hB2⟩
          · obtain rfl : pos = u.size := by have := HG.out; omega
            have hnx : ∀ ty, (Instr.next (.pointer (some ⟨w.heap.size, 0, none⟩)) true ty).run Tryd.prog wr = .ok (.tuple #[.bool false]) wr := fun ty => Lib.run_next_end_at wr w.heap.size u u.size ty hit hp
            have HD := Lib.hid (HALL.out (by
              have := HA.out
              rw [List.take_of_length_le (by rw [str_len]; exact Nat.le_refl _), HUD.out] at this
              exact this))
            go_wp2_with fail
            go_ret
            exact ⟨⟨true, rfl, by simp [HD.out]⟩, hB⟩
end Go.Proofs.YtchfbpgbojnakaaDoor
/- A number's text, there and back: the program's own. -/

namespace Go.Proofs.YtchfbpgbojnakaaDoor
open Go.RowKit Num

/-- what the library's error for a number that is too great holds: some value of an interface's type -/
def Rng (w : World) : Prop := ∃ te pe, w.cell? ⟨4, 0, none⟩ = some (.iface te pe)
theorem Rng.on {w w' : World} (h : Rng w) (hb : Below w.heap.size w w') : Rng w' := by
  obtain ⟨te, pe, h⟩ := h
  exact ⟨te, pe, by rw [hb.cell (p := ⟨4, 0, none⟩) (Lib.lt_of_cell h)]; exact h⟩

theorem fig_Num (n : Int) (hn1 : -9223372036854775808 ≤ n) (hn2 : n ≤ 9223372036854775807) (w : World) (htab : Tab w) :
    Calls Tryd.prog 29 #[.int .i64 n] w fun e w' => e = .returned (.string ⟨(wtext n).toArray⟩) ∧ Below w.heap.size w w' := by
  have c1 : Calls Tryd.prog 34 #[.int .i64 n] w fun e w' => e = .returned (.string ⟨(wtext n).toArray⟩) ∧ Below w.heap.size w w' :=
    (Tryd.strconv_Itoa n hn1 hn2 w htab).mono fun e w' ⟨h1, k, os, h2⟩ => ⟨by rw [h1, itoa_wtext], by rw [h2]; exact Lib.below_grow w.heap.size w (Nat.le_refl _) k os⟩
  have C1 := Lib.hid c1
  clear c1
  go_enter Tryd.func29, Tryd.ntmps29
  go_wp2_with (go_at_call 34; with_reducible refine Calls.mono C1.out ?_; rintro e w1 ⟨rfl, b1⟩)
  go_ret
  exact ⟨rfl, b1⟩

set_option maxRecDepth 10000 in
set_option maxHeartbeats 3200000 in
theorem fig_Read (t : ByteArray) (hsz : t.size ≤ 281474976710656) (lo hi : Int) (hlo : -9223372036854775808 ≤ lo) (hhi : hi ≤ 9223372036854775807) (w : World) (hR : Rng w) :
    Calls Tryd.prog 39 #[.string t, .int .i64 lo, .int .i64 hi] w fun e w' => (∃ (n : Int) (k : Nat), e = .returned (.tuple #[.int .i64 n, .int .i64 (k : Int)]) ∧ IsRead t.data.toList lo hi n k) ∧ Below w.heap.size w w' := by
  have hd := fig_formed t (by omega) w
  by_cases hs : IsSig t.data.toList
  · have cD : Calls Tryd.prog 51 #[.string t] w fun e w' => e = .returned (.bool true) ∧ Below w.heap.size w w' := hd.mono fun e w' ⟨⟨d, h1, h2⟩, h3⟩ => ⟨by rw [h1, h2.2 hs], h3⟩
    have CD := Lib.hid cD
    clear cD hd
    obtain ⟨N, hN⟩ : ∃ N, sigVal t.data.toList = N := ⟨_, rfl⟩
    by_cases hin : -9223372036854775808 ≤ N ∧ N ≤ 9223372036854775807
    · have CA := Lib.hid (fun (V : World) => (show Calls Tryd.prog 52 #[.string t] V (fun e w' => e = .returned (.tuple #[.int .i64 N, .nilIface]) ∧ Below V.heap.size V w') from
        (Tryd.strconv_Atoi_ok t (by omega) N (by rw [← hN]; exact atoi_sig_ok hs (by rw [hN]; exact hin.1) (by rw [hN]; exact hin.2)) V).mono fun e w' ⟨h1, h2⟩ => ⟨h1, by
          rcases h2 with rfl | ⟨t', rfl⟩
          · exact Below.refl _ _
          · exact Lib.bytesWorld_below _ _ _⟩))
      have HS := Lib.hid (And.intro hs hN)
      clear hs hN
      by_cases hlo' : N < lo
      · have HF := Lib.hid (show IsRead t.data.toList lo hi 0 4 from .inr (.inl ⟨HS.out.1, fun h => by have := HS.out.2; omega, rfl, rfl⟩))
        go_enter Tryd.func39, Tryd.ntmps39
        go_wp2_with first
          | (go_at_call 51; with_reducible refine Calls.mono CD.out ?_; rintro e w1 ⟨rfl, b1⟩)
          | (go_at_call 52; with_reducible refine Calls.mono (CA.out w1) ?_; rintro e w2 ⟨rfl, b2⟩)
        go_ret2
        exact ⟨⟨0, 4, rfl, HF.out⟩, b1.trans (b2.mono b1.size)⟩
      · by_cases hhi' : hi < N
        · have HF := Lib.hid (show IsRead t.data.toList lo hi 0 4 from .inr (.inl ⟨HS.out.1, fun h => by have := HS.out.2; omega, rfl, rfl⟩))
          go_enter Tryd.func39, Tryd.ntmps39
          go_wp2_with first
            | (go_at_call 51; with_reducible refine Calls.mono CD.out ?_; rintro e w1 ⟨rfl, b1⟩)
            | (go_at_call 52; with_reducible refine Calls.mono (CA.out w1) ?_; rintro e w2 ⟨rfl, b2⟩)
          go_ret2
          exact ⟨⟨0, 4, rfl, HF.out⟩, b1.trans (b2.mono b1.size)⟩
        · have HF := Lib.hid (show IsRead t.data.toList lo hi N 0 from .inr (.inr ⟨HS.out.1, by have := HS.out.2; omega, HS.out.2.symm, rfl⟩))
          go_enter Tryd.func39, Tryd.ntmps39
          go_wp2_with first
            | (go_at_call 51; with_reducible refine Calls.mono CD.out ?_; rintro e w1 ⟨rfl, b1⟩)
            | (go_at_call 52; with_reducible refine Calls.mono (CA.out w1) ?_; rintro e w2 ⟨rfl, b2⟩)
          go_ret2
          exact ⟨⟨N, 0, rfl, HF.out⟩, b1.trans (b2.mono b1.size)⟩
    · have hout : N < -9223372036854775808 ∨ 9223372036854775807 < N := by omega
      have CA := Lib.hid (fun (V : World) (hV : Rng V) => (show Calls Tryd.prog 52 #[.string t] V (fun e w' => (∃ (z : Int) (T : TypeId) (p : Value), e = .returned (.tuple #[.int .i64 z, .iface T p])) ∧ Below V.heap.size V w') from by
        obtain ⟨te, pe, hv⟩ := hV
        exact (Tryd.strconv_Atoi_range t hsz (atoi_sig_far hs (by rw [hN]; exact hout)) _ V hv (.inr ⟨te, pe, rfl⟩)).mono fun e w' ⟨B, h1, _, _, h2⟩ => ⟨⟨_, _, _, h1⟩, h2⟩))
      have HF := Lib.hid (show IsRead t.data.toList lo hi 0 4 from .inr (.inl ⟨hs, fun h => by rw [hN] at h; omega, rfl, rfl⟩))
      have HR := Lib.hid hR
      clear hs hN hR
      go_enter Tryd.func39, Tryd.ntmps39
      go_wp2_with first
        | (go_at_call 51; with_reducible refine Calls.mono CD.out ?_; rintro e w1 ⟨rfl, b1⟩)
        | (go_at_call 52; with_reducible refine Calls.mono (CA.out w1 (HR.out.on b1)) ?_; rintro e w2 ⟨⟨z, T, p, rfl⟩, b2⟩)
      go_ret2
      exact ⟨⟨0, 4, rfl, HF.out⟩, b1.trans (b2.mono b1.size)⟩
  · have cD : Calls Tryd.prog 51 #[.string t] w fun e w' => e = .returned (.bool false) ∧ Below w.heap.size w w' := hd.mono fun e w' ⟨⟨d, h1, h2⟩, h3⟩ => ⟨by
      cases d
      · exact h1
      · exact absurd (h2.1 rfl) hs, h3⟩
    have CD := Lib.hid cD
    have HF := Lib.hid (show IsRead t.data.toList lo hi 0 3 from .inl ⟨hs, rfl, rfl⟩)
    clear cD hd hs
    go_enter Tryd.func39, Tryd.ntmps39
    go_wp2_with (go_at_call 51; with_reducible refine Calls.mono CD.out ?_; rintro e w1 ⟨rfl, b1⟩)
    go_ret2
    exact ⟨⟨0, 3, rfl, HF.out⟩, b1⟩
end Go.Proofs.YtchfbpgbojnakaaDoor
