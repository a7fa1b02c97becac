/- Texts of fractions: which text is whose. -/
import Derived.Test.YtidbpkibjficnaaGreatDoorZFrM
import Derived.Test.YtidbpkibjficnaaGreatDoorZWhJ
namespace Go.Proofs.YtidbpkibjficnaaGreatDoor
open Go.RowKit Num

theorem decVal_pos : ∀ (k : Nat) (bs : List UInt8), bs.length = k → IsDec bs → Lib.decDigits (decVal bs) = bs
  | 0, bs, hk, h => absurd (List.eq_nil_of_length_eq_zero hk) h.1
  | k + 1, bs, hk, h => by
    obtain ⟨cs, c, rfl⟩ : ∃ cs c, bs = cs ++ [c] := ⟨bs.dropLast, bs.getLast h.1, (List.dropLast_concat_getLast h.1).symm⟩
    obtain ⟨h1, h2, h3⟩ := h
    have hc := h3 c (by simp)
    have hr : c.toNat - 48 < 10 := by omega
    have hb : UInt8.ofNat (48 + (c.toNat - 48)) = c := by
      rw [← UInt8.toNat_inj, dec_digit hr]; omega
    rw [decVal_snoc]
    by_cases hcs : cs = []
    · subst hcs
      rw [decVal_nil, Nat.zero_mul, Nat.zero_add, dec_small hr, Nat.mod_eq_of_lt hr, hb]
      rfl
    · have hl : cs.length = k := by simp at hk; omega
      have hpos : 0 < cs.length := List.length_pos_iff.2 hcs
      have hh : cs.head? ≠ some 48 := fun e => h2 ⟨by simp; omega, by
        cases cs with
        | nil => exact absurd rfl hcs
        | cons x xs => simpa using e⟩
      have hd : IsDec cs := ⟨hcs, fun e => hh e.2, fun x hx => h3 x (by simp [hx])⟩
      have ih := decVal_pos k cs hl hd
      have hv : decVal cs ≠ 0 := fun e => by
        rw [e] at ih
        have : cs = [48] := by rw [← ih]; decide +kernel
        rw [this] at hh
        exact hh rfl
      rw [dec_big (by omega), Nat.mul_comm, Nat.mul_add_div (by omega), Nat.mul_add_mod, Nat.div_eq_of_lt hr, Nat.add_zero, ih, Nat.mod_eq_of_lt hr, hb]
theorem dec_back {bs : List UInt8} (h : IsDec bs) : Lib.decDigits (decVal bs) = bs := decVal_pos bs.length bs rfl h
/-- a text that is read without an error is its number's -/
theorem wtext_back {bs : List UInt8} {N : Int} (h : IsWParse bs N 0) : bs = wtext N := by
  obtain ⟨neg, ds, M, e0, h1, h2, h3⟩ := h
  rcases h3 with ⟨h0, h4, -⟩ | ⟨h0, -, h4, -⟩ | ⟨rfl, h4, -, rfl⟩
  · exact absurd h4.symm h0
  · omega
  · rcases h2 with ⟨-, -, h5⟩ | ⟨-, -, -, h5⟩ | ⟨-, h6, rfl, -⟩
    · omega
    · omega
    · have hb := dec_back h6
      rcases h1 with ⟨rfl, rfl⟩ | ⟨rfl, rfl, -⟩
      · have hM : decVal ds ≠ 0 := fun e => h4 ⟨rfl, e⟩
        unfold wtext
        simp only [if_true]
        rw [if_pos (by omega), Int.natAbs_neg, Int.natAbs_natCast, hb]
      · unfold wtext
        simp only [Bool.false_eq_true, if_false]
        rw [if_neg (by omega), Int.natAbs_natCast, hb]
/-- no stroke stands in a whole number's text, nor in a size's -/
theorem no_stroke_dec (M : Nat) : ∀ c ∈ Lib.decDigits M, c ≠ 47 := fun c hc e => by
  have := dec_all M c hc
  rw [e] at this
  have : (47 : UInt8).toNat = 47 := rfl
  omega
theorem no_stroke (N : Int) : ∀ c ∈ wtext N, c ≠ 47 := fun c hc => by
  unfold wtext at hc
  split at hc
  · rcases List.mem_cons.1 hc with rfl | hc
    · decide
    · exact no_stroke_dec _ c hc
  · exact no_stroke_dec _ c hc
/-- a text up to its first stroke, and what follows it -/
theorem stroke_split {xs ys xs' ys' : List UInt8} (h : ∀ c ∈ xs, c ≠ 47) (h' : ∀ c ∈ xs', c ≠ 47) (e : xs ++ 47 :: ys = xs' ++ 47 :: ys') : xs = xs' ∧ ys = ys' := by
  induction xs generalizing xs' with
  | nil =>
    cases xs' with
    | nil => exact ⟨rfl, by simpa using e⟩
    | cons c r => exact absurd (by simpa using (List.cons.inj e).1.symm) (h' c (by simp))
  | cons c r ih =>
    cases xs' with
    | nil => exact absurd (by simpa using (List.cons.inj e).1) (h c (by simp))
    | cons c' r' =>
      obtain ⟨e1, e2⟩ := List.cons.inj e
      obtain ⟨k1, k2⟩ := ih (fun x hx => h x (by simp [hx])) (fun x hx => h' x (by simp [hx])) e2
      exact ⟨by rw [e1, k1], k2⟩
theorem wtext_inj {N M : Int} (h : wtext N = wtext M) : N = M := by
  have hd : ∀ (K : Nat) (L : List UInt8), Lib.decDigits K ≠ 45 :: L := fun K L e => by
    have := dec_all K 45 (by rw [e]; simp)
    have : (45 : UInt8).toNat = 45 := rfl
    omega
  unfold wtext at h
  split at h <;> split at h
  · have := congrArg decVal (List.cons.inj h).2
    rw [decVal_dec, decVal_dec] at this
    omega
  · exact absurd h.symm (hd _ _)
  · exact absurd h (hd _ _)
  · have := congrArg decVal h
    rw [decVal_dec, decVal_dec] at this
    omega

/-- N by M, reduced, has that text, and its parts have no more digits than may be read -/
def Telling (bs : List UInt8) (N : Int) (M : Nat) : Prop :=
  0 < M ∧ Nat.gcd N.natAbs M = 1 ∧ bs = (if M = 1 then wtext N else wtext N ++ 47 :: Lib.decDigits M) ∧ (Lib.decDigits N.natAbs).length ≤ 2000 ∧ (Lib.decDigits M).length ≤ 2000
/-- what a text is read as: its fraction, or an error -/
def IsFParse (bs : List UInt8) (N : Int) (M er : Nat) : Prop := (er = 0 ∧ Telling bs N M) ∨ (er = 3 ∧ N = 0 ∧ M = 0 ∧ ∀ N' M', ¬ Telling bs N' M')
theorem Telling.unique {bs : List UInt8} {N N' : Int} {M M' : Nat} (h : Telling bs N M) (k : Telling bs N' M') : N = N' ∧ M = M' := by
  obtain ⟨h1, -, h2, -⟩ := h
  obtain ⟨k1, -, k2, -⟩ := k
  by_cases hm : M = 1 <;> by_cases km : M' = 1
  · rw [if_pos hm] at h2
    rw [if_pos km] at k2
    exact ⟨wtext_inj (h2.symm.trans k2), by omega⟩
  · rw [if_pos hm] at h2
    rw [if_neg km, h2] at k2
    exact absurd rfl (no_stroke N 47 (by rw [k2]; simp))
  · rw [if_neg hm] at h2
    rw [if_pos km, h2] at k2
    exact absurd rfl (no_stroke N' 47 (by rw [← k2]; simp))
  · rw [if_neg hm] at h2
    rw [if_neg km, h2] at k2
    obtain ⟨e1, e2⟩ := stroke_split (no_stroke N) (no_stroke N') k2
    have := congrArg decVal e2
    rw [decVal_dec, decVal_dec] at this
    exact ⟨wtext_inj e1, this⟩
theorem IsFParse.unique {bs : List UInt8} {N N' : Int} {M M' er er' : Nat} (h : IsFParse bs N M er) (k : IsFParse bs N' M' er') : N = N' ∧ M = M' ∧ er = er' := by
  rcases h with ⟨rfl, h⟩ | ⟨rfl, rfl, rfl, h⟩ <;> rcases k with ⟨rfl, k⟩ | ⟨rfl, rfl, rfl, k⟩
  · obtain ⟨e1, e2⟩ := h.unique k
    exact ⟨e1, e2, rfl⟩
  · exact absurd h (k _ _)
  · exact absurd k (h _ _)
  · exact ⟨rfl, rfl, rfl⟩
/-- a whole number's text is read as it -/
theorem wparse_of (N : Int) (h : (Lib.decDigits N.natAbs).length ≤ 2000) : IsWParse (wtext N) N 0 := by
  by_cases hN : N < 0
  · refine ⟨true, Lib.decDigits N.natAbs, N.natAbs, 0, .inl ⟨rfl, by unfold wtext; rw [if_pos hN]⟩, .inr (.inr ⟨h, dec_isDec _, (decVal_dec _).symm, rfl⟩), .inr (.inr ⟨rfl, fun e => by omega, rfl, by simp; omega⟩)⟩
  · refine ⟨false, Lib.decDigits N.natAbs, N.natAbs, 0, .inr ⟨rfl, by unfold wtext; rw [if_neg hN], fun e => ?_⟩, .inr (.inr ⟨h, dec_isDec _, (decVal_dec _).symm, rfl⟩), .inr (.inr ⟨rfl, by simp, rfl, by simp; omega⟩)⟩
    unfold wtext at e
    rw [if_neg hN] at e
    have := dec_all N.natAbs 45 (List.mem_of_mem_head? e)
    have : (45 : UInt8).toNat = 45 := rfl
    omega
end Go.Proofs.YtidbpkibjficnaaGreatDoor
