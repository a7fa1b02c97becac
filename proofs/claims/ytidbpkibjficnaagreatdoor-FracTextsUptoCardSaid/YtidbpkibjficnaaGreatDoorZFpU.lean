/- Fractions: texts that are cut at a stroke, and what they are read as. -/
import Derived.Test.YtidbpkibjficnaaGreatDoorZFrN
import Derived.Test.YtidbpkibjficnaaGreatDoorZShelfC
namespace Go.Proofs.YtidbpkibjficnaaGreatDoor
open Go.RowKit Num

theorem occ_one (bs : List UInt8) (c : UInt8) (i : Nat) : Lib.occAt bs [c] i = true ↔ bs[i]? = some c := by
  unfold Lib.occAt
  rw [← List.head?_drop]
  cases bs.drop i with
  | nil => simp
  | cons x xs =>
    simp only [List.isPrefixOf_cons_cons, List.isPrefixOf_nil_left, Bool.and_true, beq_iff_eq, List.head?_cons, Option.some.injEq]
    exact eq_comm
/-- a text at its first stroke -/
theorem cut_stroke (bs : List UInt8) :
    (∃ xs ys, bs = xs ++ 47 :: ys ∧ (∀ c ∈ xs, c ≠ 47) ∧ Lib.cut bs [47] = (xs, ys, true)) ∨ ((∀ c ∈ bs, c ≠ 47) ∧ Lib.cut bs [47] = (bs, [], false)) := by
  rcases Lib.index_spec bs [47] with ⟨h1, h2⟩ | ⟨i, h1, h2, h3, h4⟩
  · refine .inr ⟨fun c hc e => ?_, by unfold Lib.cut; rw [h1]; rfl⟩
    subst e
    obtain ⟨j, hj, e⟩ := List.mem_iff_getElem.1 hc
    have := h2 j (by omega)
    rw [(occ_one bs 47 j).2 (by rw [List.getElem?_eq_getElem hj, e])] at this
    exact absurd this (by decide)
  · have hi := (occ_one bs 47 i).1 h3
    obtain ⟨hl, e⟩ := List.getElem?_eq_some_iff.1 hi
    refine .inl ⟨bs.take i, bs.drop (i + 1), ?_, fun c hc e' => ?_, ?_⟩
    · rw [← e, ← List.drop_eq_getElem_cons hl, List.take_append_drop]
    · subst e'
      obtain ⟨j, hj, e'⟩ := List.mem_iff_getElem.1 hc
      rw [List.length_take] at hj
      have hj2 : j < bs.length := by omega
      rw [List.getElem_take] at e'
      have hno := h4 j (by omega)
      rw [(occ_one bs 47 j).2 (by rw [List.getElem?_eq_getElem hj2, e'])] at hno
      exact absurd hno (by decide)
    · unfold Lib.cut
      rw [h1, if_pos (by omega)]
      rfl
theorem cut_len {xs ys bs : List UInt8} (h : bs = xs ++ 47 :: ys) : xs.length ≤ bs.length ∧ ys.length ≤ bs.length := by
  subst h; simp; omega

/-- no text of a fraction: what it may not be -/
theorem no_tell {bs : List UInt8} (h1 : ∀ N : Int, bs = wtext N → (Lib.decDigits N.natAbs).length ≤ 2000 → False) (h2 : ∀ (N : Int) (M : Nat), bs = wtext N ++ 47 :: Lib.decDigits M → 2 ≤ M → Nat.gcd N.natAbs M = 1 → (Lib.decDigits N.natAbs).length ≤ 2000 → (Lib.decDigits M).length ≤ 2000 → False) : IsFParse bs 0 0 3 := by
  refine .inr ⟨rfl, rfl, rfl, fun N M ⟨k1, k2, k3, k4, k5⟩ => ?_⟩
  by_cases hM : M = 1
  · rw [if_pos hM] at k3
    exact h1 N k3 k4
  · rw [if_neg hM] at k3
    exact h2 N M k3 (by omega) k2 k4 k5
theorem wparse_len {bs : List UInt8} {N : Int} (h : IsWParse bs N 0) : (Lib.decDigits N.natAbs).length ≤ 2000 := by
  obtain ⟨neg, ds, M, e0, h1, h2, h3⟩ := h
  rcases h3 with ⟨h0, h4, -⟩ | ⟨h0, -, h4, -⟩ | ⟨rfl, h4, -, rfl⟩
  · exact absurd h4.symm h0
  · omega
  · rcases h2 with ⟨-, -, h5⟩ | ⟨-, -, -, h5⟩ | ⟨h5, h6, rfl, -⟩
    · omega
    · omega
    · have e : (if neg = true then -(decVal ds : Int) else (decVal ds : Int)).natAbs = decVal ds := by split <;> omega
      rw [e, dec_back h6]
      exact h5
/-- no stroke -/
theorem fparse_plain {bs : List UInt8} (hc : ∀ c ∈ bs, c ≠ 47) {N : Int} {er : Nat} (h : IsWParse bs N er) : (er = 0 → IsFParse bs N 1 0) ∧ (er ≠ 0 → IsFParse bs 0 0 3) := by
  constructor
  · rintro rfl
    exact .inl ⟨rfl, by omega, Nat.gcd_one_right _, by rw [if_pos rfl]; exact wtext_back h, wparse_len h, by decide +kernel⟩
  · intro he
    refine no_tell (fun N' k1 k2 => ?_) (fun N' M' k1 => ?_)
    · have := wparse_of N' k2
      rw [← k1] at this
      exact absurd (h.unique this).2 he
    · exact absurd rfl (hc 47 (by rw [k1]; simp))
/-- a stroke: what stands ahead of it is no whole number -/
theorem fparse_ahead {bs xs ys : List UInt8} (hb : bs = xs ++ 47 :: ys) (hc : ∀ c ∈ xs, c ≠ 47) {N : Int} {er : Nat} (h : IsWParse xs N er) (he : er ≠ 0) : IsFParse bs 0 0 3 := by
  refine no_tell (fun N' k1 _ => ?_) (fun N' M' k1 _ _ k4 _ => ?_)
  · exact absurd rfl (no_stroke N' 47 (by rw [← k1, hb]; simp))
  · obtain ⟨e1, -⟩ := stroke_split hc (no_stroke N') (hb.symm.trans k1)
    have := wparse_of N' k4
    rw [← e1] at this
    exact absurd (h.unique this).2 he
/-- or what follows it is no size -/
theorem fparse_behind {bs xs ys : List UInt8} (hb : bs = xs ++ 47 :: ys) (hc : ∀ c ∈ xs, c ≠ 47) {M er : Nat} (h : IsParse ys M er) (he : er ≠ 0) : IsFParse bs 0 0 3 := by
  refine no_tell (fun N' k1 _ => ?_) (fun N' M' k1 _ _ _ k5 => ?_)
  · exact absurd rfl (no_stroke N' 47 (by rw [← k1, hb]; simp))
  · obtain ⟨-, e2⟩ := stroke_split hc (no_stroke N') (hb.symm.trans k1)
    have : IsParse ys M' 0 := .inr (.inr ⟨by rw [e2]; exact k5, by rw [e2]; exact dec_isDec _, by rw [e2]; exact (decVal_dec _).symm, rfl⟩)
    exact absurd (h.unique this).2 he
/-- both are numbers -/
theorem fparse_both {bs xs ys : List UInt8} (hb : bs = xs ++ 47 :: ys) (hc : ∀ c ∈ xs, c ≠ 47) {N : Int} {M : Nat} (h : IsWParse xs N 0) (k : IsParse ys M 0) : (2 ≤ M → Nat.gcd N.natAbs M = 1 → IsFParse bs N M 0) ∧ (¬ (2 ≤ M ∧ Nat.gcd N.natAbs M = 1) → IsFParse bs 0 0 3) := by
  have hx := wtext_back h
  have hy : ys = Lib.decDigits M ∧ ys.length ≤ 2000 := by
    rcases k with ⟨-, -, h5⟩ | ⟨-, -, -, h5⟩ | ⟨h5, h6, rfl, -⟩
    · omega
    · omega
    · exact ⟨(dec_back h6).symm, h5⟩
  constructor
  · intro h1 h2
    exact .inl ⟨rfl, by omega, h2, by rw [if_neg (by omega), hb, ← hx, ← hy.1], wparse_len h, by rw [← hy.1]; exact hy.2⟩
  · intro hn
    refine no_tell (fun N' k1 _ => ?_) (fun N' M' k1 k2 k3 k4 k5 => hn ?_)
    · exact absurd rfl (no_stroke N' 47 (by rw [← k1, hb]; simp))
    · obtain ⟨e1, e2⟩ := stroke_split hc (no_stroke N') (hb.symm.trans k1)
      have j1 := wtext_inj (hx.symm.trans e1)
      have j2 := congrArg decVal (hy.1.symm.trans e2)
      rw [decVal_dec, decVal_dec] at j2
      subst j1; subst j2
      exact ⟨k2, k3⟩

/-- a fraction that a text is read as -/
def FParses (bs : List UInt8) (w : World) (e : Ending) (w' : World) : Prop :=
  ∃ A a ca D d cd er N, e = .returned (.tuple #[.agg #[.bool (decide (N < 0)), .slice A a.length ca, .slice D d.length cd], .int .i64 (er : Nat)]) ∧ a.length ≤ ca ∧ d.length ≤ cd ∧ Norm 4294967296 a ∧ Norm 4294967296 d ∧ val 4294967296 a = N.natAbs ∧ IsFParse bs N (val 4294967296 d) er ∧ Rd w' (fun g => g < w'.heap.size) .u32 A a ∧ Rd w' (fun g => g < w'.heap.size) .u32 D d ∧ Below w.heap.size w w'
end Go.Proofs.YtidbpkibjficnaaGreatDoor
