/- Whole numbers: what the program's Parse answers. -/
import Derived.Test.YtbhahddgajkchaaZWhY
import Derived.Lib.Strings
import Derived.Test.YtbhahddgajkchaaZWrY
import Derived.Test.YtbhahddgajkchaaZFrV
import Derived.Test.YtbhahddgajkchaaZTxtY
namespace Go.Proofs.Ytbhahddgajkchaa
open Go.RowKit Num

/-- what a size's reading and a sign come to -/
def comb (neg : Bool) (M e0 : Nat) (N : Int) (er : Nat) : Prop :=
  (e0 ≠ 0 ∧ er = e0 ∧ N = 0) ∨ (e0 = 0 ∧ (neg = true ∧ M = 0) ∧ er = 3 ∧ N = 0) ∨ (e0 = 0 ∧ ¬ (neg = true ∧ M = 0) ∧ er = 0 ∧ N = if neg then -(M : Int) else M)
theorem comb.unique {neg : Bool} {M e0 : Nat} {N N' : Int} {er er' : Nat} (h : comb neg M e0 N er) (k : comb neg M e0 N' er') : N = N' ∧ er = er' := by
  rcases h with ⟨h0, h1, h2⟩ | ⟨h0, h3, h1, h2⟩ | ⟨h0, h3, h1, h2⟩ <;> rcases k with ⟨k0, k1, k2⟩ | ⟨k0, k3, k1, k2⟩ | ⟨k0, k3, k1, k2⟩
  all_goals first | exact absurd h0 k0 | exact absurd k0 h0 | exact absurd h3 k3 | exact absurd k3 h3 | exact ⟨by rw [h2, k2], by rw [h1, k1]⟩
/-- a sign ahead of a size's text -/
def Ahead (bs : List UInt8) (neg : Bool) (ds : List UInt8) : Prop := (neg = true ∧ bs = 45 :: ds) ∨ (neg = false ∧ bs = ds ∧ bs.head? ≠ some 45)
/-- what a text tells: a whole number, or an error's number -/
def IsWParse (bs : List UInt8) (N : Int) (er : Nat) : Prop :=
  ∃ (neg : Bool) (ds : List UInt8) (M e0 : Nat), Ahead bs neg ds ∧ IsParse ds M e0 ∧ comb neg M e0 N er
theorem IsWParse.unique {bs : List UInt8} {N N' : Int} {er er' : Nat} (h : IsWParse bs N er) (k : IsWParse bs N' er') : N = N' ∧ er = er' := by
  obtain ⟨neg, ds, M, e0, h1, h2, h3⟩ := h
  obtain ⟨neg', ds', M', e0', k1, k2, k3⟩ := k
  have : neg = neg' ∧ ds = ds' := by
    rcases h1 with ⟨rfl, rfl⟩ | ⟨rfl, rfl, hh⟩ <;> rcases k1 with ⟨rfl, kk⟩ | ⟨rfl, kk, kh⟩
    · exact ⟨rfl, by injection kk⟩
    · simp at kh
    · rw [kk] at hh; simp at hh
    · exact ⟨rfl, kk⟩
  obtain ⟨rfl, rfl⟩ := this
  obtain ⟨rfl, rfl⟩ := h2.unique k2
  exact h3.unique k3
/-- a whole number that a text is read as -/
def WParses (bs : List UInt8) (w : World) (e : Ending) (w' : World) : Prop :=
  ∃ A xs c er N, e = .returned (.tuple #[.agg #[.bool (decide (N < 0)), .slice A xs.length c], .int .i64 (er : Nat)]) ∧ xs.length ≤ c ∧ Norm 4294967296 xs ∧ val 4294967296 xs = N.natAbs ∧ IsWParse bs N er ∧ Rd w' (fun g => g < w'.heap.size) .u32 A xs ∧ Below w.heap.size w w'

theorem cut_minus (bs : List UInt8) : (Lib.hasPrefix bs [45] = true ∧ ∃ ds, bs = 45 :: ds ∧ Lib.trimPrefix bs [45] = ds) ∨ (Lib.hasPrefix bs [45] = false ∧ bs.head? ≠ some 45 ∧ Lib.trimPrefix bs [45] = bs) := by
  cases bs with
  | nil => exact .inr ⟨rfl, by simp, rfl⟩
  | cons c r =>
    by_cases hc : c = 45
    · subst hc
      exact .inl ⟨by simp [Lib.hasPrefix], r, rfl, by simp [Lib.trimPrefix, Lib.hasPrefix]⟩
    · have h : Lib.hasPrefix (c :: r) [45] = false := by simp only [Lib.hasPrefix, List.isPrefixOf]; rw [show (45 == c) = false from by simpa using fun e => hc (Eq.symm e)]; rfl
      exact .inr ⟨h, by simpa using hc, by rw [Lib.trimPrefix, h]; rfl⟩

end Go.Proofs.Ytbhahddgajkchaa
/- Whole numbers, the document's own: what Text and Parse answer. -/

namespace Go.Proofs.Ytbhahddgajkchaa
open Go.RowKit Num

end Go.Proofs.Ytbhahddgajkchaa
/- Fractions, the document's own: what Text answers. -/

namespace Go.Proofs.Ytbhahddgajkchaa
open Go.RowKit Num

/-- the text of P by Q -/
def ftop (P : Int) (Q : Nat) : Int := if P < 0 then - ((P.natAbs / Nat.gcd P.natAbs Q : Nat) : Int) else ((P.natAbs / Nat.gcd P.natAbs Q : Nat) : Int)
def ftext (P : Int) (Q : Nat) : List UInt8 := if Q / Nat.gcd P.natAbs Q = 1 then wtext (ftop P Q) else wtext (ftop P Q) ++ 47 :: Lib.decDigits (Q / Nat.gcd P.natAbs Q)
theorem ftop_of {P : Int} {Q : Nat} {x : List Nat} (h : val 4294967296 x = P.natAbs / Nat.gcd P.natAbs Q) : wv (decide (P < 0)) x = ftop P Q := by
  unfold ftop
  by_cases hp : P < 0
  · rw [if_pos hp, decide_eq_true hp, wv_true, h]
  · rw [if_neg hp, decide_eq_false hp, wv_false, h]
theorem one_iff {y : List Nat} (h : Norm 4294967296 y) : y = [1] ↔ val 4294967296 y = 1 :=
  ⟨fun e => by rw [e]; rfl, fun e => Norm.ext (by omega) h (norm_one (by omega) (by omega)) (by rw [e]; rfl)⟩
theorem text_join (N M : List UInt8) : ((⟨N.toArray⟩ : ByteArray) ++ ⟨#[47]⟩ ++ ⟨M.toArray⟩) = ⟨(N ++ 47 :: M).toArray⟩ := by
  apply ByteArray.ext
  simp [ByteArray.data_append]
theorem wtext_len (N : Int) : (wtext N).length ≤ (Lib.decDigits N.natAbs).length + 1 := by
  unfold wtext
  split <;> simp

end Go.Proofs.Ytbhahddgajkchaa
