/- Fractions, the document's own: what Int, Half, Make, Div and Cmp answer. -/
import Derived.Test.YtdkgnechiloimaaZFrY
import Derived.Test.YtdkgnechiloimaaZWrY
namespace Go.Proofs.Ytdkgnechiloimaa
open Go.RowKit Num

end Go.Proofs.Ytdkgnechiloimaa
/- Fractions, the document's own: what Make, Div and Cmp answer. -/

namespace Go.Proofs.Ytdkgnechiloimaa
open Go.RowKit Num

/-- a fraction, or 5 where the lower part is 0 -/
def GivesFE (P : Int) (Q : Nat) (w : World) (e : Ending) (w' : World) : Prop :=
  (Q = 0 ∧ e = .returned (.tuple #[.agg #[.bool false, .slice none 0 0, .slice none 0 0], .int .i64 5]) ∧ Below w.heap.size w w') ∨
    (0 < Q ∧ ∃ v, e = .returned (.tuple #[v, .int .i64 0]) ∧ GivesF P Q w (.returned v) w')
theorem keep2w {W V : World} {g : Nat} {t : TypeId} {a0 a1 : Value} (k : Blk W g t [a0, a1]) (hb : Below W.heap.size W V) : V.cell? ⟨g, 0, none⟩ = some a0 ∧ V.cell? ⟨g, 1, none⟩ = some a1 := by
  have k' := k.below hb k.lt
  exact ⟨k'.cell 0 rfl, k'.cell 1 rfl⟩
theorem far_cells2 {v : World} {g g' : Nat} {t : TypeId} {a0 a1 : Value} (k : Blk v g t [a0, a1]) (hne : g ≠ g') (u0 u1 u2 : Value) :
    (((v.setCell ⟨g', 0, none⟩ u0).setCell ⟨g', 1, none⟩ u1).setCell ⟨g', 2, none⟩ u2).cell? ⟨g, 0, none⟩ = some a0 ∧ (((v.setCell ⟨g', 0, none⟩ u0).setCell ⟨g', 1, none⟩ u1).setCell ⟨g', 2, none⟩ u2).cell? ⟨g, 1, none⟩ = some a1 := by
  have k' := ((k.far (p := ⟨g', 0, none⟩) hne u0).far (p := ⟨g', 1, none⟩) hne u1).far (p := ⟨g', 2, none⟩) hne u2
  exact ⟨k'.cell 0 rfl, k'.cell 1 rfl⟩
end Go.Proofs.Ytdkgnechiloimaa
/- Fractions, the document's own: what Cmp answers. -/

namespace Go.Proofs.Ytdkgnechiloimaa
open Go.RowKit Num

end Go.Proofs.Ytdkgnechiloimaa
/- Fractions, the document's own: what Div answers. -/

namespace Go.Proofs.Ytdkgnechiloimaa
open Go.RowKit Num

/-- what stands in a fraction and an error that are answered together -/
def Fit (P : Int) (Q : Nat) (n : Bool) (A : Option Addr) (la ca : Nat) (D : Option Addr) (ld cd : Nat) (c : Int) (w' : World) : Prop :=
  (Q = 0 ∧ n = false ∧ A = none ∧ la = 0 ∧ ca = 0 ∧ D = none ∧ ld = 0 ∧ cd = 0 ∧ c = 5) ∨
    (0 < Q ∧ n = decide (P < 0) ∧ c = 0 ∧ ∃ a d, la = a.length ∧ ld = d.length ∧ a.length ≤ ca ∧ d.length ≤ cd ∧ Norm 4294967296 a ∧ Norm 4294967296 d ∧ val 4294967296 a = P.natAbs / Nat.gcd P.natAbs Q ∧ val 4294967296 d = Q / Nat.gcd P.natAbs Q ∧ Rd w' (fun g => g < w'.heap.size) .u32 A a ∧ Rd w' (fun g => g < w'.heap.size) .u32 D d)
theorem GivesFE.one {P : Int} {Q : Nat} {w w' : World} {e : Ending} (h : GivesFE P Q w e w') : ∃ n A la ca D ld cd c, e = .returned (.tuple #[.agg #[.bool n, .slice A la ca, .slice D ld cd], .int .i64 c]) ∧ Fit P Q n A la ca D ld cd c w' ∧ Below w.heap.size w w' := by
  rcases h with ⟨h0, rfl, b⟩ | ⟨h0, v, rfl, A, a, ca, D, d, cd, he, h1, h2, h3, h4, h5, h6, h7, h8, b⟩
  · exact ⟨_, _, _, _, _, _, _, _, rfl, .inl ⟨h0, rfl, rfl, rfl, rfl, rfl, rfl, rfl, rfl⟩, b⟩
  · cases he
    exact ⟨_, _, _, _, _, _, _, _, rfl, .inr ⟨h0, rfl, rfl, a, d, rfl, rfl, h1, h2, h3, h4, h5, h6, h7, h8⟩, b⟩
/-- both stored where they lie -/
theorem fin_fit {w v : World} {g : Nat} {t : TypeId} (k : Blk v g t [.bool false, .slice none 0 0, .slice none 0 0]) (hg : w.heap.size ≤ g) (B : Below w.heap.size w v) {P : Int} {Q : Nat} {n : Bool} {A D : Option Addr} {la ca ld cd : Nat} {c : Int} (F : Fit P Q n A la ca D ld cd c v) :
    ∃ U, ((v.setCell ⟨g, 0, none⟩ (.bool n)).setCell ⟨g, 1, none⟩ (.slice A la ca)).setCell ⟨g, 2, none⟩ (.slice D ld cd) = U ∧ U.cell? ⟨g, 0, none⟩ = some (.bool n) ∧ U.cell? ⟨g, 1, none⟩ = some (.slice A la ca) ∧ U.cell? ⟨g, 2, none⟩ = some (.slice D ld cd) ∧
      GivesFE P Q w (.returned (.tuple #[.agg #[.bool n, .slice A la ca, .slice D ld cd], .int .i64 c])) U := by
  rcases F with ⟨h0, rfl, rfl, rfl, rfl, rfl, rfl, rfl, rfl⟩ | ⟨h0, rfl, rfl, a, d, rfl, rfl, h1, h2, h3, h4, h5, h6, h7, h8⟩
  · obtain ⟨U, hU, u0, u1, u2, -, bU, -, -⟩ := k.three (.bool false) (.slice none 0 0) (.slice none 0 0)
    exact ⟨U, hU, u0, u1, u2, .inl ⟨h0, rfl, B.trans (bU _ hg)⟩⟩
  · obtain ⟨U, hU, u0, u1, u2, hG⟩ := fin_frac k hg B h1 h2 h3 h4 h5 h6 h7 h8
    exact ⟨U, hU, u0, u1, u2, .inr ⟨h0, _, rfl, hG⟩⟩
/-- the upper part of a number by another one, that may be below 0 -/
def acrossN (P1 P2 : Int) : Int := if P2 < 0 then - P1 else P1
/-- the sign of a number by another one -/
theorem wv_across {P1 P2 : Int} {x : List Nat} (h : val 4294967296 x = P1.natAbs) : wv (!(decide (P1 < 0) == decide (P2 < 0))) x = acrossN P1 P2 := by
  unfold acrossN
  by_cases h2 : P2 < 0
  · rw [if_pos h2, decide_eq_true h2]
    by_cases h1 : P1 < 0
    · rw [decide_eq_true h1]
      show wv false x = _
      rw [wv_false, h]; omega
    · rw [decide_eq_false h1]
      show wv true x = _
      rw [wv_true, h]; omega
  · rw [if_neg h2, decide_eq_false h2]
    by_cases h1 : P1 < 0
    · rw [decide_eq_true h1]
      show wv true x = _
      rw [wv_true, h]; omega
    · rw [decide_eq_false h1]
      show wv false x = _
      rw [wv_false, h]; omega

end Go.Proofs.Ytdkgnechiloimaa
