/- Two rows of numbers: are they the same? The document's own. -/
import Derived.Test.YtaiinglogpbfjaaDoorFgD
import Derived.Test.YtaiinglogpbfjaaDoorLxM
import Derived.BigQuiet
namespace Go.Proofs.YtaiinglogpbfjaaDoor
open Go.RowKit Num

def icells (l : List Int) : List Value := l.map (.int .i64 ·)
theorem icells_length (l : List Int) : (icells l).length = l.length := by simp [icells]
theorem RdV.num {w : World} {B : Nat} {p : Option Addr} {l : List Int} (h : RdV w B p (icells l)) {i : Nat} (hi : i < l.length) : ∃ b o, p = some ⟨b, o, none⟩ ∧ b < B ∧ w.cell? ⟨b, o + i, none⟩ = some (.int .i64 l[i]) := by
  obtain ⟨b, o, h1, h2, h3⟩ := h (by rw [icells_length]; omega)
  exact ⟨b, o, h1, h2, by rw [h3 i (by rw [icells_length]; exact hi)]; simp [icells]⟩
/-- a yes or no that writes nothing that was there -/
def TellsIt (p : Prop) (w : World) (e : Ending) (w' : World) : Prop := (∃ d : Bool, e = .returned (.bool d) ∧ (d = true ↔ p)) ∧ Below w.heap.size w w'
theorem below_figE {B : Nat} {a w : World} (h : Below B a w) (q : Nat) : Below B a (w.drewN q) := ⟨h.os, h.tape, h.output, h.size, h.block⟩
theorem same_step {a b : List Int} {i : Nat} (h : a.take i = b.take i) (ha : i < a.length) (hb : i < b.length) (he : a[i] = b[i]) : a.take (i + 1) = b.take (i + 1) := by
  rw [List.take_succ_eq_append_getElem ha, List.take_succ_eq_append_getElem hb, h, he]
theorem same_not {a b : List Int} {i : Nat} (ha : i < a.length) (hb : i < b.length) (he : ¬ a[i] = b[i]) : ¬ a = b := fun e => he (by subst e; rfl)
theorem same_end {a b : List Int} (h : a.take a.length = b.take a.length) (hl : a.length = b.length) : a = b := by
  rw [List.take_length, hl, List.take_length] at h; exact h

end Go.Proofs.YtaiinglogpbfjaaDoor
