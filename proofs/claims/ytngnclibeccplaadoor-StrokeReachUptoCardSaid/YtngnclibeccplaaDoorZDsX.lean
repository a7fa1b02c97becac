/- Lines in pieces, the document's own: May, Pattern, Total. -/
import Derived.Test.YtngnclibeccplaaDoorZDsV
import Derived.Test.YtngnclibeccplaaDoorZGcY
import Derived.Test.YtngnclibeccplaaDoorZOaB
import Derived.Test.YtngnclibeccplaaDoorZGaW
namespace Go.Proofs.YtngnclibeccplaaDoor
open Go.RowKit

theorem mayD_step {P : List Int} {i : Nat} (hi : i < P.length) (h : ∀ x ∈ P.take i, 1 ≤ x ∧ x ≤ 8388607) (hx : 1 ≤ P[i] ∧ P[i] ≤ 8388607) : ∀ x ∈ P.take (i + 1), 1 ≤ x ∧ x ≤ 8388607 := by
  intro x hm
  rw [List.take_succ_eq_append_getElem hi, List.mem_append] at hm
  rcases hm with hm | hm
  · exact h x hm
  · simp at hm; subst hm; exact hx
theorem mayD_not {P : List Int} {h : Int} {i : Nat} (hi : i < P.length) (hx : ¬ (1 ≤ P[i] ∧ P[i] ≤ 8388607)) : ¬ MayD P h := fun k => hx (k.2.2 _ (List.getElem_mem hi))

theorem info_intG : (Tryd.prog.info? 3).map (fun i => (i.zero, i.size, i.bytes)) = some (some (.int .i64 0), 1, 8) := by kernel_rfl
theorem icells_append (a b : List Int) : icells (a ++ b) = icells a ++ icells b := by simp [icells]
theorem icells_one (l : List Int) : ∀ u ∈ icells l, u.oneCell' = true := by
  intro u hu
  obtain ⟨x, -, rfl⟩ := List.mem_map.1 hu
  rfl
/-- what Pattern answers -/
def Patted (P : List Int) (w : World) (e : Ending) (w' : World) : Prop := (∃ q k, e = .returned (.slice q (pattP P).length k) ∧ (pattP P).length ≤ k ∧ RdV w' w'.heap.size q (icells (pattP P))) ∧ Below w.heap.size w w'

end Go.Proofs.YtngnclibeccplaaDoor
/- Lines in pieces, the document's own: round, At. -/

namespace Go.Proofs.YtngnclibeccplaaDoor
open Go.RowKit

theorem ptRow_oneD (L : List Pt) : ∀ u ∈ ptRow L, u.oneCell' = true := by
  intro u hu
  obtain ⟨p, -, hp⟩ := List.mem_flatMap.1 hu
  simp only [ptCells, List.mem_cons, List.not_mem_nil, or_false] at hp
  rcases hp with rfl | rfl <;> rfl
/-- a row of points that a call made -/
def Ringed (L : List Pt) (c : Bool) (w : World) (e : Ending) (w' : World) : Prop :=
  (∃ q k, e = .returned (.slice q (ringP L c).length k) ∧ (ringP L c).length ≤ k ∧ RdV w' w'.heap.size q (ptRow (ringP L c)) ∧ ∀ b o, q = some ⟨b, o, none⟩ → w.heap.size ≤ b) ∧ Below w.heap.size w w'

end Go.Proofs.YtngnclibeccplaaDoor
/- Lines in pieces, the document's own: At. -/

namespace Go.Proofs.YtngnclibeccplaaDoor
open Go.RowKit

/-- what At answers -/
def AtV (l : List Pt) (c : Bool) (n : Int) : Pt := if AtOk l c n then atM l c n else pt0
theorem AtV_no {l : List Pt} {c : Bool} {n : Int} (h : ¬ AtOk l c n) : AtV l c n = pt0 := if_neg h
theorem AtV_yes {l : List Pt} {c : Bool} {n : Int} (h : AtOk l c n) : AtV l c n = atM l c n := if_pos h
theorem fits_ring (L : List Pt) (c : Bool) : decide (FitL (ringP L c)) = decide (FitL L) := decide_eq_decide.2 fitL_ring

end Go.Proofs.YtngnclibeccplaaDoor
