/- Rows in a block of their own, of a type whose cells hold no integers: what append leaves, of any number of elements; what else is read stays. No program is named here. -/
import Derived.Test.YtdmoibphidipeaaGreatDoorZOaI
import Derived.Deep.Upon
import Derived.Test.YtdmoibphidipeaaGreatDoorZCrX
import Derived.Test.YtdmoibphidipeaaGreatDoorZCsF
import Derived.Test.YtdmoibphidipeaaGreatDoorZSoC
namespace Go.Proofs.YtdmoibphidipeaaGreatDoor
open Go.RowKit Num

/-- a slice of elements of k cells in a block of its own, in which no integer lies -/
def OwnR (t : TypeId) (k : Nat) (w : World) (base : Nat) (v : Value) (n : Nat) (xs : List Value) : Prop :=
  xs.length = n * k ∧ NoInt xs ∧ ((v = .slice none 0 0 ∧ n = 0) ∨
    ∃ g cap cur, v = .slice (some ⟨g, 0, none⟩) n cap ∧ base ≤ g ∧ w.heap[g]? = some (.cells cur t (0, 0)) ∧ n ≤ cap ∧ cap ≤ maxLen ∧ cur.size = cap * k ∧ cur.toList.take (n * k) = xs ∧ NoInt cur.toList)
theorem OwnR.nil (t : TypeId) (k : Nat) (w : World) (base : Nat) : OwnR t k w base (.slice none 0 0) 0 [] := ⟨by simp, fun v h => by simp at h, .inl ⟨rfl, rfl⟩⟩
section
variable {t : TypeId} {k : Nat}
theorem OwnR.kept {w w' : World} {base : Nat} {v : Value} {n : Nat} {xs : List Value} (h : OwnR t k w base v n xs) (hb : Below w.heap.size w w') : OwnR t k w' base v n xs := by
  refine ⟨h.1, h.2.1, ?_⟩
  rcases h.2.2 with hn | ⟨g, cap, cur, rfl, hbg, hg, rest⟩
  · exact .inl hn
  · exact .inr ⟨g, cap, cur, rfl, hbg, (hb.block g (Array.getElem?_eq_some_iff.1 hg).1).trans hg, rest⟩
theorem OwnR.mono {w : World} {base base' : Nat} {v : Value} {n : Nat} {xs : List Value} (h : OwnR t k w base v n xs) (hb : base' ≤ base) : OwnR t k w base' v n xs := by
  refine ⟨h.1, h.2.1, ?_⟩
  rcases h.2.2 with hn | ⟨g, cap, cur, rfl, hbg, rest⟩
  · exact .inl hn
  · exact .inr ⟨g, cap, cur, rfl, Nat.le_trans hb hbg, rest⟩
theorem OwnR.cell {w : World} {base g cap : Nat} {n : Nat} {xs : List Value} (h : OwnR t k w base (.slice (some ⟨g, 0, none⟩) n cap) n xs) (j : Nat) {u : Value} (hu : xs[j]? = some u) : w.cell? ⟨g, j, none⟩ = some u := by
  rcases h.2.2 with ⟨e, _⟩ | ⟨g', cap', cur, e, _, hg, _, _, _, htake, _⟩
  · cases e
  · simp only [Value.slice.injEq, Option.some.injEq, Addr.mk.injEq, and_true, true_and] at e
    obtain ⟨rfl, rfl⟩ := e
    rw [cell_of_row w g j cur _ (0, 0) hg]
    rw [← htake, List.getElem?_take] at hu
    split at hu
    · simpa using hu
    · cases hu
theorem OwnR.any {w : World} {base : Nat} {v : Value} {n : Nat} {xs : List Value} (h : OwnR t k w base v n xs) : ∃ A cap, v = .slice A n cap ∧ n ≤ cap := by
  rcases h.2.2 with ⟨rfl, rfl⟩ | ⟨g, cap, cur, rfl, _, _, hc, _⟩
  · exact ⟨none, 0, rfl, Nat.le_refl _⟩
  · exact ⟨_, cap, rfl, hc⟩
end
section
variable {P : Program} {t : TypeId} {k : Nat}
/-- the type of the row's elements: their zero value, their cells -/
structure Elem (P : Program) (st t : TypeId) (zs : List Value) (k by' : Nat) : Prop where
  under : P.underlying st = some (.slice t)
  info : (P.info? t).map (fun i => (i.zero, i.size, i.bytes)) = some (some (.agg zs.toArray), k, by')
  cells : (Value.agg zs.toArray).cells = zs.toArray
  len : zs.length = k
  pos : 0 < k
  bytes : by' ≤ 65536
  noint : NoInt zs
end
end Go.Proofs.YtdmoibphidipeaaGreatDoor
/- The cuts of a way, as mathematics: ways of the grid that may not be; what is gathered way by way. No program is named here. -/

namespace Go.Proofs.YtdmoibphidipeaaGreatDoor

theorem inCuts_none (a b : Qp) (p : Qp) : p ∈ [a, b] ↔ InCuts a b [] p := by
  unfold InCuts
  simp
/-- a way of the grid -/
abbrev Wy := Pt × Pt
open Classical in
noncomputable def wayT (t : Wy) : Option (Qp × Qp) := if FitP t.1 ∧ FitP t.2 then some (qAt t.1, qAt t.2) else none
/-- the row that Cuts answers, of ways of the grid -/
def CutsR (a b : Pt) (l : List Wy) (R : List Qp) : Prop := (FitP a ∧ FitP b → IsCuts (qAt a) (qAt b) (l.map wayT) R) ∧ (¬ (FitP a ∧ FitP b) → R = [])
end Go.Proofs.YtdmoibphidipeaaGreatDoor
/- The cuts of a way: rows of ways as they lie; both Rows by worth, of any size of words; what both Cuts answer. -/

namespace Go.Proofs.YtdmoibphidipeaaGreatDoor
open Go.RowKit Num rows

theorem MeetR.le {a b c d : Pt} {R : List Qp} (h : MeetR a b c d R) : R.length ≤ 2 := by
  by_cases hf : (FitP a ∧ FitP b) ∧ FitP c ∧ FitP d
  · exact (h.1 hf).le
  · rw [h.2 hf]
    simp
/-- what is gathered of the cuts so far -/
def GathC (a b : Pt) (l : List Wy) (i : Nat) (R : List Qp) : Prop := (∀ p, p ∈ R ↔ InCuts (qAt a) (qAt b) ((l.take i).map wayT) p) ∧ R.length ≤ 2 + 2 * i
theorem GathC.zero (a b : Pt) (l : List Wy) : GathC a b l 0 [qAt a, qAt b] := ⟨fun p => inCuts_none _ _ p, by simp⟩
theorem GathC.all {a b : Pt} {l : List Wy} {L : List Sp} {R0 R : List Qp} (ha : FitP a) (hb : FitP b) (h : GathC a b l l.length R0) (e : L.map sw = R0) (hs : R.Pairwise ltQ) (hm : ∀ q, q ∈ R ↔ q ∈ L.map sw) :
    (leQ (qAt a) (qAt b) → CutsR a b l R) ∧ (¬ leQ (qAt a) (qAt b) → CutsR a b l R.reverse) := by
  have hall : ∀ p, p ∈ R ↔ InCuts (qAt a) (qAt b) (l.map wayT) p := fun p => by
    rw [hm, e, h.1, List.take_length]
  have k := IsCuts.of hs hall
  exact ⟨fun c => ⟨fun _ => k.1 c, fun n => absurd ⟨ha, hb⟩ n⟩, fun c => ⟨fun _ => k.2 c, fun n => absurd ⟨ha, hb⟩ n⟩⟩
end Go.Proofs.YtdmoibphidipeaaGreatDoor
