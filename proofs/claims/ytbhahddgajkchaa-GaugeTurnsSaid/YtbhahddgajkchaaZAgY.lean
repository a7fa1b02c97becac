/- A row of maps gone through backwards: the library's iterator, as this program has it. -/
import Derived.RangeFuncBox
import Derived.RangeFuncNested
import Derived.RangeFuncBound
import Derived.RangeFuncCalls
import Derived.RangeFuncLeaves
import Derived.Shelf.Abstract
import Derived.Shelf.RegionOpen
import Derived.WalkKit
import Derived.OwnWalkIn
import Derived.TacticsInMore
import Derived.LoopNIn
import Derived.LoopIn
import Derived.Sort.LoopGhostIn
import Derived.Maps.AppendAt
import Derived.Lib.Hide
import Derived.Test.YtbhahddgajkchaaZAfW
import Derived.Test.YtbhahddgajkchaaChecked
import Derived.Test.YtbhahddgajkchaaZAgX
namespace Go.Proofs.Ytbhahddgajkchaa
open Go.RowKit Go.Shelf
attribute [local go_sem] Oper.semAt_some

/-- what a round must keep: what lay below n₀, and the box that holds the row -/
def KpB (n₀ Bn : Nat) (W W' : World) : Prop := Below n₀ W W' ∧ W'.heap[Bn]? = W.heap[Bn]?
theorem KpB.trans' {n₀ Bn : Nat} {A B C : World} (h : KpB n₀ Bn A B) (k : KpB n₀ Bn B C) : KpB n₀ Bn A C := ⟨h.1.trans k.1, k.2.trans h.2⟩
theorem KpB.refl' (n₀ Bn : Nat) (W : World) : KpB n₀ Bn W W := ⟨Below.refl _ _, rfl⟩
theorem kpB_put {n₀ Bn : Nat} {w : World} (hn : n₀ ≤ w.heap.size) (hB : Bn < w.heap.size) (W : World) (l : Nat) (o o' : Obj) (hl : w.heap.size ≤ l) (h : W.heap[l]? = some o) (h1 : o.isCells = false) (h2 : o.isWalk = false) : KpB n₀ Bn W (W.putObj l o') :=
  ⟨belowK_b hn W l o o' hl h h1 h2, World.putObj_heap_other (by omega)⟩
theorem below_others {W W' : World} (h : Below W.heap.size W W') : KeepsOthers W W' := ⟨h.size, fun k _ hk _ => (h.block k (Array.getElem?_eq_some_iff.1 hk).1).trans hk⟩
theorem box_own {β : Type} (g : Nat) (t : TypeId) (f : β → List Value) : Own (fun s W => Box W g t (f s)) := fun s X Y row hs hg hrow => by
  unfold Box at *
  refine (hg.block g (Array.getElem?_eq_some_iff.1 hs).1 (fun e => ?_)).trans hs
  obtain ⟨o, ho, hc⟩ := hrow g e.symm
  rw [hs] at ho
  cases ho
  cases hc

end Go.Proofs.Ytbhahddgajkchaa
/- Maps of the plane: the program's own Through. -/

namespace Go.Proofs.Ytbhahddgajkchaa
open Go.RowKit Go.Shelf
attribute [local go_sem] Oper.semAt_some

theorem Box.put {W : World} {g D : Nat} {t : TypeId} {vs : List Value} (h : Box W g t vs) (hK : W.heap[D]? = some (.deferred (some []))) (o : Obj) : Box (W.putObj D o) g t vs := by
  unfold Box at *
  refine (World.putObj_heap_other (fun e => ?_)).trans h
  subst e
  rw [h] at hK
  cases hK
theorem newBox2 (v : World) (t : TypeId) (x y : Value) : ∃ Z, v.alloc (.cells #[x, y] t) = Z ∧ Box Z v.heap.size t [x, y] ∧ Below v.heap.size v Z :=
  ⟨_, rfl, Box.new v t [x, y], (Below.refl _ _).alloc (Nat.le_refl _) _⟩
end Go.Proofs.Ytbhahddgajkchaa
