/- Colours: the program's own Mix, Over: two colours' parts. Written by gen/genco8.py. -/
import Derived.Test.YtaiinglogpbfjaaDoorCoQ
import Derived.Test.YtaiinglogpbfjaaDoorCoH
import Derived.Test.YtaiinglogpbfjaaDoorCoC
import Derived.Deep.CutRange
namespace Go.Proofs.YtaiinglogpbfjaaDoor
open Go.RowKit

theorem gotP1 {X Y w' : World} (b : Below Y.heap.size Y w') (h : Y.heap = (X.alloc (.cells #[.int .u8 0, .int .u8 0, .int .u8 0, .int .u8 0] 33)).heap) : Box w' X.heap.size 33 [.int .u8 0, .int .u8 0, .int .u8 0, .int .u8 0] ∧ X.heap.size + 1 ≤ w'.heap.size := by
  have hs : Y.heap.size = X.heap.size + 1 := by rw [h]; simp
  have h1 := b.size
  refine ⟨?_, by omega⟩
  refine (b.block X.heap.size (by omega)).trans ?_
  rw [h]
  exact heap_alloc_new X (.cells #[.int .u8 0, .int .u8 0, .int .u8 0, .int .u8 0] 33)
theorem gotP2 {X Y w' : World} (b : Below Y.heap.size Y w') (h : Y.heap = ((X.alloc (.cells #[.int .u8 0, .int .u8 0, .int .u8 0, .int .u8 0] 33)).alloc (.cells #[.int .u8 0, .int .u8 0, .int .u8 0, .int .u8 0] 33)).heap) : (Box w' X.heap.size 33 [.int .u8 0, .int .u8 0, .int .u8 0, .int .u8 0] ∧ X.heap.size + 1 + 1 ≤ w'.heap.size) ∧ Box w' (X.heap.size + 1) 33 [.int .u8 0, .int .u8 0, .int .u8 0, .int .u8 0] := by
  have hs : Y.heap.size = X.heap.size + 1 + 1 := by rw [h]; simp
  have h1 := b.size
  refine ⟨⟨?_, by omega⟩, ?_⟩
  · refine (b.block X.heap.size (by omega)).trans ?_
    rw [h]
    exact (Below.heap_alloc _ _ _ (by simp)).trans (heap_alloc_new X (.cells #[.int .u8 0, .int .u8 0, .int .u8 0, .int .u8 0] 33))
  · refine (b.block (X.heap.size + 1) (by omega)).trans ?_
    rw [h]
    have := heap_alloc_new (X.alloc (.cells #[.int .u8 0, .int .u8 0, .int .u8 0, .int .u8 0] 33)) (.cells #[.int .u8 0, .int .u8 0, .int .u8 0, .int .u8 0] 33)
    unfold Box at *
    simpa using this
/-- two colours that a call is handed, in boxes of their own, and the box of its answer -/
theorem three_boxes (c d : Col) (w : World) : ∃ W, ((w.alloc (.cells (colCells c).toArray 23)).alloc (.cells (colCells d).toArray 23)).alloc (.cells zero4.toArray 23) = W ∧ Box W w.heap.size 23 (colCells c) ∧ Box W (w.heap.size + 1) 23 (colCells d) ∧ Box W (w.heap.size + 2) 23 zero4 ∧ Below w.heap.size w W ∧ W.heap.size = w.heap.size + 3 :=
  ⟨_, rfl, ((Box.new w _ _).alloc _).alloc _, (Box.at_new _ _ _ (by simp)).alloc _, Box.at_new _ _ _ (by simp), (((Below.refl _ _).alloc (Nat.le_refl _) _).alloc (by simp) _).alloc (by simp; omega) _, by simp⟩

theorem mix_facts (a b n : UInt8) : ∃ (x y z : Nat) (p q : Int), a.toNat = x ∧ b.toNat = y ∧ n.toNat = z ∧ (x : Int) * (255 - (z : Int)) = p ∧ (y : Int) * (z : Int) = q ∧
    IntKind.i64.wrap (x : Int) = (x : Int) ∧ IntKind.i64.wrap (y : Int) = (y : Int) ∧ IntKind.i64.wrap (z : Int) = (z : Int) ∧ IntKind.i64.wrap (255 - (z : Int)) = 255 - (z : Int) ∧ IntKind.i64.wrap p = p ∧ IntKind.i64.wrap q = q ∧ IntKind.i64.wrap (p + q) = p + q ∧ IntKind.u8.wrap (255 - (z : Int)) = 255 - (z : Int) ∧
    (∀ V, Calls Tryd.prog 21 #[.int .i64 (p + q)] V fun e w' => e = .returned (.int .u8 ((mixU a b n).toNat : Int)) ∧ V = w') := by
  obtain ⟨m1, m2, m3, m4⟩ := mix_bounds a b n
  have ha := a.toNat_lt
  have hb := b.toNat_lt
  have hn := n.toNat_lt
  refine ⟨a.toNat, b.toNat, n.toNat, _, _, rfl, rfl, rfl, rfl, rfl, ?_, ?_, ?_, ?_, ?_, ?_, ?_, ?_, fun V => col_Part0 _ (by omega) (by omega) V⟩
  any_goals exact IntWalk.i64_in _ (by omega)
  exact IntWalk.u8_in _ (by omega)

end Go.Proofs.YtaiinglogpbfjaaDoor
