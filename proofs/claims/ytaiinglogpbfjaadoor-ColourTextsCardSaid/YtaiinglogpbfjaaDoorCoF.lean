/- What lies in boxes across calls: a colour's four parts. Written by gen/genck.py. -/
import Derived.Test.YtaiinglogpbfjaaDoorCoL
import Derived.Deep.CutRange
namespace Go.Proofs.YtaiinglogpbfjaaDoor
open Go.RowKit

theorem gotC1 {X Y w' : World} (b : Below Y.heap.size Y w') (h : Y.heap = (X.alloc (.cells #[.int .u8 0, .int .u8 0, .int .u8 0, .int .u8 0] 23)).heap) : Box w' X.heap.size 23 [.int .u8 0, .int .u8 0, .int .u8 0, .int .u8 0] ∧ X.heap.size + 1 ≤ w'.heap.size := by
  have hs : Y.heap.size = X.heap.size + 1 := by rw [h]; simp
  have h1 := b.size
  refine ⟨?_, by omega⟩
  refine (b.block X.heap.size (by omega)).trans ?_
  rw [h]
  exact heap_alloc_new X (.cells #[.int .u8 0, .int .u8 0, .int .u8 0, .int .u8 0] 23)
theorem gotC2 {X Y w' : World} (b : Below Y.heap.size Y w') (h : Y.heap = ((X.alloc (.cells #[.int .u8 0, .int .u8 0, .int .u8 0, .int .u8 0] 23)).alloc (.cells #[.int .u8 0, .int .u8 0, .int .u8 0, .int .u8 0] 23)).heap) : (Box w' X.heap.size 23 [.int .u8 0, .int .u8 0, .int .u8 0, .int .u8 0] ∧ X.heap.size + 1 + 1 ≤ w'.heap.size) ∧ Box w' (X.heap.size + 1) 23 [.int .u8 0, .int .u8 0, .int .u8 0, .int .u8 0] := by
  have hs : Y.heap.size = X.heap.size + 1 + 1 := by rw [h]; simp
  have h1 := b.size
  refine ⟨⟨?_, by omega⟩, ?_⟩
  · refine (b.block X.heap.size (by omega)).trans ?_
    rw [h]
    exact (Below.heap_alloc _ _ _ (by simp)).trans (heap_alloc_new X (.cells #[.int .u8 0, .int .u8 0, .int .u8 0, .int .u8 0] 23))
  · refine (b.block (X.heap.size + 1) (by omega)).trans ?_
    rw [h]
    have := heap_alloc_new (X.alloc (.cells #[.int .u8 0, .int .u8 0, .int .u8 0, .int .u8 0] 23)) (.cells #[.int .u8 0, .int .u8 0, .int .u8 0, .int .u8 0] 23)
    unfold Box at *
    simpa using this

/-- a colour lies in a block's first four cells -/
def Lies (w : World) (g : Nat) (c : Col) : Prop := (w.cell? ⟨g, 0, none⟩ = some (.int .u8 (c.r.toNat : Int)) ∧ w.cell? ⟨g, 1, none⟩ = some (.int .u8 (c.g.toNat : Int)) ∧ w.cell? ⟨g, 2, none⟩ = some (.int .u8 (c.b.toNat : Int)) ∧ w.cell? ⟨g, 3, none⟩ = some (.int .u8 (c.a.toNat : Int))) ∧ g < w.heap.size
theorem Lies.on {w w' : World} {g : Nat} {c : Col} (h : Lies w g c) (hb : Below w.heap.size w w') : Lies w' g c := by
  obtain ⟨⟨h0, h1, h2, h3⟩, hl⟩ := h
  have e : ∀ (j : Nat), w'.cell? ⟨g, j, none⟩ = w.cell? ⟨g, j, none⟩ := fun j => hb.cell (p := ⟨g, j, none⟩) hl
  exact ⟨⟨(e 0).trans h0, (e 1).trans h1, (e 2).trans h2, (e 3).trans h3⟩, Nat.lt_of_lt_of_le hl hb.size⟩
theorem Lies.alloc {w : World} {g : Nat} {c : Col} (h : Lies w g c) (o : Obj) : Lies (w.alloc o) g c := h.on ((Below.refl _ _).alloc (Nat.le_refl _) o)
theorem Lies.box {w : World} {g : Nat} {t : TypeId} {c : Col} (h : Box w g t (colCells c)) : Lies w g c := ⟨(Box.four h).1, h.lt⟩
def Five (w : World) (g3 g4 g7 g8 g9 : Nat) (c d x y z : Col) : Prop := Lies w g3 c ∧ Lies w g4 d ∧ Lies w g7 x ∧ Lies w g8 y ∧ Lies w g9 z
theorem Five.on {w w' : World} {g3 g4 g7 g8 g9 : Nat} {c d x y z : Col} (h : Five w g3 g4 g7 g8 g9 c d x y z) (hb : Below w.heap.size w w') : Five w' g3 g4 g7 g8 g9 c d x y z :=
  ⟨h.1.on hb, h.2.1.on hb, h.2.2.1.on hb, h.2.2.2.1.on hb, h.2.2.2.2.on hb⟩

theorem five_on {g3 g4 g7 g8 g9 : Nat} {c d x y z : Col} {v w w' : World} (h : (((w.cell? ⟨g3, 0, none⟩ = some (.int .u8 (c.r.toNat : Int)) ∧ w.cell? ⟨g3, 1, none⟩ = some (.int .u8 (c.g.toNat : Int)) ∧ w.cell? ⟨g3, 2, none⟩ = some (.int .u8 (c.b.toNat : Int)) ∧ w.cell? ⟨g3, 3, none⟩ = some (.int .u8 (c.a.toNat : Int))) ∧ (w.cell? ⟨g4, 0, none⟩ = some (.int .u8 (d.r.toNat : Int)) ∧ w.cell? ⟨g4, 1, none⟩ = some (.int .u8 (d.g.toNat : Int)) ∧ w.cell? ⟨g4, 2, none⟩ = some (.int .u8 (d.b.toNat : Int)) ∧ w.cell? ⟨g4, 3, none⟩ = some (.int .u8 (d.a.toNat : Int))) ∧ (w.cell? ⟨g7, 0, none⟩ = some (.int .u8 (x.r.toNat : Int)) ∧ w.cell? ⟨g7, 1, none⟩ = some (.int .u8 (x.g.toNat : Int)) ∧ w.cell? ⟨g7, 2, none⟩ = some (.int .u8 (x.b.toNat : Int)) ∧ w.cell? ⟨g7, 3, none⟩ = some (.int .u8 (x.a.toNat : Int))) ∧ (w.cell? ⟨g8, 0, none⟩ = some (.int .u8 (y.r.toNat : Int)) ∧ w.cell? ⟨g8, 1, none⟩ = some (.int .u8 (y.g.toNat : Int)) ∧ w.cell? ⟨g8, 2, none⟩ = some (.int .u8 (y.b.toNat : Int)) ∧ w.cell? ⟨g8, 3, none⟩ = some (.int .u8 (y.a.toNat : Int))) ∧ (w.cell? ⟨g9, 0, none⟩ = some (.int .u8 (z.r.toNat : Int)) ∧ w.cell? ⟨g9, 1, none⟩ = some (.int .u8 (z.g.toNat : Int)) ∧ w.cell? ⟨g9, 2, none⟩ = some (.int .u8 (z.b.toNat : Int)) ∧ w.cell? ⟨g9, 3, none⟩ = some (.int .u8 (z.a.toNat : Int)))) ∧ (g3 < w.heap.size ∧ g4 < w.heap.size ∧ g7 < w.heap.size ∧ g8 < w.heap.size ∧ g9 < w.heap.size)) ∧ Below v.heap.size v w) (hb : Below w.heap.size w w') : (((w'.cell? ⟨g3, 0, none⟩ = some (.int .u8 (c.r.toNat : Int)) ∧ w'.cell? ⟨g3, 1, none⟩ = some (.int .u8 (c.g.toNat : Int)) ∧ w'.cell? ⟨g3, 2, none⟩ = some (.int .u8 (c.b.toNat : Int)) ∧ w'.cell? ⟨g3, 3, none⟩ = some (.int .u8 (c.a.toNat : Int))) ∧ (w'.cell? ⟨g4, 0, none⟩ = some (.int .u8 (d.r.toNat : Int)) ∧ w'.cell? ⟨g4, 1, none⟩ = some (.int .u8 (d.g.toNat : Int)) ∧ w'.cell? ⟨g4, 2, none⟩ = some (.int .u8 (d.b.toNat : Int)) ∧ w'.cell? ⟨g4, 3, none⟩ = some (.int .u8 (d.a.toNat : Int))) ∧ (w'.cell? ⟨g7, 0, none⟩ = some (.int .u8 (x.r.toNat : Int)) ∧ w'.cell? ⟨g7, 1, none⟩ = some (.int .u8 (x.g.toNat : Int)) ∧ w'.cell? ⟨g7, 2, none⟩ = some (.int .u8 (x.b.toNat : Int)) ∧ w'.cell? ⟨g7, 3, none⟩ = some (.int .u8 (x.a.toNat : Int))) ∧ (w'.cell? ⟨g8, 0, none⟩ = some (.int .u8 (y.r.toNat : Int)) ∧ w'.cell? ⟨g8, 1, none⟩ = some (.int .u8 (y.g.toNat : Int)) ∧ w'.cell? ⟨g8, 2, none⟩ = some (.int .u8 (y.b.toNat : Int)) ∧ w'.cell? ⟨g8, 3, none⟩ = some (.int .u8 (y.a.toNat : Int))) ∧ (w'.cell? ⟨g9, 0, none⟩ = some (.int .u8 (z.r.toNat : Int)) ∧ w'.cell? ⟨g9, 1, none⟩ = some (.int .u8 (z.g.toNat : Int)) ∧ w'.cell? ⟨g9, 2, none⟩ = some (.int .u8 (z.b.toNat : Int)) ∧ w'.cell? ⟨g9, 3, none⟩ = some (.int .u8 (z.a.toNat : Int)))) ∧ (g3 < w'.heap.size ∧ g4 < w'.heap.size ∧ g7 < w'.heap.size ∧ g8 < w'.heap.size ∧ g9 < w'.heap.size)) ∧ Below v.heap.size v w' := by
  obtain ⟨⟨⟨h3, h4, h7, h8, h9⟩, l3, l4, l7, l8, l9⟩, hv⟩ := h
  have a := (show Lies w g3 c from ⟨h3, l3⟩).on hb
  have b := (show Lies w g4 d from ⟨h4, l4⟩).on hb
  have e := (show Lies w g7 x from ⟨h7, l7⟩).on hb
  have f := (show Lies w g8 y from ⟨h8, l8⟩).on hb
  have k := (show Lies w g9 z from ⟨h9, l9⟩).on hb
  exact ⟨⟨⟨a.1, b.1, e.1, f.1, k.1⟩, a.2, b.2, e.2, f.2, k.2⟩, hv.trans (hb.mono hv.size)⟩
theorem five_drew {g3 g4 g7 g8 g9 : Nat} {c d x y z : Col} {v w : World} (h : (((w.cell? ⟨g3, 0, none⟩ = some (.int .u8 (c.r.toNat : Int)) ∧ w.cell? ⟨g3, 1, none⟩ = some (.int .u8 (c.g.toNat : Int)) ∧ w.cell? ⟨g3, 2, none⟩ = some (.int .u8 (c.b.toNat : Int)) ∧ w.cell? ⟨g3, 3, none⟩ = some (.int .u8 (c.a.toNat : Int))) ∧ (w.cell? ⟨g4, 0, none⟩ = some (.int .u8 (d.r.toNat : Int)) ∧ w.cell? ⟨g4, 1, none⟩ = some (.int .u8 (d.g.toNat : Int)) ∧ w.cell? ⟨g4, 2, none⟩ = some (.int .u8 (d.b.toNat : Int)) ∧ w.cell? ⟨g4, 3, none⟩ = some (.int .u8 (d.a.toNat : Int))) ∧ (w.cell? ⟨g7, 0, none⟩ = some (.int .u8 (x.r.toNat : Int)) ∧ w.cell? ⟨g7, 1, none⟩ = some (.int .u8 (x.g.toNat : Int)) ∧ w.cell? ⟨g7, 2, none⟩ = some (.int .u8 (x.b.toNat : Int)) ∧ w.cell? ⟨g7, 3, none⟩ = some (.int .u8 (x.a.toNat : Int))) ∧ (w.cell? ⟨g8, 0, none⟩ = some (.int .u8 (y.r.toNat : Int)) ∧ w.cell? ⟨g8, 1, none⟩ = some (.int .u8 (y.g.toNat : Int)) ∧ w.cell? ⟨g8, 2, none⟩ = some (.int .u8 (y.b.toNat : Int)) ∧ w.cell? ⟨g8, 3, none⟩ = some (.int .u8 (y.a.toNat : Int))) ∧ (w.cell? ⟨g9, 0, none⟩ = some (.int .u8 (z.r.toNat : Int)) ∧ w.cell? ⟨g9, 1, none⟩ = some (.int .u8 (z.g.toNat : Int)) ∧ w.cell? ⟨g9, 2, none⟩ = some (.int .u8 (z.b.toNat : Int)) ∧ w.cell? ⟨g9, 3, none⟩ = some (.int .u8 (z.a.toNat : Int)))) ∧ (g3 < w.heap.size ∧ g4 < w.heap.size ∧ g7 < w.heap.size ∧ g8 < w.heap.size ∧ g9 < w.heap.size)) ∧ Below v.heap.size v w) : (((w.drew.cell? ⟨g3, 0, none⟩ = some (.int .u8 (c.r.toNat : Int)) ∧ w.drew.cell? ⟨g3, 1, none⟩ = some (.int .u8 (c.g.toNat : Int)) ∧ w.drew.cell? ⟨g3, 2, none⟩ = some (.int .u8 (c.b.toNat : Int)) ∧ w.drew.cell? ⟨g3, 3, none⟩ = some (.int .u8 (c.a.toNat : Int))) ∧ (w.drew.cell? ⟨g4, 0, none⟩ = some (.int .u8 (d.r.toNat : Int)) ∧ w.drew.cell? ⟨g4, 1, none⟩ = some (.int .u8 (d.g.toNat : Int)) ∧ w.drew.cell? ⟨g4, 2, none⟩ = some (.int .u8 (d.b.toNat : Int)) ∧ w.drew.cell? ⟨g4, 3, none⟩ = some (.int .u8 (d.a.toNat : Int))) ∧ (w.drew.cell? ⟨g7, 0, none⟩ = some (.int .u8 (x.r.toNat : Int)) ∧ w.drew.cell? ⟨g7, 1, none⟩ = some (.int .u8 (x.g.toNat : Int)) ∧ w.drew.cell? ⟨g7, 2, none⟩ = some (.int .u8 (x.b.toNat : Int)) ∧ w.drew.cell? ⟨g7, 3, none⟩ = some (.int .u8 (x.a.toNat : Int))) ∧ (w.drew.cell? ⟨g8, 0, none⟩ = some (.int .u8 (y.r.toNat : Int)) ∧ w.drew.cell? ⟨g8, 1, none⟩ = some (.int .u8 (y.g.toNat : Int)) ∧ w.drew.cell? ⟨g8, 2, none⟩ = some (.int .u8 (y.b.toNat : Int)) ∧ w.drew.cell? ⟨g8, 3, none⟩ = some (.int .u8 (y.a.toNat : Int))) ∧ (w.drew.cell? ⟨g9, 0, none⟩ = some (.int .u8 (z.r.toNat : Int)) ∧ w.drew.cell? ⟨g9, 1, none⟩ = some (.int .u8 (z.g.toNat : Int)) ∧ w.drew.cell? ⟨g9, 2, none⟩ = some (.int .u8 (z.b.toNat : Int)) ∧ w.drew.cell? ⟨g9, 3, none⟩ = some (.int .u8 (z.a.toNat : Int)))) ∧ (g3 < w.drew.heap.size ∧ g4 < w.drew.heap.size ∧ g7 < w.drew.heap.size ∧ g8 < w.drew.heap.size ∧ g9 < w.drew.heap.size)) ∧ Below v.heap.size v w.drew := ⟨h.1, h.2.drew⟩
theorem field_a (v0 v1 v2 v3 : Value) (w : World) : (Instr.field 23 (.agg #[v0, v1, v2, v3]) 3).run Tryd.prog w = .ok v3 w := by
  simp [go_sem, Instr.field, asAgg]

end Go.Proofs.YtaiinglogpbfjaaDoor
