/- Colours: the document's own Weigh, May, Over, Fade, Mix. -/
import Derived.Test.YtaiinglogpbfjaaCoA
import Derived.Deep.RegionHeld3
namespace Go.Proofs.Ytaiinglogpbfjaa
open Go.RowKit

/-- block g is a box with just these cells -/
def Box (w : World) (g : Nat) (t : TypeId) (vs : List Value) : Prop := w.heap[g]? = some (.cells vs.toArray t (0, 0))
section
variable {w w' : World} {g : Nat} {t : TypeId} {vs : List Value}
theorem Box.lt (h : Box w g t vs) : g < w.heap.size := by
  rcases Nat.lt_or_ge g w.heap.size with hlt | hge
  · exact hlt
  · unfold Box at h; rw [Array.getElem?_eq_none hge] at h; cases h
theorem Box.cell (h : Box w g t vs) (i : Nat) {v : Value} (hv : vs[i]? = some v) : w.cell? ⟨g, i, none⟩ = some v := by
  rw [cell_of_row w g i _ t (0, 0) h]
  simpa using hv
theorem Box.frozen (h : Box w g t vs) (i : Nat) : w.frozen? ⟨g, i, none⟩ = false := frozen_of_row w g i _ t h
theorem Box.set (h : Box w g t vs) (i : Nat) (v : Value) : Box (w.setCell ⟨g, i, none⟩ v) g t (vs.set i v) := by
  have := heap_setCell_same w g i _ t v h
  unfold Box
  rw [this]
  simp
theorem Box.far (h : Box w g t vs) {p : Addr} (hp : g ≠ p.block) (u : Value) : Box (w.setCell p u) g t vs := (Below.heap_setCell w p u g hp).trans h
theorem Box.alloc (h : Box w g t vs) (o : Obj) : Box (w.alloc o) g t vs := (Below.heap_alloc w o g h.lt).trans h
theorem Box.drewN (h : Box w g t vs) (n : Nat) : Box (w.drewN n) g t vs := h
theorem Box.new (w : World) (t : TypeId) (vs : List Value) : Box (w.alloc (.cells vs.toArray t)) w.heap.size t vs := heap_alloc_new w _
theorem Box.at_new (w : World) (t : TypeId) (vs : List Value) {g : Nat} (hg : g = w.heap.size) : Box (w.alloc (.cells vs.toArray t)) g t vs := by rw [hg]; exact Box.new w t vs
theorem Box.below {B : Nat} (h : Box w g t vs) (hb : Below B w w') (hg : g < B) : Box w' g t vs := (hb.block g hg).trans h
/-- a box of four, as a colour lies -/
theorem Box.four {a b c d : Value} (h : Box w g t [a, b, c, d]) : (w.cell? ⟨g, 0, none⟩ = some a ∧ w.cell? ⟨g, 1, none⟩ = some b ∧ w.cell? ⟨g, 2, none⟩ = some c ∧ w.cell? ⟨g, 3, none⟩ = some d) ∧
    (w.frozen? ⟨g, 0, none⟩ = false ∧ w.frozen? ⟨g, 1, none⟩ = false ∧ w.frozen? ⟨g, 2, none⟩ = false ∧ w.frozen? ⟨g, 3, none⟩ = false) :=
  ⟨⟨h.cell 0 rfl, h.cell 1 rfl, h.cell 2 rfl, h.cell 3 rfl⟩, h.frozen 0, h.frozen 1, h.frozen 2, h.frozen 3⟩
/-- .. and what four stores leave -/
theorem Box.stored {a b c d : Value} (h : Box w g t [a, b, c, d]) (x y z u : Value) : ∃ U, (((w.setCell ⟨g, 0, none⟩ x).setCell ⟨g, 1, none⟩ y).setCell ⟨g, 2, none⟩ z).setCell ⟨g, 3, none⟩ u = U ∧ Box U g t [x, y, z, u] ∧ (∀ B, B ≤ g → Below B w U) := by
  refine ⟨_, rfl, ?_, fun B hB => ((((Below.refl B w).setCell (p := ⟨g, 0, none⟩) hB x).setCell (p := ⟨g, 1, none⟩) hB y).setCell (p := ⟨g, 2, none⟩) hB z).setCell (p := ⟨g, 3, none⟩) hB u⟩
  exact (((h.set 0 x).set 1 y).set 2 z).set 3 u
end

/-- a colour's box, as it is made -/
def zero4 : List Value := [.int .u8 0, .int .u8 0, .int .u8 0, .int .u8 0]

set_option maxRecDepth 10000 in
set_option maxHeartbeats 1600000 in
theorem ref8_Weigh (c : Col) (w : World) :
    Calls Try.prog 11 #[colV c] w fun e w' => e = .returned (colV (weighC c)) ∧ Below w.heap.size w w' := by
  obtain ⟨W, hW⟩ : ∃ W, (w.alloc (.cells (colCells c).toArray 23)).alloc (.cells zero4.toArray 23) = W := ⟨_, rfl⟩
  have k1 : Box W w.heap.size 23 (colCells c) := by rw [← hW]; exact (Box.new w _ _).alloc _
  have k2 : Box W (w.heap.size + 1) 23 zero4 := by rw [← hW]; exact Box.at_new _ _ _ (by simp)
  have B0 : Below w.heap.size w W := by rw [← hW]; exact ((Below.refl _ _).alloc (Nat.le_refl _) _).alloc (by simp) _
  obtain ⟨⟨p0, p1, p2, p3⟩, -⟩ := Box.four k1
  obtain ⟨⟨q0, q1, q2, q3⟩, f0, f1, f2, f3⟩ := Box.four k2
  have c1 := fun V => ref8_Times c.r c.a V
  have c2 := fun V => ref8_Times c.g c.a V
  have c3 := fun V => ref8_Times c.b c.a V
  obtain ⟨U, hU, kU, bU⟩ := k2.stored (.int .u8 ((timesU c.r c.a).toNat : Int)) (.int .u8 ((timesU c.g c.a).toNat : Int)) (.int .u8 ((timesU c.b c.a).toNat : Int)) (.int .u8 (c.a.toNat : Int))
  unfold colV colCells weighC zero4 at *
  dsimp only at *
  have C1 := Lib.hid c1
  have C2 := Lib.hid c2
  have C3 := Lib.hid c3
  clear c1 c2 c3
  go_enter Try.func11, Try.ntmps11
  have HW := Lib.hid hW
  have HK := Lib.hid (And.intro k2 (And.intro B0 (And.intro hU (And.intro kU bU))))
  clear k1 k2 B0 hU kU bU hW
  go_wp2_with fail
  rw [HW.out]
  go_region_held3 (fun w' => w'.cell? ⟨w.heap.size, 0, none⟩ = some (.int .u8 (c.r.toNat : Int)) ∧ w'.cell? ⟨w.heap.size, 1, none⟩ = some (.int .u8 (c.g.toNat : Int)) ∧ w'.cell? ⟨w.heap.size, 2, none⟩ = some (.int .u8 (c.b.toNat : Int)) ∧ w'.cell? ⟨w.heap.size, 3, none⟩ = some (.int .u8 (c.a.toNat : Int)))
    (first | (with_reducible exact ⟨p0, p1, p2, p3⟩) | go_keep)
    ((first
      | (go_at_call 9; (with_reducible refine Calls.mono (C1.out _) ?_); rintro e w1 ⟨rfl, rfl⟩)
      | (go_at_call 9; (with_reducible refine Calls.mono (C2.out _) ?_); rintro e w1 ⟨rfl, rfl⟩)
      | (go_at_call 9; (with_reducible refine Calls.mono (C3.out _) ?_); rintro e w1 ⟨rfl, rfl⟩)))
  all_goals
    obtain ⟨-, b0, hU, kU, bU⟩ := HK.out
    have kd : Box U.drew (w.heap.size + 1) 23 _ := kU
    obtain ⟨⟨u0, u1, u2, u3⟩, -⟩ := Box.four kd
    have hB := (b0.trans (bU w.heap.size (by omega))).drew
    clear kU kd bU b0
    go_wp2_with fail
    rw [hU]
    generalize U.drew = V at *
    exact bodyPost_ret (by simp [results, Try.results11, go_sem, u0, u1, u2, u3]) rfl ⟨rfl, hB⟩
end Go.Proofs.Ytaiinglogpbfjaa
