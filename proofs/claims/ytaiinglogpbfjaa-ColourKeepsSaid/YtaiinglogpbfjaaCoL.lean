/- The eighth layer's law: red lies over blue. The walks of ColourOvers and ColourParts. Written by gen/gencl.py. -/
import Derived.Test.YtaiinglogpbfjaaCoS
import Derived.Test.YtaiinglogpbfjaaCoJ
namespace Go.Proofs.Ytaiinglogpbfjaa
open Go.RowKit

theorem weigh_red : weighC ⟨255, 0, 0, 128⟩ = ⟨128, 0, 0, 128⟩ := by rw [Col.same]; decide
theorem over_blue : overC ⟨128, 0, 0, 128⟩ ⟨0, 0, 255, 255⟩ = ⟨128, 0, 127, 255⟩ := by rw [Col.same]; decide

set_option maxRecDepth 10000 in
theorem law8_lives (w : World) : Calls Try.prog 18 #[] w fun e w' => e = .returned (.bool true) ∧ Below w.heap.size w w' := by
  have c1 := col_Weigh ⟨255, 0, 0, 128⟩ w
  rw [weigh_red] at c1
  have c2 := fun W => col_Over ⟨128, 0, 0, 128⟩ ⟨0, 0, 255, 255⟩ W
  simp only [over_blue] at c2
  have C1 := Lib.hid (show Calls Try.prog 10 #[.agg #[.int .u8 255, .int .u8 0, .int .u8 0, .int .u8 128]] w (fun e w' => e = .returned (.agg #[.int .u8 128, .int .u8 0, .int .u8 0, .int .u8 128]) ∧ Below w.heap.size w w') from c1)
  have C2 := Lib.hid (show ∀ W, Calls Try.prog 19 #[.agg #[.int .u8 128, .int .u8 0, .int .u8 0, .int .u8 128], .agg #[.int .u8 0, .int .u8 0, .int .u8 255, .int .u8 255]] W (fun e w' => e = .returned (.agg #[.int .u8 128, .int .u8 0, .int .u8 127, .int .u8 255]) ∧ Below W.heap.size W w') from c2)
  clear c1 c2
  go_enter Try.func18, Try.ntmps18
  go_wp2_with first
    | (go_at_call 10; with_reducible refine Calls.mono C1.out ?_; rintro e w1 ⟨rfl, b1⟩)
    | (go_at_call 19; with_reducible refine Calls.mono (C2.out _) ?_; rintro e w2 ⟨rfl, b2⟩)
  go_ret
  have h := b1.alloc b1.size (.cells #[.int .u8 128, .int .u8 0, .int .u8 0, .int .u8 128] 23)
  exact ⟨rfl, h.trans (b2.mono h.size)⟩

set_option maxRecDepth 10000 in
set_option maxHeartbeats 6400000 in
theorem walk_ColourOvers (c d : Col) (w : World) : Calls Try.prog 4 #[colV c, colV d] w fun e w' => e = .returned (.bool true) ∧ Below w.heap.size w w' := by
  obtain ⟨W, hW, k1, k2, B0, hz⟩ := two_boxes c d w
  have hP := parts_of k1 k2 B0
  have hP' := hP
  obtain ⟨⟨⟨⟨p0, p1, p2, p3⟩, q0, q1, q2, q3⟩, hl⟩, -⟩ := hP'
  have HP := Lib.hid hP
  clear hP k1 k2 B0 hz
  have C0 := Lib.hid (fun V => col_Over c d V)
  have C1 := Lib.hid (fun V => ref8_Over c d V)
  unfold colV colCells at *
  go_enter Try.func4, Try.ntmps4
  go_wp2_with fail
  try rw [hW]
  clear hW
  go_region_held3 (fun w' => (((w'.cell? ⟨w.heap.size, 0, none⟩ = some (.int .u8 (c.r.toNat : Int)) ∧ w'.cell? ⟨w.heap.size, 1, none⟩ = some (.int .u8 (c.g.toNat : Int)) ∧ w'.cell? ⟨w.heap.size, 2, none⟩ = some (.int .u8 (c.b.toNat : Int)) ∧ w'.cell? ⟨w.heap.size, 3, none⟩ = some (.int .u8 (c.a.toNat : Int))) ∧ (w'.cell? ⟨w.heap.size + 1, 0, none⟩ = some (.int .u8 (d.r.toNat : Int)) ∧ w'.cell? ⟨w.heap.size + 1, 1, none⟩ = some (.int .u8 (d.g.toNat : Int)) ∧ w'.cell? ⟨w.heap.size + 1, 2, none⟩ = some (.int .u8 (d.b.toNat : Int)) ∧ w'.cell? ⟨w.heap.size + 1, 3, none⟩ = some (.int .u8 (d.a.toNat : Int)))) ∧ w.heap.size + 1 < w'.heap.size) ∧ Below w.heap.size w w')
    (first | (with_reducible exact parts_drew HP.out) | (with_reducible exact HP.out) | (with_reducible exact parts_on (by assumption) b1) | (with_reducible exact parts_drew (by assumption)) | go_keep)
    ((first
      | (go_at_call 19; (with_reducible refine Calls.mono (C0.out _) ?_); rintro e w1 ⟨rfl, b1⟩)
      | (go_at_call 20; (with_reducible refine Calls.mono (C1.out _) ?_); rintro e w1 ⟨rfl, b1⟩)
      | (go_at_call 18; (with_reducible refine Calls.mono (law8_lives _) ?_); rintro e w1 ⟨rfl, b1⟩)))
  all_goals
    rename_i hHeld
    obtain ⟨-, hB⟩ := hHeld
    go_wp2_with fail
    go_ret
    exact ⟨rfl, hB⟩

end Go.Proofs.Ytaiinglogpbfjaa
