/- The eighth layer's law: red lies over blue. The walks of ColourOvers and ColourParts. Written by gen/gencl.py. -/
import Derived.Test.YtaiinglogpbfjaaDoorCoS
import Derived.Test.YtaiinglogpbfjaaDoorCoJ
namespace Go.Proofs.YtaiinglogpbfjaaDoor
open Go.RowKit

theorem weigh_red : weighC ⟨255, 0, 0, 128⟩ = ⟨128, 0, 0, 128⟩ := by rw [Col.same]; decide
theorem over_blue : overC ⟨128, 0, 0, 128⟩ ⟨0, 0, 255, 255⟩ = ⟨128, 0, 127, 255⟩ := by rw [Col.same]; decide

set_option maxRecDepth 10000 in
theorem law8_lives (w : World) : Calls Tryd.prog 8 #[] w fun e w' => e = .returned (.bool true) ∧ Below w.heap.size w w' := by
  have c1 := col_Weigh ⟨255, 0, 0, 128⟩ w
  rw [weigh_red] at c1
  have c2 := fun W => col_Over ⟨128, 0, 0, 128⟩ ⟨0, 0, 255, 255⟩ W
  simp only [over_blue] at c2
  have C1 := Lib.hid (show Calls Tryd.prog 15 #[.agg #[.int .u8 255, .int .u8 0, .int .u8 0, .int .u8 128]] w (fun e w' => e = .returned (.agg #[.int .u8 128, .int .u8 0, .int .u8 0, .int .u8 128]) ∧ Below w.heap.size w w') from c1)
  have C2 := Lib.hid (show ∀ W, Calls Tryd.prog 16 #[.agg #[.int .u8 128, .int .u8 0, .int .u8 0, .int .u8 128], .agg #[.int .u8 0, .int .u8 0, .int .u8 255, .int .u8 255]] W (fun e w' => e = .returned (.agg #[.int .u8 128, .int .u8 0, .int .u8 127, .int .u8 255]) ∧ Below W.heap.size W w') from c2)
  clear c1 c2
  go_enter Tryd.func8, Tryd.ntmps8
  go_wp2_with first
    | (go_at_call 15; with_reducible refine Calls.mono C1.out ?_; rintro e w1 ⟨rfl, b1⟩)
    | (go_at_call 16; with_reducible refine Calls.mono (C2.out _) ?_; rintro e w2 ⟨rfl, b2⟩)
  go_ret
  have h := b1.alloc b1.size (.cells #[.int .u8 128, .int .u8 0, .int .u8 0, .int .u8 128] 23)
  exact ⟨rfl, h.trans (b2.mono h.size)⟩

end Go.Proofs.YtaiinglogpbfjaaDoor
