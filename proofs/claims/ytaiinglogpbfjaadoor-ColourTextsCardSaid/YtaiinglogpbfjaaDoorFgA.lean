/- Bytes in figures: the document's own. -/
import Derived.Test.YtaiinglogpbfjaaDoorFgN
import Derived.Test.YtaiinglogpbfjaaDoorByA
import Derived.Lib.Hide
import Derived.WalkLawsBesides
import Derived.Deep.LoopGhost
import Derived.Deep.RegionHeld3
import Derived.Deep.RegionWith
import Derived.Laws.OwnMore
namespace Go.Proofs.YtaiinglogpbfjaaDoor
open Go.RowKit

set_option maxRecDepth 10000 in
set_option maxHeartbeats 1600000 in
theorem ref7_figure (n : Nat) (h : n < 16) (w : World) : Calls Tryd.prog 18 #[.int .i64 (n : Int)] w fun e w' => e = .returned (.int .u8 ((fig n).toNat : Int)) ∧ w = w' := by
  have hf := fig_nat h
  by_cases h10 : n < 10
  · rw [if_pos h10] at hf
    have hw : IntKind.u8.wrap (48 + (n : Int)) = 48 + (n : Int) := by rw [IntKind.wrap_u8]; omega
    go_enter Tryd.func18, Tryd.ntmps18
    go_wp2_with fail
    go_ret
    exact ⟨by rw [hf]; simp, rfl⟩
  · rw [if_neg h10] at hf
    have hw : IntKind.u8.wrap (97 + (n : Int) - 10) = 87 + (n : Int) := by rw [IntKind.wrap_u8]; omega
    go_enter Tryd.func18, Tryd.ntmps18
    go_wp2_with fail
    go_ret
    refine ⟨?_, rfl⟩
    rw [hf]; simp
end Go.Proofs.YtaiinglogpbfjaaDoor
