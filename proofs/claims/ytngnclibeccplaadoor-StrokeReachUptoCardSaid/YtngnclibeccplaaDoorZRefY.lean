/- What the document's own Mul answers. -/
import Derived.Test.YtngnclibeccplaaDoorZRefX
import Derived.Test.YtngnclibeccplaaDoorZOaB
import Derived.Deep.RegionWith
import Derived.Deep.CutRange
namespace Go.Proofs.YtngnclibeccplaaDoor
open Go.RowKit Num

end Go.Proofs.YtngnclibeccplaaDoor
/- What the document's own small, Of, twice, Power answer. -/

namespace Go.Proofs.YtngnclibeccplaaDoor
open Go.RowKit Num

end Go.Proofs.YtngnclibeccplaaDoor
/- What the document's own twice and Power answer. -/

namespace Go.Proofs.YtngnclibeccplaaDoor
open Go.RowKit Num

end Go.Proofs.YtngnclibeccplaaDoor
/- What the document's own Div answers: bit by bit; of 64 bits as they are divided. -/

namespace Go.Proofs.YtngnclibeccplaaDoor
open Go.RowKit Num

theorem quo_wrap (N D : Nat) (hN : N < 18446744073709551616) : IntKind.u64.wrap ((N : Int) / (D : Int)) = ((N / D : Nat) : Int) := by
  have h2 : N / D < 18446744073709551616 := Nat.lt_of_le_of_lt (Nat.div_le_self _ _) hN
  rw [← Int.natCast_ediv]
  generalize N / D = q at h2
  exact IntWalk.u64_in _ (by omega)

theorem val_lt_small {x : List Nat} (hx : Dg 65536 x) (hl : x.length ≤ 4) : val 65536 x < 18446744073709551616 := val_lt_pow (n := 4) hx (by omega) hl

end Go.Proofs.YtngnclibeccplaaDoor
