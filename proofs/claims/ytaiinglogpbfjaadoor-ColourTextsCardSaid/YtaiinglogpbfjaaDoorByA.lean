/- Bytes in memory as texts: what a conversion reads, what an append of bytes needs. -/
import Derived.Laws.IdiomStrings
import Derived.Shelf.Bytes.SlSmallAll
import Derived.Test.YtaiinglogpbfjaaDoorLxM
import Derived.Test.YtaiinglogpbfjaaDoorChecked
namespace Go.Proofs.YtaiinglogpbfjaaDoor
open Go.RowKit

theorem conv_by {w : World} {B : Nat} {p : Option Addr} {l : By} (h : RdV w B p (bcells l)) (c : Nat) : (convert 34 9 (.slice p l.length c)).run Tryd.prog w = .ok (.string (str l)) w := by
  by_cases hl : 0 < l.length
  · obtain ⟨b, o, rfl, _, hc⟩ := h (by rw [bcells_length]; exact hl)
    refine run_convert_bytes_back (P := Tryd.prog) w 34 9 5 ⟨b, o, none⟩ c l Tryd.underlying34 Tryd.underlying5 Tryd.underlying9 fun j hj => ?_
    rw [addr_add, hc j (by rw [bcells_length]; exact hj)]
    simp [bcells]
  · obtain rfl : l = [] := List.eq_nil_of_length_eq_zero (by omega)
    exact run_convert_bytes_zero w 34 5 Tryd.underlying34 Tryd.underlying5 p c 9 Tryd.underlying9
theorem info_by : (Tryd.prog.info? 5).map (fun i => (i.zero, i.size, i.bytes)) = some (some (.int .u8 0), 1, 1) := by kernel_rfl
end Go.Proofs.YtaiinglogpbfjaaDoor
