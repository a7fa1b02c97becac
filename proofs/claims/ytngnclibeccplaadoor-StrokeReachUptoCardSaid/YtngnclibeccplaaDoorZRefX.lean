/- What the document's own calls on digits answer: one contract for each (cut, at, Half, Words, Same, cmp, Cmp). -/
import Derived.Test.YtngnclibeccplaaDoorRows
import Derived.Test.YtngnclibeccplaaDoorZBase
import Derived.Lib.Hide
import Derived.WalkLawsBesides
import Derived.Deep.QuietTactic
import Derived.BigQuiet
import Derived.Deep.RegionHeld3
import Derived.IntWalk
import Derived.Deep.LoopGhost
import Derived.Outline
namespace Go.Proofs.YtngnclibeccplaaDoor
open Go.RowKit Num

theorem info_u64 : (Tryd.prog.info? 86).map (fun i => (i.zero, i.size, i.bytes)) = some (some (.int .u64 0), 1, 8) := by kernel_rfl
theorem info_u32 : (Tryd.prog.info? 103).map (fun i => (i.zero, i.size, i.bytes)) = some (some (.int .u32 0), 1, 4) := by kernel_rfl

def halves (xs : List Nat) : List Nat := xs.flatMap fun x => [x % 65536, x / 65536]
theorem length_halves (xs : List Nat) : (halves xs).length = 2 * xs.length := by
  induction xs with
  | nil => rfl
  | cons x r ih => simp only [halves, List.flatMap_cons, List.length_append, List.length_cons] at ih ⊢; rw [ih]; simp; omega
theorem halves_snoc (xs : List Nat) (x : Nat) : halves (xs ++ [x]) = halves xs ++ [x % 65536, x / 65536] := by simp [halves]
theorem dg_halves {xs : List Nat} (h : Dg 4294967296 xs) : Dg 65536 (halves xs) := by
  intro y hy
  simp only [halves, List.mem_flatMap] at hy
  obtain ⟨x, hx, hy⟩ := hy
  have := h x hx
  simp at hy
  omega
theorem val_halves (xs : List Nat) : val 65536 (halves xs) = val 4294967296 xs := by
  induction xs with
  | nil => rfl
  | cons x r ih =>
    have e : halves (x :: r) = x % 65536 :: x / 65536 :: halves r := rfl
    rw [e, val_cons, val_cons, val_cons, ih]; omega

end Go.Proofs.YtngnclibeccplaaDoor
/- What the document's own calls on digits answer: Words, Same, cmp, Cmp. -/

namespace Go.Proofs.YtngnclibeccplaaDoor
open Go.RowKit Num

end Go.Proofs.YtngnclibeccplaaDoor
/- What the document's own calls answer: Add, sub, Sub, bit, Bits, Of. -/

namespace Go.Proofs.YtngnclibeccplaaDoor
open Go.RowKit Num

end Go.Proofs.YtngnclibeccplaaDoor
/- What the document's own calls answer: sub, Sub, bit, Bits. -/

namespace Go.Proofs.YtngnclibeccplaaDoor
open Go.RowKit Num

end Go.Proofs.YtngnclibeccplaaDoor
/- What the document's own Sub answers. -/

namespace Go.Proofs.YtngnclibeccplaaDoor
open Go.RowKit Num

end Go.Proofs.YtngnclibeccplaaDoor
