/- Fractions: what the program's own Text answers. -/
import Derived.Test.YtbhahddgajkchaaZFpY
import Derived.Test.YtbhahddgajkchaaZWrZ
import Derived.Test.YtbhahddgajkchaaZWrY
import Derived.Test.YtbhahddgajkchaaZFrV
import Derived.Test.YtbhahddgajkchaaZFrW
import Derived.Deep.RegionWith
namespace Go.Proofs.Ytbhahddgajkchaa
open Go.RowKit Num

end Go.Proofs.Ytbhahddgajkchaa
/- Fractions: what the program's own Floor and Round answer. -/

namespace Go.Proofs.Ytbhahddgajkchaa
open Go.RowKit Num

/-- the contract of what answers a whole number of one fraction -/
abbrev Fw (f : FuncId) (S : Shape) (N : Int) : Prop := ∀ (n : Bool) (a d : List Nat) (A D : Option Addr) (ca cd : Nat) (w : World), S n a ca d cd → Rd w (fun g => g < w.heap.size) .u32 A a → Rd w (fun g => g < w.heap.size) .u32 D d → Calls Try.prog f #[.agg #[.bool n, .slice A a.length ca, .slice D d.length cd]] w (GivesW N w)
theorem fin_whole {w v : World} {g : Nat} {t : TypeId} (k : Blk v g t [.bool false, .slice none 0 0]) (hg : w.heap.size ≤ g) (B : Below w.heap.size w v) {N : Int} {A : Option Addr} {x : List Nat} {c : Nat} (hc : x.length ≤ c) (hn : Norm 4294967296 x) (hv : val 4294967296 x = N.natAbs) (r : Rd v (fun g => g < v.heap.size) .u32 A x) :
    ∃ U, (v.setCell ⟨g, 0, none⟩ (.bool (decide (N < 0)))).setCell ⟨g, 1, none⟩ (.slice A x.length c) = U ∧ U.cell? ⟨g, 0, none⟩ = some (.bool (decide (N < 0))) ∧ U.cell? ⟨g, 1, none⟩ = some (.slice A x.length c) ∧ GivesW N w (.returned (.agg #[.bool (decide (N < 0)), .slice A x.length c])) U :=
  ⟨_, rfl, (k.pair _ _).cell 0 rfl, (k.pair _ _).cell 1 rfl, A, x, c, rfl, hc, hn, hv, r.far2 k _ _, (B.setCell hg _).setCell hg _⟩
theorem keep3s {v : World} {g g' : Nat} {t : TypeId} {a0 a1 a2 : Value} (k : Blk v g t [a0, a1, a2]) (hne : g ≠ g') (u0 u1 : Value) :
    ((v.setCell ⟨g', 0, none⟩ u0).setCell ⟨g', 1, none⟩ u1).cell? ⟨g, 0, none⟩ = some a0 ∧ ((v.setCell ⟨g', 0, none⟩ u0).setCell ⟨g', 1, none⟩ u1).cell? ⟨g, 1, none⟩ = some a1 ∧ ((v.setCell ⟨g', 0, none⟩ u0).setCell ⟨g', 1, none⟩ u1).cell? ⟨g, 2, none⟩ = some a2 := by
  have k' := (k.far (p := ⟨g', 0, none⟩) hne u0).far (p := ⟨g', 1, none⟩) hne u1
  exact ⟨k'.cell 0 rfl, k'.cell 1 rfl, k'.cell 2 rfl⟩

end Go.Proofs.Ytbhahddgajkchaa
/- Fractions: what the program's own Sum answers, of none, one, two and three. -/

namespace Go.Proofs.Ytbhahddgajkchaa
open Go.RowKit Num

theorem tri_keep {V w1 : World} {g o B : Nat} {x y z : Value} (k1 : V.cell? ⟨g, o, none⟩ = some x) (k2 : V.cell? ⟨g, o + 1, none⟩ = some y) (k3 : V.cell? ⟨g, o + 2, none⟩ = some z) (hB : g < B) (hb : Below B V w1) : w1.cell? ⟨g, o, none⟩ = some x ∧ w1.cell? ⟨g, o + 1, none⟩ = some y ∧ w1.cell? ⟨g, o + 2, none⟩ = some z :=
  ⟨(hb.cell (p := ⟨g, o, none⟩) hB).trans k1, (hb.cell (p := ⟨g, o + 1, none⟩) hB).trans k2, (hb.cell (p := ⟨g, o + 2, none⟩) hB).trans k3⟩
theorem below_three {W V : World} {B g : Nat} (h : Below B W V) (hg : B ≤ g) (u0 u1 u2 : Value) : Below B W (((V.setCell ⟨g, 0, none⟩ u0).setCell ⟨g, 1, none⟩ u1).setCell ⟨g, 2, none⟩ u2) := ((h.setCell hg _).setCell hg _).setCell hg _

end Go.Proofs.Ytbhahddgajkchaa
