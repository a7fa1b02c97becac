/- Fractions that a region, in whatever order, makes, and stores into variables of its own. -/
import Derived.Test.YtdmoibphidipeaaGreatDoorZFlS
namespace Go.Proofs.YtdmoibphidipeaaGreatDoor
open Go.RowKit Num rows

/-- a fraction as it lies in memory -/
structure Fc where
  n : Bool
  a : List Nat
  A : Option Addr
  c : Nat
  d : List Nat
  D : Option Addr
  e : Nat
deriving Inhabited
def Fc.cells (s : Fc) : List Value := [.bool s.n, .slice s.A s.a.length s.c, .slice s.D s.d.length s.e]
def fcV (s : Fc) : Value := .agg #[.bool s.n, .slice s.A s.a.length s.c, .slice s.D s.d.length s.e]
def Fc.Ok (w : World) (s : Fc) : Prop := Rd w (fun g => g < w.heap.size) .u32 s.A s.a ∧ Rd w (fun g => g < w.heap.size) .u32 s.D s.d
def Fc.Is (P : Int) (Q m : Nat) (s : Fc) : Prop := SV P Q m s.n s.a s.c s.d s.e
theorem Fc.Ok.on {w w' : World} {s : Fc} (h : s.Ok w) (b : Below w.heap.size w w') : s.Ok w' := ⟨h.1.on b, h.2.on b⟩
end Go.Proofs.YtdmoibphidipeaaGreatDoor
