/- Where ways meet, the document's own Meet of ways whose boxes do not lie apart. -/
import Derived.Test.YtdmoibphidipeaaGreatDoorZCrS
import Derived.Test.YtdmoibphidipeaaGreatDoorZCrT
import Derived.Test.YtdmoibphidipeaaGreatDoorZFlC
import Derived.Test.YtdmoibphidipeaaGreatDoorZCsX
import Derived.Deep.CutRange
import Derived.Deep.RegionHeld3
namespace Go.Proofs.YtdmoibphidipeaaGreatDoor
open Go.RowKit Num rows

/-- a row that Meet answers, as it is read -/
def MeetRd (a b c d : Pt) (w : World) (e : Ending) (w' : World) : Prop :=
  ∃ p cap xs R, e = .returned (.slice p (List.length xs) cap) ∧ xs.length ≤ cap ∧ RdS w' p xs ∧ RowW 16 w' xs R ∧ MeetR a b c d R ∧ Below w.heap.size w w'
def pk (o : Bool) (q : Qp) : List Qp := if o then [q] else []
theorem pk_false (q : Qp) : pk false q = [] := rfl
theorem mem_pk {o : Bool} {q p : Qp} : p ∈ pk o q ↔ o = true ∧ p = q := by
  unfold pk
  cases o <;> simp
/-- what is gathered at a stage -/
def GatS (B : World) (R : List Qp) (v : Value) (w : World) : Prop := ∃ xs : List Sp, OwnS w B.heap.size v xs.length (flat xs) ∧ RowW 8 w xs R ∧ xs.length ≤ 4 ∧ Below B.heap.size B w
theorem GatS.nil {B w : World} (h : Below B.heap.size B w) : GatS B [] (.slice none 0 0) w := ⟨[], OwnS.nil _ _, RowW.nil _ _, by simp, h⟩
theorem GatS.on {B w w' : World} {R : List Qp} {v : Value} (h : GatS B R v w) (b : Below w.heap.size w w') : GatS B R v w' := by
  obtain ⟨xs, h1, h2, h3, h4⟩ := h
  exact ⟨xs, h1.kept b, h2.on b, h3, h4.trans (b.mono h4.size)⟩
theorem GatS.more {B w w' : World} {R : List Qp} {v v' : Value} {xs : List Sp} {x : Sp} (ho : OwnS w B.heap.size v xs.length (flat xs)) (hr : RowW 8 w xs R) (hl : R.length ≤ 3) (hb : Below B.heap.size B w) (hx : x.Red 8) (hk : x.Ok w) (h5 : OwnS w' B.heap.size v' (xs.length + 1) (flat xs ++ x.cells)) (hg : w.grownBy w' v.ownBlock) {q : Qp} (hq : sw x = q) : GatS B (R ++ [q]) v' w' := by
  refine ⟨xs ++ [x], ?_, (hr.imp fun s k => ho.ok hg k).snoc hx (ho.ok hg hk) hq, ?_, hb.grown hg hb.size fun k hk => (ho.lt k hk).1⟩
  · rw [flat_snoc, List.length_append, List.length_singleton]; exact h5
  · have := hr.length; simp; omega
theorem oneRow (w : World) (x : Sp) (hr : x.Red 16) (ho : x.Ok w) : RdS (w.alloc (.cells #[.bool x.n1, .slice x.A1 x.a1.length x.c1, .slice x.D1 x.d1.length x.e1, .bool x.n2, .slice x.A2 x.a2.length x.c2, .slice x.D2 x.d2.length x.e2] 41)) (some ⟨w.heap.size, 0, none⟩) [x] ∧ RowW 16 (w.alloc (.cells #[.bool x.n1, .slice x.A1 x.a1.length x.c1, .slice x.D1 x.d1.length x.e1, .bool x.n2, .slice x.A2 x.a2.length x.c2, .slice x.D2 x.d2.length x.e2] 41)) [x] [sw x] ∧ Below w.heap.size w (w.alloc (.cells #[.bool x.n1, .slice x.A1 x.a1.length x.c1, .slice x.D1 x.d1.length x.e1, .bool x.n2, .slice x.A2 x.a2.length x.c2, .slice x.D2 x.d2.length x.e2] 41)) := by
  have hb : Below w.heap.size w (w.alloc (.cells #[.bool x.n1, .slice x.A1 x.a1.length x.c1, .slice x.D1 x.d1.length x.e1, .bool x.n2, .slice x.A2 x.a2.length x.c2, .slice x.D2 x.d2.length x.e2] 41)) := (Below.refl _ _).alloc (Nat.le_refl _) _
  refine ⟨fun _ => ⟨w.heap.size, 0, rfl, by simp, fun i hi j u hu => ?_⟩, ⟨rfl, fun s hs => ?_⟩, hb⟩
  · have h0 : i = 0 := by simpa using hi
    subst h0
    have := one_spot w x j u hu
    rw [addr_add] at this
    simpa using this
  · rw [List.mem_singleton] at hs
    subst hs
    exact ⟨hr, ho.on hb⟩
end Go.Proofs.YtdmoibphidipeaaGreatDoor
