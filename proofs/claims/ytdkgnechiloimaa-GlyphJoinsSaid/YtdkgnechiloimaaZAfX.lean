/- Maps of the plane: the document's own Near and one: sums of products, exactly, to the nearest whole number. -/
import Derived.Test.YtdkgnechiloimaaZAfW
import Derived.Test.YtdkgnechiloimaaZFpV
import Derived.Test.YtdkgnechiloimaaZFrZ
import Derived.Test.YtdkgnechiloimaaZWrF
import Derived.Deep.RegionHeld3
import Derived.Test.YtdkgnechiloimaaZAgX
namespace Go.Proofs.Ytdkgnechiloimaa
open Go.RowKit Num

theorem wv_own {N : Int} {x : List Nat} (h : val 4294967296 x = N.natAbs) : wv (decide (N < 0)) x = N := by
  by_cases hn : N < 0
  · rw [decide_eq_true hn, wv_true, h]; omega
  · rw [decide_eq_false hn, wv_false, h]; omega
theorem low3 {A : Prop} {v w : World} (h : A ∧ Below v.heap.size v w) : Below v.heap.size v w := h.2
theorem keep3w {W V V' : World} {g : Nat} {x y z : Value} (hg : g < W.heap.size) (h : (V.cell? ⟨g, 0, none⟩ = some x ∧ V.cell? ⟨g, 1, none⟩ = some y ∧ V.cell? ⟨g, 2, none⟩ = some z) ∧ Below W.heap.size W V) (hb : Below V.heap.size V V') :
    (V'.cell? ⟨g, 0, none⟩ = some x ∧ V'.cell? ⟨g, 1, none⟩ = some y ∧ V'.cell? ⟨g, 2, none⟩ = some z) ∧ Below W.heap.size W V' := by
  have hs := h.2.size
  have e : ∀ j, V'.cell? ⟨g, j, none⟩ = V.cell? ⟨g, j, none⟩ := fun j => hb.cell (p := ⟨g, j, none⟩) (by show g < _; omega)
  exact ⟨⟨(e 0).trans h.1.1, (e 1).trans h.1.2.1, (e 2).trans h.1.2.2⟩, h.2.trans (hb.mono hs)⟩

end Go.Proofs.Ytdkgnechiloimaa
/- Maps of the plane: a fraction by 256. -/

namespace Go.Proofs.Ytdkgnechiloimaa
open Go.RowKit Num

theorem cross256 {u d d' P Q : Int} (h : u * Q = P * d) : u * d' * (Q * 256) = P * (256 * d' * d) := by
  have e : u * d' * (Q * 256) = u * Q * (d' * 256) := by ac_rfl
  rw [e, h]
  ac_rfl
end Go.Proofs.Ytdkgnechiloimaa
/- Maps of the plane: the document's own one coordinate. -/

namespace Go.Proofs.Ytdkgnechiloimaa
open Go.RowKit Num

theorem pow32_2 : (4294967296 : Nat) ^ 2 = 18446744073709551616 := by decide
/-- of an int -/
theorem sv_int {n : Int} (h1 : -9223372036854775808 ≤ n) (h2 : n ≤ 9223372036854775807) {n' : Bool} {a d : List Nat} {ca cd : Nat} (k : SF n 1 n' a ca d cd) : SV n 1 2 n' a ca d cd :=
  SF.toV (by omega) (by rw [pow32_2]; omega) (by rw [pow32_2]; omega) k

theorem freshB {V V' : World} {t : TypeId} {x y z : Value} (b : Below (V.alloc (.cells #[x, y, z] t)).heap.size (V.alloc (.cells #[x, y, z] t)) V') : Blk V' V.heap.size t [x, y, z] :=
  (Blk.new V t [x, y, z]).below b (Blk.new V t [x, y, z]).lt
theorem endAf (v : World) (t : TypeId) (n : Bool) {a d : List Nat} {A D : Option Addr} (ca cd : Nat) (r : Rd v (fun g => g < v.heap.size) .u32 A a) (q : Rd v (fun g => g < v.heap.size) .u32 D d) :
    ∃ Z, v.alloc (.cells #[.bool n, .slice A a.length ca, .slice D d.length cd] t) = Z ∧ Z.cell? ⟨v.heap.size, 0, none⟩ = some (.bool n) ∧ Z.cell? ⟨v.heap.size, 1, none⟩ = some (.slice A a.length ca) ∧ Z.cell? ⟨v.heap.size, 2, none⟩ = some (.slice D d.length cd) ∧ Rd Z (fun g => g < Z.heap.size) .u32 A a ∧ Rd Z (fun g => g < Z.heap.size) .u32 D d := by
  have k := Blk.new v t [.bool n, .slice A a.length ca, .slice D d.length cd]
  have b := (Below.refl v.heap.size v).alloc (Nat.le_refl _) (.cells #[.bool n, .slice A a.length ca, .slice D d.length cd] t)
  exact ⟨_, rfl, k.cell 0 rfl, k.cell 1 rfl, k.cell 2 rfl, r.on b, q.on b⟩
theorem endBf {v : World} {g : Nat} {t : TypeId} (k : Blk v g t [.bool false, .slice none 0 0, .slice none 0 0]) (n : Bool) {a d : List Nat} {A D : Option Addr} (ca cd : Nat) (r : Rd v (fun g => g < v.heap.size) .u32 A a) (q : Rd v (fun g => g < v.heap.size) .u32 D d) :
    ∃ Z, ((v.setCell ⟨g, 0, none⟩ (.bool n)).setCell ⟨g, 1, none⟩ (.slice A a.length ca)).setCell ⟨g, 2, none⟩ (.slice D d.length cd) = Z ∧ Z.cell? ⟨g, 0, none⟩ = some (.bool n) ∧ Z.cell? ⟨g, 1, none⟩ = some (.slice A a.length ca) ∧ Z.cell? ⟨g, 2, none⟩ = some (.slice D d.length cd) ∧ Rd Z (fun g => g < Z.heap.size) .u32 A a ∧ Rd Z (fun g => g < Z.heap.size) .u32 D d := by
  obtain ⟨U, hU, u0, u1, u2, -, -, -, -⟩ := k.three (.bool n) (.slice A a.length ca) (.slice D d.length cd)
  exact ⟨U, hU, u0, u1, u2, r.far3 k _ _ _ hU, q.far3 k _ _ _ hU⟩
theorem freshD {V V' : World} {t : TypeId} {x y z : Value} (b : Below (V.alloc (.cells #[x, y, z] t)).drew.heap.size (V.alloc (.cells #[x, y, z] t)).drew V') : Blk V' V.heap.size t [x, y, z] := by
  have k : Blk (V.alloc (.cells #[x, y, z] t)).drew V.heap.size t [x, y, z] := (Blk.new V t [x, y, z]).drewN 1
  exact k.below b k.lt
theorem keep3y {W V : World} {g g' : Nat} {x y z u0 u1 u2 : Value} (hg : g < W.heap.size) (h : (V.cell? ⟨g, 0, none⟩ = some x ∧ V.cell? ⟨g, 1, none⟩ = some y ∧ V.cell? ⟨g, 2, none⟩ = some z) ∧ Below W.heap.size W V) (hp : W.heap.size ≤ g') :
    ((((V.setCell ⟨g', 0, none⟩ u0).setCell ⟨g', 1, none⟩ u1).setCell ⟨g', 2, none⟩ u2).cell? ⟨g, 0, none⟩ = some x ∧ (((V.setCell ⟨g', 0, none⟩ u0).setCell ⟨g', 1, none⟩ u1).setCell ⟨g', 2, none⟩ u2).cell? ⟨g, 1, none⟩ = some y ∧ (((V.setCell ⟨g', 0, none⟩ u0).setCell ⟨g', 1, none⟩ u1).setCell ⟨g', 2, none⟩ u2).cell? ⟨g, 2, none⟩ = some z) ∧ Below W.heap.size W (((V.setCell ⟨g', 0, none⟩ u0).setCell ⟨g', 1, none⟩ u1).setCell ⟨g', 2, none⟩ u2) := by
  have hne : g ≠ g' := by omega
  have e : ∀ j, (((V.setCell ⟨g', 0, none⟩ u0).setCell ⟨g', 1, none⟩ u1).setCell ⟨g', 2, none⟩ u2).cell? ⟨g, j, none⟩ = V.cell? ⟨g, j, none⟩ := fun j => by
    rw [World.cell?_setCell_far _ _ _ _ (by simpa using hne.symm), World.cell?_setCell_far _ _ _ _ (by simpa using hne.symm), World.cell?_setCell_far _ _ _ _ (by simpa using hne.symm)]
  exact ⟨⟨(e 0).trans h.1.1, (e 1).trans h.1.2.1, (e 2).trans h.1.2.2⟩, ((h.2.setCell (p := ⟨g', 0, none⟩) hp u0).setCell (p := ⟨g', 1, none⟩) hp u1).setCell (p := ⟨g', 2, none⟩) hp u2⟩

end Go.Proofs.Ytdkgnechiloimaa
/- Maps of the plane: the document's own Apply. -/

namespace Go.Proofs.Ytdkgnechiloimaa
open Go.RowKit

section
variable {W V V' : World} {s : Nat} {a b c d e f x y : Value}
/-- the cells that Apply reads, in each world that its calls leave -/
theorem on8 (hs : s + 1 < W.heap.size) (h : (W.cell? ⟨s, 0, none⟩ = some a ∧ W.cell? ⟨s, 1, none⟩ = some b ∧ W.cell? ⟨s, 2, none⟩ = some c ∧ W.cell? ⟨s, 3, none⟩ = some d ∧ W.cell? ⟨s, 4, none⟩ = some e ∧ W.cell? ⟨s, 5, none⟩ = some f) ∧ W.cell? ⟨s + 1, 0, none⟩ = some x ∧ W.cell? ⟨s + 1, 1, none⟩ = some y) (hb : Below W.heap.size W V) :
    (V.cell? ⟨s, 0, none⟩ = some a ∧ V.cell? ⟨s, 1, none⟩ = some b ∧ V.cell? ⟨s, 2, none⟩ = some c ∧ V.cell? ⟨s, 3, none⟩ = some d ∧ V.cell? ⟨s, 4, none⟩ = some e ∧ V.cell? ⟨s, 5, none⟩ = some f) ∧ V.cell? ⟨s + 1, 0, none⟩ = some x ∧ V.cell? ⟨s + 1, 1, none⟩ = some y := by
  have h0 : s < W.heap.size := by omega
  obtain ⟨⟨h1, h2, h3, h4, h5, h6⟩, h7, h8⟩ := h
  exact ⟨⟨(hb.cell (p := ⟨s, 0, none⟩) h0).trans h1, (hb.cell (p := ⟨s, 1, none⟩) h0).trans h2, (hb.cell (p := ⟨s, 2, none⟩) h0).trans h3, (hb.cell (p := ⟨s, 3, none⟩) h0).trans h4, (hb.cell (p := ⟨s, 4, none⟩) h0).trans h5, (hb.cell (p := ⟨s, 5, none⟩) h0).trans h6⟩, (hb.cell (p := ⟨s + 1, 0, none⟩) hs).trans h7, (hb.cell (p := ⟨s + 1, 1, none⟩) hs).trans h8⟩
theorem below_on {B : Nat} (h : Below B W V) (hB : B ≤ V.heap.size) (b : Below V.heap.size V V') : Below B W V' := h.trans (b.mono hB)
theorem below_on2 {V0 V1 V2 : World} (h : Below W.heap.size W V0) (b : Below V0.heap.size V0 V1) (b' : Below V1.heap.size V1 V2) (o : Obj) : Below W.heap.size W (V2.alloc o) := by
  have h2 := h.trans (b.mono h.size)
  have h3 := h2.trans (b'.mono h2.size)
  exact h3.alloc h3.size o
theorem fresh2 {t : TypeId} {x y : Value} (b : Below (V.alloc (.cells #[x, y] t)).heap.size (V.alloc (.cells #[x, y] t)) V') : Box V' V.heap.size t [x, y] :=
  (Box.new V t [x, y]).below b (Box.new V t [x, y]).lt
theorem fresh2d {t : TypeId} {x y : Value} (b : Below (V.alloc (.cells #[x, y] t)).drew.heap.size (V.alloc (.cells #[x, y] t)).drew V') : Box V' V.heap.size t [x, y] := by
  have k : Box (V.alloc (.cells #[x, y] t)).drew V.heap.size t [x, y] := (Box.new V t [x, y]).drewN 1
  exact k.below b k.lt
/-- what a point's box bears at the end, wherever it was laid -/
theorem endP (v : World) (t : TypeId) (x y : Value) : ∃ Z, v.alloc (.cells #[x, y] t) = Z ∧ Box Z v.heap.size t [x, y] ∧ Below v.heap.size v Z :=
  ⟨_, rfl, Box.new v t [x, y], (Below.refl _ _).alloc (Nat.le_refl _) _⟩
end

end Go.Proofs.Ytdkgnechiloimaa
