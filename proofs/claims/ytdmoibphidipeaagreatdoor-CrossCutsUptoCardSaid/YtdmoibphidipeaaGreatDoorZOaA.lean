/- Texts as lines of words, as plain mathematics: what lies between a byte's places, what is a word, what lines are. No program is named here. -/
import Derived.WalkKit
import Derived.Lib.IndexMore
import Derived.Lib.IndexLaws
import Derived.Lib.Hide
import Derived.WalkLawsBesides
import Derived.Deep.LoopGhost
import Derived.Test.YtdmoibphidipeaaGreatDoorChecked
import Derived.Laws.AppendOwn
import Derived.Laws.OwnMore
import Derived.Below
import Derived.Deep.RegionHeld3
namespace Go.Proofs.YtdmoibphidipeaaGreatDoor

abbrev By := List UInt8
def str (l : By) : ByteArray := ⟨l.toArray⟩
/-- lines read one behind the other: what came, which line is wrong, and how -/
abbrev Res := List (List By) × Nat × Nat
end Go.Proofs.YtdmoibphidipeaaGreatDoor
/- Is a text a word: the program's and the document's own. -/

namespace Go.Proofs.YtdmoibphidipeaaGreatDoor
open Go.RowKit

end Go.Proofs.YtdmoibphidipeaaGreatDoor
/- Rows that are read: bytes, words, lines of words in memory; rows that a call made. -/

namespace Go.Proofs.YtdmoibphidipeaaGreatDoor
open Go.RowKit

theorem addr_add (g o j : Nat) : (⟨g, o, none⟩ : Addr).add j = ⟨g, o + j, none⟩ := by unfold Addr.add; split <;> simp_all
/-- the slice at p reads as xs, a cell each, in a block below B -/
def RdV (w : World) (B : Nat) (p : Option Addr) (xs : List Value) : Prop :=
  0 < xs.length → ∃ b o, p = some ⟨b, o, none⟩ ∧ b < B ∧ ∀ (j : Nat) (h : j < xs.length), w.cell? ⟨b, o + j, none⟩ = some xs[j]
theorem RdV.nil (w : World) (B : Nat) (p : Option Addr) : RdV w B p [] := fun h => absurd h (by simp)
theorem RdV.below {w w' : World} {B : Nat} {p : Option Addr} {xs : List Value} (h : RdV w B p xs) (hb : Below B w w') : RdV w' B p xs := fun hn => by
  obtain ⟨b, o, e, hl, hc⟩ := h hn
  exact ⟨b, o, e, hl, fun j hj => (hb.cell (p := ⟨b, o + j, none⟩) hl).trans (hc j hj)⟩
theorem RdV.mono {w : World} {B B' : Nat} {p : Option Addr} {xs : List Value} (h : RdV w B p xs) (hb : B ≤ B') : RdV w B' p xs := fun hn => by
  obtain ⟨b, o, e, hl, hc⟩ := h hn
  exact ⟨b, o, e, Nat.lt_of_lt_of_le hl hb, hc⟩
theorem RdV.on {w w' : World} {p : Option Addr} {xs : List Value} (h : RdV w w.heap.size p xs) (hb : Below w.heap.size w w') : RdV w' w'.heap.size p xs := (h.below hb).mono hb.size
def scells (r : List By) : List Value := r.map fun s => Value.string (str s)
/-- a row of words as its slice lies -/
structure Rw where
  A : Option Addr
  c : Nat
  ws : List By
def Rw.hd (r : Rw) : Value := .slice r.A r.ws.length r.c
def Rw.all (Ls : List Rw) : List (List By) := Ls.map Rw.ws
/-- lines of words that are read -/
def RdL (w : World) (B : Nat) (p : Option Addr) (Ls : List Rw) : Prop := RdV w B p (Ls.map Rw.hd) ∧ ∀ r ∈ Ls, RdV w B r.A (scells r.ws)
theorem RdL.below {w w' : World} {B : Nat} {p : Option Addr} {Ls : List Rw} (h : RdL w B p Ls) (hb : Below B w w') : RdL w' B p Ls := ⟨h.1.below hb, fun r hr => (h.2 r hr).below hb⟩
theorem RdL.mono {w : World} {B B' : Nat} {p : Option Addr} {Ls : List Rw} (h : RdL w B p Ls) (hb : B ≤ B') : RdL w B' p Ls := ⟨h.1.mono hb, fun r hr => (h.2 r hr).mono hb⟩
theorem RdL.on {w w' : World} {p : Option Addr} {Ls : List Rw} (h : RdL w w.heap.size p Ls) (hb : Below w.heap.size w w') : RdL w' w'.heap.size p Ls := (h.below hb).mono hb.size
theorem RdL.nil (w : World) (B : Nat) (p : Option Addr) : RdL w B p [] := ⟨RdV.nil w B p, fun r hr => by cases hr⟩
theorem RdL.row {w : World} {B : Nat} {p : Option Addr} {Ls : List Rw} (h : RdL w B p Ls) {i : Nat} (hi : i < Ls.length) : ∃ b o, p = some ⟨b, o, none⟩ ∧ b < B ∧ w.cell? ⟨b, o + i, none⟩ = some (.slice Ls[i].A Ls[i].ws.length Ls[i].c) ∧ RdV w B Ls[i].A (scells Ls[i].ws) := by
  obtain ⟨b, o, e, hb, hc⟩ := h.1 (by rw [List.length_map]; omega)
  exact ⟨b, o, e, hb, by rw [hc i (by rw [List.length_map]; exact hi)]; simp [Rw.hd], h.2 _ (List.getElem_mem hi)⟩

end Go.Proofs.YtdmoibphidipeaaGreatDoor
/- Bytes in figures, there and back, as plain mathematics. No program is named here. -/

namespace Go.Proofs.YtdmoibphidipeaaGreatDoor

end Go.Proofs.YtdmoibphidipeaaGreatDoor
/- Colours as plain mathematics: parts by 255, weighing, laying over, fading, mixing, figures. -/

namespace Go.Proofs.YtdmoibphidipeaaGreatDoor

/-- a colour's four parts -/
structure Col where
  r : UInt8
  g : UInt8
  b : UInt8
  a : UInt8
theorem Col.same {c d : Col} : c = d ↔ c.r = d.r ∧ c.g = d.g ∧ c.b = d.b ∧ c.a = d.a := by
  cases c; cases d; simp
/-! what follows -/
end Go.Proofs.YtdmoibphidipeaaGreatDoor
/- Colours: the document's own parts by 255. -/

namespace Go.Proofs.YtdmoibphidipeaaGreatDoor
open Go.RowKit

end Go.Proofs.YtdmoibphidipeaaGreatDoor
/- Colours: the document's own Weigh, May, Over, Fade, Mix. -/

namespace Go.Proofs.YtdmoibphidipeaaGreatDoor
open Go.RowKit

/-- block g is a box with just these cells -/
def Box (w : World) (g : Nat) (t : TypeId) (vs : List Value) : Prop := w.heap[g]? = some (.cells vs.toArray t (0, 0))
section
variable {w w' : World} {g : Nat} {t : TypeId} {vs : List Value}
theorem Box.lt (h : Box w g t vs) : g < w.heap.size := by
  rcases Nat.lt_or_ge g w.heap.size with hlt | hge
  · exact hlt
  · unfold Box at h; rw [Array.getElem?_eq_none hge] at h; cases h
theorem Box.cell (h : Box w g t vs) (i : Nat) {v : Value} (hv : vs[i]? = some v) : w.cell? ⟨g, i, none⟩ = some v := by
  rw [cell_of_row w g i _ t (0, 0) h]
  simpa using hv
theorem Box.frozen (h : Box w g t vs) (i : Nat) : w.frozen? ⟨g, i, none⟩ = false := frozen_of_row w g i _ t h
theorem Box.alloc (h : Box w g t vs) (o : Obj) : Box (w.alloc o) g t vs := (Below.heap_alloc w o g h.lt).trans h
theorem Box.drewN (h : Box w g t vs) (n : Nat) : Box (w.drewN n) g t vs := h
theorem Box.new (w : World) (t : TypeId) (vs : List Value) : Box (w.alloc (.cells vs.toArray t)) w.heap.size t vs := heap_alloc_new w _
theorem Box.below {B : Nat} (h : Box w g t vs) (hb : Below B w w') (hg : g < B) : Box w' g t vs := (hb.block g hg).trans h
/-- a box of four, as a colour lies -/
theorem Box.four {a b c d : Value} (h : Box w g t [a, b, c, d]) : (w.cell? ⟨g, 0, none⟩ = some a ∧ w.cell? ⟨g, 1, none⟩ = some b ∧ w.cell? ⟨g, 2, none⟩ = some c ∧ w.cell? ⟨g, 3, none⟩ = some d) ∧
    (w.frozen? ⟨g, 0, none⟩ = false ∧ w.frozen? ⟨g, 1, none⟩ = false ∧ w.frozen? ⟨g, 2, none⟩ = false ∧ w.frozen? ⟨g, 3, none⟩ = false) :=
  ⟨⟨h.cell 0 rfl, h.cell 1 rfl, h.cell 2 rfl, h.cell 3 rfl⟩, h.frozen 0, h.frozen 1, h.frozen 2, h.frozen 3⟩
end

end Go.Proofs.YtdmoibphidipeaaGreatDoor
/- Maps of the plane as mathematics: which may be, where a point goes, by one map and by a row of them. No program is named here. -/

namespace Go.Proofs.YtdmoibphidipeaaGreatDoor

/-- a point of the grid -/
structure Pt where
  x : Int
  y : Int
theorem Pt.same {p q : Pt} : p = q ↔ p.x = q.x ∧ p.y = q.y := by cases p; cases q; simp
instance : DecidableEq Pt := fun _ _ => decidable_of_iff _ Pt.same.symm
instance : Inhabited Pt := ⟨⟨0, 0⟩⟩
/-- a map's six numbers -/
structure Mp where
  a : Int
  b : Int
  c : Int
  d : Int
  e : Int
  f : Int
instance : Inhabited Mp := ⟨⟨0, 0, 0, 0, 0, 0⟩⟩
def FitP (p : Pt) : Prop := (-8388607 ≤ p.x ∧ p.x ≤ 8388607) ∧ (-8388607 ≤ p.y ∧ p.y ≤ 8388607)
instance (p : Pt) : Decidable (FitP p) := by unfold FitP; exact inferInstance
def MayF (n : Int) : Prop := -32768 ≤ n ∧ n ≤ 32768
instance (n : Int) : Decidable (MayF n) := by unfold MayF; exact inferInstance
def MayM (m : Mp) : Prop := MayF m.a ∧ MayF m.b ∧ MayF m.c ∧ MayF m.d ∧ FitP ⟨m.e, m.f⟩
instance (m : Mp) : Decidable (MayM m) := by unfold MayM; exact inferInstance
end Go.Proofs.YtdmoibphidipeaaGreatDoor
/- Maps of the plane: the document's own Fits, factor, May. Written by gen/genaf.py. -/

namespace Go.Proofs.YtdmoibphidipeaaGreatDoor
open Go.RowKit

def ptV (p : Pt) : Value := .agg #[.int .i64 p.x, .int .i64 p.y]
def ptCells (p : Pt) : List Value := [.int .i64 p.x, .int .i64 p.y]
theorem Box.pair {w : World} {g : Nat} {t : TypeId} {a b : Value} (h : Box w g t [a, b]) : (w.cell? ⟨g, 0, none⟩ = some a ∧ w.cell? ⟨g, 1, none⟩ = some b) ∧ (w.frozen? ⟨g, 0, none⟩ = false ∧ w.frozen? ⟨g, 1, none⟩ = false) :=
  ⟨⟨h.cell 0 rfl, h.cell 1 rfl⟩, h.frozen 0, h.frozen 1⟩
theorem Box.six {w : World} {g : Nat} {t : TypeId} {a b c d e f : Value} (h : Box w g t [a, b, c, d, e, f]) : w.cell? ⟨g, 0, none⟩ = some a ∧ w.cell? ⟨g, 1, none⟩ = some b ∧ w.cell? ⟨g, 2, none⟩ = some c ∧ w.cell? ⟨g, 3, none⟩ = some d ∧ w.cell? ⟨g, 4, none⟩ = some e ∧ w.cell? ⟨g, 5, none⟩ = some f :=
  ⟨h.cell 0 rfl, h.cell 1 rfl, h.cell 2 rfl, h.cell 3 rfl, h.cell 4 rfl, h.cell 5 rfl⟩

set_option maxRecDepth 10000 in
theorem ref10_Fits (p : Pt) (w : World) :
    Calls Tryz.prog 73 #[ptV p] w fun e w' => e = .returned (.bool (decide (FitP p))) ∧ Below w.heap.size w w' := by
  obtain ⟨W, hW, k, B0⟩ : ∃ W, w.alloc (.cells #[.int .i64 p.x, .int .i64 p.y] 23) = W ∧ Box W w.heap.size 23 [.int .i64 p.x, .int .i64 p.y] ∧ Below w.heap.size w W := ⟨_, rfl, Box.new w _ [.int .i64 p.x, .int .i64 p.y], (Below.refl _ _).alloc (Nat.le_refl _) _⟩
  obtain ⟨⟨p0, p1⟩, -⟩ := Box.pair k
  obtain ⟨d, hd⟩ : ∃ d : Bool, decide (FitP p) = d := ⟨_, rfl⟩
  rw [hd]
  have HD := Lib.hid (show d = true ↔ FitP p by rw [← hd]; exact decide_eq_true_iff)
  have HB := Lib.hid B0
  have HW := Lib.hid hW
  unfold ptV
  clear hd B0 k hW
  obtain ⟨x, y⟩ := p
  unfold FitP at HD
  dsimp only at *
  by_cases h0 : -8388607 ≤ x
  · skip
    by_cases h1 : x ≤ 8388607
    · skip
      by_cases h2 : -8388607 ≤ y
      · skip
        by_cases h3 : y ≤ 8388607
        · skip
          have HR := Lib.hid (show d = true from HD.out.2 (by grind))
          go_enter Tryz.func73, Tryz.ntmps73
          go_wp2_with (rw [HW.out])
          go_ret
          exact ⟨by rw [HR.out]; first | rfl | simp, HB.out⟩
        · have HR := Lib.hid (show d = false from Bool.eq_false_iff.2 fun hb => h3 (by have := HD.out.1 hb; grind))
          go_enter Tryz.func73, Tryz.ntmps73
          go_wp2_with (rw [HW.out])
          go_ret
          exact ⟨by rw [HR.out]; first | rfl | simp, HB.out⟩
      · have HR := Lib.hid (show d = false from Bool.eq_false_iff.2 fun hb => h2 (by have := HD.out.1 hb; grind))
        go_enter Tryz.func73, Tryz.ntmps73
        go_wp2_with (rw [HW.out])
        go_ret
        exact ⟨by rw [HR.out]; first | rfl | simp, HB.out⟩
    · have HR := Lib.hid (show d = false from Bool.eq_false_iff.2 fun hb => h1 (by have := HD.out.1 hb; grind))
      go_enter Tryz.func73, Tryz.ntmps73
      go_wp2_with (rw [HW.out])
      go_ret
      exact ⟨by rw [HR.out]; first | rfl | simp, HB.out⟩
  · have HR := Lib.hid (show d = false from Bool.eq_false_iff.2 fun hb => h0 (by have := HD.out.1 hb; grind))
    go_enter Tryz.func73, Tryz.ntmps73
    go_wp2_with (rw [HW.out])
    go_ret
    exact ⟨by rw [HR.out]; first | rfl | simp, HB.out⟩

end Go.Proofs.YtdmoibphidipeaaGreatDoor
/- Rows of structs in memory: each element so many cells. Rows of points, of maps. -/

namespace Go.Proofs.YtdmoibphidipeaaGreatDoor
open Go.RowKit

section
variable {α : Type} {k : Nat} {f : α → List Value}
theorem flat_length (hf : ∀ a, (f a).length = k) (l : List α) : (l.flatMap f).length = l.length * k := by
  induction l with
  | nil => simp
  | cons a l ih => rw [List.flatMap_cons, List.length_append, ih, hf, List.length_cons, Nat.succ_mul]; omega
theorem flat_get (hf : ∀ a, (f a).length = k) : ∀ (l : List α) (i : Nat) (hi : i < l.length) (j : Nat), j < k → (l.flatMap f)[i * k + j]? = (f l[i])[j]?
  | [], i, hi, _, _ => absurd hi (by simp)
  | a :: l, 0, _, j, hj => by
    rw [List.flatMap_cons, Nat.zero_mul, Nat.zero_add, List.getElem?_append_left (by rw [hf]; exact hj)]
    rfl
  | a :: l, i + 1, hi, j, hj => by
    have h := flat_get hf l i (by simp at hi; omega) j hj
    rw [List.flatMap_cons, List.getElem?_append_right (by rw [hf, Nat.succ_mul]; omega), hf]
    rw [show (i + 1) * k + j - k = i * k + j by rw [Nat.succ_mul]; omega, h]
    rfl
/-- the cells of an element -/
theorem RdV.elem (hf : ∀ a, (f a).length = k) {w : World} {B : Nat} {p : Option Addr} {l : List α} (h : RdV w B p (l.flatMap f)) (hk : 0 < k) {i : Nat} (hi : i < l.length) : ∃ b o, p = some ⟨b, o, none⟩ ∧ b < B ∧ ∀ j v, (f l[i])[j]? = some v → w.cell? ⟨b, o + (i * k + j), none⟩ = some v := by
  have hpos : 0 < l.length * k := Nat.mul_pos (by omega) hk
  obtain ⟨b, o, e, hb, hc⟩ := h (by rw [flat_length hf]; exact hpos)
  refine ⟨b, o, e, hb, fun j v hv => ?_⟩
  have hj : j < k := by have := (List.getElem?_eq_some_iff.1 hv).1; rwa [hf] at this
  have h2 := (flat_get hf l i hi j hj).trans hv
  obtain ⟨h3, h4⟩ := List.getElem?_eq_some_iff.1 h2
  rw [hc _ h3, h4]
end
end Go.Proofs.YtdmoibphidipeaaGreatDoor
