/- Where ways meet, the document's own reckoning: areas of grid points, the part of the way, the point there: by what they are worth. -/
import Derived.Test.YtdmoibphidipeaaGreatDoorZCrX
import Derived.Test.YtdmoibphidipeaaGreatDoorZOaH
import Derived.Test.YtdmoibphidipeaaGreatDoorZOaE
import Derived.Test.YtdmoibphidipeaaGreatDoorZOaG
import Derived.Test.YtdmoibphidipeaaGreatDoorZOaA
namespace Go.Proofs.YtdmoibphidipeaaGreatDoor
open Go.RowKit Num

theorem lt8 {n : Nat} (h : n < 4294967296 ^ 4) : n < 4294967296 ^ 8 := Nat.lt_of_lt_of_le h (by decide)
/-- a number of the grid -/
def InG (x : Int) : Prop := -8388607 ≤ x ∧ x ≤ 8388607
theorem fit_InG {p : Pt} (h : FitP p) : InG p.x ∧ InG p.y := by unfold FitP at h; unfold InG; omega
/-- twice the area of three points of the grid, as the document reckons it -/
def arI (P1 P2 P3 P4 P5 P6 : Int) : Int := P1 * (P4 - P6) + P3 * (P6 - P2) + P5 * (P2 - P4)
/-- the area as a rational -/
theorem arI_crQ (c d a : Pt) : ((arI c.x c.y d.x d.y a.x a.y : Int) : Rat) = crQ (qAt c) (qAt d) (qAt a) := by
  unfold arI crQ qAt
  simp only [Rat.intCast_add, Rat.intCast_sub, Rat.intCast_mul]
  grind
theorem across_div {p r : Int} (h : r ≠ 0) : qf (acrossN p r) r.natAbs = (p : Rat) / (r : Rat) := by
  have hr : (r : Rat) ≠ 0 := by exact_mod_cast h
  unfold qf acrossN
  by_cases c : r < 0
  · rw [if_pos c]
    have e : ((r.natAbs : Nat) : Rat) = -(r : Rat) := by
      have : ((r.natAbs : Nat) : Int) = -r := by omega
      exact_mod_cast congrArg (fun x : Int => (x : Rat)) this
    rw [e, Rat.intCast_neg]
    grind
  · rw [if_neg c]
    have e : ((r.natAbs : Nat) : Rat) = (r : Rat) := by
      have : ((r.natAbs : Nat) : Int) = r := by omega
      exact_mod_cast congrArg (fun x : Int => (x : Rat)) this
    rw [e]
theorem toward_qf {P1 P3 F : Int} {N : Nat} (hN : 0 < N) : qf (P1 * N + F * (P3 - P1)) N = (P1 : Rat) + qf F N * ((P3 : Rat) - (P1 : Rat)) := by
  have h : (N : Rat) ≠ 0 := by have := nat_pos hN; grind
  unfold qf
  simp only [Rat.intCast_add, Rat.intCast_sub, Rat.intCast_mul, Rat.intCast_natCast]
  grind
/-- the point that the document reckons is where the lines meet -/
theorem cross_qs (a b c d : Pt) (hr : arI c.x c.y d.x d.y a.x a.y - arI c.x c.y d.x d.y b.x b.y ≠ 0) {F : Int} {N : Nat} (hF : F = acrossN (arI c.x c.y d.x d.y a.x a.y) (arI c.x c.y d.x d.y a.x a.y - arI c.x c.y d.x d.y b.x b.y)) (hN : N = (arI c.x c.y d.x d.y a.x a.y - arI c.x c.y d.x d.y b.x b.y).natAbs) :
    qs (a.x * N + F * (b.x - a.x)) (a.y * N + F * (b.y - a.y)) N N = crossQ (qAt a) (qAt b) (qAt c) (qAt d) := by
  have hN0 : 0 < N := by omega
  have e := across_div (p := arI c.x c.y d.x d.y a.x a.y) hr
  rw [← hF, ← hN] at e
  have e1 := arI_crQ c d a
  have e2 := arI_crQ c d b
  rw [Rat.intCast_sub, e1, e2] at e
  unfold qs crossQ
  rw [toward_qf hN0, toward_qf hN0, e]
  rfl
end Go.Proofs.YtdmoibphidipeaaGreatDoor
/- Where ways meet: a way in its box. -/

namespace Go.Proofs.YtdmoibphidipeaaGreatDoor
open Go.RowKit

def segCells (a b : Pt) : List Value := [.int .i64 a.x, .int .i64 a.y, .int .i64 b.x, .int .i64 b.y]
def segV (a b : Pt) : Value := .agg #[.int .i64 a.x, .int .i64 a.y, .int .i64 b.x, .int .i64 b.y]
theorem Box.quad {w : World} {g : Nat} {t : TypeId} {a b c d : Value} (h : Box w g t [a, b, c, d]) : w.cell? ⟨g, 0, none⟩ = some a ∧ w.cell? ⟨g, 1, none⟩ = some b ∧ w.cell? ⟨g, 2, none⟩ = some c ∧ w.cell? ⟨g, 3, none⟩ = some d :=
  ⟨h.cell 0 rfl, h.cell 1 rfl, h.cell 2 rfl, h.cell 3 rfl⟩
theorem seg_box (w : World) (a b : Pt) : ∃ W, w.alloc (.cells #[.int .i64 a.x, .int .i64 a.y, .int .i64 b.x, .int .i64 b.y] 25) = W ∧ Box W w.heap.size 25 (segCells a b) ∧ Below w.heap.size w W :=
  ⟨_, rfl, Box.new w _ (segCells a b), (Below.refl _ _).alloc (Nat.le_refl _) _⟩
theorem seg_boxes (w : World) (a b c d : Pt) : ∃ W, (w.alloc (.cells #[.int .i64 a.x, .int .i64 a.y, .int .i64 b.x, .int .i64 b.y] 25)).alloc (.cells #[.int .i64 c.x, .int .i64 c.y, .int .i64 d.x, .int .i64 d.y] 25) = W ∧ Box W w.heap.size 25 (segCells a b) ∧ Box W (w.heap.size + 1) 25 (segCells c d) ∧ Below w.heap.size w W ∧ W.heap.size = w.heap.size + 2 := by
  have k1 := Box.new w 25 (segCells a b)
  have k2 := Box.new (w.alloc (.cells #[.int .i64 a.x, .int .i64 a.y, .int .i64 b.x, .int .i64 b.y] 25)) 25 (segCells c d)
  have e : (w.alloc (.cells #[.int .i64 a.x, .int .i64 a.y, .int .i64 b.x, .int .i64 b.y] 25)).heap.size = w.heap.size + 1 := by simp
  rw [e] at k2
  exact ⟨_, rfl, k1.alloc _, k2, ((Below.refl _ w).alloc (Nat.le_refl _) _).alloc (by simp) _, by simp⟩
theorem seg_pt_boxes (w : World) (a b p : Pt) : ∃ W, (w.alloc (.cells #[.int .i64 a.x, .int .i64 a.y, .int .i64 b.x, .int .i64 b.y] 25)).alloc (.cells #[.int .i64 p.x, .int .i64 p.y] 23) = W ∧ Box W w.heap.size 25 (segCells a b) ∧ Box W (w.heap.size + 1) 23 (ptCells p) ∧ Below w.heap.size w W ∧ W.heap.size = w.heap.size + 2 := by
  have k1 := Box.new w 25 (segCells a b)
  have k2 := Box.new (w.alloc (.cells #[.int .i64 a.x, .int .i64 a.y, .int .i64 b.x, .int .i64 b.y] 25)) 23 (ptCells p)
  have e : (w.alloc (.cells #[.int .i64 a.x, .int .i64 a.y, .int .i64 b.x, .int .i64 b.y] 25)).heap.size = w.heap.size + 1 := by simp
  rw [e] at k2
  exact ⟨_, rfl, k1.alloc _, k2, ((Below.refl _ w).alloc (Nat.le_refl _) _).alloc (by simp) _, by simp⟩
end Go.Proofs.YtdmoibphidipeaaGreatDoor
/- Where ways meet, the document's own: May, and Meet where one may not be or the boxes lie apart. -/

namespace Go.Proofs.YtdmoibphidipeaaGreatDoor
open Go.RowKit Num

/-- the row that both Meets answer, as it lies in memory -/
def MeetR (a b c d : Pt) (R : List Qp) : Prop := ((FitP a ∧ FitP b) ∧ FitP c ∧ FitP d → IsMeet (qAt a) (qAt b) (qAt c) (qAt d) R) ∧ (¬ ((FitP a ∧ FitP b) ∧ FitP c ∧ FitP d) → R = [])
def MeetTo (a b c d : Pt) (M : Nat) (w : World) (e : Ending) (w' : World) : Prop :=
  ∃ v xs R, e = .returned v ∧ OwnS w' w.heap.size v xs.length (flat xs) ∧ RowW M w' xs R ∧ MeetR a b c d R ∧ Below w.heap.size w w'
theorem MeetTo.none {a b c d : Pt} {M : Nat} {w w' : World} (h : MeetR a b c d []) (k : Below w.heap.size w w') : MeetTo a b c d M w (.returned (.slice none 0 0)) w' :=
  ⟨_, [], [], rfl, OwnS.nil _ _, RowW.nil _ _, h, k⟩

end Go.Proofs.YtdmoibphidipeaaGreatDoor
