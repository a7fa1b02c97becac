/- Maps of the plane as mathematics: which may be, where a point goes, by one map and by a row of them. No program is named here. -/
import Derived.WalkKit
import Derived.Test.YtbhahddgajkchaaZCoZ
import Derived.Test.YtbhahddgajkchaaZLxV
namespace Go.Proofs.Ytbhahddgajkchaa

/-- a point of the grid -/
structure Pt where
  x : Int
  y : Int
theorem Pt.same {p q : Pt} : p = q ↔ p.x = q.x ∧ p.y = q.y := by cases p; cases q; simp
instance : DecidableEq Pt := fun _ _ => decidable_of_iff _ Pt.same.symm
instance : Inhabited Pt := ⟨⟨0, 0⟩⟩
def pt0 : Pt := ⟨0, 0⟩
/-- a map's six numbers -/
structure Mp where
  a : Int
  b : Int
  c : Int
  d : Int
  e : Int
  f : Int
instance : Inhabited Mp := ⟨⟨0, 0, 0, 0, 0, 0⟩⟩
def FitP (p : Pt) : Prop := (-8388607 ≤ p.x ∧ p.x ≤ 8388607) ∧ (-8388607 ≤ p.y ∧ p.y ≤ 8388607)
instance (p : Pt) : Decidable (FitP p) := by unfold FitP; exact inferInstance
def MayF (n : Int) : Prop := -32768 ≤ n ∧ n ≤ 32768
instance (n : Int) : Decidable (MayF n) := by unfold MayF; exact inferInstance
def MayM (m : Mp) : Prop := MayF m.a ∧ MayF m.b ∧ MayF m.c ∧ MayF m.d ∧ FitP ⟨m.e, m.f⟩
instance (m : Mp) : Decidable (MayM m) := by unfold MayM; exact inferInstance
def detM (m : Mp) : Int := m.a * m.d - m.b * m.c
/-- a 256th part, to the nearest whole number, of two the greater one -/
def nearN (s : Int) : Int := (s + 128) / 256
def goM (m : Mp) (p : Pt) : Pt := ⟨nearN (m.a * p.x + m.c * p.y) + m.e, nearN (m.b * p.x + m.d * p.y) + m.f⟩
def applyE (m : Mp) (p : Pt) : Int := if MayM m then (if FitP p ∧ FitP (goM m p) then 0 else 4) else 2
/-- two shifts may be taken in any order -/
theorem shift_go (e f : Int) (p : Pt) : goM ⟨256, 0, 0, 256, e, f⟩ p = ⟨p.x + e, p.y + f⟩ := by
  unfold goM nearN
  simp only [Pt.same]
  constructor
  · show (256 * p.x + 0 * p.y + 128) / 256 + e = p.x + e; omega
  · show (0 * p.x + 256 * p.y + 128) / 256 + f = p.y + f; omega
end Go.Proofs.Ytbhahddgajkchaa
/- Maps of the plane: the document's own Fits, factor, May. Written by gen/genaf.py. -/

namespace Go.Proofs.Ytbhahddgajkchaa
open Go.RowKit

def ptV (p : Pt) : Value := .agg #[.int .i64 p.x, .int .i64 p.y]
def ptCells (p : Pt) : List Value := [.int .i64 p.x, .int .i64 p.y]
def mpV (m : Mp) : Value := .agg #[.int .i64 m.a, .int .i64 m.b, .int .i64 m.c, .int .i64 m.d, .int .i64 m.e, .int .i64 m.f]
def mpCells (m : Mp) : List Value := [.int .i64 m.a, .int .i64 m.b, .int .i64 m.c, .int .i64 m.d, .int .i64 m.e, .int .i64 m.f]
theorem Box.pair {w : World} {g : Nat} {t : TypeId} {a b : Value} (h : Box w g t [a, b]) : (w.cell? ⟨g, 0, none⟩ = some a ∧ w.cell? ⟨g, 1, none⟩ = some b) ∧ (w.frozen? ⟨g, 0, none⟩ = false ∧ w.frozen? ⟨g, 1, none⟩ = false) :=
  ⟨⟨h.cell 0 rfl, h.cell 1 rfl⟩, h.frozen 0, h.frozen 1⟩
theorem Box.six {w : World} {g : Nat} {t : TypeId} {a b c d e f : Value} (h : Box w g t [a, b, c, d, e, f]) : w.cell? ⟨g, 0, none⟩ = some a ∧ w.cell? ⟨g, 1, none⟩ = some b ∧ w.cell? ⟨g, 2, none⟩ = some c ∧ w.cell? ⟨g, 3, none⟩ = some d ∧ w.cell? ⟨g, 4, none⟩ = some e ∧ w.cell? ⟨g, 5, none⟩ = some f :=
  ⟨h.cell 0 rfl, h.cell 1 rfl, h.cell 2 rfl, h.cell 3 rfl, h.cell 4 rfl, h.cell 5 rfl⟩

set_option maxRecDepth 10000 in
theorem ref10_Fits (p : Pt) (w : World) :
    Calls Try.prog 28 #[ptV p] w fun e w' => e = .returned (.bool (decide (FitP p))) ∧ Below w.heap.size w w' := by
  obtain ⟨W, hW, k, B0⟩ : ∃ W, w.alloc (.cells #[.int .i64 p.x, .int .i64 p.y] 23) = W ∧ Box W w.heap.size 23 [.int .i64 p.x, .int .i64 p.y] ∧ Below w.heap.size w W := ⟨_, rfl, Box.new w _ [.int .i64 p.x, .int .i64 p.y], (Below.refl _ _).alloc (Nat.le_refl _) _⟩
  obtain ⟨⟨p0, p1⟩, -⟩ := Box.pair k
  obtain ⟨d, hd⟩ : ∃ d : Bool, decide (FitP p) = d := ⟨_, rfl⟩
  rw [hd]
  have HD := Lib.hid (show d = true ↔ FitP p by rw [← hd]; exact decide_eq_true_iff)
  have HB := Lib.hid B0
  have HW := Lib.hid hW
  unfold ptV
  clear hd B0 k hW
  obtain ⟨x, y⟩ := p
  unfold FitP at HD
  dsimp only at *
  by_cases h0 : -8388607 ≤ x
  · skip
    by_cases h1 : x ≤ 8388607
    · skip
      by_cases h2 : -8388607 ≤ y
      · skip
        by_cases h3 : y ≤ 8388607
        · skip
          have HR := Lib.hid (show d = true from HD.out.2 (by grind))
          go_enter Try.func28, Try.ntmps28
          go_wp2_with (rw [HW.out])
          go_ret
          exact ⟨by rw [HR.out]; first | rfl | simp, HB.out⟩
        · have HR := Lib.hid (show d = false from Bool.eq_false_iff.2 fun hb => h3 (by have := HD.out.1 hb; grind))
          go_enter Try.func28, Try.ntmps28
          go_wp2_with (rw [HW.out])
          go_ret
          exact ⟨by rw [HR.out]; first | rfl | simp, HB.out⟩
      · have HR := Lib.hid (show d = false from Bool.eq_false_iff.2 fun hb => h2 (by have := HD.out.1 hb; grind))
        go_enter Try.func28, Try.ntmps28
        go_wp2_with (rw [HW.out])
        go_ret
        exact ⟨by rw [HR.out]; first | rfl | simp, HB.out⟩
    · have HR := Lib.hid (show d = false from Bool.eq_false_iff.2 fun hb => h1 (by have := HD.out.1 hb; grind))
      go_enter Try.func28, Try.ntmps28
      go_wp2_with (rw [HW.out])
      go_ret
      exact ⟨by rw [HR.out]; first | rfl | simp, HB.out⟩
  · have HR := Lib.hid (show d = false from Bool.eq_false_iff.2 fun hb => h0 (by have := HD.out.1 hb; grind))
    go_enter Try.func28, Try.ntmps28
    go_wp2_with (rw [HW.out])
    go_ret
    exact ⟨by rw [HR.out]; first | rfl | simp, HB.out⟩

end Go.Proofs.Ytbhahddgajkchaa
/- Rows of structs in memory: each element so many cells. Rows of points, of maps. -/

namespace Go.Proofs.Ytbhahddgajkchaa
open Go.RowKit

section
variable {α : Type} {k : Nat} {f : α → List Value}
theorem flat_length (hf : ∀ a, (f a).length = k) (l : List α) : (l.flatMap f).length = l.length * k := by
  induction l with
  | nil => simp
  | cons a l ih => rw [List.flatMap_cons, List.length_append, ih, hf, List.length_cons, Nat.succ_mul]; omega
theorem flat_get (hf : ∀ a, (f a).length = k) : ∀ (l : List α) (i : Nat) (hi : i < l.length) (j : Nat), j < k → (l.flatMap f)[i * k + j]? = (f l[i])[j]?
  | [], i, hi, _, _ => absurd hi (by simp)
  | a :: l, 0, _, j, hj => by
    rw [List.flatMap_cons, Nat.zero_mul, Nat.zero_add, List.getElem?_append_left (by rw [hf]; exact hj)]
    rfl
  | a :: l, i + 1, hi, j, hj => by
    have h := flat_get hf l i (by simp at hi; omega) j hj
    rw [List.flatMap_cons, List.getElem?_append_right (by rw [hf, Nat.succ_mul]; omega), hf]
    rw [show (i + 1) * k + j - k = i * k + j by rw [Nat.succ_mul]; omega, h]
    rfl
/-- the cells of an element -/
theorem RdV.elem (hf : ∀ a, (f a).length = k) {w : World} {B : Nat} {p : Option Addr} {l : List α} (h : RdV w B p (l.flatMap f)) (hk : 0 < k) {i : Nat} (hi : i < l.length) : ∃ b o, p = some ⟨b, o, none⟩ ∧ b < B ∧ ∀ j v, (f l[i])[j]? = some v → w.cell? ⟨b, o + (i * k + j), none⟩ = some v := by
  have hpos : 0 < l.length * k := Nat.mul_pos (by omega) hk
  obtain ⟨b, o, e, hb, hc⟩ := h (by rw [flat_length hf]; exact hpos)
  refine ⟨b, o, e, hb, fun j v hv => ?_⟩
  have hj : j < k := by have := (List.getElem?_eq_some_iff.1 hv).1; rwa [hf] at this
  have h2 := (flat_get hf l i hi j hj).trans hv
  obtain ⟨h3, h4⟩ := List.getElem?_eq_some_iff.1 h2
  rw [hc _ h3, h4]
end
theorem RdV.ofOwnK {w : World} {base n k : Nat} {e : TypeId} {v : Value} {xs : List Value} (h : w.ownsRow base e k v n xs) : ∃ p cap, v = .slice p n cap ∧ n ≤ cap ∧ (p = none → cap = 0) ∧ RdV w w.heap.size p xs := by
  have hl : xs.length = n * k := h.1
  rcases h.2 with ⟨rfl, rfl⟩ | ⟨g, cap, cur, rfl, hb, hg, hnc, hcm, hcs, htake⟩
  · exact ⟨none, 0, rfl, Nat.le_refl _, fun _ => rfl, fun hn => by rw [Nat.zero_mul] at hl; omega⟩
  · refine ⟨some ⟨g, 0, none⟩, cap, rfl, hnc, fun e => (by cases e), fun hn => ⟨g, 0, rfl, (Array.getElem?_eq_some_iff.1 hg).1, fun j hj => ?_⟩⟩
    rw [Nat.zero_add, cell_of_row w g j cur e (0, 0) hg]
    have h2 := congrArg (·[j]?) htake
    simp only [List.getElem?_take] at h2
    rw [List.getElem?_eq_getElem hj] at h2
    rw [if_pos (by omega)] at h2
    simpa using h2

/-- a row of points, of maps, as it lies -/
def ptRow (l : List Pt) : List Value := l.flatMap ptCells
def mpRow (l : List Mp) : List Value := l.flatMap mpCells
theorem ptCells_length (p : Pt) : (ptCells p).length = 2 := rfl
theorem mpCells_length (m : Mp) : (mpCells m).length = 6 := rfl
theorem ptRow_length (l : List Pt) : (ptRow l).length = l.length * 2 := flat_length ptCells_length l
theorem ptRow_append (a b : List Pt) : ptRow (a ++ b) = ptRow a ++ ptRow b := by simp [ptRow]
theorem ptRow_one (p : Pt) : ptRow [p] = [.int .i64 p.x, .int .i64 p.y] := rfl
theorem RdV.pt {w : World} {B : Nat} {p : Option Addr} {l : List Pt} (h : RdV w B p (ptRow l)) {i : Nat} (hi : i < l.length) : ∃ b o, p = some ⟨b, o, none⟩ ∧ b < B ∧ w.cell? ⟨b, o + i * 2, none⟩ = some (.int .i64 l[i].x) ∧ w.cell? ⟨b, o + i * 2 + 1, none⟩ = some (.int .i64 l[i].y) := by
  obtain ⟨b, o, e, hb, hc⟩ := RdV.elem ptCells_length h (by omega) hi
  exact ⟨b, o, e, hb, hc 0 _ rfl, hc 1 _ rfl⟩
theorem RdV.mp {w : World} {B : Nat} {p : Option Addr} {l : List Mp} (h : RdV w B p (mpRow l)) {i : Nat} (hi : i < l.length) : ∃ b o, p = some ⟨b, o, none⟩ ∧ b < B ∧ w.cell? ⟨b, o + i * 6, none⟩ = some (.int .i64 l[i].a) ∧ w.cell? ⟨b, o + i * 6 + 1, none⟩ = some (.int .i64 l[i].b) ∧
    w.cell? ⟨b, o + i * 6 + 2, none⟩ = some (.int .i64 l[i].c) ∧ w.cell? ⟨b, o + i * 6 + 3, none⟩ = some (.int .i64 l[i].d) ∧ w.cell? ⟨b, o + i * 6 + 4, none⟩ = some (.int .i64 l[i].e) ∧ w.cell? ⟨b, o + i * 6 + 5, none⟩ = some (.int .i64 l[i].f) := by
  obtain ⟨b, o, e, hb, hc⟩ := RdV.elem mpCells_length h (by omega) hi
  exact ⟨b, o, e, hb, hc 0 _ rfl, hc 1 _ rfl, hc 2 _ rfl, hc 3 _ rfl, hc 4 _ rfl, hc 5 _ rfl⟩
end Go.Proofs.Ytbhahddgajkchaa
