/- Spots: how two stand, whether they are one, whether one is on a way: the program's own and the document's own. -/
import Derived.Test.YtbhahddgajkchaaZSgA
import Derived.Lib.QuietBelow
import Derived.BigQuiet
import Derived.Deep.RegionHeld3
import Derived.Deep.RegionWith
namespace Go.Proofs.Ytbhahddgajkchaa
open Go.RowKit Num
open Go.Sort (grow)

/-- contracts whose answer is an int or a bool -/
abbrev Fi1 (f : FuncId) (S1 : Shape) (z : Int) : Prop := ∀ (n1 : Bool) (a1 d1 : List Nat) (A1 D1 : Option Addr) (c1 e1 : Nat) (w : World), S1 n1 a1 c1 d1 e1 → Rd w (fun g => g < w.heap.size) .u32 A1 a1 → Rd w (fun g => g < w.heap.size) .u32 D1 d1 → Calls Try.prog f #[.agg #[.bool n1, .slice A1 a1.length c1, .slice D1 d1.length e1]] w fun e w' => e = .returned (.int .i64 z) ∧ Below w.heap.size w w'
abbrev Fi2 (f : FuncId) (S1 S2 : Shape) (z : Int) : Prop := ∀ (n1 n2 : Bool) (a1 d1 a2 d2 : List Nat) (A1 D1 A2 D2 : Option Addr) (c1 e1 c2 e2 : Nat) (w : World), S1 n1 a1 c1 d1 e1 → S2 n2 a2 c2 d2 e2 → Rd w (fun g => g < w.heap.size) .u32 A1 a1 → Rd w (fun g => g < w.heap.size) .u32 D1 d1 → Rd w (fun g => g < w.heap.size) .u32 A2 a2 → Rd w (fun g => g < w.heap.size) .u32 D2 d2 → Calls Try.prog f #[.agg #[.bool n1, .slice A1 a1.length c1, .slice D1 d1.length e1], .agg #[.bool n2, .slice A2 a2.length c2, .slice D2 d2.length e2]] w fun e w' => e = .returned (.int .i64 z) ∧ Below w.heap.size w w'
abbrev Fb2 (f : FuncId) (S1 S2 : Shape) (b : Bool) : Prop := ∀ (n1 n2 : Bool) (a1 d1 a2 d2 : List Nat) (A1 D1 A2 D2 : Option Addr) (c1 e1 c2 e2 : Nat) (w : World), S1 n1 a1 c1 d1 e1 → S2 n2 a2 c2 d2 e2 → Rd w (fun g => g < w.heap.size) .u32 A1 a1 → Rd w (fun g => g < w.heap.size) .u32 D1 d1 → Rd w (fun g => g < w.heap.size) .u32 A2 a2 → Rd w (fun g => g < w.heap.size) .u32 D2 d2 → Calls Try.prog f #[.agg #[.bool n1, .slice A1 a1.length c1, .slice D1 d1.length e1], .agg #[.bool n2, .slice A2 a2.length c2, .slice D2 d2.length e2]] w fun e w' => e = .returned (.bool b) ∧ Below w.heap.size w w'
abbrev Fb3 (f : FuncId) (S1 S2 S3 : Shape) (b : Bool) : Prop := ∀ (n1 n2 n3 : Bool) (a1 d1 a2 d2 a3 d3 : List Nat) (A1 D1 A2 D2 A3 D3 : Option Addr) (c1 e1 c2 e2 c3 e3 : Nat) (w : World), S1 n1 a1 c1 d1 e1 → S2 n2 a2 c2 d2 e2 → S3 n3 a3 c3 d3 e3 → Rd w (fun g => g < w.heap.size) .u32 A1 a1 → Rd w (fun g => g < w.heap.size) .u32 D1 d1 → Rd w (fun g => g < w.heap.size) .u32 A2 a2 → Rd w (fun g => g < w.heap.size) .u32 D2 d2 → Rd w (fun g => g < w.heap.size) .u32 A3 a3 → Rd w (fun g => g < w.heap.size) .u32 D3 d3 → Calls Try.prog f #[.agg #[.bool n1, .slice A1 a1.length c1, .slice D1 d1.length e1], .agg #[.bool n2, .slice A2 a2.length c2, .slice D2 d2.length e2], .agg #[.bool n3, .slice A3 a3.length c3, .slice D3 d3.length e3]] w fun e w' => e = .returned (.bool b) ∧ Below w.heap.size w w'
/-- the same, of spots -/
abbrev Si2 (f : FuncId) (S1 S2 S3 S4 : Shape) (z : Int) : Prop := ∀ (n1 n2 n3 n4 : Bool) (a1 d1 a2 d2 a3 d3 a4 d4 : List Nat) (A1 D1 A2 D2 A3 D3 A4 D4 : Option Addr) (c1 e1 c2 e2 c3 e3 c4 e4 : Nat) (w : World), S1 n1 a1 c1 d1 e1 → S2 n2 a2 c2 d2 e2 → S3 n3 a3 c3 d3 e3 → S4 n4 a4 c4 d4 e4 → Rd w (fun g => g < w.heap.size) .u32 A1 a1 → Rd w (fun g => g < w.heap.size) .u32 D1 d1 → Rd w (fun g => g < w.heap.size) .u32 A2 a2 → Rd w (fun g => g < w.heap.size) .u32 D2 d2 → Rd w (fun g => g < w.heap.size) .u32 A3 a3 → Rd w (fun g => g < w.heap.size) .u32 D3 d3 → Rd w (fun g => g < w.heap.size) .u32 A4 a4 → Rd w (fun g => g < w.heap.size) .u32 D4 d4 → Calls Try.prog f #[.agg #[.bool n1, .slice A1 a1.length c1, .slice D1 d1.length e1, .bool n2, .slice A2 a2.length c2, .slice D2 d2.length e2], .agg #[.bool n3, .slice A3 a3.length c3, .slice D3 d3.length e3, .bool n4, .slice A4 a4.length c4, .slice D4 d4.length e4]] w fun e w' => e = .returned (.int .i64 z) ∧ Below w.heap.size w w'
abbrev Sb2 (f : FuncId) (S1 S2 S3 S4 : Shape) (b : Bool) : Prop := ∀ (n1 n2 n3 n4 : Bool) (a1 d1 a2 d2 a3 d3 a4 d4 : List Nat) (A1 D1 A2 D2 A3 D3 A4 D4 : Option Addr) (c1 e1 c2 e2 c3 e3 c4 e4 : Nat) (w : World), S1 n1 a1 c1 d1 e1 → S2 n2 a2 c2 d2 e2 → S3 n3 a3 c3 d3 e3 → S4 n4 a4 c4 d4 e4 → Rd w (fun g => g < w.heap.size) .u32 A1 a1 → Rd w (fun g => g < w.heap.size) .u32 D1 d1 → Rd w (fun g => g < w.heap.size) .u32 A2 a2 → Rd w (fun g => g < w.heap.size) .u32 D2 d2 → Rd w (fun g => g < w.heap.size) .u32 A3 a3 → Rd w (fun g => g < w.heap.size) .u32 D3 d3 → Rd w (fun g => g < w.heap.size) .u32 A4 a4 → Rd w (fun g => g < w.heap.size) .u32 D4 d4 → Calls Try.prog f #[.agg #[.bool n1, .slice A1 a1.length c1, .slice D1 d1.length e1, .bool n2, .slice A2 a2.length c2, .slice D2 d2.length e2], .agg #[.bool n3, .slice A3 a3.length c3, .slice D3 d3.length e3, .bool n4, .slice A4 a4.length c4, .slice D4 d4.length e4]] w fun e w' => e = .returned (.bool b) ∧ Below w.heap.size w w'
abbrev Si3 (f : FuncId) (S1 S2 S3 S4 S5 S6 : Shape) (z : Int) : Prop := ∀ (n1 n2 n3 n4 n5 n6 : Bool) (a1 d1 a2 d2 a3 d3 a4 d4 a5 d5 a6 d6 : List Nat) (A1 D1 A2 D2 A3 D3 A4 D4 A5 D5 A6 D6 : Option Addr) (c1 e1 c2 e2 c3 e3 c4 e4 c5 e5 c6 e6 : Nat) (w : World), S1 n1 a1 c1 d1 e1 → S2 n2 a2 c2 d2 e2 → S3 n3 a3 c3 d3 e3 → S4 n4 a4 c4 d4 e4 → S5 n5 a5 c5 d5 e5 → S6 n6 a6 c6 d6 e6 → Rd w (fun g => g < w.heap.size) .u32 A1 a1 → Rd w (fun g => g < w.heap.size) .u32 D1 d1 → Rd w (fun g => g < w.heap.size) .u32 A2 a2 → Rd w (fun g => g < w.heap.size) .u32 D2 d2 → Rd w (fun g => g < w.heap.size) .u32 A3 a3 → Rd w (fun g => g < w.heap.size) .u32 D3 d3 → Rd w (fun g => g < w.heap.size) .u32 A4 a4 → Rd w (fun g => g < w.heap.size) .u32 D4 d4 → Rd w (fun g => g < w.heap.size) .u32 A5 a5 → Rd w (fun g => g < w.heap.size) .u32 D5 d5 → Rd w (fun g => g < w.heap.size) .u32 A6 a6 → Rd w (fun g => g < w.heap.size) .u32 D6 d6 → Calls Try.prog f #[.agg #[.bool n1, .slice A1 a1.length c1, .slice D1 d1.length e1, .bool n2, .slice A2 a2.length c2, .slice D2 d2.length e2], .agg #[.bool n3, .slice A3 a3.length c3, .slice D3 d3.length e3, .bool n4, .slice A4 a4.length c4, .slice D4 d4.length e4], .agg #[.bool n5, .slice A5 a5.length c5, .slice D5 d5.length e5, .bool n6, .slice A6 a6.length c6, .slice D6 d6.length e6]] w fun e w' => e = .returned (.int .i64 z) ∧ Below w.heap.size w w'
abbrev Sb3 (f : FuncId) (S1 S2 S3 S4 S5 S6 : Shape) (b : Bool) : Prop := ∀ (n1 n2 n3 n4 n5 n6 : Bool) (a1 d1 a2 d2 a3 d3 a4 d4 a5 d5 a6 d6 : List Nat) (A1 D1 A2 D2 A3 D3 A4 D4 A5 D5 A6 D6 : Option Addr) (c1 e1 c2 e2 c3 e3 c4 e4 c5 e5 c6 e6 : Nat) (w : World), S1 n1 a1 c1 d1 e1 → S2 n2 a2 c2 d2 e2 → S3 n3 a3 c3 d3 e3 → S4 n4 a4 c4 d4 e4 → S5 n5 a5 c5 d5 e5 → S6 n6 a6 c6 d6 e6 → Rd w (fun g => g < w.heap.size) .u32 A1 a1 → Rd w (fun g => g < w.heap.size) .u32 D1 d1 → Rd w (fun g => g < w.heap.size) .u32 A2 a2 → Rd w (fun g => g < w.heap.size) .u32 D2 d2 → Rd w (fun g => g < w.heap.size) .u32 A3 a3 → Rd w (fun g => g < w.heap.size) .u32 D3 d3 → Rd w (fun g => g < w.heap.size) .u32 A4 a4 → Rd w (fun g => g < w.heap.size) .u32 D4 d4 → Rd w (fun g => g < w.heap.size) .u32 A5 a5 → Rd w (fun g => g < w.heap.size) .u32 D5 d5 → Rd w (fun g => g < w.heap.size) .u32 A6 a6 → Rd w (fun g => g < w.heap.size) .u32 D6 d6 → Calls Try.prog f #[.agg #[.bool n1, .slice A1 a1.length c1, .slice D1 d1.length e1, .bool n2, .slice A2 a2.length c2, .slice D2 d2.length e2], .agg #[.bool n3, .slice A3 a3.length c3, .slice D3 d3.length e3, .bool n4, .slice A4 a4.length c4, .slice D4 d4.length e4], .agg #[.bool n5, .slice A5 a5.length c5, .slice D5 d5.length e5, .bool n6, .slice A6 a6.length c6, .slice D6 d6.length e6]] w fun e w' => e = .returned (.bool b) ∧ Below w.heap.size w w'
/-- by the first number, then by the second -/
def lex (x y : Int) : Int := if x = 0 then y else x
theorem quiet_of {W : World} {f : FuncId} {args : Array Value} {v : Value} (h : ∀ V : World, Below W.heap.size W V → Calls Try.prog f args V fun e w' => e = .returned v ∧ Below V.heap.size V w') (d : Nat) (os : Array Obj) : Calls Try.prog f args (grow (redrawn W d) os) fun e w'' => e = .returned v ∧ ∃ p : Regrown, w'' = grow (redrawn W p.d) p.os :=
  Calls.regrown_of (h _ (below_regrown W d os))

end Go.Proofs.Ytbhahddgajkchaa
/- Spots, the program's own: what Turn answers. -/

namespace Go.Proofs.Ytbhahddgajkchaa
open Go.RowKit Num

/-- the number whose sign tells on which side of the way from the first to the second spot the third one is -/
def det (P1 P2 P3 P4 P5 P6 : Int) (Q1 Q2 Q3 Q4 Q5 Q6 : Nat) : Int := (P3 * (Q1 : Int) - P1 * (Q3 : Int)) * (P6 * (Q2 : Int) - P2 * (Q6 : Int)) * (Q4 : Int) * (Q5 : Int) - (P4 * (Q2 : Int) - P2 * (Q4 : Int)) * (P5 * (Q1 : Int) - P1 * (Q5 : Int)) * (Q3 : Int) * (Q6 : Int)
/-- a whole number in a box of its own, at the end of a region -/
theorem oneA {W v : World} {t : TypeId} {X : Option Addr} {x : List Nat} (K : Below W.heap.size W v) (n : Bool) (c : Nat) (r : Rd v (fun g => g < v.heap.size) .u32 X x) : Blk (v.alloc (.cells #[.bool n, .slice X x.length c] t)) v.heap.size t [.bool n, .slice X x.length c] ∧ Rd (v.alloc (.cells #[.bool n, .slice X x.length c] t)) (fun g => g < (v.alloc (.cells #[.bool n, .slice X x.length c] t)).heap.size) .u32 X x ∧ Below W.heap.size W (v.alloc (.cells #[.bool n, .slice X x.length c] t)) :=
  ⟨Blk.new v t [.bool n, .slice X x.length c], r.on (below_new v _), keep_one K _⟩
theorem oneB {W v : World} {g : Nat} {t : TypeId} {X : Option Addr} {x : List Nat} (k : Blk v g t [.bool false, .slice none 0 0]) (hg : W.heap.size ≤ g) (K : Below W.heap.size W v) (n : Bool) (c : Nat) (r : Rd v (fun g => g < v.heap.size) .u32 X x) : Blk ((v.setCell ⟨g, 0, none⟩ (.bool n)).setCell ⟨g, 1, none⟩ (.slice X x.length c)) g t [.bool n, .slice X x.length c] ∧ Rd ((v.setCell ⟨g, 0, none⟩ (.bool n)).setCell ⟨g, 1, none⟩ (.slice X x.length c)) (fun b => b < ((v.setCell ⟨g, 0, none⟩ (.bool n)).setCell ⟨g, 1, none⟩ (.slice X x.length c)).heap.size) .u32 X x ∧ Below W.heap.size W ((v.setCell ⟨g, 0, none⟩ (.bool n)).setCell ⟨g, 1, none⟩ (.slice X x.length c)) :=
  ⟨k.pair _ _, r.far2 k _ _, (K.setCell (p := ⟨g, 0, none⟩) hg _).setCell (p := ⟨g, 1, none⟩) hg _⟩

end Go.Proofs.Ytbhahddgajkchaa
/- Spots, the document's own: what Area answers. -/

namespace Go.Proofs.Ytbhahddgajkchaa
open Go.RowKit Num

/-- a fraction in a box of its own, at the end of a region -/
theorem oneF {W v : World} {t : TypeId} {X Y : Option Addr} {x y : List Nat} (K : Below W.heap.size W v) (n : Bool) (c e : Nat) (r : Rd v (fun g => g < v.heap.size) .u32 X x) (q : Rd v (fun g => g < v.heap.size) .u32 Y y) : Blk (v.alloc (.cells #[.bool n, .slice X x.length c, .slice Y y.length e] t)) v.heap.size t [.bool n, .slice X x.length c, .slice Y y.length e] ∧ (Rd (v.alloc (.cells #[.bool n, .slice X x.length c, .slice Y y.length e] t)) (fun g => g < (v.alloc (.cells #[.bool n, .slice X x.length c, .slice Y y.length e] t)).heap.size) .u32 X x ∧ Rd (v.alloc (.cells #[.bool n, .slice X x.length c, .slice Y y.length e] t)) (fun g => g < (v.alloc (.cells #[.bool n, .slice X x.length c, .slice Y y.length e] t)).heap.size) .u32 Y y) ∧ Below W.heap.size W (v.alloc (.cells #[.bool n, .slice X x.length c, .slice Y y.length e] t)) :=
  ⟨Blk.new v t [.bool n, .slice X x.length c, .slice Y y.length e], ⟨r.on (below_new v _), q.on (below_new v _)⟩, keep_one K _⟩
theorem oneG {W v : World} {g : Nat} {t : TypeId} {X Y : Option Addr} {x y : List Nat} (k : Blk v g t [.bool false, .slice none 0 0, .slice none 0 0]) (hg : W.heap.size ≤ g) (K : Below W.heap.size W v) (n : Bool) (c e : Nat) (r : Rd v (fun g => g < v.heap.size) .u32 X x) (q : Rd v (fun g => g < v.heap.size) .u32 Y y) : Blk (((v.setCell ⟨g, 0, none⟩ (.bool n)).setCell ⟨g, 1, none⟩ (.slice X x.length c)).setCell ⟨g, 2, none⟩ (.slice Y y.length e)) g t [.bool n, .slice X x.length c, .slice Y y.length e] ∧ (Rd (((v.setCell ⟨g, 0, none⟩ (.bool n)).setCell ⟨g, 1, none⟩ (.slice X x.length c)).setCell ⟨g, 2, none⟩ (.slice Y y.length e)) (fun b => b < (((v.setCell ⟨g, 0, none⟩ (.bool n)).setCell ⟨g, 1, none⟩ (.slice X x.length c)).setCell ⟨g, 2, none⟩ (.slice Y y.length e)).heap.size) .u32 X x ∧ Rd (((v.setCell ⟨g, 0, none⟩ (.bool n)).setCell ⟨g, 1, none⟩ (.slice X x.length c)).setCell ⟨g, 2, none⟩ (.slice Y y.length e)) (fun b => b < (((v.setCell ⟨g, 0, none⟩ (.bool n)).setCell ⟨g, 1, none⟩ (.slice X x.length c)).setCell ⟨g, 2, none⟩ (.slice Y y.length e)).heap.size) .u32 Y y) ∧ Below W.heap.size W (((v.setCell ⟨g, 0, none⟩ (.bool n)).setCell ⟨g, 1, none⟩ (.slice X x.length c)).setCell ⟨g, 2, none⟩ (.slice Y y.length e)) :=
  ⟨k.trip _ _ _, ⟨r.trip k _ _ _, q.trip k _ _ _⟩, ((K.setCell (p := ⟨g, 0, none⟩) hg _).setCell (p := ⟨g, 1, none⟩) hg _).setCell (p := ⟨g, 2, none⟩) hg _⟩

end Go.Proofs.Ytbhahddgajkchaa
/- Spots: numbers: the area of three spots, who lies between whom. -/

namespace Go.Proofs.Ytbhahddgajkchaa

theorem sgn_three (x : Int) : sgn x = -1 ∨ sgn x = 0 ∨ sgn x = 1 := by
  unfold sgn
  split
  · exact .inl rfl
  · split
    · exact .inr (.inr rfl)
    · exact .inr (.inl rfl)
theorem sgn_one {x : Int} (h : 0 < x) : sgn x = 1 := by unfold sgn; rw [if_neg (by omega), if_pos h]
theorem sgn_mone {x : Int} (h : x < 0) : sgn x = -1 := by unfold sgn; rw [if_pos h]
theorem sgn_neg_ (x : Int) : sgn (-x) = - sgn x := by
  rcases Int.lt_trichotomy x 0 with hx | hx | hx
  · rw [sgn_mone hx, sgn_one (by omega)]; rfl
  · subst hx; rfl
  · rw [sgn_one hx, sgn_mone (by omega)]
theorem sgn_mul_ (x y : Int) : sgn (x * y) = sgn x * sgn y := by
  rcases Int.lt_trichotomy x 0 with hx | hx | hx <;> rcases Int.lt_trichotomy y 0 with hy | hy | hy
  · rw [sgn_mone hx, sgn_mone hy, sgn_one (Int.mul_pos_of_neg_of_neg hx hy)]; rfl
  · subst hy; rw [Int.mul_zero, show sgn 0 = 0 from rfl, Int.mul_zero]
  · rw [sgn_mone hx, sgn_one hy, sgn_mone (Int.mul_neg_of_neg_of_pos hx hy)]; rfl
  · subst hx; rw [Int.zero_mul, show sgn 0 = 0 from rfl, Int.zero_mul]
  · subst hx; rw [Int.zero_mul, show sgn 0 = 0 from rfl, Int.zero_mul]
  · subst hx; rw [Int.zero_mul, show sgn 0 = 0 from rfl, Int.zero_mul]
  · rw [sgn_one hx, sgn_mone hy, sgn_mone (Int.mul_neg_of_pos_of_neg hx hy)]; rfl
  · subst hy; rw [Int.mul_zero, show sgn 0 = 0 from rfl, Int.mul_zero]
  · rw [sgn_one hx, sgn_one hy, sgn_one (Int.mul_pos hx hy)]; rfl
theorem lex_three {x y : Int} (hx : x = -1 ∨ x = 0 ∨ x = 1) (hy : y = -1 ∨ y = 0 ∨ y = 1) : lex x y = -1 ∨ lex x y = 0 ∨ lex x y = 1 := by
  unfold lex
  split
  · exact hy
  · exact hx
set_option maxHeartbeats 3200000 in
/-- one that lies on the line of two others lies between them just when it does so by both numbers -/
theorem on_signs {ux uy vx vy : Int} (h1 : ux = -1 ∨ ux = 0 ∨ ux = 1) (h2 : uy = -1 ∨ uy = 0 ∨ uy = 1) (h3 : vx = -1 ∨ vx = 0 ∨ vx = 1) (h4 : vy = -1 ∨ vy = 0 ∨ vy = 1) (h : ux * vy = uy * vx) : (0 ≤ lex ux uy * lex vx vy) ↔ (ux * -vx ≤ 0 ∧ uy * -vy ≤ 0) := by
  rcases h1 with rfl | rfl | rfl <;> rcases h2 with rfl | rfl | rfl <;> rcases h3 with rfl | rfl | rfl <;> rcases h4 with rfl | rfl | rfl <;> revert h <;> decide
theorem det_on (P1 P2 P3 P4 P5 P6 : Int) (Q1 Q2 Q3 Q4 Q5 Q6 : Nat) : (P1 * (Q5 : Int) - P5 * (Q1 : Int)) * (P6 * (Q4 : Int) - P4 * (Q6 : Int)) * ((Q2 : Int) * (Q3 : Int)) - (P2 * (Q6 : Int) - P6 * (Q2 : Int)) * (P5 * (Q3 : Int) - P3 * (Q5 : Int)) * ((Q1 : Int) * (Q4 : Int)) = - det P1 P2 P3 P4 P5 P6 Q1 Q2 Q3 Q4 Q5 Q6 := by
  unfold det
  grind
/-- the area's upper part, as the document reckons it -/
def areaN (P1 P2 P3 P4 P5 P6 : Int) (Q1 Q2 Q3 Q4 Q5 Q6 : Nat) : Int :=
  (P1 * (P4 * (Q6 : Int) - P6 * (Q4 : Int)) * ((Q3 * (Q6 * Q2) : Nat) : Int) + P3 * (P6 * (Q2 : Int) - P2 * (Q6 : Int)) * ((Q1 * (Q4 * Q6) : Nat) : Int)) * ((Q5 * (Q2 * Q4) : Nat) : Int) + P5 * (P2 * (Q4 : Int) - P4 * (Q2 : Int)) * ((Q1 * (Q4 * Q6) * (Q3 * (Q6 * Q2)) : Nat) : Int)
theorem area_det (P1 P2 P3 P4 P5 P6 : Int) (Q1 Q2 Q3 Q4 Q5 Q6 : Nat) : areaN P1 P2 P3 P4 P5 P6 Q1 Q2 Q3 Q4 Q5 Q6 = det P1 P2 P3 P4 P5 P6 Q1 Q2 Q3 Q4 Q5 Q6 * ((Q2 : Int) * (Q4 : Int) * (Q6 : Int)) := by
  unfold det areaN
  simp only [Int.natCast_mul]
  grind
theorem area_sgn {P1 P2 P3 P4 P5 P6 : Int} {Q1 Q2 Q3 Q4 Q5 Q6 : Nat} (h2 : 0 < Q2) (h4 : 0 < Q4) (h6 : 0 < Q6) : sgn (areaN P1 P2 P3 P4 P5 P6 Q1 Q2 Q3 Q4 Q5 Q6) = sgn (det P1 P2 P3 P4 P5 P6 Q1 Q2 Q3 Q4 Q5 Q6) := by
  have hp : (0 : Int) < (Q2 : Int) * (Q4 : Int) * (Q6 : Int) := Int.mul_pos (Int.mul_pos (by omega) (by omega)) (by omega)
  exact sgn_cross (y := (Q2 : Int) * (Q4 : Int) * (Q6 : Int)) (Q := 1) hp (by omega) (by rw [Int.mul_one]; exact area_det P1 P2 P3 P4 P5 P6 Q1 Q2 Q3 Q4 Q5 Q6)
/-- what the program asks of On is what the document asks -/
theorem on_same {P1 P2 P3 P4 P5 P6 : Int} {Q1 Q2 Q3 Q4 Q5 Q6 : Nat} (h1 : 0 < Q1) (h2 : 0 < Q2) (h3 : 0 < Q3) (h4 : 0 < Q4) (hd : sgn (det P1 P2 P3 P4 P5 P6 Q1 Q2 Q3 Q4 Q5 Q6) = 0) :
    (0 ≤ lex (sgn (P1 * (Q5 : Int) - P5 * (Q1 : Int))) (sgn (P2 * (Q6 : Int) - P6 * (Q2 : Int))) * lex (sgn (P5 * (Q3 : Int) - P3 * (Q5 : Int))) (sgn (P6 * (Q4 : Int) - P4 * (Q6 : Int)))) ↔
      (sgn (P1 * (Q5 : Int) - P5 * (Q1 : Int)) * sgn (P3 * (Q5 : Int) - P5 * (Q3 : Int)) ≤ 0 ∧ sgn (P2 * (Q6 : Int) - P6 * (Q2 : Int)) * sgn (P4 * (Q6 : Int) - P6 * (Q4 : Int)) ≤ 0) := by
  have e1 : sgn (P3 * (Q5 : Int) - P5 * (Q3 : Int)) = - sgn (P5 * (Q3 : Int) - P3 * (Q5 : Int)) := by rw [← sgn_neg_, Int.neg_sub]
  have e2 : sgn (P4 * (Q6 : Int) - P6 * (Q4 : Int)) = - sgn (P6 * (Q4 : Int) - P4 * (Q6 : Int)) := by rw [← sgn_neg_, Int.neg_sub]
  rw [e1, e2]
  refine on_signs (sgn_three _) (sgn_three _) (sgn_three _) (sgn_three _) ?_
  rw [← sgn_mul_, ← sgn_mul_]
  have h := det_on P1 P2 P3 P4 P5 P6 Q1 Q2 Q3 Q4 Q5 Q6
  rw [sgn_zero.1 hd] at h
  exact sgn_cross (y := (Q1 : Int) * (Q4 : Int)) (Q := (Q2 : Int) * (Q3 : Int)) (Int.mul_pos (by omega) (by omega)) (Int.mul_pos (by omega) (by omega)) (by omega)
end Go.Proofs.Ytbhahddgajkchaa
/- Spots: contracts by what the parts are worth. -/

namespace Go.Proofs.Ytbhahddgajkchaa
open Go.RowKit Num

theorem SI.widen {P : Int} {Q m m' : Nat} (hm : m ≤ m') {n : Bool} {a d : List Nat} {ca cd : Nat} (k : SI P Q m n a ca d cd) : SV P Q m' n a ca d cd := k.toV.wide hm
/-- a result that is not too great -/
theorem Fn2.fit {f : FuncId} {S S' : Shape} {P : Int} {Q m : Nat} (h : Fn2 f S S' (SF P Q)) (hQ : 0 < Q) {i j : Nat} (hP : P.natAbs < 4294967296 ^ i) (hi : i ≤ m) (hm : Q ≤ 4294967296 ^ j) (hj : j < m) : Fn2 f S S' (SV P Q m) :=
  h.imp (fun _ _ _ _ _ k => k) (fun _ _ _ _ _ k => k) fun _ _ _ _ _ k => k.toV hQ (Nat.lt_of_lt_of_le hP (Nat.pow_le_pow_right (by omega) hi)) (lt_of_le_pow hm hj)
theorem Fi2.pre {f : FuncId} {S T S' T' : Shape} {z : Int} (h : Fi2 f S T z) (hs : ∀ n a ca d cd, S' n a ca d cd → S n a ca d cd) (ht : ∀ n a ca d cd, T' n a ca d cd → T n a ca d cd) : Fi2 f S' T' z :=
  fun n n' a d a' d' A D A' D' ca cd ca' cd' w hS hT r q r' q' => h n n' a d a' d' A D A' D' ca cd ca' cd' w (hs _ _ _ _ _ hS) (ht _ _ _ _ _ hT) r q r' q'

/-- is a spot on a way: what both ask -/
def onB (P1 P2 P3 P4 P5 P6 : Int) (Q1 Q2 Q3 Q4 Q5 Q6 : Nat) : Bool := decide (0 ≤ lex (sgn (P1 * (Q5 : Int) - P5 * (Q1 : Int))) (sgn (P2 * (Q6 : Int) - P6 * (Q2 : Int))) * lex (sgn (P5 * (Q3 : Int) - P3 * (Q5 : Int))) (sgn (P6 * (Q4 : Int) - P4 * (Q6 : Int)))) && (sgn (det P1 P2 P3 P4 P5 P6 Q1 Q2 Q3 Q4 Q5 Q6) == 0)
end Go.Proofs.Ytbhahddgajkchaa
