/- Maps of the plane: the program's own within, May, Fits, near. -/
import Derived.Test.YtbhahddgajkchaaZAfW
import Derived.Test.YtbhahddgajkchaaZFgY
import Derived.Deep.RegionHeld3
namespace Go.Proofs.Ytbhahddgajkchaa
open Go.RowKit

def inB (m : Int) (l : List Int) : Bool := l.all fun n => decide (-m ≤ n ∧ n ≤ m)
theorem inB_nil (m : Int) : inB m [] = true := rfl
theorem inB_step {m : Int} {l : List Int} {i : Nat} (hi : i < l.length) (h : inB m (l.take i) = true) (hx : -m ≤ l[i] ∧ l[i] ≤ m) : inB m (l.take (i + 1)) = true := by
  rw [List.take_succ_eq_append_getElem hi]
  unfold inB at *
  rw [List.all_append, h]
  simp [hx]
theorem inB_not {m : Int} {l : List Int} {i : Nat} (hi : i < l.length) (hx : ¬ (-m ≤ l[i] ∧ l[i] ≤ m)) : inB m l = false := by
  unfold inB
  rw [List.all_eq_false]
  exact ⟨l[i], List.getElem_mem hi, by simpa using hx⟩
theorem Box.rd {w : World} {g : Nat} {t : TypeId} {vs : List Value} (h : Box w g t vs) : RdV w w.heap.size (some ⟨g, 0, none⟩) vs := fun _ => ⟨g, 0, rfl, h.lt, fun j hj => by rw [Nat.zero_add]; exact h.cell j (List.getElem?_eq_getElem hj)⟩

set_option maxRecDepth 10000 in
set_option maxHeartbeats 1600000 in
theorem aff_within (m : Int) (hm : 0 ≤ m ∧ m ≤ 4611686018427387904) (A : Option Addr) (c : Nat) (a : List Int) (w : World) (ha : RdV w w.heap.size A (icells a)) (hl : a.length ≤ 4611686018427387904) :
    Calls Try.prog 51 #[.int .i64 m, .slice A a.length c] w fun e w' => e = .returned (.bool (inB m a)) ∧ w = w' := by
  obtain ⟨n, hn⟩ : ∃ n, a.length = n := ⟨_, rfl⟩
  obtain ⟨d, hd⟩ : ∃ d, inB m a = d := ⟨_, rfl⟩
  have HA := Lib.hid hn
  have HD := Lib.hid hd
  rw [hd, hn]
  rw [hn] at hl
  clear hd hn
  obtain ⟨hm1, hm2⟩ := hm
  have hneg : IntKind.i64.wrap (-m) = -m := IntWalk.i64_in _ (by omega)
  go_enter Try.func51, Try.ntmps51
  go_wp2_with fail
  go_loopg [6, 9] n (fun gh nv it wr => ∃ i : Nat, it = .int .i64 (i : Int) ∧ gh + i = n ∧ inB m (a.take i) = true ∧ wr = w)
  case atStart => exact ⟨0, rfl, by omega, rfl, rfl⟩
  case round =>
    obtain ⟨i, rfl, hg, hs, rfl⟩ := hrel
    by_cases hlt : i < n
    · have hlt' : i < a.length := by rw [HA.out]; exact hlt
      obtain ⟨g, o, rfl, _, hc⟩ := ha.num (i := i) hlt'
      have HNX := Lib.hid (inB_step hlt' hs)
      have HNO := Lib.hid (inB_not (m := m) hlt')
      obtain ⟨x, hx⟩ : ∃ x, a[i] = x := ⟨_, rfl⟩
      rw [hx] at hc HNX HNO
      clear hs hx hlt'
      by_cases h1 : x < -m
      · have HX := Lib.hid (HNO.out (by omega))
        clear HNX HNO
        go_wp2_with fail
        go_ret
        exact ⟨by rw [← HD.out, HX.out]; rfl, rfl⟩
      · by_cases h2 : m < x
        · have HX := Lib.hid (HNO.out (by omega))
          clear HNX HNO
          go_wp2_with fail
          go_ret
          exact ⟨by rw [← HD.out, HX.out]; rfl, rfl⟩
        · have HX := Lib.hid (HNX.out (by omega))
          clear HNX HNO
          go_wp2_with fail
          go_roundg (n - (i + 1))
          case measure => omega
          case rel => exact ⟨i + 1, by simp, by omega, HX.out, rfl⟩
    · obtain rfl : i = n := by omega
      have HE := Lib.hid (show d = true by rw [← HD.out]; rw [← HA.out, List.take_length] at hs; exact hs)
      clear hs
      go_wp2_with fail
      go_ret
      exact ⟨by rw [HE.out]; rfl, rfl⟩

end Go.Proofs.Ytbhahddgajkchaa
/- Maps of the plane: the program's own Fits, May. -/

namespace Go.Proofs.Ytbhahddgajkchaa
open Go.RowKit

theorem inB_fit (x y : Int) : inB 8388607 [x, y] = decide (FitP ⟨x, y⟩) := by
  unfold inB FitP
  simp only [List.all_cons, List.all_nil, Bool.and_true]
  by_cases h1 : -8388607 ≤ x ∧ x ≤ 8388607 <;> by_cases h2 : -8388607 ≤ y ∧ y ≤ 8388607 <;> simp [h1, h2]
theorem inB_may (a b c d : Int) : inB 32768 [a, b, c, d] = decide (MayF a ∧ MayF b ∧ MayF c ∧ MayF d) := by
  unfold inB MayF
  simp only [List.all_cons, List.all_nil, Bool.and_true, Bool.decide_and]
theorem may_split (m : Mp) : decide (MayM m) = (inB 32768 [m.a, m.b, m.c, m.d] && inB 8388607 [m.e, m.f]) := by
  rw [inB_may, inB_fit, Bool.eq_iff_iff, Bool.and_eq_true, decide_eq_true_iff, decide_eq_true_iff, decide_eq_true_iff]
  exact ⟨fun ⟨a, b, c, d, e⟩ => ⟨⟨a, b, c, d⟩, e⟩, fun ⟨⟨a, b, c, d⟩, e⟩ => ⟨a, b, c, d, e⟩⟩
theorem aff_two (m x y : Int) (hm : 0 ≤ m ∧ m ≤ 4611686018427387904) (g : Nat) (V : World) (h : Box V g 3 [.int .i64 x, .int .i64 y]) :
    Calls Try.prog 51 #[.int .i64 m, .slice (some ⟨g, 0, none⟩) 2 2] V fun e w' => e = .returned (.bool (inB m [x, y])) ∧ V = w' :=
  aff_within m hm _ 2 [x, y] V h.rd (by simp)
theorem aff_four (m a b c d : Int) (hm : 0 ≤ m ∧ m ≤ 4611686018427387904) (g : Nat) (V : World) (h : Box V g 3 [.int .i64 a, .int .i64 b, .int .i64 c, .int .i64 d]) :
    Calls Try.prog 51 #[.int .i64 m, .slice (some ⟨g, 0, none⟩) 4 4] V fun e w' => e = .returned (.bool (inB m [a, b, c, d])) ∧ V = w' :=
  aff_within m hm _ 4 [a, b, c, d] V h.rd (by simp)

set_option maxRecDepth 10000 in
theorem aff_Fits (p : Pt) (w : World) :
    Calls Try.prog 38 #[ptV p] w fun e w' => e = .returned (.bool (decide (FitP p))) ∧ Below w.heap.size w w' := by
  obtain ⟨x, y⟩ := p
  rw [← inB_fit]
  unfold ptV
  dsimp only
  obtain ⟨W, hW, k, B0⟩ : ∃ W, w.alloc (.cells #[.int .i64 x, .int .i64 y] 23) = W ∧ Box W w.heap.size 23 [.int .i64 x, .int .i64 y] ∧ Below w.heap.size w W := ⟨_, rfl, Box.new w _ [.int .i64 x, .int .i64 y], (Below.refl _ _).alloc (Nat.le_refl _) _⟩
  obtain ⟨⟨p0, p1⟩, -⟩ := Box.pair k
  have HB := Lib.hid (B0.alloc B0.size (.cells #[.int .i64 x, .int .i64 y] 3))
  have HC := Lib.hid (fun g V h => aff_two 8388607 x y (by omega) g V h)
  clear B0 k
  go_enter Try.func38, Try.ntmps38
  go_wp2_with first
    | (go_at_call 51; refine Calls.mono (HC.out _ _ (by first | rw [hW]; exact Box.new _ _ _ | exact Box.new _ _ _)) ?_; rintro e w1 ⟨rfl, rfl⟩)
    | (rw [hW])
  go_ret
  exact ⟨rfl, HB.out⟩

end Go.Proofs.Ytbhahddgajkchaa
/- Maps of the plane: the program's own Apply. -/

namespace Go.Proofs.Ytbhahddgajkchaa
open Go.RowKit

/-- a point's box, written anew -/
theorem Box.stored2 {w : World} {g : Nat} {t : TypeId} {a b : Value} (h : Box w g t [a, b]) (x y : Value) : ∃ U, (w.setCell ⟨g, 0, none⟩ x).setCell ⟨g, 1, none⟩ y = U ∧ Box U g t [x, y] ∧ (U.cell? ⟨g, 0, none⟩ = some x ∧ U.cell? ⟨g, 1, none⟩ = some y) ∧ ∀ B, B ≤ g → Below B w U :=
  ⟨_, rfl, (h.set 0 x).set 1 y, ⟨((h.set 0 x).set 1 y).cell 0 rfl, ((h.set 0 x).set 1 y).cell 1 rfl⟩, fun B hB => ((Below.refl B w).setCell (p := ⟨g, 0, none⟩) hB x).setCell (p := ⟨g, 1, none⟩) hB y⟩
end Go.Proofs.Ytbhahddgajkchaa
