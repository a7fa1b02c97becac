/- Maps of the plane: the document's own Through. -/
import Derived.Test.YtbhahddgajkchaaZAfX
import Derived.Test.YtbhahddgajkchaaZAfW
import Derived.Deep.RegionHeld3
import Derived.Test.YtbhahddgajkchaaZFgY
import Derived.Laws.AppendOwn
import Derived.Laws.OwnMore
namespace Go.Proofs.Ytbhahddgajkchaa
open Go.RowKit

section
variable {W V V' : World} {s g o : Nat} {a b c d e f x y : Value}
/-- the cells that a round reads: an element of the row, and the point's box -/
theorem onMP (hg : g < W.heap.size) (hs : s < W.heap.size) (h : (W.cell? ⟨g, o, none⟩ = some a ∧ W.cell? ⟨g, o + 1, none⟩ = some b ∧ W.cell? ⟨g, o + 2, none⟩ = some c ∧ W.cell? ⟨g, o + 3, none⟩ = some d ∧ W.cell? ⟨g, o + 4, none⟩ = some e ∧ W.cell? ⟨g, o + 5, none⟩ = some f) ∧ W.cell? ⟨s, 0, none⟩ = some x ∧ W.cell? ⟨s, 1, none⟩ = some y) (hb : Below W.heap.size W V) :
    (V.cell? ⟨g, o, none⟩ = some a ∧ V.cell? ⟨g, o + 1, none⟩ = some b ∧ V.cell? ⟨g, o + 2, none⟩ = some c ∧ V.cell? ⟨g, o + 3, none⟩ = some d ∧ V.cell? ⟨g, o + 4, none⟩ = some e ∧ V.cell? ⟨g, o + 5, none⟩ = some f) ∧ V.cell? ⟨s, 0, none⟩ = some x ∧ V.cell? ⟨s, 1, none⟩ = some y := by
  obtain ⟨⟨h1, h2, h3, h4, h5, h6⟩, h7, h8⟩ := h
  exact ⟨⟨(hb.cell (p := ⟨g, o, none⟩) hg).trans h1, (hb.cell (p := ⟨g, o + 1, none⟩) hg).trans h2, (hb.cell (p := ⟨g, o + 2, none⟩) hg).trans h3, (hb.cell (p := ⟨g, o + 3, none⟩) hg).trans h4, (hb.cell (p := ⟨g, o + 4, none⟩) hg).trans h5, (hb.cell (p := ⟨g, o + 5, none⟩) hg).trans h6⟩, (hb.cell (p := ⟨s, 0, none⟩) hs).trans h7, (hb.cell (p := ⟨s, 1, none⟩) hs).trans h8⟩
end
/-- the boxes of the document's Through -/
theorem th_boxes2 (x y : Int) (w : World) : ∃ W, (w.alloc (.cells #[.int .i64 x, .int .i64 y] 23)).alloc (.cells #[.int .i64 0, .int .i64 0] 23) = W ∧
    Box W w.heap.size 23 [.int .i64 x, .int .i64 y] ∧ Box W (w.heap.size + 1) 23 [.int .i64 0, .int .i64 0] ∧ Below w.heap.size w W ∧ w.heap.size + 2 ≤ W.heap.size := by
  refine ⟨_, rfl, (Box.new w _ [.int .i64 x, .int .i64 y]).alloc _, Box.at_new (w.alloc (.cells #[.int .i64 x, .int .i64 y] 23)) _ [.int .i64 0, .int .i64 0] (by simp), ?_, by simp⟩
  exact ((Below.refl _ w).alloc (Nat.le_refl _) _).alloc (by simp) _

end Go.Proofs.Ytbhahddgajkchaa
/- Maps of the plane: the document's own All and Same. -/

namespace Go.Proofs.Ytbhahddgajkchaa
open Go.RowKit

theorem below_grow2 {B k : Nat} {a w w' : World} {e : TypeId} {v : Value} {n : Nat} {xs : List Value} (h : Below B a w) (ho : w.ownsRow B e k v n xs) (hs : B ≤ w.heap.size) (hg : w.grownBy w' v.ownBlock) : Below B a w' :=
  h.grown hg hs (fun q e => (ho.lt q e).1)
theorem own_below {w w' : World} {base k : Nat} {e : TypeId} {v : Value} {n : Nat} {xs : List Value} (h : w.ownsRow base e k v n xs) (hb : Below w.heap.size w w') : w'.ownsRow base e k v n xs := by
  refine ⟨h.1, ?_⟩
  rcases h.2 with hn | ⟨g, cap, cur, rfl, hbg, hg, rest⟩
  · exact .inl hn
  · exact .inr ⟨g, cap, cur, rfl, hbg, (hb.block g (Array.getElem?_eq_some_iff.1 hg).1).trans hg, rest⟩
theorem two_new (w : World) (t : TypeId) (a b : Value) : ∀ j u, [a, b][j]? = some u → (w.alloc (.cells #[a, b] t)).cell? ((⟨w.heap.size, 0, none⟩ : Addr).add j) = some u := by
  intro j u hj
  rw [addr_add, Nat.zero_add]
  exact (Box.new w t [a, b]).cell j hj
theorem info_pt : (Try.prog.info? 23).map (fun i => (i.zero, i.size, i.bytes)) = some (some (.agg #[.int .i64 0, .int .i64 0]), 2, 16) := by kernel_rfl
theorem pt_step {a b : List Pt} {i : Nat} (h : a.take i = b.take i) (ha : i < a.length) (hb : i < b.length) (he : a[i] = b[i]) : a.take (i + 1) = b.take (i + 1) := by
  rw [List.take_succ_eq_append_getElem ha, List.take_succ_eq_append_getElem hb, h, he]
theorem pt_not {a b : List Pt} {i : Nat} (ha : i < a.length) (hb : i < b.length) (he : ¬ a[i] = b[i]) : ¬ a = b := fun e => he (by subst e; rfl)
theorem pt_end {a b : List Pt} {n : Nat} (h : a.take n = b.take n) (ha : a.length = n) (hb : b.length = n) : a = b := by
  rw [List.take_of_length_le (by omega), List.take_of_length_le (by omega)] at h; exact h

set_option maxRecDepth 10000 in
set_option maxHeartbeats 1600000 in
theorem ref10_Same (A B : Option Addr) (c d : Nat) (a b : List Pt) (w : World) (ha : RdV w w.heap.size A (ptRow a)) (hb : RdV w w.heap.size B (ptRow b)) (hl : a.length ≤ 4611686018427387904) :
    Calls Try.prog 23 #[.slice A a.length c, .slice B b.length d] w (TellsIt (a = b) w) := by
  by_cases hab : a.length = b.length
  · obtain ⟨n, hn⟩ : ∃ n, a.length = n := ⟨_, rfl⟩
    have HA := Lib.hid hn
    have HB := Lib.hid (hab.symm.trans hn)
    rw [← hab, hn]
    rw [hn] at hl
    have HR := Lib.hid (And.intro ha hb)
    clear hab hn ha hb
    go_enter Try.func23, Try.ntmps23
    go_wp2_with fail
    go_loopg [5] n (fun gh it wr => ∃ i : Nat, it = .int .i64 (i : Int) ∧ gh + i = n ∧ a.take i = b.take i ∧ Below w.heap.size w wr)
    case atStart => exact ⟨0, rfl, by omega, rfl, Below.refl _ _⟩
    case round =>
      obtain ⟨i, rfl, hg, hs, hB⟩ := hrel
      by_cases hlt : i < n
      · obtain ⟨g, o, rfl, _, e0, e1⟩ := (HR.out.1.below hB).pt (i := i) (by rw [HA.out]; exact hlt)
        obtain ⟨g', o', rfl, _, e0', e1'⟩ := (HR.out.2.below hB).pt (i := i) (by rw [HB.out]; exact hlt)
        have HS := Lib.hid (And.intro hs hB)
        have HNX := Lib.hid (pt_step hs (by rw [HA.out]; exact hlt) (by rw [HB.out]; exact hlt))
        have HNO := Lib.hid (pt_not (a := a) (b := b) (i := i) (by rw [HA.out]; exact hlt) (by rw [HB.out]; exact hlt))
        obtain ⟨x, hx⟩ : ∃ x, a[i]'(by rw [HA.out]; exact hlt) = x := ⟨_, rfl⟩
        obtain ⟨y, hy⟩ : ∃ y, b[i]'(by rw [HB.out]; exact hlt) = y := ⟨_, rfl⟩
        rw [hx] at e0 e1 HNX HNO
        rw [hy] at e0' e1' HNX HNO
        clear hs hB hx hy
        have hil : (i : Int) < (n : Int) := by omega
        obtain ⟨x0, x1⟩ := x
        obtain ⟨y0, y1⟩ := y
        dsimp only at e0 e1 e0' e1'
        by_cases r0 : x0 = y0
        · subst r0
          by_cases r1 : x1 = y1
          · subst r1
            have HX := Lib.hid (HNX.out rfl)
            clear HNX HNO
            go_wp2_with fail
            go_quiet (fail)
            go_wp2_with fail
            go_roundg (n - (i + 1))
            case measure => omega
            case rel => exact ⟨i + 1, by simp, by omega, HX.out, below_figE HS.out.2 nq⟩
          · go_wp2_with fail
            go_quiet (fail)
            go_wp2_with fail
            go_ret
            exact ⟨⟨false, rfl, by simp [HNO.out (fun e => r1 (congrArg Pt.y e))]⟩, below_figE HS.out.2 nq⟩
        · go_wp2_with fail
          go_quiet (fail)
          go_wp2_with fail
          go_ret
          exact ⟨⟨false, rfl, by simp [HNO.out (fun e => r0 (congrArg Pt.x e))]⟩, below_figE HS.out.2 nq⟩
      · obtain rfl : i = n := by omega
        have HE := Lib.hid (And.intro (pt_end hs HA.out HB.out) hB)
        clear hs hB
        go_wp2_with fail
        go_ret
        exact ⟨⟨true, rfl, by simp [HE.out.1]⟩, HE.out.2⟩
  · have HN := Lib.hid (show ¬ a = b from fun e => hab (by rw [e]))
    have hab' : ¬ (a.length : Int) = (b.length : Int) := by omega
    go_enter Try.func23, Try.ntmps23
    go_wp2_with fail
    go_ret
    exact ⟨⟨false, rfl, by simp [HN.out]⟩, Below.refl _ _⟩

end Go.Proofs.Ytbhahddgajkchaa
