/- Maps of the plane: the document's own Near and one: sums of products, exactly, to the nearest whole number. -/
import Derived.Test.YtngnclibeccplaaDoorZOaA
import Derived.Test.YtngnclibeccplaaDoorZOaF
import Derived.Test.YtngnclibeccplaaDoorZOaE
import Derived.Test.YtngnclibeccplaaDoorZWrF
import Derived.Deep.RegionHeld3
import Derived.Test.YtngnclibeccplaaDoorZOaB
import Derived.Laws.AppendOwn
import Derived.Laws.OwnMore
import Derived.RangeFuncBox
import Derived.RangeFuncNested
import Derived.RangeFuncBound
import Derived.RangeFuncCalls
import Derived.RangeFuncLeaves
import Derived.Shelf.Abstract
import Derived.Shelf.RegionOpen
import Derived.WalkKit
import Derived.OwnWalkIn
import Derived.TacticsInMore
import Derived.LoopNIn
import Derived.LoopIn
import Derived.Sort.LoopGhostIn
import Derived.Maps.AppendAt
import Derived.Lib.Hide
import Derived.Test.YtngnclibeccplaaDoorChecked
import Derived.BigRegion
namespace Go.Proofs.YtngnclibeccplaaDoor
open Go.RowKit Num

theorem wv_own {N : Int} {x : List Nat} (h : val 4294967296 x = N.natAbs) : wv (decide (N < 0)) x = N := by
  by_cases hn : N < 0
  · rw [decide_eq_true hn, wv_true, h]; omega
  · rw [decide_eq_false hn, wv_false, h]; omega
theorem low3 {A : Prop} {v w : World} (h : A ∧ Below v.heap.size v w) : Below v.heap.size v w := h.2
theorem keep3w {W V V' : World} {g : Nat} {x y z : Value} (hg : g < W.heap.size) (h : (V.cell? ⟨g, 0, none⟩ = some x ∧ V.cell? ⟨g, 1, none⟩ = some y ∧ V.cell? ⟨g, 2, none⟩ = some z) ∧ Below W.heap.size W V) (hb : Below V.heap.size V V') :
    (V'.cell? ⟨g, 0, none⟩ = some x ∧ V'.cell? ⟨g, 1, none⟩ = some y ∧ V'.cell? ⟨g, 2, none⟩ = some z) ∧ Below W.heap.size W V' := by
  have hs := h.2.size
  have e : ∀ j, V'.cell? ⟨g, j, none⟩ = V.cell? ⟨g, j, none⟩ := fun j => hb.cell (p := ⟨g, j, none⟩) (by show g < _; omega)
  exact ⟨⟨(e 0).trans h.1.1, (e 1).trans h.1.2.1, (e 2).trans h.1.2.2⟩, h.2.trans (hb.mono hs)⟩

end Go.Proofs.YtngnclibeccplaaDoor
/- Maps of the plane: a fraction by 256. -/

namespace Go.Proofs.YtngnclibeccplaaDoor
open Go.RowKit Num

theorem cross256 {u d d' P Q : Int} (h : u * Q = P * d) : u * d' * (Q * 256) = P * (256 * d' * d) := by
  have e : u * d' * (Q * 256) = u * Q * (d' * 256) := by ac_rfl
  rw [e, h]
  ac_rfl
end Go.Proofs.YtngnclibeccplaaDoor
/- Maps of the plane: the document's own one coordinate. -/

namespace Go.Proofs.YtngnclibeccplaaDoor
open Go.RowKit Num

theorem pow32_2 : (4294967296 : Nat) ^ 2 = 18446744073709551616 := by decide
/-- of an int -/
theorem sv_int {n : Int} (h1 : -9223372036854775808 ≤ n) (h2 : n ≤ 9223372036854775807) {n' : Bool} {a d : List Nat} {ca cd : Nat} (k : SF n 1 n' a ca d cd) : SV n 1 2 n' a ca d cd :=
  SF.toV (by omega) (by rw [pow32_2]; omega) (by rw [pow32_2]; omega) k

theorem freshB {V V' : World} {t : TypeId} {x y z : Value} (b : Below (V.alloc (.cells #[x, y, z] t)).heap.size (V.alloc (.cells #[x, y, z] t)) V') : Blk V' V.heap.size t [x, y, z] :=
  (Blk.new V t [x, y, z]).below b (Blk.new V t [x, y, z]).lt
theorem endAf (v : World) (t : TypeId) (n : Bool) {a d : List Nat} {A D : Option Addr} (ca cd : Nat) (r : Rd v (fun g => g < v.heap.size) .u32 A a) (q : Rd v (fun g => g < v.heap.size) .u32 D d) :
    ∃ Z, v.alloc (.cells #[.bool n, .slice A a.length ca, .slice D d.length cd] t) = Z ∧ Z.cell? ⟨v.heap.size, 0, none⟩ = some (.bool n) ∧ Z.cell? ⟨v.heap.size, 1, none⟩ = some (.slice A a.length ca) ∧ Z.cell? ⟨v.heap.size, 2, none⟩ = some (.slice D d.length cd) ∧ Rd Z (fun g => g < Z.heap.size) .u32 A a ∧ Rd Z (fun g => g < Z.heap.size) .u32 D d := by
  have k := Blk.new v t [.bool n, .slice A a.length ca, .slice D d.length cd]
  have b := (Below.refl v.heap.size v).alloc (Nat.le_refl _) (.cells #[.bool n, .slice A a.length ca, .slice D d.length cd] t)
  exact ⟨_, rfl, k.cell 0 rfl, k.cell 1 rfl, k.cell 2 rfl, r.on b, q.on b⟩
theorem endBf {v : World} {g : Nat} {t : TypeId} (k : Blk v g t [.bool false, .slice none 0 0, .slice none 0 0]) (n : Bool) {a d : List Nat} {A D : Option Addr} (ca cd : Nat) (r : Rd v (fun g => g < v.heap.size) .u32 A a) (q : Rd v (fun g => g < v.heap.size) .u32 D d) :
    ∃ Z, ((v.setCell ⟨g, 0, none⟩ (.bool n)).setCell ⟨g, 1, none⟩ (.slice A a.length ca)).setCell ⟨g, 2, none⟩ (.slice D d.length cd) = Z ∧ Z.cell? ⟨g, 0, none⟩ = some (.bool n) ∧ Z.cell? ⟨g, 1, none⟩ = some (.slice A a.length ca) ∧ Z.cell? ⟨g, 2, none⟩ = some (.slice D d.length cd) ∧ Rd Z (fun g => g < Z.heap.size) .u32 A a ∧ Rd Z (fun g => g < Z.heap.size) .u32 D d := by
  obtain ⟨U, hU, u0, u1, u2, -, -, -, -⟩ := k.three (.bool n) (.slice A a.length ca) (.slice D d.length cd)
  exact ⟨U, hU, u0, u1, u2, r.far3 k _ _ _ hU, q.far3 k _ _ _ hU⟩
theorem freshD {V V' : World} {t : TypeId} {x y z : Value} (b : Below (V.alloc (.cells #[x, y, z] t)).drew.heap.size (V.alloc (.cells #[x, y, z] t)).drew V') : Blk V' V.heap.size t [x, y, z] := by
  have k : Blk (V.alloc (.cells #[x, y, z] t)).drew V.heap.size t [x, y, z] := (Blk.new V t [x, y, z]).drewN 1
  exact k.below b k.lt
theorem keep3y {W V : World} {g g' : Nat} {x y z u0 u1 u2 : Value} (hg : g < W.heap.size) (h : (V.cell? ⟨g, 0, none⟩ = some x ∧ V.cell? ⟨g, 1, none⟩ = some y ∧ V.cell? ⟨g, 2, none⟩ = some z) ∧ Below W.heap.size W V) (hp : W.heap.size ≤ g') :
    ((((V.setCell ⟨g', 0, none⟩ u0).setCell ⟨g', 1, none⟩ u1).setCell ⟨g', 2, none⟩ u2).cell? ⟨g, 0, none⟩ = some x ∧ (((V.setCell ⟨g', 0, none⟩ u0).setCell ⟨g', 1, none⟩ u1).setCell ⟨g', 2, none⟩ u2).cell? ⟨g, 1, none⟩ = some y ∧ (((V.setCell ⟨g', 0, none⟩ u0).setCell ⟨g', 1, none⟩ u1).setCell ⟨g', 2, none⟩ u2).cell? ⟨g, 2, none⟩ = some z) ∧ Below W.heap.size W (((V.setCell ⟨g', 0, none⟩ u0).setCell ⟨g', 1, none⟩ u1).setCell ⟨g', 2, none⟩ u2) := by
  have hne : g ≠ g' := by omega
  have e : ∀ j, (((V.setCell ⟨g', 0, none⟩ u0).setCell ⟨g', 1, none⟩ u1).setCell ⟨g', 2, none⟩ u2).cell? ⟨g, j, none⟩ = V.cell? ⟨g, j, none⟩ := fun j => by
    rw [World.cell?_setCell_far _ _ _ _ (by simpa using hne.symm), World.cell?_setCell_far _ _ _ _ (by simpa using hne.symm), World.cell?_setCell_far _ _ _ _ (by simpa using hne.symm)]
  exact ⟨⟨(e 0).trans h.1.1, (e 1).trans h.1.2.1, (e 2).trans h.1.2.2⟩, ((h.2.setCell (p := ⟨g', 0, none⟩) hp u0).setCell (p := ⟨g', 1, none⟩) hp u1).setCell (p := ⟨g', 2, none⟩) hp u2⟩

end Go.Proofs.YtngnclibeccplaaDoor
/- Maps of the plane: the document's own Apply. -/

namespace Go.Proofs.YtngnclibeccplaaDoor
open Go.RowKit

section
variable {W V V' : World} {s : Nat} {a b c d e f x y : Value}
/-- the cells that Apply reads, in each world that its calls leave -/
theorem on8 (hs : s + 1 < W.heap.size) (h : (W.cell? ⟨s, 0, none⟩ = some a ∧ W.cell? ⟨s, 1, none⟩ = some b ∧ W.cell? ⟨s, 2, none⟩ = some c ∧ W.cell? ⟨s, 3, none⟩ = some d ∧ W.cell? ⟨s, 4, none⟩ = some e ∧ W.cell? ⟨s, 5, none⟩ = some f) ∧ W.cell? ⟨s + 1, 0, none⟩ = some x ∧ W.cell? ⟨s + 1, 1, none⟩ = some y) (hb : Below W.heap.size W V) :
    (V.cell? ⟨s, 0, none⟩ = some a ∧ V.cell? ⟨s, 1, none⟩ = some b ∧ V.cell? ⟨s, 2, none⟩ = some c ∧ V.cell? ⟨s, 3, none⟩ = some d ∧ V.cell? ⟨s, 4, none⟩ = some e ∧ V.cell? ⟨s, 5, none⟩ = some f) ∧ V.cell? ⟨s + 1, 0, none⟩ = some x ∧ V.cell? ⟨s + 1, 1, none⟩ = some y := by
  have h0 : s < W.heap.size := by omega
  obtain ⟨⟨h1, h2, h3, h4, h5, h6⟩, h7, h8⟩ := h
  exact ⟨⟨(hb.cell (p := ⟨s, 0, none⟩) h0).trans h1, (hb.cell (p := ⟨s, 1, none⟩) h0).trans h2, (hb.cell (p := ⟨s, 2, none⟩) h0).trans h3, (hb.cell (p := ⟨s, 3, none⟩) h0).trans h4, (hb.cell (p := ⟨s, 4, none⟩) h0).trans h5, (hb.cell (p := ⟨s, 5, none⟩) h0).trans h6⟩, (hb.cell (p := ⟨s + 1, 0, none⟩) hs).trans h7, (hb.cell (p := ⟨s + 1, 1, none⟩) hs).trans h8⟩
theorem below_on {B : Nat} (h : Below B W V) (hB : B ≤ V.heap.size) (b : Below V.heap.size V V') : Below B W V' := h.trans (b.mono hB)
theorem below_on2 {V0 V1 V2 : World} (h : Below W.heap.size W V0) (b : Below V0.heap.size V0 V1) (b' : Below V1.heap.size V1 V2) (o : Obj) : Below W.heap.size W (V2.alloc o) := by
  have h2 := h.trans (b.mono h.size)
  have h3 := h2.trans (b'.mono h2.size)
  exact h3.alloc h3.size o
theorem fresh2 {t : TypeId} {x y : Value} (b : Below (V.alloc (.cells #[x, y] t)).heap.size (V.alloc (.cells #[x, y] t)) V') : Box V' V.heap.size t [x, y] :=
  (Box.new V t [x, y]).below b (Box.new V t [x, y]).lt
theorem fresh2d {t : TypeId} {x y : Value} (b : Below (V.alloc (.cells #[x, y] t)).drew.heap.size (V.alloc (.cells #[x, y] t)).drew V') : Box V' V.heap.size t [x, y] := by
  have k : Box (V.alloc (.cells #[x, y] t)).drew V.heap.size t [x, y] := (Box.new V t [x, y]).drewN 1
  exact k.below b k.lt
/-- what a point's box bears at the end, wherever it was laid -/
theorem endP (v : World) (t : TypeId) (x y : Value) : ∃ Z, v.alloc (.cells #[x, y] t) = Z ∧ Box Z v.heap.size t [x, y] ∧ Below v.heap.size v Z :=
  ⟨_, rfl, Box.new v t [x, y], (Below.refl _ _).alloc (Nat.le_refl _) _⟩
end

end Go.Proofs.YtngnclibeccplaaDoor
/- Maps of the plane: the document's own Through. -/

namespace Go.Proofs.YtngnclibeccplaaDoor
open Go.RowKit

section
variable {W V V' : World} {s g o : Nat} {a b c d e f x y : Value}
/-- the cells that a round reads: an element of the row, and the point's box -/
theorem onMP (hg : g < W.heap.size) (hs : s < W.heap.size) (h : (W.cell? ⟨g, o, none⟩ = some a ∧ W.cell? ⟨g, o + 1, none⟩ = some b ∧ W.cell? ⟨g, o + 2, none⟩ = some c ∧ W.cell? ⟨g, o + 3, none⟩ = some d ∧ W.cell? ⟨g, o + 4, none⟩ = some e ∧ W.cell? ⟨g, o + 5, none⟩ = some f) ∧ W.cell? ⟨s, 0, none⟩ = some x ∧ W.cell? ⟨s, 1, none⟩ = some y) (hb : Below W.heap.size W V) :
    (V.cell? ⟨g, o, none⟩ = some a ∧ V.cell? ⟨g, o + 1, none⟩ = some b ∧ V.cell? ⟨g, o + 2, none⟩ = some c ∧ V.cell? ⟨g, o + 3, none⟩ = some d ∧ V.cell? ⟨g, o + 4, none⟩ = some e ∧ V.cell? ⟨g, o + 5, none⟩ = some f) ∧ V.cell? ⟨s, 0, none⟩ = some x ∧ V.cell? ⟨s, 1, none⟩ = some y := by
  obtain ⟨⟨h1, h2, h3, h4, h5, h6⟩, h7, h8⟩ := h
  exact ⟨⟨(hb.cell (p := ⟨g, o, none⟩) hg).trans h1, (hb.cell (p := ⟨g, o + 1, none⟩) hg).trans h2, (hb.cell (p := ⟨g, o + 2, none⟩) hg).trans h3, (hb.cell (p := ⟨g, o + 3, none⟩) hg).trans h4, (hb.cell (p := ⟨g, o + 4, none⟩) hg).trans h5, (hb.cell (p := ⟨g, o + 5, none⟩) hg).trans h6⟩, (hb.cell (p := ⟨s, 0, none⟩) hs).trans h7, (hb.cell (p := ⟨s, 1, none⟩) hs).trans h8⟩
end
/-- the boxes of the document's Through -/
theorem th_boxes2 (x y : Int) (w : World) : ∃ W, (w.alloc (.cells #[.int .i64 x, .int .i64 y] 34)).alloc (.cells #[.int .i64 0, .int .i64 0] 34) = W ∧
    Box W w.heap.size 34 [.int .i64 x, .int .i64 y] ∧ Box W (w.heap.size + 1) 34 [.int .i64 0, .int .i64 0] ∧ Below w.heap.size w W ∧ w.heap.size + 2 ≤ W.heap.size := by
  refine ⟨_, rfl, (Box.new w _ [.int .i64 x, .int .i64 y]).alloc _, Box.at_new (w.alloc (.cells #[.int .i64 x, .int .i64 y] 34)) _ [.int .i64 0, .int .i64 0] (by simp), ?_, by simp⟩
  exact ((Below.refl _ w).alloc (Nat.le_refl _) _).alloc (by simp) _

end Go.Proofs.YtngnclibeccplaaDoor
/- Maps of the plane: the document's own All and Same. -/

namespace Go.Proofs.YtngnclibeccplaaDoor
open Go.RowKit

theorem below_grow2 {B k : Nat} {a w w' : World} {e : TypeId} {v : Value} {n : Nat} {xs : List Value} (h : Below B a w) (ho : w.ownsRow B e k v n xs) (hs : B ≤ w.heap.size) (hg : w.grownBy w' v.ownBlock) : Below B a w' :=
  h.grown hg hs (fun q e => (ho.lt q e).1)
theorem own_below {w w' : World} {base k : Nat} {e : TypeId} {v : Value} {n : Nat} {xs : List Value} (h : w.ownsRow base e k v n xs) (hb : Below w.heap.size w w') : w'.ownsRow base e k v n xs := by
  refine ⟨h.1, ?_⟩
  rcases h.2 with hn | ⟨g, cap, cur, rfl, hbg, hg, rest⟩
  · exact .inl hn
  · exact .inr ⟨g, cap, cur, rfl, hbg, (hb.block g (Array.getElem?_eq_some_iff.1 hg).1).trans hg, rest⟩
theorem two_new (w : World) (t : TypeId) (a b : Value) : ∀ j u, [a, b][j]? = some u → (w.alloc (.cells #[a, b] t)).cell? ((⟨w.heap.size, 0, none⟩ : Addr).add j) = some u := by
  intro j u hj
  rw [addr_add, Nat.zero_add]
  exact (Box.new w t [a, b]).cell j hj
theorem info_pt : (Tryd.prog.info? 34).map (fun i => (i.zero, i.size, i.bytes)) = some (some (.agg #[.int .i64 0, .int .i64 0]), 2, 16) := by kernel_rfl
theorem pt_step {a b : List Pt} {i : Nat} (h : a.take i = b.take i) (ha : i < a.length) (hb : i < b.length) (he : a[i] = b[i]) : a.take (i + 1) = b.take (i + 1) := by
  rw [List.take_succ_eq_append_getElem ha, List.take_succ_eq_append_getElem hb, h, he]
theorem pt_not {a b : List Pt} {i : Nat} (ha : i < a.length) (hb : i < b.length) (he : ¬ a[i] = b[i]) : ¬ a = b := fun e => he (by subst e; rfl)
theorem pt_end {a b : List Pt} {n : Nat} (h : a.take n = b.take n) (ha : a.length = n) (hb : b.length = n) : a = b := by
  rw [List.take_of_length_le (by omega), List.take_of_length_le (by omega)] at h; exact h

set_option maxRecDepth 10000 in
set_option maxHeartbeats 1600000 in
theorem ref10_Same (A B : Option Addr) (c d : Nat) (a b : List Pt) (w : World) (ha : RdV w w.heap.size A (ptRow a)) (hb : RdV w w.heap.size B (ptRow b)) (hl : a.length ≤ 4611686018427387904) :
    Calls Tryd.prog 13 #[.slice A a.length c, .slice B b.length d] w (TellsIt (a = b) w) := by
  by_cases hab : a.length = b.length
  · obtain ⟨n, hn⟩ : ∃ n, a.length = n := ⟨_, rfl⟩
    have HA := Lib.hid hn
    have HB := Lib.hid (hab.symm.trans hn)
    rw [← hab, hn]
    rw [hn] at hl
    have HR := Lib.hid (And.intro ha hb)
    clear hab hn ha hb
    go_enter Tryd.func13, Tryd.ntmps13
    go_wp2_with fail
    go_loopg [5] n (fun gh it wr => ∃ i : Nat, it = .int .i64 (i : Int) ∧ gh + i = n ∧ a.take i = b.take i ∧ Below w.heap.size w wr)
    case atStart => exact ⟨0, rfl, by omega, rfl, Below.refl _ _⟩
    case round =>
      obtain ⟨i, rfl, hg, hs, hB⟩ := hrel
      by_cases hlt : i < n
      · obtain ⟨g, o, rfl, _, e0, e1⟩ := (HR.out.1.below hB).pt (i := i) (by rw [HA.out]; exact hlt)
        obtain ⟨g', o', rfl, _, e0', e1'⟩ := (HR.out.2.below hB).pt (i := i) (by rw [HB.out]; exact hlt)
        have HS := Lib.hid (And.intro hs hB)
        have HNX := Lib.hid (pt_step hs (by rw [HA.out]; exact hlt) (by rw [HB.out]; exact hlt))
        have HNO := Lib.hid (pt_not (a := a) (b := b) (i := i) (by rw [HA.out]; exact hlt) (by rw [HB.out]; exact hlt))
        obtain ⟨x, hx⟩ : ∃ x, a[i]'(by rw [HA.out]; exact hlt) = x := ⟨_, rfl⟩
        obtain ⟨y, hy⟩ : ∃ y, b[i]'(by rw [HB.out]; exact hlt) = y := ⟨_, rfl⟩
        rw [hx] at e0 e1 HNX HNO
        rw [hy] at e0' e1' HNX HNO
        clear hs hB hx hy
        have hil : (i : Int) < (n : Int) := by omega
        obtain ⟨x0, x1⟩ := x
        obtain ⟨y0, y1⟩ := y
        dsimp only at e0 e1 e0' e1'
        by_cases r0 : x0 = y0
        · subst r0
          by_cases r1 : x1 = y1
          · subst r1
            have HX := Lib.hid (HNX.out rfl)
            clear HNX HNO
            go_wp2_with fail
            go_quiet (fail)
            go_wp2_with fail
            go_roundg (n - (i + 1))
            case measure => omega
            case rel => exact ⟨i + 1, by simp, by omega, HX.out, below_figE HS.out.2 nq⟩
          · go_wp2_with fail
            go_quiet (fail)
            go_wp2_with fail
            go_ret
            exact ⟨⟨false, rfl, by simp [HNO.out (fun e => r1 (congrArg Pt.y e))]⟩, below_figE HS.out.2 nq⟩
        · go_wp2_with fail
          go_quiet (fail)
          go_wp2_with fail
          go_ret
          exact ⟨⟨false, rfl, by simp [HNO.out (fun e => r0 (congrArg Pt.x e))]⟩, below_figE HS.out.2 nq⟩
      · obtain rfl : i = n := by omega
        have HE := Lib.hid (And.intro (pt_end hs HA.out HB.out) hB)
        clear hs hB
        go_wp2_with fail
        go_ret
        exact ⟨⟨true, rfl, by simp [HE.out.1]⟩, HE.out.2⟩
  · have HN := Lib.hid (show ¬ a = b from fun e => hab (by rw [e]))
    have hab' : ¬ (a.length : Int) = (b.length : Int) := by omega
    go_enter Tryd.func13, Tryd.ntmps13
    go_wp2_with fail
    go_ret
    exact ⟨⟨false, rfl, by simp [HN.out]⟩, Below.refl _ _⟩

end Go.Proofs.YtngnclibeccplaaDoor
/- A row of maps gone through backwards: the library's iterator, as this program has it. -/

namespace Go.Proofs.YtngnclibeccplaaDoor
open Go.RowKit Go.Shelf
attribute [local go_sem] Oper.semAt_some

/-- what a round must keep: what lay below n₀, and the box that holds the row -/
def KpB (n₀ Bn : Nat) (W W' : World) : Prop := Below n₀ W W' ∧ W'.heap[Bn]? = W.heap[Bn]?
theorem KpB.trans' {n₀ Bn : Nat} {A B C : World} (h : KpB n₀ Bn A B) (k : KpB n₀ Bn B C) : KpB n₀ Bn A C := ⟨h.1.trans k.1, k.2.trans h.2⟩
theorem KpB.refl' (n₀ Bn : Nat) (W : World) : KpB n₀ Bn W W := ⟨Below.refl _ _, rfl⟩
theorem kpB_put {n₀ Bn : Nat} {w : World} (hn : n₀ ≤ w.heap.size) (hB : Bn < w.heap.size) (W : World) (l : Nat) (o o' : Obj) (hl : w.heap.size ≤ l) (h : W.heap[l]? = some o) (h1 : o.isCells = false) (h2 : o.isWalk = false) : KpB n₀ Bn W (W.putObj l o') :=
  ⟨belowK_b hn W l o o' hl h h1 h2, World.putObj_heap_other (by omega)⟩
theorem below_others {W W' : World} (h : Below W.heap.size W W') : KeepsOthers W W' := ⟨h.size, fun k _ hk _ => (h.block k (Array.getElem?_eq_some_iff.1 hk).1).trans hk⟩
theorem box_own {β : Type} (g : Nat) (t : TypeId) (f : β → List Value) : Own (fun s W => Box W g t (f s)) := fun s X Y row hs hg hrow => by
  unfold Box at *
  refine (hg.block g (Array.getElem?_eq_some_iff.1 hs).1 (fun e => ?_)).trans hs
  obtain ⟨o, ho, hc⟩ := hrow g e.symm
  rw [hs] at ho
  cases ho
  cases hc

end Go.Proofs.YtngnclibeccplaaDoor
/- Maps of the plane: the program's own Through. -/

namespace Go.Proofs.YtngnclibeccplaaDoor
open Go.RowKit Go.Shelf
attribute [local go_sem] Oper.semAt_some

theorem Box.put {W : World} {g D : Nat} {t : TypeId} {vs : List Value} (h : Box W g t vs) (hK : W.heap[D]? = some (.deferred (some []))) (o : Obj) : Box (W.putObj D o) g t vs := by
  unfold Box at *
  refine (World.putObj_heap_other (fun e => ?_)).trans h
  subst e
  rw [h] at hK
  cases hK
theorem newBox2 (v : World) (t : TypeId) (x y : Value) : ∃ Z, v.alloc (.cells #[x, y] t) = Z ∧ Box Z v.heap.size t [x, y] ∧ Below v.heap.size v Z :=
  ⟨_, rfl, Box.new v t [x, y], (Below.refl _ _).alloc (Nat.le_refl _) _⟩
end Go.Proofs.YtngnclibeccplaaDoor
/- Maps of the plane: the program's own All. -/

namespace Go.Proofs.YtngnclibeccplaaDoor
open Go.RowKit

theorem ptRow_set : ∀ (l : List Pt) (i : Nat) (q : Pt), i < l.length → ((ptRow l).set (i * 2) (.int .i64 q.x)).set (i * 2 + 1) (.int .i64 q.y) = ptRow (l.set i q)
  | [], i, _, h => absurd h (by simp)
  | p :: l, 0, q, _ => rfl
  | p :: l, i + 1, q, h => by
    have h1 := ptRow_set l i q (by simp at h; omega)
    rw [show (i + 1) * 2 = i * 2 + 2 by omega]
    show (.int .i64 p.x :: .int .i64 p.y :: ((ptRow l).set (i * 2) (.int .i64 q.x)).set (i * 2 + 1) (.int .i64 q.y) : List Value) = _
    rw [h1]
    rfl
theorem zero_pts : ∀ n : Nat, ptRow (List.replicate n pt0) = List.replicate (n * 2) (.int .i64 0)
  | 0 => rfl
  | n + 1 => by
    rw [List.replicate_succ, show (n + 1) * 2 = 2 + n * 2 by omega, ← List.replicate_append_replicate, ← zero_pts n]
    rfl
theorem made_pts (n : Nat) : madeCells #[(.int .i64 0 : Value), .int .i64 0] (n * 2) = (List.replicate (n * 2) (.int .i64 0)).toArray := by
  apply Array.ext
  · simp [madeCells]
  · intro j h1 h2
    simp only [madeCells, Array.getElem_map, Array.getElem_range, List.getElem_toArray, List.getElem_replicate]
    have : j % 2 < 2 := Nat.mod_lt _ (by omega)
    have hs : (#[(.int .i64 0 : Value), .int .i64 0]).size = 2 := rfl
    rw [hs]
    generalize j % 2 = k at this
    match k, this with
    | 0, _ => rfl
    | 1, _ => rfl
theorem run_make_pts (n : Nat) (hn : n ≤ 17592186044416) (u : World) :
    (Instr.makeSlice 22 (.int .i64 (n : Int)) (.int .i64 (n : Int))).run Tryd.prog u = .ok (.slice (some ⟨u.heap.size, 0, none⟩) n n) (u.alloc (.cells (ptRow (List.replicate n pt0)).toArray 34)) := by
  obtain ⟨i, hi, hz0, hz1, hz2⟩ := info_parts info_pt
  have hb : (i.bytes : Int) * (n : Int) ≤ 281474976710656 := by rw [hz2]; omega
  have h := run_make (P := Tryd.prog) u 22 34 i _ Tryd.underlying22 hi hz0 .i64 .i64 n n (by omega) (Int.le_refl _) hb (by omega)
  rw [Int.toNat_natCast] at h
  rw [h, hz1, zero_pts, ← made_pts]
  rfl
/-- two cells of a row's block, written anew -/
theorem Box.set2 {w : World} {g : Nat} {t : TypeId} {l : List Pt} (h : Box w g t (ptRow l)) {i : Nat} (hi : i < l.length) (q : Pt) : ∃ U, (w.setCell ⟨g, i * 2, none⟩ (.int .i64 q.x)).setCell ⟨g, i * 2 + 1, none⟩ (.int .i64 q.y) = U ∧ Box U g t (ptRow (l.set i q)) ∧ ∀ B, B ≤ g → Below B w U := by
  refine ⟨_, rfl, ?_, fun B hB => ((Below.refl B w).setCell (p := ⟨g, i * 2, none⟩) hB _).setCell (p := ⟨g, i * 2 + 1, none⟩) hB _⟩
  rw [← ptRow_set l i q hi]
  exact (h.set (i * 2) _).set (i * 2 + 1) _
theorem Box.pts {w : World} {g : Nat} {t : TypeId} {l : List Pt} (h : Box w g t (ptRow l)) {i : Nat} (hi : i < l.length) : (w.cell? ⟨g, i * 2, none⟩ = some (.int .i64 l[i].x) ∧ w.cell? ⟨g, i * 2 + 1, none⟩ = some (.int .i64 l[i].y)) ∧ w.frozen? ⟨g, i * 2, none⟩ = false ∧ w.frozen? ⟨g, i * 2 + 1, none⟩ = false :=
  ⟨⟨h.cell _ (flat_get ptCells_length l i hi 0 (by omega)), h.cell _ (flat_get ptCells_length l i hi 1 (by omega))⟩, h.frozen _, h.frozen _⟩

end Go.Proofs.YtngnclibeccplaaDoor
/- Curves: what the program's own fit, bend and Pieces answer. -/

namespace Go.Proofs.YtngnclibeccplaaDoor
open Go.RowKit

/-- three boxes of points -/
theorem bx3pt (w : World) (t : TypeId) (x0 y0 x1 y1 x2 y2 : Value) : ∃ W, ((w.alloc (.cells #[x0, y0] t)).alloc (.cells #[x1, y1] t)).alloc (.cells #[x2, y2] t) = W ∧ Box W w.heap.size t [x0, y0] ∧ Box W (w.heap.size + 1) t [x1, y1] ∧ Box W (w.heap.size + 1 + 1) t [x2, y2] ∧ Below w.heap.size w W := by
  refine ⟨_, rfl, ((Box.new w _ [x0, y0]).alloc _).alloc _, (Box.at_new (w.alloc (.cells #[x0, y0] t)) _ [x1, y1] (by simp)).alloc _, Box.at_new ((w.alloc (.cells #[x0, y0] t)).alloc (.cells #[x1, y1] t)) _ [x2, y2] (by simp), ?_⟩
  exact (((Below.refl _ w).alloc (Nat.le_refl _) _).alloc (by simp) _).alloc (by simp; omega) _

/-- .. written -/
theorem st3 {W : World} {t : TypeId} {A B C : Nat} {a0 a1 b0 b1 c0 c1 : Value} (kA : Box W A t [a0, a1]) (kB : Box W B t [b0, b1]) (kC : Box W C t [c0, c1]) (hAB : A ≠ B) (hAC : A ≠ C) (hBC : B ≠ C) (x0 y0 x1 y1 x2 y2 : Value) :
    ∃ V, (((((W.setCell ⟨A, 0, none⟩ x0).setCell ⟨A, 1, none⟩ y0).setCell ⟨B, 0, none⟩ x1).setCell ⟨B, 1, none⟩ y1).setCell ⟨C, 0, none⟩ x2).setCell ⟨C, 1, none⟩ y2 = V ∧ Box V A t [x0, y0] ∧ Box V B t [x1, y1] ∧ Box V C t [x2, y2] ∧ ∀ n, n ≤ A → n ≤ B → n ≤ C → Below n W V := by
  obtain ⟨U, hU, kU, -, bU⟩ := kA.stored2 x0 y0
  have kB' : Box U B t [b0, b1] := by rw [← hU]; exact (kB.far (p := ⟨A, 0, none⟩) (Ne.symm hAB) _).far (p := ⟨A, 1, none⟩) (Ne.symm hAB) _
  have kC' : Box U C t [c0, c1] := by rw [← hU]; exact (kC.far (p := ⟨A, 0, none⟩) (Ne.symm hAC) _).far (p := ⟨A, 1, none⟩) (Ne.symm hAC) _
  obtain ⟨X, hX, kX, -, bX⟩ := kB'.stored2 x1 y1
  have kA' : Box X A t [x0, y0] := by rw [← hX]; exact (kU.far (p := ⟨B, 0, none⟩) hAB _).far (p := ⟨B, 1, none⟩) hAB _
  have kC2 : Box X C t [c0, c1] := by rw [← hX]; exact (kC'.far (p := ⟨B, 0, none⟩) (Ne.symm hBC) _).far (p := ⟨B, 1, none⟩) (Ne.symm hBC) _
  obtain ⟨V, hV, kV, -, bV⟩ := kC2.stored2 x2 y2
  have kA3 : Box V A t [x0, y0] := by rw [← hV]; exact (kA'.far (p := ⟨C, 0, none⟩) hAC _).far (p := ⟨C, 1, none⟩) hAC _
  have kB3 : Box V B t [x1, y1] := by rw [← hV]; exact (kX.far (p := ⟨C, 0, none⟩) hBC _).far (p := ⟨C, 1, none⟩) hBC _
  exact ⟨V, by rw [hU, hX, hV], kA3, kB3, kV, fun n h1 h2 h3 => ((bU n h1).trans (bX n h2)).trans (bV n h3)⟩

end Go.Proofs.YtngnclibeccplaaDoor
/- Curves: what the program's own Pieces, near and slices.Clone answer. -/

namespace Go.Proofs.YtngnclibeccplaaDoor
open Go.RowKit

/-- v by d, cut towards 0 and mended, is the floor -/
theorem floor_quo {u t : Int} (ht : 0 < t) : (u.tmod t < 0 → u.tdiv t - 1 = u / t) ∧ (¬ u.tmod t < 0 → u.tdiv t = u / t) := by
  have h1 := Int.mul_tdiv_add_tmod u t
  have h2 := Int.tmod_lt_of_pos u ht
  have h3 : -t < u.tmod t := by
    rcases Int.le_total 0 u with h | h
    · have := Int.tmod_nonneg t h; omega
    · have e : (-u).tmod t = -(u.tmod t) := Int.neg_tmod u t
      have := Int.tmod_lt_of_pos (-u) ht
      omega
  generalize u.tmod t = r at *
  generalize u.tdiv t = q at *
  subst h1
  constructor
  · intro h
    rw [show t * q + r = t * (q - 1) + (t + r) by rw [Int.mul_sub]; omega, Int.mul_add_ediv_left _ _ (by omega), Int.ediv_eq_zero_of_lt (by omega) (by omega)]
    omega
  · intro h
    rw [Int.mul_add_ediv_left _ _ (by omega), Int.ediv_eq_zero_of_lt (by omega) (by omega)]
    omega

end Go.Proofs.YtngnclibeccplaaDoor
/- Curves: what the program's own slices.Clone answers. -/

namespace Go.Proofs.YtngnclibeccplaaDoor
open Go.RowKit

/-- a row of points in a block of its own, and what room there is behind it -/
def Lies (w : World) (g : Nat) (l : List Pt) (R : List Value) : Prop := Box w g 34 (ptRow l ++ R)
theorem Lies.set {w : World} {g : Nat} {l : List Pt} {R : List Value} (h : Lies w g l R) {i : Nat} (hi : i < l.length) (q : Pt) : ∃ U, (w.setCell ⟨g, i * 2, none⟩ (.int .i64 q.x)).setCell ⟨g, i * 2 + 1, none⟩ (.int .i64 q.y) = U ∧ Lies U g (l.set i q) R ∧ ∀ B, B ≤ g → Below B w U := by
  refine ⟨_, rfl, ?_, fun B hB => ((Below.refl B w).setCell (p := ⟨g, i * 2, none⟩) hB _).setCell (p := ⟨g, i * 2 + 1, none⟩) hB _⟩
  have hl := ptRow_length l
  have e : ((ptRow l ++ R).set (i * 2) (.int .i64 q.x)).set (i * 2 + 1) (.int .i64 q.y) = ptRow (l.set i q) ++ R := by
    rw [List.set_append_left _ _ (by omega), List.set_append_left _ _ (by rw [List.length_set]; omega), ptRow_set l i q hi]
  unfold Lies
  rw [← e]
  exact (Box.set h (i * 2) _).set (i * 2 + 1) _
theorem Lies.pt {w : World} {g : Nat} {l : List Pt} {R : List Value} (h : Lies w g l R) {i : Nat} (hi : i < l.length) : (w.cell? ⟨g, i * 2, none⟩ = some (.int .i64 l[i].x) ∧ w.cell? ⟨g, i * 2 + 1, none⟩ = some (.int .i64 l[i].y)) ∧ w.frozen? ⟨g, i * 2, none⟩ = false ∧ w.frozen? ⟨g, i * 2 + 1, none⟩ = false := by
  have hl := ptRow_length l
  refine ⟨⟨Box.cell h _ ?_, Box.cell h _ ?_⟩, Box.frozen h _, Box.frozen h _⟩
  · rw [List.getElem?_append_left (by omega)]; exact flat_get ptCells_length l i hi 0 (by omega)
  · rw [List.getElem?_append_left (by omega)]; exact flat_get ptCells_length l i hi 1 (by omega)
theorem Lies.below {w w' : World} {g : Nat} {l : List Pt} {R : List Value} (h : Lies w g l R) {B : Nat} (hb : Below B w w') (hg : g < B) : Lies w' g l R := Box.below h hb hg
theorem Lies.ofOwn {w : World} {base n : Nat} {v : Value} {l : List Pt} (h : w.ownsRow base 34 2 v n (ptRow l)) (hn : 0 < n) : ∃ g cap R, v = .slice (some ⟨g, 0, none⟩) n cap ∧ n ≤ cap ∧ base ≤ g ∧ Lies w g l R := by
  rcases h.2 with ⟨rfl, rfl⟩ | ⟨g, cap, cur, rfl, hb, hg, hnc, hcm, hcs, htake⟩
  · omega
  · refine ⟨g, cap, cur.toList.drop (n * 2), rfl, hnc, hb, ?_⟩
    unfold Lies Box
    rw [← htake, List.take_append_drop]
    exact hg

set_option maxRecDepth 10000 in
set_option maxHeartbeats 1600000 in
theorem slices_Clone (L : List Pt) (A : Option Addr) (c : Nat) (w : World) (hL : RdV w w.heap.size A (ptRow L)) (hl : L.length ≤ 1073741824) (h0 : 0 < L.length) :
    Calls Tryd.prog 24 #[.slice A L.length c] w fun e w' => ∃ g cap R, e = .returned (.slice (some ⟨g, 0, none⟩) L.length cap) ∧ L.length ≤ cap ∧ w.heap.size ≤ g ∧ Lies w' g L R ∧ Below w.heap.size w w' := by
  obtain ⟨b, o, rfl, hb, hc⟩ := hL (by rw [ptRow_length]; omega)
  obtain ⟨i0, hi, hz0, hz1, hz2⟩ := info_parts info_pt
  obtain ⟨n, hn⟩ : ∃ n, L.length = n := ⟨_, rfl⟩
  have HC := Lib.hid hc
  have HL := Lib.hid (ptRow_length L)
  rw [hn] at hl h0 ⊢
  have HN := Lib.hid hn
  clear hc hL hn
  have hnil : ∀ W, (binOp .eql 22 (.slice (some ⟨b, o, none⟩) n c) (.slice none 0 0)).run Tryd.prog W = .ok (.bool false) W := fun W => Lib.run_eql_slice_nil W _ _ _ _ _ _ _ Tryd.underlying22
  go_enter Tryd.func24, Tryd.ntmps24
  have hown : (w.alloc (.cells #[] 34)).ownsRow w.heap.size 34 2 (.slice (some ⟨w.heap.size, 0, none⟩) 0 0) 0 [] := ⟨rfl, .inr ⟨w.heap.size, 0, #[], rfl, Nat.le_refl _, heap_alloc_new w _, Nat.le_refl _, by simp [maxLen], rfl, rfl⟩⟩
  have hB := (Below.refl w.heap.size w).alloc (Nat.le_refl _) (.cells #[] 34)
  have HO := Lib.hid (And.intro hown hB)
  have HR := Lib.hid (show ∀ j u, (ptRow L)[j]? = some u → (w.alloc (.cells #[] 34)).cell? ((⟨b, o, none⟩ : Addr).add j) = some u from by
    intro j u hu
    obtain ⟨h1, rfl⟩ := List.getElem?_eq_some_iff.1 hu
    rw [addr_add]
    exact (hB.cell (p := ⟨b, o + j, none⟩) hb).trans (HC.out j h1))
  have H1 := Lib.hid (show ∀ u ∈ ptRow L, u.oneCell' = true from by
    intro u hu
    obtain ⟨p, -, hp⟩ := List.mem_flatMap.1 hu
    simp only [ptCells, List.mem_cons, List.not_mem_nil, or_false] at hp
    rcases hp with rfl | rfl <;> rfl)
  clear hown hB
  go_wp2_with (at_builtin; refine wpList_append_own _ rfl _ _ 22 rfl w.heap.size 34 i0 (.agg #[.int .i64 0, .int .i64 0]) 2 16 Tryd.underlying22 hi hz0 hz1 hz2 rfl (by decide) _ 0 _ rfl HO.out.1 ⟨b, o, none⟩ n c (ptRow L) rfl (by rw [HL.out, HN.out]) HR.out H1.out (by simp [maxLen]; omega) (by omega) (by simp) ?_; intro v' w3 hown' hgrow _; replace hown' := Lib.hid hown'; replace hgrow := Lib.hid hgrow)
  have hBs := below_grow2 HO.out.2 HO.out.1 (by simp) hgrow.out
  have ho := hown'.out
  rw [Nat.zero_add, List.nil_append] at ho
  obtain ⟨g, cap, R, rfl, h1, h2, h3⟩ := Lies.ofOwn ho h0
  go_ret
  exact ⟨g, cap, R, rfl, h1, h2, h3, hBs⟩
end Go.Proofs.YtngnclibeccplaaDoor
/- Curves: what the program's own along answers. -/

namespace Go.Proofs.YtngnclibeccplaaDoor
open Go.RowKit

theorem bx2pt (w : World) (t : TypeId) (x0 y0 x1 y1 : Value) : ∃ W, (w.alloc (.cells #[x0, y0] t)).alloc (.cells #[x1, y1] t) = W ∧ Box W w.heap.size t [x0, y0] ∧ Box W (w.heap.size + 1) t [x1, y1] ∧ Below w.heap.size w W := by
  refine ⟨_, rfl, (Box.new w _ [x0, y0]).alloc _, Box.at_new (w.alloc (.cells #[x0, y0] t)) _ [x1, y1] (by simp), ?_⟩
  exact ((Below.refl _ w).alloc (Nat.le_refl _) _).alloc (by simp) _
theorem st2 {W : World} {t : TypeId} {A B : Nat} {a0 a1 b0 b1 : Value} (kA : Box W A t [a0, a1]) (kB : Box W B t [b0, b1]) (hAB : A ≠ B) (x0 y0 x1 y1 : Value) :
    ∃ V, (((W.setCell ⟨A, 0, none⟩ x0).setCell ⟨A, 1, none⟩ y0).setCell ⟨B, 0, none⟩ x1).setCell ⟨B, 1, none⟩ y1 = V ∧ Box V A t [x0, y0] ∧ Box V B t [x1, y1] ∧ ∀ n, n ≤ A → n ≤ B → Below n W V := by
  obtain ⟨U, hU, kU, -, bU⟩ := kA.stored2 x0 y0
  have kB' : Box U B t [b0, b1] := by rw [← hU]; exact (kB.far (p := ⟨A, 0, none⟩) (Ne.symm hAB) _).far (p := ⟨A, 1, none⟩) (Ne.symm hAB) _
  obtain ⟨X, hX, kX, -, bX⟩ := kB'.stored2 x1 y1
  have kA' : Box X A t [x0, y0] := by rw [← hX]; exact (kU.far (p := ⟨B, 0, none⟩) hAB _).far (p := ⟨B, 1, none⟩) hAB _
  exact ⟨X, by rw [hU, hX], kA', kX, fun n h1 h2 => (bU n h1).trans (bX n h2)⟩
theorem cast_le {L : List Pt} (hF : FitL L) {k n r : Nat} (hk : k ≤ n) (hn : n ≤ 32) (hr : r ≤ 3) {i : Nat} (hi : i < (castP k n r L).length) : (-274877874176 ≤ ((castP k n r L)[i]).x ∧ ((castP k n r L)[i]).x ≤ 274877874176) ∧ (-274877874176 ≤ ((castP k n r L)[i]).y ∧ ((castP k n r L)[i]).y ≤ 274877874176) := cast_bound hF hk hn hr _ (List.getElem_mem hi)
theorem Lies.drew {w : World} {g : Nat} {l : List Pt} {R : List Value} (h : Lies w g l R) : Lies w.drew g l R := h
theorem Lies.lt {w : World} {g : Nat} {l : List Pt} {R : List Value} (h : Lies w g l R) : g < w.heap.size := Box.lt h

end Go.Proofs.YtngnclibeccplaaDoor
/- Curves: what the program's own curve, Quad and Cube answer; that a curve bends. -/

namespace Go.Proofs.YtngnclibeccplaaDoor
open Go.RowKit

/-- a curve under way: the first i points, the rest as made -/
def under (n : Nat) (l : List Pt) (i : Nat) : List Pt := curveTo n l i ++ List.replicate (n - i) pt0
theorem under_length (n : Nat) (l : List Pt) {i : Nat} (h : i ≤ n) : (under n l i).length = n := by
  simp [under, curveTo_length]; omega
theorem under_step (n : Nat) (l : List Pt) {i : Nat} (hi : i < n) : (under n l i).set i (curveAt (i + 1) n l) = under n l (i + 1) := by
  have hl := curveTo_length n l i
  unfold under
  rw [curveTo_step, List.set_append_right _ _ (by omega), hl, Nat.sub_self]
  obtain ⟨k, hk⟩ : ∃ k, n - i = k + 1 := ⟨n - i - 1, by omega⟩
  rw [hk, List.replicate_succ, List.set_cons_zero, List.append_assoc, show n - (i + 1) = k by omega]
  rfl
theorem under_all (n : Nat) (l : List Pt) : under n l n = curveTo n l n := by simp [under]
/-- what a call hands back: a row of points, and an error -/
def Curved (l : List Pt) (w : World) (e : Ending) (w' : World) : Prop := (∃ q k, e = .returned (.tuple #[.slice q (curveP l).length k, .int .i64 (curveE l)]) ∧ RdV w' w'.heap.size q (ptRow (curveP l))) ∧ Below w.heap.size w w'

end Go.Proofs.YtngnclibeccplaaDoor
/- Curves: what the program's own Quad and Cube answer; that a curve bends. -/

namespace Go.Proofs.YtngnclibeccplaaDoor
open Go.RowKit

/-- three points, handed in one by one -/
theorem q_boxes (w : World) (a b c : Pt) : ∃ W, ((w.alloc (.cells #[.int .i64 a.x, .int .i64 a.y] 34)).alloc (.cells #[.int .i64 b.x, .int .i64 b.y] 34)).alloc (.cells #[.int .i64 c.x, .int .i64 c.y] 34) = W ∧
    (W.cell? ⟨w.heap.size, 0, none⟩ = some (.int .i64 a.x) ∧ W.cell? ⟨w.heap.size, 1, none⟩ = some (.int .i64 a.y)) ∧ (W.cell? ⟨w.heap.size + 1, 0, none⟩ = some (.int .i64 b.x) ∧ W.cell? ⟨w.heap.size + 1, 1, none⟩ = some (.int .i64 b.y)) ∧ (W.cell? ⟨w.heap.size + 1 + 1, 0, none⟩ = some (.int .i64 c.x) ∧ W.cell? ⟨w.heap.size + 1 + 1, 1, none⟩ = some (.int .i64 c.y)) ∧ Below w.heap.size w W := by
  obtain ⟨W, hW, k1, k2, k3, b⟩ := bx3pt w 34 (.int .i64 a.x) (.int .i64 a.y) (.int .i64 b.x) (.int .i64 b.y) (.int .i64 c.x) (.int .i64 c.y)
  exact ⟨W, hW, (Box.pair k1).1, (Box.pair k2).1, (Box.pair k3).1, b⟩
theorem c_boxes (w : World) (a b c d : Pt) : ∃ W, (((w.alloc (.cells #[.int .i64 a.x, .int .i64 a.y] 34)).alloc (.cells #[.int .i64 b.x, .int .i64 b.y] 34)).alloc (.cells #[.int .i64 c.x, .int .i64 c.y] 34)).alloc (.cells #[.int .i64 d.x, .int .i64 d.y] 34) = W ∧
    (W.cell? ⟨w.heap.size, 0, none⟩ = some (.int .i64 a.x) ∧ W.cell? ⟨w.heap.size, 1, none⟩ = some (.int .i64 a.y)) ∧ (W.cell? ⟨w.heap.size + 1, 0, none⟩ = some (.int .i64 b.x) ∧ W.cell? ⟨w.heap.size + 1, 1, none⟩ = some (.int .i64 b.y)) ∧ (W.cell? ⟨w.heap.size + 1 + 1, 0, none⟩ = some (.int .i64 c.x) ∧ W.cell? ⟨w.heap.size + 1 + 1, 1, none⟩ = some (.int .i64 c.y)) ∧ (W.cell? ⟨w.heap.size + 1 + 1 + 1, 0, none⟩ = some (.int .i64 d.x) ∧ W.cell? ⟨w.heap.size + 1 + 1 + 1, 1, none⟩ = some (.int .i64 d.y)) ∧ Below w.heap.size w W := by
  obtain ⟨V, hV, k1, k2, k3, b⟩ := bx3pt w 34 (.int .i64 a.x) (.int .i64 a.y) (.int .i64 b.x) (.int .i64 b.y) (.int .i64 c.x) (.int .i64 c.y)
  have hs : V.heap.size = w.heap.size + 1 + 1 + 1 := by rw [← hV]; simp
  rw [hV]
  have k4 := Box.new V 34 [.int .i64 d.x, .int .i64 d.y]
  rw [hs] at k4
  exact ⟨_, rfl, (Box.pair (k1.alloc _)).1, (Box.pair (k2.alloc _)).1, (Box.pair (k3.alloc _)).1, (Box.pair k4).1, b.alloc b.size _⟩

end Go.Proofs.YtngnclibeccplaaDoor
