/- Curves: what the program's own fit, bend and Pieces answer. -/
import Derived.Test.YtbhahddgajkchaaZBgA
import Derived.Test.YtbhahddgajkchaaZAgZ
import Derived.BigRegion
import Derived.Deep.RegionHeld3
namespace Go.Proofs.Ytbhahddgajkchaa
open Go.RowKit

/-- three boxes of points -/
theorem bx3pt (w : World) (t : TypeId) (x0 y0 x1 y1 x2 y2 : Value) : ∃ W, ((w.alloc (.cells #[x0, y0] t)).alloc (.cells #[x1, y1] t)).alloc (.cells #[x2, y2] t) = W ∧ Box W w.heap.size t [x0, y0] ∧ Box W (w.heap.size + 1) t [x1, y1] ∧ Box W (w.heap.size + 1 + 1) t [x2, y2] ∧ Below w.heap.size w W := by
  refine ⟨_, rfl, ((Box.new w _ [x0, y0]).alloc _).alloc _, (Box.at_new (w.alloc (.cells #[x0, y0] t)) _ [x1, y1] (by simp)).alloc _, Box.at_new ((w.alloc (.cells #[x0, y0] t)).alloc (.cells #[x1, y1] t)) _ [x2, y2] (by simp), ?_⟩
  exact (((Below.refl _ w).alloc (Nat.le_refl _) _).alloc (by simp) _).alloc (by simp; omega) _

/-- .. written -/
theorem st3 {W : World} {t : TypeId} {A B C : Nat} {a0 a1 b0 b1 c0 c1 : Value} (kA : Box W A t [a0, a1]) (kB : Box W B t [b0, b1]) (kC : Box W C t [c0, c1]) (hAB : A ≠ B) (hAC : A ≠ C) (hBC : B ≠ C) (x0 y0 x1 y1 x2 y2 : Value) :
    ∃ V, (((((W.setCell ⟨A, 0, none⟩ x0).setCell ⟨A, 1, none⟩ y0).setCell ⟨B, 0, none⟩ x1).setCell ⟨B, 1, none⟩ y1).setCell ⟨C, 0, none⟩ x2).setCell ⟨C, 1, none⟩ y2 = V ∧ Box V A t [x0, y0] ∧ Box V B t [x1, y1] ∧ Box V C t [x2, y2] ∧ ∀ n, n ≤ A → n ≤ B → n ≤ C → Below n W V := by
  obtain ⟨U, hU, kU, -, bU⟩ := kA.stored2 x0 y0
  have kB' : Box U B t [b0, b1] := by rw [← hU]; exact (kB.far (p := ⟨A, 0, none⟩) (Ne.symm hAB) _).far (p := ⟨A, 1, none⟩) (Ne.symm hAB) _
  have kC' : Box U C t [c0, c1] := by rw [← hU]; exact (kC.far (p := ⟨A, 0, none⟩) (Ne.symm hAC) _).far (p := ⟨A, 1, none⟩) (Ne.symm hAC) _
  obtain ⟨X, hX, kX, -, bX⟩ := kB'.stored2 x1 y1
  have kA' : Box X A t [x0, y0] := by rw [← hX]; exact (kU.far (p := ⟨B, 0, none⟩) hAB _).far (p := ⟨B, 1, none⟩) hAB _
  have kC2 : Box X C t [c0, c1] := by rw [← hX]; exact (kC'.far (p := ⟨B, 0, none⟩) (Ne.symm hBC) _).far (p := ⟨B, 1, none⟩) (Ne.symm hBC) _
  obtain ⟨V, hV, kV, -, bV⟩ := kC2.stored2 x2 y2
  have kA3 : Box V A t [x0, y0] := by rw [← hV]; exact (kA'.far (p := ⟨C, 0, none⟩) hAC _).far (p := ⟨C, 1, none⟩) hAC _
  have kB3 : Box V B t [x1, y1] := by rw [← hV]; exact (kX.far (p := ⟨C, 0, none⟩) hBC _).far (p := ⟨C, 1, none⟩) hBC _
  exact ⟨V, by rw [hU, hX, hV], kA3, kB3, kV, fun n h1 h2 h3 => ((bU n h1).trans (bX n h2)).trans (bV n h3)⟩

end Go.Proofs.Ytbhahddgajkchaa
/- Curves: what the program's own Pieces, near and slices.Clone answer. -/

namespace Go.Proofs.Ytbhahddgajkchaa
open Go.RowKit

/-- v by d, cut towards 0 and mended, is the floor -/
theorem floor_quo {u t : Int} (ht : 0 < t) : (u.tmod t < 0 → u.tdiv t - 1 = u / t) ∧ (¬ u.tmod t < 0 → u.tdiv t = u / t) := by
  have h1 := Int.mul_tdiv_add_tmod u t
  have h2 := Int.tmod_lt_of_pos u ht
  have h3 : -t < u.tmod t := by
    rcases Int.le_total 0 u with h | h
    · have := Int.tmod_nonneg t h; omega
    · have e : (-u).tmod t = -(u.tmod t) := Int.neg_tmod u t
      have := Int.tmod_lt_of_pos (-u) ht
      omega
  generalize u.tmod t = r at *
  generalize u.tdiv t = q at *
  subst h1
  constructor
  · intro h
    rw [show t * q + r = t * (q - 1) + (t + r) by rw [Int.mul_sub]; omega, Int.mul_add_ediv_left _ _ (by omega), Int.ediv_eq_zero_of_lt (by omega) (by omega)]
    omega
  · intro h
    rw [Int.mul_add_ediv_left _ _ (by omega), Int.ediv_eq_zero_of_lt (by omega) (by omega)]
    omega

end Go.Proofs.Ytbhahddgajkchaa
/- Curves: what the program's own slices.Clone answers. -/

namespace Go.Proofs.Ytbhahddgajkchaa
open Go.RowKit

/-- a row of points in a block of its own, and what room there is behind it -/
def Lies (w : World) (g : Nat) (l : List Pt) (R : List Value) : Prop := Box w g 23 (ptRow l ++ R)
theorem Lies.set {w : World} {g : Nat} {l : List Pt} {R : List Value} (h : Lies w g l R) {i : Nat} (hi : i < l.length) (q : Pt) : ∃ U, (w.setCell ⟨g, i * 2, none⟩ (.int .i64 q.x)).setCell ⟨g, i * 2 + 1, none⟩ (.int .i64 q.y) = U ∧ Lies U g (l.set i q) R ∧ ∀ B, B ≤ g → Below B w U := by
  refine ⟨_, rfl, ?_, fun B hB => ((Below.refl B w).setCell (p := ⟨g, i * 2, none⟩) hB _).setCell (p := ⟨g, i * 2 + 1, none⟩) hB _⟩
  have hl := ptRow_length l
  have e : ((ptRow l ++ R).set (i * 2) (.int .i64 q.x)).set (i * 2 + 1) (.int .i64 q.y) = ptRow (l.set i q) ++ R := by
    rw [List.set_append_left _ _ (by omega), List.set_append_left _ _ (by rw [List.length_set]; omega), ptRow_set l i q hi]
  unfold Lies
  rw [← e]
  exact (Box.set h (i * 2) _).set (i * 2 + 1) _
theorem Lies.pt {w : World} {g : Nat} {l : List Pt} {R : List Value} (h : Lies w g l R) {i : Nat} (hi : i < l.length) : (w.cell? ⟨g, i * 2, none⟩ = some (.int .i64 l[i].x) ∧ w.cell? ⟨g, i * 2 + 1, none⟩ = some (.int .i64 l[i].y)) ∧ w.frozen? ⟨g, i * 2, none⟩ = false ∧ w.frozen? ⟨g, i * 2 + 1, none⟩ = false := by
  have hl := ptRow_length l
  refine ⟨⟨Box.cell h _ ?_, Box.cell h _ ?_⟩, Box.frozen h _, Box.frozen h _⟩
  · rw [List.getElem?_append_left (by omega)]; exact flat_get ptCells_length l i hi 0 (by omega)
  · rw [List.getElem?_append_left (by omega)]; exact flat_get ptCells_length l i hi 1 (by omega)
theorem Lies.below {w w' : World} {g : Nat} {l : List Pt} {R : List Value} (h : Lies w g l R) {B : Nat} (hb : Below B w w') (hg : g < B) : Lies w' g l R := Box.below h hb hg
theorem Lies.ofOwn {w : World} {base n : Nat} {v : Value} {l : List Pt} (h : w.ownsRow base 23 2 v n (ptRow l)) (hn : 0 < n) : ∃ g cap R, v = .slice (some ⟨g, 0, none⟩) n cap ∧ n ≤ cap ∧ base ≤ g ∧ Lies w g l R := by
  rcases h.2 with ⟨rfl, rfl⟩ | ⟨g, cap, cur, rfl, hb, hg, hnc, hcm, hcs, htake⟩
  · omega
  · refine ⟨g, cap, cur.toList.drop (n * 2), rfl, hnc, hb, ?_⟩
    unfold Lies Box
    rw [← htake, List.take_append_drop]
    exact hg

set_option maxRecDepth 10000 in
set_option maxHeartbeats 1600000 in
theorem slices_Clone (L : List Pt) (A : Option Addr) (c : Nat) (w : World) (hL : RdV w w.heap.size A (ptRow L)) (hl : L.length ≤ 1073741824) (h0 : 0 < L.length) :
    Calls Try.prog 36 #[.slice A L.length c] w fun e w' => ∃ g cap R, e = .returned (.slice (some ⟨g, 0, none⟩) L.length cap) ∧ L.length ≤ cap ∧ w.heap.size ≤ g ∧ Lies w' g L R ∧ Below w.heap.size w w' := by
  obtain ⟨b, o, rfl, hb, hc⟩ := hL (by rw [ptRow_length]; omega)
  obtain ⟨i0, hi, hz0, hz1, hz2⟩ := info_parts info_pt
  obtain ⟨n, hn⟩ : ∃ n, L.length = n := ⟨_, rfl⟩
  have HC := Lib.hid hc
  have HL := Lib.hid (ptRow_length L)
  rw [hn] at hl h0 ⊢
  have HN := Lib.hid hn
  clear hc hL hn
  have hnil : ∀ W, (binOp .eql 30 (.slice (some ⟨b, o, none⟩) n c) (.slice none 0 0)).run Try.prog W = .ok (.bool false) W := fun W => Lib.run_eql_slice_nil W _ _ _ _ _ _ _ Try.underlying30
  go_enter Try.func36, Try.ntmps36
  have hown : (w.alloc (.cells #[] 23)).ownsRow w.heap.size 23 2 (.slice (some ⟨w.heap.size, 0, none⟩) 0 0) 0 [] := ⟨rfl, .inr ⟨w.heap.size, 0, #[], rfl, Nat.le_refl _, heap_alloc_new w _, Nat.le_refl _, by simp [maxLen], rfl, rfl⟩⟩
  have hB := (Below.refl w.heap.size w).alloc (Nat.le_refl _) (.cells #[] 23)
  have HO := Lib.hid (And.intro hown hB)
  have HR := Lib.hid (show ∀ j u, (ptRow L)[j]? = some u → (w.alloc (.cells #[] 23)).cell? ((⟨b, o, none⟩ : Addr).add j) = some u from by
    intro j u hu
    obtain ⟨h1, rfl⟩ := List.getElem?_eq_some_iff.1 hu
    rw [addr_add]
    exact (hB.cell (p := ⟨b, o + j, none⟩) hb).trans (HC.out j h1))
  have H1 := Lib.hid (show ∀ u ∈ ptRow L, u.oneCell' = true from by
    intro u hu
    obtain ⟨p, -, hp⟩ := List.mem_flatMap.1 hu
    simp only [ptCells, List.mem_cons, List.not_mem_nil, or_false] at hp
    rcases hp with rfl | rfl <;> rfl)
  clear hown hB
  go_wp2_with (at_builtin; refine wpList_append_own _ rfl _ _ 30 rfl w.heap.size 23 i0 (.agg #[.int .i64 0, .int .i64 0]) 2 16 Try.underlying30 hi hz0 hz1 hz2 rfl (by decide) _ 0 _ rfl HO.out.1 ⟨b, o, none⟩ n c (ptRow L) rfl (by rw [HL.out, HN.out]) HR.out H1.out (by simp [maxLen]; omega) (by omega) (by simp) ?_; intro v' w3 hown' hgrow _; replace hown' := Lib.hid hown'; replace hgrow := Lib.hid hgrow)
  have hBs := below_grow2 HO.out.2 HO.out.1 (by simp) hgrow.out
  have ho := hown'.out
  rw [Nat.zero_add, List.nil_append] at ho
  obtain ⟨g, cap, R, rfl, h1, h2, h3⟩ := Lies.ofOwn ho h0
  go_ret
  exact ⟨g, cap, R, rfl, h1, h2, h3, hBs⟩
end Go.Proofs.Ytbhahddgajkchaa
/- Curves: what the program's own along answers. -/

namespace Go.Proofs.Ytbhahddgajkchaa
open Go.RowKit

theorem bx2pt (w : World) (t : TypeId) (x0 y0 x1 y1 : Value) : ∃ W, (w.alloc (.cells #[x0, y0] t)).alloc (.cells #[x1, y1] t) = W ∧ Box W w.heap.size t [x0, y0] ∧ Box W (w.heap.size + 1) t [x1, y1] ∧ Below w.heap.size w W := by
  refine ⟨_, rfl, (Box.new w _ [x0, y0]).alloc _, Box.at_new (w.alloc (.cells #[x0, y0] t)) _ [x1, y1] (by simp), ?_⟩
  exact ((Below.refl _ w).alloc (Nat.le_refl _) _).alloc (by simp) _
theorem st2 {W : World} {t : TypeId} {A B : Nat} {a0 a1 b0 b1 : Value} (kA : Box W A t [a0, a1]) (kB : Box W B t [b0, b1]) (hAB : A ≠ B) (x0 y0 x1 y1 : Value) :
    ∃ V, (((W.setCell ⟨A, 0, none⟩ x0).setCell ⟨A, 1, none⟩ y0).setCell ⟨B, 0, none⟩ x1).setCell ⟨B, 1, none⟩ y1 = V ∧ Box V A t [x0, y0] ∧ Box V B t [x1, y1] ∧ ∀ n, n ≤ A → n ≤ B → Below n W V := by
  obtain ⟨U, hU, kU, -, bU⟩ := kA.stored2 x0 y0
  have kB' : Box U B t [b0, b1] := by rw [← hU]; exact (kB.far (p := ⟨A, 0, none⟩) (Ne.symm hAB) _).far (p := ⟨A, 1, none⟩) (Ne.symm hAB) _
  obtain ⟨X, hX, kX, -, bX⟩ := kB'.stored2 x1 y1
  have kA' : Box X A t [x0, y0] := by rw [← hX]; exact (kU.far (p := ⟨B, 0, none⟩) hAB _).far (p := ⟨B, 1, none⟩) hAB _
  exact ⟨X, by rw [hU, hX], kA', kX, fun n h1 h2 => (bU n h1).trans (bX n h2)⟩
theorem cast_le {L : List Pt} (hF : FitL L) {k n r : Nat} (hk : k ≤ n) (hn : n ≤ 32) (hr : r ≤ 3) {i : Nat} (hi : i < (castP k n r L).length) : (-274877874176 ≤ ((castP k n r L)[i]).x ∧ ((castP k n r L)[i]).x ≤ 274877874176) ∧ (-274877874176 ≤ ((castP k n r L)[i]).y ∧ ((castP k n r L)[i]).y ≤ 274877874176) := cast_bound hF hk hn hr _ (List.getElem_mem hi)
theorem Lies.drew {w : World} {g : Nat} {l : List Pt} {R : List Value} (h : Lies w g l R) : Lies w.drew g l R := h
theorem Lies.lt {w : World} {g : Nat} {l : List Pt} {R : List Value} (h : Lies w g l R) : g < w.heap.size := Box.lt h

end Go.Proofs.Ytbhahddgajkchaa
/- Curves: what the program's own curve, Quad and Cube answer; that a curve bends. -/

namespace Go.Proofs.Ytbhahddgajkchaa
open Go.RowKit

/-- a curve under way: the first i points, the rest as made -/
def under (n : Nat) (l : List Pt) (i : Nat) : List Pt := curveTo n l i ++ List.replicate (n - i) pt0
theorem under_length (n : Nat) (l : List Pt) {i : Nat} (h : i ≤ n) : (under n l i).length = n := by
  simp [under, curveTo_length]; omega
theorem under_step (n : Nat) (l : List Pt) {i : Nat} (hi : i < n) : (under n l i).set i (curveAt (i + 1) n l) = under n l (i + 1) := by
  have hl := curveTo_length n l i
  unfold under
  rw [curveTo_step, List.set_append_right _ _ (by omega), hl, Nat.sub_self]
  obtain ⟨k, hk⟩ : ∃ k, n - i = k + 1 := ⟨n - i - 1, by omega⟩
  rw [hk, List.replicate_succ, List.set_cons_zero, List.append_assoc, show n - (i + 1) = k by omega]
  rfl
theorem under_all (n : Nat) (l : List Pt) : under n l n = curveTo n l n := by simp [under]
/-- what a call hands back: a row of points, and an error -/
def Curved (l : List Pt) (w : World) (e : Ending) (w' : World) : Prop := (∃ q k, e = .returned (.tuple #[.slice q (curveP l).length k, .int .i64 (curveE l)]) ∧ RdV w' w'.heap.size q (ptRow (curveP l))) ∧ Below w.heap.size w w'

end Go.Proofs.Ytbhahddgajkchaa
