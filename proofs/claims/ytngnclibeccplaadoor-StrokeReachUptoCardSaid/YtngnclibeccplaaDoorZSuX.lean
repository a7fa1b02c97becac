/- Lines as areas, the program's own: the table of sixteen, within, half, plus, less, fit, May. -/
import Derived.Test.YtngnclibeccplaaDoorZStM
import Derived.Test.YtngnclibeccplaaDoorZDuV
import Derived.Test.YtngnclibeccplaaDoorZGaW
import Derived.Lib.LaidTab
import Derived.BigQuiet
import Derived.Test.YtngnclibeccplaaDoorZOaG
import Derived.Deep.RegionHeld3
namespace Go.Proofs.YtngnclibeccplaaDoor
open Go.RowKit Num

/-- the sixteen, as the program's text lays them -/
def sxCells : Array Value := (cosL.map fun z => Value.int .i64 z).toArray
def Sxt (w : World) : Prop := Lib.TabIs Tryd.prog w "frisket/stroke.sixteen" .i64 cosL
theorem sxt_named : Tryd.prog.globalNamed "frisket/stroke.sixteen" = some 0 := by kernel_rfl
theorem sxt_row {w : World} (h : Sxt w) : ∃ t fr, w.heap[0]? = some (.cells sxCells t fr) := by
  unfold Sxt Lib.TabIs World.var? at h
  rw [sxt_named] at h
  simp only [Option.bind_some] at h
  split at h
  · rename_i cs t fr hc
    exact ⟨t, fr, by rw [hc, Option.some.inj h]; rfl⟩
  · cases h
theorem sxt_lt {w : World} (h : Sxt w) : 0 < w.heap.size := by
  obtain ⟨t, fr, h⟩ := sxt_row h
  exact (Array.getElem?_eq_some_iff.1 h).1
theorem Sxt.on {w w' : World} (h : Sxt w) (hb : Below w.heap.size w w') : Sxt w' := Lib.tabBelow_of_tabIs h w' hb
theorem sxCells_at : ∀ i, i < 16 → sxCells[i]? = some (.int .i64 (cosL.getD i 0)) := fun i hi => by
  have h : i = 0 ∨ i = 1 ∨ i = 2 ∨ i = 3 ∨ i = 4 ∨ i = 5 ∨ i = 6 ∨ i = 7 ∨ i = 8 ∨ i = 9 ∨ i = 10 ∨ i = 11 ∨ i = 12 ∨ i = 13 ∨ i = 14 ∨ i = 15 := by omega
  rcases h with rfl | rfl | rfl | rfl | rfl | rfl | rfl | rfl | rfl | rfl | rfl | rfl | rfl | rfl | rfl | rfl <;> rfl
theorem sxt_cell {w : World} (h : Sxt w) {i : Nat} (hi : i < 16) : w.cell? ⟨0, i, none⟩ = some (.int .i64 (cosL.getD i 0)) := by
  obtain ⟨t, fr, h⟩ := sxt_row h
  rw [cell_of_row w _ i _ t fr h]
  exact sxCells_at i hi
theorem sin_cos : ∀ i, i < 16 → cosL.getD ((i + 12) % 16) 0 = sinL.getD i 0 := fun i hi => by
  have h : ∀ j : Fin 16, cosL.getD ((j.1 + 12) % 16) 0 = sinL.getD j.1 0 := by decide
  exact h ⟨i, hi⟩
/-- what answers a row of points of its own -/
def PtsTo (l : List Pt) (w : World) (e : Ending) (w' : World) : Prop :=
  (∃ q k, e = .returned (.slice q l.length k) ∧ l.length ≤ k ∧ RdV w' w'.heap.size q (ptRow l)) ∧ Below w.heap.size w w'

set_option maxRecDepth 10000 in
set_option maxHeartbeats 1600000 in
theorem stroke_within (n a b : Int) (w : World) :
    Calls Tryd.prog 15 #[.int .i64 n, .int .i64 a, .int .i64 b] w fun e w' => e = .returned (.bool (decide (a ≤ n ∧ n ≤ b))) ∧ w = w' := by
  by_cases h1 : a ≤ n
  · by_cases h2 : n ≤ b
    · rw [decide_eq_true ⟨h1, h2⟩]
      go_enter Tryd.func15, Tryd.ntmps15
      go_wp2_with fail
      go_ret
      exact ⟨rfl, rfl⟩
    · rw [decide_eq_false (fun k => h2 k.2)]
      go_enter Tryd.func15, Tryd.ntmps15
      go_wp2_with fail
      go_ret
      exact ⟨rfl, rfl⟩
  · rw [decide_eq_false (fun k => h1 k.1)]
    go_enter Tryd.func15, Tryd.ntmps15
    go_wp2_with fail
    go_ret
    exact ⟨rfl, rfl⟩

/-- a pen's box -/
theorem pen_box (w : World) (a b c d e f : Value) (t : TypeId) : ∃ W, w.alloc (.cells #[a, b, c, d, e, f] t) = W ∧ Box W w.heap.size t [a, b, c, d, e, f] ∧ Below w.heap.size w W :=
  ⟨_, rfl, Box.new w t [a, b, c, d, e, f], below_new w _⟩

set_option maxRecDepth 10000 in
set_option maxHeartbeats 1600000 in
theorem stroke_half (P : Pn) (B : Option Addr) (d : Nat) (w : World) (hw : In64 P.w) :
    Calls Tryd.prog 20 #[penV P B d] w fun e w' => e = .returned (.int .i64 (P.w.tdiv 2)) ∧ Below w.heap.size w w' := by
  obtain ⟨W, hW, kP, bW⟩ := pen_box w (.int .i64 P.w) (.int .i64 P.cap) (.int .i64 P.join) (.int .i64 P.lim) (.slice B P.dash.length d) (.int .i64 P.phase) 27
  obtain ⟨q0, q1, q2, q3, q4, q5⟩ := Box.six kP
  have HB := Lib.hid bW
  have w1 : IntKind.i64.wrap (P.w.tdiv 2) = P.w.tdiv 2 := IntWalk.i64_in _ (by
    unfold In64 at hw
    by_cases h0 : 0 ≤ P.w
    · rw [Int.tdiv_eq_ediv_of_nonneg h0]; omega
    · have e1 : (-(-P.w)).tdiv 2 = -((-P.w).tdiv 2) := Int.neg_tdiv ..
      rw [Int.neg_neg, Int.tdiv_eq_ediv_of_nonneg (show 0 ≤ -P.w by omega)] at e1
      omega)
  clear bW kP hw
  unfold penV
  go_enter Tryd.func20, Tryd.ntmps20
  go_wp2_with (rw [hW])
  go_ret
  exact ⟨rfl, HB.out⟩

set_option maxRecDepth 10000 in
set_option maxHeartbeats 1600000 in
theorem stroke_plus (a b : Pt) (w : World) (hx : -9223372036854775808 ≤ a.x + b.x ∧ a.x + b.x ≤ 9223372036854775807) (hy : -9223372036854775808 ≤ a.y + b.y ∧ a.y + b.y ≤ 9223372036854775807) :
    Calls Tryd.prog 32 #[ptV a, ptV b] w fun e w' => e = .returned (ptV (addP a b)) ∧ Below w.heap.size w w' := by
  obtain ⟨W, hW, k1, k2, k3, bW, sW⟩ := three_boxes w a b
  have w1 : IntKind.i64.wrap (a.x + b.x) = a.x + b.x := IntWalk.i64_in _ (by omega)
  have w2 : IntKind.i64.wrap (a.y + b.y) = a.y + b.y := IntWalk.i64_in _ (by omega)
  obtain ⟨ax, ay⟩ := a
  obtain ⟨bx, bY⟩ := b
  unfold addP ptV
  dsimp only at *
  obtain ⟨⟨p0, p1⟩, -⟩ := Box.pair k1
  obtain ⟨⟨r0, r1⟩, -⟩ := Box.pair k2
  obtain ⟨⟨z0, z1⟩, z2, z3⟩ := Box.pair k3
  obtain ⟨V, hV, kV, ⟨x0, x1⟩, bV⟩ := k3.stored2 (.int .i64 (ax + bx)) (.int .i64 (ay + bY))
  have HB := Lib.hid (bW.trans (bV w.heap.size (by omega)))
  have HV := Lib.hid hV
  clear k1 k2 k3 bW bV hV kV hx hy
  go_enter Tryd.func32, Tryd.ntmps32
  go_wp2_with (rw [hW])
  try rw [HV.out]
  exact bodyPost_ret (by simp [results, Tryd.results32, go_sem, x0, x1]) rfl ⟨rfl, HB.out⟩

set_option maxRecDepth 10000 in
set_option maxHeartbeats 1600000 in
theorem stroke_less (a b : Pt) (w : World) (hx : -9223372036854775808 ≤ a.x - b.x ∧ a.x - b.x ≤ 9223372036854775807) (hy : -9223372036854775808 ≤ a.y - b.y ∧ a.y - b.y ≤ 9223372036854775807) :
    Calls Tryd.prog 31 #[ptV a, ptV b] w fun e w' => e = .returned (ptV (subP a b)) ∧ Below w.heap.size w w' := by
  obtain ⟨W, hW, k1, k2, k3, bW, sW⟩ := three_boxes w a b
  have w1 : IntKind.i64.wrap (a.x - b.x) = a.x - b.x := IntWalk.i64_in _ (by omega)
  have w2 : IntKind.i64.wrap (a.y - b.y) = a.y - b.y := IntWalk.i64_in _ (by omega)
  obtain ⟨ax, ay⟩ := a
  obtain ⟨bx, bY⟩ := b
  unfold subP ptV
  dsimp only at *
  obtain ⟨⟨p0, p1⟩, -⟩ := Box.pair k1
  obtain ⟨⟨r0, r1⟩, -⟩ := Box.pair k2
  obtain ⟨⟨z0, z1⟩, z2, z3⟩ := Box.pair k3
  obtain ⟨V, hV, kV, ⟨x0, x1⟩, bV⟩ := k3.stored2 (.int .i64 (ax - bx)) (.int .i64 (ay - bY))
  have HB := Lib.hid (bW.trans (bV w.heap.size (by omega)))
  have HV := Lib.hid hV
  clear k1 k2 k3 bW bV hV kV hx hy
  go_enter Tryd.func31, Tryd.ntmps31
  go_wp2_with (rw [hW])
  try rw [HV.out]
  exact bodyPost_ret (by simp [results, Tryd.results31, go_sem, x0, x1]) rfl ⟨rfl, HB.out⟩
theorem bool4 (a b c d : Bool) : a = false ∨ (a = true ∧ b = false) ∨ (a = true ∧ b = true ∧ c = false) ∨ (a = true ∧ b = true ∧ c = true ∧ d = false) ∨ (a = true ∧ b = true ∧ c = true ∧ d = true) := by
  cases a <;> cases b <;> cases c <;> cases d <;> simp

set_option maxRecDepth 10000 in
set_option maxHeartbeats 1600000 in
theorem stroke_May (P : Pn) (B : Option Addr) (d : Nat) (w : World) (hP : RdV w w.heap.size B (icells P.dash)) (hp : P.dash.length ≤ 1048576) (hd : P.dash.length ≤ d) :
    Calls Tryd.prog 8 #[penV P B d] w fun e w' => e = .returned (.bool (decide (PenOk P))) ∧ Below w.heap.size w w' := by
  obtain ⟨W, hW, kP, bW⟩ := pen_box w (.int .i64 P.w) (.int .i64 P.cap) (.int .i64 P.join) (.int .i64 P.lim) (.slice B P.dash.length d) (.int .i64 P.phase) 27
  have hD := dash_May P.dash B d P.phase W (hP.on bW) hp hd
  obtain ⟨q0, q1, q2, q3, q4, q5⟩ := Box.six kP
  have hall : decide (PenOk P) = (decide (2 ≤ P.w ∧ P.w ≤ 65536) && (decide (0 ≤ P.cap ∧ P.cap ≤ 2) && (decide (0 ≤ P.join ∧ P.join ≤ 2) && (decide (256 ≤ P.lim ∧ P.lim ≤ 8192) && decide (MayD P.dash P.phase))))) := by
    rw [← Bool.decide_and, ← Bool.decide_and, ← Bool.decide_and, ← Bool.decide_and]
    rfl
  rw [hall]
  have c1 := fun V => stroke_within P.w 2 65536 V
  have c2 := fun V => stroke_within P.cap 0 2 V
  have c3 := fun V => stroke_within P.join 0 2 V
  have c4 := fun V => stroke_within P.lim 256 8192 V
  generalize decide (2 ≤ P.w ∧ P.w ≤ 65536) = d1 at c1 ⊢
  generalize decide (0 ≤ P.cap ∧ P.cap ≤ 2) = d2 at c2 ⊢
  generalize decide (0 ≤ P.join ∧ P.join ≤ 2) = d3 at c3 ⊢
  generalize decide (256 ≤ P.lim ∧ P.lim ≤ 8192) = d4 at c4 ⊢
  generalize decide (MayD P.dash P.phase) = d5 at hD ⊢
  unfold penV
  obtain ⟨pw, pcap, pjoin, plim, pdash, pph⟩ := P
  dsimp only at *
  generalize pdash.length = np at *
  have C1 := Lib.hid c1
  have C2 := Lib.hid c2
  have C3 := Lib.hid c3
  have C4 := Lib.hid c4
  have C5 := Lib.hid hD
  have HB := Lib.hid bW
  clear c1 c2 c3 c4 hD bW kP hP hp hd hall
  rcases bool4 d1 d2 d3 d4 with rfl | ⟨rfl, rfl⟩ | ⟨rfl, rfl, rfl⟩ | ⟨rfl, rfl, rfl, rfl⟩ | ⟨rfl, rfl, rfl, rfl⟩
  all_goals
    go_enter Tryd.func8, Tryd.ntmps8
    go_wp2_with first
      | (rw [hW])
      | (go_at_call 15; (with_reducible refine Calls.mono (C1.out _) ?_); rintro e w1 ⟨rfl, rfl⟩)
      | (go_at_call 15; (with_reducible refine Calls.mono (C2.out _) ?_); rintro e w1 ⟨rfl, rfl⟩)
      | (go_at_call 15; (with_reducible refine Calls.mono (C3.out _) ?_); rintro e w1 ⟨rfl, rfl⟩)
      | (go_at_call 15; (with_reducible refine Calls.mono (C4.out _) ?_); rintro e w1 ⟨rfl, rfl⟩)
      | (go_at_call 16; (with_reducible refine Calls.mono C5.out ?_); rintro e w1 ⟨rfl, b1⟩)
    go_ret
    first
      | exact ⟨rfl, HB.out⟩
      | exact ⟨rfl, HB.out.trans (b1.mono HB.out.size)⟩
end Go.Proofs.YtngnclibeccplaaDoor
/- Lines as areas, the program's own: Disc and Bar. -/

namespace Go.Proofs.YtngnclibeccplaaDoor
open Go.RowKit Num

section
variable {W V V' : World} {N : Nat} {s1 s2 s3 : Nat} {a0 a1 b0 b1 c0 c1 : Value}
/-- a point's box, as it is read, in each world that a call leaves -/
def Pr (V : World) (s : Nat) (a0 a1 : Value) : Prop := V.cell? ⟨s, 0, none⟩ = some a0 ∧ V.cell? ⟨s, 1, none⟩ = some a1
theorem pr_call (hs : s1 < V.heap.size) (h : V.cell? ⟨s1, 0, none⟩ = some a0 ∧ V.cell? ⟨s1, 1, none⟩ = some a1) (b : Below V.heap.size V V') : V'.cell? ⟨s1, 0, none⟩ = some a0 ∧ V'.cell? ⟨s1, 1, none⟩ = some a1 :=
  ⟨(b.cell (p := ⟨s1, 0, none⟩) hs).trans h.1, (b.cell (p := ⟨s1, 1, none⟩) hs).trans h.2⟩
theorem one_call (hN : s1 < N) (h : (V.cell? ⟨s1, 0, none⟩ = some a0 ∧ V.cell? ⟨s1, 1, none⟩ = some a1) ∧ Below N W V ∧ N ≤ V.heap.size) (b : Below V.heap.size V V') :
    (V'.cell? ⟨s1, 0, none⟩ = some a0 ∧ V'.cell? ⟨s1, 1, none⟩ = some a1) ∧ Below N W V' ∧ N ≤ V'.heap.size :=
  ⟨pr_call (Nat.lt_of_lt_of_le hN h.2.2) h.1 b, h.2.1.trans (b.mono h.2.2), Nat.le_trans h.2.2 b.size⟩
theorem one_store (hN : s1 < N) (h : (V.cell? ⟨s1, 0, none⟩ = some a0 ∧ V.cell? ⟨s1, 1, none⟩ = some a1) ∧ Below N W V ∧ N ≤ V.heap.size) {g : Nat} (hg : N ≤ g) (i j : Nat) (x y : Value) :
    (((V.setCell ⟨g, i, none⟩ x).setCell ⟨g, j, none⟩ y).cell? ⟨s1, 0, none⟩ = some a0 ∧ ((V.setCell ⟨g, i, none⟩ x).setCell ⟨g, j, none⟩ y).cell? ⟨s1, 1, none⟩ = some a1) ∧ Below N W ((V.setCell ⟨g, i, none⟩ x).setCell ⟨g, j, none⟩ y) ∧ N ≤ ((V.setCell ⟨g, i, none⟩ x).setCell ⟨g, j, none⟩ y).heap.size := by
  have hb : Below N V ((V.setCell ⟨g, i, none⟩ x).setCell ⟨g, j, none⟩ y) := ((Below.refl _ V).setCell (p := ⟨g, i, none⟩) hg x).setCell (p := ⟨g, j, none⟩) hg y
  exact ⟨⟨(hb.cell (p := ⟨s1, 0, none⟩) hN).trans h.1.1, (hb.cell (p := ⟨s1, 1, none⟩) hN).trans h.1.2⟩, h.2.1.trans hb, Nat.le_trans h.2.2 hb.size⟩
theorem tri_call (h1 : s1 < N) (h2 : s2 < N) (h3 : s3 < N) (h : ((V.cell? ⟨s1, 0, none⟩ = some a0 ∧ V.cell? ⟨s1, 1, none⟩ = some a1) ∧ (V.cell? ⟨s2, 0, none⟩ = some b0 ∧ V.cell? ⟨s2, 1, none⟩ = some b1) ∧ (V.cell? ⟨s3, 0, none⟩ = some c0 ∧ V.cell? ⟨s3, 1, none⟩ = some c1)) ∧ Below N W V ∧ N ≤ V.heap.size) (b : Below V.heap.size V V') :
    ((V'.cell? ⟨s1, 0, none⟩ = some a0 ∧ V'.cell? ⟨s1, 1, none⟩ = some a1) ∧ (V'.cell? ⟨s2, 0, none⟩ = some b0 ∧ V'.cell? ⟨s2, 1, none⟩ = some b1) ∧ (V'.cell? ⟨s3, 0, none⟩ = some c0 ∧ V'.cell? ⟨s3, 1, none⟩ = some c1)) ∧ Below N W V' ∧ N ≤ V'.heap.size :=
  ⟨⟨pr_call (Nat.lt_of_lt_of_le h1 h.2.2) h.1.1 b, pr_call (Nat.lt_of_lt_of_le h2 h.2.2) h.1.2.1 b, pr_call (Nat.lt_of_lt_of_le h3 h.2.2) h.1.2.2 b⟩, h.2.1.trans (b.mono h.2.2), Nat.le_trans h.2.2 b.size⟩
end

/-- the first k points, the rest as made -/
def discF (p : Pt) (h : Int) (k : Nat) : List Pt := discTo p h k ++ List.replicate (16 - k) pt0
theorem discF_length {p : Pt} {h : Int} {k : Nat} (hk : k ≤ 16) : (discF p h k).length = 16 := by
  simp [discF, discTo_length]; omega
theorem discF_step {p : Pt} {h : Int} {k : Nat} (hk : k < 16) : (discF p h k).set k (ringAt p h k) = discF p h (k + 1) := by
  unfold discF
  rw [List.set_append_right _ _ (by rw [discTo_length]; omega), discTo_length, Nat.sub_self]
  obtain ⟨j, hj⟩ : ∃ j, 16 - k = j + 1 := ⟨16 - k - 1, by omega⟩
  rw [hj, List.replicate_succ, List.set_cons_zero, show 16 - (k + 1) = j by omega]
  show _ = (discTo p h k ++ [ringAt p h k]) ++ List.replicate j pt0
  rw [List.append_assoc]
  rfl
theorem discF_all (p : Pt) (h : Int) : discF p h 16 = discTo p h 16 := by simp [discF]
/-- a point's box, and a row of sixteen behind it -/
theorem disc_boxes (w : World) (p : Pt) (h : Int) : ∃ W V, w.alloc (.cells #[.int .i64 p.x, .int .i64 p.y] 34) = W ∧ W.alloc (.cells (ptRow (List.replicate 16 pt0)).toArray 34) = V ∧ w.heap.size < W.heap.size ∧ Below w.heap.size w W ∧ Box V w.heap.size 34 [.int .i64 p.x, .int .i64 p.y] ∧ Box V W.heap.size 34 (ptRow (discF p h 0)) ∧ Below w.heap.size w V := by
  have k := Box.new w 34 [.int .i64 p.x, .int .i64 p.y]
  exact ⟨_, _, rfl, rfl, k.lt, below_new w _, k.alloc _, Box.new _ 34 (ptRow (discF p h 0)), ((Below.refl _ w).alloc (Nat.le_refl _) _).alloc (by simp) _⟩
theorem disc_idx : ∀ k : Nat, k < 16 → (0 ≤ ((k : Int) + 16 - 4).tmod 16 ∧ ((k : Int) + 16 - 4).tmod 16 < 16) ∧ (((k : Int) + 16 - 4).tmod 16).toNat = (k + 12) % 16 := fun k hk => by
  rw [Int.tmod_eq_emod_of_nonneg (by omega)]
  omega

set_option maxRecDepth 10000 in
set_option maxHeartbeats 3200000 in
theorem stroke_Disc (p : Pt) (h : Int) (hp : FitP p) (w : World) (hS : Sxt w) :
    Calls Tryd.prog 33 #[ptV p, .int .i64 h] w (PtsTo (discM p h) w) := by
  have cW := fun V => stroke_within h 0 65536 V
  obtain ⟨W, V, hW, hV, sW, bW, kP, kR, bV⟩ := disc_boxes w p h
  unfold PtsTo discM
  by_cases hh : 0 ≤ h ∧ h ≤ 65536
  · rw [if_pos hh]
    rw [decide_eq_true hh] at cW
    have CW := Lib.hid cW
    have hmk : ∀ u : World, (Instr.makeSlice 22 (.int .i64 16) (.int .i64 16)).run Tryd.prog u = .ok (.slice (some ⟨u.heap.size, 0, none⟩) 16 16) (u.alloc (.cells (ptRow (List.replicate 16 pt0)).toArray 34)) := run_make_pts 16 (by omega)
    obtain ⟨zs, hzs⟩ : ∃ zs, (ptRow (List.replicate 16 pt0)).toArray = zs := ⟨_, rfl⟩
    simp only [hzs] at hV hmk
    clear hzs
    have hpl := discTo_length p h 16
    obtain ⟨D, hD⟩ : ∃ D, discTo p h 16 = D := ⟨_, rfl⟩
    rw [hD] at hpl ⊢
    have HD := Lib.hid hpl
    have HSX := Lib.hid hS
    obtain ⟨F, hF⟩ : ∃ F : Nat → List Pt, (fun k => discF p h k) = F := ⟨_, rfl⟩
    obtain ⟨R, hR⟩ : ∃ R : Nat → Pt, (fun k => ringAt p h k) = R := ⟨_, rfl⟩
    have HFS := Lib.hid (fun k (hk : k < 16) => show (F k).set k (R k) = F (k + 1) from by rw [← hF, ← hR]; exact discF_step hk)
    have HFL := Lib.hid (fun k (hk : k ≤ 16) => show (F k).length = 16 from by rw [← hF]; exact discF_length hk)
    have HF16 := Lib.hid (show F 16 = D from by rw [← hF, ← hD]; exact discF_all p h)
    rw [show discF p h 0 = F 0 from by rw [← hF]] at kR
    have HRX := Lib.hid (fun k => show R k = addP p ⟨nearG (h * cosL.getD k 0) 65536, nearG (h * sinL.getD k 0) 65536⟩ from by rw [← hR]; rfl)
    have HIN := Lib.hid (fun k => show (-65536 ≤ nearG (h * cosL.getD k 0) 65536 ∧ nearG (h * cosL.getD k 0) 65536 ≤ 65536) ∧ (-65536 ≤ nearG (h * sinL.getD k 0) 65536 ∧ nearG (h * sinL.getD k 0) 65536 ≤ 65536) ∧ (-4294967296 ≤ h * cosL.getD k 0 ∧ h * cosL.getD k 0 ≤ 4294967296) ∧ (-4294967296 ≤ h * sinL.getD k 0 ∧ h * sinL.getD k 0 ≤ 4294967296) from by
      have w := wheel_in k
      have m1 := mul_in (x := h) (y := cosL.getD k 0) (M := h) (N := 65536) (by omega) w.1
      have m2 := mul_in (x := h) (y := sinL.getD k 0) (M := h) (N := 65536) (by omega) w.2
      have n1 := near_in hh.1 (k := 65536) (by omega) m1
      have n2 := near_in hh.1 (k := 65536) (by omega) m2
      omega)
    have HP := Lib.hid hp
    obtain ⟨x, y⟩ := p
    unfold ptV
    unfold FitP at hp
    dsimp only at *
    obtain ⟨⟨p0, p1⟩, -⟩ := Box.pair kP
    have HK := Lib.hid (And.intro kP (And.intro kR bV))
    have HSW := Lib.hid sW
    clear cW kP kR bV bW hS hh hD hF hR hpl sW
    go_enter Tryd.func33, Tryd.ntmps33
    go_wp2_with first
      | (rw [hW])
      | (go_at_call 15; (with_reducible refine Calls.mono (CW.out _) ?_); rintro e w1 ⟨rfl, rfl⟩)
      | (rw [hV])
    try rw [hV]
    clear hW hV hmk p0 p1
    go_loopg [6, 7, 8, 15] 16 (fun gh _ _ _ it wr => ∃ k : Nat, it = .int .i64 (k : Int) ∧ gh + k = 16 ∧ Box wr w.heap.size 34 [.int .i64 x, .int .i64 y] ∧ Box wr W.heap.size 34 (ptRow (F k)) ∧ Below w.heap.size w wr)
    case atStart => exact ⟨0, rfl, rfl, HK.out.1, HK.out.2.1, HK.out.2.2⟩
    case round =>
      obtain ⟨k, rfl, hg, kP, kR, hB⟩ := hrel
      by_cases hk : k < 16
      · have hS2 := HSX.out.on hB
        have t0 := sxt_cell hS2 (i := k) hk
        have t1 := sxt_cell hS2 (i := (k + 12) % 16) (by omega)
        rw [sin_cos k hk] at t1
        have hrx := HRX.out k
        have hin := HIN.out k
        obtain ⟨a, ha⟩ : ∃ a, cosL.getD k 0 = a := ⟨_, rfl⟩
        obtain ⟨b, hb⟩ : ∃ a, sinL.getD k 0 = a := ⟨_, rfl⟩
        rw [ha] at t0 hrx hin
        rw [hb] at t1 hrx hin
        clear ha hb
        have cN1 := fun V => gauge_Near (h * a) 65536 V
        have cN2 := fun V => gauge_Near (h * b) 65536 V
        obtain ⟨X, hX⟩ : ∃ X, nearG (h * a) 65536 = X := ⟨_, rfl⟩
        obtain ⟨Y, hY⟩ : ∃ X, nearG (h * b) 65536 = X := ⟨_, rfl⟩
        rw [hX] at cN1 hrx hin
        rw [hY] at cN2 hrx hin
        have cP := fun V => stroke_plus ⟨x, y⟩ ⟨X, Y⟩ V (by dsimp only; omega) (by dsimp only; omega)
        rw [← hrx] at cP
        have hfs := HFS.out k hk
        generalize R k = Q at cP hfs
        obtain ⟨q0, q1⟩ := Q
        unfold ptV at cP
        dsimp only at cP
        obtain ⟨hi1, hi2⟩ := disc_idx k hk
        have i0 : (k : Int) < 16 := by omega
        have v1 : IntKind.i64.wrap ((k : Int) + 16) = (k : Int) + 16 := IntWalk.i64_in _ (by omega)
        have v2 : IntKind.i64.wrap ((k : Int) + 16 - 4) = (k : Int) + 16 - 4 := IntWalk.i64_in _ (by omega)
        have v3 : IntKind.i64.wrap (h * a) = h * a := IntWalk.i64_in _ (by omega)
        have v4 : IntKind.i64.wrap (h * b) = h * b := IntWalk.i64_in _ (by omega)
        have v5 : IntKind.i64.wrap ((k : Int) + 1) = (k : Int) + 1 := IntWalk.i64_in _ (by omega)
        have v6 : IntKind.i64.wrap (((k : Int) + 16 - 4).tmod 16) = ((k : Int) + 16 - 4).tmod 16 := IntWalk.i64_in _ (by omega)
        have CN1 := Lib.hid cN1
        have CN2 := Lib.hid cN2
        have CP := Lib.hid cP
        have HFS1 := Lib.hid hfs
        have HG := Lib.hid hg
        have HKB := Lib.hid (And.intro kP (And.intro kR hB))
        clear cN1 cN2 cP hfs hg hrx hin hX hY kP kR hB hS2 hp
        go_wp2_with fail
        go_quiet (fail)
        obtain ⟨X0, hX0⟩ : ∃ X0, wr.drewN nq = X0 := ⟨_, rfl⟩
        have HX := Lib.hid (show Box X0 w.heap.size 34 [.int .i64 x, .int .i64 y] ∧ Box X0 W.heap.size 34 (ptRow (F k)) ∧ Below w.heap.size w X0 from by
          rw [← hX0]
          exact ⟨HKB.out.1.drewN _, HKB.out.2.1.drewN _, below_figE HKB.out.2.2 nq⟩)
        rw [hX0]
        clear hX0 t0 t1
        obtain ⟨⟨p0, p1⟩, -⟩ := Box.pair HX.out.1
        have hFk : k < (F k).length := by rw [HFL.out k (by omega)]; exact hk
        have HFK := Lib.hid hFk
        clear hFk
        have HP0 := Lib.hid (show (X0.drew.cell? ⟨w.heap.size, 0, none⟩ = some (.int .i64 x) ∧ X0.drew.cell? ⟨w.heap.size, 1, none⟩ = some (.int .i64 y)) ∧ Below W.heap.size X0 X0.drew ∧ W.heap.size ≤ X0.drew.heap.size from ⟨⟨p0, p1⟩, (Below.refl _ _).drew, Nat.le_of_lt HX.out.2.1.lt⟩)
        go_wp2_with fail
        go_region_held3 (fun w' => (w'.cell? ⟨w.heap.size, 0, none⟩ = some (.int .i64 x) ∧ w'.cell? ⟨w.heap.size, 1, none⟩ = some (.int .i64 y)) ∧ Below W.heap.size X0 w' ∧ W.heap.size ≤ w'.heap.size)
          (first
            | (with_reducible exact HP0.out)
            | (with_reducible exact one_call HSW.out (by assumption) b9)
            | (with_reducible exact one_store HSW.out (by assumption) (Nat.le_refl _) _ _ _ _))
          ((first
            | (go_at_call 42; (with_reducible refine Calls.mono (CN1.out _) ?_); rintro e w7 ⟨rfl, rfl⟩)
            | (go_at_call 42; (with_reducible refine Calls.mono (CN2.out _) ?_); rintro e w8 ⟨rfl, rfl⟩)
            | (go_at_call 32; (with_reducible refine Calls.mono (CP.out _) ?_); rintro e w9 ⟨rfl, b9⟩; (have kc : Box w9 W.heap.size 34 (ptRow (F k)) := HX.out.2.1.below (show Below X0.heap.size X0 w9 from (Below.refl _ X0).drew.trans b9) HX.out.2.1.lt); obtain ⟨⟨y0, y1⟩, y2, y3⟩ := Box.pts kc HFK.out)))
        rename_i hHeld
        obtain ⟨U, hU, kU, bU⟩ := kc.set2 HFK.out ⟨q0, q1⟩
        dsimp only at hU
        rw [hU] at hHeld ⊢
        rw [HFS1.out] at kU
        have HU := Lib.hid (And.intro kU (And.intro (HX.out.1.below hHeld.2.1 HSW.out) (HX.out.2.2.trans (hHeld.2.1.mono (Nat.le_of_lt HSW.out)))))
        clear kc kU bU hHeld
        go_wp2_with fail
        go_roundg (16 - (k + 1))
        case measure => have := HG.out; omega
        case rel => exact ⟨k + 1, by simp, by have := HG.out; omega, HU.out.2.1, HU.out.1, HU.out.2.2⟩
      · obtain rfl : k = 16 := by omega
        rw [HF16.out] at kR
        have HE := Lib.hid (And.intro kR.rd hB)
        clear kP kR hB
        go_wp2_with fail
        go_ret
        rw [HD.out]
        exact ⟨⟨_, _, rfl, Nat.le_refl _, HE.out.1⟩, HE.out.2⟩
  · rw [if_neg hh]
    rw [decide_eq_false hh] at cW
    have CW := Lib.hid cW
    have HB := Lib.hid bW
    unfold ptV
    clear cW kP kR bV bW hS hh sW hV
    go_enter Tryd.func33, Tryd.ntmps33
    go_wp2_with first
      | (rw [hW])
      | (go_at_call 15; (with_reducible refine Calls.mono (CW.out _) ?_); rintro e w1 ⟨rfl, rfl⟩)
    go_ret
    exact ⟨⟨none, 0, rfl, Nat.le_refl _, RdV.nil _ _ _⟩, HB.out⟩

theorem sub_in {p n : Pt} {h : Int} (hp : FitP p) (hn : OffP h n) (hh : h ≤ 4294967296) : (-9223372036854775808 ≤ p.x - n.x ∧ p.x - n.x ≤ 9223372036854775807) ∧ (-9223372036854775808 ≤ p.y - n.y ∧ p.y - n.y ≤ 9223372036854775807) := by
  unfold FitP at hp
  unfold OffP at hn
  omega
theorem add_in {p n : Pt} {h : Int} (hp : FitP p) (hn : OffP h n) (hh : h ≤ 4294967296) : (-9223372036854775808 ≤ p.x + n.x ∧ p.x + n.x ≤ 9223372036854775807) ∧ (-9223372036854775808 ≤ p.y + n.y ∧ p.y + n.y ≤ 9223372036854775807) := by
  unfold FitP at hp
  unfold OffP at hn
  omega
/-- a row of four points that is built -/
theorem four_row (w : World) (a b c d : Pt) : ∃ W, w.alloc (.cells #[.int .i64 a.x, .int .i64 a.y, .int .i64 b.x, .int .i64 b.y, .int .i64 c.x, .int .i64 c.y, .int .i64 d.x, .int .i64 d.y] 34) = W ∧ Box W w.heap.size 34 (ptRow [a, b, c, d]) ∧ Below w.heap.size w W :=
  ⟨_, rfl, Box.new w _ (ptRow [a, b, c, d]), below_new w _⟩

set_option maxRecDepth 10000 in
set_option maxHeartbeats 6400000 in
theorem stroke_Bar (a b : Pt) (h : Int) (ha : FitP a) (hb : FitP b) (hh : 0 ≤ h ∧ h ≤ 65536) (w : World) :
    Calls Tryd.prog 19 #[ptV a, ptV b, .int .i64 h] w (PtsTo (barM a b h) w) := by
  obtain ⟨W, hW, k1, k2, bW, sW⟩ := two_boxes w a b
  have cA := fun V => gauge_Aside a b h V
  have hn := aside_in (a := a) (b := b) hh.1
  have c1 := fun V => stroke_less a (asideG a b h) V (sub_in ha hn (by omega)).1 (sub_in ha hn (by omega)).2
  have c2 := fun V => stroke_less b (asideG a b h) V (sub_in hb hn (by omega)).1 (sub_in hb hn (by omega)).2
  have c3 := fun V => stroke_plus b (asideG a b h) V (add_in hb hn (by omega)).1 (add_in hb hn (by omega)).2
  have c4 := fun V => stroke_plus a (asideG a b h) V (add_in ha hn (by omega)).1 (add_in ha hn (by omega)).2
  unfold PtsTo barM
  obtain ⟨n, hnn⟩ : ∃ n, asideG a b h = n := ⟨_, rfl⟩
  simp only [hnn] at cA c1 c2 c3 c4
  rw [hnn]
  by_cases h0 : n = pt0
  · rw [if_pos h0]
    subst h0
    obtain ⟨ax, ay⟩ := a
    obtain ⟨bx, bY⟩ := b
    unfold ptV pt0 at *
    dsimp only at *
    obtain ⟨⟨p0, p1⟩, -⟩ := Box.pair k1
    obtain ⟨⟨q0, q1⟩, -⟩ := Box.pair k2
    have CA := Lib.hid cA
    have HB := Lib.hid bW
    clear cA c1 c2 c3 c4 hnn hn k1 k2 bW ha hb sW
    go_enter Tryd.func19, Tryd.ntmps19
    go_wp2_with first
      | (rw [hW])
      | (go_at_call 30; (with_reducible refine Calls.mono (CA.out _) ?_); rintro e w1 ⟨rfl, b1⟩
         obtain ⟨V1, hV1, k3, c3⟩ := endP w1 34 (.int .i64 0) (.int .i64 0)
         obtain ⟨⟨r0, r1⟩, r2, r3⟩ := Box.pair k3
         obtain ⟨U, hU, kU, ⟨u0, u1⟩, bU⟩ := k3.stored2 (.int .i64 0) (.int .i64 0)
         have HB2 := Lib.hid (HB.out.trans ((b1.trans ((c3.trans (bU _ (Nat.le_refl _))).mono b1.size)).mono HB.out.size))
         clear b1 c3 k3 bU kU)
      | (rw [hV1])
      | (rw [hU])
    go_ret
    exact ⟨⟨none, 0, rfl, Nat.le_refl _, RdV.nil _ _ _⟩, HB2.out⟩
  · rw [if_neg h0]
    generalize subP a n = d1 at c1 ⊢
    generalize subP b n = d2 at c2 ⊢
    generalize addP b n = d3 at c3 ⊢
    generalize addP a n = d4 at c4 ⊢
    have HR := Lib.hid (fun U => four_row U d1 d2 d3 d4)
    have hne : ¬ n.x = 0 ∨ (n.x = 0 ∧ ¬ n.y = 0) := by
      by_cases e : n.x = 0
      · exact .inr ⟨e, fun e2 => h0 (by obtain ⟨x, y⟩ := n; dsimp only at e e2; subst e e2; rfl)⟩
      · exact .inl e
    obtain ⟨ax, ay⟩ := a
    obtain ⟨bx, bY⟩ := b
    obtain ⟨nx, ny⟩ := n
    obtain ⟨d1x, d1y⟩ := d1
    obtain ⟨d2x, d2y⟩ := d2
    obtain ⟨d3x, d3y⟩ := d3
    obtain ⟨d4x, d4y⟩ := d4
    unfold ptV at *
    dsimp only at *
    simp only [List.length_cons, List.length_nil, Nat.zero_add, Nat.reduceAdd]
    obtain ⟨⟨p0, p1⟩, -⟩ := Box.pair k1
    obtain ⟨⟨q0, q1⟩, -⟩ := Box.pair k2
    have CA := Lib.hid cA
    have C1 := Lib.hid c1
    have C2 := Lib.hid c2
    have C3 := Lib.hid c3
    have C4 := Lib.hid c4
    have HK := Lib.hid (And.intro k1 (And.intro k2 (And.intro bW sW)))
    clear cA c1 c2 c3 c4 hnn hn k1 k2 bW ha hb sW h0
    rcases hne with h1 | ⟨rfl, h1⟩
    · go_enter Tryd.func19, Tryd.ntmps19
      go_wp2_with first
        | (rw [hW])
        | (go_at_call 30; (with_reducible refine Calls.mono (CA.out _) ?_); rintro e w1 ⟨rfl, b1⟩
           obtain ⟨V1, hV1, k3, c3⟩ := endP w1 34 (.int .i64 nx) (.int .i64 ny)
           obtain ⟨⟨r0, r1⟩, -⟩ := Box.pair k3
           have HV := Lib.hid (show Box V1 w.heap.size 34 [.int .i64 ax, .int .i64 ay] ∧ Box V1 (w.heap.size + 1) 34 [.int .i64 bx, .int .i64 bY] ∧ Box V1 w1.heap.size 34 [.int .i64 nx, .int .i64 ny] ∧ Below w.heap.size w V1 ∧ w.heap.size + 2 ≤ w1.heap.size from by
             have b2 := b1.trans (c3.mono b1.size)
             have s1 := b1.size
             have s2 := HK.out.2.2.2
             exact ⟨HK.out.1.below b2 HK.out.1.lt, HK.out.2.1.below b2 HK.out.2.1.lt, k3, HK.out.2.2.1.trans (b2.mono HK.out.2.2.1.size), by omega⟩)
           clear b1 c3 k3)
        | (rw [hV1])
      obtain ⟨⟨p0, p1⟩, -⟩ := Box.pair HV.out.1
      obtain ⟨⟨q0, q1⟩, -⟩ := Box.pair HV.out.2.1
      have l1 := HV.out.1.lt
      have l2 := HV.out.2.1.lt
      have l3 := HV.out.2.2.1.lt
      have HP0 := Lib.hid (show ((V1.drew.cell? ⟨w.heap.size, 0, none⟩ = some (.int .i64 ax) ∧ V1.drew.cell? ⟨w.heap.size, 1, none⟩ = some (.int .i64 ay)) ∧ (V1.drew.cell? ⟨w.heap.size + 1, 0, none⟩ = some (.int .i64 bx) ∧ V1.drew.cell? ⟨w.heap.size + 1, 1, none⟩ = some (.int .i64 bY)) ∧ (V1.drew.cell? ⟨w1.heap.size, 0, none⟩ = some (.int .i64 nx) ∧ V1.drew.cell? ⟨w1.heap.size, 1, none⟩ = some (.int .i64 ny))) ∧ Below V1.heap.size V1 V1.drew ∧ V1.heap.size ≤ V1.drew.heap.size from ⟨⟨⟨p0, p1⟩, ⟨q0, q1⟩, r0, r1⟩, (Below.refl _ _).drew, Nat.le_refl _⟩)
      have HL := Lib.hid (And.intro l1 (And.intro l2 l3))
      clear l1 l2 l3
      go_region_held3 (fun w' => ((w'.cell? ⟨w.heap.size, 0, none⟩ = some (.int .i64 ax) ∧ w'.cell? ⟨w.heap.size, 1, none⟩ = some (.int .i64 ay)) ∧ (w'.cell? ⟨w.heap.size + 1, 0, none⟩ = some (.int .i64 bx) ∧ w'.cell? ⟨w.heap.size + 1, 1, none⟩ = some (.int .i64 bY)) ∧ (w'.cell? ⟨w1.heap.size, 0, none⟩ = some (.int .i64 nx) ∧ w'.cell? ⟨w1.heap.size, 1, none⟩ = some (.int .i64 ny))) ∧ Below V1.heap.size V1 w' ∧ V1.heap.size ≤ w'.heap.size)
        (first
          | (with_reducible exact HP0.out)
          | (with_reducible exact tri_call HL.out.1 HL.out.2.1 HL.out.2.2 (by assumption) b9)
          | (with_reducible exact tri_call HL.out.1 HL.out.2.1 HL.out.2.2 (by assumption) b8)
          | (with_reducible exact tri_call HL.out.1 HL.out.2.1 HL.out.2.2 (by assumption) b7)
          | (with_reducible exact tri_call HL.out.1 HL.out.2.1 HL.out.2.2 (by assumption) b6)
          | (with_reducible exact tri_call HL.out.1 HL.out.2.1 HL.out.2.2 (by assumption) (below_new _ _)))
        ((first
          | (go_at_call 31; (with_reducible refine Calls.mono (C1.out _) ?_); rintro e w6 ⟨rfl, b6⟩)
          | (go_at_call 31; (with_reducible refine Calls.mono (C2.out _) ?_); rintro e w7 ⟨rfl, b7⟩)
          | (go_at_call 32; (with_reducible refine Calls.mono (C3.out _) ?_); rintro e w8 ⟨rfl, b8⟩)
          | (go_at_call 32; (with_reducible refine Calls.mono (C4.out _) ?_); rintro e w9 ⟨rfl, b9⟩)))
      rename_i hHeld
      obtain ⟨U, hU, kU, bU⟩ := HR.out w9
      rw [hU] at hHeld ⊢
      have HE := Lib.hid (And.intro kU.rd (HV.out.2.2.2.1.trans (hHeld.2.1.mono HV.out.2.2.2.1.size)))
      clear kU bU hHeld
      go_wp2_with fail
      go_ret
      exact ⟨⟨_, _, rfl, Nat.le_refl _, HE.out.1⟩, HE.out.2⟩
    · go_enter Tryd.func19, Tryd.ntmps19
      go_wp2_with first
        | (rw [hW])
        | (go_at_call 30; (with_reducible refine Calls.mono (CA.out _) ?_); rintro e w1 ⟨rfl, b1⟩
           obtain ⟨V1, hV1, k3, c3⟩ := endP w1 34 (.int .i64 0) (.int .i64 ny)
           obtain ⟨⟨r0, r1⟩, -⟩ := Box.pair k3
           have HV := Lib.hid (show Box V1 w.heap.size 34 [.int .i64 ax, .int .i64 ay] ∧ Box V1 (w.heap.size + 1) 34 [.int .i64 bx, .int .i64 bY] ∧ Box V1 w1.heap.size 34 [.int .i64 0, .int .i64 ny] ∧ Below w.heap.size w V1 ∧ w.heap.size + 2 ≤ w1.heap.size from by
             have b2 := b1.trans (c3.mono b1.size)
             have s1 := b1.size
             have s2 := HK.out.2.2.2
             exact ⟨HK.out.1.below b2 HK.out.1.lt, HK.out.2.1.below b2 HK.out.2.1.lt, k3, HK.out.2.2.1.trans (b2.mono HK.out.2.2.1.size), by omega⟩)
           clear b1 c3 k3)
        | (rw [hV1])
      obtain ⟨⟨p0, p1⟩, -⟩ := Box.pair HV.out.1
      obtain ⟨⟨q0, q1⟩, -⟩ := Box.pair HV.out.2.1
      have l1 := HV.out.1.lt
      have l2 := HV.out.2.1.lt
      have l3 := HV.out.2.2.1.lt
      have HP0 := Lib.hid (show ((V1.drew.cell? ⟨w.heap.size, 0, none⟩ = some (.int .i64 ax) ∧ V1.drew.cell? ⟨w.heap.size, 1, none⟩ = some (.int .i64 ay)) ∧ (V1.drew.cell? ⟨w.heap.size + 1, 0, none⟩ = some (.int .i64 bx) ∧ V1.drew.cell? ⟨w.heap.size + 1, 1, none⟩ = some (.int .i64 bY)) ∧ (V1.drew.cell? ⟨w1.heap.size, 0, none⟩ = some (.int .i64 0) ∧ V1.drew.cell? ⟨w1.heap.size, 1, none⟩ = some (.int .i64 ny))) ∧ Below V1.heap.size V1 V1.drew ∧ V1.heap.size ≤ V1.drew.heap.size from ⟨⟨⟨p0, p1⟩, ⟨q0, q1⟩, r0, r1⟩, (Below.refl _ _).drew, Nat.le_refl _⟩)
      have HL := Lib.hid (And.intro l1 (And.intro l2 l3))
      clear l1 l2 l3
      go_region_held3 (fun w' => ((w'.cell? ⟨w.heap.size, 0, none⟩ = some (.int .i64 ax) ∧ w'.cell? ⟨w.heap.size, 1, none⟩ = some (.int .i64 ay)) ∧ (w'.cell? ⟨w.heap.size + 1, 0, none⟩ = some (.int .i64 bx) ∧ w'.cell? ⟨w.heap.size + 1, 1, none⟩ = some (.int .i64 bY)) ∧ (w'.cell? ⟨w1.heap.size, 0, none⟩ = some (.int .i64 0) ∧ w'.cell? ⟨w1.heap.size, 1, none⟩ = some (.int .i64 ny))) ∧ Below V1.heap.size V1 w' ∧ V1.heap.size ≤ w'.heap.size)
        (first
          | (with_reducible exact HP0.out)
          | (with_reducible exact tri_call HL.out.1 HL.out.2.1 HL.out.2.2 (by assumption) b9)
          | (with_reducible exact tri_call HL.out.1 HL.out.2.1 HL.out.2.2 (by assumption) b8)
          | (with_reducible exact tri_call HL.out.1 HL.out.2.1 HL.out.2.2 (by assumption) b7)
          | (with_reducible exact tri_call HL.out.1 HL.out.2.1 HL.out.2.2 (by assumption) b6)
          | (with_reducible exact tri_call HL.out.1 HL.out.2.1 HL.out.2.2 (by assumption) (below_new _ _)))
        ((first
          | (go_at_call 31; (with_reducible refine Calls.mono (C1.out _) ?_); rintro e w6 ⟨rfl, b6⟩)
          | (go_at_call 31; (with_reducible refine Calls.mono (C2.out _) ?_); rintro e w7 ⟨rfl, b7⟩)
          | (go_at_call 32; (with_reducible refine Calls.mono (C3.out _) ?_); rintro e w8 ⟨rfl, b8⟩)
          | (go_at_call 32; (with_reducible refine Calls.mono (C4.out _) ?_); rintro e w9 ⟨rfl, b9⟩)))
      rename_i hHeld
      obtain ⟨U, hU, kU, bU⟩ := HR.out w9
      rw [hU] at hHeld ⊢
      have HE := Lib.hid (And.intro kU.rd (HV.out.2.2.2.1.trans (hHeld.2.1.mono HV.out.2.2.2.1.size)))
      clear kU bU hHeld
      go_wp2_with fail
      go_ret
      exact ⟨⟨_, _, rfl, Nat.le_refl _, HE.out.1⟩, HE.out.2⟩
end Go.Proofs.YtngnclibeccplaaDoor
/- Lines as areas, the program's own: a miter's point. -/

namespace Go.Proofs.YtngnclibeccplaaDoor
open Go.RowKit Num

theorem pr_far {V : World} {s1 g : Nat} {a0 a1 : Value} (hne : g ≠ s1) (h : V.cell? ⟨s1, 0, none⟩ = some a0 ∧ V.cell? ⟨s1, 1, none⟩ = some a1) (x y : Value) : ((V.setCell ⟨g, 0, none⟩ x).setCell ⟨g, 1, none⟩ y).cell? ⟨s1, 0, none⟩ = some a0 ∧ ((V.setCell ⟨g, 0, none⟩ x).setCell ⟨g, 1, none⟩ y).cell? ⟨s1, 1, none⟩ = some a1 := by
  have e : ∀ j, ((V.setCell ⟨g, 0, none⟩ x).setCell ⟨g, 1, none⟩ y).cell? ⟨s1, j, none⟩ = V.cell? ⟨s1, j, none⟩ := fun j => by
    rw [World.cell?_setCell_far _ _ _ _ (by simpa using hne), World.cell?_setCell_far _ _ _ _ (by simpa using hne)]
  exact ⟨(e 0).trans h.1, (e 1).trans h.2⟩
/-- where a miter is not beyond the limit -/
def SpikeOk (h lim : Int) (o q : Pt) : Prop := 131072 * h * h ≤ lim * lim * byM h o q
instance (h lim : Int) (o q : Pt) : Decidable (SpikeOk h lim o q) := by unfold SpikeOk; exact inferInstance
def topM (h lim : Int) (o q : Pt) : Pt := if SpikeOk h lim o q then spikeM h o q else pt0

set_option maxRecDepth 10000 in
set_option maxHeartbeats 6400000 in
theorem stroke_top (o q : Pt) (h lim : Int) (hh : 1 ≤ h ∧ h ≤ 32768) (hl : 256 ≤ lim ∧ lim ≤ 8192) (ho : OffP h o) (hq : OffP h q) (w : World) :
    Calls Tryd.prog 35 #[ptV o, ptV q, .int .i64 h, .int .i64 lim] w fun e w' => e = .returned (.tuple #[ptV (topM h lim o q), .bool (decide (SpikeOk h lim o q))]) ∧ Below w.heap.size w w' := by
  obtain ⟨W, hW, k1, k2, k3, bW, sW⟩ := three_boxes w o q
  unfold OffP at ho hq
  have m1 := mul_in (x := h) (y := h) (M := 32768) (N := 32768) (by omega) (by omega)
  have m2 := mul_in (x := o.x) (y := q.x) (M := 32768) (N := 32768) (by omega) (by omega)
  have m3 := mul_in (x := o.y) (y := q.y) (M := 32768) (N := 32768) (by omega) (by omega)
  have m4 := mul_in (x := lim) (y := lim) (M := 8192) (N := 8192) (by omega) (by omega)
  have m5 := mul_in (x := 131072 * h) (y := h) (M := 4294967296) (N := 32768) (by omega) (by omega)
  have m6 := mul_in (x := lim * lim) (y := byM h o q) (M := 67108864) (N := 3221225472) (by omega) (by unfold byM; omega)
  have m7 := mul_in (x := o.x + q.x) (y := h) (M := 65536) (N := 32768) (by omega) (by omega)
  have m8 := mul_in (x := (o.x + q.x) * h) (y := h) (M := 2147483648) (N := 32768) (by omega) (by omega)
  have m9 := mul_in (x := o.y + q.y) (y := h) (M := 65536) (N := 32768) (by omega) (by omega)
  have m10 := mul_in (x := (o.y + q.y) * h) (y := h) (M := 2147483648) (N := 32768) (by omega) (by omega)
  have v1 : IntKind.i64.wrap (h * h) = h * h := IntWalk.i64_in _ (by omega)
  have v2 : IntKind.i64.wrap (o.x * q.x) = o.x * q.x := IntWalk.i64_in _ (by omega)
  have v3 : IntKind.i64.wrap (o.y * q.y) = o.y * q.y := IntWalk.i64_in _ (by omega)
  have v4 : IntKind.i64.wrap (h * h + o.x * q.x) = h * h + o.x * q.x := IntWalk.i64_in _ (by omega)
  have v5 : IntKind.i64.wrap (h * h + o.x * q.x + o.y * q.y) = byM h o q := IntWalk.i64_in _ (by omega)
  have v6 : IntKind.i64.wrap (131072 * h) = 131072 * h := IntWalk.i64_in _ (by omega)
  have v7 : IntKind.i64.wrap (131072 * h * h) = 131072 * h * h := IntWalk.i64_in _ (by omega)
  have v8 : IntKind.i64.wrap (lim * lim) = lim * lim := IntWalk.i64_in _ (by omega)
  have v9 : IntKind.i64.wrap (lim * lim * byM h o q) = lim * lim * byM h o q := IntWalk.i64_in _ (by omega)
  have v10 : IntKind.i64.wrap ((o.x + q.x) * h) = (o.x + q.x) * h := IntWalk.i64_in _ (by omega)
  have v11 : IntKind.i64.wrap ((o.x + q.x) * h * h) = (o.x + q.x) * h * h := IntWalk.i64_in _ (by omega)
  have v12 : IntKind.i64.wrap ((o.y + q.y) * h) = (o.y + q.y) * h := IntWalk.i64_in _ (by omega)
  have v13 : IntKind.i64.wrap ((o.y + q.y) * h * h) = (o.y + q.y) * h * h := IntWalk.i64_in _ (by omega)
  have cP := fun V => stroke_plus o q V (by omega) (by omega)
  have cX := fun V => gauge_Near ((o.x + q.x) * h * h) (byM h o q) V
  have cY := fun V => gauge_Near ((o.y + q.y) * h * h) (byM h o q) V
  have key : (131072 * h * h ≤ lim * lim * byM h o q ∧ topM h lim o q = ⟨nearG ((o.x + q.x) * h * h) (byM h o q), nearG ((o.y + q.y) * h * h) (byM h o q)⟩ ∧ decide (SpikeOk h lim o q) = true) ∨ (¬ 131072 * h * h ≤ lim * lim * byM h o q ∧ topM h lim o q = pt0 ∧ decide (SpikeOk h lim o q) = false) := by
    unfold topM
    by_cases hc : SpikeOk h lim o q
    · exact .inl ⟨hc, by rw [if_pos hc]; rfl, decide_eq_true hc⟩
    · exact .inr ⟨hc, if_neg hc, decide_eq_false hc⟩
  generalize topM h lim o q = tp at key ⊢
  generalize decide (SpikeOk h lim o q) = dd at key ⊢
  clear m1 m2 m3 m4 m5 m6 m7 m8 m9 m10 ho hq
  generalize nearG ((o.x + q.x) * h * h) (byM h o q) = X at cX key
  generalize nearG ((o.y + q.y) * h * h) (byM h o q) = Y at cY key
  generalize byM h o q = d at v5 v9 cX cY key
  unfold addP at cP
  obtain ⟨ox, oy⟩ := o
  obtain ⟨qx, qy⟩ := q
  unfold ptV at *
  dsimp only at *
  obtain ⟨sx, hsx⟩ : ∃ s, ox + qx = s := ⟨_, rfl⟩
  obtain ⟨sy, hsy⟩ : ∃ s, oy + qy = s := ⟨_, rfl⟩
  rw [hsx] at v10 v11
  rw [hsy] at v12 v13
  simp only [hsx] at cX
  simp only [hsy] at cY
  simp only [hsx, hsy] at cP
  clear hsx hsy
  obtain ⟨⟨p0, p1⟩, -⟩ := Box.pair k1
  obtain ⟨⟨r0, r1⟩, -⟩ := Box.pair k2
  obtain ⟨⟨z0, z1⟩, z2, z3⟩ := Box.pair k3
  have CP := Lib.hid cP
  have CX := Lib.hid cX
  have CY := Lib.hid cY
  have HK := Lib.hid (And.intro k3 (And.intro bW sW))
  rcases key with ⟨hc, rfl, rfl⟩ | ⟨hc, rfl, rfl⟩
  · have hc' : ¬ lim * lim * d < 131072 * h * h := by omega
    dsimp only
    clear cP cX cY k1 k2 k3 bW sW hc hh hl
    go_enter Tryd.func35, Tryd.ntmps35
    go_wp2_with first
      | (rw [hW])
      | (go_at_call 32; (with_reducible refine Calls.mono (CP.out _) ?_); rintro e w1 ⟨rfl, b1⟩
         obtain ⟨V1, hV1, k4, c4⟩ := endP w1 34 (.int .i64 sx) (.int .i64 sy)
         obtain ⟨⟨s0, s1⟩, -⟩ := Box.pair k4
         have HV := Lib.hid (show Box V1 (w.heap.size + 2) 34 [.int .i64 0, .int .i64 0] ∧ Below w.heap.size w V1 ∧ w.heap.size + 2 ≠ w1.heap.size from by
           have b2 := b1.trans (c4.mono b1.size)
           have h1 := HK.out.1.lt
           have h2 := b1.size
           exact ⟨HK.out.1.below b2 HK.out.1.lt, HK.out.2.1.trans (b2.mono HK.out.2.1.size), by omega⟩)
         clear b1 c4 k4)
      | (rw [hV1])
    obtain ⟨⟨z0, z1⟩, z2, z3⟩ := Box.pair HV.out.1
    obtain ⟨U, hU, kU, ⟨u0, u1⟩, bU⟩ := HV.out.1.stored2 (.int .i64 X) (.int .i64 Y)
    have HUB := Lib.hid (HV.out.2.1.trans (bU w.heap.size (by omega)))
    have HS0 := Lib.hid (show V1.drew.cell? ⟨w1.heap.size, 0, none⟩ = some (.int .i64 sx) ∧ V1.drew.cell? ⟨w1.heap.size, 1, none⟩ = some (.int .i64 sy) from ⟨s0, s1⟩)
    have hnb := HV.out.2.2
    have HN := Lib.hid hnb
    have HS1 := Lib.hid (show U.drew.cell? ⟨w1.heap.size, 0, none⟩ = some (.int .i64 sx) ∧ U.drew.cell? ⟨w1.heap.size, 1, none⟩ = some (.int .i64 sy) from by rw [← hU]; exact pr_far hnb ⟨s0, s1⟩ _ _)
    clear hnb
    go_region_held3 (fun w' => w'.cell? ⟨w1.heap.size, 0, none⟩ = some (.int .i64 sx) ∧ w'.cell? ⟨w1.heap.size, 1, none⟩ = some (.int .i64 sy))
      (first
        | (with_reducible exact HS0.out)
        | (with_reducible exact HS1.out)
        | (with_reducible exact pr_far HN.out (by assumption) _ _))
      ((first
        | (go_at_call 42; (with_reducible refine Calls.mono (CX.out _) ?_); rintro e w7 ⟨rfl, rfl⟩)
        | (go_at_call 42; (with_reducible refine Calls.mono (CY.out _) ?_); rintro e w8 ⟨rfl, rfl⟩)))
    go_wp2_with fail
    have u2 : U.drew.cell? ⟨w.heap.size + 2, 0, none⟩ = some (.int .i64 X) := u0
    have u3 : U.drew.cell? ⟨w.heap.size + 2, 1, none⟩ = some (.int .i64 Y) := u1
    exact bodyPost_ret (by simp [results, Tryd.results35, go_sem, u2, u3]) rfl ⟨rfl, HUB.out.drew⟩
  · have hc' : lim * lim * d < 131072 * h * h := by omega
    obtain ⟨U, hU, kU, ⟨u0, u1⟩, bU⟩ := k3.stored2 (.int .i64 0) (.int .i64 0)
    have HUB := Lib.hid (bW.trans (bU w.heap.size (by omega)))
    have HU := Lib.hid hU
    unfold pt0
    dsimp only
    clear cP cX cY k1 k2 k3 bW sW hc hh hl hU kU bU
    go_enter Tryd.func35, Tryd.ntmps35
    go_wp2_with (rw [hW])
    try rw [HU.out]
    exact bodyPost_ret (by simp [results, Tryd.results35, go_sem, u0, u1]) rfl ⟨rfl, HUB.out⟩
end Go.Proofs.YtngnclibeccplaaDoor
/- Boxes of points, in whatever order they are made and filled. -/

namespace Go.Proofs.YtngnclibeccplaaDoor
open Go.RowKit

section
variable {X V V' : World} {t : TypeId} {x y z u x0 y0 z0 u0 : Value} {a b : Nat}
theorem fz1 (h : Below (X.alloc (.cells #[x, y] t)).heap.size (X.alloc (.cells #[x, y] t)) V') : Box V' X.heap.size t [x, y] := (Box.new X t [x, y]).below h (Box.new X t [x, y]).lt
theorem fz2 (h : Below ((X.alloc (.cells #[x, y] t)).alloc (.cells #[z, u] t)).heap.size ((X.alloc (.cells #[x, y] t)).alloc (.cells #[z, u] t)) V') : Box V' X.heap.size t [x, y] ∧ Box V' (X.heap.size + 1) t [z, u] := by
  have k1 := (Box.new X t [x, y]).alloc (.cells #[z, u] t)
  have k2 := Box.at_new (X.alloc (.cells #[x, y] t)) t [z, u] (g := X.heap.size + 1) (by simp)
  exact ⟨k1.below h k1.lt, k2.below h k2.lt⟩
theorem fz1d (h : Below (X.alloc (.cells #[x, y] t)).drew.heap.size (X.alloc (.cells #[x, y] t)).drew V') : Box V' X.heap.size t [x, y] := fz1 (X := X) ((Below.refl _ _).drew.trans h)
theorem fz2d (h : Below ((X.alloc (.cells #[x, y] t)).alloc (.cells #[z, u] t)).drew.heap.size ((X.alloc (.cells #[x, y] t)).alloc (.cells #[z, u] t)).drew V') : Box V' X.heap.size t [x, y] ∧ Box V' (X.heap.size + 1) t [z, u] := fz2 ((Below.refl _ _).drew.trans h)
theorem ez1 : Box ((V.alloc (.cells #[x, y] t)).alloc (.cells #[z, u] t)) V.heap.size t [x, y] ∧ Box ((V.alloc (.cells #[x, y] t)).alloc (.cells #[z, u] t)) (V.heap.size + 1) t [z, u] :=
  ⟨(Box.new V t [x, y]).alloc _, Box.at_new (V.alloc (.cells #[x, y] t)) t [z, u] (by simp)⟩
theorem ez2 : Box ((V.alloc (.cells #[z, u] t)).alloc (.cells #[x, y] t)) (V.heap.size + 1) t [x, y] ∧ Box ((V.alloc (.cells #[z, u] t)).alloc (.cells #[x, y] t)) V.heap.size t [z, u] :=
  ⟨Box.at_new (V.alloc (.cells #[z, u] t)) t [x, y] (by simp), (Box.new V t [z, u]).alloc _⟩
theorem ez5 (k : Box V a t [x0, y0]) (k2 : Box V b t [z0, u0]) (hne : a ≠ b) : Box ((((V.setCell ⟨a, 0, none⟩ x).setCell ⟨a, 1, none⟩ y).setCell ⟨b, 0, none⟩ z).setCell ⟨b, 1, none⟩ u) a t [x, y] ∧ Box ((((V.setCell ⟨a, 0, none⟩ x).setCell ⟨a, 1, none⟩ y).setCell ⟨b, 0, none⟩ z).setCell ⟨b, 1, none⟩ u) b t [z, u] := by
  refine ⟨?_, ?_⟩
  · exact ((((k.set 0 x).set 1 y).far (p := ⟨b, 0, none⟩) hne z).far (p := ⟨b, 1, none⟩) hne u)
  · exact ((((k2.far (p := ⟨a, 0, none⟩) (Ne.symm hne) x).far (p := ⟨a, 1, none⟩) (Ne.symm hne) y).set 0 z).set 1 u)
theorem ez3 (k : Box V a t [x0, y0]) : Box (((((V.alloc (.cells #[z0, u0] t)).setCell ⟨a, 0, none⟩ x).setCell ⟨a, 1, none⟩ y).setCell ⟨V.heap.size, 0, none⟩ z).setCell ⟨V.heap.size, 1, none⟩ u) a t [x, y] ∧ Box (((((V.alloc (.cells #[z0, u0] t)).setCell ⟨a, 0, none⟩ x).setCell ⟨a, 1, none⟩ y).setCell ⟨V.heap.size, 0, none⟩ z).setCell ⟨V.heap.size, 1, none⟩ u) V.heap.size t [z, u] :=
  ez5 (k.alloc _) (Box.new V t [z0, u0]) (Nat.ne_of_lt k.lt)
theorem ez4 (k : Box V b t [z0, u0]) : Box (((V.alloc (.cells #[x, y] t)).setCell ⟨b, 0, none⟩ z).setCell ⟨b, 1, none⟩ u) V.heap.size t [x, y] ∧ Box (((V.alloc (.cells #[x, y] t)).setCell ⟨b, 0, none⟩ z).setCell ⟨b, 1, none⟩ u) b t [z, u] := by
  have hne := Nat.ne_of_gt k.lt
  exact ⟨((Box.new V t [x, y]).far (p := ⟨b, 0, none⟩) hne z).far (p := ⟨b, 1, none⟩) hne u, ((k.alloc (.cells #[x, y] t)).set 0 z).set 1 u⟩
/-- one box that was made ahead of the last call, another behind it: what a store finds -/
theorem facts_one (k : Box V a t [x0, y0]) : Box V a t [x0, y0] ∧ Box (V.alloc (.cells #[z0, u0] t)) a t [x0, y0] ∧ Box (V.alloc (.cells #[x, y] t)) a t [x0, y0] ∧ Box (((V.alloc (.cells #[z0, u0] t)).setCell ⟨a, 0, none⟩ x).setCell ⟨a, 1, none⟩ y) V.heap.size t [z0, u0] :=
  ⟨k, k.alloc _, k.alloc _, ((Box.new V t [z0, u0]).far (p := ⟨a, 0, none⟩) (Nat.ne_of_gt k.lt) x).far (p := ⟨a, 1, none⟩) (Nat.ne_of_gt k.lt) y⟩
theorem facts_two (k : Box V a t [x0, y0]) (k2 : Box V b t [z0, u0]) (hne : a ≠ b) : Box V a t [x0, y0] ∧ Box V b t [z0, u0] ∧ Box ((V.setCell ⟨a, 0, none⟩ x).setCell ⟨a, 1, none⟩ y) b t [z0, u0] ∧ Box ((V.setCell ⟨b, 0, none⟩ x).setCell ⟨b, 1, none⟩ y) a t [x0, y0] :=
  ⟨k, k2, (k2.far (p := ⟨a, 0, none⟩) (Ne.symm hne) x).far (p := ⟨a, 1, none⟩) (Ne.symm hne) y, (k.far (p := ⟨b, 0, none⟩) hne x).far (p := ⟨b, 1, none⟩) hne y⟩
/-- a box that was made ahead of both calls, one that was made between them -/
theorem facts_mid {X : World} (k : Box X a t [x0, y0]) (h : Below (X.alloc (.cells #[x0, y0] t)).heap.size (X.alloc (.cells #[x0, y0] t)) V) : Box V a t [x0, y0] ∧ Box V X.heap.size t [x0, y0] ∧ a ≠ X.heap.size :=
  ⟨(k.alloc (.cells #[x0, y0] t)).below h (k.alloc (.cells #[x0, y0] t)).lt, fz1 h, Nat.ne_of_lt k.lt⟩
end
theorem lowZ {A B : Prop} {n m : Nat} (h : A ∧ B ∧ n ≤ m) : n ≤ m := h.2.2
theorem lowS {A C : Prop} {N : Nat} {v w : World} (h : A ∧ Below N v w ∧ C) : Below N v w := h.2.1
/-- two points in boxes of their own -/
def TwoB (X : World) (t : TypeId) (x y z u : Value) (v v' : Value) (wc : World) : Prop := ∃ a b, v = .pointer (some ⟨a, 0, none⟩) ∧ v' = .pointer (some ⟨b, 0, none⟩) ∧ Box wc a t [x, y] ∧ Box wc b t [z, u] ∧ a ≠ b ∧ (X.heap.size ≤ a ∧ X.heap.size ≤ b) ∧ Below X.heap.size X wc
theorem two_rel {X wc : World} {t : TypeId} {x y z u : Value} {a b : Nat} (h : Box wc a t [x, y] ∧ Box wc b t [z, u]) (hB : Below X.heap.size X wc) (hne : a ≠ b) (ha : X.heap.size ≤ a) (hb : X.heap.size ≤ b) : TwoB X t x y z u (.pointer (some ⟨a, 0, none⟩)) (.pointer (some ⟨b, 0, none⟩)) wc :=
  ⟨a, b, rfl, rfl, h.1, h.2, hne, ⟨ha, hb⟩, hB⟩
theorem tri_store {W V : World} {N s1 s2 s3 : Nat} {a0 a1 b0 b1 c0 c1 : Value} (h1 : s1 < N) (h2 : s2 < N) (h3 : s3 < N) (h : ((V.cell? ⟨s1, 0, none⟩ = some a0 ∧ V.cell? ⟨s1, 1, none⟩ = some a1) ∧ (V.cell? ⟨s2, 0, none⟩ = some b0 ∧ V.cell? ⟨s2, 1, none⟩ = some b1) ∧ (V.cell? ⟨s3, 0, none⟩ = some c0 ∧ V.cell? ⟨s3, 1, none⟩ = some c1)) ∧ Below N W V ∧ N ≤ V.heap.size) {g : Nat} (hg : N ≤ g) (x y : Value) :
    let U := (V.setCell ⟨g, 0, none⟩ x).setCell ⟨g, 1, none⟩ y
    ((U.cell? ⟨s1, 0, none⟩ = some a0 ∧ U.cell? ⟨s1, 1, none⟩ = some a1) ∧ (U.cell? ⟨s2, 0, none⟩ = some b0 ∧ U.cell? ⟨s2, 1, none⟩ = some b1) ∧ (U.cell? ⟨s3, 0, none⟩ = some c0 ∧ U.cell? ⟨s3, 1, none⟩ = some c1)) ∧ Below N W U ∧ N ≤ U.heap.size := by
  have hb : Below N V ((V.setCell ⟨g, 0, none⟩ x).setCell ⟨g, 1, none⟩ y) := ((Below.refl _ V).setCell (p := ⟨g, 0, none⟩) hg x).setCell (p := ⟨g, 1, none⟩) hg y
  exact ⟨⟨⟨(hb.cell (p := ⟨s1, 0, none⟩) h1).trans h.1.1.1, (hb.cell (p := ⟨s1, 1, none⟩) h1).trans h.1.1.2⟩, ⟨(hb.cell (p := ⟨s2, 0, none⟩) h2).trans h.1.2.1.1, (hb.cell (p := ⟨s2, 1, none⟩) h2).trans h.1.2.1.2⟩, (hb.cell (p := ⟨s3, 0, none⟩) h3).trans h.1.2.2.1, (hb.cell (p := ⟨s3, 1, none⟩) h3).trans h.1.2.2.2⟩, h.2.1.trans hb, Nat.le_trans h.2.2 hb.size⟩
end Go.Proofs.YtngnclibeccplaaDoor
