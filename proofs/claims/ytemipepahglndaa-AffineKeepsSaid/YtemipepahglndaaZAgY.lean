/- A row of maps gone through backwards: the library's iterator, as this program has it. -/
import Derived.RangeFuncBox
import Derived.RangeFuncNested
import Derived.RangeFuncBound
import Derived.RangeFuncCalls
import Derived.RangeFuncLeaves
import Derived.Shelf.Abstract
import Derived.Shelf.RegionOpen
import Derived.WalkKit
import Derived.OwnWalkIn
import Derived.TacticsInMore
import Derived.LoopNIn
import Derived.LoopIn
import Derived.Sort.LoopGhostIn
import Derived.Maps.AppendAt
import Derived.Lib.Hide
import Derived.Test.YtemipepahglndaaZAfW
import Derived.Test.YtemipepahglndaaChecked
import Derived.Test.YtemipepahglndaaZAgX
namespace Go.Proofs.Ytemipepahglndaa
open Go.RowKit Go.Shelf
attribute [local go_sem] Oper.semAt_some

/-- what a round must keep: what lay below n₀, and the box that holds the row -/
def KpB (n₀ Bn : Nat) (W W' : World) : Prop := Below n₀ W W' ∧ W'.heap[Bn]? = W.heap[Bn]?
theorem KpB.trans' {n₀ Bn : Nat} {A B C : World} (h : KpB n₀ Bn A B) (k : KpB n₀ Bn B C) : KpB n₀ Bn A C := ⟨h.1.trans k.1, k.2.trans h.2⟩
theorem KpB.refl' (n₀ Bn : Nat) (W : World) : KpB n₀ Bn W W := ⟨Below.refl _ _, rfl⟩
theorem kpB_put {n₀ Bn : Nat} {w : World} (hn : n₀ ≤ w.heap.size) (hB : Bn < w.heap.size) (W : World) (l : Nat) (o o' : Obj) (hl : w.heap.size ≤ l) (h : W.heap[l]? = some o) (h1 : o.isCells = false) (h2 : o.isWalk = false) : KpB n₀ Bn W (W.putObj l o') :=
  ⟨belowK_b hn W l o o' hl h h1 h2, World.putObj_heap_other (by omega)⟩
theorem below_others {W W' : World} (h : Below W.heap.size W W') : KeepsOthers W W' := ⟨h.size, fun k _ hk _ => (h.block k (Array.getElem?_eq_some_iff.1 hk).1).trans hk⟩
theorem box_own {β : Type} (g : Nat) (t : TypeId) (f : β → List Value) : Own (fun s W => Box W g t (f s)) := fun s X Y row hs hg hrow => by
  unfold Box at *
  refine (hg.block g (Array.getElem?_eq_some_iff.1 hs).1 (fun e => ?_)).trans hs
  obtain ⟨o, ho, hc⟩ := hrow g e.symm
  rw [hs] at ho
  cases ho
  cases hc

set_option maxRecDepth 100000 in
set_option maxHeartbeats 2000000 in
theorem back1_in (n : Nat) (hn : 2 ≤ n) (l Bn n₀ : Nat) (w0 : World) (A : Option Addr) (c : Nat) (L : List Mp) (hm : L.length ≤ 4611686018427387904) (hL : RdV w0 n₀ A (mpRow L))
    (J Jx : List (Nat × Mp) → World → Prop) (W : World) (hbel : Below n₀ w0 W) (hBox : Box W Bn 36 [.slice A L.length c])
    (hY : ∀ pre (x : Nat × Mp) W1, J pre W1 → pre.length < L.length → YieldAt Fence.wide (n - 1) Try.prog l #[.int .i64 (x.1 : Int), mpV x.2] W1 fun e W' =>
      (e = .returned (.bool true) ∧ J (pre ++ [x]) W' ∧ KpB n₀ Bn W1 W') ∨ (e = .returned (.bool false) ∧ Jx (pre ++ [x]) W'))
    (h0 : J [] W) :
    CallsIn Fence.wide n Try.prog 31 #[.func (.yield l) #[] #[], .pointer (some ⟨Bn, 0, none⟩)] W fun e W' => (∃ v, e = .returned v) ∧
      ((∃ ys : List (Nat × Mp), ys.map Prod.snd = L.reverse ∧ J ys W') ∨ (∃ pre : List (Nat × Mp), pre.map Prod.snd <+: L.reverse ∧ Jx pre W')) := by
  refine callsIn_of_wp Try.func31 rfl trivial ?_ rfl
  simp only [Try.ntmps31, List.size_toArray, List.length_cons, List.length_nil, Nat.reduceAdd, Nat.reduceSub, Array.replicate_succ, Array.replicate_zero, List.push_toArray, List.append_toArray, List.nil_append, List.cons_append]
  have h1 : 1 ≤ n := by omega
  have HY := Lib.hid hY
  have hc0 := hBox.cell 0 rfl
  clear hY
  gi_wp2
  gi_loopg [3] (L.length + 1) (fun gh it wr =>
    ∃ (m : Nat) (pre : List (Nat × Mp)), it = .int .i64 ((m : Int) - 1) ∧ m ≤ L.length ∧ gh = m + 1 ∧ pre.map Prod.snd ++ (L.take m).reverse = L.reverse ∧ pre.length + m = L.length ∧ J pre wr ∧ KpB n₀ Bn W wr)
  case atStart => exact ⟨L.length, [], rfl, Nat.le_refl _, rfl, by simp, by simp, h0, KpB.refl' _ _ _⟩
  case round =>
    obtain ⟨m, pre, rfl, hml, rfl, hpre, hlen, hJs, hK⟩ := hrel
    have hb : Box wr Bn 36 [.slice A L.length c] := hK.2.trans hBox
    have hcb := hb.cell 0 rfl
    cases m with
    | zero =>
      have hx : pre.map Prod.snd = L.reverse := by simpa using hpre
      clear hpre
      gi_wp2
      go_end0
      exact ⟨⟨_, rfl⟩, .inl ⟨pre, hx, hJs⟩⟩
    | succ j =>
      have hj : j < L.length := by omega
      obtain ⟨b, o, rfl, hlb, g0, g1, g2, g3, g4, g5⟩ := ((hL.below hbel).below hK.1).mp hj
      have e1 : (((j + 1 : Nat) : Int) - 1) = (j : Int) := by omega
      rw [e1]
      have hi : (j : Int) < (L.length : Int) := by omega
      have hwj : IntKind.i64.wrap (j : Int) = (j : Int) := IntWalk.i64_in _ (by omega)
      obtain ⟨mm, hmm⟩ : ∃ mm, L[j] = mm := ⟨_, rfl⟩
      have htk : (L.take (j + 1)).reverse = mm :: (L.take j).reverse := by
        rw [List.take_succ_eq_append_getElem hj, List.reverse_append, hmm]; rfl
      rw [htk] at hpre
      rw [hmm] at g0 g1 g2 g3 g4 g5
      obtain ⟨fn, tmps, assign, body, hy, hR⟩ := HY.out pre (j, mm) wr hJs (by omega)
      obtain ⟨x0, x1, x2, x3, x4, x5⟩ := mm
      unfold mpV at hy
      dsimp only at hy g0 g1 g2 g3 g4 g5
      have HF := Lib.hid (And.intro hpre (And.intro hlen (And.intro hJs hK)))
      clear hpre hlen hJs hK htk hmm e1
      gi_wp2
      refine hR.mono ?_
      rintro e W3 (⟨rfl, hJ3, hk3⟩ | ⟨rfl, hJx3⟩)
      · have H3 := Lib.hid hJ3
        clear hJ3
        gi_wp2
        gi_roundg (j + 1)
        case measure => omega
        case rel => exact ⟨j, pre ++ [(j, ⟨x0, x1, x2, x3, x4, x5⟩)], rfl, by omega, rfl, by rw [List.map_append, List.append_assoc]; exact HF.out.1, by rw [List.length_append]; have := HF.out.2.1; simp; omega, H3.out, HF.out.2.2.2.trans' hk3⟩
      · have H3 := Lib.hid hJx3
        clear hJx3
        gi_wp2
        refine bodyPost_ret (results_none rfl _ _ _) rfl ?_
        exact ⟨⟨_, rfl⟩, .inr ⟨pre ++ [(j, ⟨x0, x1, x2, x3, x4, x5⟩)], ⟨(L.take j).reverse, by rw [List.map_append, List.append_assoc]; exact HF.out.1⟩, H3.out⟩⟩
end Go.Proofs.Ytemipepahglndaa
/- Maps of the plane: the program's own Through. -/

namespace Go.Proofs.Ytemipepahglndaa
open Go.RowKit Go.Shelf
attribute [local go_sem] Oper.semAt_some

theorem throughR_append : ∀ (a b : List Mp) (p : Pt), throughR (a ++ b) p = if (throughR a p).2 = 0 then throughR b (throughR a p).1 else throughR a p
  | [], b, p => by simp [throughR]
  | m :: a, b, p => by
    by_cases h : applyE m p = 0
    · simp only [List.cons_append, throughR, if_pos h]
      exact throughR_append a b _
    · simp only [List.cons_append, throughR, if_neg h]
theorem throughR_err : ∀ (a : List Mp) (p : Pt), (throughR a p).2 ≠ 0 → (throughR a p).1 = pt0
  | [], p, h => absurd rfl h
  | m :: a, p, h => by
    by_cases h1 : applyE m p = 0
    · simp only [throughR, if_pos h1] at h ⊢
      exact throughR_err a _ h
    · simp only [throughR, if_neg h1]
theorem throughR_snoc {a : List Mp} {p : Pt} (m : Mp) (h : (throughR a p).2 = 0) : (applyE m (throughR a p).1 = 0 → throughR (a ++ [m]) p = (applyP m (throughR a p).1, 0)) ∧ (applyE m (throughR a p).1 ≠ 0 → throughR (a ++ [m]) p = (pt0, applyE m (throughR a p).1)) := by
  rw [throughR_append, if_pos h]
  exact ⟨fun e => by simp only [throughR, if_pos e], fun e => by simp only [throughR, if_neg e]⟩
theorem throughR_stop {L a : List Mp} {p : Pt} (h : a <+: L) (h2 : (throughR a p).2 ≠ 0) : throughR L p = throughR a p := by
  obtain ⟨r, rfl⟩ := h
  rw [throughR_append, if_neg h2]

set_option maxHeartbeats 1000000 in
theorem back_in (n : Nat) (A : Option Addr) (k c : Nat) (w : World) :
    CallsIn Fence.wide n Try.prog 25 #[.slice A k c] w fun e w' => e = .returned (.func (.func 31) #[] #[.pointer (some ⟨w.heap.size, 0, none⟩)]) ∧ w' = w.alloc (.cells #[.slice A k c] 36) := by
  refine callsIn_of_wp Try.func25 rfl trivial ?_ rfl
  simp only [Try.ntmps25, List.size_toArray, List.length_cons, List.length_nil, Nat.reduceAdd, Nat.reduceSub, Array.replicate_succ, Array.replicate_zero, List.push_toArray, List.append_toArray, List.nil_append, List.cons_append]
  gi_wp2
  go_ret
  exact ⟨rfl, rfl⟩
theorem back_stops (n : Nat) (hn : 2 ≤ n) (Bn n₀ : Nat) (w0 : World) (A : Option Addr) (c : Nat) (L : List Mp) (hm : L.length ≤ 4611686018427387904) (hL : RdV w0 n₀ A (mpRow L))
    (w : World) (hw : Below n₀ w0 w) (hn₀ : n₀ ≤ w.heap.size) (hBox : Box w Bn 36 [.slice A L.length c]) :
    SeqStopsK Fence.wide n Try.prog 31 #[.pointer (some ⟨Bn, 0, none⟩)] (fun x : Nat × Mp => #[.int .i64 (x.1 : Int), mpV x.2]) (KpB n₀ Bn) (fun ys => ys.map Prod.snd = L.reverse) (fun pre => pre.map Prod.snd <+: L.reverse) L.length w := fun l J Jx W hW _ _ hY h0 =>
  back1_in n hn l Bn n₀ w0 A c L hm hL J Jx W (hw.trans (hW.mono hn₀)) (hBox.below hW hBox.lt) hY h0

theorem Box.put {W : World} {g D : Nat} {t : TypeId} {vs : List Value} (h : Box W g t vs) (hK : W.heap[D]? = some (.deferred (some []))) (o : Obj) : Box (W.putObj D o) g t vs := by
  unfold Box at *
  refine (World.putObj_heap_other (fun e => ?_)).trans h
  subst e
  rw [h] at hK
  cases hK
theorem newBox2 (v : World) (t : TypeId) (x y : Value) : ∃ Z, v.alloc (.cells #[x, y] t) = Z ∧ Box Z v.heap.size t [x, y] ∧ Below v.heap.size v Z :=
  ⟨_, rfl, Box.new v t [x, y], (Below.refl _ _).alloc (Nat.le_refl _) _⟩
/-- the boxes of Through -/
theorem th_boxes (x y : Int) (A : Option Addr) (k c : Nat) (w : World) : ∃ W, (((w.alloc (.cells #[.int .i64 x, .int .i64 y] 25)).alloc (.cells #[.int .i64 0, .int .i64 0] 25)).alloc (.cells #[.int .i64 0] 26)).alloc (.cells #[.slice A k c] 36) = W ∧
    Box W w.heap.size 25 [.int .i64 x, .int .i64 y] ∧ Box W (w.heap.size + 1) 25 [.int .i64 0, .int .i64 0] ∧ Box W (w.heap.size + 2) 26 [.int .i64 0] ∧ Box W (w.heap.size + 3) 36 [.slice A k c] ∧ Below w.heap.size w W ∧ W.heap.size = w.heap.size + 4 := by
  refine ⟨_, rfl, (((Box.new w _ [.int .i64 x, .int .i64 y]).alloc _).alloc _).alloc _, ((Box.at_new (w.alloc (.cells #[.int .i64 x, .int .i64 y] 25)) _ [.int .i64 0, .int .i64 0] (by simp)).alloc _).alloc _, (Box.at_new ((w.alloc (.cells #[.int .i64 x, .int .i64 y] 25)).alloc (.cells #[.int .i64 0, .int .i64 0] 25)) _ [.int .i64 0] (by simp)).alloc _, Box.at_new _ _ [.slice A k c] (by simp), ?_, by simp⟩
  exact ((((Below.refl _ w).alloc (Nat.le_refl _) _).alloc (by simp) _).alloc (by simp; omega) _).alloc (by simp; omega) _

set_option maxRecDepth 100000 in
set_option maxHeartbeats 4000000 in
theorem aff_Through (L : List Mp) (A : Option Addr) (c : Nat) (p : Pt) (w : World) (hL : RdV w w.heap.size A (mpRow L)) (hm : L.length ≤ 4611686018427387904) :
    Calls Try.prog 17 #[.slice A L.length c, ptV p] w fun e w' => e = .returned (.tuple #[ptV (throughM L p).1, .int .i64 (throughM L p).2]) ∧ Below w.heap.size w w' := by
  refine (callsIn_wide (n := 5)).1 ?_
  refine callsIn_of_wp_marks Try.func17 rfl trivial ?_ rfl
  simp only [Try.ntmps17, List.size_toArray, List.length_cons, List.length_nil, Nat.reduceAdd, Nat.reduceSub, Array.replicate_succ, Array.replicate_zero, List.push_toArray, List.append_toArray, List.nil_append, List.cons_append]
  obtain ⟨px, py⟩ := p
  obtain ⟨W0, hW0, b0, b1, b2, b3, hB0, hs0⟩ := th_boxes px py A L.length c w
  obtain ⟨X0, Y0, E0, hR⟩ : ∃ X Y E, throughR L.reverse ⟨px, py⟩ = (⟨X, Y⟩, E) := ⟨_, _, _, rfl⟩
  unfold throughM
  rw [hR]
  unfold ptV
  dsimp only
  gi_wp2_with first
    | (refine ⟨trivial, ?_⟩; gi_at_call 25; with_reducible refine (back_in _ _ _ _ _).mono ?_; rintro e w' ⟨rfl, rfl⟩)
  try rw [hW0]
  clear hW0
  have hs1 : w.heap.size ≤ W0.heap.size := hB0.size
  refine wpIn_rangeFunc_ownH rfl (by omega) (gf := 31) (lb := #[.pointer (some ⟨w.heap.size + 1 + 1 + 1, 0, none⟩)]) rfl trivial (enters_of Try.func31 (by kernel_rfl) rfl)
    (back_stops _ (by omega) (w.heap.size + 1 + 1 + 1) w.heap.size w A c L hm hL W0 hB0 hs1 b3) KpB.trans' (kpB_put hs1 (by omega)) (Below.refl _ _) (fun _ => rfl)
    (fun pre W => ((Box W w.heap.size 25 [.int .i64 (throughR (pre.map Prod.snd) ⟨px, py⟩).1.x, .int .i64 (throughR (pre.map Prod.snd) ⟨px, py⟩).1.y] ∧ Box W (w.heap.size + 1) 25 [.int .i64 0, .int .i64 0]) ∧ (Box W (w.heap.size + 2) 26 [.int .i64 0] ∧ Box W (w.heap.size + 3) 36 [.slice A L.length c])) ∧ ((throughR (pre.map Prod.snd) ⟨px, py⟩).2 = 0 ∧ Below w.heap.size w W))
    (fun d pre W => (Box W (w.heap.size + 1) 25 [.int .i64 0, .int .i64 0] ∧ Box W (w.heap.size + 2) 26 [.int .i64 (throughR (pre.map Prod.snd) ⟨px, py⟩).2]) ∧ ((d = .ret ∧ (throughR (pre.map Prod.snd) ⟨px, py⟩).2 ≠ 0) ∧ Below w.heap.size w W))
    (OwnFrom.and (OwnFrom.and (OwnFrom.and (Own.from (box_own _ _ _) _) (Own.from (box_own _ _ _) _)) (OwnFrom.and (Own.from (box_own _ _ _) _) (Own.from (box_own _ _ _) _))) (OwnFrom.and (ownFrom_pure _ _) (ownFrom_below (Nat.le_refl _) hs1)))
    (fun d => OwnFrom.and (OwnFrom.and (Own.from (box_own _ _ _) _) (Own.from (box_own _ _ _) _)) (OwnFrom.and (ownFrom_pure _ _) (ownFrom_below (Nat.le_refl _) hs1)))
    ⟨⟨⟨b0, b1⟩, b2, b3⟩, rfl, hB0⟩
    (fun x a' W => ∃ Bx, w.heap.size + 3 < Bx ∧ Box W Bx 23 [.int .i64 x.2.a, .int .i64 x.2.b, .int .i64 x.2.c, .int .i64 x.2.d, .int .i64 x.2.e, .int .i64 x.2.f] ∧ a' = { tmps := #[.slice A L.length c, .agg #[.int .i64 px, .int .i64 py], undef, .pointer (some ⟨w.heap.size, 0, none⟩), .pointer (some ⟨w.heap.size + 1, 0, none⟩), .pointer (some ⟨w.heap.size + 1 + 1, 0, none⟩), undef, .pointer (some ⟨Bx, 0, none⟩), undef, undef,
      .slice A L.length c, .func (.func 31) #[] #[.pointer (some ⟨w.heap.size + 1 + 1 + 1, 0, none⟩)], .int .i64 (x.1 : Int), mpV x.2, undef, undef, undef, undef, undef, undef, undef, undef, undef, undef, undef, undef], defers := [] })
    (fun x a' _ X Y row hs hg hr => by obtain ⟨Bx, h1, h2, h3⟩ := hs; exact ⟨Bx, h1, box_own Bx 23 (fun (_ : Unit) => _) () X Y row h2 hg (fun r e => (hr r e).2), h3⟩)
    ?assign ?body ?done ?stop
  case assign =>
    rintro l pre ⟨i, m⟩ W K ⟨⟨⟨c0, c1⟩, c2, c3⟩, hz, hB⟩ hK
    obtain ⟨m0, m1, m2, m3, m4, m5⟩ := m
    have HZ := Lib.hid hz
    clear hz
    unfold mpV at *
    dsimp only at *
    gi_wp2
    exact hK _ _ ((KeepsOthers.alloc _ _).from _) ⟨(Below.refl _ W).alloc hB.size _, (c3.alloc _).trans c3.symm⟩ ⟨⟨⟨c0.alloc _, c1.alloc _⟩, c2.alloc _, c3.alloc _⟩, HZ.out, hB.alloc hB.size _⟩ ⟨W.heap.size, c3.lt, Box.new W _ [.int .i64 m0, .int .i64 m1, .int .i64 m2, .int .i64 m3, .int .i64 m4, .int .i64 m5], rfl⟩
  case body =>
    rintro l pre ⟨i, m⟩ a' W hl - ⟨⟨⟨c0, c1⟩, c2, c3⟩, hz, hB⟩ ⟨Bx, hBx, bX, rfl⟩ -
    obtain ⟨hs, hn⟩ := throughR_snoc m hz
    have hmap : (pre ++ [(i, m)]).map Prod.snd = pre.map Prod.snd ++ [m] := by simp
    obtain ⟨qx, qy, hq⟩ : ∃ x y, (throughR (pre.map Prod.snd) ⟨px, py⟩).1 = ⟨x, y⟩ := ⟨_, _, rfl⟩
    rw [hq] at hs hn c0
    obtain ⟨X, Y, hXY⟩ : ∃ X Y, applyP m ⟨qx, qy⟩ = ⟨X, Y⟩ := ⟨_, _, rfl⟩
    obtain ⟨E, hE⟩ : ∃ E, applyE m ⟨qx, qy⟩ = E := ⟨_, rfl⟩
    have cA := fun V => aff_Apply m ⟨qx, qy⟩ V
    rw [hXY, hE] at cA
    rw [hE] at hs hn
    rw [hXY] at hs
    obtain ⟨Z, hZ⟩ : ∃ Z, throughR (pre.map Prod.snd ++ [m]) ⟨px, py⟩ = Z := ⟨_, rfl⟩
    rw [hZ] at hs hn
    have HI := Lib.hid (show throughR ((pre ++ [(i, m)]).map Prod.snd) ⟨px, py⟩ = Z by rw [hmap, hZ])
    obtain ⟨m0, m1, m2, m3, m4, m5⟩ := m
    clear hmap hq hXY hE hZ hz
    unfold mpV ptV at *
    dsimp only at *
    have HA := Lib.hid cA
    have HS := Lib.hid hs
    have HN := Lib.hid hn
    have HK := Lib.hid (And.intro (And.intro c0 c1) (And.intro (And.intro c2 c3) (And.intro hB hs1)))
    clear cA hs hn
    obtain ⟨x0, x1, x2, x3, x4, x5⟩ := Box.six bX
    obtain ⟨⟨q0, q1⟩, -⟩ := Box.pair c0
    have hn0 := hB.size
    clear hB bX c0 c1 c2 c3
    by_cases hE0 : E = 0
    · subst hE0
      gi_wp2_with first
        | (refine ⟨trivial, ?_⟩; gi_at_call 6; with_reducible refine (CallsIn.inRound l (callsIn_wide.2 (HA.out _))).mono ?_; rintro e w1 ⟨rfl, bA⟩
           obtain ⟨V1, hV1, k8, b8⟩ := newBox2 w1 25 (.int .i64 X) (.int .i64 Y)
           have bV := Lib.hid (bA.trans (b8.mono bA.size))
           obtain ⟨⟨z0, z1⟩, -⟩ := Box.pair k8
           have k0 := HK.out.1.1.below bV.out HK.out.1.1.lt
           obtain ⟨⟨y0, y1⟩, y2, y3⟩ := Box.pair k0)
        | (rw [hV1])
      obtain ⟨⟨d0, d1⟩, ⟨d2, d3⟩, hB, -⟩ := HK.out
      have e1 := d1.below bV.out d1.lt
      have e2 := d2.below bV.out d2.lt
      have e3 := d3.below bV.out d3.lt
      have bW := (((bV.out.mono hn0).setCell (p := ⟨w.heap.size, 0, none⟩) (Nat.le_refl _) (.int .i64 X)).setCell (p := ⟨w.heap.size, 1, none⟩) (Nat.le_refl _) (.int .i64 Y))
      have hS := HS.out trivial
      subst hS
      refine ⟨((below_others bV.out).trans ((KeepsOthers.setCell _ _ _).trans (KeepsOthers.setCell _ _ _))).from _, ⟨bW, ((e3.far (by simp) _).far (by simp) _).trans d3.symm⟩, ?_⟩
      have hI := HI.out
      simp only [hI]
      exact ⟨⟨⟨(k0.set 0 _).set 1 _, (e1.far (by simp) _).far (by simp) _⟩, (e2.far (by simp) _).far (by simp) _, (e3.far (by simp) _).far (by simp) _⟩, trivial, hB.trans bW⟩
    · have hE1 : (E == 0) = false := by simpa using hE0
      gi_wp2_with first
        | (refine ⟨trivial, ?_⟩; gi_at_call 6; with_reducible refine (CallsIn.inRound l (callsIn_wide.2 (HA.out _))).mono ?_; rintro e w1 ⟨rfl, bA⟩
           obtain ⟨V1, hV1, k8, b8⟩ := newBox2 w1 25 (.int .i64 X) (.int .i64 Y)
           have bV := Lib.hid (bA.trans (b8.mono bA.size))
           have k1 := HK.out.1.2.below bV.out HK.out.1.2.lt
           have k2 := HK.out.2.1.1.below bV.out HK.out.2.1.1.lt
           obtain ⟨⟨y0, y1⟩, y2, y3⟩ := Box.pair k1
           have t0 := k2.cell 0 rfl
           have t1 := k2.frozen 0)
        | (rw [hV1])
      obtain ⟨-, -, hB, -⟩ := HK.out
      have bW := (((bV.out.mono hn0).setCell (p := ⟨w.heap.size + 1, 0, none⟩) (by simp) (.int .i64 0)).setCell (p := ⟨w.heap.size + 1, 1, none⟩) (by simp) (.int .i64 0)).setCell (p := ⟨w.heap.size + 2, 0, none⟩) (by simp) (.int .i64 E)
      have hN := HN.out hE0
      subst hN
      refine ⟨((below_others bV.out).trans ((KeepsOthers.setCell _ _ _).trans ((KeepsOthers.setCell _ _ _).trans (KeepsOthers.setCell _ _ _)))).from _, ?_⟩
      have hI := HI.out
      simp only [hI]
      exact ⟨⟨((k1.set 0 _).set 1 _).far (by simp) _, ((k2.far (by simp) _).far (by simp) _).set 0 _⟩, ⟨trivial, hE0⟩, hB.trans bW⟩
  case done =>
    rintro D ys W hD hys ⟨⟨⟨c0, c1⟩, c2, c3⟩, hz, hB⟩ hK
    rw [hys, hR] at c0 hz
    dsimp only at c0 hz
    subst hz
    obtain ⟨⟨q0, q1⟩, -⟩ := Box.pair c0
    obtain ⟨⟨y0, y1⟩, y2, y3⟩ := Box.pair c1
    have t0 := c2.cell 0 rfl
    have t1 := c2.frozen 0
    have HK := Lib.hid (And.intro c1 (And.intro c2 hB))
    clear hR hys hB c0 c1 c2 c3
    gi_wp2
    have hK' := ((KeepsOthers.setCell W ⟨w.heap.size + 1, 0, none⟩ (.int .i64 X0)).trans ((KeepsOthers.setCell _ ⟨w.heap.size + 1, 1, none⟩ (.int .i64 Y0)).trans (KeepsOthers.setCell _ ⟨w.heap.size + 2, 0, none⟩ (.int .i64 0)))).same D _ hK rfl
    refine ⟨by simp, .inl ⟨_, _, rfl, run_takeDeferred hK', ?_⟩⟩
    have k1 := (((HK.out.1.set 0 (.int .i64 X0)).set 1 (.int .i64 Y0)).far (p := ⟨w.heap.size + 2, 0, none⟩) (by simp) (.int .i64 0)).put hK' (.deferred none)
    have k2 := (((HK.out.2.1.far (p := ⟨w.heap.size + 1, 0, none⟩) (by simp) (.int .i64 X0)).far (p := ⟨w.heap.size + 1, 1, none⟩) (by simp) (.int .i64 Y0)).set 0 (.int .i64 0)).put hK' (.deferred none)
    obtain ⟨⟨z0, z1⟩, -⟩ := Box.pair k1
    have z2 := k2.cell 0 rfl
    refine ⟨.tuple #[.agg #[.int .i64 X0, .int .i64 Y0], .int .i64 0], ?_, rfl, ?_⟩
    · simp [results, Try.f17, go_sem, z0, z1, z2]
    · exact (((HK.out.2.2.setCell (p := ⟨w.heap.size + 1, 0, none⟩) (by simp) _).setCell (p := ⟨w.heap.size + 1, 1, none⟩) (by simp) _).setCell (p := ⟨w.heap.size + 2, 0, none⟩) (by simp) _).trans (belowK_b (w := w) (Nat.le_refl _) _ D _ _ (by omega) hK' rfl rfl)
  case stop =>
    rintro D d pre W hD hpre ⟨⟨c1, c2⟩, ⟨rfl, hne⟩, hB⟩ hK
    have h1 := throughR_stop hpre hne
    have h2 := throughR_err _ _ hne
    rw [hR] at h1
    rw [← h1] at c2 h2
    dsimp only at c2 h2
    obtain ⟨rfl, rfl⟩ : X0 = 0 ∧ Y0 = 0 := by
      unfold pt0 at h2
      exact ⟨congrArg Pt.x h2, congrArg Pt.y h2⟩
    gi_wp2
    refine ⟨by simp, .inl ⟨_, _, rfl, run_takeDeferred hK, ?_⟩⟩
    obtain ⟨⟨z0, z1⟩, -⟩ := Box.pair (c1.put hK (.deferred none))
    have z2 := (c2.put hK (.deferred none)).cell 0 rfl
    refine ⟨.tuple #[.agg #[.int .i64 0, .int .i64 0], .int .i64 E0], ?_, rfl, ?_⟩
    · simp [results, Try.f17, go_sem, z0, z1, z2]
    · exact hB.trans (belowK_b (w := w) (Nat.le_refl _) _ D _ _ (by omega) hK rfl rfl)
end Go.Proofs.Ytemipepahglndaa
