/- A region that, in whatever order, makes one fraction out of two calls in a row, and stores it into a variable of its own. -/
import Derived.Test.YtdmoibphidipeaaGreatDoorZFlF
namespace Go.Proofs.YtdmoibphidipeaaGreatDoor
open Go Go.RowKit Num rows

theorem exec_move {P : Program} {ρ : Operand → Value} {o : Oper} {x : Operand} {u : Value} {w : World} (ho : o.op = .move x ∨ o.op = .assign x) (hx : ρ x = u) : (execOp ρ o).run P w = .ok (.value u) w := by
  unfold execOp
  rcases ho with ho | ho <;> simp only [ho, Sem.run_pure, hx]
theorem exec_extract {P : Program} {ρ : Operand → Value} {o : Oper} {x : Operand} {k : Nat} {t u : Value} {w : World} (ho : o.op = .extract x k) (hx : ρ x = t) (h : (Instr.extract t k).run P w = .ok u w) : (execOp ρ o).run P w = .ok (.value u) w := by
  unfold execOp
  simp only [ho, hx, Sem.run_bind, Sem.run_pure, h, Result.andThen_ok]
/-- the state of such a region: which operations have come up, and what they have left -/
def ChainI (w0 : World) (T : Fc → Prop) (U : Fc → Prop) (b3 b4 b5 b6 b7 b8 b9 b10 : Bool) (x1 x2 x3 x4 x5 p y : Value) (s u : Fc) (g : Nat) (w : World) : Prop :=
  Below w0.heap.size w0 w ∧ (b3 = true → x1 = fcV s ∧ T s ∧ s.Ok w) ∧ (b4 = true → b3 = true ∧ x2 = .tuple #[fcV u, .int .i64 0] ∧ U u ∧ u.Ok w) ∧ (b5 = true → b4 = true ∧ x3 = .tuple #[fcV u, .int .i64 0]) ∧ (b6 = true → b5 = true ∧ x4 = fcV u) ∧ (b7 = true → b5 = true ∧ x5 = .int .i64 0) ∧
    (b8 = true → p = .pointer (some ⟨g, 0, none⟩) ∧ w0.heap.size ≤ g ∧ g < w.heap.size ∧ Blk w g 39 (if b9 then u.cells else zeroF)) ∧ (b9 = true → b6 = true ∧ b8 = true) ∧ (b10 = true → b7 = true ∧ y = .int .i64 0)
theorem chain_go {ops : Array Oper} {Q : Exit → Act → World → Prop} {md : Region.Mode} {S : World → Prop} (w0 : World) (T U : Fc → Prop) (t1 t2 t3 t4 t5 tp ty : Tmp) (f1 f2 : FuncId) (A1 : Array Value) (A2 : Fc → Array Value)
    {fuel : Nat} {l : Array Bool} {a0 : Act} {w : World}
    (hE : earlierM md ops = true) (hn : ops.size = 11) (hnd : [t1, t2, t3, t4, t5, tp, ty].Nodup) (hsz : ∀ s ∈ [t1, t2, t3, t4, t5, tp, ty], s < a0.tmps.size)
    (h3 : ∃ o, ops[3]? = some o ∧ o.guard = none ∧ o.dst = some t1 ∧ ∀ vs V, (execOp (putAll a0 [t1, t2, t3, t4, t5, tp, ty] vs).eval o).run Tryz.prog V = .ok (.enter f1 A1) V)
    (h4 : ∃ o, ops[4]? = some o ∧ o.guard = none ∧ o.dst = some t2 ∧ ∀ s vs V, (putAll a0 [t1, t2, t3, t4, t5, tp, ty] vs).eval (.tmp t1) = fcV s → (execOp (putAll a0 [t1, t2, t3, t4, t5, tp, ty] vs).eval o).run Tryz.prog V = .ok (.enter f2 (A2 s)) V)
    (h5 : ∃ o, ops[5]? = some o ∧ o.guard = none ∧ o.dst = some t3 ∧ o.op = .move (.tmp t2))
    (h6 : ∃ o, ops[6]? = some o ∧ o.guard = none ∧ o.dst = some t4 ∧ o.op = .extract (.tmp t3) 0)
    (h7 : ∃ o, ops[7]? = some o ∧ o.guard = none ∧ o.dst = some t5 ∧ o.op = .extract (.tmp t3) 1)
    (h8 : ∃ o, ops[8]? = some o ∧ o.guard = none ∧ o.dst = some tp ∧ o.op = .alloc 39)
    (h9 : ∃ o, ops[9]? = some o ∧ o.guard = none ∧ o.dst = none ∧ o.op = .store 39 (.tmp tp) (.tmp t4))
    (h10 : ∃ o, ops[10]? = some o ∧ o.guard = none ∧ o.dst = some ty ∧ o.op = .assign (.tmp t5))
    (hw : (waits md ops 4 3 && waits md ops 5 4 && waits md ops 6 5 && waits md ops 7 5 && waits md ops 9 6 && waits md ops 9 8 && waits md ops 10 7) = true)
    (c1 : ∀ V, Below w0.heap.size w0 V → Calls Tryz.prog f1 A1 V fun e w' => ∃ s : Fc, e = .returned (fcV s) ∧ T s ∧ s.Ok w' ∧ Below V.heap.size V w')
    (c2 : ∀ s V, Below w0.heap.size w0 V → T s → s.Ok V → Calls Tryz.prog f2 (A2 s) V fun e w' => ∃ u : Fc, e = .returned (.tuple #[fcV u, .int .i64 0]) ∧ U u ∧ u.Ok w' ∧ Below V.heap.size V w')
    (hS : ∀ w', Below w0.heap.size w0 w' → S w')
    (hl : l = #[true, true, true, false, false, false, false, false, false, false, false]) (hu : 8 ≤ fuel) (hb : Below w0.heap.size w0 w) (y1 y2 y3 y4 y5 y6 y7 : Value) (ha : putAll a0 [t1, t2, t3, t4, t5, tp, ty] [y1, y2, y3, y4, y5, y6, y7] = a0)
    (final : ∀ (s u : Fc) (g : Nat) (w : World), Below w0.heap.size w0 w → U u → u.Ok w → w0.heap.size ≤ g → g < w.heap.size → Blk w g 39 u.cells → Q .normal (putAll a0 [t1, t2, t3, t4, t5, tp, ty] [fcV s, .tuple #[fcV u, .int .i64 0], .tuple #[fcV u, .int .i64 0], fcV u, .int .i64 0, .pointer (some ⟨g, 0, none⟩), .int .i64 0]) w) :
    wpAnyH Tryz.prog md ops Q S fuel l a0 w := by
  rw [← ha]
  simp only [Bool.and_eq_true] at hw
  obtain ⟨⟨⟨⟨⟨⟨w43, w54⟩, w65⟩, w75⟩, w96⟩, w98⟩, w107⟩ := hw
  have ev : ∀ (x1 x2 x3 x4 x5 p y : Value) (k : Nat) (s : Tmp) (v : Value), [t1, t2, t3, t4, t5, tp, ty][k]? = some s → [x1, x2, x3, x4, x5, p, y][k]? = some v → (putAll a0 [t1, t2, t3, t4, t5, tp, ty] [x1, x2, x3, x4, x5, p, y]).eval (.tmp s) = v := fun x1 x2 x3 x4 x5 p y k s v e1 e2 =>
    putAll_eval a0 _ _ k s v hnd e1 e2 (hsz s (List.mem_of_getElem? e1))
  have pu : ∀ (x1 x2 x3 x4 x5 p y : Value) (k : Nat) (s : Tmp) (v : Value), [t1, t2, t3, t4, t5, tp, ty][k]? = some s → (putAll a0 [t1, t2, t3, t4, t5, tp, ty] [x1, x2, x3, x4, x5, p, y]).put (some s) v = putAll a0 [t1, t2, t3, t4, t5, tp, ty] ([x1, x2, x3, x4, x5, p, y].set k v) := fun x1 x2 x3 x4 x5 p y k s v e1 =>
    putAll_put a0 _ _ k s v hnd rfl e1
  refine float_walk (ops := ops) (md := md) (S := S) (Q := Q) (P := Tryz.prog) [t1, t2, t3, t4, t5, tp, ty] a0 (Inv := fun l vs w => ∃ (b3 b4 b5 b6 b7 b8 b9 b10 : Bool) (x1 x2 x3 x4 x5 p y : Value) (s u : Fc) (g : Nat), l = #[true, true, true, b3, b4, b5, b6, b7, b8, b9, b10] ∧ vs = [x1, x2, x3, x4, x5, p, y] ∧ ChainI w0 T U b3 b4 b5 b6 b7 b8 b9 b10 x1 x2 x3 x4 x5 p y s u g w) hE ?_ ?_ fuel l _ w (by rw [hl, hn]; rfl) (by rw [hl]; exact hu)
    ⟨false, false, false, false, false, false, false, false, y1, y2, y3, y4, y5, y6, y7, default, default, 0, hl, rfl, hb, (fun h => by cases h), (fun h => by cases h), (fun h => by cases h), (fun h => by cases h), (fun h => by cases h), (fun h => by cases h), (fun h => by cases h), (fun h => by cases h)⟩
  · rintro l vs w ⟨b3, b4, b5, b6, b7, b8, b9, b10, x1, x2, x3, x4, x5, p, y, s, u, g, rfl, rfl, k0, k3, k4, k5, k6, k7, k8, k9, k10⟩ i hi hfree hwait
    have hi' : i < 11 := by rw [← hn]; exact hi
    clear hi
    obtain rfl | rfl | rfl | rfl | rfl | rfl | rfl | rfl | rfl | rfl | rfl : i = 0 ∨ i = 1 ∨ i = 2 ∨ i = 3 ∨ i = 4 ∨ i = 5 ∨ i = 6 ∨ i = 7 ∨ i = 8 ∨ i = 9 ∨ i = 10 := by omega
    · cases (show true = false from hfree)
    · cases (show true = false from hfree)
    · cases (show true = false from hfree)
    · obtain rfl : b3 = false := hfree
      obtain ⟨o, ho, hg, hd, hx⟩ := h3
      have n4 : b4 = false := by cases h : b4 with | false => rfl | true => cases (k4 h).1
      subst n4
      refine step_enter ho hg (hx _ w) ((c1 w k0).mono ?_)
      rintro e w' ⟨s', rfl, hT, hok, hb'⟩
      refine ⟨_, rfl, hS _ (k0.trans (hb'.mono k0.size)), _, by rw [hd]; exact pu x1 x2 x3 x4 x5 p y 0 t1 _ rfl, true, false, b5, b6, b7, b8, b9, b10, _, x2, x3, x4, x5, p, y, s', u, g, rfl, rfl, k0.trans (hb'.mono k0.size), fun _ => ⟨rfl, hT, hok⟩, (fun h => by cases h), k5, k6, k7, fun h => ?_, k9, k10⟩
      obtain ⟨m1, m2, m3, m4⟩ := k8 h
      exact ⟨m1, m2, Nat.lt_of_lt_of_le m3 hb'.size, m4.below hb' m3⟩
    · obtain rfl : b4 = false := hfree
      obtain ⟨o, ho, hg, hd, hx⟩ := h4
      obtain rfl : b3 = true := hwait 3 w43
      obtain ⟨q1, q2, q3⟩ := k3 rfl
      subst q1
      have n5 : b5 = false := by cases h : b5 with | false => rfl | true => cases (k5 h).1
      subst n5
      have n6 : b6 = false := by cases h : b6 with | false => rfl | true => cases (k6 h).1
      subst n6
      have n9 : b9 = false := by cases h : b9 with | false => rfl | true => cases (k9 h).1
      subst n9
      refine step_enter ho hg (hx s _ w (ev _ _ _ _ _ _ _ 0 t1 _ rfl rfl)) ((c2 s w k0 q2 q3).mono ?_)
      rintro e w' ⟨u', rfl, hU, hok, hb'⟩
      refine ⟨_, rfl, hS _ (k0.trans (hb'.mono k0.size)), _, by rw [hd]; exact pu _ x2 x3 x4 x5 p y 1 t2 _ rfl, true, true, false, false, b7, b8, false, b10, _, _, x3, x4, x5, p, y, s, u', g, rfl, rfl, k0.trans (hb'.mono k0.size), fun _ => ⟨rfl, q2, q3.on hb'⟩, fun _ => ⟨rfl, rfl, hU, hok⟩, (fun h => by cases h), (fun h => by cases h), k7, fun h => ?_, (fun h => by cases h), k10⟩
      obtain ⟨m1, m2, m3, m4⟩ := k8 h
      exact ⟨m1, m2, Nat.lt_of_lt_of_le m3 hb'.size, m4.below hb' m3⟩
    · obtain rfl : b5 = false := hfree
      obtain ⟨o, ho, hg, hd, hop⟩ := h5
      obtain rfl : b4 = true := hwait 4 w54
      obtain ⟨q0, q1, q2, q3⟩ := k4 rfl
      subst q1
      have n6 : b6 = false := by cases h : b6 with | false => rfl | true => cases (k6 h).1
      subst n6
      have n7 : b7 = false := by cases h : b7 with | false => rfl | true => cases (k7 h).1
      subst n7
      exact step_value ho hg (exec_move (.inl hop) (ev _ _ _ _ _ _ _ 1 t2 _ rfl rfl)) ⟨hS _ k0, _, by rw [hd]; exact pu x1 _ x3 x4 x5 p y 2 t3 _ rfl, b3, true, true, false, false, b8, b9, b10, x1, _, _, x4, x5, p, y, s, u, g, rfl, rfl, k0, k3, fun _ => ⟨q0, rfl, q2, q3⟩, fun _ => ⟨rfl, rfl⟩, (fun h => by cases h), (fun h => by cases h), k8, k9, k10⟩
    · obtain rfl : b6 = false := hfree
      obtain ⟨o, ho, hg, hd, hop⟩ := h6
      obtain rfl : b5 = true := hwait 5 w65
      obtain ⟨q0, q1⟩ := k5 rfl
      subst q1
      have n9 : b9 = false := by cases h : b9 with | false => rfl | true => cases (k9 h).1
      subst n9
      exact step_value ho hg (exec_extract hop (ev _ _ _ _ _ _ _ 2 t3 _ rfl rfl) (u := fcV u) (by go_simp)) ⟨hS _ k0, _, by rw [hd]; exact pu x1 x2 _ x4 x5 p y 3 t4 _ rfl, b3, b4, true, true, b7, b8, false, b10, x1, x2, _, _, x5, p, y, s, u, g, rfl, rfl, k0, k3, k4, fun _ => ⟨q0, rfl⟩, fun _ => ⟨rfl, rfl⟩, k7, k8, (fun h => by cases h), k10⟩
    · obtain rfl : b7 = false := hfree
      obtain ⟨o, ho, hg, hd, hop⟩ := h7
      obtain rfl : b5 = true := hwait 5 w75
      obtain ⟨q0, q1⟩ := k5 rfl
      subst q1
      have n10 : b10 = false := by cases h : b10 with | false => rfl | true => cases (k10 h).1
      subst n10
      exact step_value ho hg (exec_extract hop (ev _ _ _ _ _ _ _ 2 t3 _ rfl rfl) (u := .int .i64 0) (by go_simp)) ⟨hS _ k0, _, by rw [hd]; exact pu x1 x2 _ x4 x5 p y 4 t5 _ rfl, b3, b4, true, b6, true, b8, b9, false, x1, x2, _, x4, _, p, y, s, u, g, rfl, rfl, k0, k3, k4, fun _ => ⟨q0, rfl⟩, k6, fun _ => ⟨rfl, rfl⟩, k8, k9, (fun h => by cases h)⟩
    · obtain rfl : b8 = false := hfree
      obtain ⟨o, ho, hg, hd, hop⟩ := h8
      have n9 : b9 = false := by cases h : b9 with | false => rfl | true => cases (k9 h).2
      subst n9
      have hb' : Below w.heap.size w (w.alloc (.cells zeroF.toArray 39)) := (Below.refl _ _).alloc (Nat.le_refl _) _
      exact step_value ho hg (exec_alloc hop (alloc_frac w)) ⟨hS _ (k0.trans (hb'.mono k0.size)), _, by rw [hd]; exact pu x1 x2 x3 x4 x5 p y 5 tp _ rfl, b3, b4, b5, b6, b7, true, false, b10, x1, x2, x3, x4, x5, _, y, s, u, w.heap.size, rfl, rfl, k0.trans (hb'.mono k0.size), fun h => ⟨(k3 h).1, (k3 h).2.1, (k3 h).2.2.on hb'⟩, fun h => ⟨(k4 h).1, (k4 h).2.1, (k4 h).2.2.1, (k4 h).2.2.2.on hb'⟩, k5, k6, k7, fun _ => ⟨rfl, k0.size, by simp, Blk.new w _ zeroF⟩, (fun h => by cases h), k10⟩
    · obtain rfl : b9 = false := hfree
      obtain ⟨o, ho, hg, hd, hop⟩ := h9
      obtain rfl : b6 = true := hwait 6 w96
      obtain rfl : b8 = true := hwait 8 w98
      obtain ⟨m1, m2, m3, m4⟩ := k8 rfl
      obtain ⟨q0, q1⟩ := k6 rfl
      subst m1
      subst q1
      obtain ⟨V, hV, e⟩ := store_frac w g u m4
      have hst : Stored w0.heap.size g 39 u.cells w V := by
        subst e
        exact ⟨by simp [World.setCell], fun b hb' => (Below.heap_setCell _ _ _ b hb').trans ((Below.heap_setCell _ _ _ b hb').trans (Below.heap_setCell _ _ _ b hb')), Blk.trip m4 _ _ _, fun A hA => below_three hA m2 _ _ _⟩
      exact step_skip ho hg hd (exec_store hop (ev _ _ _ _ _ _ _ 5 tp _ rfl rfl) (ev _ _ _ _ _ _ _ 3 t4 _ rfl rfl) hV) ⟨hS _ (hst.below _ k0), _, rfl, b3, b4, b5, true, b7, true, true, b10, x1, x2, x3, _, x5, _, y, s, u, g, rfl, rfl, hst.below _ k0, fun h => ⟨(k3 h).1, (k3 h).2.1, hst.okF m4 zeroF_ints (k3 h).2.2⟩, fun h => ⟨(k4 h).1, (k4 h).2.1, (k4 h).2.2.1, hst.okF m4 zeroF_ints (k4 h).2.2.2⟩, k5, fun _ => ⟨q0, rfl⟩, k7, fun _ => ⟨rfl, m2, by rw [hst.size]; exact m3, hst.box⟩, fun _ => ⟨rfl, rfl⟩, k10⟩
    · obtain rfl : b10 = false := hfree
      obtain ⟨o, ho, hg, hd, hop⟩ := h10
      obtain rfl : b7 = true := hwait 7 w107
      obtain ⟨q0, q1⟩ := k7 rfl
      subst q1
      exact step_value ho hg (exec_move (.inr hop) (ev _ _ _ _ _ _ _ 4 t5 _ rfl rfl)) ⟨hS _ k0, _, by rw [hd]; exact pu x1 x2 x3 x4 _ p y 6 ty _ rfl, b3, b4, b5, b6, true, b8, b9, true, x1, x2, x3, x4, _, p, _, s, u, g, rfl, rfl, k0, k3, k4, k5, k6, fun _ => ⟨q0, rfl⟩, k8, k9, fun _ => ⟨rfl, rfl⟩⟩
  · rintro l vs w ⟨b3, b4, b5, b6, b7, b8, b9, b10, x1, x2, x3, x4, x5, p, y, s, u, g, rfl, rfl, k0, k3, k4, k5, k6, k7, k8, k9, k10⟩ hdone
    obtain rfl : b9 = true := hdone 9 (by omega)
    obtain rfl : b10 = true := hdone 10 (by omega)
    obtain rfl : b8 = true := (k9 rfl).2
    obtain ⟨m1, m2, m3, m4⟩ := k8 rfl
    obtain ⟨rfl, rfl⟩ := k10 rfl
    obtain ⟨-, rfl⟩ := k7 rfl
    obtain ⟨e6, -⟩ := k9 rfl
    obtain ⟨e5, rfl⟩ := k6 e6
    obtain ⟨e4, rfl⟩ := k5 e5
    obtain ⟨e3, rfl, hU, hok⟩ := k4 e4
    obtain ⟨rfl, -, -⟩ := k3 e3
    subst m1
    exact final s u g w k0 hU hok m2 m3 m4
end Go.Proofs.YtdmoibphidipeaaGreatDoor
