/- Spots that a region, in whatever order, makes, and stores into variables of its own. -/
import Derived.Test.YtdmoibphidipeaaGreatDoorZFlD
import Derived.Test.YtdmoibphidipeaaGreatDoorZCsB
namespace Go.Proofs.YtdmoibphidipeaaGreatDoor
open Go.RowKit Num rows

def zeroS : List Value := [.bool false, .slice none 0 0, .slice none 0 0, .bool false, .slice none 0 0, .slice none 0 0]
theorem alloc_spot (w : World) : (Instr.alloc 41 true (.tuple #[])).run Tryz.prog w = .ok (.pointer (some ⟨w.heap.size, 0, none⟩)) (w.alloc (.cells zeroS.toArray 41)) := by
  unfold zeroS
  go_simp
theorem store_spot (w : World) (g : Nat) (x : Sp) (k : Blk w g 41 zeroS) : ∃ U, (Instr.storeAt 41 (.pointer (some ⟨g, 0, none⟩)) (spV x)).run Tryz.prog w = .ok () U ∧ U = ((((((w.setCell ⟨g, 0, none⟩ (.bool x.n1)).setCell ⟨g, 1, none⟩ (.slice x.A1 x.a1.length x.c1)).setCell ⟨g, 2, none⟩ (.slice x.D1 x.d1.length x.e1)).setCell ⟨g, 3, none⟩ (.bool x.n2)).setCell ⟨g, 4, none⟩ (.slice x.A2 x.a2.length x.c2)).setCell ⟨g, 5, none⟩ (.slice x.D2 x.d2.length x.e2)) := by
  unfold zeroS at k
  obtain ⟨⟨i0, i1, i2, i3, i4, i5⟩, ⟨j0, j1, j2, j3, j4, j5⟩⟩ := k.facts6
  refine ⟨_, ?_, rfl⟩
  unfold spV
  go_simp

/-- a value that is a reduced spot of this worth -/
def SpotIs (q : Qp) (u : Value) (w : World) : Prop := ∃ s : Sp, u = spV s ∧ s.Red 8 ∧ s.Ok w ∧ sw s = q
theorem Stored.ok {B g : Nat} {t : TypeId} {vs : List Value} {w U : World} (h : Stored B g t vs w U) {zs : List Value} (k : Blk w g t zs) (hz : ∀ v ∈ zs, ∀ kk n, v ≠ .int kk n) {s : Sp} (hs : s.Ok w) : s.Ok U :=
  ⟨⟨hs.1.1.off k hz h.other (Nat.le_of_eq h.size.symm), hs.1.2.off k hz h.other (Nat.le_of_eq h.size.symm)⟩, hs.2.1.off k hz h.other (Nat.le_of_eq h.size.symm), hs.2.2.off k hz h.other (Nat.le_of_eq h.size.symm)⟩
theorem zeroS_ints : ∀ v ∈ zeroS, ∀ kk n, v ≠ .int kk n := no_ints
theorem spots_go {ops : Array Oper} {Q : Exit → Act → World → Prop} {md : Region.Mode} {S : World → Prop} {n : Nat} (w0 : World)
    (ci ai si : Nat → Nat) (cs ps : Nat → Tmp) (kc kp : Nat → Nat) (ss : List Tmp)
    (Lf : (Nat → Bool) → (Nat → Bool) → (Nat → Bool) → Array Bool) (vsf : (Nat → Value) → (Nat → Value) → List Value) (f : Nat → FuncId) (args : Nat → Array Value) (q : Nat → Qp)
    {fuel : Nat} {l : Array Bool} {a0 : Act} {w : World}
    (hE : earlierM md ops = true) (hnd : ss.Nodup) (hsz : ∀ s ∈ ss, s < a0.tmps.size) (hlen : ∀ x p, ss.length = (vsf x p).length) (hls : ∀ c m s, (Lf c m s).size = ops.size)
    (hoc : ∀ j, j < n → ∃ o, ops[ci j]? = some o ∧ o.guard = none ∧ o.dst = some (cs j) ∧ ∀ vs V, (execOp (putAll a0 ss vs).eval o).run Tryz.prog V = .ok (.enter (f j) (args j)) V)
    (hoa : ∀ j, j < n → ∃ o, ops[ai j]? = some o ∧ o.guard = none ∧ o.dst = some (ps j) ∧ o.op = .alloc 41)
    (hos : ∀ j, j < n → ∃ o, ops[si j]? = some o ∧ o.guard = none ∧ o.dst = none ∧ o.op = .store 41 (.tmp (ps j)) (.tmp (cs j)))
    (hks : ∀ j, j < n → ss[kc j]? = some (cs j) ∧ ss[kp j]? = some (ps j))
    (hv : ∀ x p j, j < n → (vsf x p)[kc j]? = some (x j) ∧ (vsf x p)[kp j]? = some (p j))
    (hvs : ∀ x p j u, j < n → (vsf x p).set (kc j) u = vsf (setAt x j u) p ∧ (vsf x p).set (kp j) u = vsf x (setAt p j u))
    (hvx : ∀ x x' p p', (∀ j, j < n → x j = x' j ∧ p j = p' j) → vsf x p = vsf x' p')
    (hLg : ∀ c m s j, j < n → (Lf c m s).getD (ci j) true = c j ∧ (Lf c m s).getD (ai j) true = m j ∧ (Lf c m s).getD (si j) true = s j)
    (hLs : ∀ c m s j, j < n → (Lf c m s).setIfInBounds (ci j) true = Lf (setAt c j true) m s ∧ (Lf c m s).setIfInBounds (ai j) true = Lf c (setAt m j true) s ∧ (Lf c m s).setIfInBounds (si j) true = Lf c m (setAt s j true))
    (hall : ∀ c m s i, i < ops.size → (Lf c m s).getD i true = false → ∃ j, j < n ∧ (i = ci j ∨ i = ai j ∨ i = si j))
    (hws : ∀ j, j < n → waits md ops (si j) (ci j) = true ∧ waits md ops (si j) (ai j) = true)
    (hcall : ∀ j, j < n → ∀ V, Below w0.heap.size w0 V → Calls Tryz.prog (f j) (args j) V (AtTo (q j) V))
    (hS : ∀ w', Below w0.heap.size w0 w' → S w')
    (hl : l = Lf (fun _ => false) (fun _ => false) (fun _ => false)) (hu : unl l ≤ fuel) (hw : Below w0.heap.size w0 w) (x0 p0 : Nat → Value) (ha : putAll a0 ss (vsf x0 p0) = a0)
    (final : ∀ (x : Nat → Sp) (g : Nat → Nat) (w : World), Below w0.heap.size w0 w → (∀ j, j < n → ((x j).Red 8 ∧ (x j).Ok w ∧ sw (x j) = q j) ∧ w0.heap.size ≤ g j ∧ g j < w.heap.size ∧ Blk w (g j) 41 (x j).cells) → (∀ i j, i < n → j < n → i ≠ j → g i ≠ g j) → Q .normal (putAll a0 ss (vsf (fun j => spV (x j)) fun j => .pointer (some ⟨g j, 0, none⟩))) w) :
    wpAnyH Tryz.prog md ops Q S fuel l a0 w := by
  rw [← ha]
  refine define_walk (R := fun j => SpotIs (q j)) (cellsOf := cellsV) (zs := zeroS) (t := 41) w0 ci ai si cs ps kc kp ss a0 Lf vsf f args hE hnd hsz hlen hls hoc hoa hos hks hv hvs hvx hLg hLs hall hws
    (fun j hj V hV => (hcall j hj V hV).mono ?_) alloc_spot ?_ ?_ ?_ hS ?_ fuel l x0 p0 w hl hu hw
  · rintro e w' ⟨s, rfl, h1, h2, h3, h4⟩
    exact ⟨_, rfl, ⟨s, rfl, h1, h2, h3⟩, h4⟩
  · rintro j hj V g x ⟨s, rfl, h1, h2, h3⟩ hb hg
    obtain ⟨U, hU, e⟩ := store_spot V g s hb
    refine ⟨U, hU, ?_⟩
    subst e
    exact ⟨size_six _ _ _ _ _ _ _ _, heap_six _ _ _ _ _ _ _ _, Blk.six hb _ _ _ _ _ _, fun A hA => below_six hA hg _ _ _ _ _ _⟩
  · rintro j x V V' ⟨s, rfl, h1, h2, h3⟩ hb
    exact ⟨s, rfl, h1, h2.on hb, h3⟩
  · rintro j x V U g vs ⟨s, rfl, h1, h2, h3⟩ hb hst
    exact ⟨s, rfl, h1, hst.ok hb zeroS_ints h2, h3⟩
  · intro x g V hV hj hd
    have hch : ∀ j, ∃ z : Sp, j < n → x j = spV z ∧ z.Red 8 ∧ z.Ok V ∧ sw z = q j := fun j => by
      by_cases h : j < n
      · obtain ⟨s, h1, h2, h3, h4⟩ := (hj j h).1
        exact ⟨s, fun _ => ⟨h1, h2, h3, h4⟩⟩
      · exact ⟨default, fun k => absurd k h⟩
    obtain ⟨z, hz⟩ := Classical.axiomOfChoice hch
    rw [hvx x (fun j => spV (z j)) _ _ fun j h => ⟨(hz j h).1, rfl⟩]
    refine final z g V hV (fun j h => ?_) hd
    obtain ⟨-, k2, k3, k4⟩ := hj j h
    rw [(hz j h).1] at k4
    exact ⟨(hz j h).2, k2, k3, k4⟩
end Go.Proofs.YtdmoibphidipeaaGreatDoor
