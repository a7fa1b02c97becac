/- Fractions that a region, in whatever order, makes, and stores into variables of its own. -/
import Derived.Test.YtdmoibphidipeaaGreatDoorZFlS
namespace Go.Proofs.YtdmoibphidipeaaGreatDoor
open Go.RowKit Num rows

/-- a fraction as it lies in memory -/
structure Fc where
  n : Bool
  a : List Nat
  A : Option Addr
  c : Nat
  d : List Nat
  D : Option Addr
  e : Nat
deriving Inhabited
def Fc.cells (s : Fc) : List Value := [.bool s.n, .slice s.A s.a.length s.c, .slice s.D s.d.length s.e]
def fcV (s : Fc) : Value := .agg #[.bool s.n, .slice s.A s.a.length s.c, .slice s.D s.d.length s.e]
def Fc.Ok (w : World) (s : Fc) : Prop := Rd w (fun g => g < w.heap.size) .u32 s.A s.a ∧ Rd w (fun g => g < w.heap.size) .u32 s.D s.d
def Fc.Is (P : Int) (Q m : Nat) (s : Fc) : Prop := SV P Q m s.n s.a s.c s.d s.e
theorem Fc.Ok.on {w w' : World} {s : Fc} (h : s.Ok w) (b : Below w.heap.size w w') : s.Ok w' := ⟨h.1.on b, h.2.on b⟩
def zeroF : List Value := [.bool false, .slice none 0 0, .slice none 0 0]
theorem ints_three {x : Bool} {p q : Option Addr} {i0 i1 i2 i3 : Nat} : ∀ v ∈ [Value.bool x, .slice p i0 i1, .slice q i2 i3], ∀ kk n, v ≠ .int kk n := by
  intro v hv kk n h
  subst h
  simp at hv
theorem zeroF_ints : ∀ v ∈ zeroF, ∀ kk n, v ≠ .int kk n := ints_three
theorem alloc_frac (w : World) : (Instr.alloc 39 true (.tuple #[])).run Tryz.prog w = .ok (.pointer (some ⟨w.heap.size, 0, none⟩)) (w.alloc (.cells zeroF.toArray 39)) := by
  unfold zeroF
  go_simp
theorem store_frac (w : World) (g : Nat) (x : Fc) (k : Blk w g 39 zeroF) : ∃ U, (Instr.storeAt 39 (.pointer (some ⟨g, 0, none⟩)) (fcV x)).run Tryz.prog w = .ok () U ∧ U = (((w.setCell ⟨g, 0, none⟩ (.bool x.n)).setCell ⟨g, 1, none⟩ (.slice x.A x.a.length x.c)).setCell ⟨g, 2, none⟩ (.slice x.D x.d.length x.e)) := by
  unfold zeroF at k
  obtain ⟨i0, i1, i2, j0, j1, j2⟩ := k.facts
  refine ⟨_, ?_, rfl⟩
  unfold fcV
  go_simp
def FracIs (P : Int) (Q : Nat) (u : Value) (w : World) : Prop := ∃ s : Fc, u = fcV s ∧ s.Is P Q 8 ∧ s.Ok w
theorem Stored.okF {B g : Nat} {t : TypeId} {vs : List Value} {w U : World} (h : Stored B g t vs w U) {zs : List Value} (k : Blk w g t zs) (hz : ∀ v ∈ zs, ∀ kk n, v ≠ .int kk n) {s : Fc} (hs : s.Ok w) : s.Ok U :=
  ⟨hs.1.off k hz h.other (Nat.le_of_eq h.size.symm), hs.2.off k hz h.other (Nat.le_of_eq h.size.symm)⟩
theorem fracs_go {ops : Array Oper} {Q : Exit → Act → World → Prop} {md : Region.Mode} {S : World → Prop} {n : Nat} (w0 : World)
    (ci ai si : Nat → Nat) (cs ps : Nat → Tmp) (kc kp : Nat → Nat) (ss : List Tmp)
    (Lf : (Nat → Bool) → (Nat → Bool) → (Nat → Bool) → Array Bool) (vsf : (Nat → Value) → (Nat → Value) → List Value) (f : Nat → FuncId) (args : Nat → Array Value) (q : Nat → Int × Nat)
    {fuel : Nat} {l : Array Bool} {a0 : Act} {w : World}
    (hE : earlierM md ops = true) (hnd : ss.Nodup) (hsz : ∀ s ∈ ss, s < a0.tmps.size) (hlen : ∀ x p, ss.length = (vsf x p).length) (hls : ∀ c m s, (Lf c m s).size = ops.size)
    (hoc : ∀ j, j < n → ∃ o, ops[ci j]? = some o ∧ o.guard = none ∧ o.dst = some (cs j) ∧ ∀ vs V, (execOp (putAll a0 ss vs).eval o).run Tryz.prog V = .ok (.enter (f j) (args j)) V)
    (hoa : ∀ j, j < n → ∃ o, ops[ai j]? = some o ∧ o.guard = none ∧ o.dst = some (ps j) ∧ o.op = .alloc 39)
    (hos : ∀ j, j < n → ∃ o, ops[si j]? = some o ∧ o.guard = none ∧ o.dst = none ∧ o.op = .store 39 (.tmp (ps j)) (.tmp (cs j)))
    (hks : ∀ j, j < n → ss[kc j]? = some (cs j) ∧ ss[kp j]? = some (ps j))
    (hv : ∀ x p j, j < n → (vsf x p)[kc j]? = some (x j) ∧ (vsf x p)[kp j]? = some (p j))
    (hvs : ∀ x p j u, j < n → (vsf x p).set (kc j) u = vsf (setAt x j u) p ∧ (vsf x p).set (kp j) u = vsf x (setAt p j u))
    (hvx : ∀ x x' p p', (∀ j, j < n → x j = x' j ∧ p j = p' j) → vsf x p = vsf x' p')
    (hLg : ∀ c m s j, j < n → (Lf c m s).getD (ci j) true = c j ∧ (Lf c m s).getD (ai j) true = m j ∧ (Lf c m s).getD (si j) true = s j)
    (hLs : ∀ c m s j, j < n → (Lf c m s).setIfInBounds (ci j) true = Lf (setAt c j true) m s ∧ (Lf c m s).setIfInBounds (ai j) true = Lf c (setAt m j true) s ∧ (Lf c m s).setIfInBounds (si j) true = Lf c m (setAt s j true))
    (hall : ∀ c m s i, i < ops.size → (Lf c m s).getD i true = false → ∃ j, j < n ∧ (i = ci j ∨ i = ai j ∨ i = si j))
    (hws : ∀ j, j < n → waits md ops (si j) (ci j) = true ∧ waits md ops (si j) (ai j) = true)
    (hcall : ∀ j, j < n → ∀ V, Below w0.heap.size w0 V → Calls Tryz.prog (f j) (args j) V (Gv (SV (q j).1 (q j).2 8) V))
    (hS : ∀ w', Below w0.heap.size w0 w' → S w')
    (hl : l = Lf (fun _ => false) (fun _ => false) (fun _ => false)) (hu : unl l ≤ fuel) (hw : Below w0.heap.size w0 w) (x0 p0 : Nat → Value) (ha : putAll a0 ss (vsf x0 p0) = a0)
    (final : ∀ (x : Nat → Fc) (g : Nat → Nat) (w : World), Below w0.heap.size w0 w → (∀ j, j < n → ((x j).Is (q j).1 (q j).2 8 ∧ (x j).Ok w) ∧ w0.heap.size ≤ g j ∧ g j < w.heap.size ∧ Blk w (g j) 39 (x j).cells) → (∀ i j, i < n → j < n → i ≠ j → g i ≠ g j) → Q .normal (putAll a0 ss (vsf (fun j => fcV (x j)) fun j => .pointer (some ⟨g j, 0, none⟩))) w) :
    wpAnyH Tryz.prog md ops Q S fuel l a0 w := by
  rw [← ha]
  refine define_walk (R := fun j => FracIs (q j).1 (q j).2) (cellsOf := cellsV) (zs := zeroF) (t := 39) w0 ci ai si cs ps kc kp ss a0 Lf vsf f args hE hnd hsz hlen hls hoc hoa hos hks hv hvs hvx hLg hLs hall hws
    (fun j hj V hV => (hcall j hj V hV).mono ?_) alloc_frac ?_ ?_ ?_ hS ?_ fuel l x0 p0 w hl hu hw
  · rintro e w' ⟨n, a, A, ca, d, D, cd, rfl, h1, h2, h3, h4⟩
    exact ⟨_, rfl, ⟨⟨n, a, A, ca, d, D, cd⟩, rfl, h1, h2, h3⟩, h4⟩
  · rintro j hj V g x ⟨s, rfl, h1, h2⟩ hb hg
    obtain ⟨U, hU, e⟩ := store_frac V g s hb
    refine ⟨U, hU, ?_⟩
    subst e
    exact ⟨by simp [World.setCell], fun b hb' => (Below.heap_setCell _ _ _ b hb').trans ((Below.heap_setCell _ _ _ b hb').trans (Below.heap_setCell _ _ _ b hb')), Blk.trip hb _ _ _, fun A hA => below_three hA hg _ _ _⟩
  · rintro j x V V' ⟨s, rfl, h1, h2⟩ hb
    exact ⟨s, rfl, h1, h2.on hb⟩
  · rintro j x V U g vs ⟨s, rfl, h1, h2⟩ hb hst
    exact ⟨s, rfl, h1, hst.okF hb zeroF_ints h2⟩
  · intro x g V hV hj hd
    have hch : ∀ j, ∃ z : Fc, j < n → x j = fcV z ∧ z.Is (q j).1 (q j).2 8 ∧ z.Ok V := fun j => by
      by_cases h : j < n
      · obtain ⟨s, h1, h2, h3⟩ := (hj j h).1
        exact ⟨s, fun _ => ⟨h1, h2, h3⟩⟩
      · exact ⟨default, fun k => absurd k h⟩
    obtain ⟨z, hz⟩ := Classical.axiomOfChoice hch
    rw [hvx x (fun j => fcV (z j)) _ _ fun j h => ⟨(hz j h).1, rfl⟩]
    refine final z g V hV (fun j h => ?_) hd
    obtain ⟨-, k2, k3, k4⟩ := hj j h
    rw [(hz j h).1] at k4
    exact ⟨(hz j h).2, k2, k3, k4⟩
end Go.Proofs.YtdmoibphidipeaaGreatDoor
