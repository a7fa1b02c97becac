/- A region that draws its order and defines variables of its own, all at once: calls, boxes, stores, whichever comes up. No program is named here. -/
import Derived.Test.YtdmoibphidipeaaGreatDoorZFlt
import Derived.Test.YtdmoibphidipeaaGreatDoorZOaA
namespace Go.Proofs.YtdmoibphidipeaaGreatDoor
open Go Go.RowKit

section
variable {P : Program} {ops : Array Oper} {Q : Exit → Act → World → Prop} {md : Region.Mode} {S : World → Prop}
def setAt {α : Type} (f : Nat → α) (j : Nat) (u : α) : Nat → α := fun i => if i = j then u else f i
theorem setAt_same {α : Type} (f : Nat → α) (j : Nat) (u : α) : setAt f j u j = u := by simp [setAt]
theorem setAt_other {α : Type} (f : Nat → α) {i j : Nat} (u : α) (h : i ≠ j) : setAt f j u i = f i := by simp [setAt, h]
def at2 {α : Type} (x0 x1 : α) : Nat → α
  | 0 => x0
  | _ => x1
def at4 {α : Type} (x0 x1 x2 x3 : α) : Nat → α
  | 0 => x0
  | 1 => x1
  | 2 => x2
  | _ => x3
/-- a value's cells -/
def cellsV : Value → List Value
  | .agg cs => cs.toList
  | v => [v]
/-- one group: a call's value, the box that is to hold it -/
def GrpD (t : TypeId) (zs : List Value) (R : Value → World → Prop) (cellsOf : Value → List Value) (B : Nat) (c m s : Bool) (x p : Value) (g : Nat) (w : World) : Prop :=
  (c = true → R x w) ∧ (m = true → p = .pointer (some ⟨g, 0, none⟩) ∧ B ≤ g ∧ g < w.heap.size ∧ Box w g t (if s then cellsOf x else zs))
/-- what a store into such a box leaves -/
structure Stored (B0 g : Nat) (t : TypeId) (vs : List Value) (w U : World) : Prop where
  size : U.heap.size = w.heap.size
  other : ∀ b, b ≠ g → U.heap[b]? = w.heap[b]?
  box : Box U g t vs
  below : ∀ A, Below B0 A w → Below B0 A U
theorem define_walk {n : Nat} {t : TypeId} {zs : List Value} {R : Nat → Value → World → Prop} {cellsOf : Value → List Value} (w0 : World)
    (ci ai si : Nat → Nat) (cs ps : Nat → Tmp) (kc kp : Nat → Nat) (ss : List Tmp) (a0 : Act)
    (Lf : (Nat → Bool) → (Nat → Bool) → (Nat → Bool) → Array Bool) (vsf : (Nat → Value) → (Nat → Value) → List Value) (f : Nat → FuncId) (args : Nat → Array Value)
    (hE : earlierM md ops = true) (hnd : ss.Nodup) (hsz : ∀ s ∈ ss, s < a0.tmps.size) (hlen : ∀ x p, ss.length = (vsf x p).length) (hls : ∀ c m s, (Lf c m s).size = ops.size)
    (hoc : ∀ j, j < n → ∃ o, ops[ci j]? = some o ∧ o.guard = none ∧ o.dst = some (cs j) ∧ ∀ vs V, (execOp (putAll a0 ss vs).eval o).run P V = .ok (.enter (f j) (args j)) V)
    (hoa : ∀ j, j < n → ∃ o, ops[ai j]? = some o ∧ o.guard = none ∧ o.dst = some (ps j) ∧ o.op = .alloc t)
    (hos : ∀ j, j < n → ∃ o, ops[si j]? = some o ∧ o.guard = none ∧ o.dst = none ∧ o.op = .store t (.tmp (ps j)) (.tmp (cs j)))
    (hks : ∀ j, j < n → ss[kc j]? = some (cs j) ∧ ss[kp j]? = some (ps j))
    (hv : ∀ x p j, j < n → (vsf x p)[kc j]? = some (x j) ∧ (vsf x p)[kp j]? = some (p j))
    (hvs : ∀ x p j u, j < n → (vsf x p).set (kc j) u = vsf (setAt x j u) p ∧ (vsf x p).set (kp j) u = vsf x (setAt p j u))
    (hvx : ∀ x x' p p', (∀ j, j < n → x j = x' j ∧ p j = p' j) → vsf x p = vsf x' p')
    (hLg : ∀ c m s j, j < n → (Lf c m s).getD (ci j) true = c j ∧ (Lf c m s).getD (ai j) true = m j ∧ (Lf c m s).getD (si j) true = s j)
    (hLs : ∀ c m s j, j < n → (Lf c m s).setIfInBounds (ci j) true = Lf (setAt c j true) m s ∧ (Lf c m s).setIfInBounds (ai j) true = Lf c (setAt m j true) s ∧ (Lf c m s).setIfInBounds (si j) true = Lf c m (setAt s j true))
    (hall : ∀ c m s i, i < ops.size → (Lf c m s).getD i true = false → ∃ j, j < n ∧ (i = ci j ∨ i = ai j ∨ i = si j))
    (hws : ∀ j, j < n → waits md ops (si j) (ci j) = true ∧ waits md ops (si j) (ai j) = true)
    (hcall : ∀ j, j < n → ∀ V, Below w0.heap.size w0 V → Calls P (f j) (args j) V fun e w' => ∃ u, e = .returned u ∧ R j u w' ∧ Below V.heap.size V w')
    (halloc : ∀ w, (Instr.alloc t true (.tuple #[])).run P w = .ok (.pointer (some ⟨w.heap.size, 0, none⟩)) (w.alloc (.cells zs.toArray t)))
    (hstore : ∀ j, j < n → ∀ w g x, R j x w → Box w g t zs → w0.heap.size ≤ g → ∃ U, (Instr.storeAt t (.pointer (some ⟨g, 0, none⟩)) x).run P w = .ok () U ∧ Stored w0.heap.size g t (cellsOf x) w U)
    (hRb : ∀ j x w w', R j x w → Below w.heap.size w w' → R j x w')
    (hRo : ∀ j x w U g vs, R j x w → Box w g t zs → Stored w0.heap.size g t vs w U → R j x U)
    (hS : ∀ w', Below w0.heap.size w0 w' → S w')
    (final : ∀ (x : Nat → Value) (g : Nat → Nat) (w : World), Below w0.heap.size w0 w → (∀ j, j < n → R j (x j) w ∧ w0.heap.size ≤ g j ∧ g j < w.heap.size ∧ Box w (g j) t (cellsOf (x j))) → (∀ i j, i < n → j < n → i ≠ j → g i ≠ g j) → Q .normal (putAll a0 ss (vsf x fun j => .pointer (some ⟨g j, 0, none⟩))) w) :
    ∀ (fuel : Nat) (l : Array Bool) (x p : Nat → Value) (w : World), l = Lf (fun _ => false) (fun _ => false) (fun _ => false) → unl l ≤ fuel → Below w0.heap.size w0 w → wpAnyH P md ops Q S fuel l (putAll a0 ss (vsf x p)) w := by
  have lt_hoc : ∀ j, j < n → ci j < ops.size := fun j hj => by obtain ⟨o, ho, -⟩ := hoc j hj; exact (Array.getElem?_eq_some_iff.1 ho).1
  have lt_hoa : ∀ j, j < n → ai j < ops.size := fun j hj => by obtain ⟨o, ho, -⟩ := hoa j hj; exact (Array.getElem?_eq_some_iff.1 ho).1
  have lt_hos : ∀ j, j < n → si j < ops.size := fun j hj => by obtain ⟨o, ho, -⟩ := hos j hj; exact (Array.getElem?_eq_some_iff.1 ho).1
  intro fuel l x p w hl hu hw
  refine float_walk (ops := ops) (md := md) (S := S) (Q := Q) (P := P) ss a0 (Inv := fun l vs w => ∃ (c m s : Nat → Bool) (x p : Nat → Value) (g : Nat → Nat), l = Lf c m s ∧ vs = vsf x p ∧ Below w0.heap.size w0 w ∧ (∀ j, j < n → GrpD t zs (R j) cellsOf w0.heap.size (c j) (m j) (s j) (x j) (p j) (g j) w) ∧ (∀ j, j < n → s j = true → c j = true ∧ m j = true) ∧ (∀ i j, i < n → j < n → i ≠ j → m i = true → m j = true → g i ≠ g j)) hE ?_ ?_ fuel l _ w (by rw [hl]; exact hls _ _ _) hu
    ⟨_, _, _, x, p, fun _ => 0, hl, rfl, hw, fun j _ => ⟨fun h => (by cases h), fun h => (by cases h)⟩, fun j _ h => (by cases h), fun i j _ _ _ h => (by cases h)⟩
  · rintro l vs w ⟨c, m, s, x, p, g, rfl, rfl, hb, hG, hsc, hd⟩ i hi hfree hwait
    obtain ⟨j, hj, rfl | rfl | rfl⟩ := hall c m s i hi hfree
    · -- the call
      obtain ⟨o, ho, hg, hdst, hin⟩ := hoc j hj
      rw [(hLg c m s j hj).1] at hfree
      have hsj : s j = false := by
        cases hc : s j with
        | false => rfl
        | true => rw [(hsc j hj hc).1] at hfree; cases hfree
      refine step_enter ho hg (hin _ w) ((hcall j hj w hb).mono ?_)
      rintro e w' ⟨u, rfl, hR, hb'⟩
      refine ⟨u, rfl, hS _ (hb.trans (hb'.mono hb.size)), _, ?_, setAt c j true, m, s, setAt x j u, p, g, (hLs c m s j hj).1, rfl, hb.trans (hb'.mono hb.size), fun k hk => ?_, fun k hk h => ?_, hd⟩
      · rw [hdst, putAll_put a0 ss (vsf x p) (kc j) (cs j) u hnd (hlen x p) (hks j hj).1, (hvs x p j u hj).1]
      · by_cases e : k = j
        · subst e
          rw [setAt_same, setAt_same]
          refine ⟨fun _ => hR, fun hm => ?_⟩
          obtain ⟨k1, k2, k3, k4⟩ := (hG k hk).2 hm
          rw [hsj] at k4 ⊢
          exact ⟨k1, k2, Nat.lt_of_lt_of_le k3 hb'.size, k4.below hb' k3⟩
        · rw [setAt_other _ _ e, setAt_other _ _ e]
          refine ⟨fun hc => hRb k _ _ _ ((hG k hk).1 hc) hb', fun hm => ?_⟩
          obtain ⟨k1, k2, k3, k4⟩ := (hG k hk).2 hm
          exact ⟨k1, k2, Nat.lt_of_lt_of_le k3 hb'.size, k4.below hb' k3⟩
      · by_cases e : k = j
        · subst e; rw [hsj] at h; cases h
        · rw [setAt_other _ _ e]; exact hsc k hk h
    · -- the box
      obtain ⟨o, ho, hg, hdst, hop⟩ := hoa j hj
      rw [(hLg c m s j hj).2.1] at hfree
      have hsj : s j = false := by
        cases hc : s j with
        | false => rfl
        | true => rw [(hsc j hj hc).2] at hfree; cases hfree
      have hb' : Below w.heap.size w (w.alloc (.cells zs.toArray t)) := (Below.refl _ _).alloc (Nat.le_refl _) _
      refine step_value ho hg (exec_alloc hop (halloc w)) ⟨hS _ (hb.trans (hb'.mono hb.size)), _, ?_, c, setAt m j true, s, x, setAt p j (.pointer (some ⟨w.heap.size, 0, none⟩)), setAt g j w.heap.size, (hLs c m s j hj).2.1, rfl, hb.trans (hb'.mono hb.size), fun k hk => ?_, fun k hk h => ?_, fun a b ha hb2 hne h1 h2 => ?_⟩
      · rw [hdst, putAll_put a0 ss (vsf x p) (kp j) (ps j) _ hnd (hlen x p) (hks j hj).2, (hvs x p j _ hj).2]
      · by_cases e : k = j
        · subst e
          rw [setAt_same, setAt_same, setAt_same, hsj]
          exact ⟨fun hc => hRb k _ _ _ ((hG k hk).1 hc) hb', fun _ => ⟨rfl, hb.size, by simp, Box.new w t zs⟩⟩
        · rw [setAt_other _ _ e, setAt_other _ _ e, setAt_other _ _ e]
          refine ⟨fun hc => hRb k _ _ _ ((hG k hk).1 hc) hb', fun hm => ?_⟩
          obtain ⟨k1, k2, k3, k4⟩ := (hG k hk).2 hm
          exact ⟨k1, k2, Nat.lt_of_lt_of_le k3 hb'.size, k4.below hb' k3⟩
      · by_cases e : k = j
        · subst e; rw [hsj] at h; cases h
        · rw [setAt_other _ _ e]; exact hsc k hk h
      · by_cases ea : a = j
        · by_cases eb : b = j
          · exact absurd (ea.trans eb.symm) hne
          · subst ea
            rw [setAt_same, setAt_other _ _ eb]
            rw [setAt_other _ _ eb] at h2
            have := ((hG b hb2).2 h2).2.2.1
            omega
        · by_cases eb : b = j
          · subst eb
            rw [setAt_same, setAt_other _ _ ea]
            rw [setAt_other _ _ ea] at h1
            have := ((hG a ha).2 h1).2.2.1
            omega
          · rw [setAt_other _ _ ea, setAt_other _ _ eb]
            rw [setAt_other _ _ ea] at h1
            rw [setAt_other _ _ eb] at h2
            exact hd a b ha hb2 hne h1 h2
    · -- the store
      obtain ⟨o, ho, hg, hdst, hop⟩ := hos j hj
      rw [(hLg c m s j hj).2.2] at hfree
      have hc : c j = true := by
        have h1 := hwait _ (hws j hj).1
        have h2 := (hLg c m s j hj).1
        rw [← h2]
        have hlt : ci j < (Lf c m s).size := by rw [hls]; exact (lt_hoc j hj)
        rw [getD_any hlt true false]
        exact h1
      have hm : m j = true := by
        have h1 := hwait _ (hws j hj).2
        have h2 := (hLg c m s j hj).2.1
        rw [← h2]
        have hlt : ai j < (Lf c m s).size := by rw [hls]; exact (lt_hoa j hj)
        rw [getD_any hlt true false]
        exact h1
      obtain ⟨k1, k2, k3, k4⟩ := (hG j hj).2 hm
      rw [hfree] at k4
      have hR := (hG j hj).1 hc
      obtain ⟨U, hU, hst⟩ := hstore j hj w (g j) (x j) hR k4 k2
      have e1 : (putAll a0 ss (vsf x p)).eval (.tmp (ps j)) = .pointer (some ⟨g j, 0, none⟩) := by
        rw [← k1]
        exact putAll_eval a0 ss _ (kp j) _ _ hnd (hks j hj).2 (hv x p j hj).2 (hsz _ (List.mem_of_getElem? (hks j hj).2))
      have e2 : (putAll a0 ss (vsf x p)).eval (.tmp (cs j)) = x j := putAll_eval a0 ss _ (kc j) _ _ hnd (hks j hj).1 (hv x p j hj).1 (hsz _ (List.mem_of_getElem? (hks j hj).1))
      refine step_skip ho hg hdst (exec_store hop e1 e2 hU) ⟨hS _ (hst.below _ hb), _, rfl, c, m, setAt s j true, x, p, g, (hLs c m s j hj).2.2, rfl, hst.below _ hb, fun k hk => ?_, fun k hk h => ?_, hd⟩
      · refine ⟨fun hck => hRo k _ _ _ _ _ ((hG k hk).1 hck) k4 hst, fun hmk => ?_⟩
        obtain ⟨l1, l2, l3, l4⟩ := (hG k hk).2 hmk
        refine ⟨l1, l2, by rw [hst.size]; exact l3, ?_⟩
        by_cases e : k = j
        · subst e
          rw [setAt_same]
          exact hst.box
        · rw [setAt_other _ _ e]
          exact (hst.other _ (hd k j hk hj e hmk hm)).trans l4
      · by_cases e : k = j
        · subst e; exact ⟨hc, hm⟩
        · rw [setAt_other _ _ e] at h; exact hsc k hk h
  · rintro l vs w ⟨c, m, s, x, p, g, rfl, rfl, hb, hG, hsc, hd⟩ hdone
    have hc : ∀ j, j < n → c j = true := fun j hj => by rw [← (hLg c m s j hj).1]; exact hdone _ (lt_hoc j hj)
    have hm : ∀ j, j < n → m j = true := fun j hj => by rw [← (hLg c m s j hj).2.1]; exact hdone _ (lt_hoa j hj)
    have hs : ∀ j, j < n → s j = true := fun j hj => by rw [← (hLg c m s j hj).2.2]; exact hdone _ (lt_hos j hj)
    have e : vsf x p = vsf x fun j => .pointer (some ⟨g j, 0, none⟩) := hvx _ _ _ _ fun j hj => ⟨rfl, ((hG j hj).2 (hm j hj)).1⟩
    rw [e]
    refine final x g w hb (fun j hj => ?_) fun a b ha hb2 hne => hd a b ha hb2 hne (hm a ha) (hm b hb2)
    obtain ⟨k1, k2, k3, k4⟩ := (hG j hj).2 (hm j hj)
    rw [hs j hj] at k4
    exact ⟨(hG j hj).1 (hc j hj), k2, k3, k4⟩
end
end Go.Proofs.YtdmoibphidipeaaGreatDoor
