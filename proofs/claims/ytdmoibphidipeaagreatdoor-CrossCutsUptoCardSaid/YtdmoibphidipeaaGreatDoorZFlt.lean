/- A region that draws its order, walked by states: whichever operation comes up, one relation is kept. No program is named here. -/
import Derived.Test.YtdmoibphidipeaaGreatDoorZPzD
import Derived.RegionTactic
namespace Go.Proofs.YtdmoibphidipeaaGreatDoor
open Go

/-- values laid into slots -/
def putAll (a : Act) : List Tmp → List Value → Act
  | s :: ss, v :: vs => (putAll a ss vs).put (some s) v
  | _, _ => a
theorem put_put (a : Act) (s : Tmp) (u v : Value) : (a.put (some s) u).put (some s) v = a.put (some s) v := by
  unfold Act.put
  simp
theorem putAll_put (a : Act) : ∀ (ss : List Tmp) (vs : List Value) (k : Nat) (s : Tmp) (v : Value), ss.Nodup → ss.length = vs.length → ss[k]? = some s → (putAll a ss vs).put (some s) v = putAll a ss (vs.set k v)
  | [], _, k, s, v, _, _, h => by simp at h
  | _ :: _, [], _, _, _, _, hl, _ => by simp at hl
  | t :: ss, u :: vs, 0, s, v, _, _, h => by
    simp at h
    subst h
    exact put_put _ _ _ _
  | t :: ss, u :: vs, k + 1, s, v, hn, hl, h => by
    rw [List.nodup_cons] at hn
    have hk : ss[k]? = some s := by simpa using h
    have hne : t ≠ s := fun e => hn.1 (by subst e; exact List.mem_of_getElem? hk)
    have := putAll_put a ss vs k s v hn.2 (by simpa using hl) hk
    show ((putAll a ss vs).put (some t) u).put (some s) v = (putAll a ss (vs.set k v)).put (some t) u
    rw [← this, Act.put_comm _ _ _ (fun d hd e => hne (by cases hd; cases e; rfl))]
theorem put_size (a : Act) (d : Option Tmp) (v : Value) : (a.put d v).tmps.size = a.tmps.size := by
  unfold Act.put
  cases d <;> simp
theorem putAll_size (a : Act) : ∀ (ss : List Tmp) (vs : List Value), (putAll a ss vs).tmps.size = a.tmps.size
  | [], _ => rfl
  | _ :: _, [] => rfl
  | _ :: ss, _ :: vs => by
    show ((putAll a ss vs).put _ _).tmps.size = _
    rw [put_size, putAll_size a ss vs]
theorem putAll_off (a : Act) (t : Tmp) : ∀ (ss : List Tmp) (vs : List Value), (∀ s ∈ ss, s ≠ t) → (putAll a ss vs).eval (.tmp t) = a.eval (.tmp t)
  | [], _, _ => rfl
  | _ :: _, [], _ => rfl
  | s :: ss, v :: vs, h => by
    show ((putAll a ss vs).put (some s) v).eval (.tmp t) = _
    rw [Act.eval_put (fun d hd e => h s (by simp) (by cases hd; cases e; rfl)), putAll_off a t ss vs (fun x hx => h x (List.mem_cons_of_mem _ hx))]
theorem put_eval (a : Act) (s : Tmp) (v : Value) (h : s < a.tmps.size) : (a.put (some s) v).eval (.tmp s) = v := by
  unfold Act.put Act.eval
  simp [Array.getD, h]
theorem putAll_eval (a : Act) : ∀ (ss : List Tmp) (vs : List Value) (k : Nat) (s : Tmp) (v : Value), ss.Nodup → ss[k]? = some s → vs[k]? = some v → s < a.tmps.size → (putAll a ss vs).eval (.tmp s) = v
  | [], _, k, _, _, _, h, _, _ => by simp at h
  | _ :: _, [], _, _, _, _, _, h, _ => by simp at h
  | t :: ss, u :: vs, 0, s, v, _, h1, h2, h3 => by
    simp at h1 h2
    subst h1
    subst h2
    exact put_eval _ _ _ (by rw [putAll_size]; exact h3)
  | t :: ss, u :: vs, k + 1, s, v, hn, h1, h2, h3 => by
    rw [List.nodup_cons] at hn
    have hk : ss[k]? = some s := by simpa using h1
    have hne : t ≠ s := fun e => hn.1 (by subst e; exact List.mem_of_getElem? hk)
    show ((putAll a ss vs).put (some t) u).eval (.tmp s) = v
    rw [Act.eval_put (fun d hd e => hne (by cases hd; cases e; rfl))]
    exact putAll_eval a ss vs k s v hn.2 hk (by simpa using h2) h3

section
variable {P : Program} {ops : Array Oper} {Q : Exit → Act → World → Prop} {md : Region.Mode} {S : World → Prop}

theorem step_value {i : Nat} {o : Oper} {v : Value} {K : Act → World → Prop} {a : Act} {w w' : World} (ho : ops[i]? = some o) (hg : o.guard = none) (hr : (execOp a.eval o).run P w = .ok (.value v) w') (h : K (a.put o.dst v) w') : wpOp P ops Q i K a w := by
  refine wpOp_step ho fun K' hK => ?_
  rw [if_pos (by simp [Region.wanted, hg])]
  unfold Oper.wp
  rw [hr]
  exact hK _ _ h
theorem step_skip {i : Nat} {o : Oper} {K : Act → World → Prop} {a : Act} {w w' : World} (ho : ops[i]? = some o) (hg : o.guard = none) (hd : o.dst = none) (hr : (execOp a.eval o).run P w = .ok .skip w') (h : K a w') : wpOp P ops Q i K a w := by
  refine wpOp_step ho fun K' hK => ?_
  rw [if_pos (by simp [Region.wanted, hg])]
  unfold Oper.wp
  rw [hr]
  have := hK _ _ h
  show K' (a.put o.dst undef) w'
  rw [hd]
  exact this
theorem step_enter {i : Nat} {o : Oper} {f : FuncId} {args : Array Value} {K : Act → World → Prop} {a : Act} {w : World} (ho : ops[i]? = some o) (hg : o.guard = none) (hr : (execOp a.eval o).run P w = .ok (.enter f args) w) (h : Calls P f args w fun e w'' => ∃ u, e = .returned u ∧ K (a.put o.dst u) w'') : wpOp P ops Q i K a w := by
  refine wpOp_step ho fun K' hK => ?_
  rw [if_pos (by simp [Region.wanted, hg])]
  unfold Oper.wp
  rw [hr]
  refine Calls.mono h ?_
  rintro e w'' ⟨u, rfl, hu⟩
  exact hK _ _ hu
theorem exec_call1 {ρ : Operand → Value} {o : Oper} {f : FuncId} {x : Operand} {u : Value} {ts : Array TypeId} {w : World} (ho : o.op = .call { callee := .value (.func f), args := #[x], argTypes := ts }) (hf : ρ (.func f) = .func (.func f) #[] #[]) (hc : (callFunc f #[u]).run P w = .ok (.enter f #[u]) w) (hx : ρ x = u) : (execOp ρ o).run P w = .ok (.enter f #[u]) w := by
  unfold execOp
  simp [ho, resolve, invoke, go_sem, hf, hx, hc]
theorem exec_call2 {ρ : Operand → Value} {o : Oper} {f : FuncId} {x y : Operand} {u v : Value} {ts : Array TypeId} {w : World} (ho : o.op = .call { callee := .value (.func f), args := #[x, y], argTypes := ts }) (hf : ρ (.func f) = .func (.func f) #[] #[]) (hc : (callFunc f #[u, v]).run P w = .ok (.enter f #[u, v]) w) (hx : ρ x = u) (hy : ρ y = v) : (execOp ρ o).run P w = .ok (.enter f #[u, v]) w := by
  unfold execOp
  simp [ho, resolve, invoke, go_sem, hf, hx, hy, hc]
theorem exec_call3 {ρ : Operand → Value} {o : Oper} {f : FuncId} {x y z : Operand} {u v t : Value} {ts : Array TypeId} {w : World} (ho : o.op = .call { callee := .value (.func f), args := #[x, y, z], argTypes := ts }) (hf : ρ (.func f) = .func (.func f) #[] #[]) (hc : (callFunc f #[u, v, t]).run P w = .ok (.enter f #[u, v, t]) w) (hx : ρ x = u) (hy : ρ y = v) (hz : ρ z = t) : (execOp ρ o).run P w = .ok (.enter f #[u, v, t]) w := by
  unfold execOp
  simp [ho, resolve, invoke, go_sem, hf, hx, hy, hz, hc]
theorem exec_alloc {ρ : Operand → Value} {o : Oper} {t : TypeId} {p : Value} {w w' : World} (ho : o.op = .alloc t) (h : (Instr.alloc t true (.tuple #[])).run P w = .ok p w') : (execOp ρ o).run P w = .ok (.value p) w' := by
  unfold execOp
  simp only [ho, Sem.run_bind, Sem.run_pure, h, Result.andThen_ok]
theorem exec_store {ρ : Operand → Value} {o : Oper} {t : TypeId} {p x : Operand} {pv xv : Value} {w w' : World} (ho : o.op = .store t p x) (hp : ρ p = pv) (hx : ρ x = xv) (h : (Instr.storeAt t pv xv).run P w = .ok () w') : (execOp ρ o).run P w = .ok .skip w' := by
  unfold execOp
  simp only [ho, hp, hx, Sem.run_bind, Sem.run_pure, h, Result.andThen_ok]

/-- an operation is taken first, in a region that is written out as a list -/
theorem takeF {l : List Oper} {i : Nat} {oi : Oper} {v : Value} {fuel : Nat} {listed : Array Bool} {a : Act} {w : World} (hi : l[i]? = some oi)
    (hs : Region.noSelect l.toArray = true) (hf : Region.free md l.toArray listed i = true) (hr : (Region.ready md l.toArray listed).contains i = true)
    (hQ : ∀ c a w, Q (.panic c) (a.put oi.dst v) w → Q (.panic c) a w) (hy : YieldsIf P l.toArray S oi v a) (hS : S w)
    (h : wpAnyH P md l.toArray Q S fuel (listed.setIfInBounds i true) (a.put oi.dst v) w) : wpAnyH P md l.toArray Q S (fuel + 1) listed a w :=
  wpAnyH_take (by simpa using hi) hs hf hr hQ hy hS h
def unl (l : Array Bool) : Nat := l.toList.countP fun b => !b
theorem unl_zero {l : Array Bool} (h : unl l = 0) : ∀ i, i < l.size → l.getD i true = true := fun i hi => by
  unfold unl at h
  rw [List.countP_eq_zero] at h
  have := h l[i] (by simp)
  simp only [Array.getD, hi, dif_pos]
  simpa using this
theorem unl_set {l : Array Bool} {i : Nat} (hi : i < l.size) (h : l.getD i true = false) : unl (l.setIfInBounds i true) + 1 = unl l := by
  have hg : l.toList[i]'(by simpa using hi) = false := by
    simp only [Array.getD, hi, dif_pos] at h
    simpa using h
  unfold unl
  rw [Array.toList_setIfInBounds, List.countP_set (by simpa using hi), hg]
  have : 0 < l.toList.countP fun b => !b := List.countP_pos_iff.2 ⟨false, by rw [← hg]; exact List.getElem_mem _, rfl⟩
  simp only [Bool.not_false, Bool.not_true, if_true, Bool.false_eq_true, if_false]
  omega
/-- operation i waits for operation j -/
def waits (md : Region.Mode) (ops : Array Oper) (i j : Nat) : Bool := ((ops[i]?).map fun o => o.after.any fun e => Region.binds md e && e.on == j).getD false
/-- each waits for earlier ones only, as far as its waiting binds -/
def earlierM (md : Region.Mode) (ops : Array Oper) : Bool := (List.range ops.size).all fun i => ((ops[i]?).map fun oi => oi.after.all fun e => !Region.binds md e || decide (e.on < i)).getD true
theorem earlierM_spec (h : earlierM md ops = true) {i : Nat} {oi : Oper} (hi : ops[i]? = some oi) : ∀ e ∈ oi.after, Region.binds md e = true → e.on < i := by
  have hlt : i < ops.size := (Array.getElem?_eq_some_iff.1 hi).1
  have h1 := List.all_eq_true.1 h i (List.mem_range.2 hlt)
  rw [hi] at h1
  simp only [Option.map_some, Option.getD_some] at h1
  intro e he hb
  have := Array.all_eq_true_iff_forall_mem.1 h1 e he
  rw [hb] at this
  simpa using this
theorem ready_someM (hE : earlierM md ops = true) {l : Array Bool} (hl : l.size = ops.size) (h : Region.ready md ops l = []) : ∀ i, i < ops.size → l.getD i true = true := by
  intro i
  induction i using Nat.strongRecOn with
  | ind i ih =>
    intro hi
    by_cases hb : l.getD i true = true
    · exact hb
    · exfalso
      have hm : i ∈ Region.ready md ops l := by
        refine ready_mem.2 ⟨by simpa using hb, _, Array.getElem?_eq_getElem hi, fun e he hbe => ?_⟩
        have h1 := earlierM_spec hE (Array.getElem?_eq_getElem hi) e he hbe
        rw [getD_any (by omega) false true]
        exact ih _ h1 (by omega)
      rw [h] at hm
      cases hm
/-- THE WALK BY STATES -/
theorem float_walk (ss : List Tmp) (a0 : Act) {Inv : Array Bool → List Value → World → Prop} (hE : earlierM md ops = true)
    (H : ∀ l vs w, Inv l vs w → ∀ i, i < ops.size → l.getD i true = false → (∀ j, waits md ops i j = true → l.getD j false = true) → wpOp P ops Q i (fun a' w' => S w' ∧ ∃ vs', a' = putAll a0 ss vs' ∧ Inv (l.setIfInBounds i true) vs' w') (putAll a0 ss vs) w)
    (E : ∀ l vs w, Inv l vs w → (∀ i, i < ops.size → l.getD i true = true) → Q .normal (putAll a0 ss vs) w) :
    ∀ (fuel : Nat) (l : Array Bool) (vs : List Value) (w : World), l.size = ops.size → unl l ≤ fuel → Inv l vs w → wpAnyH P md ops Q S fuel l (putAll a0 ss vs) w := by
  intro fuel
  induction fuel with
  | zero =>
    intro l vs w hl hu hi
    have hall := unl_zero (l := l) (by omega)
    exact ⟨ready_none fun i h => hall i (by omega), E l vs w hi fun i h => hall i (by omega)⟩
  | succ n ih =>
    intro l vs w hl hu hi
    refine ⟨fun hr => E l vs w hi (ready_someM hE hl hr), fun i hr => ?_⟩
    obtain ⟨h1, oi, h2, h3⟩ := ready_mem.1 hr
    have hlt : i < ops.size := (Array.getElem?_eq_some_iff.1 h2).1
    refine wpOp_mono (fun a' w' h => ⟨h.1, ?_⟩) (H l vs w hi i hlt h1 fun j hj => ?_)
    · obtain ⟨-, vs', rfl, hk⟩ := h
      have := unl_set (by omega) h1
      exact ih _ vs' w' (by simpa using hl) (by omega) hk
    · unfold waits at hj
      rw [h2] at hj
      simp only [Option.map_some, Option.getD_some] at hj
      obtain ⟨k, hk, hb⟩ := Array.any_eq_true.1 hj
      simp only [Bool.and_eq_true, beq_iff_eq] at hb
      have := h3 _ (Array.getElem_mem hk) hb.1
      rw [hb.2] at this
      exact this
end
end Go.Proofs.YtdmoibphidipeaaGreatDoor
