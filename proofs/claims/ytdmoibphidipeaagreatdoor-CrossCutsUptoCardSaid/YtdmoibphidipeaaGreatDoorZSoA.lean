/- How often the tape was asked never falls: for every step of the machine. -/
import Derived.Calls
import Derived.Test.YtdmoibphidipeaaGreatDoorZOaI
import Derived.Shelf.SlSortCmp.Whole1
import Derived.Lib.OwnBridge
namespace Go.Proofs.YtdmoibphidipeaaGreatDoor.drw
open Go

/-- what a computation leaves was asked no less often -/
def Res (n : Nat) {α : Type} : Result α → Prop
  | .ok _ w => n ≤ w.drawn
  | .halt _ w => n ≤ w.drawn
def GS (n : Nat) : GStep → Prop
  | .ended _ _ _ => True
  | .go _ w _ => n ≤ w.drawn
  | .comm _ _ _ _ w _ => n ≤ w.drawn
  | .spawn _ _ w _ => n ≤ w.drawn
  | .count _ w _ => n ≤ w.drawn
  | .timer _ _ w _ => n ≤ w.drawn
  | .alone _ _ w _ => n ≤ w.drawn
  | .newcoro _ _ _ w _ => n ≤ w.drawn
  | .coroswitch _ _ _ w _ => n ≤ w.drawn
  | .collect _ w _ => n ≤ w.drawn
  | .watch _ w _ => n ≤ w.drawn
def St (n : Nat) : Stepped → Prop
  | .next m => n ≤ m.world.drawn
  | .ended _ _ => True
def Mv (n : Nat) : Move → Prop
  | .goroutine m _ => n ≤ m.world.drawn
  | .machine s _ => St n s

theorem freeze_drawn (w : World) (a : Addr) (n : Nat) : (w.freeze a n).drawn = w.drawn := by
  unfold World.freeze
  split <;> rfl
theorem ask_drawn {α : Type} {n : Nat} (k : Ask α) : ∀ w : World, n ≤ w.drawn → n ≤ (w.ask k).2.drawn := by
  induction k with
  | done a => intro w h; exact h
  | ask what range k ih =>
    intro w h
    unfold World.ask
    dsimp only
    split
    · exact ih _ _ h
    · exact ih _ _ (Nat.le_succ_of_le h)
theorem sys_drawn {n : Nat} (c : Sys) (w : World) (h : n ≤ w.drawn) : n ≤ (w.sys c).2.drawn := by
  have h1 := ask_drawn (n := n) (Kernel.perform c w.os) w h
  unfold World.sys
  split
  · exact h
  · rename_i r os w' _ e
    rw [e] at h1
    exact h1
theorem viewStore_drawn {p : Program} {w : World} {at_ : Addr} {u : TypeId} {k : Addr} {v : Value} {b : Bool} {r : World × List Addr} (h : w.viewStore p at_ u k v b = .ok r) : r.1.drawn = w.drawn := by
  unfold World.viewStore at h
  simp only [bind, Except.bind, pure, Except.pure] at h
  repeat (first | (split at h; first | cases h | skip) | cases h)
  all_goals first | rfl | simp_all
theorem farStore_drawn {p : Program} {w : World} {a : Addr} {v : Value} {b : Bool} {r : World × List Addr} (h : w.farStore p a v b = .ok r) : r.1.drawn = w.drawn := by
  unfold World.farStore at h
  split at h
  · split at h
    · rename_i e
      cases h
      exact viewStore_drawn e
    · cases h
  · cases h
theorem run_drawn {α : Type} (p : Program) {n : Nat} (s : Sem α) : ∀ w : World, n ≤ w.drawn → Res n (s.run p w) := by
  induction s with
  | pure a => intro w h; exact h
  | load m a k ih =>
    intro w h; unfold Sem.run
    split
    · exact ih _ _ h
    · split
      · exact ih _ _ h
      · exact h
  | store m a v k ih =>
    intro w h
    have key : ∀ v : Value, Res n (match w.cell? a with
        | some _ => if w.frozen? a then .halt (.unsupported (.unsafePointer "a write to bytes that a string shares")) w else k.run p (w.setCell a v)
        | none => match w.farStore p a v (m == .atomic) with
          | .ok (w, _) => k.run p w
          | .error h => .halt h w) := fun v => by
      split
      · split
        · exact h
        · exact ih _ h
      · split
        · rename_i e
          exact ih _ (by have := farStore_drawn e; simp only at this; omega)
        · exact h
    cases v <;> first | exact key _ | exact h
  | new o k ih => intro w h; unfold Sem.run; exact ih _ _ h
  | shape r k ih => intro w h; unfold Sem.run; exact ih _ _ h
  | freeze a m k ih => intro w h; unfold Sem.run; exact ih _ (by rw [freeze_drawn]; exact h)
  | frozen a k ih => intro w h; unfold Sem.run; exact ih _ _ h
  | getObj r k ih =>
    intro w h; unfold Sem.run
    split
    · exact h
    · exact ih _ _ h
    · exact h
  | setObj r o k ih =>
    intro w h; unfold Sem.run
    split
    · exact h
    · exact ih _ h
    · exact h
  | choose q k ih =>
    intro w h; unfold Sem.run
    split
    · exact ih _ _ h
    · exact ih _ _ (Nat.le_succ_of_le h)
  | sys c k ih => intro w h; unfold Sem.run; exact ih _ _ (sys_drawn c w h)
  | program k ih => intro w h; unfold Sem.run; exact ih _ _ h
  | mark m k ih => intro w h; unfold Sem.run; exact ih _ h
  | halt h' => intro w h; exact h
theorem runT_drawn {α : Type} (p : Program) {n : Nat} (s : Sem α) : ∀ (w : World) (es : Array Event), n ≤ w.drawn → Res n (s.runT p w es).1 := by
  induction s with
  | pure a => intro w es h; exact h
  | load m a k ih =>
    intro w es h; unfold Sem.runT
    split
    · exact ih _ _ _ h
    · split
      · exact ih _ _ _ h
      · exact h
  | store m a v k ih =>
    intro w es h
    have key : ∀ v : Value, Res n (match w.cell? a with
        | some _ => if w.frozen? a then ((.halt (.unsupported (.unsafePointer "a write to bytes that a string shares")) w, es) : Result _ × Array Event) else k.runT p (w.setCell a v) (es.push (Event.mk (Loc.cell a) true (m == Mode.atomic)))
        | none => match w.farStore p a v (m == Mode.atomic) with
          | .ok (w, touched) => k.runT p w (es ++ touched.toArray.map (fun x => Event.mk (Loc.cell x) true (m == Mode.atomic)))
          | .error h => (.halt h w, es)).1 := fun v => by
      split
      · split
        · exact h
        · exact ih _ _ h
      · split
        · rename_i e
          exact ih _ _ (by have := farStore_drawn e; simp only at this; omega)
        · exact h
    cases v <;> first | exact key _ | exact h
  | new o k ih => intro w es h; unfold Sem.runT; exact ih _ _ _ h
  | shape r k ih => intro w es h; unfold Sem.runT; exact ih _ _ _ h
  | freeze a m k ih => intro w es h; unfold Sem.runT; exact ih _ _ (by rw [freeze_drawn]; exact h)
  | frozen a k ih => intro w es h; unfold Sem.runT; exact ih _ _ _ h
  | getObj r k ih =>
    intro w es h; unfold Sem.runT
    split
    · exact h
    · exact ih _ _ _ h
    · exact h
  | setObj r o k ih =>
    intro w es h; unfold Sem.runT
    split
    · exact h
    · exact ih _ _ h
    · exact h
  | choose q k ih =>
    intro w es h; unfold Sem.runT
    split
    · exact ih _ _ _ h
    · exact ih _ _ _ (Nat.le_succ_of_le h)
  | sys c k ih => intro w es h; unfold Sem.runT; exact ih _ _ _ (sys_drawn c w h)
  | program k ih => intro w es h; unfold Sem.runT; exact ih _ _ _ h
  | mark m k ih => intro w es h; unfold Sem.runT; exact ih _ _ h
  | halt h' => intro w es h; exact h

theorem okR {α : Type} {p : Program} {n : Nat} {s : Sem α} {w w' : World} {v : α} (e : s.run p w = .ok v w') (h : n ≤ w.drawn) : n ≤ w'.drawn := by
  have h' := run_drawn p s w h
  rw [e] at h'
  exact h'
theorem haltR {α : Type} {p : Program} {n : Nat} {s : Sem α} {w w' : World} {v : Halt} (e : s.run p w = .halt v w') (h : n ≤ w.drawn) : n ≤ w'.drawn := by
  have h' := run_drawn p s w h
  rw [e] at h'
  exact h'
theorem okT {α : Type} {p : Program} {n : Nat} {s : Sem α} {w w' : World} {v : α} {es es' : Array Event} (e : s.runT p w es = (.ok v w', es')) (h : n ≤ w.drawn) : n ≤ w'.drawn := by
  have h' := runT_drawn p s w es h
  rw [e] at h'
  exact h'
theorem haltT {α : Type} {p : Program} {n : Nat} {s : Sem α} {w w' : World} {v : Halt} {es es' : Array Event} (e : s.runT p w es = (.halt v w', es')) (h : n ≤ w.drawn) : n ≤ w'.drawn := by
  have h' := runT_drawn p s w es h
  rw [e] at h'
  exact h'
theorem okF {α : Type} {p : Program} {n : Nat} {s : Sem α} {w w' : World} {v : α} {es : Array Event} (e : (s.runT p w es).fst = .ok v w') (h : n ≤ w.drawn) : n ≤ w'.drawn := by
  have h' := runT_drawn p s w es h
  rw [e] at h'
  exact h'
theorem haltF {α : Type} {p : Program} {n : Nat} {s : Sem α} {w w' : World} {v : Halt} {es : Array Event} (e : (s.runT p w es).fst = .halt v w') (h : n ≤ w.drawn) : n ≤ w'.drawn := by
  have h' := runT_drawn p s w es h
  rw [e] at h'
  exact h'
theorem ite_late {n : Nat} {c : Prop} [Decidable c] {a b : GStep} (ha : GS n a) (hb : GS n b) : GS n (if c then a else b) := by split <;> assumption
theorem after_iff {n : Nat} {es : Array Event} {g : GStep} : GS n (GStep.after es g) ↔ GS n g := by cases g <;> exact Iff.rfl
theorem endWith_late {n : Nat} (w : World) (fd : Nat) (t : ByteArray) (o : Outcome) : GS n (endWith w fd t o) := by
  unfold endWith
  dsimp only
  split
  · split <;> exact trivial
  · exact trivial
  · exact trivial
theorem dieOf_late {n : Nat} {fr : Frame} {a : List ByteArray} {m : String} {b : Bool} {w : World} (h : n ≤ w.drawn) : GS n (dieOf fr a m b w) := h
theorem endThrow_late {n : Nat} {fr : Frame} {m : String} {w : World} (h : n ≤ w.drawn) : GS n (endThrow fr m w) := h
theorem endPrinting_late {n : Nat} {p : Program} {fr : Frame} {v : Value} {w : World} (h : n ≤ w.drawn) : GS n (endPrinting p fr v w) := by
  unfold endPrinting
  dsimp only
  split
  · exact endThrow_late h
  · exact trivial
theorem endFatal_late {n : Nat} {p : Program} {fr : Frame} {cs : List Frame} {d : Option Dying} {m : String} {w : World} (h : n ≤ w.drawn) : GS n (endFatal p fr cs d m w) := by
  unfold endFatal
  dsimp only
  split
  · rename_i e
    have h' := (by first | exact okR e h | exact haltR e h | exact okT e h | exact haltT e h | exact okF e h | exact haltF e h)
    exact dieOf_late h'
  · exact trivial
  · exact trivial
theorem writeOn_late {n : Nat} {p : Program} {fr : Frame} {d : Dying} {f : Fatal} {w : World} (h : n ≤ w.drawn) : GS n (writeOn p fr d f w) := by
  unfold writeOn
  dsimp only
  split
  · exact trivial
  · split
    · rename_i e
      have h' := (by first | exact okR e h | exact haltR e h | exact okT e h | exact haltT e h | exact okF e h | exact haltF e h)
      exact h'
    · rename_i e
      have h' := (by first | exact okR e h | exact haltR e h | exact okT e h | exact haltT e h | exact okF e h | exact haltF e h)
      exact h'
    · exact trivial
    · exact trivial
theorem die_late {n : Nat} {p : Program} {fr : Frame} {d : Dying} {w : World} (h : n ≤ w.drawn) : GS n (die p fr d w) := by
  unfold die
  split
  · exact writeOn_late h
  · split
    · split
      · exact h
      · exact endWith_late _ _ _ _
    · dsimp only
      split
      · exact h
      · split
        · rename_i e
          have h' := (by first | exact okR e h | exact haltR e h | exact okT e h | exact haltT e h | exact okF e h | exact haltF e h)
          exact h'
        · exact trivial
      · rw [after_iff]
        split
        · rename_i e
          have h' := (by first | exact okR e h | exact haltR e h | exact okT e h | exact haltT e h | exact okF e h | exact haltF e h)
          exact h'
        · rename_i e
          have h' := (by first | exact okR e h | exact haltR e h | exact okT e h | exact haltT e h | exact okF e h | exact haltF e h)
          exact h'
        · exact trivial
        · rename_i e
          have h' := (by first | exact okR e h | exact haltR e h | exact okT e h | exact haltT e h | exact okF e h | exact haltF e h)
          exact endPrinting_late h'
        · exact trivial
      · exact trivial
theorem doReturn_late {n : Nat} {p : Program} {main : Bool} {fr : Frame} {cs : List Frame} {d : Option Dying} {v : Value} {w : World} (h : n ≤ w.drawn) : GS n (doReturn p main fr cs d v w) := by
  unfold doReturn
  split
  · split <;> exact h
  · split
    · exact h
    · exact trivial
    · split
      · exact h
      · split
        · exact h
        · exact trivial
theorem callDeferred_late {n : Nat} {p : Program} {fr : Frame} {cs : List Frame} {dy : Option Dying} {d : Deferred} {w : World} (h : n ≤ w.drawn) : GS n (callDeferred p fr cs dy d w) := by
  unfold callDeferred
  refine ite_late trivial ?_
  · have h' := runT_drawn p (invoke d.target d.args) w #[] h
    revert h'
    generalize (invoke d.target d.args).runT p w #[] = x
    obtain ⟨r, es⟩ := x
    intro h'
    dsimp only at h' ⊢
    rw [after_iff]
    split
    all_goals first
      | exact h'
      | exact trivial
      | exact endFatal_late h'
      | exact endThrow_late h'
      | (split <;> exact h')
theorem unwind_late {n : Nat} {p : Program} {main : Bool} {fr : Frame} {cs : List Frame} {dy : Option Dying} {w : World} (h : n ≤ w.drawn) : GS n (unwind p main fr cs dy w) := by
  unfold unwind
  split
  · rename_i block _ _ _
    dsimp only
    rw [after_iff]
    split
    · rename_i e
      have h' := (by first | exact okR e h | exact haltR e h | exact okT e h | exact haltT e h | exact okF e h | exact haltF e h)
      exact h'
    · exact trivial
  · exact callDeferred_late h
  · split
    · exact trivial
    · split
      · exact trivial
      · split
        · exact h
        · split
          · split
            · exact h
            · split
              · rename_i e
                have h' := (by first | exact okR e h | exact haltR e h | exact okT e h | exact haltT e h | exact okF e h | exact haltF e h)
                exact h'
              · exact trivial
              · exact trivial
          · split
            · exact endPrinting_late h
            · exact trivial
    · split
      · exact doReturn_late h
      · dsimp only
        rw [after_iff]
        split
        · rename_i e
          have h' := (by first | exact okR e h | exact haltR e h | exact okT e h | exact haltT e h | exact okF e h | exact haltF e h)
          exact doReturn_late h'
        · exact trivial
        · exact trivial
theorem early_late {n : Nat} {p : Program} {fr : Frame} {cs : List Frame} {dy : Option Dying} {g : Nat} {w : World} (h : n ≤ w.drawn) : GS n (early p fr cs dy g w) := by
  have notYet : ∀ w : World, n ≤ w.drawn → GS n (match w.heap[g]? with
    | some (.pending c elem) => .go { frame := fr, callers := cs, status := .running, dying := dy } { w with heap := w.heap.setIfInBounds g (.cells c elem) }
    | _ => .ended (.stuck "early: the variable does not wait" (fr.pos p)) w) := fun w h => by
    split
    · exact h
    · exact trivial
  unfold early
  dsimp only
  split
  · exact notYet w h
  · split
    · exact trivial
    · split
      · exact notYet w h
      · split
        · exact notYet w h
        · split
          · exact trivial
          · exact h
          · exact trivial
          · exact notYet w h
          · split
            · exact h
            · split
              · exact notYet w h
              · split
                · rename_i e
                  have h' := (by first | exact okR e h | exact haltR e h | exact okT e h | exact haltT e h | exact okF e h | exact haltF e h)
                  exact notYet _ h'
                · rename_i e
                  have h' := (by first | exact okR e h | exact haltR e h | exact okT e h | exact haltT e h | exact okF e h | exact haltF e h)
                  exact h'
                · exact trivial
theorem apply_late {n : Nat} {p : Program} {l : Bool} {fr : Frame} {cs : List Frame} {dy : Option Dying} {x : Sem Next} {w : World} (h : n ≤ w.drawn) : GS n (stepG.apply p l fr cs dy x w) := by
  have h' : Res n (if l then x.runT p w #[] else (x.run p w, #[])).1 := by
    split
    · exact runT_drawn p x w #[] h
    · exact run_drawn p x w h
  unfold stepG.apply
  revert h'
  generalize (if l then x.runT p w #[] else (x.run p w, #[])) = r
  obtain ⟨r, es⟩ := r
  intro h'
  dsimp only at h' ⊢
  rw [after_iff]
  split
  all_goals first
    | exact h'
    | exact trivial
    | exact endFatal_late h'
    | exact endThrow_late h'
    | exact early_late h'
    | (split <;> exact h')
    | (refine ite_late (endThrow_late h') ?_; exact h')
theorem oper_late {n : Nat} {p : Program} {l : Bool} {fr : Frame} {cs : List Frame} {dy : Option Dying} {w : World} (h : n ≤ w.drawn) : GS n (stepG.oper p l fr cs dy w) := by
  unfold stepG.oper
  split
  · exact trivial
  · split
    · exact apply_late h
    · exact apply_late h
theorem exec_late {n : Nat} {p : Program} {main l : Bool} {fr : Frame} {cs : List Frame} {dy : Option Dying} {w : World} (h : n ≤ w.drawn) : GS n (stepG.exec p main l fr cs dy w) := by
  have leave : ∀ (c : Prop) [Decidable c] (jump : Option Code), GS n (match fr.roundOf with
      | none => if c then .go { frame := { fr with mode := .returning }, callers := cs, status := .running, dying := dy } w else .ended (.stuck "exit, goto: no such block or label" (fr.pos p)) w
      | some l =>
        let (r, es) := (Instr.endRound l jump).runT p w #[]
        GStep.after (seen p fr.fn es) <| match r with
        | .ok v w => doReturn p main fr cs dy v w
        | .halt _ w => .ended (.stuck "range over a function: no such loop" (fr.pos p)) w) := fun c _ jump => by
    split
    · exact ite_late h trivial
    · rename_i l0 _
      have h' := runT_drawn p (Instr.endRound l0 jump) w #[] h
      revert h'
      generalize (Instr.endRound l0 jump).runT p w #[] = r
      obtain ⟨r, es⟩ := r
      intro h'
      dsimp only at h' ⊢
      rw [after_iff]
      split
      · exact doReturn_late h'
      · exact trivial
  unfold stepG.exec
  dsimp only
  split
  all_goals first
    | exact h
    | exact trivial
    | exact leave _ _
    | exact apply_late h
    | skip
  all_goals first
    | (refine ite_late ?_ ?_ <;> first | exact h | exact oper_late h)
    | (split <;> first | exact h | exact trivial)
    | (generalize exitTo _ _ = o; cases o; exact leave _ _; exact h)
    | (generalize gotoIn _ _ = o; cases o; exact leave _ _; exact h)
    | (generalize Extern.next _ = o; cases o; exact trivial; exact apply_late h)
    | (rw [after_iff]; split <;> rename_i e <;> first | exact apply_late (okF e h) | exact okF e h | exact haltF e h | exact trivial)
    | (refine ite_late h ?_; split <;> rename_i e <;> first | exact okR e h | exact trivial)
theorem stepG_late {n : Nat} {p : Program} {main l : Bool} {g : Goroutine} {w : World} (h : n ≤ w.drawn) : GS n (stepG p main g w l) := by
  unfold stepG
  dsimp only
  split
  · exact die_late h
  · exact exec_late h
  · exact unwind_late h
theorem comm_late {n : Nat} {p : Program} {rest : Rest} {gs : Array Goroutine} {i : Nat} {g : Goroutine} {cases : Array CommCase} {b : Bool} {shape : CommShape} {w : World} (h : n ≤ w.drawn) : St n (communicate p rest gs i g cases b shape w).1 := by
  unfold communicate
  dsimp only
  split
  · exact trivial
  · split
    · split
      · split
        · rename_i e
          unfold waitingAt at e
          split at e
          · split at e
            · cases e; exact h
            · cases e
          · cases e; exact h
        · exact trivial
      · exact h
    · split
      · exact trivial
      · rename_i e
        have h' := okR e h
        split
        · split
          · rename_i e2
            exact haltR e2 h'
          · exact trivial
        · exact h'
        · exact h'
        · split
          · exact h'
          · split
            · rename_i e2
              have h2 := okR e2 h'
              exact h2
            · exact trivial
        · exact h'
        · exact h'
        · exact trivial
theorem look_late {n : Nat} {p : Program} {gs : Array Goroutine} {rest : Rest} {w : World} (h : n ≤ w.drawn) : St n (look p gs rest w) := by
  unfold look
  split
  · dsimp only
    split
    · exact trivial
    · split
      · exact trivial
      · split
        · rename_i e
          have h2 := okR (n := n) e h
          exact h2
        · exact trivial
        · exact trivial
  · exact trivial
theorem serve_late {n : Nat} {p : Program} {m : Machine} {k : Nat} (h : n ≤ m.world.drawn) : St n (serve p m k) := by
  unfold serve
  split
  · exact trivial
  · exact h
  · dsimp only
    split
    · exact trivial
    · exact h
theorem drain_drawn (w : World) (c : Nat) : (drain w c).2.drawn = w.drawn := by
  unfold drain
  split <;> rfl
theorem retime_drawn (m : Machine) (k : Nat) (t : Timer) (a b : Nat) : (retime m k t a b).2.world.drawn = m.world.drawn := by
  unfold retime
  dsimp only
  split
  · exact drain_drawn _ _
  · rfl
theorem named_drawn {m m' : Machine} {var : Addr} {f : Nat → Timer → Value × Machine} {v : Value} (hf : ∀ k t, (f k t).2.world.drawn = m.world.drawn) (e : timerOp.named m var f = .ok (v, m')) : m'.world.drawn = m.world.drawn := by
  unfold timerOp.named at e
  split at e
  · simp only [Except.ok.injEq] at e
    have := hf
    rename_i k _
    have h2 := hf k (m.rest.timers.getD k default)
    rw [e] at h2
    exact h2
  · cases e
theorem timerOp_drawn {m m' : Machine} {op : TimerOp} {v : Value} (e : timerOp m op = .ok (v, m')) : m'.world.drawn = m.world.drawn := by
  unfold timerOp at e
  split at e
  · split at e
    · cases e; rfl
    · split at e
      · split at e
        · cases e
        · cases e; rfl
      · cases e
  · exact named_drawn (fun k t => retime_drawn m k t 0 t.period) e
  · split at e
    · rename_i m2 ho
      have hm : m2.world.drawn = m.world.drawn := by
        unfold timerOp.opened at ho
        split at ho
        · split at ho
          · cases ho; rfl
          · cases ho
        · cases ho; rfl
      exact named_drawn (fun k t => (retime_drawn m2 k t _ _).trans hm) e
    · cases e
  · cases e; rfl
theorem runT_late {n : Nat} {p : Program} {m : Machine} {i : Nat} {l : Bool} (h : n ≤ m.world.drawn) : St n (Go.runT p m i l).1 := by
  have hs : ∀ g : Goroutine, GS n (stepG p (i == 0) g m.world l) := fun g => stepG_late h
  unfold Go.runT
  dsimp only
  generalize hx : m.gs.swapAt! i { (default : Goroutine) with status := .finished } = x
  obtain ⟨g, gs⟩ := x
  have hg := hs g
  dsimp only
  revert hg
  generalize stepG p (i == 0) g m.world l = s
  intro hg
  cases s with
  | ended o w es => exact trivial
  | comm g cases b shape w es => exact comm_late hg
  | go g w es => exact hg
  | spawn g c w es => exact hg
  | count g w es =>
    dsimp only
    split
    · exact trivial
    · exact hg
  | alone g on w es => exact hg
  | collect g w es => exact look_late hg
  | watch g w es => exact hg
  | newcoro g c d w es => exact hg
  | coroswitch g c exit w es =>
    dsimp only
    split
    · exact hg
    · exact hg
    · exact trivial
  | timer g op w es =>
    dsimp only
    split
    · rename_i e
      have h2 := timerOp_drawn e
      have h3 : n ≤ w.drawn := hg
      dsimp only at h2
      exact (show n ≤ _ by rw [h2]; exact h3)
    · exact hg
    · exact trivial
    · exact trivial
theorem askOn_late {n : Nat} {p : Program} {m : Machine} (h : n ≤ m.world.drawn) : Mv n (askOn p m) := by
  have pick : ∀ m : Machine, n ≤ m.world.drawn → ∀ (rs : List Nat), Mv n (match (choose (.sched rs.length)).run p m.world with
      | .halt _ w => .machine (.ended (.stuck "sched" "") w)
      | .ok k world =>
        if rs.length ≤ 1 then .goroutine { m with world } (rs.getD k 0) else
        match (choose (.extern "sched.slice" 65536)).run p world with
        | .halt _ w => .machine (.ended (.stuck "sched.slice" "") w)
        | .ok n world => .goroutine { m with world, rest := { m.rest with slice := if n = 0 then none else some (rs.getD k 0, n) } } (rs.getD k 0)) := fun m h rs => by
    split
    · exact trivial
    · rename_i e
      have h1 := okR e h
      split
      · exact h1
      · split
        · exact trivial
        · rename_i e2
          have h2 := okR e2 h1
          exact h2
  unfold askOn
  dsimp only
  split
  · exact trivial
  · rename_i kA wA e
    have h1 := okR e h
    split
    · exact serve_late h1
    · split
      · split
        · exact h1
        · split
          · exact h1
          · split
            · exact trivial
            · exact trivial
      · split
        · exact pick { m with world := wA } h1 _
        · split
          · exact trivial
          · rename_i wB e2
            have h2 := okR e2 h1
            exact pick { m with world := wB } h2 _
          · rename_i e2
            have h2 := okR e2 h1
            exact h2
          · rename_i e2
            have h2 := okR e2 h1
            refine pick _ ?_ _
            exact h2
theorem ask_late {n : Nat} {p : Program} {m : Machine} (h : n ≤ m.world.drawn) : Mv n (Go.ask p m) := by
  unfold Go.ask
  split
  · split
    · exact trivial
    · rename_i e
      have h1 := okR e h
      split
      · rename_i e2
        have h2 := look_late (p := p) (gs := m.gs) (rest := m.rest) h1
        rw [e2] at h2
        exact askOn_late h2
      · exact look_late h1
    · rename_i e
      have h1 := okR e h
      exact askOn_late h1
  · exact askOn_late h
theorem move_late {n : Nat} {p : Program} {m : Machine} (h : n ≤ m.world.drawn) : Mv n (move p m) := by
  unfold move
  split
  · split
    · exact h
    · exact trivial
  · split
    · split
      · exact h
      · exact ask_late h
    · exact ask_late h
theorem step_late {n : Nat} {p : Program} {m m' : Machine} (e : step p m = .next m') (h : n ≤ m.world.drawn) : n ≤ m'.world.drawn := by
  unfold step stepT at e
  have hm := move_late (p := p) h
  revert e hm
  generalize move p m = v
  intro e hm
  cases v with
  | goroutine m2 i =>
    have h2 := runT_late (p := p) (i := i) (l := true) (show n ≤ m2.world.drawn from hm)
    dsimp only at e
    rw [e] at h2
    exact h2
  | machine s ops =>
    dsimp only at e
    subst e
    exact hm
theorem runN_late {n : Nat} {p : Program} : ∀ (k : Nat) {m m' : Machine}, runN p k m = .next m' → n ≤ m.world.drawn → n ≤ m'.world.drawn
  | 0, m, m', e, h => by
    unfold runN at e
    cases e
    exact h
  | k + 1, m, m', e, h => by
    unfold runN at e
    split at e
    · rename_i e1
      exact runN_late k e (step_late e1 h)
    · rename_i hn
      exact (hn _ e).elim
theorem Steps_late {p : Program} {m m' : Machine} (h : Steps p m m') : m.world.drawn ≤ m'.world.drawn := by
  obtain ⟨k, e⟩ := h
  exact runN_late k e (Nat.le_refl _)
/-- A CALL THAT RETURNS leaves a world in which the tape was asked no less often. -/
theorem Calls_late {P : Program} {f : FuncId} {args : Array Value} {w : World} {v : Value} {R : World → Prop} (h : Calls P f args w fun e w' => e = .returned v ∧ R w') : Calls P f args w fun e w' => e = .returned v ∧ R w' ∧ w.drawn ≤ w'.drawn := fun cs => by
  obtain ⟨e, w', fr, ⟨rfl, hR⟩, hc, hf, hl⟩ := h cs
  exact ⟨_, w', fr, ⟨rfl, hR, Steps_late (show Steps P _ _ from hc)⟩, hc, hf, hl⟩
end Go.Proofs.YtdmoibphidipeaaGreatDoor.drw
/- The places of a row of spots: what the library's sort asks of the closure that compares two of them. -/

namespace Go.Proofs.YtdmoibphidipeaaGreatDoor
open Go.RowKit Num rows
open Go.Sort

def encF {n : Nat} (i : Fin (n + 1)) : Value := .int .i64 (i.val : Int)
def cfF (L : List Sp) {n : Nat} (i j : Fin (n + 1)) : Int := cfL L i.val j.val
theorem below_grow (w : World) (os : Array Obj) : Below w.heap.size w (grow w os) :=
  ⟨rfl, rfl, rfl, by simp [grow], fun k hk => by simp [grow, Array.getElem?_append, hk]⟩
theorem below_sorted {α : Type} [Inhabited α] (enc : α → Value) {w0 w : World} {blk : Nat} (hb : Below w0.heap.size w0 w) (hbk : w0.heap.size ≤ blk) (q : Nat) (dk : Array α) (os : Array Obj) : Below w0.heap.size w0 (sortWorld enc w blk 0 q dk os) := by
  have h := Lib.below_putRow (enc := enc) (q := q) (d := dk) hb hbk
  exact h.trans ((below_grow _ os).mono h.size)
/-- what was asked no less often, and leaves all that lay: draws on, blocks behind -/
theorem lays_of_below {w w' : World} (h : Below w.heap.size w w') (hd : w.drawn ≤ w'.drawn) : ∃ q os, w' = grow (w.drewN q) os := by
  obtain ⟨p, hp⟩ := regrown_of_below h
  have e : w'.drawn = p.d := by rw [hp]; rfl
  refine ⟨p.d - w.drawn, p.os, ?_⟩
  rw [hp]
  congr 1
  unfold redrawn World.drewN
  rw [show w.drawn + (p.d - w.drawn) = p.d by omega]

theorem cmp_lays (L : List Sp) (n : Nat) (hn : L.length = n + 1) (A : Option Addr) (cap gl m blk size : Nat) (w0 w : World) (hm1 : 1 ≤ m) (hm : m ≤ 4194304) (hb : Below w0.heap.size w0 w) (hbk : w0.heap.size ≤ blk) (hgl : gl ≠ blk) (hglt : gl < w.heap.size)
    (hbox : w.cell? ⟨gl, 0, none⟩ = some (.slice A L.length cap)) (hl : RdS w0 A L) (hok : ∀ s ∈ L, s.Ok w0) (hsh : ∀ s ∈ L, s.Sh m) (hlen : L.length ≤ 1073741824) :
    CmpLays1 Tryz.prog 70 #[.pointer (some ⟨gl, 0, none⟩)] (encF (n := n)) (cfF L) blk 0 size w := by
  intro q os dk _ x y
  have hB := below_sorted (encF (n := n)) hb hbk q dk os
  have hbox' : (sortWorld (encF (n := n)) w blk 0 q dk os).cell? ⟨gl, 0, none⟩ = some (.slice A L.length cap) := by
    unfold sortWorld
    rw [cell?_grow _ _ _ (by simpa [putRow, mapBlock, Sort.ahead] using hglt), cell?_putRow_other _ _ _ _ _ _ (Or.inl hgl), cell?_ahead]
    exact hbox
  have h := spot_Row1 L A cap gl m (sortWorld (encF (n := n)) w blk 0 q dk os) hm1 hm hbox' (hl.on hB) (fun s hs => (hok s hs).on hB) hsh hlen x.val y.val (by omega) (by omega)
  refine (drw.Calls_late h).mono ?_
  rintro e w' ⟨rfl, hbel, hd⟩
  refine ⟨?_, lays_of_below hbel hd⟩
  have e1 : L.getD x.val default = L[x.val]'(by omega) := by simp [List.getD, hn]
  have e2 : L.getD y.val default = L[y.val]'(by omega) := by simp [List.getD, hn]
  unfold cfF cfL
  rw [e1, e2]
end Go.Proofs.YtdmoibphidipeaaGreatDoor
/- The order of a row's places: two fractions, one after the other; what the library's sort leaves, as a list of places. -/

namespace Go.Proofs.YtdmoibphidipeaaGreatDoor
open Go.RowKit Num rows
open Go.Sort

theorem sgn_neg0 (x : Int) : sgn (-x) = - sgn x := by
  unfold sgn
  split <;> split <;> (try split) <;> (try split) <;> omega
theorem sgn_le0 {x : Int} : sgn x ≤ 0 ↔ x ≤ 0 := by
  unfold sgn
  split <;> (try split) <;> omega
theorem ord_sgn (u l : Nat → Int) (hl : ∀ i, 0 < l i) : Ord fun i j => sgn (u i * l j - u j * l i) where
  anti i j := by rw [← sgn_neg0]; congr 1; omega
  trans i j k h1 h2 := by
    rw [sgn_le0] at h1 h2 ⊢
    have a1 : u i * l j * l k ≤ u j * l i * l k := Int.mul_le_mul_of_nonneg_right (by omega) (Int.le_of_lt (hl k))
    have a2 : u j * l k * l i ≤ u k * l j * l i := Int.mul_le_mul_of_nonneg_right (by omega) (Int.le_of_lt (hl i))
    have a3 : u j * l i * l k = u j * l k * l i := by rw [Int.mul_assoc, Int.mul_assoc, Int.mul_comm (l i)]
    have a4 : u i * l j * l k = u i * l k * l j := by rw [Int.mul_assoc, Int.mul_assoc, Int.mul_comm (l j)]
    have a5 : u k * l j * l i = u k * l i * l j := by rw [Int.mul_assoc, Int.mul_assoc, Int.mul_comm (l j)]
    have a6 : u i * l k * l j ≤ u k * l i * l j := by omega
    have a7 := Int.le_of_mul_le_mul_right a6 (hl j)
    omega
theorem ord_lex {c1 c2 : Nat → Nat → Int} (h1 : Ord c1) (h2 : Ord c2) : Ord fun i j => lex (c1 i j) (c2 i j) where
  anti i j := by
    have e1 := h1.anti i j
    have e2 := h2.anti i j
    show lex _ _ = - lex _ _
    unfold lex
    split <;> split <;> omega
  trans i j k k1 k2 := by
    have f : ∀ a b : Int, lex a b ≤ 0 ↔ a < 0 ∨ (a = 0 ∧ b ≤ 0) := fun a b => by unfold lex; split <;> omega
    show lex _ _ ≤ 0
    rw [f] at k1 k2 ⊢
    rcases k1 with k1 | ⟨k1, m1⟩
    · exact .inl (h1.lt_of_lt_le k1 (by omega))
    · rcases k2 with k2 | ⟨k2, m2⟩
      · exact .inl (h1.lt_of_le_lt (by omega) k2)
      · have t1 := h1.trans i j k (by omega) (by omega)
        have t2 := h1.trans k j i (by have := h1.anti j k; omega) (by have := h1.anti i j; omega)
        have t3 := h1.anti i k
        exact .inr ⟨by omega, h2.trans i j k m1 m2⟩
theorem ord_cfL (L : List Sp) : Ord (cfL L) :=
  ord_lex (ord_sgn (fun i => upN (L.getD i default).n1 (L.getD i default).a1 (L.getD i default).d1) (fun i => (loD (L.getD i default).d1 : Int)) (fun i => by have := loD_pos (L.getD i default).d1; omega))
    (ord_sgn (fun i => upN (L.getD i default).n2 (L.getD i default).a2 (L.getD i default).d2) (fun i => (loD (L.getD i default).d2 : Int)) (fun i => by have := loD_pos (L.getD i default).d2; omega))
theorem swo_cfF (L : List Sp) (n : Nat) : SWO (ltOf (cfF L (n := n))) where
  irrefl x := by simp [ltOf, cfF, (ord_cfL L).self]
  trans x y z h1 h2 := by
    have g1 : cfL L x.val y.val < 0 := of_decide_eq_true h1
    have g2 : cfL L y.val z.val < 0 := of_decide_eq_true h2
    exact decide_eq_true ((ord_cfL L).lt_of_lt_le g1 (Int.le_of_lt g2))
  ntrans x y z h1 h2 := by
    have g1 : ¬ cfL L x.val y.val < 0 := of_decide_eq_false h1
    have g2 : ¬ cfL L y.val z.val < 0 := of_decide_eq_false h2
    apply decide_eq_false
    show ¬ cfL L x.val z.val < 0
    have a1 := (ord_cfL L).anti x y
    have a2 := (ord_cfL L).anti y z
    have a3 := (ord_cfL L).anti x z
    have := (ord_cfL L).trans z y x (by omega) (by omega)
    omega
/-- what the sort leaves, as a list of places -/
theorem sorted_places (L : List Sp) (n : Nat) (d d' : Array (Fin (n + 1))) (hd : ∀ i : Fin (n + 1), i ∈ d) (hp : PermIn 0 d.size d d') (hs : SortedIn (ltOf (cfF L)) 0 d.size d') :
    (d'.toList.map Fin.val).Pairwise (fun a b => cfL L a b ≤ 0) ∧ (∀ x ∈ d'.toList.map Fin.val, x < n + 1) ∧ ∀ i, i < n + 1 → i ∈ d'.toList.map Fin.val := by
  obtain ⟨hsz, -, hperm⟩ := hp
  refine ⟨?_, fun x hx => ?_, fun i hi => ?_⟩
  · rw [List.pairwise_map, List.pairwise_iff_getElem]
    intro i j hi hj hij
    have hi' : i < d'.size := by simpa using hi
    have hj' : j < d'.size := by simpa using hj
    have h := hs i j (Nat.zero_le _) hij (by omega)
    rw [getElem!_pos d' i hi', getElem!_pos d' j hj'] at h
    have g : ¬ cfL L d'[j].val d'[i].val < 0 := of_decide_eq_false h
    have a := (ord_cfL L).anti d'[i].val d'[j].val
    simp only [Array.getElem_toList]
    omega
  · obtain ⟨y, -, rfl⟩ := List.mem_map.mp hx
    exact y.isLt
  · refine List.mem_map.mpr ⟨⟨i, hi⟩, ?_, rfl⟩
    have hm : (⟨i, hi⟩ : Fin (n + 1)) ∈ (d.extract 0 d.size).toList := by simpa using hd ⟨i, hi⟩
    have h2 := hperm.symm.subset hm
    rw [← hsz] at h2
    simpa using h2
end Go.Proofs.YtdmoibphidipeaaGreatDoor
