/- A range over a function that writes memory of its own between two rounds: the iterator's contract, and the law for the caller. -/
import Derived.RangeFuncNested
import Derived.RangeFuncBound
import Derived.RangeFuncCalls
import Derived.RangeFuncLeaves
import Derived.Shelf.Abstract
import Derived.Shelf.RegionOpen
import Derived.WalkKit
import Derived.OwnWalkIn
import Derived.TacticsInMore
import Derived.LoopNIn
import Derived.LoopIn
import Derived.Sort.LoopGhostIn
import Derived.Maps.AppendAt
import Derived.Maps.OwnIn
import Derived.Lib.Hide
import Derived.Test.YtkebffkekinblaaChecked
import Derived.Test.YtkebffkekinblaaZDuX
namespace Go.Proofs.Ytkebffkekinblaa
open Go Go.RowKit

/-- what is said stands when a block laid from B on, of the kind T, is turned -/
def AbX {β : Type} (T : Obj → Prop) (B : Nat) (J : β → World → Prop) : Prop :=
  ∀ s W W' row, J s W → W.grownBy W' row → (∀ r, row = some r → B ≤ r ∧ ∃ o : Obj, W.heap[r]? = some o ∧ T o) → J s W'
theorem AbX.put {β : Type} {T : Obj → Prop} {B : Nat} {J : β → World → Prop} (h : AbX T B J) {s : β} {W : World} {l : Nat} {o : Obj} (o' : Obj) (hs : J s W) (hB : B ≤ l) (hl : W.heap[l]? = some o) (ho : T o) : J s (W.putObj l o') :=
  h s W _ (some l) hs (grownBy_putObj' W l o') (fun r e => by cases e; exact ⟨hB, o, hl, ho⟩)
theorem AbX.alloc {β : Type} {T : Obj → Prop} {B : Nat} {J : β → World → Prop} (h : AbX T B J) {s : β} {W : World} (o : Obj) (hs : J s W) : J s (W.alloc o) :=
  h s W _ none hs (World.grownBy_alloc W o none) (fun r e => by cases e)
theorem AbX.and {β : Type} {T : Obj → Prop} {B : Nat} {I J : β → World → Prop} (h : AbX T B I) (k : AbX T B J) : AbX T B (fun s W => I s W ∧ J s W) := fun s W W' row hs hg hr => ⟨h s W W' row hs.1 hg hr, k s W W' row hs.2 hg hr⟩
/-- the kinds that the book-keeping of the loop turns -/
def IsBook (o : Obj) : Prop := (∃ r, o = .loop r) ∨ (∃ d, o = .deferred d)

/-- THE ITERATOR's CONTRACT: T: what kind of blocks of its own it turns; Ok: what it says of what it hands over -/
def SeqX {α : Type} (F : Fence) (n : Nat) (P : Program) (g : Nat) (lb : Array Value) (encs : α → Array Value) (T : Obj → Prop) (Ok : α → World → Prop) (Kp : World → World → Prop) (S Sp : List α → Prop) (N : Nat) (w : World) : Prop :=
  ∀ (l : Nat) (J Jx : List α → World → Prop) (W : World), Below w.heap.size w W → AbX T W.heap.size J → AbX T W.heap.size Jx →
    (∀ pre x V, J pre V → Ok x V → pre.length < N → YieldAt F (n - 1) P l (encs x) V fun e W' =>
      (e = .returned (.bool true) ∧ J (pre ++ [x]) W' ∧ Kp V W') ∨ (e = .returned (.bool false) ∧ Jx (pre ++ [x]) W')) →
    J [] W →
    CallsIn F n P g (#[.func (.yield l) #[] #[]] ++ lb) W fun e W' => (∃ v, e = .returned v) ∧ ((∃ xs, S xs ∧ J xs W') ∨ (∃ pre, Sp pre ∧ Jx pre W'))

/-- THE LAW -/
theorem wpIn_rangeX {α : Type} {F : Fence} {n : Nat} {P : Program} {g : Operand} {ps : Array Tmp} {assign body : Code} {Q : Exit → Act → World → Prop} {a : Act} {w : World}
    (hro : F.round = none) (h1 : 1 ≤ n) {gf : Nat} {lb : Array Value} (hg : a.eval g = .func (.func gf) #[] lb) (hFg : F.fn gf) (eg : ∀ args w, (callFunc gf args).run P w = .ok (.enter gf args) w)
    {encs : α → Array Value} {T : Obj → Prop} {Ok : α → World → Prop} {Kp : World → World → Prop} {S Sp : List α → Prop} {N : Nat} (hseq : SeqX F (n - 1) P gf lb encs T Ok Kp S Sp N w)
    (hT : ∀ o, T o → ¬ IsBook o) (hKt : ∀ {A B C : World}, Kp A B → Kp B C → Kp A C) (hKb : ∀ (W : World) (l : Nat) (o o' : Obj), w.heap.size ≤ l → W.heap[l]? = some o → IsBook o → Kp W (W.putObj l o')) (hps : ∀ x, (encs x).size = ps.size)
    (I : List α → World → Prop) (Ix : Code → List α → World → Prop) (hI : AbX (fun o => IsBook o ∨ T o) w.heap.size I) (hIx : ∀ c, AbX (fun o => IsBook o ∨ T o) w.heap.size (Ix c)) (h0 : I [] w)
    (Ax : α → Act → World → Prop) (hAx : ∀ x a', AbX IsBook w.heap.size (fun (_ : Unit) W => Ax x a' W))
    (hassign : ∀ (l : Nat) (pre : List α) (x : α) (W : World) (K : Act → World → Prop), I pre W → Ok x W → (∀ a' W', KeepsFrom w.heap.size W W' → Kp W W' → I pre W' → Ax x a' W' → K a' W') →
      assign.wpIn (F.inRound l) (n - 1 - 1) P (Exit.then K (fun _ _ _ => False)) { tmps := (ps.zip (encs x)).foldl (fun t (p, v) => t.setIfInBounds p v) a.tmps, defers := [] } W)
    (hbody : ∀ (l : Nat) (pre : List α) (x : α) (a' : Act) (W : World), I pre W → Ax x a' W → pre.length < N → body.wpIn (F.inRound l) (n - 1 - 1) P (ownPostG w.heap.size Kp I Ix (pre ++ [x]) W) a' W)
    (hdone : ∀ (D : Nat) (xs : List α) (W : World), w.heap.size ≤ D → S xs → I xs W → W.heap[D]? = some (.deferred (some [])) → Q .normal { a with defers := { target := .collected D, args := #[] } :: a.defers } W)
    (hstop : ∀ (D : Nat) (c : Code) (pre : List α) (W : World), w.heap.size ≤ D → Sp pre → Ix c pre W → W.heap[D]? = some (.deferred (some [])) → c.wpIn F n P Q { a with defers := { target := .collected D, args := #[] } :: a.defers } W) :
    (Code.rangeFunc g ps assign body).wpIn F n P Q a w := by
  refine wpIn_rangeFunc fun fn hfn => ?_
  rw [hro]
  -- the two blocks of book-keeping: d for the rounds' deferred calls, l the record
  obtain ⟨d, hd⟩ : ∃ d, w.heap.size = d := ⟨_, rfl⟩
  obtain ⟨rc, hrc⟩ : ∃ rc : LoopState → Option Code → Loop, rc = fun st pe => { state := st, pending := pe, fn, tmps := a.tmps, params := ps, assign, body, defers := w.heap.size } := ⟨_, rfl⟩
  obtain ⟨V, hV⟩ : ∃ V, (w.alloc (.deferred (some []))).alloc (.loop (rc .ready none)) = V := ⟨_, rfl⟩
  have hsz : V.heap.size = d + 1 + 1 := by rw [← hV, ← hd]; simp
  have hL : V.heap[d + 1]? = some (.loop (rc .ready none)) := by
    have h := World.alloc_heap_new (w.alloc (.deferred (some []))) (.loop (rc .ready none))
    rw [World.size_alloc, hV, hd] at h
    exact h
  have hD : V.heap[d]? = some (.deferred (some [])) := by
    rw [← hV, ← hd]
    exact (Below.heap_alloc _ _ _ (by simp)).trans (World.alloc_heap_new w _)
  have hIV : I [] V := by rw [← hV]; exact hI.alloc _ (hI.alloc _ h0)
  have hbV : Below w.heap.size w V := by rw [← hV]; exact ((Below.refl _ w).alloc (Nat.le_refl _) _).alloc (by simp) _
  -- what lies in the two blocks is not turned by what turns blocks of the kind T
  have keep : ∀ {X Y : World} {row : Option Nat} {k : Nat} {o : Obj}, X.grownBy Y row → (∀ r, row = some r → V.heap.size ≤ r ∧ ∃ o : Obj, X.heap[r]? = some o ∧ T o) → X.heap[k]? = some o → IsBook o → Y.heap[k]? = some o := fun {X Y row k o} hgr hr hk hb => by
    refine (hgr.block k (Array.getElem?_eq_some_iff.1 hk).1 (fun e => ?_)).trans hk
    obtain ⟨-, o', ho', hT'⟩ := hr k e.symm
    rw [hk] at ho'
    cases ho'
    exact hT _ hT' hb
  have wide : ∀ {X : World} {row : Option Nat}, (∀ r, row = some r → V.heap.size ≤ r ∧ ∃ o : Obj, X.heap[r]? = some o ∧ T o) → (∀ r, row = some r → w.heap.size ≤ r ∧ ∃ o : Obj, X.heap[r]? = some o ∧ (IsBook o ∨ T o)) := fun hr r e => by
    obtain ⟨h2, o, ho, hT'⟩ := hr r e
    exact ⟨by omega, o, ho, .inr hT'⟩
  have bl : ∀ r, IsBook (.loop r) := fun r => .inl ⟨r, rfl⟩
  have bd : ∀ r, IsBook (.deferred r) := fun r => .inr ⟨r, rfl⟩
  refine ⟨d + 1, [{ target := .collected d, args := #[] }], V, { target := .fn (.func gf) lb, args := #[.func (.yield (d + 1)) #[] #[]] }, V, gf, #[.func (.yield (d + 1)) #[] #[]] ++ lb, V, ?_, ?_, ?_, ?_, fun _ => h1, ?_⟩
  · rw [← hV, hrc, ← hd]; exact run_enterLoop_outer _ _ _ _ _
  · simp only [resolve, hg]
    simp [go_sem]
  · intro f' hf'
    simp [Target.leads] at hf'
    subst hf'
    exact hFg
  · simp [invoke, go_sem, eg]
  refine (hseq (d + 1)
    (fun pre W => I pre W ∧ W.heap[d + 1]? = some (.loop (rc .ready none)) ∧ W.heap[d]? = some (.deferred (some [])))
    (fun pre W => ∃ c, Ix c pre W ∧ W.heap[d + 1]? = some (.loop (rc .done (some c))) ∧ W.heap[d]? = some (.deferred (some [])))
    V hbV
    (fun s X Y row hs hgr hr => ⟨hI s X Y row hs.1 hgr (wide hr), keep hgr hr hs.2.1 (bl _), keep hgr hr hs.2.2 (bd _)⟩)
    (fun s X Y row hs hgr hr => by
      obtain ⟨c, hc, hl, hk⟩ := hs
      exact ⟨c, hIx c s X Y row hc hgr (wide hr), keep hgr hr hl (bl _), keep hgr hr hk (bd _)⟩)
    ?_ ⟨hIV, hL, hD⟩).mono ?_
  · rintro pre x W ⟨hi, hl, hk⟩ hok hlen
    have hy := run_yield (P := P) (args := encs x) hl (by rw [hrc]; exact hps x)
    rw [hrc] at hy
    refine ⟨fn, _, assign, body, hy, roundIn_of_wpIn hfn (hassign _ pre x W _ hi hok ?_)⟩
    intro a' X hkX hKX hiX haX
    have hlX := hkX.same _ _ (by omega) hl rfl
    have hdX := hkX.same _ _ (by omega) hk rfl
    have hlt : d + 1 < X.heap.size := (Array.getElem?_eq_some_iff.1 hlX).1
    refine ⟨_, run_beginRound hlX (by rw [hrc]), ?_⟩
    obtain ⟨Z, hZ⟩ : ∃ Z, X.putObj (d + 1) (.loop { rc .ready none with state := .busy }) = Z := ⟨_, rfl⟩
    rw [hZ]
    have hlZ : Z.heap[d + 1]? = some (.loop { rc .ready none with state := .busy }) := by rw [← hZ]; exact World.putObj_heap_same hlt
    have hdZ : Z.heap[d]? = some (.deferred (some [])) := by rw [← hZ]; exact (World.putObj_heap_other (by omega)).trans hdX
    have hKZ : Kp X Z := by rw [← hZ]; exact hKb _ _ _ _ (by omega) hlX (bl _)
    have hiZ : I pre Z := by rw [← hZ]; exact hI.put _ hiX (by omega) hlX (.inl (bl _))
    have haZ : Ax x a' Z := by rw [← hZ]; exact (hAx x a').put (s := ()) _ haX (by omega) hlX (bl _)
    -- however the body is left, the record is there to be closed
    have shut : ∀ (j : Option Code) (Y : World), KeepsFrom w.heap.size Z Y → ∃ U, Y.putObj (d + 1) (.loop (rc (if j.isNone then .ready else .done) j)) = U ∧ (Instr.endRound (d + 1) j).run P Y = .ok (.bool j.isNone) U ∧
        U.heap[d + 1]? = some (.loop (rc (if j.isNone then .ready else .done) j)) ∧ U.heap[d]? = some (.deferred (some [])) ∧ Y.heap[d + 1]? = some (.loop { rc .ready none with state := .busy }) := fun j Y hY => by
      have hlY := hY.same _ _ (by omega) hlZ rfl
      have hdY := hY.same _ _ (by omega) hdZ rfl
      have he := run_endRound (P := P) j hlY
      rw [hrc] at he
      refine ⟨_, rfl, ?_, World.putObj_heap_same (Array.getElem?_eq_some_iff.1 hlY).1, (World.putObj_heap_other (by omega)).trans hdY, hlY⟩
      rw [hrc]
      exact he
    refine wpIn_mono (hbody _ pre x a' Z hiZ haZ hlen) ?_
    intro e a3 Y hp
    cases e with
    | normal =>
      obtain ⟨k1, k2, k3⟩ := hp
      obtain ⟨U, hU, r1, r2, r3, r4⟩ := shut none Y k1
      refine ⟨_, _, r1, .inl ⟨rfl, ⟨?_, r2, r3⟩, hKt hKX (hKt (hKt hKZ k2) ?_)⟩⟩
      · rw [← hU]; exact hI.put _ k3 (by omega) r4 (.inl (bl _))
      · rw [← hU]; exact hKb _ _ _ _ (by omega) r4 (bl _)
    | ret =>
      obtain ⟨U, hU, r1, r2, r3, r4⟩ := shut (some .ret) Y hp.1
      exact ⟨_, _, r1, .inr ⟨rfl, .ret, by rw [← hU]; exact (hIx _).put _ hp.2 (by omega) r4 (.inl (bl _)), r2, r3⟩⟩
    | exit id =>
      obtain ⟨U, hU, r1, r2, r3, r4⟩ := shut (some (.exit id)) Y hp.1
      exact ⟨_, _, r1, .inr ⟨rfl, .exit id, by rw [← hU]; exact (hIx _).put _ hp.2 (by omega) r4 (.inl (bl _)), r2, r3⟩⟩
    | goto t =>
      obtain ⟨U, hU, r1, r2, r3, r4⟩ := shut (some (.goto t)) Y hp.1
      exact ⟨_, _, r1, .inr ⟨rfl, .goto t, by rw [← hU]; exact (hIx _).put _ hp.2 (by omega) r4 (.inl (bl _)), r2, r3⟩⟩
    | panic ch => exact hp.elim
    | outgrown => exact hp.elim
  · rintro e Y ⟨⟨v, rfl⟩, (⟨xs, hS, hi, hl, hk⟩ | ⟨pre, hSp, c, hi, hl, hk⟩)⟩
    · have he := run_endLoop (P := P) hl (by rw [hrc]; simp)
      rw [hrc] at he
      exact ⟨none, _, he, hdone d xs _ (by omega) hS (hI.put _ hi (by omega) hl (.inl (bl _))) ((World.putObj_heap_other (by omega)).trans hk)⟩
    · have he := run_endLoop (P := P) hl (by rw [hrc]; simp)
      rw [hrc] at he
      exact ⟨some c, _, he, hstop d c pre _ (by omega) hSp ((hIx c).put _ hi (by omega) hl (.inl (bl _))) ((World.putObj_heap_other (by omega)).trans hk)⟩
end Go.Proofs.Ytkebffkekinblaa
/- A range over a function that goes on without end till the loop's body says no more: the iterator's contract, place by place, and the law for the caller. -/

namespace Go.Proofs.Ytkebffkekinblaa
open Go Go.RowKit

/-- THE ITERATOR's CONTRACT: what it hands over at the place i is encs i, where Y i; the others it passes over; the loop's body, for it says no more ahead of the place N, ends it -/
def SeqB (F : Fence) (n : Nat) (P : Program) (g : Nat) (lb : Array Value) (encs : Nat → Array Value) (Y : Nat → Prop) (T : Obj → Prop) (Kp : World → World → Prop) (N : Nat) (w : World) : Prop :=
  ∀ (l : Nat) (J Jx : Nat → World → Prop) (W : World), Below w.heap.size w W → AbX T W.heap.size J → AbX T W.heap.size Jx →
    (∀ i V, J i V → i < N) → (∀ i V, J i V → ¬ Y i → J (i + 1) V) →
    (∀ i V, J i V → Y i → YieldAt F (n - 1) P l (encs i) V fun e W' =>
      (e = .returned (.bool true) ∧ J (i + 1) W' ∧ Kp V W') ∨ (e = .returned (.bool false) ∧ Jx (i + 1) W')) →
    J 0 W →
    CallsIn F n P g (#[.func (.yield l) #[] #[]] ++ lb) W fun e W' => (∃ v, e = .returned v) ∧ ∃ i, Jx i W'

/-- THE LAW -/
theorem wpIn_rangeB {F : Fence} {n : Nat} {P : Program} {g : Operand} {ps : Array Tmp} {assign body : Code} {Q : Exit → Act → World → Prop} {a : Act} {w : World}
    (hro : F.round = none) (h1 : 1 ≤ n) {gf : Nat} {lb : Array Value} (hg : a.eval g = .func (.func gf) #[] lb) (hFg : F.fn gf) (eg : ∀ args w, (callFunc gf args).run P w = .ok (.enter gf args) w)
    {encs : Nat → Array Value} {Y : Nat → Prop} {T : Obj → Prop} {Kp : World → World → Prop} {N : Nat} (hseq : SeqB F (n - 1) P gf lb encs Y T Kp N w)
    (hT : ∀ o, T o → ¬ IsBook o) (hKt : ∀ {A B C : World}, Kp A B → Kp B C → Kp A C) (hKb : ∀ (W : World) (l : Nat) (o o' : Obj), w.heap.size ≤ l → W.heap[l]? = some o → IsBook o → Kp W (W.putObj l o')) (hps : ∀ i, (encs i).size = ps.size)
    (I : Nat → World → Prop) (Ix : Code → Nat → World → Prop) (hI : AbX (fun o => IsBook o ∨ T o) w.heap.size I) (hIx : ∀ c, AbX (fun o => IsBook o ∨ T o) w.heap.size (Ix c))
    (hN : ∀ i W, I i W → i < N) (hskip : ∀ i W, I i W → ¬ Y i → I (i + 1) W) (h0 : I 0 w)
    (Ax : Nat → Act → World → Prop) (hAx : ∀ x a', AbX IsBook w.heap.size (fun (_ : Unit) W => Ax x a' W))
    (hassign : ∀ (l : Nat) (i : Nat) (W : World) (K : Act → World → Prop), I i W → Y i → (∀ a' W', KeepsFrom w.heap.size W W' → Kp W W' → I i W' → Ax i a' W' → K a' W') →
      assign.wpIn (F.inRound l) (n - 1 - 1) P (Exit.then K (fun _ _ _ => False)) { tmps := (ps.zip (encs i)).foldl (fun t (p, v) => t.setIfInBounds p v) a.tmps, defers := [] } W)
    (hbody : ∀ (l : Nat) (i : Nat) (a' : Act) (W : World), I i W → Ax i a' W → Y i → body.wpIn (F.inRound l) (n - 1 - 1) P (ownPostG (α := Unit) w.heap.size Kp (fun _ => I (i + 1)) (fun c _ => Ix c (i + 1)) [] W) a' W)
    (hstop : ∀ (D : Nat) (c : Code) (i : Nat) (W : World), w.heap.size ≤ D → Ix c i W → W.heap[D]? = some (.deferred (some [])) → c.wpIn F n P Q { a with defers := { target := .collected D, args := #[] } :: a.defers } W) :
    (Code.rangeFunc g ps assign body).wpIn F n P Q a w := by
  refine wpIn_rangeFunc fun fn hfn => ?_
  rw [hro]
  obtain ⟨d, hd⟩ : ∃ d, w.heap.size = d := ⟨_, rfl⟩
  obtain ⟨rc, hrc⟩ : ∃ rc : LoopState → Option Code → Loop, rc = fun st pe => { state := st, pending := pe, fn, tmps := a.tmps, params := ps, assign, body, defers := w.heap.size } := ⟨_, rfl⟩
  obtain ⟨V, hV⟩ : ∃ V, (w.alloc (.deferred (some []))).alloc (.loop (rc .ready none)) = V := ⟨_, rfl⟩
  have hsz : V.heap.size = d + 1 + 1 := by rw [← hV, ← hd]; simp
  have hL : V.heap[d + 1]? = some (.loop (rc .ready none)) := by
    have h := World.alloc_heap_new (w.alloc (.deferred (some []))) (.loop (rc .ready none))
    rw [World.size_alloc, hV, hd] at h
    exact h
  have hD : V.heap[d]? = some (.deferred (some [])) := by
    rw [← hV, ← hd]
    exact (Below.heap_alloc _ _ _ (by simp)).trans (World.alloc_heap_new w _)
  have hIV : I 0 V := by rw [← hV]; exact hI.alloc _ (hI.alloc _ h0)
  have hbV : Below w.heap.size w V := by rw [← hV]; exact ((Below.refl _ w).alloc (Nat.le_refl _) _).alloc (by simp) _
  have keep : ∀ {X Z : World} {row : Option Nat} {k : Nat} {o : Obj}, X.grownBy Z row → (∀ r, row = some r → V.heap.size ≤ r ∧ ∃ o : Obj, X.heap[r]? = some o ∧ T o) → X.heap[k]? = some o → IsBook o → Z.heap[k]? = some o := fun {X Z row k o} hgr hr hk hb => by
    refine (hgr.block k (Array.getElem?_eq_some_iff.1 hk).1 (fun e => ?_)).trans hk
    obtain ⟨-, o', ho', hT'⟩ := hr k e.symm
    rw [hk] at ho'
    cases ho'
    exact hT _ hT' hb
  have wide : ∀ {X : World} {row : Option Nat}, (∀ r, row = some r → V.heap.size ≤ r ∧ ∃ o : Obj, X.heap[r]? = some o ∧ T o) → (∀ r, row = some r → w.heap.size ≤ r ∧ ∃ o : Obj, X.heap[r]? = some o ∧ (IsBook o ∨ T o)) := fun hr r e => by
    obtain ⟨h2, o, ho, hT'⟩ := hr r e
    exact ⟨by omega, o, ho, .inr hT'⟩
  have bl : ∀ r, IsBook (.loop r) := fun r => .inl ⟨r, rfl⟩
  have bd : ∀ r, IsBook (.deferred r) := fun r => .inr ⟨r, rfl⟩
  refine ⟨d + 1, [{ target := .collected d, args := #[] }], V, { target := .fn (.func gf) lb, args := #[.func (.yield (d + 1)) #[] #[]] }, V, gf, #[.func (.yield (d + 1)) #[] #[]] ++ lb, V, ?_, ?_, ?_, ?_, fun _ => h1, ?_⟩
  · rw [← hV, hrc, ← hd]; exact run_enterLoop_outer _ _ _ _ _
  · simp only [resolve, hg]
    simp [go_sem]
  · intro f' hf'
    simp [Target.leads] at hf'
    subst hf'
    exact hFg
  · simp [invoke, go_sem, eg]
  refine (hseq (d + 1)
    (fun i W => I i W ∧ W.heap[d + 1]? = some (.loop (rc .ready none)) ∧ W.heap[d]? = some (.deferred (some [])))
    (fun i W => ∃ c, Ix c i W ∧ W.heap[d + 1]? = some (.loop (rc .done (some c))) ∧ W.heap[d]? = some (.deferred (some [])))
    V hbV
    (fun s X Z row hs hgr hr => ⟨hI s X Z row hs.1 hgr (wide hr), keep hgr hr hs.2.1 (bl _), keep hgr hr hs.2.2 (bd _)⟩)
    (fun s X Z row hs hgr hr => by
      obtain ⟨c, hc, hl, hk⟩ := hs
      exact ⟨c, hIx c s X Z row hc hgr (wide hr), keep hgr hr hl (bl _), keep hgr hr hk (bd _)⟩)
    (fun i W hs => hN i W hs.1) (fun i W hs hY => ⟨hskip i W hs.1 hY, hs.2⟩)
    ?_ ⟨hIV, hL, hD⟩).mono ?_
  · rintro i W ⟨hi, hl, hk⟩ hY
    have hy := run_yield (P := P) (args := encs i) hl (by rw [hrc]; exact hps i)
    rw [hrc] at hy
    refine ⟨fn, _, assign, body, hy, roundIn_of_wpIn hfn (hassign _ i W _ hi hY ?_)⟩
    intro a' X hkX hKX hiX haX
    have hlX := hkX.same _ _ (by omega) hl rfl
    have hdX := hkX.same _ _ (by omega) hk rfl
    have hlt : d + 1 < X.heap.size := (Array.getElem?_eq_some_iff.1 hlX).1
    refine ⟨_, run_beginRound hlX (by rw [hrc]), ?_⟩
    obtain ⟨Z, hZ⟩ : ∃ Z, X.putObj (d + 1) (.loop { rc .ready none with state := .busy }) = Z := ⟨_, rfl⟩
    rw [hZ]
    have hlZ : Z.heap[d + 1]? = some (.loop { rc .ready none with state := .busy }) := by rw [← hZ]; exact World.putObj_heap_same hlt
    have hdZ : Z.heap[d]? = some (.deferred (some [])) := by rw [← hZ]; exact (World.putObj_heap_other (by omega)).trans hdX
    have hKZ : Kp X Z := by rw [← hZ]; exact hKb _ _ _ _ (by omega) hlX (bl _)
    have hiZ : I i Z := by rw [← hZ]; exact hI.put _ hiX (by omega) hlX (.inl (bl _))
    have haZ : Ax i a' Z := by rw [← hZ]; exact (hAx i a').put (s := ()) _ haX (by omega) hlX (bl _)
    have shut : ∀ (j : Option Code) (U0 : World), KeepsFrom w.heap.size Z U0 → ∃ U, U0.putObj (d + 1) (.loop (rc (if j.isNone then .ready else .done) j)) = U ∧ (Instr.endRound (d + 1) j).run P U0 = .ok (.bool j.isNone) U ∧
        U.heap[d + 1]? = some (.loop (rc (if j.isNone then .ready else .done) j)) ∧ U.heap[d]? = some (.deferred (some [])) ∧ U0.heap[d + 1]? = some (.loop { rc .ready none with state := .busy }) := fun j U0 hY0 => by
      have hlY := hY0.same _ _ (by omega) hlZ rfl
      have hdY := hY0.same _ _ (by omega) hdZ rfl
      have he := run_endRound (P := P) j hlY
      rw [hrc] at he
      refine ⟨_, rfl, ?_, World.putObj_heap_same (Array.getElem?_eq_some_iff.1 hlY).1, (World.putObj_heap_other (by omega)).trans hdY, hlY⟩
      rw [hrc]
      exact he
    refine wpIn_mono (hbody _ i a' Z hiZ haZ hY) ?_
    intro e a3 U0 hp
    cases e with
    | normal =>
      obtain ⟨k1, k2, k3⟩ := hp
      obtain ⟨U, hU, r1, r2, r3, r4⟩ := shut none U0 k1
      refine ⟨_, _, r1, .inl ⟨rfl, ⟨?_, r2, r3⟩, hKt hKX (hKt (hKt hKZ k2) ?_)⟩⟩
      · rw [← hU]; exact hI.put _ k3 (by omega) r4 (.inl (bl _))
      · rw [← hU]; exact hKb _ _ _ _ (by omega) r4 (bl _)
    | ret =>
      obtain ⟨U, hU, r1, r2, r3, r4⟩ := shut (some .ret) U0 hp.1
      exact ⟨_, _, r1, .inr ⟨rfl, .ret, by rw [← hU]; exact (hIx _).put _ hp.2 (by omega) r4 (.inl (bl _)), r2, r3⟩⟩
    | exit id =>
      obtain ⟨U, hU, r1, r2, r3, r4⟩ := shut (some (.exit id)) U0 hp.1
      exact ⟨_, _, r1, .inr ⟨rfl, .exit id, by rw [← hU]; exact (hIx _).put _ hp.2 (by omega) r4 (.inl (bl _)), r2, r3⟩⟩
    | goto t =>
      obtain ⟨U, hU, r1, r2, r3, r4⟩ := shut (some (.goto t)) U0 hp.1
      exact ⟨_, _, r1, .inr ⟨rfl, .goto t, by rw [← hU]; exact (hIx _).put _ hp.2 (by omega) r4 (.inl (bl _)), r2, r3⟩⟩
    | panic ch => exact hp.elim
    | outgrown => exact hp.elim
  · rintro e U0 ⟨⟨v, rfl⟩, i, c, hi, hl, hk⟩
    have he := run_endLoop (P := P) hl (by rw [hrc]; simp)
    rw [hrc] at he
    exact ⟨some c, _, he, hstop d c i _ (by omega) ((hIx c).put _ hi (by omega) hl (.inl (bl _))) ((World.putObj_heap_other (by omega)).trans hk)⟩
end Go.Proofs.Ytkebffkekinblaa
/- A pattern that goes round without end: the program's closure that is ranged over. -/

namespace Go.Proofs.Ytkebffkekinblaa
open Go Go.RowKit Go.Shelf
attribute [local go_sem] Oper.semAt_some

/-- whether the length behind which i lengths lie was drawn -/
def drawnD (i : Nat) : Bool := decide (i % 2 = 1)
theorem drawn_next (i : Nat) : drawnD (i + 1) = !drawnD i := by
  unfold drawnD
  rcases (show i % 2 = 0 ∨ i % 2 = 1 from by omega) with h | h
  · rw [decide_eq_true (show (i + 1) % 2 = 1 by omega), decide_eq_false (show ¬ i % 2 = 1 by omega)]; rfl
  · rw [decide_eq_false (show ¬ (i + 1) % 2 = 1 by omega), decide_eq_true h]; rfl
/-- what a round of the loop's body leaves as it was: what lay below n₀, and two boxes -/
def KpS (n₀ Bp Bq : Nat) (V W' : World) : Prop := V.heap.size ≤ W'.heap.size ∧ ∀ b, (b < n₀ ∨ b = Bp ∨ b = Bq) → b < V.heap.size → W'.heap[b]? = V.heap[b]?
section
variable {n₀ Bp Bq : Nat} {U V W : World}
theorem KpS.trans (h : KpS n₀ Bp Bq U V) (k : KpS n₀ Bp Bq V W) : KpS n₀ Bp Bq U W := ⟨Nat.le_trans h.1 k.1, fun b hb hlt => (k.2 b hb (Nat.lt_of_lt_of_le hlt h.1)).trans (h.2 b hb hlt)⟩
theorem KpS.below {B : Nat} (h : Below B V W) (h0 : n₀ ≤ B) (h1 : Bp < B) (h2 : Bq < B) : KpS n₀ Bp Bq V W := ⟨h.size, fun b hb _ => h.block b (by rcases hb with hb | rfl | rfl <;> omega)⟩
theorem KpS.put (l : Nat) (o : Obj) (h0 : n₀ ≤ l) (h1 : Bp < l) (h2 : Bq < l) : KpS n₀ Bp Bq V (V.putObj l o) := ⟨by simp, fun b hb _ => World.putObj_heap_other (by rcases hb with hb | rfl | rfl <;> omega)⟩
theorem Box.keptS {g : Nat} {t : TypeId} {vs : List Value} (h : Box V g t vs) (hg : g < n₀ ∨ g = Bp ∨ g = Bq) (k : KpS n₀ Bp Bq V W) : Box W g t vs := (k.2 g hg h.lt).trans h
theorem RdV.keptS {p : Option Addr} {xs : List Value} (h : RdV V n₀ p xs) (hn : n₀ ≤ V.heap.size) (k : KpS n₀ Bp Bq V W) : RdV W n₀ p xs := fun hx => by
  obtain ⟨b, o, e, hb, hc⟩ := h hx
  refine ⟨b, o, e, hb, fun j hj => ?_⟩
  rw [← hc j hj]
  exact World.cell?_of_block (w := V) (k.2 b (.inl hb) (by omega))
end
theorem grown_belowU {w w' : World} {B : Nat} (hB : B = w.heap.size) (h : Below B w w') : w.grownBy w' none := ⟨h.os, h.tape, h.output, h.size, fun k hk _ => h.block k (by omega)⟩

theorem rounds_in (n : Nat) (A : Option Addr) (k c : Nat) (h : Int) (w : World) :
    CallsIn Fence.wide n Try.prog 22 #[.slice A k c, .int .i64 h] w fun e w' => e = .returned (.func (.func 37) #[] #[.pointer (some ⟨w.heap.size + 1, 0, none⟩), .pointer (some ⟨w.heap.size, 0, none⟩)]) ∧ w' = (w.alloc (.cells #[.slice A k c] 25)).alloc (.cells #[.int .i64 h] 3) := by
  refine callsIn_of_wp Try.func22 rfl trivial ?_ rfl
  simp only [Try.ntmps22, List.size_toArray, List.length_cons, List.length_nil, Nat.reduceAdd, Nat.reduceSub, Array.replicate_succ, Array.replicate_zero, List.push_toArray, List.append_toArray, List.nil_append, List.cons_append]
  gi_wp2
  go_ret
  exact ⟨rfl, rfl⟩

set_option maxRecDepth 100000 in
set_option maxHeartbeats 4000000 in
theorem rounds1_in (n : Nat) (hn : 3 ≤ n) (l Bp Bq n₀ : Nat) (P : List Int) (A : Option Addr) (c : Nat) (h : Int) (hm : MayD P h) (hp : 0 < P.length) (hc : P.length ≤ c) (N : Nat) (hNb : N ≤ 1000000)
    (J Jx : Nat → World → Prop) (W : World) (hA : RdV W n₀ A (icells P)) (hn₀ : n₀ ≤ W.heap.size) (hbp : Box W Bp 3 [.int .i64 h]) (hbq : Box W Bq 25 [.slice A P.length c])
    (hJ : AbX (fun _ => False) W.heap.size J) (hN : ∀ i V, J i V → i < N) (hsk : ∀ i V, J i V → ¬ 0 < goneP P (i + 1) - h % totalP P → J (i + 1) V)
    (hY : ∀ i V, J i V → 0 < goneP P (i + 1) - h % totalP P → YieldAt Fence.wide (n - 1) Try.prog l #[.int .i64 (goneP P (i + 1) - h % totalP P), .bool (drawnD (i + 1))] V fun e W' =>
      (e = .returned (.bool true) ∧ J (i + 1) W' ∧ KpS n₀ Bp Bq V W') ∨ (e = .returned (.bool false) ∧ Jx (i + 1) W'))
    (h0 : J 0 W) :
    CallsIn Fence.wide n Try.prog 37 #[.func (.yield l) #[] #[], .pointer (some ⟨Bp, 0, none⟩), .pointer (some ⟨Bq, 0, none⟩)] W fun e W' => (∃ v, e = .returned v) ∧ ∃ i, Jx i W' := by
  refine callsIn_of_wp Try.func37 rfl trivial ?_ rfl
  simp only [Try.ntmps37, List.size_toArray, List.length_cons, List.length_nil, Nat.reduceAdd, Nat.reduceSub, Array.replicate_succ, Array.replicate_zero, List.push_toArray, List.append_toArray, List.nil_append, List.cons_append]
  have h1 : 1 ≤ n := by omega
  have hti := totalP_in hm
  have htp := totalP_pos hm hp
  have HG := Lib.hid (goneP_in hm hp)
  have cT := fun V (hb : Below W.heap.size W V) => dash_Total P A c h hm V (((hA.below (hb.mono hn₀)).mono (Nat.le_trans hn₀ hb.size))) hc
  obtain ⟨h2, h3⟩ := hm.2.1
  obtain ⟨T, hT⟩ : ∃ T, totalP P = T := ⟨_, rfl⟩
  rw [hT] at hti htp
  simp only [hT] at hsk hY cT
  obtain ⟨s, hs⟩ : ∃ s, h % T = s := ⟨_, rfl⟩
  rw [hs] at hsk hY
  have hsb : 0 ≤ s ∧ s < T := by rw [← hs]; exact ⟨Int.emod_nonneg _ (by omega), Int.emod_lt_of_pos _ (by omega)⟩
  have htm : h.tmod T = s := by rw [Int.tmod_eq_emod_of_nonneg (by omega)]; exact hs
  have hTz : ¬ T = 0 := by omega
  have hwn : IntKind.i64.wrap (-s) = -s := IntWalk.i64_in _ (by omega)
  obtain ⟨m, hml⟩ : ∃ m, P.length = m := ⟨_, rfl⟩
  have HM := Lib.hid hml
  rw [hml] at hbq cT hc
  have h8 : m ≤ 8 := by rw [← hml]; exact hm.1
  have hm0 : 0 < m := by omega
  have CT := Lib.hid cT
  have HY := Lib.hid hY
  have HJ := Lib.hid hJ
  have HN := Lib.hid hN
  have HSK := Lib.hid hsk
  have HW := Lib.hid (And.intro hA (And.intro hbp (And.intro hbq h0)))
  have f0 := hbp.cell 0 rfl
  have f1 := hbq.cell 0 rfl
  have g0 : W.drew.cell? ⟨Bp, 0, none⟩ = some (.int .i64 h) := f0
  have g1 : W.drew.cell? ⟨Bq, 0, none⟩ = some (.slice A m c) := f1
  have HPA := Lib.hid (fun i => show patAt P i = P.getD (i % m) 0 from by unfold patAt; rw [hml])
  clear hY hJ hN hsk cT hA hm hp hT hs hml h0
  gi_wp2
  gi_region_with first
    | ((try refine ⟨trivial, ?_⟩); gi_at_call 14; (with_reducible refine (callsIn_wide.2 (CT.out _ (Below.refl _ W).drew)).mono ?_); rintro e w1 ⟨rfl, b1⟩
       have B1 : Below W.heap.size W w1 := (Below.refl _ W).drew.trans b1
       have k0 := (HW.out.2.1.below B1 HW.out.2.1.lt).cell 0 rfl
       have k1 := (HW.out.2.2.1.below B1 HW.out.2.2.1.lt).cell 0 rfl
       have HB1 := Lib.hid B1
       clear b1 B1)
  all_goals
    have HS := Lib.hid (show (RdV w1 n₀ A (icells P) ∧ Box w1 Bp 3 [.int .i64 h] ∧ Box w1 Bq 25 [.slice A m c]) ∧ n₀ ≤ w1.heap.size ∧ J 0 w1 from
      ⟨⟨HW.out.1.below (HB1.out.mono hn₀), HW.out.2.1.below HB1.out HW.out.2.1.lt, HW.out.2.2.1.below HB1.out HW.out.2.2.1.lt⟩, Nat.le_trans hn₀ HB1.out.size, HJ.out 0 W w1 none HW.out.2.2.2 (grown_belowU rfl HB1.out) (fun r e => by cases e)⟩)
    clear k0 k1
    gi_wp2
    change Code.wpIn _ _ _ _ _ { tmps := #[.func (.yield l) #[] #[], .pointer (some ⟨Bp, 0, none⟩), .pointer (some ⟨Bq, 0, none⟩), undef, .int .i64 (-s), .bool false, undef, undef, .int .i64 h, .slice A m c, .int .i64 T, .int .i64 s, .int .i64 (-s), undef, undef, undef, undef, undef, undef, undef, undef, undef, undef, undef, undef, undef, undef, undef, undef, undef, undef, undef, undef, undef], defers := [] } _
    dsimp only
    gi_loopg [4, 5] N (fun gh tv dv wr => ∃ i : Nat, tv = .int .i64 (goneP P i - s) ∧ dv = .bool (drawnD i) ∧ gh = N - i ∧ i % m = 0 ∧ ((RdV wr n₀ A (icells P) ∧ Box wr Bp 3 [.int .i64 h] ∧ Box wr Bq 25 [.slice A m c]) ∧ n₀ ≤ wr.heap.size ∧ J i wr))
    case atStart => exact ⟨0, by simp [goneP], rfl, rfl, by simp, HS.out⟩
    case round =>
      obtain ⟨i0, rfl, rfl, rfl, him, hk⟩ := hrel
      have hi0 := HN.out i0 wr hk.2.2
      have q1 := hk.1.2.2.cell 0 rfl
      have HK := Lib.hid hk
      have HI := Lib.hid him
      clear hk him
      gi_wp2
      gi_loopg [4, 5, 15] m (fun gh tv dv jv wr => ∃ j : Nat, jv = .int .i64 (j : Int) ∧ gh + j = m ∧ tv = .int .i64 (goneP P (i0 + j) - s) ∧ dv = .bool (drawnD (i0 + j)) ∧ ((RdV wr n₀ A (icells P) ∧ Box wr Bp 3 [.int .i64 h] ∧ Box wr Bq 25 [.slice A m c]) ∧ n₀ ≤ wr.heap.size ∧ J (i0 + j) wr))
      case atStart => exact ⟨0, rfl, by omega, rfl, rfl, HK.out⟩
      case round =>
        obtain ⟨j, rfl, hg, rfl, rfl, hk⟩ := hrel
        have HGJ := Lib.hid hg
        have hij := HN.out _ _ hk.2.2
        have hwj : IntKind.i64.wrap ((j : Int) + 1) = (j : Int) + 1 := IntWalk.i64_in _ (by omega)
        by_cases hlt : j < m
        · have hlt' : j < P.length := by rw [HM.out]; exact hlt
          obtain ⟨g, o, rfl, hgl, e0⟩ := hk.1.1.num (i := j) hlt'
          have hjl : (j : Int) < (m : Int) := by omega
          have hmod : (i0 + j) % m = j := by
            have := HI.out
            rw [Nat.add_mod, this, Nat.zero_add, Nat.mod_mod, Nat.mod_eq_of_lt hlt]
          have hst : goneP P (i0 + j + 1) = goneP P (i0 + j) + P[j] := by
            show goneP P (i0 + j) + patAt P (i0 + j) = _
            rw [HPA.out, hmod]
            simp [List.getD, List.getElem?_eq_getElem hlt']
          have hb := HG.out (i0 + j)
          have hb1 := HG.out (i0 + j + 1)
          have hsk := HSK.out (i0 + j) wr hk.2.2
          have hyy := HY.out (i0 + j) wr hk.2.2
          have HDR := Lib.hid (drawn_next (i0 + j))
          rw [drawn_next] at hyy
          rw [hst] at hb1 hsk hyy
          have HST := Lib.hid hst
          clear hst hmod
          generalize P[j] = x at e0 hb1 hsk hyy HST
          clear hlt'
          generalize drawnD (i0 + j) = d at hyy HDR ⊢
          generalize goneP P (i0 + j) = T0 at hb hb1 hsk hyy HST ⊢
          obtain ⟨T1, hT1⟩ : ∃ t, T0 + x - s = t := ⟨_, rfl⟩
          rw [hT1] at hsk hyy
          have HT1 := Lib.hid hT1
          have hw1 : IntKind.i64.wrap (T0 - s + x) = T1 := by rw [← hT1]; rw [show T0 - s + x = T0 + x - s by omega]; exact IntWalk.i64_in _ (by omega)
          have HKJ := Lib.hid hk
          clear hT1 hb hb1 hk hg
          by_cases hpos : 0 < T1
          · obtain ⟨fn, tmps, assign, body, hy, hR⟩ := hyy hpos
            clear hyy hsk
            gi_wp2
            refine hR.mono ?_
            rintro e W3 (⟨rfl, hJ3, hk3⟩ | ⟨rfl, hJx3⟩)
            · have H3 := Lib.hid (show ((RdV W3 n₀ (some ⟨g, o, none⟩) (icells P) ∧ Box W3 Bp 3 [.int .i64 h] ∧ Box W3 Bq 25 [.slice (some ⟨g, o, none⟩) m c]) ∧ n₀ ≤ W3.heap.size ∧ J (i0 + j + 1) W3) from
                ⟨⟨HKJ.out.1.1.keptS HKJ.out.2.1 hk3, HKJ.out.1.2.1.keptS (.inr (.inl rfl)) hk3, HKJ.out.1.2.2.keptS (.inr (.inr rfl)) hk3⟩, Nat.le_trans HKJ.out.2.1 hk3.1, hJ3⟩)
              clear hJ3 hk3
              gi_wp2
              gi_roundg (m - (j + 1))
              case measure => have := HGJ.out; omega
              case rel => exact ⟨j + 1, by simp, by have := HGJ.out; omega, by rw [← Nat.add_assoc, HST.out, HT1.out], by rw [← Nat.add_assoc, HDR.out], H3.out⟩
            · have H3 := Lib.hid hJx3
              clear hJx3
              gi_wp2
              refine bodyPost_ret (results_none rfl _ _ _) rfl ?_
              exact ⟨⟨_, rfl⟩, _, H3.out⟩
          · have H3 := Lib.hid (hsk (by omega))
            clear hyy hsk
            gi_wp2
            refine ⟨fun _ h => (by cases h), ?_⟩
            gi_wp2
            gi_roundg (m - (j + 1))
            case measure => have := HGJ.out; omega
            case rel => exact ⟨j + 1, by simp, by have := HGJ.out; omega, by rw [← Nat.add_assoc, HST.out, HT1.out], by rw [← Nat.add_assoc, HDR.out], HKJ.out.1, HKJ.out.2.1, H3.out⟩
        · obtain rfl : j = m := by omega
          have HE := Lib.hid hk
          have hlast : (i0 + j) % j = 0 := by rw [Nat.add_mod_right]; exact HI.out
          have HLA := Lib.hid hlast
          clear hk hg hlast
          gi_wp2
          gi_roundg (N - (i0 + j))
          case measure => omega
          case rel => exact ⟨i0 + j, rfl, rfl, rfl, HLA.out, HE.out⟩
/-- the closure as an iterator without end -/
theorem rounds_seq (n : Nat) (hn : 3 ≤ n) (Bp Bq n₀ : Nat) (P : List Int) (A : Option Addr) (c : Nat) (h : Int) (hm : MayD P h) (hp : 0 < P.length) (hc : P.length ≤ c) (N : Nat) (hNb : N ≤ 1000000)
    (w : World) (hA : RdV w n₀ A (icells P)) (hn₀ : n₀ ≤ w.heap.size) (hbp : Box w Bp 3 [.int .i64 h]) (hbq : Box w Bq 25 [.slice A P.length c]) :
    SeqB Fence.wide n Try.prog 37 #[.pointer (some ⟨Bp, 0, none⟩), .pointer (some ⟨Bq, 0, none⟩)] (fun i => #[.int .i64 (goneP P (i + 1) - h % totalP P), .bool (drawnD (i + 1))]) (fun i => 0 < goneP P (i + 1) - h % totalP P) (fun _ => False) (KpS n₀ Bp Bq) N w :=
  fun l J Jx W hW hJ _ hN hsk hY h0 =>
    rounds1_in n hn l Bp Bq n₀ P A c h hm hp hc N hNb J Jx W (hA.below (hW.mono hn₀)) (Nat.le_trans hn₀ hW.size) (hbp.below hW hbp.lt) (hbq.below hW hbq.lt) hJ hN hsk hY h0
end Go.Proofs.Ytkebffkekinblaa
