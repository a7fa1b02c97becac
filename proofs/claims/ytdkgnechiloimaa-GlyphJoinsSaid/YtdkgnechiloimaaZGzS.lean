/- A range over a function that writes memory of its own between two rounds: the iterator's contract, and the law for the caller. -/
import Derived.RangeFuncNested
import Derived.RangeFuncBound
import Derived.RangeFuncCalls
import Derived.RangeFuncLeaves
import Derived.Shelf.Abstract
import Derived.Shelf.RegionOpen
import Derived.WalkKit
import Derived.OwnWalkIn
import Derived.TacticsInMore
import Derived.LoopNIn
import Derived.LoopIn
import Derived.Sort.LoopGhostIn
import Derived.Maps.AppendAt
import Derived.Maps.OwnIn
import Derived.Lib.Hide
import Derived.Test.YtdkgnechiloimaaChecked
import Derived.Test.YtdkgnechiloimaaZGzR
namespace Go.Proofs.Ytdkgnechiloimaa
open Go Go.RowKit

/-- what is said stands when a block laid from B on, of the kind T, is turned -/
def AbX {β : Type} (T : Obj → Prop) (B : Nat) (J : β → World → Prop) : Prop :=
  ∀ s W W' row, J s W → W.grownBy W' row → (∀ r, row = some r → B ≤ r ∧ ∃ o : Obj, W.heap[r]? = some o ∧ T o) → J s W'
theorem AbX.put {β : Type} {T : Obj → Prop} {B : Nat} {J : β → World → Prop} (h : AbX T B J) {s : β} {W : World} {l : Nat} {o : Obj} (o' : Obj) (hs : J s W) (hB : B ≤ l) (hl : W.heap[l]? = some o) (ho : T o) : J s (W.putObj l o') :=
  h s W _ (some l) hs (grownBy_putObj' W l o') (fun r e => by cases e; exact ⟨hB, o, hl, ho⟩)
theorem AbX.alloc {β : Type} {T : Obj → Prop} {B : Nat} {J : β → World → Prop} (h : AbX T B J) {s : β} {W : World} (o : Obj) (hs : J s W) : J s (W.alloc o) :=
  h s W _ none hs (World.grownBy_alloc W o none) (fun r e => by cases e)
theorem AbX.and {β : Type} {T : Obj → Prop} {B : Nat} {I J : β → World → Prop} (h : AbX T B I) (k : AbX T B J) : AbX T B (fun s W => I s W ∧ J s W) := fun s W W' row hs hg hr => ⟨h s W W' row hs.1 hg hr, k s W W' row hs.2 hg hr⟩
/-- the kinds that the book-keeping of the loop turns -/
def IsBook (o : Obj) : Prop := (∃ r, o = .loop r) ∨ (∃ d, o = .deferred d)

/-- THE ITERATOR's CONTRACT: T: what kind of blocks of its own it turns; Ok: what it says of what it hands over -/
def SeqX {α : Type} (F : Fence) (n : Nat) (P : Program) (g : Nat) (lb : Array Value) (encs : α → Array Value) (T : Obj → Prop) (Ok : α → World → Prop) (Kp : World → World → Prop) (S Sp : List α → Prop) (N : Nat) (w : World) : Prop :=
  ∀ (l : Nat) (J Jx : List α → World → Prop) (W : World), Below w.heap.size w W → AbX T W.heap.size J → AbX T W.heap.size Jx →
    (∀ pre x V, J pre V → Ok x V → pre.length < N → YieldAt F (n - 1) P l (encs x) V fun e W' =>
      (e = .returned (.bool true) ∧ J (pre ++ [x]) W' ∧ Kp V W') ∨ (e = .returned (.bool false) ∧ Jx (pre ++ [x]) W')) →
    J [] W →
    CallsIn F n P g (#[.func (.yield l) #[] #[]] ++ lb) W fun e W' => (∃ v, e = .returned v) ∧ ((∃ xs, S xs ∧ J xs W') ∨ (∃ pre, Sp pre ∧ Jx pre W'))

/-- THE LAW -/
theorem wpIn_rangeX {α : Type} {F : Fence} {n : Nat} {P : Program} {g : Operand} {ps : Array Tmp} {assign body : Code} {Q : Exit → Act → World → Prop} {a : Act} {w : World}
    (hro : F.round = none) (h1 : 1 ≤ n) {gf : Nat} {lb : Array Value} (hg : a.eval g = .func (.func gf) #[] lb) (hFg : F.fn gf) (eg : ∀ args w, (callFunc gf args).run P w = .ok (.enter gf args) w)
    {encs : α → Array Value} {T : Obj → Prop} {Ok : α → World → Prop} {Kp : World → World → Prop} {S Sp : List α → Prop} {N : Nat} (hseq : SeqX F (n - 1) P gf lb encs T Ok Kp S Sp N w)
    (hT : ∀ o, T o → ¬ IsBook o) (hKt : ∀ {A B C : World}, Kp A B → Kp B C → Kp A C) (hKb : ∀ (W : World) (l : Nat) (o o' : Obj), w.heap.size ≤ l → W.heap[l]? = some o → IsBook o → Kp W (W.putObj l o')) (hps : ∀ x, (encs x).size = ps.size)
    (I : List α → World → Prop) (Ix : Code → List α → World → Prop) (hI : AbX (fun o => IsBook o ∨ T o) w.heap.size I) (hIx : ∀ c, AbX (fun o => IsBook o ∨ T o) w.heap.size (Ix c)) (h0 : I [] w)
    (Ax : α → Act → World → Prop) (hAx : ∀ x a', AbX IsBook w.heap.size (fun (_ : Unit) W => Ax x a' W))
    (hassign : ∀ (l : Nat) (pre : List α) (x : α) (W : World) (K : Act → World → Prop), I pre W → Ok x W → (∀ a' W', KeepsFrom w.heap.size W W' → Kp W W' → I pre W' → Ax x a' W' → K a' W') →
      assign.wpIn (F.inRound l) (n - 1 - 1) P (Exit.then K (fun _ _ _ => False)) { tmps := (ps.zip (encs x)).foldl (fun t (p, v) => t.setIfInBounds p v) a.tmps, defers := [] } W)
    (hbody : ∀ (l : Nat) (pre : List α) (x : α) (a' : Act) (W : World), I pre W → Ax x a' W → pre.length < N → body.wpIn (F.inRound l) (n - 1 - 1) P (ownPostG w.heap.size Kp I Ix (pre ++ [x]) W) a' W)
    (hdone : ∀ (D : Nat) (xs : List α) (W : World), w.heap.size ≤ D → S xs → I xs W → W.heap[D]? = some (.deferred (some [])) → Q .normal { a with defers := { target := .collected D, args := #[] } :: a.defers } W)
    (hstop : ∀ (D : Nat) (c : Code) (pre : List α) (W : World), w.heap.size ≤ D → Sp pre → Ix c pre W → W.heap[D]? = some (.deferred (some [])) → c.wpIn F n P Q { a with defers := { target := .collected D, args := #[] } :: a.defers } W) :
    (Code.rangeFunc g ps assign body).wpIn F n P Q a w := by
  refine wpIn_rangeFunc fun fn hfn => ?_
  rw [hro]
  -- the two blocks of book-keeping: d for the rounds' deferred calls, l the record
  obtain ⟨d, hd⟩ : ∃ d, w.heap.size = d := ⟨_, rfl⟩
  obtain ⟨rc, hrc⟩ : ∃ rc : LoopState → Option Code → Loop, rc = fun st pe => { state := st, pending := pe, fn, tmps := a.tmps, params := ps, assign, body, defers := w.heap.size } := ⟨_, rfl⟩
  obtain ⟨V, hV⟩ : ∃ V, (w.alloc (.deferred (some []))).alloc (.loop (rc .ready none)) = V := ⟨_, rfl⟩
  have hsz : V.heap.size = d + 1 + 1 := by rw [← hV, ← hd]; simp
  have hL : V.heap[d + 1]? = some (.loop (rc .ready none)) := by
    have h := World.alloc_heap_new (w.alloc (.deferred (some []))) (.loop (rc .ready none))
    rw [World.size_alloc, hV, hd] at h
    exact h
  have hD : V.heap[d]? = some (.deferred (some [])) := by
    rw [← hV, ← hd]
    exact (Below.heap_alloc _ _ _ (by simp)).trans (World.alloc_heap_new w _)
  have hIV : I [] V := by rw [← hV]; exact hI.alloc _ (hI.alloc _ h0)
  have hbV : Below w.heap.size w V := by rw [← hV]; exact ((Below.refl _ w).alloc (Nat.le_refl _) _).alloc (by simp) _
  -- what lies in the two blocks is not turned by what turns blocks of the kind T
  have keep : ∀ {X Y : World} {row : Option Nat} {k : Nat} {o : Obj}, X.grownBy Y row → (∀ r, row = some r → V.heap.size ≤ r ∧ ∃ o : Obj, X.heap[r]? = some o ∧ T o) → X.heap[k]? = some o → IsBook o → Y.heap[k]? = some o := fun {X Y row k o} hgr hr hk hb => by
    refine (hgr.block k (Array.getElem?_eq_some_iff.1 hk).1 (fun e => ?_)).trans hk
    obtain ⟨-, o', ho', hT'⟩ := hr k e.symm
    rw [hk] at ho'
    cases ho'
    exact hT _ hT' hb
  have wide : ∀ {X : World} {row : Option Nat}, (∀ r, row = some r → V.heap.size ≤ r ∧ ∃ o : Obj, X.heap[r]? = some o ∧ T o) → (∀ r, row = some r → w.heap.size ≤ r ∧ ∃ o : Obj, X.heap[r]? = some o ∧ (IsBook o ∨ T o)) := fun hr r e => by
    obtain ⟨h2, o, ho, hT'⟩ := hr r e
    exact ⟨by omega, o, ho, .inr hT'⟩
  have bl : ∀ r, IsBook (.loop r) := fun r => .inl ⟨r, rfl⟩
  have bd : ∀ r, IsBook (.deferred r) := fun r => .inr ⟨r, rfl⟩
  refine ⟨d + 1, [{ target := .collected d, args := #[] }], V, { target := .fn (.func gf) lb, args := #[.func (.yield (d + 1)) #[] #[]] }, V, gf, #[.func (.yield (d + 1)) #[] #[]] ++ lb, V, ?_, ?_, ?_, ?_, fun _ => h1, ?_⟩
  · rw [← hV, hrc, ← hd]; exact run_enterLoop_outer _ _ _ _ _
  · simp only [resolve, hg]
    simp [go_sem]
  · intro f' hf'
    simp [Target.leads] at hf'
    subst hf'
    exact hFg
  · simp [invoke, go_sem, eg]
  refine (hseq (d + 1)
    (fun pre W => I pre W ∧ W.heap[d + 1]? = some (.loop (rc .ready none)) ∧ W.heap[d]? = some (.deferred (some [])))
    (fun pre W => ∃ c, Ix c pre W ∧ W.heap[d + 1]? = some (.loop (rc .done (some c))) ∧ W.heap[d]? = some (.deferred (some [])))
    V hbV
    (fun s X Y row hs hgr hr => ⟨hI s X Y row hs.1 hgr (wide hr), keep hgr hr hs.2.1 (bl _), keep hgr hr hs.2.2 (bd _)⟩)
    (fun s X Y row hs hgr hr => by
      obtain ⟨c, hc, hl, hk⟩ := hs
      exact ⟨c, hIx c s X Y row hc hgr (wide hr), keep hgr hr hl (bl _), keep hgr hr hk (bd _)⟩)
    ?_ ⟨hIV, hL, hD⟩).mono ?_
  · rintro pre x W ⟨hi, hl, hk⟩ hok hlen
    have hy := run_yield (P := P) (args := encs x) hl (by rw [hrc]; exact hps x)
    rw [hrc] at hy
    refine ⟨fn, _, assign, body, hy, roundIn_of_wpIn hfn (hassign _ pre x W _ hi hok ?_)⟩
    intro a' X hkX hKX hiX haX
    have hlX := hkX.same _ _ (by omega) hl rfl
    have hdX := hkX.same _ _ (by omega) hk rfl
    have hlt : d + 1 < X.heap.size := (Array.getElem?_eq_some_iff.1 hlX).1
    refine ⟨_, run_beginRound hlX (by rw [hrc]), ?_⟩
    obtain ⟨Z, hZ⟩ : ∃ Z, X.putObj (d + 1) (.loop { rc .ready none with state := .busy }) = Z := ⟨_, rfl⟩
    rw [hZ]
    have hlZ : Z.heap[d + 1]? = some (.loop { rc .ready none with state := .busy }) := by rw [← hZ]; exact World.putObj_heap_same hlt
    have hdZ : Z.heap[d]? = some (.deferred (some [])) := by rw [← hZ]; exact (World.putObj_heap_other (by omega)).trans hdX
    have hKZ : Kp X Z := by rw [← hZ]; exact hKb _ _ _ _ (by omega) hlX (bl _)
    have hiZ : I pre Z := by rw [← hZ]; exact hI.put _ hiX (by omega) hlX (.inl (bl _))
    have haZ : Ax x a' Z := by rw [← hZ]; exact (hAx x a').put (s := ()) _ haX (by omega) hlX (bl _)
    -- however the body is left, the record is there to be closed
    have shut : ∀ (j : Option Code) (Y : World), KeepsFrom w.heap.size Z Y → ∃ U, Y.putObj (d + 1) (.loop (rc (if j.isNone then .ready else .done) j)) = U ∧ (Instr.endRound (d + 1) j).run P Y = .ok (.bool j.isNone) U ∧
        U.heap[d + 1]? = some (.loop (rc (if j.isNone then .ready else .done) j)) ∧ U.heap[d]? = some (.deferred (some [])) ∧ Y.heap[d + 1]? = some (.loop { rc .ready none with state := .busy }) := fun j Y hY => by
      have hlY := hY.same _ _ (by omega) hlZ rfl
      have hdY := hY.same _ _ (by omega) hdZ rfl
      have he := run_endRound (P := P) j hlY
      rw [hrc] at he
      refine ⟨_, rfl, ?_, World.putObj_heap_same (Array.getElem?_eq_some_iff.1 hlY).1, (World.putObj_heap_other (by omega)).trans hdY, hlY⟩
      rw [hrc]
      exact he
    refine wpIn_mono (hbody _ pre x a' Z hiZ haZ hlen) ?_
    intro e a3 Y hp
    cases e with
    | normal =>
      obtain ⟨k1, k2, k3⟩ := hp
      obtain ⟨U, hU, r1, r2, r3, r4⟩ := shut none Y k1
      refine ⟨_, _, r1, .inl ⟨rfl, ⟨?_, r2, r3⟩, hKt hKX (hKt (hKt hKZ k2) ?_)⟩⟩
      · rw [← hU]; exact hI.put _ k3 (by omega) r4 (.inl (bl _))
      · rw [← hU]; exact hKb _ _ _ _ (by omega) r4 (bl _)
    | ret =>
      obtain ⟨U, hU, r1, r2, r3, r4⟩ := shut (some .ret) Y hp.1
      exact ⟨_, _, r1, .inr ⟨rfl, .ret, by rw [← hU]; exact (hIx _).put _ hp.2 (by omega) r4 (.inl (bl _)), r2, r3⟩⟩
    | exit id =>
      obtain ⟨U, hU, r1, r2, r3, r4⟩ := shut (some (.exit id)) Y hp.1
      exact ⟨_, _, r1, .inr ⟨rfl, .exit id, by rw [← hU]; exact (hIx _).put _ hp.2 (by omega) r4 (.inl (bl _)), r2, r3⟩⟩
    | goto t =>
      obtain ⟨U, hU, r1, r2, r3, r4⟩ := shut (some (.goto t)) Y hp.1
      exact ⟨_, _, r1, .inr ⟨rfl, .goto t, by rw [← hU]; exact (hIx _).put _ hp.2 (by omega) r4 (.inl (bl _)), r2, r3⟩⟩
    | panic ch => exact hp.elim
    | outgrown => exact hp.elim
  · rintro e Y ⟨⟨v, rfl⟩, (⟨xs, hS, hi, hl, hk⟩ | ⟨pre, hSp, c, hi, hl, hk⟩)⟩
    · have he := run_endLoop (P := P) hl (by rw [hrc]; simp)
      rw [hrc] at he
      exact ⟨none, _, he, hdone d xs _ (by omega) hS (hI.put _ hi (by omega) hl (.inl (bl _))) ((World.putObj_heap_other (by omega)).trans hk)⟩
    · have he := run_endLoop (P := P) hl (by rw [hrc]; simp)
      rw [hrc] at he
      exact ⟨some c, _, he, hstop d c pre _ (by omega) hSp ((hIx c).put _ hi (by omega) hl (.inl (bl _))) ((World.putObj_heap_other (by omega)).trans hk)⟩
end Go.Proofs.Ytdkgnechiloimaa
/- What a round keeps, what is guarded, and the table of the letters that were found. -/

namespace Go.Proofs.Ytdkgnechiloimaa
open Go Go.RowKit
open Go.Maps (Keyed)

/-- what a round keeps: what lay below n₀; from Nb on, but for the loop's book-keeping, all that is not the row ρ, which may go to new blocks -/
def KpR (n₀ Nb : Nat) (ρ : World → Option Nat) (W W' : World) : Prop :=
  Below n₀ W W' ∧ (∀ k o, Nb ≤ k → W.heap[k]? = some o → ¬ IsBook o → some k ≠ ρ W → W'.heap[k]? = some o) ∧ (ρ W' = ρ W ∨ ∀ k, ρ W' = some k → W.heap.size ≤ k ∧ k < W'.heap.size)
/-- ρ is read off block Bp -/
def AtBox (Bp : Nat) (ρ : World → Option Nat) : Prop := ∀ X Y : World, Y.heap[Bp]? = X.heap[Bp]? → ρ Y = ρ X
section
variable {n₀ Nb Bp : Nat} {ρ : World → Option Nat}
theorem KpR.tr {A B C : World} (h : KpR n₀ Nb ρ A B) (k : KpR n₀ Nb ρ B C) : KpR n₀ Nb ρ A C := by
  obtain ⟨h1, h2, h3⟩ := h
  obtain ⟨k1, k2, k3⟩ := k
  refine ⟨h1.trans k1, fun j o hj ho hb hr => k2 j o hj (h2 j o hj ho hb hr) hb ?_, ?_⟩
  · rcases h3 with e | e
    · rw [e]; exact hr
    · intro e2
      have := (e j e2.symm).1
      have := (Array.getElem?_eq_some_iff.1 ho).1
      omega
  · have hs := h1.size
    have hs2 := k1.size
    rcases k3 with e | e
    · rcases h3 with e2 | e2
      · exact .inl (e.trans e2)
      · exact .inr fun j hj => by
          obtain ⟨a, b⟩ := e2 j (e ▸ hj)
          exact ⟨a, by omega⟩
    · exact .inr fun j hj => ⟨by have := (e j hj).1; omega, (e j hj).2⟩
theorem KpR.refl (W : World) : KpR n₀ Nb ρ W W := ⟨Below.refl _ _, fun _ _ _ ho _ _ => ho, .inl rfl⟩
theorem KpR.book (hρ : AtBox Bp ρ) {w : World} (hn : n₀ ≤ w.heap.size) (hB : Bp < w.heap.size) (W : World) (l : Nat) (o o' : Obj) (hl : w.heap.size ≤ l) (h : W.heap[l]? = some o) (hb : IsBook o) : KpR n₀ Nb ρ W (W.putObj l o') := by
  refine ⟨(Below.refl n₀ W).grown (grownBy_putObj' W l o') (by have := (Array.getElem?_eq_some_iff.1 h).1; omega) (fun k e => by cases e; omega), fun k p _ hp hq _ => (World.putObj_heap_other (fun e => ?_)).trans hp, .inl (hρ _ _ (World.putObj_heap_other (by omega)))⟩
  subst e
  rw [h] at hp
  cases hp
  exact hq hb
/-- what only lays new blocks keeps all -/
theorem KpR.ofBelow (hρ : AtBox Bp ρ) {W W' : World} (h : Below W.heap.size W W') (hn : n₀ ≤ W.heap.size) (hB : Bp < W.heap.size) : KpR n₀ Nb ρ W W' :=
  ⟨h.mono hn, fun k _ _ ho _ _ => (h.block k (Array.getElem?_eq_some_iff.1 ho).1).trans ho, .inl (hρ _ _ (h.block Bp hB))⟩

/-- a guarded block -/
def Pr (Nb : Nat) (ρ : World → Option Nat) (W : World) (k : Nat) : Prop := Nb ≤ k ∧ k < W.heap.size ∧ some k ≠ ρ W
theorem Pr.kept {W W' : World} {k : Nat} (h : Pr Nb ρ W k) (hK : KpR n₀ Nb ρ W W') : Pr Nb ρ W' k := by
  refine ⟨h.1, Nat.lt_of_lt_of_le h.2.1 hK.1.size, ?_⟩
  rcases hK.2.2 with e | e
  · rw [e]; exact h.2.2
  · intro e2
    have := (e k e2.symm).1
    have := h.2.1
    omega
theorem Pr.obj {W W' : World} {k : Nat} {o : Obj} (h : Pr Nb ρ W k) (hK : KpR n₀ Nb ρ W W') (ho : W.heap[k]? = some o) (hb : ¬ IsBook o) : W'.heap[k]? = some o := hK.2.1 k o h.1 ho hb h.2.2
theorem not_book_cells {vs : Array Value} {t : TypeId} {f : Nat × Nat} : ¬ IsBook (.cells vs t f) := by
  rintro (⟨r, e⟩ | ⟨d, e⟩) <;> cases e
theorem not_book_map {es : Array MapEntry} {c : Nat} : ¬ IsBook (.map es c) := by
  rintro (⟨r, e⟩ | ⟨d, e⟩) <;> cases e
theorem cells_there {W : World} {b o : Nat} {v : Value} (h : W.cell? ⟨b, o, none⟩ = some v) : ∃ vs t f, W.heap[b]? = some (.cells vs t f) := by
  obtain ⟨ob, ho, hc⟩ := cells_of_cell h
  cases ob <;> simp [Obj.isCells] at hc
  exact ⟨_, _, _, ho⟩
theorem Box.keptK {W W' : World} {g : Nat} {t : TypeId} {vs : List Value} (h : Box W g t vs) (hp : Pr Nb ρ W g) (hK : KpR n₀ Nb ρ W W') : Box W' g t vs := hp.obj hK h not_book_cells

/-- what is read out of a guarded block -/
def RdR (Nb : Nat) (ρ : World → Option Nat) (W : World) (A : Option Addr) (xs : List Value) : Prop :=
  0 < xs.length → ∃ b o, A = some ⟨b, o, none⟩ ∧ Pr Nb ρ W b ∧ ∀ (j : Nat) (h : j < xs.length), W.cell? ⟨b, o + j, none⟩ = some xs[j]
theorem RdR.nil (W : World) (A : Option Addr) : RdR Nb ρ W A [] := fun h => absurd h (by simp)
theorem RdR.kept {W W' : World} {A : Option Addr} {xs : List Value} (h : RdR Nb ρ W A xs) (hK : KpR n₀ Nb ρ W W') : RdR Nb ρ W' A xs := fun hn => by
  obtain ⟨b, o, e, hp, hc⟩ := h hn
  obtain ⟨vs, t, f, ho⟩ := cells_there (hc 0 hn)
  exact ⟨b, o, e, hp.kept hK, fun j hj => (World.cell?_of_block (a := ⟨b, o + j, none⟩) ((hp.obj hK ho not_book_cells).trans ho.symm)).trans (hc j hj)⟩
/-- .. where one block is turned that it doesn't lie in -/
theorem RdR.turned {W W' : World} {A : Option Addr} {xs : List Value} {r : Nat} (h : RdR Nb ρ W A xs) (hg : W.grownBy W' (some r)) (hr : ∀ b o, A = some ⟨b, o, none⟩ → 0 < xs.length → b ≠ r) (hρ : ρ W' = ρ W) : RdR Nb ρ W' A xs := fun hn => by
  obtain ⟨b, o, e, ⟨h1, h2, h3⟩, hc⟩ := h hn
  have hb := hr b o e hn
  exact ⟨b, o, e, ⟨h1, Nat.lt_of_lt_of_le h2 hg.size, by rw [hρ]; exact h3⟩, fun j hj => (World.cell?_of_block (a := ⟨b, o + j, none⟩) (hg.block b h2 (fun e2 => hb (by injection e2)))).trans (hc j hj)⟩
theorem RdR.not_map {W : World} {A : Option Addr} {xs : List Value} (h : RdR Nb ρ W A xs) {M : Nat} {es : Array MapEntry} {c : Nat} (hM : W.heap[M]? = some (.map es c)) : ∀ b o, A = some ⟨b, o, none⟩ → 0 < xs.length → b ≠ M := fun b o e hn e2 => by
  obtain ⟨b', o', e', -, hc⟩ := h hn
  rw [e] at e'
  cases e'
  subst e2
  obtain ⟨vs, t, f, ho⟩ := cells_there (hc 0 hn)
  rw [hM] at ho
  cases ho
theorem RdR.rd {W : World} {A : Option Addr} {xs : List Value} (h : RdR Nb ρ W A xs) : RdV W W.heap.size A xs := fun hn => by
  obtain ⟨b, o, e, hp, hc⟩ := h hn
  exact ⟨b, o, e, hp.2.1, hc⟩
theorem NewS.rdR {n₁ : Nat} {W : World} {A : Option Addr} {l : List St} (h : NewS n₁ W A l) (h1 : Nb ≤ n₁) (h2 : ∀ k, ρ W = some k → k < n₁) : RdR Nb ρ W A (stRow l) := fun hn => by
  obtain ⟨b, o, e, hl, hc⟩ := h.1 hn
  have hb := h.2 b o e (by rw [stRow_length] at hn; omega)
  exact ⟨b, o, e, ⟨by omega, hl, fun e2 => by have := h2 b e2.symm; omega⟩, hc⟩
end

/-- an entry is held as it stands -/
def heldV (v : Value) : Option (DataW Value × List MemPlace) := some (.held v, [])
theorem key_u8 : Keyed Try.prog 5 := Maps.int_keyed Try.underlying5
theorem keyOf_u8 (u : UInt8) : keyOf Try.prog 5 (.int .u8 (u.toNat : Int)) = some (.int .u8 (u.toNat : Int)) := by
  have h : u.toNat < 256 := u.toNat_lt
  refine Maps.keyOf_int_mk Try.underlying5 ?_
  simp [Lit.wf, IntKind.min, IntKind.max, IntKind.bits, IntKind.signed]
  omega
theorem zero_glyph (w : World) : (zeroValue 43).run Try.prog w = .ok (gvV gv0) w := by kernel_rfl
/-- THE TABLE: what was found for a byte is that byte's letter, and its steps are guarded -/
def Cache (Nb : Nat) (ρ : World → Option Nat) (font : List Gl) (M n : Nat) (W : World) : Prop :=
  ∃ D : DataW Value, W.ownsMap Try.prog 5 heldV M n D ∧ ∀ u : UInt8, Maps.has D (.int .u8 (u.toNat : Int)) = true →
    ∃ y : Glv, D.atKey (.int .u8 (u.toNat : Int)) (.held (gvV gv0)) = .held (gvV y) ∧ letterM font (u.toNat : Int) = (y.gl, 0) ∧ RdR Nb ρ W y.A (stRow y.steps)
section
variable {n₀ Nb Bp : Nat} {ρ : World → Option Nat} {font : List Gl} {M n : Nat}
theorem Cache.made (W : World) : Cache Nb ρ font W.heap.size 0 (W.alloc (.map #[] 0)) :=
  ⟨.map [], World.ownsMap_made W _ _ _, fun u h => by simp [Maps.has] at h⟩
theorem Cache.obj {W : World} (h : Cache Nb ρ font M n W) : ∃ es c, W.heap[M]? = some (.map es c) := by
  obtain ⟨D, ⟨es, c, hb, -⟩, -⟩ := h
  exact ⟨es, c, hb⟩
theorem Cache.mono {W : World} (h : Cache Nb ρ font M n W) {m : Nat} (hm : n ≤ m) : Cache Nb ρ font M m W := by
  obtain ⟨D, ho, hg⟩ := h
  exact ⟨D, ho.mono hm, hg⟩
theorem Cache.kept {W W' : World} (h : Cache Nb ρ font M n W) (hp : Pr Nb ρ W M) (hK : KpR n₀ Nb ρ W W') : Cache Nb ρ font M n W' := by
  obtain ⟨D, ⟨es, c, hb, hr⟩, hg⟩ := h
  refine ⟨D, ⟨es, c, hp.obj hK hb not_book_map, hr⟩, fun u hu => ?_⟩
  obtain ⟨y, h1, h2, h3⟩ := hg u hu
  exact ⟨y, h1, h2, h3.kept hK⟩
theorem Cache.look {W : World} (h : Cache Nb ρ font M n W) (u : UInt8) : ∃ v b, (Instr.lookup 52 (.map (some M)) (.int .u8 (u.toNat : Int)) true).run Try.prog W = .ok (.tuple #[v, .bool b]) W ∧
    ((b = false ∧ v = gvV gv0) ∨ (b = true ∧ ∃ y : Glv, v = gvV y ∧ letterM font (u.toNat : Int) = (y.gl, 0) ∧ RdR Nb ρ W y.A (stRow y.steps))) := by
  obtain ⟨D, ho, hg⟩ := h
  obtain ⟨v, ps, hrun, hv⟩ := ho.look_ok key_u8 Try.underlying52 (zero_glyph W) (zd := .held (gvV gv0)) (zp := []) rfl (keyOf_u8 u)
  refine ⟨v, _, hrun, ?_⟩
  have hv2 : (.held v : DataW Value) = D.atKey (.int .u8 (u.toNat : Int)) (.held (gvV gv0)) := by
    unfold heldV at hv
    simp only [Option.some.injEq, Prod.mk.injEq] at hv
    exact hv.1
  cases hh : Maps.has D (.int .u8 (u.toNat : Int)) with
  | false =>
    refine .inl ⟨rfl, ?_⟩
    rw [Maps.atKey_of_not_has hh] at hv2
    injection hv2
  | true =>
    obtain ⟨y, h1, h2, h3⟩ := hg u hh
    rw [h1] at hv2
    injection hv2 with e
    exact .inr ⟨rfl, y, e, h2, h3⟩
theorem u8_ne {u v : UInt8} (h : u ≠ v) : (Lit.int .u8 (u.toNat : Int)) ≠ .int .u8 (v.toNat : Int) := fun e => by
  injection e with _ e2
  exact h (UInt8.toNat_inj.1 (by omega))
theorem Cache.store {W : World} (hρ : AtBox Bp ρ) (h : Cache Nb ρ font M n W) (hB : Bp < W.heap.size) (hM : Bp ≠ M) (hn : n < maxLen) (u : UInt8) (y : Glv) (h1 : letterM font (u.toNat : Int) = (y.gl, 0)) (h2 : RdR Nb ρ W y.A (stRow y.steps)) :
    ∃ W', (Instr.mapUpdate 52 (.map (some M)) (.int .u8 (u.toNat : Int)) (gvV y)).run Try.prog W = .ok () W' ∧ Cache Nb ρ font M (n + 1) W' ∧ W.grownBy W' (some M) ∧ ρ W' = ρ W ∧ RdR Nb ρ W' y.A (stRow y.steps) := by
  obtain ⟨es, cl, hobj⟩ := h.obj
  obtain ⟨D, ho, hg⟩ := h
  obtain ⟨W', hrun, hown, hgr⟩ := ho.update key_u8 Try.underlying52 hn (d := .held (gvV y)) (ps := []) (keyOf_u8 u) rfl
  have hr : ρ W' = ρ W := hρ _ _ (hgr.block Bp hB (fun e => hM (by injection e)))
  refine ⟨W', hrun, ⟨_, hown, fun v hv => ?_⟩, hgr, hr, h2.turned hgr (h2.not_map hobj) hr⟩
  by_cases e : v = u
  · subst e
    refine ⟨y, ?_, h1, h2.turned hgr (h2.not_map hobj) hr⟩
    exact Maps.atKey_put_same ho.isMap (key_u8.key (keyOf_u8 v)) _ _
  · rw [Maps.has_put_other (u8_ne e)] at hv
    obtain ⟨z, k1, k2, k3⟩ := hg v hv
    exact ⟨z, by rw [Maps.atKey_put_other (u8_ne e)]; exact k1, k2, k3.turned hgr (k3.not_map hobj) hr⟩
end
end Go.Proofs.Ytdkgnechiloimaa
/- A text's letters, one by one: the program's closure that is ranged over. -/

namespace Go.Proofs.Ytdkgnechiloimaa
open Go Go.RowKit Go.Shelf
attribute [local go_sem] Oper.semAt_some

theorem letters_in (n : Nat) (A : Option Addr) (k c : Nat) (s : ByteArray) (w : World) :
    CallsIn Fence.wide n Try.prog 9 #[.slice A k c, .string s] w fun e w' => e = .returned (.func (.func 13) #[] #[.pointer (some ⟨w.heap.size + 1, 0, none⟩), .pointer (some ⟨w.heap.size, 0, none⟩)]) ∧ w' = (w.alloc (.cells #[.slice A k c] 22)).alloc (.cells #[.string s] 9) := by
  refine callsIn_of_wp Try.func9 rfl trivial ?_ rfl
  simp only [Try.ntmps9, List.size_toArray, List.length_cons, List.length_nil, Nat.reduceAdd, Nat.reduceSub, Array.replicate_succ, Array.replicate_zero, List.push_toArray, List.append_toArray, List.nil_append, List.cons_append]
  gi_wp2
  go_ret
  exact ⟨rfl, rfl⟩

/-- the kinds of blocks that the iterator turns -/
def TG (o : Obj) : Prop := (∃ es c, o = .map es c) ∨ (∃ vs f, o = .cells vs 43 f)
/-- what is handed over: a glyph as it lies, and what is wrong -/
abbrev Lt := Glv × Int
def Lt.m (x : Lt) : Gl × Int := (x.1.gl, x.2)
def OkL (Nb : Nat) (ρ : World → Option Nat) (x : Lt) (W : World) : Prop := RdR Nb ρ W x.1.A (stRow x.1.steps) ∧ (x.2 = 0 → MayG x.1.gl)
/-- what lies where while the iterator runs -/
structure Itr (n₀ Nb Bt Bf M : Nat) (ρ : World → Option Nat) (A : Option Addr) (k c : Nat) (s : ByteArray) (W wr : World) : Prop where
  below : Below n₀ W wr
  tb : Box wr Bt 9 [.string s]
  fb : Box wr Bf 22 [.slice A k c]
  pt : Pr Nb ρ wr Bt
  pf : Pr Nb ρ wr Bf
  pm : Pr Nb ρ wr M
  rlt : ∀ j, ρ wr = some j → j < wr.heap.size
section
variable {n₀ Nb Bt Bf M : Nat} {ρ : World → Option Nat} {A : Option Addr} {k c : Nat} {s : ByteArray} {W wr : World}
theorem Itr.kept {w' : World} (h : Itr n₀ Nb Bt Bf M ρ A k c s W wr) (hK : KpR n₀ Nb ρ wr w') : Itr n₀ Nb Bt Bf M ρ A k c s W w' :=
  ⟨h.below.trans hK.1, h.tb.keptK h.pt hK, h.fb.keptK h.pf hK, h.pt.kept hK, h.pf.kept hK, h.pm.kept hK, fun j hj => by
    rcases hK.2.2 with e | e
    · exact Nat.lt_of_lt_of_le (h.rlt j (e ▸ hj)) hK.1.size
    · exact (e j hj).2⟩
theorem Itr.turned {w' : World} {r : Nat} (h : Itr n₀ Nb Bt Bf M ρ A k c s W wr) (hg : wr.grownBy w' (some r)) (h1 : r ≠ Bt) (h2 : r ≠ Bf) (h3 : n₀ ≤ r) (h4 : n₀ ≤ wr.heap.size) (hρ : ρ w' = ρ wr) : Itr n₀ Nb Bt Bf M ρ A k c s W w' :=
  ⟨h.below.grown hg h4 (fun j e => by cases e; exact h3), (hg.block Bt h.tb.lt (fun e => h1 (by injection e with e; exact e.symm))).trans h.tb, (hg.block Bf h.fb.lt (fun e => h2 (by injection e with e; exact e.symm))).trans h.fb,
    ⟨h.pt.1, Nat.lt_of_lt_of_le h.pt.2.1 hg.size, by rw [hρ]; exact h.pt.2.2⟩, ⟨h.pf.1, Nat.lt_of_lt_of_le h.pf.2.1 hg.size, by rw [hρ]; exact h.pf.2.2⟩, ⟨h.pm.1, Nat.lt_of_lt_of_le h.pm.2.1 hg.size, by rw [hρ]; exact h.pm.2.2⟩,
    fun j hj => Nat.lt_of_lt_of_le (h.rlt j (hρ ▸ hj)) hg.size⟩
end

theorem grown_below {w w' : World} (h : Below w.heap.size w w') : w.grownBy w' none := ⟨h.os, h.tape, h.output, h.size, fun k hk _ => h.block k hk⟩
theorem letters_at {font : List Gl} {t : List UInt8} {i : Nat} (hi : i < t.length) (h : ∀ u ∈ t.take i, (letterM font (u.toNat : Int)).2 = 0) :
    lettersM font t = (t.take i).map (fun u => letterM font (u.toNat : Int)) ++ (if (letterM font (t[i].toNat : Int)).2 = 0 then letterM font (t[i].toNat : Int) :: lettersM font (t.drop (i + 1)) else [letterM font (t[i].toNat : Int)]) := by
  have e : t = t.take i ++ t[i] :: t.drop (i + 1) := by rw [← List.drop_eq_getElem_cons hi, List.take_append_drop]
  conv => lhs; rw [e]
  exact lettersM_step font _ _ _ h

set_option maxRecDepth 100000 in
set_option maxHeartbeats 4000000 in
theorem letters1_in (n : Nat) (hn : 3 ≤ n) (l Bt Bf Bp n₀ Nb : Nat) (ρ : World → Option Nat) (hρ : AtBox Bp ρ) (L : List Glv) (A : Option Addr) (c : Nat) (s : ByteArray) (hm : s.size ≤ 4611686018427387904) (hm2 : L.length ≤ 4611686018427387904)
    (J Jx : List Lt → World → Prop) (W : World) (hL : RdGlv W n₀ A L) (hn₀ : n₀ ≤ Nb) (hNb : Nb ≤ W.heap.size) (hBp : Bp < Nb) (hbt : Box W Bt 9 [.string s]) (hbf : Box W Bf 22 [.slice A L.length c]) (hNt : Nb ≤ Bt) (hNf : Nb ≤ Bf) (hr0 : ρ W = none)
    (hJ : AbX TG W.heap.size J)
    (hY : ∀ pre (x : Lt) V, J pre V → OkL Nb ρ x V → pre.length < s.size → YieldAt Fence.wide (n - 1) Try.prog l #[gvV x.1, .int .i64 x.2] V fun e W' =>
      (e = .returned (.bool true) ∧ J (pre ++ [x]) W' ∧ KpR n₀ Nb ρ V W') ∨ (e = .returned (.bool false) ∧ Jx (pre ++ [x]) W'))
    (h0 : J [] W) :
    CallsIn Fence.wide n Try.prog 13 #[.func (.yield l) #[] #[], .pointer (some ⟨Bt, 0, none⟩), .pointer (some ⟨Bf, 0, none⟩)] W fun e W' => (∃ v, e = .returned v) ∧
      ((∃ ys : List Lt, ys.map Lt.m = lettersM (L.map Glv.gl) s.data.toList ∧ J ys W') ∨ (∃ pre : List Lt, pre.map Lt.m <+: lettersM (L.map Glv.gl) s.data.toList ∧ Jx pre W')) := by
  refine callsIn_of_wp Try.func13 rfl trivial ?_ rfl
  simp only [Try.ntmps13, List.size_toArray, List.length_cons, List.length_nil, Nat.reduceAdd, Nat.reduceSub, Array.replicate_succ, Array.replicate_zero, List.push_toArray, List.append_toArray, List.nil_append, List.cons_append]
  have h1 : 1 ≤ n := by omega
  have HY := Lib.hid hY
  have HJ := Lib.hid hJ
  have HR := Lib.hid hρ
  have HL := Lib.hid hL
  have hmm := @run_makeMap Try.prog
  obtain ⟨W1, hW1⟩ : ∃ W1, W.alloc (.map #[] 0) = W1 := ⟨_, rfl⟩
  have hc1 : Cache Nb ρ (L.map Glv.gl) W.heap.size 0 W1 := by rw [← hW1]; exact Cache.made W
  have hk1 : KpR n₀ Nb ρ W W1 := by rw [← hW1]; exact KpR.ofBelow hρ ((Below.refl _ W).alloc (Nat.le_refl _) _) (by omega) (by omega)
  have hr1 : ρ W1 = none := by
    rw [← hr0, ← hW1]
    exact hρ _ _ (Below.heap_alloc W _ Bp (by omega))
  have hs1 : W1.heap.size = W.heap.size + 1 := by rw [← hW1]; simp
  have hi1 : Itr n₀ Nb Bt Bf W.heap.size ρ A L.length c s W W1 := ⟨hk1.1, hbt.keptK ⟨hNt, hbt.lt, by rw [hr0]; simp⟩ hk1, hbf.keptK ⟨hNf, hbf.lt, by rw [hr0]; simp⟩ hk1, ⟨hNt, by have := hbt.lt; omega, by rw [hr1]; simp⟩, ⟨hNf, by have := hbf.lt; omega, by rw [hr1]; simp⟩, ⟨hNb, by omega, by rw [hr1]; simp⟩, fun j hj => by rw [hr1] at hj; cases hj⟩
  have hj1 : J [] W1 := by rw [← hW1]; exact hJ.alloc _ h0
  have HS := Lib.hid (And.intro hc1 (And.intro hi1 hj1))
  have ht0 := hi1.tb.cell 0 rfl
  clear hY hJ hρ hL hc1 hk1 hi1 hj1 h0
  gi_wp2_with (rw [hW1])
  try rw [hW1]
  gi_loopg [12] (s.size + 1) (fun gh it wr => ∃ (i : Nat) (pre : List Lt), it = .int .i64 (i : Int) ∧ gh + i = s.size + 1 ∧ i ≤ s.size ∧ (∀ u ∈ s.data.toList.take i, (letterM (L.map Glv.gl) (u.toNat : Int)).2 = 0) ∧ pre.map Lt.m = (s.data.toList.take i).map (fun u => letterM (L.map Glv.gl) (u.toNat : Int)) ∧
    J pre wr ∧ Cache Nb ρ (L.map Glv.gl) W.heap.size i wr ∧ Itr n₀ Nb Bt Bf W.heap.size ρ A L.length c s W wr)
  case atStart => exact ⟨0, [], rfl, by omega, by omega, by simp, by simp, HS.out.2.2, HS.out.1, HS.out.2.1⟩
  case round =>
    obtain ⟨i, pre, rfl, hg, his, hok, hpre, hJs, hC, hI⟩ := hrel
    have HGI := Lib.hid hg
    by_cases hlt : i < s.size
    · have hlt' : i < s.data.toList.length := by rw [str_len]; exact hlt
      have hat := letters_at hlt' hok
      obtain ⟨u, hu⟩ : ∃ u, s[i]'hlt = u := ⟨_, rfl⟩
      have hu2 : s.data.toList[i]'hlt' = u := hu
      have htk : s.data.toList.take (i + 1) = s.data.toList.take i ++ [u] := by rw [List.take_succ_eq_append_getElem hlt', hu2]
      rw [hu2] at hat
      have hpl : pre.length < s.size := by
        have h := congrArg List.length hpre
        simp only [List.length_map, List.length_take] at h
        omega
      have hsz := hI.pm.2.1
      have hkf := fun (V : World) (h : Below wr.heap.size wr V) => KpR.ofBelow (Nb := Nb) HR.out h (show n₀ ≤ wr.heap.size by omega) (show Bp < wr.heap.size by omega)
      have hil : (i : Int) < (s.size : Int) := by omega
      have ht := hI.tb.cell 0 rfl
      have hf := hI.fb.cell 0 rfl
      obtain ⟨v, b, hlook, hcase⟩ := hC.look u
      rcases hcase with ⟨rfl, rfl⟩ | ⟨rfl, y, rfl, hy1, hy2⟩
      · obtain ⟨W0, hW0, k0, b0⟩ := newBox3 wr 43 (.int .i64 0) (.int .i64 0) (.slice none 0 0)
        obtain ⟨W2, hW2, k2, bb2, hs2, hg2⟩ := k0.put3g (.int .i64 0) (.int .i64 0) (.slice none 0 0)
        have b2 : Below wr.heap.size wr W2 := b0.trans (bb2 _ (Nat.le_refl _))
        have hK2 := hkf W2 b2
        have hJ2 : J pre W2 := HJ.out pre W0 W2 (some wr.heap.size) (by rw [← hW0]; exact HJ.out.alloc _ hJs) hg2 (fun r e => by cases e; exact ⟨Nat.le_of_lt hsz, _, k0, .inr ⟨_, _, rfl⟩⟩)
        have HF := Lib.hid (And.intro (And.intro hok (And.intro hpre htk)) (And.intro hC (And.intro hI hK2)))
        have HJ2 := Lib.hid hJ2
        have HA := Lib.hid hat
        have HK2 := Lib.hid (And.intro k2 b2)
        have hw2 : wr.heap.size < W2.heap.size := k2.lt
        have ht2 := (hI.kept hK2).tb.cell 0 rfl
        have hf2 := (hI.kept hK2).fb.cell 0 rfl
        have HKF := Lib.hid hkf
        have HCL := Lib.hid (fun (V : World) (h : Below W2.heap.size W2 V) => gly_letter L A c u V ((((HL.out.below hI.below).below (b2.mono (by omega))).below (h.mono (by omega))).mono (by have := h.size; omega)) hm2)
        obtain ⟨E, hE⟩ : ∃ E, (letterM (L.map Glv.gl) (u.toNat : Int)).2 = E := ⟨_, rfl⟩
        have HE := Lib.hid hE
        obtain ⟨⟨x0, x1, x2⟩, x3, x4, x5⟩ := k2.trip3
        obtain ⟨⟨z0, z1, z2⟩, z3, z4, z5⟩ := k0.trip3
        clear hok hpre htk hC hI hK2 hJ2 hat hJs hkf k2 b2 hu2 hE k0 b0 bb2 hs2 hg2
        unfold gvV gv0 at hlook
        dsimp only [List.length_nil] at hlook
        gi_wp2_with (rw [hW0])
        try rw [hW2]
        gi_region_with first
          | ((try refine ⟨trivial, ?_⟩); gi_at_call 14; (with_reducible refine (callsIn_wide.2 (HCL.out _ (Below.refl _ W2).drew)).mono ?_); rintro e w3 ⟨y, rfl, hn3, b3⟩
             go_loud (
             have hE := HE.out
             rw [hE]
             obtain ⟨yc, ya, yA, yk, ys⟩ := y
             unfold gvV
             dsimp only
             have b23 : Below W2.heap.size W2 w3 := ((Below.refl _ W2).drew).trans b3
             have k3 := HK2.out.1.below b23 hw2
             obtain ⟨⟨y0, y1, y2⟩, y3, y4, y5⟩ := k3.trip3
             obtain ⟨U, hU, kU, bU, hUs, hUg⟩ := k3.put3g (.int .i64 yc) (.int .i64 ya) (.slice yA ys.length yk)
             have H3 := Lib.hid (And.intro hn3 (And.intro b23 (And.intro kU (And.intro hUg (And.intro (bU wr.heap.size (Nat.le_refl _)) k3)))))
             clear hn3 b3 b23 k3 kU bU hUs hUg hE))
        all_goals
          have hlU : letterM (L.map Glv.gl) (u.toNat : Int) = (Glv.gl ⟨yc, ya, yA, yk, ys⟩, E) := by rw [H3.out.1.1, ← HE.out]
          have bwU : Below wr.heap.size wr U := (HK2.out.2.trans (H3.out.2.1.mono (Nat.le_of_lt hw2))).trans H3.out.2.2.2.2.1
          have hKU := HKF.out U bwU
          have hrU : ρ U = ρ wr := HR.out _ _ (bwU.block Bp (by omega))
          have hRU : RdR Nb ρ U yA (stRow ys) := (H3.out.1.2.grown H3.out.2.2.2.1 (show wr.heap.size < W2.drew.heap.size from hw2)).rdR (by show Nb ≤ W2.heap.size; omega) (fun k hk => by
            rw [hrU] at hk
            have h := HF.out.2.2.1.rlt k hk
            show k < W2.heap.size
            omega)
          have hJU : J pre U := HJ.out pre w3 U (some wr.heap.size) (HJ.out pre W2 w3 none HJ2.out (grown_below H3.out.2.1) (fun r e => by cases e)) H3.out.2.2.2.1 (fun r e => by cases e; exact ⟨Nat.le_of_lt hsz, _, H3.out.2.2.2.2.2, .inr ⟨_, _, rfl⟩⟩)
          obtain ⟨⟨v0, v1, v2⟩, -⟩ := H3.out.2.2.1.trip3
          by_cases hE0 : E = 0
          · have hMay : MayG (Glv.gl ⟨yc, ya, yA, yk, ys⟩) := by
              have h := letterM_may (font := L.map Glv.gl) (c := (u.toNat : Int)) (by rw [hlU]; exact hE0)
              rw [hlU] at h
              exact h
            subst hE0
            have hKD : KpR n₀ Nb ρ wr U.drew := HKF.out _ bwU.drew
            have hrD : ρ U.drew = ρ wr := HR.out _ _ (bwU.drew.block Bp (by omega))
            have hwU : wr.heap.size ≤ U.heap.size := bwU.size
            have hMB : Bp ≠ W.heap.size := by omega
            have hne : wr.heap.size ≠ W.heap.size := by omega
            have hRD : RdR Nb ρ U.drew yA (stRow ys) := hRU.kept (KpR.ofBelow (n₀ := n₀) HR.out (Below.refl _ U).drew (by omega) (by omega))
            obtain ⟨W5, hrun5, hC5, hg5, hr5, hrd5⟩ := Cache.store (W := U.drew) HR.out (HF.out.2.1.kept HF.out.2.2.1.pm hKD) (by show Bp < U.heap.size; omega) hMB (by unfold maxLen; omega) u ⟨yc, ya, yA, yk, ys⟩ hlU hRD
            have hI5 : Itr n₀ Nb Bt Bf W.heap.size ρ A L.length c s W W5 := (HF.out.2.2.1.kept hKD).turned hg5 (by have := hbt.lt; omega) (by have := hbf.lt; omega) (by omega) (by show n₀ ≤ U.heap.size; omega) hr5
            have hJ5 : J pre W5 := by
              obtain ⟨es, cc, hM⟩ := (HF.out.2.1.kept HF.out.2.2.1.pm hKD).obj
              exact HJ.out pre U.drew W5 (some W.heap.size) (HJ.out pre U U.drew none hJU (grown_below (Below.refl _ U).drew) (fun r e => by cases e)) hg5 (fun r e => by cases e; exact ⟨Nat.le_refl _, _, hM, .inl ⟨_, _, rfl⟩⟩)
            have h6 : Box W5 wr.heap.size 43 [.int .i64 yc, .int .i64 ya, .slice yA ys.length yk] := (hg5.block wr.heap.size H3.out.2.2.1.lt (fun e => hne (by injection e))).trans H3.out.2.2.1
            obtain ⟨fn, tmps, assign, body, hy, hRR⟩ := HY.out pre (⟨yc, ya, yA, yk, ys⟩, 0) W5 hJ5 ⟨hrd5, fun _ => hMay⟩ hpl
            have HLE := Lib.hid hlU
            have H5 := Lib.hid (And.intro hC5 hI5)
            obtain ⟨⟨q0, q1, q2⟩, -⟩ := h6.trip3
            have tU := ((HF.out.2.2.1.kept hKD).tb).cell 0 rfl
            have t5 := hI5.tb.cell 0 rfl
            clear hlU bwU hKU hrU hRU hRD hJU hMay hKD hrD hC5 hg5 hr5 hrd5 hI5 hJ5 h6
            unfold gvV at hy hrun5
            dsimp only at hy hrun5
            gi_wp2
            gi_region
            all_goals
              gi_wp2
              refine hRR.mono ?_
              rintro e W6 (⟨rfl, hJ6, hk6⟩ | ⟨rfl, hJx6⟩)
              · have H6 := Lib.hid (And.intro hJ6 hk6)
                clear hJ6 hk6
                gi_wp2
                gi_roundg (s.size + 1 - (i + 1))
                case measure => have := HGI.out; omega
                case rel =>
                  refine ⟨i + 1, pre ++ [(⟨yc, ya, yA, yk, ys⟩, 0)], by simp, by have := HGI.out; omega, by omega, ?_, ?_, H6.out.1, H5.out.1.kept H5.out.2.pm H6.out.2, H5.out.2.kept H6.out.2⟩
                  · rw [HF.out.1.2.2]
                    intro z hz
                    rcases List.mem_append.1 hz with h | h
                    · exact HF.out.1.1 z h
                    · simp at h; subst h; rw [HLE.out]
                  · rw [HF.out.1.2.2, List.map_append, List.map_append, HF.out.1.2.1]
                    simp [Lt.m, HLE.out]
              · have H6 := Lib.hid hJx6
                clear hJx6
                gi_wp2
                refine bodyPost_ret (results_none rfl _ _ _) rfl ?_
                refine ⟨⟨_, rfl⟩, .inr ⟨pre ++ [(⟨yc, ya, yA, yk, ys⟩, 0)], ?_, H6.out⟩⟩
                rw [HA.out, List.map_append, HF.out.1.2.1, HLE.out, if_pos rfl]
                exact ⟨lettersM (L.map Glv.gl) (s.data.toList.drop (i + 1)), by simp [Lt.m]⟩
          · have hEb : (E == 0) = false := by simpa using hE0
            obtain ⟨fn, tmps, assign, body, hy, hRR⟩ := HY.out pre (⟨yc, ya, yA, yk, ys⟩, E) U hJU ⟨hRU, fun h => absurd h hE0⟩ hpl
            have HLE := Lib.hid (show (pre ++ [((⟨yc, ya, yA, yk, ys⟩ : Glv), E)]).map Lt.m = lettersM (L.map Glv.gl) s.data.toList by
              rw [HA.out, hlU, if_neg hE0, List.map_append, HF.out.1.2.1]
              rfl)
            clear hlU bwU hKU hrU hRU hJU
            unfold gvV at hy
            dsimp only at hy
            gi_wp2
            refine hRR.mono ?_
            rintro e W4 (⟨rfl, hJ4, hk4⟩ | ⟨rfl, hJx4⟩)
            · have H4 := Lib.hid hJ4
              clear hJ4 hk4
              gi_wp2
              refine bodyPost_ret (results_none rfl _ _ _) rfl ?_
              exact ⟨⟨_, rfl⟩, .inl ⟨_, HLE.out, H4.out⟩⟩
            · have H4 := Lib.hid hJx4
              clear hJx4
              gi_wp2
              refine bodyPost_ret (results_none rfl _ _ _) rfl ?_
              exact ⟨⟨_, rfl⟩, .inr ⟨_, by rw [HLE.out]; exact List.prefix_refl _, H4.out⟩⟩
      · obtain ⟨W2, hW2, k2, b2⟩ := newBox3 wr 43 (.int .i64 y.code) (.int .i64 y.adv) (.slice y.A y.steps.length y.c)
        have hK2 := hkf W2 b2
        have hJ2 : J pre W2 := by rw [← hW2]; exact HJ.out.alloc _ hJs
        have hMay : MayG y.gl := by have h := letterM_may (font := L.map Glv.gl) (c := (u.toNat : Int)) (by rw [hy1]); rw [hy1] at h; exact h
        obtain ⟨fn, tmps, assign, body, hy, hRR⟩ := HY.out pre (y, 0) W2 hJ2 ⟨hy2.kept hK2, fun _ => hMay⟩ hpl
        have HF := Lib.hid (And.intro (And.intro hok (And.intro hpre htk)) (And.intro hC (And.intro hI hK2)))
        rw [hy1, if_pos rfl] at hat
        have HA := Lib.hid (And.intro hat hy1)
        obtain ⟨⟨x0, x1, x2⟩, -⟩ := k2.trip3
        clear hok hpre htk hC hI hK2 hJ2 hMay hy1 hy2 hat hJs hkf k2 b2 hu2
        unfold gvV at hlook hy
        dsimp only at hlook hy
        gi_wp2_with (rw [hW2])
        try rw [hW2]
        refine hRR.mono ?_
        rintro e W3 (⟨rfl, hJ3, hk3⟩ | ⟨rfl, hJx3⟩)
        · have H3 := Lib.hid (And.intro hJ3 (HF.out.2.2.2.tr hk3))
          clear hJ3 hk3
          gi_wp2
          gi_roundg (s.size + 1 - (i + 1))
          case measure => have := HGI.out; omega
          case rel =>
            refine ⟨i + 1, pre ++ [(y, 0)], by simp, by have := HGI.out; omega, by omega, ?_, ?_, H3.out.1, (HF.out.2.1.kept HF.out.2.2.1.pm H3.out.2).mono (by omega), HF.out.2.2.1.kept H3.out.2⟩
            · rw [HF.out.1.2.2]
              intro z hz
              rcases List.mem_append.1 hz with h | h
              · exact HF.out.1.1 z h
              · simp at h; subst h; rw [HA.out.2]
            · rw [HF.out.1.2.2, List.map_append, List.map_append, HF.out.1.2.1]
              simp [Lt.m, HA.out.2]
        · have H3 := Lib.hid hJx3
          clear hJx3
          gi_wp2
          refine bodyPost_ret (results_none rfl _ _ _) rfl ?_
          refine ⟨⟨_, rfl⟩, .inr ⟨pre ++ [(y, 0)], ?_, H3.out⟩⟩
          rw [HA.out.1, List.map_append, HF.out.1.2.1]
          exact ⟨lettersM (L.map Glv.gl) (s.data.toList.drop (i + 1)), by simp [Lt.m]⟩
    · obtain rfl : i = s.size := by omega
      have hall : s.data.toList.take s.size = s.data.toList := by rw [← str_len]; exact List.take_length
      have HE := Lib.hid (show pre.map Lt.m = lettersM (L.map Glv.gl) s.data.toList by rw [hall] at hpre hok; rw [hpre, lettersM_all _ _ hok])
      have HJE := Lib.hid hJs
      clear hok hpre hJs hC hI hall
      gi_wp2
      go_end0
      exact ⟨⟨_, rfl⟩, .inl ⟨pre, HE.out, HJE.out⟩⟩
end Go.Proofs.Ytdkgnechiloimaa
