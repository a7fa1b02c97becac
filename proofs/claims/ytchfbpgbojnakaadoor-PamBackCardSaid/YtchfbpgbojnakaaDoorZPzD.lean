/- Files of rasters as mathematics: what begins with a file's lines, and what lies behind them. -/
import Derived.Test.YtchfbpgbojnakaaDoorZPzA
import Derived.OrdersHeld
import Derived.WalkKit
import Derived.Test.YtchfbpgbojnakaaDoorZPzC
import Derived.Test.YtchfbpgbojnakaaDoorZFgX
import Derived.Deep.RegionHeld3
import Derived.Deep.AppendLies
namespace Go.Proofs.YtchfbpgbojnakaaDoor

theorem pre_take {b h : By} (e : b.take h.length = h) : b = h ++ b.drop h.length := by
  conv => lhs; rw [← List.take_append_drop h.length b, e]
theorem pre_short {b h : By} (hl : b.length < h.length) (rest : By) : b ≠ h ++ rest := by
  intro e
  have := congrArg List.length e
  rw [List.length_append] at this
  omega
theorem pre_other {b h : By} (e : b.take h.length ≠ h) (rest : By) : b ≠ h ++ rest := by
  intro e2
  apply e
  rw [e2, List.take_left]
theorem bodyOf_cell : ∀ (l : List Col) (i : Nat) (hi : i < l.length), (bodyOf l)[4 * i]? = some l[i].r ∧ (bodyOf l)[4 * i + 1]? = some l[i].g ∧ (bodyOf l)[4 * i + 2]? = some l[i].b ∧ (bodyOf l)[4 * i + 3]? = some l[i].a
  | [], _, hi => absurd hi (by simp)
  | c :: l, 0, _ => by simp [bodyOf, colBy]
  | c :: l, i + 1, hi => by
    have h := bodyOf_cell l i (by simpa using hi)
    have e : bodyOf (c :: l) = [c.r, c.g, c.b, c.a] ++ bodyOf l := by simp [bodyOf, colBy]
    rw [e]
    refine ⟨?_, ?_, ?_, ?_⟩
    all_goals rw [List.getElem?_append_right (by simp; omega)]
    · rw [show 4 * (i + 1) - [c.r, c.g, c.b, c.a].length = 4 * i by simp; omega]; simpa using h.1
    · rw [show 4 * (i + 1) + 1 - [c.r, c.g, c.b, c.a].length = 4 * i + 1 by simp; omega]; simpa using h.2.1
    · rw [show 4 * (i + 1) + 2 - [c.r, c.g, c.b, c.a].length = 4 * i + 2 by simp; omega]; simpa using h.2.2.1
    · rw [show 4 * (i + 1) + 3 - [c.r, c.g, c.b, c.a].length = 4 * i + 3 by simp; omega]; simpa using h.2.2.2
/-- no size up to here has lines with which the file begins -/
def NoHead (b : By) (w h : Int) : Prop := ∀ x y rest, ((1 ≤ x ∧ x ≤ 64) ∧ (1 ≤ y ∧ y ≤ 64)) → (x < w ∨ (x = w ∧ y < h)) → b ≠ headOf x y ++ rest
theorem NoHead.first (b : By) : NoHead b 1 1 := fun x y rest hs hl => by omega
theorem NoHead.next {b : By} {w h : Int} (n : NoHead b w h) (hr : ∀ rest, b ≠ headOf w h ++ rest) : NoHead b w (h + 1) := fun x y rest hs hl => by
  by_cases e : x = w ∧ y = h
  · obtain ⟨rfl, rfl⟩ := e; exact hr rest
  · exact n x y rest hs (by omega)
theorem NoHead.row {b : By} {w : Int} (n : NoHead b w 65) : NoHead b (w + 1) 1 := fun x y rest hs hl => n x y rest hs (by omega)
theorem NoHead.all {b : By} (n : NoHead b 65 1) : IsFile b ras0 3 := .inr ⟨fun x y rest hs => n x y rest hs (by omega), rfl, rfl⟩
/-- a file whose lines are found, and what lies behind them -/
theorem file_few {b : By} {w h : Int} (hs : (1 ≤ w ∧ w ≤ 64) ∧ (1 ≤ h ∧ h ≤ 64)) (e : b.take (headOf w h).length = headOf w h) (hl : ((b.length - (headOf w h).length : Nat) : Int) < 4 * (w * h)) : IsFile b ras0 13 :=
  .inl ⟨w, h, _, hs, pre_take e, .inl ⟨by rw [List.length_drop]; exact hl, rfl, rfl⟩⟩
theorem file_many {b : By} {w h : Int} (hs : (1 ≤ w ∧ w ≤ 64) ∧ (1 ≤ h ∧ h ≤ 64)) (e : b.take (headOf w h).length = headOf w h) (hl : 4 * (w * h) < ((b.length - (headOf w h).length : Nat) : Int)) : IsFile b ras0 14 :=
  .inl ⟨w, h, _, hs, pre_take e, .inr (.inl ⟨by rw [List.length_drop]; exact hl, rfl, rfl⟩)⟩
theorem file_whole {b : By} {w h : Int} (hs : (1 ≤ w ∧ w ≤ 64) ∧ (1 ≤ h ∧ h ≤ 64)) (e : b.take (headOf w h).length = headOf w h) {n : Nat} (hn : w * h = n) (hl : b.length - (headOf w h).length = 4 * n) :
    ∃ l : List Col, l.length = n ∧ b.drop (headOf w h).length = bodyOf l ∧ IsFile b ⟨w, h, l⟩ 0 := by
  obtain ⟨l, h1, h2⟩ := bodyOf_of n (b.drop (headOf w h).length) (by rw [List.length_drop]; exact hl)
  exact ⟨l, h1, h2, .inl ⟨w, h, _, hs, pre_take e, .inr (.inr ⟨l, h2, by rw [h1, hn], rfl, rfl⟩)⟩⟩
end Go.Proofs.YtchfbpgbojnakaaDoor
/- A region that draws its order and whose last operation waits for all the others: the last one is walked apart. No program is named here. -/

namespace Go.Proofs.YtchfbpgbojnakaaDoor
open Go

section
variable {P : Program} {xs : Array Oper} {o : Oper} {Q : Exit → Act → World → Prop} {md : Region.Mode}

/-- each waits for earlier ones only, and is guarded by earlier ones only -/
def earlierB (xs : Array Oper) : Bool := (List.range xs.size).all fun i => ((xs[i]?).map fun oi => oi.after.all (fun e => decide (e.on < i)) && (match oi.guard with | some (g, _) => decide (g < i) | none => true)).getD true
/-- it waits for all of n -/
def waitsAllB (md : Region.Mode) (n : Nat) (o : Oper) : Bool := ((List.range n).all fun i => o.after.any fun e => Region.binds md e && e.on == i) && o.after.all fun e => decide (e.on < n)
theorem earlier_spec (h : earlierB xs = true) {i : Nat} {oi : Oper} (hi : xs[i]? = some oi) : (∀ e ∈ oi.after, e.on < i) ∧ ∀ g b, oi.guard = some (g, b) → g < i := by
  have hlt : i < xs.size := (Array.getElem?_eq_some_iff.1 hi).1
  have h1 := List.all_eq_true.1 h i (List.mem_range.2 hlt)
  rw [hi] at h1
  simp only [Option.map_some, Option.getD_some, Bool.and_eq_true] at h1
  refine ⟨fun e he => ?_, fun g b hg => ?_⟩
  · have := Array.all_eq_true_iff_forall_mem.1 h1.1 e he
    simpa using this
  · have h2 := h1.2
    rw [hg] at h2
    simpa using h2
theorem waits_spec {n : Nat} (h : waitsAllB md n o = true) {i : Nat} (hi : i < n) : ∃ e ∈ o.after, Region.binds md e = true ∧ e.on = i := by
  unfold waitsAllB at h
  rw [Bool.and_eq_true] at h
  have h1 := List.all_eq_true.1 h.1 i (List.mem_range.2 hi)
  obtain ⟨k, hk, h2⟩ := Array.any_eq_true.1 h1
  simp only [Bool.and_eq_true, beq_iff_eq] at h2
  exact ⟨_, Array.getElem_mem hk, h2.1, h2.2⟩
theorem waits_lt {n : Nat} (h : waitsAllB md n o = true) : ∀ e ∈ o.after, e.on < n := fun e he => by
  unfold waitsAllB at h
  rw [Bool.and_eq_true] at h
  simpa using Array.all_eq_true_iff_forall_mem.1 h.2 e he
theorem ready_mem {ops : Array Oper} {l : Array Bool} {i : Nat} : i ∈ Region.ready md ops l ↔ l.getD i true = false ∧ ∃ oi, ops[i]? = some oi ∧ ∀ e ∈ oi.after, Region.binds md e = true → l.getD e.on false = true := by
  unfold Region.ready
  rw [List.mem_filter, List.mem_range]
  constructor
  · rintro ⟨hi, h⟩
    rw [Array.getElem?_eq_getElem hi] at h
    simp only [Option.map_some, Option.getD_some, Bool.and_eq_true, Bool.not_eq_true'] at h
    refine ⟨h.1, _, Array.getElem?_eq_getElem hi, fun e he hb => ?_⟩
    have := Array.all_eq_true_iff_forall_mem.1 h.2 e he
    rw [hb] at this
    simpa using this
  · rintro ⟨h1, oi, h2, h3⟩
    refine ⟨(Array.getElem?_eq_some_iff.1 h2).1, ?_⟩
    rw [h2]
    simp only [Option.map_some, Option.getD_some, Bool.and_eq_true, Bool.not_eq_true']
    refine ⟨h1, Array.all_eq_true_iff_forall_mem.2 fun e he => ?_⟩
    by_cases hb : Region.binds md e = true
    · rw [h3 e he hb]; simp
    · simp [hb]
theorem getD_push_lt {l : Array Bool} {i : Nat} (hi : i < l.size) (b d : Bool) : (l.push b).getD i d = l.getD i d := by
  simp [Array.getD, Array.size_push, hi, Nat.lt_succ_of_lt hi, Array.getElem_push_lt hi]
theorem getD_push_last {l : Array Bool} {n : Nat} (hn : l.size = n) (b d : Bool) : (l.push b).getD n d = b := by
  subst hn
  simp [Array.getD, Array.size_push]
theorem getD_any {l : Array Bool} {i : Nat} (hi : i < l.size) (b d : Bool) : l.getD i b = l.getD i d := by
  simp [Array.getD, hi]
theorem set_push {l : Array Bool} {i : Nat} (hi : i < l.size) (b : Bool) : (l.push false).setIfInBounds i b = (l.setIfInBounds i b).push false := by
  apply Array.ext
  · simp
  · intro j h1 h2
    simp only [Array.size_setIfInBounds, Array.size_push] at h1
    rw [Array.getElem_setIfInBounds (by simpa using h1)]
    by_cases hj : j < l.size
    · rw [Array.getElem_push_lt hj, Array.getElem_push_lt (by simpa using hj), Array.getElem_setIfInBounds hj]
    · have e : j = l.size := by omega
      subst e
      rw [if_neg (by omega)]
      simp [Array.getElem_push]
theorem ready_push_lt (hE : earlierB xs = true) {l : Array Bool} (hl : l.size = xs.size) {i : Nat} (hi : i < xs.size) : i ∈ Region.ready md (xs.push o) (l.push false) ↔ i ∈ Region.ready md xs l := by
  have hget : (xs.push o)[i]? = xs[i]? := by rw [Array.getElem?_push_lt hi, Array.getElem?_eq_getElem hi]
  rw [ready_mem, ready_mem, hget, getD_push_lt (by omega)]
  constructor
  · rintro ⟨h1, oi, h2, h3⟩
    refine ⟨h1, oi, h2, fun e he hb => ?_⟩
    have := (earlier_spec hE h2).1 e he
    rw [← getD_push_lt (b := false) (by omega)]
    exact h3 e he hb
  · rintro ⟨h1, oi, h2, h3⟩
    refine ⟨h1, oi, h2, fun e he hb => ?_⟩
    have := (earlier_spec hE h2).1 e he
    rw [getD_push_lt (by omega)]
    exact h3 e he hb
theorem ready_push_last (hL : waitsAllB md xs.size o = true) {l : Array Bool} (hl : l.size = xs.size) (h : xs.size ∈ Region.ready md (xs.push o) (l.push false)) : ∀ i, i < xs.size → l.getD i true = true := by
  obtain ⟨-, oi, h2, h3⟩ := ready_mem.1 h
  rw [Array.getElem?_push_size] at h2
  obtain rfl := Option.some.inj h2
  intro i hi
  obtain ⟨e, he, hb, rfl⟩ := waits_spec hL hi
  have := h3 e he hb
  rw [getD_push_lt (by omega)] at this
  rw [getD_any (by omega) true false]
  exact this
theorem ready_none {ops : Array Oper} {l : Array Bool} (h : ∀ i, i < ops.size → l.getD i true = true) : Region.ready md ops l = [] := by
  apply List.eq_nil_iff_forall_not_mem.2
  intro i hi
  obtain ⟨h1, oi, h2, -⟩ := ready_mem.1 hi
  rw [h i (Array.getElem?_eq_some_iff.1 h2).1] at h1
  cases h1
theorem ready_some (hE : earlierB xs = true) {l : Array Bool} (hl : l.size = xs.size) (h : Region.ready md xs l = []) : ∀ i, i < xs.size → l.getD i true = true := by
  intro i
  induction i using Nat.strongRecOn with
  | ind i ih =>
    intro hi
    by_cases hb : l.getD i true = true
    · exact hb
    · exfalso
      have hm : i ∈ Region.ready md xs l := by
        refine ready_mem.2 ⟨by simpa using hb, _, Array.getElem?_eq_getElem hi, fun e he _ => ?_⟩
        have h1 := (earlier_spec hE (Array.getElem?_eq_getElem hi)).1 e he
        rw [getD_any (by omega) false true]
        exact ih _ h1 (by omega)
      rw [h] at hm
      cases hm
theorem then_wp {K K' next : Act → World → Prop} {oi : Oper} {a : Act} {w : World} (hK : ∀ a w, K a w → K' a w) (h : oi.wp P a w K (Exit.then next Q)) : oi.wp P a w K' Q := by
  unfold Oper.wp at *
  generalize (execOp a.eval oi).run P w = r at *
  cases r with
  | ok n w' =>
    cases n <;> simp only [Oper.upon] at h ⊢
    all_goals first
      | exact hK _ _ h
      | exact h
      | exact Calls.mono h (fun e w'' he => by cases e <;> first | exact hK _ _ he | exact he)
      | exact Rows.mono h (fun _ _ he => hK _ _ he)
  | halt x w' => cases x <;> simp only [Oper.upon] at h ⊢ <;> exact h
theorem then_op {K K' next : Act → World → Prop} (hE : earlierB xs = true) {i : Nat} (hi : i < xs.size) {a : Act} {w : World} (hK : ∀ a w, K a w → K' a w) (h : wpOp P xs (Exit.then next Q) i K a w) : wpOp P (xs.push o) Q i K' a w := by
  have hx := Array.getElem?_eq_getElem hi
  have hget : (xs.push o)[i]? = some xs[i] := by rw [Array.getElem?_push_lt hi]
  unfold wpOp at *
  rw [hx] at h
  rw [hget]
  dsimp only at h ⊢
  have hw : Region.wanted xs[i] (yielded (xs.push o) a.tmps) = Region.wanted xs[i] (yielded xs a.tmps) := by
    unfold Region.wanted
    cases hg : xs[i].guard with
    | none => rfl
    | some gb =>
      have h1 := (earlier_spec hE hx).2 gb.1 gb.2 hg
      have e : yielded (xs.push o) a.tmps gb.1 = yielded xs a.tmps gb.1 := by
        unfold yielded
        rw [Array.getElem?_push_lt (by omega), Array.getElem?_eq_getElem (by omega)]
      first | rw [e] | simp [e] | (simp only []; rw [e])
  rw [hw]
  split at h
  · rename_i h0
    rw [if_pos h0]
    rcases h with h | ⟨h1, h2⟩
    · exact .inl (then_wp hK h)
    · exact .inr ⟨h1, h2⟩
  · rename_i h0
    rw [if_neg h0]
    exact hK _ _ h
theorem any_done {l : Array Bool} {ops : Array Oper} {a : Act} {w : World} (hr : Region.ready md ops l = []) (h : Q .normal a w) : ∀ fuel, wpAny P md ops Q fuel l a w
  | 0 => ⟨hr, h⟩
  | _ + 1 => ⟨fun _ => h, by rw [hr]; simp⟩
/-- THE LAST ONE APART: what is left to be shown speaks of the others alone. -/
theorem any_push (hE : earlierB xs = true) (hL : waitsAllB md xs.size o = true) : ∀ (fuel : Nat) (l : Array Bool), l.size = xs.size → ∀ (a : Act) (w : World), wpAny P md xs (Exit.then (fun a w => wpOp P (xs.push o) Q xs.size (Q .normal) a w) Q) fuel l a w → wpAny P md (xs.push o) Q (fuel + 1) (l.push false) a w := by
  have last : ∀ (fuel : Nat) (l : Array Bool), l.size = xs.size → (∀ i, i < xs.size → l.getD i true = true) → ∀ (a : Act) (w : World), wpOp P (xs.push o) Q xs.size (Q .normal) a w → wpOp P (xs.push o) Q xs.size (wpAny P md (xs.push o) Q fuel ((l.push false).setIfInBounds xs.size true)) a w := by
    intro fuel l hl hall a w h
    refine wpOp_mono (fun a' w' h' => any_done (ready_none fun i hi => ?_) h' fuel) h
    rw [Array.size_push] at hi
    by_cases e : i = xs.size
    · subst e
      have hlt : xs.size < ((l.push false).setIfInBounds xs.size true).size := by simp [hl]
      rw [Array.getD_eq_getD_getElem?, Array.getElem?_eq_getElem hlt]
      simp
    · have h1 := hall i (by omega)
      have hlt : i < ((l.push false).setIfInBounds xs.size true).size := by simp [hl]; omega
      rw [Array.getD_eq_getD_getElem?, Array.getElem?_eq_getElem hlt, Array.getElem_setIfInBounds (by simpa using hlt), if_neg (by omega), Array.getElem_push_lt (by omega)]
      simp only [Option.getD_some]
      rw [Array.getD_eq_getD_getElem?, Array.getElem?_eq_getElem (by omega)] at h1
      simpa using h1
  have comes : ∀ (l : Array Bool), l.size = xs.size → (∀ i, i < xs.size → l.getD i true = true) → xs.size ∈ Region.ready md (xs.push o) (l.push false) := by
    intro l hl hall
    refine ready_mem.2 ⟨getD_push_last hl false true, o, Array.getElem?_push_size, fun e he _ => ?_⟩
    have h1 := waits_lt hL e he
    rw [getD_push_lt (by omega), getD_any (by omega) false true]
    exact hall _ h1
  intro fuel
  induction fuel with
  | zero =>
    intro l hl a w h
    obtain ⟨hr, hn⟩ := h
    have hall := ready_some hE hl hr
    refine ⟨fun h0 => ?_, fun i hi => ?_⟩
    · exfalso
      have hm := comes l hl hall
      rw [h0] at hm; cases hm
    · by_cases e : i = xs.size
      · subst e; exact last 0 l hl hall a w hn
      · have h1 : i < xs.size := by
          obtain ⟨-, oi, h2, -⟩ := ready_mem.1 hi
          have := (Array.getElem?_eq_some_iff.1 h2).1
          simp at this
          omega
        rw [ready_push_lt hE hl h1, hr] at hi
        cases hi
  | succ fuel ih =>
    intro l hl a w h
    obtain ⟨h0, hs⟩ := h
    refine ⟨fun hr => ?_, fun i hi => ?_⟩
    · exfalso
      cases hx : Region.ready md xs l with
      | nil =>
        have hm := comes l hl (ready_some hE hl hx)
        rw [hr] at hm
        cases hm
      | cons i r =>
        have hi : i ∈ Region.ready md xs l := by rw [hx]; simp
        have hlt : i < xs.size := by
          obtain ⟨-, oi, h2, -⟩ := ready_mem.1 hi
          exact (Array.getElem?_eq_some_iff.1 h2).1
        have hm := (ready_push_lt (o := o) hE hl hlt).2 hi
        rw [hr] at hm
        cases hm
    · by_cases e : i = xs.size
      · subst e
        have hall := ready_push_last hL hl hi
        exact last (fuel + 1) l hl hall a w (h0 (ready_none hall))
      · have h1 : i < xs.size := by
          obtain ⟨-, oi, h2, -⟩ := ready_mem.1 hi
          have := (Array.getElem?_eq_some_iff.1 h2).1
          simp at this
          omega
        rw [set_push (by omega)]
        exact then_op hE h1 (fun a' w' h' => ih (l.setIfInBounds i true) (by simpa using hl) a' w' h') (hs i ((ready_push_lt hE hl h1).1 hi))
/-- .. for a region as it stands -/
theorem wp_region_last {id : Nat} {a : Act} {w : World} (hm : P.follows .mixedOrders = true) (hE : earlierB xs = true) (hL : waitsAllB .any xs.size o = true)
    (h : wpAny P .any xs (Exit.then (fun a w => wpOp P (xs.push o) Q xs.size (Q .normal) a w) Q) xs.size (Array.replicate xs.size false) a { w with drawn := w.drawn + 1 }) : (Code.region id (xs.push o) true).wp P Q a w := by
  refine wp_region_any hm ?_
  have h1 := any_push (o := o) hE hL xs.size (Array.replicate xs.size false) (by simp) a _ h
  rw [Array.size_push, Array.replicate_succ]
  exact h1
theorem wp_region_held_last {ops : Array Oper} {id : Nat} {a : Act} {w : World} (S : World → Prop) (hm : P.follows .mixedOrders = true) (hx : ops.pop = xs) (ho : ops.back? = some o) (hE : earlierB xs = true) (hL : waitsAllB .any xs.size o = true)
    (h : wpAnyH P .any xs (Exit.then (fun a w => wpOp P ops Q xs.size (Q .normal) a w) Q) S xs.size (Array.replicate xs.size false) a w.drew) : (Code.region id ops true).wp P Q a w := by
  have e : ops = xs.push o := by
    obtain ⟨ys, rfl⟩ := Array.back?_eq_some_iff.1 ho
    rw [Array.pop_push] at hx
    rw [hx]
  subst e
  exact wp_region_last hm hE hL (wpAny_of_held _ _ _ _ h)
end
end Go.Proofs.YtchfbpgbojnakaaDoor
/- Rasters: a file is read, the document's own Read. -/

namespace Go.Proofs.YtchfbpgbojnakaaDoor
open Go.RowKit

section
variable {P : Program} {md : Region.Mode} {l : List Oper} {Q : Exit → Act → World → Prop} {S : World → Prop}
theorem takeL {i : Nat} {oi : Oper} {v : Value} {fuel : Nat} {listed : Array Bool} {a : Act} {w : World} (hi : l[i]? = some oi)
    (hs : Region.noSelect l.toArray = true) (hf : Region.free md l.toArray listed i = true) (hr : (Region.ready md l.toArray listed).contains i = true)
    (hQ : ∀ c a w, Q (.panic c) (a.put oi.dst v) w → Q (.panic c) a w) (hy : YieldsIf P l.toArray S oi v a) (hS : S w)
    (h : wpAnyH P md l.toArray Q S fuel (listed.setIfInBounds i true) (a.put oi.dst v) w) : wpAnyH P md l.toArray Q S (fuel + 1) listed a w :=
  wpAnyH_take (by simpa using hi) hs hf hr hQ hy hS h
theorem lastL {next : Exit → Act → World → Prop} {i : Nat} {o : Oper} {a : Act} {w : World} (ho : l[i]? = some o)
    (h : ∀ K' : Act → World → Prop, (∀ a w, Q .normal a w → K' a w) → if Region.wanted o (yielded l.toArray a.tmps) = true then Oper.wp P o a w K' Q else K' (a.put o.dst undef) w) : Exit.then (fun a w => wpOp P l.toArray Q i (Q .normal) a w) next .normal a w :=
  wpOp_step (by simpa using ho) h
theorem consL {fuel : Nat} {listed : Array Bool} {a : Act} {w : World} {i : Nat} {o : Oper} {rs : List Nat} (ho : l[i]? = some o)
    (h : ∀ K' : Act → World → Prop, Shut (∀ a w, S w → (S w → wpAnyH P md l.toArray Q S fuel (listed.setIfInBounds i true) a w) → K' a w) → if Region.wanted o (yielded l.toArray a.tmps) = true then Oper.wp P o a w K' Q else K' (a.put o.dst undef) w)
    (hs : AllReadyH P md l.toArray Q S fuel listed a w rs) : AllReadyH P md l.toArray Q S fuel listed a w (i :: rs) :=
  AllReadyH.cons (by simpa using ho) h hs
end
theorem Box.put3 {w : World} {R : Nat} {t : TypeId} {a b d : Value} (hz : Box w R t [a, b, d]) (x y z : Value) :
    ∃ U, ((w.setCell ⟨R, 0, none⟩ x).setCell ⟨R, 1, none⟩ y).setCell ⟨R, 2, none⟩ z = U ∧ (U.cell? ⟨R, 0, none⟩ = some x ∧ U.cell? ⟨R, 1, none⟩ = some y ∧ U.cell? ⟨R, 2, none⟩ = some z) ∧ (∀ A, A ≤ R → Below A w U) := by
  have hb : Box (((w.setCell ⟨R, 0, none⟩ x).setCell ⟨R, 1, none⟩ y).setCell ⟨R, 2, none⟩ z) R t [x, y, z] := ((hz.set 0 _).set 1 _).set 2 _
  exact ⟨_, rfl, ⟨hb.cell 0 rfl, hb.cell 1 rfl, hb.cell 2 rfl⟩, fun A hA => (((Below.refl A w).setCell (p := ⟨R, 0, none⟩) hA _).setCell (p := ⟨R, 1, none⟩) hA _).setCell (p := ⟨R, 2, none⟩) hA _⟩
theorem str_ne_list {u s : ByteArray} (h : ¬ u = s) : (u.toList == s.toList) = false := by
  rw [beq_eq_false_iff_ne]
  intro e
  rw [ByteArray.toList_eq, ByteArray.toList_eq] at e
  exact h (ByteArray.ext (Array.toList_inj.mp e))
theorem conv_head {w : World} {B : Nat} {p : Option Addr} {l : By} {n : Nat} (h : RdV w B p (bcells l)) (c : Nat) (hn : n ≤ l.length) : (convert 25 9 (.slice p n c)).run Tryd.prog w = .ok (.string (str (l.take n))) w := by
  have h2 := h.take n
  rw [bcells_take] at h2
  have h3 := conv_by h2 c
  rw [List.length_take, Nat.min_eq_left hn] at h3
  exact h3

theorem rest_cells {w : World} {B g o n : Nat} {bs : By} {l : List Col} (h : RdV w B (some ⟨g, o, none⟩) (bcells bs)) (hd : bs.drop n = bodyOf l) {i : Nat} (hi : i < l.length) :
    w.cell? ⟨g, o + n + 4 * i, none⟩ = some (.int .u8 (l[i].r.toNat : Int)) ∧ w.cell? ⟨g, o + n + (4 * i + 1), none⟩ = some (.int .u8 (l[i].g.toNat : Int)) ∧ w.cell? ⟨g, o + n + (4 * i + 2), none⟩ = some (.int .u8 (l[i].b.toNat : Int)) ∧ w.cell? ⟨g, o + n + (4 * i + 3), none⟩ = some (.int .u8 (l[i].a.toNat : Int)) := by
  obtain ⟨h0, h1, h2, h3⟩ := bodyOf_cell l i hi
  rw [← hd, List.getElem?_drop] at h0 h1 h2 h3
  have get : ∀ j u, bs[n + j]? = some u → w.cell? ⟨g, o + n + j, none⟩ = some (.int .u8 (u.toNat : Int)) := fun j u hu => by
    obtain ⟨hj, he⟩ := List.getElem?_eq_some_iff.1 hu
    obtain ⟨b, o', e, -, hc⟩ := h.byte hj
    cases e
    rw [Nat.add_assoc, hc, he]
  exact ⟨get _ _ h0, get _ _ h1, get _ _ h2, get _ _ h3⟩

set_option maxRecDepth 10000 in
set_option maxHeartbeats 3200000 in
theorem ref9_Read (bs : By) (p : Option Addr) (c : Nat) (hl : bs.length ≤ 140737488355328) (hc : bs.length ≤ c) (w : World) (hq : RdV w w.heap.size p (bcells bs)) :
    Calls Tryd.prog 10 #[.slice p bs.length c] w fun e w' => (∃ p c r k, e = .returned (.tuple #[rasV r p c, .int .i64 ((k : Nat) : Int)]) ∧ IsFile bs r k ∧ RdV w' w'.heap.size p (rowCells r.pix)) ∧ Below w.heap.size w w' := by
  obtain ⟨i0, hi0, hz0, hz1, hz2⟩ := info_parts info_col
  have cH := fun (x y : Int) h1 h2 V => ref9_Head x y h1 h2 V
  obtain ⟨W, hW, HK⟩ : ∃ W, w.alloc (.cells #[.int .i64 0, .int .i64 0, .slice none 0 0] 24) = W ∧ Hid (Box W w.heap.size 24 [.int .i64 0, .int .i64 0, .slice none 0 0] ∧ Below w.heap.size w W ∧ W.heap.size = w.heap.size + 1) :=
    ⟨_, rfl, Lib.hid ⟨Box.new w _ [.int .i64 0, .int .i64 0, .slice none 0 0], (Below.refl _ _).alloc (Nat.le_refl _) _, by simp⟩⟩
  replace hW := Lib.hid hW
  replace hq := Lib.hid hq
  replace cH := Lib.hid cH
  obtain ⟨L, hL⟩ : ∃ L, bs.length = L := ⟨_, rfl⟩
  rw [hL] at hl hc ⊢
  replace hL := Lib.hid hL
  unfold rasV at *
  go_enter Tryd.func10, Tryd.ntmps10
  go_wp2_with fail
  rw [hW.out]
  clear hW
  go_loopg [4] 64 (fun gh it wr => ∃ x : Nat, it = .int .i64 (x : Int) ∧ gh + x = 65 ∧ 1 ≤ x ∧ NoHead bs x 1 ∧ Below W.heap.size W wr)
  case atStart => exact ⟨1, rfl, rfl, by omega, NoHead.first bs, Below.refl _ _⟩
  case round =>
    obtain ⟨x, rfl, hg, hx1, hn, hB⟩ := hrel
    replace hn := Lib.hid hn
    replace hB := Lib.hid hB
    by_cases hx : x < 65
    · have hxi : (x : Int) ≤ 64 := by omega
      go_wp2_with fail
      go_loopg [5] 64 (fun gh it wr => ∃ y : Nat, it = .int .i64 (y : Int) ∧ gh + y = 65 ∧ 1 ≤ y ∧ NoHead bs x y ∧ Below W.heap.size W wr)
      case atStart => exact ⟨1, rfl, rfl, by omega, hn.out, hB.out⟩
      case round =>
        obtain ⟨y, rfl, hg2, hy1, hn2, hB2⟩ := hrel
        replace hn2 := Lib.hid hn2
        replace hB2 := Lib.hid hB2
        clear hn hB
        by_cases hy : y < 65
        · have hyi : (y : Int) ≤ 64 := by omega
          obtain ⟨s, hs⟩ : ∃ s, str (headOf x y) = s := ⟨_, rfl⟩
          have cHy := Lib.hid (show ∀ V, Calls Tryd.prog 24 #[.int .i64 (x : Int), .int .i64 (y : Int)] V (fun e w' => e = .returned (.string s) ∧ Below V.heap.size V w') from fun V => by rw [← hs]; exact cH.out x y ⟨by omega, by omega⟩ ⟨by omega, by omega⟩ V)
          obtain ⟨n, hn3⟩ : ∃ n, s.size = n := ⟨_, rfl⟩
          have hlen : (headOf x y).length = n := by rw [← hn3, ← hs, str_size]
          have hhl : n ≤ 200 := by rw [← hlen]; exact head_len x y ⟨by omega, by omega⟩ ⟨by omega, by omega⟩
          by_cases hshort : L < n
          · have HN := Lib.hid (hn2.out.next (pre_short (b := bs) (h := headOf x y) (by rw [hlen, hL.out]; exact hshort)))
            have hsi : (L : Int) < (n : Int) := by omega
            clear hs hlen
            go_wp2_with (go_at_call 24; with_reducible refine Calls.mono (cHy.out _) ?_; rintro e w2 ⟨rfl, b2⟩)
            go_roundg (64 - y)
            case measure => omega
            case rel => exact ⟨y + 1, by simp, by omega, by omega, HN.out, hB2.out.trans (b2.mono hB2.out.size)⟩
          · have hsi : ¬ (L : Int) < (n : Int) := by omega
            by_cases htake : bs.take n = headOf x y
            · have hnL : n ≤ L := by omega
              have hsz := Lib.hid (show (1 ≤ (x : Int) ∧ (x : Int) ≤ 64) ∧ (1 ≤ (y : Int) ∧ (y : Int) ≤ 64) from ⟨⟨by omega, hxi⟩, by omega, hyi⟩)
              have hxy := side_mul hsz.out.1 hsz.out.2
              obtain ⟨N, hN⟩ : ∃ N : Nat, (x : Int) * (y : Int) = N := ⟨x * y, by simp⟩
              rw [hN] at hxy
              have htk : bs.take (headOf x y).length = headOf x y := by rw [hlen]; exact htake
              have hw1 : IntKind.i64.wrap ((x : Int) * (y : Int)) = (N : Int) := by rw [hN]; exact IntWalk.i64_in _ (by omega)
              have hw2 : IntKind.i64.wrap (4 * (x : Int) * (y : Int)) = ((4 * N : Nat) : Int) := by rw [Int.mul_assoc, hN, IntWalk.i64_in _ (by omega)]; omega
              have hcvs := Lib.hid (show str (bs.take n) = s by rw [htake, hs])
              obtain ⟨M, hM⟩ : ∃ M : Nat, 4 * N = M := ⟨_, rfl⟩
              rw [hM] at hw2
              replace hxy := Lib.hid hxy
              clear hs htake
              by_cases hfew : L - n < M
              · have HN := Lib.hid (file_few hsz.out htk (by rw [hlen, hL.out, hN]; omega))
                have hfi : ((L - n : Nat) : Int) < (M : Int) := by omega
                clear htk hlen hM hN
                by_cases hcn : c = n
                · subst c
                  go_wp2_with (go_at_call 24; with_reducible refine Calls.mono (cHy.out _) ?_; rintro e w2 ⟨rfl, b2⟩
                               have hB3 := Lib.hid (hB2.out.trans (b2.mono hB2.out.size))
                               have hcv := conv_head (hq.out.below (HK.out.2.1.trans (hB3.out.mono (by have := HK.out.2.2; omega)))) n (n := n) (by rw [hL.out]; exact hnL)
                               rw [hcvs.out] at hcv
                               have hz := HK.out.1.below hB3.out (by have := HK.out.2.2; omega)
                               obtain ⟨q0, q1, q2⟩ := Box.three hz
                               have f0 := hz.frozen 0
                               have f1 := hz.frozen 1
                               have f2 := hz.frozen 2
                               have HP := Lib.hid (hz.put3 (.int .i64 0) (.int .i64 0) (.slice none 0 0))
                               clear hz b2)
                  all_goals
                    obtain ⟨U, hU, ⟨u0, u1, u2⟩, bU⟩ := HP.out
                    rw [hU]
                    have hB4 := HK.out.2.1.trans ((hB3.out.mono (by have := HK.out.2.2; omega)).trans (bU w.heap.size (Nat.le_refl _)))
                    exact bodyPost_ret (by simp [results, Tryd.results10, go_sem, u0, u1, u2]; exact ⟨rfl, rfl, rfl⟩) rfl ⟨⟨none, 0, ras0, 13, rfl, HN.out, RdV.nil _ _ _⟩, hB4⟩
                · skip
                  go_wp2_with (go_at_call 24; with_reducible refine Calls.mono (cHy.out _) ?_; rintro e w2 ⟨rfl, b2⟩
                               have hB3 := Lib.hid (hB2.out.trans (b2.mono hB2.out.size))
                               have hcv := conv_head (hq.out.below (HK.out.2.1.trans (hB3.out.mono (by have := HK.out.2.2; omega)))) c (n := n) (by rw [hL.out]; exact hnL)
                               rw [hcvs.out] at hcv
                               have hz := HK.out.1.below hB3.out (by have := HK.out.2.2; omega)
                               obtain ⟨q0, q1, q2⟩ := Box.three hz
                               have f0 := hz.frozen 0
                               have f1 := hz.frozen 1
                               have f2 := hz.frozen 2
                               have HP := Lib.hid (hz.put3 (.int .i64 0) (.int .i64 0) (.slice none 0 0))
                               clear hz b2)
                  all_goals
                    obtain ⟨U, hU, ⟨u0, u1, u2⟩, bU⟩ := HP.out
                    rw [hU]
                    have hB4 := HK.out.2.1.trans ((hB3.out.mono (by have := HK.out.2.2; omega)).trans (bU w.heap.size (Nat.le_refl _)))
                    exact bodyPost_ret (by simp [results, Tryd.results10, go_sem, u0, u1, u2]; exact ⟨rfl, rfl, rfl⟩) rfl ⟨⟨none, 0, ras0, 13, rfl, HN.out, RdV.nil _ _ _⟩, hB4⟩
              · by_cases hmany : M < L - n
                · have HN := Lib.hid (file_many hsz.out htk (by rw [hlen, hL.out, hN]; omega))
                  have hfi : ¬ ((L - n : Nat) : Int) < (M : Int) := by omega
                  have hmi : (M : Int) < ((L - n : Nat) : Int) := by omega
                  have hcn : ¬ c = n := by omega
                  clear htk hlen hM hN
                  go_wp2_with (go_at_call 24; with_reducible refine Calls.mono (cHy.out _) ?_; rintro e w2 ⟨rfl, b2⟩
                               have hB3 := Lib.hid (hB2.out.trans (b2.mono hB2.out.size))
                               have hcv := conv_head (hq.out.below (HK.out.2.1.trans (hB3.out.mono (by have := HK.out.2.2; omega)))) c (n := n) (by rw [hL.out]; exact hnL)
                               rw [hcvs.out] at hcv
                               have hz := HK.out.1.below hB3.out (by have := HK.out.2.2; omega)
                               obtain ⟨q0, q1, q2⟩ := Box.three hz
                               have f0 := hz.frozen 0
                               have f1 := hz.frozen 1
                               have f2 := hz.frozen 2
                               have HP := Lib.hid (hz.put3 (.int .i64 0) (.int .i64 0) (.slice none 0 0))
                               clear hz b2)
                  all_goals
                    obtain ⟨U, hU, ⟨u0, u1, u2⟩, bU⟩ := HP.out
                    rw [hU]
                    have hB4 := HK.out.2.1.trans ((hB3.out.mono (by have := HK.out.2.2; omega)).trans (bU w.heap.size (Nat.le_refl _)))
                    exact bodyPost_ret (by simp [results, Tryd.results10, go_sem, u0, u1, u2]; exact ⟨rfl, rfl, rfl⟩) rfl ⟨⟨none, 0, ras0, 14, rfl, HN.out, RdV.nil _ _ _⟩, hB4⟩
                · have hfi : ¬ ((L - n : Nat) : Int) < (M : Int) := by omega
                  have hmi : ¬ (M : Int) < ((L - n : Nat) : Int) := by omega
                  have hcn : ¬ c = n := by have := hxy.out; omega
                  obtain ⟨l, hl1, hl2, HN⟩ := file_whole hsz.out htk hN (by rw [hlen, hL.out]; omega)
                  replace HN := Lib.hid HN
                  rw [hlen] at hl2
                  have hl3 := Lib.hid hl2
                  have hMN := Lib.hid (And.intro hM hl1)
                  clear htk hlen hM hN hl1 hl2
                  obtain ⟨g, o, rfl, hgl, -⟩ := hq.out (by rw [bcells_length, hL.out]; have := hxy.out; have := hMN.out.1; omega)
                  go_wp2_with (go_at_call 24; with_reducible refine Calls.mono (cHy.out _) ?_; rintro e w2 ⟨rfl, b2⟩
                               have hB3 := Lib.hid (hB2.out.trans (b2.mono hB2.out.size))
                               have hcv := conv_head (hq.out.below (HK.out.2.1.trans (hB3.out.mono (by have := HK.out.2.2; omega)))) c (n := n) (by rw [hL.out]; exact hnL)
                               rw [hcvs.out] at hcv
                               have hz := HK.out.1.below hB3.out (by have := HK.out.2.2; omega)
                               obtain ⟨q0, q1, q2⟩ := Box.three hz
                               have f0 := hz.frozen 0
                               have f1 := hz.frozen 1
                               have f2 := hz.frozen 2
                               have HP := Lib.hid (hz.put3 (.int .i64 0) (.int .i64 0) (.slice none 0 0))
                               clear hz b2)
                  try simp only [Option.map_some, addr_add]
                  have HM := Lib.hid (show Making W (w2.alloc (.cells #[.int .i64 (x : Int), .int .i64 (y : Int), .slice none 0 0] 24)) w2.heap.size x y (.slice none 0 0) (l.take 0) from Making.new (Box.new w2 24 [.int .i64 (x : Int), .int .i64 (y : Int), .slice none 0 0]) hB3.out.size (hB3.out.alloc hB3.out.size _))
                  obtain ⟨B, hBB⟩ : ∃ B, w2.heap.size = B := ⟨_, rfl⟩
                  generalize w2.alloc (.cells #[.int .i64 (x : Int), .int .i64 (y : Int), .slice none 0 0] 24) = w4 at *
                  rw [hBB] at HM ⊢
                  clear hcv q0 q1 q2 f0 f1 f2 HP
                  go_loopg [9] N (fun gh it wr => ∃ (i : Nat) (v : Value), it = .int .i64 (i : Int) ∧ gh + i = N ∧ Making W wr B x y v (l.take i))
                  case atStart => exact ⟨0, _, rfl, by omega, HM.out⟩
                  case round =>
                    obtain ⟨i, v, rfl, hg4, hm⟩ := hrel
                    replace HM := Lib.hid hm
                    obtain ⟨p0, p1, p2⟩ := Box.three hm.1
                    clear hm
                    by_cases hi : i < N
                    · have hii : (i : Int) < (N : Int) := by omega
                      have hN4 : N ≤ 4096 := by have := hxy.out; omega
                      have hil : i < l.length := by rw [hMN.out.2]; exact hi
                      have hrest := rest_cells (hq.out.below (HK.out.2.1.trans (HM.out.2.2.2.mono (by have := HK.out.2.2; omega)))) hl3.out hil
                      obtain ⟨r0, r1, r2, r3⟩ := hrest
                      have hiM : i * 4 + 4 ≤ L - n := by have := hMN.out.1; omega
                      generalize hcc : l[i] = cc at r0 r1 r2 r3
                      have a0 : (0 : Int) ≤ 4 * (i : Int) ∧ 4 * (i : Int) < ((L - n : Nat) : Int) := by omega
                      have a1 : (0 : Int) ≤ 4 * (i : Int) + 1 ∧ 4 * (i : Int) + 1 < ((L - n : Nat) : Int) := by omega
                      have a2 : (0 : Int) ≤ 4 * (i : Int) + 2 ∧ 4 * (i : Int) + 2 < ((L - n : Nat) : Int) := by omega
                      have a3 : (0 : Int) ≤ 4 * (i : Int) + 3 ∧ 4 * (i : Int) + 3 < ((L - n : Nat) : Int) := by omega
                      have t0 : (4 * (i : Int)).toNat = 4 * i := by omega
                      have t1 : (4 * (i : Int) + 1).toNat = 4 * i + 1 := by omega
                      have t2 : (4 * (i : Int) + 2).toNat = 4 * i + 2 := by omega
                      have t3 : (4 * (i : Int) + 3).toNat = 4 * i + 3 := by omega
                      have v0 : IntKind.i64.wrap (4 * (i : Int)) = 4 * (i : Int) := IntWalk.i64_in _ (by omega)
                      have v1 : IntKind.i64.wrap (4 * (i : Int) + 1) = 4 * (i : Int) + 1 := IntWalk.i64_in _ (by omega)
                      have v2 : IntKind.i64.wrap (4 * (i : Int) + 2) = 4 * (i : Int) + 2 := IntWalk.i64_in _ (by omega)
                      have v3 : IntKind.i64.wrap (4 * (i : Int) + 3) = 4 * (i : Int) + 3 := IntWalk.i64_in _ (by omega)
                      go_wp2_with fail
                      have htl : (l.take i).length = i := by rw [List.length_take]; omega
                      have hnx := Lib.hid (show l.take (i + 1) = l.take i ++ [cc] by rw [List.take_succ_eq_append_getElem hil, hcc])
                      clear hcc
                      replace hil := Lib.hid hil
                      have hown := Lib.hid (show wr.ownsRow (B + 1) 41 4 v i (rowCells (l.take i)) from by have h := HM.out.2.1; rw [htl] at h; exact h)
                      have hgB : ¬ g = B := by have h1 := HM.out.2.2.1.1; have := HK.out.2.2; omega
                      have hgl3 : g < wr.heap.size := by have h1 := HM.out.2.2.1; have := HK.out.2.2; omega
                      have ag : v.ownBlock ≠ some g := fun e => by have h1 := (HM.out.2.1.lt g e).1; have h2 := HM.out.2.2.1.1; have := HK.out.2.2; omega
                      have aB : v.ownBlock ≠ some B := fun e => by have h1 := (HM.out.2.1.lt B e).1; omega
                      have hBA := (Below.refl wr.heap.size wr).alloc (Nat.le_refl _) (.cells #[.int .u8 (cc.r.toNat : Int), .int .u8 (cc.g.toNat : Int), .int .u8 (cc.b.toNat : Int), .int .u8 (cc.a.toNat : Int)] 41)
                      have qa : ∀ (k : Nat) (u : Value), wr.cell? ⟨g, k, none⟩ = some u → (wr.alloc (.cells #[.int .u8 (cc.r.toNat : Int), .int .u8 (cc.g.toNat : Int), .int .u8 (cc.b.toNat : Int), .int .u8 (cc.a.toNat : Int)] 41)).cell? ⟨g, k, none⟩ = some u := fun k u h => (hBA.cell (p := ⟨g, k, none⟩) hgl3).trans h
                      have qB : (wr.alloc (.cells #[.int .u8 (cc.r.toNat : Int), .int .u8 (cc.g.toNat : Int), .int .u8 (cc.b.toNat : Int), .int .u8 (cc.a.toNat : Int)] 41)).cell? ⟨B, 2, none⟩ = some v := (hBA.cell (p := ⟨B, 2, none⟩) HM.out.2.2.1.2).trans p2
                      have q0 := qa _ _ r0
                      have q1 := qa _ _ r1
                      have q2 := qa _ _ r2
                      have q3 := qa _ _ r3
                      have hSV : (fun w' : World => w'.cell? ⟨g, o + n + 4 * i, none⟩ = some (.int .u8 (cc.r.toNat : Int)) ∧ w'.cell? ⟨g, o + n + (4 * i + 1), none⟩ = some (.int .u8 (cc.g.toNat : Int)) ∧ w'.cell? ⟨g, o + n + (4 * i + 2), none⟩ = some (.int .u8 (cc.b.toNat : Int)) ∧ w'.cell? ⟨g, o + n + (4 * i + 3), none⟩ = some (.int .u8 (cc.a.toNat : Int)) ∧ w'.cell? ⟨B, 2, none⟩ = some v) wr.drew := ⟨r0, r1, r2, r3, p2⟩
                      have hSA := Lib.hid (show (fun w' : World => w'.cell? ⟨g, o + n + 4 * i, none⟩ = some (.int .u8 (cc.r.toNat : Int)) ∧ w'.cell? ⟨g, o + n + (4 * i + 1), none⟩ = some (.int .u8 (cc.g.toNat : Int)) ∧ w'.cell? ⟨g, o + n + (4 * i + 2), none⟩ = some (.int .u8 (cc.b.toNat : Int)) ∧ w'.cell? ⟨g, o + n + (4 * i + 3), none⟩ = some (.int .u8 (cc.a.toNat : Int)) ∧ w'.cell? ⟨B, 2, none⟩ = some v) (wr.alloc (.cells #[.int .u8 (cc.r.toNat : Int), .int .u8 (cc.g.toNat : Int), .int .u8 (cc.b.toNat : Int), .int .u8 (cc.a.toNat : Int)] 41)).drew from ⟨q0, q1, q2, q3, qB⟩)
                      clear qa q0 q1 q2 q3 qB hBA
                      refine wp_region_held_last (fun w' : World => w'.cell? ⟨g, o + n + 4 * i, none⟩ = some (.int .u8 (cc.r.toNat : Int)) ∧ w'.cell? ⟨g, o + n + (4 * i + 1), none⟩ = some (.int .u8 (cc.g.toNat : Int)) ∧ w'.cell? ⟨g, o + n + (4 * i + 2), none⟩ = some (.int .u8 (cc.b.toNat : Int)) ∧ w'.cell? ⟨g, o + n + (4 * i + 3), none⟩ = some (.int .u8 (cc.a.toNat : Int)) ∧ w'.cell? ⟨B, 2, none⟩ = some v) (by kernel_rfl) (by simp only [List.pop_toArray, List.dropLast_cons_cons, List.dropLast_singleton]; rfl) (by simp only [List.back?_toArray, List.getLast?_cons_cons, List.getLast?_singleton]; rfl) (by kernel_rfl) (by kernel_rfl) ?_
                      refine takeL (i := 0) (v := ?v0) rfl (by kernel_rfl) (by kernel_rfl) (by kernel_rfl) (fun _ _ _ h => h) (Or.inl ⟨by rfl, ?y0⟩) hSV ?_
                      case y0 =>
                        intro w' hSw
                        obtain ⟨h0, h1, h2, h3, h4⟩ := hSw
                        go_simp
                        all_goals (with_reducible rfl)
                      simp only [Act.put, List.setIfInBounds_toArray, List.set_cons_zero, List.set_cons_succ]
                      refine takeL (i := 1) (v := ?v1) rfl (by kernel_rfl) (by kernel_rfl) (by kernel_rfl) (fun _ _ _ h => h) (Or.inl ⟨by rfl, ?y1⟩) hSV ?_
                      case y1 =>
                        intro w' hSw
                        obtain ⟨h0, h1, h2, h3, h4⟩ := hSw
                        go_simp
                        all_goals (with_reducible rfl)
                      simp only [Act.put, List.setIfInBounds_toArray, List.set_cons_zero, List.set_cons_succ]
                      refine takeL (i := 2) (v := ?v2) rfl (by kernel_rfl) (by kernel_rfl) (by kernel_rfl) (fun _ _ _ h => h) (Or.inl ⟨by rfl, ?y2⟩) hSV ?_
                      case y2 =>
                        intro w' hSw
                        obtain ⟨h0, h1, h2, h3, h4⟩ := hSw
                        go_simp
                        all_goals (with_reducible rfl)
                      simp only [Act.put, List.setIfInBounds_toArray, List.set_cons_zero, List.set_cons_succ]
                      refine takeL (i := 3) (v := ?v3) rfl (by kernel_rfl) (by kernel_rfl) (by kernel_rfl) (fun _ _ _ h => h) (Or.inl ⟨by rfl, ?y3⟩) hSV ?_
                      case y3 =>
                        intro w' hSw
                        obtain ⟨h0, h1, h2, h3, h4⟩ := hSw
                        go_simp
                        all_goals (with_reducible rfl)
                      simp only [Act.put, List.setIfInBounds_toArray, List.set_cons_zero, List.set_cons_succ]
                      refine takeL (i := 4) (v := ?v4) rfl (by kernel_rfl) (by kernel_rfl) (by kernel_rfl) (fun _ _ _ h => h) (Or.inl ⟨by rfl, ?y4⟩) hSV ?_
                      case y4 =>
                        intro w' hSw
                        obtain ⟨h0, h1, h2, h3, h4⟩ := hSw
                        go_simp
                        all_goals (with_reducible rfl)
                      simp only [Act.put, List.setIfInBounds_toArray, List.set_cons_zero, List.set_cons_succ]
                      refine takeL (i := 5) (v := ?v5) rfl (by kernel_rfl) (by kernel_rfl) (by kernel_rfl) (fun _ _ _ h => h) (Or.inl ⟨by rfl, ?y5⟩) hSV ?_
                      case y5 =>
                        intro w' hSw
                        obtain ⟨h0, h1, h2, h3, h4⟩ := hSw
                        go_simp
                        all_goals (with_reducible rfl)
                      simp only [Act.put, List.setIfInBounds_toArray, List.set_cons_zero, List.set_cons_succ]
                      refine takeL (i := 6) (v := ?v6) rfl (by kernel_rfl) (by kernel_rfl) (by kernel_rfl) (fun _ _ _ h => h) (Or.inl ⟨by rfl, ?y6⟩) hSV ?_
                      case y6 =>
                        intro w' hSw
                        obtain ⟨h0, h1, h2, h3, h4⟩ := hSw
                        go_simp
                        all_goals (with_reducible rfl)
                      simp only [Act.put, List.setIfInBounds_toArray, List.set_cons_zero, List.set_cons_succ]
                      refine takeL (i := 7) (v := ?v7) rfl (by kernel_rfl) (by kernel_rfl) (by kernel_rfl) (fun _ _ _ h => h) (Or.inl ⟨by rfl, ?y7⟩) hSV ?_
                      case y7 =>
                        intro w' hSw
                        obtain ⟨h0, h1, h2, h3, h4⟩ := hSw
                        go_simp
                        all_goals (with_reducible rfl)
                      simp only [Act.put, List.setIfInBounds_toArray, List.set_cons_zero, List.set_cons_succ]
                      refine takeL (i := 8) (v := ?v8) rfl (by kernel_rfl) (by kernel_rfl) (by kernel_rfl) (fun _ _ _ h => h) (Or.inl ⟨by rfl, ?y8⟩) hSV ?_
                      case y8 =>
                        intro w' hSw
                        obtain ⟨h0, h1, h2, h3, h4⟩ := hSw
                        go_simp
                        all_goals (with_reducible rfl)
                      simp only [Act.put, List.setIfInBounds_toArray, List.set_cons_zero, List.set_cons_succ]
                      refine takeL (i := 9) (v := ?v9) rfl (by kernel_rfl) (by kernel_rfl) (by kernel_rfl) (fun _ _ _ h => h) (Or.inl ⟨by rfl, ?y9⟩) hSV ?_
                      case y9 =>
                        intro w' hSw
                        obtain ⟨h0, h1, h2, h3, h4⟩ := hSw
                        go_simp
                        all_goals (with_reducible rfl)
                      simp only [Act.put, List.setIfInBounds_toArray, List.set_cons_zero, List.set_cons_succ]
                      refine takeL (i := 10) (v := ?v10) rfl (by kernel_rfl) (by kernel_rfl) (by kernel_rfl) (fun _ _ _ h => h) (Or.inl ⟨by rfl, ?y10⟩) hSV ?_
                      case y10 =>
                        intro w' hSw
                        obtain ⟨h0, h1, h2, h3, h4⟩ := hSw
                        go_simp
                        all_goals (with_reducible rfl)
                      simp only [Act.put, List.setIfInBounds_toArray, List.set_cons_zero, List.set_cons_succ]
                      refine takeL (i := 11) (v := ?v11) rfl (by kernel_rfl) (by kernel_rfl) (by kernel_rfl) (fun _ _ _ h => h) (Or.inl ⟨by rfl, ?y11⟩) hSV ?_
                      case y11 =>
                        intro w' hSw
                        obtain ⟨h0, h1, h2, h3, h4⟩ := hSw
                        go_simp
                        all_goals (with_reducible rfl)
                      simp only [Act.put, List.setIfInBounds_toArray, List.set_cons_zero, List.set_cons_succ]
                      refine takeL (i := 12) (v := ?v12) rfl (by kernel_rfl) (by kernel_rfl) (by kernel_rfl) (fun _ _ _ h => h) (Or.inl ⟨by rfl, ?y12⟩) hSV ?_
                      case y12 =>
                        intro w' hSw
                        obtain ⟨h0, h1, h2, h3, h4⟩ := hSw
                        go_simp
                        all_goals (with_reducible rfl)
                      simp only [Act.put, List.setIfInBounds_toArray, List.set_cons_zero, List.set_cons_succ]
                      refine takeL (i := 13) (v := ?v13) rfl (by kernel_rfl) (by kernel_rfl) (by kernel_rfl) (fun _ _ _ h => h) (Or.inl ⟨by rfl, ?y13⟩) hSV ?_
                      case y13 =>
                        intro w' hSw
                        obtain ⟨h0, h1, h2, h3, h4⟩ := hSw
                        go_simp
                        all_goals (with_reducible rfl)
                      simp only [Act.put, List.setIfInBounds_toArray, List.set_cons_zero, List.set_cons_succ]
                      refine takeL (i := 14) (v := ?v14) rfl (by kernel_rfl) (by kernel_rfl) (by kernel_rfl) (fun _ _ _ h => h) (Or.inl ⟨by rfl, ?y14⟩) hSV ?_
                      case y14 =>
                        intro w' hSw
                        obtain ⟨h0, h1, h2, h3, h4⟩ := hSw
                        go_simp
                        all_goals (with_reducible rfl)
                      simp only [Act.put, List.setIfInBounds_toArray, List.set_cons_zero, List.set_cons_succ]
                      refine takeL (i := 15) (v := ?v15) rfl (by kernel_rfl) (by kernel_rfl) (by kernel_rfl) (fun _ _ _ h => h) (Or.inl ⟨by rfl, ?y15⟩) hSV ?_
                      case y15 =>
                        intro w' hSw
                        obtain ⟨h0, h1, h2, h3, h4⟩ := hSw
                        go_simp
                        all_goals (with_reducible rfl)
                      simp only [Act.put, List.setIfInBounds_toArray, List.set_cons_zero, List.set_cons_succ]
                      refine takeL (i := 16) (v := ?v16) rfl (by kernel_rfl) (by kernel_rfl) (by kernel_rfl) (fun _ _ _ h => h) (Or.inl ⟨by rfl, ?y16⟩) hSV ?_
                      case y16 =>
                        intro w' hSw
                        obtain ⟨h0, h1, h2, h3, h4⟩ := hSw
                        go_simp
                        all_goals (with_reducible rfl)
                      simp only [Act.put, List.setIfInBounds_toArray, List.set_cons_zero, List.set_cons_succ]
                      refine takeL (i := 17) (v := ?v17) rfl (by kernel_rfl) (by kernel_rfl) (by kernel_rfl) (fun _ _ _ h => h) (Or.inl ⟨by rfl, ?y17⟩) hSV ?_
                      case y17 =>
                        intro w' hSw
                        obtain ⟨h0, h1, h2, h3, h4⟩ := hSw
                        go_simp
                        all_goals (with_reducible rfl)
                      simp only [Act.put, List.setIfInBounds_toArray, List.set_cons_zero, List.set_cons_succ]
                      refine takeL (i := 18) (v := ?v18) rfl (by kernel_rfl) (by kernel_rfl) (by kernel_rfl) (fun _ _ _ h => h) (Or.inl ⟨by rfl, ?y18⟩) hSV ?_
                      case y18 =>
                        intro w' hSw
                        obtain ⟨h0, h1, h2, h3, h4⟩ := hSw
                        go_simp
                        all_goals (with_reducible rfl)
                      simp only [Act.put, List.setIfInBounds_toArray, List.set_cons_zero, List.set_cons_succ]
                      refine takeL (i := 19) (v := ?v19) rfl (by kernel_rfl) (by kernel_rfl) (by kernel_rfl) (fun _ _ _ h => h) (Or.inl ⟨by rfl, ?y19⟩) hSV ?_
                      case y19 =>
                        intro w' hSw
                        obtain ⟨h0, h1, h2, h3, h4⟩ := hSw
                        go_simp
                        all_goals (with_reducible rfl)
                      simp only [Act.put, List.setIfInBounds_toArray, List.set_cons_zero, List.set_cons_succ]
                      refine takeL (i := 20) (v := ?v20) rfl (by kernel_rfl) (by kernel_rfl) (by kernel_rfl) (fun _ _ _ h => h) (Or.inl ⟨by rfl, ?y20⟩) hSV ?_
                      case y20 =>
                        intro w' hSw
                        obtain ⟨h0, h1, h2, h3, h4⟩ := hSw
                        go_simp
                        all_goals (with_reducible rfl)
                      simp only [Act.put, List.setIfInBounds_toArray, List.set_cons_zero, List.set_cons_succ]
                      refine takeL (i := 21) (v := ?v21) rfl (by kernel_rfl) (by kernel_rfl) (by kernel_rfl) (fun _ _ _ h => h) (Or.inl ⟨by rfl, ?y21⟩) hSV ?_
                      case y21 =>
                        intro w' hSw
                        obtain ⟨h0, h1, h2, h3, h4⟩ := hSw
                        go_simp
                        all_goals (with_reducible rfl)
                      simp only [Act.put, List.setIfInBounds_toArray, List.set_cons_zero, List.set_cons_succ]
                      refine takeL (i := 22) (v := ?v22) rfl (by kernel_rfl) (by kernel_rfl) (by kernel_rfl) (fun _ _ _ h => h) (Or.inl ⟨by rfl, ?y22⟩) hSV ?_
                      case y22 =>
                        intro w' hSw
                        obtain ⟨h0, h1, h2, h3, h4⟩ := hSw
                        go_simp
                        all_goals (with_reducible rfl)
                      simp only [Act.put, List.setIfInBounds_toArray, List.set_cons_zero, List.set_cons_succ]
                      refine takeL (i := 23) (v := ?v23) rfl (by kernel_rfl) (by kernel_rfl) (by kernel_rfl) (fun _ _ _ h => h) (Or.inl ⟨by rfl, ?y23⟩) hSV ?_
                      case y23 =>
                        intro w' hSw
                        obtain ⟨h0, h1, h2, h3, h4⟩ := hSw
                        go_simp
                        all_goals (with_reducible rfl)
                      simp only [Act.put, List.setIfInBounds_toArray, List.set_cons_zero, List.set_cons_succ]
                      refine takeL (i := 24) (v := ?v24) rfl (by kernel_rfl) (by kernel_rfl) (by kernel_rfl) (fun _ _ _ h => h) (Or.inl ⟨by rfl, ?y24⟩) hSV ?_
                      case y24 =>
                        intro w' hSw
                        obtain ⟨h0, h1, h2, h3, h4⟩ := hSw
                        go_simp
                        all_goals (with_reducible rfl)
                      simp only [Act.put, List.setIfInBounds_toArray, List.set_cons_zero, List.set_cons_succ]
                      refine takeL (i := 25) (v := ?v25) rfl (by kernel_rfl) (by kernel_rfl) (by kernel_rfl) (fun _ _ _ h => h) (Or.inl ⟨by rfl, ?y25⟩) hSV ?_
                      case y25 =>
                        intro w' hSw
                        obtain ⟨h0, h1, h2, h3, h4⟩ := hSw
                        go_simp
                        all_goals (with_reducible rfl)
                      simp only [Act.put, List.setIfInBounds_toArray, List.set_cons_zero, List.set_cons_succ]
                      refine wpAnyH_ready (rs := [26]) (by kernel_rfl) (by simp) ?_
                      refine consL (i := 26) rfl (fun K hK => ?_) AllReadyH.nil
                      go_simp
                      refine hK.out _ _ hSA.out (fun _ => ?_)
                      clear hK K
                      try simp only [Act.put, List.setIfInBounds_toArray, List.set_cons_zero, List.set_cons_succ]
                      refine wpAnyH_ready (rs := [27]) (by kernel_rfl) (by simp) ?_
                      refine consL (i := 27) rfl (fun K hK => ?_) AllReadyH.nil
                      clear p0 p1 p2 r0 r1 r2 r3 a0 a1 a2 a3 t0 t1 t2 t3 v0 v1 v2 v3 hSV
                      refine step_append_lies _ (by rfl) _ _ _ (by rfl) (B + 1) 41 i0 (.agg #[.int .u8 0, .int .u8 0, .int .u8 0, .int .u8 0]) 4 4 Tryd.underlying22 hi0 hz0 hz1 hz2 rfl (by decide) v i (rowCells (l.take i)) (by rfl) (hown.out.alloc _) ⟨wr.heap.size, 0, none⟩ 1 1 [.int .u8 (cc.r.toNat : Int), .int .u8 (cc.g.toNat : Int), .int .u8 (cc.b.toNat : Int), .int .u8 (cc.a.toNat : Int)] (by rfl) (by rfl) (four_new _ _ _ _ _ _) (by simp [Value.oneCell']) (by omega) (by unfold maxLen; omega) (by omega) (by have h1 := HM.out.2.2.1.2; simp; omega) (wr.heap.size + 1) (by simp) ?_
                      intro gg cap w3 hown' hgrow hor hlt3
                      obtain ⟨⟨s1, s2⟩, s3⟩ := HM.out.step cc (grown_drew hgrow) (by rw [htl]; exact hown')
                      replace s3 := Lib.hid s3
                      have hS3 : (fun w' : World => w'.cell? ⟨g, o + n + 4 * i, none⟩ = some (.int .u8 (cc.r.toNat : Int)) ∧ w'.cell? ⟨g, o + n + (4 * i + 1), none⟩ = some (.int .u8 (cc.g.toNat : Int)) ∧ w'.cell? ⟨g, o + n + (4 * i + 2), none⟩ = some (.int .u8 (cc.b.toNat : Int)) ∧ w'.cell? ⟨g, o + n + (4 * i + 3), none⟩ = some (.int .u8 (cc.a.toNat : Int)) ∧ w'.cell? ⟨B, 2, none⟩ = some v) w3 := by
                        obtain ⟨h0, h1, h2, h3, h4⟩ := hSA.out
                        exact ⟨hgrow.cell h0 (Ne.symm ag), hgrow.cell h1 (Ne.symm ag), hgrow.cell h2 (Ne.symm ag), hgrow.cell h3 (Ne.symm ag), hgrow.cell h4 (Ne.symm aB)⟩
                      refine hK.out _ _ hS3 (fun _ => ?_)
                      clear hK K
                      try simp only [Act.put, List.setIfInBounds_toArray, List.set_cons_zero, List.set_cons_succ]
                      refine takeL (i := 28) (v := ?v28) rfl (by kernel_rfl) (by kernel_rfl) (by kernel_rfl) (fun _ _ _ h => h) (Or.inl ⟨by rfl, ?y28⟩) hS3 ?_
                      case y28 =>
                        intro w' hSw
                        obtain ⟨h0, h1, h2, h3, h4⟩ := hSw
                        go_simp
                        all_goals (with_reducible rfl)
                      simp only [Act.put, List.setIfInBounds_toArray, List.set_cons_zero, List.set_cons_succ]
                      refine wpAnyH_done (by kernel_rfl) ?_ _
                      clear hS3 hown' hgrow hor hlt3
                      refine lastL (i := 29) rfl (fun K hK => ?_)
                      go_simp
                      refine hK _ _ ?_
                      clear hK K
                      go_wp2_with fail
                      go_roundg (N - (i + 1))
                      case measure => omega
                      case rel => exact ⟨i + 1, _, by simp, by omega, by rw [hnx.out]; exact s3.out⟩
                    · obtain rfl : i = N := by omega
                      have hfull : l.take i = l := List.take_of_length_le (by rw [hMN.out.2]; exact Nat.le_refl _)
                      have hm2 := HM.out
                      rw [hfull] at hm2
                      obtain ⟨p', c', rfl, -⟩ := hm2.done
                      have hz := HK.out.1.below (HM.out.2.2.2) (by have := HK.out.2.2; omega)
                      obtain ⟨q0, q1, q2⟩ := Box.three hz
                      have f0 := hz.frozen 0
                      have f1 := hz.frozen 1
                      have f2 := hz.frozen 2
                      have HH := Lib.hid (hm2.handed hz (by have := HK.out.2.2; have := hB3.out.size; omega))
                      have HB5 := Lib.hid hm2.2.2.2
                      clear hz hm2 HM
                      go_wp2_with fail
                      obtain ⟨U, hU, ⟨u0, u1, u2⟩, hr, hb⟩ := HH.out
                      rw [hU]
                      have hB6 := HK.out.2.1.trans ((HB5.out.mono (by have := HK.out.2.2; omega)).trans (hb w.heap.size (Nat.le_refl _)))
                      exact bodyPost_ret (by simp [results, Tryd.results10, go_sem, u0, u1, u2]) rfl ⟨⟨p', c', ⟨x, y, l⟩, 0, rfl, HN.out, hr⟩, hB6⟩
            · have HN := Lib.hid (hn2.out.next (pre_other (b := bs) (h := headOf x y) (by rw [hlen]; exact htake)))
              obtain ⟨u, hu⟩ : ∃ u, str (bs.take n) = u := ⟨_, rfl⟩
              have hus : ¬ u = s := fun e => htake (str_inj (by rw [hu, hs]; exact e))
              have hus2 := str_ne_list hus
              replace hu := Lib.hid hu
              have hnL : n ≤ L := by omega
              clear hs hlen htake
              go_wp2_with (go_at_call 24; with_reducible refine Calls.mono (cHy.out _) ?_; rintro e w2 ⟨rfl, b2⟩
                           have hB3 := hB2.out.trans (b2.mono hB2.out.size)
                           have hcv := conv_head (hq.out.below (HK.out.2.1.trans (hB3.mono (by have := HK.out.2.2; omega)))) c (n := n) (by rw [hL.out]; exact hnL)
                           rw [hu.out] at hcv
                           replace hB3 := Lib.hid hB3
                           clear b2)
              go_roundg (64 - y)
              case measure => omega
              case rel => exact ⟨y + 1, by simp, by omega, by omega, HN.out, hB3.out⟩
        · obtain rfl : y = 65 := by omega
          have HN := Lib.hid hn2.out.row
          go_wp2_with fail
          go_roundg (64 - x)
          case measure => omega
          case rel => exact ⟨x + 1, by simp, by omega, by omega, HN.out, hB2.out⟩
    · obtain rfl : x = 65 := by omega
      have HN := Lib.hid hn.out.all
      have hz := HK.out.1.below hB.out (by have := HK.out.2.2; omega)
      obtain ⟨q0, q1, q2⟩ := Box.three hz
      have f0 := hz.frozen 0
      have f1 := hz.frozen 1
      have f2 := hz.frozen 2
      have HP := Lib.hid (hz.put3 (.int .i64 0) (.int .i64 0) (.slice none 0 0))
      clear hz
      go_wp2_with fail
      obtain ⟨U, hU, ⟨u0, u1, u2⟩, bU⟩ := HP.out
      rw [hU]
      have hB2 := HK.out.2.1.trans ((hB.out.mono (by have := HK.out.2.2; omega)).trans (bU w.heap.size (Nat.le_refl _)))
      exact bodyPost_ret (by simp [results, Tryd.results10, go_sem, u0, u1, u2]; exact ⟨rfl, rfl, rfl⟩) rfl ⟨⟨none, 0, ras0, 3, rfl, HN.out, RdV.nil _ _ _⟩, hB2⟩
end Go.Proofs.YtchfbpgbojnakaaDoor
