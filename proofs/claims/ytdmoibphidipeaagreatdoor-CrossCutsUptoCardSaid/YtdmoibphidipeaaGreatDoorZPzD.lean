/- A region that draws its order and whose last operation waits for all the others: the last one is walked apart. No program is named here. -/
import Derived.OrdersHeld
import Derived.WalkKit
namespace Go.Proofs.YtdmoibphidipeaaGreatDoor
open Go

section
variable {P : Program} {xs : Array Oper} {o : Oper} {Q : Exit → Act → World → Prop} {md : Region.Mode}

theorem ready_mem {ops : Array Oper} {l : Array Bool} {i : Nat} : i ∈ Region.ready md ops l ↔ l.getD i true = false ∧ ∃ oi, ops[i]? = some oi ∧ ∀ e ∈ oi.after, Region.binds md e = true → l.getD e.on false = true := by
  unfold Region.ready
  rw [List.mem_filter, List.mem_range]
  constructor
  · rintro ⟨hi, h⟩
    rw [Array.getElem?_eq_getElem hi] at h
    simp only [Option.map_some, Option.getD_some, Bool.and_eq_true, Bool.not_eq_true'] at h
    refine ⟨h.1, _, Array.getElem?_eq_getElem hi, fun e he hb => ?_⟩
    have := Array.all_eq_true_iff_forall_mem.1 h.2 e he
    rw [hb] at this
    simpa using this
  · rintro ⟨h1, oi, h2, h3⟩
    refine ⟨(Array.getElem?_eq_some_iff.1 h2).1, ?_⟩
    rw [h2]
    simp only [Option.map_some, Option.getD_some, Bool.and_eq_true, Bool.not_eq_true']
    refine ⟨h1, Array.all_eq_true_iff_forall_mem.2 fun e he => ?_⟩
    by_cases hb : Region.binds md e = true
    · rw [h3 e he hb]; simp
    · simp [hb]
theorem getD_any {l : Array Bool} {i : Nat} (hi : i < l.size) (b d : Bool) : l.getD i b = l.getD i d := by
  simp [Array.getD, hi]
theorem ready_none {ops : Array Oper} {l : Array Bool} (h : ∀ i, i < ops.size → l.getD i true = true) : Region.ready md ops l = [] := by
  apply List.eq_nil_iff_forall_not_mem.2
  intro i hi
  obtain ⟨h1, oi, h2, -⟩ := ready_mem.1 hi
  rw [h i (Array.getElem?_eq_some_iff.1 h2).1] at h1
  cases h1
end
end Go.Proofs.YtdmoibphidipeaaGreatDoor
