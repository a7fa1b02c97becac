/- Colours: the program's own May. Written by gen/genco8.py. -/
import Derived.Test.YtaiinglogpbfjaaDoorCoQ
import Derived.Deep.RegionHeld3
namespace Go.Proofs.YtaiinglogpbfjaaDoor
open Go.RowKit

/-- the lesser of two parts -/
def minU (a b : UInt8) : UInt8 := if b.toNat < a.toNat then b else a
theorem minU_gt {a b : UInt8} (h : b.toNat < a.toNat) : minU a b = b := if_pos h
theorem minU_le {a b : UInt8} (h : ¬ b.toNat < a.toNat) : minU a b = a := if_neg h
theorem minU_self (a : UInt8) : minU a a = a := minU_le (by omega)
def minC (c : Col) : Col := ⟨minU c.r c.a, minU c.g c.a, minU c.b c.a, minU c.a c.a⟩
theorem may_min (c : Col) : mayC c = true ↔ minC c = c := by
  have e : ∀ a b : UInt8, minU a b = a ↔ a.toNat ≤ b.toNat := fun a b => by
    constructor
    · intro h
      by_cases hl : b.toNat < a.toNat
      · rw [minU_gt hl] at h; rw [h] at hl; omega
      · omega
    · intro h; exact minU_le (by omega)
  rw [may_iff, Col.same]
  show _ ↔ minU c.r c.a = c.r ∧ minU c.g c.a = c.g ∧ minU c.b c.a = c.b ∧ minU c.a c.a = c.a
  rw [e, e, e, e]
  constructor
  · rintro ⟨h1, h2, h3⟩; exact ⟨h1, h2, h3, Nat.le_refl _⟩
  · rintro ⟨h1, h2, h3, -⟩; exact ⟨h1, h2, h3⟩
theorem eight_on {g : Nat} {c X : Col} {w v w' : World} (h : ((v.cell? ⟨g, 0, none⟩ = some (.int .u8 (X.r.toNat : Int)) ∧ v.cell? ⟨g, 1, none⟩ = some (.int .u8 (X.g.toNat : Int)) ∧ v.cell? ⟨g, 2, none⟩ = some (.int .u8 (X.b.toNat : Int)) ∧ v.cell? ⟨g, 3, none⟩ = some (.int .u8 (X.a.toNat : Int))) ∧ (v.cell? ⟨w.heap.size, 0, none⟩ = some (.int .u8 (c.r.toNat : Int)) ∧ v.cell? ⟨w.heap.size, 1, none⟩ = some (.int .u8 (c.g.toNat : Int)) ∧ v.cell? ⟨w.heap.size, 2, none⟩ = some (.int .u8 (c.b.toNat : Int)) ∧ v.cell? ⟨w.heap.size, 3, none⟩ = some (.int .u8 (c.a.toNat : Int)))) ∧ (g < v.heap.size ∧ w.heap.size < v.heap.size) ∧ Below w.heap.size w v) (hb : Below v.heap.size v w') : ((w'.cell? ⟨g, 0, none⟩ = some (.int .u8 (X.r.toNat : Int)) ∧ w'.cell? ⟨g, 1, none⟩ = some (.int .u8 (X.g.toNat : Int)) ∧ w'.cell? ⟨g, 2, none⟩ = some (.int .u8 (X.b.toNat : Int)) ∧ w'.cell? ⟨g, 3, none⟩ = some (.int .u8 (X.a.toNat : Int))) ∧ (w'.cell? ⟨w.heap.size, 0, none⟩ = some (.int .u8 (c.r.toNat : Int)) ∧ w'.cell? ⟨w.heap.size, 1, none⟩ = some (.int .u8 (c.g.toNat : Int)) ∧ w'.cell? ⟨w.heap.size, 2, none⟩ = some (.int .u8 (c.b.toNat : Int)) ∧ w'.cell? ⟨w.heap.size, 3, none⟩ = some (.int .u8 (c.a.toNat : Int)))) ∧ (g < w'.heap.size ∧ w.heap.size < w'.heap.size) ∧ Below w.heap.size w w' := by
  obtain ⟨⟨⟨h0, h1, h2, h3⟩, k0, k1, k2, k3⟩, ⟨hl, hl2⟩, hv⟩ := h
  have e : ∀ (i j : Nat), i < v.heap.size → w'.cell? ⟨i, j, none⟩ = v.cell? ⟨i, j, none⟩ := fun i j hi => hb.cell (p := ⟨i, j, none⟩) hi
  refine ⟨⟨⟨?_, ?_, ?_, ?_⟩, ?_, ?_, ?_, ?_⟩, ⟨Nat.lt_of_lt_of_le hl hb.size, Nat.lt_of_lt_of_le hl2 hb.size⟩, hv.trans (hb.mono hv.size)⟩
  all_goals exact (e _ _ (by omega)).trans (by assumption)
theorem eight_drew {g : Nat} {c X : Col} {w v : World} (h : ((v.cell? ⟨g, 0, none⟩ = some (.int .u8 (X.r.toNat : Int)) ∧ v.cell? ⟨g, 1, none⟩ = some (.int .u8 (X.g.toNat : Int)) ∧ v.cell? ⟨g, 2, none⟩ = some (.int .u8 (X.b.toNat : Int)) ∧ v.cell? ⟨g, 3, none⟩ = some (.int .u8 (X.a.toNat : Int))) ∧ (v.cell? ⟨w.heap.size, 0, none⟩ = some (.int .u8 (c.r.toNat : Int)) ∧ v.cell? ⟨w.heap.size, 1, none⟩ = some (.int .u8 (c.g.toNat : Int)) ∧ v.cell? ⟨w.heap.size, 2, none⟩ = some (.int .u8 (c.b.toNat : Int)) ∧ v.cell? ⟨w.heap.size, 3, none⟩ = some (.int .u8 (c.a.toNat : Int)))) ∧ (g < v.heap.size ∧ w.heap.size < v.heap.size) ∧ Below w.heap.size w v) : ((v.drew.cell? ⟨g, 0, none⟩ = some (.int .u8 (X.r.toNat : Int)) ∧ v.drew.cell? ⟨g, 1, none⟩ = some (.int .u8 (X.g.toNat : Int)) ∧ v.drew.cell? ⟨g, 2, none⟩ = some (.int .u8 (X.b.toNat : Int)) ∧ v.drew.cell? ⟨g, 3, none⟩ = some (.int .u8 (X.a.toNat : Int))) ∧ (v.drew.cell? ⟨w.heap.size, 0, none⟩ = some (.int .u8 (c.r.toNat : Int)) ∧ v.drew.cell? ⟨w.heap.size, 1, none⟩ = some (.int .u8 (c.g.toNat : Int)) ∧ v.drew.cell? ⟨w.heap.size, 2, none⟩ = some (.int .u8 (c.b.toNat : Int)) ∧ v.drew.cell? ⟨w.heap.size, 3, none⟩ = some (.int .u8 (c.a.toNat : Int)))) ∧ (g < v.drew.heap.size ∧ w.heap.size < v.drew.heap.size) ∧ Below w.heap.size w v.drew := ⟨h.1, h.2.1, h.2.2.drew⟩

end Go.Proofs.YtaiinglogpbfjaaDoor
