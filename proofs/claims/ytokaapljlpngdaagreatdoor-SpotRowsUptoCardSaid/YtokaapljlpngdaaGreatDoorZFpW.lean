/- Fractions: two boxes that are allotted and stored while two calls are made. -/
import Derived.Test.YtokaapljlpngdaaGreatDoorZFpV
import Derived.Test.YtokaapljlpngdaaGreatDoorZWhX
import Derived.Test.YtokaapljlpngdaaGreatDoorZWhY
import Derived.Deep.RegionWith
import Derived.Deep.RegionHeld3
import Derived.Test.YtokaapljlpngdaaGreatDoorZFpC
namespace Go.Proofs.YtokaapljlpngdaaGreatDoor
open Go.RowKit Num

/-- both boxes behind the calls -/
theorem endA {W w3 : World} {t : TypeId} {A2 D2 A3 D3 : Option Addr} {a2 d2 a3 d3 : List Nat} (K : Below W.heap.size W w3) (n2 : Bool) (c2 e2 : Nat) (r2 : Rd w3 (fun g => g < w3.heap.size) .u32 A2 a2) (q2 : Rd w3 (fun g => g < w3.heap.size) .u32 D2 d2) (n3 : Bool) (c3 e3 : Nat) (r3 : Rd w3 (fun g => g < w3.heap.size) .u32 A3 a3) (q3 : Rd w3 (fun g => g < w3.heap.size) .u32 D3 d3) : Blk ((w3.alloc (.cells #[.bool n2, .slice A2 a2.length c2, .slice D2 d2.length e2] t)).alloc (.cells #[.bool n3, .slice A3 a3.length c3, .slice D3 d3.length e3] t)) w3.heap.size t [.bool n2, .slice A2 a2.length c2, .slice D2 d2.length e2] ∧ Blk ((w3.alloc (.cells #[.bool n2, .slice A2 a2.length c2, .slice D2 d2.length e2] t)).alloc (.cells #[.bool n3, .slice A3 a3.length c3, .slice D3 d3.length e3] t)) (w3.heap.size + 1) t [.bool n3, .slice A3 a3.length c3, .slice D3 d3.length e3] ∧ (Rd ((w3.alloc (.cells #[.bool n2, .slice A2 a2.length c2, .slice D2 d2.length e2] t)).alloc (.cells #[.bool n3, .slice A3 a3.length c3, .slice D3 d3.length e3] t)) (fun b => b < (((w3.alloc (.cells #[.bool n2, .slice A2 a2.length c2, .slice D2 d2.length e2] t)).alloc (.cells #[.bool n3, .slice A3 a3.length c3, .slice D3 d3.length e3] t))).heap.size) .u32 A2 a2 ∧ Rd ((w3.alloc (.cells #[.bool n2, .slice A2 a2.length c2, .slice D2 d2.length e2] t)).alloc (.cells #[.bool n3, .slice A3 a3.length c3, .slice D3 d3.length e3] t)) (fun b => b < (((w3.alloc (.cells #[.bool n2, .slice A2 a2.length c2, .slice D2 d2.length e2] t)).alloc (.cells #[.bool n3, .slice A3 a3.length c3, .slice D3 d3.length e3] t))).heap.size) .u32 D2 d2) ∧ (Rd ((w3.alloc (.cells #[.bool n2, .slice A2 a2.length c2, .slice D2 d2.length e2] t)).alloc (.cells #[.bool n3, .slice A3 a3.length c3, .slice D3 d3.length e3] t)) (fun b => b < (((w3.alloc (.cells #[.bool n2, .slice A2 a2.length c2, .slice D2 d2.length e2] t)).alloc (.cells #[.bool n3, .slice A3 a3.length c3, .slice D3 d3.length e3] t))).heap.size) .u32 A3 a3 ∧ Rd ((w3.alloc (.cells #[.bool n2, .slice A2 a2.length c2, .slice D2 d2.length e2] t)).alloc (.cells #[.bool n3, .slice A3 a3.length c3, .slice D3 d3.length e3] t)) (fun b => b < (((w3.alloc (.cells #[.bool n2, .slice A2 a2.length c2, .slice D2 d2.length e2] t)).alloc (.cells #[.bool n3, .slice A3 a3.length c3, .slice D3 d3.length e3] t))).heap.size) .u32 D3 d3) ∧ Below W.heap.size W ((w3.alloc (.cells #[.bool n2, .slice A2 a2.length c2, .slice D2 d2.length e2] t)).alloc (.cells #[.bool n3, .slice A3 a3.length c3, .slice D3 d3.length e3] t)) := by
  have b1 := below_new w3 (.cells #[.bool n2, .slice A2 a2.length c2, .slice D2 d2.length e2] t)
  have b2 := below_new (w3.alloc (.cells #[.bool n2, .slice A2 a2.length c2, .slice D2 d2.length e2] t)) (.cells #[.bool n3, .slice A3 a3.length c3, .slice D3 d3.length e3] t)
  exact ⟨(Blk.new w3 t _).alloc _, Blk.at_new (w3.alloc (.cells #[.bool n2, .slice A2 a2.length c2, .slice D2 d2.length e2] t)) t [.bool n3, .slice A3 a3.length c3, .slice D3 d3.length e3] (by simp), ⟨(r2.on b1).on b2, (q2.on b1).on b2⟩, ⟨(r3.on b1).on b2, (q3.on b1).on b2⟩, keep_two K _ _⟩
theorem endA' {W w3 : World} {t : TypeId} {A2 D2 A3 D3 : Option Addr} {a2 d2 a3 d3 : List Nat} (K : Below W.heap.size W w3) (n2 : Bool) (c2 e2 : Nat) (r2 : Rd w3 (fun g => g < w3.heap.size) .u32 A2 a2) (q2 : Rd w3 (fun g => g < w3.heap.size) .u32 D2 d2) (n3 : Bool) (c3 e3 : Nat) (r3 : Rd w3 (fun g => g < w3.heap.size) .u32 A3 a3) (q3 : Rd w3 (fun g => g < w3.heap.size) .u32 D3 d3) : Blk ((w3.alloc (.cells #[.bool n3, .slice A3 a3.length c3, .slice D3 d3.length e3] t)).alloc (.cells #[.bool n2, .slice A2 a2.length c2, .slice D2 d2.length e2] t)) (w3.heap.size + 1) t [.bool n2, .slice A2 a2.length c2, .slice D2 d2.length e2] ∧ Blk ((w3.alloc (.cells #[.bool n3, .slice A3 a3.length c3, .slice D3 d3.length e3] t)).alloc (.cells #[.bool n2, .slice A2 a2.length c2, .slice D2 d2.length e2] t)) w3.heap.size t [.bool n3, .slice A3 a3.length c3, .slice D3 d3.length e3] ∧ (Rd ((w3.alloc (.cells #[.bool n3, .slice A3 a3.length c3, .slice D3 d3.length e3] t)).alloc (.cells #[.bool n2, .slice A2 a2.length c2, .slice D2 d2.length e2] t)) (fun b => b < (((w3.alloc (.cells #[.bool n3, .slice A3 a3.length c3, .slice D3 d3.length e3] t)).alloc (.cells #[.bool n2, .slice A2 a2.length c2, .slice D2 d2.length e2] t))).heap.size) .u32 A2 a2 ∧ Rd ((w3.alloc (.cells #[.bool n3, .slice A3 a3.length c3, .slice D3 d3.length e3] t)).alloc (.cells #[.bool n2, .slice A2 a2.length c2, .slice D2 d2.length e2] t)) (fun b => b < (((w3.alloc (.cells #[.bool n3, .slice A3 a3.length c3, .slice D3 d3.length e3] t)).alloc (.cells #[.bool n2, .slice A2 a2.length c2, .slice D2 d2.length e2] t))).heap.size) .u32 D2 d2) ∧ (Rd ((w3.alloc (.cells #[.bool n3, .slice A3 a3.length c3, .slice D3 d3.length e3] t)).alloc (.cells #[.bool n2, .slice A2 a2.length c2, .slice D2 d2.length e2] t)) (fun b => b < (((w3.alloc (.cells #[.bool n3, .slice A3 a3.length c3, .slice D3 d3.length e3] t)).alloc (.cells #[.bool n2, .slice A2 a2.length c2, .slice D2 d2.length e2] t))).heap.size) .u32 A3 a3 ∧ Rd ((w3.alloc (.cells #[.bool n3, .slice A3 a3.length c3, .slice D3 d3.length e3] t)).alloc (.cells #[.bool n2, .slice A2 a2.length c2, .slice D2 d2.length e2] t)) (fun b => b < (((w3.alloc (.cells #[.bool n3, .slice A3 a3.length c3, .slice D3 d3.length e3] t)).alloc (.cells #[.bool n2, .slice A2 a2.length c2, .slice D2 d2.length e2] t))).heap.size) .u32 D3 d3) ∧ Below W.heap.size W ((w3.alloc (.cells #[.bool n3, .slice A3 a3.length c3, .slice D3 d3.length e3] t)).alloc (.cells #[.bool n2, .slice A2 a2.length c2, .slice D2 d2.length e2] t)) := by
  have b1 := below_new w3 (.cells #[.bool n3, .slice A3 a3.length c3, .slice D3 d3.length e3] t)
  have b2 := below_new (w3.alloc (.cells #[.bool n3, .slice A3 a3.length c3, .slice D3 d3.length e3] t)) (.cells #[.bool n2, .slice A2 a2.length c2, .slice D2 d2.length e2] t)
  exact ⟨Blk.at_new (w3.alloc (.cells #[.bool n3, .slice A3 a3.length c3, .slice D3 d3.length e3] t)) t [.bool n2, .slice A2 a2.length c2, .slice D2 d2.length e2] (by simp), (Blk.new w3 t _).alloc _, ⟨(r2.on b1).on b2, (q2.on b1).on b2⟩, ⟨(r3.on b1).on b2, (q3.on b1).on b2⟩, keep_two K _ _⟩
theorem endB {W w3 : World} {t : TypeId} {A2 D2 A3 D3 : Option Addr} {a2 d2 a3 d3 : List Nat} {g : Nat} (k : Blk w3 g t [.bool false, .slice none 0 0, .slice none 0 0]) (hg : W.heap.size ≤ g) (K : Below W.heap.size W w3) (n2 : Bool) (c2 e2 : Nat) (r2 : Rd w3 (fun g => g < w3.heap.size) .u32 A2 a2) (q2 : Rd w3 (fun g => g < w3.heap.size) .u32 D2 d2) (n3 : Bool) (c3 e3 : Nat) (r3 : Rd w3 (fun g => g < w3.heap.size) .u32 A3 a3) (q3 : Rd w3 (fun g => g < w3.heap.size) .u32 D3 d3) : Blk ((((w3.setCell ⟨g, 0, none⟩ (.bool n2)).setCell ⟨g, 1, none⟩ (.slice A2 a2.length c2)).setCell ⟨g, 2, none⟩ (.slice D2 d2.length e2)).alloc (.cells #[.bool n3, .slice A3 a3.length c3, .slice D3 d3.length e3] t)) g t [.bool n2, .slice A2 a2.length c2, .slice D2 d2.length e2] ∧ Blk ((((w3.setCell ⟨g, 0, none⟩ (.bool n2)).setCell ⟨g, 1, none⟩ (.slice A2 a2.length c2)).setCell ⟨g, 2, none⟩ (.slice D2 d2.length e2)).alloc (.cells #[.bool n3, .slice A3 a3.length c3, .slice D3 d3.length e3] t)) w3.heap.size t [.bool n3, .slice A3 a3.length c3, .slice D3 d3.length e3] ∧ (Rd ((((w3.setCell ⟨g, 0, none⟩ (.bool n2)).setCell ⟨g, 1, none⟩ (.slice A2 a2.length c2)).setCell ⟨g, 2, none⟩ (.slice D2 d2.length e2)).alloc (.cells #[.bool n3, .slice A3 a3.length c3, .slice D3 d3.length e3] t)) (fun b => b < (((((w3.setCell ⟨g, 0, none⟩ (.bool n2)).setCell ⟨g, 1, none⟩ (.slice A2 a2.length c2)).setCell ⟨g, 2, none⟩ (.slice D2 d2.length e2)).alloc (.cells #[.bool n3, .slice A3 a3.length c3, .slice D3 d3.length e3] t))).heap.size) .u32 A2 a2 ∧ Rd ((((w3.setCell ⟨g, 0, none⟩ (.bool n2)).setCell ⟨g, 1, none⟩ (.slice A2 a2.length c2)).setCell ⟨g, 2, none⟩ (.slice D2 d2.length e2)).alloc (.cells #[.bool n3, .slice A3 a3.length c3, .slice D3 d3.length e3] t)) (fun b => b < (((((w3.setCell ⟨g, 0, none⟩ (.bool n2)).setCell ⟨g, 1, none⟩ (.slice A2 a2.length c2)).setCell ⟨g, 2, none⟩ (.slice D2 d2.length e2)).alloc (.cells #[.bool n3, .slice A3 a3.length c3, .slice D3 d3.length e3] t))).heap.size) .u32 D2 d2) ∧ (Rd ((((w3.setCell ⟨g, 0, none⟩ (.bool n2)).setCell ⟨g, 1, none⟩ (.slice A2 a2.length c2)).setCell ⟨g, 2, none⟩ (.slice D2 d2.length e2)).alloc (.cells #[.bool n3, .slice A3 a3.length c3, .slice D3 d3.length e3] t)) (fun b => b < (((((w3.setCell ⟨g, 0, none⟩ (.bool n2)).setCell ⟨g, 1, none⟩ (.slice A2 a2.length c2)).setCell ⟨g, 2, none⟩ (.slice D2 d2.length e2)).alloc (.cells #[.bool n3, .slice A3 a3.length c3, .slice D3 d3.length e3] t))).heap.size) .u32 A3 a3 ∧ Rd ((((w3.setCell ⟨g, 0, none⟩ (.bool n2)).setCell ⟨g, 1, none⟩ (.slice A2 a2.length c2)).setCell ⟨g, 2, none⟩ (.slice D2 d2.length e2)).alloc (.cells #[.bool n3, .slice A3 a3.length c3, .slice D3 d3.length e3] t)) (fun b => b < (((((w3.setCell ⟨g, 0, none⟩ (.bool n2)).setCell ⟨g, 1, none⟩ (.slice A2 a2.length c2)).setCell ⟨g, 2, none⟩ (.slice D2 d2.length e2)).alloc (.cells #[.bool n3, .slice A3 a3.length c3, .slice D3 d3.length e3] t))).heap.size) .u32 D3 d3) ∧ Below W.heap.size W ((((w3.setCell ⟨g, 0, none⟩ (.bool n2)).setCell ⟨g, 1, none⟩ (.slice A2 a2.length c2)).setCell ⟨g, 2, none⟩ (.slice D2 d2.length e2)).alloc (.cells #[.bool n3, .slice A3 a3.length c3, .slice D3 d3.length e3] t)) := by
  have b2 := below_new (((w3.setCell ⟨g, 0, none⟩ (.bool n2)).setCell ⟨g, 1, none⟩ (.slice A2 a2.length c2)).setCell ⟨g, 2, none⟩ (.slice D2 d2.length e2)) (.cells #[.bool n3, .slice A3 a3.length c3, .slice D3 d3.length e3] t)
  exact ⟨(k.trip _ _ _).alloc _, Blk.at_new (((w3.setCell ⟨g, 0, none⟩ (.bool n2)).setCell ⟨g, 1, none⟩ (.slice A2 a2.length c2)).setCell ⟨g, 2, none⟩ (.slice D2 d2.length e2)) t [.bool n3, .slice A3 a3.length c3, .slice D3 d3.length e3] (by simp [World.setCell]), ⟨(r2.trip k _ _ _).on b2, (q2.trip k _ _ _).on b2⟩, ⟨(r3.trip k _ _ _).on b2, (q3.trip k _ _ _).on b2⟩, keep_one (((K.setCell hg _).setCell hg _).setCell hg _) _⟩
theorem endB' {W w3 : World} {t : TypeId} {A2 D2 A3 D3 : Option Addr} {a2 d2 a3 d3 : List Nat} {g : Nat} (k : Blk w3 g t [.bool false, .slice none 0 0, .slice none 0 0]) (hg : W.heap.size ≤ g) (K : Below W.heap.size W w3) (n2 : Bool) (c2 e2 : Nat) (r2 : Rd w3 (fun g => g < w3.heap.size) .u32 A2 a2) (q2 : Rd w3 (fun g => g < w3.heap.size) .u32 D2 d2) (n3 : Bool) (c3 e3 : Nat) (r3 : Rd w3 (fun g => g < w3.heap.size) .u32 A3 a3) (q3 : Rd w3 (fun g => g < w3.heap.size) .u32 D3 d3) : Blk ((((w3.setCell ⟨g, 0, none⟩ (.bool n3)).setCell ⟨g, 1, none⟩ (.slice A3 a3.length c3)).setCell ⟨g, 2, none⟩ (.slice D3 d3.length e3)).alloc (.cells #[.bool n2, .slice A2 a2.length c2, .slice D2 d2.length e2] t)) w3.heap.size t [.bool n2, .slice A2 a2.length c2, .slice D2 d2.length e2] ∧ Blk ((((w3.setCell ⟨g, 0, none⟩ (.bool n3)).setCell ⟨g, 1, none⟩ (.slice A3 a3.length c3)).setCell ⟨g, 2, none⟩ (.slice D3 d3.length e3)).alloc (.cells #[.bool n2, .slice A2 a2.length c2, .slice D2 d2.length e2] t)) g t [.bool n3, .slice A3 a3.length c3, .slice D3 d3.length e3] ∧ (Rd ((((w3.setCell ⟨g, 0, none⟩ (.bool n3)).setCell ⟨g, 1, none⟩ (.slice A3 a3.length c3)).setCell ⟨g, 2, none⟩ (.slice D3 d3.length e3)).alloc (.cells #[.bool n2, .slice A2 a2.length c2, .slice D2 d2.length e2] t)) (fun b => b < (((((w3.setCell ⟨g, 0, none⟩ (.bool n3)).setCell ⟨g, 1, none⟩ (.slice A3 a3.length c3)).setCell ⟨g, 2, none⟩ (.slice D3 d3.length e3)).alloc (.cells #[.bool n2, .slice A2 a2.length c2, .slice D2 d2.length e2] t))).heap.size) .u32 A2 a2 ∧ Rd ((((w3.setCell ⟨g, 0, none⟩ (.bool n3)).setCell ⟨g, 1, none⟩ (.slice A3 a3.length c3)).setCell ⟨g, 2, none⟩ (.slice D3 d3.length e3)).alloc (.cells #[.bool n2, .slice A2 a2.length c2, .slice D2 d2.length e2] t)) (fun b => b < (((((w3.setCell ⟨g, 0, none⟩ (.bool n3)).setCell ⟨g, 1, none⟩ (.slice A3 a3.length c3)).setCell ⟨g, 2, none⟩ (.slice D3 d3.length e3)).alloc (.cells #[.bool n2, .slice A2 a2.length c2, .slice D2 d2.length e2] t))).heap.size) .u32 D2 d2) ∧ (Rd ((((w3.setCell ⟨g, 0, none⟩ (.bool n3)).setCell ⟨g, 1, none⟩ (.slice A3 a3.length c3)).setCell ⟨g, 2, none⟩ (.slice D3 d3.length e3)).alloc (.cells #[.bool n2, .slice A2 a2.length c2, .slice D2 d2.length e2] t)) (fun b => b < (((((w3.setCell ⟨g, 0, none⟩ (.bool n3)).setCell ⟨g, 1, none⟩ (.slice A3 a3.length c3)).setCell ⟨g, 2, none⟩ (.slice D3 d3.length e3)).alloc (.cells #[.bool n2, .slice A2 a2.length c2, .slice D2 d2.length e2] t))).heap.size) .u32 A3 a3 ∧ Rd ((((w3.setCell ⟨g, 0, none⟩ (.bool n3)).setCell ⟨g, 1, none⟩ (.slice A3 a3.length c3)).setCell ⟨g, 2, none⟩ (.slice D3 d3.length e3)).alloc (.cells #[.bool n2, .slice A2 a2.length c2, .slice D2 d2.length e2] t)) (fun b => b < (((((w3.setCell ⟨g, 0, none⟩ (.bool n3)).setCell ⟨g, 1, none⟩ (.slice A3 a3.length c3)).setCell ⟨g, 2, none⟩ (.slice D3 d3.length e3)).alloc (.cells #[.bool n2, .slice A2 a2.length c2, .slice D2 d2.length e2] t))).heap.size) .u32 D3 d3) ∧ Below W.heap.size W ((((w3.setCell ⟨g, 0, none⟩ (.bool n3)).setCell ⟨g, 1, none⟩ (.slice A3 a3.length c3)).setCell ⟨g, 2, none⟩ (.slice D3 d3.length e3)).alloc (.cells #[.bool n2, .slice A2 a2.length c2, .slice D2 d2.length e2] t)) := by
  have b2 := below_new (((w3.setCell ⟨g, 0, none⟩ (.bool n3)).setCell ⟨g, 1, none⟩ (.slice A3 a3.length c3)).setCell ⟨g, 2, none⟩ (.slice D3 d3.length e3)) (.cells #[.bool n2, .slice A2 a2.length c2, .slice D2 d2.length e2] t)
  exact ⟨Blk.at_new (((w3.setCell ⟨g, 0, none⟩ (.bool n3)).setCell ⟨g, 1, none⟩ (.slice A3 a3.length c3)).setCell ⟨g, 2, none⟩ (.slice D3 d3.length e3)) t [.bool n2, .slice A2 a2.length c2, .slice D2 d2.length e2] (by simp [World.setCell]), (k.trip _ _ _).alloc _, ⟨(r2.trip k _ _ _).on b2, (q2.trip k _ _ _).on b2⟩, ⟨(r3.trip k _ _ _).on b2, (q3.trip k _ _ _).on b2⟩, keep_one (((K.setCell hg _).setCell hg _).setCell hg _) _⟩
theorem endC {W w3 : World} {t : TypeId} {A2 D2 A3 D3 : Option Addr} {a2 d2 a3 d3 : List Nat} {g g' : Nat} (k : Blk w3 g t [.bool false, .slice none 0 0, .slice none 0 0]) (k' : Blk w3 g' t [.bool false, .slice none 0 0, .slice none 0 0]) (hne : g ≠ g') (hg : W.heap.size ≤ g) (hg' : W.heap.size ≤ g') (K : Below W.heap.size W w3) (n2 : Bool) (c2 e2 : Nat) (r2 : Rd w3 (fun g => g < w3.heap.size) .u32 A2 a2) (q2 : Rd w3 (fun g => g < w3.heap.size) .u32 D2 d2) (n3 : Bool) (c3 e3 : Nat) (r3 : Rd w3 (fun g => g < w3.heap.size) .u32 A3 a3) (q3 : Rd w3 (fun g => g < w3.heap.size) .u32 D3 d3) : Blk ((((((w3.setCell ⟨g, 0, none⟩ (.bool n2)).setCell ⟨g, 1, none⟩ (.slice A2 a2.length c2)).setCell ⟨g, 2, none⟩ (.slice D2 d2.length e2)).setCell ⟨g', 0, none⟩ (.bool n3)).setCell ⟨g', 1, none⟩ (.slice A3 a3.length c3)).setCell ⟨g', 2, none⟩ (.slice D3 d3.length e3)) g t [.bool n2, .slice A2 a2.length c2, .slice D2 d2.length e2] ∧ Blk ((((((w3.setCell ⟨g, 0, none⟩ (.bool n2)).setCell ⟨g, 1, none⟩ (.slice A2 a2.length c2)).setCell ⟨g, 2, none⟩ (.slice D2 d2.length e2)).setCell ⟨g', 0, none⟩ (.bool n3)).setCell ⟨g', 1, none⟩ (.slice A3 a3.length c3)).setCell ⟨g', 2, none⟩ (.slice D3 d3.length e3)) g' t [.bool n3, .slice A3 a3.length c3, .slice D3 d3.length e3] ∧ (Rd ((((((w3.setCell ⟨g, 0, none⟩ (.bool n2)).setCell ⟨g, 1, none⟩ (.slice A2 a2.length c2)).setCell ⟨g, 2, none⟩ (.slice D2 d2.length e2)).setCell ⟨g', 0, none⟩ (.bool n3)).setCell ⟨g', 1, none⟩ (.slice A3 a3.length c3)).setCell ⟨g', 2, none⟩ (.slice D3 d3.length e3)) (fun b => b < (((((((w3.setCell ⟨g, 0, none⟩ (.bool n2)).setCell ⟨g, 1, none⟩ (.slice A2 a2.length c2)).setCell ⟨g, 2, none⟩ (.slice D2 d2.length e2)).setCell ⟨g', 0, none⟩ (.bool n3)).setCell ⟨g', 1, none⟩ (.slice A3 a3.length c3)).setCell ⟨g', 2, none⟩ (.slice D3 d3.length e3))).heap.size) .u32 A2 a2 ∧ Rd ((((((w3.setCell ⟨g, 0, none⟩ (.bool n2)).setCell ⟨g, 1, none⟩ (.slice A2 a2.length c2)).setCell ⟨g, 2, none⟩ (.slice D2 d2.length e2)).setCell ⟨g', 0, none⟩ (.bool n3)).setCell ⟨g', 1, none⟩ (.slice A3 a3.length c3)).setCell ⟨g', 2, none⟩ (.slice D3 d3.length e3)) (fun b => b < (((((((w3.setCell ⟨g, 0, none⟩ (.bool n2)).setCell ⟨g, 1, none⟩ (.slice A2 a2.length c2)).setCell ⟨g, 2, none⟩ (.slice D2 d2.length e2)).setCell ⟨g', 0, none⟩ (.bool n3)).setCell ⟨g', 1, none⟩ (.slice A3 a3.length c3)).setCell ⟨g', 2, none⟩ (.slice D3 d3.length e3))).heap.size) .u32 D2 d2) ∧ (Rd ((((((w3.setCell ⟨g, 0, none⟩ (.bool n2)).setCell ⟨g, 1, none⟩ (.slice A2 a2.length c2)).setCell ⟨g, 2, none⟩ (.slice D2 d2.length e2)).setCell ⟨g', 0, none⟩ (.bool n3)).setCell ⟨g', 1, none⟩ (.slice A3 a3.length c3)).setCell ⟨g', 2, none⟩ (.slice D3 d3.length e3)) (fun b => b < (((((((w3.setCell ⟨g, 0, none⟩ (.bool n2)).setCell ⟨g, 1, none⟩ (.slice A2 a2.length c2)).setCell ⟨g, 2, none⟩ (.slice D2 d2.length e2)).setCell ⟨g', 0, none⟩ (.bool n3)).setCell ⟨g', 1, none⟩ (.slice A3 a3.length c3)).setCell ⟨g', 2, none⟩ (.slice D3 d3.length e3))).heap.size) .u32 A3 a3 ∧ Rd ((((((w3.setCell ⟨g, 0, none⟩ (.bool n2)).setCell ⟨g, 1, none⟩ (.slice A2 a2.length c2)).setCell ⟨g, 2, none⟩ (.slice D2 d2.length e2)).setCell ⟨g', 0, none⟩ (.bool n3)).setCell ⟨g', 1, none⟩ (.slice A3 a3.length c3)).setCell ⟨g', 2, none⟩ (.slice D3 d3.length e3)) (fun b => b < (((((((w3.setCell ⟨g, 0, none⟩ (.bool n2)).setCell ⟨g, 1, none⟩ (.slice A2 a2.length c2)).setCell ⟨g, 2, none⟩ (.slice D2 d2.length e2)).setCell ⟨g', 0, none⟩ (.bool n3)).setCell ⟨g', 1, none⟩ (.slice A3 a3.length c3)).setCell ⟨g', 2, none⟩ (.slice D3 d3.length e3))).heap.size) .u32 D3 d3) ∧ Below W.heap.size W ((((((w3.setCell ⟨g, 0, none⟩ (.bool n2)).setCell ⟨g, 1, none⟩ (.slice A2 a2.length c2)).setCell ⟨g, 2, none⟩ (.slice D2 d2.length e2)).setCell ⟨g', 0, none⟩ (.bool n3)).setCell ⟨g', 1, none⟩ (.slice A3 a3.length c3)).setCell ⟨g', 2, none⟩ (.slice D3 d3.length e3)) := by
  have K1 := k.trip (.bool n2) (.slice A2 a2.length c2) (.slice D2 d2.length e2)
  have K2 := ((k'.far (p := ⟨g, 0, none⟩) (Ne.symm hne) (.bool n2)).far (p := ⟨g, 1, none⟩) (Ne.symm hne) (.slice A2 a2.length c2)).far (p := ⟨g, 2, none⟩) (Ne.symm hne) (.slice D2 d2.length e2)
  exact ⟨((K1.far (p := ⟨g', 0, none⟩) hne _).far (p := ⟨g', 1, none⟩) hne _).far (p := ⟨g', 2, none⟩) hne _, K2.trip _ _ _, ⟨(r2.trip k _ _ _).trip K2 _ _ _, (q2.trip k _ _ _).trip K2 _ _ _⟩, ⟨(r3.trip k _ _ _).trip K2 _ _ _, (q3.trip k _ _ _).trip K2 _ _ _⟩, (((((K.setCell hg _).setCell hg _).setCell hg _).setCell hg' _).setCell hg' _).setCell hg' _⟩

end Go.Proofs.YtokaapljlpngdaaGreatDoor
/- Fractions: what the program's own Sign, Cmp and Whole answer. -/

namespace Go.Proofs.YtokaapljlpngdaaGreatDoor
open Go.RowKit Num

/-- the upper part of a fraction that lies in no memory -/
theorem run_field_ratio (v0 v1 v2 : Value) (w : World) : (Instr.field 69 (.agg #[v0, v1, v2]) 0).run Tryz.prog w = .ok (.agg #[v0, v1]) w := by
  simp [go_sem, Instr.field, asAgg]

set_option maxRecDepth 10000 in
set_option maxHeartbeats 12800000 in
/-- how two stand -/
theorem frac_Cmp (S S' : Shape) (P P' : Int) (Q Q' m : Nat) (hQ : 0 < Q) (hQ' : 0 < Q') (hm : m ≤ 4194304) (cH : Fn1 42 S (SR P Q m)) (cH' : Fn1 42 S' (SR P' Q' m))
    (n n' : Bool) (a d a' d' : List Nat) (A D A' D' : Option Addr) (ca cd ca' cd' : Nat) (w : World) (hS : S n a ca d cd) (hT : S' n' a' ca' d' cd') (h : Rd w (fun g => g < w.heap.size) .u32 A a) (h' : Rd w (fun g => g < w.heap.size) .u32 D d) (q : Rd w (fun g => g < w.heap.size) .u32 A' a') (q' : Rd w (fun g => g < w.heap.size) .u32 D' d') :
    Calls Tryz.prog 21 #[.agg #[.bool n, .slice A a.length ca, .slice D d.length cd], .agg #[.bool n', .slice A' a'.length ca', .slice D' d'.length cd']] w fun e w' => e = .returned (.int .i64 (sgn (P * (Q' : Int) - P' * (Q : Int)))) ∧ Below w.heap.size w w' := by
  obtain ⟨W, hW, k1, k2, b0, s0⟩ := bx2 w 29 29 (.bool n) (.slice A a.length ca) (.slice D d.length cd) (.bool n') (.slice A' a'.length ca') (.slice D' d'.length cd')
  obtain ⟨p0, p1, p2, -, -, -⟩ := k1.facts
  obtain ⟨z0, z1, z2, -, -, -⟩ := k2.facts
  obtain ⟨T, hTT⟩ : ∃ T, SR P Q m = T := ⟨_, rfl⟩
  obtain ⟨T', hTT'⟩ : ∃ T, SR P' Q' m = T := ⟨_, rfl⟩
  rw [hTT] at cH
  rw [hTT'] at cH'
  have HTT := Lib.hid (And.intro hTT hTT')
  obtain ⟨z, hz⟩ : ∃ z, sgn (P * (Q' : Int) - P' * (Q : Int)) = z := ⟨_, rfl⟩
  rw [hz]
  have HZ := Lib.hid hz
  have CH := Lib.hid (fun (V : World) (hV : Below W.heap.size W V) => cH n a d A D ca cd V hS ((h.on b0).on hV) ((h'.on b0).on hV))
  have CI := Lib.hid (fun (V : World) (hV : Below W.heap.size W V) => cH' n' a' d' A' D' ca' cd' V hT ((q.on b0).on hV) ((q'.on b0).on hV))
  have HK1 := Lib.hid k1
  have HK2 := Lib.hid k2
  have HB0 := Lib.hid b0
  have K0 : Below W.heap.size W W.drew := below_drewN (Below.refl _ _) 1
  have KO : Below W.heap.size W (W.alloc (.cells #[.bool false, .slice none 0 0, .slice none 0 0] 69)).drew := below_drewN (keep_one (Below.refl W.heap.size W) _) 1
  have KT : Below W.heap.size W ((W.alloc (.cells #[.bool false, .slice none 0 0, .slice none 0 0] 69)).alloc (.cells #[.bool false, .slice none 0 0, .slice none 0 0] 69)).drew := below_drewN (keep_two (Below.refl W.heap.size W) _ _) 1
  have hlt : w.heap.size + 1 < W.heap.size := by omega
  clear cH cH' hTT hTT' hz k1 k2 b0 s0 h h' q q' hS hT
  go_enter Tryz.func21, Tryz.ntmps21
  go_wp2_with fail
  try rw [hW]
  clear hW
  go_cut [5, 6] from 7 (fun v5 v6 wc => ∃ g5 g6 n2 a2 X2 c2 d2 Y2 e2 n3 a3 X3 c3 d3 Y3 e3, v5 = .pointer (some ⟨g5, 0, none⟩) ∧ v6 = .pointer (some ⟨g6, 0, none⟩) ∧ T n2 a2 c2 d2 e2 ∧ T' n3 a3 c3 d3 e3 ∧ Blk wc g5 69 [.bool n2, .slice X2 a2.length c2, .slice Y2 d2.length e2] ∧ Blk wc g6 69 [.bool n3, .slice X3 a3.length c3, .slice Y3 d3.length e3] ∧ (Rd wc (fun g => g < wc.heap.size) .u32 X2 a2 ∧ Rd wc (fun g => g < wc.heap.size) .u32 Y2 d2) ∧ (Rd wc (fun g => g < wc.heap.size) .u32 X3 a3 ∧ Rd wc (fun g => g < wc.heap.size) .u32 Y3 d3) ∧ Below W.heap.size W wc)
  case first =>
    go_region_held3 (fun w' => (w'.cell? ⟨w.heap.size, 0, none⟩ = some (.bool n) ∧ w'.cell? ⟨w.heap.size, 1, none⟩ = some (.slice A a.length ca) ∧ w'.cell? ⟨w.heap.size, 2, none⟩ = some (.slice D d.length cd)) ∧ (w'.cell? ⟨w.heap.size + 1, 0, none⟩ = some (.bool n') ∧ w'.cell? ⟨w.heap.size + 1, 1, none⟩ = some (.slice A' a'.length ca') ∧ w'.cell? ⟨w.heap.size + 1, 2, none⟩ = some (.slice D' d'.length cd')))
      (first | (refine ⟨keep3 HK1.out ?_, keep3 HK2.out ?_⟩ <;> first | (with_reducible exact KB) | (with_reducible exact KA) | (with_reducible exact K0) | ((repeat (first | (with_reducible refine Below.setCell ?_ (by dsimp only; omega) _) | (with_reducible refine Below.alloc ?_ (by first | omega | exact Nat.le_refl _ | (have := KB.size; omega) | (have := KA.size; omega) | (simp; omega) | (have := KB.size; simp [World.setCell]; omega) | (have := KA.size; simp; omega)) _))); first | (with_reducible exact KB) | (with_reducible exact KA) | (with_reducible exact K0))) | go_keep)
      ((first
        | (go_at_call_of 42 (Value.slice A a.length ca); (first | (with_reducible refine Calls.mono (CH.out _ K0) ?_) | (with_reducible refine Calls.mono (CH.out _ KO) ?_) | (with_reducible refine Calls.mono (CH.out _ KT) ?_)); rintro e w2 ⟨n2, a2, X2, c2, d2, Y2, e2, rfl, s2, r2, q2, b2⟩; (first | (guard_hyp b2 : Below W.drew.heap.size W.drew w2; have sz2 : W.heap.size ≤ w2.heap.size := b2.size; have KA := below_next K0 (Nat.le_refl _) b2) | (guard_hyp b2 : Below (W.alloc (.cells #[.bool false, .slice none 0 0, .slice none 0 0] 69)).drew.heap.size (W.alloc (.cells #[.bool false, .slice none 0 0, .slice none 0 0] 69)).drew w2; obtain ⟨kA, sz2⟩ := got13d b2; obtain ⟨o0, o1, o2, o3, o4, o5⟩ := kA.facts; have KA := below_next KO (Nat.le_refl _) b2) | (obtain ⟨⟨kA, sz2⟩, kB⟩ := got23d b2; obtain ⟨o0, o1, o2, o3, o4, o5⟩ := kA.facts; obtain ⟨l0, l1, l2, l3, l4, l5⟩ := kB.facts; have KA := below_next KT (Nat.le_refl _) b2)))
        | (go_at_call_of 42 (Value.slice A' a'.length ca'); (first | (with_reducible refine Calls.mono (CI.out _ KA) ?_) | (with_reducible refine Calls.mono (CI.out _ (keep_one KA _)) ?_) | (with_reducible refine Calls.mono (CI.out _ (keep_two KA _ _)) ?_)); rintro e w3 ⟨n3, a3, X3, c3, d3, Y3, e3, rfl, s3, r3, q3, b3⟩; (first | (guard_hyp b3 : Below w2.heap.size w2 w3; have sz3 : w2.heap.size ≤ w3.heap.size := b3.size; have KB := below_next KA (Nat.le_refl _) b3; have b23 : Below w2.heap.size w2 w3 := b3) | (guard_hyp b3 : Below (w2.alloc (.cells #[.bool false, .slice none 0 0, .slice none 0 0] 69)).heap.size (w2.alloc (.cells #[.bool false, .slice none 0 0, .slice none 0 0] 69)) w3; obtain ⟨kC, sz3⟩ := got13 b3; obtain ⟨t0, t1, t2, t3, t4, t5⟩ := kC.facts; have KB := below_next (keep_one KA _) (Nat.le_refl _) b3; have b23 : Below w2.heap.size w2 w3 := (below_new w2 _).trans (b3.mono (by simp))) | (obtain ⟨⟨kC, sz3⟩, kD⟩ := got23 b3; obtain ⟨t0, t1, t2, t3, t4, t5⟩ := kC.facts; obtain ⟨m0, m1, m2, m3, m4, m5⟩ := kD.facts; have KB := below_next (keep_two KA _ _) (Nat.le_refl _) b3; have b23 : Below w2.heap.size w2 w3 := (below_new2 w2 _ _).trans (b3.mono (by simp; omega)))); have r2 := r2.on b23; have q2 := q2.on b23; (first | (guard_hyp b2 : Below W.drew.heap.size W.drew w2; have kX := b23) | (guard_hyp b2 : Below (W.alloc (.cells #[.bool false, .slice none 0 0, .slice none 0 0] 69)).drew.heap.size (W.alloc (.cells #[.bool false, .slice none 0 0, .slice none 0 0] 69)).drew w2; have kX := kA.on b23; have y1 := kX.lt; obtain ⟨o6, o7, o8, o9, oa, ob⟩ := kX.facts) | (have kX := kA.on b23; have y1 := kX.lt; have kY := kB.on b23; have y2 := kY.lt; obtain ⟨o6, o7, o8, o9, oa, ob⟩ := kX.facts; obtain ⟨l6, l7, l8, l9, la, lb⟩ := kY.facts)))))
    all_goals
      have hsz3 : W.heap.size ≤ w3.heap.size := KB.size
      go_wp2_with fail
      go_meet
      refine ⟨_, _, n2, a2, X2, c2, d2, Y2, e2, n3, a3, X3, c3, d3, Y3, e3, rfl, rfl, s2, s3, ?_⟩
      first
        | (with_reducible exact endA KB _ _ _ r2 q2 _ _ _ r3 q3)
        | (with_reducible exact endA' KB _ _ _ r2 q2 _ _ _ r3 q3)
        | (with_reducible exact endB kX (by omega) KB _ _ _ r2 q2 _ _ _ r3 q3)
        | (with_reducible exact endB' kX (by omega) KB _ _ _ r2 q2 _ _ _ r3 q3)
        | (with_reducible exact endB kY (by omega) KB _ _ _ r2 q2 _ _ _ r3 q3)
        | (with_reducible exact endB' kY (by omega) KB _ _ _ r2 q2 _ _ _ r3 q3)
        | (with_reducible exact endB kC (by omega) KB _ _ _ r2 q2 _ _ _ r3 q3)
        | (with_reducible exact endB' kC (by omega) KB _ _ _ r2 q2 _ _ _ r3 q3)
        | (with_reducible exact endC kX kY (by omega) (by omega) (by omega) KB _ _ _ r2 q2 _ _ _ r3 q3)
        | (with_reducible exact endC kY kX (by omega) (by omega) (by omega) KB _ _ _ r2 q2 _ _ _ r3 q3)
        | (with_reducible exact endC kX kC (by omega) (by omega) (by omega) KB _ _ _ r2 q2 _ _ _ r3 q3)
        | (with_reducible exact endC kC kX (by omega) (by omega) (by omega) KB _ _ _ r2 q2 _ _ _ r3 q3)
        | (with_reducible exact endC kC kD (by omega) (by omega) (by omega) KB _ _ _ r2 q2 _ _ _ r3 q3)
        | (with_reducible exact endC kD kC (by omega) (by omega) (by omega) KB _ _ _ r2 q2 _ _ _ r3 q3)
  case rest =>
    obtain ⟨g5, g6, n2, a2, X2, c2, d2, Y2, e2, n3, a3, X3, c3, d3, Y3, e3, rfl, rfl, s2, s3, k5, k6, ⟨r2, q2⟩, ⟨r3, q3⟩, KB⟩ := hcut
    rw [← HTT.out.1] at s2
    rw [← HTT.out.2] at s3
    obtain ⟨hc2, he2, ga2, gd2, gl2, gm2, hp2, hv2⟩ := s2
    obtain ⟨hc3, he3, ga3, gd3, gl3, gm3, hp3, hv3⟩ := s3
    have BW : Below w.heap.size w wc := HB0.out.trans (KB.mono HB0.out.size)
    have HBW := Lib.hid BW
    have HK5 := Lib.hid k5
    have HK6 := Lib.hid k6
    have cC := nat_Cmp d2 d3 Y2 Y3 e2 e3 _ _ wc q2 q3 (by omega) (by omega) he2 he3 gd2 gd3
    obtain ⟨x0, x1, x2⟩ := keep3 k5 (Below.refl _ _)
    obtain ⟨y0, y1, y2⟩ := keep3 k6 (Below.refl _ _)
    have hQQ : (0 : Int) < (Q : Int) * (Q' : Int) := Int.mul_pos (by omega) (by omega)
    by_cases he : val 4294967296 d2 = val 4294967296 d3
    · rw [cmpI_eq he] at cC
      have cX := fun (V : World) (hV : Below wc.heap.size wc V) => whole_Cmp n2 n3 a2 a3 X2 X3 c2 c3 V (r2.on hV) (r3.on hV) (by omega) (by omega) hc2 hc3 ga2 ga3
      have hE : sgn (wv n2 a2 - wv n3 a3) = z := by
        rw [← HZ.out]
        rw [← he] at hv3
        refine sgn_cross (y := (val 4294967296 d2 : Int)) (Q := (Q : Int) * (Q' : Int)) (by omega) hQQ ?_
        have := plus_same hv2 (show (- wv n3 a3) * (Q' : Int) = (-P') * (val 4294967296 d2 : Int) by rw [Int.neg_mul, hv3, Int.neg_mul])
        rwa [Int.neg_mul, ← Int.sub_eq_add_neg, ← Int.sub_eq_add_neg] at this
      simp only [hE] at cX
      have CX := Lib.hid cX
      clear cX hE he hv2 hv3 HZ HTT k5 k6 BW r2 q2 r3 q3 hQQ CH CI HK1 HK2 HB0 p0 p1 p2 z0 z1 z2 K0 KO KT KB
      go_wp2_with fail
      refine cC.mono ?_
      rintro e w4 ⟨rfl, j, rfl⟩
      have Z0 : Below wc.heap.size wc (wc.drewN j) := below_drewN (Below.refl _ _) j
      obtain ⟨x0, x1, x2⟩ := keep3 HK5.out Z0
      obtain ⟨y0, y1, y2⟩ := keep3 HK6.out Z0
      clear cC
      go_wp2_with fail
      refine (CX.out _ Z0).mono ?_
      rintro e w5 ⟨rfl, b5⟩
      go_wp2_with fail
      go_ret
      exact ⟨rfl, HBW.out.trans ((below_next Z0 (Nat.le_refl _) b5).mono HBW.out.size)⟩
    · obtain ⟨y, hy⟩ : ∃ y, cmpI (val 4294967296 d2) (val 4294967296 d3) = y := ⟨_, rfl⟩
      have hyb : (y == 0) = false := by
        have := cmpI_ne he
        rw [hy] at this
        simpa using this
      rw [hy] at cC
      obtain ⟨N1, hN1⟩ : ∃ N, wv n2 a2 * wv false d3 = N := ⟨_, rfl⟩
      obtain ⟨N2, hN2⟩ : ∃ N, wv n3 a3 * wv false d2 = N := ⟨_, rfl⟩
      have cS3 := fun (V : World) => frac_size Y3 d3.length e3 V
      have cS2 := fun (V : World) => frac_size Y2 d2.length e2 V
      have cM1 := fun (V : World) (hV : Below wc.heap.size wc V) => whole_Mul n2 false a2 d3 X2 Y3 c2 e3 V (r2.on hV) (q3.on hV) (by omega) (by omega) hc2 he3 ga2 gd3
      have cM2 := fun (V : World) (hV : Below wc.heap.size wc V) => whole_Mul n3 false a3 d2 X3 Y2 c3 e2 V (r3.on hV) (q2.on hV) (by omega) (by omega) hc3 he2 ga3 gd2
      simp only [hN1] at cM1
      simp only [hN2] at cM2
      have hE : sgn (N1 - N2) = z := by
        rw [← HZ.out, ← hN1, ← hN2, wv_false, wv_false]
        exact sgn_cross (y := (val 4294967296 d2 : Int) * (val 4294967296 d3 : Int)) (Q := (Q : Int) * (Q' : Int)) (Int.mul_pos (by omega) (by omega)) hQQ (cross_sub hv2 hv3)
      have cX : ∀ (V : World) (x y : List Nat) (X Y : Option Addr) (cx cy : Nat), Rd V (fun g => g < V.heap.size) .u32 X x → Rd V (fun g => g < V.heap.size) .u32 Y y → x.length ≤ cx → y.length ≤ cy → Norm 4294967296 x → Norm 4294967296 y → val 4294967296 x = N1.natAbs → val 4294967296 y = N2.natAbs → Calls Tryz.prog 44 #[.agg #[.bool (decide (N1 < 0)), .slice X x.length cx], .agg #[.bool (decide (N2 < 0)), .slice Y y.length cy]] V (fun e w' => e = .returned (.int .i64 z) ∧ Below V.heap.size V w') := fun V x y X Y cx cy hx hy hcx hcy hn hm' hv hu => by
        have lx := len_mul (b := 4294967296) (by omega) hn.2 ga2 gd3 (by rw [hv, ← hN1, Int.natAbs_mul, wv_abs, wv_abs])
        have ly := len_mul (b := 4294967296) (by omega) hm'.2 ga3 gd2 (by rw [hu, ← hN2, Int.natAbs_mul, wv_abs, wv_abs])
        have := whole_Cmp (decide (N1 < 0)) (decide (N2 < 0)) x y X Y cx cy V hx hy (by omega) (by omega) hcx hcy hn.1 hm'.1
        rwa [wv_dec hv, wv_dec hu, hE] at this
      have CS2 := Lib.hid cS2
      have CS3 := Lib.hid cS3
      have CM1 := Lib.hid cM1
      have CM2 := Lib.hid cM2
      have CX := Lib.hid cX
      clear cS2 cS3 cM1 cM2 cX hE he hv2 hv3 HZ HTT k5 k6 BW r2 q2 r3 q3 hQQ CH CI HK1 HK2 HB0 p0 p1 p2 z0 z1 z2 K0 KO KT KB hN1 hN2 hy
      go_wp2_with fail
      refine cC.mono ?_
      rintro e w4 ⟨rfl, j, rfl⟩
      have Z0 : Below wc.heap.size wc (wc.drewN j) := below_drewN (Below.refl _ _) j
      have Z1 : Below wc.heap.size wc (wc.drewN (j + 1)) := below_drewN (Below.refl _ _) (j + 1)
      obtain ⟨x0, x1, x2⟩ := keep3 HK5.out Z0
      obtain ⟨y0, y1, y2⟩ := keep3 HK6.out Z0
      clear cC
      go_wp2_with fail
      go_region_held3 (fun w' => (w'.cell? ⟨g5, 0, none⟩ = some (.bool n2) ∧ w'.cell? ⟨g5, 1, none⟩ = some (.slice X2 a2.length c2) ∧ w'.cell? ⟨g5, 2, none⟩ = some (.slice Y2 d2.length e2)) ∧ (w'.cell? ⟨g6, 0, none⟩ = some (.bool n3) ∧ w'.cell? ⟨g6, 1, none⟩ = some (.slice X3 a3.length c3) ∧ w'.cell? ⟨g6, 2, none⟩ = some (.slice Y3 d3.length e3)))
        (first | (with_reducible exact ⟨keep3 HK5.out Z1, keep3 HK6.out Z1⟩) | exact ⟨keep3 HK5.out Z1, keep3 HK6.out Z1⟩ | (with_reducible exact ⟨keep3 HK5.out ZA, keep3 HK6.out ZA⟩) | (with_reducible exact ⟨keep3 HK5.out ZB, keep3 HK6.out ZB⟩) | (with_reducible exact ⟨keep3 HK5.out ZC, keep3 HK6.out ZC⟩) | (with_reducible exact ⟨keep3 HK5.out ZD, keep3 HK6.out ZD⟩) | (with_reducible exact ⟨keep3 HK5.out ZE, keep3 HK6.out ZE⟩) | go_keep)
        ((first
          | (go_at_call_of 46 (Value.slice Y3 d3.length e3); (with_reducible refine Calls.mono (CS3.out _) ?_); rintro e w5 ⟨rfl, b5⟩; have ZA := below_next Z1 (Nat.le_refl _) b5)
          | (go_at_call_of 45 (Value.slice X2 a2.length c2); (with_reducible refine Calls.mono (CM1.out _ ZA) ?_); rintro e w6 ⟨U1, u1, v1, rfl, hu1, hn1, hv1, t1, b6⟩; have ZB := below_next ZA (Nat.le_refl _) b6)
          | (go_at_call_of 46 (Value.slice Y2 d2.length e2); (with_reducible refine Calls.mono (CS2.out _) ?_); rintro e w7 ⟨rfl, b7⟩; have ZC := below_next ZB (Nat.le_refl _) b7)
          | (go_at_call_of 45 (Value.slice X3 a3.length c3); (with_reducible refine Calls.mono (CM2.out _ ZC) ?_); rintro e w8 ⟨U2, u2, v2, rfl, hu2, hn2, hv2, t2, b8⟩; have ZD := below_next ZC (Nat.le_refl _) b8)
          | (go_at_call 44; (with_reducible refine Calls.mono (CX.out _ u1 u2 U1 U2 v1 v2 (t1.on (b7.trans (b8.mono b7.size))) t2 hu1 hu2 hn1 hn2 hv1 hv2) ?_); rintro e w9 ⟨rfl, b9⟩; have ZE := below_next ZD (Nat.le_refl _) b9)))
      go_wp2_with fail
      go_ret
      exact ⟨rfl, HBW.out.trans (ZE.mono HBW.out.size)⟩
end Go.Proofs.YtokaapljlpngdaaGreatDoor
