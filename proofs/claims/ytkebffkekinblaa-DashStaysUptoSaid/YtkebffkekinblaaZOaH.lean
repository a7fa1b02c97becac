/- The law FracSums: sums, differences, products are the document's own. -/
import Derived.Test.YtkebffkekinblaaZOaF
import Derived.Test.YtkebffkekinblaaZOaE
import Derived.Deep.RegionWith
import Derived.Deep.RegionHeld3
import Derived.Test.YtkebffkekinblaaZWhX
import Derived.Test.YtkebffkekinblaaZOaD
import Derived.Test.YtkebffkekinblaaZFrW
namespace Go.Proofs.Ytkebffkekinblaa
open Go.RowKit Num

theorem up_lt {n : Bool} {a d : List Nat} (ha : Dg 4294967296 a) : (upN n a d).natAbs < 4294967296 ^ a.length := Nat.lt_of_le_of_lt (up_abs n a d) (val_lt ha)
theorem loD_le {d : List Nat} (hd : Dg 4294967296 d) : loD d ≤ 4294967296 ^ d.length := by
  unfold loD
  split
  · exact Nat.pow_pos (by omega)
  · exact Nat.le_of_lt (val_lt hd)
/-- how great a product of such parts is -/
theorem prod_lt {x y i j k : Nat} (hx : x < 4294967296 ^ i) (hy : y ≤ 4294967296 ^ j) (hk : i + j ≤ k) : x * y < 4294967296 ^ k := by
  refine Nat.lt_of_lt_of_le ?_ (Nat.pow_le_pow_right (n := 4294967296) (by omega) hk)
  rw [Nat.pow_add]
  have h1 : x * y ≤ x * 4294967296 ^ j := Nat.mul_le_mul_left _ hy
  have h2 : x * 4294967296 ^ j < 4294967296 ^ i * 4294967296 ^ j := Nat.mul_lt_mul_of_pos_right hx (Nat.pow_pos (by omega))
  omega
theorem prod_le {x y i j k : Nat} (hx : x ≤ 4294967296 ^ i) (hy : y ≤ 4294967296 ^ j) (hk : i + j ≤ k) : x * y ≤ 4294967296 ^ k := by
  refine Nat.le_trans ?_ (Nat.pow_le_pow_right (n := 4294967296) (by omega) hk)
  rw [Nat.pow_add]
  exact Nat.mul_le_mul hx hy
theorem lt_of_le_pow {x k m : Nat} (hx : x ≤ 4294967296 ^ k) (h : k < m) : x < 4294967296 ^ m := by
  refine Nat.lt_of_le_of_lt hx (Nat.pow_lt_pow_right (by omega) h)
theorem sum_lt {P P' : Int} {Q Q' i j k l s : Nat} (h1 : P.natAbs < 4294967296 ^ i) (h2 : P'.natAbs < 4294967296 ^ j) (h3 : Q ≤ 4294967296 ^ k) (h4 : Q' ≤ 4294967296 ^ l) (e1 : i + l ≤ s) (e2 : j + k ≤ s) : (P * (Q' : Int) + P' * (Q : Int)).natAbs < 4294967296 ^ (s + 1) := by
  have a1 := prod_lt h1 h4 e1
  have a2 := prod_lt h2 h3 e2
  have a3 := Int.natAbs_add_le (P * (Q' : Int)) (P' * (Q : Int))
  rw [Int.natAbs_mul, Int.natAbs_mul, Int.natAbs_natCast, Int.natAbs_natCast] at a3
  rw [Nat.pow_succ]
  omega
theorem sub_lt {P P' : Int} {Q Q' i j k l s : Nat} (h1 : P.natAbs < 4294967296 ^ i) (h2 : P'.natAbs < 4294967296 ^ j) (h3 : Q ≤ 4294967296 ^ k) (h4 : Q' ≤ 4294967296 ^ l) (e1 : i + l ≤ s) (e2 : j + k ≤ s) : (P * (Q' : Int) - P' * (Q : Int)).natAbs < 4294967296 ^ (s + 1) := by
  have := sum_lt (P := P) (P' := -P') h1 (by rw [Int.natAbs_neg]; exact h2) h3 h4 e1 e2
  rwa [Int.neg_mul, ← Int.sub_eq_add_neg] at this
/-- a reduced fraction of at most m words each -/
def SG (P : Int) (Q m : Nat) : Shape := fun n a ca d cd => SF P Q n a ca d cd ∧ a.length ≤ m ∧ d.length ≤ m
theorem SF.toG {P : Int} {Q m : Nat} (hP : P.natAbs < 4294967296 ^ m) (hQ : Q < 4294967296 ^ m) {n : Bool} {a d : List Nat} {ca cd : Nat} (k : SF P Q n a ca d cd) : SG P Q m n a ca d cd := by
  refine ⟨k, ?_⟩
  obtain ⟨-, -, -, h3, h4, h5, h6⟩ := k
  constructor
  · refine h3.2.length_le (b := 4294967296) (by omega) ?_
    rw [h5]; exact Nat.lt_of_le_of_lt (Nat.div_le_self _ _) hP
  · refine h4.2.length_le (b := 4294967296) (by omega) ?_
    rw [h6]; exact Nat.lt_of_le_of_lt (Nat.div_le_self _ _) hQ
theorem SG.toV {P : Int} {Q m : Nat} (hQ : 0 < Q) {n : Bool} {a d : List Nat} {ca cd : Nat} (k : SG P Q m n a ca d cd) : SV P Q m n a ca d cd := by
  have h := k.1.toV (m := P.natAbs + Q) hQ (Nat.lt_of_lt_of_le (Nat.lt_pow_self (n := P.natAbs) (by omega)) (Nat.pow_le_pow_right (by omega) (by omega))) (Nat.lt_of_lt_of_le (Nat.lt_pow_self (n := Q) (by omega)) (Nat.pow_le_pow_right (by omega) (by omega)))
  obtain ⟨h1, h2, h3, h4, h5, h6, h7⟩ := h
  exact ⟨h1, h2, h3, h4, k.2.1, k.2.2, h7⟩
theorem SG.same {P : Int} {Q m m' : Nat} {n n' : Bool} {a a' d d' : List Nat} {ca ca' cd cd' : Nat} (k : SG P Q m n a ca d cd) (k' : SG P Q m' n' a' ca' d' cd') : n = n' ∧ a = a' ∧ d = d' := SF.same k.1 k'.1
end Go.Proofs.Ytkebffkekinblaa
/- Fractions: two boxes that are allotted and stored while two calls are made. -/

namespace Go.Proofs.Ytkebffkekinblaa
open Go.RowKit Num

/-- both boxes behind the calls -/
theorem endA {W w3 : World} {t : TypeId} {A2 D2 A3 D3 : Option Addr} {a2 d2 a3 d3 : List Nat} (K : Below W.heap.size W w3) (n2 : Bool) (c2 e2 : Nat) (r2 : Rd w3 (fun g => g < w3.heap.size) .u32 A2 a2) (q2 : Rd w3 (fun g => g < w3.heap.size) .u32 D2 d2) (n3 : Bool) (c3 e3 : Nat) (r3 : Rd w3 (fun g => g < w3.heap.size) .u32 A3 a3) (q3 : Rd w3 (fun g => g < w3.heap.size) .u32 D3 d3) : Blk ((w3.alloc (.cells #[.bool n2, .slice A2 a2.length c2, .slice D2 d2.length e2] t)).alloc (.cells #[.bool n3, .slice A3 a3.length c3, .slice D3 d3.length e3] t)) w3.heap.size t [.bool n2, .slice A2 a2.length c2, .slice D2 d2.length e2] ∧ Blk ((w3.alloc (.cells #[.bool n2, .slice A2 a2.length c2, .slice D2 d2.length e2] t)).alloc (.cells #[.bool n3, .slice A3 a3.length c3, .slice D3 d3.length e3] t)) (w3.heap.size + 1) t [.bool n3, .slice A3 a3.length c3, .slice D3 d3.length e3] ∧ (Rd ((w3.alloc (.cells #[.bool n2, .slice A2 a2.length c2, .slice D2 d2.length e2] t)).alloc (.cells #[.bool n3, .slice A3 a3.length c3, .slice D3 d3.length e3] t)) (fun b => b < (((w3.alloc (.cells #[.bool n2, .slice A2 a2.length c2, .slice D2 d2.length e2] t)).alloc (.cells #[.bool n3, .slice A3 a3.length c3, .slice D3 d3.length e3] t))).heap.size) .u32 A2 a2 ∧ Rd ((w3.alloc (.cells #[.bool n2, .slice A2 a2.length c2, .slice D2 d2.length e2] t)).alloc (.cells #[.bool n3, .slice A3 a3.length c3, .slice D3 d3.length e3] t)) (fun b => b < (((w3.alloc (.cells #[.bool n2, .slice A2 a2.length c2, .slice D2 d2.length e2] t)).alloc (.cells #[.bool n3, .slice A3 a3.length c3, .slice D3 d3.length e3] t))).heap.size) .u32 D2 d2) ∧ (Rd ((w3.alloc (.cells #[.bool n2, .slice A2 a2.length c2, .slice D2 d2.length e2] t)).alloc (.cells #[.bool n3, .slice A3 a3.length c3, .slice D3 d3.length e3] t)) (fun b => b < (((w3.alloc (.cells #[.bool n2, .slice A2 a2.length c2, .slice D2 d2.length e2] t)).alloc (.cells #[.bool n3, .slice A3 a3.length c3, .slice D3 d3.length e3] t))).heap.size) .u32 A3 a3 ∧ Rd ((w3.alloc (.cells #[.bool n2, .slice A2 a2.length c2, .slice D2 d2.length e2] t)).alloc (.cells #[.bool n3, .slice A3 a3.length c3, .slice D3 d3.length e3] t)) (fun b => b < (((w3.alloc (.cells #[.bool n2, .slice A2 a2.length c2, .slice D2 d2.length e2] t)).alloc (.cells #[.bool n3, .slice A3 a3.length c3, .slice D3 d3.length e3] t))).heap.size) .u32 D3 d3) ∧ Below W.heap.size W ((w3.alloc (.cells #[.bool n2, .slice A2 a2.length c2, .slice D2 d2.length e2] t)).alloc (.cells #[.bool n3, .slice A3 a3.length c3, .slice D3 d3.length e3] t)) := by
  have b1 := below_new w3 (.cells #[.bool n2, .slice A2 a2.length c2, .slice D2 d2.length e2] t)
  have b2 := below_new (w3.alloc (.cells #[.bool n2, .slice A2 a2.length c2, .slice D2 d2.length e2] t)) (.cells #[.bool n3, .slice A3 a3.length c3, .slice D3 d3.length e3] t)
  exact ⟨(Blk.new w3 t _).alloc _, Blk.at_new (w3.alloc (.cells #[.bool n2, .slice A2 a2.length c2, .slice D2 d2.length e2] t)) t [.bool n3, .slice A3 a3.length c3, .slice D3 d3.length e3] (by simp), ⟨(r2.on b1).on b2, (q2.on b1).on b2⟩, ⟨(r3.on b1).on b2, (q3.on b1).on b2⟩, keep_two K _ _⟩
theorem endA' {W w3 : World} {t : TypeId} {A2 D2 A3 D3 : Option Addr} {a2 d2 a3 d3 : List Nat} (K : Below W.heap.size W w3) (n2 : Bool) (c2 e2 : Nat) (r2 : Rd w3 (fun g => g < w3.heap.size) .u32 A2 a2) (q2 : Rd w3 (fun g => g < w3.heap.size) .u32 D2 d2) (n3 : Bool) (c3 e3 : Nat) (r3 : Rd w3 (fun g => g < w3.heap.size) .u32 A3 a3) (q3 : Rd w3 (fun g => g < w3.heap.size) .u32 D3 d3) : Blk ((w3.alloc (.cells #[.bool n3, .slice A3 a3.length c3, .slice D3 d3.length e3] t)).alloc (.cells #[.bool n2, .slice A2 a2.length c2, .slice D2 d2.length e2] t)) (w3.heap.size + 1) t [.bool n2, .slice A2 a2.length c2, .slice D2 d2.length e2] ∧ Blk ((w3.alloc (.cells #[.bool n3, .slice A3 a3.length c3, .slice D3 d3.length e3] t)).alloc (.cells #[.bool n2, .slice A2 a2.length c2, .slice D2 d2.length e2] t)) w3.heap.size t [.bool n3, .slice A3 a3.length c3, .slice D3 d3.length e3] ∧ (Rd ((w3.alloc (.cells #[.bool n3, .slice A3 a3.length c3, .slice D3 d3.length e3] t)).alloc (.cells #[.bool n2, .slice A2 a2.length c2, .slice D2 d2.length e2] t)) (fun b => b < (((w3.alloc (.cells #[.bool n3, .slice A3 a3.length c3, .slice D3 d3.length e3] t)).alloc (.cells #[.bool n2, .slice A2 a2.length c2, .slice D2 d2.length e2] t))).heap.size) .u32 A2 a2 ∧ Rd ((w3.alloc (.cells #[.bool n3, .slice A3 a3.length c3, .slice D3 d3.length e3] t)).alloc (.cells #[.bool n2, .slice A2 a2.length c2, .slice D2 d2.length e2] t)) (fun b => b < (((w3.alloc (.cells #[.bool n3, .slice A3 a3.length c3, .slice D3 d3.length e3] t)).alloc (.cells #[.bool n2, .slice A2 a2.length c2, .slice D2 d2.length e2] t))).heap.size) .u32 D2 d2) ∧ (Rd ((w3.alloc (.cells #[.bool n3, .slice A3 a3.length c3, .slice D3 d3.length e3] t)).alloc (.cells #[.bool n2, .slice A2 a2.length c2, .slice D2 d2.length e2] t)) (fun b => b < (((w3.alloc (.cells #[.bool n3, .slice A3 a3.length c3, .slice D3 d3.length e3] t)).alloc (.cells #[.bool n2, .slice A2 a2.length c2, .slice D2 d2.length e2] t))).heap.size) .u32 A3 a3 ∧ Rd ((w3.alloc (.cells #[.bool n3, .slice A3 a3.length c3, .slice D3 d3.length e3] t)).alloc (.cells #[.bool n2, .slice A2 a2.length c2, .slice D2 d2.length e2] t)) (fun b => b < (((w3.alloc (.cells #[.bool n3, .slice A3 a3.length c3, .slice D3 d3.length e3] t)).alloc (.cells #[.bool n2, .slice A2 a2.length c2, .slice D2 d2.length e2] t))).heap.size) .u32 D3 d3) ∧ Below W.heap.size W ((w3.alloc (.cells #[.bool n3, .slice A3 a3.length c3, .slice D3 d3.length e3] t)).alloc (.cells #[.bool n2, .slice A2 a2.length c2, .slice D2 d2.length e2] t)) := by
  have b1 := below_new w3 (.cells #[.bool n3, .slice A3 a3.length c3, .slice D3 d3.length e3] t)
  have b2 := below_new (w3.alloc (.cells #[.bool n3, .slice A3 a3.length c3, .slice D3 d3.length e3] t)) (.cells #[.bool n2, .slice A2 a2.length c2, .slice D2 d2.length e2] t)
  exact ⟨Blk.at_new (w3.alloc (.cells #[.bool n3, .slice A3 a3.length c3, .slice D3 d3.length e3] t)) t [.bool n2, .slice A2 a2.length c2, .slice D2 d2.length e2] (by simp), (Blk.new w3 t _).alloc _, ⟨(r2.on b1).on b2, (q2.on b1).on b2⟩, ⟨(r3.on b1).on b2, (q3.on b1).on b2⟩, keep_two K _ _⟩
theorem endB {W w3 : World} {t : TypeId} {A2 D2 A3 D3 : Option Addr} {a2 d2 a3 d3 : List Nat} {g : Nat} (k : Blk w3 g t [.bool false, .slice none 0 0, .slice none 0 0]) (hg : W.heap.size ≤ g) (K : Below W.heap.size W w3) (n2 : Bool) (c2 e2 : Nat) (r2 : Rd w3 (fun g => g < w3.heap.size) .u32 A2 a2) (q2 : Rd w3 (fun g => g < w3.heap.size) .u32 D2 d2) (n3 : Bool) (c3 e3 : Nat) (r3 : Rd w3 (fun g => g < w3.heap.size) .u32 A3 a3) (q3 : Rd w3 (fun g => g < w3.heap.size) .u32 D3 d3) : Blk ((((w3.setCell ⟨g, 0, none⟩ (.bool n2)).setCell ⟨g, 1, none⟩ (.slice A2 a2.length c2)).setCell ⟨g, 2, none⟩ (.slice D2 d2.length e2)).alloc (.cells #[.bool n3, .slice A3 a3.length c3, .slice D3 d3.length e3] t)) g t [.bool n2, .slice A2 a2.length c2, .slice D2 d2.length e2] ∧ Blk ((((w3.setCell ⟨g, 0, none⟩ (.bool n2)).setCell ⟨g, 1, none⟩ (.slice A2 a2.length c2)).setCell ⟨g, 2, none⟩ (.slice D2 d2.length e2)).alloc (.cells #[.bool n3, .slice A3 a3.length c3, .slice D3 d3.length e3] t)) w3.heap.size t [.bool n3, .slice A3 a3.length c3, .slice D3 d3.length e3] ∧ (Rd ((((w3.setCell ⟨g, 0, none⟩ (.bool n2)).setCell ⟨g, 1, none⟩ (.slice A2 a2.length c2)).setCell ⟨g, 2, none⟩ (.slice D2 d2.length e2)).alloc (.cells #[.bool n3, .slice A3 a3.length c3, .slice D3 d3.length e3] t)) (fun b => b < (((((w3.setCell ⟨g, 0, none⟩ (.bool n2)).setCell ⟨g, 1, none⟩ (.slice A2 a2.length c2)).setCell ⟨g, 2, none⟩ (.slice D2 d2.length e2)).alloc (.cells #[.bool n3, .slice A3 a3.length c3, .slice D3 d3.length e3] t))).heap.size) .u32 A2 a2 ∧ Rd ((((w3.setCell ⟨g, 0, none⟩ (.bool n2)).setCell ⟨g, 1, none⟩ (.slice A2 a2.length c2)).setCell ⟨g, 2, none⟩ (.slice D2 d2.length e2)).alloc (.cells #[.bool n3, .slice A3 a3.length c3, .slice D3 d3.length e3] t)) (fun b => b < (((((w3.setCell ⟨g, 0, none⟩ (.bool n2)).setCell ⟨g, 1, none⟩ (.slice A2 a2.length c2)).setCell ⟨g, 2, none⟩ (.slice D2 d2.length e2)).alloc (.cells #[.bool n3, .slice A3 a3.length c3, .slice D3 d3.length e3] t))).heap.size) .u32 D2 d2) ∧ (Rd ((((w3.setCell ⟨g, 0, none⟩ (.bool n2)).setCell ⟨g, 1, none⟩ (.slice A2 a2.length c2)).setCell ⟨g, 2, none⟩ (.slice D2 d2.length e2)).alloc (.cells #[.bool n3, .slice A3 a3.length c3, .slice D3 d3.length e3] t)) (fun b => b < (((((w3.setCell ⟨g, 0, none⟩ (.bool n2)).setCell ⟨g, 1, none⟩ (.slice A2 a2.length c2)).setCell ⟨g, 2, none⟩ (.slice D2 d2.length e2)).alloc (.cells #[.bool n3, .slice A3 a3.length c3, .slice D3 d3.length e3] t))).heap.size) .u32 A3 a3 ∧ Rd ((((w3.setCell ⟨g, 0, none⟩ (.bool n2)).setCell ⟨g, 1, none⟩ (.slice A2 a2.length c2)).setCell ⟨g, 2, none⟩ (.slice D2 d2.length e2)).alloc (.cells #[.bool n3, .slice A3 a3.length c3, .slice D3 d3.length e3] t)) (fun b => b < (((((w3.setCell ⟨g, 0, none⟩ (.bool n2)).setCell ⟨g, 1, none⟩ (.slice A2 a2.length c2)).setCell ⟨g, 2, none⟩ (.slice D2 d2.length e2)).alloc (.cells #[.bool n3, .slice A3 a3.length c3, .slice D3 d3.length e3] t))).heap.size) .u32 D3 d3) ∧ Below W.heap.size W ((((w3.setCell ⟨g, 0, none⟩ (.bool n2)).setCell ⟨g, 1, none⟩ (.slice A2 a2.length c2)).setCell ⟨g, 2, none⟩ (.slice D2 d2.length e2)).alloc (.cells #[.bool n3, .slice A3 a3.length c3, .slice D3 d3.length e3] t)) := by
  have b2 := below_new (((w3.setCell ⟨g, 0, none⟩ (.bool n2)).setCell ⟨g, 1, none⟩ (.slice A2 a2.length c2)).setCell ⟨g, 2, none⟩ (.slice D2 d2.length e2)) (.cells #[.bool n3, .slice A3 a3.length c3, .slice D3 d3.length e3] t)
  exact ⟨(k.trip _ _ _).alloc _, Blk.at_new (((w3.setCell ⟨g, 0, none⟩ (.bool n2)).setCell ⟨g, 1, none⟩ (.slice A2 a2.length c2)).setCell ⟨g, 2, none⟩ (.slice D2 d2.length e2)) t [.bool n3, .slice A3 a3.length c3, .slice D3 d3.length e3] (by simp [World.setCell]), ⟨(r2.trip k _ _ _).on b2, (q2.trip k _ _ _).on b2⟩, ⟨(r3.trip k _ _ _).on b2, (q3.trip k _ _ _).on b2⟩, keep_one (((K.setCell hg _).setCell hg _).setCell hg _) _⟩
theorem endB' {W w3 : World} {t : TypeId} {A2 D2 A3 D3 : Option Addr} {a2 d2 a3 d3 : List Nat} {g : Nat} (k : Blk w3 g t [.bool false, .slice none 0 0, .slice none 0 0]) (hg : W.heap.size ≤ g) (K : Below W.heap.size W w3) (n2 : Bool) (c2 e2 : Nat) (r2 : Rd w3 (fun g => g < w3.heap.size) .u32 A2 a2) (q2 : Rd w3 (fun g => g < w3.heap.size) .u32 D2 d2) (n3 : Bool) (c3 e3 : Nat) (r3 : Rd w3 (fun g => g < w3.heap.size) .u32 A3 a3) (q3 : Rd w3 (fun g => g < w3.heap.size) .u32 D3 d3) : Blk ((((w3.setCell ⟨g, 0, none⟩ (.bool n3)).setCell ⟨g, 1, none⟩ (.slice A3 a3.length c3)).setCell ⟨g, 2, none⟩ (.slice D3 d3.length e3)).alloc (.cells #[.bool n2, .slice A2 a2.length c2, .slice D2 d2.length e2] t)) w3.heap.size t [.bool n2, .slice A2 a2.length c2, .slice D2 d2.length e2] ∧ Blk ((((w3.setCell ⟨g, 0, none⟩ (.bool n3)).setCell ⟨g, 1, none⟩ (.slice A3 a3.length c3)).setCell ⟨g, 2, none⟩ (.slice D3 d3.length e3)).alloc (.cells #[.bool n2, .slice A2 a2.length c2, .slice D2 d2.length e2] t)) g t [.bool n3, .slice A3 a3.length c3, .slice D3 d3.length e3] ∧ (Rd ((((w3.setCell ⟨g, 0, none⟩ (.bool n3)).setCell ⟨g, 1, none⟩ (.slice A3 a3.length c3)).setCell ⟨g, 2, none⟩ (.slice D3 d3.length e3)).alloc (.cells #[.bool n2, .slice A2 a2.length c2, .slice D2 d2.length e2] t)) (fun b => b < (((((w3.setCell ⟨g, 0, none⟩ (.bool n3)).setCell ⟨g, 1, none⟩ (.slice A3 a3.length c3)).setCell ⟨g, 2, none⟩ (.slice D3 d3.length e3)).alloc (.cells #[.bool n2, .slice A2 a2.length c2, .slice D2 d2.length e2] t))).heap.size) .u32 A2 a2 ∧ Rd ((((w3.setCell ⟨g, 0, none⟩ (.bool n3)).setCell ⟨g, 1, none⟩ (.slice A3 a3.length c3)).setCell ⟨g, 2, none⟩ (.slice D3 d3.length e3)).alloc (.cells #[.bool n2, .slice A2 a2.length c2, .slice D2 d2.length e2] t)) (fun b => b < (((((w3.setCell ⟨g, 0, none⟩ (.bool n3)).setCell ⟨g, 1, none⟩ (.slice A3 a3.length c3)).setCell ⟨g, 2, none⟩ (.slice D3 d3.length e3)).alloc (.cells #[.bool n2, .slice A2 a2.length c2, .slice D2 d2.length e2] t))).heap.size) .u32 D2 d2) ∧ (Rd ((((w3.setCell ⟨g, 0, none⟩ (.bool n3)).setCell ⟨g, 1, none⟩ (.slice A3 a3.length c3)).setCell ⟨g, 2, none⟩ (.slice D3 d3.length e3)).alloc (.cells #[.bool n2, .slice A2 a2.length c2, .slice D2 d2.length e2] t)) (fun b => b < (((((w3.setCell ⟨g, 0, none⟩ (.bool n3)).setCell ⟨g, 1, none⟩ (.slice A3 a3.length c3)).setCell ⟨g, 2, none⟩ (.slice D3 d3.length e3)).alloc (.cells #[.bool n2, .slice A2 a2.length c2, .slice D2 d2.length e2] t))).heap.size) .u32 A3 a3 ∧ Rd ((((w3.setCell ⟨g, 0, none⟩ (.bool n3)).setCell ⟨g, 1, none⟩ (.slice A3 a3.length c3)).setCell ⟨g, 2, none⟩ (.slice D3 d3.length e3)).alloc (.cells #[.bool n2, .slice A2 a2.length c2, .slice D2 d2.length e2] t)) (fun b => b < (((((w3.setCell ⟨g, 0, none⟩ (.bool n3)).setCell ⟨g, 1, none⟩ (.slice A3 a3.length c3)).setCell ⟨g, 2, none⟩ (.slice D3 d3.length e3)).alloc (.cells #[.bool n2, .slice A2 a2.length c2, .slice D2 d2.length e2] t))).heap.size) .u32 D3 d3) ∧ Below W.heap.size W ((((w3.setCell ⟨g, 0, none⟩ (.bool n3)).setCell ⟨g, 1, none⟩ (.slice A3 a3.length c3)).setCell ⟨g, 2, none⟩ (.slice D3 d3.length e3)).alloc (.cells #[.bool n2, .slice A2 a2.length c2, .slice D2 d2.length e2] t)) := by
  have b2 := below_new (((w3.setCell ⟨g, 0, none⟩ (.bool n3)).setCell ⟨g, 1, none⟩ (.slice A3 a3.length c3)).setCell ⟨g, 2, none⟩ (.slice D3 d3.length e3)) (.cells #[.bool n2, .slice A2 a2.length c2, .slice D2 d2.length e2] t)
  exact ⟨Blk.at_new (((w3.setCell ⟨g, 0, none⟩ (.bool n3)).setCell ⟨g, 1, none⟩ (.slice A3 a3.length c3)).setCell ⟨g, 2, none⟩ (.slice D3 d3.length e3)) t [.bool n2, .slice A2 a2.length c2, .slice D2 d2.length e2] (by simp [World.setCell]), (k.trip _ _ _).alloc _, ⟨(r2.trip k _ _ _).on b2, (q2.trip k _ _ _).on b2⟩, ⟨(r3.trip k _ _ _).on b2, (q3.trip k _ _ _).on b2⟩, keep_one (((K.setCell hg _).setCell hg _).setCell hg _) _⟩
theorem endC {W w3 : World} {t : TypeId} {A2 D2 A3 D3 : Option Addr} {a2 d2 a3 d3 : List Nat} {g g' : Nat} (k : Blk w3 g t [.bool false, .slice none 0 0, .slice none 0 0]) (k' : Blk w3 g' t [.bool false, .slice none 0 0, .slice none 0 0]) (hne : g ≠ g') (hg : W.heap.size ≤ g) (hg' : W.heap.size ≤ g') (K : Below W.heap.size W w3) (n2 : Bool) (c2 e2 : Nat) (r2 : Rd w3 (fun g => g < w3.heap.size) .u32 A2 a2) (q2 : Rd w3 (fun g => g < w3.heap.size) .u32 D2 d2) (n3 : Bool) (c3 e3 : Nat) (r3 : Rd w3 (fun g => g < w3.heap.size) .u32 A3 a3) (q3 : Rd w3 (fun g => g < w3.heap.size) .u32 D3 d3) : Blk ((((((w3.setCell ⟨g, 0, none⟩ (.bool n2)).setCell ⟨g, 1, none⟩ (.slice A2 a2.length c2)).setCell ⟨g, 2, none⟩ (.slice D2 d2.length e2)).setCell ⟨g', 0, none⟩ (.bool n3)).setCell ⟨g', 1, none⟩ (.slice A3 a3.length c3)).setCell ⟨g', 2, none⟩ (.slice D3 d3.length e3)) g t [.bool n2, .slice A2 a2.length c2, .slice D2 d2.length e2] ∧ Blk ((((((w3.setCell ⟨g, 0, none⟩ (.bool n2)).setCell ⟨g, 1, none⟩ (.slice A2 a2.length c2)).setCell ⟨g, 2, none⟩ (.slice D2 d2.length e2)).setCell ⟨g', 0, none⟩ (.bool n3)).setCell ⟨g', 1, none⟩ (.slice A3 a3.length c3)).setCell ⟨g', 2, none⟩ (.slice D3 d3.length e3)) g' t [.bool n3, .slice A3 a3.length c3, .slice D3 d3.length e3] ∧ (Rd ((((((w3.setCell ⟨g, 0, none⟩ (.bool n2)).setCell ⟨g, 1, none⟩ (.slice A2 a2.length c2)).setCell ⟨g, 2, none⟩ (.slice D2 d2.length e2)).setCell ⟨g', 0, none⟩ (.bool n3)).setCell ⟨g', 1, none⟩ (.slice A3 a3.length c3)).setCell ⟨g', 2, none⟩ (.slice D3 d3.length e3)) (fun b => b < (((((((w3.setCell ⟨g, 0, none⟩ (.bool n2)).setCell ⟨g, 1, none⟩ (.slice A2 a2.length c2)).setCell ⟨g, 2, none⟩ (.slice D2 d2.length e2)).setCell ⟨g', 0, none⟩ (.bool n3)).setCell ⟨g', 1, none⟩ (.slice A3 a3.length c3)).setCell ⟨g', 2, none⟩ (.slice D3 d3.length e3))).heap.size) .u32 A2 a2 ∧ Rd ((((((w3.setCell ⟨g, 0, none⟩ (.bool n2)).setCell ⟨g, 1, none⟩ (.slice A2 a2.length c2)).setCell ⟨g, 2, none⟩ (.slice D2 d2.length e2)).setCell ⟨g', 0, none⟩ (.bool n3)).setCell ⟨g', 1, none⟩ (.slice A3 a3.length c3)).setCell ⟨g', 2, none⟩ (.slice D3 d3.length e3)) (fun b => b < (((((((w3.setCell ⟨g, 0, none⟩ (.bool n2)).setCell ⟨g, 1, none⟩ (.slice A2 a2.length c2)).setCell ⟨g, 2, none⟩ (.slice D2 d2.length e2)).setCell ⟨g', 0, none⟩ (.bool n3)).setCell ⟨g', 1, none⟩ (.slice A3 a3.length c3)).setCell ⟨g', 2, none⟩ (.slice D3 d3.length e3))).heap.size) .u32 D2 d2) ∧ (Rd ((((((w3.setCell ⟨g, 0, none⟩ (.bool n2)).setCell ⟨g, 1, none⟩ (.slice A2 a2.length c2)).setCell ⟨g, 2, none⟩ (.slice D2 d2.length e2)).setCell ⟨g', 0, none⟩ (.bool n3)).setCell ⟨g', 1, none⟩ (.slice A3 a3.length c3)).setCell ⟨g', 2, none⟩ (.slice D3 d3.length e3)) (fun b => b < (((((((w3.setCell ⟨g, 0, none⟩ (.bool n2)).setCell ⟨g, 1, none⟩ (.slice A2 a2.length c2)).setCell ⟨g, 2, none⟩ (.slice D2 d2.length e2)).setCell ⟨g', 0, none⟩ (.bool n3)).setCell ⟨g', 1, none⟩ (.slice A3 a3.length c3)).setCell ⟨g', 2, none⟩ (.slice D3 d3.length e3))).heap.size) .u32 A3 a3 ∧ Rd ((((((w3.setCell ⟨g, 0, none⟩ (.bool n2)).setCell ⟨g, 1, none⟩ (.slice A2 a2.length c2)).setCell ⟨g, 2, none⟩ (.slice D2 d2.length e2)).setCell ⟨g', 0, none⟩ (.bool n3)).setCell ⟨g', 1, none⟩ (.slice A3 a3.length c3)).setCell ⟨g', 2, none⟩ (.slice D3 d3.length e3)) (fun b => b < (((((((w3.setCell ⟨g, 0, none⟩ (.bool n2)).setCell ⟨g, 1, none⟩ (.slice A2 a2.length c2)).setCell ⟨g, 2, none⟩ (.slice D2 d2.length e2)).setCell ⟨g', 0, none⟩ (.bool n3)).setCell ⟨g', 1, none⟩ (.slice A3 a3.length c3)).setCell ⟨g', 2, none⟩ (.slice D3 d3.length e3))).heap.size) .u32 D3 d3) ∧ Below W.heap.size W ((((((w3.setCell ⟨g, 0, none⟩ (.bool n2)).setCell ⟨g, 1, none⟩ (.slice A2 a2.length c2)).setCell ⟨g, 2, none⟩ (.slice D2 d2.length e2)).setCell ⟨g', 0, none⟩ (.bool n3)).setCell ⟨g', 1, none⟩ (.slice A3 a3.length c3)).setCell ⟨g', 2, none⟩ (.slice D3 d3.length e3)) := by
  have K1 := k.trip (.bool n2) (.slice A2 a2.length c2) (.slice D2 d2.length e2)
  have K2 := ((k'.far (p := ⟨g, 0, none⟩) (Ne.symm hne) (.bool n2)).far (p := ⟨g, 1, none⟩) (Ne.symm hne) (.slice A2 a2.length c2)).far (p := ⟨g, 2, none⟩) (Ne.symm hne) (.slice D2 d2.length e2)
  exact ⟨((K1.far (p := ⟨g', 0, none⟩) hne _).far (p := ⟨g', 1, none⟩) hne _).far (p := ⟨g', 2, none⟩) hne _, K2.trip _ _ _, ⟨(r2.trip k _ _ _).trip K2 _ _ _, (q2.trip k _ _ _).trip K2 _ _ _⟩, ⟨(r3.trip k _ _ _).trip K2 _ _ _, (q3.trip k _ _ _).trip K2 _ _ _⟩, (((((K.setCell hg _).setCell hg _).setCell hg _).setCell hg' _).setCell hg' _).setCell hg' _⟩

end Go.Proofs.Ytkebffkekinblaa
/- Fractions: what the program's own Sign, Cmp and Whole answer. -/

namespace Go.Proofs.Ytkebffkekinblaa
open Go.RowKit Num

end Go.Proofs.Ytkebffkekinblaa
/- Spots: boxes of six cells, shapes of what is handed in and out. -/

namespace Go.Proofs.Ytkebffkekinblaa
open Go.RowKit Num

/-- a cell's facts of six -/
theorem Blk.facts6 {w : World} {g : Nat} {t : TypeId} {a0 a1 a2 a3 a4 a5 : Value} (h : Blk w g t [a0, a1, a2, a3, a4, a5]) : (w.cell? ⟨g, 0, none⟩ = some a0 ∧ w.cell? ⟨g, 1, none⟩ = some a1 ∧ w.cell? ⟨g, 2, none⟩ = some a2 ∧ w.cell? ⟨g, 3, none⟩ = some a3 ∧ w.cell? ⟨g, 4, none⟩ = some a4 ∧ w.cell? ⟨g, 5, none⟩ = some a5) ∧ (w.frozen? ⟨g, 0, none⟩ = false ∧ w.frozen? ⟨g, 1, none⟩ = false ∧ w.frozen? ⟨g, 2, none⟩ = false ∧ w.frozen? ⟨g, 3, none⟩ = false ∧ w.frozen? ⟨g, 4, none⟩ = false ∧ w.frozen? ⟨g, 5, none⟩ = false) :=
  ⟨⟨h.cell 0 rfl, h.cell 1 rfl, h.cell 2 rfl, h.cell 3 rfl, h.cell 4 rfl, h.cell 5 rfl⟩, h.frozen 0, h.frozen 1, h.frozen 2, h.frozen 3, h.frozen 4, h.frozen 5⟩
theorem kept6 {W V : World} {g : Nat} {t : TypeId} {a0 a1 a2 a3 a4 a5 : Value} (k : Blk W g t [a0, a1, a2, a3, a4, a5]) (hb : Below W.heap.size W V) : V.cell? ⟨g, 0, none⟩ = some a0 ∧ V.cell? ⟨g, 1, none⟩ = some a1 ∧ V.cell? ⟨g, 2, none⟩ = some a2 ∧ V.cell? ⟨g, 3, none⟩ = some a3 ∧ V.cell? ⟨g, 4, none⟩ = some a4 ∧ V.cell? ⟨g, 5, none⟩ = some a5 := (k.on hb).facts6.1
/-- words that are read stay when a block's cells are stored that holds no integers -/
theorem Num.Rd.off {w U : World} {g : Nat} {t : TypeId} {vs : List Value} {k : IntKind} {A : Option Addr} {xs : List Nat} (h : Rd w (fun g => g < w.heap.size) k A xs) (f : Blk w g t vs) (hv : ∀ v ∈ vs, ∀ kk n, v ≠ .int kk n) (hU : ∀ b, b ≠ g → U.heap[b]? = w.heap[b]?) (hs : w.heap.size ≤ U.heap.size) : Rd U (fun g => g < U.heap.size) k A xs := fun hn => by
  obtain ⟨b, o, e, hb, hc⟩ := h hn
  have hne : b ≠ g := by
    rintro rfl
    have h0 := hc 0 hn
    rw [cell_of_row _ _ _ _ _ _ f] at h0
    have hm : (Value.int k (xs[0] : Int)) ∈ vs := by
      have := List.mem_of_getElem? (by simpa using h0 : vs[o]? = some (Value.int k (xs[0] : Int)))
      exact this
    exact hv _ hm _ _ rfl
  refine ⟨b, o, e, Nat.lt_of_lt_of_le hb hs, fun j hj => ?_⟩
  rw [← hc j hj]
  exact World.cell?_of_block (hU b hne)
theorem heap_six (w : World) (g : Nat) (u0 u1 u2 u3 u4 u5 : Value) (b : Nat) (hb : b ≠ g) : ((((((w.setCell ⟨g, 0, none⟩ u0).setCell ⟨g, 1, none⟩ u1).setCell ⟨g, 2, none⟩ u2).setCell ⟨g, 3, none⟩ u3).setCell ⟨g, 4, none⟩ u4).setCell ⟨g, 5, none⟩ u5).heap[b]? = w.heap[b]? :=
  (Below.heap_setCell _ _ u5 b hb).trans ((Below.heap_setCell _ _ u4 b hb).trans ((Below.heap_setCell _ _ u3 b hb).trans ((Below.heap_setCell _ _ u2 b hb).trans ((Below.heap_setCell _ _ u1 b hb).trans (Below.heap_setCell _ _ u0 b hb)))))
theorem Blk.six {w : World} {g : Nat} {t : TypeId} {a0 a1 a2 a3 a4 a5 : Value} (h : Blk w g t [a0, a1, a2, a3, a4, a5]) (u0 u1 u2 u3 u4 u5 : Value) : Blk ((((((w.setCell ⟨g, 0, none⟩ u0).setCell ⟨g, 1, none⟩ u1).setCell ⟨g, 2, none⟩ u2).setCell ⟨g, 3, none⟩ u3).setCell ⟨g, 4, none⟩ u4).setCell ⟨g, 5, none⟩ u5) g t [u0, u1, u2, u3, u4, u5] :=
  (((((h.set 0 u0).set 1 u1).set 2 u2).set 3 u3).set 4 u4).set 5 u5
theorem size_six (w : World) (g : Nat) (u0 u1 u2 u3 u4 u5 : Value) : ((((((w.setCell ⟨g, 0, none⟩ u0).setCell ⟨g, 1, none⟩ u1).setCell ⟨g, 2, none⟩ u2).setCell ⟨g, 3, none⟩ u3).setCell ⟨g, 4, none⟩ u4).setCell ⟨g, 5, none⟩ u5).heap.size = w.heap.size := by simp [World.setCell]
theorem below_six {B : Nat} {a w : World} (h : Below B a w) {g : Nat} (hg : B ≤ g) (u0 u1 u2 u3 u4 u5 : Value) : Below B a ((((((w.setCell ⟨g, 0, none⟩ u0).setCell ⟨g, 1, none⟩ u1).setCell ⟨g, 2, none⟩ u2).setCell ⟨g, 3, none⟩ u3).setCell ⟨g, 4, none⟩ u4).setCell ⟨g, 5, none⟩ u5) :=
  (((((h.setCell (p := ⟨g, 0, none⟩) hg u0).setCell (p := ⟨g, 1, none⟩) hg u1).setCell (p := ⟨g, 2, none⟩) hg u2).setCell (p := ⟨g, 3, none⟩) hg u3).setCell (p := ⟨g, 4, none⟩) hg u4).setCell (p := ⟨g, 5, none⟩) hg u5
theorem no_ints {x y : Bool} {p q r s : Option Addr} {i0 i1 i2 i3 i4 i5 i6 i7 : Nat} : ∀ v ∈ [Value.bool x, .slice p i0 i1, .slice q i2 i3, .bool y, .slice r i4 i5, .slice s i6 i7], ∀ kk n, v ≠ .int kk n := by
  intro v hv kk n h
  subst h
  simp at hv
theorem Num.Rd.six {w : World} {g : Nat} {t : TypeId} {x y : Bool} {p q r s : Option Addr} {i0 i1 i2 i3 i4 i5 i6 i7 : Nat} {k : IntKind} {A : Option Addr} {xs : List Nat} (h : Rd w (fun g => g < w.heap.size) k A xs) (f : Blk w g t [.bool x, .slice p i0 i1, .slice q i2 i3, .bool y, .slice r i4 i5, .slice s i6 i7]) (u0 u1 u2 u3 u4 u5 : Value) : Rd ((((((w.setCell ⟨g, 0, none⟩ u0).setCell ⟨g, 1, none⟩ u1).setCell ⟨g, 2, none⟩ u2).setCell ⟨g, 3, none⟩ u3).setCell ⟨g, 4, none⟩ u4).setCell ⟨g, 5, none⟩ u5) (fun b => b < ((((((w.setCell ⟨g, 0, none⟩ u0).setCell ⟨g, 1, none⟩ u1).setCell ⟨g, 2, none⟩ u2).setCell ⟨g, 3, none⟩ u3).setCell ⟨g, 4, none⟩ u4).setCell ⟨g, 5, none⟩ u5).heap.size) k A xs :=
  h.off f no_ints (fun b hb => heap_six w g u0 u1 u2 u3 u4 u5 b hb) (Nat.le_of_eq (size_six w g u0 u1 u2 u3 u4 u5).symm)

/-- a spot that a call hands back -/
def Gs (S T : Shape) (w : World) (e : Ending) (w' : World) : Prop :=
  ∃ n1 a1 A1 c1 d1 D1 e1 n2 a2 A2 c2 d2 D2 e2, e = .returned (.agg #[.bool n1, .slice A1 a1.length c1, .slice D1 d1.length e1, .bool n2, .slice A2 a2.length c2, .slice D2 d2.length e2]) ∧ (S n1 a1 c1 d1 e1 ∧ T n2 a2 c2 d2 e2) ∧
    (Rd w' (fun g => g < w'.heap.size) .u32 A1 a1 ∧ Rd w' (fun g => g < w'.heap.size) .u32 D1 d1) ∧ (Rd w' (fun g => g < w'.heap.size) .u32 A2 a2 ∧ Rd w' (fun g => g < w'.heap.size) .u32 D2 d2) ∧ Below w.heap.size w w'
theorem Gs.imp {S T S' T' : Shape} {w w' : World} {e : Ending} (hs : ∀ n a ca d cd, S n a ca d cd → S' n a ca d cd) (ht : ∀ n a ca d cd, T n a ca d cd → T' n a ca d cd) (h : Gs S T w e w') : Gs S' T' w e w' := by
  obtain ⟨n1, a1, A1, c1, d1, D1, e1, n2, a2, A2, c2, d2, D2, e2, rfl, h1, h2⟩ := h
  exact ⟨n1, a1, A1, c1, d1, D1, e1, n2, a2, A2, c2, d2, D2, e2, rfl, ⟨hs _ _ _ _ _ h1.1, ht _ _ _ _ _ h1.2⟩, h2⟩
/-- a spot stored where the result lies -/
theorem fin_spot {w v : World} {g : Nat} {t : TypeId} (k : Blk v g t [.bool false, .slice none 0 0, .slice none 0 0, .bool false, .slice none 0 0, .slice none 0 0]) (hg : w.heap.size ≤ g) (B : Below w.heap.size w v) {S T : Shape} {n1 n2 : Bool} {A1 D1 A2 D2 : Option Addr} {a1 d1 a2 d2 : List Nat} {c1 e1 c2 e2 : Nat} (hs : S n1 a1 c1 d1 e1) (ht : T n2 a2 c2 d2 e2) (r1 : Rd v (fun g => g < v.heap.size) .u32 A1 a1) (q1 : Rd v (fun g => g < v.heap.size) .u32 D1 d1) (r2 : Rd v (fun g => g < v.heap.size) .u32 A2 a2) (q2 : Rd v (fun g => g < v.heap.size) .u32 D2 d2) :
    ∃ U, ((((((v.setCell ⟨g, 0, none⟩ (.bool n1)).setCell ⟨g, 1, none⟩ (.slice A1 a1.length c1)).setCell ⟨g, 2, none⟩ (.slice D1 d1.length e1)).setCell ⟨g, 3, none⟩ (.bool n2)).setCell ⟨g, 4, none⟩ (.slice A2 a2.length c2)).setCell ⟨g, 5, none⟩ (.slice D2 d2.length e2)) = U ∧ (U.cell? ⟨g, 0, none⟩ = some (.bool n1) ∧ U.cell? ⟨g, 1, none⟩ = some (.slice A1 a1.length c1) ∧ U.cell? ⟨g, 2, none⟩ = some (.slice D1 d1.length e1) ∧ U.cell? ⟨g, 3, none⟩ = some (.bool n2) ∧ U.cell? ⟨g, 4, none⟩ = some (.slice A2 a2.length c2) ∧ U.cell? ⟨g, 5, none⟩ = some (.slice D2 d2.length e2)) ∧ Gs S T w (.returned (.agg #[.bool n1, .slice A1 a1.length c1, .slice D1 d1.length e1, .bool n2, .slice A2 a2.length c2, .slice D2 d2.length e2])) U := by
  have K := k.six (.bool n1) (.slice A1 a1.length c1) (.slice D1 d1.length e1) (.bool n2) (.slice A2 a2.length c2) (.slice D2 d2.length e2)
  exact ⟨_, rfl, K.facts6.1, n1, a1, A1, c1, d1, D1, e1, n2, a2, A2, c2, d2, D2, e2, rfl, ⟨hs, ht⟩, ⟨r1.six k _ _ _ _ _ _, q1.six k _ _ _ _ _ _⟩, ⟨r2.six k _ _ _ _ _ _, q2.six k _ _ _ _ _ _⟩, below_six B hg _ _ _ _ _ _⟩
/-- boxes -/
theorem bxa (w : World) (t : TypeId) (vs : List Value) : ∃ W, w.alloc (.cells vs.toArray t) = W ∧ Blk W w.heap.size t vs ∧ Below w.heap.size w W ∧ W.heap.size = w.heap.size + 1 :=
  ⟨_, rfl, Blk.new w t vs, below_one w _, by simp⟩
theorem bxb (w : World) (t t' : TypeId) (vs vs' : List Value) : ∃ W, (w.alloc (.cells vs.toArray t)).alloc (.cells vs'.toArray t') = W ∧ Blk W w.heap.size t vs ∧ Blk W (w.heap.size + 1) t' vs' ∧ Below w.heap.size w W ∧ W.heap.size = w.heap.size + 2 := by
  obtain ⟨V, hV, k, b, s⟩ := bxa w t vs
  rw [hV]
  exact ⟨_, rfl, k.alloc _, Blk.at_new V t' vs' (by rw [s]), b.trans ((below_one V _).mono (by omega)), by simp [s]⟩
theorem bxc (w : World) (t t' t'' : TypeId) (vs vs' vs'' : List Value) : ∃ W, ((w.alloc (.cells vs.toArray t)).alloc (.cells vs'.toArray t')).alloc (.cells vs''.toArray t'') = W ∧ Blk W w.heap.size t vs ∧ Blk W (w.heap.size + 1) t' vs' ∧ Blk W (w.heap.size + 1 + 1) t'' vs'' ∧ Below w.heap.size w W ∧ W.heap.size = w.heap.size + 3 := by
  obtain ⟨V, hV, k, k', b, s⟩ := bxb w t t' vs vs'
  rw [hV]
  exact ⟨_, rfl, k.alloc _, k'.alloc _, Blk.at_new V t'' vs'' (by rw [s]), b.trans ((below_one V _).mono (by omega)), by simp [s]⟩
theorem bxd (w : World) (t t' t'' t3 : TypeId) (vs vs' vs'' v3 : List Value) : ∃ W, (((w.alloc (.cells vs.toArray t)).alloc (.cells vs'.toArray t')).alloc (.cells vs''.toArray t'')).alloc (.cells v3.toArray t3) = W ∧ Blk W w.heap.size t vs ∧ Blk W (w.heap.size + 1) t' vs' ∧ Blk W (w.heap.size + 1 + 1) t'' vs'' ∧ Blk W (w.heap.size + 1 + 1 + 1) t3 v3 ∧ Below w.heap.size w W ∧ W.heap.size = w.heap.size + 4 := by
  obtain ⟨V, hV, k, k', k'', b, s⟩ := bxc w t t' t'' vs vs' vs''
  rw [hV]
  exact ⟨_, rfl, k.alloc _, k'.alloc _, k''.alloc _, Blk.at_new V t3 v3 (by rw [s]), b.trans ((below_one V _).mono (by omega)), by simp [s]⟩
/-- what lies elsewhere when six cells are stored -/
theorem Blk.off6 {v : World} {g g' : Nat} {t : TypeId} {vs : List Value} (k : Blk v g t vs) (hne : g ≠ g') (u0 u1 u2 u3 u4 u5 : Value) : Blk ((((((v.setCell ⟨g', 0, none⟩ u0).setCell ⟨g', 1, none⟩ u1).setCell ⟨g', 2, none⟩ u2).setCell ⟨g', 3, none⟩ u3).setCell ⟨g', 4, none⟩ u4).setCell ⟨g', 5, none⟩ u5) g t vs :=
  (((((k.far (p := ⟨g', 0, none⟩) hne u0).far (p := ⟨g', 1, none⟩) hne u1).far (p := ⟨g', 2, none⟩) hne u2).far (p := ⟨g', 3, none⟩) hne u3).far (p := ⟨g', 4, none⟩) hne u4).far (p := ⟨g', 5, none⟩) hne u5
theorem far66 {v : World} {g g' : Nat} {t : TypeId} {a0 a1 a2 a3 a4 a5 : Value} (k : Blk v g t [a0, a1, a2, a3, a4, a5]) (hne : g ≠ g') (u0 u1 u2 u3 u4 u5 : Value) : ((((((v.setCell ⟨g', 0, none⟩ u0).setCell ⟨g', 1, none⟩ u1).setCell ⟨g', 2, none⟩ u2).setCell ⟨g', 3, none⟩ u3).setCell ⟨g', 4, none⟩ u4).setCell ⟨g', 5, none⟩ u5).cell? ⟨g, 0, none⟩ = some a0 ∧ ((((((v.setCell ⟨g', 0, none⟩ u0).setCell ⟨g', 1, none⟩ u1).setCell ⟨g', 2, none⟩ u2).setCell ⟨g', 3, none⟩ u3).setCell ⟨g', 4, none⟩ u4).setCell ⟨g', 5, none⟩ u5).cell? ⟨g, 1, none⟩ = some a1 ∧ ((((((v.setCell ⟨g', 0, none⟩ u0).setCell ⟨g', 1, none⟩ u1).setCell ⟨g', 2, none⟩ u2).setCell ⟨g', 3, none⟩ u3).setCell ⟨g', 4, none⟩ u4).setCell ⟨g', 5, none⟩ u5).cell? ⟨g, 2, none⟩ = some a2 ∧ ((((((v.setCell ⟨g', 0, none⟩ u0).setCell ⟨g', 1, none⟩ u1).setCell ⟨g', 2, none⟩ u2).setCell ⟨g', 3, none⟩ u3).setCell ⟨g', 4, none⟩ u4).setCell ⟨g', 5, none⟩ u5).cell? ⟨g, 3, none⟩ = some a3 ∧ ((((((v.setCell ⟨g', 0, none⟩ u0).setCell ⟨g', 1, none⟩ u1).setCell ⟨g', 2, none⟩ u2).setCell ⟨g', 3, none⟩ u3).setCell ⟨g', 4, none⟩ u4).setCell ⟨g', 5, none⟩ u5).cell? ⟨g, 4, none⟩ = some a4 ∧ ((((((v.setCell ⟨g', 0, none⟩ u0).setCell ⟨g', 1, none⟩ u1).setCell ⟨g', 2, none⟩ u2).setCell ⟨g', 3, none⟩ u3).setCell ⟨g', 4, none⟩ u4).setCell ⟨g', 5, none⟩ u5).cell? ⟨g, 5, none⟩ = some a5 := (k.off6 hne u0 u1 u2 u3 u4 u5).facts6.1
theorem far36 {v : World} {g g' : Nat} {t : TypeId} {a0 a1 a2 : Value} (k : Blk v g t [a0, a1, a2]) (hne : g ≠ g') (u0 u1 u2 u3 u4 u5 : Value) : ((((((v.setCell ⟨g', 0, none⟩ u0).setCell ⟨g', 1, none⟩ u1).setCell ⟨g', 2, none⟩ u2).setCell ⟨g', 3, none⟩ u3).setCell ⟨g', 4, none⟩ u4).setCell ⟨g', 5, none⟩ u5).cell? ⟨g, 0, none⟩ = some a0 ∧ ((((((v.setCell ⟨g', 0, none⟩ u0).setCell ⟨g', 1, none⟩ u1).setCell ⟨g', 2, none⟩ u2).setCell ⟨g', 3, none⟩ u3).setCell ⟨g', 4, none⟩ u4).setCell ⟨g', 5, none⟩ u5).cell? ⟨g, 1, none⟩ = some a1 ∧ ((((((v.setCell ⟨g', 0, none⟩ u0).setCell ⟨g', 1, none⟩ u1).setCell ⟨g', 2, none⟩ u2).setCell ⟨g', 3, none⟩ u3).setCell ⟨g', 4, none⟩ u4).setCell ⟨g', 5, none⟩ u5).cell? ⟨g, 2, none⟩ = some a2 :=
  ⟨(k.off6 hne u0 u1 u2 u3 u4 u5).facts.1, (k.off6 hne u0 u1 u2 u3 u4 u5).facts.2.1, (k.off6 hne u0 u1 u2 u3 u4 u5).facts.2.2.1⟩
theorem far26 {v : World} {g g' : Nat} {t : TypeId} {a0 a1 : Value} (k : Blk v g t [a0, a1]) (hne : g ≠ g') (u0 u1 u2 u3 u4 u5 : Value) : ((((((v.setCell ⟨g', 0, none⟩ u0).setCell ⟨g', 1, none⟩ u1).setCell ⟨g', 2, none⟩ u2).setCell ⟨g', 3, none⟩ u3).setCell ⟨g', 4, none⟩ u4).setCell ⟨g', 5, none⟩ u5).cell? ⟨g, 0, none⟩ = some a0 ∧ ((((((v.setCell ⟨g', 0, none⟩ u0).setCell ⟨g', 1, none⟩ u1).setCell ⟨g', 2, none⟩ u2).setCell ⟨g', 3, none⟩ u3).setCell ⟨g', 4, none⟩ u4).setCell ⟨g', 5, none⟩ u5).cell? ⟨g, 1, none⟩ = some a1 :=
  ⟨(k.off6 hne u0 u1 u2 u3 u4 u5).facts2.1, (k.off6 hne u0 u1 u2 u3 u4 u5).facts2.2.1⟩
theorem kept2 {W V : World} {g : Nat} {t : TypeId} {a0 a1 : Value} (k : Blk W g t [a0, a1]) (hb : Below W.heap.size W V) : V.cell? ⟨g, 0, none⟩ = some a0 ∧ V.cell? ⟨g, 1, none⟩ = some a1 := ⟨(k.on hb).facts2.1, (k.on hb).facts2.2.1⟩
/-- a call's contract, in shapes: of three -/
abbrev Fn3 (f : FuncId) (S1 S2 S3 T : Shape) : Prop := ∀ (n1 n2 n3 : Bool) (a1 d1 a2 d2 a3 d3 : List Nat) (A1 D1 A2 D2 A3 D3 : Option Addr) (c1 e1 c2 e2 c3 e3 : Nat) (w : World), S1 n1 a1 c1 d1 e1 → S2 n2 a2 c2 d2 e2 → S3 n3 a3 c3 d3 e3 → Rd w (fun g => g < w.heap.size) .u32 A1 a1 → Rd w (fun g => g < w.heap.size) .u32 D1 d1 → Rd w (fun g => g < w.heap.size) .u32 A2 a2 → Rd w (fun g => g < w.heap.size) .u32 D2 d2 → Rd w (fun g => g < w.heap.size) .u32 A3 a3 → Rd w (fun g => g < w.heap.size) .u32 D3 d3 → Calls Try.prog f #[.agg #[.bool n1, .slice A1 a1.length c1, .slice D1 d1.length e1], .agg #[.bool n2, .slice A2 a2.length c2, .slice D2 d2.length e2], .agg #[.bool n3, .slice A3 a3.length c3, .slice D3 d3.length e3]] w (Gv T w)
theorem Blk.off3 {v : World} {g g' : Nat} {t : TypeId} {vs : List Value} (k : Blk v g t vs) (hne : g ≠ g') (u0 u1 u2 : Value) : Blk (((v.setCell ⟨g', 0, none⟩ u0).setCell ⟨g', 1, none⟩ u1).setCell ⟨g', 2, none⟩ u2) g t vs :=
  ((k.far (p := ⟨g', 0, none⟩) hne u0).far (p := ⟨g', 1, none⟩) hne u1).far (p := ⟨g', 2, none⟩) hne u2
theorem far33 {v : World} {g g' : Nat} {t : TypeId} {a0 a1 a2 : Value} (k : Blk v g t [a0, a1, a2]) (hne : g ≠ g') (u0 u1 u2 : Value) : (((v.setCell ⟨g', 0, none⟩ u0).setCell ⟨g', 1, none⟩ u1).setCell ⟨g', 2, none⟩ u2).cell? ⟨g, 0, none⟩ = some a0 ∧ (((v.setCell ⟨g', 0, none⟩ u0).setCell ⟨g', 1, none⟩ u1).setCell ⟨g', 2, none⟩ u2).cell? ⟨g, 1, none⟩ = some a1 ∧ (((v.setCell ⟨g', 0, none⟩ u0).setCell ⟨g', 1, none⟩ u1).setCell ⟨g', 2, none⟩ u2).cell? ⟨g, 2, none⟩ = some a2 :=
  ⟨(k.off3 hne u0 u1 u2).facts.1, (k.off3 hne u0 u1 u2).facts.2.1, (k.off3 hne u0 u1 u2).facts.2.2.1⟩
theorem far63 {v : World} {g g' : Nat} {t : TypeId} {a0 a1 a2 a3 a4 a5 : Value} (k : Blk v g t [a0, a1, a2, a3, a4, a5]) (hne : g ≠ g') (u0 u1 u2 : Value) : (((v.setCell ⟨g', 0, none⟩ u0).setCell ⟨g', 1, none⟩ u1).setCell ⟨g', 2, none⟩ u2).cell? ⟨g, 0, none⟩ = some a0 ∧ (((v.setCell ⟨g', 0, none⟩ u0).setCell ⟨g', 1, none⟩ u1).setCell ⟨g', 2, none⟩ u2).cell? ⟨g, 1, none⟩ = some a1 ∧ (((v.setCell ⟨g', 0, none⟩ u0).setCell ⟨g', 1, none⟩ u1).setCell ⟨g', 2, none⟩ u2).cell? ⟨g, 2, none⟩ = some a2 ∧ (((v.setCell ⟨g', 0, none⟩ u0).setCell ⟨g', 1, none⟩ u1).setCell ⟨g', 2, none⟩ u2).cell? ⟨g, 3, none⟩ = some a3 ∧ (((v.setCell ⟨g', 0, none⟩ u0).setCell ⟨g', 1, none⟩ u1).setCell ⟨g', 2, none⟩ u2).cell? ⟨g, 4, none⟩ = some a4 ∧ (((v.setCell ⟨g', 0, none⟩ u0).setCell ⟨g', 1, none⟩ u1).setCell ⟨g', 2, none⟩ u2).cell? ⟨g, 5, none⟩ = some a5 := (k.off3 hne u0 u1 u2).facts6.1
end Go.Proofs.Ytkebffkekinblaa
/- Spots, the program's own: what counted, times, gap and product answer. -/

namespace Go.Proofs.Ytkebffkekinblaa
open Go.RowKit Num

/-- a whole number of value N, of at most k words -/
def HW (N : Int) (k : Nat) (n : Bool) (a : List Nat) (ca : Nat) : Prop := a.length ≤ ca ∧ Dg 4294967296 a ∧ a.length ≤ k ∧ wv n a = N
def HD (D k : Nat) (d : List Nat) (cd : Nat) : Prop := d.length ≤ cd ∧ Dg 4294967296 d ∧ d.length ≤ k ∧ val 4294967296 d = D
def GvW (N : Int) (k : Nat) (w : World) (e : Ending) (w' : World) : Prop :=
  ∃ n a A c, e = .returned (.agg #[.bool n, .slice A a.length c]) ∧ HW N k n a c ∧ Rd w' (fun g => g < w'.heap.size) .u32 A a ∧ Below w.heap.size w w'
theorem gvw_of {N : Int} {k : Nat} {w w' : World} {e : Ending} (hN : N.natAbs < 4294967296 ^ k) (h : GivesW N w e w') : GvW N k w e w' := by
  obtain ⟨A, xs, c, rfl, hc, hn, hv, r, b⟩ := h
  exact ⟨_, xs, A, c, rfl, ⟨hc, hn.1, hn.2.length_le (b := 4294967296) (by omega) (by rw [hv]; exact hN), wv_dec hv⟩, r, b⟩
theorem HW.lt {N : Int} {k : Nat} {n : Bool} {a : List Nat} {ca : Nat} (h : HW N k n a ca) : N.natAbs < 4294967296 ^ k := by
  rw [← h.2.2.2, wv_abs]
  exact Nat.lt_of_lt_of_le (val_lt h.2.1) (Nat.pow_le_pow_right (by omega) h.2.2.1)
theorem HD.lt {D k : Nat} {d : List Nat} {cd : Nat} (h : HD D k d cd) : D < 4294967296 ^ k := by
  rw [← h.2.2.2]
  exact Nat.lt_of_lt_of_le (val_lt h.2.1) (Nat.pow_le_pow_right (by omega) h.2.2.1)
theorem mulI_lt {M N : Int} {i j k : Nat} (h : M.natAbs < 4294967296 ^ i) (h' : N.natAbs < 4294967296 ^ j) (hk : i + j ≤ k) : (M * N).natAbs < 4294967296 ^ k := by
  rw [Int.natAbs_mul]
  exact prod_lt h (Nat.le_of_lt h') hk
/-- a whole number stored where the result lies -/
theorem fin_gvw {w v : World} {g : Nat} {t : TypeId} (k : Blk v g t [.bool false, .slice none 0 0]) (hg : w.heap.size ≤ g) (B : Below w.heap.size w v) {N : Int} {m : Nat} {n : Bool} {A : Option Addr} {a : List Nat} {c : Nat} (hs : HW N m n a c) (r : Rd v (fun g => g < v.heap.size) .u32 A a) :
    ∃ U, (v.setCell ⟨g, 0, none⟩ (.bool n)).setCell ⟨g, 1, none⟩ (.slice A a.length c) = U ∧ (U.cell? ⟨g, 0, none⟩ = some (.bool n) ∧ U.cell? ⟨g, 1, none⟩ = some (.slice A a.length c)) ∧ GvW N m w (.returned (.agg #[.bool n, .slice A a.length c])) U := by
  have K := k.pair (.bool n) (.slice A a.length c)
  exact ⟨_, rfl, ⟨K.cell 0 rfl, K.cell 1 rfl⟩, n, a, A, c, rfl, hs, r.far2 k _ _, (B.setCell (p := ⟨g, 0, none⟩) hg _).setCell (p := ⟨g, 1, none⟩) hg _⟩
theorem HD.toW {D k : Nat} {d : List Nat} {cd : Nat} (h : HD D k d cd) : HW (D : Int) k false d cd := ⟨h.1, h.2.1, h.2.2.1, by rw [wv_false, h.2.2.2]⟩

end Go.Proofs.Ytkebffkekinblaa
/- Spots, the program's own: what hold, reduced, At, halfWay, Mid, along and Toward answer. -/

namespace Go.Proofs.Ytkebffkekinblaa
open Go.RowKit Num

end Go.Proofs.Ytkebffkekinblaa
/- Spots, the document's own: what At, clean and Toward answer. -/

namespace Go.Proofs.Ytkebffkekinblaa
open Go.RowKit Num

end Go.Proofs.Ytkebffkekinblaa
/- Rows of spots in memory: a row that a call made, and what append leaves of it. -/

namespace Go.Proofs.Ytkebffkekinblaa
open Go.RowKit Num

/-- no integer among them -/
def NoInt (cs : List Value) : Prop := ∀ v ∈ cs, ∀ k n, v ≠ .int k n
theorem NoInt.append {a b : List Value} (ha : NoInt a) (hb : NoInt b) : NoInt (a ++ b) := fun v hv => by
  rcases List.mem_append.1 hv with h | h
  · exact ha v h
  · exact hb v h
theorem zeroCells_noint {z : Array Value} (hz : NoInt z.toList) (n : Nat) : NoInt (Builtin.zeroCells z n).toList := by
  intro v hv
  unfold Builtin.zeroCells at hv
  simp only [Array.toList_map, List.mem_map, Array.toList_range, List.mem_range] at hv
  obtain ⟨i, hi, rfl⟩ := hv
  have hp : 0 < z.size := by
    rcases Nat.eq_zero_or_pos z.size with h | h
    · rw [h] at hi; simp at hi
    · exact h
  have hm := Nat.mod_lt i hp
  rw [getElem!_pos z (i % z.size) hm]
  exact hz _ (Array.mem_toList_iff.2 (Array.getElem_mem hm))
end Go.Proofs.Ytkebffkekinblaa
