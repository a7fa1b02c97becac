/- The law FracSums: sums, differences, products are the document's own. -/
import Derived.Test.YtngnclibeccplaaDoorZOaF
import Derived.Test.YtngnclibeccplaaDoorZOaE
import Derived.Deep.RegionWith
import Derived.Deep.RegionHeld3
import Derived.Test.YtngnclibeccplaaDoorZWhX
import Derived.Test.YtngnclibeccplaaDoorZOaD
import Derived.Test.YtngnclibeccplaaDoorZFrW
namespace Go.Proofs.YtngnclibeccplaaDoor
open Go.RowKit Num

theorem up_lt {n : Bool} {a d : List Nat} (ha : Dg 4294967296 a) : (upN n a d).natAbs < 4294967296 ^ a.length := Nat.lt_of_le_of_lt (up_abs n a d) (val_lt ha)
theorem loD_le {d : List Nat} (hd : Dg 4294967296 d) : loD d ≤ 4294967296 ^ d.length := by
  unfold loD
  split
  · exact Nat.pow_pos (by omega)
  · exact Nat.le_of_lt (val_lt hd)
/-- how great a product of such parts is -/
theorem prod_lt {x y i j k : Nat} (hx : x < 4294967296 ^ i) (hy : y ≤ 4294967296 ^ j) (hk : i + j ≤ k) : x * y < 4294967296 ^ k := by
  refine Nat.lt_of_lt_of_le ?_ (Nat.pow_le_pow_right (n := 4294967296) (by omega) hk)
  rw [Nat.pow_add]
  have h1 : x * y ≤ x * 4294967296 ^ j := Nat.mul_le_mul_left _ hy
  have h2 : x * 4294967296 ^ j < 4294967296 ^ i * 4294967296 ^ j := Nat.mul_lt_mul_of_pos_right hx (Nat.pow_pos (by omega))
  omega
theorem prod_le {x y i j k : Nat} (hx : x ≤ 4294967296 ^ i) (hy : y ≤ 4294967296 ^ j) (hk : i + j ≤ k) : x * y ≤ 4294967296 ^ k := by
  refine Nat.le_trans ?_ (Nat.pow_le_pow_right (n := 4294967296) (by omega) hk)
  rw [Nat.pow_add]
  exact Nat.mul_le_mul hx hy
theorem lt_of_le_pow {x k m : Nat} (hx : x ≤ 4294967296 ^ k) (h : k < m) : x < 4294967296 ^ m := by
  refine Nat.lt_of_le_of_lt hx (Nat.pow_lt_pow_right (by omega) h)
theorem sum_lt {P P' : Int} {Q Q' i j k l s : Nat} (h1 : P.natAbs < 4294967296 ^ i) (h2 : P'.natAbs < 4294967296 ^ j) (h3 : Q ≤ 4294967296 ^ k) (h4 : Q' ≤ 4294967296 ^ l) (e1 : i + l ≤ s) (e2 : j + k ≤ s) : (P * (Q' : Int) + P' * (Q : Int)).natAbs < 4294967296 ^ (s + 1) := by
  have a1 := prod_lt h1 h4 e1
  have a2 := prod_lt h2 h3 e2
  have a3 := Int.natAbs_add_le (P * (Q' : Int)) (P' * (Q : Int))
  rw [Int.natAbs_mul, Int.natAbs_mul, Int.natAbs_natCast, Int.natAbs_natCast] at a3
  rw [Nat.pow_succ]
  omega
theorem sub_lt {P P' : Int} {Q Q' i j k l s : Nat} (h1 : P.natAbs < 4294967296 ^ i) (h2 : P'.natAbs < 4294967296 ^ j) (h3 : Q ≤ 4294967296 ^ k) (h4 : Q' ≤ 4294967296 ^ l) (e1 : i + l ≤ s) (e2 : j + k ≤ s) : (P * (Q' : Int) - P' * (Q : Int)).natAbs < 4294967296 ^ (s + 1) := by
  have := sum_lt (P := P) (P' := -P') h1 (by rw [Int.natAbs_neg]; exact h2) h3 h4 e1 e2
  rwa [Int.neg_mul, ← Int.sub_eq_add_neg] at this
/-- a reduced fraction of at most m words each -/
def SG (P : Int) (Q m : Nat) : Shape := fun n a ca d cd => SF P Q n a ca d cd ∧ a.length ≤ m ∧ d.length ≤ m
theorem SF.toG {P : Int} {Q m : Nat} (hP : P.natAbs < 4294967296 ^ m) (hQ : Q < 4294967296 ^ m) {n : Bool} {a d : List Nat} {ca cd : Nat} (k : SF P Q n a ca d cd) : SG P Q m n a ca d cd := by
  refine ⟨k, ?_⟩
  obtain ⟨-, -, -, h3, h4, h5, h6⟩ := k
  constructor
  · refine h3.2.length_le (b := 4294967296) (by omega) ?_
    rw [h5]; exact Nat.lt_of_le_of_lt (Nat.div_le_self _ _) hP
  · refine h4.2.length_le (b := 4294967296) (by omega) ?_
    rw [h6]; exact Nat.lt_of_le_of_lt (Nat.div_le_self _ _) hQ
theorem SG.toV {P : Int} {Q m : Nat} (hQ : 0 < Q) {n : Bool} {a d : List Nat} {ca cd : Nat} (k : SG P Q m n a ca d cd) : SV P Q m n a ca d cd := by
  have h := k.1.toV (m := P.natAbs + Q) hQ (Nat.lt_of_lt_of_le (Nat.lt_pow_self (n := P.natAbs) (by omega)) (Nat.pow_le_pow_right (by omega) (by omega))) (Nat.lt_of_lt_of_le (Nat.lt_pow_self (n := Q) (by omega)) (Nat.pow_le_pow_right (by omega) (by omega)))
  obtain ⟨h1, h2, h3, h4, h5, h6, h7⟩ := h
  exact ⟨h1, h2, h3, h4, k.2.1, k.2.2, h7⟩
theorem SG.same {P : Int} {Q m m' : Nat} {n n' : Bool} {a a' d d' : List Nat} {ca ca' cd cd' : Nat} (k : SG P Q m n a ca d cd) (k' : SG P Q m' n' a' ca' d' cd') : n = n' ∧ a = a' ∧ d = d' := SF.same k.1 k'.1
end Go.Proofs.YtngnclibeccplaaDoor
/- Fractions: two boxes that are allotted and stored while two calls are made. -/

namespace Go.Proofs.YtngnclibeccplaaDoor
open Go.RowKit Num

/-- both boxes behind the calls -/
theorem endA {W w3 : World} {t : TypeId} {A2 D2 A3 D3 : Option Addr} {a2 d2 a3 d3 : List Nat} (K : Below W.heap.size W w3) (n2 : Bool) (c2 e2 : Nat) (r2 : Rd w3 (fun g => g < w3.heap.size) .u32 A2 a2) (q2 : Rd w3 (fun g => g < w3.heap.size) .u32 D2 d2) (n3 : Bool) (c3 e3 : Nat) (r3 : Rd w3 (fun g => g < w3.heap.size) .u32 A3 a3) (q3 : Rd w3 (fun g => g < w3.heap.size) .u32 D3 d3) : Blk ((w3.alloc (.cells #[.bool n2, .slice A2 a2.length c2, .slice D2 d2.length e2] t)).alloc (.cells #[.bool n3, .slice A3 a3.length c3, .slice D3 d3.length e3] t)) w3.heap.size t [.bool n2, .slice A2 a2.length c2, .slice D2 d2.length e2] ∧ Blk ((w3.alloc (.cells #[.bool n2, .slice A2 a2.length c2, .slice D2 d2.length e2] t)).alloc (.cells #[.bool n3, .slice A3 a3.length c3, .slice D3 d3.length e3] t)) (w3.heap.size + 1) t [.bool n3, .slice A3 a3.length c3, .slice D3 d3.length e3] ∧ (Rd ((w3.alloc (.cells #[.bool n2, .slice A2 a2.length c2, .slice D2 d2.length e2] t)).alloc (.cells #[.bool n3, .slice A3 a3.length c3, .slice D3 d3.length e3] t)) (fun b => b < (((w3.alloc (.cells #[.bool n2, .slice A2 a2.length c2, .slice D2 d2.length e2] t)).alloc (.cells #[.bool n3, .slice A3 a3.length c3, .slice D3 d3.length e3] t))).heap.size) .u32 A2 a2 ∧ Rd ((w3.alloc (.cells #[.bool n2, .slice A2 a2.length c2, .slice D2 d2.length e2] t)).alloc (.cells #[.bool n3, .slice A3 a3.length c3, .slice D3 d3.length e3] t)) (fun b => b < (((w3.alloc (.cells #[.bool n2, .slice A2 a2.length c2, .slice D2 d2.length e2] t)).alloc (.cells #[.bool n3, .slice A3 a3.length c3, .slice D3 d3.length e3] t))).heap.size) .u32 D2 d2) ∧ (Rd ((w3.alloc (.cells #[.bool n2, .slice A2 a2.length c2, .slice D2 d2.length e2] t)).alloc (.cells #[.bool n3, .slice A3 a3.length c3, .slice D3 d3.length e3] t)) (fun b => b < (((w3.alloc (.cells #[.bool n2, .slice A2 a2.length c2, .slice D2 d2.length e2] t)).alloc (.cells #[.bool n3, .slice A3 a3.length c3, .slice D3 d3.length e3] t))).heap.size) .u32 A3 a3 ∧ Rd ((w3.alloc (.cells #[.bool n2, .slice A2 a2.length c2, .slice D2 d2.length e2] t)).alloc (.cells #[.bool n3, .slice A3 a3.length c3, .slice D3 d3.length e3] t)) (fun b => b < (((w3.alloc (.cells #[.bool n2, .slice A2 a2.length c2, .slice D2 d2.length e2] t)).alloc (.cells #[.bool n3, .slice A3 a3.length c3, .slice D3 d3.length e3] t))).heap.size) .u32 D3 d3) ∧ Below W.heap.size W ((w3.alloc (.cells #[.bool n2, .slice A2 a2.length c2, .slice D2 d2.length e2] t)).alloc (.cells #[.bool n3, .slice A3 a3.length c3, .slice D3 d3.length e3] t)) := by
  have b1 := below_new w3 (.cells #[.bool n2, .slice A2 a2.length c2, .slice D2 d2.length e2] t)
  have b2 := below_new (w3.alloc (.cells #[.bool n2, .slice A2 a2.length c2, .slice D2 d2.length e2] t)) (.cells #[.bool n3, .slice A3 a3.length c3, .slice D3 d3.length e3] t)
  exact ⟨(Blk.new w3 t _).alloc _, Blk.at_new (w3.alloc (.cells #[.bool n2, .slice A2 a2.length c2, .slice D2 d2.length e2] t)) t [.bool n3, .slice A3 a3.length c3, .slice D3 d3.length e3] (by simp), ⟨(r2.on b1).on b2, (q2.on b1).on b2⟩, ⟨(r3.on b1).on b2, (q3.on b1).on b2⟩, keep_two K _ _⟩
theorem endA' {W w3 : World} {t : TypeId} {A2 D2 A3 D3 : Option Addr} {a2 d2 a3 d3 : List Nat} (K : Below W.heap.size W w3) (n2 : Bool) (c2 e2 : Nat) (r2 : Rd w3 (fun g => g < w3.heap.size) .u32 A2 a2) (q2 : Rd w3 (fun g => g < w3.heap.size) .u32 D2 d2) (n3 : Bool) (c3 e3 : Nat) (r3 : Rd w3 (fun g => g < w3.heap.size) .u32 A3 a3) (q3 : Rd w3 (fun g => g < w3.heap.size) .u32 D3 d3) : Blk ((w3.alloc (.cells #[.bool n3, .slice A3 a3.length c3, .slice D3 d3.length e3] t)).alloc (.cells #[.bool n2, .slice A2 a2.length c2, .slice D2 d2.length e2] t)) (w3.heap.size + 1) t [.bool n2, .slice A2 a2.length c2, .slice D2 d2.length e2] ∧ Blk ((w3.alloc (.cells #[.bool n3, .slice A3 a3.length c3, .slice D3 d3.length e3] t)).alloc (.cells #[.bool n2, .slice A2 a2.length c2, .slice D2 d2.length e2] t)) w3.heap.size t [.bool n3, .slice A3 a3.length c3, .slice D3 d3.length e3] ∧ (Rd ((w3.alloc (.cells #[.bool n3, .slice A3 a3.length c3, .slice D3 d3.length e3] t)).alloc (.cells #[.bool n2, .slice A2 a2.length c2, .slice D2 d2.length e2] t)) (fun b => b < (((w3.alloc (.cells #[.bool n3, .slice A3 a3.length c3, .slice D3 d3.length e3] t)).alloc (.cells #[.bool n2, .slice A2 a2.length c2, .slice D2 d2.length e2] t))).heap.size) .u32 A2 a2 ∧ Rd ((w3.alloc (.cells #[.bool n3, .slice A3 a3.length c3, .slice D3 d3.length e3] t)).alloc (.cells #[.bool n2, .slice A2 a2.length c2, .slice D2 d2.length e2] t)) (fun b => b < (((w3.alloc (.cells #[.bool n3, .slice A3 a3.length c3, .slice D3 d3.length e3] t)).alloc (.cells #[.bool n2, .slice A2 a2.length c2, .slice D2 d2.length e2] t))).heap.size) .u32 D2 d2) ∧ (Rd ((w3.alloc (.cells #[.bool n3, .slice A3 a3.length c3, .slice D3 d3.length e3] t)).alloc (.cells #[.bool n2, .slice A2 a2.length c2, .slice D2 d2.length e2] t)) (fun b => b < (((w3.alloc (.cells #[.bool n3, .slice A3 a3.length c3, .slice D3 d3.length e3] t)).alloc (.cells #[.bool n2, .slice A2 a2.length c2, .slice D2 d2.length e2] t))).heap.size) .u32 A3 a3 ∧ Rd ((w3.alloc (.cells #[.bool n3, .slice A3 a3.length c3, .slice D3 d3.length e3] t)).alloc (.cells #[.bool n2, .slice A2 a2.length c2, .slice D2 d2.length e2] t)) (fun b => b < (((w3.alloc (.cells #[.bool n3, .slice A3 a3.length c3, .slice D3 d3.length e3] t)).alloc (.cells #[.bool n2, .slice A2 a2.length c2, .slice D2 d2.length e2] t))).heap.size) .u32 D3 d3) ∧ Below W.heap.size W ((w3.alloc (.cells #[.bool n3, .slice A3 a3.length c3, .slice D3 d3.length e3] t)).alloc (.cells #[.bool n2, .slice A2 a2.length c2, .slice D2 d2.length e2] t)) := by
  have b1 := below_new w3 (.cells #[.bool n3, .slice A3 a3.length c3, .slice D3 d3.length e3] t)
  have b2 := below_new (w3.alloc (.cells #[.bool n3, .slice A3 a3.length c3, .slice D3 d3.length e3] t)) (.cells #[.bool n2, .slice A2 a2.length c2, .slice D2 d2.length e2] t)
  exact ⟨Blk.at_new (w3.alloc (.cells #[.bool n3, .slice A3 a3.length c3, .slice D3 d3.length e3] t)) t [.bool n2, .slice A2 a2.length c2, .slice D2 d2.length e2] (by simp), (Blk.new w3 t _).alloc _, ⟨(r2.on b1).on b2, (q2.on b1).on b2⟩, ⟨(r3.on b1).on b2, (q3.on b1).on b2⟩, keep_two K _ _⟩
theorem endB {W w3 : World} {t : TypeId} {A2 D2 A3 D3 : Option Addr} {a2 d2 a3 d3 : List Nat} {g : Nat} (k : Blk w3 g t [.bool false, .slice none 0 0, .slice none 0 0]) (hg : W.heap.size ≤ g) (K : Below W.heap.size W w3) (n2 : Bool) (c2 e2 : Nat) (r2 : Rd w3 (fun g => g < w3.heap.size) .u32 A2 a2) (q2 : Rd w3 (fun g => g < w3.heap.size) .u32 D2 d2) (n3 : Bool) (c3 e3 : Nat) (r3 : Rd w3 (fun g => g < w3.heap.size) .u32 A3 a3) (q3 : Rd w3 (fun g => g < w3.heap.size) .u32 D3 d3) : Blk ((((w3.setCell ⟨g, 0, none⟩ (.bool n2)).setCell ⟨g, 1, none⟩ (.slice A2 a2.length c2)).setCell ⟨g, 2, none⟩ (.slice D2 d2.length e2)).alloc (.cells #[.bool n3, .slice A3 a3.length c3, .slice D3 d3.length e3] t)) g t [.bool n2, .slice A2 a2.length c2, .slice D2 d2.length e2] ∧ Blk ((((w3.setCell ⟨g, 0, none⟩ (.bool n2)).setCell ⟨g, 1, none⟩ (.slice A2 a2.length c2)).setCell ⟨g, 2, none⟩ (.slice D2 d2.length e2)).alloc (.cells #[.bool n3, .slice A3 a3.length c3, .slice D3 d3.length e3] t)) w3.heap.size t [.bool n3, .slice A3 a3.length c3, .slice D3 d3.length e3] ∧ (Rd ((((w3.setCell ⟨g, 0, none⟩ (.bool n2)).setCell ⟨g, 1, none⟩ (.slice A2 a2.length c2)).setCell ⟨g, 2, none⟩ (.slice D2 d2.length e2)).alloc (.cells #[.bool n3, .slice A3 a3.length c3, .slice D3 d3.length e3] t)) (fun b => b < (((((w3.setCell ⟨g, 0, none⟩ (.bool n2)).setCell ⟨g, 1, none⟩ (.slice A2 a2.length c2)).setCell ⟨g, 2, none⟩ (.slice D2 d2.length e2)).alloc (.cells #[.bool n3, .slice A3 a3.length c3, .slice D3 d3.length e3] t))).heap.size) .u32 A2 a2 ∧ Rd ((((w3.setCell ⟨g, 0, none⟩ (.bool n2)).setCell ⟨g, 1, none⟩ (.slice A2 a2.length c2)).setCell ⟨g, 2, none⟩ (.slice D2 d2.length e2)).alloc (.cells #[.bool n3, .slice A3 a3.length c3, .slice D3 d3.length e3] t)) (fun b => b < (((((w3.setCell ⟨g, 0, none⟩ (.bool n2)).setCell ⟨g, 1, none⟩ (.slice A2 a2.length c2)).setCell ⟨g, 2, none⟩ (.slice D2 d2.length e2)).alloc (.cells #[.bool n3, .slice A3 a3.length c3, .slice D3 d3.length e3] t))).heap.size) .u32 D2 d2) ∧ (Rd ((((w3.setCell ⟨g, 0, none⟩ (.bool n2)).setCell ⟨g, 1, none⟩ (.slice A2 a2.length c2)).setCell ⟨g, 2, none⟩ (.slice D2 d2.length e2)).alloc (.cells #[.bool n3, .slice A3 a3.length c3, .slice D3 d3.length e3] t)) (fun b => b < (((((w3.setCell ⟨g, 0, none⟩ (.bool n2)).setCell ⟨g, 1, none⟩ (.slice A2 a2.length c2)).setCell ⟨g, 2, none⟩ (.slice D2 d2.length e2)).alloc (.cells #[.bool n3, .slice A3 a3.length c3, .slice D3 d3.length e3] t))).heap.size) .u32 A3 a3 ∧ Rd ((((w3.setCell ⟨g, 0, none⟩ (.bool n2)).setCell ⟨g, 1, none⟩ (.slice A2 a2.length c2)).setCell ⟨g, 2, none⟩ (.slice D2 d2.length e2)).alloc (.cells #[.bool n3, .slice A3 a3.length c3, .slice D3 d3.length e3] t)) (fun b => b < (((((w3.setCell ⟨g, 0, none⟩ (.bool n2)).setCell ⟨g, 1, none⟩ (.slice A2 a2.length c2)).setCell ⟨g, 2, none⟩ (.slice D2 d2.length e2)).alloc (.cells #[.bool n3, .slice A3 a3.length c3, .slice D3 d3.length e3] t))).heap.size) .u32 D3 d3) ∧ Below W.heap.size W ((((w3.setCell ⟨g, 0, none⟩ (.bool n2)).setCell ⟨g, 1, none⟩ (.slice A2 a2.length c2)).setCell ⟨g, 2, none⟩ (.slice D2 d2.length e2)).alloc (.cells #[.bool n3, .slice A3 a3.length c3, .slice D3 d3.length e3] t)) := by
  have b2 := below_new (((w3.setCell ⟨g, 0, none⟩ (.bool n2)).setCell ⟨g, 1, none⟩ (.slice A2 a2.length c2)).setCell ⟨g, 2, none⟩ (.slice D2 d2.length e2)) (.cells #[.bool n3, .slice A3 a3.length c3, .slice D3 d3.length e3] t)
  exact ⟨(k.trip _ _ _).alloc _, Blk.at_new (((w3.setCell ⟨g, 0, none⟩ (.bool n2)).setCell ⟨g, 1, none⟩ (.slice A2 a2.length c2)).setCell ⟨g, 2, none⟩ (.slice D2 d2.length e2)) t [.bool n3, .slice A3 a3.length c3, .slice D3 d3.length e3] (by simp [World.setCell]), ⟨(r2.trip k _ _ _).on b2, (q2.trip k _ _ _).on b2⟩, ⟨(r3.trip k _ _ _).on b2, (q3.trip k _ _ _).on b2⟩, keep_one (((K.setCell hg _).setCell hg _).setCell hg _) _⟩
theorem endB' {W w3 : World} {t : TypeId} {A2 D2 A3 D3 : Option Addr} {a2 d2 a3 d3 : List Nat} {g : Nat} (k : Blk w3 g t [.bool false, .slice none 0 0, .slice none 0 0]) (hg : W.heap.size ≤ g) (K : Below W.heap.size W w3) (n2 : Bool) (c2 e2 : Nat) (r2 : Rd w3 (fun g => g < w3.heap.size) .u32 A2 a2) (q2 : Rd w3 (fun g => g < w3.heap.size) .u32 D2 d2) (n3 : Bool) (c3 e3 : Nat) (r3 : Rd w3 (fun g => g < w3.heap.size) .u32 A3 a3) (q3 : Rd w3 (fun g => g < w3.heap.size) .u32 D3 d3) : Blk ((((w3.setCell ⟨g, 0, none⟩ (.bool n3)).setCell ⟨g, 1, none⟩ (.slice A3 a3.length c3)).setCell ⟨g, 2, none⟩ (.slice D3 d3.length e3)).alloc (.cells #[.bool n2, .slice A2 a2.length c2, .slice D2 d2.length e2] t)) w3.heap.size t [.bool n2, .slice A2 a2.length c2, .slice D2 d2.length e2] ∧ Blk ((((w3.setCell ⟨g, 0, none⟩ (.bool n3)).setCell ⟨g, 1, none⟩ (.slice A3 a3.length c3)).setCell ⟨g, 2, none⟩ (.slice D3 d3.length e3)).alloc (.cells #[.bool n2, .slice A2 a2.length c2, .slice D2 d2.length e2] t)) g t [.bool n3, .slice A3 a3.length c3, .slice D3 d3.length e3] ∧ (Rd ((((w3.setCell ⟨g, 0, none⟩ (.bool n3)).setCell ⟨g, 1, none⟩ (.slice A3 a3.length c3)).setCell ⟨g, 2, none⟩ (.slice D3 d3.length e3)).alloc (.cells #[.bool n2, .slice A2 a2.length c2, .slice D2 d2.length e2] t)) (fun b => b < (((((w3.setCell ⟨g, 0, none⟩ (.bool n3)).setCell ⟨g, 1, none⟩ (.slice A3 a3.length c3)).setCell ⟨g, 2, none⟩ (.slice D3 d3.length e3)).alloc (.cells #[.bool n2, .slice A2 a2.length c2, .slice D2 d2.length e2] t))).heap.size) .u32 A2 a2 ∧ Rd ((((w3.setCell ⟨g, 0, none⟩ (.bool n3)).setCell ⟨g, 1, none⟩ (.slice A3 a3.length c3)).setCell ⟨g, 2, none⟩ (.slice D3 d3.length e3)).alloc (.cells #[.bool n2, .slice A2 a2.length c2, .slice D2 d2.length e2] t)) (fun b => b < (((((w3.setCell ⟨g, 0, none⟩ (.bool n3)).setCell ⟨g, 1, none⟩ (.slice A3 a3.length c3)).setCell ⟨g, 2, none⟩ (.slice D3 d3.length e3)).alloc (.cells #[.bool n2, .slice A2 a2.length c2, .slice D2 d2.length e2] t))).heap.size) .u32 D2 d2) ∧ (Rd ((((w3.setCell ⟨g, 0, none⟩ (.bool n3)).setCell ⟨g, 1, none⟩ (.slice A3 a3.length c3)).setCell ⟨g, 2, none⟩ (.slice D3 d3.length e3)).alloc (.cells #[.bool n2, .slice A2 a2.length c2, .slice D2 d2.length e2] t)) (fun b => b < (((((w3.setCell ⟨g, 0, none⟩ (.bool n3)).setCell ⟨g, 1, none⟩ (.slice A3 a3.length c3)).setCell ⟨g, 2, none⟩ (.slice D3 d3.length e3)).alloc (.cells #[.bool n2, .slice A2 a2.length c2, .slice D2 d2.length e2] t))).heap.size) .u32 A3 a3 ∧ Rd ((((w3.setCell ⟨g, 0, none⟩ (.bool n3)).setCell ⟨g, 1, none⟩ (.slice A3 a3.length c3)).setCell ⟨g, 2, none⟩ (.slice D3 d3.length e3)).alloc (.cells #[.bool n2, .slice A2 a2.length c2, .slice D2 d2.length e2] t)) (fun b => b < (((((w3.setCell ⟨g, 0, none⟩ (.bool n3)).setCell ⟨g, 1, none⟩ (.slice A3 a3.length c3)).setCell ⟨g, 2, none⟩ (.slice D3 d3.length e3)).alloc (.cells #[.bool n2, .slice A2 a2.length c2, .slice D2 d2.length e2] t))).heap.size) .u32 D3 d3) ∧ Below W.heap.size W ((((w3.setCell ⟨g, 0, none⟩ (.bool n3)).setCell ⟨g, 1, none⟩ (.slice A3 a3.length c3)).setCell ⟨g, 2, none⟩ (.slice D3 d3.length e3)).alloc (.cells #[.bool n2, .slice A2 a2.length c2, .slice D2 d2.length e2] t)) := by
  have b2 := below_new (((w3.setCell ⟨g, 0, none⟩ (.bool n3)).setCell ⟨g, 1, none⟩ (.slice A3 a3.length c3)).setCell ⟨g, 2, none⟩ (.slice D3 d3.length e3)) (.cells #[.bool n2, .slice A2 a2.length c2, .slice D2 d2.length e2] t)
  exact ⟨Blk.at_new (((w3.setCell ⟨g, 0, none⟩ (.bool n3)).setCell ⟨g, 1, none⟩ (.slice A3 a3.length c3)).setCell ⟨g, 2, none⟩ (.slice D3 d3.length e3)) t [.bool n2, .slice A2 a2.length c2, .slice D2 d2.length e2] (by simp [World.setCell]), (k.trip _ _ _).alloc _, ⟨(r2.trip k _ _ _).on b2, (q2.trip k _ _ _).on b2⟩, ⟨(r3.trip k _ _ _).on b2, (q3.trip k _ _ _).on b2⟩, keep_one (((K.setCell hg _).setCell hg _).setCell hg _) _⟩
theorem endC {W w3 : World} {t : TypeId} {A2 D2 A3 D3 : Option Addr} {a2 d2 a3 d3 : List Nat} {g g' : Nat} (k : Blk w3 g t [.bool false, .slice none 0 0, .slice none 0 0]) (k' : Blk w3 g' t [.bool false, .slice none 0 0, .slice none 0 0]) (hne : g ≠ g') (hg : W.heap.size ≤ g) (hg' : W.heap.size ≤ g') (K : Below W.heap.size W w3) (n2 : Bool) (c2 e2 : Nat) (r2 : Rd w3 (fun g => g < w3.heap.size) .u32 A2 a2) (q2 : Rd w3 (fun g => g < w3.heap.size) .u32 D2 d2) (n3 : Bool) (c3 e3 : Nat) (r3 : Rd w3 (fun g => g < w3.heap.size) .u32 A3 a3) (q3 : Rd w3 (fun g => g < w3.heap.size) .u32 D3 d3) : Blk ((((((w3.setCell ⟨g, 0, none⟩ (.bool n2)).setCell ⟨g, 1, none⟩ (.slice A2 a2.length c2)).setCell ⟨g, 2, none⟩ (.slice D2 d2.length e2)).setCell ⟨g', 0, none⟩ (.bool n3)).setCell ⟨g', 1, none⟩ (.slice A3 a3.length c3)).setCell ⟨g', 2, none⟩ (.slice D3 d3.length e3)) g t [.bool n2, .slice A2 a2.length c2, .slice D2 d2.length e2] ∧ Blk ((((((w3.setCell ⟨g, 0, none⟩ (.bool n2)).setCell ⟨g, 1, none⟩ (.slice A2 a2.length c2)).setCell ⟨g, 2, none⟩ (.slice D2 d2.length e2)).setCell ⟨g', 0, none⟩ (.bool n3)).setCell ⟨g', 1, none⟩ (.slice A3 a3.length c3)).setCell ⟨g', 2, none⟩ (.slice D3 d3.length e3)) g' t [.bool n3, .slice A3 a3.length c3, .slice D3 d3.length e3] ∧ (Rd ((((((w3.setCell ⟨g, 0, none⟩ (.bool n2)).setCell ⟨g, 1, none⟩ (.slice A2 a2.length c2)).setCell ⟨g, 2, none⟩ (.slice D2 d2.length e2)).setCell ⟨g', 0, none⟩ (.bool n3)).setCell ⟨g', 1, none⟩ (.slice A3 a3.length c3)).setCell ⟨g', 2, none⟩ (.slice D3 d3.length e3)) (fun b => b < (((((((w3.setCell ⟨g, 0, none⟩ (.bool n2)).setCell ⟨g, 1, none⟩ (.slice A2 a2.length c2)).setCell ⟨g, 2, none⟩ (.slice D2 d2.length e2)).setCell ⟨g', 0, none⟩ (.bool n3)).setCell ⟨g', 1, none⟩ (.slice A3 a3.length c3)).setCell ⟨g', 2, none⟩ (.slice D3 d3.length e3))).heap.size) .u32 A2 a2 ∧ Rd ((((((w3.setCell ⟨g, 0, none⟩ (.bool n2)).setCell ⟨g, 1, none⟩ (.slice A2 a2.length c2)).setCell ⟨g, 2, none⟩ (.slice D2 d2.length e2)).setCell ⟨g', 0, none⟩ (.bool n3)).setCell ⟨g', 1, none⟩ (.slice A3 a3.length c3)).setCell ⟨g', 2, none⟩ (.slice D3 d3.length e3)) (fun b => b < (((((((w3.setCell ⟨g, 0, none⟩ (.bool n2)).setCell ⟨g, 1, none⟩ (.slice A2 a2.length c2)).setCell ⟨g, 2, none⟩ (.slice D2 d2.length e2)).setCell ⟨g', 0, none⟩ (.bool n3)).setCell ⟨g', 1, none⟩ (.slice A3 a3.length c3)).setCell ⟨g', 2, none⟩ (.slice D3 d3.length e3))).heap.size) .u32 D2 d2) ∧ (Rd ((((((w3.setCell ⟨g, 0, none⟩ (.bool n2)).setCell ⟨g, 1, none⟩ (.slice A2 a2.length c2)).setCell ⟨g, 2, none⟩ (.slice D2 d2.length e2)).setCell ⟨g', 0, none⟩ (.bool n3)).setCell ⟨g', 1, none⟩ (.slice A3 a3.length c3)).setCell ⟨g', 2, none⟩ (.slice D3 d3.length e3)) (fun b => b < (((((((w3.setCell ⟨g, 0, none⟩ (.bool n2)).setCell ⟨g, 1, none⟩ (.slice A2 a2.length c2)).setCell ⟨g, 2, none⟩ (.slice D2 d2.length e2)).setCell ⟨g', 0, none⟩ (.bool n3)).setCell ⟨g', 1, none⟩ (.slice A3 a3.length c3)).setCell ⟨g', 2, none⟩ (.slice D3 d3.length e3))).heap.size) .u32 A3 a3 ∧ Rd ((((((w3.setCell ⟨g, 0, none⟩ (.bool n2)).setCell ⟨g, 1, none⟩ (.slice A2 a2.length c2)).setCell ⟨g, 2, none⟩ (.slice D2 d2.length e2)).setCell ⟨g', 0, none⟩ (.bool n3)).setCell ⟨g', 1, none⟩ (.slice A3 a3.length c3)).setCell ⟨g', 2, none⟩ (.slice D3 d3.length e3)) (fun b => b < (((((((w3.setCell ⟨g, 0, none⟩ (.bool n2)).setCell ⟨g, 1, none⟩ (.slice A2 a2.length c2)).setCell ⟨g, 2, none⟩ (.slice D2 d2.length e2)).setCell ⟨g', 0, none⟩ (.bool n3)).setCell ⟨g', 1, none⟩ (.slice A3 a3.length c3)).setCell ⟨g', 2, none⟩ (.slice D3 d3.length e3))).heap.size) .u32 D3 d3) ∧ Below W.heap.size W ((((((w3.setCell ⟨g, 0, none⟩ (.bool n2)).setCell ⟨g, 1, none⟩ (.slice A2 a2.length c2)).setCell ⟨g, 2, none⟩ (.slice D2 d2.length e2)).setCell ⟨g', 0, none⟩ (.bool n3)).setCell ⟨g', 1, none⟩ (.slice A3 a3.length c3)).setCell ⟨g', 2, none⟩ (.slice D3 d3.length e3)) := by
  have K1 := k.trip (.bool n2) (.slice A2 a2.length c2) (.slice D2 d2.length e2)
  have K2 := ((k'.far (p := ⟨g, 0, none⟩) (Ne.symm hne) (.bool n2)).far (p := ⟨g, 1, none⟩) (Ne.symm hne) (.slice A2 a2.length c2)).far (p := ⟨g, 2, none⟩) (Ne.symm hne) (.slice D2 d2.length e2)
  exact ⟨((K1.far (p := ⟨g', 0, none⟩) hne _).far (p := ⟨g', 1, none⟩) hne _).far (p := ⟨g', 2, none⟩) hne _, K2.trip _ _ _, ⟨(r2.trip k _ _ _).trip K2 _ _ _, (q2.trip k _ _ _).trip K2 _ _ _⟩, ⟨(r3.trip k _ _ _).trip K2 _ _ _, (q3.trip k _ _ _).trip K2 _ _ _⟩, (((((K.setCell hg _).setCell hg _).setCell hg _).setCell hg' _).setCell hg' _).setCell hg' _⟩

end Go.Proofs.YtngnclibeccplaaDoor
/- Fractions: what the program's own Sign, Cmp and Whole answer. -/

namespace Go.Proofs.YtngnclibeccplaaDoor
open Go.RowKit Num

end Go.Proofs.YtngnclibeccplaaDoor
/- Spots: boxes of six cells, shapes of what is handed in and out. -/

namespace Go.Proofs.YtngnclibeccplaaDoor
open Go.RowKit Num

/-- a cell's facts of six -/
theorem Blk.facts6 {w : World} {g : Nat} {t : TypeId} {a0 a1 a2 a3 a4 a5 : Value} (h : Blk w g t [a0, a1, a2, a3, a4, a5]) : (w.cell? ⟨g, 0, none⟩ = some a0 ∧ w.cell? ⟨g, 1, none⟩ = some a1 ∧ w.cell? ⟨g, 2, none⟩ = some a2 ∧ w.cell? ⟨g, 3, none⟩ = some a3 ∧ w.cell? ⟨g, 4, none⟩ = some a4 ∧ w.cell? ⟨g, 5, none⟩ = some a5) ∧ (w.frozen? ⟨g, 0, none⟩ = false ∧ w.frozen? ⟨g, 1, none⟩ = false ∧ w.frozen? ⟨g, 2, none⟩ = false ∧ w.frozen? ⟨g, 3, none⟩ = false ∧ w.frozen? ⟨g, 4, none⟩ = false ∧ w.frozen? ⟨g, 5, none⟩ = false) :=
  ⟨⟨h.cell 0 rfl, h.cell 1 rfl, h.cell 2 rfl, h.cell 3 rfl, h.cell 4 rfl, h.cell 5 rfl⟩, h.frozen 0, h.frozen 1, h.frozen 2, h.frozen 3, h.frozen 4, h.frozen 5⟩
theorem kept6 {W V : World} {g : Nat} {t : TypeId} {a0 a1 a2 a3 a4 a5 : Value} (k : Blk W g t [a0, a1, a2, a3, a4, a5]) (hb : Below W.heap.size W V) : V.cell? ⟨g, 0, none⟩ = some a0 ∧ V.cell? ⟨g, 1, none⟩ = some a1 ∧ V.cell? ⟨g, 2, none⟩ = some a2 ∧ V.cell? ⟨g, 3, none⟩ = some a3 ∧ V.cell? ⟨g, 4, none⟩ = some a4 ∧ V.cell? ⟨g, 5, none⟩ = some a5 := (k.on hb).facts6.1
/-- words that are read stay when a block's cells are stored that holds no integers -/
theorem Num.Rd.off {w U : World} {g : Nat} {t : TypeId} {vs : List Value} {k : IntKind} {A : Option Addr} {xs : List Nat} (h : Rd w (fun g => g < w.heap.size) k A xs) (f : Blk w g t vs) (hv : ∀ v ∈ vs, ∀ kk n, v ≠ .int kk n) (hU : ∀ b, b ≠ g → U.heap[b]? = w.heap[b]?) (hs : w.heap.size ≤ U.heap.size) : Rd U (fun g => g < U.heap.size) k A xs := fun hn => by
  obtain ⟨b, o, e, hb, hc⟩ := h hn
  have hne : b ≠ g := by
    rintro rfl
    have h0 := hc 0 hn
    rw [cell_of_row _ _ _ _ _ _ f] at h0
    have hm : (Value.int k (xs[0] : Int)) ∈ vs := by
      have := List.mem_of_getElem? (by simpa using h0 : vs[o]? = some (Value.int k (xs[0] : Int)))
      exact this
    exact hv _ hm _ _ rfl
  refine ⟨b, o, e, Nat.lt_of_lt_of_le hb hs, fun j hj => ?_⟩
  rw [← hc j hj]
  exact World.cell?_of_block (hU b hne)
theorem heap_six (w : World) (g : Nat) (u0 u1 u2 u3 u4 u5 : Value) (b : Nat) (hb : b ≠ g) : ((((((w.setCell ⟨g, 0, none⟩ u0).setCell ⟨g, 1, none⟩ u1).setCell ⟨g, 2, none⟩ u2).setCell ⟨g, 3, none⟩ u3).setCell ⟨g, 4, none⟩ u4).setCell ⟨g, 5, none⟩ u5).heap[b]? = w.heap[b]? :=
  (Below.heap_setCell _ _ u5 b hb).trans ((Below.heap_setCell _ _ u4 b hb).trans ((Below.heap_setCell _ _ u3 b hb).trans ((Below.heap_setCell _ _ u2 b hb).trans ((Below.heap_setCell _ _ u1 b hb).trans (Below.heap_setCell _ _ u0 b hb)))))
theorem Blk.six {w : World} {g : Nat} {t : TypeId} {a0 a1 a2 a3 a4 a5 : Value} (h : Blk w g t [a0, a1, a2, a3, a4, a5]) (u0 u1 u2 u3 u4 u5 : Value) : Blk ((((((w.setCell ⟨g, 0, none⟩ u0).setCell ⟨g, 1, none⟩ u1).setCell ⟨g, 2, none⟩ u2).setCell ⟨g, 3, none⟩ u3).setCell ⟨g, 4, none⟩ u4).setCell ⟨g, 5, none⟩ u5) g t [u0, u1, u2, u3, u4, u5] :=
  (((((h.set 0 u0).set 1 u1).set 2 u2).set 3 u3).set 4 u4).set 5 u5
theorem size_six (w : World) (g : Nat) (u0 u1 u2 u3 u4 u5 : Value) : ((((((w.setCell ⟨g, 0, none⟩ u0).setCell ⟨g, 1, none⟩ u1).setCell ⟨g, 2, none⟩ u2).setCell ⟨g, 3, none⟩ u3).setCell ⟨g, 4, none⟩ u4).setCell ⟨g, 5, none⟩ u5).heap.size = w.heap.size := by simp [World.setCell]
theorem below_six {B : Nat} {a w : World} (h : Below B a w) {g : Nat} (hg : B ≤ g) (u0 u1 u2 u3 u4 u5 : Value) : Below B a ((((((w.setCell ⟨g, 0, none⟩ u0).setCell ⟨g, 1, none⟩ u1).setCell ⟨g, 2, none⟩ u2).setCell ⟨g, 3, none⟩ u3).setCell ⟨g, 4, none⟩ u4).setCell ⟨g, 5, none⟩ u5) :=
  (((((h.setCell (p := ⟨g, 0, none⟩) hg u0).setCell (p := ⟨g, 1, none⟩) hg u1).setCell (p := ⟨g, 2, none⟩) hg u2).setCell (p := ⟨g, 3, none⟩) hg u3).setCell (p := ⟨g, 4, none⟩) hg u4).setCell (p := ⟨g, 5, none⟩) hg u5
theorem no_ints {x y : Bool} {p q r s : Option Addr} {i0 i1 i2 i3 i4 i5 i6 i7 : Nat} : ∀ v ∈ [Value.bool x, .slice p i0 i1, .slice q i2 i3, .bool y, .slice r i4 i5, .slice s i6 i7], ∀ kk n, v ≠ .int kk n := by
  intro v hv kk n h
  subst h
  simp at hv
theorem Num.Rd.six {w : World} {g : Nat} {t : TypeId} {x y : Bool} {p q r s : Option Addr} {i0 i1 i2 i3 i4 i5 i6 i7 : Nat} {k : IntKind} {A : Option Addr} {xs : List Nat} (h : Rd w (fun g => g < w.heap.size) k A xs) (f : Blk w g t [.bool x, .slice p i0 i1, .slice q i2 i3, .bool y, .slice r i4 i5, .slice s i6 i7]) (u0 u1 u2 u3 u4 u5 : Value) : Rd ((((((w.setCell ⟨g, 0, none⟩ u0).setCell ⟨g, 1, none⟩ u1).setCell ⟨g, 2, none⟩ u2).setCell ⟨g, 3, none⟩ u3).setCell ⟨g, 4, none⟩ u4).setCell ⟨g, 5, none⟩ u5) (fun b => b < ((((((w.setCell ⟨g, 0, none⟩ u0).setCell ⟨g, 1, none⟩ u1).setCell ⟨g, 2, none⟩ u2).setCell ⟨g, 3, none⟩ u3).setCell ⟨g, 4, none⟩ u4).setCell ⟨g, 5, none⟩ u5).heap.size) k A xs :=
  h.off f no_ints (fun b hb => heap_six w g u0 u1 u2 u3 u4 u5 b hb) (Nat.le_of_eq (size_six w g u0 u1 u2 u3 u4 u5).symm)

/-- a spot that a call hands back -/
def Gs (S T : Shape) (w : World) (e : Ending) (w' : World) : Prop :=
  ∃ n1 a1 A1 c1 d1 D1 e1 n2 a2 A2 c2 d2 D2 e2, e = .returned (.agg #[.bool n1, .slice A1 a1.length c1, .slice D1 d1.length e1, .bool n2, .slice A2 a2.length c2, .slice D2 d2.length e2]) ∧ (S n1 a1 c1 d1 e1 ∧ T n2 a2 c2 d2 e2) ∧
    (Rd w' (fun g => g < w'.heap.size) .u32 A1 a1 ∧ Rd w' (fun g => g < w'.heap.size) .u32 D1 d1) ∧ (Rd w' (fun g => g < w'.heap.size) .u32 A2 a2 ∧ Rd w' (fun g => g < w'.heap.size) .u32 D2 d2) ∧ Below w.heap.size w w'
theorem Gs.imp {S T S' T' : Shape} {w w' : World} {e : Ending} (hs : ∀ n a ca d cd, S n a ca d cd → S' n a ca d cd) (ht : ∀ n a ca d cd, T n a ca d cd → T' n a ca d cd) (h : Gs S T w e w') : Gs S' T' w e w' := by
  obtain ⟨n1, a1, A1, c1, d1, D1, e1, n2, a2, A2, c2, d2, D2, e2, rfl, h1, h2⟩ := h
  exact ⟨n1, a1, A1, c1, d1, D1, e1, n2, a2, A2, c2, d2, D2, e2, rfl, ⟨hs _ _ _ _ _ h1.1, ht _ _ _ _ _ h1.2⟩, h2⟩
/-- a spot stored where the result lies -/
theorem fin_spot {w v : World} {g : Nat} {t : TypeId} (k : Blk v g t [.bool false, .slice none 0 0, .slice none 0 0, .bool false, .slice none 0 0, .slice none 0 0]) (hg : w.heap.size ≤ g) (B : Below w.heap.size w v) {S T : Shape} {n1 n2 : Bool} {A1 D1 A2 D2 : Option Addr} {a1 d1 a2 d2 : List Nat} {c1 e1 c2 e2 : Nat} (hs : S n1 a1 c1 d1 e1) (ht : T n2 a2 c2 d2 e2) (r1 : Rd v (fun g => g < v.heap.size) .u32 A1 a1) (q1 : Rd v (fun g => g < v.heap.size) .u32 D1 d1) (r2 : Rd v (fun g => g < v.heap.size) .u32 A2 a2) (q2 : Rd v (fun g => g < v.heap.size) .u32 D2 d2) :
    ∃ U, ((((((v.setCell ⟨g, 0, none⟩ (.bool n1)).setCell ⟨g, 1, none⟩ (.slice A1 a1.length c1)).setCell ⟨g, 2, none⟩ (.slice D1 d1.length e1)).setCell ⟨g, 3, none⟩ (.bool n2)).setCell ⟨g, 4, none⟩ (.slice A2 a2.length c2)).setCell ⟨g, 5, none⟩ (.slice D2 d2.length e2)) = U ∧ (U.cell? ⟨g, 0, none⟩ = some (.bool n1) ∧ U.cell? ⟨g, 1, none⟩ = some (.slice A1 a1.length c1) ∧ U.cell? ⟨g, 2, none⟩ = some (.slice D1 d1.length e1) ∧ U.cell? ⟨g, 3, none⟩ = some (.bool n2) ∧ U.cell? ⟨g, 4, none⟩ = some (.slice A2 a2.length c2) ∧ U.cell? ⟨g, 5, none⟩ = some (.slice D2 d2.length e2)) ∧ Gs S T w (.returned (.agg #[.bool n1, .slice A1 a1.length c1, .slice D1 d1.length e1, .bool n2, .slice A2 a2.length c2, .slice D2 d2.length e2])) U := by
  have K := k.six (.bool n1) (.slice A1 a1.length c1) (.slice D1 d1.length e1) (.bool n2) (.slice A2 a2.length c2) (.slice D2 d2.length e2)
  exact ⟨_, rfl, K.facts6.1, n1, a1, A1, c1, d1, D1, e1, n2, a2, A2, c2, d2, D2, e2, rfl, ⟨hs, ht⟩, ⟨r1.six k _ _ _ _ _ _, q1.six k _ _ _ _ _ _⟩, ⟨r2.six k _ _ _ _ _ _, q2.six k _ _ _ _ _ _⟩, below_six B hg _ _ _ _ _ _⟩
/-- boxes -/
theorem bxa (w : World) (t : TypeId) (vs : List Value) : ∃ W, w.alloc (.cells vs.toArray t) = W ∧ Blk W w.heap.size t vs ∧ Below w.heap.size w W ∧ W.heap.size = w.heap.size + 1 :=
  ⟨_, rfl, Blk.new w t vs, below_one w _, by simp⟩
theorem bxb (w : World) (t t' : TypeId) (vs vs' : List Value) : ∃ W, (w.alloc (.cells vs.toArray t)).alloc (.cells vs'.toArray t') = W ∧ Blk W w.heap.size t vs ∧ Blk W (w.heap.size + 1) t' vs' ∧ Below w.heap.size w W ∧ W.heap.size = w.heap.size + 2 := by
  obtain ⟨V, hV, k, b, s⟩ := bxa w t vs
  rw [hV]
  exact ⟨_, rfl, k.alloc _, Blk.at_new V t' vs' (by rw [s]), b.trans ((below_one V _).mono (by omega)), by simp [s]⟩
theorem bxc (w : World) (t t' t'' : TypeId) (vs vs' vs'' : List Value) : ∃ W, ((w.alloc (.cells vs.toArray t)).alloc (.cells vs'.toArray t')).alloc (.cells vs''.toArray t'') = W ∧ Blk W w.heap.size t vs ∧ Blk W (w.heap.size + 1) t' vs' ∧ Blk W (w.heap.size + 1 + 1) t'' vs'' ∧ Below w.heap.size w W ∧ W.heap.size = w.heap.size + 3 := by
  obtain ⟨V, hV, k, k', b, s⟩ := bxb w t t' vs vs'
  rw [hV]
  exact ⟨_, rfl, k.alloc _, k'.alloc _, Blk.at_new V t'' vs'' (by rw [s]), b.trans ((below_one V _).mono (by omega)), by simp [s]⟩
theorem bxd (w : World) (t t' t'' t3 : TypeId) (vs vs' vs'' v3 : List Value) : ∃ W, (((w.alloc (.cells vs.toArray t)).alloc (.cells vs'.toArray t')).alloc (.cells vs''.toArray t'')).alloc (.cells v3.toArray t3) = W ∧ Blk W w.heap.size t vs ∧ Blk W (w.heap.size + 1) t' vs' ∧ Blk W (w.heap.size + 1 + 1) t'' vs'' ∧ Blk W (w.heap.size + 1 + 1 + 1) t3 v3 ∧ Below w.heap.size w W ∧ W.heap.size = w.heap.size + 4 := by
  obtain ⟨V, hV, k, k', k'', b, s⟩ := bxc w t t' t'' vs vs' vs''
  rw [hV]
  exact ⟨_, rfl, k.alloc _, k'.alloc _, k''.alloc _, Blk.at_new V t3 v3 (by rw [s]), b.trans ((below_one V _).mono (by omega)), by simp [s]⟩
/-- what lies elsewhere when six cells are stored -/
theorem Blk.off6 {v : World} {g g' : Nat} {t : TypeId} {vs : List Value} (k : Blk v g t vs) (hne : g ≠ g') (u0 u1 u2 u3 u4 u5 : Value) : Blk ((((((v.setCell ⟨g', 0, none⟩ u0).setCell ⟨g', 1, none⟩ u1).setCell ⟨g', 2, none⟩ u2).setCell ⟨g', 3, none⟩ u3).setCell ⟨g', 4, none⟩ u4).setCell ⟨g', 5, none⟩ u5) g t vs :=
  (((((k.far (p := ⟨g', 0, none⟩) hne u0).far (p := ⟨g', 1, none⟩) hne u1).far (p := ⟨g', 2, none⟩) hne u2).far (p := ⟨g', 3, none⟩) hne u3).far (p := ⟨g', 4, none⟩) hne u4).far (p := ⟨g', 5, none⟩) hne u5
theorem far66 {v : World} {g g' : Nat} {t : TypeId} {a0 a1 a2 a3 a4 a5 : Value} (k : Blk v g t [a0, a1, a2, a3, a4, a5]) (hne : g ≠ g') (u0 u1 u2 u3 u4 u5 : Value) : ((((((v.setCell ⟨g', 0, none⟩ u0).setCell ⟨g', 1, none⟩ u1).setCell ⟨g', 2, none⟩ u2).setCell ⟨g', 3, none⟩ u3).setCell ⟨g', 4, none⟩ u4).setCell ⟨g', 5, none⟩ u5).cell? ⟨g, 0, none⟩ = some a0 ∧ ((((((v.setCell ⟨g', 0, none⟩ u0).setCell ⟨g', 1, none⟩ u1).setCell ⟨g', 2, none⟩ u2).setCell ⟨g', 3, none⟩ u3).setCell ⟨g', 4, none⟩ u4).setCell ⟨g', 5, none⟩ u5).cell? ⟨g, 1, none⟩ = some a1 ∧ ((((((v.setCell ⟨g', 0, none⟩ u0).setCell ⟨g', 1, none⟩ u1).setCell ⟨g', 2, none⟩ u2).setCell ⟨g', 3, none⟩ u3).setCell ⟨g', 4, none⟩ u4).setCell ⟨g', 5, none⟩ u5).cell? ⟨g, 2, none⟩ = some a2 ∧ ((((((v.setCell ⟨g', 0, none⟩ u0).setCell ⟨g', 1, none⟩ u1).setCell ⟨g', 2, none⟩ u2).setCell ⟨g', 3, none⟩ u3).setCell ⟨g', 4, none⟩ u4).setCell ⟨g', 5, none⟩ u5).cell? ⟨g, 3, none⟩ = some a3 ∧ ((((((v.setCell ⟨g', 0, none⟩ u0).setCell ⟨g', 1, none⟩ u1).setCell ⟨g', 2, none⟩ u2).setCell ⟨g', 3, none⟩ u3).setCell ⟨g', 4, none⟩ u4).setCell ⟨g', 5, none⟩ u5).cell? ⟨g, 4, none⟩ = some a4 ∧ ((((((v.setCell ⟨g', 0, none⟩ u0).setCell ⟨g', 1, none⟩ u1).setCell ⟨g', 2, none⟩ u2).setCell ⟨g', 3, none⟩ u3).setCell ⟨g', 4, none⟩ u4).setCell ⟨g', 5, none⟩ u5).cell? ⟨g, 5, none⟩ = some a5 := (k.off6 hne u0 u1 u2 u3 u4 u5).facts6.1
theorem far36 {v : World} {g g' : Nat} {t : TypeId} {a0 a1 a2 : Value} (k : Blk v g t [a0, a1, a2]) (hne : g ≠ g') (u0 u1 u2 u3 u4 u5 : Value) : ((((((v.setCell ⟨g', 0, none⟩ u0).setCell ⟨g', 1, none⟩ u1).setCell ⟨g', 2, none⟩ u2).setCell ⟨g', 3, none⟩ u3).setCell ⟨g', 4, none⟩ u4).setCell ⟨g', 5, none⟩ u5).cell? ⟨g, 0, none⟩ = some a0 ∧ ((((((v.setCell ⟨g', 0, none⟩ u0).setCell ⟨g', 1, none⟩ u1).setCell ⟨g', 2, none⟩ u2).setCell ⟨g', 3, none⟩ u3).setCell ⟨g', 4, none⟩ u4).setCell ⟨g', 5, none⟩ u5).cell? ⟨g, 1, none⟩ = some a1 ∧ ((((((v.setCell ⟨g', 0, none⟩ u0).setCell ⟨g', 1, none⟩ u1).setCell ⟨g', 2, none⟩ u2).setCell ⟨g', 3, none⟩ u3).setCell ⟨g', 4, none⟩ u4).setCell ⟨g', 5, none⟩ u5).cell? ⟨g, 2, none⟩ = some a2 :=
  ⟨(k.off6 hne u0 u1 u2 u3 u4 u5).facts.1, (k.off6 hne u0 u1 u2 u3 u4 u5).facts.2.1, (k.off6 hne u0 u1 u2 u3 u4 u5).facts.2.2.1⟩
theorem far26 {v : World} {g g' : Nat} {t : TypeId} {a0 a1 : Value} (k : Blk v g t [a0, a1]) (hne : g ≠ g') (u0 u1 u2 u3 u4 u5 : Value) : ((((((v.setCell ⟨g', 0, none⟩ u0).setCell ⟨g', 1, none⟩ u1).setCell ⟨g', 2, none⟩ u2).setCell ⟨g', 3, none⟩ u3).setCell ⟨g', 4, none⟩ u4).setCell ⟨g', 5, none⟩ u5).cell? ⟨g, 0, none⟩ = some a0 ∧ ((((((v.setCell ⟨g', 0, none⟩ u0).setCell ⟨g', 1, none⟩ u1).setCell ⟨g', 2, none⟩ u2).setCell ⟨g', 3, none⟩ u3).setCell ⟨g', 4, none⟩ u4).setCell ⟨g', 5, none⟩ u5).cell? ⟨g, 1, none⟩ = some a1 :=
  ⟨(k.off6 hne u0 u1 u2 u3 u4 u5).facts2.1, (k.off6 hne u0 u1 u2 u3 u4 u5).facts2.2.1⟩
theorem kept2 {W V : World} {g : Nat} {t : TypeId} {a0 a1 : Value} (k : Blk W g t [a0, a1]) (hb : Below W.heap.size W V) : V.cell? ⟨g, 0, none⟩ = some a0 ∧ V.cell? ⟨g, 1, none⟩ = some a1 := ⟨(k.on hb).facts2.1, (k.on hb).facts2.2.1⟩
/-- a call's contract, in shapes: of three -/
abbrev Fn3 (f : FuncId) (S1 S2 S3 T : Shape) : Prop := ∀ (n1 n2 n3 : Bool) (a1 d1 a2 d2 a3 d3 : List Nat) (A1 D1 A2 D2 A3 D3 : Option Addr) (c1 e1 c2 e2 c3 e3 : Nat) (w : World), S1 n1 a1 c1 d1 e1 → S2 n2 a2 c2 d2 e2 → S3 n3 a3 c3 d3 e3 → Rd w (fun g => g < w.heap.size) .u32 A1 a1 → Rd w (fun g => g < w.heap.size) .u32 D1 d1 → Rd w (fun g => g < w.heap.size) .u32 A2 a2 → Rd w (fun g => g < w.heap.size) .u32 D2 d2 → Rd w (fun g => g < w.heap.size) .u32 A3 a3 → Rd w (fun g => g < w.heap.size) .u32 D3 d3 → Calls Tryd.prog f #[.agg #[.bool n1, .slice A1 a1.length c1, .slice D1 d1.length e1], .agg #[.bool n2, .slice A2 a2.length c2, .slice D2 d2.length e2], .agg #[.bool n3, .slice A3 a3.length c3, .slice D3 d3.length e3]] w (Gv T w)
theorem Blk.off3 {v : World} {g g' : Nat} {t : TypeId} {vs : List Value} (k : Blk v g t vs) (hne : g ≠ g') (u0 u1 u2 : Value) : Blk (((v.setCell ⟨g', 0, none⟩ u0).setCell ⟨g', 1, none⟩ u1).setCell ⟨g', 2, none⟩ u2) g t vs :=
  ((k.far (p := ⟨g', 0, none⟩) hne u0).far (p := ⟨g', 1, none⟩) hne u1).far (p := ⟨g', 2, none⟩) hne u2
theorem far33 {v : World} {g g' : Nat} {t : TypeId} {a0 a1 a2 : Value} (k : Blk v g t [a0, a1, a2]) (hne : g ≠ g') (u0 u1 u2 : Value) : (((v.setCell ⟨g', 0, none⟩ u0).setCell ⟨g', 1, none⟩ u1).setCell ⟨g', 2, none⟩ u2).cell? ⟨g, 0, none⟩ = some a0 ∧ (((v.setCell ⟨g', 0, none⟩ u0).setCell ⟨g', 1, none⟩ u1).setCell ⟨g', 2, none⟩ u2).cell? ⟨g, 1, none⟩ = some a1 ∧ (((v.setCell ⟨g', 0, none⟩ u0).setCell ⟨g', 1, none⟩ u1).setCell ⟨g', 2, none⟩ u2).cell? ⟨g, 2, none⟩ = some a2 :=
  ⟨(k.off3 hne u0 u1 u2).facts.1, (k.off3 hne u0 u1 u2).facts.2.1, (k.off3 hne u0 u1 u2).facts.2.2.1⟩
theorem far63 {v : World} {g g' : Nat} {t : TypeId} {a0 a1 a2 a3 a4 a5 : Value} (k : Blk v g t [a0, a1, a2, a3, a4, a5]) (hne : g ≠ g') (u0 u1 u2 : Value) : (((v.setCell ⟨g', 0, none⟩ u0).setCell ⟨g', 1, none⟩ u1).setCell ⟨g', 2, none⟩ u2).cell? ⟨g, 0, none⟩ = some a0 ∧ (((v.setCell ⟨g', 0, none⟩ u0).setCell ⟨g', 1, none⟩ u1).setCell ⟨g', 2, none⟩ u2).cell? ⟨g, 1, none⟩ = some a1 ∧ (((v.setCell ⟨g', 0, none⟩ u0).setCell ⟨g', 1, none⟩ u1).setCell ⟨g', 2, none⟩ u2).cell? ⟨g, 2, none⟩ = some a2 ∧ (((v.setCell ⟨g', 0, none⟩ u0).setCell ⟨g', 1, none⟩ u1).setCell ⟨g', 2, none⟩ u2).cell? ⟨g, 3, none⟩ = some a3 ∧ (((v.setCell ⟨g', 0, none⟩ u0).setCell ⟨g', 1, none⟩ u1).setCell ⟨g', 2, none⟩ u2).cell? ⟨g, 4, none⟩ = some a4 ∧ (((v.setCell ⟨g', 0, none⟩ u0).setCell ⟨g', 1, none⟩ u1).setCell ⟨g', 2, none⟩ u2).cell? ⟨g, 5, none⟩ = some a5 := (k.off3 hne u0 u1 u2).facts6.1
end Go.Proofs.YtngnclibeccplaaDoor
/- Spots, the program's own: what counted, times, gap and product answer. -/

namespace Go.Proofs.YtngnclibeccplaaDoor
open Go.RowKit Num

set_option maxRecDepth 10000 in
set_option maxHeartbeats 800000 in
/-- a fraction as it counts -/
theorem spot_counted (P : Int) (Q m : Nat) (hm1 : 1 ≤ m) (hm : m ≤ 4194304) : Fn1 55 (SI P Q m) (SH P Q m) := by
  intro n a d A D ca cd w hS h h'
  obtain ⟨hc, hc', ha, hd, hl, hl', hP, hQ⟩ := hS
  obtain ⟨z, hb⟩ := isBits_some (val 4294967296 d)
  obtain ⟨W, hW, k1, k2, b0, s0⟩ := bx2 w 74 74 (.bool n) (.slice A a.length ca) (.slice D d.length cd) (.bool false) (.slice none 0 0) (.slice none 0 0)
  obtain ⟨p0, p1, p2, -, -, -⟩ := k1.facts
  obtain ⟨i0, i1, i2, i3, i4, i5⟩ := k2.facts
  have cB := nat_Bits_at d D cd z W (h'.on b0) (by omega) hc' hd hb
  have hzi := isBits_zero_iff hb
  clear hb
  by_cases hz : z = 0
  · subst hz
    have hv : val 4294967296 d = 0 := hzi.1 rfl
    have HP := Lib.hid (show P = 0 by rw [← hP]; unfold upN; rw [if_pos hv])
    have HQ := Lib.hid (show Q = 1 by rw [← hQ]; unfold loD; rw [if_pos hv])
    have cI := fun (V : World) => frac_Int 0 (by omega) (by omega) V
    clear hzi hv hP hQ
    go_enter Tryd.func55, Tryd.ntmps55
    go_wp2_with fail
    try rw [hW]
    clear hW
    refine cB.mono ?_
    rintro e w1 ⟨rfl, rfl⟩
    clear cB
    go_wp2_with fail
    refine (cI _).mono ?_
    rintro e w2 ⟨n2, a2, A2, c2, d2, D2, e2, rfl, hs, r, q, b2⟩
    obtain ⟨rfl, rfl, rfl⟩ := nought_words hs
    have K := k2.below b2 k2.lt
    have B := b0.trans (b2.mono b0.size)
    obtain ⟨j0, j1, j2, j3, j4, j5⟩ := K.facts
    obtain ⟨Z, hZ, u0, u1, u2, hG⟩ := fin_any (S := SH P Q m) (w := w) K (by omega) B (n := false) (a := []) (d := [1]) (ca := c2) (cd := e2) (A := A2) (D := D2) ⟨by simp, hs.2.2.1, Dg.nil _, dg_one (by omega), by simp, by simpa using hm1, by rw [HP.out]; rfl, by rw [HQ.out]; rfl⟩ r q
    simp only [List.length_nil, List.length_singleton] at hZ u1 u2 hG
    have HZ := Lib.hid hZ
    have HF := Lib.hid (And.intro u0 (And.intro u1 u2))
    have HG := Lib.hid hG
    clear hZ u0 u1 u2 hG cI k1 k2 K r q b2 B hs i0 i1 i2 i3 i4 i5
    go_wp2_with fail
    rw [HZ.out]
    obtain ⟨u0, u1, u2⟩ := HF.out
    exact bodyPost_ret (by simp [results, Tryd.results55, go_sem, u0, u1, u2]) rfl HG.out
  · have hv : ¬ val 4294967296 d = 0 := fun h => hz (hzi.2 h)
    have hP' : wv n a = P := by rw [← hP]; unfold upN; rw [if_neg hv]
    have hQ' : val 4294967296 d = Q := by rw [← hQ]; unfold loD; rw [if_neg hv]
    have hzb : ((z : Int) == 0) = false := by simp; omega
    obtain ⟨Z, hZ, u0, u1, u2, hG⟩ := fin_any (S := SH P Q m) (w := w) k2 (by omega) b0 (n := n) (a := a) (d := d) (ca := ca) (cd := cd) (A := A) (D := D) ⟨hc, hc', ha, hd, hl, hl', hP', hQ'⟩ (h.on b0) (h'.on b0)
    have HZ := Lib.hid hZ
    have HF := Lib.hid (And.intro u0 (And.intro u1 u2))
    have HG := Lib.hid hG
    clear hZ u0 u1 u2 hG hP' hQ' hP hQ hv hzi k1 k2
    go_enter Tryd.func55, Tryd.ntmps55
    go_wp2_with fail
    try rw [hW]
    clear hW
    refine cB.mono ?_
    rintro e w1 ⟨rfl, rfl⟩
    clear cB
    go_wp2_with fail
    rw [HZ.out]
    obtain ⟨u0, u1, u2⟩ := HF.out
    exact bodyPost_ret (by simp [results, Tryd.results55, go_sem, u0, u1, u2]) rfl HG.out

/-- a whole number of value N, of at most k words -/
def HW (N : Int) (k : Nat) (n : Bool) (a : List Nat) (ca : Nat) : Prop := a.length ≤ ca ∧ Dg 4294967296 a ∧ a.length ≤ k ∧ wv n a = N
def HD (D k : Nat) (d : List Nat) (cd : Nat) : Prop := d.length ≤ cd ∧ Dg 4294967296 d ∧ d.length ≤ k ∧ val 4294967296 d = D
def GvW (N : Int) (k : Nat) (w : World) (e : Ending) (w' : World) : Prop :=
  ∃ n a A c, e = .returned (.agg #[.bool n, .slice A a.length c]) ∧ HW N k n a c ∧ Rd w' (fun g => g < w'.heap.size) .u32 A a ∧ Below w.heap.size w w'
theorem gvw_of {N : Int} {k : Nat} {w w' : World} {e : Ending} (hN : N.natAbs < 4294967296 ^ k) (h : GivesW N w e w') : GvW N k w e w' := by
  obtain ⟨A, xs, c, rfl, hc, hn, hv, r, b⟩ := h
  exact ⟨_, xs, A, c, rfl, ⟨hc, hn.1, hn.2.length_le (b := 4294967296) (by omega) (by rw [hv]; exact hN), wv_dec hv⟩, r, b⟩
theorem HW.lt {N : Int} {k : Nat} {n : Bool} {a : List Nat} {ca : Nat} (h : HW N k n a ca) : N.natAbs < 4294967296 ^ k := by
  rw [← h.2.2.2, wv_abs]
  exact Nat.lt_of_lt_of_le (val_lt h.2.1) (Nat.pow_le_pow_right (by omega) h.2.2.1)
theorem HD.lt {D k : Nat} {d : List Nat} {cd : Nat} (h : HD D k d cd) : D < 4294967296 ^ k := by
  rw [← h.2.2.2]
  exact Nat.lt_of_lt_of_le (val_lt h.2.1) (Nat.pow_le_pow_right (by omega) h.2.2.1)
theorem mulI_lt {M N : Int} {i j k : Nat} (h : M.natAbs < 4294967296 ^ i) (h' : N.natAbs < 4294967296 ^ j) (hk : i + j ≤ k) : (M * N).natAbs < 4294967296 ^ k := by
  rw [Int.natAbs_mul]
  exact prod_lt h (Nat.le_of_lt h') hk
/-- a whole number stored where the result lies -/
theorem fin_gvw {w v : World} {g : Nat} {t : TypeId} (k : Blk v g t [.bool false, .slice none 0 0]) (hg : w.heap.size ≤ g) (B : Below w.heap.size w v) {N : Int} {m : Nat} {n : Bool} {A : Option Addr} {a : List Nat} {c : Nat} (hs : HW N m n a c) (r : Rd v (fun g => g < v.heap.size) .u32 A a) :
    ∃ U, (v.setCell ⟨g, 0, none⟩ (.bool n)).setCell ⟨g, 1, none⟩ (.slice A a.length c) = U ∧ (U.cell? ⟨g, 0, none⟩ = some (.bool n) ∧ U.cell? ⟨g, 1, none⟩ = some (.slice A a.length c)) ∧ GvW N m w (.returned (.agg #[.bool n, .slice A a.length c])) U := by
  have K := k.pair (.bool n) (.slice A a.length c)
  exact ⟨_, rfl, ⟨K.cell 0 rfl, K.cell 1 rfl⟩, n, a, A, c, rfl, hs, r.far2 k _ _, (B.setCell (p := ⟨g, 0, none⟩) hg _).setCell (p := ⟨g, 1, none⟩) hg _⟩
/-- the product of two wholes -/
theorem whole_mul_hw {M N : Int} {i j : Nat} {n n' : Bool} {a b : List Nat} {A B : Option Addr} {ca cb : Nat} (hi : i ≤ 1073741824) (hj : j ≤ 1073741824) (ha : HW M i n a ca) (hb : HW N j n' b cb) (w : World) (r : Rd w (fun g => g < w.heap.size) .u32 A a) (q : Rd w (fun g => g < w.heap.size) .u32 B b) :
    Calls Tryd.prog 57 #[.agg #[.bool n, .slice A a.length ca], .agg #[.bool n', .slice B b.length cb]] w (GvW (M * N) (i + j) w) := by
  have h := whole_Mul n n' a b A B ca cb w r q (Nat.le_trans ha.2.2.1 hi) (Nat.le_trans hb.2.2.1 hj) ha.1 hb.1 ha.2.1 hb.2.1
  rw [ha.2.2.2, hb.2.2.2] at h
  exact h.mono fun _ _ => gvw_of (mulI_lt ha.lt hb.lt (Nat.le_refl _))
theorem whole_sub_hw {M N : Int} {i j : Nat} {n n' : Bool} {a b : List Nat} {A B : Option Addr} {ca cb : Nat} (k : Nat) (hi : i ≤ 1073741824) (hj : j ≤ 1073741824) (hk : i ≤ k) (hk' : j ≤ k) (ha : HW M i n a ca) (hb : HW N j n' b cb) (w : World) (r : Rd w (fun g => g < w.heap.size) .u32 A a) (q : Rd w (fun g => g < w.heap.size) .u32 B b) :
    Calls Tryd.prog 58 #[.agg #[.bool n, .slice A a.length ca], .agg #[.bool n', .slice B b.length cb]] w (GvW (M - N) (k + 1) w) := by
  have h := whole_Sub n n' a b A B ca cb w r q (Nat.le_trans ha.2.2.1 hi) (Nat.le_trans hb.2.2.1 hj) ha.1 hb.1 ha.2.1 hb.2.1
  rw [ha.2.2.2, hb.2.2.2] at h
  refine h.mono fun _ _ => gvw_of ?_
  have e1 := Nat.lt_of_lt_of_le ha.lt (Nat.pow_le_pow_right (n := 4294967296) (by omega) hk)
  have e2 := Nat.lt_of_lt_of_le hb.lt (Nat.pow_le_pow_right (n := 4294967296) (by omega) hk')
  have e3 := Int.natAbs_sub_le M N
  rw [Nat.pow_succ]
  omega
theorem HD.toW {D k : Nat} {d : List Nat} {cd : Nat} (h : HD D k d cd) : HW (D : Int) k false d cd := ⟨h.1, h.2.1, h.2.2.1, by rw [wv_false, h.2.2.2]⟩

set_option maxRecDepth 10000 in
set_option maxHeartbeats 800000 in
/-- a whole number times a natural one -/
theorem spot_times {N : Int} {D i j : Nat} {n : Bool} {a d : List Nat} {A X : Option Addr} {ca cd : Nat} (hi : i ≤ 536870912) (hj : j ≤ 536870912) (ha : HW N i n a ca) (hd : HD D j d cd) (w : World) (h : Rd w (fun g => g < w.heap.size) .u32 A a) (h' : Rd w (fun g => g < w.heap.size) .u32 X d) :
    Calls Tryd.prog 56 #[.agg #[.bool n, .slice A a.length ca], .slice X d.length cd] w (GvW (N * (D : Int)) (i + j) w) := by
  obtain ⟨z, hb⟩ := isBits_some (val 4294967296 d)
  obtain ⟨W, hW, k1, k2, b0, s0⟩ := bxb w 72 72 [.bool n, .slice A a.length ca] [.bool false, .slice none 0 0]
  obtain ⟨p0, p1, -, -⟩ := k1.facts2
  obtain ⟨i0, i1, i2, i3⟩ := k2.facts2
  have cB := nat_Bits_at d X cd z W (h'.on b0) (by have := hd.2.2.1; omega) hd.1 hd.2.1 hb
  have hzi := isBits_one_iff hb
  clear hb
  by_cases hz : z = 1
  · subst hz
    have hD : D = 1 := by rw [← hd.2.2.2]; exact hzi.1 rfl
    subst hD
    obtain ⟨U, hU, hF, hG⟩ := fin_gvw (w := w) k2 (by omega) b0 (show HW (N * ((1 : Nat) : Int)) (i + j) n a ca from ⟨ha.1, ha.2.1, Nat.le_trans ha.2.2.1 (by omega), by rw [ha.2.2.2]; simp⟩) (h.on b0)
    have HU := Lib.hid hU
    have HF := Lib.hid hF
    have HG := Lib.hid hG
    clear hU hF hG hzi k1 k2 ha hd
    go_enter Tryd.func56, Tryd.ntmps56
    go_wp2_with fail
    try rw [hW]
    clear hW
    refine cB.mono ?_
    rintro e w1 ⟨rfl, rfl⟩
    clear cB
    go_wp2_with fail
    rw [HU.out]
    obtain ⟨u0, u1⟩ := HF.out
    exact bodyPost_ret (by simp [results, Tryd.results56, go_sem, u0, u1]) rfl HG.out
  · have hzb : ((z : Int) == 1) = false := by simp; omega
    have cM := fun (V : World) (hV : Below W.heap.size W V) => whole_mul_hw (by omega) (by omega) ha hd.toW V ((h.on b0).on hV) ((h'.on b0).on hV)
    obtain ⟨M, hM⟩ : ∃ M, N * (D : Int) = M := ⟨_, rfl⟩
    simp only [hM] at cM
    rw [hM]
    clear hM hzi ha hd
    go_enter Tryd.func56, Tryd.ntmps56
    go_wp2_with fail
    try rw [hW]
    clear hW
    refine cB.mono ?_
    rintro e w1 ⟨rfl, rfl⟩
    clear cB
    go_wp2_with fail
    refine (cM _ (Below.refl _ _)).mono ?_
    rintro e w2 ⟨n2, a2, A2, c2, rfl, hs, r, b2⟩
    have K := k2.below b2 k2.lt
    obtain ⟨i0, i1, i2, i3⟩ := K.facts2
    obtain ⟨U, hU, hF, hG⟩ := fin_gvw (w := w) K (by omega) (b0.trans (b2.mono b0.size)) hs r
    have HU := Lib.hid hU
    have HF := Lib.hid hF
    have HG := Lib.hid hG
    clear hU hF hG k1 k2 K cM hs r
    go_wp2_with fail
    rw [HU.out]
    obtain ⟨u0, u1⟩ := HF.out
    exact bodyPost_ret (by simp [results, Tryd.results56, go_sem, u0, u1]) rfl HG.out

set_option maxRecDepth 10000 in
set_option maxHeartbeats 800000 in
/-- a product of two whole numbers and two natural ones -/
theorem spot_product {M N : Int} {D E i j k l : Nat} {n n' : Bool} {a a' d d' : List Nat} {A A' X X' : Option Addr} {ca ca' cd cd' : Nat} (hs : i + j + k + l ≤ 134217728) (ha : HW M i n a ca) (ha' : HW N j n' a' ca') (hd : HD D k d cd) (hd' : HD E l d' cd') (w : World) (h : Rd w (fun g => g < w.heap.size) .u32 A a) (h' : Rd w (fun g => g < w.heap.size) .u32 A' a') (q : Rd w (fun g => g < w.heap.size) .u32 X d) (q' : Rd w (fun g => g < w.heap.size) .u32 X' d') :
    Calls Tryd.prog 49 #[.agg #[.bool n, .slice A a.length ca], .agg #[.bool n', .slice A' a'.length ca'], .slice X d.length cd, .slice X' d'.length cd'] w (GvW (M * N * (D : Int) * (E : Int)) (i + j + k + l) w) := by
  obtain ⟨W, hW, k1, k2, k3, b0, s0⟩ := bxc w 72 72 72 [.bool n, .slice A a.length ca] [.bool n', .slice A' a'.length ca'] [.bool false, .slice none 0 0]
  obtain ⟨p0, p1, -, -⟩ := k1.facts2
  obtain ⟨z0, z1, -, -⟩ := k2.facts2
  have cM := whole_mul_hw (by omega) (by omega) ha ha' W (h.on b0) (h'.on b0)
  have cT := fun (V : World) (hV : Below W.heap.size W V) (n2 : Bool) (a2 : List Nat) (A2 : Option Addr) (c2 : Nat) (h2 : HW (M * N) (i + j) n2 a2 c2) (r2 : Rd V (fun g => g < V.heap.size) .u32 A2 a2) => spot_times (by omega) (by omega) h2 hd V r2 ((q.on b0).on hV)
  have cU := fun (V : World) (hV : Below W.heap.size W V) (n2 : Bool) (a2 : List Nat) (A2 : Option Addr) (c2 : Nat) (h2 : HW (M * N * (D : Int)) (i + j + k) n2 a2 c2) (r2 : Rd V (fun g => g < V.heap.size) .u32 A2 a2) => spot_times (by omega) (by omega) h2 hd' V r2 ((q'.on b0).on hV)
  obtain ⟨M1, hM1⟩ : ∃ x, M * N = x := ⟨_, rfl⟩
  simp only [hM1] at cM cT cU ⊢
  obtain ⟨M2, hM2⟩ : ∃ x, M1 * (D : Int) = x := ⟨_, rfl⟩
  simp only [hM2] at cT cU ⊢
  obtain ⟨M3, hM3⟩ : ∃ x, M2 * (E : Int) = x := ⟨_, rfl⟩
  simp only [hM3] at cU ⊢
  have CT := Lib.hid cT
  have CU := Lib.hid cU
  clear cT cU hM1 hM2 hM3 ha ha' hd hd' h h' q q'
  go_enter Tryd.func49, Tryd.ntmps49
  go_wp2_with fail
  try rw [hW]
  clear hW
  refine cM.mono ?_
  rintro e w1 ⟨n2, a2, A2, c2, rfl, s2, r2, b1⟩
  clear cM
  go_wp2_with fail
  refine (CT.out _ b1 n2 a2 A2 c2 s2 r2).mono ?_
  rintro e w2 ⟨n3, a3, A3, c3, rfl, s3, r3, b2⟩
  have B2 := b1.trans (b2.mono b1.size)
  go_wp2_with fail
  refine (CU.out _ B2 n3 a3 A3 c3 s3 r3).mono ?_
  rintro e w3 ⟨n4, a4, A4, c4, rfl, s4, r4, b3⟩
  have B3 := B2.trans (b3.mono B2.size)
  have K := k3.below B3 k3.lt
  obtain ⟨i0, i1, i2, i3⟩ := K.facts2
  obtain ⟨U, hU, hF, hG⟩ := fin_gvw (w := w) K (by omega) (b0.trans (B3.mono b0.size)) s4 r4
  have HU := Lib.hid hU
  have HF := Lib.hid hF
  have HG := Lib.hid hG
  clear hU hF hG k1 k2 k3 K CT CU s2 s3 s4 r2 r3 r4
  go_wp2_with fail
  rw [HU.out]
  obtain ⟨u0, u1⟩ := HF.out
  exact bodyPost_ret (by simp [results, Tryd.results49, go_sem, u0, u1]) rfl HG.out

set_option maxRecDepth 10000 in
set_option maxHeartbeats 3200000 in
/-- what leads from one fraction to another, times both lower parts -/
theorem spot_gap {P1 P2 : Int} {Q1 Q2 i j : Nat} {n1 n2 : Bool} {a1 d1 a2 d2 : List Nat} {A1 D1 A2 D2 : Option Addr} {c1 e1 c2 e2 : Nat} (hi : i ≤ 134217728) (hj : j ≤ 134217728) (hS : SH P1 Q1 i n1 a1 c1 d1 e1) (hT : SH P2 Q2 j n2 a2 c2 d2 e2) (w : World) (h : Rd w (fun g => g < w.heap.size) .u32 A1 a1) (h' : Rd w (fun g => g < w.heap.size) .u32 D1 d1) (q : Rd w (fun g => g < w.heap.size) .u32 A2 a2) (q' : Rd w (fun g => g < w.heap.size) .u32 D2 d2) :
    Calls Tryd.prog 50 #[.agg #[.bool n1, .slice A1 a1.length c1, .slice D1 d1.length e1], .agg #[.bool n2, .slice A2 a2.length c2, .slice D2 d2.length e2]] w (GvW (P2 * (Q1 : Int) - P1 * (Q2 : Int)) (i + j + 1) w) := by
  obtain ⟨W, hW, k1, k2, k3, b0, s0⟩ := bxc w 74 74 72 [.bool n1, .slice A1 a1.length c1, .slice D1 d1.length e1] [.bool n2, .slice A2 a2.length c2, .slice D2 d2.length e2] [.bool false, .slice none 0 0]
  obtain ⟨p0, p1, p2, p3, p4, p5⟩ := k1.facts
  obtain ⟨z0, z1, z2, z3, z4, z5⟩ := k2.facts
  obtain ⟨h1, h2, h3, h4, h5, h6, h7, h8⟩ := hS
  obtain ⟨g1, g2, g3, g4, g5, g6, g7, g8⟩ := hT
  have w1 : HW P1 i n1 a1 c1 := ⟨h1, h3, h5, h7⟩
  have w2 : HW P2 j n2 a2 c2 := ⟨g1, g3, g5, g7⟩
  have v1 : HD Q1 i d1 e1 := ⟨h2, h4, h6, h8⟩
  have v2 : HD Q2 j d2 e2 := ⟨g2, g4, g6, g8⟩
  have cX := fun (V : World) (hV : Below W.heap.size W V) => spot_times (A := A2) (X := D1) (by omega) (by omega) w2 v1 V ((q.on b0).on hV) ((h'.on b0).on hV)
  have cY := fun (V : World) (hV : Below W.heap.size W V) => spot_times (A := A1) (X := D2) (by omega) (by omega) w1 v2 V ((h.on b0).on hV) ((q'.on b0).on hV)
  have cS := fun (V : World) (n n' : Bool) (a b : List Nat) (A B : Option Addr) (ca cb : Nat) (ha : HW (P2 * (Q1 : Int)) (j + i) n a ca) (hb : HW (P1 * (Q2 : Int)) (i + j) n' b cb) (r : Rd V (fun g => g < V.heap.size) .u32 A a) (r' : Rd V (fun g => g < V.heap.size) .u32 B b) => whole_sub_hw (i + j) (by omega) (by omega) (by omega) (by omega) ha hb V r r'
  obtain ⟨M, hM⟩ : ∃ x, P2 * (Q1 : Int) = x := ⟨_, rfl⟩
  obtain ⟨N, hN⟩ : ∃ x, P1 * (Q2 : Int) = x := ⟨_, rfl⟩
  simp only [hM] at cX cS ⊢
  simp only [hN] at cY cS ⊢
  obtain ⟨L, hL⟩ : ∃ x, M - N = x := ⟨_, rfl⟩
  simp only [hL] at cS ⊢
  have CX := Lib.hid cX
  have CY := Lib.hid cY
  have CS := Lib.hid cS
  have HK1 := Lib.hid k1
  have HK2 := Lib.hid k2
  have HK3 := Lib.hid k3
  have HB0 := Lib.hid b0
  have K0 : Below W.heap.size W W.drew := below_drewN (Below.refl _ _) 1
  have hlt : w.heap.size + 2 < W.heap.size := by omega
  clear cX cY cS hM hN hL w1 w2 v1 v2 h1 h2 h3 h4 h5 h6 h7 h8 g1 g2 g3 g4 g5 g6 g7 g8 h h' q q' k1 k2 k3 b0 s0
  go_enter Tryd.func50, Tryd.ntmps50
  go_wp2_with fail
  try rw [hW]
  clear hW
  go_region_held3 (fun w' => (w'.cell? ⟨w.heap.size, 0, none⟩ = some (.bool n1) ∧ w'.cell? ⟨w.heap.size, 1, none⟩ = some (.slice A1 a1.length c1) ∧ w'.cell? ⟨w.heap.size, 2, none⟩ = some (.slice D1 d1.length e1)) ∧ (w'.cell? ⟨w.heap.size + 1, 0, none⟩ = some (.bool n2) ∧ w'.cell? ⟨w.heap.size + 1, 1, none⟩ = some (.slice A2 a2.length c2) ∧ w'.cell? ⟨w.heap.size + 1, 2, none⟩ = some (.slice D2 d2.length e2)))
    (first | (with_reducible exact ⟨keep3 HK1.out K0, keep3 HK2.out K0⟩) | (with_reducible exact ⟨keep3 HK1.out KA, keep3 HK2.out KA⟩) | (with_reducible exact ⟨keep3 HK1.out KB, keep3 HK2.out KB⟩) | (with_reducible exact ⟨keep3 HK1.out KC, keep3 HK2.out KC⟩) | (with_reducible exact ⟨keep3s (HK1.out.below KC HK1.out.lt) (by omega) _ _, keep3s (HK2.out.below KC HK2.out.lt) (by omega) _ _⟩) | go_keep)
    ((first
      | (go_at_call_of 56 (Value.slice D1 d1.length e1); (with_reducible refine Calls.mono (CX.out _ K0) ?_); rintro e w2 ⟨m3, x3, X3, y3, rfl, s3, r3, b2⟩; have KA := below_next K0 (Nat.le_refl _) b2)
      | (go_at_call_of 56 (Value.slice D2 d2.length e2); (with_reducible refine Calls.mono (CY.out _ KA) ?_); rintro e w3 ⟨m4, x4, X4, y4, rfl, s4, r4, b3⟩; have KB := below_next KA (Nat.le_refl _) b3)
      | (go_at_call 58; (with_reducible refine Calls.mono (CS.out _ m3 m4 x3 x4 X3 X4 y3 y4 s3 s4 (r3.on b3) r4) ?_); rintro e w4 ⟨m5, x5, X5, y5, rfl, s5, r5, b4⟩; have KC := below_next KB (Nat.le_refl _) b4; obtain ⟨i0, i1, i2, i3⟩ := (HK3.out.below KC HK3.out.lt).facts2)))
  obtain ⟨U, hU, hF, hG⟩ := fin_gvw (w := w) (HK3.out.below KC HK3.out.lt) (by omega) (HB0.out.trans (KC.mono HB0.out.size)) s5 r5
  have HU := Lib.hid hU
  have HF := Lib.hid hF
  have HG := Lib.hid hG
  clear hU hF hG i0 i1 i2 i3 CX CY CS s3 s4 s5 r3 r4 r5
  go_wp2_with fail
  rw [HU.out]
  obtain ⟨u0, u1⟩ := HF.out
  exact bodyPost_ret (by simp [results, Tryd.results50, go_sem, u0, u1]) rfl HG.out
end Go.Proofs.YtngnclibeccplaaDoor
/- Spots, the program's own: what hold, reduced, At, halfWay, Mid, along and Toward answer. -/

namespace Go.Proofs.YtngnclibeccplaaDoor
open Go.RowKit Num

set_option maxRecDepth 10000 in
set_option maxHeartbeats 3200000 in
/-- no lower part is 0 -/
theorem spot_hold (S1 S2 S50 S51 : Shape) (x0 : Fn1 55 S1 S50) (x1 : Fn1 55 S2 S51) (n1 n2 : Bool) (a1 d1 a2 d2 : List Nat) (A1 D1 A2 D2 : Option Addr) (c1 e1 c2 e2 : Nat)  (w : World) (s1 : S1 n1 a1 c1 d1 e1) (s2 : S2 n2 a2 c2 d2 e2) (r1 : Rd w (fun g => g < w.heap.size) .u32 A1 a1) (q1 : Rd w (fun g => g < w.heap.size) .u32 D1 d1) (r2 : Rd w (fun g => g < w.heap.size) .u32 A2 a2) (q2 : Rd w (fun g => g < w.heap.size) .u32 D2 d2) :
    Calls Tryd.prog 48 #[.agg #[.bool n1, .slice A1 a1.length c1, .slice D1 d1.length e1, .bool n2, .slice A2 a2.length c2, .slice D2 d2.length e2]] w (Gs S50 S51 w) := by
  obtain ⟨W, hW, k100, kr, b0, s0⟩ := bxb w 76 76 [.bool n1, .slice A1 a1.length c1, .slice D1 d1.length e1, .bool n2, .slice A2 a2.length c2, .slice D2 d2.length e2] [.bool false, .slice none 0 0, .slice none 0 0, .bool false, .slice none 0 0, .slice none 0 0]
  obtain ⟨⟨p00, p01, p02, p03, p04, p05⟩, -⟩ := k100.facts6
  have C0 := Lib.hid (fun (V : World) (hV : Below W.heap.size W V) => x0 n1 a1 d1 A1 D1 c1 e1 V s1 ((r1.on b0).on hV) ((q1.on b0).on hV))
  have C1 := Lib.hid (fun (V : World) (hV : Below W.heap.size W V) => x1 n2 a2 d2 A2 D2 c2 e2 V s2 ((r2.on b0).on hV) ((q2.on b0).on hV))
  have HK0 := Lib.hid k100
  have HKR := Lib.hid kr
  have HB0 := Lib.hid b0
  have K0 : Below W.heap.size W W.drew := below_drewN (Below.refl _ _) 1
  have hlt : w.heap.size + 1 < W.heap.size := by omega
  clear k100 kr b0 s0 s1 r1 q1 s2 r2 q2 x0 x1
  go_enter Tryd.func48, Tryd.ntmps48
  go_wp2_with fail
  try rw [hW]
  clear hW
  go_region_held3 (fun w' => (w'.cell? ⟨w.heap.size, 0, none⟩ = some (.bool n1) ∧ w'.cell? ⟨w.heap.size, 1, none⟩ = some (.slice A1 a1.length c1) ∧ w'.cell? ⟨w.heap.size, 2, none⟩ = some (.slice D1 d1.length e1) ∧ w'.cell? ⟨w.heap.size, 3, none⟩ = some (.bool n2) ∧ w'.cell? ⟨w.heap.size, 4, none⟩ = some (.slice A2 a2.length c2) ∧ w'.cell? ⟨w.heap.size, 5, none⟩ = some (.slice D2 d2.length e2)))
    (first | (with_reducible exact kept6 HK0.out K0) | (with_reducible exact kept6 HK0.out K1) | (with_reducible exact kept6 HK0.out K2) | (with_reducible exact far66 (HK0.out.below K2 HK0.out.lt) (by omega) _ _ _ _ _ _ ) | go_keep)
    ((first
      | (go_at_call_of 55 (Value.slice A1 a1.length c1); (with_reducible refine Calls.mono (C0.out _ K0) ?_); rintro e w1 ⟨n50, a50, A50, c50, d50, D50, e50, rfl, s50, r50, q50, b1⟩; have K1 := below_next K0 (Nat.le_refl _) b1)
      | (go_at_call_of 55 (Value.slice A2 a2.length c2); (with_reducible refine Calls.mono (C1.out _ K1) ?_); rintro e w2 ⟨n51, a51, A51, c51, d51, D51, e51, rfl, s51, r51, q51, b2⟩; have K2 := below_next K1 (Nat.le_refl _) b2; obtain ⟨⟨i0, i1, i2, i3, i4, i5⟩, ⟨j0, j1, j2, j3, j4, j5⟩⟩ := (HKR.out.below K2 HKR.out.lt).facts6)))
  obtain ⟨U, hU, ⟨u0, u1, u2, u3, u4, u5⟩, hG⟩ := fin_spot (w := w) (HKR.out.below K2 HKR.out.lt) (by omega) (HB0.out.trans (K2.mono HB0.out.size)) s50 s51 (r50.on b2) (q50.on b2) r51 q51
  have HU := Lib.hid hU
  have HF := Lib.hid (And.intro u0 (And.intro u1 (And.intro u2 (And.intro u3 (And.intro u4 u5)))))
  have HG := Lib.hid hG
  clear hU u0 u1 u2 u3 u4 u5 hG i0 i1 i2 i3 i4 i5 j0 j1 j2 j3 j4 j5 C0 C1 s50 r50 q50 s51 r51 q51
  go_wp2_with fail
  rw [HU.out]
  obtain ⟨u0, u1, u2, u3, u4, u5⟩ := HF.out
  exact bodyPost_ret (by simp [results, Tryd.results48, go_sem, u0, u1, u2, u3, u4, u5]) rfl HG.out

set_option maxRecDepth 10000 in
set_option maxHeartbeats 3200000 in
/-- a point of the grid -/
theorem spot_At (S50 S51 : Shape)  (x y : Int) (x0 : ∀ V : World, Calls Tryd.prog 52 #[.int .i64 x] V (Gv S50 V)) (x1 : ∀ V : World, Calls Tryd.prog 52 #[.int .i64 y] V (Gv S51 V)) (w : World)   :
    Calls Tryd.prog 45 #[.agg #[.int .i64 x, .int .i64 y]] w (Gs S50 S51 w) := by
  obtain ⟨W, hW, k100, kr, b0, s0⟩ := bxb w 34 76 [.int .i64 x, .int .i64 y] [.bool false, .slice none 0 0, .slice none 0 0, .bool false, .slice none 0 0, .slice none 0 0]
  obtain ⟨p00, p01, -, -⟩ := k100.facts2
  have C0 := Lib.hid (fun (V : World) => x0 V)
  have C1 := Lib.hid (fun (V : World) => x1 V)
  have HK0 := Lib.hid k100
  have HKR := Lib.hid kr
  have HB0 := Lib.hid b0
  have K0 : Below W.heap.size W W.drew := below_drewN (Below.refl _ _) 1
  have hlt : w.heap.size + 1 < W.heap.size := by omega
  clear k100 kr b0 s0  x0 x1
  go_enter Tryd.func45, Tryd.ntmps45
  go_wp2_with fail
  try rw [hW]
  clear hW
  go_region_held3 (fun w' => (w'.cell? ⟨w.heap.size, 0, none⟩ = some (.int .i64 x) ∧ w'.cell? ⟨w.heap.size, 1, none⟩ = some (.int .i64 y)))
    (first | (with_reducible exact kept2 HK0.out K0) | (with_reducible exact kept2 HK0.out K1) | (with_reducible exact kept2 HK0.out K2) | (with_reducible exact far26 (HK0.out.below K2 HK0.out.lt) (by omega) _ _ _ _ _ _ ) | go_keep)
    ((first
      | (go_at_call_of 52 (Value.int .i64 x); (with_reducible refine Calls.mono (C0.out _) ?_); rintro e w1 ⟨n50, a50, A50, c50, d50, D50, e50, rfl, s50, r50, q50, b1⟩; have K1 := below_next K0 (Nat.le_refl _) b1)
      | (go_at_call_of 52 (Value.int .i64 y); (with_reducible refine Calls.mono (C1.out _) ?_); rintro e w2 ⟨n51, a51, A51, c51, d51, D51, e51, rfl, s51, r51, q51, b2⟩; have K2 := below_next K1 (Nat.le_refl _) b2; obtain ⟨⟨i0, i1, i2, i3, i4, i5⟩, ⟨j0, j1, j2, j3, j4, j5⟩⟩ := (HKR.out.below K2 HKR.out.lt).facts6)))
  obtain ⟨U, hU, ⟨u0, u1, u2, u3, u4, u5⟩, hG⟩ := fin_spot (w := w) (HKR.out.below K2 HKR.out.lt) (by omega) (HB0.out.trans (K2.mono HB0.out.size)) s50 s51 (r50.on b2) (q50.on b2) r51 q51
  have HU := Lib.hid hU
  have HF := Lib.hid (And.intro u0 (And.intro u1 (And.intro u2 (And.intro u3 (And.intro u4 u5)))))
  have HG := Lib.hid hG
  clear hU u0 u1 u2 u3 u4 u5 hG i0 i1 i2 i3 i4 i5 j0 j1 j2 j3 j4 j5 C0 C1 s50 r50 q50 s51 r51 q51
  go_wp2_with fail
  rw [HU.out]
  obtain ⟨u0, u1, u2, u3, u4, u5⟩ := HF.out
  exact bodyPost_ret (by simp [results, Tryd.results45, go_sem, u0, u1, u2, u3, u4, u5]) rfl HG.out

end Go.Proofs.YtngnclibeccplaaDoor
/- Spots, the document's own: what At, clean and Toward answer. -/

namespace Go.Proofs.YtngnclibeccplaaDoor
open Go.RowKit Num

end Go.Proofs.YtngnclibeccplaaDoor
/- Rows of spots in memory: a row that a call made, and what append leaves of it. -/

namespace Go.Proofs.YtngnclibeccplaaDoor
open Go.RowKit Num

/-- no integer among them -/
def NoInt (cs : List Value) : Prop := ∀ v ∈ cs, ∀ k n, v ≠ .int k n
theorem NoInt.append {a b : List Value} (ha : NoInt a) (hb : NoInt b) : NoInt (a ++ b) := fun v hv => by
  rcases List.mem_append.1 hv with h | h
  · exact ha v h
  · exact hb v h
/-- a slice of spots in a block of its own, in which no integer lies -/
def OwnS (w : World) (base : Nat) (v : Value) (n : Nat) (xs : List Value) : Prop :=
  xs.length = n * 6 ∧ NoInt xs ∧ ((v = .slice none 0 0 ∧ n = 0) ∨
    ∃ g cap cur, v = .slice (some ⟨g, 0, none⟩) n cap ∧ base ≤ g ∧ w.heap[g]? = some (.cells cur 76 (0, 0)) ∧ n ≤ cap ∧ cap ≤ maxLen ∧ cur.size = cap * 6 ∧ cur.toList.take (n * 6) = xs ∧ NoInt cur.toList)
theorem OwnS.nil (w : World) (base : Nat) : OwnS w base (.slice none 0 0) 0 [] := ⟨rfl, fun v h => by simp at h, .inl ⟨rfl, rfl⟩⟩
theorem OwnS.lt {w : World} {base : Nat} {v : Value} {n : Nat} {xs : List Value} (h : OwnS w base v n xs) : ∀ k, v.ownBlock = some k → base ≤ k ∧ k < w.heap.size := by
  intro k hk
  rcases h.2.2 with ⟨rfl, _⟩ | ⟨g, cap, cur, rfl, hb, hg, _⟩
  · simp [Value.ownBlock] at hk
  · simp [Value.ownBlock] at hk
    subst hk
    exact ⟨hb, (Array.getElem?_eq_some_iff.1 hg).1⟩
/-- what another call leaves of it -/
theorem OwnS.kept {w w' : World} {base : Nat} {v : Value} {n : Nat} {xs : List Value} (h : OwnS w base v n xs) (hb : Below w.heap.size w w') : OwnS w' base v n xs := by
  refine ⟨h.1, h.2.1, ?_⟩
  rcases h.2.2 with hn | ⟨g, cap, cur, rfl, hbg, hg, rest⟩
  · exact .inl hn
  · exact .inr ⟨g, cap, cur, rfl, hbg, (hb.block g (Array.getElem?_eq_some_iff.1 hg).1).trans hg, rest⟩
theorem OwnS.mono {w : World} {base base' : Nat} {v : Value} {n : Nat} {xs : List Value} (h : OwnS w base v n xs) (hb : base' ≤ base) : OwnS w base' v n xs := by
  refine ⟨h.1, h.2.1, ?_⟩
  rcases h.2.2 with hn | ⟨g, cap, cur, rfl, hbg, rest⟩
  · exact .inl hn
  · exact .inr ⟨g, cap, cur, rfl, Nat.le_trans hb hbg, rest⟩
/-- its cells -/
theorem OwnS.cell {w : World} {base g cap : Nat} {n : Nat} {xs : List Value} (h : OwnS w base (.slice (some ⟨g, 0, none⟩) n cap) n xs) (j : Nat) {u : Value} (hu : xs[j]? = some u) : w.cell? ⟨g, j, none⟩ = some u := by
  rcases h.2.2 with ⟨e, _⟩ | ⟨g', cap', cur, e, _, hg, _, _, _, htake, _⟩
  · cases e
  · simp only [Value.slice.injEq, Option.some.injEq, Addr.mk.injEq, and_true, true_and] at e
    obtain ⟨rfl, rfl⟩ := e
    rw [cell_of_row w g j cur _ (0, 0) hg]
    rw [← htake, List.getElem?_take] at hu
    split at hu
    · simpa using hu
    · cases hu
/-- words that are read stay when the row grows -/
theorem OwnS.rd {w w' : World} {base : Nat} {v : Value} {n : Nat} {xs : List Value} (h : OwnS w base v n xs) (hg : w.grownBy w' v.ownBlock) {k : IntKind} {A : Option Addr} {ys : List Nat} (r : Rd w (fun b => b < w.heap.size) k A ys) : Rd w' (fun b => b < w'.heap.size) k A ys := fun hn => by
  obtain ⟨b, o, e, hb, hc⟩ := r hn
  have hne : some b ≠ v.ownBlock := by
    intro eb
    rcases h.2.2 with ⟨rfl, _⟩ | ⟨g, cap, cur, rfl, _, hgg, _, _, _, _, hno⟩
    · simp [Value.ownBlock] at eb
    · simp only [Value.ownBlock, Option.some.injEq] at eb
      subst eb
      have h0 := hc 0 hn
      rw [cell_of_row w b _ cur _ (0, 0) hgg] at h0
      exact hno _ (Array.mem_toList_iff.2 (Array.mem_of_getElem? h0)) _ _ rfl
  refine ⟨b, o, e, Nat.lt_of_lt_of_le hb hg.size, fun j hj => ?_⟩
  rw [← hc j hj]
  exact World.cell?_of_block (hg.block b hb hne)
theorem info_spot : (Tryd.prog.info? 76).map (fun i => (i.zero, i.size, i.bytes)) = some (some (.agg #[.bool false, .slice none 0 0, .slice none 0 0, .bool false, .slice none 0 0, .slice none 0 0]), 6, 112) := by kernel_rfl
theorem zeroCells_noint {z : Array Value} (hz : NoInt z.toList) (n : Nat) : NoInt (Builtin.zeroCells z n).toList := by
  intro v hv
  unfold Builtin.zeroCells at hv
  simp only [Array.toList_map, List.mem_map, Array.toList_range, List.mem_range] at hv
  obtain ⟨i, hi, rfl⟩ := hv
  have hp : 0 < z.size := by
    rcases Nat.eq_zero_or_pos z.size with h | h
    · rw [h] at hi; simp at hi
    · exact h
  have hm := Nat.mod_lt i hp
  rw [getElem!_pos z (i % z.size) hm]
  exact hz _ (Array.mem_toList_iff.2 (Array.getElem_mem hm))
end Go.Proofs.YtngnclibeccplaaDoor
