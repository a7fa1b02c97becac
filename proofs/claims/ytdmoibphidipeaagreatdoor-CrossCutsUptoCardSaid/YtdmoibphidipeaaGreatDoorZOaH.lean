/- The law FracSums: sums, differences, products are the document's own. -/
import Derived.Test.YtdmoibphidipeaaGreatDoorZOaF
import Derived.Test.YtdmoibphidipeaaGreatDoorZOaE
import Derived.Deep.RegionWith
import Derived.Deep.RegionHeld3
import Derived.Test.YtdmoibphidipeaaGreatDoorZWhX
import Derived.Test.YtdmoibphidipeaaGreatDoorZOaD
import Derived.Test.YtdmoibphidipeaaGreatDoorZFrW
namespace Go.Proofs.YtdmoibphidipeaaGreatDoor
open Go.RowKit Num

/-- two that are one, word by word -/
theorem ref4_same_true (n : Bool) (a d : List Nat) (A D A' D' : Option Addr) (ca cd ca' cd' : Nat) (w : World) (h1 : Rd w (fun g => g < w.heap.size) .u32 A a) (h2 : Rd w (fun g => g < w.heap.size) .u32 D d) (h3 : Rd w (fun g => g < w.heap.size) .u32 A' a) (h4 : Rd w (fun g => g < w.heap.size) .u32 D' d) (hl1 : a.length ≤ 4611686018427387904) (hl2 : d.length ≤ 4611686018427387904) :
    Calls Tryz.prog 64 #[.agg #[.bool n, .slice A a.length ca, .slice D d.length cd], .agg #[.bool n, .slice A' a.length ca', .slice D' d.length cd']] w fun e w' => e = .returned (.bool true) ∧ Below w.heap.size w w' := by
  have := ref4_Same n n a d a d A D A' D' ca cd ca' cd' w h1 h2 h3 h4 hl1 hl2
  rwa [decide_eq_true ⟨⟨rfl, rfl⟩, rfl⟩] at this
theorem up_lt {n : Bool} {a d : List Nat} (ha : Dg 4294967296 a) : (upN n a d).natAbs < 4294967296 ^ a.length := Nat.lt_of_le_of_lt (up_abs n a d) (val_lt ha)
theorem loD_le {d : List Nat} (hd : Dg 4294967296 d) : loD d ≤ 4294967296 ^ d.length := by
  unfold loD
  split
  · exact Nat.pow_pos (by omega)
  · exact Nat.le_of_lt (val_lt hd)
/-- how great a product of such parts is -/
theorem prod_lt {x y i j k : Nat} (hx : x < 4294967296 ^ i) (hy : y ≤ 4294967296 ^ j) (hk : i + j ≤ k) : x * y < 4294967296 ^ k := by
  refine Nat.lt_of_lt_of_le ?_ (Nat.pow_le_pow_right (n := 4294967296) (by omega) hk)
  rw [Nat.pow_add]
  have h1 : x * y ≤ x * 4294967296 ^ j := Nat.mul_le_mul_left _ hy
  have h2 : x * 4294967296 ^ j < 4294967296 ^ i * 4294967296 ^ j := Nat.mul_lt_mul_of_pos_right hx (Nat.pow_pos (by omega))
  omega
theorem prod_le {x y i j k : Nat} (hx : x ≤ 4294967296 ^ i) (hy : y ≤ 4294967296 ^ j) (hk : i + j ≤ k) : x * y ≤ 4294967296 ^ k := by
  refine Nat.le_trans ?_ (Nat.pow_le_pow_right (n := 4294967296) (by omega) hk)
  rw [Nat.pow_add]
  exact Nat.mul_le_mul hx hy
theorem lt_of_le_pow {x k m : Nat} (hx : x ≤ 4294967296 ^ k) (h : k < m) : x < 4294967296 ^ m := by
  refine Nat.lt_of_le_of_lt hx (Nat.pow_lt_pow_right (by omega) h)
theorem sum_lt {P P' : Int} {Q Q' i j k l s : Nat} (h1 : P.natAbs < 4294967296 ^ i) (h2 : P'.natAbs < 4294967296 ^ j) (h3 : Q ≤ 4294967296 ^ k) (h4 : Q' ≤ 4294967296 ^ l) (e1 : i + l ≤ s) (e2 : j + k ≤ s) : (P * (Q' : Int) + P' * (Q : Int)).natAbs < 4294967296 ^ (s + 1) := by
  have a1 := prod_lt h1 h4 e1
  have a2 := prod_lt h2 h3 e2
  have a3 := Int.natAbs_add_le (P * (Q' : Int)) (P' * (Q : Int))
  rw [Int.natAbs_mul, Int.natAbs_mul, Int.natAbs_natCast, Int.natAbs_natCast] at a3
  rw [Nat.pow_succ]
  omega
theorem sub_lt {P P' : Int} {Q Q' i j k l s : Nat} (h1 : P.natAbs < 4294967296 ^ i) (h2 : P'.natAbs < 4294967296 ^ j) (h3 : Q ≤ 4294967296 ^ k) (h4 : Q' ≤ 4294967296 ^ l) (e1 : i + l ≤ s) (e2 : j + k ≤ s) : (P * (Q' : Int) - P' * (Q : Int)).natAbs < 4294967296 ^ (s + 1) := by
  have := sum_lt (P := P) (P' := -P') h1 (by rw [Int.natAbs_neg]; exact h2) h3 h4 e1 e2
  rwa [Int.neg_mul, ← Int.sub_eq_add_neg] at this
/-- a reduced fraction of at most m words each -/
def SG (P : Int) (Q m : Nat) : Shape := fun n a ca d cd => SF P Q n a ca d cd ∧ a.length ≤ m ∧ d.length ≤ m
theorem SF.toG {P : Int} {Q m : Nat} (hP : P.natAbs < 4294967296 ^ m) (hQ : Q < 4294967296 ^ m) {n : Bool} {a d : List Nat} {ca cd : Nat} (k : SF P Q n a ca d cd) : SG P Q m n a ca d cd := by
  refine ⟨k, ?_⟩
  obtain ⟨-, -, -, h3, h4, h5, h6⟩ := k
  constructor
  · refine h3.2.length_le (b := 4294967296) (by omega) ?_
    rw [h5]; exact Nat.lt_of_le_of_lt (Nat.div_le_self _ _) hP
  · refine h4.2.length_le (b := 4294967296) (by omega) ?_
    rw [h6]; exact Nat.lt_of_le_of_lt (Nat.div_le_self _ _) hQ
theorem SG.toV {P : Int} {Q m : Nat} (hQ : 0 < Q) {n : Bool} {a d : List Nat} {ca cd : Nat} (k : SG P Q m n a ca d cd) : SV P Q m n a ca d cd := by
  have h := k.1.toV (m := P.natAbs + Q) hQ (Nat.lt_of_lt_of_le (Nat.lt_pow_self (n := P.natAbs) (by omega)) (Nat.pow_le_pow_right (by omega) (by omega))) (Nat.lt_of_lt_of_le (Nat.lt_pow_self (n := Q) (by omega)) (Nat.pow_le_pow_right (by omega) (by omega)))
  obtain ⟨h1, h2, h3, h4, h5, h6, h7⟩ := h
  exact ⟨h1, h2, h3, h4, k.2.1, k.2.2, h7⟩
theorem SG.same {P : Int} {Q m m' : Nat} {n n' : Bool} {a a' d d' : List Nat} {ca ca' cd cd' : Nat} (k : SG P Q m n a ca d cd) (k' : SG P Q m' n' a' ca' d' cd') : n = n' ∧ a = a' ∧ d = d' := SF.same k.1 k'.1
end Go.Proofs.YtdmoibphidipeaaGreatDoor
/- Fractions: two boxes that are allotted and stored while two calls are made. -/

namespace Go.Proofs.YtdmoibphidipeaaGreatDoor
open Go.RowKit Num

/-- both boxes behind the calls -/
theorem endA {W w3 : World} {t : TypeId} {A2 D2 A3 D3 : Option Addr} {a2 d2 a3 d3 : List Nat} (K : Below W.heap.size W w3) (n2 : Bool) (c2 e2 : Nat) (r2 : Rd w3 (fun g => g < w3.heap.size) .u32 A2 a2) (q2 : Rd w3 (fun g => g < w3.heap.size) .u32 D2 d2) (n3 : Bool) (c3 e3 : Nat) (r3 : Rd w3 (fun g => g < w3.heap.size) .u32 A3 a3) (q3 : Rd w3 (fun g => g < w3.heap.size) .u32 D3 d3) : Blk ((w3.alloc (.cells #[.bool n2, .slice A2 a2.length c2, .slice D2 d2.length e2] t)).alloc (.cells #[.bool n3, .slice A3 a3.length c3, .slice D3 d3.length e3] t)) w3.heap.size t [.bool n2, .slice A2 a2.length c2, .slice D2 d2.length e2] ∧ Blk ((w3.alloc (.cells #[.bool n2, .slice A2 a2.length c2, .slice D2 d2.length e2] t)).alloc (.cells #[.bool n3, .slice A3 a3.length c3, .slice D3 d3.length e3] t)) (w3.heap.size + 1) t [.bool n3, .slice A3 a3.length c3, .slice D3 d3.length e3] ∧ (Rd ((w3.alloc (.cells #[.bool n2, .slice A2 a2.length c2, .slice D2 d2.length e2] t)).alloc (.cells #[.bool n3, .slice A3 a3.length c3, .slice D3 d3.length e3] t)) (fun b => b < (((w3.alloc (.cells #[.bool n2, .slice A2 a2.length c2, .slice D2 d2.length e2] t)).alloc (.cells #[.bool n3, .slice A3 a3.length c3, .slice D3 d3.length e3] t))).heap.size) .u32 A2 a2 ∧ Rd ((w3.alloc (.cells #[.bool n2, .slice A2 a2.length c2, .slice D2 d2.length e2] t)).alloc (.cells #[.bool n3, .slice A3 a3.length c3, .slice D3 d3.length e3] t)) (fun b => b < (((w3.alloc (.cells #[.bool n2, .slice A2 a2.length c2, .slice D2 d2.length e2] t)).alloc (.cells #[.bool n3, .slice A3 a3.length c3, .slice D3 d3.length e3] t))).heap.size) .u32 D2 d2) ∧ (Rd ((w3.alloc (.cells #[.bool n2, .slice A2 a2.length c2, .slice D2 d2.length e2] t)).alloc (.cells #[.bool n3, .slice A3 a3.length c3, .slice D3 d3.length e3] t)) (fun b => b < (((w3.alloc (.cells #[.bool n2, .slice A2 a2.length c2, .slice D2 d2.length e2] t)).alloc (.cells #[.bool n3, .slice A3 a3.length c3, .slice D3 d3.length e3] t))).heap.size) .u32 A3 a3 ∧ Rd ((w3.alloc (.cells #[.bool n2, .slice A2 a2.length c2, .slice D2 d2.length e2] t)).alloc (.cells #[.bool n3, .slice A3 a3.length c3, .slice D3 d3.length e3] t)) (fun b => b < (((w3.alloc (.cells #[.bool n2, .slice A2 a2.length c2, .slice D2 d2.length e2] t)).alloc (.cells #[.bool n3, .slice A3 a3.length c3, .slice D3 d3.length e3] t))).heap.size) .u32 D3 d3) ∧ Below W.heap.size W ((w3.alloc (.cells #[.bool n2, .slice A2 a2.length c2, .slice D2 d2.length e2] t)).alloc (.cells #[.bool n3, .slice A3 a3.length c3, .slice D3 d3.length e3] t)) := by
  have b1 := below_new w3 (.cells #[.bool n2, .slice A2 a2.length c2, .slice D2 d2.length e2] t)
  have b2 := below_new (w3.alloc (.cells #[.bool n2, .slice A2 a2.length c2, .slice D2 d2.length e2] t)) (.cells #[.bool n3, .slice A3 a3.length c3, .slice D3 d3.length e3] t)
  exact ⟨(Blk.new w3 t _).alloc _, Blk.at_new (w3.alloc (.cells #[.bool n2, .slice A2 a2.length c2, .slice D2 d2.length e2] t)) t [.bool n3, .slice A3 a3.length c3, .slice D3 d3.length e3] (by simp), ⟨(r2.on b1).on b2, (q2.on b1).on b2⟩, ⟨(r3.on b1).on b2, (q3.on b1).on b2⟩, keep_two K _ _⟩
theorem endA' {W w3 : World} {t : TypeId} {A2 D2 A3 D3 : Option Addr} {a2 d2 a3 d3 : List Nat} (K : Below W.heap.size W w3) (n2 : Bool) (c2 e2 : Nat) (r2 : Rd w3 (fun g => g < w3.heap.size) .u32 A2 a2) (q2 : Rd w3 (fun g => g < w3.heap.size) .u32 D2 d2) (n3 : Bool) (c3 e3 : Nat) (r3 : Rd w3 (fun g => g < w3.heap.size) .u32 A3 a3) (q3 : Rd w3 (fun g => g < w3.heap.size) .u32 D3 d3) : Blk ((w3.alloc (.cells #[.bool n3, .slice A3 a3.length c3, .slice D3 d3.length e3] t)).alloc (.cells #[.bool n2, .slice A2 a2.length c2, .slice D2 d2.length e2] t)) (w3.heap.size + 1) t [.bool n2, .slice A2 a2.length c2, .slice D2 d2.length e2] ∧ Blk ((w3.alloc (.cells #[.bool n3, .slice A3 a3.length c3, .slice D3 d3.length e3] t)).alloc (.cells #[.bool n2, .slice A2 a2.length c2, .slice D2 d2.length e2] t)) w3.heap.size t [.bool n3, .slice A3 a3.length c3, .slice D3 d3.length e3] ∧ (Rd ((w3.alloc (.cells #[.bool n3, .slice A3 a3.length c3, .slice D3 d3.length e3] t)).alloc (.cells #[.bool n2, .slice A2 a2.length c2, .slice D2 d2.length e2] t)) (fun b => b < (((w3.alloc (.cells #[.bool n3, .slice A3 a3.length c3, .slice D3 d3.length e3] t)).alloc (.cells #[.bool n2, .slice A2 a2.length c2, .slice D2 d2.length e2] t))).heap.size) .u32 A2 a2 ∧ Rd ((w3.alloc (.cells #[.bool n3, .slice A3 a3.length c3, .slice D3 d3.length e3] t)).alloc (.cells #[.bool n2, .slice A2 a2.length c2, .slice D2 d2.length e2] t)) (fun b => b < (((w3.alloc (.cells #[.bool n3, .slice A3 a3.length c3, .slice D3 d3.length e3] t)).alloc (.cells #[.bool n2, .slice A2 a2.length c2, .slice D2 d2.length e2] t))).heap.size) .u32 D2 d2) ∧ (Rd ((w3.alloc (.cells #[.bool n3, .slice A3 a3.length c3, .slice D3 d3.length e3] t)).alloc (.cells #[.bool n2, .slice A2 a2.length c2, .slice D2 d2.length e2] t)) (fun b => b < (((w3.alloc (.cells #[.bool n3, .slice A3 a3.length c3, .slice D3 d3.length e3] t)).alloc (.cells #[.bool n2, .slice A2 a2.length c2, .slice D2 d2.length e2] t))).heap.size) .u32 A3 a3 ∧ Rd ((w3.alloc (.cells #[.bool n3, .slice A3 a3.length c3, .slice D3 d3.length e3] t)).alloc (.cells #[.bool n2, .slice A2 a2.length c2, .slice D2 d2.length e2] t)) (fun b => b < (((w3.alloc (.cells #[.bool n3, .slice A3 a3.length c3, .slice D3 d3.length e3] t)).alloc (.cells #[.bool n2, .slice A2 a2.length c2, .slice D2 d2.length e2] t))).heap.size) .u32 D3 d3) ∧ Below W.heap.size W ((w3.alloc (.cells #[.bool n3, .slice A3 a3.length c3, .slice D3 d3.length e3] t)).alloc (.cells #[.bool n2, .slice A2 a2.length c2, .slice D2 d2.length e2] t)) := by
  have b1 := below_new w3 (.cells #[.bool n3, .slice A3 a3.length c3, .slice D3 d3.length e3] t)
  have b2 := below_new (w3.alloc (.cells #[.bool n3, .slice A3 a3.length c3, .slice D3 d3.length e3] t)) (.cells #[.bool n2, .slice A2 a2.length c2, .slice D2 d2.length e2] t)
  exact ⟨Blk.at_new (w3.alloc (.cells #[.bool n3, .slice A3 a3.length c3, .slice D3 d3.length e3] t)) t [.bool n2, .slice A2 a2.length c2, .slice D2 d2.length e2] (by simp), (Blk.new w3 t _).alloc _, ⟨(r2.on b1).on b2, (q2.on b1).on b2⟩, ⟨(r3.on b1).on b2, (q3.on b1).on b2⟩, keep_two K _ _⟩
theorem endB {W w3 : World} {t : TypeId} {A2 D2 A3 D3 : Option Addr} {a2 d2 a3 d3 : List Nat} {g : Nat} (k : Blk w3 g t [.bool false, .slice none 0 0, .slice none 0 0]) (hg : W.heap.size ≤ g) (K : Below W.heap.size W w3) (n2 : Bool) (c2 e2 : Nat) (r2 : Rd w3 (fun g => g < w3.heap.size) .u32 A2 a2) (q2 : Rd w3 (fun g => g < w3.heap.size) .u32 D2 d2) (n3 : Bool) (c3 e3 : Nat) (r3 : Rd w3 (fun g => g < w3.heap.size) .u32 A3 a3) (q3 : Rd w3 (fun g => g < w3.heap.size) .u32 D3 d3) : Blk ((((w3.setCell ⟨g, 0, none⟩ (.bool n2)).setCell ⟨g, 1, none⟩ (.slice A2 a2.length c2)).setCell ⟨g, 2, none⟩ (.slice D2 d2.length e2)).alloc (.cells #[.bool n3, .slice A3 a3.length c3, .slice D3 d3.length e3] t)) g t [.bool n2, .slice A2 a2.length c2, .slice D2 d2.length e2] ∧ Blk ((((w3.setCell ⟨g, 0, none⟩ (.bool n2)).setCell ⟨g, 1, none⟩ (.slice A2 a2.length c2)).setCell ⟨g, 2, none⟩ (.slice D2 d2.length e2)).alloc (.cells #[.bool n3, .slice A3 a3.length c3, .slice D3 d3.length e3] t)) w3.heap.size t [.bool n3, .slice A3 a3.length c3, .slice D3 d3.length e3] ∧ (Rd ((((w3.setCell ⟨g, 0, none⟩ (.bool n2)).setCell ⟨g, 1, none⟩ (.slice A2 a2.length c2)).setCell ⟨g, 2, none⟩ (.slice D2 d2.length e2)).alloc (.cells #[.bool n3, .slice A3 a3.length c3, .slice D3 d3.length e3] t)) (fun b => b < (((((w3.setCell ⟨g, 0, none⟩ (.bool n2)).setCell ⟨g, 1, none⟩ (.slice A2 a2.length c2)).setCell ⟨g, 2, none⟩ (.slice D2 d2.length e2)).alloc (.cells #[.bool n3, .slice A3 a3.length c3, .slice D3 d3.length e3] t))).heap.size) .u32 A2 a2 ∧ Rd ((((w3.setCell ⟨g, 0, none⟩ (.bool n2)).setCell ⟨g, 1, none⟩ (.slice A2 a2.length c2)).setCell ⟨g, 2, none⟩ (.slice D2 d2.length e2)).alloc (.cells #[.bool n3, .slice A3 a3.length c3, .slice D3 d3.length e3] t)) (fun b => b < (((((w3.setCell ⟨g, 0, none⟩ (.bool n2)).setCell ⟨g, 1, none⟩ (.slice A2 a2.length c2)).setCell ⟨g, 2, none⟩ (.slice D2 d2.length e2)).alloc (.cells #[.bool n3, .slice A3 a3.length c3, .slice D3 d3.length e3] t))).heap.size) .u32 D2 d2) ∧ (Rd ((((w3.setCell ⟨g, 0, none⟩ (.bool n2)).setCell ⟨g, 1, none⟩ (.slice A2 a2.length c2)).setCell ⟨g, 2, none⟩ (.slice D2 d2.length e2)).alloc (.cells #[.bool n3, .slice A3 a3.length c3, .slice D3 d3.length e3] t)) (fun b => b < (((((w3.setCell ⟨g, 0, none⟩ (.bool n2)).setCell ⟨g, 1, none⟩ (.slice A2 a2.length c2)).setCell ⟨g, 2, none⟩ (.slice D2 d2.length e2)).alloc (.cells #[.bool n3, .slice A3 a3.length c3, .slice D3 d3.length e3] t))).heap.size) .u32 A3 a3 ∧ Rd ((((w3.setCell ⟨g, 0, none⟩ (.bool n2)).setCell ⟨g, 1, none⟩ (.slice A2 a2.length c2)).setCell ⟨g, 2, none⟩ (.slice D2 d2.length e2)).alloc (.cells #[.bool n3, .slice A3 a3.length c3, .slice D3 d3.length e3] t)) (fun b => b < (((((w3.setCell ⟨g, 0, none⟩ (.bool n2)).setCell ⟨g, 1, none⟩ (.slice A2 a2.length c2)).setCell ⟨g, 2, none⟩ (.slice D2 d2.length e2)).alloc (.cells #[.bool n3, .slice A3 a3.length c3, .slice D3 d3.length e3] t))).heap.size) .u32 D3 d3) ∧ Below W.heap.size W ((((w3.setCell ⟨g, 0, none⟩ (.bool n2)).setCell ⟨g, 1, none⟩ (.slice A2 a2.length c2)).setCell ⟨g, 2, none⟩ (.slice D2 d2.length e2)).alloc (.cells #[.bool n3, .slice A3 a3.length c3, .slice D3 d3.length e3] t)) := by
  have b2 := below_new (((w3.setCell ⟨g, 0, none⟩ (.bool n2)).setCell ⟨g, 1, none⟩ (.slice A2 a2.length c2)).setCell ⟨g, 2, none⟩ (.slice D2 d2.length e2)) (.cells #[.bool n3, .slice A3 a3.length c3, .slice D3 d3.length e3] t)
  exact ⟨(k.trip _ _ _).alloc _, Blk.at_new (((w3.setCell ⟨g, 0, none⟩ (.bool n2)).setCell ⟨g, 1, none⟩ (.slice A2 a2.length c2)).setCell ⟨g, 2, none⟩ (.slice D2 d2.length e2)) t [.bool n3, .slice A3 a3.length c3, .slice D3 d3.length e3] (by simp [World.setCell]), ⟨(r2.trip k _ _ _).on b2, (q2.trip k _ _ _).on b2⟩, ⟨(r3.trip k _ _ _).on b2, (q3.trip k _ _ _).on b2⟩, keep_one (((K.setCell hg _).setCell hg _).setCell hg _) _⟩
theorem endB' {W w3 : World} {t : TypeId} {A2 D2 A3 D3 : Option Addr} {a2 d2 a3 d3 : List Nat} {g : Nat} (k : Blk w3 g t [.bool false, .slice none 0 0, .slice none 0 0]) (hg : W.heap.size ≤ g) (K : Below W.heap.size W w3) (n2 : Bool) (c2 e2 : Nat) (r2 : Rd w3 (fun g => g < w3.heap.size) .u32 A2 a2) (q2 : Rd w3 (fun g => g < w3.heap.size) .u32 D2 d2) (n3 : Bool) (c3 e3 : Nat) (r3 : Rd w3 (fun g => g < w3.heap.size) .u32 A3 a3) (q3 : Rd w3 (fun g => g < w3.heap.size) .u32 D3 d3) : Blk ((((w3.setCell ⟨g, 0, none⟩ (.bool n3)).setCell ⟨g, 1, none⟩ (.slice A3 a3.length c3)).setCell ⟨g, 2, none⟩ (.slice D3 d3.length e3)).alloc (.cells #[.bool n2, .slice A2 a2.length c2, .slice D2 d2.length e2] t)) w3.heap.size t [.bool n2, .slice A2 a2.length c2, .slice D2 d2.length e2] ∧ Blk ((((w3.setCell ⟨g, 0, none⟩ (.bool n3)).setCell ⟨g, 1, none⟩ (.slice A3 a3.length c3)).setCell ⟨g, 2, none⟩ (.slice D3 d3.length e3)).alloc (.cells #[.bool n2, .slice A2 a2.length c2, .slice D2 d2.length e2] t)) g t [.bool n3, .slice A3 a3.length c3, .slice D3 d3.length e3] ∧ (Rd ((((w3.setCell ⟨g, 0, none⟩ (.bool n3)).setCell ⟨g, 1, none⟩ (.slice A3 a3.length c3)).setCell ⟨g, 2, none⟩ (.slice D3 d3.length e3)).alloc (.cells #[.bool n2, .slice A2 a2.length c2, .slice D2 d2.length e2] t)) (fun b => b < (((((w3.setCell ⟨g, 0, none⟩ (.bool n3)).setCell ⟨g, 1, none⟩ (.slice A3 a3.length c3)).setCell ⟨g, 2, none⟩ (.slice D3 d3.length e3)).alloc (.cells #[.bool n2, .slice A2 a2.length c2, .slice D2 d2.length e2] t))).heap.size) .u32 A2 a2 ∧ Rd ((((w3.setCell ⟨g, 0, none⟩ (.bool n3)).setCell ⟨g, 1, none⟩ (.slice A3 a3.length c3)).setCell ⟨g, 2, none⟩ (.slice D3 d3.length e3)).alloc (.cells #[.bool n2, .slice A2 a2.length c2, .slice D2 d2.length e2] t)) (fun b => b < (((((w3.setCell ⟨g, 0, none⟩ (.bool n3)).setCell ⟨g, 1, none⟩ (.slice A3 a3.length c3)).setCell ⟨g, 2, none⟩ (.slice D3 d3.length e3)).alloc (.cells #[.bool n2, .slice A2 a2.length c2, .slice D2 d2.length e2] t))).heap.size) .u32 D2 d2) ∧ (Rd ((((w3.setCell ⟨g, 0, none⟩ (.bool n3)).setCell ⟨g, 1, none⟩ (.slice A3 a3.length c3)).setCell ⟨g, 2, none⟩ (.slice D3 d3.length e3)).alloc (.cells #[.bool n2, .slice A2 a2.length c2, .slice D2 d2.length e2] t)) (fun b => b < (((((w3.setCell ⟨g, 0, none⟩ (.bool n3)).setCell ⟨g, 1, none⟩ (.slice A3 a3.length c3)).setCell ⟨g, 2, none⟩ (.slice D3 d3.length e3)).alloc (.cells #[.bool n2, .slice A2 a2.length c2, .slice D2 d2.length e2] t))).heap.size) .u32 A3 a3 ∧ Rd ((((w3.setCell ⟨g, 0, none⟩ (.bool n3)).setCell ⟨g, 1, none⟩ (.slice A3 a3.length c3)).setCell ⟨g, 2, none⟩ (.slice D3 d3.length e3)).alloc (.cells #[.bool n2, .slice A2 a2.length c2, .slice D2 d2.length e2] t)) (fun b => b < (((((w3.setCell ⟨g, 0, none⟩ (.bool n3)).setCell ⟨g, 1, none⟩ (.slice A3 a3.length c3)).setCell ⟨g, 2, none⟩ (.slice D3 d3.length e3)).alloc (.cells #[.bool n2, .slice A2 a2.length c2, .slice D2 d2.length e2] t))).heap.size) .u32 D3 d3) ∧ Below W.heap.size W ((((w3.setCell ⟨g, 0, none⟩ (.bool n3)).setCell ⟨g, 1, none⟩ (.slice A3 a3.length c3)).setCell ⟨g, 2, none⟩ (.slice D3 d3.length e3)).alloc (.cells #[.bool n2, .slice A2 a2.length c2, .slice D2 d2.length e2] t)) := by
  have b2 := below_new (((w3.setCell ⟨g, 0, none⟩ (.bool n3)).setCell ⟨g, 1, none⟩ (.slice A3 a3.length c3)).setCell ⟨g, 2, none⟩ (.slice D3 d3.length e3)) (.cells #[.bool n2, .slice A2 a2.length c2, .slice D2 d2.length e2] t)
  exact ⟨Blk.at_new (((w3.setCell ⟨g, 0, none⟩ (.bool n3)).setCell ⟨g, 1, none⟩ (.slice A3 a3.length c3)).setCell ⟨g, 2, none⟩ (.slice D3 d3.length e3)) t [.bool n2, .slice A2 a2.length c2, .slice D2 d2.length e2] (by simp [World.setCell]), (k.trip _ _ _).alloc _, ⟨(r2.trip k _ _ _).on b2, (q2.trip k _ _ _).on b2⟩, ⟨(r3.trip k _ _ _).on b2, (q3.trip k _ _ _).on b2⟩, keep_one (((K.setCell hg _).setCell hg _).setCell hg _) _⟩
theorem endC {W w3 : World} {t : TypeId} {A2 D2 A3 D3 : Option Addr} {a2 d2 a3 d3 : List Nat} {g g' : Nat} (k : Blk w3 g t [.bool false, .slice none 0 0, .slice none 0 0]) (k' : Blk w3 g' t [.bool false, .slice none 0 0, .slice none 0 0]) (hne : g ≠ g') (hg : W.heap.size ≤ g) (hg' : W.heap.size ≤ g') (K : Below W.heap.size W w3) (n2 : Bool) (c2 e2 : Nat) (r2 : Rd w3 (fun g => g < w3.heap.size) .u32 A2 a2) (q2 : Rd w3 (fun g => g < w3.heap.size) .u32 D2 d2) (n3 : Bool) (c3 e3 : Nat) (r3 : Rd w3 (fun g => g < w3.heap.size) .u32 A3 a3) (q3 : Rd w3 (fun g => g < w3.heap.size) .u32 D3 d3) : Blk ((((((w3.setCell ⟨g, 0, none⟩ (.bool n2)).setCell ⟨g, 1, none⟩ (.slice A2 a2.length c2)).setCell ⟨g, 2, none⟩ (.slice D2 d2.length e2)).setCell ⟨g', 0, none⟩ (.bool n3)).setCell ⟨g', 1, none⟩ (.slice A3 a3.length c3)).setCell ⟨g', 2, none⟩ (.slice D3 d3.length e3)) g t [.bool n2, .slice A2 a2.length c2, .slice D2 d2.length e2] ∧ Blk ((((((w3.setCell ⟨g, 0, none⟩ (.bool n2)).setCell ⟨g, 1, none⟩ (.slice A2 a2.length c2)).setCell ⟨g, 2, none⟩ (.slice D2 d2.length e2)).setCell ⟨g', 0, none⟩ (.bool n3)).setCell ⟨g', 1, none⟩ (.slice A3 a3.length c3)).setCell ⟨g', 2, none⟩ (.slice D3 d3.length e3)) g' t [.bool n3, .slice A3 a3.length c3, .slice D3 d3.length e3] ∧ (Rd ((((((w3.setCell ⟨g, 0, none⟩ (.bool n2)).setCell ⟨g, 1, none⟩ (.slice A2 a2.length c2)).setCell ⟨g, 2, none⟩ (.slice D2 d2.length e2)).setCell ⟨g', 0, none⟩ (.bool n3)).setCell ⟨g', 1, none⟩ (.slice A3 a3.length c3)).setCell ⟨g', 2, none⟩ (.slice D3 d3.length e3)) (fun b => b < (((((((w3.setCell ⟨g, 0, none⟩ (.bool n2)).setCell ⟨g, 1, none⟩ (.slice A2 a2.length c2)).setCell ⟨g, 2, none⟩ (.slice D2 d2.length e2)).setCell ⟨g', 0, none⟩ (.bool n3)).setCell ⟨g', 1, none⟩ (.slice A3 a3.length c3)).setCell ⟨g', 2, none⟩ (.slice D3 d3.length e3))).heap.size) .u32 A2 a2 ∧ Rd ((((((w3.setCell ⟨g, 0, none⟩ (.bool n2)).setCell ⟨g, 1, none⟩ (.slice A2 a2.length c2)).setCell ⟨g, 2, none⟩ (.slice D2 d2.length e2)).setCell ⟨g', 0, none⟩ (.bool n3)).setCell ⟨g', 1, none⟩ (.slice A3 a3.length c3)).setCell ⟨g', 2, none⟩ (.slice D3 d3.length e3)) (fun b => b < (((((((w3.setCell ⟨g, 0, none⟩ (.bool n2)).setCell ⟨g, 1, none⟩ (.slice A2 a2.length c2)).setCell ⟨g, 2, none⟩ (.slice D2 d2.length e2)).setCell ⟨g', 0, none⟩ (.bool n3)).setCell ⟨g', 1, none⟩ (.slice A3 a3.length c3)).setCell ⟨g', 2, none⟩ (.slice D3 d3.length e3))).heap.size) .u32 D2 d2) ∧ (Rd ((((((w3.setCell ⟨g, 0, none⟩ (.bool n2)).setCell ⟨g, 1, none⟩ (.slice A2 a2.length c2)).setCell ⟨g, 2, none⟩ (.slice D2 d2.length e2)).setCell ⟨g', 0, none⟩ (.bool n3)).setCell ⟨g', 1, none⟩ (.slice A3 a3.length c3)).setCell ⟨g', 2, none⟩ (.slice D3 d3.length e3)) (fun b => b < (((((((w3.setCell ⟨g, 0, none⟩ (.bool n2)).setCell ⟨g, 1, none⟩ (.slice A2 a2.length c2)).setCell ⟨g, 2, none⟩ (.slice D2 d2.length e2)).setCell ⟨g', 0, none⟩ (.bool n3)).setCell ⟨g', 1, none⟩ (.slice A3 a3.length c3)).setCell ⟨g', 2, none⟩ (.slice D3 d3.length e3))).heap.size) .u32 A3 a3 ∧ Rd ((((((w3.setCell ⟨g, 0, none⟩ (.bool n2)).setCell ⟨g, 1, none⟩ (.slice A2 a2.length c2)).setCell ⟨g, 2, none⟩ (.slice D2 d2.length e2)).setCell ⟨g', 0, none⟩ (.bool n3)).setCell ⟨g', 1, none⟩ (.slice A3 a3.length c3)).setCell ⟨g', 2, none⟩ (.slice D3 d3.length e3)) (fun b => b < (((((((w3.setCell ⟨g, 0, none⟩ (.bool n2)).setCell ⟨g, 1, none⟩ (.slice A2 a2.length c2)).setCell ⟨g, 2, none⟩ (.slice D2 d2.length e2)).setCell ⟨g', 0, none⟩ (.bool n3)).setCell ⟨g', 1, none⟩ (.slice A3 a3.length c3)).setCell ⟨g', 2, none⟩ (.slice D3 d3.length e3))).heap.size) .u32 D3 d3) ∧ Below W.heap.size W ((((((w3.setCell ⟨g, 0, none⟩ (.bool n2)).setCell ⟨g, 1, none⟩ (.slice A2 a2.length c2)).setCell ⟨g, 2, none⟩ (.slice D2 d2.length e2)).setCell ⟨g', 0, none⟩ (.bool n3)).setCell ⟨g', 1, none⟩ (.slice A3 a3.length c3)).setCell ⟨g', 2, none⟩ (.slice D3 d3.length e3)) := by
  have K1 := k.trip (.bool n2) (.slice A2 a2.length c2) (.slice D2 d2.length e2)
  have K2 := ((k'.far (p := ⟨g, 0, none⟩) (Ne.symm hne) (.bool n2)).far (p := ⟨g, 1, none⟩) (Ne.symm hne) (.slice A2 a2.length c2)).far (p := ⟨g, 2, none⟩) (Ne.symm hne) (.slice D2 d2.length e2)
  exact ⟨((K1.far (p := ⟨g', 0, none⟩) hne _).far (p := ⟨g', 1, none⟩) hne _).far (p := ⟨g', 2, none⟩) hne _, K2.trip _ _ _, ⟨(r2.trip k _ _ _).trip K2 _ _ _, (q2.trip k _ _ _).trip K2 _ _ _⟩, ⟨(r3.trip k _ _ _).trip K2 _ _ _, (q3.trip k _ _ _).trip K2 _ _ _⟩, (((((K.setCell hg _).setCell hg _).setCell hg _).setCell hg' _).setCell hg' _).setCell hg' _⟩

end Go.Proofs.YtdmoibphidipeaaGreatDoor
/- Fractions: what the program's own Sign, Cmp and Whole answer. -/

namespace Go.Proofs.YtdmoibphidipeaaGreatDoor
open Go.RowKit Num

set_option maxRecDepth 10000 in
set_option maxHeartbeats 12800000 in
/-- how two stand -/
theorem frac_Cmp (S S' : Shape) (P P' : Int) (Q Q' m : Nat) (hQ : 0 < Q) (hQ' : 0 < Q') (hm : m ≤ 4194304) (cH : Fn1 108 S (SR P Q m)) (cH' : Fn1 108 S' (SR P' Q' m))
    (n n' : Bool) (a d a' d' : List Nat) (A D A' D' : Option Addr) (ca cd ca' cd' : Nat) (w : World) (hS : S n a ca d cd) (hT : S' n' a' ca' d' cd') (h : Rd w (fun g => g < w.heap.size) .u32 A a) (h' : Rd w (fun g => g < w.heap.size) .u32 D d) (q : Rd w (fun g => g < w.heap.size) .u32 A' a') (q' : Rd w (fun g => g < w.heap.size) .u32 D' d') :
    Calls Tryz.prog 63 #[.agg #[.bool n, .slice A a.length ca, .slice D d.length cd], .agg #[.bool n', .slice A' a'.length ca', .slice D' d'.length cd']] w fun e w' => e = .returned (.int .i64 (sgn (P * (Q' : Int) - P' * (Q : Int)))) ∧ Below w.heap.size w w' := by
  obtain ⟨W, hW, k1, k2, b0, s0⟩ := bx2 w 39 39 (.bool n) (.slice A a.length ca) (.slice D d.length cd) (.bool n') (.slice A' a'.length ca') (.slice D' d'.length cd')
  obtain ⟨p0, p1, p2, -, -, -⟩ := k1.facts
  obtain ⟨z0, z1, z2, -, -, -⟩ := k2.facts
  obtain ⟨T, hTT⟩ : ∃ T, SR P Q m = T := ⟨_, rfl⟩
  obtain ⟨T', hTT'⟩ : ∃ T, SR P' Q' m = T := ⟨_, rfl⟩
  rw [hTT] at cH
  rw [hTT'] at cH'
  have HTT := Lib.hid (And.intro hTT hTT')
  obtain ⟨z, hz⟩ : ∃ z, sgn (P * (Q' : Int) - P' * (Q : Int)) = z := ⟨_, rfl⟩
  rw [hz]
  have HZ := Lib.hid hz
  have CH := Lib.hid (fun (V : World) (hV : Below W.heap.size W V) => cH n a d A D ca cd V hS ((h.on b0).on hV) ((h'.on b0).on hV))
  have CI := Lib.hid (fun (V : World) (hV : Below W.heap.size W V) => cH' n' a' d' A' D' ca' cd' V hT ((q.on b0).on hV) ((q'.on b0).on hV))
  have HK1 := Lib.hid k1
  have HK2 := Lib.hid k2
  have HB0 := Lib.hid b0
  have K0 : Below W.heap.size W W.drew := below_drewN (Below.refl _ _) 1
  have KO : Below W.heap.size W (W.alloc (.cells #[.bool false, .slice none 0 0, .slice none 0 0] 111)).drew := below_drewN (keep_one (Below.refl W.heap.size W) _) 1
  have KT : Below W.heap.size W ((W.alloc (.cells #[.bool false, .slice none 0 0, .slice none 0 0] 111)).alloc (.cells #[.bool false, .slice none 0 0, .slice none 0 0] 111)).drew := below_drewN (keep_two (Below.refl W.heap.size W) _ _) 1
  have hlt : w.heap.size + 1 < W.heap.size := by omega
  clear cH cH' hTT hTT' hz k1 k2 b0 s0 h h' q q' hS hT
  go_enter Tryz.func63, Tryz.ntmps63
  go_wp2_with fail
  try rw [hW]
  clear hW
  go_cut [5, 6] from 7 (fun v5 v6 wc => ∃ g5 g6 n2 a2 X2 c2 d2 Y2 e2 n3 a3 X3 c3 d3 Y3 e3, v5 = .pointer (some ⟨g5, 0, none⟩) ∧ v6 = .pointer (some ⟨g6, 0, none⟩) ∧ T n2 a2 c2 d2 e2 ∧ T' n3 a3 c3 d3 e3 ∧ Blk wc g5 111 [.bool n2, .slice X2 a2.length c2, .slice Y2 d2.length e2] ∧ Blk wc g6 111 [.bool n3, .slice X3 a3.length c3, .slice Y3 d3.length e3] ∧ (Rd wc (fun g => g < wc.heap.size) .u32 X2 a2 ∧ Rd wc (fun g => g < wc.heap.size) .u32 Y2 d2) ∧ (Rd wc (fun g => g < wc.heap.size) .u32 X3 a3 ∧ Rd wc (fun g => g < wc.heap.size) .u32 Y3 d3) ∧ Below W.heap.size W wc)
  case first =>
    go_region_held3 (fun w' => (w'.cell? ⟨w.heap.size, 0, none⟩ = some (.bool n) ∧ w'.cell? ⟨w.heap.size, 1, none⟩ = some (.slice A a.length ca) ∧ w'.cell? ⟨w.heap.size, 2, none⟩ = some (.slice D d.length cd)) ∧ (w'.cell? ⟨w.heap.size + 1, 0, none⟩ = some (.bool n') ∧ w'.cell? ⟨w.heap.size + 1, 1, none⟩ = some (.slice A' a'.length ca') ∧ w'.cell? ⟨w.heap.size + 1, 2, none⟩ = some (.slice D' d'.length cd')))
      (first | (refine ⟨keep3 HK1.out ?_, keep3 HK2.out ?_⟩ <;> first | (with_reducible exact KB) | (with_reducible exact KA) | (with_reducible exact K0) | ((repeat (first | (with_reducible refine Below.setCell ?_ (by dsimp only; omega) _) | (with_reducible refine Below.alloc ?_ (by first | omega | exact Nat.le_refl _ | (have := KB.size; omega) | (have := KA.size; omega) | (simp; omega) | (have := KB.size; simp [World.setCell]; omega) | (have := KA.size; simp; omega)) _))); first | (with_reducible exact KB) | (with_reducible exact KA) | (with_reducible exact K0))) | go_keep)
      ((first
        | (go_at_call_of 108 (Value.slice A a.length ca); (first | (with_reducible refine Calls.mono (CH.out _ K0) ?_) | (with_reducible refine Calls.mono (CH.out _ KO) ?_) | (with_reducible refine Calls.mono (CH.out _ KT) ?_)); rintro e w2 ⟨n2, a2, X2, c2, d2, Y2, e2, rfl, s2, r2, q2, b2⟩; (first | (guard_hyp b2 : Below W.drew.heap.size W.drew w2; have sz2 : W.heap.size ≤ w2.heap.size := b2.size; have KA := below_next K0 (Nat.le_refl _) b2) | (guard_hyp b2 : Below (W.alloc (.cells #[.bool false, .slice none 0 0, .slice none 0 0] 111)).drew.heap.size (W.alloc (.cells #[.bool false, .slice none 0 0, .slice none 0 0] 111)).drew w2; obtain ⟨kA, sz2⟩ := got13d b2; obtain ⟨o0, o1, o2, o3, o4, o5⟩ := kA.facts; have KA := below_next KO (Nat.le_refl _) b2) | (obtain ⟨⟨kA, sz2⟩, kB⟩ := got23d b2; obtain ⟨o0, o1, o2, o3, o4, o5⟩ := kA.facts; obtain ⟨l0, l1, l2, l3, l4, l5⟩ := kB.facts; have KA := below_next KT (Nat.le_refl _) b2)))
        | (go_at_call_of 108 (Value.slice A' a'.length ca'); (first | (with_reducible refine Calls.mono (CI.out _ KA) ?_) | (with_reducible refine Calls.mono (CI.out _ (keep_one KA _)) ?_) | (with_reducible refine Calls.mono (CI.out _ (keep_two KA _ _)) ?_)); rintro e w3 ⟨n3, a3, X3, c3, d3, Y3, e3, rfl, s3, r3, q3, b3⟩; (first | (guard_hyp b3 : Below w2.heap.size w2 w3; have sz3 : w2.heap.size ≤ w3.heap.size := b3.size; have KB := below_next KA (Nat.le_refl _) b3; have b23 : Below w2.heap.size w2 w3 := b3) | (guard_hyp b3 : Below (w2.alloc (.cells #[.bool false, .slice none 0 0, .slice none 0 0] 111)).heap.size (w2.alloc (.cells #[.bool false, .slice none 0 0, .slice none 0 0] 111)) w3; obtain ⟨kC, sz3⟩ := got13 b3; obtain ⟨t0, t1, t2, t3, t4, t5⟩ := kC.facts; have KB := below_next (keep_one KA _) (Nat.le_refl _) b3; have b23 : Below w2.heap.size w2 w3 := (below_new w2 _).trans (b3.mono (by simp))) | (obtain ⟨⟨kC, sz3⟩, kD⟩ := got23 b3; obtain ⟨t0, t1, t2, t3, t4, t5⟩ := kC.facts; obtain ⟨m0, m1, m2, m3, m4, m5⟩ := kD.facts; have KB := below_next (keep_two KA _ _) (Nat.le_refl _) b3; have b23 : Below w2.heap.size w2 w3 := (below_new2 w2 _ _).trans (b3.mono (by simp; omega)))); have r2 := r2.on b23; have q2 := q2.on b23; (first | (guard_hyp b2 : Below W.drew.heap.size W.drew w2; have kX := b23) | (guard_hyp b2 : Below (W.alloc (.cells #[.bool false, .slice none 0 0, .slice none 0 0] 111)).drew.heap.size (W.alloc (.cells #[.bool false, .slice none 0 0, .slice none 0 0] 111)).drew w2; have kX := kA.on b23; have y1 := kX.lt; obtain ⟨o6, o7, o8, o9, oa, ob⟩ := kX.facts) | (have kX := kA.on b23; have y1 := kX.lt; have kY := kB.on b23; have y2 := kY.lt; obtain ⟨o6, o7, o8, o9, oa, ob⟩ := kX.facts; obtain ⟨l6, l7, l8, l9, la, lb⟩ := kY.facts)))))
    all_goals
      have hsz3 : W.heap.size ≤ w3.heap.size := KB.size
      go_wp2_with fail
      go_meet
      refine ⟨_, _, n2, a2, X2, c2, d2, Y2, e2, n3, a3, X3, c3, d3, Y3, e3, rfl, rfl, s2, s3, ?_⟩
      first
        | (with_reducible exact endA KB _ _ _ r2 q2 _ _ _ r3 q3)
        | (with_reducible exact endA' KB _ _ _ r2 q2 _ _ _ r3 q3)
        | (with_reducible exact endB kX (by omega) KB _ _ _ r2 q2 _ _ _ r3 q3)
        | (with_reducible exact endB' kX (by omega) KB _ _ _ r2 q2 _ _ _ r3 q3)
        | (with_reducible exact endB kY (by omega) KB _ _ _ r2 q2 _ _ _ r3 q3)
        | (with_reducible exact endB' kY (by omega) KB _ _ _ r2 q2 _ _ _ r3 q3)
        | (with_reducible exact endB kC (by omega) KB _ _ _ r2 q2 _ _ _ r3 q3)
        | (with_reducible exact endB' kC (by omega) KB _ _ _ r2 q2 _ _ _ r3 q3)
        | (with_reducible exact endC kX kY (by omega) (by omega) (by omega) KB _ _ _ r2 q2 _ _ _ r3 q3)
        | (with_reducible exact endC kY kX (by omega) (by omega) (by omega) KB _ _ _ r2 q2 _ _ _ r3 q3)
        | (with_reducible exact endC kX kC (by omega) (by omega) (by omega) KB _ _ _ r2 q2 _ _ _ r3 q3)
        | (with_reducible exact endC kC kX (by omega) (by omega) (by omega) KB _ _ _ r2 q2 _ _ _ r3 q3)
        | (with_reducible exact endC kC kD (by omega) (by omega) (by omega) KB _ _ _ r2 q2 _ _ _ r3 q3)
        | (with_reducible exact endC kD kC (by omega) (by omega) (by omega) KB _ _ _ r2 q2 _ _ _ r3 q3)
  case rest =>
    obtain ⟨g5, g6, n2, a2, X2, c2, d2, Y2, e2, n3, a3, X3, c3, d3, Y3, e3, rfl, rfl, s2, s3, k5, k6, ⟨r2, q2⟩, ⟨r3, q3⟩, KB⟩ := hcut
    rw [← HTT.out.1] at s2
    rw [← HTT.out.2] at s3
    obtain ⟨hc2, he2, ga2, gd2, gl2, gm2, hp2, hv2⟩ := s2
    obtain ⟨hc3, he3, ga3, gd3, gl3, gm3, hp3, hv3⟩ := s3
    have BW : Below w.heap.size w wc := HB0.out.trans (KB.mono HB0.out.size)
    have HBW := Lib.hid BW
    have HK5 := Lib.hid k5
    have HK6 := Lib.hid k6
    have cC := nat_Cmp d2 d3 Y2 Y3 e2 e3 _ _ wc q2 q3 (by omega) (by omega) he2 he3 gd2 gd3
    obtain ⟨x0, x1, x2⟩ := keep3 k5 (Below.refl _ _)
    obtain ⟨y0, y1, y2⟩ := keep3 k6 (Below.refl _ _)
    have hQQ : (0 : Int) < (Q : Int) * (Q' : Int) := Int.mul_pos (by omega) (by omega)
    by_cases he : val 4294967296 d2 = val 4294967296 d3
    · rw [cmpI_eq he] at cC
      have cX := fun (V : World) (hV : Below wc.heap.size wc V) => whole_Cmp n2 n3 a2 a3 X2 X3 c2 c3 V (r2.on hV) (r3.on hV) (by omega) (by omega) hc2 hc3 ga2 ga3
      have hE : sgn (wv n2 a2 - wv n3 a3) = z := by
        rw [← HZ.out]
        rw [← he] at hv3
        refine sgn_cross (y := (val 4294967296 d2 : Int)) (Q := (Q : Int) * (Q' : Int)) (by omega) hQQ ?_
        have := plus_same hv2 (show (- wv n3 a3) * (Q' : Int) = (-P') * (val 4294967296 d2 : Int) by rw [Int.neg_mul, hv3, Int.neg_mul])
        rwa [Int.neg_mul, ← Int.sub_eq_add_neg, ← Int.sub_eq_add_neg] at this
      simp only [hE] at cX
      have CX := Lib.hid cX
      clear cX hE he hv2 hv3 HZ HTT k5 k6 BW r2 q2 r3 q3 hQQ CH CI HK1 HK2 HB0 p0 p1 p2 z0 z1 z2 K0 KO KT KB
      go_wp2_with fail
      refine cC.mono ?_
      rintro e w4 ⟨rfl, j, rfl⟩
      have Z0 : Below wc.heap.size wc (wc.drewN j) := below_drewN (Below.refl _ _) j
      obtain ⟨x0, x1, x2⟩ := keep3 HK5.out Z0
      obtain ⟨y0, y1, y2⟩ := keep3 HK6.out Z0
      clear cC
      go_wp2_with fail
      refine (CX.out _ Z0).mono ?_
      rintro e w5 ⟨rfl, b5⟩
      go_wp2_with fail
      go_ret
      exact ⟨rfl, HBW.out.trans ((below_next Z0 (Nat.le_refl _) b5).mono HBW.out.size)⟩
    · obtain ⟨y, hy⟩ : ∃ y, cmpI (val 4294967296 d2) (val 4294967296 d3) = y := ⟨_, rfl⟩
      have hyb : (y == 0) = false := by
        have := cmpI_ne he
        rw [hy] at this
        simpa using this
      rw [hy] at cC
      obtain ⟨N1, hN1⟩ : ∃ N, wv n2 a2 * wv false d3 = N := ⟨_, rfl⟩
      obtain ⟨N2, hN2⟩ : ∃ N, wv n3 a3 * wv false d2 = N := ⟨_, rfl⟩
      have cS3 := fun (V : World) => frac_size Y3 d3.length e3 V
      have cS2 := fun (V : World) => frac_size Y2 d2.length e2 V
      have cM1 := fun (V : World) (hV : Below wc.heap.size wc V) => whole_Mul n2 false a2 d3 X2 Y3 c2 e3 V (r2.on hV) (q3.on hV) (by omega) (by omega) hc2 he3 ga2 gd3
      have cM2 := fun (V : World) (hV : Below wc.heap.size wc V) => whole_Mul n3 false a3 d2 X3 Y2 c3 e2 V (r3.on hV) (q2.on hV) (by omega) (by omega) hc3 he2 ga3 gd2
      simp only [hN1] at cM1
      simp only [hN2] at cM2
      have hE : sgn (N1 - N2) = z := by
        rw [← HZ.out, ← hN1, ← hN2, wv_false, wv_false]
        exact sgn_cross (y := (val 4294967296 d2 : Int) * (val 4294967296 d3 : Int)) (Q := (Q : Int) * (Q' : Int)) (Int.mul_pos (by omega) (by omega)) hQQ (cross_sub hv2 hv3)
      have cX : ∀ (V : World) (x y : List Nat) (X Y : Option Addr) (cx cy : Nat), Rd V (fun g => g < V.heap.size) .u32 X x → Rd V (fun g => g < V.heap.size) .u32 Y y → x.length ≤ cx → y.length ≤ cy → Norm 4294967296 x → Norm 4294967296 y → val 4294967296 x = N1.natAbs → val 4294967296 y = N2.natAbs → Calls Tryz.prog 91 #[.agg #[.bool (decide (N1 < 0)), .slice X x.length cx], .agg #[.bool (decide (N2 < 0)), .slice Y y.length cy]] V (fun e w' => e = .returned (.int .i64 z) ∧ Below V.heap.size V w') := fun V x y X Y cx cy hx hy hcx hcy hn hm' hv hu => by
        have lx := len_mul (b := 4294967296) (by omega) hn.2 ga2 gd3 (by rw [hv, ← hN1, Int.natAbs_mul, wv_abs, wv_abs])
        have ly := len_mul (b := 4294967296) (by omega) hm'.2 ga3 gd2 (by rw [hu, ← hN2, Int.natAbs_mul, wv_abs, wv_abs])
        have := whole_Cmp (decide (N1 < 0)) (decide (N2 < 0)) x y X Y cx cy V hx hy (by omega) (by omega) hcx hcy hn.1 hm'.1
        rwa [wv_dec hv, wv_dec hu, hE] at this
      have CS2 := Lib.hid cS2
      have CS3 := Lib.hid cS3
      have CM1 := Lib.hid cM1
      have CM2 := Lib.hid cM2
      have CX := Lib.hid cX
      clear cS2 cS3 cM1 cM2 cX hE he hv2 hv3 HZ HTT k5 k6 BW r2 q2 r3 q3 hQQ CH CI HK1 HK2 HB0 p0 p1 p2 z0 z1 z2 K0 KO KT KB hN1 hN2 hy
      go_wp2_with fail
      refine cC.mono ?_
      rintro e w4 ⟨rfl, j, rfl⟩
      have Z0 : Below wc.heap.size wc (wc.drewN j) := below_drewN (Below.refl _ _) j
      have Z1 : Below wc.heap.size wc (wc.drewN (j + 1)) := below_drewN (Below.refl _ _) (j + 1)
      obtain ⟨x0, x1, x2⟩ := keep3 HK5.out Z0
      obtain ⟨y0, y1, y2⟩ := keep3 HK6.out Z0
      clear cC
      go_wp2_with fail
      go_region_held3 (fun w' => (w'.cell? ⟨g5, 0, none⟩ = some (.bool n2) ∧ w'.cell? ⟨g5, 1, none⟩ = some (.slice X2 a2.length c2) ∧ w'.cell? ⟨g5, 2, none⟩ = some (.slice Y2 d2.length e2)) ∧ (w'.cell? ⟨g6, 0, none⟩ = some (.bool n3) ∧ w'.cell? ⟨g6, 1, none⟩ = some (.slice X3 a3.length c3) ∧ w'.cell? ⟨g6, 2, none⟩ = some (.slice Y3 d3.length e3)))
        (first | (with_reducible exact ⟨keep3 HK5.out Z1, keep3 HK6.out Z1⟩) | exact ⟨keep3 HK5.out Z1, keep3 HK6.out Z1⟩ | (with_reducible exact ⟨keep3 HK5.out ZA, keep3 HK6.out ZA⟩) | (with_reducible exact ⟨keep3 HK5.out ZB, keep3 HK6.out ZB⟩) | (with_reducible exact ⟨keep3 HK5.out ZC, keep3 HK6.out ZC⟩) | (with_reducible exact ⟨keep3 HK5.out ZD, keep3 HK6.out ZD⟩) | (with_reducible exact ⟨keep3 HK5.out ZE, keep3 HK6.out ZE⟩) | go_keep)
        ((first
          | (go_at_call_of 111 (Value.slice Y3 d3.length e3); (with_reducible refine Calls.mono (CS3.out _) ?_); rintro e w5 ⟨rfl, b5⟩; have ZA := below_next Z1 (Nat.le_refl _) b5)
          | (go_at_call_of 110 (Value.slice X2 a2.length c2); (with_reducible refine Calls.mono (CM1.out _ ZA) ?_); rintro e w6 ⟨U1, u1, v1, rfl, hu1, hn1, hv1, t1, b6⟩; have ZB := below_next ZA (Nat.le_refl _) b6)
          | (go_at_call_of 111 (Value.slice Y2 d2.length e2); (with_reducible refine Calls.mono (CS2.out _) ?_); rintro e w7 ⟨rfl, b7⟩; have ZC := below_next ZB (Nat.le_refl _) b7)
          | (go_at_call_of 110 (Value.slice X3 a3.length c3); (with_reducible refine Calls.mono (CM2.out _ ZC) ?_); rintro e w8 ⟨U2, u2, v2, rfl, hu2, hn2, hv2, t2, b8⟩; have ZD := below_next ZC (Nat.le_refl _) b8)
          | (go_at_call 91; (with_reducible refine Calls.mono (CX.out _ u1 u2 U1 U2 v1 v2 (t1.on (b7.trans (b8.mono b7.size))) t2 hu1 hu2 hn1 hn2 hv1 hv2) ?_); rintro e w9 ⟨rfl, b9⟩; have ZE := below_next ZD (Nat.le_refl _) b9)))
      go_wp2_with fail
      go_ret
      exact ⟨rfl, HBW.out.trans (ZE.mono HBW.out.size)⟩
end Go.Proofs.YtdmoibphidipeaaGreatDoor
/- Spots: boxes of six cells, shapes of what is handed in and out. -/

namespace Go.Proofs.YtdmoibphidipeaaGreatDoor
open Go.RowKit Num

/-- a cell's facts of six -/
theorem Blk.facts6 {w : World} {g : Nat} {t : TypeId} {a0 a1 a2 a3 a4 a5 : Value} (h : Blk w g t [a0, a1, a2, a3, a4, a5]) : (w.cell? ⟨g, 0, none⟩ = some a0 ∧ w.cell? ⟨g, 1, none⟩ = some a1 ∧ w.cell? ⟨g, 2, none⟩ = some a2 ∧ w.cell? ⟨g, 3, none⟩ = some a3 ∧ w.cell? ⟨g, 4, none⟩ = some a4 ∧ w.cell? ⟨g, 5, none⟩ = some a5) ∧ (w.frozen? ⟨g, 0, none⟩ = false ∧ w.frozen? ⟨g, 1, none⟩ = false ∧ w.frozen? ⟨g, 2, none⟩ = false ∧ w.frozen? ⟨g, 3, none⟩ = false ∧ w.frozen? ⟨g, 4, none⟩ = false ∧ w.frozen? ⟨g, 5, none⟩ = false) :=
  ⟨⟨h.cell 0 rfl, h.cell 1 rfl, h.cell 2 rfl, h.cell 3 rfl, h.cell 4 rfl, h.cell 5 rfl⟩, h.frozen 0, h.frozen 1, h.frozen 2, h.frozen 3, h.frozen 4, h.frozen 5⟩
theorem kept6 {W V : World} {g : Nat} {t : TypeId} {a0 a1 a2 a3 a4 a5 : Value} (k : Blk W g t [a0, a1, a2, a3, a4, a5]) (hb : Below W.heap.size W V) : V.cell? ⟨g, 0, none⟩ = some a0 ∧ V.cell? ⟨g, 1, none⟩ = some a1 ∧ V.cell? ⟨g, 2, none⟩ = some a2 ∧ V.cell? ⟨g, 3, none⟩ = some a3 ∧ V.cell? ⟨g, 4, none⟩ = some a4 ∧ V.cell? ⟨g, 5, none⟩ = some a5 := (k.on hb).facts6.1
/-- words that are read stay when a block's cells are stored that holds no integers -/
theorem Num.Rd.off {w U : World} {g : Nat} {t : TypeId} {vs : List Value} {k : IntKind} {A : Option Addr} {xs : List Nat} (h : Rd w (fun g => g < w.heap.size) k A xs) (f : Blk w g t vs) (hv : ∀ v ∈ vs, ∀ kk n, v ≠ .int kk n) (hU : ∀ b, b ≠ g → U.heap[b]? = w.heap[b]?) (hs : w.heap.size ≤ U.heap.size) : Rd U (fun g => g < U.heap.size) k A xs := fun hn => by
  obtain ⟨b, o, e, hb, hc⟩ := h hn
  have hne : b ≠ g := by
    rintro rfl
    have h0 := hc 0 hn
    rw [cell_of_row _ _ _ _ _ _ f] at h0
    have hm : (Value.int k (xs[0] : Int)) ∈ vs := by
      have := List.mem_of_getElem? (by simpa using h0 : vs[o]? = some (Value.int k (xs[0] : Int)))
      exact this
    exact hv _ hm _ _ rfl
  refine ⟨b, o, e, Nat.lt_of_lt_of_le hb hs, fun j hj => ?_⟩
  rw [← hc j hj]
  exact World.cell?_of_block (hU b hne)
theorem heap_six (w : World) (g : Nat) (u0 u1 u2 u3 u4 u5 : Value) (b : Nat) (hb : b ≠ g) : ((((((w.setCell ⟨g, 0, none⟩ u0).setCell ⟨g, 1, none⟩ u1).setCell ⟨g, 2, none⟩ u2).setCell ⟨g, 3, none⟩ u3).setCell ⟨g, 4, none⟩ u4).setCell ⟨g, 5, none⟩ u5).heap[b]? = w.heap[b]? :=
  (Below.heap_setCell _ _ u5 b hb).trans ((Below.heap_setCell _ _ u4 b hb).trans ((Below.heap_setCell _ _ u3 b hb).trans ((Below.heap_setCell _ _ u2 b hb).trans ((Below.heap_setCell _ _ u1 b hb).trans (Below.heap_setCell _ _ u0 b hb)))))
theorem Blk.six {w : World} {g : Nat} {t : TypeId} {a0 a1 a2 a3 a4 a5 : Value} (h : Blk w g t [a0, a1, a2, a3, a4, a5]) (u0 u1 u2 u3 u4 u5 : Value) : Blk ((((((w.setCell ⟨g, 0, none⟩ u0).setCell ⟨g, 1, none⟩ u1).setCell ⟨g, 2, none⟩ u2).setCell ⟨g, 3, none⟩ u3).setCell ⟨g, 4, none⟩ u4).setCell ⟨g, 5, none⟩ u5) g t [u0, u1, u2, u3, u4, u5] :=
  (((((h.set 0 u0).set 1 u1).set 2 u2).set 3 u3).set 4 u4).set 5 u5
theorem size_six (w : World) (g : Nat) (u0 u1 u2 u3 u4 u5 : Value) : ((((((w.setCell ⟨g, 0, none⟩ u0).setCell ⟨g, 1, none⟩ u1).setCell ⟨g, 2, none⟩ u2).setCell ⟨g, 3, none⟩ u3).setCell ⟨g, 4, none⟩ u4).setCell ⟨g, 5, none⟩ u5).heap.size = w.heap.size := by simp [World.setCell]
theorem below_six {B : Nat} {a w : World} (h : Below B a w) {g : Nat} (hg : B ≤ g) (u0 u1 u2 u3 u4 u5 : Value) : Below B a ((((((w.setCell ⟨g, 0, none⟩ u0).setCell ⟨g, 1, none⟩ u1).setCell ⟨g, 2, none⟩ u2).setCell ⟨g, 3, none⟩ u3).setCell ⟨g, 4, none⟩ u4).setCell ⟨g, 5, none⟩ u5) :=
  (((((h.setCell (p := ⟨g, 0, none⟩) hg u0).setCell (p := ⟨g, 1, none⟩) hg u1).setCell (p := ⟨g, 2, none⟩) hg u2).setCell (p := ⟨g, 3, none⟩) hg u3).setCell (p := ⟨g, 4, none⟩) hg u4).setCell (p := ⟨g, 5, none⟩) hg u5
theorem no_ints {x y : Bool} {p q r s : Option Addr} {i0 i1 i2 i3 i4 i5 i6 i7 : Nat} : ∀ v ∈ [Value.bool x, .slice p i0 i1, .slice q i2 i3, .bool y, .slice r i4 i5, .slice s i6 i7], ∀ kk n, v ≠ .int kk n := by
  intro v hv kk n h
  subst h
  simp at hv
theorem Num.Rd.six {w : World} {g : Nat} {t : TypeId} {x y : Bool} {p q r s : Option Addr} {i0 i1 i2 i3 i4 i5 i6 i7 : Nat} {k : IntKind} {A : Option Addr} {xs : List Nat} (h : Rd w (fun g => g < w.heap.size) k A xs) (f : Blk w g t [.bool x, .slice p i0 i1, .slice q i2 i3, .bool y, .slice r i4 i5, .slice s i6 i7]) (u0 u1 u2 u3 u4 u5 : Value) : Rd ((((((w.setCell ⟨g, 0, none⟩ u0).setCell ⟨g, 1, none⟩ u1).setCell ⟨g, 2, none⟩ u2).setCell ⟨g, 3, none⟩ u3).setCell ⟨g, 4, none⟩ u4).setCell ⟨g, 5, none⟩ u5) (fun b => b < ((((((w.setCell ⟨g, 0, none⟩ u0).setCell ⟨g, 1, none⟩ u1).setCell ⟨g, 2, none⟩ u2).setCell ⟨g, 3, none⟩ u3).setCell ⟨g, 4, none⟩ u4).setCell ⟨g, 5, none⟩ u5).heap.size) k A xs :=
  h.off f no_ints (fun b hb => heap_six w g u0 u1 u2 u3 u4 u5 b hb) (Nat.le_of_eq (size_six w g u0 u1 u2 u3 u4 u5).symm)

/-- a spot that a call hands back -/
def Gs (S T : Shape) (w : World) (e : Ending) (w' : World) : Prop :=
  ∃ n1 a1 A1 c1 d1 D1 e1 n2 a2 A2 c2 d2 D2 e2, e = .returned (.agg #[.bool n1, .slice A1 a1.length c1, .slice D1 d1.length e1, .bool n2, .slice A2 a2.length c2, .slice D2 d2.length e2]) ∧ (S n1 a1 c1 d1 e1 ∧ T n2 a2 c2 d2 e2) ∧
    (Rd w' (fun g => g < w'.heap.size) .u32 A1 a1 ∧ Rd w' (fun g => g < w'.heap.size) .u32 D1 d1) ∧ (Rd w' (fun g => g < w'.heap.size) .u32 A2 a2 ∧ Rd w' (fun g => g < w'.heap.size) .u32 D2 d2) ∧ Below w.heap.size w w'
theorem Gs.imp {S T S' T' : Shape} {w w' : World} {e : Ending} (hs : ∀ n a ca d cd, S n a ca d cd → S' n a ca d cd) (ht : ∀ n a ca d cd, T n a ca d cd → T' n a ca d cd) (h : Gs S T w e w') : Gs S' T' w e w' := by
  obtain ⟨n1, a1, A1, c1, d1, D1, e1, n2, a2, A2, c2, d2, D2, e2, rfl, h1, h2⟩ := h
  exact ⟨n1, a1, A1, c1, d1, D1, e1, n2, a2, A2, c2, d2, D2, e2, rfl, ⟨hs _ _ _ _ _ h1.1, ht _ _ _ _ _ h1.2⟩, h2⟩
/-- a spot stored where the result lies -/
theorem fin_spot {w v : World} {g : Nat} {t : TypeId} (k : Blk v g t [.bool false, .slice none 0 0, .slice none 0 0, .bool false, .slice none 0 0, .slice none 0 0]) (hg : w.heap.size ≤ g) (B : Below w.heap.size w v) {S T : Shape} {n1 n2 : Bool} {A1 D1 A2 D2 : Option Addr} {a1 d1 a2 d2 : List Nat} {c1 e1 c2 e2 : Nat} (hs : S n1 a1 c1 d1 e1) (ht : T n2 a2 c2 d2 e2) (r1 : Rd v (fun g => g < v.heap.size) .u32 A1 a1) (q1 : Rd v (fun g => g < v.heap.size) .u32 D1 d1) (r2 : Rd v (fun g => g < v.heap.size) .u32 A2 a2) (q2 : Rd v (fun g => g < v.heap.size) .u32 D2 d2) :
    ∃ U, ((((((v.setCell ⟨g, 0, none⟩ (.bool n1)).setCell ⟨g, 1, none⟩ (.slice A1 a1.length c1)).setCell ⟨g, 2, none⟩ (.slice D1 d1.length e1)).setCell ⟨g, 3, none⟩ (.bool n2)).setCell ⟨g, 4, none⟩ (.slice A2 a2.length c2)).setCell ⟨g, 5, none⟩ (.slice D2 d2.length e2)) = U ∧ (U.cell? ⟨g, 0, none⟩ = some (.bool n1) ∧ U.cell? ⟨g, 1, none⟩ = some (.slice A1 a1.length c1) ∧ U.cell? ⟨g, 2, none⟩ = some (.slice D1 d1.length e1) ∧ U.cell? ⟨g, 3, none⟩ = some (.bool n2) ∧ U.cell? ⟨g, 4, none⟩ = some (.slice A2 a2.length c2) ∧ U.cell? ⟨g, 5, none⟩ = some (.slice D2 d2.length e2)) ∧ Gs S T w (.returned (.agg #[.bool n1, .slice A1 a1.length c1, .slice D1 d1.length e1, .bool n2, .slice A2 a2.length c2, .slice D2 d2.length e2])) U := by
  have K := k.six (.bool n1) (.slice A1 a1.length c1) (.slice D1 d1.length e1) (.bool n2) (.slice A2 a2.length c2) (.slice D2 d2.length e2)
  exact ⟨_, rfl, K.facts6.1, n1, a1, A1, c1, d1, D1, e1, n2, a2, A2, c2, d2, D2, e2, rfl, ⟨hs, ht⟩, ⟨r1.six k _ _ _ _ _ _, q1.six k _ _ _ _ _ _⟩, ⟨r2.six k _ _ _ _ _ _, q2.six k _ _ _ _ _ _⟩, below_six B hg _ _ _ _ _ _⟩
/-- boxes -/
theorem bxa (w : World) (t : TypeId) (vs : List Value) : ∃ W, w.alloc (.cells vs.toArray t) = W ∧ Blk W w.heap.size t vs ∧ Below w.heap.size w W ∧ W.heap.size = w.heap.size + 1 :=
  ⟨_, rfl, Blk.new w t vs, below_one w _, by simp⟩
theorem bxb (w : World) (t t' : TypeId) (vs vs' : List Value) : ∃ W, (w.alloc (.cells vs.toArray t)).alloc (.cells vs'.toArray t') = W ∧ Blk W w.heap.size t vs ∧ Blk W (w.heap.size + 1) t' vs' ∧ Below w.heap.size w W ∧ W.heap.size = w.heap.size + 2 := by
  obtain ⟨V, hV, k, b, s⟩ := bxa w t vs
  rw [hV]
  exact ⟨_, rfl, k.alloc _, Blk.at_new V t' vs' (by rw [s]), b.trans ((below_one V _).mono (by omega)), by simp [s]⟩
theorem bxc (w : World) (t t' t'' : TypeId) (vs vs' vs'' : List Value) : ∃ W, ((w.alloc (.cells vs.toArray t)).alloc (.cells vs'.toArray t')).alloc (.cells vs''.toArray t'') = W ∧ Blk W w.heap.size t vs ∧ Blk W (w.heap.size + 1) t' vs' ∧ Blk W (w.heap.size + 1 + 1) t'' vs'' ∧ Below w.heap.size w W ∧ W.heap.size = w.heap.size + 3 := by
  obtain ⟨V, hV, k, k', b, s⟩ := bxb w t t' vs vs'
  rw [hV]
  exact ⟨_, rfl, k.alloc _, k'.alloc _, Blk.at_new V t'' vs'' (by rw [s]), b.trans ((below_one V _).mono (by omega)), by simp [s]⟩
theorem bxd (w : World) (t t' t'' t3 : TypeId) (vs vs' vs'' v3 : List Value) : ∃ W, (((w.alloc (.cells vs.toArray t)).alloc (.cells vs'.toArray t')).alloc (.cells vs''.toArray t'')).alloc (.cells v3.toArray t3) = W ∧ Blk W w.heap.size t vs ∧ Blk W (w.heap.size + 1) t' vs' ∧ Blk W (w.heap.size + 1 + 1) t'' vs'' ∧ Blk W (w.heap.size + 1 + 1 + 1) t3 v3 ∧ Below w.heap.size w W ∧ W.heap.size = w.heap.size + 4 := by
  obtain ⟨V, hV, k, k', k'', b, s⟩ := bxc w t t' t'' vs vs' vs''
  rw [hV]
  exact ⟨_, rfl, k.alloc _, k'.alloc _, k''.alloc _, Blk.at_new V t3 v3 (by rw [s]), b.trans ((below_one V _).mono (by omega)), by simp [s]⟩
/-- what lies elsewhere when six cells are stored -/
theorem Blk.off6 {v : World} {g g' : Nat} {t : TypeId} {vs : List Value} (k : Blk v g t vs) (hne : g ≠ g') (u0 u1 u2 u3 u4 u5 : Value) : Blk ((((((v.setCell ⟨g', 0, none⟩ u0).setCell ⟨g', 1, none⟩ u1).setCell ⟨g', 2, none⟩ u2).setCell ⟨g', 3, none⟩ u3).setCell ⟨g', 4, none⟩ u4).setCell ⟨g', 5, none⟩ u5) g t vs :=
  (((((k.far (p := ⟨g', 0, none⟩) hne u0).far (p := ⟨g', 1, none⟩) hne u1).far (p := ⟨g', 2, none⟩) hne u2).far (p := ⟨g', 3, none⟩) hne u3).far (p := ⟨g', 4, none⟩) hne u4).far (p := ⟨g', 5, none⟩) hne u5
theorem far66 {v : World} {g g' : Nat} {t : TypeId} {a0 a1 a2 a3 a4 a5 : Value} (k : Blk v g t [a0, a1, a2, a3, a4, a5]) (hne : g ≠ g') (u0 u1 u2 u3 u4 u5 : Value) : ((((((v.setCell ⟨g', 0, none⟩ u0).setCell ⟨g', 1, none⟩ u1).setCell ⟨g', 2, none⟩ u2).setCell ⟨g', 3, none⟩ u3).setCell ⟨g', 4, none⟩ u4).setCell ⟨g', 5, none⟩ u5).cell? ⟨g, 0, none⟩ = some a0 ∧ ((((((v.setCell ⟨g', 0, none⟩ u0).setCell ⟨g', 1, none⟩ u1).setCell ⟨g', 2, none⟩ u2).setCell ⟨g', 3, none⟩ u3).setCell ⟨g', 4, none⟩ u4).setCell ⟨g', 5, none⟩ u5).cell? ⟨g, 1, none⟩ = some a1 ∧ ((((((v.setCell ⟨g', 0, none⟩ u0).setCell ⟨g', 1, none⟩ u1).setCell ⟨g', 2, none⟩ u2).setCell ⟨g', 3, none⟩ u3).setCell ⟨g', 4, none⟩ u4).setCell ⟨g', 5, none⟩ u5).cell? ⟨g, 2, none⟩ = some a2 ∧ ((((((v.setCell ⟨g', 0, none⟩ u0).setCell ⟨g', 1, none⟩ u1).setCell ⟨g', 2, none⟩ u2).setCell ⟨g', 3, none⟩ u3).setCell ⟨g', 4, none⟩ u4).setCell ⟨g', 5, none⟩ u5).cell? ⟨g, 3, none⟩ = some a3 ∧ ((((((v.setCell ⟨g', 0, none⟩ u0).setCell ⟨g', 1, none⟩ u1).setCell ⟨g', 2, none⟩ u2).setCell ⟨g', 3, none⟩ u3).setCell ⟨g', 4, none⟩ u4).setCell ⟨g', 5, none⟩ u5).cell? ⟨g, 4, none⟩ = some a4 ∧ ((((((v.setCell ⟨g', 0, none⟩ u0).setCell ⟨g', 1, none⟩ u1).setCell ⟨g', 2, none⟩ u2).setCell ⟨g', 3, none⟩ u3).setCell ⟨g', 4, none⟩ u4).setCell ⟨g', 5, none⟩ u5).cell? ⟨g, 5, none⟩ = some a5 := (k.off6 hne u0 u1 u2 u3 u4 u5).facts6.1
theorem far36 {v : World} {g g' : Nat} {t : TypeId} {a0 a1 a2 : Value} (k : Blk v g t [a0, a1, a2]) (hne : g ≠ g') (u0 u1 u2 u3 u4 u5 : Value) : ((((((v.setCell ⟨g', 0, none⟩ u0).setCell ⟨g', 1, none⟩ u1).setCell ⟨g', 2, none⟩ u2).setCell ⟨g', 3, none⟩ u3).setCell ⟨g', 4, none⟩ u4).setCell ⟨g', 5, none⟩ u5).cell? ⟨g, 0, none⟩ = some a0 ∧ ((((((v.setCell ⟨g', 0, none⟩ u0).setCell ⟨g', 1, none⟩ u1).setCell ⟨g', 2, none⟩ u2).setCell ⟨g', 3, none⟩ u3).setCell ⟨g', 4, none⟩ u4).setCell ⟨g', 5, none⟩ u5).cell? ⟨g, 1, none⟩ = some a1 ∧ ((((((v.setCell ⟨g', 0, none⟩ u0).setCell ⟨g', 1, none⟩ u1).setCell ⟨g', 2, none⟩ u2).setCell ⟨g', 3, none⟩ u3).setCell ⟨g', 4, none⟩ u4).setCell ⟨g', 5, none⟩ u5).cell? ⟨g, 2, none⟩ = some a2 :=
  ⟨(k.off6 hne u0 u1 u2 u3 u4 u5).facts.1, (k.off6 hne u0 u1 u2 u3 u4 u5).facts.2.1, (k.off6 hne u0 u1 u2 u3 u4 u5).facts.2.2.1⟩
theorem far26 {v : World} {g g' : Nat} {t : TypeId} {a0 a1 : Value} (k : Blk v g t [a0, a1]) (hne : g ≠ g') (u0 u1 u2 u3 u4 u5 : Value) : ((((((v.setCell ⟨g', 0, none⟩ u0).setCell ⟨g', 1, none⟩ u1).setCell ⟨g', 2, none⟩ u2).setCell ⟨g', 3, none⟩ u3).setCell ⟨g', 4, none⟩ u4).setCell ⟨g', 5, none⟩ u5).cell? ⟨g, 0, none⟩ = some a0 ∧ ((((((v.setCell ⟨g', 0, none⟩ u0).setCell ⟨g', 1, none⟩ u1).setCell ⟨g', 2, none⟩ u2).setCell ⟨g', 3, none⟩ u3).setCell ⟨g', 4, none⟩ u4).setCell ⟨g', 5, none⟩ u5).cell? ⟨g, 1, none⟩ = some a1 :=
  ⟨(k.off6 hne u0 u1 u2 u3 u4 u5).facts2.1, (k.off6 hne u0 u1 u2 u3 u4 u5).facts2.2.1⟩
theorem kept2 {W V : World} {g : Nat} {t : TypeId} {a0 a1 : Value} (k : Blk W g t [a0, a1]) (hb : Below W.heap.size W V) : V.cell? ⟨g, 0, none⟩ = some a0 ∧ V.cell? ⟨g, 1, none⟩ = some a1 := ⟨(k.on hb).facts2.1, (k.on hb).facts2.2.1⟩
/-- a call's contract, in shapes: of three -/
abbrev Fn3 (f : FuncId) (S1 S2 S3 T : Shape) : Prop := ∀ (n1 n2 n3 : Bool) (a1 d1 a2 d2 a3 d3 : List Nat) (A1 D1 A2 D2 A3 D3 : Option Addr) (c1 e1 c2 e2 c3 e3 : Nat) (w : World), S1 n1 a1 c1 d1 e1 → S2 n2 a2 c2 d2 e2 → S3 n3 a3 c3 d3 e3 → Rd w (fun g => g < w.heap.size) .u32 A1 a1 → Rd w (fun g => g < w.heap.size) .u32 D1 d1 → Rd w (fun g => g < w.heap.size) .u32 A2 a2 → Rd w (fun g => g < w.heap.size) .u32 D2 d2 → Rd w (fun g => g < w.heap.size) .u32 A3 a3 → Rd w (fun g => g < w.heap.size) .u32 D3 d3 → Calls Tryz.prog f #[.agg #[.bool n1, .slice A1 a1.length c1, .slice D1 d1.length e1], .agg #[.bool n2, .slice A2 a2.length c2, .slice D2 d2.length e2], .agg #[.bool n3, .slice A3 a3.length c3, .slice D3 d3.length e3]] w (Gv T w)
theorem Blk.off3 {v : World} {g g' : Nat} {t : TypeId} {vs : List Value} (k : Blk v g t vs) (hne : g ≠ g') (u0 u1 u2 : Value) : Blk (((v.setCell ⟨g', 0, none⟩ u0).setCell ⟨g', 1, none⟩ u1).setCell ⟨g', 2, none⟩ u2) g t vs :=
  ((k.far (p := ⟨g', 0, none⟩) hne u0).far (p := ⟨g', 1, none⟩) hne u1).far (p := ⟨g', 2, none⟩) hne u2
theorem far33 {v : World} {g g' : Nat} {t : TypeId} {a0 a1 a2 : Value} (k : Blk v g t [a0, a1, a2]) (hne : g ≠ g') (u0 u1 u2 : Value) : (((v.setCell ⟨g', 0, none⟩ u0).setCell ⟨g', 1, none⟩ u1).setCell ⟨g', 2, none⟩ u2).cell? ⟨g, 0, none⟩ = some a0 ∧ (((v.setCell ⟨g', 0, none⟩ u0).setCell ⟨g', 1, none⟩ u1).setCell ⟨g', 2, none⟩ u2).cell? ⟨g, 1, none⟩ = some a1 ∧ (((v.setCell ⟨g', 0, none⟩ u0).setCell ⟨g', 1, none⟩ u1).setCell ⟨g', 2, none⟩ u2).cell? ⟨g, 2, none⟩ = some a2 :=
  ⟨(k.off3 hne u0 u1 u2).facts.1, (k.off3 hne u0 u1 u2).facts.2.1, (k.off3 hne u0 u1 u2).facts.2.2.1⟩
theorem far63 {v : World} {g g' : Nat} {t : TypeId} {a0 a1 a2 a3 a4 a5 : Value} (k : Blk v g t [a0, a1, a2, a3, a4, a5]) (hne : g ≠ g') (u0 u1 u2 : Value) : (((v.setCell ⟨g', 0, none⟩ u0).setCell ⟨g', 1, none⟩ u1).setCell ⟨g', 2, none⟩ u2).cell? ⟨g, 0, none⟩ = some a0 ∧ (((v.setCell ⟨g', 0, none⟩ u0).setCell ⟨g', 1, none⟩ u1).setCell ⟨g', 2, none⟩ u2).cell? ⟨g, 1, none⟩ = some a1 ∧ (((v.setCell ⟨g', 0, none⟩ u0).setCell ⟨g', 1, none⟩ u1).setCell ⟨g', 2, none⟩ u2).cell? ⟨g, 2, none⟩ = some a2 ∧ (((v.setCell ⟨g', 0, none⟩ u0).setCell ⟨g', 1, none⟩ u1).setCell ⟨g', 2, none⟩ u2).cell? ⟨g, 3, none⟩ = some a3 ∧ (((v.setCell ⟨g', 0, none⟩ u0).setCell ⟨g', 1, none⟩ u1).setCell ⟨g', 2, none⟩ u2).cell? ⟨g, 4, none⟩ = some a4 ∧ (((v.setCell ⟨g', 0, none⟩ u0).setCell ⟨g', 1, none⟩ u1).setCell ⟨g', 2, none⟩ u2).cell? ⟨g, 5, none⟩ = some a5 := (k.off3 hne u0 u1 u2).facts6.1
end Go.Proofs.YtdmoibphidipeaaGreatDoor
/- Spots, the program's own: what counted, times, gap and product answer. -/

namespace Go.Proofs.YtdmoibphidipeaaGreatDoor
open Go.RowKit Num

/-- a whole number of value N, of at most k words -/
def HW (N : Int) (k : Nat) (n : Bool) (a : List Nat) (ca : Nat) : Prop := a.length ≤ ca ∧ Dg 4294967296 a ∧ a.length ≤ k ∧ wv n a = N
def HD (D k : Nat) (d : List Nat) (cd : Nat) : Prop := d.length ≤ cd ∧ Dg 4294967296 d ∧ d.length ≤ k ∧ val 4294967296 d = D
theorem mulI_lt {M N : Int} {i j k : Nat} (h : M.natAbs < 4294967296 ^ i) (h' : N.natAbs < 4294967296 ^ j) (hk : i + j ≤ k) : (M * N).natAbs < 4294967296 ^ k := by
  rw [Int.natAbs_mul]
  exact prod_lt h (Nat.le_of_lt h') hk
end Go.Proofs.YtdmoibphidipeaaGreatDoor
/- Spots, the program's own: what hold, reduced, At, halfWay, Mid, along and Toward answer. -/

namespace Go.Proofs.YtdmoibphidipeaaGreatDoor
open Go.RowKit Num

set_option maxRecDepth 10000 in
set_option maxHeartbeats 3200000 in
/-- no lower part is 0 -/
theorem spot_hold (S1 S2 S50 S51 : Shape) (x0 : Fn1 133 S1 S50) (x1 : Fn1 133 S2 S51) (n1 n2 : Bool) (a1 d1 a2 d2 : List Nat) (A1 D1 A2 D2 : Option Addr) (c1 e1 c2 e2 : Nat)  (w : World) (s1 : S1 n1 a1 c1 d1 e1) (s2 : S2 n2 a2 c2 d2 e2) (r1 : Rd w (fun g => g < w.heap.size) .u32 A1 a1) (q1 : Rd w (fun g => g < w.heap.size) .u32 D1 d1) (r2 : Rd w (fun g => g < w.heap.size) .u32 A2 a2) (q2 : Rd w (fun g => g < w.heap.size) .u32 D2 d2) :
    Calls Tryz.prog 88 #[.agg #[.bool n1, .slice A1 a1.length c1, .slice D1 d1.length e1, .bool n2, .slice A2 a2.length c2, .slice D2 d2.length e2]] w (Gs S50 S51 w) := by
  obtain ⟨W, hW, k100, kr, b0, s0⟩ := bxb w 41 41 [.bool n1, .slice A1 a1.length c1, .slice D1 d1.length e1, .bool n2, .slice A2 a2.length c2, .slice D2 d2.length e2] [.bool false, .slice none 0 0, .slice none 0 0, .bool false, .slice none 0 0, .slice none 0 0]
  obtain ⟨⟨p00, p01, p02, p03, p04, p05⟩, -⟩ := k100.facts6
  have C0 := Lib.hid (fun (V : World) (hV : Below W.heap.size W V) => x0 n1 a1 d1 A1 D1 c1 e1 V s1 ((r1.on b0).on hV) ((q1.on b0).on hV))
  have C1 := Lib.hid (fun (V : World) (hV : Below W.heap.size W V) => x1 n2 a2 d2 A2 D2 c2 e2 V s2 ((r2.on b0).on hV) ((q2.on b0).on hV))
  have HK0 := Lib.hid k100
  have HKR := Lib.hid kr
  have HB0 := Lib.hid b0
  have K0 : Below W.heap.size W W.drew := below_drewN (Below.refl _ _) 1
  have hlt : w.heap.size + 1 < W.heap.size := by omega
  clear k100 kr b0 s0 s1 r1 q1 s2 r2 q2 x0 x1
  go_enter Tryz.func88, Tryz.ntmps88
  go_wp2_with fail
  try rw [hW]
  clear hW
  go_region_held3 (fun w' => (w'.cell? ⟨w.heap.size, 0, none⟩ = some (.bool n1) ∧ w'.cell? ⟨w.heap.size, 1, none⟩ = some (.slice A1 a1.length c1) ∧ w'.cell? ⟨w.heap.size, 2, none⟩ = some (.slice D1 d1.length e1) ∧ w'.cell? ⟨w.heap.size, 3, none⟩ = some (.bool n2) ∧ w'.cell? ⟨w.heap.size, 4, none⟩ = some (.slice A2 a2.length c2) ∧ w'.cell? ⟨w.heap.size, 5, none⟩ = some (.slice D2 d2.length e2)))
    (first | (with_reducible exact kept6 HK0.out K0) | (with_reducible exact kept6 HK0.out K1) | (with_reducible exact kept6 HK0.out K2) | (with_reducible exact far66 (HK0.out.below K2 HK0.out.lt) (by omega) _ _ _ _ _ _ ) | go_keep)
    ((first
      | (go_at_call_of 133 (Value.slice A1 a1.length c1); (with_reducible refine Calls.mono (C0.out _ K0) ?_); rintro e w1 ⟨n50, a50, A50, c50, d50, D50, e50, rfl, s50, r50, q50, b1⟩; have K1 := below_next K0 (Nat.le_refl _) b1)
      | (go_at_call_of 133 (Value.slice A2 a2.length c2); (with_reducible refine Calls.mono (C1.out _ K1) ?_); rintro e w2 ⟨n51, a51, A51, c51, d51, D51, e51, rfl, s51, r51, q51, b2⟩; have K2 := below_next K1 (Nat.le_refl _) b2; obtain ⟨⟨i0, i1, i2, i3, i4, i5⟩, ⟨j0, j1, j2, j3, j4, j5⟩⟩ := (HKR.out.below K2 HKR.out.lt).facts6)))
  obtain ⟨U, hU, ⟨u0, u1, u2, u3, u4, u5⟩, hG⟩ := fin_spot (w := w) (HKR.out.below K2 HKR.out.lt) (by omega) (HB0.out.trans (K2.mono HB0.out.size)) s50 s51 (r50.on b2) (q50.on b2) r51 q51
  have HU := Lib.hid hU
  have HF := Lib.hid (And.intro u0 (And.intro u1 (And.intro u2 (And.intro u3 (And.intro u4 u5)))))
  have HG := Lib.hid hG
  clear hU u0 u1 u2 u3 u4 u5 hG i0 i1 i2 i3 i4 i5 j0 j1 j2 j3 j4 j5 C0 C1 s50 r50 q50 s51 r51 q51
  go_wp2_with fail
  rw [HU.out]
  obtain ⟨u0, u1, u2, u3, u4, u5⟩ := HF.out
  exact bodyPost_ret (by simp [results, Tryz.results88, go_sem, u0, u1, u2, u3, u4, u5]) rfl HG.out

set_option maxRecDepth 10000 in
set_option maxHeartbeats 3200000 in
/-- reduced -/
theorem spot_reduced (S1 S2 S50 S51 : Shape) (x0 : Fn1 101 S1 S50) (x1 : Fn1 101 S2 S51) (n1 n2 : Bool) (a1 d1 a2 d2 : List Nat) (A1 D1 A2 D2 : Option Addr) (c1 e1 c2 e2 : Nat)  (w : World) (s1 : S1 n1 a1 c1 d1 e1) (s2 : S2 n2 a2 c2 d2 e2) (r1 : Rd w (fun g => g < w.heap.size) .u32 A1 a1) (q1 : Rd w (fun g => g < w.heap.size) .u32 D1 d1) (r2 : Rd w (fun g => g < w.heap.size) .u32 A2 a2) (q2 : Rd w (fun g => g < w.heap.size) .u32 D2 d2) :
    Calls Tryz.prog 71 #[.agg #[.bool n1, .slice A1 a1.length c1, .slice D1 d1.length e1, .bool n2, .slice A2 a2.length c2, .slice D2 d2.length e2]] w (Gs S50 S51 w) := by
  obtain ⟨W, hW, k100, kr, b0, s0⟩ := bxb w 41 41 [.bool n1, .slice A1 a1.length c1, .slice D1 d1.length e1, .bool n2, .slice A2 a2.length c2, .slice D2 d2.length e2] [.bool false, .slice none 0 0, .slice none 0 0, .bool false, .slice none 0 0, .slice none 0 0]
  obtain ⟨⟨p00, p01, p02, p03, p04, p05⟩, -⟩ := k100.facts6
  have C0 := Lib.hid (fun (V : World) (hV : Below W.heap.size W V) => x0 n1 a1 d1 A1 D1 c1 e1 V s1 ((r1.on b0).on hV) ((q1.on b0).on hV))
  have C1 := Lib.hid (fun (V : World) (hV : Below W.heap.size W V) => x1 n2 a2 d2 A2 D2 c2 e2 V s2 ((r2.on b0).on hV) ((q2.on b0).on hV))
  have HK0 := Lib.hid k100
  have HKR := Lib.hid kr
  have HB0 := Lib.hid b0
  have K0 : Below W.heap.size W W.drew := below_drewN (Below.refl _ _) 1
  have hlt : w.heap.size + 1 < W.heap.size := by omega
  clear k100 kr b0 s0 s1 r1 q1 s2 r2 q2 x0 x1
  go_enter Tryz.func71, Tryz.ntmps71
  go_wp2_with fail
  try rw [hW]
  clear hW
  go_region_held3 (fun w' => (w'.cell? ⟨w.heap.size, 0, none⟩ = some (.bool n1) ∧ w'.cell? ⟨w.heap.size, 1, none⟩ = some (.slice A1 a1.length c1) ∧ w'.cell? ⟨w.heap.size, 2, none⟩ = some (.slice D1 d1.length e1) ∧ w'.cell? ⟨w.heap.size, 3, none⟩ = some (.bool n2) ∧ w'.cell? ⟨w.heap.size, 4, none⟩ = some (.slice A2 a2.length c2) ∧ w'.cell? ⟨w.heap.size, 5, none⟩ = some (.slice D2 d2.length e2)))
    (first | (with_reducible exact kept6 HK0.out K0) | (with_reducible exact kept6 HK0.out K1) | (with_reducible exact kept6 HK0.out K2) | (with_reducible exact far66 (HK0.out.below K2 HK0.out.lt) (by omega) _ _ _ _ _ _ ) | go_keep)
    ((first
      | (go_at_call_of 101 (Value.slice A1 a1.length c1); (with_reducible refine Calls.mono (C0.out _ K0) ?_); rintro e w1 ⟨n50, a50, A50, c50, d50, D50, e50, rfl, s50, r50, q50, b1⟩; have K1 := below_next K0 (Nat.le_refl _) b1)
      | (go_at_call_of 101 (Value.slice A2 a2.length c2); (with_reducible refine Calls.mono (C1.out _ K1) ?_); rintro e w2 ⟨n51, a51, A51, c51, d51, D51, e51, rfl, s51, r51, q51, b2⟩; have K2 := below_next K1 (Nat.le_refl _) b2; obtain ⟨⟨i0, i1, i2, i3, i4, i5⟩, ⟨j0, j1, j2, j3, j4, j5⟩⟩ := (HKR.out.below K2 HKR.out.lt).facts6)))
  obtain ⟨U, hU, ⟨u0, u1, u2, u3, u4, u5⟩, hG⟩ := fin_spot (w := w) (HKR.out.below K2 HKR.out.lt) (by omega) (HB0.out.trans (K2.mono HB0.out.size)) s50 s51 (r50.on b2) (q50.on b2) r51 q51
  have HU := Lib.hid hU
  have HF := Lib.hid (And.intro u0 (And.intro u1 (And.intro u2 (And.intro u3 (And.intro u4 u5)))))
  have HG := Lib.hid hG
  clear hU u0 u1 u2 u3 u4 u5 hG i0 i1 i2 i3 i4 i5 j0 j1 j2 j3 j4 j5 C0 C1 s50 r50 q50 s51 r51 q51
  go_wp2_with fail
  rw [HU.out]
  obtain ⟨u0, u1, u2, u3, u4, u5⟩ := HF.out
  exact bodyPost_ret (by simp [results, Tryz.results71, go_sem, u0, u1, u2, u3, u4, u5]) rfl HG.out

set_option maxRecDepth 10000 in
set_option maxHeartbeats 3200000 in
/-- a point of the grid -/
theorem spot_At (S50 S51 : Shape)  (x y : Int) (x0 : ∀ V : World, Calls Tryz.prog 87 #[.int .i64 x] V (Gv S50 V)) (x1 : ∀ V : World, Calls Tryz.prog 87 #[.int .i64 y] V (Gv S51 V)) (w : World)   :
    Calls Tryz.prog 50 #[.agg #[.int .i64 x, .int .i64 y]] w (Gs S50 S51 w) := by
  obtain ⟨W, hW, k100, kr, b0, s0⟩ := bxb w 23 41 [.int .i64 x, .int .i64 y] [.bool false, .slice none 0 0, .slice none 0 0, .bool false, .slice none 0 0, .slice none 0 0]
  obtain ⟨p00, p01, -, -⟩ := k100.facts2
  have C0 := Lib.hid (fun (V : World) => x0 V)
  have C1 := Lib.hid (fun (V : World) => x1 V)
  have HK0 := Lib.hid k100
  have HKR := Lib.hid kr
  have HB0 := Lib.hid b0
  have K0 : Below W.heap.size W W.drew := below_drewN (Below.refl _ _) 1
  have hlt : w.heap.size + 1 < W.heap.size := by omega
  clear k100 kr b0 s0  x0 x1
  go_enter Tryz.func50, Tryz.ntmps50
  go_wp2_with fail
  try rw [hW]
  clear hW
  go_region_held3 (fun w' => (w'.cell? ⟨w.heap.size, 0, none⟩ = some (.int .i64 x) ∧ w'.cell? ⟨w.heap.size, 1, none⟩ = some (.int .i64 y)))
    (first | (with_reducible exact kept2 HK0.out K0) | (with_reducible exact kept2 HK0.out K1) | (with_reducible exact kept2 HK0.out K2) | (with_reducible exact far26 (HK0.out.below K2 HK0.out.lt) (by omega) _ _ _ _ _ _ ) | go_keep)
    ((first
      | (go_at_call_of 87 (Value.int .i64 x); (with_reducible refine Calls.mono (C0.out _) ?_); rintro e w1 ⟨n50, a50, A50, c50, d50, D50, e50, rfl, s50, r50, q50, b1⟩; have K1 := below_next K0 (Nat.le_refl _) b1)
      | (go_at_call_of 87 (Value.int .i64 y); (with_reducible refine Calls.mono (C1.out _) ?_); rintro e w2 ⟨n51, a51, A51, c51, d51, D51, e51, rfl, s51, r51, q51, b2⟩; have K2 := below_next K1 (Nat.le_refl _) b2; obtain ⟨⟨i0, i1, i2, i3, i4, i5⟩, ⟨j0, j1, j2, j3, j4, j5⟩⟩ := (HKR.out.below K2 HKR.out.lt).facts6)))
  obtain ⟨U, hU, ⟨u0, u1, u2, u3, u4, u5⟩, hG⟩ := fin_spot (w := w) (HKR.out.below K2 HKR.out.lt) (by omega) (HB0.out.trans (K2.mono HB0.out.size)) s50 s51 (r50.on b2) (q50.on b2) r51 q51
  have HU := Lib.hid hU
  have HF := Lib.hid (And.intro u0 (And.intro u1 (And.intro u2 (And.intro u3 (And.intro u4 u5)))))
  have HG := Lib.hid hG
  clear hU u0 u1 u2 u3 u4 u5 hG i0 i1 i2 i3 i4 i5 j0 j1 j2 j3 j4 j5 C0 C1 s50 r50 q50 s51 r51 q51
  go_wp2_with fail
  rw [HU.out]
  obtain ⟨u0, u1, u2, u3, u4, u5⟩ := HF.out
  exact bodyPost_ret (by simp [results, Tryz.results50, go_sem, u0, u1, u2, u3, u4, u5]) rfl HG.out

set_option maxRecDepth 10000 in
set_option maxHeartbeats 3200000 in
/-- a, and t times what b has more -/
theorem spot_along (S1 S2 S3 S50 S51 S52 : Shape) (x0 : Fn2 153 S2 S1 S50) (x1 : Fn2 152 S3 S50 S51) (x2 : Fn2 151 S1 S51 S52) (n1 n2 n3 : Bool) (a1 d1 a2 d2 a3 d3 : List Nat) (A1 D1 A2 D2 A3 D3 : Option Addr) (c1 e1 c2 e2 c3 e3 : Nat)  (w : World) (s1 : S1 n1 a1 c1 d1 e1) (s2 : S2 n2 a2 c2 d2 e2) (s3 : S3 n3 a3 c3 d3 e3) (r1 : Rd w (fun g => g < w.heap.size) .u32 A1 a1) (q1 : Rd w (fun g => g < w.heap.size) .u32 D1 d1) (r2 : Rd w (fun g => g < w.heap.size) .u32 A2 a2) (q2 : Rd w (fun g => g < w.heap.size) .u32 D2 d2) (r3 : Rd w (fun g => g < w.heap.size) .u32 A3 a3) (q3 : Rd w (fun g => g < w.heap.size) .u32 D3 d3) :
    Calls Tryz.prog 116 #[.agg #[.bool n1, .slice A1 a1.length c1, .slice D1 d1.length e1], .agg #[.bool n2, .slice A2 a2.length c2, .slice D2 d2.length e2], .agg #[.bool n3, .slice A3 a3.length c3, .slice D3 d3.length e3]] w (Gv S52 w) := by
  obtain ⟨W, hW, k100, k101, k102, kr, b0, s0⟩ := bxd w 39 39 39 39 [.bool n1, .slice A1 a1.length c1, .slice D1 d1.length e1] [.bool n2, .slice A2 a2.length c2, .slice D2 d2.length e2] [.bool n3, .slice A3 a3.length c3, .slice D3 d3.length e3] [.bool false, .slice none 0 0, .slice none 0 0]
  obtain ⟨p00, p01, p02, -, -, -⟩ := k100.facts
  obtain ⟨p10, p11, p12, -, -, -⟩ := k101.facts
  obtain ⟨p20, p21, p22, -, -, -⟩ := k102.facts
  have C0 := Lib.hid (fun (V : World) (hV : Below W.heap.size W V) => x0 n2 n1 a2 d2 a1 d1 A2 D2 A1 D1 c2 e2 c1 e1 V s2 s1 ((r2.on b0).on hV) ((q2.on b0).on hV) ((r1.on b0).on hV) ((q1.on b0).on hV))
  have C1 := Lib.hid (fun (V : World) (hV : Below W.heap.size W V) (n50 : Bool) (a50 d50 : List Nat) (A50 D50 : Option Addr) (c50 e50 : Nat) (s50 : S50 n50 a50 c50 d50 e50) (r50 : Rd V (fun g => g < V.heap.size) .u32 A50 a50) (q50 : Rd V (fun g => g < V.heap.size) .u32 D50 d50) => x1 n3 n50 a3 d3 a50 d50 A3 D3 A50 D50 c3 e3 c50 e50 V s3 s50 ((r3.on b0).on hV) ((q3.on b0).on hV) r50 q50)
  have C2 := Lib.hid (fun (V : World) (hV : Below W.heap.size W V) (n51 : Bool) (a51 d51 : List Nat) (A51 D51 : Option Addr) (c51 e51 : Nat) (s51 : S51 n51 a51 c51 d51 e51) (r51 : Rd V (fun g => g < V.heap.size) .u32 A51 a51) (q51 : Rd V (fun g => g < V.heap.size) .u32 D51 d51) => x2 n1 n51 a1 d1 a51 d51 A1 D1 A51 D51 c1 e1 c51 e51 V s1 s51 ((r1.on b0).on hV) ((q1.on b0).on hV) r51 q51)
  have HK0 := Lib.hid k100
  have HK1 := Lib.hid k101
  have HK2 := Lib.hid k102
  have HKR := Lib.hid kr
  have HB0 := Lib.hid b0
  have K0 : Below W.heap.size W W.drew := below_drewN (Below.refl _ _) 1
  have hlt : w.heap.size + 3 < W.heap.size := by omega
  clear k100 k101 k102 kr b0 s0 s1 r1 q1 s2 r2 q2 s3 r3 q3 x0 x1 x2
  go_enter Tryz.func116, Tryz.ntmps116
  go_wp2_with fail
  try rw [hW]
  clear hW
  go_region_held3 (fun w' => (w'.cell? ⟨w.heap.size, 0, none⟩ = some (.bool n1) ∧ w'.cell? ⟨w.heap.size, 1, none⟩ = some (.slice A1 a1.length c1) ∧ w'.cell? ⟨w.heap.size, 2, none⟩ = some (.slice D1 d1.length e1)) ∧ (w'.cell? ⟨w.heap.size + 1, 0, none⟩ = some (.bool n2) ∧ w'.cell? ⟨w.heap.size + 1, 1, none⟩ = some (.slice A2 a2.length c2) ∧ w'.cell? ⟨w.heap.size + 1, 2, none⟩ = some (.slice D2 d2.length e2)) ∧ (w'.cell? ⟨w.heap.size + 1 + 1, 0, none⟩ = some (.bool n3) ∧ w'.cell? ⟨w.heap.size + 1 + 1, 1, none⟩ = some (.slice A3 a3.length c3) ∧ w'.cell? ⟨w.heap.size + 1 + 1, 2, none⟩ = some (.slice D3 d3.length e3)))
    (first | (with_reducible exact ⟨keep3 HK0.out K0, keep3 HK1.out K0, keep3 HK2.out K0⟩) | (with_reducible exact ⟨keep3 HK0.out K1, keep3 HK1.out K1, keep3 HK2.out K1⟩) | (with_reducible exact ⟨keep3 HK0.out K2, keep3 HK1.out K2, keep3 HK2.out K2⟩) | (with_reducible exact ⟨keep3 HK0.out K3, keep3 HK1.out K3, keep3 HK2.out K3⟩) | (with_reducible exact ⟨far33 (HK0.out.below K3 HK0.out.lt) (by omega) _ _ _ , far33 (HK1.out.below K3 HK1.out.lt) (by omega) _ _ _ , far33 (HK2.out.below K3 HK2.out.lt) (by omega) _ _ _ ⟩) | go_keep)
    ((first
      | (go_at_call 153; (with_reducible refine Calls.mono (C0.out _ K0) ?_); rintro e w1 ⟨n50, a50, A50, c50, d50, D50, e50, rfl, s50, r50, q50, b1⟩; have K1 := below_next K0 (Nat.le_refl _) b1)
      | (go_at_call 152; (with_reducible refine Calls.mono (C1.out _ K1 n50 a50 d50 A50 D50 c50 e50 s50 r50 q50 ) ?_); rintro e w2 ⟨n51, a51, A51, c51, d51, D51, e51, rfl, s51, r51, q51, b2⟩; have K2 := below_next K1 (Nat.le_refl _) b2)
      | (go_at_call 151; (with_reducible refine Calls.mono (C2.out _ K2 n51 a51 d51 A51 D51 c51 e51 s51 r51 q51 ) ?_); rintro e w3 ⟨n52, a52, A52, c52, d52, D52, e52, rfl, s52, r52, q52, b3⟩; have K3 := below_next K2 (Nat.le_refl _) b3; obtain ⟨i0, i1, i2, j0, j1, j2⟩ := (HKR.out.below K3 HKR.out.lt).facts)))
  obtain ⟨U, hU, u0, u1, u2, hG⟩ := fin_any (w := w) (HKR.out.below K3 HKR.out.lt) (by omega) (HB0.out.trans (K3.mono HB0.out.size)) s52 r52 q52
  have HU := Lib.hid hU
  have HF := Lib.hid (And.intro u0 (And.intro u1 u2))
  have HG := Lib.hid hG
  clear hU u0 u1 u2 hG i0 i1 i2 j0 j1 j2 C0 C1 C2 s50 r50 q50 s51 r51 q51 s52 r52 q52
  go_wp2_with fail
  rw [HU.out]
  obtain ⟨u0, u1, u2⟩ := HF.out
  exact bodyPost_ret (by simp [results, Tryz.results116, go_sem, u0, u1, u2]) rfl HG.out

set_option maxRecDepth 10000 in
set_option maxHeartbeats 3200000 in
/-- a, and t times the way -/
theorem spot_Toward (S1 S2 S3 S4 S5 S50 S51 : Shape) (x0 : Fn3 116 S1 S3 S5 S50) (x1 : Fn3 116 S2 S4 S5 S51) (n1 n2 n3 n4 n5 : Bool) (a1 d1 a2 d2 a3 d3 a4 d4 a5 d5 : List Nat) (A1 D1 A2 D2 A3 D3 A4 D4 A5 D5 : Option Addr) (c1 e1 c2 e2 c3 e3 c4 e4 c5 e5 : Nat)  (w : World) (s1 : S1 n1 a1 c1 d1 e1) (s2 : S2 n2 a2 c2 d2 e2) (s3 : S3 n3 a3 c3 d3 e3) (s4 : S4 n4 a4 c4 d4 e4) (s5 : S5 n5 a5 c5 d5 e5) (r1 : Rd w (fun g => g < w.heap.size) .u32 A1 a1) (q1 : Rd w (fun g => g < w.heap.size) .u32 D1 d1) (r2 : Rd w (fun g => g < w.heap.size) .u32 A2 a2) (q2 : Rd w (fun g => g < w.heap.size) .u32 D2 d2) (r3 : Rd w (fun g => g < w.heap.size) .u32 A3 a3) (q3 : Rd w (fun g => g < w.heap.size) .u32 D3 d3) (r4 : Rd w (fun g => g < w.heap.size) .u32 A4 a4) (q4 : Rd w (fun g => g < w.heap.size) .u32 D4 d4) (r5 : Rd w (fun g => g < w.heap.size) .u32 A5 a5) (q5 : Rd w (fun g => g < w.heap.size) .u32 D5 d5) :
    Calls Tryz.prog 68 #[.agg #[.bool n1, .slice A1 a1.length c1, .slice D1 d1.length e1, .bool n2, .slice A2 a2.length c2, .slice D2 d2.length e2], .agg #[.bool n3, .slice A3 a3.length c3, .slice D3 d3.length e3, .bool n4, .slice A4 a4.length c4, .slice D4 d4.length e4], .agg #[.bool n5, .slice A5 a5.length c5, .slice D5 d5.length e5]] w (Gs S50 S51 w) := by
  obtain ⟨W, hW, k100, k101, k102, kr, b0, s0⟩ := bxd w 41 41 39 41 [.bool n1, .slice A1 a1.length c1, .slice D1 d1.length e1, .bool n2, .slice A2 a2.length c2, .slice D2 d2.length e2] [.bool n3, .slice A3 a3.length c3, .slice D3 d3.length e3, .bool n4, .slice A4 a4.length c4, .slice D4 d4.length e4] [.bool n5, .slice A5 a5.length c5, .slice D5 d5.length e5] [.bool false, .slice none 0 0, .slice none 0 0, .bool false, .slice none 0 0, .slice none 0 0]
  obtain ⟨⟨p00, p01, p02, p03, p04, p05⟩, -⟩ := k100.facts6
  obtain ⟨⟨p10, p11, p12, p13, p14, p15⟩, -⟩ := k101.facts6
  obtain ⟨p20, p21, p22, -, -, -⟩ := k102.facts
  have C0 := Lib.hid (fun (V : World) (hV : Below W.heap.size W V) => x0 n1 n3 n5 a1 d1 a3 d3 a5 d5 A1 D1 A3 D3 A5 D5 c1 e1 c3 e3 c5 e5 V s1 s3 s5 ((r1.on b0).on hV) ((q1.on b0).on hV) ((r3.on b0).on hV) ((q3.on b0).on hV) ((r5.on b0).on hV) ((q5.on b0).on hV))
  have C1 := Lib.hid (fun (V : World) (hV : Below W.heap.size W V) => x1 n2 n4 n5 a2 d2 a4 d4 a5 d5 A2 D2 A4 D4 A5 D5 c2 e2 c4 e4 c5 e5 V s2 s4 s5 ((r2.on b0).on hV) ((q2.on b0).on hV) ((r4.on b0).on hV) ((q4.on b0).on hV) ((r5.on b0).on hV) ((q5.on b0).on hV))
  have HK0 := Lib.hid k100
  have HK1 := Lib.hid k101
  have HK2 := Lib.hid k102
  have HKR := Lib.hid kr
  have HB0 := Lib.hid b0
  have K0 : Below W.heap.size W W.drew := below_drewN (Below.refl _ _) 1
  have hlt : w.heap.size + 3 < W.heap.size := by omega
  clear k100 k101 k102 kr b0 s0 s1 r1 q1 s2 r2 q2 s3 r3 q3 s4 r4 q4 s5 r5 q5 x0 x1
  go_enter Tryz.func68, Tryz.ntmps68
  go_wp2_with fail
  try rw [hW]
  clear hW
  go_region_held3 (fun w' => (w'.cell? ⟨w.heap.size, 0, none⟩ = some (.bool n1) ∧ w'.cell? ⟨w.heap.size, 1, none⟩ = some (.slice A1 a1.length c1) ∧ w'.cell? ⟨w.heap.size, 2, none⟩ = some (.slice D1 d1.length e1) ∧ w'.cell? ⟨w.heap.size, 3, none⟩ = some (.bool n2) ∧ w'.cell? ⟨w.heap.size, 4, none⟩ = some (.slice A2 a2.length c2) ∧ w'.cell? ⟨w.heap.size, 5, none⟩ = some (.slice D2 d2.length e2)) ∧ (w'.cell? ⟨w.heap.size + 1, 0, none⟩ = some (.bool n3) ∧ w'.cell? ⟨w.heap.size + 1, 1, none⟩ = some (.slice A3 a3.length c3) ∧ w'.cell? ⟨w.heap.size + 1, 2, none⟩ = some (.slice D3 d3.length e3) ∧ w'.cell? ⟨w.heap.size + 1, 3, none⟩ = some (.bool n4) ∧ w'.cell? ⟨w.heap.size + 1, 4, none⟩ = some (.slice A4 a4.length c4) ∧ w'.cell? ⟨w.heap.size + 1, 5, none⟩ = some (.slice D4 d4.length e4)) ∧ (w'.cell? ⟨w.heap.size + 1 + 1, 0, none⟩ = some (.bool n5) ∧ w'.cell? ⟨w.heap.size + 1 + 1, 1, none⟩ = some (.slice A5 a5.length c5) ∧ w'.cell? ⟨w.heap.size + 1 + 1, 2, none⟩ = some (.slice D5 d5.length e5)))
    (first | (with_reducible exact ⟨kept6 HK0.out K0, kept6 HK1.out K0, keep3 HK2.out K0⟩) | (with_reducible exact ⟨kept6 HK0.out K1, kept6 HK1.out K1, keep3 HK2.out K1⟩) | (with_reducible exact ⟨kept6 HK0.out K2, kept6 HK1.out K2, keep3 HK2.out K2⟩) | (with_reducible exact ⟨far66 (HK0.out.below K2 HK0.out.lt) (by omega) _ _ _ _ _ _ , far66 (HK1.out.below K2 HK1.out.lt) (by omega) _ _ _ _ _ _ , far36 (HK2.out.below K2 HK2.out.lt) (by omega) _ _ _ _ _ _ ⟩) | go_keep)
    ((first
      | (go_at_call_of 116 (Value.slice A1 a1.length c1); (with_reducible refine Calls.mono (C0.out _ K0) ?_); rintro e w1 ⟨n50, a50, A50, c50, d50, D50, e50, rfl, s50, r50, q50, b1⟩; have K1 := below_next K0 (Nat.le_refl _) b1)
      | (go_at_call_of 116 (Value.slice A2 a2.length c2); (with_reducible refine Calls.mono (C1.out _ K1) ?_); rintro e w2 ⟨n51, a51, A51, c51, d51, D51, e51, rfl, s51, r51, q51, b2⟩; have K2 := below_next K1 (Nat.le_refl _) b2; obtain ⟨⟨i0, i1, i2, i3, i4, i5⟩, ⟨j0, j1, j2, j3, j4, j5⟩⟩ := (HKR.out.below K2 HKR.out.lt).facts6)))
  obtain ⟨U, hU, ⟨u0, u1, u2, u3, u4, u5⟩, hG⟩ := fin_spot (w := w) (HKR.out.below K2 HKR.out.lt) (by omega) (HB0.out.trans (K2.mono HB0.out.size)) s50 s51 (r50.on b2) (q50.on b2) r51 q51
  have HU := Lib.hid hU
  have HF := Lib.hid (And.intro u0 (And.intro u1 (And.intro u2 (And.intro u3 (And.intro u4 u5)))))
  have HG := Lib.hid hG
  clear hU u0 u1 u2 u3 u4 u5 hG i0 i1 i2 i3 i4 i5 j0 j1 j2 j3 j4 j5 C0 C1 s50 r50 q50 s51 r51 q51
  go_wp2_with fail
  rw [HU.out]
  obtain ⟨u0, u1, u2, u3, u4, u5⟩ := HF.out
  exact bodyPost_ret (by simp [results, Tryz.results68, go_sem, u0, u1, u2, u3, u4, u5]) rfl HG.out

end Go.Proofs.YtdmoibphidipeaaGreatDoor
/- Spots, the document's own: what At, clean and Toward answer. -/

namespace Go.Proofs.YtdmoibphidipeaaGreatDoor
open Go.RowKit Num

set_option maxRecDepth 10000 in
set_option maxHeartbeats 3200000 in
/-- a point of the grid -/
theorem ref5_At (S50 S51 : Shape)  (x y : Int) (x0 : ∀ V : World, Calls Tryz.prog 53 #[.int .i64 x] V (Gv S50 V)) (x1 : ∀ V : World, Calls Tryz.prog 53 #[.int .i64 y] V (Gv S51 V)) (w : World)   :
    Calls Tryz.prog 19 #[.agg #[.int .i64 x, .int .i64 y]] w (Gs S50 S51 w) := by
  obtain ⟨W, hW, k100, kr, b0, s0⟩ := bxb w 23 41 [.int .i64 x, .int .i64 y] [.bool false, .slice none 0 0, .slice none 0 0, .bool false, .slice none 0 0, .slice none 0 0]
  obtain ⟨p00, p01, -, -⟩ := k100.facts2
  have C0 := Lib.hid (fun (V : World) => x0 V)
  have C1 := Lib.hid (fun (V : World) => x1 V)
  have HK0 := Lib.hid k100
  have HKR := Lib.hid kr
  have HB0 := Lib.hid b0
  have K0 : Below W.heap.size W W.drew := below_drewN (Below.refl _ _) 1
  have hlt : w.heap.size + 1 < W.heap.size := by omega
  clear k100 kr b0 s0  x0 x1
  go_enter Tryz.func19, Tryz.ntmps19
  go_wp2_with fail
  try rw [hW]
  clear hW
  go_region_held3 (fun w' => (w'.cell? ⟨w.heap.size, 0, none⟩ = some (.int .i64 x) ∧ w'.cell? ⟨w.heap.size, 1, none⟩ = some (.int .i64 y)))
    (first | (with_reducible exact kept2 HK0.out K0) | (with_reducible exact kept2 HK0.out K1) | (with_reducible exact kept2 HK0.out K2) | (with_reducible exact far26 (HK0.out.below K2 HK0.out.lt) (by omega) _ _ _ _ _ _ ) | go_keep)
    ((first
      | (go_at_call_of 53 (Value.int .i64 x); (with_reducible refine Calls.mono (C0.out _) ?_); rintro e w1 ⟨n50, a50, A50, c50, d50, D50, e50, rfl, s50, r50, q50, b1⟩; have K1 := below_next K0 (Nat.le_refl _) b1)
      | (go_at_call_of 53 (Value.int .i64 y); (with_reducible refine Calls.mono (C1.out _) ?_); rintro e w2 ⟨n51, a51, A51, c51, d51, D51, e51, rfl, s51, r51, q51, b2⟩; have K2 := below_next K1 (Nat.le_refl _) b2; obtain ⟨⟨i0, i1, i2, i3, i4, i5⟩, ⟨j0, j1, j2, j3, j4, j5⟩⟩ := (HKR.out.below K2 HKR.out.lt).facts6)))
  obtain ⟨U, hU, ⟨u0, u1, u2, u3, u4, u5⟩, hG⟩ := fin_spot (w := w) (HKR.out.below K2 HKR.out.lt) (by omega) (HB0.out.trans (K2.mono HB0.out.size)) s50 s51 (r50.on b2) (q50.on b2) r51 q51
  have HU := Lib.hid hU
  have HF := Lib.hid (And.intro u0 (And.intro u1 (And.intro u2 (And.intro u3 (And.intro u4 u5)))))
  have HG := Lib.hid hG
  clear hU u0 u1 u2 u3 u4 u5 hG i0 i1 i2 i3 i4 i5 j0 j1 j2 j3 j4 j5 C0 C1 s50 r50 q50 s51 r51 q51
  go_wp2_with fail
  rw [HU.out]
  obtain ⟨u0, u1, u2, u3, u4, u5⟩ := HF.out
  exact bodyPost_ret (by simp [results, Tryz.results19, go_sem, u0, u1, u2, u3, u4, u5]) rfl HG.out

set_option maxRecDepth 10000 in
set_option maxHeartbeats 3200000 in
/-- reduced -/
theorem ref5_clean (S1 S2 S50 S51 : Shape) (x0 : Fn1 102 S1 S50) (x1 : Fn1 102 S2 S51) (n1 n2 : Bool) (a1 d1 a2 d2 : List Nat) (A1 D1 A2 D2 : Option Addr) (c1 e1 c2 e2 : Nat)  (w : World) (s1 : S1 n1 a1 c1 d1 e1) (s2 : S2 n2 a2 c2 d2 e2) (r1 : Rd w (fun g => g < w.heap.size) .u32 A1 a1) (q1 : Rd w (fun g => g < w.heap.size) .u32 D1 d1) (r2 : Rd w (fun g => g < w.heap.size) .u32 A2 a2) (q2 : Rd w (fun g => g < w.heap.size) .u32 D2 d2) :
    Calls Tryz.prog 84 #[.agg #[.bool n1, .slice A1 a1.length c1, .slice D1 d1.length e1, .bool n2, .slice A2 a2.length c2, .slice D2 d2.length e2]] w (Gs S50 S51 w) := by
  obtain ⟨W, hW, k100, kr, b0, s0⟩ := bxb w 41 41 [.bool n1, .slice A1 a1.length c1, .slice D1 d1.length e1, .bool n2, .slice A2 a2.length c2, .slice D2 d2.length e2] [.bool false, .slice none 0 0, .slice none 0 0, .bool false, .slice none 0 0, .slice none 0 0]
  obtain ⟨⟨p00, p01, p02, p03, p04, p05⟩, -⟩ := k100.facts6
  have C0 := Lib.hid (fun (V : World) (hV : Below W.heap.size W V) => x0 n1 a1 d1 A1 D1 c1 e1 V s1 ((r1.on b0).on hV) ((q1.on b0).on hV))
  have C1 := Lib.hid (fun (V : World) (hV : Below W.heap.size W V) => x1 n2 a2 d2 A2 D2 c2 e2 V s2 ((r2.on b0).on hV) ((q2.on b0).on hV))
  have HK0 := Lib.hid k100
  have HKR := Lib.hid kr
  have HB0 := Lib.hid b0
  have K0 : Below W.heap.size W W.drew := below_drewN (Below.refl _ _) 1
  have hlt : w.heap.size + 1 < W.heap.size := by omega
  clear k100 kr b0 s0 s1 r1 q1 s2 r2 q2 x0 x1
  go_enter Tryz.func84, Tryz.ntmps84
  go_wp2_with fail
  try rw [hW]
  clear hW
  go_region_held3 (fun w' => (w'.cell? ⟨w.heap.size, 0, none⟩ = some (.bool n1) ∧ w'.cell? ⟨w.heap.size, 1, none⟩ = some (.slice A1 a1.length c1) ∧ w'.cell? ⟨w.heap.size, 2, none⟩ = some (.slice D1 d1.length e1) ∧ w'.cell? ⟨w.heap.size, 3, none⟩ = some (.bool n2) ∧ w'.cell? ⟨w.heap.size, 4, none⟩ = some (.slice A2 a2.length c2) ∧ w'.cell? ⟨w.heap.size, 5, none⟩ = some (.slice D2 d2.length e2)))
    (first | (with_reducible exact kept6 HK0.out K0) | (with_reducible exact kept6 HK0.out K1) | (with_reducible exact kept6 HK0.out K2) | (with_reducible exact far66 (HK0.out.below K2 HK0.out.lt) (by omega) _ _ _ _ _ _ ) | go_keep)
    ((first
      | (go_at_call_of 102 (Value.slice A1 a1.length c1); (with_reducible refine Calls.mono (C0.out _ K0) ?_); rintro e w1 ⟨n50, a50, A50, c50, d50, D50, e50, rfl, s50, r50, q50, b1⟩; have K1 := below_next K0 (Nat.le_refl _) b1)
      | (go_at_call_of 102 (Value.slice A2 a2.length c2); (with_reducible refine Calls.mono (C1.out _ K1) ?_); rintro e w2 ⟨n51, a51, A51, c51, d51, D51, e51, rfl, s51, r51, q51, b2⟩; have K2 := below_next K1 (Nat.le_refl _) b2; obtain ⟨⟨i0, i1, i2, i3, i4, i5⟩, ⟨j0, j1, j2, j3, j4, j5⟩⟩ := (HKR.out.below K2 HKR.out.lt).facts6)))
  obtain ⟨U, hU, ⟨u0, u1, u2, u3, u4, u5⟩, hG⟩ := fin_spot (w := w) (HKR.out.below K2 HKR.out.lt) (by omega) (HB0.out.trans (K2.mono HB0.out.size)) s50 s51 (r50.on b2) (q50.on b2) r51 q51
  have HU := Lib.hid hU
  have HF := Lib.hid (And.intro u0 (And.intro u1 (And.intro u2 (And.intro u3 (And.intro u4 u5)))))
  have HG := Lib.hid hG
  clear hU u0 u1 u2 u3 u4 u5 hG i0 i1 i2 i3 i4 i5 j0 j1 j2 j3 j4 j5 C0 C1 s50 r50 q50 s51 r51 q51
  go_wp2_with fail
  rw [HU.out]
  obtain ⟨u0, u1, u2, u3, u4, u5⟩ := HF.out
  exact bodyPost_ret (by simp [results, Tryz.results84, go_sem, u0, u1, u2, u3, u4, u5]) rfl HG.out

set_option maxRecDepth 10000 in
set_option maxHeartbeats 12800000 in
/-- a, and t times the way -/
theorem ref5_Toward (S1 S2 S3 S4 S5 S50 S51 S52 S53 S54 S55 : Shape) (x0 : Fn2 43 S3 S1 S50) (x1 : Fn2 75 S5 S50 S51) (x2 : Fn2 74 S1 S51 S52) (x3 : Fn2 43 S4 S2 S53) (x4 : Fn2 75 S5 S53 S54) (x5 : Fn2 74 S2 S54 S55) (n1 n2 n3 n4 n5 : Bool) (a1 d1 a2 d2 a3 d3 a4 d4 a5 d5 : List Nat) (A1 D1 A2 D2 A3 D3 A4 D4 A5 D5 : Option Addr) (c1 e1 c2 e2 c3 e3 c4 e4 c5 e5 : Nat)  (w : World) (s1 : S1 n1 a1 c1 d1 e1) (s2 : S2 n2 a2 c2 d2 e2) (s3 : S3 n3 a3 c3 d3 e3) (s4 : S4 n4 a4 c4 d4 e4) (s5 : S5 n5 a5 c5 d5 e5) (r1 : Rd w (fun g => g < w.heap.size) .u32 A1 a1) (q1 : Rd w (fun g => g < w.heap.size) .u32 D1 d1) (r2 : Rd w (fun g => g < w.heap.size) .u32 A2 a2) (q2 : Rd w (fun g => g < w.heap.size) .u32 D2 d2) (r3 : Rd w (fun g => g < w.heap.size) .u32 A3 a3) (q3 : Rd w (fun g => g < w.heap.size) .u32 D3 d3) (r4 : Rd w (fun g => g < w.heap.size) .u32 A4 a4) (q4 : Rd w (fun g => g < w.heap.size) .u32 D4 d4) (r5 : Rd w (fun g => g < w.heap.size) .u32 A5 a5) (q5 : Rd w (fun g => g < w.heap.size) .u32 D5 d5) :
    Calls Tryz.prog 44 #[.agg #[.bool n1, .slice A1 a1.length c1, .slice D1 d1.length e1, .bool n2, .slice A2 a2.length c2, .slice D2 d2.length e2], .agg #[.bool n3, .slice A3 a3.length c3, .slice D3 d3.length e3, .bool n4, .slice A4 a4.length c4, .slice D4 d4.length e4], .agg #[.bool n5, .slice A5 a5.length c5, .slice D5 d5.length e5]] w (Gs S52 S55 w) := by
  obtain ⟨W, hW, k100, k101, k102, kr, b0, s0⟩ := bxd w 41 41 39 41 [.bool n1, .slice A1 a1.length c1, .slice D1 d1.length e1, .bool n2, .slice A2 a2.length c2, .slice D2 d2.length e2] [.bool n3, .slice A3 a3.length c3, .slice D3 d3.length e3, .bool n4, .slice A4 a4.length c4, .slice D4 d4.length e4] [.bool n5, .slice A5 a5.length c5, .slice D5 d5.length e5] [.bool false, .slice none 0 0, .slice none 0 0, .bool false, .slice none 0 0, .slice none 0 0]
  obtain ⟨⟨p00, p01, p02, p03, p04, p05⟩, -⟩ := k100.facts6
  obtain ⟨⟨p10, p11, p12, p13, p14, p15⟩, -⟩ := k101.facts6
  obtain ⟨p20, p21, p22, -, -, -⟩ := k102.facts
  have C0 := Lib.hid (fun (V : World) (hV : Below W.heap.size W V) => x0 n3 n1 a3 d3 a1 d1 A3 D3 A1 D1 c3 e3 c1 e1 V s3 s1 ((r3.on b0).on hV) ((q3.on b0).on hV) ((r1.on b0).on hV) ((q1.on b0).on hV))
  have C1 := Lib.hid (fun (V : World) (hV : Below W.heap.size W V) (n50 : Bool) (a50 d50 : List Nat) (A50 D50 : Option Addr) (c50 e50 : Nat) (s50 : S50 n50 a50 c50 d50 e50) (r50 : Rd V (fun g => g < V.heap.size) .u32 A50 a50) (q50 : Rd V (fun g => g < V.heap.size) .u32 D50 d50) => x1 n5 n50 a5 d5 a50 d50 A5 D5 A50 D50 c5 e5 c50 e50 V s5 s50 ((r5.on b0).on hV) ((q5.on b0).on hV) r50 q50)
  have C2 := Lib.hid (fun (V : World) (hV : Below W.heap.size W V) (n51 : Bool) (a51 d51 : List Nat) (A51 D51 : Option Addr) (c51 e51 : Nat) (s51 : S51 n51 a51 c51 d51 e51) (r51 : Rd V (fun g => g < V.heap.size) .u32 A51 a51) (q51 : Rd V (fun g => g < V.heap.size) .u32 D51 d51) => x2 n1 n51 a1 d1 a51 d51 A1 D1 A51 D51 c1 e1 c51 e51 V s1 s51 ((r1.on b0).on hV) ((q1.on b0).on hV) r51 q51)
  have C3 := Lib.hid (fun (V : World) (hV : Below W.heap.size W V) => x3 n4 n2 a4 d4 a2 d2 A4 D4 A2 D2 c4 e4 c2 e2 V s4 s2 ((r4.on b0).on hV) ((q4.on b0).on hV) ((r2.on b0).on hV) ((q2.on b0).on hV))
  have C4 := Lib.hid (fun (V : World) (hV : Below W.heap.size W V) (n53 : Bool) (a53 d53 : List Nat) (A53 D53 : Option Addr) (c53 e53 : Nat) (s53 : S53 n53 a53 c53 d53 e53) (r53 : Rd V (fun g => g < V.heap.size) .u32 A53 a53) (q53 : Rd V (fun g => g < V.heap.size) .u32 D53 d53) => x4 n5 n53 a5 d5 a53 d53 A5 D5 A53 D53 c5 e5 c53 e53 V s5 s53 ((r5.on b0).on hV) ((q5.on b0).on hV) r53 q53)
  have C5 := Lib.hid (fun (V : World) (hV : Below W.heap.size W V) (n54 : Bool) (a54 d54 : List Nat) (A54 D54 : Option Addr) (c54 e54 : Nat) (s54 : S54 n54 a54 c54 d54 e54) (r54 : Rd V (fun g => g < V.heap.size) .u32 A54 a54) (q54 : Rd V (fun g => g < V.heap.size) .u32 D54 d54) => x5 n2 n54 a2 d2 a54 d54 A2 D2 A54 D54 c2 e2 c54 e54 V s2 s54 ((r2.on b0).on hV) ((q2.on b0).on hV) r54 q54)
  have HK0 := Lib.hid k100
  have HK1 := Lib.hid k101
  have HK2 := Lib.hid k102
  have HKR := Lib.hid kr
  have HB0 := Lib.hid b0
  have K0 : Below W.heap.size W W.drew := below_drewN (Below.refl _ _) 1
  have hlt : w.heap.size + 3 < W.heap.size := by omega
  clear k100 k101 k102 kr b0 s0 s1 r1 q1 s2 r2 q2 s3 r3 q3 s4 r4 q4 s5 r5 q5 x0 x1 x2 x3 x4 x5
  go_enter Tryz.func44, Tryz.ntmps44
  go_wp2_with fail
  try rw [hW]
  clear hW
  go_region_held3 (fun w' => (w'.cell? ⟨w.heap.size, 0, none⟩ = some (.bool n1) ∧ w'.cell? ⟨w.heap.size, 1, none⟩ = some (.slice A1 a1.length c1) ∧ w'.cell? ⟨w.heap.size, 2, none⟩ = some (.slice D1 d1.length e1) ∧ w'.cell? ⟨w.heap.size, 3, none⟩ = some (.bool n2) ∧ w'.cell? ⟨w.heap.size, 4, none⟩ = some (.slice A2 a2.length c2) ∧ w'.cell? ⟨w.heap.size, 5, none⟩ = some (.slice D2 d2.length e2)) ∧ (w'.cell? ⟨w.heap.size + 1, 0, none⟩ = some (.bool n3) ∧ w'.cell? ⟨w.heap.size + 1, 1, none⟩ = some (.slice A3 a3.length c3) ∧ w'.cell? ⟨w.heap.size + 1, 2, none⟩ = some (.slice D3 d3.length e3) ∧ w'.cell? ⟨w.heap.size + 1, 3, none⟩ = some (.bool n4) ∧ w'.cell? ⟨w.heap.size + 1, 4, none⟩ = some (.slice A4 a4.length c4) ∧ w'.cell? ⟨w.heap.size + 1, 5, none⟩ = some (.slice D4 d4.length e4)) ∧ (w'.cell? ⟨w.heap.size + 1 + 1, 0, none⟩ = some (.bool n5) ∧ w'.cell? ⟨w.heap.size + 1 + 1, 1, none⟩ = some (.slice A5 a5.length c5) ∧ w'.cell? ⟨w.heap.size + 1 + 1, 2, none⟩ = some (.slice D5 d5.length e5)))
    (first | (with_reducible exact ⟨kept6 HK0.out K0, kept6 HK1.out K0, keep3 HK2.out K0⟩) | (with_reducible exact ⟨kept6 HK0.out K1, kept6 HK1.out K1, keep3 HK2.out K1⟩) | (with_reducible exact ⟨kept6 HK0.out K2, kept6 HK1.out K2, keep3 HK2.out K2⟩) | (with_reducible exact ⟨kept6 HK0.out K3, kept6 HK1.out K3, keep3 HK2.out K3⟩) | (with_reducible exact ⟨kept6 HK0.out K4, kept6 HK1.out K4, keep3 HK2.out K4⟩) | (with_reducible exact ⟨kept6 HK0.out K5, kept6 HK1.out K5, keep3 HK2.out K5⟩) | (with_reducible exact ⟨kept6 HK0.out K6, kept6 HK1.out K6, keep3 HK2.out K6⟩) | (with_reducible exact ⟨far66 (HK0.out.below K6 HK0.out.lt) (by omega) _ _ _ _ _ _ , far66 (HK1.out.below K6 HK1.out.lt) (by omega) _ _ _ _ _ _ , far36 (HK2.out.below K6 HK2.out.lt) (by omega) _ _ _ _ _ _ ⟩) | go_keep)
    ((first
      | (go_at_call_of 43 (Value.slice A3 a3.length c3); (with_reducible refine Calls.mono (C0.out _ K0) ?_); rintro e w1 ⟨n50, a50, A50, c50, d50, D50, e50, rfl, s50, r50, q50, b1⟩; have K1 := below_next K0 (Nat.le_refl _) b1)
      | (go_at_call_of 75 (Value.slice A5 a5.length c5); (with_reducible refine Calls.mono (C1.out _ K1 n50 a50 d50 A50 D50 c50 e50 s50 r50 q50 ) ?_); rintro e w2 ⟨n51, a51, A51, c51, d51, D51, e51, rfl, s51, r51, q51, b2⟩; have K2 := below_next K1 (Nat.le_refl _) b2)
      | (go_at_call_of 74 (Value.slice A1 a1.length c1); (with_reducible refine Calls.mono (C2.out _ K2 n51 a51 d51 A51 D51 c51 e51 s51 r51 q51 ) ?_); rintro e w3 ⟨n52, a52, A52, c52, d52, D52, e52, rfl, s52, r52, q52, b3⟩; have K3 := below_next K2 (Nat.le_refl _) b3)
      | (go_at_call_of 43 (Value.slice A4 a4.length c4); (with_reducible refine Calls.mono (C3.out _ K3) ?_); rintro e w4 ⟨n53, a53, A53, c53, d53, D53, e53, rfl, s53, r53, q53, b4⟩; have K4 := below_next K3 (Nat.le_refl _) b4)
      | (go_at_call_of 75 (Value.slice A5 a5.length c5); (with_reducible refine Calls.mono (C4.out _ K4 n53 a53 d53 A53 D53 c53 e53 s53 r53 q53 ) ?_); rintro e w5 ⟨n54, a54, A54, c54, d54, D54, e54, rfl, s54, r54, q54, b5⟩; have K5 := below_next K4 (Nat.le_refl _) b5)
      | (go_at_call_of 74 (Value.slice A2 a2.length c2); (with_reducible refine Calls.mono (C5.out _ K5 n54 a54 d54 A54 D54 c54 e54 s54 r54 q54 ) ?_); rintro e w6 ⟨n55, a55, A55, c55, d55, D55, e55, rfl, s55, r55, q55, b6⟩; have K6 := below_next K5 (Nat.le_refl _) b6; obtain ⟨⟨i0, i1, i2, i3, i4, i5⟩, ⟨j0, j1, j2, j3, j4, j5⟩⟩ := (HKR.out.below K6 HKR.out.lt).facts6)))
  obtain ⟨U, hU, ⟨u0, u1, u2, u3, u4, u5⟩, hG⟩ := fin_spot (w := w) (HKR.out.below K6 HKR.out.lt) (by omega) (HB0.out.trans (K6.mono HB0.out.size)) s52 s55 (r52.on ((b4.trans (b5.mono b4.size)).trans (b6.mono (b4.trans (b5.mono b4.size)).size))) (q52.on ((b4.trans (b5.mono b4.size)).trans (b6.mono (b4.trans (b5.mono b4.size)).size))) r55 q55
  have HU := Lib.hid hU
  have HF := Lib.hid (And.intro u0 (And.intro u1 (And.intro u2 (And.intro u3 (And.intro u4 u5)))))
  have HG := Lib.hid hG
  clear hU u0 u1 u2 u3 u4 u5 hG i0 i1 i2 i3 i4 i5 j0 j1 j2 j3 j4 j5 C0 C1 C2 C3 C4 C5 s50 r50 q50 s51 r51 q51 s52 r52 q52 s53 r53 q53 s54 r54 q54 s55 r55 q55
  go_wp2_with fail
  rw [HU.out]
  obtain ⟨u0, u1, u2, u3, u4, u5⟩ := HF.out
  exact bodyPost_ret (by simp [results, Tryz.results44, go_sem, u0, u1, u2, u3, u4, u5]) rfl HG.out

end Go.Proofs.YtdmoibphidipeaaGreatDoor
/- Rows of spots in memory: a row that a call made, and what append leaves of it. -/

namespace Go.Proofs.YtdmoibphidipeaaGreatDoor
open Go.RowKit Num

/-- no integer among them -/
def NoInt (cs : List Value) : Prop := ∀ v ∈ cs, ∀ k n, v ≠ .int k n
theorem NoInt.append {a b : List Value} (ha : NoInt a) (hb : NoInt b) : NoInt (a ++ b) := fun v hv => by
  rcases List.mem_append.1 hv with h | h
  · exact ha v h
  · exact hb v h
/-- a slice of spots in a block of its own, in which no integer lies -/
def OwnS (w : World) (base : Nat) (v : Value) (n : Nat) (xs : List Value) : Prop :=
  xs.length = n * 6 ∧ NoInt xs ∧ ((v = .slice none 0 0 ∧ n = 0) ∨
    ∃ g cap cur, v = .slice (some ⟨g, 0, none⟩) n cap ∧ base ≤ g ∧ w.heap[g]? = some (.cells cur 41 (0, 0)) ∧ n ≤ cap ∧ cap ≤ maxLen ∧ cur.size = cap * 6 ∧ cur.toList.take (n * 6) = xs ∧ NoInt cur.toList)
theorem OwnS.nil (w : World) (base : Nat) : OwnS w base (.slice none 0 0) 0 [] := ⟨rfl, fun v h => by simp at h, .inl ⟨rfl, rfl⟩⟩
theorem OwnS.lt {w : World} {base : Nat} {v : Value} {n : Nat} {xs : List Value} (h : OwnS w base v n xs) : ∀ k, v.ownBlock = some k → base ≤ k ∧ k < w.heap.size := by
  intro k hk
  rcases h.2.2 with ⟨rfl, _⟩ | ⟨g, cap, cur, rfl, hb, hg, _⟩
  · simp [Value.ownBlock] at hk
  · simp [Value.ownBlock] at hk
    subst hk
    exact ⟨hb, (Array.getElem?_eq_some_iff.1 hg).1⟩
/-- what another call leaves of it -/
theorem OwnS.kept {w w' : World} {base : Nat} {v : Value} {n : Nat} {xs : List Value} (h : OwnS w base v n xs) (hb : Below w.heap.size w w') : OwnS w' base v n xs := by
  refine ⟨h.1, h.2.1, ?_⟩
  rcases h.2.2 with hn | ⟨g, cap, cur, rfl, hbg, hg, rest⟩
  · exact .inl hn
  · exact .inr ⟨g, cap, cur, rfl, hbg, (hb.block g (Array.getElem?_eq_some_iff.1 hg).1).trans hg, rest⟩
theorem OwnS.mono {w : World} {base base' : Nat} {v : Value} {n : Nat} {xs : List Value} (h : OwnS w base v n xs) (hb : base' ≤ base) : OwnS w base' v n xs := by
  refine ⟨h.1, h.2.1, ?_⟩
  rcases h.2.2 with hn | ⟨g, cap, cur, rfl, hbg, rest⟩
  · exact .inl hn
  · exact .inr ⟨g, cap, cur, rfl, Nat.le_trans hb hbg, rest⟩
/-- its cells -/
theorem OwnS.cell {w : World} {base g cap : Nat} {n : Nat} {xs : List Value} (h : OwnS w base (.slice (some ⟨g, 0, none⟩) n cap) n xs) (j : Nat) {u : Value} (hu : xs[j]? = some u) : w.cell? ⟨g, j, none⟩ = some u := by
  rcases h.2.2 with ⟨e, _⟩ | ⟨g', cap', cur, e, _, hg, _, _, _, htake, _⟩
  · cases e
  · simp only [Value.slice.injEq, Option.some.injEq, Addr.mk.injEq, and_true, true_and] at e
    obtain ⟨rfl, rfl⟩ := e
    rw [cell_of_row w g j cur _ (0, 0) hg]
    rw [← htake, List.getElem?_take] at hu
    split at hu
    · simpa using hu
    · cases hu
/-- words that are read stay when the row grows -/
theorem OwnS.rd {w w' : World} {base : Nat} {v : Value} {n : Nat} {xs : List Value} (h : OwnS w base v n xs) (hg : w.grownBy w' v.ownBlock) {k : IntKind} {A : Option Addr} {ys : List Nat} (r : Rd w (fun b => b < w.heap.size) k A ys) : Rd w' (fun b => b < w'.heap.size) k A ys := fun hn => by
  obtain ⟨b, o, e, hb, hc⟩ := r hn
  have hne : some b ≠ v.ownBlock := by
    intro eb
    rcases h.2.2 with ⟨rfl, _⟩ | ⟨g, cap, cur, rfl, _, hgg, _, _, _, _, hno⟩
    · simp [Value.ownBlock] at eb
    · simp only [Value.ownBlock, Option.some.injEq] at eb
      subst eb
      have h0 := hc 0 hn
      rw [cell_of_row w b _ cur _ (0, 0) hgg] at h0
      exact hno _ (Array.mem_toList_iff.2 (Array.mem_of_getElem? h0)) _ _ rfl
  refine ⟨b, o, e, Nat.lt_of_lt_of_le hb hg.size, fun j hj => ?_⟩
  rw [← hc j hj]
  exact World.cell?_of_block (hg.block b hb hne)
theorem info_spot : (Tryz.prog.info? 41).map (fun i => (i.zero, i.size, i.bytes)) = some (some (.agg #[.bool false, .slice none 0 0, .slice none 0 0, .bool false, .slice none 0 0, .slice none 0 0]), 6, 112) := by kernel_rfl
theorem zeroCells_noint {z : Array Value} (hz : NoInt z.toList) (n : Nat) : NoInt (Builtin.zeroCells z n).toList := by
  intro v hv
  unfold Builtin.zeroCells at hv
  simp only [Array.toList_map, List.mem_map, Array.toList_range, List.mem_range] at hv
  obtain ⟨i, hi, rfl⟩ := hv
  have hp : 0 < z.size := by
    rcases Nat.eq_zero_or_pos z.size with h | h
    · rw [h] at hi; simp at hi
    · exact h
  have hm := Nat.mod_lt i hp
  rw [getElem!_pos z (i % z.size) hm]
  exact hz _ (Array.mem_toList_iff.2 (Array.getElem_mem hm))
/-- one spot more: what append leaves -/
theorem run_append_sp (w : World) (base : Nat) (ty : TypeId) (v : Value) (n : Nat) (xs : List Value) (hown : OwnS w base v n xs) (a : Addr) (news : List Value) (hl : news.length = 6) (hnews : ∀ j u, news[j]? = some u → w.cell? (a.add j) = some u) (h1 : ∀ u ∈ news, u.oneCell' = true) (hno : NoInt news) (hn : n ≤ 1073741824) (hbase : base ≤ w.heap.size) :
    ∃ v' w', (Builtin.append_ #[27, 27] ty #[v, .slice (some a) 1 1]).run Tryz.prog w = .ok v' w' ∧ OwnS w' base v' (n + 1) (xs ++ news) ∧ w.grownBy w' v.ownBlock := by
  obtain ⟨i, hi, hz, hsize, hby⟩ := info_parts info_spot
  have ht := Tryz.underlying27
  have hzs : NoInt (#[Value.bool false, .slice none 0 0, .slice none 0 0, .bool false, .slice none 0 0, .slice none 0 0] : Array Value).toList := fun v hv k n e => by subst e; simp at hv
  have hcells : (Value.agg #[.bool false, .slice none 0 0, .slice none 0 0, .bool false, .slice none 0 0, .slice none 0 0]).cells = #[.bool false, .slice none 0 0, .slice none 0 0, .bool false, .slice none 0 0, .slice none 0 0] := rfl
  have hlen : (xs ++ news).length = (n + 1) * 6 := by rw [List.length_append, hown.1, hl]; omega
  have hall : NoInt (xs ++ news) := hown.2.1.append hno
  have h63 : n + 1 ≤ maxLen := by unfold maxLen; omega
  have grown : ∀ (old : Nat) (row : Option Nat),
      OwnS (w.drew.alloc (.cells (xs.toArray ++ news.toArray ++ Builtin.zeroCells (Value.agg #[.bool false, .slice none 0 0, .slice none 0 0, .bool false, .slice none 0 0, .slice none 0 0]).cells (grownCap w (n + 1) old 41 - (n + 1))) 41)) base (.slice (some ⟨w.heap.size, 0, none⟩) (n + 1) (grownCap w (n + 1) old 41)) (n + 1) (xs ++ news) ∧
      w.grownBy (w.drew.alloc (.cells (xs.toArray ++ news.toArray ++ Builtin.zeroCells (Value.agg #[.bool false, .slice none 0 0, .slice none 0 0, .bool false, .slice none 0 0, .slice none 0 0]).cells (grownCap w (n + 1) old 41 - (n + 1))) 41)) row := by
    intro old row
    have hge := grownCap_ge w (n + 1) old 41
    have hcm := grownCap_le_maxLen w (n + 1) old 41 h63
    rw [hcells]
    refine ⟨⟨hlen, hall, .inr ⟨w.heap.size, _, _, rfl, hbase, heap_alloc_new w.drew _, hge, hcm, ?_, ?_, ?_⟩⟩, ⟨rfl, rfl, rfl, by simp, fun k hk _ => heap_alloc_old w.drew _ hk⟩⟩
    · simp only [Array.size_append, List.size_toArray, size_zeroCells, hown.1, hl]
      simp
      omega
    · simp only [Array.toList_append, List.append_assoc]
      rw [← List.append_assoc, ← hlen]
      exact List.take_left
    · simp only [Array.toList_append]
      exact hall.append (zeroCells_noint hzs _)
  rcases hown.2.2 with ⟨rfl, rfl⟩ | ⟨g, cap, cur, rfl, hbg, hg, hnc, hcm, hcs, htake, hni⟩
  · have hx : xs = [] := List.eq_nil_of_length_eq_zero (by simpa using hown.1)
    subst hx
    have hr := run_append_nil (P := Tryz.prog) w 27 ty 41 i _ ht hi hz a 1 1 news (by rw [hl, hsize]) hnews (by omega) (by omega) (by rw [hby]; omega)
    have hgr := grown 0 (Value.ownBlock (.slice none 0 0))
    simp only [Nat.zero_add, List.nil_append, Array.empty_append] at hgr ⊢
    exact ⟨_, _, hr, hgr.1, hgr.2⟩
  · by_cases hroom : n + 1 ≤ cap
    · have hfit : n * i.size + news.length ≤ cur.size := by rw [hl, hsize, hcs]; omega
      have hr := run_append_room (P := Tryz.prog) w 27 ty 41 i ht hi g n cap cur hg a 1 1 news (by rw [hl, hsize]) hnews h1 hroom hfit
      rw [hsize] at hr
      refine ⟨_, _, hr, ⟨hlen, hall, .inr ⟨g, cap, _, rfl, hbg, setRow_heap w g cur _ _ _ hg, hroom, hcm, ?_, ?_, ?_⟩⟩, ⟨rfl, rfl, rfl, by simp, fun k _ hk => setRow_other w g k _ (fun e => hk (by simp [Value.ownBlock, e]))⟩⟩
      · simp only [List.size_toArray, List.length_append, List.length_take, List.length_drop, Array.length_toList]
        omega
      · rw [htake, ← hlen]
        exact List.take_left
      · rw [htake]
        exact hall.append fun v hv => hni v (List.mem_of_mem_drop hv)
    · have holds : ∀ j u, xs[j]? = some u → w.cell? ((⟨g, 0, none⟩ : Addr).add j) = some u := fun j u hu => by
        have hadd : (⟨g, 0, none⟩ : Addr).add j = ⟨g, j, none⟩ := by unfold Addr.add; split <;> simp_all
        rw [hadd]
        have := hown.2.2
        exact OwnS.cell (base := base) (cap := cap) hown j hu
      have hr := run_append_grow (P := Tryz.prog) w 27 ty 41 i _ ht hi hz ⟨g, 0, none⟩ n cap xs (by rw [hsize]; exact hown.1) holds a 1 1 news (by rw [hl, hsize]) hnews (by omega) (by omega) (growslice_fits (by omega) (by rw [hby]; omega))
      have hgr := grown cap (Value.ownBlock (.slice (some ⟨g, 0, none⟩) n cap))
      exact ⟨_, _, hr, hgr.1, hgr.2⟩
theorem wpList_append_sp {ops : Array Oper} {rest : List Oper} {o : Oper} {a : Act} {Q : Exit → Act → World → Prop} (w : World) (hgd : o.guard = none) (s x : Operand)
    (ho : o.op = .call { callee := .builtin .append, args := #[s, x], argTypes := #[27, 27] }) (base : Nat) (v : Value) (n : Nat) (xs : List Value) (hs : a.eval s = v) (hown : OwnS w base v n xs)
    (ad : Addr) (news : List Value) (hx : a.eval x = .slice (some ad) 1 1) (hl : news.length = 6) (hnews : ∀ j u, news[j]? = some u → w.cell? (ad.add j) = some u) (h1 : ∀ u ∈ news, u.oneCell' = true) (hno : NoInt news) (hn : n ≤ 1073741824) (hbase : base ≤ w.heap.size)
    (h : ∀ v' w', OwnS w' base v' (n + 1) (xs ++ news) → w.grownBy w' v.ownBlock → wpList Tryz.prog ops Q rest (a.put o.dst v') w') : wpList Tryz.prog ops Q (o :: rest) a w := by
  refine wpList_plain hgd fun _ hK => ?_
  obtain ⟨v', w', hr, h2, h3⟩ := run_append_sp w base o.type v n xs hown ad news hl hnews h1 hno hn hbase
  unfold Oper.wp execOp
  simp only [ho, resolve, invoke, builtin, Sem.run_bind, Sem.run_pure, Result.andThen_ok, List.map_toArray, List.map_cons, List.map_nil, hs, hx, hr]
  exact hK _ _ (h v' w' h2 h3)
end Go.Proofs.YtdmoibphidipeaaGreatDoor
