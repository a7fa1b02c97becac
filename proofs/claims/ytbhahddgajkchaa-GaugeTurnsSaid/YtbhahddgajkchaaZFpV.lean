/- Fractions: equal ones, and boxes of three. -/
import Derived.Test.YtbhahddgajkchaaZFpY
import Derived.Test.YtbhahddgajkchaaZFrW
import Derived.Test.YtbhahddgajkchaaZFpZ
import Derived.Test.YtbhahddgajkchaaZFrV
import Derived.Test.YtbhahddgajkchaaZWrY
namespace Go.Proofs.Ytbhahddgajkchaa
open Go.RowKit Num

theorem cross_add {x x' P P' y y' Q Q' : Int} (h : x * Q = P * y) (k : x' * Q' = P' * y') : (x * y' + x' * y) * (Q * Q') = (P * Q' + P' * Q) * (y * y') := by
  rw [Int.add_mul, show x * y' * (Q * Q') = (x * Q) * (y' * Q') by ac_rfl, show x' * y * (Q * Q') = (x' * Q') * (y * Q) by ac_rfl, h, k, Int.add_mul]
  congr 1 <;> ac_rfl
theorem cross_sub {x x' P P' y y' Q Q' : Int} (h : x * Q = P * y) (k : x' * Q' = P' * y') : (x * y' - x' * y) * (Q * Q') = (P * Q' - P' * Q) * (y * y') := by
  have := cross_add h (show (-x') * Q' = (-P') * y' by rw [Int.neg_mul, k, Int.neg_mul])
  rwa [Int.neg_mul, Int.neg_mul, ← Int.sub_eq_add_neg, ← Int.sub_eq_add_neg] at this

theorem sgn_cross {x y P Q : Int} (hy : 0 < y) (hQ : 0 < Q) (h : x * Q = P * y) : sgn x = sgn P := by
  rcases Int.lt_trichotomy P 0 with hp | hp | hp
  · have h1 := Int.mul_neg_of_neg_of_pos hp hy
    have hx : x < 0 := by
      rcases Int.lt_or_le x 0 with h2 | h2
      · exact h2
      · have := Int.mul_nonneg h2 (Int.le_of_lt hQ); omega
    unfold sgn; rw [if_pos hx, if_pos hp]
  · rw [hp, Int.zero_mul] at h
    have hx : x = 0 := by
      rcases Int.mul_eq_zero.1 h with h2 | h2
      · exact h2
      · omega
    rw [hx, hp]
  · have h1 := Int.mul_pos hp hy
    have hx : 0 < x := by
      rcases Int.lt_or_le 0 x with h2 | h2
      · exact h2
      · have := Int.mul_nonneg (show 0 ≤ -x by omega) (Int.le_of_lt hQ)
        rw [Int.neg_mul] at this; omega
    unfold sgn; rw [if_neg (by omega), if_pos hx, if_neg (by omega), if_pos hp]
theorem Blk.trip {W : World} {g : Nat} {t : TypeId} {a0 a1 a2 : Value} (k : Blk W g t [a0, a1, a2]) (u0 u1 u2 : Value) : Blk (((W.setCell ⟨g, 0, none⟩ u0).setCell ⟨g, 1, none⟩ u1).setCell ⟨g, 2, none⟩ u2) g t [u0, u1, u2] := ((k.set 0 u0).set 1 u1).set 2 u2
theorem got13 {W v : World} {v0 v1 v2 : Value} {t : TypeId} (b : Below (W.alloc (.cells #[v0, v1, v2] t)).heap.size (W.alloc (.cells #[v0, v1, v2] t)) v) : Blk v W.heap.size t [v0, v1, v2] ∧ W.heap.size < v.heap.size := by
  have k := (Blk.new W t [v0, v1, v2]).on b
  exact ⟨k, k.lt⟩
theorem got23 {W v : World} {v0 v1 v2 u0 u1 u2 : Value} {t t' : TypeId} (b : Below ((W.alloc (.cells #[v0, v1, v2] t)).alloc (.cells #[u0, u1, u2] t')).heap.size ((W.alloc (.cells #[v0, v1, v2] t)).alloc (.cells #[u0, u1, u2] t')) v) : (Blk v W.heap.size t [v0, v1, v2] ∧ W.heap.size + 1 < v.heap.size) ∧ Blk v (W.heap.size + 1) t' [u0, u1, u2] := by
  have k := ((Blk.new W t [v0, v1, v2]).alloc (.cells #[u0, u1, u2] t')).on b
  have k' := (Blk.at_new (W.alloc (.cells #[v0, v1, v2] t)) t' [u0, u1, u2] (g := W.heap.size + 1) (by simp)).on b
  exact ⟨⟨k, k'.lt⟩, k'⟩
theorem got13d {W v : World} {v0 v1 v2 : Value} {t : TypeId} (b : Below (W.alloc (.cells #[v0, v1, v2] t)).drew.heap.size (W.alloc (.cells #[v0, v1, v2] t)).drew v) : Blk v W.heap.size t [v0, v1, v2] ∧ W.heap.size < v.heap.size := got13 (W := W.drew) b
theorem got23d {W v : World} {v0 v1 v2 u0 u1 u2 : Value} {t t' : TypeId} (b : Below ((W.alloc (.cells #[v0, v1, v2] t)).alloc (.cells #[u0, u1, u2] t')).drew.heap.size ((W.alloc (.cells #[v0, v1, v2] t)).alloc (.cells #[u0, u1, u2] t')).drew v) : (Blk v W.heap.size t [v0, v1, v2] ∧ W.heap.size + 1 < v.heap.size) ∧ Blk v (W.heap.size + 1) t' [u0, u1, u2] := got23 (W := W.drew) b
theorem Num.Rd.trip {w : World} {g : Nat} {t : TypeId} {x : Bool} {p q : Option Addr} {n m n' m' : Nat} {k : IntKind} {A : Option Addr} {xs : List Nat} (h : Rd w (fun g => g < w.heap.size) k A xs) (f : Blk w g t [.bool x, .slice p n m, .slice q n' m']) (u0 u1 u2 : Value) : Rd (((w.setCell ⟨g, 0, none⟩ u0).setCell ⟨g, 1, none⟩ u1).setCell ⟨g, 2, none⟩ u2) (fun b => b < (((w.setCell ⟨g, 0, none⟩ u0).setCell ⟨g, 1, none⟩ u1).setCell ⟨g, 2, none⟩ u2).heap.size) k A xs := h.far3 f u0 u1 u2 rfl
end Go.Proofs.Ytbhahddgajkchaa
/- Fractions: contracts by what the arguments are worth: the program's own functions and the document's own. -/

namespace Go.Proofs.Ytbhahddgajkchaa
open Go.RowKit Num

/-- handed in: worth P by Q, of at most m words each -/
def SV (P : Int) (Q m : Nat) : Shape := fun n a ca d cd => a.length ≤ ca ∧ d.length ≤ cd ∧ Dg 4294967296 a ∧ Dg 4294967296 d ∧ a.length ≤ m ∧ d.length ≤ m ∧ upN n a d * (Q : Int) = P * (loD d : Int)
theorem SI.toV {P : Int} {Q m : Nat} {n : Bool} {a d : List Nat} {ca cd : Nat} (k : SI P Q m n a ca d cd) : SV P Q m n a ca d cd := by
  obtain ⟨h1, h2, h3, h4, h5, h6, h7, h8⟩ := k
  exact ⟨h1, h2, h3, h4, h5, h6, by rw [h7, h8]⟩
theorem SR.toV {P : Int} {Q m : Nat} {n : Bool} {a d : List Nat} {ca cd : Nat} (k : SR P Q m n a ca d cd) : SV P Q m n a ca d cd := by
  obtain ⟨h1, h2, h3, h4, h5, h6, h7, h8⟩ := k
  exact ⟨h1, h2, h3, h4, h5, h6, by rw [upN_of h7, loD_of h7]; exact h8⟩
theorem SF.toV {P : Int} {Q m : Nat} (hQ : 0 < Q) (hP : P.natAbs < 4294967296 ^ m) (hQm : Q < 4294967296 ^ m) {n : Bool} {a d : List Nat} {ca cd : Nat} (k : SF P Q n a ca d cd) : SV P Q m n a ca d cd := (SF.toR hQ hP hQm k).toV
theorem SV.wide {P : Int} {Q m m' : Nat} (hm : m ≤ m') {n : Bool} {a d : List Nat} {ca cd : Nat} (k : SV P Q m n a ca d cd) : SV P Q m' n a ca d cd := by
  obtain ⟨h1, h2, h3, h4, h5, h6, h7⟩ := k
  exact ⟨h1, h2, h3, h4, Nat.le_trans h5 hm, Nat.le_trans h6 hm, h7⟩
theorem SV.own {P : Int} {Q m : Nat} {n : Bool} {a d : List Nat} {ca cd : Nat} (k : SV P Q m n a ca d cd) : SI (upN n a d) (loD d) m n a ca d cd := by
  obtain ⟨h1, h2, h3, h4, h5, h6, h7⟩ := k
  exact ⟨h1, h2, h3, h4, h5, h6, rfl, rfl⟩
/-- two equal reduced fractions are the same in words -/
theorem SF.same {P : Int} {Q : Nat} {n n' : Bool} {a a' d d' : List Nat} {ca ca' cd cd' : Nat} (k : SF P Q n a ca d cd) (k' : SF P Q n' a' ca' d' cd') : n = n' ∧ a = a' ∧ d = d' := by
  obtain ⟨h1, -, -, h3, h4, h5, h6⟩ := k
  obtain ⟨g1, -, -, g3, g4, g5, g6⟩ := k'
  exact ⟨h1.trans g1.symm, Norm.ext (by omega) h3 g3 (h5.trans g5.symm), Norm.ext (by omega) h4 g4 (h6.trans g6.symm)⟩

theorem rv_Reduce (P : Int) (Q m : Nat) (hQ : 0 < Q) (hm : m ≤ 4194304) : Fn1 60 (SV P Q m) (SF P Q) :=
  fun n a d A D ca cd w hS r q => (ref4_Reduce n a d A D ca cd w r q (Nat.le_trans hS.2.2.2.2.1 hm) (Nat.le_trans hS.2.2.2.2.2.1 hm) hS.2.2.1 hS.2.2.2.1).mono fun _ _ h => gv_of_f (h.conv (loD_pos d) hQ hS.2.2.2.2.2.2)
theorem rv_Floor (P : Int) (Q m : Nat) (hQ : 0 < Q) (hm : m ≤ 4194304) : Fw 48 (SV P Q m) (P / (Q : Int)) :=
  fun n a d A D ca cd w hS r q => by
    have h := ref4_Floor n a d A D ca cd w r q (Nat.le_trans hS.2.2.2.2.1 hm) (Nat.le_trans hS.2.2.2.2.2.1 hm) hS.2.2.1 hS.2.2.2.1
    rwa [cross_div (P := P) (Q := (Q : Int)) (by have := loD_pos d; omega) (by omega) hS.2.2.2.2.2.2] at h
theorem rv_Add (P P' : Int) (Q Q' m : Nat) (hQ : 0 < Q) (hQ' : 0 < Q') (hm : m ≤ 2097150) : Fn2 49 (SV P Q m) (SV P' Q' m) (SF (P * (Q' : Int) + P' * (Q : Int)) (Q * Q')) :=
  fun n n' a d a' d' A D A' D' ca cd ca' cd' w hS hT r q r' q' => (ref4_Add n n' a d a' d' A D A' D' ca cd ca' cd' w r q r' q' (Nat.le_trans hS.2.2.2.2.1 hm) (Nat.le_trans hS.2.2.2.2.2.1 hm) (Nat.le_trans hT.2.2.2.2.1 hm) (Nat.le_trans hT.2.2.2.2.2.1 hm) hS.2.2.1 hS.2.2.2.1 hT.2.2.1 hT.2.2.2.1).mono fun _ _ h =>
    gv_of_f (h.conv (Nat.mul_pos (loD_pos d) (loD_pos d')) (Nat.mul_pos hQ hQ') (by rw [Int.natCast_mul, Int.natCast_mul]; exact cross_add hS.2.2.2.2.2.2 hT.2.2.2.2.2.2))
end Go.Proofs.Ytbhahddgajkchaa
/- The fourth layer's law: a fraction below 0 is right. -/

namespace Go.Proofs.Ytbhahddgajkchaa
open Go.RowKit Num

end Go.Proofs.Ytbhahddgajkchaa
