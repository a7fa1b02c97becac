/- Fractions: equal ones, and boxes of three. -/
import Derived.Test.YtidbpkibjficnaaGreatDoorZFpY
import Derived.Test.YtidbpkibjficnaaGreatDoorZFrL
import Derived.Test.YtidbpkibjficnaaGreatDoorZFpZ
import Derived.Test.YtidbpkibjficnaaGreatDoorZFrV
import Derived.Test.YtidbpkibjficnaaGreatDoorZWrY
namespace Go.Proofs.YtidbpkibjficnaaGreatDoor
open Go.RowKit Num

theorem cross_add {x x' P P' y y' Q Q' : Int} (h : x * Q = P * y) (k : x' * Q' = P' * y') : (x * y' + x' * y) * (Q * Q') = (P * Q' + P' * Q) * (y * y') := by
  rw [Int.add_mul, show x * y' * (Q * Q') = (x * Q) * (y' * Q') by ac_rfl, show x' * y * (Q * Q') = (x' * Q') * (y * Q) by ac_rfl, h, k, Int.add_mul]
  congr 1 <;> ac_rfl
theorem cross_sub {x x' P P' y y' Q Q' : Int} (h : x * Q = P * y) (k : x' * Q' = P' * y') : (x * y' - x' * y) * (Q * Q') = (P * Q' - P' * Q) * (y * y') := by
  have := cross_add h (show (-x') * Q' = (-P') * y' by rw [Int.neg_mul, k, Int.neg_mul])
  rwa [Int.neg_mul, Int.neg_mul, ← Int.sub_eq_add_neg, ← Int.sub_eq_add_neg] at this

theorem sgn_cross {x y P Q : Int} (hy : 0 < y) (hQ : 0 < Q) (h : x * Q = P * y) : sgn x = sgn P := by
  rcases Int.lt_trichotomy P 0 with hp | hp | hp
  · have h1 := Int.mul_neg_of_neg_of_pos hp hy
    have hx : x < 0 := by
      rcases Int.lt_or_le x 0 with h2 | h2
      · exact h2
      · have := Int.mul_nonneg h2 (Int.le_of_lt hQ); omega
    unfold sgn; rw [if_pos hx, if_pos hp]
  · rw [hp, Int.zero_mul] at h
    have hx : x = 0 := by
      rcases Int.mul_eq_zero.1 h with h2 | h2
      · exact h2
      · omega
    rw [hx, hp]
  · have h1 := Int.mul_pos hp hy
    have hx : 0 < x := by
      rcases Int.lt_or_le 0 x with h2 | h2
      · exact h2
      · have := Int.mul_nonneg (show 0 ≤ -x by omega) (Int.le_of_lt hQ)
        rw [Int.neg_mul] at this; omega
    unfold sgn; rw [if_neg (by omega), if_pos hx, if_neg (by omega), if_pos hp]
theorem Blk.trip {W : World} {g : Nat} {t : TypeId} {a0 a1 a2 : Value} (k : Blk W g t [a0, a1, a2]) (u0 u1 u2 : Value) : Blk (((W.setCell ⟨g, 0, none⟩ u0).setCell ⟨g, 1, none⟩ u1).setCell ⟨g, 2, none⟩ u2) g t [u0, u1, u2] := ((k.set 0 u0).set 1 u1).set 2 u2
theorem got13 {W v : World} {v0 v1 v2 : Value} {t : TypeId} (b : Below (W.alloc (.cells #[v0, v1, v2] t)).heap.size (W.alloc (.cells #[v0, v1, v2] t)) v) : Blk v W.heap.size t [v0, v1, v2] ∧ W.heap.size < v.heap.size := by
  have k := (Blk.new W t [v0, v1, v2]).on b
  exact ⟨k, k.lt⟩
theorem got23 {W v : World} {v0 v1 v2 u0 u1 u2 : Value} {t t' : TypeId} (b : Below ((W.alloc (.cells #[v0, v1, v2] t)).alloc (.cells #[u0, u1, u2] t')).heap.size ((W.alloc (.cells #[v0, v1, v2] t)).alloc (.cells #[u0, u1, u2] t')) v) : (Blk v W.heap.size t [v0, v1, v2] ∧ W.heap.size + 1 < v.heap.size) ∧ Blk v (W.heap.size + 1) t' [u0, u1, u2] := by
  have k := ((Blk.new W t [v0, v1, v2]).alloc (.cells #[u0, u1, u2] t')).on b
  have k' := (Blk.at_new (W.alloc (.cells #[v0, v1, v2] t)) t' [u0, u1, u2] (g := W.heap.size + 1) (by simp)).on b
  exact ⟨⟨k, k'.lt⟩, k'⟩
theorem got13d {W v : World} {v0 v1 v2 : Value} {t : TypeId} (b : Below (W.alloc (.cells #[v0, v1, v2] t)).drew.heap.size (W.alloc (.cells #[v0, v1, v2] t)).drew v) : Blk v W.heap.size t [v0, v1, v2] ∧ W.heap.size < v.heap.size := got13 (W := W.drew) b
theorem got23d {W v : World} {v0 v1 v2 u0 u1 u2 : Value} {t t' : TypeId} (b : Below ((W.alloc (.cells #[v0, v1, v2] t)).alloc (.cells #[u0, u1, u2] t')).drew.heap.size ((W.alloc (.cells #[v0, v1, v2] t)).alloc (.cells #[u0, u1, u2] t')).drew v) : (Blk v W.heap.size t [v0, v1, v2] ∧ W.heap.size + 1 < v.heap.size) ∧ Blk v (W.heap.size + 1) t' [u0, u1, u2] := got23 (W := W.drew) b
theorem Num.Rd.trip {w : World} {g : Nat} {t : TypeId} {x : Bool} {p q : Option Addr} {n m n' m' : Nat} {k : IntKind} {A : Option Addr} {xs : List Nat} (h : Rd w (fun g => g < w.heap.size) k A xs) (f : Blk w g t [.bool x, .slice p n m, .slice q n' m']) (u0 u1 u2 : Value) : Rd (((w.setCell ⟨g, 0, none⟩ u0).setCell ⟨g, 1, none⟩ u1).setCell ⟨g, 2, none⟩ u2) (fun b => b < (((w.setCell ⟨g, 0, none⟩ u0).setCell ⟨g, 1, none⟩ u1).setCell ⟨g, 2, none⟩ u2).heap.size) k A xs := h.far3 f u0 u1 u2 rfl
end Go.Proofs.YtidbpkibjficnaaGreatDoor
/- Fractions: contracts by what the arguments are worth: the program's own functions and the document's own. -/

namespace Go.Proofs.YtidbpkibjficnaaGreatDoor
open Go.RowKit Num

/-- handed in: worth P by Q, of at most m words each -/
def SV (P : Int) (Q m : Nat) : Shape := fun n a ca d cd => a.length ≤ ca ∧ d.length ≤ cd ∧ Dg 4294967296 a ∧ Dg 4294967296 d ∧ a.length ≤ m ∧ d.length ≤ m ∧ upN n a d * (Q : Int) = P * (loD d : Int)
theorem SI.toV {P : Int} {Q m : Nat} {n : Bool} {a d : List Nat} {ca cd : Nat} (k : SI P Q m n a ca d cd) : SV P Q m n a ca d cd := by
  obtain ⟨h1, h2, h3, h4, h5, h6, h7, h8⟩ := k
  exact ⟨h1, h2, h3, h4, h5, h6, by rw [h7, h8]⟩
theorem SR.toV {P : Int} {Q m : Nat} {n : Bool} {a d : List Nat} {ca cd : Nat} (k : SR P Q m n a ca d cd) : SV P Q m n a ca d cd := by
  obtain ⟨h1, h2, h3, h4, h5, h6, h7, h8⟩ := k
  exact ⟨h1, h2, h3, h4, h5, h6, by rw [upN_of h7, loD_of h7]; exact h8⟩
theorem SF.toV {P : Int} {Q m : Nat} (hQ : 0 < Q) (hP : P.natAbs < 4294967296 ^ m) (hQm : Q < 4294967296 ^ m) {n : Bool} {a d : List Nat} {ca cd : Nat} (k : SF P Q n a ca d cd) : SV P Q m n a ca d cd := (SF.toR hQ hP hQm k).toV
theorem SV.wide {P : Int} {Q m m' : Nat} (hm : m ≤ m') {n : Bool} {a d : List Nat} {ca cd : Nat} (k : SV P Q m n a ca d cd) : SV P Q m' n a ca d cd := by
  obtain ⟨h1, h2, h3, h4, h5, h6, h7⟩ := k
  exact ⟨h1, h2, h3, h4, Nat.le_trans h5 hm, Nat.le_trans h6 hm, h7⟩
theorem SV.own {P : Int} {Q m : Nat} {n : Bool} {a d : List Nat} {ca cd : Nat} (k : SV P Q m n a ca d cd) : SI (upN n a d) (loD d) m n a ca d cd := by
  obtain ⟨h1, h2, h3, h4, h5, h6, h7⟩ := k
  exact ⟨h1, h2, h3, h4, h5, h6, rfl, rfl⟩
/-- two equal reduced fractions are the same in words -/
theorem SF.same {P : Int} {Q : Nat} {n n' : Bool} {a a' d d' : List Nat} {ca ca' cd cd' : Nat} (k : SF P Q n a ca d cd) (k' : SF P Q n' a' ca' d' cd') : n = n' ∧ a = a' ∧ d = d' := by
  obtain ⟨h1, -, -, h3, h4, h5, h6⟩ := k
  obtain ⟨g1, -, -, g3, g4, g5, g6⟩ := k'
  exact ⟨h1.trans g1.symm, Norm.ext (by omega) h3 g3 (h5.trans g5.symm), Norm.ext (by omega) h4 g4 (h6.trans g6.symm)⟩

theorem hold_V (P : Int) (Q m : Nat) (hm1 : 1 ≤ m) (hm : m ≤ 4194304) : Fn1 60 (SV P Q m) (SR P Q m) :=
  fun n a d A D ca cd w hS r q => (frac_hold (upN n a d) (loD d) m hm1 hm n a d A D ca cd w hS.own r q).mono fun _ _ => Gv.imp fun _ _ _ _ _ k => SR.conv (loD_pos d) hS.2.2.2.2.2.2 (SH.toR (loD_pos d) k)
theorem fv_Reduce (P : Int) (Q m : Nat) (hQ : 0 < Q) (hm1 : 1 ≤ m) (hm : m ≤ 4194304) : Fn1 29 (SV P Q m) (SF P Q) :=
  frac_Reduce_gen _ _ _ (hold_V P Q m hm1 hm) (ratio_reduced P Q m hQ hm)
theorem fv_Neg (P : Int) (Q m : Nat) (hQ : 0 < Q) (hm1 : 1 ≤ m) (hm : m ≤ 4194304) : Fn1 15 (SV P Q m) (SF (-P) Q) :=
  frac_Neg_gen _ _ (frac_ofOne_neg _ _ _ _ (hold_V P Q m hm1 hm) (ratio_neg P Q m hm) (ratio_reduced (-P) Q m hQ hm))
theorem fv_Half (P : Int) (Q m : Nat) (hQ : 0 < Q) (hm1 : 1 ≤ m) (hm : m ≤ 4194303) : Fn1 17 (SV P Q m) (SF P (Q * 2)) :=
  frac_Half_gen _ _ (frac_ofOne_half _ _ _ _ (hold_V P Q m hm1 (by omega)) (ratio_half P Q m (by omega)) (ratio_reduced P (Q * 2) (m + 1) (by omega) (by omega)))
theorem fv_Floor (P : Int) (Q m : Nat) (hQ : 0 < Q) (hm1 : 1 ≤ m) (hm : m ≤ 4194304) : Fw 39 (SV P Q m) (P / (Q : Int)) :=
  frac_Floor_gen _ _ _ (hold_V P Q m hm1 hm) fun n a d A D ca cd w => ratio_floor P Q m hQ hm n a d A D ca cd w
theorem rv_Reduce (P : Int) (Q m : Nat) (hQ : 0 < Q) (hm : m ≤ 4194304) : Fn1 30 (SV P Q m) (SF P Q) :=
  fun n a d A D ca cd w hS r q => (ref4_Reduce n a d A D ca cd w r q (Nat.le_trans hS.2.2.2.2.1 hm) (Nat.le_trans hS.2.2.2.2.2.1 hm) hS.2.2.1 hS.2.2.2.1).mono fun _ _ h => gv_of_f (h.conv (loD_pos d) hQ hS.2.2.2.2.2.2)
theorem rv_Neg (P : Int) (Q m : Nat) (hQ : 0 < Q) (hm : m ≤ 4194304) : Fn1 16 (SV P Q m) (SF (-P) Q) :=
  fun n a d A D ca cd w hS r q => (ref4_Neg n a d A D ca cd w r q (Nat.le_trans hS.2.2.2.2.1 hm) (Nat.le_trans hS.2.2.2.2.2.1 hm) hS.2.2.1 hS.2.2.2.1).mono fun _ _ h => gv_of_f (h.conv (loD_pos d) hQ (by rw [Int.neg_mul, hS.2.2.2.2.2.2, Int.neg_mul]))
theorem rv_Floor (P : Int) (Q m : Nat) (hQ : 0 < Q) (hm : m ≤ 4194304) : Fw 32 (SV P Q m) (P / (Q : Int)) :=
  fun n a d A D ca cd w hS r q => by
    have h := ref4_Floor n a d A D ca cd w r q (Nat.le_trans hS.2.2.2.2.1 hm) (Nat.le_trans hS.2.2.2.2.2.1 hm) hS.2.2.1 hS.2.2.2.1
    rwa [cross_div (P := P) (Q := (Q : Int)) (by have := loD_pos d; omega) (by omega) hS.2.2.2.2.2.2] at h
theorem fv_Add (P P' : Int) (Q Q' m : Nat) (hQ : 0 < Q) (hQ' : 0 < Q') (hm1 : 1 ≤ m) (hm : m ≤ 2097150) : Fn2 9 (SV P Q m) (SV P' Q' m) (SF (P * (Q' : Int) + P' * (Q : Int)) (Q * Q')) :=
  frac_Add_gen _ _ _ (frac_ofTwo_plus _ _ _ _ _ _ (hold_V P Q m hm1 (by omega)) (hold_V P' Q' m hm1 (by omega)) (ratio_plus P P' Q Q' m hm) (ratio_reduced _ _ _ (Nat.mul_pos hQ hQ') (by omega)))
theorem fv_Sub (P P' : Int) (Q Q' m : Nat) (hQ : 0 < Q) (hQ' : 0 < Q') (hm1 : 1 ≤ m) (hm : m ≤ 2097150) : Fn2 11 (SV P Q m) (SV P' Q' m) (SF (P * (Q' : Int) - P' * (Q : Int)) (Q * Q')) :=
  frac_Sub_gen _ _ _ (frac_ofTwo_minus _ _ _ _ _ _ (hold_V P Q m hm1 (by omega)) (hold_V P' Q' m hm1 (by omega)) (ratio_minus P P' Q Q' m hm) (ratio_reduced _ _ _ (Nat.mul_pos hQ hQ') (by omega)))
theorem fv_Mul (P P' : Int) (Q Q' m : Nat) (hQ : 0 < Q) (hQ' : 0 < Q') (hm1 : 1 ≤ m) (hm : m ≤ 2097152) : Fn2 13 (SV P Q m) (SV P' Q' m) (SF (P * P') (Q * Q')) :=
  frac_Mul_gen _ _ _ (frac_ofTwo_times _ _ _ _ _ _ (hold_V P Q m hm1 (by omega)) (hold_V P' Q' m hm1 (by omega)) (ratio_times P P' Q Q' m (by omega)) (ratio_reduced _ _ _ (Nat.mul_pos hQ hQ') (by omega)))
theorem fv_Div (P P' : Int) (Q Q' m : Nat) (hQ : 0 < Q) (hQ' : 0 < Q') (hm1 : 1 ≤ m) (hm : m ≤ 2097152) : Fe2 22 (SV P Q m) (SV P' Q' m) (acrossN (P * (Q' : Int)) (P' * (Q : Int))) (P' * (Q : Int)).natAbs :=
  frac_Div_gen _ _ _ _ _ _ (hold_V P Q m hm1 (by omega)) (hold_V P' Q' m hm1 (by omega)) (frac_quotient P P' Q Q' m hQ hQ' hm)
theorem rv_Add (P P' : Int) (Q Q' m : Nat) (hQ : 0 < Q) (hQ' : 0 < Q') (hm : m ≤ 2097150) : Fn2 10 (SV P Q m) (SV P' Q' m) (SF (P * (Q' : Int) + P' * (Q : Int)) (Q * Q')) :=
  fun n n' a d a' d' A D A' D' ca cd ca' cd' w hS hT r q r' q' => (ref4_Add n n' a d a' d' A D A' D' ca cd ca' cd' w r q r' q' (Nat.le_trans hS.2.2.2.2.1 hm) (Nat.le_trans hS.2.2.2.2.2.1 hm) (Nat.le_trans hT.2.2.2.2.1 hm) (Nat.le_trans hT.2.2.2.2.2.1 hm) hS.2.2.1 hS.2.2.2.1 hT.2.2.1 hT.2.2.2.1).mono fun _ _ h =>
    gv_of_f (h.conv (Nat.mul_pos (loD_pos d) (loD_pos d')) (Nat.mul_pos hQ hQ') (by rw [Int.natCast_mul, Int.natCast_mul]; exact cross_add hS.2.2.2.2.2.2 hT.2.2.2.2.2.2))
theorem rv_Sub (P P' : Int) (Q Q' m : Nat) (hQ : 0 < Q) (hQ' : 0 < Q') (hm : m ≤ 2097150) : Fn2 12 (SV P Q m) (SV P' Q' m) (SF (P * (Q' : Int) - P' * (Q : Int)) (Q * Q')) :=
  fun n n' a d a' d' A D A' D' ca cd ca' cd' w hS hT r q r' q' => (ref4_Sub n n' a d a' d' A D A' D' ca cd ca' cd' w r q r' q' (Nat.le_trans hS.2.2.2.2.1 hm) (Nat.le_trans hS.2.2.2.2.2.1 hm) (Nat.le_trans hT.2.2.2.2.1 hm) (Nat.le_trans hT.2.2.2.2.2.1 hm) hS.2.2.1 hS.2.2.2.1 hT.2.2.1 hT.2.2.2.1).mono fun _ _ h =>
    gv_of_f (h.conv (Nat.mul_pos (loD_pos d) (loD_pos d')) (Nat.mul_pos hQ hQ') (by rw [Int.natCast_mul, Int.natCast_mul]; exact cross_sub hS.2.2.2.2.2.2 hT.2.2.2.2.2.2))
theorem rv_Mul (P P' : Int) (Q Q' m : Nat) (hQ : 0 < Q) (hQ' : 0 < Q') (hm : m ≤ 2097152) : Fn2 14 (SV P Q m) (SV P' Q' m) (SF (P * P') (Q * Q')) :=
  fun n n' a d a' d' A D A' D' ca cd ca' cd' w hS hT r q r' q' => (ref4_Mul n n' a d a' d' A D A' D' ca cd ca' cd' w r q r' q' (Nat.le_trans hS.2.2.2.2.1 hm) (Nat.le_trans hS.2.2.2.2.2.1 hm) (Nat.le_trans hT.2.2.2.2.1 hm) (Nat.le_trans hT.2.2.2.2.2.1 hm) hS.2.2.1 hS.2.2.2.1 hT.2.2.1 hT.2.2.2.1).mono fun _ _ h =>
    gv_of_f (h.conv (Nat.mul_pos (loD_pos d) (loD_pos d')) (Nat.mul_pos hQ hQ') (by rw [Int.natCast_mul, Int.natCast_mul]; exact mul4 hS.2.2.2.2.2.2 hT.2.2.2.2.2.2))
theorem fv_Round (P : Int) (Q m : Nat) (hQ : 0 < Q) (hm1 : 1 ≤ m) (hm : m ≤ 2097149) : Fw 40 (SV P Q m) ((P * 2 + Q) / ((Q * 2 : Nat) : Int)) := by
  have h := frac_Round_gen (SV P Q m) (SR P Q (m + 1)) (SR 1 1 m) (SR 1 (1 * 2) (m + 1)) (SR (P * ((1 * 2 : Nat) : Int) + 1 * (Q : Int)) (Q * (1 * 2)) (m + 1 + (m + 1) + 1)) ((P * ((1 * 2 : Nat) : Int) + 1 * (Q : Int)) / ((Q * (1 * 2) : Nat) : Int))
    ((hold_V P Q m hm1 (by omega)).imp (fun _ _ _ _ _ h => h) fun _ _ _ _ _ => SR.wide (by omega))
    (fun w => (frac_Int 1 (by omega) (by omega) w).mono fun _ _ => Gv.imp fun _ _ _ _ _ => SF.toR (by omega) (by
      have := Nat.pow_le_pow_right (n := 4294967296) (by omega) hm1
      exact Nat.lt_of_lt_of_le (by decide) this) (by
      have := Nat.pow_le_pow_right (n := 4294967296) (by omega) hm1
      exact Nat.lt_of_lt_of_le (by decide) this))
    (ratio_half 1 1 m (by omega)) (ratio_plus P 1 Q (1 * 2) (m + 1) (by omega))
    (fun n a d A D ca cd w => ratio_floor _ _ (m + 1 + (m + 1) + 1) (by omega) (by omega) n a d A D ca cd w)
  rwa [Int.one_mul, Nat.one_mul] at h
end Go.Proofs.YtidbpkibjficnaaGreatDoor
/- The fourth layer's law: a fraction below 0 is right. -/

namespace Go.Proofs.YtidbpkibjficnaaGreatDoor
open Go.RowKit Num

set_option maxRecDepth 10000 in
set_option maxHeartbeats 3200000 in
theorem law4_lives (w : World) (htab : Tab w) : Calls Tryz.prog 21 #[] w fun e w' => e = .returned (.bool true) ∧ Below w.heap.size w w' := by
  have cO := frac_Of 6 (-4) (by omega) (by omega) (by omega) (by omega) (-6) 4 (by decide) (by decide) w
  go_enter Tryz.func21, Tryz.ntmps21
  go_wp2_with fail
  refine cO.mono ?_
  rintro e w1 (⟨h0, -⟩ | ⟨-, v, rfl, A, x, ca, D, y, cd, hv, hca, hcd, hnx, hny, hvx, hvy, r1, q1, b1⟩)
  · exact absurd h0 (by decide)
  cases hv
  obtain rfl : x = [3] := Norm.ext (b := 4294967296) (by omega) hnx (norm_one (by omega) (by omega)) (by rw [hvx]; decide)
  obtain rfl : y = [2] := Norm.ext (b := 4294967296) (by omega) hny (norm_one (by omega) (by omega)) (by rw [hvy]; decide)
  obtain ⟨V, hV, KV, bV, sV⟩ := bx1 w1 26 (.bool true) (.slice A 1 ca) (.slice D 1 cd)
  have BV : Below w.heap.size w V := b1.trans (bV.mono b1.size)
  have rx := r1.on bV
  have qy := q1.on bV
  have hI : SI (-3) 2 1 true [3] ca [2] cd := ⟨hca, hcd, dg_one (by omega), dg_one (by omega), by simp, by simp, by decide, by decide⟩
  have cT := frac_Text (-3) 2 1 (by omega) (by omega) (by omega) true [3] [2] A D ca cd V hI rx qy (htab.on BV)
  rw [show ftext (-3) 2 = [45, 51, 47, 50] by decide +kernel] at cT
  have cF := fun (U : World) (hU : Below V.heap.size V U) => frac_Floor (-3) 2 1 (by omega) (by omega) (by omega) true [3] [2] A D ca cd U hI (rx.on hU) (qy.on hU)
  have cR := fun (U : World) (hU : Below V.heap.size V U) => frac_Round (-3) 2 1 (by omega) (by omega) (by omega) true [3] [2] A D ca cd U hI (rx.on hU) (qy.on hU)
  simp only [show ((-3 : Int) / ((2 : Nat) : Int)) = -2 by decide] at cF
  simp only [show (((-3 : Int) * 2 + ((2 : Nat) : Int)) / ((2 * 2 : Nat) : Int)) = -1 by decide] at cR
  have cA := fun (U : World) => ref2_Of (-2) (by omega) (by omega) U
  have cB := fun (U : World) => ref2_Of (-1) (by omega) (by omega) U
  have CF := Lib.hid cF
  have CR := Lib.hid cR
  have CA := Lib.hid cA
  have CB := Lib.hid cB
  have HK := Lib.hid KV
  have HV := Lib.hid hV
  have HB := Lib.hid BV
  obtain ⟨p0, p1, p2⟩ := keep3 KV (Below.refl _ _)
  clear cO cF cR cA cB KV hV BV hnx hny hvx hvy r1 q1 rx qy b1 bV hI sV
  go_wp2_with fail
  try rw [HV.out]
  refine cT.mono ?_
  rintro e w2 ⟨rfl, b2⟩
  obtain ⟨p0, p1, p2⟩ := keep3 HK.out b2
  clear cT
  go_wp2_with fail
  refine (CF.out _ b2).mono ?_
  rintro e w3 ⟨A3, x3, c3, rfl, hc3, hn3, hv3, r3, b3⟩
  obtain rfl : x3 = [2] := Norm.ext (b := 4294967296) (by omega) hn3 (norm_one (by omega) (by omega)) (by rw [hv3]; decide)
  have B3 := b2.trans (b3.mono b2.size)
  obtain ⟨p0, p1, p2⟩ := keep3 HK.out B3
  clear hn3 hv3
  go_wp2_with fail
  refine (CA.out _).mono ?_
  rintro e w4 ⟨A4, x4, c4, rfl, hc4, hn4, hv4, r4, b4⟩
  obtain rfl : x4 = [2] := Norm.ext (b := 4294967296) (by omega) hn4 (norm_one (by omega) (by omega)) (by rw [hv4]; decide)
  have B4 := B3.trans (b4.mono B3.size)
  have cS := ref2_Same (decide ((-2 : Int) < 0)) [2] A3 A4 c3 c4 _ (r3.on b4) r4 (by simp)
  obtain ⟨p0, p1, p2⟩ := keep3 HK.out B4
  clear hn4 hv4
  go_wp2_with fail
  refine cS.mono ?_
  rintro e w5 ⟨rfl, b5⟩
  have B5 := B4.trans (b5.mono B4.size)
  obtain ⟨p0, p1, p2⟩ := keep3 HK.out B5
  clear cS
  go_wp2_with fail
  refine (CR.out _ B5).mono ?_
  rintro e w6 ⟨A6, x6, c6, rfl, hc6, hn6, hv6, r6, b6⟩
  obtain rfl : x6 = [1] := Norm.ext (b := 4294967296) (by omega) hn6 (norm_one (by omega) (by omega)) (by rw [hv6]; decide)
  have B6 := B5.trans (b6.mono B5.size)
  clear hn6 hv6
  go_wp2_with fail
  refine (CB.out _).mono ?_
  rintro e w7 ⟨A7, x7, c7, rfl, hc7, hn7, hv7, r7, b7⟩
  obtain rfl : x7 = [1] := Norm.ext (b := 4294967296) (by omega) hn7 (norm_one (by omega) (by omega)) (by rw [hv7]; decide)
  have B7 := B6.trans (b7.mono B6.size)
  have cS := ref2_Same (decide ((-1 : Int) < 0)) [1] A6 A7 c6 c7 _ (r6.on b7) r7 (by simp)
  clear hn7 hv7
  go_wp2_with fail
  refine cS.mono ?_
  rintro e w8 ⟨rfl, b8⟩
  have B8 := B7.trans (b8.mono B7.size)
  go_wp2_with fail
  go_ret
  exact ⟨rfl, HB.out.trans (B8.mono HB.out.size)⟩
end Go.Proofs.YtidbpkibjficnaaGreatDoor
