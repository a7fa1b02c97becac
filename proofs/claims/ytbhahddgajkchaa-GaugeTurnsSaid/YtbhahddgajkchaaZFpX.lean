/- Fractions, the program's own: shapes of what is handed in and out, and their arithmetic. -/
import Derived.Test.YtbhahddgajkchaaZFrY
import Derived.Test.YtbhahddgajkchaaZRtX
import Derived.Test.YtbhahddgajkchaaZWhY
import Derived.Test.YtbhahddgajkchaaZWhX
import Derived.Deep.RegionWith
import Derived.Deep.RegionHeld3
namespace Go.Proofs.Ytbhahddgajkchaa
open Go.RowKit Num

/-- what may be said of a fraction's sign, words and room -/
abbrev Shape := Bool → List Nat → Nat → List Nat → Nat → Prop
/-- a fraction of a shape is handed back -/
def Gv (S : Shape) (w : World) (e : Ending) (w' : World) : Prop :=
  ∃ n a A ca d D cd, e = .returned (.agg #[.bool n, .slice A a.length ca, .slice D d.length cd]) ∧ S n a ca d cd ∧ Rd w' (fun g => g < w'.heap.size) .u32 A a ∧ Rd w' (fun g => g < w'.heap.size) .u32 D d ∧ Below w.heap.size w w'
/-- handed in: P by Q, of at most m words each -/
def SI (P : Int) (Q m : Nat) : Shape := fun n a ca d cd => a.length ≤ ca ∧ d.length ≤ cd ∧ Dg 4294967296 a ∧ Dg 4294967296 d ∧ a.length ≤ m ∧ d.length ≤ m ∧ upN n a d = P ∧ loD d = Q
/-- P by Q just so -/
def SH (P : Int) (Q m : Nat) : Shape := fun n a ca d cd => a.length ≤ ca ∧ d.length ≤ cd ∧ Dg 4294967296 a ∧ Dg 4294967296 d ∧ a.length ≤ m ∧ d.length ≤ m ∧ wv n a = P ∧ val 4294967296 d = Q
/-- what is worth P by Q -/
def SR (P : Int) (Q m : Nat) : Shape := fun n a ca d cd => a.length ≤ ca ∧ d.length ≤ cd ∧ Dg 4294967296 a ∧ Dg 4294967296 d ∧ a.length ≤ m ∧ d.length ≤ m ∧ 0 < val 4294967296 d ∧ wv n a * (Q : Int) = P * (val 4294967296 d : Int)
/-- P by Q, reduced -/
def SF (P : Int) (Q : Nat) : Shape := fun n a ca d cd => n = decide (P < 0) ∧ a.length ≤ ca ∧ d.length ≤ cd ∧ Norm 4294967296 a ∧ Norm 4294967296 d ∧ val 4294967296 a = P.natAbs / Nat.gcd P.natAbs Q ∧ val 4294967296 d = Q / Nat.gcd P.natAbs Q

theorem gv_of_f {P : Int} {Q : Nat} {w w' : World} {e : Ending} (h : GivesF P Q w e w') : Gv (SF P Q) w e w' := by
  obtain ⟨A, a, ca, D, d, cd, rfl, h1, h2, h3, h4, h5, h6, h7, h8, h9⟩ := h
  exact ⟨_, a, A, ca, d, D, cd, rfl, ⟨rfl, h1, h2, h3, h4, h5, h6⟩, h7, h8, h9⟩
theorem f_of_gv {P : Int} {Q : Nat} {w w' : World} {e : Ending} (h : Gv (SF P Q) w e w') : GivesF P Q w e w' := by
  obtain ⟨n, a, A, ca, d, D, cd, rfl, ⟨rfl, h1, h2, h3, h4, h5, h6⟩, h7, h8, h9⟩ := h
  exact ⟨A, a, ca, D, d, cd, rfl, h1, h2, h3, h4, h5, h6, h7, h8, h9⟩
theorem Gv.imp {S T : Shape} {w w' : World} {e : Ending} (hs : ∀ n a ca d cd, S n a ca d cd → T n a ca d cd) (h : Gv S w e w') : Gv T w e w' := by
  obtain ⟨n, a, A, ca, d, D, cd, rfl, h1, h2⟩ := h
  exact ⟨n, a, A, ca, d, D, cd, rfl, hs _ _ _ _ _ h1, h2⟩

/-- equal fractions -/
theorem cross_swap {x y P P' Q Q' : Int} (hQ : 0 < Q) (h : P * Q' = P' * Q) (k : x * Q = P * y) : x * Q' = P' * y := by
  have h1 : x * Q' * Q = P' * y * Q := by
    rw [Int.mul_right_comm, k, Int.mul_right_comm, h, Int.mul_right_comm]
  exact Int.eq_of_mul_eq_mul_right (by omega) h1
theorem SR.conv {P P' : Int} {Q Q' m : Nat} (hQ : 0 < Q) (h : P * (Q' : Int) = P' * (Q : Int)) {n : Bool} {a d : List Nat} {ca cd : Nat} (k : SR P Q m n a ca d cd) : SR P' Q' m n a ca d cd := by
  obtain ⟨h1, h2, h3, h4, h5, h6, h7, h8⟩ := k
  exact ⟨h1, h2, h3, h4, h5, h6, h7, cross_swap (by omega) h h8⟩
theorem SR.wide {P : Int} {Q m m' : Nat} (hm : m ≤ m') {n : Bool} {a d : List Nat} {ca cd : Nat} (k : SR P Q m n a ca d cd) : SR P Q m' n a ca d cd := by
  obtain ⟨h1, h2, h3, h4, h5, h6, h7, h8⟩ := k
  exact ⟨h1, h2, h3, h4, Nat.le_trans h5 hm, Nat.le_trans h6 hm, h7, h8⟩
theorem SH.toR {P : Int} {Q m : Nat} (hQ : 0 < Q) {n : Bool} {a d : List Nat} {ca cd : Nat} (k : SH P Q m n a ca d cd) : SR P Q m n a ca d cd := by
  obtain ⟨h1, h2, h3, h4, h5, h6, h7, h8⟩ := k
  exact ⟨h1, h2, h3, h4, h5, h6, by omega, by rw [h7, h8]⟩
theorem SF.scale {P : Int} {Q k : Nat} (hk : 0 < k) {n : Bool} {a d : List Nat} {ca cd : Nat} : SF (P * (k : Int)) (Q * k) n a ca d cd ↔ SF P Q n a ca d cd := by
  have hn : (P * (k : Int)).natAbs = P.natAbs * k := by rw [Int.natAbs_mul, Int.natAbs_natCast]
  have hg : Nat.gcd (P.natAbs * k) (Q * k) = Nat.gcd P.natAbs Q * k := Nat.gcd_mul_right _ _ _
  have hs : decide (P * (k : Int) < 0) = decide (P < 0) := by
    rcases Int.lt_or_le P 0 with hp | hp
    · rw [decide_eq_true hp, decide_eq_true (Int.mul_neg_of_neg_of_pos hp (by omega))]
    · have := Int.mul_nonneg hp (show (0 : Int) ≤ (k : Int) by omega)
      rw [decide_eq_false (by omega), decide_eq_false (by omega)]
  unfold SF
  rw [hs, hn, hg, Nat.mul_div_mul_right _ _ hk, Nat.mul_div_mul_right _ _ hk]
theorem SF.conv {P P' : Int} {Q Q' : Nat} (hQ : 0 < Q) (hQ' : 0 < Q') (h : P * (Q' : Int) = P' * (Q : Int)) {n : Bool} {a d : List Nat} {ca cd : Nat} (k : SF P Q n a ca d cd) : SF P' Q' n a ca d cd := by
  have k1 := (SF.scale hQ').2 k
  rw [h, Nat.mul_comm] at k1
  exact (SF.scale hQ).1 k1
theorem GivesF.conv {P P' : Int} {Q Q' : Nat} {w w' : World} {e : Ending} (hQ : 0 < Q) (hQ' : 0 < Q') (h : P * (Q' : Int) = P' * (Q : Int)) (k : GivesF P Q w e w') : GivesF P' Q' w e w' :=
  f_of_gv ((gv_of_f k).imp fun _ _ _ _ _ => SF.conv hQ hQ' h)
/-- a reduced fraction as one that is handed in -/
theorem SF.toR {P : Int} {Q m : Nat} (hQ : 0 < Q) (hP : P.natAbs < 4294967296 ^ m) (hQm : Q < 4294967296 ^ m) {n : Bool} {a d : List Nat} {ca cd : Nat} (k : SF P Q n a ca d cd) : SR P Q m n a ca d cd := by
  obtain ⟨rfl, h1, h2, h3, h4, h5, h6⟩ := k
  obtain ⟨hg, e1, e2⟩ := reduced_parts hQ h5 h6
  have hd : 0 < val 4294967296 d := by
    rcases Nat.eq_zero_or_pos (val 4294967296 d) with h | h
    · rw [h6] at h
      have := Nat.div_mul_cancel (Nat.gcd_dvd_right P.natAbs Q)
      rw [h] at this; omega
    · exact h
  rw [upN_of hd] at e1
  rw [loD_of hd] at e2
  refine ⟨h1, h2, h3.1, h4.1, h3.2.length_le (b := 4294967296) (by omega) ?_, h4.2.length_le (b := 4294967296) (by omega) ?_, hd, ?_⟩
  · rw [h5]; exact Nat.lt_of_le_of_lt (Nat.div_le_self _ _) hP
  · rw [h6]; exact Nat.lt_of_le_of_lt (Nat.div_le_self _ _) hQm
  · generalize Nat.gcd P.natAbs Q = g at e1 e2
    generalize wv (decide (P < 0)) a = x at e1 ⊢
    generalize val 4294967296 d = y at e2 ⊢
    rw [← e1, ← e2, Int.natCast_mul, Int.mul_assoc, Int.mul_comm (g : Int)]
theorem SR.toI {P : Int} {Q m : Nat} {n : Bool} {a d : List Nat} {ca cd : Nat} (k : SR P Q m n a ca d cd) : SI (wv n a) (val 4294967296 d) m n a ca d cd := by
  obtain ⟨h1, h2, h3, h4, h5, h6, h7, h8⟩ := k
  exact ⟨h1, h2, h3, h4, h5, h6, upN_of h7, loD_of h7⟩

/-- a call's contract, in shapes: of one, of two -/
abbrev Fn1 (f : FuncId) (S T : Shape) : Prop := ∀ (n : Bool) (a d : List Nat) (A D : Option Addr) (ca cd : Nat) (w : World), S n a ca d cd → Rd w (fun g => g < w.heap.size) .u32 A a → Rd w (fun g => g < w.heap.size) .u32 D d → Calls Try.prog f #[.agg #[.bool n, .slice A a.length ca, .slice D d.length cd]] w (Gv T w)
abbrev Fn2 (f : FuncId) (S S' T : Shape) : Prop := ∀ (n n' : Bool) (a d a' d' : List Nat) (A D A' D' : Option Addr) (ca cd ca' cd' : Nat) (w : World), S n a ca d cd → S' n' a' ca' d' cd' → Rd w (fun g => g < w.heap.size) .u32 A a → Rd w (fun g => g < w.heap.size) .u32 D d → Rd w (fun g => g < w.heap.size) .u32 A' a' → Rd w (fun g => g < w.heap.size) .u32 D' d' → Calls Try.prog f #[.agg #[.bool n, .slice A a.length ca, .slice D d.length cd], .agg #[.bool n', .slice A' a'.length ca', .slice D' d'.length cd']] w (Gv T w)
theorem Fn1.imp {f : FuncId} {S T S' T' : Shape} (h : Fn1 f S T) (hs : ∀ n a ca d cd, S' n a ca d cd → S n a ca d cd) (ht : ∀ n a ca d cd, T n a ca d cd → T' n a ca d cd) : Fn1 f S' T' :=
  fun n a d A D ca cd w hS r q => (h n a d A D ca cd w (hs _ _ _ _ _ hS) r q).mono fun _ _ => Gv.imp ht
theorem Fn2.imp {f : FuncId} {S U T S' U' T' : Shape} (h : Fn2 f S U T) (hs : ∀ n a ca d cd, S' n a ca d cd → S n a ca d cd) (hu : ∀ n a ca d cd, U' n a ca d cd → U n a ca d cd) (ht : ∀ n a ca d cd, T n a ca d cd → T' n a ca d cd) : Fn2 f S' U' T' :=
  fun n n' a d a' d' A D A' D' ca cd ca' cd' w hS hU r q r' q' => (h n n' a d a' d' A D A' D' ca cd ca' cd' w (hs _ _ _ _ _ hS) (hu _ _ _ _ _ hU) r q r' q').mono fun _ _ => Gv.imp ht

/-- any fraction stored where the result lies -/
theorem fin_any {w v : World} {g : Nat} {t : TypeId} (k : Blk v g t [.bool false, .slice none 0 0, .slice none 0 0]) (hg : w.heap.size ≤ g) (B : Below w.heap.size w v) {S : Shape} {n : Bool} {A D : Option Addr} {a d : List Nat} {ca cd : Nat} (hs : S n a ca d cd) (r : Rd v (fun g => g < v.heap.size) .u32 A a) (q : Rd v (fun g => g < v.heap.size) .u32 D d) :
    ∃ U, ((v.setCell ⟨g, 0, none⟩ (.bool n)).setCell ⟨g, 1, none⟩ (.slice A a.length ca)).setCell ⟨g, 2, none⟩ (.slice D d.length cd) = U ∧ U.cell? ⟨g, 0, none⟩ = some (.bool n) ∧ U.cell? ⟨g, 1, none⟩ = some (.slice A a.length ca) ∧ U.cell? ⟨g, 2, none⟩ = some (.slice D d.length cd) ∧
      Gv S w (.returned (.agg #[.bool n, .slice A a.length ca, .slice D d.length cd])) U := by
  obtain ⟨U, hU, u0, u1, u2, -, bU, -, -⟩ := k.three (.bool n) (.slice A a.length ca) (.slice D d.length cd)
  exact ⟨U, hU, u0, u1, u2, n, a, A, ca, d, D, cd, rfl, hs, r.far3 k _ _ _ hU, q.far3 k _ _ _ hU, B.trans (bU _ hg)⟩
/-- boxes of three: one, two, three, four of them, of whatever types -/
theorem bx1 (w : World) (t : TypeId) (v0 v1 v2 : Value) : ∃ W, w.alloc (.cells #[v0, v1, v2] t) = W ∧ Blk W w.heap.size t [v0, v1, v2] ∧ Below w.heap.size w W ∧ W.heap.size = w.heap.size + 1 :=
  ⟨_, rfl, Blk.new w t [v0, v1, v2], below_one w _, by simp⟩
theorem bx2 (w : World) (t t' : TypeId) (v0 v1 v2 u0 u1 u2 : Value) : ∃ W, (w.alloc (.cells #[v0, v1, v2] t)).alloc (.cells #[u0, u1, u2] t') = W ∧ Blk W w.heap.size t [v0, v1, v2] ∧ Blk W (w.heap.size + 1) t' [u0, u1, u2] ∧ Below w.heap.size w W ∧ W.heap.size = w.heap.size + 2 := by
  obtain ⟨V, hV, k, b, s⟩ := bx1 w t v0 v1 v2
  rw [hV]
  exact ⟨_, rfl, k.alloc _, Blk.at_new V t' [u0, u1, u2] (by rw [s]), b.trans ((below_one V _).mono (by omega)), by simp [s]⟩
theorem bx3 (w : World) (t t' t'' : TypeId) (v0 v1 v2 u0 u1 u2 x0 x1 x2 : Value) : ∃ W, ((w.alloc (.cells #[v0, v1, v2] t)).alloc (.cells #[u0, u1, u2] t')).alloc (.cells #[x0, x1, x2] t'') = W ∧ Blk W w.heap.size t [v0, v1, v2] ∧ Blk W (w.heap.size + 1) t' [u0, u1, u2] ∧ Blk W (w.heap.size + 1 + 1) t'' [x0, x1, x2] ∧ Below w.heap.size w W ∧ W.heap.size = w.heap.size + 3 := by
  obtain ⟨V, hV, k, k', b, s⟩ := bx2 w t t' v0 v1 v2 u0 u1 u2
  rw [hV]
  exact ⟨_, rfl, k.alloc _, k'.alloc _, Blk.at_new V t'' [x0, x1, x2] (by rw [s]), b.trans ((below_one V _).mono (by omega)), by simp [s]⟩
end Go.Proofs.Ytbhahddgajkchaa
/- Fractions: what the program's own one, isOne, size, Int, hold and reduced answer. -/

namespace Go.Proofs.Ytbhahddgajkchaa
open Go.RowKit Num

theorem isBits_one_iff {N n : Nat} (h : IsBits N n) : n = 1 ↔ N = 1 := by
  obtain ⟨h1, h2⟩ := h
  constructor
  · rintro rfl
    simp at h1 h2
    omega
  · rintro rfl
    rcases h2 with rfl | h2
    · simp at h1
    · rcases Nat.lt_or_ge n 2 with h | h
      · match n, h with
        | 0, _ => simp at h1
        | 1, _ => rfl
      · have : 2 ^ 1 ≤ 2 ^ (n - 1) := Nat.pow_le_pow_right (by omega) (by omega)
        omega
/-- 0 by 1, as it stands in words -/
theorem nought_words {n : Bool} {a d : List Nat} {ca cd : Nat} (h : SF 0 1 n a ca d cd) : n = false ∧ a = [] ∧ d = [1] := by
  obtain ⟨h0, -, -, h1, h2, h3, h4⟩ := h
  simp only [Nat.gcd_one_right, Nat.div_one] at h3 h4
  exact ⟨by rw [h0]; rfl, Norm.ext (by omega) h1 (norm_nil _) (by rw [h3]; rfl), Norm.ext (by omega) h2 (norm_one (by omega) (by omega)) (by rw [h4]; rfl)⟩

end Go.Proofs.Ytbhahddgajkchaa
/- Fractions: what the program's own neg, half, times answer. -/

namespace Go.Proofs.Ytbhahddgajkchaa
open Go.RowKit Num

theorem mul4 {x x' P P' y y' Q Q' : Int} (h : x * Q = P * y) (g : x' * Q' = P' * y') : x * x' * (Q * Q') = P * P' * (y * y') := by
  rw [show x * x' * (Q * Q') = (x * Q) * (x' * Q') by ac_rfl, h, g]
  ac_rfl

end Go.Proofs.Ytbhahddgajkchaa
