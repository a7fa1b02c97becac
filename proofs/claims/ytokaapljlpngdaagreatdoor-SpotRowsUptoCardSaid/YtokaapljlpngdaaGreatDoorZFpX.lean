/- Fractions, the program's own: shapes of what is handed in and out, and their arithmetic. -/
import Derived.Test.YtokaapljlpngdaaGreatDoorZFrY
import Derived.Test.YtokaapljlpngdaaGreatDoorZRtX
import Derived.Test.YtokaapljlpngdaaGreatDoorZWhY
import Derived.Test.YtokaapljlpngdaaGreatDoorZWhX
import Derived.Deep.RegionWith
import Derived.Deep.RegionHeld3
namespace Go.Proofs.YtokaapljlpngdaaGreatDoor
open Go.RowKit Num

/-- what may be said of a fraction's sign, words and room -/
abbrev Shape := Bool → List Nat → Nat → List Nat → Nat → Prop
/-- a fraction of a shape is handed back -/
def Gv (S : Shape) (w : World) (e : Ending) (w' : World) : Prop :=
  ∃ n a A ca d D cd, e = .returned (.agg #[.bool n, .slice A a.length ca, .slice D d.length cd]) ∧ S n a ca d cd ∧ Rd w' (fun g => g < w'.heap.size) .u32 A a ∧ Rd w' (fun g => g < w'.heap.size) .u32 D d ∧ Below w.heap.size w w'
/-- handed in: P by Q, of at most m words each -/
def SI (P : Int) (Q m : Nat) : Shape := fun n a ca d cd => a.length ≤ ca ∧ d.length ≤ cd ∧ Dg 4294967296 a ∧ Dg 4294967296 d ∧ a.length ≤ m ∧ d.length ≤ m ∧ upN n a d = P ∧ loD d = Q
/-- P by Q just so -/
def SH (P : Int) (Q m : Nat) : Shape := fun n a ca d cd => a.length ≤ ca ∧ d.length ≤ cd ∧ Dg 4294967296 a ∧ Dg 4294967296 d ∧ a.length ≤ m ∧ d.length ≤ m ∧ wv n a = P ∧ val 4294967296 d = Q
/-- what is worth P by Q -/
def SR (P : Int) (Q m : Nat) : Shape := fun n a ca d cd => a.length ≤ ca ∧ d.length ≤ cd ∧ Dg 4294967296 a ∧ Dg 4294967296 d ∧ a.length ≤ m ∧ d.length ≤ m ∧ 0 < val 4294967296 d ∧ wv n a * (Q : Int) = P * (val 4294967296 d : Int)
/-- P by Q, reduced -/
def SF (P : Int) (Q : Nat) : Shape := fun n a ca d cd => n = decide (P < 0) ∧ a.length ≤ ca ∧ d.length ≤ cd ∧ Norm 4294967296 a ∧ Norm 4294967296 d ∧ val 4294967296 a = P.natAbs / Nat.gcd P.natAbs Q ∧ val 4294967296 d = Q / Nat.gcd P.natAbs Q

theorem gv_of_f {P : Int} {Q : Nat} {w w' : World} {e : Ending} (h : GivesF P Q w e w') : Gv (SF P Q) w e w' := by
  obtain ⟨A, a, ca, D, d, cd, rfl, h1, h2, h3, h4, h5, h6, h7, h8, h9⟩ := h
  exact ⟨_, a, A, ca, d, D, cd, rfl, ⟨rfl, h1, h2, h3, h4, h5, h6⟩, h7, h8, h9⟩
theorem f_of_gv {P : Int} {Q : Nat} {w w' : World} {e : Ending} (h : Gv (SF P Q) w e w') : GivesF P Q w e w' := by
  obtain ⟨n, a, A, ca, d, D, cd, rfl, ⟨rfl, h1, h2, h3, h4, h5, h6⟩, h7, h8, h9⟩ := h
  exact ⟨A, a, ca, D, d, cd, rfl, h1, h2, h3, h4, h5, h6, h7, h8, h9⟩
theorem Gv.imp {S T : Shape} {w w' : World} {e : Ending} (hs : ∀ n a ca d cd, S n a ca d cd → T n a ca d cd) (h : Gv S w e w') : Gv T w e w' := by
  obtain ⟨n, a, A, ca, d, D, cd, rfl, h1, h2⟩ := h
  exact ⟨n, a, A, ca, d, D, cd, rfl, hs _ _ _ _ _ h1, h2⟩

/-- equal fractions -/
theorem cross_swap {x y P P' Q Q' : Int} (hQ : 0 < Q) (h : P * Q' = P' * Q) (k : x * Q = P * y) : x * Q' = P' * y := by
  have h1 : x * Q' * Q = P' * y * Q := by
    rw [Int.mul_right_comm, k, Int.mul_right_comm, h, Int.mul_right_comm]
  exact Int.eq_of_mul_eq_mul_right (by omega) h1
theorem SR.conv {P P' : Int} {Q Q' m : Nat} (hQ : 0 < Q) (h : P * (Q' : Int) = P' * (Q : Int)) {n : Bool} {a d : List Nat} {ca cd : Nat} (k : SR P Q m n a ca d cd) : SR P' Q' m n a ca d cd := by
  obtain ⟨h1, h2, h3, h4, h5, h6, h7, h8⟩ := k
  exact ⟨h1, h2, h3, h4, h5, h6, h7, cross_swap (by omega) h h8⟩
theorem SR.wide {P : Int} {Q m m' : Nat} (hm : m ≤ m') {n : Bool} {a d : List Nat} {ca cd : Nat} (k : SR P Q m n a ca d cd) : SR P Q m' n a ca d cd := by
  obtain ⟨h1, h2, h3, h4, h5, h6, h7, h8⟩ := k
  exact ⟨h1, h2, h3, h4, Nat.le_trans h5 hm, Nat.le_trans h6 hm, h7, h8⟩
theorem SH.toR {P : Int} {Q m : Nat} (hQ : 0 < Q) {n : Bool} {a d : List Nat} {ca cd : Nat} (k : SH P Q m n a ca d cd) : SR P Q m n a ca d cd := by
  obtain ⟨h1, h2, h3, h4, h5, h6, h7, h8⟩ := k
  exact ⟨h1, h2, h3, h4, h5, h6, by omega, by rw [h7, h8]⟩
theorem SF.scale {P : Int} {Q k : Nat} (hk : 0 < k) {n : Bool} {a d : List Nat} {ca cd : Nat} : SF (P * (k : Int)) (Q * k) n a ca d cd ↔ SF P Q n a ca d cd := by
  have hn : (P * (k : Int)).natAbs = P.natAbs * k := by rw [Int.natAbs_mul, Int.natAbs_natCast]
  have hg : Nat.gcd (P.natAbs * k) (Q * k) = Nat.gcd P.natAbs Q * k := Nat.gcd_mul_right _ _ _
  have hs : decide (P * (k : Int) < 0) = decide (P < 0) := by
    rcases Int.lt_or_le P 0 with hp | hp
    · rw [decide_eq_true hp, decide_eq_true (Int.mul_neg_of_neg_of_pos hp (by omega))]
    · have := Int.mul_nonneg hp (show (0 : Int) ≤ (k : Int) by omega)
      rw [decide_eq_false (by omega), decide_eq_false (by omega)]
  unfold SF
  rw [hs, hn, hg, Nat.mul_div_mul_right _ _ hk, Nat.mul_div_mul_right _ _ hk]
theorem SF.conv {P P' : Int} {Q Q' : Nat} (hQ : 0 < Q) (hQ' : 0 < Q') (h : P * (Q' : Int) = P' * (Q : Int)) {n : Bool} {a d : List Nat} {ca cd : Nat} (k : SF P Q n a ca d cd) : SF P' Q' n a ca d cd := by
  have k1 := (SF.scale hQ').2 k
  rw [h, Nat.mul_comm] at k1
  exact (SF.scale hQ).1 k1
theorem GivesF.conv {P P' : Int} {Q Q' : Nat} {w w' : World} {e : Ending} (hQ : 0 < Q) (hQ' : 0 < Q') (h : P * (Q' : Int) = P' * (Q : Int)) (k : GivesF P Q w e w') : GivesF P' Q' w e w' :=
  f_of_gv ((gv_of_f k).imp fun _ _ _ _ _ => SF.conv hQ hQ' h)
/-- a reduced fraction as one that is handed in -/
theorem SF.toR {P : Int} {Q m : Nat} (hQ : 0 < Q) (hP : P.natAbs < 4294967296 ^ m) (hQm : Q < 4294967296 ^ m) {n : Bool} {a d : List Nat} {ca cd : Nat} (k : SF P Q n a ca d cd) : SR P Q m n a ca d cd := by
  obtain ⟨rfl, h1, h2, h3, h4, h5, h6⟩ := k
  obtain ⟨hg, e1, e2⟩ := reduced_parts hQ h5 h6
  have hd : 0 < val 4294967296 d := by
    rcases Nat.eq_zero_or_pos (val 4294967296 d) with h | h
    · rw [h6] at h
      have := Nat.div_mul_cancel (Nat.gcd_dvd_right P.natAbs Q)
      rw [h] at this; omega
    · exact h
  rw [upN_of hd] at e1
  rw [loD_of hd] at e2
  refine ⟨h1, h2, h3.1, h4.1, h3.2.length_le (b := 4294967296) (by omega) ?_, h4.2.length_le (b := 4294967296) (by omega) ?_, hd, ?_⟩
  · rw [h5]; exact Nat.lt_of_le_of_lt (Nat.div_le_self _ _) hP
  · rw [h6]; exact Nat.lt_of_le_of_lt (Nat.div_le_self _ _) hQm
  · generalize Nat.gcd P.natAbs Q = g at e1 e2
    generalize wv (decide (P < 0)) a = x at e1 ⊢
    generalize val 4294967296 d = y at e2 ⊢
    rw [← e1, ← e2, Int.natCast_mul, Int.mul_assoc, Int.mul_comm (g : Int)]
theorem SR.toI {P : Int} {Q m : Nat} {n : Bool} {a d : List Nat} {ca cd : Nat} (k : SR P Q m n a ca d cd) : SI (wv n a) (val 4294967296 d) m n a ca d cd := by
  obtain ⟨h1, h2, h3, h4, h5, h6, h7, h8⟩ := k
  exact ⟨h1, h2, h3, h4, h5, h6, upN_of h7, loD_of h7⟩

/-- a call's contract, in shapes: of one, of two -/
abbrev Fn1 (f : FuncId) (S T : Shape) : Prop := ∀ (n : Bool) (a d : List Nat) (A D : Option Addr) (ca cd : Nat) (w : World), S n a ca d cd → Rd w (fun g => g < w.heap.size) .u32 A a → Rd w (fun g => g < w.heap.size) .u32 D d → Calls Tryz.prog f #[.agg #[.bool n, .slice A a.length ca, .slice D d.length cd]] w (Gv T w)
abbrev Fn2 (f : FuncId) (S S' T : Shape) : Prop := ∀ (n n' : Bool) (a d a' d' : List Nat) (A D A' D' : Option Addr) (ca cd ca' cd' : Nat) (w : World), S n a ca d cd → S' n' a' ca' d' cd' → Rd w (fun g => g < w.heap.size) .u32 A a → Rd w (fun g => g < w.heap.size) .u32 D d → Rd w (fun g => g < w.heap.size) .u32 A' a' → Rd w (fun g => g < w.heap.size) .u32 D' d' → Calls Tryz.prog f #[.agg #[.bool n, .slice A a.length ca, .slice D d.length cd], .agg #[.bool n', .slice A' a'.length ca', .slice D' d'.length cd']] w (Gv T w)
theorem Fn1.imp {f : FuncId} {S T S' T' : Shape} (h : Fn1 f S T) (hs : ∀ n a ca d cd, S' n a ca d cd → S n a ca d cd) (ht : ∀ n a ca d cd, T n a ca d cd → T' n a ca d cd) : Fn1 f S' T' :=
  fun n a d A D ca cd w hS r q => (h n a d A D ca cd w (hs _ _ _ _ _ hS) r q).mono fun _ _ => Gv.imp ht
theorem Fn2.imp {f : FuncId} {S U T S' U' T' : Shape} (h : Fn2 f S U T) (hs : ∀ n a ca d cd, S' n a ca d cd → S n a ca d cd) (hu : ∀ n a ca d cd, U' n a ca d cd → U n a ca d cd) (ht : ∀ n a ca d cd, T n a ca d cd → T' n a ca d cd) : Fn2 f S' U' T' :=
  fun n n' a d a' d' A D A' D' ca cd ca' cd' w hS hU r q r' q' => (h n n' a d a' d' A D A' D' ca cd ca' cd' w (hs _ _ _ _ _ hS) (hu _ _ _ _ _ hU) r q r' q').mono fun _ _ => Gv.imp ht

/-- any fraction stored where the result lies -/
theorem fin_any {w v : World} {g : Nat} {t : TypeId} (k : Blk v g t [.bool false, .slice none 0 0, .slice none 0 0]) (hg : w.heap.size ≤ g) (B : Below w.heap.size w v) {S : Shape} {n : Bool} {A D : Option Addr} {a d : List Nat} {ca cd : Nat} (hs : S n a ca d cd) (r : Rd v (fun g => g < v.heap.size) .u32 A a) (q : Rd v (fun g => g < v.heap.size) .u32 D d) :
    ∃ U, ((v.setCell ⟨g, 0, none⟩ (.bool n)).setCell ⟨g, 1, none⟩ (.slice A a.length ca)).setCell ⟨g, 2, none⟩ (.slice D d.length cd) = U ∧ U.cell? ⟨g, 0, none⟩ = some (.bool n) ∧ U.cell? ⟨g, 1, none⟩ = some (.slice A a.length ca) ∧ U.cell? ⟨g, 2, none⟩ = some (.slice D d.length cd) ∧
      Gv S w (.returned (.agg #[.bool n, .slice A a.length ca, .slice D d.length cd])) U := by
  obtain ⟨U, hU, u0, u1, u2, -, bU, -, -⟩ := k.three (.bool n) (.slice A a.length ca) (.slice D d.length cd)
  exact ⟨U, hU, u0, u1, u2, n, a, A, ca, d, D, cd, rfl, hs, r.far3 k _ _ _ hU, q.far3 k _ _ _ hU, B.trans (bU _ hg)⟩
/-- boxes of three: one, two, three, four of them, of whatever types -/
theorem bx1 (w : World) (t : TypeId) (v0 v1 v2 : Value) : ∃ W, w.alloc (.cells #[v0, v1, v2] t) = W ∧ Blk W w.heap.size t [v0, v1, v2] ∧ Below w.heap.size w W ∧ W.heap.size = w.heap.size + 1 :=
  ⟨_, rfl, Blk.new w t [v0, v1, v2], below_one w _, by simp⟩
theorem bx2 (w : World) (t t' : TypeId) (v0 v1 v2 u0 u1 u2 : Value) : ∃ W, (w.alloc (.cells #[v0, v1, v2] t)).alloc (.cells #[u0, u1, u2] t') = W ∧ Blk W w.heap.size t [v0, v1, v2] ∧ Blk W (w.heap.size + 1) t' [u0, u1, u2] ∧ Below w.heap.size w W ∧ W.heap.size = w.heap.size + 2 := by
  obtain ⟨V, hV, k, b, s⟩ := bx1 w t v0 v1 v2
  rw [hV]
  exact ⟨_, rfl, k.alloc _, Blk.at_new V t' [u0, u1, u2] (by rw [s]), b.trans ((below_one V _).mono (by omega)), by simp [s]⟩
theorem bx3 (w : World) (t t' t'' : TypeId) (v0 v1 v2 u0 u1 u2 x0 x1 x2 : Value) : ∃ W, ((w.alloc (.cells #[v0, v1, v2] t)).alloc (.cells #[u0, u1, u2] t')).alloc (.cells #[x0, x1, x2] t'') = W ∧ Blk W w.heap.size t [v0, v1, v2] ∧ Blk W (w.heap.size + 1) t' [u0, u1, u2] ∧ Blk W (w.heap.size + 1 + 1) t'' [x0, x1, x2] ∧ Below w.heap.size w W ∧ W.heap.size = w.heap.size + 3 := by
  obtain ⟨V, hV, k, k', b, s⟩ := bx2 w t t' v0 v1 v2 u0 u1 u2
  rw [hV]
  exact ⟨_, rfl, k.alloc _, k'.alloc _, Blk.at_new V t'' [x0, x1, x2] (by rw [s]), b.trans ((below_one V _).mono (by omega)), by simp [s]⟩
end Go.Proofs.YtokaapljlpngdaaGreatDoor
/- Fractions: what the program's own one, isOne, size, Int, hold and reduced answer. -/

namespace Go.Proofs.YtokaapljlpngdaaGreatDoor
open Go.RowKit Num

/-- 1 -/
theorem frac_one (w : World) : Calls Tryz.prog 63 #[] w (Gives .u32 4294967296 1 w) := by
  have c : Calls Tryz.prog 95 #[.int .u64 1] w (Gives .u32 4294967296 1 w) := nat_Of 1 (by omega) w
  go_enter Tryz.func63, Tryz.ntmps63
  go_wp2_with fail
  refine c.mono ?_
  rintro e w1 ⟨A1, xs, c1, rfl, hc1, hn1, hv1, hr1, hb1⟩
  have H := Lib.hid (And.intro hn1 hv1)
  clear hn1 hv1 c
  go_wp2_with fail
  go_ret
  exact ⟨A1, xs, c1, rfl, hc1, H.out.1, H.out.2, hr1, hb1⟩
theorem isBits_one_iff {N n : Nat} (h : IsBits N n) : n = 1 ↔ N = 1 := by
  obtain ⟨h1, h2⟩ := h
  constructor
  · rintro rfl
    simp at h1 h2
    omega
  · rintro rfl
    rcases h2 with rfl | h2
    · simp at h1
    · rcases Nat.lt_or_ge n 2 with h | h
      · match n, h with
        | 0, _ => simp at h1
        | 1, _ => rfl
      · have : 2 ^ 1 ≤ 2 ^ (n - 1) := Nat.pow_le_pow_right (by omega) (by omega)
        omega
set_option maxHeartbeats 400000 in
/-- is it 1? -/
theorem frac_isOne (d : List Nat) (A : Option Addr) (c : Nat) (w : World) (h : Rd w (fun g => g < w.heap.size) .u32 A d) (hl : d.length ≤ 1073741824) (hc : d.length ≤ c) (hd : Dg 4294967296 d) (b : Bool) (hb : decide (val 4294967296 d = 1) = b) :
    Calls Tryz.prog 59 #[.slice A d.length c] w fun e w' => e = .returned (.bool b) ∧ w = w' := by
  obtain ⟨z, hz⟩ := isBits_some (val 4294967296 d)
  have cB := nat_Bits_at d A c z w h hl hc hd hz
  have h1 := isBits_one_iff hz
  have HB := Lib.hid (show (Value.bool (decide ((z : Int) = 1))) = Value.bool b by
    rw [← hb]
    congr 1
    exact decide_eq_decide.2 ⟨fun h => h1.1 (by omega), fun h => by have := h1.2 h; omega⟩)
  clear hz h1 hb
  go_enter Tryz.func59, Tryz.ntmps59
  go_wp2_with fail
  refine cB.mono ?_
  rintro e w1 ⟨rfl, rfl⟩
  go_wp2_with fail
  go_ret
  exact ⟨by first | exact congrArg _ HB.out | (rw [← HB.out]; simp), rfl⟩
/-- a size as a whole number -/
theorem frac_size (D : Option Addr) (n c : Nat) (w : World) :
    Calls Tryz.prog 46 #[.slice D n c] w fun e w' => e = .returned (.agg #[.bool false, .slice D n c]) ∧ Below w.heap.size w w' := by
  go_enter Tryz.func46, Tryz.ntmps46
  go_wp2_with fail
  exact bodyPost_ret (v := .agg #[.bool false, .slice D n c]) (by simp [results, Tryz.results46, go_sem]) rfl ⟨rfl, below_one w _⟩

set_option maxRecDepth 10000 in
set_option maxHeartbeats 800000 in
/-- a whole number -/
theorem frac_Int (n : Int) (hn1 : -9223372036854775808 ≤ n) (hn2 : n ≤ 9223372036854775807) (w : World) :
    Calls Tryz.prog 31 #[.int .i64 n] w (Gv (SF n 1) w) := by
  obtain ⟨W, hW, k, b0, s0⟩ := bx1 w 29 (.bool false) (.slice none 0 0) (.slice none 0 0)
  have cO := fun (V : World) => whole_Of n hn1 hn2 V
  have c1 := fun (V : World) => frac_one V
  go_enter Tryz.func31, Tryz.ntmps31
  go_wp2_with fail
  try rw [hW]
  clear hW
  refine (cO W).mono ?_
  rintro e w1 ⟨X, x, cx, rfl, hcx, hnx, hvx, rx, b1⟩
  have HX := Lib.hid (And.intro hnx hvx)
  clear cO hnx hvx
  go_wp2_with fail
  refine (c1 w1).mono ?_
  rintro e w2 ⟨Y, y, cy, rfl, hcy, hny, hvy, ry, b2⟩
  have K := (k.below b1 k.lt).below b2 (k.below b1 k.lt).lt
  have B := (b0.trans (b1.mono b0.size)).trans (b2.mono (Nat.le_trans b0.size b1.size))
  obtain ⟨i0, i1, i2, i3, i4, i5⟩ := K.facts
  obtain ⟨Z, hZ, u0, u1, u2, hG⟩ := fin_any (S := SF n 1) K (Nat.le_refl _) B (n := decide (n < 0)) (a := x) (d := y) (ca := cx) (cd := cy) ⟨rfl, hcx, hcy, HX.out.1, hny, by rw [Nat.gcd_one_right, Nat.div_one]; exact HX.out.2, by rw [Nat.gcd_one_right]; exact hvy⟩ (rx.on b2) ry
  have HZ := Lib.hid hZ
  have HF := Lib.hid (And.intro u0 (And.intro u1 u2))
  have HG := Lib.hid hG
  clear hZ u0 u1 u2 hG c1 k K rx ry b1 b2 B hny hvy
  go_wp2_with fail
  rw [HZ.out]
  obtain ⟨u0, u1, u2⟩ := HF.out
  exact bodyPost_ret (by simp [results, Tryz.results31, go_sem, u0, u1, u2]) rfl HG.out

/-- 0 by 1, as it stands in words -/
theorem nought_words {n : Bool} {a d : List Nat} {ca cd : Nat} (h : SF 0 1 n a ca d cd) : n = false ∧ a = [] ∧ d = [1] := by
  obtain ⟨h0, -, -, h1, h2, h3, h4⟩ := h
  simp only [Nat.gcd_one_right, Nat.div_one] at h3 h4
  exact ⟨by rw [h0]; rfl, Norm.ext (by omega) h1 (norm_nil _) (by rw [h3]; rfl), Norm.ext (by omega) h2 (norm_one (by omega) (by omega)) (by rw [h4]; rfl)⟩

set_option maxRecDepth 10000 in
set_option maxHeartbeats 800000 in
/-- a fraction as it counts -/
theorem frac_hold (P : Int) (Q m : Nat) (hm1 : 1 ≤ m) (hm : m ≤ 4194304) : Fn1 42 (SI P Q m) (SH P Q m) := by
  intro n a d A D ca cd w hS h h'
  obtain ⟨hc, hc', ha, hd, hl, hl', hP, hQ⟩ := hS
  obtain ⟨z, hb⟩ := isBits_some (val 4294967296 d)
  obtain ⟨W, hW, k1, k2, b0, s0⟩ := bx2 w 29 69 (.bool n) (.slice A a.length ca) (.slice D d.length cd) (.bool false) (.slice none 0 0) (.slice none 0 0)
  obtain ⟨p0, p1, p2, -, -, -⟩ := k1.facts
  obtain ⟨i0, i1, i2, i3, i4, i5⟩ := k2.facts
  have cB := nat_Bits_at d D cd z W (h'.on b0) (by omega) hc' hd hb
  have hzi := isBits_zero_iff hb
  clear hb
  by_cases hz : z = 0
  · subst hz
    have hv : val 4294967296 d = 0 := hzi.1 rfl
    have HP := Lib.hid (show P = 0 by rw [← hP]; unfold upN; rw [if_pos hv])
    have HQ := Lib.hid (show Q = 1 by rw [← hQ]; unfold loD; rw [if_pos hv])
    have cI := fun (V : World) => frac_Int 0 (by omega) (by omega) V
    clear hzi hv hP hQ
    go_enter Tryz.func42, Tryz.ntmps42
    go_wp2_with fail
    try rw [hW]
    clear hW
    refine cB.mono ?_
    rintro e w1 ⟨rfl, rfl⟩
    clear cB
    go_wp2_with fail
    refine (cI _).mono ?_
    rintro e w2 ⟨n2, a2, A2, c2, d2, D2, e2, rfl, hs, r, q, b2⟩
    obtain ⟨rfl, rfl, rfl⟩ := nought_words hs
    have K := k2.below b2 k2.lt
    have B := b0.trans (b2.mono b0.size)
    obtain ⟨j0, j1, j2, j3, j4, j5⟩ := K.facts
    obtain ⟨Z, hZ, u0, u1, u2, hG⟩ := fin_any (S := SH P Q m) (w := w) K (by omega) B (n := false) (a := []) (d := [1]) (ca := c2) (cd := e2) (A := A2) (D := D2) ⟨by simp, hs.2.2.1, Dg.nil _, dg_one (by omega), by simp, by simpa using hm1, by rw [HP.out]; rfl, by rw [HQ.out]; rfl⟩ r q
    simp only [List.length_nil, List.length_singleton] at hZ u1 u2 hG
    have HZ := Lib.hid hZ
    have HF := Lib.hid (And.intro u0 (And.intro u1 u2))
    have HG := Lib.hid hG
    clear hZ u0 u1 u2 hG cI k1 k2 K r q b2 B hs i0 i1 i2 i3 i4 i5
    go_wp2_with fail
    rw [HZ.out]
    obtain ⟨u0, u1, u2⟩ := HF.out
    exact bodyPost_ret (by simp [results, Tryz.results42, go_sem, u0, u1, u2]) rfl HG.out
  · have hv : ¬ val 4294967296 d = 0 := fun h => hz (hzi.2 h)
    have hP' : wv n a = P := by rw [← hP]; unfold upN; rw [if_neg hv]
    have hQ' : val 4294967296 d = Q := by rw [← hQ]; unfold loD; rw [if_neg hv]
    have hzb : ((z : Int) == 0) = false := by simp; omega
    obtain ⟨Z, hZ, u0, u1, u2, hG⟩ := fin_any (S := SH P Q m) (w := w) k2 (by omega) b0 (n := n) (a := a) (d := d) (ca := ca) (cd := cd) (A := A) (D := D) ⟨hc, hc', ha, hd, hl, hl', hP', hQ'⟩ (h.on b0) (h'.on b0)
    have HZ := Lib.hid hZ
    have HF := Lib.hid (And.intro u0 (And.intro u1 u2))
    have HG := Lib.hid hG
    clear hZ u0 u1 u2 hG hP' hQ' hP hQ hv hzi k1 k2
    go_enter Tryz.func42, Tryz.ntmps42
    go_wp2_with fail
    try rw [hW]
    clear hW
    refine cB.mono ?_
    rintro e w1 ⟨rfl, rfl⟩
    clear cB
    go_wp2_with fail
    rw [HZ.out]
    obtain ⟨u0, u1, u2⟩ := HF.out
    exact bodyPost_ret (by simp [results, Tryz.results42, go_sem, u0, u1, u2]) rfl HG.out

set_option maxRecDepth 10000 in
set_option maxHeartbeats 800000 in
/-- without common factors, in new words -/
theorem ratio_reduced (P : Int) (Q m : Nat) (hQ : 0 < Q) (hm : m ≤ 4194304) : Fn1 47 (SR P Q m) (SF P Q) := by
  intro n a d A D ca cd w hS h h'
  obtain ⟨hc, hc', ha, hd, hl, hl', hd0, hv⟩ := hS
  obtain ⟨W, hW, k1, k2, b0, s0⟩ := bx2 w 69 29 (.bool n) (.slice A a.length ca) (.slice D d.length cd) (.bool false) (.slice none 0 0) (.slice none 0 0)
  obtain ⟨p0, p1, p2, -, -, -⟩ := k1.facts
  obtain ⟨i0, i1, i2, i3, i4, i5⟩ := k2.facts
  have hconv : ∀ (n' : Bool) (x y : List Nat) (cx cy : Nat), SF (wv n a) (val 4294967296 d) n' x cx y cy → SF P Q n' x cx y cy := fun n' x y cx cy => SF.conv hd0 hQ (by rw [hv])
  have HC := Lib.hid hconv
  have HD0 := Lib.hid hd0
  clear hconv hv hQ hd0
  by_cases h1 : val 4294967296 d = 1
  · have cO := frac_isOne d D cd W (h'.on b0) (by omega) hc' hd true (decide_eq_true h1)
    have cM := fun (V : World) (hV : Below W.heap.size W V) => whole_Make n a A ca _ V ((h.on b0).on hV) (by omega) hc ha rfl
    have c1 := fun (V : World) => frac_one V
    have H1 := Lib.hid h1
    clear h1
    go_enter Tryz.func47, Tryz.ntmps47
    go_wp2_with fail
    try rw [hW]
    clear hW
    refine cO.mono ?_
    rintro e w1 ⟨rfl, rfl⟩
    clear cO
    go_wp2_with fail
    refine (cM _ (Below.refl _ _)).mono ?_
    rintro e w2 ⟨X, x, cx, rfl, hcx, hnx, hvx, rx, b1⟩
    have HX := Lib.hid (And.intro hnx hvx)
    clear cM hnx hvx i0 i1 i2 i3 i4 i5 p0 p1 p2
    go_wp2_with fail
    refine (c1 w2).mono ?_
    rintro e w3 ⟨Y, y, cy, rfl, hcy, hny, hvy, ry, b2⟩
    have K := (k2.below b1 k2.lt).below b2 (k2.below b1 k2.lt).lt
    have B := (b0.trans (b1.mono b0.size)).trans (b2.mono (Nat.le_trans b0.size b1.size))
    have HY := Lib.hid (And.intro hny hvy)
    obtain ⟨i0, i1, i2, i3, i4, i5⟩ := K.facts
    obtain ⟨Z, hZ, u0, u1, u2, hG⟩ := fin_any (S := SF P Q) (w := w) K (by omega) B (n := decide (wv n a < 0)) (a := x) (d := y) (ca := cx) (cd := cy) (HC.out _ _ _ _ _ ⟨rfl, hcx, hcy, HX.out.1, HY.out.1, by rw [H1.out, Nat.gcd_one_right, Nat.div_one]; exact HX.out.2, by rw [H1.out, Nat.gcd_one_right]; exact HY.out.2⟩) (rx.on b2) ry
    have HZ := Lib.hid hZ
    have HF := Lib.hid (And.intro u0 (And.intro u1 u2))
    have HG := Lib.hid hG
    clear hZ u0 u1 u2 hG c1 k1 k2 K rx ry b1 b2 B hny hvy
    go_wp2_with fail
    rw [HZ.out]
    obtain ⟨u0, u1, u2⟩ := HF.out
    exact bodyPost_ret (by simp [results, Tryz.results47, go_sem, u0, u1, u2]) rfl HG.out
  · have cO := frac_isOne d D cd W (h'.on b0) (by omega) hc' hd false (decide_eq_false h1)
    have cR := fun (V : World) (hV : Below W.heap.size W V) => root_Reduce a d A D ca cd V ((h.on b0).on hV) ((h'.on b0).on hV) (by omega) (by omega) hc hc' ha hd
    have cM := fun (V : World) (x : List Nat) (X : Option Addr) (cx : Nat) (r : Rd V (fun g => g < V.heap.size) .u32 X x) (hl : x.length ≤ 2147483648) (hc : x.length ≤ cx) (hx : Dg 4294967296 x) => whole_Make n x X cx _ V r hl hc hx rfl
    have HLA := Lib.hid (fun (x : List Nat) (hn : Norm 4294967296 x) (hv : val 4294967296 x = val 4294967296 a / Nat.gcd (val 4294967296 a) (val 4294967296 d)) => (show x.length ≤ 4194304 from Nat.le_trans (len_le (by omega) hn.2 ha (by rw [hv]; exact Nat.div_le_self _ _)) (by omega)))
    have HSG := Lib.hid (fun (x : List Nat) (hv : val 4294967296 x = val 4294967296 a / Nat.gcd (val 4294967296 a) (val 4294967296 d)) => (show decide (wv n x < 0) = decide (wv n a < 0) by
      rcases Nat.eq_zero_or_pos (val 4294967296 a) with h0 | h0
      · rw [h0, Nat.zero_div] at hv
        cases n
        · rw [wv_false, wv_false, hv, h0]
        · rw [wv_true, wv_true, hv, h0]
      · exact reduced_sign hv (Nat.gcd_dvd_left _ _) h0))
    clear h1
    go_enter Tryz.func47, Tryz.ntmps47
    go_wp2_with fail
    try rw [hW]
    clear hW
    refine cO.mono ?_
    rintro e w1 ⟨rfl, rfl⟩
    clear cO
    go_wp2_with fail
    refine (cR _ (Below.refl _ _)).mono ?_
    rintro e w2 ⟨X, x, cx, Y, y, cy, rfl, hcx, hcy, hnx, hny, hvx, hvy, rx, ry, b1⟩
    have HX := Lib.hid (And.intro hnx (And.intro hny (And.intro hvx hvy)))
    obtain ⟨p0, p1, p2⟩ := keep3 k1 b1
    have cM := cM _ x X cx rx (Nat.le_trans (HLA.out x hnx hvx) (by omega)) hcx hnx.1
    clear cR hnx hvx hny hvy i0 i1 i2 i3 i4 i5
    go_wp2_with fail
    refine cM.mono ?_
    rintro e w3 ⟨X', x', cx', rfl, hcx', hnx', hvx', rx', b2⟩
    have HX' := Lib.hid (And.intro hnx' hvx')
    have K := (k2.below b1 k2.lt).below b2 (k2.below b1 k2.lt).lt
    have B := (b0.trans (b1.mono b0.size)).trans (b2.mono (Nat.le_trans b0.size b1.size))
    obtain ⟨i0, i1, i2, i3, i4, i5⟩ := K.facts
    obtain ⟨Z, hZ, u0, u1, u2, hG⟩ := fin_any (S := SF P Q) (w := w) K (by omega) B (n := decide (wv n x < 0)) (a := x') (d := y) (ca := cx') (cd := cy) (HC.out _ _ _ _ _ ⟨HSG.out x HX.out.2.2.1, hcx', hcy, HX'.out.1, HX.out.2.1, by rw [HX'.out.2, wv_abs, wv_abs]; exact HX.out.2.2.1, by rw [wv_abs]; exact HX.out.2.2.2⟩) rx' (ry.on b2)
    have HZ := Lib.hid hZ
    have HF := Lib.hid (And.intro u0 (And.intro u1 u2))
    have HG := Lib.hid hG
    clear hZ u0 u1 u2 hG cM k1 k2 K rx ry rx' b1 b2 B hnx' hvx'
    go_wp2_with fail
    rw [HZ.out]
    obtain ⟨u0, u1, u2⟩ := HF.out
    exact bodyPost_ret (by simp [results, Tryz.results47, go_sem, u0, u1, u2]) rfl HG.out
end Go.Proofs.YtokaapljlpngdaaGreatDoor
/- Fractions: what the program's own neg, half, times answer. -/

namespace Go.Proofs.YtokaapljlpngdaaGreatDoor
open Go.RowKit Num

theorem mul4 {x x' P P' y y' Q Q' : Int} (h : x * Q = P * y) (g : x' * Q' = P' * y') : x * x' * (Q * Q') = P * P' * (y * y') := by
  rw [show x * x' * (Q * Q') = (x * Q) * (x' * Q') by ac_rfl, h, g]
  ac_rfl

end Go.Proofs.YtokaapljlpngdaaGreatDoor
