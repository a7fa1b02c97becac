/- Fractions: what the program's own minus, Reduce, ofOne and ofTwo answer. -/
import Derived.Test.YtngnclibeccplaaDoorZFrW
import Derived.Deep.RegionHeld3
import Derived.Test.YtngnclibeccplaaDoorZOaE
import Derived.Test.YtngnclibeccplaaDoorZOaD
import Derived.Test.YtngnclibeccplaaDoorZWrX
import Derived.Lib.Strings
import Derived.Test.YtngnclibeccplaaDoorZWrY
import Derived.Deep.RegionWith
namespace Go.Proofs.YtngnclibeccplaaDoor
open Go.RowKit Num

/-- the contract of what takes a function and one or two fractions -/
abbrev Fo1 (g f : FuncId) (S T : Shape) : Prop := ∀ (n : Bool) (a d : List Nat) (A D : Option Addr) (ca cd : Nat) (w : World), S n a ca d cd → Rd w (fun g => g < w.heap.size) .u32 A a → Rd w (fun g => g < w.heap.size) .u32 D d → Calls Tryd.prog g #[.func (.func f) #[] #[], .agg #[.bool n, .slice A a.length ca, .slice D d.length cd]] w (Gv T w)
abbrev Fo2 (g f : FuncId) (S S' T : Shape) : Prop := ∀ (n n' : Bool) (a d a' d' : List Nat) (A D A' D' : Option Addr) (ca cd ca' cd' : Nat) (w : World), S n a ca d cd → S' n' a' ca' d' cd' → Rd w (fun g => g < w.heap.size) .u32 A a → Rd w (fun g => g < w.heap.size) .u32 D d → Rd w (fun g => g < w.heap.size) .u32 A' a' → Rd w (fun g => g < w.heap.size) .u32 D' d' → Calls Tryd.prog g #[.func (.func f) #[] #[], .agg #[.bool n, .slice A a.length ca, .slice D d.length cd], .agg #[.bool n', .slice A' a'.length ca', .slice D' d'.length cd']] w (Gv T w)

end Go.Proofs.YtngnclibeccplaaDoor
/- Fractions: what the program's own Neg, Half, Add, Sub and Mul answer. -/

namespace Go.Proofs.YtngnclibeccplaaDoor
open Go.RowKit Num

end Go.Proofs.YtngnclibeccplaaDoor
/- Fractions: what the program's own quotient, Make, Of and Div answer. -/

namespace Go.Proofs.YtngnclibeccplaaDoor
open Go.RowKit Num

/-- contracts of what answers a fraction and an error -/
abbrev Fe2 (f : FuncId) (S S' : Shape) (P : Int) (Q : Nat) : Prop := ∀ (n n' : Bool) (a d a' d' : List Nat) (A D A' D' : Option Addr) (ca cd ca' cd' : Nat) (w : World), S n a ca d cd → S' n' a' ca' d' cd' → Rd w (fun g => g < w.heap.size) .u32 A a → Rd w (fun g => g < w.heap.size) .u32 D d → Rd w (fun g => g < w.heap.size) .u32 A' a' → Rd w (fun g => g < w.heap.size) .u32 D' d' → Calls Tryd.prog f #[.agg #[.bool n, .slice A a.length ca, .slice D d.length cd], .agg #[.bool n', .slice A' a'.length ca', .slice D' d'.length cd']] w (GivesFE P Q w)
theorem sgn_zero {N : Int} : sgn N = 0 ↔ N = 0 := by
  unfold sgn
  split
  · omega
  · split <;> omega
theorem across_turn {P P' : Int} {Q Q' : Nat} (hQ : 0 < Q) : P * turnN P' Q' = acrossN (P * (Q' : Int)) (P' * (Q : Int)) ∧ Q * P'.natAbs = (P' * (Q : Int)).natAbs := by
  constructor
  · unfold turnN acrossN
    by_cases h : P' < 0
    · rw [if_pos h, if_pos (Int.mul_neg_of_neg_of_pos h (by omega)), Int.mul_neg]
    · rw [if_neg h, if_neg (by have := Int.mul_nonneg (show 0 ≤ P' by omega) (show (0 : Int) ≤ (Q : Int) by omega); omega)]
  · rw [Int.natAbs_mul, Int.natAbs_natCast, Nat.mul_comm]

end Go.Proofs.YtngnclibeccplaaDoor
/- Fractions: what the program's own Make and Of answer. -/

namespace Go.Proofs.YtngnclibeccplaaDoor
open Go.RowKit Num

theorem make_same {n n' : Bool} {a d : List Nat} {w w' : World} {e : Ending} (h : GivesFE (acrossN (wv n a * ((1 : Nat) : Int)) (wv n' d * ((1 : Nat) : Int))) (wv n' d * ((1 : Nat) : Int)).natAbs w e w') : GivesFE (wv (!(n == n')) a) (val 4294967296 d) w e w' := by
  have e1 : ((1 : Nat) : Int) = 1 := rfl
  rw [e1, Int.mul_one, Int.mul_one, wv_abs] at h
  rcases Nat.eq_zero_or_pos (val 4294967296 d) with h0 | h0
  · rw [h0] at h ⊢
    rcases h with h | h
    · exact .inl h
    · exact absurd h.1 (by omega)
  · have e2 : acrossN (wv n a) (wv n' d) = wv (!(n == n')) a := by
      unfold acrossN
      cases n' <;> cases n <;> simp [wv] <;> omega
    rwa [e2] at h

end Go.Proofs.YtngnclibeccplaaDoor
/- Fractions: what the program's own Sign, floor, Floor and Round answer. -/

namespace Go.Proofs.YtngnclibeccplaaDoor
open Go.RowKit Num

theorem cross_div {x y P Q : Int} (hy : 0 < y) (hQ : 0 < Q) (h : x * Q = P * y) : x / y = P / Q := by
  rw [← Int.mul_ediv_mul_of_pos_left x y hQ, h, Int.mul_comm y Q, Int.mul_ediv_mul_of_pos_left P Q hy]
/-- an argument's box of any type, and that of a result that is a whole number -/
theorem bxw (w : World) (t : TypeId) (v0 v1 v2 : Value) : ∃ W, (w.alloc (.cells #[v0, v1, v2] t)).alloc (.cells #[.bool false, .slice none 0 0] 72) = W ∧ Blk W w.heap.size t [v0, v1, v2] ∧ Blk W (w.heap.size + 1) 72 [.bool false, .slice none 0 0] ∧ Below w.heap.size w W ∧ W.heap.size = w.heap.size + 2 :=
  ⟨_, rfl, (Blk.new w t [v0, v1, v2]).alloc _, Blk.at_new (w.alloc (.cells #[v0, v1, v2] t)) 72 [.bool false, .slice none 0 0] (by simp), (below_one w _).trans ((below_one (w.alloc (.cells #[v0, v1, v2] t)) _).mono (by simp)), by simp⟩

end Go.Proofs.YtngnclibeccplaaDoor
/- The same, word by word, or not: the document's own. -/

namespace Go.Proofs.YtngnclibeccplaaDoor
open Go.RowKit Num

end Go.Proofs.YtngnclibeccplaaDoor
/- Fractions, the document's own: what Same answers. -/

namespace Go.Proofs.YtngnclibeccplaaDoor
open Go.RowKit Num

end Go.Proofs.YtngnclibeccplaaDoor
/- Whole numbers: what the program's Parse answers. -/

namespace Go.Proofs.YtngnclibeccplaaDoor
open Go.RowKit Num

/-- what a size's reading and a sign come to -/
def comb (neg : Bool) (M e0 : Nat) (N : Int) (er : Nat) : Prop :=
  (e0 ≠ 0 ∧ er = e0 ∧ N = 0) ∨ (e0 = 0 ∧ (neg = true ∧ M = 0) ∧ er = 3 ∧ N = 0) ∨ (e0 = 0 ∧ ¬ (neg = true ∧ M = 0) ∧ er = 0 ∧ N = if neg then -(M : Int) else M)
theorem comb.unique {neg : Bool} {M e0 : Nat} {N N' : Int} {er er' : Nat} (h : comb neg M e0 N er) (k : comb neg M e0 N' er') : N = N' ∧ er = er' := by
  rcases h with ⟨h0, h1, h2⟩ | ⟨h0, h3, h1, h2⟩ | ⟨h0, h3, h1, h2⟩ <;> rcases k with ⟨k0, k1, k2⟩ | ⟨k0, k3, k1, k2⟩ | ⟨k0, k3, k1, k2⟩
  all_goals first | exact absurd h0 k0 | exact absurd k0 h0 | exact absurd h3 k3 | exact absurd k3 h3 | exact ⟨by rw [h2, k2], by rw [h1, k1]⟩
/-- a sign ahead of a size's text -/
def Ahead (bs : List UInt8) (neg : Bool) (ds : List UInt8) : Prop := (neg = true ∧ bs = 45 :: ds) ∨ (neg = false ∧ bs = ds ∧ bs.head? ≠ some 45)
/-- what a text tells: a whole number, or an error's number -/
def IsWParse (bs : List UInt8) (N : Int) (er : Nat) : Prop :=
  ∃ (neg : Bool) (ds : List UInt8) (M e0 : Nat), Ahead bs neg ds ∧ IsParse ds M e0 ∧ comb neg M e0 N er
theorem IsWParse.unique {bs : List UInt8} {N N' : Int} {er er' : Nat} (h : IsWParse bs N er) (k : IsWParse bs N' er') : N = N' ∧ er = er' := by
  obtain ⟨neg, ds, M, e0, h1, h2, h3⟩ := h
  obtain ⟨neg', ds', M', e0', k1, k2, k3⟩ := k
  have : neg = neg' ∧ ds = ds' := by
    rcases h1 with ⟨rfl, rfl⟩ | ⟨rfl, rfl, hh⟩ <;> rcases k1 with ⟨rfl, kk⟩ | ⟨rfl, kk, kh⟩
    · exact ⟨rfl, by injection kk⟩
    · simp at kh
    · rw [kk] at hh; simp at hh
    · exact ⟨rfl, kk⟩
  obtain ⟨rfl, rfl⟩ := this
  obtain ⟨rfl, rfl⟩ := h2.unique k2
  exact h3.unique k3
/-- a whole number that a text is read as -/
def WParses (bs : List UInt8) (w : World) (e : Ending) (w' : World) : Prop :=
  ∃ A xs c er N, e = .returned (.tuple #[.agg #[.bool (decide (N < 0)), .slice A xs.length c], .int .i64 (er : Nat)]) ∧ xs.length ≤ c ∧ Norm 4294967296 xs ∧ val 4294967296 xs = N.natAbs ∧ IsWParse bs N er ∧ Rd w' (fun g => g < w'.heap.size) .u32 A xs ∧ Below w.heap.size w w'

theorem cut_minus (bs : List UInt8) : (Lib.hasPrefix bs [45] = true ∧ ∃ ds, bs = 45 :: ds ∧ Lib.trimPrefix bs [45] = ds) ∨ (Lib.hasPrefix bs [45] = false ∧ bs.head? ≠ some 45 ∧ Lib.trimPrefix bs [45] = bs) := by
  cases bs with
  | nil => exact .inr ⟨rfl, by simp, rfl⟩
  | cons c r =>
    by_cases hc : c = 45
    · subst hc
      exact .inl ⟨by simp [Lib.hasPrefix], r, rfl, by simp [Lib.trimPrefix, Lib.hasPrefix]⟩
    · have h : Lib.hasPrefix (c :: r) [45] = false := by simp only [Lib.hasPrefix, List.isPrefixOf]; rw [show (45 == c) = false from by simpa using fun e => hc (Eq.symm e)]; rfl
      exact .inr ⟨h, by simpa using hc, by rw [Lib.trimPrefix, h]; rfl⟩

end Go.Proofs.YtngnclibeccplaaDoor
/- Whole numbers, the document's own: what Text and Parse answer. -/

namespace Go.Proofs.YtngnclibeccplaaDoor
open Go.RowKit Num

end Go.Proofs.YtngnclibeccplaaDoor
/- Fractions, the document's own: what Text answers. -/

namespace Go.Proofs.YtngnclibeccplaaDoor
open Go.RowKit Num

/-- the text of P by Q -/
def ftop (P : Int) (Q : Nat) : Int := if P < 0 then - ((P.natAbs / Nat.gcd P.natAbs Q : Nat) : Int) else ((P.natAbs / Nat.gcd P.natAbs Q : Nat) : Int)
def ftext (P : Int) (Q : Nat) : List UInt8 := if Q / Nat.gcd P.natAbs Q = 1 then wtext (ftop P Q) else wtext (ftop P Q) ++ 47 :: Lib.decDigits (Q / Nat.gcd P.natAbs Q)
theorem ftop_of {P : Int} {Q : Nat} {x : List Nat} (h : val 4294967296 x = P.natAbs / Nat.gcd P.natAbs Q) : wv (decide (P < 0)) x = ftop P Q := by
  unfold ftop
  by_cases hp : P < 0
  · rw [if_pos hp, decide_eq_true hp, wv_true, h]
  · rw [if_neg hp, decide_eq_false hp, wv_false, h]
theorem one_iff {y : List Nat} (h : Norm 4294967296 y) : y = [1] ↔ val 4294967296 y = 1 :=
  ⟨fun e => by rw [e]; rfl, fun e => Norm.ext (by omega) h (norm_one (by omega) (by omega)) (by rw [e]; rfl)⟩
theorem text_join (N M : List UInt8) : ((⟨N.toArray⟩ : ByteArray) ++ ⟨#[47]⟩ ++ ⟨M.toArray⟩) = ⟨(N ++ 47 :: M).toArray⟩ := by
  apply ByteArray.ext
  simp [ByteArray.data_append]
theorem wtext_len (N : Int) : (wtext N).length ≤ (Lib.decDigits N.natAbs).length + 1 := by
  unfold wtext
  split <;> simp

end Go.Proofs.YtngnclibeccplaaDoor
/- Fractions: what the program's own Text answers. -/

namespace Go.Proofs.YtngnclibeccplaaDoor
open Go.RowKit Num

end Go.Proofs.YtngnclibeccplaaDoor
/- Fractions: what the program's own Floor and Round answer. -/

namespace Go.Proofs.YtngnclibeccplaaDoor
open Go.RowKit Num

/-- the contract of what answers a whole number of one fraction -/
abbrev Fw (f : FuncId) (S : Shape) (N : Int) : Prop := ∀ (n : Bool) (a d : List Nat) (A D : Option Addr) (ca cd : Nat) (w : World), S n a ca d cd → Rd w (fun g => g < w.heap.size) .u32 A a → Rd w (fun g => g < w.heap.size) .u32 D d → Calls Tryd.prog f #[.agg #[.bool n, .slice A a.length ca, .slice D d.length cd]] w (GivesW N w)
theorem fin_whole {w v : World} {g : Nat} {t : TypeId} (k : Blk v g t [.bool false, .slice none 0 0]) (hg : w.heap.size ≤ g) (B : Below w.heap.size w v) {N : Int} {A : Option Addr} {x : List Nat} {c : Nat} (hc : x.length ≤ c) (hn : Norm 4294967296 x) (hv : val 4294967296 x = N.natAbs) (r : Rd v (fun g => g < v.heap.size) .u32 A x) :
    ∃ U, (v.setCell ⟨g, 0, none⟩ (.bool (decide (N < 0)))).setCell ⟨g, 1, none⟩ (.slice A x.length c) = U ∧ U.cell? ⟨g, 0, none⟩ = some (.bool (decide (N < 0))) ∧ U.cell? ⟨g, 1, none⟩ = some (.slice A x.length c) ∧ GivesW N w (.returned (.agg #[.bool (decide (N < 0)), .slice A x.length c])) U :=
  ⟨_, rfl, (k.pair _ _).cell 0 rfl, (k.pair _ _).cell 1 rfl, A, x, c, rfl, hc, hn, hv, r.far2 k _ _, (B.setCell hg _).setCell hg _⟩
theorem keep3s {v : World} {g g' : Nat} {t : TypeId} {a0 a1 a2 : Value} (k : Blk v g t [a0, a1, a2]) (hne : g ≠ g') (u0 u1 : Value) :
    ((v.setCell ⟨g', 0, none⟩ u0).setCell ⟨g', 1, none⟩ u1).cell? ⟨g, 0, none⟩ = some a0 ∧ ((v.setCell ⟨g', 0, none⟩ u0).setCell ⟨g', 1, none⟩ u1).cell? ⟨g, 1, none⟩ = some a1 ∧ ((v.setCell ⟨g', 0, none⟩ u0).setCell ⟨g', 1, none⟩ u1).cell? ⟨g, 2, none⟩ = some a2 := by
  have k' := (k.far (p := ⟨g', 0, none⟩) hne u0).far (p := ⟨g', 1, none⟩) hne u1
  exact ⟨k'.cell 0 rfl, k'.cell 1 rfl, k'.cell 2 rfl⟩

end Go.Proofs.YtngnclibeccplaaDoor
/- Fractions: what the program's own Sum answers, of none, one, two and three. -/

namespace Go.Proofs.YtngnclibeccplaaDoor
open Go.RowKit Num

theorem tri_keep {V w1 : World} {g o B : Nat} {x y z : Value} (k1 : V.cell? ⟨g, o, none⟩ = some x) (k2 : V.cell? ⟨g, o + 1, none⟩ = some y) (k3 : V.cell? ⟨g, o + 2, none⟩ = some z) (hB : g < B) (hb : Below B V w1) : w1.cell? ⟨g, o, none⟩ = some x ∧ w1.cell? ⟨g, o + 1, none⟩ = some y ∧ w1.cell? ⟨g, o + 2, none⟩ = some z :=
  ⟨(hb.cell (p := ⟨g, o, none⟩) hB).trans k1, (hb.cell (p := ⟨g, o + 1, none⟩) hB).trans k2, (hb.cell (p := ⟨g, o + 2, none⟩) hB).trans k3⟩
theorem below_three {W V : World} {B g : Nat} (h : Below B W V) (hg : B ≤ g) (u0 u1 u2 : Value) : Below B W (((V.setCell ⟨g, 0, none⟩ u0).setCell ⟨g, 1, none⟩ u1).setCell ⟨g, 2, none⟩ u2) := ((h.setCell hg _).setCell hg _).setCell hg _

end Go.Proofs.YtngnclibeccplaaDoor
/- Fractions: equal ones, and boxes of three. -/

namespace Go.Proofs.YtngnclibeccplaaDoor
open Go.RowKit Num

theorem cross_add {x x' P P' y y' Q Q' : Int} (h : x * Q = P * y) (k : x' * Q' = P' * y') : (x * y' + x' * y) * (Q * Q') = (P * Q' + P' * Q) * (y * y') := by
  rw [Int.add_mul, show x * y' * (Q * Q') = (x * Q) * (y' * Q') by ac_rfl, show x' * y * (Q * Q') = (x' * Q') * (y * Q) by ac_rfl, h, k, Int.add_mul]
  congr 1 <;> ac_rfl
theorem cross_sub {x x' P P' y y' Q Q' : Int} (h : x * Q = P * y) (k : x' * Q' = P' * y') : (x * y' - x' * y) * (Q * Q') = (P * Q' - P' * Q) * (y * y') := by
  have := cross_add h (show (-x') * Q' = (-P') * y' by rw [Int.neg_mul, k, Int.neg_mul])
  rwa [Int.neg_mul, Int.neg_mul, ← Int.sub_eq_add_neg, ← Int.sub_eq_add_neg] at this

theorem sgn_cross {x y P Q : Int} (hy : 0 < y) (hQ : 0 < Q) (h : x * Q = P * y) : sgn x = sgn P := by
  rcases Int.lt_trichotomy P 0 with hp | hp | hp
  · have h1 := Int.mul_neg_of_neg_of_pos hp hy
    have hx : x < 0 := by
      rcases Int.lt_or_le x 0 with h2 | h2
      · exact h2
      · have := Int.mul_nonneg h2 (Int.le_of_lt hQ); omega
    unfold sgn; rw [if_pos hx, if_pos hp]
  · rw [hp, Int.zero_mul] at h
    have hx : x = 0 := by
      rcases Int.mul_eq_zero.1 h with h2 | h2
      · exact h2
      · omega
    rw [hx, hp]
  · have h1 := Int.mul_pos hp hy
    have hx : 0 < x := by
      rcases Int.lt_or_le 0 x with h2 | h2
      · exact h2
      · have := Int.mul_nonneg (show 0 ≤ -x by omega) (Int.le_of_lt hQ)
        rw [Int.neg_mul] at this; omega
    unfold sgn; rw [if_neg (by omega), if_pos hx, if_neg (by omega), if_pos hp]
theorem Blk.trip {W : World} {g : Nat} {t : TypeId} {a0 a1 a2 : Value} (k : Blk W g t [a0, a1, a2]) (u0 u1 u2 : Value) : Blk (((W.setCell ⟨g, 0, none⟩ u0).setCell ⟨g, 1, none⟩ u1).setCell ⟨g, 2, none⟩ u2) g t [u0, u1, u2] := ((k.set 0 u0).set 1 u1).set 2 u2
theorem got13 {W v : World} {v0 v1 v2 : Value} {t : TypeId} (b : Below (W.alloc (.cells #[v0, v1, v2] t)).heap.size (W.alloc (.cells #[v0, v1, v2] t)) v) : Blk v W.heap.size t [v0, v1, v2] ∧ W.heap.size < v.heap.size := by
  have k := (Blk.new W t [v0, v1, v2]).on b
  exact ⟨k, k.lt⟩
theorem got23 {W v : World} {v0 v1 v2 u0 u1 u2 : Value} {t t' : TypeId} (b : Below ((W.alloc (.cells #[v0, v1, v2] t)).alloc (.cells #[u0, u1, u2] t')).heap.size ((W.alloc (.cells #[v0, v1, v2] t)).alloc (.cells #[u0, u1, u2] t')) v) : (Blk v W.heap.size t [v0, v1, v2] ∧ W.heap.size + 1 < v.heap.size) ∧ Blk v (W.heap.size + 1) t' [u0, u1, u2] := by
  have k := ((Blk.new W t [v0, v1, v2]).alloc (.cells #[u0, u1, u2] t')).on b
  have k' := (Blk.at_new (W.alloc (.cells #[v0, v1, v2] t)) t' [u0, u1, u2] (g := W.heap.size + 1) (by simp)).on b
  exact ⟨⟨k, k'.lt⟩, k'⟩
theorem got13d {W v : World} {v0 v1 v2 : Value} {t : TypeId} (b : Below (W.alloc (.cells #[v0, v1, v2] t)).drew.heap.size (W.alloc (.cells #[v0, v1, v2] t)).drew v) : Blk v W.heap.size t [v0, v1, v2] ∧ W.heap.size < v.heap.size := got13 (W := W.drew) b
theorem got23d {W v : World} {v0 v1 v2 u0 u1 u2 : Value} {t t' : TypeId} (b : Below ((W.alloc (.cells #[v0, v1, v2] t)).alloc (.cells #[u0, u1, u2] t')).drew.heap.size ((W.alloc (.cells #[v0, v1, v2] t)).alloc (.cells #[u0, u1, u2] t')).drew v) : (Blk v W.heap.size t [v0, v1, v2] ∧ W.heap.size + 1 < v.heap.size) ∧ Blk v (W.heap.size + 1) t' [u0, u1, u2] := got23 (W := W.drew) b
theorem Num.Rd.trip {w : World} {g : Nat} {t : TypeId} {x : Bool} {p q : Option Addr} {n m n' m' : Nat} {k : IntKind} {A : Option Addr} {xs : List Nat} (h : Rd w (fun g => g < w.heap.size) k A xs) (f : Blk w g t [.bool x, .slice p n m, .slice q n' m']) (u0 u1 u2 : Value) : Rd (((w.setCell ⟨g, 0, none⟩ u0).setCell ⟨g, 1, none⟩ u1).setCell ⟨g, 2, none⟩ u2) (fun b => b < (((w.setCell ⟨g, 0, none⟩ u0).setCell ⟨g, 1, none⟩ u1).setCell ⟨g, 2, none⟩ u2).heap.size) k A xs := h.far3 f u0 u1 u2 rfl
end Go.Proofs.YtngnclibeccplaaDoor
/- Fractions: contracts by what the arguments are worth: the program's own functions and the document's own. -/

namespace Go.Proofs.YtngnclibeccplaaDoor
open Go.RowKit Num

/-- handed in: worth P by Q, of at most m words each -/
def SV (P : Int) (Q m : Nat) : Shape := fun n a ca d cd => a.length ≤ ca ∧ d.length ≤ cd ∧ Dg 4294967296 a ∧ Dg 4294967296 d ∧ a.length ≤ m ∧ d.length ≤ m ∧ upN n a d * (Q : Int) = P * (loD d : Int)
theorem SI.toV {P : Int} {Q m : Nat} {n : Bool} {a d : List Nat} {ca cd : Nat} (k : SI P Q m n a ca d cd) : SV P Q m n a ca d cd := by
  obtain ⟨h1, h2, h3, h4, h5, h6, h7, h8⟩ := k
  exact ⟨h1, h2, h3, h4, h5, h6, by rw [h7, h8]⟩
theorem SR.toV {P : Int} {Q m : Nat} {n : Bool} {a d : List Nat} {ca cd : Nat} (k : SR P Q m n a ca d cd) : SV P Q m n a ca d cd := by
  obtain ⟨h1, h2, h3, h4, h5, h6, h7, h8⟩ := k
  exact ⟨h1, h2, h3, h4, h5, h6, by rw [upN_of h7, loD_of h7]; exact h8⟩
theorem SF.toV {P : Int} {Q m : Nat} (hQ : 0 < Q) (hP : P.natAbs < 4294967296 ^ m) (hQm : Q < 4294967296 ^ m) {n : Bool} {a d : List Nat} {ca cd : Nat} (k : SF P Q n a ca d cd) : SV P Q m n a ca d cd := (SF.toR hQ hP hQm k).toV
theorem SV.wide {P : Int} {Q m m' : Nat} (hm : m ≤ m') {n : Bool} {a d : List Nat} {ca cd : Nat} (k : SV P Q m n a ca d cd) : SV P Q m' n a ca d cd := by
  obtain ⟨h1, h2, h3, h4, h5, h6, h7⟩ := k
  exact ⟨h1, h2, h3, h4, Nat.le_trans h5 hm, Nat.le_trans h6 hm, h7⟩
theorem SV.own {P : Int} {Q m : Nat} {n : Bool} {a d : List Nat} {ca cd : Nat} (k : SV P Q m n a ca d cd) : SI (upN n a d) (loD d) m n a ca d cd := by
  obtain ⟨h1, h2, h3, h4, h5, h6, h7⟩ := k
  exact ⟨h1, h2, h3, h4, h5, h6, rfl, rfl⟩
/-- two equal reduced fractions are the same in words -/
theorem SF.same {P : Int} {Q : Nat} {n n' : Bool} {a a' d d' : List Nat} {ca ca' cd cd' : Nat} (k : SF P Q n a ca d cd) (k' : SF P Q n' a' ca' d' cd') : n = n' ∧ a = a' ∧ d = d' := by
  obtain ⟨h1, -, -, h3, h4, h5, h6⟩ := k
  obtain ⟨g1, -, -, g3, g4, g5, g6⟩ := k'
  exact ⟨h1.trans g1.symm, Norm.ext (by omega) h3 g3 (h5.trans g5.symm), Norm.ext (by omega) h4 g4 (h6.trans g6.symm)⟩

end Go.Proofs.YtngnclibeccplaaDoor
/- The fourth layer's law: a fraction below 0 is right. -/

namespace Go.Proofs.YtngnclibeccplaaDoor
open Go.RowKit Num

end Go.Proofs.YtngnclibeccplaaDoor
