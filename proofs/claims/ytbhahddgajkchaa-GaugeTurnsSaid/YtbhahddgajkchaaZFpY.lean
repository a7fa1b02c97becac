/- Fractions: what the program's own minus, Reduce, ofOne and ofTwo answer. -/
import Derived.Test.YtbhahddgajkchaaZFrW
import Derived.Deep.RegionHeld3
import Derived.Test.YtbhahddgajkchaaZFrZ
import Derived.Test.YtbhahddgajkchaaZWhY
namespace Go.Proofs.Ytbhahddgajkchaa
open Go.RowKit Num

/-- the contract of what takes a function and one or two fractions -/
abbrev Fo1 (g f : FuncId) (S T : Shape) : Prop := ∀ (n : Bool) (a d : List Nat) (A D : Option Addr) (ca cd : Nat) (w : World), S n a ca d cd → Rd w (fun g => g < w.heap.size) .u32 A a → Rd w (fun g => g < w.heap.size) .u32 D d → Calls Try.prog g #[.func (.func f) #[] #[], .agg #[.bool n, .slice A a.length ca, .slice D d.length cd]] w (Gv T w)
abbrev Fo2 (g f : FuncId) (S S' T : Shape) : Prop := ∀ (n n' : Bool) (a d a' d' : List Nat) (A D A' D' : Option Addr) (ca cd ca' cd' : Nat) (w : World), S n a ca d cd → S' n' a' ca' d' cd' → Rd w (fun g => g < w.heap.size) .u32 A a → Rd w (fun g => g < w.heap.size) .u32 D d → Rd w (fun g => g < w.heap.size) .u32 A' a' → Rd w (fun g => g < w.heap.size) .u32 D' d' → Calls Try.prog g #[.func (.func f) #[] #[], .agg #[.bool n, .slice A a.length ca, .slice D d.length cd], .agg #[.bool n', .slice A' a'.length ca', .slice D' d'.length cd']] w (Gv T w)

end Go.Proofs.Ytbhahddgajkchaa
/- Fractions: what the program's own Neg, Half, Add, Sub and Mul answer. -/

namespace Go.Proofs.Ytbhahddgajkchaa
open Go.RowKit Num

end Go.Proofs.Ytbhahddgajkchaa
/- Fractions: what the program's own quotient, Make, Of and Div answer. -/

namespace Go.Proofs.Ytbhahddgajkchaa
open Go.RowKit Num

/-- contracts of what answers a fraction and an error -/
abbrev Fe2 (f : FuncId) (S S' : Shape) (P : Int) (Q : Nat) : Prop := ∀ (n n' : Bool) (a d a' d' : List Nat) (A D A' D' : Option Addr) (ca cd ca' cd' : Nat) (w : World), S n a ca d cd → S' n' a' ca' d' cd' → Rd w (fun g => g < w.heap.size) .u32 A a → Rd w (fun g => g < w.heap.size) .u32 D d → Rd w (fun g => g < w.heap.size) .u32 A' a' → Rd w (fun g => g < w.heap.size) .u32 D' d' → Calls Try.prog f #[.agg #[.bool n, .slice A a.length ca, .slice D d.length cd], .agg #[.bool n', .slice A' a'.length ca', .slice D' d'.length cd']] w (GivesFE P Q w)
theorem sgn_zero {N : Int} : sgn N = 0 ↔ N = 0 := by
  unfold sgn
  split
  · omega
  · split <;> omega
theorem across_turn {P P' : Int} {Q Q' : Nat} (hQ : 0 < Q) : P * turnN P' Q' = acrossN (P * (Q' : Int)) (P' * (Q : Int)) ∧ Q * P'.natAbs = (P' * (Q : Int)).natAbs := by
  constructor
  · unfold turnN acrossN
    by_cases h : P' < 0
    · rw [if_pos h, if_pos (Int.mul_neg_of_neg_of_pos h (by omega)), Int.mul_neg]
    · rw [if_neg h, if_neg (by have := Int.mul_nonneg (show 0 ≤ P' by omega) (show (0 : Int) ≤ (Q : Int) by omega); omega)]
  · rw [Int.natAbs_mul, Int.natAbs_natCast, Nat.mul_comm]

end Go.Proofs.Ytbhahddgajkchaa
/- Fractions: what the program's own Make and Of answer. -/

namespace Go.Proofs.Ytbhahddgajkchaa
open Go.RowKit Num

theorem make_same {n n' : Bool} {a d : List Nat} {w w' : World} {e : Ending} (h : GivesFE (acrossN (wv n a * ((1 : Nat) : Int)) (wv n' d * ((1 : Nat) : Int))) (wv n' d * ((1 : Nat) : Int)).natAbs w e w') : GivesFE (wv (!(n == n')) a) (val 4294967296 d) w e w' := by
  have e1 : ((1 : Nat) : Int) = 1 := rfl
  rw [e1, Int.mul_one, Int.mul_one, wv_abs] at h
  rcases Nat.eq_zero_or_pos (val 4294967296 d) with h0 | h0
  · rw [h0] at h ⊢
    rcases h with h | h
    · exact .inl h
    · exact absurd h.1 (by omega)
  · have e2 : acrossN (wv n a) (wv n' d) = wv (!(n == n')) a := by
      unfold acrossN
      cases n' <;> cases n <;> simp [wv] <;> omega
    rwa [e2] at h

end Go.Proofs.Ytbhahddgajkchaa
