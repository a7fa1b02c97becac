/- Fractions: what the program's own minus, Reduce, ofOne and ofTwo answer. -/
import Derived.Test.YtokaapljlpngdaaGreatDoorZFpC
import Derived.Deep.RegionHeld3
import Derived.Test.YtokaapljlpngdaaGreatDoorZFrZ
import Derived.Test.YtokaapljlpngdaaGreatDoorZWhY
namespace Go.Proofs.YtokaapljlpngdaaGreatDoor
open Go.RowKit Num

/-- the contract of what takes a function and one or two fractions -/
abbrev Fo1 (g f : FuncId) (S T : Shape) : Prop := ∀ (n : Bool) (a d : List Nat) (A D : Option Addr) (ca cd : Nat) (w : World), S n a ca d cd → Rd w (fun g => g < w.heap.size) .u32 A a → Rd w (fun g => g < w.heap.size) .u32 D d → Calls Tryz.prog g #[.func (.func f) #[] #[], .agg #[.bool n, .slice A a.length ca, .slice D d.length cd]] w (Gv T w)
abbrev Fo2 (g f : FuncId) (S S' T : Shape) : Prop := ∀ (n n' : Bool) (a d a' d' : List Nat) (A D A' D' : Option Addr) (ca cd ca' cd' : Nat) (w : World), S n a ca d cd → S' n' a' ca' d' cd' → Rd w (fun g => g < w.heap.size) .u32 A a → Rd w (fun g => g < w.heap.size) .u32 D d → Rd w (fun g => g < w.heap.size) .u32 A' a' → Rd w (fun g => g < w.heap.size) .u32 D' d' → Calls Tryz.prog g #[.func (.func f) #[] #[], .agg #[.bool n, .slice A a.length ca, .slice D d.length cd], .agg #[.bool n', .slice A' a'.length ca', .slice D' d'.length cd']] w (Gv T w)

set_option maxRecDepth 10000 in
set_option maxHeartbeats 1600000 in
/-- reduced -/
theorem frac_Reduce_gen (S T U : Shape) (cH : Fn1 42 S T) (cR : Fn1 47 T U) : Fn1 22 S U := by
  intro n a d A D ca cd w hS h h'
  obtain ⟨W, hW, k1, kr, b0, s0⟩ := bx2 w 29 29 (.bool n) (.slice A a.length ca) (.slice D d.length cd) (.bool false) (.slice none 0 0) (.slice none 0 0)
  obtain ⟨p0, p1, p2, -, -, -⟩ := k1.facts
  have h := h.on b0
  have h' := h'.on b0
  obtain ⟨i0, i1, i2, i3, i4, i5⟩ := kr.facts
  have K0 : Below W.heap.size W W.drew := below_drewN (Below.refl _ _) 1
  have KI : Below W.heap.size W W := Below.refl _ _
  have HK1 := Lib.hid k1
  have HKR := Lib.hid kr
  have HB0 := Lib.hid b0
  have hlt : w.heap.size + 1 < W.heap.size := by omega
  have CH := Lib.hid cH
  have CR := Lib.hid cR
  clear cH cR
  clear k1 kr b0
  go_enter Tryz.func22, Tryz.ntmps22
  go_wp2_with fail
  try rw [hW]
  clear hW
  refine Calls.mono (CH.out n a d A D ca cd _ hS (h.on KI) (h'.on KI)) ?_
  rintro e w1 ⟨n2, a2, X2, c2, d2, Y2, e2, rfl, s2, r2, q2, b1⟩
  have KA := below_next KI (Nat.le_refl _) b1
  obtain ⟨p0, p1, p2⟩ := keep3 HK1.out KA
  obtain ⟨i0, i1, i2, i3, i4, i5⟩ := (HKR.out.below KA HKR.out.lt).facts
  go_wp2_with fail
  refine Calls.mono (CR.out n2 a2 d2 X2 Y2 c2 e2 _ s2 r2 q2) ?_
  rintro e w2 ⟨n3, a3, X3, c3, d3, Y3, e3, rfl, s3, r3, q3, b2⟩
  have KB := below_next KA (Nat.le_refl _) b2
  obtain ⟨p0, p1, p2⟩ := keep3 HK1.out KB
  obtain ⟨i0, i1, i2, i3, i4, i5⟩ := (HKR.out.below KB HKR.out.lt).facts
  obtain ⟨Z, hZ, u0, u1, u2, hG⟩ := fin_any (n := n3) (a := a3) (d := d3) (ca := c3) (cd := e3) (w := w) (HKR.out.below KB HKR.out.lt) (by omega) (HB0.out.trans (KB.mono HB0.out.size)) s3 r3 q3
  have HZ := Lib.hid hZ
  have HF := Lib.hid (And.intro u0 (And.intro u1 u2))
  have HG := Lib.hid hG
  clear hZ u0 u1 u2 hG CH CR r2 q2 r3 q3
  go_wp2_with fail
  rw [HZ.out]
  obtain ⟨u0, u1, u2⟩ := HF.out
  exact bodyPost_ret (by simp [results, Tryz.results22, go_sem, u0, u1, u2]) rfl HG.out

end Go.Proofs.YtokaapljlpngdaaGreatDoor
/- Fractions: what the program's own Neg, Half, Add, Sub and Mul answer. -/

namespace Go.Proofs.YtokaapljlpngdaaGreatDoor
open Go.RowKit Num

theorem frac_Reduce (P : Int) (Q m : Nat) (hQ : 0 < Q) (hm1 : 1 ≤ m) (hm : m ≤ 4194304) : Fn1 22 (SI P Q m) (SF P Q) :=
  frac_Reduce_gen _ _ _ (frac_hold P Q m hm1 hm) ((ratio_reduced P Q m hQ hm).imp (fun _ _ _ _ _ => SH.toR hQ) fun _ _ _ _ _ h => h)

theorem hold_R (P : Int) (Q m : Nat) (hQ : 0 < Q) (hm1 : 1 ≤ m) (hm : m ≤ 4194304) : Fn1 42 (SI P Q m) (SR P Q m) :=
  (frac_hold P Q m hm1 hm).imp (fun _ _ _ _ _ h => h) fun _ _ _ _ _ => SH.toR hQ
end Go.Proofs.YtokaapljlpngdaaGreatDoor
/- Fractions: what the program's own quotient, Make, Of and Div answer. -/

namespace Go.Proofs.YtokaapljlpngdaaGreatDoor
open Go.RowKit Num

/-- contracts of what answers a fraction and an error -/
abbrev Fe2 (f : FuncId) (S S' : Shape) (P : Int) (Q : Nat) : Prop := ∀ (n n' : Bool) (a d a' d' : List Nat) (A D A' D' : Option Addr) (ca cd ca' cd' : Nat) (w : World), S n a ca d cd → S' n' a' ca' d' cd' → Rd w (fun g => g < w.heap.size) .u32 A a → Rd w (fun g => g < w.heap.size) .u32 D d → Rd w (fun g => g < w.heap.size) .u32 A' a' → Rd w (fun g => g < w.heap.size) .u32 D' d' → Calls Tryz.prog f #[.agg #[.bool n, .slice A a.length ca, .slice D d.length cd], .agg #[.bool n', .slice A' a'.length ca', .slice D' d'.length cd']] w (GivesFE P Q w)
theorem sgn_zero {N : Int} : sgn N = 0 ↔ N = 0 := by
  unfold sgn
  split
  · omega
  · split <;> omega
theorem across_turn {P P' : Int} {Q Q' : Nat} (hQ : 0 < Q) : P * turnN P' Q' = acrossN (P * (Q' : Int)) (P' * (Q : Int)) ∧ Q * P'.natAbs = (P' * (Q : Int)).natAbs := by
  constructor
  · unfold turnN acrossN
    by_cases h : P' < 0
    · rw [if_pos h, if_pos (Int.mul_neg_of_neg_of_pos h (by omega)), Int.mul_neg]
    · rw [if_neg h, if_neg (by have := Int.mul_nonneg (show 0 ≤ P' by omega) (show (0 : Int) ≤ (Q : Int) by omega); omega)]
  · rw [Int.natAbs_mul, Int.natAbs_natCast, Nat.mul_comm]

end Go.Proofs.YtokaapljlpngdaaGreatDoor
/- Fractions: what the program's own Make and Of answer. -/

namespace Go.Proofs.YtokaapljlpngdaaGreatDoor
open Go.RowKit Num

theorem make_same {n n' : Bool} {a d : List Nat} {w w' : World} {e : Ending} (h : GivesFE (acrossN (wv n a * ((1 : Nat) : Int)) (wv n' d * ((1 : Nat) : Int))) (wv n' d * ((1 : Nat) : Int)).natAbs w e w') : GivesFE (wv (!(n == n')) a) (val 4294967296 d) w e w' := by
  have e1 : ((1 : Nat) : Int) = 1 := rfl
  rw [e1, Int.mul_one, Int.mul_one, wv_abs] at h
  rcases Nat.eq_zero_or_pos (val 4294967296 d) with h0 | h0
  · rw [h0] at h ⊢
    rcases h with h | h
    · exact .inl h
    · exact absurd h.1 (by omega)
  · have e2 : acrossN (wv n a) (wv n' d) = wv (!(n == n')) a := by
      unfold acrossN
      cases n' <;> cases n <;> simp [wv] <;> omega
    rwa [e2] at h

end Go.Proofs.YtokaapljlpngdaaGreatDoor
