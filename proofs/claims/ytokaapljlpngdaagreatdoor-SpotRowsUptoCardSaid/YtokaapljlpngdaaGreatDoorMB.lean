/- Spots: numbers: the area of three spots, who lies between whom. -/
import Derived.Test.YtokaapljlpngdaaGreatDoorYSpT
import Derived.Test.YtokaapljlpngdaaGreatDoorMA
import Derived.Lib.QuietBelow
import Derived.BigQuiet
import Derived.Deep.RegionHeld3
import Derived.IntWalk
namespace Go.Proofs.YtokaapljlpngdaaGreatDoor

theorem sgn_three (x : Int) : sgn x = -1 ∨ sgn x = 0 ∨ sgn x = 1 := by
  unfold sgn
  split
  · exact .inl rfl
  · split
    · exact .inr (.inr rfl)
    · exact .inr (.inl rfl)
theorem sgn_one {x : Int} (h : 0 < x) : sgn x = 1 := by unfold sgn; rw [if_neg (by omega), if_pos h]
theorem sgn_mone {x : Int} (h : x < 0) : sgn x = -1 := by unfold sgn; rw [if_pos h]
theorem sgn_neg_ (x : Int) : sgn (-x) = - sgn x := by
  rcases Int.lt_trichotomy x 0 with hx | hx | hx
  · rw [sgn_mone hx, sgn_one (by omega)]; rfl
  · subst hx; rfl
  · rw [sgn_one hx, sgn_mone (by omega)]
theorem sgn_mul_ (x y : Int) : sgn (x * y) = sgn x * sgn y := by
  rcases Int.lt_trichotomy x 0 with hx | hx | hx <;> rcases Int.lt_trichotomy y 0 with hy | hy | hy
  · rw [sgn_mone hx, sgn_mone hy, sgn_one (Int.mul_pos_of_neg_of_neg hx hy)]; rfl
  · subst hy; rw [Int.mul_zero, show sgn 0 = 0 from rfl, Int.mul_zero]
  · rw [sgn_mone hx, sgn_one hy, sgn_mone (Int.mul_neg_of_neg_of_pos hx hy)]; rfl
  · subst hx; rw [Int.zero_mul, show sgn 0 = 0 from rfl, Int.zero_mul]
  · subst hx; rw [Int.zero_mul, show sgn 0 = 0 from rfl, Int.zero_mul]
  · subst hx; rw [Int.zero_mul, show sgn 0 = 0 from rfl, Int.zero_mul]
  · rw [sgn_one hx, sgn_mone hy, sgn_mone (Int.mul_neg_of_pos_of_neg hx hy)]; rfl
  · subst hy; rw [Int.mul_zero, show sgn 0 = 0 from rfl, Int.mul_zero]
  · rw [sgn_one hx, sgn_one hy, sgn_one (Int.mul_pos hx hy)]; rfl
theorem lex_three {x y : Int} (hx : x = -1 ∨ x = 0 ∨ x = 1) (hy : y = -1 ∨ y = 0 ∨ y = 1) : lex x y = -1 ∨ lex x y = 0 ∨ lex x y = 1 := by
  unfold lex
  split
  · exact hy
  · exact hx
set_option maxHeartbeats 3200000 in
/-- one that lies on the line of two others lies between them just when it does so by both numbers -/
theorem on_signs {ux uy vx vy : Int} (h1 : ux = -1 ∨ ux = 0 ∨ ux = 1) (h2 : uy = -1 ∨ uy = 0 ∨ uy = 1) (h3 : vx = -1 ∨ vx = 0 ∨ vx = 1) (h4 : vy = -1 ∨ vy = 0 ∨ vy = 1) (h : ux * vy = uy * vx) : (0 ≤ lex ux uy * lex vx vy) ↔ (ux * -vx ≤ 0 ∧ uy * -vy ≤ 0) := by
  rcases h1 with rfl | rfl | rfl <;> rcases h2 with rfl | rfl | rfl <;> rcases h3 with rfl | rfl | rfl <;> rcases h4 with rfl | rfl | rfl <;> revert h <;> decide
theorem det_on (P1 P2 P3 P4 P5 P6 : Int) (Q1 Q2 Q3 Q4 Q5 Q6 : Nat) : (P1 * (Q5 : Int) - P5 * (Q1 : Int)) * (P6 * (Q4 : Int) - P4 * (Q6 : Int)) * ((Q2 : Int) * (Q3 : Int)) - (P2 * (Q6 : Int) - P6 * (Q2 : Int)) * (P5 * (Q3 : Int) - P3 * (Q5 : Int)) * ((Q1 : Int) * (Q4 : Int)) = - det P1 P2 P3 P4 P5 P6 Q1 Q2 Q3 Q4 Q5 Q6 := by
  unfold det
  grind
/-- the area's upper part, as the document reckons it -/
def areaN (P1 P2 P3 P4 P5 P6 : Int) (Q1 Q2 Q3 Q4 Q5 Q6 : Nat) : Int :=
  (P1 * (P4 * (Q6 : Int) - P6 * (Q4 : Int)) * ((Q3 * (Q6 * Q2) : Nat) : Int) + P3 * (P6 * (Q2 : Int) - P2 * (Q6 : Int)) * ((Q1 * (Q4 * Q6) : Nat) : Int)) * ((Q5 * (Q2 * Q4) : Nat) : Int) + P5 * (P2 * (Q4 : Int) - P4 * (Q2 : Int)) * ((Q1 * (Q4 * Q6) * (Q3 * (Q6 * Q2)) : Nat) : Int)
theorem area_det (P1 P2 P3 P4 P5 P6 : Int) (Q1 Q2 Q3 Q4 Q5 Q6 : Nat) : areaN P1 P2 P3 P4 P5 P6 Q1 Q2 Q3 Q4 Q5 Q6 = det P1 P2 P3 P4 P5 P6 Q1 Q2 Q3 Q4 Q5 Q6 * ((Q2 : Int) * (Q4 : Int) * (Q6 : Int)) := by
  unfold det areaN
  simp only [Int.natCast_mul]
  grind
theorem area_sgn {P1 P2 P3 P4 P5 P6 : Int} {Q1 Q2 Q3 Q4 Q5 Q6 : Nat} (h2 : 0 < Q2) (h4 : 0 < Q4) (h6 : 0 < Q6) : sgn (areaN P1 P2 P3 P4 P5 P6 Q1 Q2 Q3 Q4 Q5 Q6) = sgn (det P1 P2 P3 P4 P5 P6 Q1 Q2 Q3 Q4 Q5 Q6) := by
  have hp : (0 : Int) < (Q2 : Int) * (Q4 : Int) * (Q6 : Int) := Int.mul_pos (Int.mul_pos (by omega) (by omega)) (by omega)
  exact sgn_cross (y := (Q2 : Int) * (Q4 : Int) * (Q6 : Int)) (Q := 1) hp (by omega) (by rw [Int.mul_one]; exact area_det P1 P2 P3 P4 P5 P6 Q1 Q2 Q3 Q4 Q5 Q6)
/-- what the program asks of On is what the document asks -/
theorem on_same {P1 P2 P3 P4 P5 P6 : Int} {Q1 Q2 Q3 Q4 Q5 Q6 : Nat} (h1 : 0 < Q1) (h2 : 0 < Q2) (h3 : 0 < Q3) (h4 : 0 < Q4) (hd : sgn (det P1 P2 P3 P4 P5 P6 Q1 Q2 Q3 Q4 Q5 Q6) = 0) :
    (0 ≤ lex (sgn (P1 * (Q5 : Int) - P5 * (Q1 : Int))) (sgn (P2 * (Q6 : Int) - P6 * (Q2 : Int))) * lex (sgn (P5 * (Q3 : Int) - P3 * (Q5 : Int))) (sgn (P6 * (Q4 : Int) - P4 * (Q6 : Int)))) ↔
      (sgn (P1 * (Q5 : Int) - P5 * (Q1 : Int)) * sgn (P3 * (Q5 : Int) - P5 * (Q3 : Int)) ≤ 0 ∧ sgn (P2 * (Q6 : Int) - P6 * (Q2 : Int)) * sgn (P4 * (Q6 : Int) - P6 * (Q4 : Int)) ≤ 0) := by
  have e1 : sgn (P3 * (Q5 : Int) - P5 * (Q3 : Int)) = - sgn (P5 * (Q3 : Int) - P3 * (Q5 : Int)) := by rw [← sgn_neg_, Int.neg_sub]
  have e2 : sgn (P4 * (Q6 : Int) - P6 * (Q4 : Int)) = - sgn (P6 * (Q4 : Int) - P4 * (Q6 : Int)) := by rw [← sgn_neg_, Int.neg_sub]
  rw [e1, e2]
  refine on_signs (sgn_three _) (sgn_three _) (sgn_three _) (sgn_three _) ?_
  rw [← sgn_mul_, ← sgn_mul_]
  have h := det_on P1 P2 P3 P4 P5 P6 Q1 Q2 Q3 Q4 Q5 Q6
  rw [sgn_zero.1 hd] at h
  exact sgn_cross (y := (Q1 : Int) * (Q4 : Int)) (Q := (Q2 : Int) * (Q3 : Int)) (Int.mul_pos (by omega) (by omega)) (Int.mul_pos (by omega) (by omega)) (by omega)
end Go.Proofs.YtokaapljlpngdaaGreatDoor
/- Spots: contracts by what the parts are worth. -/

namespace Go.Proofs.YtokaapljlpngdaaGreatDoor
open Go.RowKit Num

theorem SI.widen {P : Int} {Q m m' : Nat} (hm : m ≤ m') {n : Bool} {a d : List Nat} {ca cd : Nat} (k : SI P Q m n a ca d cd) : SV P Q m' n a ca d cd := k.toV.wide hm
theorem fv_Cmp (P P' : Int) (Q Q' m : Nat) (hQ : 0 < Q) (hQ' : 0 < Q') (hm1 : 1 ≤ m) (hm : m ≤ 4194304) : Fi2 21 (SV P Q m) (SV P' Q' m) (sgn (P * (Q' : Int) - P' * (Q : Int))) :=
  fun n n' a d a' d' A D A' D' ca cd ca' cd' w hS hT r q r' q' => frac_Cmp (SV P Q m) (SV P' Q' m) P P' Q Q' m hQ hQ' hm (hold_V P Q m hm1 hm) (hold_V P' Q' m hm1 hm) n n' a d a' d' A D A' D' ca cd ca' cd' w hS hT r q r' q'
theorem rv_Cmp (P P' : Int) (Q Q' m : Nat) (hQ : 0 < Q) (hQ' : 0 < Q') (hm : m ≤ 2097152) : Fi2 23 (SV P Q m) (SV P' Q' m) (sgn (P * (Q' : Int) - P' * (Q : Int))) :=
  fun n n' a d a' d' A D A' D' ca cd ca' cd' w hS hT r q r' q' => by
    have h := ref4_Cmp n n' a d a' d' A D A' D' ca cd ca' cd' w r q r' q' (Nat.le_trans hS.2.2.2.2.1 hm) (Nat.le_trans hS.2.2.2.2.2.1 hm) (Nat.le_trans hT.2.2.2.2.1 hm) (Nat.le_trans hT.2.2.2.2.2.1 hm) hS.2.2.1 hS.2.2.2.1 hT.2.2.1 hT.2.2.2.1
    have p1 := loD_pos d
    have p2 := loD_pos d'
    rwa [sgn_cross (y := (loD d : Int) * (loD d' : Int)) (Q := (Q : Int) * (Q' : Int)) (Int.mul_pos (by omega) (by omega)) (Int.mul_pos (by omega) (by omega)) (cross_sub hS.2.2.2.2.2.2 hT.2.2.2.2.2.2)] at h
/-- a result that is not too great -/
theorem Fn2.fit {f : FuncId} {S S' : Shape} {P : Int} {Q m : Nat} (h : Fn2 f S S' (SF P Q)) (hQ : 0 < Q) {i j : Nat} (hP : P.natAbs < 4294967296 ^ i) (hi : i ≤ m) (hm : Q ≤ 4294967296 ^ j) (hj : j < m) : Fn2 f S S' (SV P Q m) :=
  h.imp (fun _ _ _ _ _ k => k) (fun _ _ _ _ _ k => k) fun _ _ _ _ _ k => k.toV hQ (Nat.lt_of_lt_of_le hP (Nat.pow_le_pow_right (by omega) hi)) (lt_of_le_pow hm hj)
theorem Fi2.pre {f : FuncId} {S T S' T' : Shape} {z : Int} (h : Fi2 f S T z) (hs : ∀ n a ca d cd, S' n a ca d cd → S n a ca d cd) (ht : ∀ n a ca d cd, T' n a ca d cd → T n a ca d cd) : Fi2 f S' T' z :=
  fun n n' a d a' d' A D A' D' ca cd ca' cd' w hS hT r q r' q' => h n n' a d a' d' A D A' D' ca cd ca' cd' w (hs _ _ _ _ _ hS) (ht _ _ _ _ _ hT) r q r' q'

/-- how two spots stand -/
theorem fv_SCmp {P1 P2 P3 P4 : Int} {Q1 Q2 Q3 Q4 m : Nat} (hm1 : 1 ≤ m) (hm : m ≤ 4194304) (h1 : 0 < Q1) (h2 : 0 < Q2) (h3 : 0 < Q3) (h4 : 0 < Q4) : Si2 10 (SV P1 Q1 m) (SV P2 Q2 m) (SV P3 Q3 m) (SV P4 Q4 m) (lex (sgn (P1 * (Q3 : Int) - P3 * (Q1 : Int))) (sgn (P2 * (Q4 : Int) - P4 * (Q2 : Int)))) :=
  spot_Cmp (fv_Cmp P1 P3 Q1 Q3 m h1 h3 hm1 hm) (fv_Cmp P2 P4 Q2 Q4 m h2 h4 hm1 hm)
theorem rv_SCmp {P1 P2 P3 P4 : Int} {Q1 Q2 Q3 Q4 m : Nat} (hm : m ≤ 2097152) (h1 : 0 < Q1) (h2 : 0 < Q2) (h3 : 0 < Q3) (h4 : 0 < Q4) : Si2 13 (SV P1 Q1 m) (SV P2 Q2 m) (SV P3 Q3 m) (SV P4 Q4 m) (lex (sgn (P1 * (Q3 : Int) - P3 * (Q1 : Int))) (sgn (P2 * (Q4 : Int) - P4 * (Q2 : Int)))) :=
  ref5_Cmp (rv_Cmp P1 P3 Q1 Q3 m h1 h3 hm) (rv_Cmp P2 P4 Q2 Q4 m h2 h4 hm)
/-- is a spot on a way: what both ask -/
def onB (P1 P2 P3 P4 P5 P6 : Int) (Q1 Q2 Q3 Q4 Q5 Q6 : Nat) : Bool := decide (0 ≤ lex (sgn (P1 * (Q5 : Int) - P5 * (Q1 : Int))) (sgn (P2 * (Q6 : Int) - P6 * (Q2 : Int))) * lex (sgn (P5 * (Q3 : Int) - P3 * (Q5 : Int))) (sgn (P6 * (Q4 : Int) - P4 * (Q6 : Int)))) && (sgn (det P1 P2 P3 P4 P5 P6 Q1 Q2 Q3 Q4 Q5 Q6) == 0)
end Go.Proofs.YtokaapljlpngdaaGreatDoor
/- Spots, the program's own: what Turns, Side and Text answer; the law's first call. -/

namespace Go.Proofs.YtokaapljlpngdaaGreatDoor
open Go.RowKit Num
open Go.Sort (grow)

theorem cmp_isNaN (x : Int) (w : World) : Calls Tryz.prog 58 #[.int .i64 x] w fun e w' => e = .returned (.bool false) ∧ w = w' := by
  go_enter Tryz.func58, Tryz.ntmps58
  go_wp2_with fail
  go_ret
  exact ⟨rfl, rfl⟩
theorem sgn_lt {x : Int} (h : x < 0) : sgn x = -1 := by unfold sgn; rw [if_pos h]
theorem sgn_gt {x : Int} (h : 0 < x) : sgn x = 1 := by unfold sgn; rw [if_neg (by omega), if_pos h]
set_option maxHeartbeats 800000 in
theorem cmp_Compare (x y z : Int) (hz : sgn (x - y) = z) (w : World) : Calls Tryz.prog 29 #[.int .i64 x, .int .i64 y] w fun e w' => e = .returned (.int .i64 z) ∧ w = w' := by
  have cN := fun (x : Int) (V : World) => cmp_isNaN x V
  have CN := Lib.hid cN
  clear cN
  by_cases h1 : x < y
  · have HZ := Lib.hid (show z = -1 by rw [← hz]; exact sgn_lt (by omega))
    clear hz
    go_enter Tryz.func29, Tryz.ntmps29
    go_wp2_with (go_at_call 58; refine (CN.out _ _).mono ?_; rintro e w' ⟨rfl, rfl⟩)
    go_ret
    exact ⟨by rw [HZ.out]; rfl, rfl⟩
  · by_cases h2 : y < x
    · have HZ := Lib.hid (show z = 1 by rw [← hz]; exact sgn_gt (by omega))
      clear hz
      go_enter Tryz.func29, Tryz.ntmps29
      go_wp2_with (go_at_call 58; refine (CN.out _ _).mono ?_; rintro e w' ⟨rfl, rfl⟩)
      go_ret
      exact ⟨by rw [HZ.out]; rfl, rfl⟩
    · have HZ := Lib.hid (show z = 0 by rw [← hz]; exact sgn_zero.2 (by omega))
      clear hz
      go_enter Tryz.func29, Tryz.ntmps29
      go_wp2_with (go_at_call 58; refine (CN.out _ _).mono ?_; rintro e w' ⟨rfl, rfl⟩)
      go_ret
      exact ⟨by rw [HZ.out]; rfl, rfl⟩

/-- does a point lie near enough to 0? -/
def Near (x y : Int) : Prop := (-1073741824 ≤ x ∧ x ≤ 1073741824) ∧ (-1073741824 ≤ y ∧ y ≤ 1073741824)
set_option maxHeartbeats 800000 in
theorem spot_isNear (x y : Int) (w : World) : (Near x y → Calls Tryz.prog 27 #[.agg #[.int .i64 x, .int .i64 y]] w fun e w' => e = .returned (.bool true) ∧ Below w.heap.size w w') ∧ (¬ Near x y → Calls Tryz.prog 27 #[.agg #[.int .i64 x, .int .i64 y]] w fun e w' => e = .returned (.bool false) ∧ Below w.heap.size w w') := by
  unfold Near
  obtain ⟨W, hW, k1, b0, s0⟩ := bxa w 42 [.int .i64 x, .int .i64 y]
  obtain ⟨p0, p1, -, -⟩ := k1.facts2
  have HB := Lib.hid b0
  clear b0 k1 s0
  by_cases h1 : -1073741824 ≤ x
  · by_cases h2 : x ≤ 1073741824
    · by_cases h3 : -1073741824 ≤ y
      · by_cases h4 : y ≤ 1073741824
        · refine ⟨fun _ => ?_, fun h => absurd ⟨⟨h1, h2⟩, h3, h4⟩ h⟩
          go_enter Tryz.func27, Tryz.ntmps27
          go_wp2_with fail
          try rw [hW]
          clear hW
          go_wp2_with fail
          go_ret
          exact ⟨rfl, HB.out⟩
        · refine ⟨fun h => absurd h.2.2 h4, fun _ => ?_⟩
          have h4' : decide (y ≤ 1073741824) = false := decide_eq_false h4
          go_enter Tryz.func27, Tryz.ntmps27
          go_wp2_with fail
          try rw [hW]
          clear hW
          go_wp2_with fail
          go_ret
          exact ⟨rfl, HB.out⟩
      · refine ⟨fun h => absurd h.2.1 h3, fun _ => ?_⟩
        have h3' : decide (-1073741824 ≤ y) = false := decide_eq_false h3
        go_enter Tryz.func27, Tryz.ntmps27
        go_wp2_with fail
        try rw [hW]
        clear hW
        go_wp2_with fail
        go_ret
        exact ⟨rfl, HB.out⟩
    · refine ⟨fun h => absurd h.1.2 h2, fun _ => ?_⟩
      have h2' : decide (x ≤ 1073741824) = false := decide_eq_false h2
      go_enter Tryz.func27, Tryz.ntmps27
      go_wp2_with fail
      try rw [hW]
      clear hW
      go_wp2_with fail
      go_ret
      exact ⟨rfl, HB.out⟩
  · refine ⟨fun h => absurd h.1.1 h1, fun _ => ?_⟩
    have h1' : decide (-1073741824 ≤ x) = false := decide_eq_false h1
    go_enter Tryz.func27, Tryz.ntmps27
    go_wp2_with fail
    try rw [hW]
    clear hW
    go_wp2_with fail
    go_ret
    exact ⟨rfl, HB.out⟩

/-- an int as a fraction that is handed in -/
theorem SF.toInt {P : Int} (hP : P.natAbs < 4294967296 ^ 2) {n : Bool} {a d : List Nat} {ca cd : Nat} (k : SF P 1 n a ca d cd) : SI P 1 2 n a ca d cd := by
  have h := (k.toR (m := 2) (by omega) hP (by decide)).toI
  have hd : val 4294967296 d = 1 := by have := k.2.2.2.2.2.2; rw [this]; simp
  have hr := (k.toR (m := 2) (by omega) hP (by decide)).2.2.2.2.2.2.2
  rw [hd] at h hr
  rw [show wv n a = P by simpa using hr] at h
  exact h
theorem int_small {x : Int} (h1 : -9223372036854775808 ≤ x) (h2 : x ≤ 9223372036854775807) : x.natAbs < 4294967296 ^ 2 := by
  have : (4294967296 : Nat) ^ 2 = 18446744073709551616 := by decide
  rw [this]; omega
theorem spot_AtI (x y : Int) (hx1 : -9223372036854775808 ≤ x) (hx2 : x ≤ 9223372036854775807) (hy1 : -9223372036854775808 ≤ y) (hy2 : y ≤ 9223372036854775807) (w : World) : Calls Tryz.prog 18 #[.agg #[.int .i64 x, .int .i64 y]] w (Gs (SI x 1 2) (SI y 1 2) w) :=
  (spot_At (SF x 1) (SF y 1) x y (fun V => frac_Int x hx1 hx2 V) (fun V => frac_Int y hy1 hy2 V) w).mono fun _ _ => Gs.imp (fun _ _ _ _ _ => SF.toInt (int_small hx1 hx2)) (fun _ _ _ _ _ => SF.toInt (int_small hy1 hy2))
/-- an int of the machine -/
def In (x : Int) : Prop := -9223372036854775808 ≤ x ∧ x ≤ 9223372036854775807

set_option maxRecDepth 100000 in
set_option maxHeartbeats 25600000 in
/-- on which side of a way of the grid a point is -/
theorem spot_Turns (x1 y1 x2 y2 x3 y3 z : Int) (hz : sgn (det x1 y1 x2 y2 x3 y3 1 1 1 1 1 1) = z) (w : World) (i1 : In x1) (j1 : In y1) (i2 : In x2) (j2 : In y2) (i3 : In x3) (j3 : In y3) :
    Calls Tryz.prog 16 #[.agg #[.int .i64 x1, .int .i64 y1], .agg #[.int .i64 x2, .int .i64 y2], .agg #[.int .i64 x3, .int .i64 y3]] w fun e w' => e = .returned (.int .i64 z) ∧ Below w.heap.size w w' := by
  obtain ⟨W, hW, k100, k101, k102, b0, s0⟩ := bxc w 42 42 42 [.int .i64 x1, .int .i64 y1] [.int .i64 x2, .int .i64 y2] [.int .i64 x3, .int .i64 y3]
  obtain ⟨p00, p01, -, -⟩ := k100.facts2
  obtain ⟨p10, p11, -, -⟩ := k101.facts2
  obtain ⟨p20, p21, -, -⟩ := k102.facts2
  have HK0 := Lib.hid k100
  have HK1 := Lib.hid k101
  have HK2 := Lib.hid k102
  have HB := Lib.hid b0
  have CA0 := Lib.hid (fun V : World => spot_AtI x1 y1 i1.1 i1.2 j1.1 j1.2 V)
  have CA1 := Lib.hid (fun V : World => spot_AtI x2 y2 i2.1 i2.2 j2.1 j2.2 V)
  have CA2 := Lib.hid (fun V : World => spot_AtI x3 y3 i3.1 i3.2 j3.1 j3.2 V)
  have CT := Lib.hid (fun (n51 n52 n53 n54 n55 n56 : Bool) (a51 d51 a52 d52 a53 d53 a54 d54 a55 d55 a56 d56 : List Nat) (A51 D51 A52 D52 A53 D53 A54 D54 A55 D55 A56 D56 : Option Addr) (c51 e51 c52 e52 c53 e53 c54 e54 c55 e55 c56 e56 : Nat) (V : World) (s51 : SI x1 1 2 n51 a51 c51 d51 e51) (s52 : SI y1 1 2 n52 a52 c52 d52 e52) (s53 : SI x2 1 2 n53 a53 c53 d53 e53) (s54 : SI y2 1 2 n54 a54 c54 d54 e54) (s55 : SI x3 1 2 n55 a55 c55 d55 e55) (s56 : SI y3 1 2 n56 a56 c56 d56 e56) (r51 : Rd V (fun g => g < V.heap.size) .u32 A51 a51) (q51 : Rd V (fun g => g < V.heap.size) .u32 D51 d51) (r52 : Rd V (fun g => g < V.heap.size) .u32 A52 a52) (q52 : Rd V (fun g => g < V.heap.size) .u32 D52 d52) (r53 : Rd V (fun g => g < V.heap.size) .u32 A53 a53) (q53 : Rd V (fun g => g < V.heap.size) .u32 D53 d53) (r54 : Rd V (fun g => g < V.heap.size) .u32 A54 a54) (q54 : Rd V (fun g => g < V.heap.size) .u32 D54 d54) (r55 : Rd V (fun g => g < V.heap.size) .u32 A55 a55) (q55 : Rd V (fun g => g < V.heap.size) .u32 D55 d55) (r56 : Rd V (fun g => g < V.heap.size) .u32 A56 a56) (q56 : Rd V (fun g => g < V.heap.size) .u32 D56 d56) => by
    have h := spot_Turn (by omega) (by omega) (by omega) (by omega) (by omega) (by omega) (by omega) n51 n52 n53 n54 n55 n56 a51 d51 a52 d52 a53 d53 a54 d54 a55 d55 a56 d56 A51 D51 A52 D52 A53 D53 A54 D54 A55 D55 A56 D56 c51 e51 c52 e52 c53 e53 c54 e54 c55 e55 c56 e56 V s51 s52 s53 s54 s55 s56 r51 q51 r52 q52 r53 q53 r54 q54 r55 q55 r56 q56
    rwa [hz] at h)
  have HZ := Lib.hid hz
  clear hz k100 k101 k102 b0 s0
  by_cases h0 : Near x1 y1
  · by_cases h1 : Near x2 y2
    · by_cases h2 : Near x3 y3
      · have H0 := Lib.hid h0
        have H1 := Lib.hid h1
        have H2 := Lib.hid h2
        have hz := HZ.out
        obtain ⟨L, hL⟩ : ∃ L, (x2 - x1) * (y3 - y1) = L := ⟨_, rfl⟩
        obtain ⟨R, hR⟩ : ∃ R, (y2 - y1) * (x3 - x1) = R := ⟨_, rfl⟩
        unfold det at hz
        simp only [Int.mul_one, show ((1 : Nat) : Int) = 1 from rfl] at hz
        rw [hL, hR] at hz
        have bnd : ∀ u v a b : Int, -1073741824 ≤ u → u ≤ 1073741824 → -1073741824 ≤ v → v ≤ 1073741824 → -1073741824 ≤ a → a ≤ 1073741824 → -1073741824 ≤ b → b ≤ 1073741824 → IntKind.i64.wrap ((u - v) * (a - b)) = (u - v) * (a - b) := fun u v a b u1 u2 v1 v2 a1 a2 b1 b2 => by
          have e1 : ((u - v) * (a - b)).natAbs ≤ 2147483648 * 2147483648 := by rw [Int.natAbs_mul]; exact Nat.mul_le_mul (by omega) (by omega)
          exact IntWalk.i64_in _ ⟨by omega, by omega⟩
        have eL := bnd x2 x1 y3 y1 h1.1.1 h1.1.2 h0.1.1 h0.1.2 h2.2.1 h2.2.2 h0.2.1 h0.2.2
        have eR := bnd y2 y1 x3 x1 h1.2.1 h1.2.2 h0.2.1 h0.2.2 h2.1.1 h2.1.2 h0.1.1 h0.1.2
        rw [hL] at eL
        rw [hR] at eR
        have wr : ∀ u v : Int, -1073741824 ≤ u → u ≤ 1073741824 → -1073741824 ≤ v → v ≤ 1073741824 → IntKind.i64.wrap (u - v) = u - v := fun u v u1 u2 v1 v2 => IntWalk.i64_in _ ⟨by omega, by omega⟩
        have f1 := wr x2 x1 h1.1.1 h1.1.2 h0.1.1 h0.1.2
        have f2 := wr y3 y1 h2.2.1 h2.2.2 h0.2.1 h0.2.2
        have f3 := wr y2 y1 h1.2.1 h1.2.2 h0.2.1 h0.2.2
        have f4 := wr x3 x1 h2.1.1 h2.1.2 h0.1.1 h0.1.2
        have cC := fun (V : World) => cmp_Compare L R z hz V
        have CC := Lib.hid cC
        clear wr bnd cC hz CT CA0 CA1 CA2
        have N0 := Lib.hid (fun V : World => (spot_isNear x1 y1 V).1 h0)
        have N1 := Lib.hid (fun V : World => (spot_isNear x2 y2 V).1 h1)
        have N2 := Lib.hid (fun V : World => (spot_isNear x3 y3 V).1 h2)
        clear h0 h1 h2
        go_enter Tryz.func16, Tryz.ntmps16
        go_wp2_with fail
        try rw [hW]
        clear hW
        refine (N0.out _).mono ?_
        rintro e w1 ⟨rfl, c1⟩
        have B1 := c1
        obtain ⟨p00, p01⟩ := kept2 HK0.out B1
        obtain ⟨p10, p11⟩ := kept2 HK1.out B1
        obtain ⟨p20, p21⟩ := kept2 HK2.out B1
        go_wp2_with fail
        refine (N1.out _).mono ?_
        rintro e w2 ⟨rfl, c2⟩
        have B2 := B1.trans (c2.mono B1.size)
        obtain ⟨p00, p01⟩ := kept2 HK0.out B2
        obtain ⟨p10, p11⟩ := kept2 HK1.out B2
        obtain ⟨p20, p21⟩ := kept2 HK2.out B2
        go_wp2_with fail
        refine (N2.out _).mono ?_
        rintro e w3 ⟨rfl, c3⟩
        have B3 := B2.trans (c3.mono B2.size)
        obtain ⟨p00, p01⟩ := kept2 HK0.out B3
        obtain ⟨p10, p11⟩ := kept2 HK1.out B3
        obtain ⟨p20, p21⟩ := kept2 HK2.out B3
        go_wp2_with fail
        go_quiet (fail)
        go_wp2_with fail
        refine (CC.out _).mono ?_
        rintro e w4 ⟨rfl, rfl⟩
        go_wp2_with fail
        go_ret
        exact ⟨rfl, HB.out.trans ((below_drewN B3 _).mono HB.out.size)⟩
      · skip
        have N0 := Lib.hid (fun V : World => (spot_isNear x1 y1 V).1 h0)
        have N1 := Lib.hid (fun V : World => (spot_isNear x2 y2 V).1 h1)
        have N2 := Lib.hid (fun V : World => (spot_isNear x3 y3 V).2 h2)
        clear h0 h1 h2
        go_enter Tryz.func16, Tryz.ntmps16
        go_wp2_with fail
        try rw [hW]
        clear hW
        refine (N0.out _).mono ?_
        rintro e w1 ⟨rfl, c1⟩
        have B1 := c1
        obtain ⟨p00, p01⟩ := kept2 HK0.out B1
        obtain ⟨p10, p11⟩ := kept2 HK1.out B1
        obtain ⟨p20, p21⟩ := kept2 HK2.out B1
        go_wp2_with fail
        refine (N1.out _).mono ?_
        rintro e w2 ⟨rfl, c2⟩
        have B2 := B1.trans (c2.mono B1.size)
        obtain ⟨p00, p01⟩ := kept2 HK0.out B2
        obtain ⟨p10, p11⟩ := kept2 HK1.out B2
        obtain ⟨p20, p21⟩ := kept2 HK2.out B2
        go_wp2_with fail
        refine (N2.out _).mono ?_
        rintro e w3 ⟨rfl, c3⟩
        have B3 := B2.trans (c3.mono B2.size)
        obtain ⟨p00, p01⟩ := kept2 HK0.out B3
        obtain ⟨p10, p11⟩ := kept2 HK1.out B3
        obtain ⟨p20, p21⟩ := kept2 HK2.out B3
        go_wp2_with fail
        have J0 := Lib.hid (HK0.out.on B3)
        have J1 := Lib.hid (HK1.out.on B3)
        have J2 := Lib.hid (HK2.out.on B3)
        have K0 : Below w3.heap.size w3 w3.drew := below_drewN (Below.refl _ _) 1
        go_region_held3 (fun w' => (w'.cell? ⟨w.heap.size, 0, none⟩ = some (.int .i64 x1) ∧ w'.cell? ⟨w.heap.size, 1, none⟩ = some (.int .i64 y1)) ∧ (w'.cell? ⟨w.heap.size + 1, 0, none⟩ = some (.int .i64 x2) ∧ w'.cell? ⟨w.heap.size + 1, 1, none⟩ = some (.int .i64 y2)) ∧ (w'.cell? ⟨w.heap.size + 1 + 1, 0, none⟩ = some (.int .i64 x3) ∧ w'.cell? ⟨w.heap.size + 1 + 1, 1, none⟩ = some (.int .i64 y3)))
          (first | (with_reducible exact ⟨kept2 J0.out K0, kept2 J1.out K0, kept2 J2.out K0⟩) | (with_reducible exact ⟨kept2 J0.out K1, kept2 J1.out K1, kept2 J2.out K1⟩) | (with_reducible exact ⟨kept2 J0.out K2, kept2 J1.out K2, kept2 J2.out K2⟩) | (with_reducible exact ⟨kept2 J0.out K3, kept2 J1.out K3, kept2 J2.out K3⟩) | (with_reducible exact ⟨kept2 J0.out K4, kept2 J1.out K4, kept2 J2.out K4⟩) | go_keep)
          ((first
            | (go_at_call_of 18 (Value.int .i64 x1); (with_reducible refine Calls.mono (CA0.out _) ?_); rintro e w1 ⟨n51, a51, A51, c51, d51, D51, e51, n52, a52, A52, c52, d52, D52, e52, rfl, ⟨s51, s52⟩, ⟨r51, q51⟩, ⟨r52, q52⟩, b1⟩; have K1 := below_next K0 (Nat.le_refl _) b1)
            | (go_at_call_of 18 (Value.int .i64 x2); (with_reducible refine Calls.mono (CA1.out _) ?_); rintro e w2 ⟨n53, a53, A53, c53, d53, D53, e53, n54, a54, A54, c54, d54, D54, e54, rfl, ⟨s53, s54⟩, ⟨r53, q53⟩, ⟨r54, q54⟩, b2⟩; have K2 := below_next K1 (Nat.le_refl _) b2; have r51 := r51.on b2; have q51 := q51.on b2; have r52 := r52.on b2; have q52 := q52.on b2)
            | (go_at_call_of 18 (Value.int .i64 x3); (with_reducible refine Calls.mono (CA2.out _) ?_); rintro e w3 ⟨n55, a55, A55, c55, d55, D55, e55, n56, a56, A56, c56, d56, D56, e56, rfl, ⟨s55, s56⟩, ⟨r55, q55⟩, ⟨r56, q56⟩, b3⟩; have K3 := below_next K2 (Nat.le_refl _) b3; have r51 := r51.on b3; have q51 := q51.on b3; have r52 := r52.on b3; have q52 := q52.on b3; have r53 := r53.on b3; have q53 := q53.on b3; have r54 := r54.on b3; have q54 := q54.on b3)
            | (go_at_call 28; (with_reducible refine Calls.mono (CT.out n51 n52 n53 n54 n55 n56 a51 d51 a52 d52 a53 d53 a54 d54 a55 d55 a56 d56 A51 D51 A52 D52 A53 D53 A54 D54 A55 D55 A56 D56 c51 e51 c52 e52 c53 e53 c54 e54 c55 e55 c56 e56 _ s51 s52 s53 s54 s55 s56 r51 q51 r52 q52 r53 q53 r54 q54 r55 q55 r56 q56) ?_); rintro e w4 ⟨rfl, b4⟩; have K4 := below_next K3 (Nat.le_refl _) b4)))
        go_wp2_with fail
        go_ret
        exact ⟨rfl, HB.out.trans ((B3.trans (K4.mono B3.size)).mono HB.out.size)⟩
    · skip
      have N0 := Lib.hid (fun V : World => (spot_isNear x1 y1 V).1 h0)
      have N1 := Lib.hid (fun V : World => (spot_isNear x2 y2 V).2 h1)
      clear h0 h1
      go_enter Tryz.func16, Tryz.ntmps16
      go_wp2_with fail
      try rw [hW]
      clear hW
      refine (N0.out _).mono ?_
      rintro e w1 ⟨rfl, c1⟩
      have B1 := c1
      obtain ⟨p00, p01⟩ := kept2 HK0.out B1
      obtain ⟨p10, p11⟩ := kept2 HK1.out B1
      obtain ⟨p20, p21⟩ := kept2 HK2.out B1
      go_wp2_with fail
      refine (N1.out _).mono ?_
      rintro e w2 ⟨rfl, c2⟩
      have B2 := B1.trans (c2.mono B1.size)
      obtain ⟨p00, p01⟩ := kept2 HK0.out B2
      obtain ⟨p10, p11⟩ := kept2 HK1.out B2
      obtain ⟨p20, p21⟩ := kept2 HK2.out B2
      go_wp2_with fail
      have J0 := Lib.hid (HK0.out.on B2)
      have J1 := Lib.hid (HK1.out.on B2)
      have J2 := Lib.hid (HK2.out.on B2)
      have K0 : Below w2.heap.size w2 w2.drew := below_drewN (Below.refl _ _) 1
      go_region_held3 (fun w' => (w'.cell? ⟨w.heap.size, 0, none⟩ = some (.int .i64 x1) ∧ w'.cell? ⟨w.heap.size, 1, none⟩ = some (.int .i64 y1)) ∧ (w'.cell? ⟨w.heap.size + 1, 0, none⟩ = some (.int .i64 x2) ∧ w'.cell? ⟨w.heap.size + 1, 1, none⟩ = some (.int .i64 y2)) ∧ (w'.cell? ⟨w.heap.size + 1 + 1, 0, none⟩ = some (.int .i64 x3) ∧ w'.cell? ⟨w.heap.size + 1 + 1, 1, none⟩ = some (.int .i64 y3)))
        (first | (with_reducible exact ⟨kept2 J0.out K0, kept2 J1.out K0, kept2 J2.out K0⟩) | (with_reducible exact ⟨kept2 J0.out K1, kept2 J1.out K1, kept2 J2.out K1⟩) | (with_reducible exact ⟨kept2 J0.out K2, kept2 J1.out K2, kept2 J2.out K2⟩) | (with_reducible exact ⟨kept2 J0.out K3, kept2 J1.out K3, kept2 J2.out K3⟩) | (with_reducible exact ⟨kept2 J0.out K4, kept2 J1.out K4, kept2 J2.out K4⟩) | go_keep)
        ((first
          | (go_at_call_of 18 (Value.int .i64 x1); (with_reducible refine Calls.mono (CA0.out _) ?_); rintro e w1 ⟨n51, a51, A51, c51, d51, D51, e51, n52, a52, A52, c52, d52, D52, e52, rfl, ⟨s51, s52⟩, ⟨r51, q51⟩, ⟨r52, q52⟩, b1⟩; have K1 := below_next K0 (Nat.le_refl _) b1)
          | (go_at_call_of 18 (Value.int .i64 x2); (with_reducible refine Calls.mono (CA1.out _) ?_); rintro e w2 ⟨n53, a53, A53, c53, d53, D53, e53, n54, a54, A54, c54, d54, D54, e54, rfl, ⟨s53, s54⟩, ⟨r53, q53⟩, ⟨r54, q54⟩, b2⟩; have K2 := below_next K1 (Nat.le_refl _) b2; have r51 := r51.on b2; have q51 := q51.on b2; have r52 := r52.on b2; have q52 := q52.on b2)
          | (go_at_call_of 18 (Value.int .i64 x3); (with_reducible refine Calls.mono (CA2.out _) ?_); rintro e w3 ⟨n55, a55, A55, c55, d55, D55, e55, n56, a56, A56, c56, d56, D56, e56, rfl, ⟨s55, s56⟩, ⟨r55, q55⟩, ⟨r56, q56⟩, b3⟩; have K3 := below_next K2 (Nat.le_refl _) b3; have r51 := r51.on b3; have q51 := q51.on b3; have r52 := r52.on b3; have q52 := q52.on b3; have r53 := r53.on b3; have q53 := q53.on b3; have r54 := r54.on b3; have q54 := q54.on b3)
          | (go_at_call 28; (with_reducible refine Calls.mono (CT.out n51 n52 n53 n54 n55 n56 a51 d51 a52 d52 a53 d53 a54 d54 a55 d55 a56 d56 A51 D51 A52 D52 A53 D53 A54 D54 A55 D55 A56 D56 c51 e51 c52 e52 c53 e53 c54 e54 c55 e55 c56 e56 _ s51 s52 s53 s54 s55 s56 r51 q51 r52 q52 r53 q53 r54 q54 r55 q55 r56 q56) ?_); rintro e w4 ⟨rfl, b4⟩; have K4 := below_next K3 (Nat.le_refl _) b4)))
      go_wp2_with fail
      go_ret
      exact ⟨rfl, HB.out.trans ((B2.trans (K4.mono B2.size)).mono HB.out.size)⟩
  · skip
    have N0 := Lib.hid (fun V : World => (spot_isNear x1 y1 V).2 h0)
    clear h0
    go_enter Tryz.func16, Tryz.ntmps16
    go_wp2_with fail
    try rw [hW]
    clear hW
    refine (N0.out _).mono ?_
    rintro e w1 ⟨rfl, c1⟩
    have B1 := c1
    obtain ⟨p00, p01⟩ := kept2 HK0.out B1
    obtain ⟨p10, p11⟩ := kept2 HK1.out B1
    obtain ⟨p20, p21⟩ := kept2 HK2.out B1
    go_wp2_with fail
    have J0 := Lib.hid (HK0.out.on B1)
    have J1 := Lib.hid (HK1.out.on B1)
    have J2 := Lib.hid (HK2.out.on B1)
    have K0 : Below w1.heap.size w1 w1.drew := below_drewN (Below.refl _ _) 1
    go_region_held3 (fun w' => (w'.cell? ⟨w.heap.size, 0, none⟩ = some (.int .i64 x1) ∧ w'.cell? ⟨w.heap.size, 1, none⟩ = some (.int .i64 y1)) ∧ (w'.cell? ⟨w.heap.size + 1, 0, none⟩ = some (.int .i64 x2) ∧ w'.cell? ⟨w.heap.size + 1, 1, none⟩ = some (.int .i64 y2)) ∧ (w'.cell? ⟨w.heap.size + 1 + 1, 0, none⟩ = some (.int .i64 x3) ∧ w'.cell? ⟨w.heap.size + 1 + 1, 1, none⟩ = some (.int .i64 y3)))
      (first | (with_reducible exact ⟨kept2 J0.out K0, kept2 J1.out K0, kept2 J2.out K0⟩) | (with_reducible exact ⟨kept2 J0.out K1, kept2 J1.out K1, kept2 J2.out K1⟩) | (with_reducible exact ⟨kept2 J0.out K2, kept2 J1.out K2, kept2 J2.out K2⟩) | (with_reducible exact ⟨kept2 J0.out K3, kept2 J1.out K3, kept2 J2.out K3⟩) | (with_reducible exact ⟨kept2 J0.out K4, kept2 J1.out K4, kept2 J2.out K4⟩) | go_keep)
      ((first
        | (go_at_call_of 18 (Value.int .i64 x1); (with_reducible refine Calls.mono (CA0.out _) ?_); rintro e w1 ⟨n51, a51, A51, c51, d51, D51, e51, n52, a52, A52, c52, d52, D52, e52, rfl, ⟨s51, s52⟩, ⟨r51, q51⟩, ⟨r52, q52⟩, b1⟩; have K1 := below_next K0 (Nat.le_refl _) b1)
        | (go_at_call_of 18 (Value.int .i64 x2); (with_reducible refine Calls.mono (CA1.out _) ?_); rintro e w2 ⟨n53, a53, A53, c53, d53, D53, e53, n54, a54, A54, c54, d54, D54, e54, rfl, ⟨s53, s54⟩, ⟨r53, q53⟩, ⟨r54, q54⟩, b2⟩; have K2 := below_next K1 (Nat.le_refl _) b2; have r51 := r51.on b2; have q51 := q51.on b2; have r52 := r52.on b2; have q52 := q52.on b2)
        | (go_at_call_of 18 (Value.int .i64 x3); (with_reducible refine Calls.mono (CA2.out _) ?_); rintro e w3 ⟨n55, a55, A55, c55, d55, D55, e55, n56, a56, A56, c56, d56, D56, e56, rfl, ⟨s55, s56⟩, ⟨r55, q55⟩, ⟨r56, q56⟩, b3⟩; have K3 := below_next K2 (Nat.le_refl _) b3; have r51 := r51.on b3; have q51 := q51.on b3; have r52 := r52.on b3; have q52 := q52.on b3; have r53 := r53.on b3; have q53 := q53.on b3; have r54 := r54.on b3; have q54 := q54.on b3)
        | (go_at_call 28; (with_reducible refine Calls.mono (CT.out n51 n52 n53 n54 n55 n56 a51 d51 a52 d52 a53 d53 a54 d54 a55 d55 a56 d56 A51 D51 A52 D52 A53 D53 A54 D54 A55 D55 A56 D56 c51 e51 c52 e52 c53 e53 c54 e54 c55 e55 c56 e56 _ s51 s52 s53 s54 s55 s56 r51 q51 r52 q52 r53 q53 r54 q54 r55 q55 r56 q56) ?_); rintro e w4 ⟨rfl, b4⟩; have K4 := below_next K3 (Nat.le_refl _) b4)))
    go_wp2_with fail
    go_ret
    exact ⟨rfl, HB.out.trans ((B1.trans (K4.mono B1.size)).mono HB.out.size)⟩
end Go.Proofs.YtokaapljlpngdaaGreatDoor
/- Spots, the program's own: what Side and Text answer; the law's last call. -/

namespace Go.Proofs.YtokaapljlpngdaaGreatDoor
open Go.RowKit Num
open Go.Sort (grow)

set_option maxRecDepth 100000 in
set_option maxHeartbeats 3200000 in
/-- the text of 3 -4 -/
theorem spot_Text34 (n1 n2 : Bool) (a1 d1 a2 d2 : List Nat) (A1 D1 A2 D2 : Option Addr) (c1 e1 c2 e2 : Nat) (w : World) (s1 : SI 3 1 1 n1 a1 c1 d1 e1) (s2 : SI (-4) 1 1 n2 a2 c2 d2 e2) (r1 : Rd w (fun g => g < w.heap.size) .u32 A1 a1) (q1 : Rd w (fun g => g < w.heap.size) .u32 D1 d1) (r2 : Rd w (fun g => g < w.heap.size) .u32 A2 a2) (q2 : Rd w (fun g => g < w.heap.size) .u32 D2 d2) (htab : Tab w) :
    Calls Tryz.prog 17 #[.agg #[.bool n1, .slice A1 a1.length c1, .slice D1 d1.length e1, .bool n2, .slice A2 a2.length c2, .slice D2 d2.length e2]] w fun e w' => e = .returned (.string ⟨#[51, 32, 45, 52]⟩) ∧ Below w.heap.size w w' := by
  obtain ⟨W, hW, k100, b0, s0⟩ := bxa w 31 [.bool n1, .slice A1 a1.length c1, .slice D1 d1.length e1, .bool n2, .slice A2 a2.length c2, .slice D2 d2.length e2]
  obtain ⟨⟨p00, p01, p02, p03, p04, p05⟩, -⟩ := k100.facts6
  have cX := fun (V : World) (hV : Below W.heap.size W V) => frac_Text 3 1 1 (by omega) (by omega) (by omega) n1 a1 d1 A1 D1 c1 e1 V s1 ((r1.on b0).on hV) ((q1.on b0).on hV) ((htab.on b0).on hV)
  have cY := fun (V : World) (hV : Below W.heap.size W V) => frac_Text (-4) 1 1 (by omega) (by omega) (by omega) n2 a2 d2 A2 D2 c2 e2 V s2 ((r2.on b0).on hV) ((q2.on b0).on hV) ((htab.on b0).on hV)
  simp only [show ftext 3 1 = [51] by decide +kernel] at cX
  simp only [show ftext (-4) 1 = [45, 52] by decide +kernel] at cY
  have CX := quiet_of cX
  have CY := quiet_of cY
  have y00 := cell_regrown p00
  have y01 := cell_regrown p01
  have y02 := cell_regrown p02
  have y03 := cell_regrown p03
  have y04 := cell_regrown p04
  have y05 := cell_regrown p05
  have HB := Lib.hid b0
  clear cX cY s1 s2 r1 q1 r2 q2 htab b0 k100 s0
  go_enter Tryz.func17, Tryz.ntmps17
  go_wp2_with fail
  try rw [hW]
  clear hW
  refine wp_region_quiet_below (by kernel_rfl) (by kernel_rfl) ?_
  quiet_step (fail)
  quiet_step (fail)
  quiet_step (with_reducible exact CX _ _)
  quiet_step (fail)
  quiet_step (fail)
  quiet_step (fail)
  quiet_step (with_reducible exact CY _ _)
  quiet_step (fail)
  quiet_step (fail)
  refine wpQuiet_nil ?_
  intro _ hw'
  obtain ⟨⟨dq, osq⟩, hw''⟩ := hw'
  subst hw''
  go_wp2_with fail
  go_ret
  exact ⟨rfl, HB.out.trans ((below_regrown W dq osq).mono HB.out.size)⟩

theorem SF.words {P : Int} {n : Bool} {a d : List Nat} {ca cd : Nat} (hP : P.natAbs < 4294967296) (k : SF P 1 n a ca d cd) : SI P 1 1 n a ca d cd := by
  have h := (k.toR (m := 1) (by omega) (by simpa using hP) (by decide)).toI
  have hd : val 4294967296 d = 1 := by have := k.2.2.2.2.2.2; rw [this]; simp
  have hr := (k.toR (m := 1) (by omega) (by simpa using hP) (by decide)).2.2.2.2.2.2.2
  rw [hd] at h hr
  rw [show wv n a = P by simpa using hr] at h
  exact h
set_option maxRecDepth 100000 in
set_option maxHeartbeats 3200000 in
/-- the law's last call -/
theorem law5_lives (w : World) (htab : Tab w) : Calls Tryz.prog 7 #[] w fun e w' => e = .returned (.bool true) ∧ Below w.heap.size w w' := by
  have cT := spot_Turns 0 0 2 0 1 1 1 (by decide) w ⟨by omega, by omega⟩ ⟨by omega, by omega⟩ ⟨by omega, by omega⟩ ⟨by omega, by omega⟩ ⟨by omega, by omega⟩ ⟨by omega, by omega⟩
  have cA := fun (V : World) => (spot_At (SF 3 1) (SF (-4) 1) 3 (-4) (fun V => frac_Int 3 (by omega) (by omega) V) (fun V => frac_Int (-4) (by omega) (by omega) V) V).mono fun _ _ => Gs.imp (fun _ _ _ _ _ => SF.words (by decide)) (fun _ _ _ _ _ => SF.words (by decide))
  have CA := Lib.hid cA
  have HT := Lib.hid htab
  clear cA htab
  go_enter Tryz.func7, Tryz.ntmps7
  go_wp2_with fail
  refine cT.mono ?_
  rintro e w1 ⟨rfl, b1⟩
  clear cT
  go_wp2_with fail
  refine (CA.out _).mono ?_
  rintro e w2 ⟨n1, a1, A1, c1, d1, D1, e1, n2, a2, A2, c2, d2, D2, e2, rfl, ⟨s1, s2⟩, ⟨r1, q1⟩, ⟨r2, q2⟩, b2⟩
  have B2 := b1.trans (b2.mono b1.size)
  have cX := spot_Text34 n1 n2 a1 d1 a2 d2 A1 D1 A2 D2 c1 e1 c2 e2 w2 s1 s2 r1 q1 r2 q2 (HT.out.on B2)
  clear s1 s2 r1 q1 r2 q2
  go_wp2_with fail
  refine cX.mono ?_
  rintro e w3 ⟨rfl, b3⟩
  clear cX
  go_wp2_with fail
  go_ret
  exact ⟨rfl, B2.trans (b3.mono B2.size)⟩
end Go.Proofs.YtokaapljlpngdaaGreatDoor
