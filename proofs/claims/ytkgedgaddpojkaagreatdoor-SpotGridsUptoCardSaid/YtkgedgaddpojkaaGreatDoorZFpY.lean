/- Fractions: what the program's own minus, Reduce, ofOne and ofTwo answer. -/
import Derived.Test.YtkgedgaddpojkaaGreatDoorZFpC
import Derived.Deep.RegionHeld3
import Derived.Test.YtkgedgaddpojkaaGreatDoorZFrZ
import Derived.Test.YtkgedgaddpojkaaGreatDoorZWhY
namespace Go.Proofs.YtkgedgaddpojkaaGreatDoor
open Go.RowKit Num

/-- the contract of what takes a function and one or two fractions -/
abbrev Fo1 (g f : FuncId) (S T : Shape) : Prop := ∀ (n : Bool) (a d : List Nat) (A D : Option Addr) (ca cd : Nat) (w : World), S n a ca d cd → Rd w (fun g => g < w.heap.size) .u32 A a → Rd w (fun g => g < w.heap.size) .u32 D d → Calls Tryz.prog g #[.func (.func f) #[] #[], .agg #[.bool n, .slice A a.length ca, .slice D d.length cd]] w (Gv T w)
abbrev Fo2 (g f : FuncId) (S S' T : Shape) : Prop := ∀ (n n' : Bool) (a d a' d' : List Nat) (A D A' D' : Option Addr) (ca cd ca' cd' : Nat) (w : World), S n a ca d cd → S' n' a' ca' d' cd' → Rd w (fun g => g < w.heap.size) .u32 A a → Rd w (fun g => g < w.heap.size) .u32 D d → Rd w (fun g => g < w.heap.size) .u32 A' a' → Rd w (fun g => g < w.heap.size) .u32 D' d' → Calls Tryz.prog g #[.func (.func f) #[] #[], .agg #[.bool n, .slice A a.length ca, .slice D d.length cd], .agg #[.bool n', .slice A' a'.length ca', .slice D' d'.length cd']] w (Gv T w)

set_option maxRecDepth 10000 in
set_option maxHeartbeats 1600000 in
/-- a difference -/
theorem ratio_minus_gen (S T T' U : Shape) (cN : Fn1 139 T T') (cP : Fn2 102 S T' U) : Fn2 108 S T U := by
  intro n n' a d a' d' A D A' D' ca cd ca' cd' w hS hT h h' q q'
  obtain ⟨W, hW, k1, k2, kr, b0, s0⟩ := bx3 w 84 84 84 (.bool n) (.slice A a.length ca) (.slice D d.length cd) (.bool n') (.slice A' a'.length ca') (.slice D' d'.length cd') (.bool false) (.slice none 0 0) (.slice none 0 0)
  obtain ⟨p0, p1, p2, -, -, -⟩ := k1.facts
  obtain ⟨z0, z1, z2, -, -, -⟩ := k2.facts
  have h := h.on b0
  have h' := h'.on b0
  have q := q.on b0
  have q' := q'.on b0
  obtain ⟨i0, i1, i2, i3, i4, i5⟩ := kr.facts
  have K0 : Below W.heap.size W W.drew := below_drewN (Below.refl _ _) 1
  have KI : Below W.heap.size W W := Below.refl _ _
  have HK1 := Lib.hid k1
  have HK2 := Lib.hid k2
  have HKR := Lib.hid kr
  have HB0 := Lib.hid b0
  have hlt : w.heap.size + 2 < W.heap.size := by omega
  have CN := Lib.hid cN
  have CP := Lib.hid cP
  clear cN cP
  clear k1 k2 kr b0
  go_enter Tryz.func108, Tryz.ntmps108
  go_wp2_with fail
  try rw [hW]
  clear hW
  go_region_held3 (fun w' => (w'.cell? ⟨w.heap.size, 0, none⟩ = some (.bool n) ∧ w'.cell? ⟨w.heap.size, 1, none⟩ = some (.slice A a.length ca) ∧ w'.cell? ⟨w.heap.size, 2, none⟩ = some (.slice D d.length cd)) ∧ (w'.cell? ⟨w.heap.size + 1, 0, none⟩ = some (.bool n') ∧ w'.cell? ⟨w.heap.size + 1, 1, none⟩ = some (.slice A' a'.length ca') ∧ w'.cell? ⟨w.heap.size + 1, 2, none⟩ = some (.slice D' d'.length cd')))
    (first | (with_reducible exact ⟨keep3 HK1.out K0, keep3 HK2.out K0⟩) | (with_reducible exact ⟨keep3 HK1.out KA, keep3 HK2.out KA⟩) | (with_reducible exact ⟨keep3 HK1.out KB, keep3 HK2.out KB⟩) | (with_reducible exact ⟨far_cells (HK1.out.below KB HK1.out.lt) (by omega) _ _ _, far_cells (HK2.out.below KB HK2.out.lt) (by omega) _ _ _⟩) | go_keep)
    ((first
      | (go_at_call 139; (with_reducible refine Calls.mono (CN.out n' a' d' A' D' ca' cd' _ hT (q.on K0) (q'.on K0)) ?_); rintro e w1 ⟨n2, a2, X2, c2, d2, Y2, e2, rfl, s2, r2, q2, b1⟩; have KA := below_next K0 (Nat.le_refl _) b1)
      | (go_at_call 102; (with_reducible refine Calls.mono (CP.out n n2 a d a2 d2 A D X2 Y2 ca cd c2 e2 _ hS s2 (h.on KA) (h'.on KA) r2 q2) ?_); rintro e w2 ⟨n3, a3, X3, c3, d3, Y3, e3, rfl, s3, r3, q3, b2⟩; have KB := below_next KA (Nat.le_refl _) b2; obtain ⟨i0, i1, i2, i3, i4, i5⟩ := (HKR.out.below KB HKR.out.lt).facts)))
  obtain ⟨Z, hZ, u0, u1, u2, hG⟩ := fin_any (n := n3) (a := a3) (d := d3) (ca := c3) (cd := e3) (w := w) (HKR.out.below KB HKR.out.lt) (by omega) (HB0.out.trans (KB.mono HB0.out.size)) s3 r3 q3
  have HZ := Lib.hid hZ
  have HF := Lib.hid (And.intro u0 (And.intro u1 u2))
  have HG := Lib.hid hG
  clear hZ u0 u1 u2 hG i0 i1 i2 i3 i4 i5 CN CP r2 q2 r3 q3
  go_wp2_with fail
  rw [HZ.out]
  obtain ⟨u0, u1, u2⟩ := HF.out
  exact bodyPost_ret (by simp [results, Tryz.results108, go_sem, u0, u1, u2]) rfl HG.out

set_option maxRecDepth 10000 in
set_option maxHeartbeats 1600000 in
/-- reduced -/
theorem frac_Reduce_gen (S T U : Shape) (cH : Fn1 68 S T) (cR : Fn1 119 T U) : Fn1 83 S U := by
  intro n a d A D ca cd w hS h h'
  obtain ⟨W, hW, k1, kr, b0, s0⟩ := bx2 w 26 26 (.bool n) (.slice A a.length ca) (.slice D d.length cd) (.bool false) (.slice none 0 0) (.slice none 0 0)
  obtain ⟨p0, p1, p2, -, -, -⟩ := k1.facts
  have h := h.on b0
  have h' := h'.on b0
  obtain ⟨i0, i1, i2, i3, i4, i5⟩ := kr.facts
  have K0 : Below W.heap.size W W.drew := below_drewN (Below.refl _ _) 1
  have KI : Below W.heap.size W W := Below.refl _ _
  have HK1 := Lib.hid k1
  have HKR := Lib.hid kr
  have HB0 := Lib.hid b0
  have hlt : w.heap.size + 1 < W.heap.size := by omega
  have CH := Lib.hid cH
  have CR := Lib.hid cR
  clear cH cR
  clear k1 kr b0
  go_enter Tryz.func83, Tryz.ntmps83
  go_wp2_with fail
  try rw [hW]
  clear hW
  refine Calls.mono (CH.out n a d A D ca cd _ hS (h.on KI) (h'.on KI)) ?_
  rintro e w1 ⟨n2, a2, X2, c2, d2, Y2, e2, rfl, s2, r2, q2, b1⟩
  have KA := below_next KI (Nat.le_refl _) b1
  obtain ⟨p0, p1, p2⟩ := keep3 HK1.out KA
  obtain ⟨i0, i1, i2, i3, i4, i5⟩ := (HKR.out.below KA HKR.out.lt).facts
  go_wp2_with fail
  refine Calls.mono (CR.out n2 a2 d2 X2 Y2 c2 e2 _ s2 r2 q2) ?_
  rintro e w2 ⟨n3, a3, X3, c3, d3, Y3, e3, rfl, s3, r3, q3, b2⟩
  have KB := below_next KA (Nat.le_refl _) b2
  obtain ⟨p0, p1, p2⟩ := keep3 HK1.out KB
  obtain ⟨i0, i1, i2, i3, i4, i5⟩ := (HKR.out.below KB HKR.out.lt).facts
  obtain ⟨Z, hZ, u0, u1, u2, hG⟩ := fin_any (n := n3) (a := a3) (d := d3) (ca := c3) (cd := e3) (w := w) (HKR.out.below KB HKR.out.lt) (by omega) (HB0.out.trans (KB.mono HB0.out.size)) s3 r3 q3
  have HZ := Lib.hid hZ
  have HF := Lib.hid (And.intro u0 (And.intro u1 u2))
  have HG := Lib.hid hG
  clear hZ u0 u1 u2 hG CH CR r2 q2 r3 q3
  go_wp2_with fail
  rw [HZ.out]
  obtain ⟨u0, u1, u2⟩ := HF.out
  exact bodyPost_ret (by simp [results, Tryz.results83, go_sem, u0, u1, u2]) rfl HG.out

set_option maxRecDepth 10000 in
set_option maxHeartbeats 1600000 in
/-- what is reckoned of one -/
theorem frac_ofOne_neg (S T T' U : Shape) (cH : Fn1 68 S T) (cF : Fn1 139 T T') (cR : Fn1 119 T' U) : Fo1 99 139 S U := by
  intro n a d A D ca cd w hS h h'
  obtain ⟨W, hW, k1, kr, b0, s0⟩ := bx2 w 26 26 (.bool n) (.slice A a.length ca) (.slice D d.length cd) (.bool false) (.slice none 0 0) (.slice none 0 0)
  obtain ⟨p0, p1, p2, -, -, -⟩ := k1.facts
  have h := h.on b0
  have h' := h'.on b0
  obtain ⟨i0, i1, i2, i3, i4, i5⟩ := kr.facts
  have K0 : Below W.heap.size W W.drew := below_drewN (Below.refl _ _) 1
  have KI : Below W.heap.size W W := Below.refl _ _
  have HK1 := Lib.hid k1
  have HKR := Lib.hid kr
  have HB0 := Lib.hid b0
  have hlt : w.heap.size + 1 < W.heap.size := by omega
  have CH := Lib.hid cH
  have CF := Lib.hid cF
  have CR := Lib.hid cR
  clear cH cF cR
  clear k1 kr b0
  go_enter Tryz.func99, Tryz.ntmps99
  go_wp2_with fail
  try rw [hW]
  clear hW
  refine Calls.mono (CH.out n a d A D ca cd _ hS (h.on KI) (h'.on KI)) ?_
  rintro e w1 ⟨n2, a2, X2, c2, d2, Y2, e2, rfl, s2, r2, q2, b1⟩
  have KA := below_next KI (Nat.le_refl _) b1
  obtain ⟨p0, p1, p2⟩ := keep3 HK1.out KA
  obtain ⟨i0, i1, i2, i3, i4, i5⟩ := (HKR.out.below KA HKR.out.lt).facts
  go_wp2_with fail
  refine Calls.mono (CF.out n2 a2 d2 X2 Y2 c2 e2 _ s2 r2 q2) ?_
  rintro e w2 ⟨n3, a3, X3, c3, d3, Y3, e3, rfl, s3, r3, q3, b2⟩
  have KB := below_next KA (Nat.le_refl _) b2
  obtain ⟨p0, p1, p2⟩ := keep3 HK1.out KB
  obtain ⟨i0, i1, i2, i3, i4, i5⟩ := (HKR.out.below KB HKR.out.lt).facts
  go_wp2_with fail
  refine Calls.mono (CR.out n3 a3 d3 X3 Y3 c3 e3 _ s3 r3 q3) ?_
  rintro e w3 ⟨n4, a4, X4, c4, d4, Y4, e4, rfl, s4, r4, q4, b3⟩
  have KC := below_next KB (Nat.le_refl _) b3
  obtain ⟨p0, p1, p2⟩ := keep3 HK1.out KC
  obtain ⟨i0, i1, i2, i3, i4, i5⟩ := (HKR.out.below KC HKR.out.lt).facts
  obtain ⟨Z, hZ, u0, u1, u2, hG⟩ := fin_any (n := n4) (a := a4) (d := d4) (ca := c4) (cd := e4) (w := w) (HKR.out.below KC HKR.out.lt) (by omega) (HB0.out.trans (KC.mono HB0.out.size)) s4 r4 q4
  have HZ := Lib.hid hZ
  have HF := Lib.hid (And.intro u0 (And.intro u1 u2))
  have HG := Lib.hid hG
  clear hZ u0 u1 u2 hG CH CF CR r2 q2 r3 q3 r4 q4
  go_wp2_with fail
  rw [HZ.out]
  obtain ⟨u0, u1, u2⟩ := HF.out
  exact bodyPost_ret (by simp [results, Tryz.results99, go_sem, u0, u1, u2]) rfl HG.out

set_option maxRecDepth 10000 in
set_option maxHeartbeats 1600000 in
/-- what is reckoned of one -/
theorem frac_ofOne_half (S T T' U : Shape) (cH : Fn1 68 S T) (cF : Fn1 100 T T') (cR : Fn1 119 T' U) : Fo1 99 100 S U := by
  intro n a d A D ca cd w hS h h'
  obtain ⟨W, hW, k1, kr, b0, s0⟩ := bx2 w 26 26 (.bool n) (.slice A a.length ca) (.slice D d.length cd) (.bool false) (.slice none 0 0) (.slice none 0 0)
  obtain ⟨p0, p1, p2, -, -, -⟩ := k1.facts
  have h := h.on b0
  have h' := h'.on b0
  obtain ⟨i0, i1, i2, i3, i4, i5⟩ := kr.facts
  have K0 : Below W.heap.size W W.drew := below_drewN (Below.refl _ _) 1
  have KI : Below W.heap.size W W := Below.refl _ _
  have HK1 := Lib.hid k1
  have HKR := Lib.hid kr
  have HB0 := Lib.hid b0
  have hlt : w.heap.size + 1 < W.heap.size := by omega
  have CH := Lib.hid cH
  have CF := Lib.hid cF
  have CR := Lib.hid cR
  clear cH cF cR
  clear k1 kr b0
  go_enter Tryz.func99, Tryz.ntmps99
  go_wp2_with fail
  try rw [hW]
  clear hW
  refine Calls.mono (CH.out n a d A D ca cd _ hS (h.on KI) (h'.on KI)) ?_
  rintro e w1 ⟨n2, a2, X2, c2, d2, Y2, e2, rfl, s2, r2, q2, b1⟩
  have KA := below_next KI (Nat.le_refl _) b1
  obtain ⟨p0, p1, p2⟩ := keep3 HK1.out KA
  obtain ⟨i0, i1, i2, i3, i4, i5⟩ := (HKR.out.below KA HKR.out.lt).facts
  go_wp2_with fail
  refine Calls.mono (CF.out n2 a2 d2 X2 Y2 c2 e2 _ s2 r2 q2) ?_
  rintro e w2 ⟨n3, a3, X3, c3, d3, Y3, e3, rfl, s3, r3, q3, b2⟩
  have KB := below_next KA (Nat.le_refl _) b2
  obtain ⟨p0, p1, p2⟩ := keep3 HK1.out KB
  obtain ⟨i0, i1, i2, i3, i4, i5⟩ := (HKR.out.below KB HKR.out.lt).facts
  go_wp2_with fail
  refine Calls.mono (CR.out n3 a3 d3 X3 Y3 c3 e3 _ s3 r3 q3) ?_
  rintro e w3 ⟨n4, a4, X4, c4, d4, Y4, e4, rfl, s4, r4, q4, b3⟩
  have KC := below_next KB (Nat.le_refl _) b3
  obtain ⟨p0, p1, p2⟩ := keep3 HK1.out KC
  obtain ⟨i0, i1, i2, i3, i4, i5⟩ := (HKR.out.below KC HKR.out.lt).facts
  obtain ⟨Z, hZ, u0, u1, u2, hG⟩ := fin_any (n := n4) (a := a4) (d := d4) (ca := c4) (cd := e4) (w := w) (HKR.out.below KC HKR.out.lt) (by omega) (HB0.out.trans (KC.mono HB0.out.size)) s4 r4 q4
  have HZ := Lib.hid hZ
  have HF := Lib.hid (And.intro u0 (And.intro u1 u2))
  have HG := Lib.hid hG
  clear hZ u0 u1 u2 hG CH CF CR r2 q2 r3 q3 r4 q4
  go_wp2_with fail
  rw [HZ.out]
  obtain ⟨u0, u1, u2⟩ := HF.out
  exact bodyPost_ret (by simp [results, Tryz.results99, go_sem, u0, u1, u2]) rfl HG.out

set_option maxRecDepth 10000 in
set_option maxHeartbeats 1600000 in
/-- what is reckoned of two -/
theorem frac_ofTwo_plus (S S' T T' V U : Shape) (cH : Fn1 68 S T) (cH' : Fn1 68 S' T') (cF : Fn2 102 T T' V) (cR : Fn1 119 V U) : Fo2 101 102 S S' U := by
  intro n n' a d a' d' A D A' D' ca cd ca' cd' w hS hT h h' q q'
  obtain ⟨W, hW, k1, k2, kr, b0, s0⟩ := bx3 w 26 26 26 (.bool n) (.slice A a.length ca) (.slice D d.length cd) (.bool n') (.slice A' a'.length ca') (.slice D' d'.length cd') (.bool false) (.slice none 0 0) (.slice none 0 0)
  obtain ⟨p0, p1, p2, -, -, -⟩ := k1.facts
  obtain ⟨z0, z1, z2, -, -, -⟩ := k2.facts
  have h := h.on b0
  have h' := h'.on b0
  have q := q.on b0
  have q' := q'.on b0
  obtain ⟨i0, i1, i2, i3, i4, i5⟩ := kr.facts
  have K0 : Below W.heap.size W W.drew := below_drewN (Below.refl _ _) 1
  have KI : Below W.heap.size W W := Below.refl _ _
  have HK1 := Lib.hid k1
  have HK2 := Lib.hid k2
  have HKR := Lib.hid kr
  have HB0 := Lib.hid b0
  have hlt : w.heap.size + 2 < W.heap.size := by omega
  have CH := Lib.hid cH
  have CI := Lib.hid cH'
  have CF := Lib.hid cF
  have CR := Lib.hid cR
  clear cH cH' cF cR
  clear k1 k2 kr b0
  go_enter Tryz.func101, Tryz.ntmps101
  go_wp2_with fail
  try rw [hW]
  clear hW
  go_region_held3 (fun w' => (w'.cell? ⟨w.heap.size, 0, none⟩ = some (.bool n) ∧ w'.cell? ⟨w.heap.size, 1, none⟩ = some (.slice A a.length ca) ∧ w'.cell? ⟨w.heap.size, 2, none⟩ = some (.slice D d.length cd)) ∧ (w'.cell? ⟨w.heap.size + 1, 0, none⟩ = some (.bool n') ∧ w'.cell? ⟨w.heap.size + 1, 1, none⟩ = some (.slice A' a'.length ca') ∧ w'.cell? ⟨w.heap.size + 1, 2, none⟩ = some (.slice D' d'.length cd')))
    (first | (with_reducible exact ⟨keep3 HK1.out K0, keep3 HK2.out K0⟩) | (with_reducible exact ⟨keep3 HK1.out KA, keep3 HK2.out KA⟩) | (with_reducible exact ⟨keep3 HK1.out KB, keep3 HK2.out KB⟩) | (with_reducible exact ⟨keep3 HK1.out KC, keep3 HK2.out KC⟩) | (with_reducible exact ⟨keep3 HK1.out KD, keep3 HK2.out KD⟩) | (with_reducible exact ⟨far_cells (HK1.out.below KD HK1.out.lt) (by omega) _ _ _, far_cells (HK2.out.below KD HK2.out.lt) (by omega) _ _ _⟩) | go_keep)
    ((first
      | (go_at_call_of 68 (Value.slice A a.length ca); (with_reducible refine Calls.mono (CH.out n a d A D ca cd _ hS (h.on K0) (h'.on K0)) ?_); rintro e w1 ⟨n2, a2, X2, c2, d2, Y2, e2, rfl, s2, r2, q2, b1⟩; have KA := below_next K0 (Nat.le_refl _) b1)
      | (go_at_call_of 68 (Value.slice A' a'.length ca'); (with_reducible refine Calls.mono (CI.out n' a' d' A' D' ca' cd' _ hT (q.on KA) (q'.on KA)) ?_); rintro e w2 ⟨n3, a3, X3, c3, d3, Y3, e3, rfl, s3, r3, q3, b2⟩; have KB := below_next KA (Nat.le_refl _) b2)
      | (go_at_call 102; (with_reducible refine Calls.mono (CF.out n2 n3 a2 d2 a3 d3 X2 Y2 X3 Y3 c2 e2 c3 e3 _ s2 s3 (r2.on b2) (q2.on b2) r3 q3) ?_); rintro e w3 ⟨n4, a4, X4, c4, d4, Y4, e4, rfl, s4, r4, q4, b3⟩; have KC := below_next KB (Nat.le_refl _) b3)
      | (go_at_call 119; (with_reducible refine Calls.mono (CR.out n4 a4 d4 X4 Y4 c4 e4 _ s4 r4 q4) ?_); rintro e w4 ⟨n5, a5, X5, c5, d5, Y5, e5, rfl, s5, r5, q5, b4⟩; have KD := below_next KC (Nat.le_refl _) b4; obtain ⟨i0, i1, i2, i3, i4, i5⟩ := (HKR.out.below KD HKR.out.lt).facts)))
  obtain ⟨Z, hZ, u0, u1, u2, hG⟩ := fin_any (n := n5) (a := a5) (d := d5) (ca := c5) (cd := e5) (w := w) (HKR.out.below KD HKR.out.lt) (by omega) (HB0.out.trans (KD.mono HB0.out.size)) s5 r5 q5
  have HZ := Lib.hid hZ
  have HF := Lib.hid (And.intro u0 (And.intro u1 u2))
  have HG := Lib.hid hG
  clear hZ u0 u1 u2 hG i0 i1 i2 i3 i4 i5 CH CI CF CR r2 q2 r3 q3 r4 q4 r5 q5
  go_wp2_with fail
  rw [HZ.out]
  obtain ⟨u0, u1, u2⟩ := HF.out
  exact bodyPost_ret (by simp [results, Tryz.results101, go_sem, u0, u1, u2]) rfl HG.out

set_option maxRecDepth 10000 in
set_option maxHeartbeats 1600000 in
/-- what is reckoned of two -/
theorem frac_ofTwo_minus (S S' T T' V U : Shape) (cH : Fn1 68 S T) (cH' : Fn1 68 S' T') (cF : Fn2 108 T T' V) (cR : Fn1 119 V U) : Fo2 101 108 S S' U := by
  intro n n' a d a' d' A D A' D' ca cd ca' cd' w hS hT h h' q q'
  obtain ⟨W, hW, k1, k2, kr, b0, s0⟩ := bx3 w 26 26 26 (.bool n) (.slice A a.length ca) (.slice D d.length cd) (.bool n') (.slice A' a'.length ca') (.slice D' d'.length cd') (.bool false) (.slice none 0 0) (.slice none 0 0)
  obtain ⟨p0, p1, p2, -, -, -⟩ := k1.facts
  obtain ⟨z0, z1, z2, -, -, -⟩ := k2.facts
  have h := h.on b0
  have h' := h'.on b0
  have q := q.on b0
  have q' := q'.on b0
  obtain ⟨i0, i1, i2, i3, i4, i5⟩ := kr.facts
  have K0 : Below W.heap.size W W.drew := below_drewN (Below.refl _ _) 1
  have KI : Below W.heap.size W W := Below.refl _ _
  have HK1 := Lib.hid k1
  have HK2 := Lib.hid k2
  have HKR := Lib.hid kr
  have HB0 := Lib.hid b0
  have hlt : w.heap.size + 2 < W.heap.size := by omega
  have CH := Lib.hid cH
  have CI := Lib.hid cH'
  have CF := Lib.hid cF
  have CR := Lib.hid cR
  clear cH cH' cF cR
  clear k1 k2 kr b0
  go_enter Tryz.func101, Tryz.ntmps101
  go_wp2_with fail
  try rw [hW]
  clear hW
  go_region_held3 (fun w' => (w'.cell? ⟨w.heap.size, 0, none⟩ = some (.bool n) ∧ w'.cell? ⟨w.heap.size, 1, none⟩ = some (.slice A a.length ca) ∧ w'.cell? ⟨w.heap.size, 2, none⟩ = some (.slice D d.length cd)) ∧ (w'.cell? ⟨w.heap.size + 1, 0, none⟩ = some (.bool n') ∧ w'.cell? ⟨w.heap.size + 1, 1, none⟩ = some (.slice A' a'.length ca') ∧ w'.cell? ⟨w.heap.size + 1, 2, none⟩ = some (.slice D' d'.length cd')))
    (first | (with_reducible exact ⟨keep3 HK1.out K0, keep3 HK2.out K0⟩) | (with_reducible exact ⟨keep3 HK1.out KA, keep3 HK2.out KA⟩) | (with_reducible exact ⟨keep3 HK1.out KB, keep3 HK2.out KB⟩) | (with_reducible exact ⟨keep3 HK1.out KC, keep3 HK2.out KC⟩) | (with_reducible exact ⟨keep3 HK1.out KD, keep3 HK2.out KD⟩) | (with_reducible exact ⟨far_cells (HK1.out.below KD HK1.out.lt) (by omega) _ _ _, far_cells (HK2.out.below KD HK2.out.lt) (by omega) _ _ _⟩) | go_keep)
    ((first
      | (go_at_call_of 68 (Value.slice A a.length ca); (with_reducible refine Calls.mono (CH.out n a d A D ca cd _ hS (h.on K0) (h'.on K0)) ?_); rintro e w1 ⟨n2, a2, X2, c2, d2, Y2, e2, rfl, s2, r2, q2, b1⟩; have KA := below_next K0 (Nat.le_refl _) b1)
      | (go_at_call_of 68 (Value.slice A' a'.length ca'); (with_reducible refine Calls.mono (CI.out n' a' d' A' D' ca' cd' _ hT (q.on KA) (q'.on KA)) ?_); rintro e w2 ⟨n3, a3, X3, c3, d3, Y3, e3, rfl, s3, r3, q3, b2⟩; have KB := below_next KA (Nat.le_refl _) b2)
      | (go_at_call 108; (with_reducible refine Calls.mono (CF.out n2 n3 a2 d2 a3 d3 X2 Y2 X3 Y3 c2 e2 c3 e3 _ s2 s3 (r2.on b2) (q2.on b2) r3 q3) ?_); rintro e w3 ⟨n4, a4, X4, c4, d4, Y4, e4, rfl, s4, r4, q4, b3⟩; have KC := below_next KB (Nat.le_refl _) b3)
      | (go_at_call 119; (with_reducible refine Calls.mono (CR.out n4 a4 d4 X4 Y4 c4 e4 _ s4 r4 q4) ?_); rintro e w4 ⟨n5, a5, X5, c5, d5, Y5, e5, rfl, s5, r5, q5, b4⟩; have KD := below_next KC (Nat.le_refl _) b4; obtain ⟨i0, i1, i2, i3, i4, i5⟩ := (HKR.out.below KD HKR.out.lt).facts)))
  obtain ⟨Z, hZ, u0, u1, u2, hG⟩ := fin_any (n := n5) (a := a5) (d := d5) (ca := c5) (cd := e5) (w := w) (HKR.out.below KD HKR.out.lt) (by omega) (HB0.out.trans (KD.mono HB0.out.size)) s5 r5 q5
  have HZ := Lib.hid hZ
  have HF := Lib.hid (And.intro u0 (And.intro u1 u2))
  have HG := Lib.hid hG
  clear hZ u0 u1 u2 hG i0 i1 i2 i3 i4 i5 CH CI CF CR r2 q2 r3 q3 r4 q4 r5 q5
  go_wp2_with fail
  rw [HZ.out]
  obtain ⟨u0, u1, u2⟩ := HF.out
  exact bodyPost_ret (by simp [results, Tryz.results101, go_sem, u0, u1, u2]) rfl HG.out

set_option maxRecDepth 10000 in
set_option maxHeartbeats 1600000 in
/-- what is reckoned of two -/
theorem frac_ofTwo_times (S S' T T' V U : Shape) (cH : Fn1 68 S T) (cH' : Fn1 68 S' T') (cF : Fn2 107 T T' V) (cR : Fn1 119 V U) : Fo2 101 107 S S' U := by
  intro n n' a d a' d' A D A' D' ca cd ca' cd' w hS hT h h' q q'
  obtain ⟨W, hW, k1, k2, kr, b0, s0⟩ := bx3 w 26 26 26 (.bool n) (.slice A a.length ca) (.slice D d.length cd) (.bool n') (.slice A' a'.length ca') (.slice D' d'.length cd') (.bool false) (.slice none 0 0) (.slice none 0 0)
  obtain ⟨p0, p1, p2, -, -, -⟩ := k1.facts
  obtain ⟨z0, z1, z2, -, -, -⟩ := k2.facts
  have h := h.on b0
  have h' := h'.on b0
  have q := q.on b0
  have q' := q'.on b0
  obtain ⟨i0, i1, i2, i3, i4, i5⟩ := kr.facts
  have K0 : Below W.heap.size W W.drew := below_drewN (Below.refl _ _) 1
  have KI : Below W.heap.size W W := Below.refl _ _
  have HK1 := Lib.hid k1
  have HK2 := Lib.hid k2
  have HKR := Lib.hid kr
  have HB0 := Lib.hid b0
  have hlt : w.heap.size + 2 < W.heap.size := by omega
  have CH := Lib.hid cH
  have CI := Lib.hid cH'
  have CF := Lib.hid cF
  have CR := Lib.hid cR
  clear cH cH' cF cR
  clear k1 k2 kr b0
  go_enter Tryz.func101, Tryz.ntmps101
  go_wp2_with fail
  try rw [hW]
  clear hW
  go_region_held3 (fun w' => (w'.cell? ⟨w.heap.size, 0, none⟩ = some (.bool n) ∧ w'.cell? ⟨w.heap.size, 1, none⟩ = some (.slice A a.length ca) ∧ w'.cell? ⟨w.heap.size, 2, none⟩ = some (.slice D d.length cd)) ∧ (w'.cell? ⟨w.heap.size + 1, 0, none⟩ = some (.bool n') ∧ w'.cell? ⟨w.heap.size + 1, 1, none⟩ = some (.slice A' a'.length ca') ∧ w'.cell? ⟨w.heap.size + 1, 2, none⟩ = some (.slice D' d'.length cd')))
    (first | (with_reducible exact ⟨keep3 HK1.out K0, keep3 HK2.out K0⟩) | (with_reducible exact ⟨keep3 HK1.out KA, keep3 HK2.out KA⟩) | (with_reducible exact ⟨keep3 HK1.out KB, keep3 HK2.out KB⟩) | (with_reducible exact ⟨keep3 HK1.out KC, keep3 HK2.out KC⟩) | (with_reducible exact ⟨keep3 HK1.out KD, keep3 HK2.out KD⟩) | (with_reducible exact ⟨far_cells (HK1.out.below KD HK1.out.lt) (by omega) _ _ _, far_cells (HK2.out.below KD HK2.out.lt) (by omega) _ _ _⟩) | go_keep)
    ((first
      | (go_at_call_of 68 (Value.slice A a.length ca); (with_reducible refine Calls.mono (CH.out n a d A D ca cd _ hS (h.on K0) (h'.on K0)) ?_); rintro e w1 ⟨n2, a2, X2, c2, d2, Y2, e2, rfl, s2, r2, q2, b1⟩; have KA := below_next K0 (Nat.le_refl _) b1)
      | (go_at_call_of 68 (Value.slice A' a'.length ca'); (with_reducible refine Calls.mono (CI.out n' a' d' A' D' ca' cd' _ hT (q.on KA) (q'.on KA)) ?_); rintro e w2 ⟨n3, a3, X3, c3, d3, Y3, e3, rfl, s3, r3, q3, b2⟩; have KB := below_next KA (Nat.le_refl _) b2)
      | (go_at_call 107; (with_reducible refine Calls.mono (CF.out n2 n3 a2 d2 a3 d3 X2 Y2 X3 Y3 c2 e2 c3 e3 _ s2 s3 (r2.on b2) (q2.on b2) r3 q3) ?_); rintro e w3 ⟨n4, a4, X4, c4, d4, Y4, e4, rfl, s4, r4, q4, b3⟩; have KC := below_next KB (Nat.le_refl _) b3)
      | (go_at_call 119; (with_reducible refine Calls.mono (CR.out n4 a4 d4 X4 Y4 c4 e4 _ s4 r4 q4) ?_); rintro e w4 ⟨n5, a5, X5, c5, d5, Y5, e5, rfl, s5, r5, q5, b4⟩; have KD := below_next KC (Nat.le_refl _) b4; obtain ⟨i0, i1, i2, i3, i4, i5⟩ := (HKR.out.below KD HKR.out.lt).facts)))
  obtain ⟨Z, hZ, u0, u1, u2, hG⟩ := fin_any (n := n5) (a := a5) (d := d5) (ca := c5) (cd := e5) (w := w) (HKR.out.below KD HKR.out.lt) (by omega) (HB0.out.trans (KD.mono HB0.out.size)) s5 r5 q5
  have HZ := Lib.hid hZ
  have HF := Lib.hid (And.intro u0 (And.intro u1 u2))
  have HG := Lib.hid hG
  clear hZ u0 u1 u2 hG i0 i1 i2 i3 i4 i5 CH CI CF CR r2 q2 r3 q3 r4 q4 r5 q5
  go_wp2_with fail
  rw [HZ.out]
  obtain ⟨u0, u1, u2⟩ := HF.out
  exact bodyPost_ret (by simp [results, Tryz.results101, go_sem, u0, u1, u2]) rfl HG.out
end Go.Proofs.YtkgedgaddpojkaaGreatDoor
/- Fractions: what the program's own Neg, Half, Add, Sub and Mul answer. -/

namespace Go.Proofs.YtkgedgaddpojkaaGreatDoor
open Go.RowKit Num

theorem frac_Reduce (P : Int) (Q m : Nat) (hQ : 0 < Q) (hm1 : 1 ≤ m) (hm : m ≤ 4194304) : Fn1 83 (SI P Q m) (SF P Q) :=
  frac_Reduce_gen _ _ _ (frac_hold P Q m hm1 hm) ((ratio_reduced P Q m hQ hm).imp (fun _ _ _ _ _ => SH.toR hQ) fun _ _ _ _ _ h => h)

set_option maxRecDepth 10000 in
set_option maxHeartbeats 1600000 in
/-- of one -/
theorem frac_Half_gen (S U : Shape) (cO : Fo1 99 100 S U) : Fn1 73 S U := by
  intro n a d A D ca cd w hS h h'
  obtain ⟨W, hW, k1, kr, b0, s0⟩ := bx2 w 26 26 (.bool n) (.slice A a.length ca) (.slice D d.length cd) (.bool false) (.slice none 0 0) (.slice none 0 0)
  obtain ⟨p0, p1, p2, -, -, -⟩ := k1.facts
  have h := h.on b0
  have h' := h'.on b0
  obtain ⟨i0, i1, i2, i3, i4, i5⟩ := kr.facts
  have K0 : Below W.heap.size W W.drew := below_drewN (Below.refl _ _) 1
  have KI : Below W.heap.size W W := Below.refl _ _
  have HK1 := Lib.hid k1
  have HKR := Lib.hid kr
  have HB0 := Lib.hid b0
  have hlt : w.heap.size + 1 < W.heap.size := by omega
  have CO := Lib.hid cO
  clear cO
  clear k1 kr b0
  go_enter Tryz.func73, Tryz.ntmps73
  go_wp2_with fail
  try rw [hW]
  clear hW
  refine Calls.mono (CO.out n a d A D ca cd _ hS (h.on KI) (h'.on KI)) ?_
  rintro e w1 ⟨n2, a2, X2, c2, d2, Y2, e2, rfl, s2, r2, q2, b1⟩
  have KA := below_next KI (Nat.le_refl _) b1
  obtain ⟨p0, p1, p2⟩ := keep3 HK1.out KA
  obtain ⟨i0, i1, i2, i3, i4, i5⟩ := (HKR.out.below KA HKR.out.lt).facts
  obtain ⟨Z, hZ, u0, u1, u2, hG⟩ := fin_any (n := n2) (a := a2) (d := d2) (ca := c2) (cd := e2) (w := w) (HKR.out.below KA HKR.out.lt) (by omega) (HB0.out.trans (KA.mono HB0.out.size)) s2 r2 q2
  have HZ := Lib.hid hZ
  have HF := Lib.hid (And.intro u0 (And.intro u1 u2))
  have HG := Lib.hid hG
  clear hZ u0 u1 u2 hG CO r2 q2
  go_wp2_with fail
  rw [HZ.out]
  obtain ⟨u0, u1, u2⟩ := HF.out
  exact bodyPost_ret (by simp [results, Tryz.results73, go_sem, u0, u1, u2]) rfl HG.out

set_option maxRecDepth 10000 in
set_option maxHeartbeats 1600000 in
/-- of two -/
theorem frac_Add_gen (S T U : Shape) (cO : Fo2 101 102 S T U) : Fn2 74 S T U := by
  intro n n' a d a' d' A D A' D' ca cd ca' cd' w hS hT h h' q q'
  obtain ⟨W, hW, k1, k2, kr, b0, s0⟩ := bx3 w 26 26 26 (.bool n) (.slice A a.length ca) (.slice D d.length cd) (.bool n') (.slice A' a'.length ca') (.slice D' d'.length cd') (.bool false) (.slice none 0 0) (.slice none 0 0)
  obtain ⟨p0, p1, p2, -, -, -⟩ := k1.facts
  obtain ⟨z0, z1, z2, -, -, -⟩ := k2.facts
  have h := h.on b0
  have h' := h'.on b0
  have q := q.on b0
  have q' := q'.on b0
  obtain ⟨i0, i1, i2, i3, i4, i5⟩ := kr.facts
  have K0 : Below W.heap.size W W.drew := below_drewN (Below.refl _ _) 1
  have KI : Below W.heap.size W W := Below.refl _ _
  have HK1 := Lib.hid k1
  have HK2 := Lib.hid k2
  have HKR := Lib.hid kr
  have HB0 := Lib.hid b0
  have hlt : w.heap.size + 2 < W.heap.size := by omega
  have CO := Lib.hid cO
  clear cO
  clear k1 k2 kr b0
  go_enter Tryz.func74, Tryz.ntmps74
  go_wp2_with fail
  try rw [hW]
  clear hW
  refine Calls.mono (CO.out n n' a d a' d' A D A' D' ca cd ca' cd' _ hS hT (h.on KI) (h'.on KI) (q.on KI) (q'.on KI)) ?_
  rintro e w1 ⟨n2, a2, X2, c2, d2, Y2, e2, rfl, s2, r2, q2, b1⟩
  have KA := below_next KI (Nat.le_refl _) b1
  obtain ⟨p0, p1, p2⟩ := keep3 HK1.out KA
  obtain ⟨z0, z1, z2⟩ := keep3 HK2.out KA
  obtain ⟨i0, i1, i2, i3, i4, i5⟩ := (HKR.out.below KA HKR.out.lt).facts
  obtain ⟨Z, hZ, u0, u1, u2, hG⟩ := fin_any (n := n2) (a := a2) (d := d2) (ca := c2) (cd := e2) (w := w) (HKR.out.below KA HKR.out.lt) (by omega) (HB0.out.trans (KA.mono HB0.out.size)) s2 r2 q2
  have HZ := Lib.hid hZ
  have HF := Lib.hid (And.intro u0 (And.intro u1 u2))
  have HG := Lib.hid hG
  clear hZ u0 u1 u2 hG CO r2 q2
  go_wp2_with fail
  rw [HZ.out]
  obtain ⟨u0, u1, u2⟩ := HF.out
  exact bodyPost_ret (by simp [results, Tryz.results74, go_sem, u0, u1, u2]) rfl HG.out

set_option maxRecDepth 10000 in
set_option maxHeartbeats 1600000 in
/-- of two -/
theorem frac_Sub_gen (S T U : Shape) (cO : Fo2 101 108 S T U) : Fn2 80 S T U := by
  intro n n' a d a' d' A D A' D' ca cd ca' cd' w hS hT h h' q q'
  obtain ⟨W, hW, k1, k2, kr, b0, s0⟩ := bx3 w 26 26 26 (.bool n) (.slice A a.length ca) (.slice D d.length cd) (.bool n') (.slice A' a'.length ca') (.slice D' d'.length cd') (.bool false) (.slice none 0 0) (.slice none 0 0)
  obtain ⟨p0, p1, p2, -, -, -⟩ := k1.facts
  obtain ⟨z0, z1, z2, -, -, -⟩ := k2.facts
  have h := h.on b0
  have h' := h'.on b0
  have q := q.on b0
  have q' := q'.on b0
  obtain ⟨i0, i1, i2, i3, i4, i5⟩ := kr.facts
  have K0 : Below W.heap.size W W.drew := below_drewN (Below.refl _ _) 1
  have KI : Below W.heap.size W W := Below.refl _ _
  have HK1 := Lib.hid k1
  have HK2 := Lib.hid k2
  have HKR := Lib.hid kr
  have HB0 := Lib.hid b0
  have hlt : w.heap.size + 2 < W.heap.size := by omega
  have CO := Lib.hid cO
  clear cO
  clear k1 k2 kr b0
  go_enter Tryz.func80, Tryz.ntmps80
  go_wp2_with fail
  try rw [hW]
  clear hW
  refine Calls.mono (CO.out n n' a d a' d' A D A' D' ca cd ca' cd' _ hS hT (h.on KI) (h'.on KI) (q.on KI) (q'.on KI)) ?_
  rintro e w1 ⟨n2, a2, X2, c2, d2, Y2, e2, rfl, s2, r2, q2, b1⟩
  have KA := below_next KI (Nat.le_refl _) b1
  obtain ⟨p0, p1, p2⟩ := keep3 HK1.out KA
  obtain ⟨z0, z1, z2⟩ := keep3 HK2.out KA
  obtain ⟨i0, i1, i2, i3, i4, i5⟩ := (HKR.out.below KA HKR.out.lt).facts
  obtain ⟨Z, hZ, u0, u1, u2, hG⟩ := fin_any (n := n2) (a := a2) (d := d2) (ca := c2) (cd := e2) (w := w) (HKR.out.below KA HKR.out.lt) (by omega) (HB0.out.trans (KA.mono HB0.out.size)) s2 r2 q2
  have HZ := Lib.hid hZ
  have HF := Lib.hid (And.intro u0 (And.intro u1 u2))
  have HG := Lib.hid hG
  clear hZ u0 u1 u2 hG CO r2 q2
  go_wp2_with fail
  rw [HZ.out]
  obtain ⟨u0, u1, u2⟩ := HF.out
  exact bodyPost_ret (by simp [results, Tryz.results80, go_sem, u0, u1, u2]) rfl HG.out

set_option maxRecDepth 10000 in
set_option maxHeartbeats 1600000 in
/-- of two -/
theorem frac_Mul_gen (S T U : Shape) (cO : Fo2 101 107 S T U) : Fn2 79 S T U := by
  intro n n' a d a' d' A D A' D' ca cd ca' cd' w hS hT h h' q q'
  obtain ⟨W, hW, k1, k2, kr, b0, s0⟩ := bx3 w 26 26 26 (.bool n) (.slice A a.length ca) (.slice D d.length cd) (.bool n') (.slice A' a'.length ca') (.slice D' d'.length cd') (.bool false) (.slice none 0 0) (.slice none 0 0)
  obtain ⟨p0, p1, p2, -, -, -⟩ := k1.facts
  obtain ⟨z0, z1, z2, -, -, -⟩ := k2.facts
  have h := h.on b0
  have h' := h'.on b0
  have q := q.on b0
  have q' := q'.on b0
  obtain ⟨i0, i1, i2, i3, i4, i5⟩ := kr.facts
  have K0 : Below W.heap.size W W.drew := below_drewN (Below.refl _ _) 1
  have KI : Below W.heap.size W W := Below.refl _ _
  have HK1 := Lib.hid k1
  have HK2 := Lib.hid k2
  have HKR := Lib.hid kr
  have HB0 := Lib.hid b0
  have hlt : w.heap.size + 2 < W.heap.size := by omega
  have CO := Lib.hid cO
  clear cO
  clear k1 k2 kr b0
  go_enter Tryz.func79, Tryz.ntmps79
  go_wp2_with fail
  try rw [hW]
  clear hW
  refine Calls.mono (CO.out n n' a d a' d' A D A' D' ca cd ca' cd' _ hS hT (h.on KI) (h'.on KI) (q.on KI) (q'.on KI)) ?_
  rintro e w1 ⟨n2, a2, X2, c2, d2, Y2, e2, rfl, s2, r2, q2, b1⟩
  have KA := below_next KI (Nat.le_refl _) b1
  obtain ⟨p0, p1, p2⟩ := keep3 HK1.out KA
  obtain ⟨z0, z1, z2⟩ := keep3 HK2.out KA
  obtain ⟨i0, i1, i2, i3, i4, i5⟩ := (HKR.out.below KA HKR.out.lt).facts
  obtain ⟨Z, hZ, u0, u1, u2, hG⟩ := fin_any (n := n2) (a := a2) (d := d2) (ca := c2) (cd := e2) (w := w) (HKR.out.below KA HKR.out.lt) (by omega) (HB0.out.trans (KA.mono HB0.out.size)) s2 r2 q2
  have HZ := Lib.hid hZ
  have HF := Lib.hid (And.intro u0 (And.intro u1 u2))
  have HG := Lib.hid hG
  clear hZ u0 u1 u2 hG CO r2 q2
  go_wp2_with fail
  rw [HZ.out]
  obtain ⟨u0, u1, u2⟩ := HF.out
  exact bodyPost_ret (by simp [results, Tryz.results79, go_sem, u0, u1, u2]) rfl HG.out

theorem hold_R (P : Int) (Q m : Nat) (hQ : 0 < Q) (hm1 : 1 ≤ m) (hm : m ≤ 4194304) : Fn1 68 (SI P Q m) (SR P Q m) :=
  (frac_hold P Q m hm1 hm).imp (fun _ _ _ _ _ h => h) fun _ _ _ _ _ => SH.toR hQ
theorem frac_Half (P : Int) (Q m : Nat) (hQ : 0 < Q) (hm1 : 1 ≤ m) (hm : m ≤ 4194303) : Fn1 73 (SI P Q m) (SF P (Q * 2)) :=
  frac_Half_gen _ _ (frac_ofOne_half _ _ _ _ (hold_R P Q m hQ hm1 (by omega)) (ratio_half P Q m (by omega)) (ratio_reduced P (Q * 2) (m + 1) (by omega) (by omega)))
theorem frac_Add (P P' : Int) (Q Q' m : Nat) (hQ : 0 < Q) (hQ' : 0 < Q') (hm1 : 1 ≤ m) (hm : m ≤ 2097150) : Fn2 74 (SI P Q m) (SI P' Q' m) (SF (P * (Q' : Int) + P' * (Q : Int)) (Q * Q')) :=
  frac_Add_gen _ _ _ (frac_ofTwo_plus _ _ _ _ _ _ (hold_R P Q m hQ hm1 (by omega)) (hold_R P' Q' m hQ' hm1 (by omega)) (ratio_plus P P' Q Q' m hm) (ratio_reduced _ _ _ (Nat.mul_pos hQ hQ') (by omega)))
theorem ratio_minus (P P' : Int) (Q Q' m : Nat) (hm : m ≤ 2097150) : Fn2 108 (SR P Q m) (SR P' Q' m) (SR (P * (Q' : Int) - P' * (Q : Int)) (Q * Q') (m + m + 1)) := by
  have h := ratio_minus_gen _ _ _ _ (ratio_neg P' Q' m (by omega)) (ratio_plus P (-P') Q Q' m hm)
  rwa [Int.neg_mul, ← Int.sub_eq_add_neg] at h
theorem frac_Sub (P P' : Int) (Q Q' m : Nat) (hQ : 0 < Q) (hQ' : 0 < Q') (hm1 : 1 ≤ m) (hm : m ≤ 2097150) : Fn2 80 (SI P Q m) (SI P' Q' m) (SF (P * (Q' : Int) - P' * (Q : Int)) (Q * Q')) :=
  frac_Sub_gen _ _ _ (frac_ofTwo_minus _ _ _ _ _ _ (hold_R P Q m hQ hm1 (by omega)) (hold_R P' Q' m hQ' hm1 (by omega)) (ratio_minus P P' Q Q' m hm) (ratio_reduced _ _ _ (Nat.mul_pos hQ hQ') (by omega)))
theorem frac_Mul (P P' : Int) (Q Q' m : Nat) (hQ : 0 < Q) (hQ' : 0 < Q') (hm1 : 1 ≤ m) (hm : m ≤ 2097152) : Fn2 79 (SI P Q m) (SI P' Q' m) (SF (P * P') (Q * Q')) :=
  frac_Mul_gen _ _ _ (frac_ofTwo_times _ _ _ _ _ _ (hold_R P Q m hQ hm1 (by omega)) (hold_R P' Q' m hQ' hm1 (by omega)) (ratio_times P P' Q Q' m (by omega)) (ratio_reduced _ _ _ (Nat.mul_pos hQ hQ') (by omega)))
end Go.Proofs.YtkgedgaddpojkaaGreatDoor
/- Fractions: what the program's own quotient, Make, Of and Div answer. -/

namespace Go.Proofs.YtkgedgaddpojkaaGreatDoor
open Go.RowKit Num

/-- contracts of what answers a fraction and an error -/
abbrev Fe2 (f : FuncId) (S S' : Shape) (P : Int) (Q : Nat) : Prop := ∀ (n n' : Bool) (a d a' d' : List Nat) (A D A' D' : Option Addr) (ca cd ca' cd' : Nat) (w : World), S n a ca d cd → S' n' a' ca' d' cd' → Rd w (fun g => g < w.heap.size) .u32 A a → Rd w (fun g => g < w.heap.size) .u32 D d → Rd w (fun g => g < w.heap.size) .u32 A' a' → Rd w (fun g => g < w.heap.size) .u32 D' d' → Calls Tryz.prog f #[.agg #[.bool n, .slice A a.length ca, .slice D d.length cd], .agg #[.bool n', .slice A' a'.length ca', .slice D' d'.length cd']] w (GivesFE P Q w)
theorem sgn_zero {N : Int} : sgn N = 0 ↔ N = 0 := by
  unfold sgn
  split
  · omega
  · split <;> omega
theorem across_turn {P P' : Int} {Q Q' : Nat} (hQ : 0 < Q) : P * turnN P' Q' = acrossN (P * (Q' : Int)) (P' * (Q : Int)) ∧ Q * P'.natAbs = (P' * (Q : Int)).natAbs := by
  constructor
  · unfold turnN acrossN
    by_cases h : P' < 0
    · rw [if_pos h, if_pos (Int.mul_neg_of_neg_of_pos h (by omega)), Int.mul_neg]
    · rw [if_neg h, if_neg (by have := Int.mul_nonneg (show 0 ≤ P' by omega) (show (0 : Int) ≤ (Q : Int) by omega); omega)]
  · rw [Int.natAbs_mul, Int.natAbs_natCast, Nat.mul_comm]

end Go.Proofs.YtkgedgaddpojkaaGreatDoor
/- Fractions: what the program's own Make and Of answer. -/

namespace Go.Proofs.YtkgedgaddpojkaaGreatDoor
open Go.RowKit Num

theorem make_same {n n' : Bool} {a d : List Nat} {w w' : World} {e : Ending} (h : GivesFE (acrossN (wv n a * ((1 : Nat) : Int)) (wv n' d * ((1 : Nat) : Int))) (wv n' d * ((1 : Nat) : Int)).natAbs w e w') : GivesFE (wv (!(n == n')) a) (val 4294967296 d) w e w' := by
  have e1 : ((1 : Nat) : Int) = 1 := rfl
  rw [e1, Int.mul_one, Int.mul_one, wv_abs] at h
  rcases Nat.eq_zero_or_pos (val 4294967296 d) with h0 | h0
  · rw [h0] at h ⊢
    rcases h with h | h
    · exact .inl h
    · exact absurd h.1 (by omega)
  · have e2 : acrossN (wv n a) (wv n' d) = wv (!(n == n')) a := by
      unfold acrossN
      cases n' <;> cases n <;> simp [wv] <;> omega
    rwa [e2] at h

end Go.Proofs.YtkgedgaddpojkaaGreatDoor
