/- Fractions: what the program's own minus, Reduce, ofOne and ofTwo answer. -/
import Derived.Test.YtidbpkibjficnaaGreatDoorZFpC
import Derived.Deep.RegionHeld3
import Derived.Test.YtidbpkibjficnaaGreatDoorZFrZ
import Derived.Test.YtidbpkibjficnaaGreatDoorZWhY
namespace Go.Proofs.YtidbpkibjficnaaGreatDoor
open Go.RowKit Num

/-- the contract of what takes a function and one or two fractions -/
abbrev Fo1 (g f : FuncId) (S T : Shape) : Prop := ∀ (n : Bool) (a d : List Nat) (A D : Option Addr) (ca cd : Nat) (w : World), S n a ca d cd → Rd w (fun g => g < w.heap.size) .u32 A a → Rd w (fun g => g < w.heap.size) .u32 D d → Calls Tryz.prog g #[.func (.func f) #[] #[], .agg #[.bool n, .slice A a.length ca, .slice D d.length cd]] w (Gv T w)
abbrev Fo2 (g f : FuncId) (S S' T : Shape) : Prop := ∀ (n n' : Bool) (a d a' d' : List Nat) (A D A' D' : Option Addr) (ca cd ca' cd' : Nat) (w : World), S n a ca d cd → S' n' a' ca' d' cd' → Rd w (fun g => g < w.heap.size) .u32 A a → Rd w (fun g => g < w.heap.size) .u32 D d → Rd w (fun g => g < w.heap.size) .u32 A' a' → Rd w (fun g => g < w.heap.size) .u32 D' d' → Calls Tryz.prog g #[.func (.func f) #[] #[], .agg #[.bool n, .slice A a.length ca, .slice D d.length cd], .agg #[.bool n', .slice A' a'.length ca', .slice D' d'.length cd']] w (Gv T w)

set_option maxRecDepth 10000 in
set_option maxHeartbeats 1600000 in
/-- a difference -/
theorem ratio_minus_gen (S T T' U : Shape) (cN : Fn1 56 T T') (cP : Fn2 47 S T' U) : Fn2 53 S T U := by
  intro n n' a d a' d' A D A' D' ca cd ca' cd' w hS hT h h' q q'
  obtain ⟨W, hW, k1, k2, kr, b0, s0⟩ := bx3 w 63 63 63 (.bool n) (.slice A a.length ca) (.slice D d.length cd) (.bool n') (.slice A' a'.length ca') (.slice D' d'.length cd') (.bool false) (.slice none 0 0) (.slice none 0 0)
  obtain ⟨p0, p1, p2, -, -, -⟩ := k1.facts
  obtain ⟨z0, z1, z2, -, -, -⟩ := k2.facts
  have h := h.on b0
  have h' := h'.on b0
  have q := q.on b0
  have q' := q'.on b0
  obtain ⟨i0, i1, i2, i3, i4, i5⟩ := kr.facts
  have K0 : Below W.heap.size W W.drew := below_drewN (Below.refl _ _) 1
  have KI : Below W.heap.size W W := Below.refl _ _
  have HK1 := Lib.hid k1
  have HK2 := Lib.hid k2
  have HKR := Lib.hid kr
  have HB0 := Lib.hid b0
  have hlt : w.heap.size + 2 < W.heap.size := by omega
  have CN := Lib.hid cN
  have CP := Lib.hid cP
  clear cN cP
  clear k1 k2 kr b0
  go_enter Tryz.func53, Tryz.ntmps53
  go_wp2_with fail
  try rw [hW]
  clear hW
  go_region_held3 (fun w' => (w'.cell? ⟨w.heap.size, 0, none⟩ = some (.bool n) ∧ w'.cell? ⟨w.heap.size, 1, none⟩ = some (.slice A a.length ca) ∧ w'.cell? ⟨w.heap.size, 2, none⟩ = some (.slice D d.length cd)) ∧ (w'.cell? ⟨w.heap.size + 1, 0, none⟩ = some (.bool n') ∧ w'.cell? ⟨w.heap.size + 1, 1, none⟩ = some (.slice A' a'.length ca') ∧ w'.cell? ⟨w.heap.size + 1, 2, none⟩ = some (.slice D' d'.length cd')))
    (first | (with_reducible exact ⟨keep3 HK1.out K0, keep3 HK2.out K0⟩) | (with_reducible exact ⟨keep3 HK1.out KA, keep3 HK2.out KA⟩) | (with_reducible exact ⟨keep3 HK1.out KB, keep3 HK2.out KB⟩) | (with_reducible exact ⟨far_cells (HK1.out.below KB HK1.out.lt) (by omega) _ _ _, far_cells (HK2.out.below KB HK2.out.lt) (by omega) _ _ _⟩) | go_keep)
    ((first
      | (go_at_call 56; (with_reducible refine Calls.mono (CN.out n' a' d' A' D' ca' cd' _ hT (q.on K0) (q'.on K0)) ?_); rintro e w1 ⟨n2, a2, X2, c2, d2, Y2, e2, rfl, s2, r2, q2, b1⟩; have KA := below_next K0 (Nat.le_refl _) b1)
      | (go_at_call 47; (with_reducible refine Calls.mono (CP.out n n2 a d a2 d2 A D X2 Y2 ca cd c2 e2 _ hS s2 (h.on KA) (h'.on KA) r2 q2) ?_); rintro e w2 ⟨n3, a3, X3, c3, d3, Y3, e3, rfl, s3, r3, q3, b2⟩; have KB := below_next KA (Nat.le_refl _) b2; obtain ⟨i0, i1, i2, i3, i4, i5⟩ := (HKR.out.below KB HKR.out.lt).facts)))
  obtain ⟨Z, hZ, u0, u1, u2, hG⟩ := fin_any (n := n3) (a := a3) (d := d3) (ca := c3) (cd := e3) (w := w) (HKR.out.below KB HKR.out.lt) (by omega) (HB0.out.trans (KB.mono HB0.out.size)) s3 r3 q3
  have HZ := Lib.hid hZ
  have HF := Lib.hid (And.intro u0 (And.intro u1 u2))
  have HG := Lib.hid hG
  clear hZ u0 u1 u2 hG i0 i1 i2 i3 i4 i5 CN CP r2 q2 r3 q3
  go_wp2_with fail
  rw [HZ.out]
  obtain ⟨u0, u1, u2⟩ := HF.out
  exact bodyPost_ret (by simp [results, Tryz.results53, go_sem, u0, u1, u2]) rfl HG.out

set_option maxRecDepth 10000 in
set_option maxHeartbeats 1600000 in
/-- reduced -/
theorem frac_Reduce_gen (S T U : Shape) (cH : Fn1 60 S T) (cR : Fn1 67 T U) : Fn1 29 S U := by
  intro n a d A D ca cd w hS h h'
  obtain ⟨W, hW, k1, kr, b0, s0⟩ := bx2 w 26 26 (.bool n) (.slice A a.length ca) (.slice D d.length cd) (.bool false) (.slice none 0 0) (.slice none 0 0)
  obtain ⟨p0, p1, p2, -, -, -⟩ := k1.facts
  have h := h.on b0
  have h' := h'.on b0
  obtain ⟨i0, i1, i2, i3, i4, i5⟩ := kr.facts
  have K0 : Below W.heap.size W W.drew := below_drewN (Below.refl _ _) 1
  have KI : Below W.heap.size W W := Below.refl _ _
  have HK1 := Lib.hid k1
  have HKR := Lib.hid kr
  have HB0 := Lib.hid b0
  have hlt : w.heap.size + 1 < W.heap.size := by omega
  have CH := Lib.hid cH
  have CR := Lib.hid cR
  clear cH cR
  clear k1 kr b0
  go_enter Tryz.func29, Tryz.ntmps29
  go_wp2_with fail
  try rw [hW]
  clear hW
  refine Calls.mono (CH.out n a d A D ca cd _ hS (h.on KI) (h'.on KI)) ?_
  rintro e w1 ⟨n2, a2, X2, c2, d2, Y2, e2, rfl, s2, r2, q2, b1⟩
  have KA := below_next KI (Nat.le_refl _) b1
  obtain ⟨p0, p1, p2⟩ := keep3 HK1.out KA
  obtain ⟨i0, i1, i2, i3, i4, i5⟩ := (HKR.out.below KA HKR.out.lt).facts
  go_wp2_with fail
  refine Calls.mono (CR.out n2 a2 d2 X2 Y2 c2 e2 _ s2 r2 q2) ?_
  rintro e w2 ⟨n3, a3, X3, c3, d3, Y3, e3, rfl, s3, r3, q3, b2⟩
  have KB := below_next KA (Nat.le_refl _) b2
  obtain ⟨p0, p1, p2⟩ := keep3 HK1.out KB
  obtain ⟨i0, i1, i2, i3, i4, i5⟩ := (HKR.out.below KB HKR.out.lt).facts
  obtain ⟨Z, hZ, u0, u1, u2, hG⟩ := fin_any (n := n3) (a := a3) (d := d3) (ca := c3) (cd := e3) (w := w) (HKR.out.below KB HKR.out.lt) (by omega) (HB0.out.trans (KB.mono HB0.out.size)) s3 r3 q3
  have HZ := Lib.hid hZ
  have HF := Lib.hid (And.intro u0 (And.intro u1 u2))
  have HG := Lib.hid hG
  clear hZ u0 u1 u2 hG CH CR r2 q2 r3 q3
  go_wp2_with fail
  rw [HZ.out]
  obtain ⟨u0, u1, u2⟩ := HF.out
  exact bodyPost_ret (by simp [results, Tryz.results29, go_sem, u0, u1, u2]) rfl HG.out

set_option maxRecDepth 10000 in
set_option maxHeartbeats 1600000 in
/-- what is reckoned of one -/
theorem frac_ofOne_neg (S T T' U : Shape) (cH : Fn1 60 S T) (cF : Fn1 56 T T') (cR : Fn1 67 T' U) : Fo1 55 56 S U := by
  intro n a d A D ca cd w hS h h'
  obtain ⟨W, hW, k1, kr, b0, s0⟩ := bx2 w 26 26 (.bool n) (.slice A a.length ca) (.slice D d.length cd) (.bool false) (.slice none 0 0) (.slice none 0 0)
  obtain ⟨p0, p1, p2, -, -, -⟩ := k1.facts
  have h := h.on b0
  have h' := h'.on b0
  obtain ⟨i0, i1, i2, i3, i4, i5⟩ := kr.facts
  have K0 : Below W.heap.size W W.drew := below_drewN (Below.refl _ _) 1
  have KI : Below W.heap.size W W := Below.refl _ _
  have HK1 := Lib.hid k1
  have HKR := Lib.hid kr
  have HB0 := Lib.hid b0
  have hlt : w.heap.size + 1 < W.heap.size := by omega
  have CH := Lib.hid cH
  have CF := Lib.hid cF
  have CR := Lib.hid cR
  clear cH cF cR
  clear k1 kr b0
  go_enter Tryz.func55, Tryz.ntmps55
  go_wp2_with fail
  try rw [hW]
  clear hW
  refine Calls.mono (CH.out n a d A D ca cd _ hS (h.on KI) (h'.on KI)) ?_
  rintro e w1 ⟨n2, a2, X2, c2, d2, Y2, e2, rfl, s2, r2, q2, b1⟩
  have KA := below_next KI (Nat.le_refl _) b1
  obtain ⟨p0, p1, p2⟩ := keep3 HK1.out KA
  obtain ⟨i0, i1, i2, i3, i4, i5⟩ := (HKR.out.below KA HKR.out.lt).facts
  go_wp2_with fail
  refine Calls.mono (CF.out n2 a2 d2 X2 Y2 c2 e2 _ s2 r2 q2) ?_
  rintro e w2 ⟨n3, a3, X3, c3, d3, Y3, e3, rfl, s3, r3, q3, b2⟩
  have KB := below_next KA (Nat.le_refl _) b2
  obtain ⟨p0, p1, p2⟩ := keep3 HK1.out KB
  obtain ⟨i0, i1, i2, i3, i4, i5⟩ := (HKR.out.below KB HKR.out.lt).facts
  go_wp2_with fail
  refine Calls.mono (CR.out n3 a3 d3 X3 Y3 c3 e3 _ s3 r3 q3) ?_
  rintro e w3 ⟨n4, a4, X4, c4, d4, Y4, e4, rfl, s4, r4, q4, b3⟩
  have KC := below_next KB (Nat.le_refl _) b3
  obtain ⟨p0, p1, p2⟩ := keep3 HK1.out KC
  obtain ⟨i0, i1, i2, i3, i4, i5⟩ := (HKR.out.below KC HKR.out.lt).facts
  obtain ⟨Z, hZ, u0, u1, u2, hG⟩ := fin_any (n := n4) (a := a4) (d := d4) (ca := c4) (cd := e4) (w := w) (HKR.out.below KC HKR.out.lt) (by omega) (HB0.out.trans (KC.mono HB0.out.size)) s4 r4 q4
  have HZ := Lib.hid hZ
  have HF := Lib.hid (And.intro u0 (And.intro u1 u2))
  have HG := Lib.hid hG
  clear hZ u0 u1 u2 hG CH CF CR r2 q2 r3 q3 r4 q4
  go_wp2_with fail
  rw [HZ.out]
  obtain ⟨u0, u1, u2⟩ := HF.out
  exact bodyPost_ret (by simp [results, Tryz.results55, go_sem, u0, u1, u2]) rfl HG.out

set_option maxRecDepth 10000 in
set_option maxHeartbeats 1600000 in
/-- what is reckoned of one -/
theorem frac_ofOne_half (S T T' U : Shape) (cH : Fn1 60 S T) (cF : Fn1 58 T T') (cR : Fn1 67 T' U) : Fo1 55 58 S U := by
  intro n a d A D ca cd w hS h h'
  obtain ⟨W, hW, k1, kr, b0, s0⟩ := bx2 w 26 26 (.bool n) (.slice A a.length ca) (.slice D d.length cd) (.bool false) (.slice none 0 0) (.slice none 0 0)
  obtain ⟨p0, p1, p2, -, -, -⟩ := k1.facts
  have h := h.on b0
  have h' := h'.on b0
  obtain ⟨i0, i1, i2, i3, i4, i5⟩ := kr.facts
  have K0 : Below W.heap.size W W.drew := below_drewN (Below.refl _ _) 1
  have KI : Below W.heap.size W W := Below.refl _ _
  have HK1 := Lib.hid k1
  have HKR := Lib.hid kr
  have HB0 := Lib.hid b0
  have hlt : w.heap.size + 1 < W.heap.size := by omega
  have CH := Lib.hid cH
  have CF := Lib.hid cF
  have CR := Lib.hid cR
  clear cH cF cR
  clear k1 kr b0
  go_enter Tryz.func55, Tryz.ntmps55
  go_wp2_with fail
  try rw [hW]
  clear hW
  refine Calls.mono (CH.out n a d A D ca cd _ hS (h.on KI) (h'.on KI)) ?_
  rintro e w1 ⟨n2, a2, X2, c2, d2, Y2, e2, rfl, s2, r2, q2, b1⟩
  have KA := below_next KI (Nat.le_refl _) b1
  obtain ⟨p0, p1, p2⟩ := keep3 HK1.out KA
  obtain ⟨i0, i1, i2, i3, i4, i5⟩ := (HKR.out.below KA HKR.out.lt).facts
  go_wp2_with fail
  refine Calls.mono (CF.out n2 a2 d2 X2 Y2 c2 e2 _ s2 r2 q2) ?_
  rintro e w2 ⟨n3, a3, X3, c3, d3, Y3, e3, rfl, s3, r3, q3, b2⟩
  have KB := below_next KA (Nat.le_refl _) b2
  obtain ⟨p0, p1, p2⟩ := keep3 HK1.out KB
  obtain ⟨i0, i1, i2, i3, i4, i5⟩ := (HKR.out.below KB HKR.out.lt).facts
  go_wp2_with fail
  refine Calls.mono (CR.out n3 a3 d3 X3 Y3 c3 e3 _ s3 r3 q3) ?_
  rintro e w3 ⟨n4, a4, X4, c4, d4, Y4, e4, rfl, s4, r4, q4, b3⟩
  have KC := below_next KB (Nat.le_refl _) b3
  obtain ⟨p0, p1, p2⟩ := keep3 HK1.out KC
  obtain ⟨i0, i1, i2, i3, i4, i5⟩ := (HKR.out.below KC HKR.out.lt).facts
  obtain ⟨Z, hZ, u0, u1, u2, hG⟩ := fin_any (n := n4) (a := a4) (d := d4) (ca := c4) (cd := e4) (w := w) (HKR.out.below KC HKR.out.lt) (by omega) (HB0.out.trans (KC.mono HB0.out.size)) s4 r4 q4
  have HZ := Lib.hid hZ
  have HF := Lib.hid (And.intro u0 (And.intro u1 u2))
  have HG := Lib.hid hG
  clear hZ u0 u1 u2 hG CH CF CR r2 q2 r3 q3 r4 q4
  go_wp2_with fail
  rw [HZ.out]
  obtain ⟨u0, u1, u2⟩ := HF.out
  exact bodyPost_ret (by simp [results, Tryz.results55, go_sem, u0, u1, u2]) rfl HG.out

set_option maxRecDepth 10000 in
set_option maxHeartbeats 1600000 in
/-- what is reckoned of two -/
theorem frac_ofTwo_plus (S S' T T' V U : Shape) (cH : Fn1 60 S T) (cH' : Fn1 60 S' T') (cF : Fn2 47 T T' V) (cR : Fn1 67 V U) : Fo2 46 47 S S' U := by
  intro n n' a d a' d' A D A' D' ca cd ca' cd' w hS hT h h' q q'
  obtain ⟨W, hW, k1, k2, kr, b0, s0⟩ := bx3 w 26 26 26 (.bool n) (.slice A a.length ca) (.slice D d.length cd) (.bool n') (.slice A' a'.length ca') (.slice D' d'.length cd') (.bool false) (.slice none 0 0) (.slice none 0 0)
  obtain ⟨p0, p1, p2, -, -, -⟩ := k1.facts
  obtain ⟨z0, z1, z2, -, -, -⟩ := k2.facts
  have h := h.on b0
  have h' := h'.on b0
  have q := q.on b0
  have q' := q'.on b0
  obtain ⟨i0, i1, i2, i3, i4, i5⟩ := kr.facts
  have K0 : Below W.heap.size W W.drew := below_drewN (Below.refl _ _) 1
  have KI : Below W.heap.size W W := Below.refl _ _
  have HK1 := Lib.hid k1
  have HK2 := Lib.hid k2
  have HKR := Lib.hid kr
  have HB0 := Lib.hid b0
  have hlt : w.heap.size + 2 < W.heap.size := by omega
  have CH := Lib.hid cH
  have CI := Lib.hid cH'
  have CF := Lib.hid cF
  have CR := Lib.hid cR
  clear cH cH' cF cR
  clear k1 k2 kr b0
  go_enter Tryz.func46, Tryz.ntmps46
  go_wp2_with fail
  try rw [hW]
  clear hW
  go_region_held3 (fun w' => (w'.cell? ⟨w.heap.size, 0, none⟩ = some (.bool n) ∧ w'.cell? ⟨w.heap.size, 1, none⟩ = some (.slice A a.length ca) ∧ w'.cell? ⟨w.heap.size, 2, none⟩ = some (.slice D d.length cd)) ∧ (w'.cell? ⟨w.heap.size + 1, 0, none⟩ = some (.bool n') ∧ w'.cell? ⟨w.heap.size + 1, 1, none⟩ = some (.slice A' a'.length ca') ∧ w'.cell? ⟨w.heap.size + 1, 2, none⟩ = some (.slice D' d'.length cd')))
    (first | (with_reducible exact ⟨keep3 HK1.out K0, keep3 HK2.out K0⟩) | (with_reducible exact ⟨keep3 HK1.out KA, keep3 HK2.out KA⟩) | (with_reducible exact ⟨keep3 HK1.out KB, keep3 HK2.out KB⟩) | (with_reducible exact ⟨keep3 HK1.out KC, keep3 HK2.out KC⟩) | (with_reducible exact ⟨keep3 HK1.out KD, keep3 HK2.out KD⟩) | (with_reducible exact ⟨far_cells (HK1.out.below KD HK1.out.lt) (by omega) _ _ _, far_cells (HK2.out.below KD HK2.out.lt) (by omega) _ _ _⟩) | go_keep)
    ((first
      | (go_at_call_of 60 (Value.slice A a.length ca); (with_reducible refine Calls.mono (CH.out n a d A D ca cd _ hS (h.on K0) (h'.on K0)) ?_); rintro e w1 ⟨n2, a2, X2, c2, d2, Y2, e2, rfl, s2, r2, q2, b1⟩; have KA := below_next K0 (Nat.le_refl _) b1)
      | (go_at_call_of 60 (Value.slice A' a'.length ca'); (with_reducible refine Calls.mono (CI.out n' a' d' A' D' ca' cd' _ hT (q.on KA) (q'.on KA)) ?_); rintro e w2 ⟨n3, a3, X3, c3, d3, Y3, e3, rfl, s3, r3, q3, b2⟩; have KB := below_next KA (Nat.le_refl _) b2)
      | (go_at_call 47; (with_reducible refine Calls.mono (CF.out n2 n3 a2 d2 a3 d3 X2 Y2 X3 Y3 c2 e2 c3 e3 _ s2 s3 (r2.on b2) (q2.on b2) r3 q3) ?_); rintro e w3 ⟨n4, a4, X4, c4, d4, Y4, e4, rfl, s4, r4, q4, b3⟩; have KC := below_next KB (Nat.le_refl _) b3)
      | (go_at_call 67; (with_reducible refine Calls.mono (CR.out n4 a4 d4 X4 Y4 c4 e4 _ s4 r4 q4) ?_); rintro e w4 ⟨n5, a5, X5, c5, d5, Y5, e5, rfl, s5, r5, q5, b4⟩; have KD := below_next KC (Nat.le_refl _) b4; obtain ⟨i0, i1, i2, i3, i4, i5⟩ := (HKR.out.below KD HKR.out.lt).facts)))
  obtain ⟨Z, hZ, u0, u1, u2, hG⟩ := fin_any (n := n5) (a := a5) (d := d5) (ca := c5) (cd := e5) (w := w) (HKR.out.below KD HKR.out.lt) (by omega) (HB0.out.trans (KD.mono HB0.out.size)) s5 r5 q5
  have HZ := Lib.hid hZ
  have HF := Lib.hid (And.intro u0 (And.intro u1 u2))
  have HG := Lib.hid hG
  clear hZ u0 u1 u2 hG i0 i1 i2 i3 i4 i5 CH CI CF CR r2 q2 r3 q3 r4 q4 r5 q5
  go_wp2_with fail
  rw [HZ.out]
  obtain ⟨u0, u1, u2⟩ := HF.out
  exact bodyPost_ret (by simp [results, Tryz.results46, go_sem, u0, u1, u2]) rfl HG.out

set_option maxRecDepth 10000 in
set_option maxHeartbeats 1600000 in
/-- what is reckoned of two -/
theorem frac_ofTwo_minus (S S' T T' V U : Shape) (cH : Fn1 60 S T) (cH' : Fn1 60 S' T') (cF : Fn2 53 T T' V) (cR : Fn1 67 V U) : Fo2 46 53 S S' U := by
  intro n n' a d a' d' A D A' D' ca cd ca' cd' w hS hT h h' q q'
  obtain ⟨W, hW, k1, k2, kr, b0, s0⟩ := bx3 w 26 26 26 (.bool n) (.slice A a.length ca) (.slice D d.length cd) (.bool n') (.slice A' a'.length ca') (.slice D' d'.length cd') (.bool false) (.slice none 0 0) (.slice none 0 0)
  obtain ⟨p0, p1, p2, -, -, -⟩ := k1.facts
  obtain ⟨z0, z1, z2, -, -, -⟩ := k2.facts
  have h := h.on b0
  have h' := h'.on b0
  have q := q.on b0
  have q' := q'.on b0
  obtain ⟨i0, i1, i2, i3, i4, i5⟩ := kr.facts
  have K0 : Below W.heap.size W W.drew := below_drewN (Below.refl _ _) 1
  have KI : Below W.heap.size W W := Below.refl _ _
  have HK1 := Lib.hid k1
  have HK2 := Lib.hid k2
  have HKR := Lib.hid kr
  have HB0 := Lib.hid b0
  have hlt : w.heap.size + 2 < W.heap.size := by omega
  have CH := Lib.hid cH
  have CI := Lib.hid cH'
  have CF := Lib.hid cF
  have CR := Lib.hid cR
  clear cH cH' cF cR
  clear k1 k2 kr b0
  go_enter Tryz.func46, Tryz.ntmps46
  go_wp2_with fail
  try rw [hW]
  clear hW
  go_region_held3 (fun w' => (w'.cell? ⟨w.heap.size, 0, none⟩ = some (.bool n) ∧ w'.cell? ⟨w.heap.size, 1, none⟩ = some (.slice A a.length ca) ∧ w'.cell? ⟨w.heap.size, 2, none⟩ = some (.slice D d.length cd)) ∧ (w'.cell? ⟨w.heap.size + 1, 0, none⟩ = some (.bool n') ∧ w'.cell? ⟨w.heap.size + 1, 1, none⟩ = some (.slice A' a'.length ca') ∧ w'.cell? ⟨w.heap.size + 1, 2, none⟩ = some (.slice D' d'.length cd')))
    (first | (with_reducible exact ⟨keep3 HK1.out K0, keep3 HK2.out K0⟩) | (with_reducible exact ⟨keep3 HK1.out KA, keep3 HK2.out KA⟩) | (with_reducible exact ⟨keep3 HK1.out KB, keep3 HK2.out KB⟩) | (with_reducible exact ⟨keep3 HK1.out KC, keep3 HK2.out KC⟩) | (with_reducible exact ⟨keep3 HK1.out KD, keep3 HK2.out KD⟩) | (with_reducible exact ⟨far_cells (HK1.out.below KD HK1.out.lt) (by omega) _ _ _, far_cells (HK2.out.below KD HK2.out.lt) (by omega) _ _ _⟩) | go_keep)
    ((first
      | (go_at_call_of 60 (Value.slice A a.length ca); (with_reducible refine Calls.mono (CH.out n a d A D ca cd _ hS (h.on K0) (h'.on K0)) ?_); rintro e w1 ⟨n2, a2, X2, c2, d2, Y2, e2, rfl, s2, r2, q2, b1⟩; have KA := below_next K0 (Nat.le_refl _) b1)
      | (go_at_call_of 60 (Value.slice A' a'.length ca'); (with_reducible refine Calls.mono (CI.out n' a' d' A' D' ca' cd' _ hT (q.on KA) (q'.on KA)) ?_); rintro e w2 ⟨n3, a3, X3, c3, d3, Y3, e3, rfl, s3, r3, q3, b2⟩; have KB := below_next KA (Nat.le_refl _) b2)
      | (go_at_call 53; (with_reducible refine Calls.mono (CF.out n2 n3 a2 d2 a3 d3 X2 Y2 X3 Y3 c2 e2 c3 e3 _ s2 s3 (r2.on b2) (q2.on b2) r3 q3) ?_); rintro e w3 ⟨n4, a4, X4, c4, d4, Y4, e4, rfl, s4, r4, q4, b3⟩; have KC := below_next KB (Nat.le_refl _) b3)
      | (go_at_call 67; (with_reducible refine Calls.mono (CR.out n4 a4 d4 X4 Y4 c4 e4 _ s4 r4 q4) ?_); rintro e w4 ⟨n5, a5, X5, c5, d5, Y5, e5, rfl, s5, r5, q5, b4⟩; have KD := below_next KC (Nat.le_refl _) b4; obtain ⟨i0, i1, i2, i3, i4, i5⟩ := (HKR.out.below KD HKR.out.lt).facts)))
  obtain ⟨Z, hZ, u0, u1, u2, hG⟩ := fin_any (n := n5) (a := a5) (d := d5) (ca := c5) (cd := e5) (w := w) (HKR.out.below KD HKR.out.lt) (by omega) (HB0.out.trans (KD.mono HB0.out.size)) s5 r5 q5
  have HZ := Lib.hid hZ
  have HF := Lib.hid (And.intro u0 (And.intro u1 u2))
  have HG := Lib.hid hG
  clear hZ u0 u1 u2 hG i0 i1 i2 i3 i4 i5 CH CI CF CR r2 q2 r3 q3 r4 q4 r5 q5
  go_wp2_with fail
  rw [HZ.out]
  obtain ⟨u0, u1, u2⟩ := HF.out
  exact bodyPost_ret (by simp [results, Tryz.results46, go_sem, u0, u1, u2]) rfl HG.out

set_option maxRecDepth 10000 in
set_option maxHeartbeats 1600000 in
/-- what is reckoned of two -/
theorem frac_ofTwo_times (S S' T T' V U : Shape) (cH : Fn1 60 S T) (cH' : Fn1 60 S' T') (cF : Fn2 54 T T' V) (cR : Fn1 67 V U) : Fo2 46 54 S S' U := by
  intro n n' a d a' d' A D A' D' ca cd ca' cd' w hS hT h h' q q'
  obtain ⟨W, hW, k1, k2, kr, b0, s0⟩ := bx3 w 26 26 26 (.bool n) (.slice A a.length ca) (.slice D d.length cd) (.bool n') (.slice A' a'.length ca') (.slice D' d'.length cd') (.bool false) (.slice none 0 0) (.slice none 0 0)
  obtain ⟨p0, p1, p2, -, -, -⟩ := k1.facts
  obtain ⟨z0, z1, z2, -, -, -⟩ := k2.facts
  have h := h.on b0
  have h' := h'.on b0
  have q := q.on b0
  have q' := q'.on b0
  obtain ⟨i0, i1, i2, i3, i4, i5⟩ := kr.facts
  have K0 : Below W.heap.size W W.drew := below_drewN (Below.refl _ _) 1
  have KI : Below W.heap.size W W := Below.refl _ _
  have HK1 := Lib.hid k1
  have HK2 := Lib.hid k2
  have HKR := Lib.hid kr
  have HB0 := Lib.hid b0
  have hlt : w.heap.size + 2 < W.heap.size := by omega
  have CH := Lib.hid cH
  have CI := Lib.hid cH'
  have CF := Lib.hid cF
  have CR := Lib.hid cR
  clear cH cH' cF cR
  clear k1 k2 kr b0
  go_enter Tryz.func46, Tryz.ntmps46
  go_wp2_with fail
  try rw [hW]
  clear hW
  go_region_held3 (fun w' => (w'.cell? ⟨w.heap.size, 0, none⟩ = some (.bool n) ∧ w'.cell? ⟨w.heap.size, 1, none⟩ = some (.slice A a.length ca) ∧ w'.cell? ⟨w.heap.size, 2, none⟩ = some (.slice D d.length cd)) ∧ (w'.cell? ⟨w.heap.size + 1, 0, none⟩ = some (.bool n') ∧ w'.cell? ⟨w.heap.size + 1, 1, none⟩ = some (.slice A' a'.length ca') ∧ w'.cell? ⟨w.heap.size + 1, 2, none⟩ = some (.slice D' d'.length cd')))
    (first | (with_reducible exact ⟨keep3 HK1.out K0, keep3 HK2.out K0⟩) | (with_reducible exact ⟨keep3 HK1.out KA, keep3 HK2.out KA⟩) | (with_reducible exact ⟨keep3 HK1.out KB, keep3 HK2.out KB⟩) | (with_reducible exact ⟨keep3 HK1.out KC, keep3 HK2.out KC⟩) | (with_reducible exact ⟨keep3 HK1.out KD, keep3 HK2.out KD⟩) | (with_reducible exact ⟨far_cells (HK1.out.below KD HK1.out.lt) (by omega) _ _ _, far_cells (HK2.out.below KD HK2.out.lt) (by omega) _ _ _⟩) | go_keep)
    ((first
      | (go_at_call_of 60 (Value.slice A a.length ca); (with_reducible refine Calls.mono (CH.out n a d A D ca cd _ hS (h.on K0) (h'.on K0)) ?_); rintro e w1 ⟨n2, a2, X2, c2, d2, Y2, e2, rfl, s2, r2, q2, b1⟩; have KA := below_next K0 (Nat.le_refl _) b1)
      | (go_at_call_of 60 (Value.slice A' a'.length ca'); (with_reducible refine Calls.mono (CI.out n' a' d' A' D' ca' cd' _ hT (q.on KA) (q'.on KA)) ?_); rintro e w2 ⟨n3, a3, X3, c3, d3, Y3, e3, rfl, s3, r3, q3, b2⟩; have KB := below_next KA (Nat.le_refl _) b2)
      | (go_at_call 54; (with_reducible refine Calls.mono (CF.out n2 n3 a2 d2 a3 d3 X2 Y2 X3 Y3 c2 e2 c3 e3 _ s2 s3 (r2.on b2) (q2.on b2) r3 q3) ?_); rintro e w3 ⟨n4, a4, X4, c4, d4, Y4, e4, rfl, s4, r4, q4, b3⟩; have KC := below_next KB (Nat.le_refl _) b3)
      | (go_at_call 67; (with_reducible refine Calls.mono (CR.out n4 a4 d4 X4 Y4 c4 e4 _ s4 r4 q4) ?_); rintro e w4 ⟨n5, a5, X5, c5, d5, Y5, e5, rfl, s5, r5, q5, b4⟩; have KD := below_next KC (Nat.le_refl _) b4; obtain ⟨i0, i1, i2, i3, i4, i5⟩ := (HKR.out.below KD HKR.out.lt).facts)))
  obtain ⟨Z, hZ, u0, u1, u2, hG⟩ := fin_any (n := n5) (a := a5) (d := d5) (ca := c5) (cd := e5) (w := w) (HKR.out.below KD HKR.out.lt) (by omega) (HB0.out.trans (KD.mono HB0.out.size)) s5 r5 q5
  have HZ := Lib.hid hZ
  have HF := Lib.hid (And.intro u0 (And.intro u1 u2))
  have HG := Lib.hid hG
  clear hZ u0 u1 u2 hG i0 i1 i2 i3 i4 i5 CH CI CF CR r2 q2 r3 q3 r4 q4 r5 q5
  go_wp2_with fail
  rw [HZ.out]
  obtain ⟨u0, u1, u2⟩ := HF.out
  exact bodyPost_ret (by simp [results, Tryz.results46, go_sem, u0, u1, u2]) rfl HG.out
end Go.Proofs.YtidbpkibjficnaaGreatDoor
/- Fractions: what the program's own Neg, Half, Add, Sub and Mul answer. -/

namespace Go.Proofs.YtidbpkibjficnaaGreatDoor
open Go.RowKit Num

theorem frac_Reduce (P : Int) (Q m : Nat) (hQ : 0 < Q) (hm1 : 1 ≤ m) (hm : m ≤ 4194304) : Fn1 29 (SI P Q m) (SF P Q) :=
  frac_Reduce_gen _ _ _ (frac_hold P Q m hm1 hm) ((ratio_reduced P Q m hQ hm).imp (fun _ _ _ _ _ => SH.toR hQ) fun _ _ _ _ _ h => h)

set_option maxRecDepth 10000 in
set_option maxHeartbeats 1600000 in
/-- of one -/
theorem frac_Neg_gen (S U : Shape) (cO : Fo1 55 56 S U) : Fn1 15 S U := by
  intro n a d A D ca cd w hS h h'
  obtain ⟨W, hW, k1, kr, b0, s0⟩ := bx2 w 26 26 (.bool n) (.slice A a.length ca) (.slice D d.length cd) (.bool false) (.slice none 0 0) (.slice none 0 0)
  obtain ⟨p0, p1, p2, -, -, -⟩ := k1.facts
  have h := h.on b0
  have h' := h'.on b0
  obtain ⟨i0, i1, i2, i3, i4, i5⟩ := kr.facts
  have K0 : Below W.heap.size W W.drew := below_drewN (Below.refl _ _) 1
  have KI : Below W.heap.size W W := Below.refl _ _
  have HK1 := Lib.hid k1
  have HKR := Lib.hid kr
  have HB0 := Lib.hid b0
  have hlt : w.heap.size + 1 < W.heap.size := by omega
  have CO := Lib.hid cO
  clear cO
  clear k1 kr b0
  go_enter Tryz.func15, Tryz.ntmps15
  go_wp2_with fail
  try rw [hW]
  clear hW
  refine Calls.mono (CO.out n a d A D ca cd _ hS (h.on KI) (h'.on KI)) ?_
  rintro e w1 ⟨n2, a2, X2, c2, d2, Y2, e2, rfl, s2, r2, q2, b1⟩
  have KA := below_next KI (Nat.le_refl _) b1
  obtain ⟨p0, p1, p2⟩ := keep3 HK1.out KA
  obtain ⟨i0, i1, i2, i3, i4, i5⟩ := (HKR.out.below KA HKR.out.lt).facts
  obtain ⟨Z, hZ, u0, u1, u2, hG⟩ := fin_any (n := n2) (a := a2) (d := d2) (ca := c2) (cd := e2) (w := w) (HKR.out.below KA HKR.out.lt) (by omega) (HB0.out.trans (KA.mono HB0.out.size)) s2 r2 q2
  have HZ := Lib.hid hZ
  have HF := Lib.hid (And.intro u0 (And.intro u1 u2))
  have HG := Lib.hid hG
  clear hZ u0 u1 u2 hG CO r2 q2
  go_wp2_with fail
  rw [HZ.out]
  obtain ⟨u0, u1, u2⟩ := HF.out
  exact bodyPost_ret (by simp [results, Tryz.results15, go_sem, u0, u1, u2]) rfl HG.out

set_option maxRecDepth 10000 in
set_option maxHeartbeats 1600000 in
/-- of one -/
theorem frac_Half_gen (S U : Shape) (cO : Fo1 55 58 S U) : Fn1 17 S U := by
  intro n a d A D ca cd w hS h h'
  obtain ⟨W, hW, k1, kr, b0, s0⟩ := bx2 w 26 26 (.bool n) (.slice A a.length ca) (.slice D d.length cd) (.bool false) (.slice none 0 0) (.slice none 0 0)
  obtain ⟨p0, p1, p2, -, -, -⟩ := k1.facts
  have h := h.on b0
  have h' := h'.on b0
  obtain ⟨i0, i1, i2, i3, i4, i5⟩ := kr.facts
  have K0 : Below W.heap.size W W.drew := below_drewN (Below.refl _ _) 1
  have KI : Below W.heap.size W W := Below.refl _ _
  have HK1 := Lib.hid k1
  have HKR := Lib.hid kr
  have HB0 := Lib.hid b0
  have hlt : w.heap.size + 1 < W.heap.size := by omega
  have CO := Lib.hid cO
  clear cO
  clear k1 kr b0
  go_enter Tryz.func17, Tryz.ntmps17
  go_wp2_with fail
  try rw [hW]
  clear hW
  refine Calls.mono (CO.out n a d A D ca cd _ hS (h.on KI) (h'.on KI)) ?_
  rintro e w1 ⟨n2, a2, X2, c2, d2, Y2, e2, rfl, s2, r2, q2, b1⟩
  have KA := below_next KI (Nat.le_refl _) b1
  obtain ⟨p0, p1, p2⟩ := keep3 HK1.out KA
  obtain ⟨i0, i1, i2, i3, i4, i5⟩ := (HKR.out.below KA HKR.out.lt).facts
  obtain ⟨Z, hZ, u0, u1, u2, hG⟩ := fin_any (n := n2) (a := a2) (d := d2) (ca := c2) (cd := e2) (w := w) (HKR.out.below KA HKR.out.lt) (by omega) (HB0.out.trans (KA.mono HB0.out.size)) s2 r2 q2
  have HZ := Lib.hid hZ
  have HF := Lib.hid (And.intro u0 (And.intro u1 u2))
  have HG := Lib.hid hG
  clear hZ u0 u1 u2 hG CO r2 q2
  go_wp2_with fail
  rw [HZ.out]
  obtain ⟨u0, u1, u2⟩ := HF.out
  exact bodyPost_ret (by simp [results, Tryz.results17, go_sem, u0, u1, u2]) rfl HG.out

set_option maxRecDepth 10000 in
set_option maxHeartbeats 1600000 in
/-- of two -/
theorem frac_Add_gen (S T U : Shape) (cO : Fo2 46 47 S T U) : Fn2 9 S T U := by
  intro n n' a d a' d' A D A' D' ca cd ca' cd' w hS hT h h' q q'
  obtain ⟨W, hW, k1, k2, kr, b0, s0⟩ := bx3 w 26 26 26 (.bool n) (.slice A a.length ca) (.slice D d.length cd) (.bool n') (.slice A' a'.length ca') (.slice D' d'.length cd') (.bool false) (.slice none 0 0) (.slice none 0 0)
  obtain ⟨p0, p1, p2, -, -, -⟩ := k1.facts
  obtain ⟨z0, z1, z2, -, -, -⟩ := k2.facts
  have h := h.on b0
  have h' := h'.on b0
  have q := q.on b0
  have q' := q'.on b0
  obtain ⟨i0, i1, i2, i3, i4, i5⟩ := kr.facts
  have K0 : Below W.heap.size W W.drew := below_drewN (Below.refl _ _) 1
  have KI : Below W.heap.size W W := Below.refl _ _
  have HK1 := Lib.hid k1
  have HK2 := Lib.hid k2
  have HKR := Lib.hid kr
  have HB0 := Lib.hid b0
  have hlt : w.heap.size + 2 < W.heap.size := by omega
  have CO := Lib.hid cO
  clear cO
  clear k1 k2 kr b0
  go_enter Tryz.func9, Tryz.ntmps9
  go_wp2_with fail
  try rw [hW]
  clear hW
  refine Calls.mono (CO.out n n' a d a' d' A D A' D' ca cd ca' cd' _ hS hT (h.on KI) (h'.on KI) (q.on KI) (q'.on KI)) ?_
  rintro e w1 ⟨n2, a2, X2, c2, d2, Y2, e2, rfl, s2, r2, q2, b1⟩
  have KA := below_next KI (Nat.le_refl _) b1
  obtain ⟨p0, p1, p2⟩ := keep3 HK1.out KA
  obtain ⟨z0, z1, z2⟩ := keep3 HK2.out KA
  obtain ⟨i0, i1, i2, i3, i4, i5⟩ := (HKR.out.below KA HKR.out.lt).facts
  obtain ⟨Z, hZ, u0, u1, u2, hG⟩ := fin_any (n := n2) (a := a2) (d := d2) (ca := c2) (cd := e2) (w := w) (HKR.out.below KA HKR.out.lt) (by omega) (HB0.out.trans (KA.mono HB0.out.size)) s2 r2 q2
  have HZ := Lib.hid hZ
  have HF := Lib.hid (And.intro u0 (And.intro u1 u2))
  have HG := Lib.hid hG
  clear hZ u0 u1 u2 hG CO r2 q2
  go_wp2_with fail
  rw [HZ.out]
  obtain ⟨u0, u1, u2⟩ := HF.out
  exact bodyPost_ret (by simp [results, Tryz.results9, go_sem, u0, u1, u2]) rfl HG.out

set_option maxRecDepth 10000 in
set_option maxHeartbeats 1600000 in
/-- of two -/
theorem frac_Sub_gen (S T U : Shape) (cO : Fo2 46 53 S T U) : Fn2 11 S T U := by
  intro n n' a d a' d' A D A' D' ca cd ca' cd' w hS hT h h' q q'
  obtain ⟨W, hW, k1, k2, kr, b0, s0⟩ := bx3 w 26 26 26 (.bool n) (.slice A a.length ca) (.slice D d.length cd) (.bool n') (.slice A' a'.length ca') (.slice D' d'.length cd') (.bool false) (.slice none 0 0) (.slice none 0 0)
  obtain ⟨p0, p1, p2, -, -, -⟩ := k1.facts
  obtain ⟨z0, z1, z2, -, -, -⟩ := k2.facts
  have h := h.on b0
  have h' := h'.on b0
  have q := q.on b0
  have q' := q'.on b0
  obtain ⟨i0, i1, i2, i3, i4, i5⟩ := kr.facts
  have K0 : Below W.heap.size W W.drew := below_drewN (Below.refl _ _) 1
  have KI : Below W.heap.size W W := Below.refl _ _
  have HK1 := Lib.hid k1
  have HK2 := Lib.hid k2
  have HKR := Lib.hid kr
  have HB0 := Lib.hid b0
  have hlt : w.heap.size + 2 < W.heap.size := by omega
  have CO := Lib.hid cO
  clear cO
  clear k1 k2 kr b0
  go_enter Tryz.func11, Tryz.ntmps11
  go_wp2_with fail
  try rw [hW]
  clear hW
  refine Calls.mono (CO.out n n' a d a' d' A D A' D' ca cd ca' cd' _ hS hT (h.on KI) (h'.on KI) (q.on KI) (q'.on KI)) ?_
  rintro e w1 ⟨n2, a2, X2, c2, d2, Y2, e2, rfl, s2, r2, q2, b1⟩
  have KA := below_next KI (Nat.le_refl _) b1
  obtain ⟨p0, p1, p2⟩ := keep3 HK1.out KA
  obtain ⟨z0, z1, z2⟩ := keep3 HK2.out KA
  obtain ⟨i0, i1, i2, i3, i4, i5⟩ := (HKR.out.below KA HKR.out.lt).facts
  obtain ⟨Z, hZ, u0, u1, u2, hG⟩ := fin_any (n := n2) (a := a2) (d := d2) (ca := c2) (cd := e2) (w := w) (HKR.out.below KA HKR.out.lt) (by omega) (HB0.out.trans (KA.mono HB0.out.size)) s2 r2 q2
  have HZ := Lib.hid hZ
  have HF := Lib.hid (And.intro u0 (And.intro u1 u2))
  have HG := Lib.hid hG
  clear hZ u0 u1 u2 hG CO r2 q2
  go_wp2_with fail
  rw [HZ.out]
  obtain ⟨u0, u1, u2⟩ := HF.out
  exact bodyPost_ret (by simp [results, Tryz.results11, go_sem, u0, u1, u2]) rfl HG.out

set_option maxRecDepth 10000 in
set_option maxHeartbeats 1600000 in
/-- of two -/
theorem frac_Mul_gen (S T U : Shape) (cO : Fo2 46 54 S T U) : Fn2 13 S T U := by
  intro n n' a d a' d' A D A' D' ca cd ca' cd' w hS hT h h' q q'
  obtain ⟨W, hW, k1, k2, kr, b0, s0⟩ := bx3 w 26 26 26 (.bool n) (.slice A a.length ca) (.slice D d.length cd) (.bool n') (.slice A' a'.length ca') (.slice D' d'.length cd') (.bool false) (.slice none 0 0) (.slice none 0 0)
  obtain ⟨p0, p1, p2, -, -, -⟩ := k1.facts
  obtain ⟨z0, z1, z2, -, -, -⟩ := k2.facts
  have h := h.on b0
  have h' := h'.on b0
  have q := q.on b0
  have q' := q'.on b0
  obtain ⟨i0, i1, i2, i3, i4, i5⟩ := kr.facts
  have K0 : Below W.heap.size W W.drew := below_drewN (Below.refl _ _) 1
  have KI : Below W.heap.size W W := Below.refl _ _
  have HK1 := Lib.hid k1
  have HK2 := Lib.hid k2
  have HKR := Lib.hid kr
  have HB0 := Lib.hid b0
  have hlt : w.heap.size + 2 < W.heap.size := by omega
  have CO := Lib.hid cO
  clear cO
  clear k1 k2 kr b0
  go_enter Tryz.func13, Tryz.ntmps13
  go_wp2_with fail
  try rw [hW]
  clear hW
  refine Calls.mono (CO.out n n' a d a' d' A D A' D' ca cd ca' cd' _ hS hT (h.on KI) (h'.on KI) (q.on KI) (q'.on KI)) ?_
  rintro e w1 ⟨n2, a2, X2, c2, d2, Y2, e2, rfl, s2, r2, q2, b1⟩
  have KA := below_next KI (Nat.le_refl _) b1
  obtain ⟨p0, p1, p2⟩ := keep3 HK1.out KA
  obtain ⟨z0, z1, z2⟩ := keep3 HK2.out KA
  obtain ⟨i0, i1, i2, i3, i4, i5⟩ := (HKR.out.below KA HKR.out.lt).facts
  obtain ⟨Z, hZ, u0, u1, u2, hG⟩ := fin_any (n := n2) (a := a2) (d := d2) (ca := c2) (cd := e2) (w := w) (HKR.out.below KA HKR.out.lt) (by omega) (HB0.out.trans (KA.mono HB0.out.size)) s2 r2 q2
  have HZ := Lib.hid hZ
  have HF := Lib.hid (And.intro u0 (And.intro u1 u2))
  have HG := Lib.hid hG
  clear hZ u0 u1 u2 hG CO r2 q2
  go_wp2_with fail
  rw [HZ.out]
  obtain ⟨u0, u1, u2⟩ := HF.out
  exact bodyPost_ret (by simp [results, Tryz.results13, go_sem, u0, u1, u2]) rfl HG.out

theorem hold_R (P : Int) (Q m : Nat) (hQ : 0 < Q) (hm1 : 1 ≤ m) (hm : m ≤ 4194304) : Fn1 60 (SI P Q m) (SR P Q m) :=
  (frac_hold P Q m hm1 hm).imp (fun _ _ _ _ _ h => h) fun _ _ _ _ _ => SH.toR hQ
theorem frac_Neg (P : Int) (Q m : Nat) (hQ : 0 < Q) (hm1 : 1 ≤ m) (hm : m ≤ 4194304) : Fn1 15 (SI P Q m) (SF (-P) Q) :=
  frac_Neg_gen _ _ (frac_ofOne_neg _ _ _ _ (hold_R P Q m hQ hm1 hm) (ratio_neg P Q m hm) (ratio_reduced (-P) Q m hQ hm))
theorem frac_Half (P : Int) (Q m : Nat) (hQ : 0 < Q) (hm1 : 1 ≤ m) (hm : m ≤ 4194303) : Fn1 17 (SI P Q m) (SF P (Q * 2)) :=
  frac_Half_gen _ _ (frac_ofOne_half _ _ _ _ (hold_R P Q m hQ hm1 (by omega)) (ratio_half P Q m (by omega)) (ratio_reduced P (Q * 2) (m + 1) (by omega) (by omega)))
theorem frac_Add (P P' : Int) (Q Q' m : Nat) (hQ : 0 < Q) (hQ' : 0 < Q') (hm1 : 1 ≤ m) (hm : m ≤ 2097150) : Fn2 9 (SI P Q m) (SI P' Q' m) (SF (P * (Q' : Int) + P' * (Q : Int)) (Q * Q')) :=
  frac_Add_gen _ _ _ (frac_ofTwo_plus _ _ _ _ _ _ (hold_R P Q m hQ hm1 (by omega)) (hold_R P' Q' m hQ' hm1 (by omega)) (ratio_plus P P' Q Q' m hm) (ratio_reduced _ _ _ (Nat.mul_pos hQ hQ') (by omega)))
theorem ratio_minus (P P' : Int) (Q Q' m : Nat) (hm : m ≤ 2097150) : Fn2 53 (SR P Q m) (SR P' Q' m) (SR (P * (Q' : Int) - P' * (Q : Int)) (Q * Q') (m + m + 1)) := by
  have h := ratio_minus_gen _ _ _ _ (ratio_neg P' Q' m (by omega)) (ratio_plus P (-P') Q Q' m hm)
  rwa [Int.neg_mul, ← Int.sub_eq_add_neg] at h
theorem frac_Sub (P P' : Int) (Q Q' m : Nat) (hQ : 0 < Q) (hQ' : 0 < Q') (hm1 : 1 ≤ m) (hm : m ≤ 2097150) : Fn2 11 (SI P Q m) (SI P' Q' m) (SF (P * (Q' : Int) - P' * (Q : Int)) (Q * Q')) :=
  frac_Sub_gen _ _ _ (frac_ofTwo_minus _ _ _ _ _ _ (hold_R P Q m hQ hm1 (by omega)) (hold_R P' Q' m hQ' hm1 (by omega)) (ratio_minus P P' Q Q' m hm) (ratio_reduced _ _ _ (Nat.mul_pos hQ hQ') (by omega)))
theorem frac_Mul (P P' : Int) (Q Q' m : Nat) (hQ : 0 < Q) (hQ' : 0 < Q') (hm1 : 1 ≤ m) (hm : m ≤ 2097152) : Fn2 13 (SI P Q m) (SI P' Q' m) (SF (P * P') (Q * Q')) :=
  frac_Mul_gen _ _ _ (frac_ofTwo_times _ _ _ _ _ _ (hold_R P Q m hQ hm1 (by omega)) (hold_R P' Q' m hQ' hm1 (by omega)) (ratio_times P P' Q Q' m (by omega)) (ratio_reduced _ _ _ (Nat.mul_pos hQ hQ') (by omega)))
end Go.Proofs.YtidbpkibjficnaaGreatDoor
/- Fractions: what the program's own quotient, Make, Of and Div answer. -/

namespace Go.Proofs.YtidbpkibjficnaaGreatDoor
open Go.RowKit Num

/-- contracts of what answers a fraction and an error -/
abbrev Fe2 (f : FuncId) (S S' : Shape) (P : Int) (Q : Nat) : Prop := ∀ (n n' : Bool) (a d a' d' : List Nat) (A D A' D' : Option Addr) (ca cd ca' cd' : Nat) (w : World), S n a ca d cd → S' n' a' ca' d' cd' → Rd w (fun g => g < w.heap.size) .u32 A a → Rd w (fun g => g < w.heap.size) .u32 D d → Rd w (fun g => g < w.heap.size) .u32 A' a' → Rd w (fun g => g < w.heap.size) .u32 D' d' → Calls Tryz.prog f #[.agg #[.bool n, .slice A a.length ca, .slice D d.length cd], .agg #[.bool n', .slice A' a'.length ca', .slice D' d'.length cd']] w (GivesFE P Q w)
theorem sgn_zero {N : Int} : sgn N = 0 ↔ N = 0 := by
  unfold sgn
  split
  · omega
  · split <;> omega
theorem across_turn {P P' : Int} {Q Q' : Nat} (hQ : 0 < Q) : P * turnN P' Q' = acrossN (P * (Q' : Int)) (P' * (Q : Int)) ∧ Q * P'.natAbs = (P' * (Q : Int)).natAbs := by
  constructor
  · unfold turnN acrossN
    by_cases h : P' < 0
    · rw [if_pos h, if_pos (Int.mul_neg_of_neg_of_pos h (by omega)), Int.mul_neg]
    · rw [if_neg h, if_neg (by have := Int.mul_nonneg (show 0 ≤ P' by omega) (show (0 : Int) ≤ (Q : Int) by omega); omega)]
  · rw [Int.natAbs_mul, Int.natAbs_natCast, Nat.mul_comm]

set_option maxRecDepth 10000 in
set_option maxHeartbeats 1600000 in
/-- one by another one -/
theorem frac_quotient (P P' : Int) (Q Q' m : Nat) (hQ : 0 < Q) (hQ' : 0 < Q') (hm : m ≤ 2097152) : Fe2 59 (SR P Q m) (SR P' Q' m) (acrossN (P * (Q' : Int)) (P' * (Q : Int))) (P' * (Q : Int)).natAbs := by
  intro n n' a d a' d' A D A' D' ca cd ca' cd' w hS hT h h' q q'
  obtain ⟨W, hW, k1, k2, kr, b0, s0⟩ := bx3 w 63 63 26 (.bool n) (.slice A a.length ca) (.slice D d.length cd) (.bool n') (.slice A' a'.length ca') (.slice D' d'.length cd') (.bool false) (.slice none 0 0) (.slice none 0 0)
  obtain ⟨p0, p1, p2, -, -, -⟩ := k1.facts
  obtain ⟨z0, z1, z2, -, -, -⟩ := k2.facts
  obtain ⟨i0, i1, i2, i3, i4, i5⟩ := kr.facts
  have h := h.on b0
  have h' := h'.on b0
  have q := q.on b0
  have q' := q'.on b0
  have hlt : w.heap.size + 2 < W.heap.size := by omega
  obtain ⟨gc, gc', ga, gd, gl, gl', gd0, gv⟩ := id hT
  have cG := whole_Sign n' a' A' ca' W q (by omega) gc ga
  obtain ⟨e1, e2⟩ := turn_sign hQ' gd0 gv
  obtain ⟨z, hz⟩ : ∃ z, sgn (wv n' a') = z := ⟨_, rfl⟩
  rw [hz] at cG
  have hz0 : z = 0 ↔ P' = 0 := by
    rw [← hz, sgn_zero]
    constructor
    · intro h0
      have := wv_abs n' a'
      rw [h0] at this
      have h1 : val 4294967296 a' = 0 := by omega
      rw [h1, Nat.zero_mul] at e1
      rcases Nat.eq_zero_or_pos P'.natAbs with h2 | h2
      · omega
      · have := Nat.mul_pos h2 gd0
        omega
    · intro h0
      rw [h0, Int.natAbs_zero, Nat.zero_mul] at e1
      have := wv_abs n' a'
      rcases Nat.eq_zero_or_pos (val 4294967296 a') with h2 | h2
      · omega
      · have := Nat.mul_pos h2 hQ'
        omega
  by_cases hP : P' = 0
  · have HE := Lib.hid (show (P' * (Q : Int)).natAbs = 0 by rw [hP, Int.zero_mul]; rfl)
    obtain rfl : z = 0 := hz0.2 hP
    obtain ⟨U, hU, u0, u1, u2, -, bU, -, -⟩ := kr.three (.bool false) (.slice none 0 0) (.slice none 0 0)
    have HK1 := Lib.hid k1
    have HK2 := Lib.hid k2
    have HKR := Lib.hid kr
    have HB0 := Lib.hid b0
    clear hz hz0 e1 e2 hP gv k1 k2 kr b0 u0 u1 u2 bU hU
    go_enter Tryz.func59, Tryz.ntmps59
    go_wp2_with fail
    try rw [hW]
    clear hW
    refine cG.mono ?_
    rintro e w1 ⟨rfl, b1⟩
    obtain ⟨Z, hZ, u0, u1, u2, -, bZ, -, -⟩ := (HKR.out.below b1 HKR.out.lt).three (.bool false) (.slice none 0 0) (.slice none 0 0)
    have HZ := Lib.hid hZ
    have HF := Lib.hid (And.intro u0 (And.intro u1 u2))
    have HB := Lib.hid ((HB0.out.trans (b1.mono HB0.out.size)).trans (bZ w.heap.size (by omega)))
    obtain ⟨i0, i1, i2, i3, i4, i5⟩ := (HKR.out.below b1 HKR.out.lt).facts
    clear hZ u0 u1 u2 bZ cG
    go_wp2_with fail
    rw [HZ.out]
    obtain ⟨u0, u1, u2⟩ := HF.out
    exact bodyPost_ret (v := .tuple #[.agg #[.bool false, .slice none 0 0, .slice none 0 0], .int .i64 5]) (by simp [results, Tryz.results59, go_sem, u0, u1, u2]) rfl (.inl ⟨HE.out, rfl, HB.out⟩)
  · have hzb : (z == 0) = false := by simpa using fun h => hP (hz0.1 h)
    have hpp : 0 < P'.natAbs := by omega
    have hf : ∀ (n : Bool) (a : List Nat) (ca : Nat) (d : List Nat) (cd : Nat), SF (P * turnN P' Q') (Q * P'.natAbs) n a ca d cd → SF (acrossN (P * (Q' : Int)) (P' * (Q : Int))) (P' * (Q : Int)).natAbs n a ca d cd := fun n a ca d cd hh => by
      have e3 := across_turn (P := P) (P' := P') (Q' := Q') hQ
      rw [← e3.1, ← e3.2]
      exact hh
    have HD := Lib.hid (show 0 < (P' * (Q : Int)).natAbs by rw [← (across_turn (P := P) (Q' := Q') hQ).2]; exact Nat.mul_pos hQ hpp)
    have CT := Lib.hid (ratio_turned P' Q' m hP hQ')
    have CM := Lib.hid (ratio_times P (turnN P' Q') Q P'.natAbs m (by omega))
    have CR := Lib.hid ((ratio_reduced (P * turnN P' Q') (Q * P'.natAbs) (m + m) (Nat.mul_pos hQ hpp) (by omega)).imp (fun _ _ _ _ _ h => h) hf)
    have HK1 := Lib.hid k1
    have HK2 := Lib.hid k2
    have HKR := Lib.hid kr
    have HB0 := Lib.hid b0
    have HS := Lib.hid (And.intro hS hT)
    clear hf hz hz0 e1 e2 hP gv k1 k2 kr b0 hS hT
    obtain ⟨T1, hT1⟩ : ∃ T, SR (turnN P' Q') P'.natAbs m = T := ⟨_, rfl⟩
    obtain ⟨T2, hT2⟩ : ∃ T, SR (P * turnN P' Q') (Q * P'.natAbs) (m + m) = T := ⟨_, rfl⟩
    rw [hT1] at CT CM
    rw [hT2] at CM CR
    clear hT1 hT2
    obtain ⟨T3, hT3⟩ : ∃ T, SF (acrossN (P * (Q' : Int)) (P' * (Q : Int))) (P' * (Q : Int)).natAbs = T := ⟨_, rfl⟩
    have HT3 := Lib.hid hT3
    rw [hT3] at CR
    clear hT3
    go_enter Tryz.func59, Tryz.ntmps59
    go_wp2_with fail
    try rw [hW]
    clear hW
    refine cG.mono ?_
    rintro e w1 ⟨rfl, b1⟩
    clear cG
    have K0 : Below W.heap.size W w1.drew := below_drewN b1 1
    obtain ⟨p0, p1, p2⟩ := keep3 HK1.out b1
    obtain ⟨z0, z1, z2⟩ := keep3 HK2.out b1
    obtain ⟨i0, i1, i2, i3, i4, i5⟩ := (HKR.out.below b1 HKR.out.lt).facts
    go_wp2_with fail
    go_region_held3 (fun w' => (w'.cell? ⟨w.heap.size, 0, none⟩ = some (.bool n) ∧ w'.cell? ⟨w.heap.size, 1, none⟩ = some (.slice A a.length ca) ∧ w'.cell? ⟨w.heap.size, 2, none⟩ = some (.slice D d.length cd)) ∧ (w'.cell? ⟨w.heap.size + 1, 0, none⟩ = some (.bool n') ∧ w'.cell? ⟨w.heap.size + 1, 1, none⟩ = some (.slice A' a'.length ca') ∧ w'.cell? ⟨w.heap.size + 1, 2, none⟩ = some (.slice D' d'.length cd')))
      (first | (with_reducible exact ⟨keep3 HK1.out K0, keep3 HK2.out K0⟩) | (with_reducible exact ⟨keep3 HK1.out KA, keep3 HK2.out KA⟩) | (with_reducible exact ⟨keep3 HK1.out KB, keep3 HK2.out KB⟩) | (with_reducible exact ⟨keep3 HK1.out KC, keep3 HK2.out KC⟩) | (with_reducible exact ⟨far_cells (HK1.out.below KC HK1.out.lt) (by omega) _ _ _, far_cells (HK2.out.below KC HK2.out.lt) (by omega) _ _ _⟩) | go_keep)
      ((first
        | (go_at_call 100; (with_reducible refine Calls.mono (CT.out n' a' d' A' D' ca' cd' _ HS.out.2 (q.on K0) (q'.on K0)) ?_); rintro e w2 ⟨n2, a2, X2, c2, d2, Y2, e2, rfl, s2, r2, q2, b2⟩; have KA := below_next K0 (Nat.le_refl _) b2)
        | (go_at_call 54; (with_reducible refine Calls.mono (CM.out n n2 a d a2 d2 A D X2 Y2 ca cd c2 e2 _ HS.out.1 s2 (h.on KA) (h'.on KA) r2 q2) ?_); rintro e w3 ⟨n3, a3, X3, c3, d3, Y3, e3, rfl, s3, r3, q3, b3⟩; have KB := below_next KA (Nat.le_refl _) b3)
        | (go_at_call 67; (with_reducible refine Calls.mono (CR.out n3 a3 d3 X3 Y3 c3 e3 _ s3 r3 q3) ?_); rintro e w4 ⟨n4, a4, X4, c4, d4, Y4, e4, rfl, s4, r4, q4, b4⟩; have KC := below_next KB (Nat.le_refl _) b4; obtain ⟨i0, i1, i2, i3, i4, i5⟩ := (HKR.out.below KC HKR.out.lt).facts)))
    rw [← HT3.out] at s4
    obtain ⟨Z, hZ, u0, u1, u2, hG⟩ := fin_any (n := n4) (a := a4) (d := d4) (ca := c4) (cd := e4) (w := w) (HKR.out.below KC HKR.out.lt) (by omega) (HB0.out.trans (KC.mono HB0.out.size)) s4 r4 q4
    have HZ := Lib.hid hZ
    have HF := Lib.hid (And.intro u0 (And.intro u1 u2))
    have HG := Lib.hid (f_of_gv hG)
    clear hZ u0 u1 u2 hG i0 i1 i2 i3 i4 i5 s4 CT CM CR
    go_wp2_with fail
    rw [HZ.out]
    obtain ⟨u0, u1, u2⟩ := HF.out
    exact bodyPost_ret (v := .tuple #[.agg #[.bool n4, .slice X4 a4.length c4, .slice Y4 d4.length e4], .int .i64 0]) (by simp [results, Tryz.results59, go_sem, u0, u1, u2]) rfl (.inr ⟨HD.out, _, rfl, HG.out⟩)

set_option maxRecDepth 10000 in
set_option maxHeartbeats 1600000 in
/-- one by another one -/
theorem frac_Div_gen (S S' T T' : Shape) (P : Int) (Q : Nat) (cH : Fn1 60 S T) (cH' : Fn1 60 S' T') (cQ : Fe2 59 T T' P Q) : Fe2 22 S S' P Q := by
  intro n n' a d a' d' A D A' D' ca cd ca' cd' w hS hT h h' q q'
  obtain ⟨W, hW, k1, k2, kr, b0, s0⟩ := bx3 w 26 26 26 (.bool n) (.slice A a.length ca) (.slice D d.length cd) (.bool n') (.slice A' a'.length ca') (.slice D' d'.length cd') (.bool false) (.slice none 0 0) (.slice none 0 0)
  obtain ⟨p0, p1, p2, -, -, -⟩ := k1.facts
  obtain ⟨z0, z1, z2, -, -, -⟩ := k2.facts
  have h := h.on b0
  have h' := h'.on b0
  have q := q.on b0
  have q' := q'.on b0
  obtain ⟨i0, i1, i2, i3, i4, i5⟩ := kr.facts
  have K0 : Below W.heap.size W W.drew := below_drewN (Below.refl _ _) 1
  have KI : Below W.heap.size W W := Below.refl _ _
  have HK1 := Lib.hid k1
  have HK2 := Lib.hid k2
  have HKR := Lib.hid kr
  have HB0 := Lib.hid b0
  have hlt : w.heap.size + 2 < W.heap.size := by omega
  have CH := Lib.hid cH
  have CI := Lib.hid cH'
  have CQ := Lib.hid cQ
  clear cH cH' cQ
  clear k1 k2 kr b0
  go_enter Tryz.func22, Tryz.ntmps22
  go_wp2_with fail
  try rw [hW]
  clear hW
  go_region_held3 (fun w' => (w'.cell? ⟨w.heap.size, 0, none⟩ = some (.bool n) ∧ w'.cell? ⟨w.heap.size, 1, none⟩ = some (.slice A a.length ca) ∧ w'.cell? ⟨w.heap.size, 2, none⟩ = some (.slice D d.length cd)) ∧ (w'.cell? ⟨w.heap.size + 1, 0, none⟩ = some (.bool n') ∧ w'.cell? ⟨w.heap.size + 1, 1, none⟩ = some (.slice A' a'.length ca') ∧ w'.cell? ⟨w.heap.size + 1, 2, none⟩ = some (.slice D' d'.length cd')))
    (first | (with_reducible exact ⟨keep3 HK1.out K0, keep3 HK2.out K0⟩) | (with_reducible exact ⟨keep3 HK1.out KA, keep3 HK2.out KA⟩) | (with_reducible exact ⟨keep3 HK1.out KB, keep3 HK2.out KB⟩) | (with_reducible exact ⟨keep3 HK1.out KC, keep3 HK2.out KC⟩) | (with_reducible exact ⟨far_cells (HK1.out.below KC HK1.out.lt) (by omega) _ _ _, far_cells (HK2.out.below KC HK2.out.lt) (by omega) _ _ _⟩) | go_keep)
    ((first
      | (go_at_call_of 60 (Value.slice A a.length ca); (with_reducible refine Calls.mono (CH.out n a d A D ca cd _ hS (h.on K0) (h'.on K0)) ?_); rintro e w1 ⟨n2, a2, X2, c2, d2, Y2, e2, rfl, s2, r2, q2, b1⟩; have KA := below_next K0 (Nat.le_refl _) b1)
      | (go_at_call_of 60 (Value.slice A' a'.length ca'); (with_reducible refine Calls.mono (CI.out n' a' d' A' D' ca' cd' _ hT (q.on KA) (q'.on KA)) ?_); rintro e w2 ⟨n3, a3, X3, c3, d3, Y3, e3, rfl, s3, r3, q3, b2⟩; have KB := below_next KA (Nat.le_refl _) b2)
      | (go_at_call 59; (with_reducible refine Calls.mono (CQ.out n2 n3 a2 d2 a3 d3 X2 Y2 X3 Y3 c2 e2 c3 e3 _ s2 s3 (r2.on b2) (q2.on b2) r3 q3) ?_); rintro e w3 hE; obtain ⟨n6, A6, la, c6, D6, ld, e6, er, rfl, f6, b3⟩ := hE.one; clear hE; have KC := below_next KB (Nat.le_refl _) b3; obtain ⟨i0, i1, i2, i3, i4, i5⟩ := (HKR.out.below KC HKR.out.lt).facts)))
  obtain ⟨Z, hZ, u0, u1, u2, hG⟩ := fin_fit (w := w) (HKR.out.below KC HKR.out.lt) (by omega) (HB0.out.trans (KC.mono HB0.out.size)) f6
  have HZ := Lib.hid hZ
  have HF := Lib.hid (And.intro u0 (And.intro u1 u2))
  have HG := Lib.hid hG
  clear hZ u0 u1 u2 hG i0 i1 i2 i3 i4 i5 CH CI CQ r2 q2 r3 q3 f6
  go_wp2_with fail
  rw [HZ.out]
  obtain ⟨u0, u1, u2⟩ := HF.out
  exact bodyPost_ret (by simp [results, Tryz.results22, go_sem, u0, u1, u2]) rfl HG.out
end Go.Proofs.YtidbpkibjficnaaGreatDoor
/- Fractions: what the program's own Make and Of answer. -/

namespace Go.Proofs.YtidbpkibjficnaaGreatDoor
open Go.RowKit Num

theorem make_same {n n' : Bool} {a d : List Nat} {w w' : World} {e : Ending} (h : GivesFE (acrossN (wv n a * ((1 : Nat) : Int)) (wv n' d * ((1 : Nat) : Int))) (wv n' d * ((1 : Nat) : Int)).natAbs w e w') : GivesFE (wv (!(n == n')) a) (val 4294967296 d) w e w' := by
  have e1 : ((1 : Nat) : Int) = 1 := rfl
  rw [e1, Int.mul_one, Int.mul_one, wv_abs] at h
  rcases Nat.eq_zero_or_pos (val 4294967296 d) with h0 | h0
  · rw [h0] at h ⊢
    rcases h with h | h
    · exact .inl h
    · exact absurd h.1 (by omega)
  · have e2 : acrossN (wv n a) (wv n' d) = wv (!(n == n')) a := by
      unfold acrossN
      cases n' <;> cases n <;> simp [wv] <;> omega
    rwa [e2] at h

set_option maxRecDepth 10000 in
set_option maxHeartbeats 1600000 in
/-- a number by another one -/
theorem frac_Make (n n' : Bool) (a d : List Nat) (A D : Option Addr) (ca cd : Nat) (w : World) (h : Rd w (fun g => g < w.heap.size) .u32 A a) (h' : Rd w (fun g => g < w.heap.size) .u32 D d) (hl : a.length ≤ 2097152) (hl' : d.length ≤ 2097152) (hc : a.length ≤ ca) (hc' : d.length ≤ cd) (ha : Dg 4294967296 a) (hd : Dg 4294967296 d) :
    Calls Tryz.prog 27 #[.agg #[.bool n, .slice A a.length ca], .agg #[.bool n', .slice D d.length cd]] w (GivesFE (wv (!(n == n')) a) (val 4294967296 d) w) := by
  obtain ⟨W, hW, k1, k2, kr, b0, s0⟩ := whole_boxesf w (.bool n) (.slice A a.length ca) (.bool n') (.slice D d.length cd)
  obtain ⟨p0, p1, -, -⟩ := k1.facts2
  obtain ⟨z0, z1, -, -⟩ := k2.facts2
  obtain ⟨i0, i1, i2, i3, i4, i5⟩ := kr.facts
  have h := h.on b0
  have h' := h'.on b0
  have cO := fun (V : World) => frac_one V
  have cQ : ∀ (V : World) (x y : List Nat) (X Y : Option Addr) (cx cy : Nat), Below W.heap.size W V → Rd V (fun g => g < V.heap.size) .u32 X x → Rd V (fun g => g < V.heap.size) .u32 Y y → x.length ≤ cx → y.length ≤ cy → Norm 4294967296 x → Norm 4294967296 y → val 4294967296 x = 1 → val 4294967296 y = 1 → Calls Tryz.prog 59 #[.agg #[.bool n, .slice A a.length ca, .slice X x.length cx], .agg #[.bool n', .slice D d.length cd, .slice Y y.length cy]] V (GivesFE (wv (!(n == n')) a) (val 4294967296 d) V) := fun V x y X Y cx cy hV hx hy hcx hcy hn hm hv hu => by
    have lx := len_le (b := 4294967296) (a := [1]) (by omega) hn.2 (dg_one (by omega)) (by rw [hv]; exact Nat.le_refl _)
    have ly := len_le (b := 4294967296) (a := [1]) (by omega) hm.2 (dg_one (by omega)) (by rw [hu]; exact Nat.le_refl _)
    simp only [List.length_singleton] at lx ly
    refine (frac_quotient (wv n a) (wv n' d) 1 1 2097152 (by omega) (by omega) (by omega) n n' a x d y A X D Y ca cx cd cy V ⟨hc, hcx, ha, hn.1, hl, by omega, by omega, by rw [hv]⟩ ⟨hc', hcy, hd, hm.1, hl', by omega, by omega, by rw [hu]⟩ (h.on hV) hx (h'.on hV) hy).mono fun e w' => make_same
  obtain ⟨P, hP⟩ : ∃ P, wv (!(n == n')) a = P := ⟨_, rfl⟩
  simp only [hP] at cQ
  rw [hP]
  clear hP
  have CO := Lib.hid cO
  have CQ := Lib.hid cQ
  have HK1 := Lib.hid k1
  have HK2 := Lib.hid k2
  have HKR := Lib.hid kr
  have HB0 := Lib.hid b0
  have hlt : w.heap.size + 2 < W.heap.size := by omega
  have K0 : Below W.heap.size W W.drew := below_drewN (Below.refl _ _) 1
  clear cO cQ k1 k2 kr b0
  go_enter Tryz.func27, Tryz.ntmps27
  go_wp2_with fail
  try rw [hW]
  clear hW
  go_region_held3 (fun w' => (w'.cell? ⟨w.heap.size, 0, none⟩ = some (.bool n) ∧ w'.cell? ⟨w.heap.size, 1, none⟩ = some (.slice A a.length ca)) ∧ (w'.cell? ⟨w.heap.size + 1, 0, none⟩ = some (.bool n') ∧ w'.cell? ⟨w.heap.size + 1, 1, none⟩ = some (.slice D d.length cd)))
    (first | (with_reducible exact ⟨keep2w HK1.out K0, keep2w HK2.out K0⟩) | (with_reducible exact ⟨keep2w HK1.out KA, keep2w HK2.out KA⟩) | (with_reducible exact ⟨keep2w HK1.out KB, keep2w HK2.out KB⟩) | (with_reducible exact ⟨keep2w HK1.out KC, keep2w HK2.out KC⟩) | (with_reducible exact ⟨far_cells2 (HK1.out.below KC HK1.out.lt) (by omega) _ _ _, far_cells2 (HK2.out.below KC HK2.out.lt) (by omega) _ _ _⟩) | go_keep)
    ((first
      | (go_at_call 66; (with_reducible refine Calls.mono (CO.out W.drew) ?_); rintro e w2 ⟨X, x, cx, rfl, hcx, hnx, hvx, rx, b2⟩; have KA := below_next K0 (Nat.le_refl _) b2)
      | (go_at_call 66; (with_reducible refine Calls.mono (CO.out w2) ?_); rintro e w3 ⟨Y, y, cy, rfl, hcy, hny, hvy, ry, b3⟩; have KB := below_next KA (Nat.le_refl _) b3)
      | (go_at_call 59; (with_reducible refine Calls.mono (CQ.out _ x y X Y cx cy KB (rx.on b3) ry hcx hcy hnx hny hvx hvy) ?_); rintro e w4 hE; obtain ⟨n6, A6, la, c6, D6, ld, e6, er, rfl, f6, b4⟩ := hE.one; clear hE; have KC := below_next KB (Nat.le_refl _) b4; obtain ⟨i0, i1, i2, i3, i4, i5⟩ := (HKR.out.below KC HKR.out.lt).facts)))
  obtain ⟨Z, hZ, u0, u1, u2, hG⟩ := fin_fit (w := w) (HKR.out.below KC HKR.out.lt) (by omega) (HB0.out.trans (KC.mono HB0.out.size)) f6
  have HZ := Lib.hid hZ
  have HF := Lib.hid (And.intro u0 (And.intro u1 u2))
  have HG := Lib.hid hG
  clear hZ u0 u1 u2 hG f6 hvx hvy hnx hny rx ry CO CQ i0 i1 i2 i3 i4 i5
  go_wp2_with fail
  rw [HZ.out]
  obtain ⟨u0, u1, u2⟩ := HF.out
  exact bodyPost_ret (by simp [results, Tryz.results27, go_sem, u0, u1, u2]) rfl HG.out

set_option maxRecDepth 10000 in
set_option maxHeartbeats 1600000 in
/-- an int by another one -/
theorem frac_Of (n d : Int) (hn1 : -9223372036854775808 ≤ n) (hn2 : n ≤ 9223372036854775807) (hd1 : -9223372036854775808 ≤ d) (hd2 : d ≤ 9223372036854775807) (P : Int) (Q : Nat) (hP : acrossN n d = P) (hQ : d.natAbs = Q) (w : World) :
    Calls Tryz.prog 24 #[.int .i64 n, .int .i64 d] w (GivesFE P Q w) := by
  obtain ⟨W, hW, k, b0, s0⟩ := bx1 w 26 (.bool false) (.slice none 0 0) (.slice none 0 0)
  have c1 := fun (V : World) => whole_Of n hn1 hn2 V
  have c2 := fun (V : World) => whole_Of d hd1 hd2 V
  have cM : ∀ (V : World) (x y : List Nat) (X Y : Option Addr) (cx cy : Nat), Rd V (fun g => g < V.heap.size) .u32 X x → Rd V (fun g => g < V.heap.size) .u32 Y y → x.length ≤ cx → y.length ≤ cy → Norm 4294967296 x → Norm 4294967296 y → val 4294967296 x = n.natAbs → val 4294967296 y = d.natAbs → Calls Tryz.prog 27 #[.agg #[.bool (decide (n < 0)), .slice X x.length cx], .agg #[.bool (decide (d < 0)), .slice Y y.length cy]] V (GivesFE P Q V) := fun V x y X Y cx cy hx hy hcx hcy hn hm hv hu => by
    have lx := hn.2.length_le (b := 4294967296) (n := 2) (by omega) (by rw [hv]; omega)
    have ly := hm.2.length_le (b := 4294967296) (n := 2) (by omega) (by rw [hu]; omega)
    have := frac_Make (decide (n < 0)) (decide (d < 0)) x y X Y cx cy V hx hy (by omega) (by omega) hcx hcy hn.1 hm.1
    rwa [wv_across hv, hu, hP, hQ] at this
  obtain ⟨i0, i1, i2, i3, i4, i5⟩ := k.facts
  have CM := Lib.hid cM
  clear cM hP hQ
  go_enter Tryz.func24, Tryz.ntmps24
  go_wp2_with fail
  try rw [hW]
  clear hW
  refine (c1 W).mono ?_
  rintro e w1 ⟨X, x, cx, rfl, hcx, hnx, hvx, rx, b1⟩
  have HX := Lib.hid (And.intro hnx hvx)
  clear hnx hvx
  go_wp2_with fail
  refine (c2 w1).mono ?_
  rintro e w2 ⟨Y, y, cy, rfl, hcy, hny, hvy, ry, b2⟩
  have cM := CM.out w2 x y X Y cx cy (rx.on b2) ry hcx hcy HX.out.1 hny HX.out.2 hvy
  clear hny hvy c1 c2
  go_wp2_with fail
  refine cM.mono ?_
  rintro e w3 hE
  obtain ⟨n6, A6, la, c6, D6, ld, e6, er, rfl, f6, b3⟩ := hE.one
  clear hE cM
  have B2 := (b0.trans (b1.mono b0.size)).trans (b2.mono (Nat.le_trans b0.size b1.size))
  have B3 := B2.trans (b3.mono B2.size)
  have K := ((k.below b1 k.lt).below b2 (k.below b1 k.lt).lt).below b3 ((k.below b1 k.lt).below b2 (k.below b1 k.lt).lt).lt
  obtain ⟨i0, i1, i2, i3, i4, i5⟩ := K.facts
  obtain ⟨Z, hZ, u0, u1, u2, hG⟩ := fin_fit (w := w) K (Nat.le_refl _) B3 f6
  have HZ := Lib.hid hZ
  have HF := Lib.hid (And.intro u0 (And.intro u1 u2))
  have HG := Lib.hid hG
  clear hZ u0 u1 u2 hG f6 K k B2 B3 b1 b2 b3 rx ry
  go_wp2_with fail
  rw [HZ.out]
  obtain ⟨u0, u1, u2⟩ := HF.out
  exact bodyPost_ret (by simp [results, Tryz.results24, go_sem, u0, u1, u2]) rfl HG.out
end Go.Proofs.YtidbpkibjficnaaGreatDoor
