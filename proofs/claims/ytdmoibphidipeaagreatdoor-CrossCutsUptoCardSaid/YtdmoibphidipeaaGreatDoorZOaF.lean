/- Fractions: what the program's own minus, Reduce, ofOne and ofTwo answer. -/
import Derived.Test.YtdmoibphidipeaaGreatDoorZFrW
import Derived.Deep.RegionHeld3
import Derived.Test.YtdmoibphidipeaaGreatDoorZOaE
import Derived.Test.YtdmoibphidipeaaGreatDoorZOaD
import Derived.Test.YtdmoibphidipeaaGreatDoorZWrX
import Derived.Lib.Strings
import Derived.Test.YtdmoibphidipeaaGreatDoorZWrY
import Derived.Deep.RegionWith
namespace Go.Proofs.YtdmoibphidipeaaGreatDoor
open Go.RowKit Num

abbrev Fo2 (g f : FuncId) (S S' T : Shape) : Prop := ∀ (n n' : Bool) (a d a' d' : List Nat) (A D A' D' : Option Addr) (ca cd ca' cd' : Nat) (w : World), S n a ca d cd → S' n' a' ca' d' cd' → Rd w (fun g => g < w.heap.size) .u32 A a → Rd w (fun g => g < w.heap.size) .u32 D d → Rd w (fun g => g < w.heap.size) .u32 A' a' → Rd w (fun g => g < w.heap.size) .u32 D' d' → Calls Tryz.prog g #[.func (.func f) #[] #[], .agg #[.bool n, .slice A a.length ca, .slice D d.length cd], .agg #[.bool n', .slice A' a'.length ca', .slice D' d'.length cd']] w (Gv T w)

set_option maxRecDepth 10000 in
set_option maxHeartbeats 1600000 in
/-- a difference -/
theorem ratio_minus_gen (S T T' U : Shape) (cN : Fn1 234 T T') (cP : Fn2 204 S T' U) : Fn2 205 S T U := by
  intro n n' a d a' d' A D A' D' ca cd ca' cd' w hS hT h h' q q'
  obtain ⟨W, hW, k1, k2, kr, b0, s0⟩ := bx3 w 111 111 111 (.bool n) (.slice A a.length ca) (.slice D d.length cd) (.bool n') (.slice A' a'.length ca') (.slice D' d'.length cd') (.bool false) (.slice none 0 0) (.slice none 0 0)
  obtain ⟨p0, p1, p2, -, -, -⟩ := k1.facts
  obtain ⟨z0, z1, z2, -, -, -⟩ := k2.facts
  have h := h.on b0
  have h' := h'.on b0
  have q := q.on b0
  have q' := q'.on b0
  obtain ⟨i0, i1, i2, i3, i4, i5⟩ := kr.facts
  have K0 : Below W.heap.size W W.drew := below_drewN (Below.refl _ _) 1
  have KI : Below W.heap.size W W := Below.refl _ _
  have HK1 := Lib.hid k1
  have HK2 := Lib.hid k2
  have HKR := Lib.hid kr
  have HB0 := Lib.hid b0
  have hlt : w.heap.size + 2 < W.heap.size := by omega
  have CN := Lib.hid cN
  have CP := Lib.hid cP
  clear cN cP
  clear k1 k2 kr b0
  go_enter Tryz.func205, Tryz.ntmps205
  go_wp2_with fail
  try rw [hW]
  clear hW
  go_region_held3 (fun w' => (w'.cell? ⟨w.heap.size, 0, none⟩ = some (.bool n) ∧ w'.cell? ⟨w.heap.size, 1, none⟩ = some (.slice A a.length ca) ∧ w'.cell? ⟨w.heap.size, 2, none⟩ = some (.slice D d.length cd)) ∧ (w'.cell? ⟨w.heap.size + 1, 0, none⟩ = some (.bool n') ∧ w'.cell? ⟨w.heap.size + 1, 1, none⟩ = some (.slice A' a'.length ca') ∧ w'.cell? ⟨w.heap.size + 1, 2, none⟩ = some (.slice D' d'.length cd')))
    (first | (with_reducible exact ⟨keep3 HK1.out K0, keep3 HK2.out K0⟩) | (with_reducible exact ⟨keep3 HK1.out KA, keep3 HK2.out KA⟩) | (with_reducible exact ⟨keep3 HK1.out KB, keep3 HK2.out KB⟩) | (with_reducible exact ⟨far_cells (HK1.out.below KB HK1.out.lt) (by omega) _ _ _, far_cells (HK2.out.below KB HK2.out.lt) (by omega) _ _ _⟩) | go_keep)
    ((first
      | (go_at_call 234; (with_reducible refine Calls.mono (CN.out n' a' d' A' D' ca' cd' _ hT (q.on K0) (q'.on K0)) ?_); rintro e w1 ⟨n2, a2, X2, c2, d2, Y2, e2, rfl, s2, r2, q2, b1⟩; have KA := below_next K0 (Nat.le_refl _) b1)
      | (go_at_call 204; (with_reducible refine Calls.mono (CP.out n n2 a d a2 d2 A D X2 Y2 ca cd c2 e2 _ hS s2 (h.on KA) (h'.on KA) r2 q2) ?_); rintro e w2 ⟨n3, a3, X3, c3, d3, Y3, e3, rfl, s3, r3, q3, b2⟩; have KB := below_next KA (Nat.le_refl _) b2; obtain ⟨i0, i1, i2, i3, i4, i5⟩ := (HKR.out.below KB HKR.out.lt).facts)))
  obtain ⟨Z, hZ, u0, u1, u2, hG⟩ := fin_any (n := n3) (a := a3) (d := d3) (ca := c3) (cd := e3) (w := w) (HKR.out.below KB HKR.out.lt) (by omega) (HB0.out.trans (KB.mono HB0.out.size)) s3 r3 q3
  have HZ := Lib.hid hZ
  have HF := Lib.hid (And.intro u0 (And.intro u1 u2))
  have HG := Lib.hid hG
  clear hZ u0 u1 u2 hG i0 i1 i2 i3 i4 i5 CN CP r2 q2 r3 q3
  go_wp2_with fail
  rw [HZ.out]
  obtain ⟨u0, u1, u2⟩ := HF.out
  exact bodyPost_ret (by simp [results, Tryz.results205, go_sem, u0, u1, u2]) rfl HG.out

set_option maxRecDepth 10000 in
set_option maxHeartbeats 1600000 in
/-- reduced -/
theorem frac_Reduce_gen (S T U : Shape) (cH : Fn1 108 S T) (cR : Fn1 141 T U) : Fn1 101 S U := by
  intro n a d A D ca cd w hS h h'
  obtain ⟨W, hW, k1, kr, b0, s0⟩ := bx2 w 39 39 (.bool n) (.slice A a.length ca) (.slice D d.length cd) (.bool false) (.slice none 0 0) (.slice none 0 0)
  obtain ⟨p0, p1, p2, -, -, -⟩ := k1.facts
  have h := h.on b0
  have h' := h'.on b0
  obtain ⟨i0, i1, i2, i3, i4, i5⟩ := kr.facts
  have K0 : Below W.heap.size W W.drew := below_drewN (Below.refl _ _) 1
  have KI : Below W.heap.size W W := Below.refl _ _
  have HK1 := Lib.hid k1
  have HKR := Lib.hid kr
  have HB0 := Lib.hid b0
  have hlt : w.heap.size + 1 < W.heap.size := by omega
  have CH := Lib.hid cH
  have CR := Lib.hid cR
  clear cH cR
  clear k1 kr b0
  go_enter Tryz.func101, Tryz.ntmps101
  go_wp2_with fail
  try rw [hW]
  clear hW
  refine Calls.mono (CH.out n a d A D ca cd _ hS (h.on KI) (h'.on KI)) ?_
  rintro e w1 ⟨n2, a2, X2, c2, d2, Y2, e2, rfl, s2, r2, q2, b1⟩
  have KA := below_next KI (Nat.le_refl _) b1
  obtain ⟨p0, p1, p2⟩ := keep3 HK1.out KA
  obtain ⟨i0, i1, i2, i3, i4, i5⟩ := (HKR.out.below KA HKR.out.lt).facts
  go_wp2_with fail
  refine Calls.mono (CR.out n2 a2 d2 X2 Y2 c2 e2 _ s2 r2 q2) ?_
  rintro e w2 ⟨n3, a3, X3, c3, d3, Y3, e3, rfl, s3, r3, q3, b2⟩
  have KB := below_next KA (Nat.le_refl _) b2
  obtain ⟨p0, p1, p2⟩ := keep3 HK1.out KB
  obtain ⟨i0, i1, i2, i3, i4, i5⟩ := (HKR.out.below KB HKR.out.lt).facts
  obtain ⟨Z, hZ, u0, u1, u2, hG⟩ := fin_any (n := n3) (a := a3) (d := d3) (ca := c3) (cd := e3) (w := w) (HKR.out.below KB HKR.out.lt) (by omega) (HB0.out.trans (KB.mono HB0.out.size)) s3 r3 q3
  have HZ := Lib.hid hZ
  have HF := Lib.hid (And.intro u0 (And.intro u1 u2))
  have HG := Lib.hid hG
  clear hZ u0 u1 u2 hG CH CR r2 q2 r3 q3
  go_wp2_with fail
  rw [HZ.out]
  obtain ⟨u0, u1, u2⟩ := HF.out
  exact bodyPost_ret (by simp [results, Tryz.results101, go_sem, u0, u1, u2]) rfl HG.out

set_option maxRecDepth 10000 in
set_option maxHeartbeats 1600000 in
/-- what is reckoned of two -/
theorem frac_ofTwo_plus (S S' T T' V U : Shape) (cH : Fn1 108 S T) (cH' : Fn1 108 S' T') (cF : Fn2 204 T T' V) (cR : Fn1 141 V U) : Fo2 203 204 S S' U := by
  intro n n' a d a' d' A D A' D' ca cd ca' cd' w hS hT h h' q q'
  obtain ⟨W, hW, k1, k2, kr, b0, s0⟩ := bx3 w 39 39 39 (.bool n) (.slice A a.length ca) (.slice D d.length cd) (.bool n') (.slice A' a'.length ca') (.slice D' d'.length cd') (.bool false) (.slice none 0 0) (.slice none 0 0)
  obtain ⟨p0, p1, p2, -, -, -⟩ := k1.facts
  obtain ⟨z0, z1, z2, -, -, -⟩ := k2.facts
  have h := h.on b0
  have h' := h'.on b0
  have q := q.on b0
  have q' := q'.on b0
  obtain ⟨i0, i1, i2, i3, i4, i5⟩ := kr.facts
  have K0 : Below W.heap.size W W.drew := below_drewN (Below.refl _ _) 1
  have KI : Below W.heap.size W W := Below.refl _ _
  have HK1 := Lib.hid k1
  have HK2 := Lib.hid k2
  have HKR := Lib.hid kr
  have HB0 := Lib.hid b0
  have hlt : w.heap.size + 2 < W.heap.size := by omega
  have CH := Lib.hid cH
  have CI := Lib.hid cH'
  have CF := Lib.hid cF
  have CR := Lib.hid cR
  clear cH cH' cF cR
  clear k1 k2 kr b0
  go_enter Tryz.func203, Tryz.ntmps203
  go_wp2_with fail
  try rw [hW]
  clear hW
  go_region_held3 (fun w' => (w'.cell? ⟨w.heap.size, 0, none⟩ = some (.bool n) ∧ w'.cell? ⟨w.heap.size, 1, none⟩ = some (.slice A a.length ca) ∧ w'.cell? ⟨w.heap.size, 2, none⟩ = some (.slice D d.length cd)) ∧ (w'.cell? ⟨w.heap.size + 1, 0, none⟩ = some (.bool n') ∧ w'.cell? ⟨w.heap.size + 1, 1, none⟩ = some (.slice A' a'.length ca') ∧ w'.cell? ⟨w.heap.size + 1, 2, none⟩ = some (.slice D' d'.length cd')))
    (first | (with_reducible exact ⟨keep3 HK1.out K0, keep3 HK2.out K0⟩) | (with_reducible exact ⟨keep3 HK1.out KA, keep3 HK2.out KA⟩) | (with_reducible exact ⟨keep3 HK1.out KB, keep3 HK2.out KB⟩) | (with_reducible exact ⟨keep3 HK1.out KC, keep3 HK2.out KC⟩) | (with_reducible exact ⟨keep3 HK1.out KD, keep3 HK2.out KD⟩) | (with_reducible exact ⟨far_cells (HK1.out.below KD HK1.out.lt) (by omega) _ _ _, far_cells (HK2.out.below KD HK2.out.lt) (by omega) _ _ _⟩) | go_keep)
    ((first
      | (go_at_call_of 108 (Value.slice A a.length ca); (with_reducible refine Calls.mono (CH.out n a d A D ca cd _ hS (h.on K0) (h'.on K0)) ?_); rintro e w1 ⟨n2, a2, X2, c2, d2, Y2, e2, rfl, s2, r2, q2, b1⟩; have KA := below_next K0 (Nat.le_refl _) b1)
      | (go_at_call_of 108 (Value.slice A' a'.length ca'); (with_reducible refine Calls.mono (CI.out n' a' d' A' D' ca' cd' _ hT (q.on KA) (q'.on KA)) ?_); rintro e w2 ⟨n3, a3, X3, c3, d3, Y3, e3, rfl, s3, r3, q3, b2⟩; have KB := below_next KA (Nat.le_refl _) b2)
      | (go_at_call 204; (with_reducible refine Calls.mono (CF.out n2 n3 a2 d2 a3 d3 X2 Y2 X3 Y3 c2 e2 c3 e3 _ s2 s3 (r2.on b2) (q2.on b2) r3 q3) ?_); rintro e w3 ⟨n4, a4, X4, c4, d4, Y4, e4, rfl, s4, r4, q4, b3⟩; have KC := below_next KB (Nat.le_refl _) b3)
      | (go_at_call 141; (with_reducible refine Calls.mono (CR.out n4 a4 d4 X4 Y4 c4 e4 _ s4 r4 q4) ?_); rintro e w4 ⟨n5, a5, X5, c5, d5, Y5, e5, rfl, s5, r5, q5, b4⟩; have KD := below_next KC (Nat.le_refl _) b4; obtain ⟨i0, i1, i2, i3, i4, i5⟩ := (HKR.out.below KD HKR.out.lt).facts)))
  obtain ⟨Z, hZ, u0, u1, u2, hG⟩ := fin_any (n := n5) (a := a5) (d := d5) (ca := c5) (cd := e5) (w := w) (HKR.out.below KD HKR.out.lt) (by omega) (HB0.out.trans (KD.mono HB0.out.size)) s5 r5 q5
  have HZ := Lib.hid hZ
  have HF := Lib.hid (And.intro u0 (And.intro u1 u2))
  have HG := Lib.hid hG
  clear hZ u0 u1 u2 hG i0 i1 i2 i3 i4 i5 CH CI CF CR r2 q2 r3 q3 r4 q4 r5 q5
  go_wp2_with fail
  rw [HZ.out]
  obtain ⟨u0, u1, u2⟩ := HF.out
  exact bodyPost_ret (by simp [results, Tryz.results203, go_sem, u0, u1, u2]) rfl HG.out

set_option maxRecDepth 10000 in
set_option maxHeartbeats 1600000 in
/-- what is reckoned of two -/
theorem frac_ofTwo_minus (S S' T T' V U : Shape) (cH : Fn1 108 S T) (cH' : Fn1 108 S' T') (cF : Fn2 205 T T' V) (cR : Fn1 141 V U) : Fo2 203 205 S S' U := by
  intro n n' a d a' d' A D A' D' ca cd ca' cd' w hS hT h h' q q'
  obtain ⟨W, hW, k1, k2, kr, b0, s0⟩ := bx3 w 39 39 39 (.bool n) (.slice A a.length ca) (.slice D d.length cd) (.bool n') (.slice A' a'.length ca') (.slice D' d'.length cd') (.bool false) (.slice none 0 0) (.slice none 0 0)
  obtain ⟨p0, p1, p2, -, -, -⟩ := k1.facts
  obtain ⟨z0, z1, z2, -, -, -⟩ := k2.facts
  have h := h.on b0
  have h' := h'.on b0
  have q := q.on b0
  have q' := q'.on b0
  obtain ⟨i0, i1, i2, i3, i4, i5⟩ := kr.facts
  have K0 : Below W.heap.size W W.drew := below_drewN (Below.refl _ _) 1
  have KI : Below W.heap.size W W := Below.refl _ _
  have HK1 := Lib.hid k1
  have HK2 := Lib.hid k2
  have HKR := Lib.hid kr
  have HB0 := Lib.hid b0
  have hlt : w.heap.size + 2 < W.heap.size := by omega
  have CH := Lib.hid cH
  have CI := Lib.hid cH'
  have CF := Lib.hid cF
  have CR := Lib.hid cR
  clear cH cH' cF cR
  clear k1 k2 kr b0
  go_enter Tryz.func203, Tryz.ntmps203
  go_wp2_with fail
  try rw [hW]
  clear hW
  go_region_held3 (fun w' => (w'.cell? ⟨w.heap.size, 0, none⟩ = some (.bool n) ∧ w'.cell? ⟨w.heap.size, 1, none⟩ = some (.slice A a.length ca) ∧ w'.cell? ⟨w.heap.size, 2, none⟩ = some (.slice D d.length cd)) ∧ (w'.cell? ⟨w.heap.size + 1, 0, none⟩ = some (.bool n') ∧ w'.cell? ⟨w.heap.size + 1, 1, none⟩ = some (.slice A' a'.length ca') ∧ w'.cell? ⟨w.heap.size + 1, 2, none⟩ = some (.slice D' d'.length cd')))
    (first | (with_reducible exact ⟨keep3 HK1.out K0, keep3 HK2.out K0⟩) | (with_reducible exact ⟨keep3 HK1.out KA, keep3 HK2.out KA⟩) | (with_reducible exact ⟨keep3 HK1.out KB, keep3 HK2.out KB⟩) | (with_reducible exact ⟨keep3 HK1.out KC, keep3 HK2.out KC⟩) | (with_reducible exact ⟨keep3 HK1.out KD, keep3 HK2.out KD⟩) | (with_reducible exact ⟨far_cells (HK1.out.below KD HK1.out.lt) (by omega) _ _ _, far_cells (HK2.out.below KD HK2.out.lt) (by omega) _ _ _⟩) | go_keep)
    ((first
      | (go_at_call_of 108 (Value.slice A a.length ca); (with_reducible refine Calls.mono (CH.out n a d A D ca cd _ hS (h.on K0) (h'.on K0)) ?_); rintro e w1 ⟨n2, a2, X2, c2, d2, Y2, e2, rfl, s2, r2, q2, b1⟩; have KA := below_next K0 (Nat.le_refl _) b1)
      | (go_at_call_of 108 (Value.slice A' a'.length ca'); (with_reducible refine Calls.mono (CI.out n' a' d' A' D' ca' cd' _ hT (q.on KA) (q'.on KA)) ?_); rintro e w2 ⟨n3, a3, X3, c3, d3, Y3, e3, rfl, s3, r3, q3, b2⟩; have KB := below_next KA (Nat.le_refl _) b2)
      | (go_at_call 205; (with_reducible refine Calls.mono (CF.out n2 n3 a2 d2 a3 d3 X2 Y2 X3 Y3 c2 e2 c3 e3 _ s2 s3 (r2.on b2) (q2.on b2) r3 q3) ?_); rintro e w3 ⟨n4, a4, X4, c4, d4, Y4, e4, rfl, s4, r4, q4, b3⟩; have KC := below_next KB (Nat.le_refl _) b3)
      | (go_at_call 141; (with_reducible refine Calls.mono (CR.out n4 a4 d4 X4 Y4 c4 e4 _ s4 r4 q4) ?_); rintro e w4 ⟨n5, a5, X5, c5, d5, Y5, e5, rfl, s5, r5, q5, b4⟩; have KD := below_next KC (Nat.le_refl _) b4; obtain ⟨i0, i1, i2, i3, i4, i5⟩ := (HKR.out.below KD HKR.out.lt).facts)))
  obtain ⟨Z, hZ, u0, u1, u2, hG⟩ := fin_any (n := n5) (a := a5) (d := d5) (ca := c5) (cd := e5) (w := w) (HKR.out.below KD HKR.out.lt) (by omega) (HB0.out.trans (KD.mono HB0.out.size)) s5 r5 q5
  have HZ := Lib.hid hZ
  have HF := Lib.hid (And.intro u0 (And.intro u1 u2))
  have HG := Lib.hid hG
  clear hZ u0 u1 u2 hG i0 i1 i2 i3 i4 i5 CH CI CF CR r2 q2 r3 q3 r4 q4 r5 q5
  go_wp2_with fail
  rw [HZ.out]
  obtain ⟨u0, u1, u2⟩ := HF.out
  exact bodyPost_ret (by simp [results, Tryz.results203, go_sem, u0, u1, u2]) rfl HG.out

set_option maxRecDepth 10000 in
set_option maxHeartbeats 1600000 in
/-- what is reckoned of two -/
theorem frac_ofTwo_times (S S' T T' V U : Shape) (cH : Fn1 108 S T) (cH' : Fn1 108 S' T') (cF : Fn2 201 T T' V) (cR : Fn1 141 V U) : Fo2 203 201 S S' U := by
  intro n n' a d a' d' A D A' D' ca cd ca' cd' w hS hT h h' q q'
  obtain ⟨W, hW, k1, k2, kr, b0, s0⟩ := bx3 w 39 39 39 (.bool n) (.slice A a.length ca) (.slice D d.length cd) (.bool n') (.slice A' a'.length ca') (.slice D' d'.length cd') (.bool false) (.slice none 0 0) (.slice none 0 0)
  obtain ⟨p0, p1, p2, -, -, -⟩ := k1.facts
  obtain ⟨z0, z1, z2, -, -, -⟩ := k2.facts
  have h := h.on b0
  have h' := h'.on b0
  have q := q.on b0
  have q' := q'.on b0
  obtain ⟨i0, i1, i2, i3, i4, i5⟩ := kr.facts
  have K0 : Below W.heap.size W W.drew := below_drewN (Below.refl _ _) 1
  have KI : Below W.heap.size W W := Below.refl _ _
  have HK1 := Lib.hid k1
  have HK2 := Lib.hid k2
  have HKR := Lib.hid kr
  have HB0 := Lib.hid b0
  have hlt : w.heap.size + 2 < W.heap.size := by omega
  have CH := Lib.hid cH
  have CI := Lib.hid cH'
  have CF := Lib.hid cF
  have CR := Lib.hid cR
  clear cH cH' cF cR
  clear k1 k2 kr b0
  go_enter Tryz.func203, Tryz.ntmps203
  go_wp2_with fail
  try rw [hW]
  clear hW
  go_region_held3 (fun w' => (w'.cell? ⟨w.heap.size, 0, none⟩ = some (.bool n) ∧ w'.cell? ⟨w.heap.size, 1, none⟩ = some (.slice A a.length ca) ∧ w'.cell? ⟨w.heap.size, 2, none⟩ = some (.slice D d.length cd)) ∧ (w'.cell? ⟨w.heap.size + 1, 0, none⟩ = some (.bool n') ∧ w'.cell? ⟨w.heap.size + 1, 1, none⟩ = some (.slice A' a'.length ca') ∧ w'.cell? ⟨w.heap.size + 1, 2, none⟩ = some (.slice D' d'.length cd')))
    (first | (with_reducible exact ⟨keep3 HK1.out K0, keep3 HK2.out K0⟩) | (with_reducible exact ⟨keep3 HK1.out KA, keep3 HK2.out KA⟩) | (with_reducible exact ⟨keep3 HK1.out KB, keep3 HK2.out KB⟩) | (with_reducible exact ⟨keep3 HK1.out KC, keep3 HK2.out KC⟩) | (with_reducible exact ⟨keep3 HK1.out KD, keep3 HK2.out KD⟩) | (with_reducible exact ⟨far_cells (HK1.out.below KD HK1.out.lt) (by omega) _ _ _, far_cells (HK2.out.below KD HK2.out.lt) (by omega) _ _ _⟩) | go_keep)
    ((first
      | (go_at_call_of 108 (Value.slice A a.length ca); (with_reducible refine Calls.mono (CH.out n a d A D ca cd _ hS (h.on K0) (h'.on K0)) ?_); rintro e w1 ⟨n2, a2, X2, c2, d2, Y2, e2, rfl, s2, r2, q2, b1⟩; have KA := below_next K0 (Nat.le_refl _) b1)
      | (go_at_call_of 108 (Value.slice A' a'.length ca'); (with_reducible refine Calls.mono (CI.out n' a' d' A' D' ca' cd' _ hT (q.on KA) (q'.on KA)) ?_); rintro e w2 ⟨n3, a3, X3, c3, d3, Y3, e3, rfl, s3, r3, q3, b2⟩; have KB := below_next KA (Nat.le_refl _) b2)
      | (go_at_call 201; (with_reducible refine Calls.mono (CF.out n2 n3 a2 d2 a3 d3 X2 Y2 X3 Y3 c2 e2 c3 e3 _ s2 s3 (r2.on b2) (q2.on b2) r3 q3) ?_); rintro e w3 ⟨n4, a4, X4, c4, d4, Y4, e4, rfl, s4, r4, q4, b3⟩; have KC := below_next KB (Nat.le_refl _) b3)
      | (go_at_call 141; (with_reducible refine Calls.mono (CR.out n4 a4 d4 X4 Y4 c4 e4 _ s4 r4 q4) ?_); rintro e w4 ⟨n5, a5, X5, c5, d5, Y5, e5, rfl, s5, r5, q5, b4⟩; have KD := below_next KC (Nat.le_refl _) b4; obtain ⟨i0, i1, i2, i3, i4, i5⟩ := (HKR.out.below KD HKR.out.lt).facts)))
  obtain ⟨Z, hZ, u0, u1, u2, hG⟩ := fin_any (n := n5) (a := a5) (d := d5) (ca := c5) (cd := e5) (w := w) (HKR.out.below KD HKR.out.lt) (by omega) (HB0.out.trans (KD.mono HB0.out.size)) s5 r5 q5
  have HZ := Lib.hid hZ
  have HF := Lib.hid (And.intro u0 (And.intro u1 u2))
  have HG := Lib.hid hG
  clear hZ u0 u1 u2 hG i0 i1 i2 i3 i4 i5 CH CI CF CR r2 q2 r3 q3 r4 q4 r5 q5
  go_wp2_with fail
  rw [HZ.out]
  obtain ⟨u0, u1, u2⟩ := HF.out
  exact bodyPost_ret (by simp [results, Tryz.results203, go_sem, u0, u1, u2]) rfl HG.out
end Go.Proofs.YtdmoibphidipeaaGreatDoor
/- Fractions: what the program's own Neg, Half, Add, Sub and Mul answer. -/

namespace Go.Proofs.YtdmoibphidipeaaGreatDoor
open Go.RowKit Num

theorem frac_Reduce (P : Int) (Q m : Nat) (hQ : 0 < Q) (hm1 : 1 ≤ m) (hm : m ≤ 4194304) : Fn1 101 (SI P Q m) (SF P Q) :=
  frac_Reduce_gen _ _ _ (frac_hold P Q m hm1 hm) ((ratio_reduced P Q m hQ hm).imp (fun _ _ _ _ _ => SH.toR hQ) fun _ _ _ _ _ h => h)

set_option maxRecDepth 10000 in
set_option maxHeartbeats 1600000 in
/-- of two -/
theorem frac_Add_gen (S T U : Shape) (cO : Fo2 203 204 S T U) : Fn2 151 S T U := by
  intro n n' a d a' d' A D A' D' ca cd ca' cd' w hS hT h h' q q'
  obtain ⟨W, hW, k1, k2, kr, b0, s0⟩ := bx3 w 39 39 39 (.bool n) (.slice A a.length ca) (.slice D d.length cd) (.bool n') (.slice A' a'.length ca') (.slice D' d'.length cd') (.bool false) (.slice none 0 0) (.slice none 0 0)
  obtain ⟨p0, p1, p2, -, -, -⟩ := k1.facts
  obtain ⟨z0, z1, z2, -, -, -⟩ := k2.facts
  have h := h.on b0
  have h' := h'.on b0
  have q := q.on b0
  have q' := q'.on b0
  obtain ⟨i0, i1, i2, i3, i4, i5⟩ := kr.facts
  have K0 : Below W.heap.size W W.drew := below_drewN (Below.refl _ _) 1
  have KI : Below W.heap.size W W := Below.refl _ _
  have HK1 := Lib.hid k1
  have HK2 := Lib.hid k2
  have HKR := Lib.hid kr
  have HB0 := Lib.hid b0
  have hlt : w.heap.size + 2 < W.heap.size := by omega
  have CO := Lib.hid cO
  clear cO
  clear k1 k2 kr b0
  go_enter Tryz.func151, Tryz.ntmps151
  go_wp2_with fail
  try rw [hW]
  clear hW
  refine Calls.mono (CO.out n n' a d a' d' A D A' D' ca cd ca' cd' _ hS hT (h.on KI) (h'.on KI) (q.on KI) (q'.on KI)) ?_
  rintro e w1 ⟨n2, a2, X2, c2, d2, Y2, e2, rfl, s2, r2, q2, b1⟩
  have KA := below_next KI (Nat.le_refl _) b1
  obtain ⟨p0, p1, p2⟩ := keep3 HK1.out KA
  obtain ⟨z0, z1, z2⟩ := keep3 HK2.out KA
  obtain ⟨i0, i1, i2, i3, i4, i5⟩ := (HKR.out.below KA HKR.out.lt).facts
  obtain ⟨Z, hZ, u0, u1, u2, hG⟩ := fin_any (n := n2) (a := a2) (d := d2) (ca := c2) (cd := e2) (w := w) (HKR.out.below KA HKR.out.lt) (by omega) (HB0.out.trans (KA.mono HB0.out.size)) s2 r2 q2
  have HZ := Lib.hid hZ
  have HF := Lib.hid (And.intro u0 (And.intro u1 u2))
  have HG := Lib.hid hG
  clear hZ u0 u1 u2 hG CO r2 q2
  go_wp2_with fail
  rw [HZ.out]
  obtain ⟨u0, u1, u2⟩ := HF.out
  exact bodyPost_ret (by simp [results, Tryz.results151, go_sem, u0, u1, u2]) rfl HG.out

set_option maxRecDepth 10000 in
set_option maxHeartbeats 1600000 in
/-- of two -/
theorem frac_Sub_gen (S T U : Shape) (cO : Fo2 203 205 S T U) : Fn2 153 S T U := by
  intro n n' a d a' d' A D A' D' ca cd ca' cd' w hS hT h h' q q'
  obtain ⟨W, hW, k1, k2, kr, b0, s0⟩ := bx3 w 39 39 39 (.bool n) (.slice A a.length ca) (.slice D d.length cd) (.bool n') (.slice A' a'.length ca') (.slice D' d'.length cd') (.bool false) (.slice none 0 0) (.slice none 0 0)
  obtain ⟨p0, p1, p2, -, -, -⟩ := k1.facts
  obtain ⟨z0, z1, z2, -, -, -⟩ := k2.facts
  have h := h.on b0
  have h' := h'.on b0
  have q := q.on b0
  have q' := q'.on b0
  obtain ⟨i0, i1, i2, i3, i4, i5⟩ := kr.facts
  have K0 : Below W.heap.size W W.drew := below_drewN (Below.refl _ _) 1
  have KI : Below W.heap.size W W := Below.refl _ _
  have HK1 := Lib.hid k1
  have HK2 := Lib.hid k2
  have HKR := Lib.hid kr
  have HB0 := Lib.hid b0
  have hlt : w.heap.size + 2 < W.heap.size := by omega
  have CO := Lib.hid cO
  clear cO
  clear k1 k2 kr b0
  go_enter Tryz.func153, Tryz.ntmps153
  go_wp2_with fail
  try rw [hW]
  clear hW
  refine Calls.mono (CO.out n n' a d a' d' A D A' D' ca cd ca' cd' _ hS hT (h.on KI) (h'.on KI) (q.on KI) (q'.on KI)) ?_
  rintro e w1 ⟨n2, a2, X2, c2, d2, Y2, e2, rfl, s2, r2, q2, b1⟩
  have KA := below_next KI (Nat.le_refl _) b1
  obtain ⟨p0, p1, p2⟩ := keep3 HK1.out KA
  obtain ⟨z0, z1, z2⟩ := keep3 HK2.out KA
  obtain ⟨i0, i1, i2, i3, i4, i5⟩ := (HKR.out.below KA HKR.out.lt).facts
  obtain ⟨Z, hZ, u0, u1, u2, hG⟩ := fin_any (n := n2) (a := a2) (d := d2) (ca := c2) (cd := e2) (w := w) (HKR.out.below KA HKR.out.lt) (by omega) (HB0.out.trans (KA.mono HB0.out.size)) s2 r2 q2
  have HZ := Lib.hid hZ
  have HF := Lib.hid (And.intro u0 (And.intro u1 u2))
  have HG := Lib.hid hG
  clear hZ u0 u1 u2 hG CO r2 q2
  go_wp2_with fail
  rw [HZ.out]
  obtain ⟨u0, u1, u2⟩ := HF.out
  exact bodyPost_ret (by simp [results, Tryz.results153, go_sem, u0, u1, u2]) rfl HG.out

set_option maxRecDepth 10000 in
set_option maxHeartbeats 1600000 in
/-- of two -/
theorem frac_Mul_gen (S T U : Shape) (cO : Fo2 203 201 S T U) : Fn2 152 S T U := by
  intro n n' a d a' d' A D A' D' ca cd ca' cd' w hS hT h h' q q'
  obtain ⟨W, hW, k1, k2, kr, b0, s0⟩ := bx3 w 39 39 39 (.bool n) (.slice A a.length ca) (.slice D d.length cd) (.bool n') (.slice A' a'.length ca') (.slice D' d'.length cd') (.bool false) (.slice none 0 0) (.slice none 0 0)
  obtain ⟨p0, p1, p2, -, -, -⟩ := k1.facts
  obtain ⟨z0, z1, z2, -, -, -⟩ := k2.facts
  have h := h.on b0
  have h' := h'.on b0
  have q := q.on b0
  have q' := q'.on b0
  obtain ⟨i0, i1, i2, i3, i4, i5⟩ := kr.facts
  have K0 : Below W.heap.size W W.drew := below_drewN (Below.refl _ _) 1
  have KI : Below W.heap.size W W := Below.refl _ _
  have HK1 := Lib.hid k1
  have HK2 := Lib.hid k2
  have HKR := Lib.hid kr
  have HB0 := Lib.hid b0
  have hlt : w.heap.size + 2 < W.heap.size := by omega
  have CO := Lib.hid cO
  clear cO
  clear k1 k2 kr b0
  go_enter Tryz.func152, Tryz.ntmps152
  go_wp2_with fail
  try rw [hW]
  clear hW
  refine Calls.mono (CO.out n n' a d a' d' A D A' D' ca cd ca' cd' _ hS hT (h.on KI) (h'.on KI) (q.on KI) (q'.on KI)) ?_
  rintro e w1 ⟨n2, a2, X2, c2, d2, Y2, e2, rfl, s2, r2, q2, b1⟩
  have KA := below_next KI (Nat.le_refl _) b1
  obtain ⟨p0, p1, p2⟩ := keep3 HK1.out KA
  obtain ⟨z0, z1, z2⟩ := keep3 HK2.out KA
  obtain ⟨i0, i1, i2, i3, i4, i5⟩ := (HKR.out.below KA HKR.out.lt).facts
  obtain ⟨Z, hZ, u0, u1, u2, hG⟩ := fin_any (n := n2) (a := a2) (d := d2) (ca := c2) (cd := e2) (w := w) (HKR.out.below KA HKR.out.lt) (by omega) (HB0.out.trans (KA.mono HB0.out.size)) s2 r2 q2
  have HZ := Lib.hid hZ
  have HF := Lib.hid (And.intro u0 (And.intro u1 u2))
  have HG := Lib.hid hG
  clear hZ u0 u1 u2 hG CO r2 q2
  go_wp2_with fail
  rw [HZ.out]
  obtain ⟨u0, u1, u2⟩ := HF.out
  exact bodyPost_ret (by simp [results, Tryz.results152, go_sem, u0, u1, u2]) rfl HG.out

theorem hold_R (P : Int) (Q m : Nat) (hQ : 0 < Q) (hm1 : 1 ≤ m) (hm : m ≤ 4194304) : Fn1 108 (SI P Q m) (SR P Q m) :=
  (frac_hold P Q m hm1 hm).imp (fun _ _ _ _ _ h => h) fun _ _ _ _ _ => SH.toR hQ
theorem frac_Add (P P' : Int) (Q Q' m : Nat) (hQ : 0 < Q) (hQ' : 0 < Q') (hm1 : 1 ≤ m) (hm : m ≤ 2097150) : Fn2 151 (SI P Q m) (SI P' Q' m) (SF (P * (Q' : Int) + P' * (Q : Int)) (Q * Q')) :=
  frac_Add_gen _ _ _ (frac_ofTwo_plus _ _ _ _ _ _ (hold_R P Q m hQ hm1 (by omega)) (hold_R P' Q' m hQ' hm1 (by omega)) (ratio_plus P P' Q Q' m hm) (ratio_reduced _ _ _ (Nat.mul_pos hQ hQ') (by omega)))
theorem ratio_minus (P P' : Int) (Q Q' m : Nat) (hm : m ≤ 2097150) : Fn2 205 (SR P Q m) (SR P' Q' m) (SR (P * (Q' : Int) - P' * (Q : Int)) (Q * Q') (m + m + 1)) := by
  have h := ratio_minus_gen _ _ _ _ (ratio_neg P' Q' m (by omega)) (ratio_plus P (-P') Q Q' m hm)
  rwa [Int.neg_mul, ← Int.sub_eq_add_neg] at h
theorem frac_Mul (P P' : Int) (Q Q' m : Nat) (hQ : 0 < Q) (hQ' : 0 < Q') (hm1 : 1 ≤ m) (hm : m ≤ 2097152) : Fn2 152 (SI P Q m) (SI P' Q' m) (SF (P * P') (Q * Q')) :=
  frac_Mul_gen _ _ _ (frac_ofTwo_times _ _ _ _ _ _ (hold_R P Q m hQ hm1 (by omega)) (hold_R P' Q' m hQ' hm1 (by omega)) (ratio_times P P' Q Q' m (by omega)) (ratio_reduced _ _ _ (Nat.mul_pos hQ hQ') (by omega)))
end Go.Proofs.YtdmoibphidipeaaGreatDoor
/- Fractions: what the program's own quotient, Make, Of and Div answer. -/

namespace Go.Proofs.YtdmoibphidipeaaGreatDoor
open Go.RowKit Num

/-- contracts of what answers a fraction and an error -/
abbrev Fe2 (f : FuncId) (S S' : Shape) (P : Int) (Q : Nat) : Prop := ∀ (n n' : Bool) (a d a' d' : List Nat) (A D A' D' : Option Addr) (ca cd ca' cd' : Nat) (w : World), S n a ca d cd → S' n' a' ca' d' cd' → Rd w (fun g => g < w.heap.size) .u32 A a → Rd w (fun g => g < w.heap.size) .u32 D d → Rd w (fun g => g < w.heap.size) .u32 A' a' → Rd w (fun g => g < w.heap.size) .u32 D' d' → Calls Tryz.prog f #[.agg #[.bool n, .slice A a.length ca, .slice D d.length cd], .agg #[.bool n', .slice A' a'.length ca', .slice D' d'.length cd']] w (GivesFE P Q w)
theorem sgn_zero {N : Int} : sgn N = 0 ↔ N = 0 := by
  unfold sgn
  split
  · omega
  · split <;> omega
theorem across_turn {P P' : Int} {Q Q' : Nat} (hQ : 0 < Q) : P * turnN P' Q' = acrossN (P * (Q' : Int)) (P' * (Q : Int)) ∧ Q * P'.natAbs = (P' * (Q : Int)).natAbs := by
  constructor
  · unfold turnN acrossN
    by_cases h : P' < 0
    · rw [if_pos h, if_pos (Int.mul_neg_of_neg_of_pos h (by omega)), Int.mul_neg]
    · rw [if_neg h, if_neg (by have := Int.mul_nonneg (show 0 ≤ P' by omega) (show (0 : Int) ≤ (Q : Int) by omega); omega)]
  · rw [Int.natAbs_mul, Int.natAbs_natCast, Nat.mul_comm]

set_option maxRecDepth 10000 in
set_option maxHeartbeats 1600000 in
/-- one by another one -/
theorem frac_quotient (P P' : Int) (Q Q' m : Nat) (hQ : 0 < Q) (hQ' : 0 < Q') (hm : m ≤ 2097152) : Fe2 149 (SR P Q m) (SR P' Q' m) (acrossN (P * (Q' : Int)) (P' * (Q : Int))) (P' * (Q : Int)).natAbs := by
  intro n n' a d a' d' A D A' D' ca cd ca' cd' w hS hT h h' q q'
  obtain ⟨W, hW, k1, k2, kr, b0, s0⟩ := bx3 w 111 111 39 (.bool n) (.slice A a.length ca) (.slice D d.length cd) (.bool n') (.slice A' a'.length ca') (.slice D' d'.length cd') (.bool false) (.slice none 0 0) (.slice none 0 0)
  obtain ⟨p0, p1, p2, -, -, -⟩ := k1.facts
  obtain ⟨z0, z1, z2, -, -, -⟩ := k2.facts
  obtain ⟨i0, i1, i2, i3, i4, i5⟩ := kr.facts
  have h := h.on b0
  have h' := h'.on b0
  have q := q.on b0
  have q' := q'.on b0
  have hlt : w.heap.size + 2 < W.heap.size := by omega
  obtain ⟨gc, gc', ga, gd, gl, gl', gd0, gv⟩ := id hT
  have cG := whole_Sign n' a' A' ca' W q (by omega) gc ga
  obtain ⟨e1, e2⟩ := turn_sign hQ' gd0 gv
  obtain ⟨z, hz⟩ : ∃ z, sgn (wv n' a') = z := ⟨_, rfl⟩
  rw [hz] at cG
  have hz0 : z = 0 ↔ P' = 0 := by
    rw [← hz, sgn_zero]
    constructor
    · intro h0
      have := wv_abs n' a'
      rw [h0] at this
      have h1 : val 4294967296 a' = 0 := by omega
      rw [h1, Nat.zero_mul] at e1
      rcases Nat.eq_zero_or_pos P'.natAbs with h2 | h2
      · omega
      · have := Nat.mul_pos h2 gd0
        omega
    · intro h0
      rw [h0, Int.natAbs_zero, Nat.zero_mul] at e1
      have := wv_abs n' a'
      rcases Nat.eq_zero_or_pos (val 4294967296 a') with h2 | h2
      · omega
      · have := Nat.mul_pos h2 hQ'
        omega
  by_cases hP : P' = 0
  · have HE := Lib.hid (show (P' * (Q : Int)).natAbs = 0 by rw [hP, Int.zero_mul]; rfl)
    obtain rfl : z = 0 := hz0.2 hP
    obtain ⟨U, hU, u0, u1, u2, -, bU, -, -⟩ := kr.three (.bool false) (.slice none 0 0) (.slice none 0 0)
    have HK1 := Lib.hid k1
    have HK2 := Lib.hid k2
    have HKR := Lib.hid kr
    have HB0 := Lib.hid b0
    clear hz hz0 e1 e2 hP gv k1 k2 kr b0 u0 u1 u2 bU hU
    go_enter Tryz.func149, Tryz.ntmps149
    go_wp2_with fail
    try rw [hW]
    clear hW
    refine cG.mono ?_
    rintro e w1 ⟨rfl, b1⟩
    obtain ⟨Z, hZ, u0, u1, u2, -, bZ, -, -⟩ := (HKR.out.below b1 HKR.out.lt).three (.bool false) (.slice none 0 0) (.slice none 0 0)
    have HZ := Lib.hid hZ
    have HF := Lib.hid (And.intro u0 (And.intro u1 u2))
    have HB := Lib.hid ((HB0.out.trans (b1.mono HB0.out.size)).trans (bZ w.heap.size (by omega)))
    obtain ⟨i0, i1, i2, i3, i4, i5⟩ := (HKR.out.below b1 HKR.out.lt).facts
    clear hZ u0 u1 u2 bZ cG
    go_wp2_with fail
    rw [HZ.out]
    obtain ⟨u0, u1, u2⟩ := HF.out
    exact bodyPost_ret (v := .tuple #[.agg #[.bool false, .slice none 0 0, .slice none 0 0], .int .i64 5]) (by simp [results, Tryz.results149, go_sem, u0, u1, u2]) rfl (.inl ⟨HE.out, rfl, HB.out⟩)
  · have hzb : (z == 0) = false := by simpa using fun h => hP (hz0.1 h)
    have hpp : 0 < P'.natAbs := by omega
    have hf : ∀ (n : Bool) (a : List Nat) (ca : Nat) (d : List Nat) (cd : Nat), SF (P * turnN P' Q') (Q * P'.natAbs) n a ca d cd → SF (acrossN (P * (Q' : Int)) (P' * (Q : Int))) (P' * (Q : Int)).natAbs n a ca d cd := fun n a ca d cd hh => by
      have e3 := across_turn (P := P) (P' := P') (Q' := Q') hQ
      rw [← e3.1, ← e3.2]
      exact hh
    have HD := Lib.hid (show 0 < (P' * (Q : Int)).natAbs by rw [← (across_turn (P := P) (Q' := Q') hQ).2]; exact Nat.mul_pos hQ hpp)
    have CT := Lib.hid (ratio_turned P' Q' m hP hQ')
    have CM := Lib.hid (ratio_times P (turnN P' Q') Q P'.natAbs m (by omega))
    have CR := Lib.hid ((ratio_reduced (P * turnN P' Q') (Q * P'.natAbs) (m + m) (Nat.mul_pos hQ hpp) (by omega)).imp (fun _ _ _ _ _ h => h) hf)
    have HK1 := Lib.hid k1
    have HK2 := Lib.hid k2
    have HKR := Lib.hid kr
    have HB0 := Lib.hid b0
    have HS := Lib.hid (And.intro hS hT)
    clear hf hz hz0 e1 e2 hP gv k1 k2 kr b0 hS hT
    obtain ⟨T1, hT1⟩ : ∃ T, SR (turnN P' Q') P'.natAbs m = T := ⟨_, rfl⟩
    obtain ⟨T2, hT2⟩ : ∃ T, SR (P * turnN P' Q') (Q * P'.natAbs) (m + m) = T := ⟨_, rfl⟩
    rw [hT1] at CT CM
    rw [hT2] at CM CR
    clear hT1 hT2
    obtain ⟨T3, hT3⟩ : ∃ T, SF (acrossN (P * (Q' : Int)) (P' * (Q : Int))) (P' * (Q : Int)).natAbs = T := ⟨_, rfl⟩
    have HT3 := Lib.hid hT3
    rw [hT3] at CR
    clear hT3
    go_enter Tryz.func149, Tryz.ntmps149
    go_wp2_with fail
    try rw [hW]
    clear hW
    refine cG.mono ?_
    rintro e w1 ⟨rfl, b1⟩
    clear cG
    have K0 : Below W.heap.size W w1.drew := below_drewN b1 1
    obtain ⟨p0, p1, p2⟩ := keep3 HK1.out b1
    obtain ⟨z0, z1, z2⟩ := keep3 HK2.out b1
    obtain ⟨i0, i1, i2, i3, i4, i5⟩ := (HKR.out.below b1 HKR.out.lt).facts
    go_wp2_with fail
    go_region_held3 (fun w' => (w'.cell? ⟨w.heap.size, 0, none⟩ = some (.bool n) ∧ w'.cell? ⟨w.heap.size, 1, none⟩ = some (.slice A a.length ca) ∧ w'.cell? ⟨w.heap.size, 2, none⟩ = some (.slice D d.length cd)) ∧ (w'.cell? ⟨w.heap.size + 1, 0, none⟩ = some (.bool n') ∧ w'.cell? ⟨w.heap.size + 1, 1, none⟩ = some (.slice A' a'.length ca') ∧ w'.cell? ⟨w.heap.size + 1, 2, none⟩ = some (.slice D' d'.length cd')))
      (first | (with_reducible exact ⟨keep3 HK1.out K0, keep3 HK2.out K0⟩) | (with_reducible exact ⟨keep3 HK1.out KA, keep3 HK2.out KA⟩) | (with_reducible exact ⟨keep3 HK1.out KB, keep3 HK2.out KB⟩) | (with_reducible exact ⟨keep3 HK1.out KC, keep3 HK2.out KC⟩) | (with_reducible exact ⟨far_cells (HK1.out.below KC HK1.out.lt) (by omega) _ _ _, far_cells (HK2.out.below KC HK2.out.lt) (by omega) _ _ _⟩) | go_keep)
      ((first
        | (go_at_call 202; (with_reducible refine Calls.mono (CT.out n' a' d' A' D' ca' cd' _ HS.out.2 (q.on K0) (q'.on K0)) ?_); rintro e w2 ⟨n2, a2, X2, c2, d2, Y2, e2, rfl, s2, r2, q2, b2⟩; have KA := below_next K0 (Nat.le_refl _) b2)
        | (go_at_call 201; (with_reducible refine Calls.mono (CM.out n n2 a d a2 d2 A D X2 Y2 ca cd c2 e2 _ HS.out.1 s2 (h.on KA) (h'.on KA) r2 q2) ?_); rintro e w3 ⟨n3, a3, X3, c3, d3, Y3, e3, rfl, s3, r3, q3, b3⟩; have KB := below_next KA (Nat.le_refl _) b3)
        | (go_at_call 141; (with_reducible refine Calls.mono (CR.out n3 a3 d3 X3 Y3 c3 e3 _ s3 r3 q3) ?_); rintro e w4 ⟨n4, a4, X4, c4, d4, Y4, e4, rfl, s4, r4, q4, b4⟩; have KC := below_next KB (Nat.le_refl _) b4; obtain ⟨i0, i1, i2, i3, i4, i5⟩ := (HKR.out.below KC HKR.out.lt).facts)))
    rw [← HT3.out] at s4
    obtain ⟨Z, hZ, u0, u1, u2, hG⟩ := fin_any (n := n4) (a := a4) (d := d4) (ca := c4) (cd := e4) (w := w) (HKR.out.below KC HKR.out.lt) (by omega) (HB0.out.trans (KC.mono HB0.out.size)) s4 r4 q4
    have HZ := Lib.hid hZ
    have HF := Lib.hid (And.intro u0 (And.intro u1 u2))
    have HG := Lib.hid (f_of_gv hG)
    clear hZ u0 u1 u2 hG i0 i1 i2 i3 i4 i5 s4 CT CM CR
    go_wp2_with fail
    rw [HZ.out]
    obtain ⟨u0, u1, u2⟩ := HF.out
    exact bodyPost_ret (v := .tuple #[.agg #[.bool n4, .slice X4 a4.length c4, .slice Y4 d4.length e4], .int .i64 0]) (by simp [results, Tryz.results149, go_sem, u0, u1, u2]) rfl (.inr ⟨HD.out, _, rfl, HG.out⟩)

end Go.Proofs.YtdmoibphidipeaaGreatDoor
/- Fractions: what the program's own Make and Of answer. -/

namespace Go.Proofs.YtdmoibphidipeaaGreatDoor
open Go.RowKit Num

theorem make_same {n n' : Bool} {a d : List Nat} {w w' : World} {e : Ending} (h : GivesFE (acrossN (wv n a * ((1 : Nat) : Int)) (wv n' d * ((1 : Nat) : Int))) (wv n' d * ((1 : Nat) : Int)).natAbs w e w') : GivesFE (wv (!(n == n')) a) (val 4294967296 d) w e w' := by
  have e1 : ((1 : Nat) : Int) = 1 := rfl
  rw [e1, Int.mul_one, Int.mul_one, wv_abs] at h
  rcases Nat.eq_zero_or_pos (val 4294967296 d) with h0 | h0
  · rw [h0] at h ⊢
    rcases h with h | h
    · exact .inl h
    · exact absurd h.1 (by omega)
  · have e2 : acrossN (wv n a) (wv n' d) = wv (!(n == n')) a := by
      unfold acrossN
      cases n' <;> cases n <;> simp [wv] <;> omega
    rwa [e2] at h

set_option maxRecDepth 10000 in
set_option maxHeartbeats 1600000 in
/-- a number by another one -/
theorem frac_Make (n n' : Bool) (a d : List Nat) (A D : Option Addr) (ca cd : Nat) (w : World) (h : Rd w (fun g => g < w.heap.size) .u32 A a) (h' : Rd w (fun g => g < w.heap.size) .u32 D d) (hl : a.length ≤ 2097152) (hl' : d.length ≤ 2097152) (hc : a.length ≤ ca) (hc' : d.length ≤ cd) (ha : Dg 4294967296 a) (hd : Dg 4294967296 d) :
    Calls Tryz.prog 114 #[.agg #[.bool n, .slice A a.length ca], .agg #[.bool n', .slice D d.length cd]] w (GivesFE (wv (!(n == n')) a) (val 4294967296 d) w) := by
  obtain ⟨W, hW, k1, k2, kr, b0, s0⟩ := whole_boxesf w (.bool n) (.slice A a.length ca) (.bool n') (.slice D d.length cd)
  obtain ⟨p0, p1, -, -⟩ := k1.facts2
  obtain ⟨z0, z1, -, -⟩ := k2.facts2
  obtain ⟨i0, i1, i2, i3, i4, i5⟩ := kr.facts
  have h := h.on b0
  have h' := h'.on b0
  have cO := fun (V : World) => frac_one V
  have cQ : ∀ (V : World) (x y : List Nat) (X Y : Option Addr) (cx cy : Nat), Below W.heap.size W V → Rd V (fun g => g < V.heap.size) .u32 X x → Rd V (fun g => g < V.heap.size) .u32 Y y → x.length ≤ cx → y.length ≤ cy → Norm 4294967296 x → Norm 4294967296 y → val 4294967296 x = 1 → val 4294967296 y = 1 → Calls Tryz.prog 149 #[.agg #[.bool n, .slice A a.length ca, .slice X x.length cx], .agg #[.bool n', .slice D d.length cd, .slice Y y.length cy]] V (GivesFE (wv (!(n == n')) a) (val 4294967296 d) V) := fun V x y X Y cx cy hV hx hy hcx hcy hn hm hv hu => by
    have lx := len_le (b := 4294967296) (a := [1]) (by omega) hn.2 (dg_one (by omega)) (by rw [hv]; exact Nat.le_refl _)
    have ly := len_le (b := 4294967296) (a := [1]) (by omega) hm.2 (dg_one (by omega)) (by rw [hu]; exact Nat.le_refl _)
    simp only [List.length_singleton] at lx ly
    refine (frac_quotient (wv n a) (wv n' d) 1 1 2097152 (by omega) (by omega) (by omega) n n' a x d y A X D Y ca cx cd cy V ⟨hc, hcx, ha, hn.1, hl, by omega, by omega, by rw [hv]⟩ ⟨hc', hcy, hd, hm.1, hl', by omega, by omega, by rw [hu]⟩ (h.on hV) hx (h'.on hV) hy).mono fun e w' => make_same
  obtain ⟨P, hP⟩ : ∃ P, wv (!(n == n')) a = P := ⟨_, rfl⟩
  simp only [hP] at cQ
  rw [hP]
  clear hP
  have CO := Lib.hid cO
  have CQ := Lib.hid cQ
  have HK1 := Lib.hid k1
  have HK2 := Lib.hid k2
  have HKR := Lib.hid kr
  have HB0 := Lib.hid b0
  have hlt : w.heap.size + 2 < W.heap.size := by omega
  have K0 : Below W.heap.size W W.drew := below_drewN (Below.refl _ _) 1
  clear cO cQ k1 k2 kr b0
  go_enter Tryz.func114, Tryz.ntmps114
  go_wp2_with fail
  try rw [hW]
  clear hW
  go_region_held3 (fun w' => (w'.cell? ⟨w.heap.size, 0, none⟩ = some (.bool n) ∧ w'.cell? ⟨w.heap.size, 1, none⟩ = some (.slice A a.length ca)) ∧ (w'.cell? ⟨w.heap.size + 1, 0, none⟩ = some (.bool n') ∧ w'.cell? ⟨w.heap.size + 1, 1, none⟩ = some (.slice D d.length cd)))
    (first | (with_reducible exact ⟨keep2w HK1.out K0, keep2w HK2.out K0⟩) | (with_reducible exact ⟨keep2w HK1.out KA, keep2w HK2.out KA⟩) | (with_reducible exact ⟨keep2w HK1.out KB, keep2w HK2.out KB⟩) | (with_reducible exact ⟨keep2w HK1.out KC, keep2w HK2.out KC⟩) | (with_reducible exact ⟨far_cells2 (HK1.out.below KC HK1.out.lt) (by omega) _ _ _, far_cells2 (HK2.out.below KC HK2.out.lt) (by omega) _ _ _⟩) | go_keep)
    ((first
      | (go_at_call 132; (with_reducible refine Calls.mono (CO.out W.drew) ?_); rintro e w2 ⟨X, x, cx, rfl, hcx, hnx, hvx, rx, b2⟩; have KA := below_next K0 (Nat.le_refl _) b2)
      | (go_at_call 132; (with_reducible refine Calls.mono (CO.out w2) ?_); rintro e w3 ⟨Y, y, cy, rfl, hcy, hny, hvy, ry, b3⟩; have KB := below_next KA (Nat.le_refl _) b3)
      | (go_at_call 149; (with_reducible refine Calls.mono (CQ.out _ x y X Y cx cy KB (rx.on b3) ry hcx hcy hnx hny hvx hvy) ?_); rintro e w4 hE; obtain ⟨n6, A6, la, c6, D6, ld, e6, er, rfl, f6, b4⟩ := hE.one; clear hE; have KC := below_next KB (Nat.le_refl _) b4; obtain ⟨i0, i1, i2, i3, i4, i5⟩ := (HKR.out.below KC HKR.out.lt).facts)))
  obtain ⟨Z, hZ, u0, u1, u2, hG⟩ := fin_fit (w := w) (HKR.out.below KC HKR.out.lt) (by omega) (HB0.out.trans (KC.mono HB0.out.size)) f6
  have HZ := Lib.hid hZ
  have HF := Lib.hid (And.intro u0 (And.intro u1 u2))
  have HG := Lib.hid hG
  clear hZ u0 u1 u2 hG f6 hvx hvy hnx hny rx ry CO CQ i0 i1 i2 i3 i4 i5
  go_wp2_with fail
  rw [HZ.out]
  obtain ⟨u0, u1, u2⟩ := HF.out
  exact bodyPost_ret (by simp [results, Tryz.results114, go_sem, u0, u1, u2]) rfl HG.out

set_option maxRecDepth 10000 in
set_option maxHeartbeats 1600000 in
/-- an int by another one -/
theorem frac_Of (n d : Int) (hn1 : -9223372036854775808 ≤ n) (hn2 : n ≤ 9223372036854775807) (hd1 : -9223372036854775808 ≤ d) (hd2 : d ≤ 9223372036854775807) (P : Int) (Q : Nat) (hP : acrossN n d = P) (hQ : d.natAbs = Q) (w : World) :
    Calls Tryz.prog 67 #[.int .i64 n, .int .i64 d] w (GivesFE P Q w) := by
  obtain ⟨W, hW, k, b0, s0⟩ := bx1 w 39 (.bool false) (.slice none 0 0) (.slice none 0 0)
  have c1 := fun (V : World) => whole_Of n hn1 hn2 V
  have c2 := fun (V : World) => whole_Of d hd1 hd2 V
  have cM : ∀ (V : World) (x y : List Nat) (X Y : Option Addr) (cx cy : Nat), Rd V (fun g => g < V.heap.size) .u32 X x → Rd V (fun g => g < V.heap.size) .u32 Y y → x.length ≤ cx → y.length ≤ cy → Norm 4294967296 x → Norm 4294967296 y → val 4294967296 x = n.natAbs → val 4294967296 y = d.natAbs → Calls Tryz.prog 114 #[.agg #[.bool (decide (n < 0)), .slice X x.length cx], .agg #[.bool (decide (d < 0)), .slice Y y.length cy]] V (GivesFE P Q V) := fun V x y X Y cx cy hx hy hcx hcy hn hm hv hu => by
    have lx := hn.2.length_le (b := 4294967296) (n := 2) (by omega) (by rw [hv]; omega)
    have ly := hm.2.length_le (b := 4294967296) (n := 2) (by omega) (by rw [hu]; omega)
    have := frac_Make (decide (n < 0)) (decide (d < 0)) x y X Y cx cy V hx hy (by omega) (by omega) hcx hcy hn.1 hm.1
    rwa [wv_across hv, hu, hP, hQ] at this
  obtain ⟨i0, i1, i2, i3, i4, i5⟩ := k.facts
  have CM := Lib.hid cM
  clear cM hP hQ
  go_enter Tryz.func67, Tryz.ntmps67
  go_wp2_with fail
  try rw [hW]
  clear hW
  refine (c1 W).mono ?_
  rintro e w1 ⟨X, x, cx, rfl, hcx, hnx, hvx, rx, b1⟩
  have HX := Lib.hid (And.intro hnx hvx)
  clear hnx hvx
  go_wp2_with fail
  refine (c2 w1).mono ?_
  rintro e w2 ⟨Y, y, cy, rfl, hcy, hny, hvy, ry, b2⟩
  have cM := CM.out w2 x y X Y cx cy (rx.on b2) ry hcx hcy HX.out.1 hny HX.out.2 hvy
  clear hny hvy c1 c2
  go_wp2_with fail
  refine cM.mono ?_
  rintro e w3 hE
  obtain ⟨n6, A6, la, c6, D6, ld, e6, er, rfl, f6, b3⟩ := hE.one
  clear hE cM
  have B2 := (b0.trans (b1.mono b0.size)).trans (b2.mono (Nat.le_trans b0.size b1.size))
  have B3 := B2.trans (b3.mono B2.size)
  have K := ((k.below b1 k.lt).below b2 (k.below b1 k.lt).lt).below b3 ((k.below b1 k.lt).below b2 (k.below b1 k.lt).lt).lt
  obtain ⟨i0, i1, i2, i3, i4, i5⟩ := K.facts
  obtain ⟨Z, hZ, u0, u1, u2, hG⟩ := fin_fit (w := w) K (Nat.le_refl _) B3 f6
  have HZ := Lib.hid hZ
  have HF := Lib.hid (And.intro u0 (And.intro u1 u2))
  have HG := Lib.hid hG
  clear hZ u0 u1 u2 hG f6 K k B2 B3 b1 b2 b3 rx ry
  go_wp2_with fail
  rw [HZ.out]
  obtain ⟨u0, u1, u2⟩ := HF.out
  exact bodyPost_ret (by simp [results, Tryz.results67, go_sem, u0, u1, u2]) rfl HG.out
end Go.Proofs.YtdmoibphidipeaaGreatDoor
/- Fractions: what the program's own Sign, floor, Floor and Round answer. -/

namespace Go.Proofs.YtdmoibphidipeaaGreatDoor
open Go.RowKit Num

end Go.Proofs.YtdmoibphidipeaaGreatDoor
/- The same, word by word, or not: the document's own. -/

namespace Go.Proofs.YtdmoibphidipeaaGreatDoor
open Go.RowKit Num

set_option maxHeartbeats 800000 in
theorem ref_same_any (xs ys : List Nat) (A A' : Option Addr) (c c' : Nat) (S S' : Nat → Prop) (w : World) (h : Rd w S .u32 A xs) (h' : Rd w S' .u32 A' ys) (hl : xs.length ≤ 4611686018427387904) :
    Calls Tryz.prog 113 #[.slice A xs.length c, .slice A' ys.length c'] w fun e w' => e = .returned (.bool (decide (xs = ys))) ∧ ∃ m, w' = w.drewN m := by
  by_cases hlen : xs.length = ys.length
  · rw [← hlen]
    have HL := Lib.hid hlen
    clear hlen
    go_enter Tryz.func113, Tryz.ntmps113
    go_wp2
    go_loopg [5] xs.length (fun g i wr => ∃ k m, g + k = xs.length ∧ i = .int .i64 k ∧ wr = w.drewN m ∧ ∀ j, j < k → xs[j]? = ys[j]?)
    case atStart => exact ⟨0, 0, by omega, rfl, rfl, by omega⟩
    case round =>
      obtain ⟨k, m, hk, rfl, rfl, hj⟩ := hrel
      by_cases hlt : k < xs.length
      · have hlt' : k < ys.length := by have := HL.out; omega
        obtain ⟨b, o, rfl, hb, hc1⟩ := h.at_ hlt
        obtain ⟨b', o', rfl, hb', hc2⟩ := h'.at_ hlt'
        have ex : xs[k]? = some xs[k] := List.getElem?_eq_getElem hlt
        have ey : ys[k]? = some ys[k] := List.getElem?_eq_getElem hlt'
        obtain ⟨x, hx⟩ : ∃ x, xs[k] = x := ⟨_, rfl⟩
        obtain ⟨y, hy⟩ : ∃ y, ys[k] = y := ⟨_, rfl⟩
        rw [hx] at hc1 ex
        rw [hy] at hc2 ey
        have HK := Lib.hid hk
        have HJ := Lib.hid hj
        have EX := Lib.hid ex
        have EY := Lib.hid ey
        clear hx hy hk hj ex ey
        by_cases hxy : x = y
        · subst hxy
          go_wp2
          go_quiet (fail)
          go_wp2
          go_roundg (gk - 1)
          case measure => have := HK.out; omega
          case rel =>
            refine ⟨k + 1, m + nq, by have := HK.out; omega, by go_num, by simp, fun j hj => ?_⟩
            rcases Nat.lt_or_ge j k with h1 | h1
            · exact HJ.out j h1
            · obtain rfl : j = k := by omega
              rw [EX.out, EY.out]
        · have HN := Lib.hid (show xs ≠ ys from fun he => hxy (by have h1 := EX.out; rw [he, EY.out] at h1; exact (Option.some.inj h1).symm))
          have hxy1 : ((x : Int) == (y : Int)) = false := beq_eq_false_iff_ne.2 (by omega)
          go_wp2
          go_quiet (fail)
          go_wp2
          go_ret
          exact ⟨by rw [decide_eq_false HN.out]; rfl, m + nq, by simp⟩
      · have he : xs = ys := List.ext_getElem? fun j => by
          rcases Nat.lt_or_ge j k with h1 | h1
          · exact hj j h1
          · rw [List.getElem?_eq_none (by omega), List.getElem?_eq_none (by have := HL.out; omega)]
        have HE := Lib.hid he
        clear he hj
        go_wp2
        go_ret
        exact ⟨by rw [decide_eq_true HE.out]; rfl, m, rfl⟩
  · have HN := Lib.hid (show xs ≠ ys from fun he => hlen (by rw [he]))
    go_enter Tryz.func113, Tryz.ntmps113
    go_wp2
    go_ret
    exact ⟨by rw [decide_eq_false HN.out]; rfl, 0, rfl⟩

set_option maxHeartbeats 800000 in
theorem ref2_same_any (n1 n2 : Bool) (xs ys : List Nat) (A A' : Option Addr) (c c' : Nat) (w : World) (h : Rd w (fun g => g < w.heap.size) .u32 A xs) (h' : Rd w (fun g => g < w.heap.size) .u32 A' ys) (hl : xs.length ≤ 4611686018427387904) :
    Calls Tryz.prog 112 #[.agg #[.bool n1, .slice A xs.length c], .agg #[.bool n2, .slice A' ys.length c']] w fun e w' => e = .returned (.bool (decide (n1 = n2 ∧ xs = ys))) ∧ Below w.heap.size w w' := by
  have B0 := below_new2 w (.cells #[.bool n1, .slice A xs.length c] 37) (.cells #[.bool n2, .slice A' ys.length c'] 37)
  have cS := ref_same_any xs ys A A' c c' _ _ _ (h.on B0) (h'.on B0) hl
  by_cases hn : n1 = n2
  · subst hn
    obtain ⟨r, hr⟩ : ∃ r, decide (xs = ys) = r := ⟨_, rfl⟩
    rw [show decide (n1 = n1 ∧ xs = ys) = r by rw [← hr]; simp]
    rw [hr] at cS
    clear hr
    go_enter Tryz.func112, Tryz.ntmps112
    go_wp2_with fail
    refine cS.mono ?_
    rintro e w1 ⟨rfl, m, hw1⟩
    have B1 : Below w.heap.size w w1 := by rw [hw1]; exact below_drewN B0 m
    clear hw1 cS
    go_wp2_with fail
    go_ret
    exact ⟨rfl, B1⟩
  · have HN := Lib.hid hn
    have hnb : (n1 == n2) = false := by simpa using hn
    rw [decide_eq_false (fun h => HN.out h.1)]
    clear hn
    go_enter Tryz.func112, Tryz.ntmps112
    go_wp2_with fail
    go_ret
    exact ⟨rfl, B0⟩
end Go.Proofs.YtdmoibphidipeaaGreatDoor
/- Fractions, the document's own: what Same answers. -/

namespace Go.Proofs.YtdmoibphidipeaaGreatDoor
open Go.RowKit Num

set_option maxRecDepth 10000 in
set_option maxHeartbeats 1600000 in
theorem ref4_Same (n n' : Bool) (a d a' d' : List Nat) (A D A' D' : Option Addr) (ca cd ca' cd' : Nat) (w : World) (h1 : Rd w (fun g => g < w.heap.size) .u32 A a) (h2 : Rd w (fun g => g < w.heap.size) .u32 D d) (h3 : Rd w (fun g => g < w.heap.size) .u32 A' a') (h4 : Rd w (fun g => g < w.heap.size) .u32 D' d') (hl1 : a.length ≤ 4611686018427387904) (hl2 : d.length ≤ 4611686018427387904) :
    Calls Tryz.prog 64 #[.agg #[.bool n, .slice A a.length ca, .slice D d.length cd], .agg #[.bool n', .slice A' a'.length ca', .slice D' d'.length cd']] w fun e w' => e = .returned (.bool (decide ((n = n' ∧ a = a') ∧ d = d'))) ∧ Below w.heap.size w w' := by
  obtain ⟨W, hW, k1, k2, b0, s0⟩ := frac_pair w (.bool n) (.slice A a.length ca) (.slice D d.length cd) (.bool n') (.slice A' a'.length ca') (.slice D' d'.length cd')
  obtain ⟨p0, p1, p2, p3, p4, p5⟩ := k1.facts
  obtain ⟨z0, z1, z2, z3, z4, z5⟩ := k2.facts
  have c1 := fun (V : World) (hV : Below W.heap.size W V) => ref2_same_any n n' a a' A A' ca ca' V ((h1.on b0).on hV) ((h3.on b0).on hV) hl1
  have c2 := fun (V : World) (hV : Below W.heap.size W V) => ref_same_any d d' D D' cd cd' _ _ V ((h2.on b0).on hV) ((h4.on b0).on hV) hl2
  by_cases hx : n = n' ∧ a = a'
  · have HX : decide ((n = n' ∧ a = a') ∧ d = d') = decide (d = d') := by rw [decide_eq_decide]; exact ⟨fun h => h.2, fun h => ⟨hx, h⟩⟩
    rw [HX]
    simp only [decide_eq_true hx] at c1
    obtain ⟨r, hr⟩ : ∃ r, decide (d = d') = r := ⟨_, rfl⟩
    rw [hr]
    simp only [hr] at c2
    have C1 := Lib.hid c1
    have C2 := Lib.hid c2
    have HK1 := Lib.hid k1
    have HK2 := Lib.hid k2
    clear c1 c2 hr HX hx k1 k2
    go_enter Tryz.func64, Tryz.ntmps64
    go_wp2_with fail
    refine (C1.out W (Below.refl _ _)).mono ?_
    rintro e w1 ⟨rfl, b1⟩
    obtain ⟨x0, x1, x2⟩ := keep3 HK1.out b1
    obtain ⟨y0, y1, y2⟩ := keep3 HK2.out b1
    go_wp2_with fail
    refine (C2.out w1 b1).mono ?_
    rintro e w2 ⟨rfl, m, rfl⟩
    have B2 := b0.trans ((below_drewN b1 m).mono b0.size)
    go_wp2_with fail
    go_ret
    exact ⟨rfl, B2⟩
  · have HX : decide ((n = n' ∧ a = a') ∧ d = d') = false := decide_eq_false fun h => hx h.1
    rw [HX]
    simp only [decide_eq_false hx] at c1
    have C1 := Lib.hid c1
    clear c1 c2 HX hx
    go_enter Tryz.func64, Tryz.ntmps64
    go_wp2_with fail
    refine (C1.out W (Below.refl _ _)).mono ?_
    rintro e w1 ⟨rfl, b1⟩
    have B1 := b0.trans (b1.mono b0.size)
    go_wp2_with fail
    go_ret
    exact ⟨rfl, B1⟩
end Go.Proofs.YtdmoibphidipeaaGreatDoor
/- Whole numbers: what the program's Parse answers. -/

namespace Go.Proofs.YtdmoibphidipeaaGreatDoor
open Go.RowKit Num

end Go.Proofs.YtdmoibphidipeaaGreatDoor
/- Whole numbers, the document's own: what Text and Parse answer. -/

namespace Go.Proofs.YtdmoibphidipeaaGreatDoor
open Go.RowKit Num

end Go.Proofs.YtdmoibphidipeaaGreatDoor
/- Fractions, the document's own: what Text answers. -/

namespace Go.Proofs.YtdmoibphidipeaaGreatDoor
open Go.RowKit Num

/-- the text of P by Q -/
def ftop (P : Int) (Q : Nat) : Int := if P < 0 then - ((P.natAbs / Nat.gcd P.natAbs Q : Nat) : Int) else ((P.natAbs / Nat.gcd P.natAbs Q : Nat) : Int)
def ftext (P : Int) (Q : Nat) : List UInt8 := if Q / Nat.gcd P.natAbs Q = 1 then wtext (ftop P Q) else wtext (ftop P Q) ++ 47 :: Lib.decDigits (Q / Nat.gcd P.natAbs Q)
theorem ftop_of {P : Int} {Q : Nat} {x : List Nat} (h : val 4294967296 x = P.natAbs / Nat.gcd P.natAbs Q) : wv (decide (P < 0)) x = ftop P Q := by
  unfold ftop
  by_cases hp : P < 0
  · rw [if_pos hp, decide_eq_true hp, wv_true, h]
  · rw [if_neg hp, decide_eq_false hp, wv_false, h]
theorem text_join (N M : List UInt8) : ((⟨N.toArray⟩ : ByteArray) ++ ⟨#[47]⟩ ++ ⟨M.toArray⟩) = ⟨(N ++ 47 :: M).toArray⟩ := by
  apply ByteArray.ext
  simp [ByteArray.data_append]
theorem wtext_len (N : Int) : (wtext N).length ≤ (Lib.decDigits N.natAbs).length + 1 := by
  unfold wtext
  split <;> simp

end Go.Proofs.YtdmoibphidipeaaGreatDoor
/- Fractions: what the program's own Text answers. -/

namespace Go.Proofs.YtdmoibphidipeaaGreatDoor
open Go.RowKit Num

set_option maxRecDepth 10000 in
set_option maxHeartbeats 1600000 in
/-- a fraction's text -/
theorem frac_Text (P : Int) (Q m : Nat) (hQ : 0 < Q) (hm1 : 1 ≤ m) (hm : m ≤ 2097152) (n : Bool) (a d : List Nat) (A D : Option Addr) (ca cd : Nat) (w : World) (hS : SI P Q m n a ca d cd) (h : Rd w (fun g => g < w.heap.size) .u32 A a) (h' : Rd w (fun g => g < w.heap.size) .u32 D d) (htab : Tab w) :
    Calls Tryz.prog 85 #[.agg #[.bool n, .slice A a.length ca, .slice D d.length cd]] w (fun e w' => e = .returned (.string ⟨(ftext P Q).toArray⟩) ∧ Below w.heap.size w w') := by
  obtain ⟨W, hW, k1, b0, s0⟩ := bx1 w 39 (.bool n) (.slice A a.length ca) (.slice D d.length cd)
  obtain ⟨p0, p1, p2, -, -, -⟩ := k1.facts
  have h := h.on b0
  have h' := h'.on b0
  have cR := fun (V : World) (hV : Below W.heap.size W V) => frac_Reduce P Q m hQ hm1 (by omega) n a d A D ca cd V hS (h.on hV) (h'.on hV)
  go_enter Tryz.func85, Tryz.ntmps85
  go_wp2_with fail
  try rw [hW]
  clear hW
  refine (cR W (Below.refl _ _)).mono ?_
  rintro e w1 ⟨n1, x, X, cx, y, Y, cy, rfl, hs, r1, q1, b1⟩
  obtain ⟨rfl, hcx, hcy, hnx, hny, hvx, hvy⟩ := hs
  have lx := hnx.2.length_le (b := 4294967296) (n := m) (by omega) (by
    rw [hvx]
    refine Nat.lt_of_le_of_lt (Nat.div_le_self _ _) ?_
    rw [← hS.2.2.2.2.2.2.1]
    exact Nat.lt_of_le_of_lt (up_abs n a d) (Nat.lt_of_lt_of_le (val_lt hS.2.2.1) (Nat.pow_le_pow_right (by omega) hS.2.2.2.2.1)))
  have ly := hny.2.length_le (b := 4294967296) (n := m) (by omega) (by
    rw [hvy]
    refine Nat.lt_of_le_of_lt (Nat.div_le_self _ _) ?_
    rw [← hS.2.2.2.2.2.2.2]
    unfold loD
    have := Nat.pow_le_pow_right (n := 4294967296) (by omega) hm1
    split
    · omega
    · exact Nat.lt_of_lt_of_le (val_lt hS.2.2.2.1) (Nat.pow_le_pow_right (by omega) hS.2.2.2.2.2.1))
  obtain ⟨V, hV, KV, bV, sV⟩ := bx1 w1 39 (.bool (decide (P < 0))) (.slice X x.length cx) (.slice Y y.length cy)
  have BV := (b0.trans (b1.mono b0.size)).trans (bV.mono (Nat.le_trans b0.size b1.size))
  have rx := r1.on bV
  have qy := q1.on bV
  have hlv := KV.lt
  have cN := fun (Z : World) (hZ : Below V.heap.size V Z) => whole_Text (decide (P < 0)) x X cx Z (rx.on hZ) (by omega) hcx hnx.1 (htab.on (BV.trans (hZ.mono BV.size)))
  have cD := fun (Z : World) (hZ : Below V.heap.size V Z) => nat_Text y Y cy _ Z (qy.on hZ) (fun g hg => hg) (by omega) hcy hny.1 (htab.on (BV.trans (hZ.mono BV.size)))
  rw [ftop_of hvx] at cN
  rw [hvy] at cD
  have lN : (wtext (ftop P Q)).length ≤ 4000000000000 := by
    have h1 := wtext_len (ftop P Q)
    rw [← ftop_of hvx, wv_abs] at h1
    have h2 := dec_len_words (val_lt hnx.1)
    rw [ftop_of hvx] at h1
    omega
  have lD : (Lib.decDigits (Q / Nat.gcd P.natAbs Q)).length ≤ 4000000000000 := by
    have h2 := dec_len_words (val_lt hny.1)
    rw [hvy] at h2
    omega
  have cI := fun (b : Bool) (hb : decide (val 4294967296 y = 1) = b) => frac_isOne y Y cy V qy (by omega) hcy hny.1 b hb
  rw [hvy] at cI
  obtain ⟨N, hN⟩ : ∃ N, wtext (ftop P Q) = N := ⟨_, rfl⟩
  obtain ⟨M, hM⟩ : ∃ M, Lib.decDigits (Q / Nat.gcd P.natAbs Q) = M := ⟨_, rfl⟩
  have HF := Lib.hid (show ftext P Q = if Q / Nat.gcd P.natAbs Q = 1 then N else N ++ 47 :: M by rw [← hN, ← hM]; rfl)
  rw [hN] at lN
  rw [hM] at lD
  simp only [hN] at cN
  simp only [hM] at cD
  have CN := Lib.hid cN
  have CD := Lib.hid cD
  have HKV := Lib.hid KV
  have HBV := Lib.hid BV
  have HVV := Lib.hid hV
  clear cN cD hN hM rx qy r1 q1 KV bV BV hvx hvy b1 b0 k1 hV h h' cR p0 p1 p2 hS lx ly hnx hny
  obtain ⟨x0, x1, x2⟩ := keep3 HKV.out (Below.refl _ _)
  by_cases h1 : Q / Nat.gcd P.natAbs Q = 1
  · have cI := cI true (decide_eq_true h1)
    have HT := Lib.hid (show ftext P Q = N by rw [HF.out, if_pos h1])
    clear h1 HF
    go_wp2_with fail
    rw [HVV.out]
    refine cI.mono ?_
    rintro e w2 ⟨rfl, rfl⟩
    go_wp2_with fail
    refine (CN.out _ (Below.refl _ _)).mono ?_
    rintro e w3 ⟨rfl, b3⟩
    have B3 := HBV.out.trans (b3.mono HBV.out.size)
    go_wp2_with fail
    go_ret
    exact ⟨by rw [HT.out]; rfl, B3⟩
  · have cI := cI false (decide_eq_false h1)
    have HT := Lib.hid (show ftext P Q = N ++ 47 :: M by rw [HF.out, if_neg h1])
    clear h1 HF
    go_wp2_with fail
    rw [HVV.out]
    refine cI.mono ?_
    rintro e w2 ⟨rfl, rfl⟩
    have K0' : Below V.heap.size V V.drew := below_drewN (Below.refl V.heap.size V) 1
    clear cI
    go_wp2_with fail
    have hs1 : ¬ 9223372036854775807 < N.length + 1 := by omega
    have hs2 : ¬ 9223372036854775807 < N.length + 1 + M.length := by omega
    go_region_held3 (fun w' => w'.cell? ⟨w1.heap.size, 0, none⟩ = some (.bool (decide (P < 0))) ∧ w'.cell? ⟨w1.heap.size, 1, none⟩ = some (.slice X x.length cx) ∧ w'.cell? ⟨w1.heap.size, 2, none⟩ = some (.slice Y y.length cy))
      (first | (with_reducible exact keep3 HKV.out K0') | exact keep3 HKV.out K0' | (with_reducible exact keep3 HKV.out KA) | (with_reducible exact keep3 HKV.out KB) | go_keep)
      ((first
        | (go_at_call 129; (with_reducible refine Calls.mono (CN.out _ K0') ?_); rintro e w3 ⟨rfl, b3⟩; have KA := below_next K0' (Nat.le_refl _) b3)
        | (go_at_call 130; (with_reducible refine Calls.mono (CD.out _ KA) ?_); rintro e w4 ⟨rfl, b4⟩; have KB := below_next KA (Nat.le_refl _) b4)))
    all_goals
      have B3 := HBV.out.trans (KB.mono HBV.out.size)
      go_wp2_with fail
      go_ret
      exact ⟨by rw [HT.out, ← text_join]; rfl, B3⟩
end Go.Proofs.YtdmoibphidipeaaGreatDoor
/- Fractions: what the program's own Floor and Round answer. -/

namespace Go.Proofs.YtdmoibphidipeaaGreatDoor
open Go.RowKit Num

end Go.Proofs.YtdmoibphidipeaaGreatDoor
/- Fractions: what the program's own Sum answers, of none, one, two and three. -/

namespace Go.Proofs.YtdmoibphidipeaaGreatDoor
open Go.RowKit Num

theorem below_three {W V : World} {B g : Nat} (h : Below B W V) (hg : B ≤ g) (u0 u1 u2 : Value) : Below B W (((V.setCell ⟨g, 0, none⟩ u0).setCell ⟨g, 1, none⟩ u1).setCell ⟨g, 2, none⟩ u2) := ((h.setCell hg _).setCell hg _).setCell hg _

end Go.Proofs.YtdmoibphidipeaaGreatDoor
/- Fractions: equal ones, and boxes of three. -/

namespace Go.Proofs.YtdmoibphidipeaaGreatDoor
open Go.RowKit Num

theorem cross_add {x x' P P' y y' Q Q' : Int} (h : x * Q = P * y) (k : x' * Q' = P' * y') : (x * y' + x' * y) * (Q * Q') = (P * Q' + P' * Q) * (y * y') := by
  rw [Int.add_mul, show x * y' * (Q * Q') = (x * Q) * (y' * Q') by ac_rfl, show x' * y * (Q * Q') = (x' * Q') * (y * Q) by ac_rfl, h, k, Int.add_mul]
  congr 1 <;> ac_rfl
theorem cross_sub {x x' P P' y y' Q Q' : Int} (h : x * Q = P * y) (k : x' * Q' = P' * y') : (x * y' - x' * y) * (Q * Q') = (P * Q' - P' * Q) * (y * y') := by
  have := cross_add h (show (-x') * Q' = (-P') * y' by rw [Int.neg_mul, k, Int.neg_mul])
  rwa [Int.neg_mul, Int.neg_mul, ← Int.sub_eq_add_neg, ← Int.sub_eq_add_neg] at this

theorem sgn_cross {x y P Q : Int} (hy : 0 < y) (hQ : 0 < Q) (h : x * Q = P * y) : sgn x = sgn P := by
  rcases Int.lt_trichotomy P 0 with hp | hp | hp
  · have h1 := Int.mul_neg_of_neg_of_pos hp hy
    have hx : x < 0 := by
      rcases Int.lt_or_le x 0 with h2 | h2
      · exact h2
      · have := Int.mul_nonneg h2 (Int.le_of_lt hQ); omega
    unfold sgn; rw [if_pos hx, if_pos hp]
  · rw [hp, Int.zero_mul] at h
    have hx : x = 0 := by
      rcases Int.mul_eq_zero.1 h with h2 | h2
      · exact h2
      · omega
    rw [hx, hp]
  · have h1 := Int.mul_pos hp hy
    have hx : 0 < x := by
      rcases Int.lt_or_le 0 x with h2 | h2
      · exact h2
      · have := Int.mul_nonneg (show 0 ≤ -x by omega) (Int.le_of_lt hQ)
        rw [Int.neg_mul] at this; omega
    unfold sgn; rw [if_neg (by omega), if_pos hx, if_neg (by omega), if_pos hp]
theorem Blk.trip {W : World} {g : Nat} {t : TypeId} {a0 a1 a2 : Value} (k : Blk W g t [a0, a1, a2]) (u0 u1 u2 : Value) : Blk (((W.setCell ⟨g, 0, none⟩ u0).setCell ⟨g, 1, none⟩ u1).setCell ⟨g, 2, none⟩ u2) g t [u0, u1, u2] := ((k.set 0 u0).set 1 u1).set 2 u2
theorem got13 {W v : World} {v0 v1 v2 : Value} {t : TypeId} (b : Below (W.alloc (.cells #[v0, v1, v2] t)).heap.size (W.alloc (.cells #[v0, v1, v2] t)) v) : Blk v W.heap.size t [v0, v1, v2] ∧ W.heap.size < v.heap.size := by
  have k := (Blk.new W t [v0, v1, v2]).on b
  exact ⟨k, k.lt⟩
theorem got23 {W v : World} {v0 v1 v2 u0 u1 u2 : Value} {t t' : TypeId} (b : Below ((W.alloc (.cells #[v0, v1, v2] t)).alloc (.cells #[u0, u1, u2] t')).heap.size ((W.alloc (.cells #[v0, v1, v2] t)).alloc (.cells #[u0, u1, u2] t')) v) : (Blk v W.heap.size t [v0, v1, v2] ∧ W.heap.size + 1 < v.heap.size) ∧ Blk v (W.heap.size + 1) t' [u0, u1, u2] := by
  have k := ((Blk.new W t [v0, v1, v2]).alloc (.cells #[u0, u1, u2] t')).on b
  have k' := (Blk.at_new (W.alloc (.cells #[v0, v1, v2] t)) t' [u0, u1, u2] (g := W.heap.size + 1) (by simp)).on b
  exact ⟨⟨k, k'.lt⟩, k'⟩
theorem got13d {W v : World} {v0 v1 v2 : Value} {t : TypeId} (b : Below (W.alloc (.cells #[v0, v1, v2] t)).drew.heap.size (W.alloc (.cells #[v0, v1, v2] t)).drew v) : Blk v W.heap.size t [v0, v1, v2] ∧ W.heap.size < v.heap.size := got13 (W := W.drew) b
theorem got23d {W v : World} {v0 v1 v2 u0 u1 u2 : Value} {t t' : TypeId} (b : Below ((W.alloc (.cells #[v0, v1, v2] t)).alloc (.cells #[u0, u1, u2] t')).drew.heap.size ((W.alloc (.cells #[v0, v1, v2] t)).alloc (.cells #[u0, u1, u2] t')).drew v) : (Blk v W.heap.size t [v0, v1, v2] ∧ W.heap.size + 1 < v.heap.size) ∧ Blk v (W.heap.size + 1) t' [u0, u1, u2] := got23 (W := W.drew) b
theorem Num.Rd.trip {w : World} {g : Nat} {t : TypeId} {x : Bool} {p q : Option Addr} {n m n' m' : Nat} {k : IntKind} {A : Option Addr} {xs : List Nat} (h : Rd w (fun g => g < w.heap.size) k A xs) (f : Blk w g t [.bool x, .slice p n m, .slice q n' m']) (u0 u1 u2 : Value) : Rd (((w.setCell ⟨g, 0, none⟩ u0).setCell ⟨g, 1, none⟩ u1).setCell ⟨g, 2, none⟩ u2) (fun b => b < (((w.setCell ⟨g, 0, none⟩ u0).setCell ⟨g, 1, none⟩ u1).setCell ⟨g, 2, none⟩ u2).heap.size) k A xs := h.far3 f u0 u1 u2 rfl
end Go.Proofs.YtdmoibphidipeaaGreatDoor
/- Fractions: contracts by what the arguments are worth: the program's own functions and the document's own. -/

namespace Go.Proofs.YtdmoibphidipeaaGreatDoor
open Go.RowKit Num

/-- handed in: worth P by Q, of at most m words each -/
def SV (P : Int) (Q m : Nat) : Shape := fun n a ca d cd => a.length ≤ ca ∧ d.length ≤ cd ∧ Dg 4294967296 a ∧ Dg 4294967296 d ∧ a.length ≤ m ∧ d.length ≤ m ∧ upN n a d * (Q : Int) = P * (loD d : Int)
theorem SI.toV {P : Int} {Q m : Nat} {n : Bool} {a d : List Nat} {ca cd : Nat} (k : SI P Q m n a ca d cd) : SV P Q m n a ca d cd := by
  obtain ⟨h1, h2, h3, h4, h5, h6, h7, h8⟩ := k
  exact ⟨h1, h2, h3, h4, h5, h6, by rw [h7, h8]⟩
theorem SR.toV {P : Int} {Q m : Nat} {n : Bool} {a d : List Nat} {ca cd : Nat} (k : SR P Q m n a ca d cd) : SV P Q m n a ca d cd := by
  obtain ⟨h1, h2, h3, h4, h5, h6, h7, h8⟩ := k
  exact ⟨h1, h2, h3, h4, h5, h6, by rw [upN_of h7, loD_of h7]; exact h8⟩
theorem SF.toV {P : Int} {Q m : Nat} (hQ : 0 < Q) (hP : P.natAbs < 4294967296 ^ m) (hQm : Q < 4294967296 ^ m) {n : Bool} {a d : List Nat} {ca cd : Nat} (k : SF P Q n a ca d cd) : SV P Q m n a ca d cd := (SF.toR hQ hP hQm k).toV
theorem SV.wide {P : Int} {Q m m' : Nat} (hm : m ≤ m') {n : Bool} {a d : List Nat} {ca cd : Nat} (k : SV P Q m n a ca d cd) : SV P Q m' n a ca d cd := by
  obtain ⟨h1, h2, h3, h4, h5, h6, h7⟩ := k
  exact ⟨h1, h2, h3, h4, Nat.le_trans h5 hm, Nat.le_trans h6 hm, h7⟩
theorem SV.own {P : Int} {Q m : Nat} {n : Bool} {a d : List Nat} {ca cd : Nat} (k : SV P Q m n a ca d cd) : SI (upN n a d) (loD d) m n a ca d cd := by
  obtain ⟨h1, h2, h3, h4, h5, h6, h7⟩ := k
  exact ⟨h1, h2, h3, h4, h5, h6, rfl, rfl⟩
/-- two equal reduced fractions are the same in words -/
theorem SF.same {P : Int} {Q : Nat} {n n' : Bool} {a a' d d' : List Nat} {ca ca' cd cd' : Nat} (k : SF P Q n a ca d cd) (k' : SF P Q n' a' ca' d' cd') : n = n' ∧ a = a' ∧ d = d' := by
  obtain ⟨h1, -, -, h3, h4, h5, h6⟩ := k
  obtain ⟨g1, -, -, g3, g4, g5, g6⟩ := k'
  exact ⟨h1.trans g1.symm, Norm.ext (by omega) h3 g3 (h5.trans g5.symm), Norm.ext (by omega) h4 g4 (h6.trans g6.symm)⟩

theorem hold_V (P : Int) (Q m : Nat) (hm1 : 1 ≤ m) (hm : m ≤ 4194304) : Fn1 108 (SV P Q m) (SR P Q m) :=
  fun n a d A D ca cd w hS r q => (frac_hold (upN n a d) (loD d) m hm1 hm n a d A D ca cd w hS.own r q).mono fun _ _ => Gv.imp fun _ _ _ _ _ k => SR.conv (loD_pos d) hS.2.2.2.2.2.2 (SH.toR (loD_pos d) k)
theorem fv_Reduce (P : Int) (Q m : Nat) (hQ : 0 < Q) (hm1 : 1 ≤ m) (hm : m ≤ 4194304) : Fn1 101 (SV P Q m) (SF P Q) :=
  frac_Reduce_gen _ _ _ (hold_V P Q m hm1 hm) (ratio_reduced P Q m hQ hm)
theorem rv_Reduce (P : Int) (Q m : Nat) (hQ : 0 < Q) (hm : m ≤ 4194304) : Fn1 102 (SV P Q m) (SF P Q) :=
  fun n a d A D ca cd w hS r q => (ref4_Reduce n a d A D ca cd w r q (Nat.le_trans hS.2.2.2.2.1 hm) (Nat.le_trans hS.2.2.2.2.2.1 hm) hS.2.2.1 hS.2.2.2.1).mono fun _ _ h => gv_of_f (h.conv (loD_pos d) hQ hS.2.2.2.2.2.2)
theorem fv_Add (P P' : Int) (Q Q' m : Nat) (hQ : 0 < Q) (hQ' : 0 < Q') (hm1 : 1 ≤ m) (hm : m ≤ 2097150) : Fn2 151 (SV P Q m) (SV P' Q' m) (SF (P * (Q' : Int) + P' * (Q : Int)) (Q * Q')) :=
  frac_Add_gen _ _ _ (frac_ofTwo_plus _ _ _ _ _ _ (hold_V P Q m hm1 (by omega)) (hold_V P' Q' m hm1 (by omega)) (ratio_plus P P' Q Q' m hm) (ratio_reduced _ _ _ (Nat.mul_pos hQ hQ') (by omega)))
theorem fv_Sub (P P' : Int) (Q Q' m : Nat) (hQ : 0 < Q) (hQ' : 0 < Q') (hm1 : 1 ≤ m) (hm : m ≤ 2097150) : Fn2 153 (SV P Q m) (SV P' Q' m) (SF (P * (Q' : Int) - P' * (Q : Int)) (Q * Q')) :=
  frac_Sub_gen _ _ _ (frac_ofTwo_minus _ _ _ _ _ _ (hold_V P Q m hm1 (by omega)) (hold_V P' Q' m hm1 (by omega)) (ratio_minus P P' Q Q' m hm) (ratio_reduced _ _ _ (Nat.mul_pos hQ hQ') (by omega)))
theorem fv_Mul (P P' : Int) (Q Q' m : Nat) (hQ : 0 < Q) (hQ' : 0 < Q') (hm1 : 1 ≤ m) (hm : m ≤ 2097152) : Fn2 152 (SV P Q m) (SV P' Q' m) (SF (P * P') (Q * Q')) :=
  frac_Mul_gen _ _ _ (frac_ofTwo_times _ _ _ _ _ _ (hold_V P Q m hm1 (by omega)) (hold_V P' Q' m hm1 (by omega)) (ratio_times P P' Q Q' m (by omega)) (ratio_reduced _ _ _ (Nat.mul_pos hQ hQ') (by omega)))
theorem rv_Add (P P' : Int) (Q Q' m : Nat) (hQ : 0 < Q) (hQ' : 0 < Q') (hm : m ≤ 2097150) : Fn2 74 (SV P Q m) (SV P' Q' m) (SF (P * (Q' : Int) + P' * (Q : Int)) (Q * Q')) :=
  fun n n' a d a' d' A D A' D' ca cd ca' cd' w hS hT r q r' q' => (ref4_Add n n' a d a' d' A D A' D' ca cd ca' cd' w r q r' q' (Nat.le_trans hS.2.2.2.2.1 hm) (Nat.le_trans hS.2.2.2.2.2.1 hm) (Nat.le_trans hT.2.2.2.2.1 hm) (Nat.le_trans hT.2.2.2.2.2.1 hm) hS.2.2.1 hS.2.2.2.1 hT.2.2.1 hT.2.2.2.1).mono fun _ _ h =>
    gv_of_f (h.conv (Nat.mul_pos (loD_pos d) (loD_pos d')) (Nat.mul_pos hQ hQ') (by rw [Int.natCast_mul, Int.natCast_mul]; exact cross_add hS.2.2.2.2.2.2 hT.2.2.2.2.2.2))
theorem rv_Sub (P P' : Int) (Q Q' m : Nat) (hQ : 0 < Q) (hQ' : 0 < Q') (hm : m ≤ 2097150) : Fn2 43 (SV P Q m) (SV P' Q' m) (SF (P * (Q' : Int) - P' * (Q : Int)) (Q * Q')) :=
  fun n n' a d a' d' A D A' D' ca cd ca' cd' w hS hT r q r' q' => (ref4_Sub n n' a d a' d' A D A' D' ca cd ca' cd' w r q r' q' (Nat.le_trans hS.2.2.2.2.1 hm) (Nat.le_trans hS.2.2.2.2.2.1 hm) (Nat.le_trans hT.2.2.2.2.1 hm) (Nat.le_trans hT.2.2.2.2.2.1 hm) hS.2.2.1 hS.2.2.2.1 hT.2.2.1 hT.2.2.2.1).mono fun _ _ h =>
    gv_of_f (h.conv (Nat.mul_pos (loD_pos d) (loD_pos d')) (Nat.mul_pos hQ hQ') (by rw [Int.natCast_mul, Int.natCast_mul]; exact cross_sub hS.2.2.2.2.2.2 hT.2.2.2.2.2.2))
theorem rv_Mul (P P' : Int) (Q Q' m : Nat) (hQ : 0 < Q) (hQ' : 0 < Q') (hm : m ≤ 2097152) : Fn2 75 (SV P Q m) (SV P' Q' m) (SF (P * P') (Q * Q')) :=
  fun n n' a d a' d' A D A' D' ca cd ca' cd' w hS hT r q r' q' => (ref4_Mul n n' a d a' d' A D A' D' ca cd ca' cd' w r q r' q' (Nat.le_trans hS.2.2.2.2.1 hm) (Nat.le_trans hS.2.2.2.2.2.1 hm) (Nat.le_trans hT.2.2.2.2.1 hm) (Nat.le_trans hT.2.2.2.2.2.1 hm) hS.2.2.1 hS.2.2.2.1 hT.2.2.1 hT.2.2.2.1).mono fun _ _ h =>
    gv_of_f (h.conv (Nat.mul_pos (loD_pos d) (loD_pos d')) (Nat.mul_pos hQ hQ') (by rw [Int.natCast_mul, Int.natCast_mul]; exact mul4 hS.2.2.2.2.2.2 hT.2.2.2.2.2.2))
end Go.Proofs.YtdmoibphidipeaaGreatDoor
/- The fourth layer's law: a fraction below 0 is right. -/

namespace Go.Proofs.YtdmoibphidipeaaGreatDoor
open Go.RowKit Num

end Go.Proofs.YtdmoibphidipeaaGreatDoor
