/- Spots: how two stand, whether they are one, whether one is on a way: the program's own and the document's own. -/
import Derived.Test.YtdmoibphidipeaaGreatDoorZOaH
import Derived.Lib.QuietBelow
import Derived.BigQuiet
import Derived.Deep.RegionHeld3
import Derived.Deep.RegionWith
namespace Go.Proofs.YtdmoibphidipeaaGreatDoor
open Go.RowKit Num
open Go.Sort (grow)

abbrev Fi2 (f : FuncId) (S1 S2 : Shape) (z : Int) : Prop := ∀ (n1 n2 : Bool) (a1 d1 a2 d2 : List Nat) (A1 D1 A2 D2 : Option Addr) (c1 e1 c2 e2 : Nat) (w : World), S1 n1 a1 c1 d1 e1 → S2 n2 a2 c2 d2 e2 → Rd w (fun g => g < w.heap.size) .u32 A1 a1 → Rd w (fun g => g < w.heap.size) .u32 D1 d1 → Rd w (fun g => g < w.heap.size) .u32 A2 a2 → Rd w (fun g => g < w.heap.size) .u32 D2 d2 → Calls Tryz.prog f #[.agg #[.bool n1, .slice A1 a1.length c1, .slice D1 d1.length e1], .agg #[.bool n2, .slice A2 a2.length c2, .slice D2 d2.length e2]] w fun e w' => e = .returned (.int .i64 z) ∧ Below w.heap.size w w'
abbrev Fb2 (f : FuncId) (S1 S2 : Shape) (b : Bool) : Prop := ∀ (n1 n2 : Bool) (a1 d1 a2 d2 : List Nat) (A1 D1 A2 D2 : Option Addr) (c1 e1 c2 e2 : Nat) (w : World), S1 n1 a1 c1 d1 e1 → S2 n2 a2 c2 d2 e2 → Rd w (fun g => g < w.heap.size) .u32 A1 a1 → Rd w (fun g => g < w.heap.size) .u32 D1 d1 → Rd w (fun g => g < w.heap.size) .u32 A2 a2 → Rd w (fun g => g < w.heap.size) .u32 D2 d2 → Calls Tryz.prog f #[.agg #[.bool n1, .slice A1 a1.length c1, .slice D1 d1.length e1], .agg #[.bool n2, .slice A2 a2.length c2, .slice D2 d2.length e2]] w fun e w' => e = .returned (.bool b) ∧ Below w.heap.size w w'
/-- the same, of spots -/
abbrev Si2 (f : FuncId) (S1 S2 S3 S4 : Shape) (z : Int) : Prop := ∀ (n1 n2 n3 n4 : Bool) (a1 d1 a2 d2 a3 d3 a4 d4 : List Nat) (A1 D1 A2 D2 A3 D3 A4 D4 : Option Addr) (c1 e1 c2 e2 c3 e3 c4 e4 : Nat) (w : World), S1 n1 a1 c1 d1 e1 → S2 n2 a2 c2 d2 e2 → S3 n3 a3 c3 d3 e3 → S4 n4 a4 c4 d4 e4 → Rd w (fun g => g < w.heap.size) .u32 A1 a1 → Rd w (fun g => g < w.heap.size) .u32 D1 d1 → Rd w (fun g => g < w.heap.size) .u32 A2 a2 → Rd w (fun g => g < w.heap.size) .u32 D2 d2 → Rd w (fun g => g < w.heap.size) .u32 A3 a3 → Rd w (fun g => g < w.heap.size) .u32 D3 d3 → Rd w (fun g => g < w.heap.size) .u32 A4 a4 → Rd w (fun g => g < w.heap.size) .u32 D4 d4 → Calls Tryz.prog f #[.agg #[.bool n1, .slice A1 a1.length c1, .slice D1 d1.length e1, .bool n2, .slice A2 a2.length c2, .slice D2 d2.length e2], .agg #[.bool n3, .slice A3 a3.length c3, .slice D3 d3.length e3, .bool n4, .slice A4 a4.length c4, .slice D4 d4.length e4]] w fun e w' => e = .returned (.int .i64 z) ∧ Below w.heap.size w w'
abbrev Sb2 (f : FuncId) (S1 S2 S3 S4 : Shape) (b : Bool) : Prop := ∀ (n1 n2 n3 n4 : Bool) (a1 d1 a2 d2 a3 d3 a4 d4 : List Nat) (A1 D1 A2 D2 A3 D3 A4 D4 : Option Addr) (c1 e1 c2 e2 c3 e3 c4 e4 : Nat) (w : World), S1 n1 a1 c1 d1 e1 → S2 n2 a2 c2 d2 e2 → S3 n3 a3 c3 d3 e3 → S4 n4 a4 c4 d4 e4 → Rd w (fun g => g < w.heap.size) .u32 A1 a1 → Rd w (fun g => g < w.heap.size) .u32 D1 d1 → Rd w (fun g => g < w.heap.size) .u32 A2 a2 → Rd w (fun g => g < w.heap.size) .u32 D2 d2 → Rd w (fun g => g < w.heap.size) .u32 A3 a3 → Rd w (fun g => g < w.heap.size) .u32 D3 d3 → Rd w (fun g => g < w.heap.size) .u32 A4 a4 → Rd w (fun g => g < w.heap.size) .u32 D4 d4 → Calls Tryz.prog f #[.agg #[.bool n1, .slice A1 a1.length c1, .slice D1 d1.length e1, .bool n2, .slice A2 a2.length c2, .slice D2 d2.length e2], .agg #[.bool n3, .slice A3 a3.length c3, .slice D3 d3.length e3, .bool n4, .slice A4 a4.length c4, .slice D4 d4.length e4]] w fun e w' => e = .returned (.bool b) ∧ Below w.heap.size w w'
abbrev Si3 (f : FuncId) (S1 S2 S3 S4 S5 S6 : Shape) (z : Int) : Prop := ∀ (n1 n2 n3 n4 n5 n6 : Bool) (a1 d1 a2 d2 a3 d3 a4 d4 a5 d5 a6 d6 : List Nat) (A1 D1 A2 D2 A3 D3 A4 D4 A5 D5 A6 D6 : Option Addr) (c1 e1 c2 e2 c3 e3 c4 e4 c5 e5 c6 e6 : Nat) (w : World), S1 n1 a1 c1 d1 e1 → S2 n2 a2 c2 d2 e2 → S3 n3 a3 c3 d3 e3 → S4 n4 a4 c4 d4 e4 → S5 n5 a5 c5 d5 e5 → S6 n6 a6 c6 d6 e6 → Rd w (fun g => g < w.heap.size) .u32 A1 a1 → Rd w (fun g => g < w.heap.size) .u32 D1 d1 → Rd w (fun g => g < w.heap.size) .u32 A2 a2 → Rd w (fun g => g < w.heap.size) .u32 D2 d2 → Rd w (fun g => g < w.heap.size) .u32 A3 a3 → Rd w (fun g => g < w.heap.size) .u32 D3 d3 → Rd w (fun g => g < w.heap.size) .u32 A4 a4 → Rd w (fun g => g < w.heap.size) .u32 D4 d4 → Rd w (fun g => g < w.heap.size) .u32 A5 a5 → Rd w (fun g => g < w.heap.size) .u32 D5 d5 → Rd w (fun g => g < w.heap.size) .u32 A6 a6 → Rd w (fun g => g < w.heap.size) .u32 D6 d6 → Calls Tryz.prog f #[.agg #[.bool n1, .slice A1 a1.length c1, .slice D1 d1.length e1, .bool n2, .slice A2 a2.length c2, .slice D2 d2.length e2], .agg #[.bool n3, .slice A3 a3.length c3, .slice D3 d3.length e3, .bool n4, .slice A4 a4.length c4, .slice D4 d4.length e4], .agg #[.bool n5, .slice A5 a5.length c5, .slice D5 d5.length e5, .bool n6, .slice A6 a6.length c6, .slice D6 d6.length e6]] w fun e w' => e = .returned (.int .i64 z) ∧ Below w.heap.size w w'
abbrev Sb3 (f : FuncId) (S1 S2 S3 S4 S5 S6 : Shape) (b : Bool) : Prop := ∀ (n1 n2 n3 n4 n5 n6 : Bool) (a1 d1 a2 d2 a3 d3 a4 d4 a5 d5 a6 d6 : List Nat) (A1 D1 A2 D2 A3 D3 A4 D4 A5 D5 A6 D6 : Option Addr) (c1 e1 c2 e2 c3 e3 c4 e4 c5 e5 c6 e6 : Nat) (w : World), S1 n1 a1 c1 d1 e1 → S2 n2 a2 c2 d2 e2 → S3 n3 a3 c3 d3 e3 → S4 n4 a4 c4 d4 e4 → S5 n5 a5 c5 d5 e5 → S6 n6 a6 c6 d6 e6 → Rd w (fun g => g < w.heap.size) .u32 A1 a1 → Rd w (fun g => g < w.heap.size) .u32 D1 d1 → Rd w (fun g => g < w.heap.size) .u32 A2 a2 → Rd w (fun g => g < w.heap.size) .u32 D2 d2 → Rd w (fun g => g < w.heap.size) .u32 A3 a3 → Rd w (fun g => g < w.heap.size) .u32 D3 d3 → Rd w (fun g => g < w.heap.size) .u32 A4 a4 → Rd w (fun g => g < w.heap.size) .u32 D4 d4 → Rd w (fun g => g < w.heap.size) .u32 A5 a5 → Rd w (fun g => g < w.heap.size) .u32 D5 d5 → Rd w (fun g => g < w.heap.size) .u32 A6 a6 → Rd w (fun g => g < w.heap.size) .u32 D6 d6 → Calls Tryz.prog f #[.agg #[.bool n1, .slice A1 a1.length c1, .slice D1 d1.length e1, .bool n2, .slice A2 a2.length c2, .slice D2 d2.length e2], .agg #[.bool n3, .slice A3 a3.length c3, .slice D3 d3.length e3, .bool n4, .slice A4 a4.length c4, .slice D4 d4.length e4], .agg #[.bool n5, .slice A5 a5.length c5, .slice D5 d5.length e5, .bool n6, .slice A6 a6.length c6, .slice D6 d6.length e6]] w fun e w' => e = .returned (.bool b) ∧ Below w.heap.size w w'
/-- by the first number, then by the second -/
def lex (x y : Int) : Int := if x = 0 then y else x
theorem quiet_of {W : World} {f : FuncId} {args : Array Value} {v : Value} (h : ∀ V : World, Below W.heap.size W V → Calls Tryz.prog f args V fun e w' => e = .returned v ∧ Below V.heap.size V w') (d : Nat) (os : Array Obj) : Calls Tryz.prog f args (grow (redrawn W d) os) fun e w'' => e = .returned v ∧ ∃ p : Regrown, w'' = grow (redrawn W p.d) p.os :=
  Calls.regrown_of (h _ (below_regrown W d os))

set_option maxRecDepth 100000 in
set_option maxHeartbeats 3200000 in
theorem spot_Cmp {S1 S2 S3 S4 : Shape} {z1 z2 : Int} (x1 : Fi2 63 S1 S3 z1) (x2 : Fi2 63 S2 S4 z2) : Si2 32 S1 S2 S3 S4 (lex z1 z2) := by
  intro n1 n2 n3 n4 a1 d1 a2 d2 a3 d3 a4 d4 A1 D1 A2 D2 A3 D3 A4 D4 c1 e1 c2 e2 c3 e3 c4 e4 w s1 s2 s3 s4 r1 q1 r2 q2 r3 q3 r4 q4
  obtain ⟨W, hW, k100, k101, b0, s0⟩ := bxb w 41 41 [.bool n1, .slice A1 a1.length c1, .slice D1 d1.length e1, .bool n2, .slice A2 a2.length c2, .slice D2 d2.length e2] [.bool n3, .slice A3 a3.length c3, .slice D3 d3.length e3, .bool n4, .slice A4 a4.length c4, .slice D4 d4.length e4]
  obtain ⟨⟨p00, p01, p02, p03, p04, p05⟩, -⟩ := k100.facts6
  obtain ⟨⟨p10, p11, p12, p13, p14, p15⟩, -⟩ := k101.facts6
  have cX := fun (V : World) (hV : Below W.heap.size W V) => x1 n1 n3 a1 d1 a3 d3 A1 D1 A3 D3 c1 e1 c3 e3 V s1 s3 ((r1.on b0).on hV) ((q1.on b0).on hV) ((r3.on b0).on hV) ((q3.on b0).on hV)
  have cY := fun (V : World) (hV : Below W.heap.size W V) => x2 n2 n4 a2 d2 a4 d4 A2 D2 A4 D4 c2 e2 c4 e4 V s2 s4 ((r2.on b0).on hV) ((q2.on b0).on hV) ((r4.on b0).on hV) ((q4.on b0).on hV)
  have HK0 := Lib.hid k100
  have HK1 := Lib.hid k101
  have HB0 := Lib.hid b0
  have CX := Lib.hid cX
  have CY := Lib.hid cY
  clear cX cY x1 x2 k100 k101 b0 s0 s1 r1 q1 s2 r2 q2 s3 r3 q3 s4 r4 q4
  by_cases hz : z1 = 0
  · subst hz
    rw [show lex 0 z2 = z2 from rfl]
    go_enter Tryz.func32, Tryz.ntmps32
    go_wp2_with fail
    try rw [hW]
    clear hW
    refine (CX.out _ (Below.refl _ _)).mono ?_
    rintro e w1 ⟨rfl, b1⟩
    obtain ⟨p00, p01, p02, p03, p04, p05⟩ := kept6 HK0.out b1
    obtain ⟨p10, p11, p12, p13, p14, p15⟩ := kept6 HK1.out b1
    go_wp2_with fail
    refine (CY.out _ b1).mono ?_
    rintro e w2 ⟨rfl, b2⟩
    go_wp2_with fail
    go_ret
    exact ⟨rfl, HB0.out.trans ((b1.trans (b2.mono b1.size)).mono HB0.out.size)⟩
  · have hzb : (z1 == 0) = false := by simpa using hz
    rw [show lex z1 z2 = z1 from if_neg hz]
    clear hz
    go_enter Tryz.func32, Tryz.ntmps32
    go_wp2_with fail
    try rw [hW]
    clear hW
    refine (CX.out _ (Below.refl _ _)).mono ?_
    rintro e w1 ⟨rfl, b1⟩
    obtain ⟨p00, p01, p02, p03, p04, p05⟩ := kept6 HK0.out b1
    obtain ⟨p10, p11, p12, p13, p14, p15⟩ := kept6 HK1.out b1
    go_wp2_with fail
    go_ret
    exact ⟨rfl, HB0.out.trans (b1.mono HB0.out.size)⟩

set_option maxRecDepth 100000 in
set_option maxHeartbeats 3200000 in
theorem ref5_Cmp {S1 S2 S3 S4 : Shape} {z1 z2 : Int} (x1 : Fi2 41 S1 S3 z1) (x2 : Fi2 41 S2 S4 z2) : Si2 47 S1 S2 S3 S4 (lex z1 z2) := by
  intro n1 n2 n3 n4 a1 d1 a2 d2 a3 d3 a4 d4 A1 D1 A2 D2 A3 D3 A4 D4 c1 e1 c2 e2 c3 e3 c4 e4 w s1 s2 s3 s4 r1 q1 r2 q2 r3 q3 r4 q4
  obtain ⟨W, hW, k100, k101, b0, s0⟩ := bxb w 41 41 [.bool n1, .slice A1 a1.length c1, .slice D1 d1.length e1, .bool n2, .slice A2 a2.length c2, .slice D2 d2.length e2] [.bool n3, .slice A3 a3.length c3, .slice D3 d3.length e3, .bool n4, .slice A4 a4.length c4, .slice D4 d4.length e4]
  obtain ⟨⟨p00, p01, p02, p03, p04, p05⟩, -⟩ := k100.facts6
  obtain ⟨⟨p10, p11, p12, p13, p14, p15⟩, -⟩ := k101.facts6
  have cX := fun (V : World) (hV : Below W.heap.size W V) => x1 n1 n3 a1 d1 a3 d3 A1 D1 A3 D3 c1 e1 c3 e3 V s1 s3 ((r1.on b0).on hV) ((q1.on b0).on hV) ((r3.on b0).on hV) ((q3.on b0).on hV)
  have cY := fun (V : World) (hV : Below W.heap.size W V) => x2 n2 n4 a2 d2 a4 d4 A2 D2 A4 D4 c2 e2 c4 e4 V s2 s4 ((r2.on b0).on hV) ((q2.on b0).on hV) ((r4.on b0).on hV) ((q4.on b0).on hV)
  have HK0 := Lib.hid k100
  have HK1 := Lib.hid k101
  have HB0 := Lib.hid b0
  have CX := Lib.hid cX
  have CY := Lib.hid cY
  clear cX cY x1 x2 k100 k101 b0 s0 s1 r1 q1 s2 r2 q2 s3 r3 q3 s4 r4 q4
  by_cases hz : z1 = 0
  · subst hz
    rw [show lex 0 z2 = z2 from rfl]
    go_enter Tryz.func47, Tryz.ntmps47
    go_wp2_with fail
    try rw [hW]
    clear hW
    refine (CX.out _ (Below.refl _ _)).mono ?_
    rintro e w1 ⟨rfl, b1⟩
    obtain ⟨p00, p01, p02, p03, p04, p05⟩ := kept6 HK0.out b1
    obtain ⟨p10, p11, p12, p13, p14, p15⟩ := kept6 HK1.out b1
    go_wp2_with fail
    refine (CY.out _ b1).mono ?_
    rintro e w2 ⟨rfl, b2⟩
    go_wp2_with fail
    go_ret
    exact ⟨rfl, HB0.out.trans ((b1.trans (b2.mono b1.size)).mono HB0.out.size)⟩
  · have hzb : (z1 == 0) = false := by simpa using hz
    rw [show lex z1 z2 = z1 from if_neg hz]
    clear hz
    go_enter Tryz.func47, Tryz.ntmps47
    go_wp2_with fail
    try rw [hW]
    clear hW
    refine (CX.out _ (Below.refl _ _)).mono ?_
    rintro e w1 ⟨rfl, b1⟩
    obtain ⟨p00, p01, p02, p03, p04, p05⟩ := kept6 HK0.out b1
    obtain ⟨p10, p11, p12, p13, p14, p15⟩ := kept6 HK1.out b1
    go_wp2_with fail
    refine (CX.out _ b1).mono ?_
    rintro e w2 ⟨rfl, b2⟩
    go_wp2_with fail
    go_ret
    exact ⟨rfl, HB0.out.trans ((b1.trans (b2.mono b1.size)).mono HB0.out.size)⟩

set_option maxRecDepth 100000 in
set_option maxHeartbeats 3200000 in
theorem spot_Same {S1 S2 S3 S4 : Shape} {z : Int} {b : Bool} (hb : (z == 0) = b) (x1 : Si2 32 S1 S2 S3 S4 z) : Sb2 33 S1 S2 S3 S4 b := by
  intro n1 n2 n3 n4 a1 d1 a2 d2 a3 d3 a4 d4 A1 D1 A2 D2 A3 D3 A4 D4 c1 e1 c2 e2 c3 e3 c4 e4 w s1 s2 s3 s4 r1 q1 r2 q2 r3 q3 r4 q4
  obtain ⟨W, hW, k100, k101, b0, s0⟩ := bxb w 41 41 [.bool n1, .slice A1 a1.length c1, .slice D1 d1.length e1, .bool n2, .slice A2 a2.length c2, .slice D2 d2.length e2] [.bool n3, .slice A3 a3.length c3, .slice D3 d3.length e3, .bool n4, .slice A4 a4.length c4, .slice D4 d4.length e4]
  obtain ⟨⟨p00, p01, p02, p03, p04, p05⟩, -⟩ := k100.facts6
  obtain ⟨⟨p10, p11, p12, p13, p14, p15⟩, -⟩ := k101.facts6
  have cX := fun (V : World) (hV : Below W.heap.size W V) => x1 n1 n2 n3 n4 a1 d1 a2 d2 a3 d3 a4 d4 A1 D1 A2 D2 A3 D3 A4 D4 c1 e1 c2 e2 c3 e3 c4 e4 V s1 s2 s3 s4 ((r1.on b0).on hV) ((q1.on b0).on hV) ((r2.on b0).on hV) ((q2.on b0).on hV) ((r3.on b0).on hV) ((q3.on b0).on hV) ((r4.on b0).on hV) ((q4.on b0).on hV)
  have HB0 := Lib.hid b0
  have CX := Lib.hid cX
  clear cX x1 k100 k101 b0 s0 s1 r1 q1 s2 r2 q2 s3 r3 q3 s4 r4 q4
  go_enter Tryz.func33, Tryz.ntmps33
  go_wp2_with fail
  try rw [hW]
  clear hW
  refine (CX.out _ (Below.refl _ _)).mono ?_
  rintro e w1 ⟨rfl, b1⟩
  go_wp2_with fail
  go_ret
  exact ⟨rfl, HB0.out.trans (b1.mono HB0.out.size)⟩

set_option maxRecDepth 100000 in
set_option maxHeartbeats 3200000 in
theorem ref5_Same {S1 S2 S3 S4 : Shape} (x1 : Fb2 64 S1 S3 true) (x2 : Fb2 64 S2 S4 true) : Sb2 34 S1 S2 S3 S4 true := by
  intro n1 n2 n3 n4 a1 d1 a2 d2 a3 d3 a4 d4 A1 D1 A2 D2 A3 D3 A4 D4 c1 e1 c2 e2 c3 e3 c4 e4 w s1 s2 s3 s4 r1 q1 r2 q2 r3 q3 r4 q4
  obtain ⟨W, hW, k100, k101, b0, s0⟩ := bxb w 41 41 [.bool n1, .slice A1 a1.length c1, .slice D1 d1.length e1, .bool n2, .slice A2 a2.length c2, .slice D2 d2.length e2] [.bool n3, .slice A3 a3.length c3, .slice D3 d3.length e3, .bool n4, .slice A4 a4.length c4, .slice D4 d4.length e4]
  obtain ⟨⟨p00, p01, p02, p03, p04, p05⟩, -⟩ := k100.facts6
  obtain ⟨⟨p10, p11, p12, p13, p14, p15⟩, -⟩ := k101.facts6
  have cX := fun (V : World) (hV : Below W.heap.size W V) => x1 n1 n3 a1 d1 a3 d3 A1 D1 A3 D3 c1 e1 c3 e3 V s1 s3 ((r1.on b0).on hV) ((q1.on b0).on hV) ((r3.on b0).on hV) ((q3.on b0).on hV)
  have cY := fun (V : World) (hV : Below W.heap.size W V) => x2 n2 n4 a2 d2 a4 d4 A2 D2 A4 D4 c2 e2 c4 e4 V s2 s4 ((r2.on b0).on hV) ((q2.on b0).on hV) ((r4.on b0).on hV) ((q4.on b0).on hV)
  have HK0 := Lib.hid k100
  have HK1 := Lib.hid k101
  have HB0 := Lib.hid b0
  have CX := Lib.hid cX
  have CY := Lib.hid cY
  clear cX cY x1 x2 k100 k101 b0 s0 s1 r1 q1 s2 r2 q2 s3 r3 q3 s4 r4 q4
  go_enter Tryz.func34, Tryz.ntmps34
  go_wp2_with fail
  try rw [hW]
  clear hW
  refine (CX.out _ (Below.refl _ _)).mono ?_
  rintro e w1 ⟨rfl, b1⟩
  obtain ⟨p00, p01, p02, p03, p04, p05⟩ := kept6 HK0.out b1
  obtain ⟨p10, p11, p12, p13, p14, p15⟩ := kept6 HK1.out b1
  go_wp2_with fail
  refine (CY.out _ b1).mono ?_
  rintro e w2 ⟨rfl, b2⟩
  go_wp2_with fail
  go_ret
  exact ⟨rfl, HB0.out.trans ((b1.trans (b2.mono b1.size)).mono HB0.out.size)⟩

set_option maxRecDepth 100000 in
set_option maxHeartbeats 25600000 in
theorem spot_On {S1 S2 S3 S4 S5 S6 : Shape} {z1 z2 t : Int} {b : Bool} (hz1 : z1 = -1 ∨ z1 = 0 ∨ z1 = 1) (hz2 : z2 = -1 ∨ z2 = 0 ∨ z2 = 1) (hb1 : 0 ≤ z1 * z2 → (t == 0) = b) (hb2 : z1 * z2 < 0 → b = false) (x1 : Si2 32 S1 S2 S5 S6 z1) (x2 : Si2 32 S5 S6 S3 S4 z2) (x3 : Si3 52 S1 S2 S3 S4 S5 S6 t) : Sb3 18 S1 S2 S3 S4 S5 S6 b := by
  intro n1 n2 n3 n4 n5 n6 a1 d1 a2 d2 a3 d3 a4 d4 a5 d5 a6 d6 A1 D1 A2 D2 A3 D3 A4 D4 A5 D5 A6 D6 c1 e1 c2 e2 c3 e3 c4 e4 c5 e5 c6 e6 w s1 s2 s3 s4 s5 s6 r1 q1 r2 q2 r3 q3 r4 q4 r5 q5 r6 q6
  obtain ⟨W, hW, k100, k101, k102, b0, s0⟩ := bxc w 41 41 41 [.bool n1, .slice A1 a1.length c1, .slice D1 d1.length e1, .bool n2, .slice A2 a2.length c2, .slice D2 d2.length e2] [.bool n3, .slice A3 a3.length c3, .slice D3 d3.length e3, .bool n4, .slice A4 a4.length c4, .slice D4 d4.length e4] [.bool n5, .slice A5 a5.length c5, .slice D5 d5.length e5, .bool n6, .slice A6 a6.length c6, .slice D6 d6.length e6]
  obtain ⟨⟨p00, p01, p02, p03, p04, p05⟩, -⟩ := k100.facts6
  obtain ⟨⟨p10, p11, p12, p13, p14, p15⟩, -⟩ := k101.facts6
  obtain ⟨⟨p20, p21, p22, p23, p24, p25⟩, -⟩ := k102.facts6
  have cX := fun (V : World) (hV : Below W.heap.size W V) => x1 n1 n2 n5 n6 a1 d1 a2 d2 a5 d5 a6 d6 A1 D1 A2 D2 A5 D5 A6 D6 c1 e1 c2 e2 c5 e5 c6 e6 V s1 s2 s5 s6 ((r1.on b0).on hV) ((q1.on b0).on hV) ((r2.on b0).on hV) ((q2.on b0).on hV) ((r5.on b0).on hV) ((q5.on b0).on hV) ((r6.on b0).on hV) ((q6.on b0).on hV)
  have cY := fun (V : World) (hV : Below W.heap.size W V) => x2 n5 n6 n3 n4 a5 d5 a6 d6 a3 d3 a4 d4 A5 D5 A6 D6 A3 D3 A4 D4 c5 e5 c6 e6 c3 e3 c4 e4 V s5 s6 s3 s4 ((r5.on b0).on hV) ((q5.on b0).on hV) ((r6.on b0).on hV) ((q6.on b0).on hV) ((r3.on b0).on hV) ((q3.on b0).on hV) ((r4.on b0).on hV) ((q4.on b0).on hV)
  have cZ := fun (V : World) (hV : Below W.heap.size W V) => x3 n1 n2 n3 n4 n5 n6 a1 d1 a2 d2 a3 d3 a4 d4 a5 d5 a6 d6 A1 D1 A2 D2 A3 D3 A4 D4 A5 D5 A6 D6 c1 e1 c2 e2 c3 e3 c4 e4 c5 e5 c6 e6 V s1 s2 s3 s4 s5 s6 ((r1.on b0).on hV) ((q1.on b0).on hV) ((r2.on b0).on hV) ((q2.on b0).on hV) ((r3.on b0).on hV) ((q3.on b0).on hV) ((r4.on b0).on hV) ((q4.on b0).on hV) ((r5.on b0).on hV) ((q5.on b0).on hV) ((r6.on b0).on hV) ((q6.on b0).on hV)
  have CX := quiet_of cX
  have CY := quiet_of cY
  have CZ := quiet_of cZ
  have y00 := cell_regrown p00
  have y01 := cell_regrown p01
  have y02 := cell_regrown p02
  have y03 := cell_regrown p03
  have y04 := cell_regrown p04
  have y05 := cell_regrown p05
  have y10 := cell_regrown p10
  have y11 := cell_regrown p11
  have y12 := cell_regrown p12
  have y13 := cell_regrown p13
  have y14 := cell_regrown p14
  have y15 := cell_regrown p15
  have y20 := cell_regrown p20
  have y21 := cell_regrown p21
  have y22 := cell_regrown p22
  have y23 := cell_regrown p23
  have y24 := cell_regrown p24
  have y25 := cell_regrown p25
  have HB0 := Lib.hid b0
  clear cX cY cZ x1 x2 x3 k100 k101 k102 b0 s0 s1 r1 q1 s2 r2 q2 s3 r3 q3 s4 r4 q4 s5 r5 q5 s6 r6 q6
  rcases hz1 with rfl | rfl | rfl <;> rcases hz2 with rfl | rfl | rfl
  all_goals first
    | (have hb := hb1 (by decide); clear hb1 hb2)
    | (have hb := hb2 (by decide); clear hb1 hb2; subst hb)
  all_goals
    go_enter Tryz.func18, Tryz.ntmps18
    go_wp2_with fail
    try rw [hW]
    clear hW
    have e1 : IntKind.i64.wrap 1 = 1 := by decide
    have e2 : IntKind.i64.wrap (-1) = -1 := by decide
    have e3 : IntKind.i64.wrap 0 = 0 := by decide
    refine wp_region_quiet_below (by kernel_rfl) (by kernel_rfl) ?_
    quiet_step (fail)
    quiet_step (fail)
    quiet_step (with_reducible exact CX _ _)
    quiet_step (fail)
    quiet_step (fail)
    quiet_step (with_reducible exact CY _ _)
    quiet_step (fail)
    quiet_step (fail)
    quiet_step (fail)
    quiet_step (fail)
    quiet_step (fail)
    quiet_step (fail)
    quiet_step (with_reducible exact CZ _ _)
    quiet_step (fail)
    quiet_step (fail)
    quiet_step (fail)
    refine wpQuiet_nil ?_
    intro _ hw'
    obtain ⟨⟨dq, osq⟩, hw''⟩ := hw'
    subst hw''
    go_wp2_with fail
    go_ret
    exact ⟨rfl, HB0.out.trans ((below_regrown W dq osq).mono HB0.out.size)⟩

end Go.Proofs.YtdmoibphidipeaaGreatDoor
/- Spots, the program's own: what Turn answers. -/

namespace Go.Proofs.YtdmoibphidipeaaGreatDoor
open Go.RowKit Num

/-- the number whose sign tells on which side of the way from the first to the second spot the third one is -/
def det (P1 P2 P3 P4 P5 P6 : Int) (Q1 Q2 Q3 Q4 Q5 Q6 : Nat) : Int := (P3 * (Q1 : Int) - P1 * (Q3 : Int)) * (P6 * (Q2 : Int) - P2 * (Q6 : Int)) * (Q4 : Int) * (Q5 : Int) - (P4 * (Q2 : Int) - P2 * (Q4 : Int)) * (P5 * (Q1 : Int) - P1 * (Q5 : Int)) * (Q3 : Int) * (Q6 : Int)
/-- a spot in its box, no lower part of which is 0 -/
def Hd (g : Nat) (P1 : Int) (Q1 m1 : Nat) (P2 : Int) (Q2 m2 : Nat) (wc : World) : Prop :=
  ∃ n1 a1 A1 c1 d1 D1 e1 n2 a2 A2 c2 d2 D2 e2, Blk wc g 41 [.bool n1, .slice A1 a1.length c1, .slice D1 d1.length e1, .bool n2, .slice A2 a2.length c2, .slice D2 d2.length e2] ∧ (SH P1 Q1 m1 n1 a1 c1 d1 e1 ∧ SH P2 Q2 m2 n2 a2 c2 d2 e2) ∧
    (Rd wc (fun g => g < wc.heap.size) .u32 A1 a1 ∧ Rd wc (fun g => g < wc.heap.size) .u32 D1 d1) ∧ (Rd wc (fun g => g < wc.heap.size) .u32 A2 a2 ∧ Rd wc (fun g => g < wc.heap.size) .u32 D2 d2)
theorem Hd.six {g : Nat} {P1 P2 : Int} {Q1 m1 Q2 m2 : Nat} {w : World} (h : Hd g P1 Q1 m1 P2 Q2 m2 w) {g' : Nat} {t : TypeId} {x y : Bool} {p q r s : Option Addr} {i0 i1 i2 i3 i4 i5 i6 i7 : Nat} (f : Blk w g' t [.bool x, .slice p i0 i1, .slice q i2 i3, .bool y, .slice r i4 i5, .slice s i6 i7]) (hne : g ≠ g') (u0 u1 u2 u3 u4 u5 : Value) :
    Hd g P1 Q1 m1 P2 Q2 m2 (((((((w.setCell ⟨g', 0, none⟩ u0).setCell ⟨g', 1, none⟩ u1).setCell ⟨g', 2, none⟩ u2).setCell ⟨g', 3, none⟩ u3).setCell ⟨g', 4, none⟩ u4).setCell ⟨g', 5, none⟩ u5)) := by
  obtain ⟨n1, a1, A1, c1, d1, D1, e1, n2, a2, A2, c2, d2, D2, e2, k, hs, ⟨r1, q1⟩, r2, q2⟩ := h
  exact ⟨n1, a1, A1, c1, d1, D1, e1, n2, a2, A2, c2, d2, D2, e2, k.off6 hne _ _ _ _ _ _, hs, ⟨r1.six f _ _ _ _ _ _, q1.six f _ _ _ _ _ _⟩, r2.six f _ _ _ _ _ _, q2.six f _ _ _ _ _ _⟩
set_option maxHeartbeats 800000 in
theorem held3 {v w : World} {g : Nat} {P1 P2 P3 P4 P5 P6 : Int} {Q1 Q2 Q3 Q4 Q5 Q6 m1 m2 m3 m4 m5 m6 : Nat} {x1 y1 x2 y2 x3 y3 : Bool} {p1 q1 r1 s1 p2 q2 r2 s2 p3 q3 r3 s3 : Option Addr} {i10 i11 i12 i13 i14 i15 i16 i17 i20 i21 i22 i23 i24 i25 i26 i27 i30 i31 i32 i33 i34 i35 i36 i37 : Nat} {n1 n2 n3 n4 n5 n6 : Bool} {a1 d1 a2 d2 a3 d3 a4 d4 a5 d5 a6 d6 : List Nat} {A1 D1 A2 D2 A3 D3 A4 D4 A5 D5 A6 D6 : Option Addr} {c1 e1 c2 e2 c3 e3 c4 e4 c5 e5 c6 e6 : Nat}
    (k1 : Blk v (g) 41 [.bool x1, .slice p1 i10 i11, .slice q1 i12 i13, .bool y1, .slice r1 i14 i15, .slice s1 i16 i17]) (k2 : Blk v (g + 1) 41 [.bool x2, .slice p2 i20 i21, .slice q2 i22 i23, .bool y2, .slice r2 i24 i25, .slice s2 i26 i27]) (k3 : Blk v (g + 1 + 1) 41 [.bool x3, .slice p3 i30 i31, .slice q3 i32 i33, .bool y3, .slice r3 i34 i35, .slice s3 i36 i37]) (b : Below g w v)
    (h1 : SH P1 Q1 m1 n1 a1 c1 d1 e1) (h2 : SH P2 Q2 m2 n2 a2 c2 d2 e2) (h3 : SH P3 Q3 m3 n3 a3 c3 d3 e3) (h4 : SH P4 Q4 m4 n4 a4 c4 d4 e4) (h5 : SH P5 Q5 m5 n5 a5 c5 d5 e5) (h6 : SH P6 Q6 m6 n6 a6 c6 d6 e6) (t1 : Rd v (fun g => g < v.heap.size) .u32 A1 a1) (l1 : Rd v (fun g => g < v.heap.size) .u32 D1 d1) (t2 : Rd v (fun g => g < v.heap.size) .u32 A2 a2) (l2 : Rd v (fun g => g < v.heap.size) .u32 D2 d2) (t3 : Rd v (fun g => g < v.heap.size) .u32 A3 a3) (l3 : Rd v (fun g => g < v.heap.size) .u32 D3 d3) (t4 : Rd v (fun g => g < v.heap.size) .u32 A4 a4) (l4 : Rd v (fun g => g < v.heap.size) .u32 D4 d4) (t5 : Rd v (fun g => g < v.heap.size) .u32 A5 a5) (l5 : Rd v (fun g => g < v.heap.size) .u32 D5 d5) (t6 : Rd v (fun g => g < v.heap.size) .u32 A6 a6) (l6 : Rd v (fun g => g < v.heap.size) .u32 D6 d6) :
    Hd g P1 Q1 m1 P2 Q2 m2 ((((((((((((((((((v.setCell ⟨g, 0, none⟩ (.bool n1)).setCell ⟨g, 1, none⟩ (.slice A1 a1.length c1)).setCell ⟨g, 2, none⟩ (.slice D1 d1.length e1)).setCell ⟨g, 3, none⟩ (.bool n2)).setCell ⟨g, 4, none⟩ (.slice A2 a2.length c2)).setCell ⟨g, 5, none⟩ (.slice D2 d2.length e2)).setCell ⟨g + 1, 0, none⟩ (.bool n3)).setCell ⟨g + 1, 1, none⟩ (.slice A3 a3.length c3)).setCell ⟨g + 1, 2, none⟩ (.slice D3 d3.length e3)).setCell ⟨g + 1, 3, none⟩ (.bool n4)).setCell ⟨g + 1, 4, none⟩ (.slice A4 a4.length c4)).setCell ⟨g + 1, 5, none⟩ (.slice D4 d4.length e4)).setCell ⟨g + 1 + 1, 0, none⟩ (.bool n5)).setCell ⟨g + 1 + 1, 1, none⟩ (.slice A5 a5.length c5)).setCell ⟨g + 1 + 1, 2, none⟩ (.slice D5 d5.length e5)).setCell ⟨g + 1 + 1, 3, none⟩ (.bool n6)).setCell ⟨g + 1 + 1, 4, none⟩ (.slice A6 a6.length c6)).setCell ⟨g + 1 + 1, 5, none⟩ (.slice D6 d6.length e6)) ∧ Hd (g + 1) P3 Q3 m3 P4 Q4 m4 ((((((((((((((((((v.setCell ⟨g, 0, none⟩ (.bool n1)).setCell ⟨g, 1, none⟩ (.slice A1 a1.length c1)).setCell ⟨g, 2, none⟩ (.slice D1 d1.length e1)).setCell ⟨g, 3, none⟩ (.bool n2)).setCell ⟨g, 4, none⟩ (.slice A2 a2.length c2)).setCell ⟨g, 5, none⟩ (.slice D2 d2.length e2)).setCell ⟨g + 1, 0, none⟩ (.bool n3)).setCell ⟨g + 1, 1, none⟩ (.slice A3 a3.length c3)).setCell ⟨g + 1, 2, none⟩ (.slice D3 d3.length e3)).setCell ⟨g + 1, 3, none⟩ (.bool n4)).setCell ⟨g + 1, 4, none⟩ (.slice A4 a4.length c4)).setCell ⟨g + 1, 5, none⟩ (.slice D4 d4.length e4)).setCell ⟨g + 1 + 1, 0, none⟩ (.bool n5)).setCell ⟨g + 1 + 1, 1, none⟩ (.slice A5 a5.length c5)).setCell ⟨g + 1 + 1, 2, none⟩ (.slice D5 d5.length e5)).setCell ⟨g + 1 + 1, 3, none⟩ (.bool n6)).setCell ⟨g + 1 + 1, 4, none⟩ (.slice A6 a6.length c6)).setCell ⟨g + 1 + 1, 5, none⟩ (.slice D6 d6.length e6)) ∧ Hd (g + 1 + 1) P5 Q5 m5 P6 Q6 m6 ((((((((((((((((((v.setCell ⟨g, 0, none⟩ (.bool n1)).setCell ⟨g, 1, none⟩ (.slice A1 a1.length c1)).setCell ⟨g, 2, none⟩ (.slice D1 d1.length e1)).setCell ⟨g, 3, none⟩ (.bool n2)).setCell ⟨g, 4, none⟩ (.slice A2 a2.length c2)).setCell ⟨g, 5, none⟩ (.slice D2 d2.length e2)).setCell ⟨g + 1, 0, none⟩ (.bool n3)).setCell ⟨g + 1, 1, none⟩ (.slice A3 a3.length c3)).setCell ⟨g + 1, 2, none⟩ (.slice D3 d3.length e3)).setCell ⟨g + 1, 3, none⟩ (.bool n4)).setCell ⟨g + 1, 4, none⟩ (.slice A4 a4.length c4)).setCell ⟨g + 1, 5, none⟩ (.slice D4 d4.length e4)).setCell ⟨g + 1 + 1, 0, none⟩ (.bool n5)).setCell ⟨g + 1 + 1, 1, none⟩ (.slice A5 a5.length c5)).setCell ⟨g + 1 + 1, 2, none⟩ (.slice D5 d5.length e5)).setCell ⟨g + 1 + 1, 3, none⟩ (.bool n6)).setCell ⟨g + 1 + 1, 4, none⟩ (.slice A6 a6.length c6)).setCell ⟨g + 1 + 1, 5, none⟩ (.slice D6 d6.length e6)) ∧ Below g w ((((((((((((((((((v.setCell ⟨g, 0, none⟩ (.bool n1)).setCell ⟨g, 1, none⟩ (.slice A1 a1.length c1)).setCell ⟨g, 2, none⟩ (.slice D1 d1.length e1)).setCell ⟨g, 3, none⟩ (.bool n2)).setCell ⟨g, 4, none⟩ (.slice A2 a2.length c2)).setCell ⟨g, 5, none⟩ (.slice D2 d2.length e2)).setCell ⟨g + 1, 0, none⟩ (.bool n3)).setCell ⟨g + 1, 1, none⟩ (.slice A3 a3.length c3)).setCell ⟨g + 1, 2, none⟩ (.slice D3 d3.length e3)).setCell ⟨g + 1, 3, none⟩ (.bool n4)).setCell ⟨g + 1, 4, none⟩ (.slice A4 a4.length c4)).setCell ⟨g + 1, 5, none⟩ (.slice D4 d4.length e4)).setCell ⟨g + 1 + 1, 0, none⟩ (.bool n5)).setCell ⟨g + 1 + 1, 1, none⟩ (.slice A5 a5.length c5)).setCell ⟨g + 1 + 1, 2, none⟩ (.slice D5 d5.length e5)).setCell ⟨g + 1 + 1, 3, none⟩ (.bool n6)).setCell ⟨g + 1 + 1, 4, none⟩ (.slice A6 a6.length c6)).setCell ⟨g + 1 + 1, 5, none⟩ (.slice D6 d6.length e6)) := by
  have w2 := k2.off6 (g' := g) (by omega) (.bool n1) (.slice A1 a1.length c1) (.slice D1 d1.length e1) (.bool n2) (.slice A2 a2.length c2) (.slice D2 d2.length e2)
  have w3 := k3.off6 (g' := g) (by omega) (.bool n1) (.slice A1 a1.length c1) (.slice D1 d1.length e1) (.bool n2) (.slice A2 a2.length c2) (.slice D2 d2.length e2)
  have z3 := w3.off6 (g' := g + 1) (by omega) (.bool n3) (.slice A3 a3.length c3) (.slice D3 d3.length e3) (.bool n4) (.slice A4 a4.length c4) (.slice D4 d4.length e4)
  have j1 : Hd g P1 Q1 m1 P2 Q2 m2 _ := ⟨n1, a1, A1, c1, d1, D1, e1, n2, a2, A2, c2, d2, D2, e2, k1.six (.bool n1) (.slice A1 a1.length c1) (.slice D1 d1.length e1) (.bool n2) (.slice A2 a2.length c2) (.slice D2 d2.length e2), ⟨h1, h2⟩, ⟨t1.six k1 _ _ _ _ _ _, l1.six k1 _ _ _ _ _ _⟩, t2.six k1 _ _ _ _ _ _, l2.six k1 _ _ _ _ _ _⟩
  have j2 : Hd (g + 1) P3 Q3 m3 P4 Q4 m4 _ := ⟨n3, a3, A3, c3, d3, D3, e3, n4, a4, A4, c4, d4, D4, e4, w2.six (.bool n3) (.slice A3 a3.length c3) (.slice D3 d3.length e3) (.bool n4) (.slice A4 a4.length c4) (.slice D4 d4.length e4), ⟨h3, h4⟩, ⟨(t3.six k1 _ _ _ _ _ _).six w2 _ _ _ _ _ _, (l3.six k1 _ _ _ _ _ _).six w2 _ _ _ _ _ _⟩, (t4.six k1 _ _ _ _ _ _).six w2 _ _ _ _ _ _, (l4.six k1 _ _ _ _ _ _).six w2 _ _ _ _ _ _⟩
  have j3 : Hd (g + 1 + 1) P5 Q5 m5 P6 Q6 m6 _ := ⟨n5, a5, A5, c5, d5, D5, e5, n6, a6, A6, c6, d6, D6, e6, z3.six (.bool n5) (.slice A5 a5.length c5) (.slice D5 d5.length e5) (.bool n6) (.slice A6 a6.length c6) (.slice D6 d6.length e6), ⟨h5, h6⟩, ⟨((t5.six k1 _ _ _ _ _ _).six w2 _ _ _ _ _ _).six z3 _ _ _ _ _ _, ((l5.six k1 _ _ _ _ _ _).six w2 _ _ _ _ _ _).six z3 _ _ _ _ _ _⟩, ((t6.six k1 _ _ _ _ _ _).six w2 _ _ _ _ _ _).six z3 _ _ _ _ _ _, ((l6.six k1 _ _ _ _ _ _).six w2 _ _ _ _ _ _).six z3 _ _ _ _ _ _⟩
  exact ⟨(j1.six w2 (by omega) _ _ _ _ _ _).six z3 (by omega) _ _ _ _ _ _, j2.six z3 (by omega) _ _ _ _ _ _, j3, below_six (below_six (below_six b (Nat.le_refl _) _ _ _ _ _ _) (by omega) _ _ _ _ _ _) (by omega) _ _ _ _ _ _⟩
/-- a whole number in a box of its own, at the end of a region -/
theorem oneA {W v : World} {t : TypeId} {X : Option Addr} {x : List Nat} (K : Below W.heap.size W v) (n : Bool) (c : Nat) (r : Rd v (fun g => g < v.heap.size) .u32 X x) : Blk (v.alloc (.cells #[.bool n, .slice X x.length c] t)) v.heap.size t [.bool n, .slice X x.length c] ∧ Rd (v.alloc (.cells #[.bool n, .slice X x.length c] t)) (fun g => g < (v.alloc (.cells #[.bool n, .slice X x.length c] t)).heap.size) .u32 X x ∧ Below W.heap.size W (v.alloc (.cells #[.bool n, .slice X x.length c] t)) :=
  ⟨Blk.new v t [.bool n, .slice X x.length c], r.on (below_new v _), keep_one K _⟩
theorem oneB {W v : World} {g : Nat} {t : TypeId} {X : Option Addr} {x : List Nat} (k : Blk v g t [.bool false, .slice none 0 0]) (hg : W.heap.size ≤ g) (K : Below W.heap.size W v) (n : Bool) (c : Nat) (r : Rd v (fun g => g < v.heap.size) .u32 X x) : Blk ((v.setCell ⟨g, 0, none⟩ (.bool n)).setCell ⟨g, 1, none⟩ (.slice X x.length c)) g t [.bool n, .slice X x.length c] ∧ Rd ((v.setCell ⟨g, 0, none⟩ (.bool n)).setCell ⟨g, 1, none⟩ (.slice X x.length c)) (fun b => b < ((v.setCell ⟨g, 0, none⟩ (.bool n)).setCell ⟨g, 1, none⟩ (.slice X x.length c)).heap.size) .u32 X x ∧ Below W.heap.size W ((v.setCell ⟨g, 0, none⟩ (.bool n)).setCell ⟨g, 1, none⟩ (.slice X x.length c)) :=
  ⟨k.pair _ _, r.far2 k _ _, (K.setCell (p := ⟨g, 0, none⟩) hg _).setCell (p := ⟨g, 1, none⟩) hg _⟩

set_option maxRecDepth 100000 in
set_option maxHeartbeats 51200000 in
/-- on which side of a way a spot is -/
theorem spot_Turn {P1 P2 P3 P4 P5 P6 : Int} {Q1 Q2 Q3 Q4 Q5 Q6 m1 m2 m3 m4 m5 m6 : Nat} (g1 : 1 ≤ m1) (g2 : 1 ≤ m2) (g3 : 1 ≤ m3) (g4 : 1 ≤ m4) (g5 : 1 ≤ m5) (g6 : 1 ≤ m6) (hs : m1 + m2 + m3 + m4 + m5 + m6 ≤ 4194304) (n1 n2 n3 n4 n5 n6 : Bool) (a1 d1 a2 d2 a3 d3 a4 d4 a5 d5 a6 d6 : List Nat) (A1 D1 A2 D2 A3 D3 A4 D4 A5 D5 A6 D6 : Option Addr) (c1 e1 c2 e2 c3 e3 c4 e4 c5 e5 c6 e6 : Nat) (w : World) (s1 : SI P1 Q1 m1 n1 a1 c1 d1 e1) (s2 : SI P2 Q2 m2 n2 a2 c2 d2 e2) (s3 : SI P3 Q3 m3 n3 a3 c3 d3 e3) (s4 : SI P4 Q4 m4 n4 a4 c4 d4 e4) (s5 : SI P5 Q5 m5 n5 a5 c5 d5 e5) (s6 : SI P6 Q6 m6 n6 a6 c6 d6 e6) (r1 : Rd w (fun g => g < w.heap.size) .u32 A1 a1) (q1 : Rd w (fun g => g < w.heap.size) .u32 D1 d1) (r2 : Rd w (fun g => g < w.heap.size) .u32 A2 a2) (q2 : Rd w (fun g => g < w.heap.size) .u32 D2 d2) (r3 : Rd w (fun g => g < w.heap.size) .u32 A3 a3) (q3 : Rd w (fun g => g < w.heap.size) .u32 D3 d3) (r4 : Rd w (fun g => g < w.heap.size) .u32 A4 a4) (q4 : Rd w (fun g => g < w.heap.size) .u32 D4 d4) (r5 : Rd w (fun g => g < w.heap.size) .u32 A5 a5) (q5 : Rd w (fun g => g < w.heap.size) .u32 D5 d5) (r6 : Rd w (fun g => g < w.heap.size) .u32 A6 a6) (q6 : Rd w (fun g => g < w.heap.size) .u32 D6 d6) :
    Calls Tryz.prog 52 #[.agg #[.bool n1, .slice A1 a1.length c1, .slice D1 d1.length e1, .bool n2, .slice A2 a2.length c2, .slice D2 d2.length e2], .agg #[.bool n3, .slice A3 a3.length c3, .slice D3 d3.length e3, .bool n4, .slice A4 a4.length c4, .slice D4 d4.length e4], .agg #[.bool n5, .slice A5 a5.length c5, .slice D5 d5.length e5, .bool n6, .slice A6 a6.length c6, .slice D6 d6.length e6]] w fun e w' => e = .returned (.int .i64 (sgn (det P1 P2 P3 P4 P5 P6 Q1 Q2 Q3 Q4 Q5 Q6))) ∧ Below w.heap.size w w' := by
  obtain ⟨z, hz⟩ : ∃ z, sgn (det P1 P2 P3 P4 P5 P6 Q1 Q2 Q3 Q4 Q5 Q6) = z := ⟨_, rfl⟩
  rw [hz]
  have HZ := Lib.hid hz
  clear hz
  obtain ⟨W, hW, k1, k2, k3, b0, s0⟩ := bxc w 41 41 41 [.bool n1, .slice A1 a1.length c1, .slice D1 d1.length e1, .bool n2, .slice A2 a2.length c2, .slice D2 d2.length e2] [.bool n3, .slice A3 a3.length c3, .slice D3 d3.length e3, .bool n4, .slice A4 a4.length c4, .slice D4 d4.length e4] [.bool n5, .slice A5 a5.length c5, .slice D5 d5.length e5, .bool n6, .slice A6 a6.length c6, .slice D6 d6.length e6]
  obtain ⟨⟨p00, p01, p02, p03, p04, p05⟩, ⟨p06, p07, p08, p09, p0a, p0b⟩⟩ := k1.facts6
  obtain ⟨⟨p10, p11, p12, p13, p14, p15⟩, ⟨p16, p17, p18, p19, p1a, p1b⟩⟩ := k2.facts6
  obtain ⟨⟨p20, p21, p22, p23, p24, p25⟩, ⟨p26, p27, p28, p29, p2a, p2b⟩⟩ := k3.facts6
  have CC0 := Lib.hid (fun (V : World) (hV : Below W.heap.size W V) => spot_hold _ _ _ _ (spot_counted P1 Q1 m1 g1 (by omega)) (spot_counted P2 Q2 m2 g2 (by omega)) n1 n2 a1 d1 a2 d2 A1 D1 A2 D2 c1 e1 c2 e2 V s1 s2 ((r1.on b0).on hV) ((q1.on b0).on hV) ((r2.on b0).on hV) ((q2.on b0).on hV))
  have CC1 := Lib.hid (fun (V : World) (hV : Below W.heap.size W V) => spot_hold _ _ _ _ (spot_counted P3 Q3 m3 g3 (by omega)) (spot_counted P4 Q4 m4 g4 (by omega)) n3 n4 a3 d3 a4 d4 A3 D3 A4 D4 c3 e3 c4 e4 V s3 s4 ((r3.on b0).on hV) ((q3.on b0).on hV) ((r4.on b0).on hV) ((q4.on b0).on hV))
  have CC2 := Lib.hid (fun (V : World) (hV : Below W.heap.size W V) => spot_hold _ _ _ _ (spot_counted P5 Q5 m5 g5 (by omega)) (spot_counted P6 Q6 m6 g6 (by omega)) n5 n6 a5 d5 a6 d6 A5 D5 A6 D6 c5 e5 c6 e6 V s5 s6 ((r5.on b0).on hV) ((q5.on b0).on hV) ((r6.on b0).on hV) ((q6.on b0).on hV))
  have HK1 := Lib.hid k1
  have HK2 := Lib.hid k2
  have HK3 := Lib.hid k3
  have HB0 := Lib.hid b0
  have K0 : Below W.heap.size W W.drew := below_drewN (Below.refl _ _) 1
  have hlt : w.heap.size + 2 < W.heap.size := by omega
  clear k1 k2 k3 b0 s0 s1 r1 q1 s2 r2 q2 s3 r3 q3 s4 r4 q4 s5 r5 q5 s6 r6 q6
  go_enter Tryz.func52, Tryz.ntmps52
  go_wp2_with fail
  try rw [hW]
  clear hW
  go_cut [] from 7 (fun wc => Hd (w.heap.size) P1 Q1 m1 P2 Q2 m2 wc ∧ Hd (w.heap.size + 1) P3 Q3 m3 P4 Q4 m4 wc ∧ Hd (w.heap.size + 1 + 1) P5 Q5 m5 P6 Q6 m6 wc ∧ Below w.heap.size w wc)
  case first =>
    go_region_with (first
      | (go_at_call_of 88 (Value.slice A1 a1.length c1); (with_reducible refine Calls.mono (CC0.out _ K0) ?_); rintro e w1 ⟨n51, a51, A51, c51, d51, D51, e51, n52, a52, A52, c52, d52, D52, e52, rfl, ⟨s51, s52⟩, ⟨r51, q51⟩, ⟨r52, q52⟩, b1⟩; have KA := below_next K0 (Nat.le_refl _) b1; obtain ⟨h010, h011, h012, h013, h014, h015⟩ := kept6 HK2.out KA; obtain ⟨h020, h021, h022, h023, h024, h025⟩ := kept6 HK3.out KA)
      | (go_at_call_of 88 (Value.slice A3 a3.length c3); (with_reducible refine Calls.mono (CC1.out _ KA) ?_); rintro e w2 ⟨n53, a53, A53, c53, d53, D53, e53, n54, a54, A54, c54, d54, D54, e54, rfl, ⟨s53, s54⟩, ⟨r53, q53⟩, ⟨r54, q54⟩, b2⟩; have KB := below_next KA (Nat.le_refl _) b2; obtain ⟨h120, h121, h122, h123, h124, h125⟩ := kept6 HK3.out KB)
      | (go_at_call_of 88 (Value.slice A5 a5.length c5); (with_reducible refine Calls.mono (CC2.out _ KB) ?_); rintro e w3 ⟨n55, a55, A55, c55, d55, D55, e55, n56, a56, A56, c56, d56, D56, e56, rfl, ⟨s55, s56⟩, ⟨r55, q55⟩, ⟨r56, q56⟩, b3⟩; have KC := below_next KB (Nat.le_refl _) b3; obtain ⟨⟨t00, t01, t02, t03, t04, t05⟩, ⟨t06, t07, t08, t09, t0a, t0b⟩⟩ := (HK1.out.below KC HK1.out.lt).facts6; obtain ⟨⟨t10, t11, t12, t13, t14, t15⟩, ⟨t16, t17, t18, t19, t1a, t1b⟩⟩ := (HK2.out.below KC HK2.out.lt).facts6; obtain ⟨⟨t20, t21, t22, t23, t24, t25⟩, ⟨t26, t27, t28, t29, t2a, t2b⟩⟩ := (HK3.out.below KC HK3.out.lt).facts6))
    all_goals
      have hw := held3 (v := w3) (w := w) (HK1.out.below KC HK1.out.lt) (HK2.out.below KC HK2.out.lt) (HK3.out.below KC HK3.out.lt) (HB0.out.trans (KC.mono HB0.out.size)) s51 s52 s53 s54 s55 s56 (r51.on (b2.trans (b3.mono b2.size))) (q51.on (b2.trans (b3.mono b2.size))) (r52.on (b2.trans (b3.mono b2.size))) (q52.on (b2.trans (b3.mono b2.size))) (r53.on b3) (q53.on b3) (r54.on b3) (q54.on b3) r55 q55 r56 q56
      have HW := Lib.hid hw
      clear hw KA KB KC b1 b2 b3 s51 r51 q51 s52 r52 q52 s53 r53 q53 s54 r54 q54 s55 r55 q55 s56 r56 q56 t00 t01 t02 t03 t04 t05 t06 t07 t08 t09 t0a t0b t10 t11 t12 t13 t14 t15 t16 t17 t18 t19 t1a t1b t20 t21 t22 t23 t24 t25 t26 t27 t28 t29 t2a t2b h010 h011 h012 h013 h014 h015 h020 h021 h022 h023 h024 h025 h120 h121 h122 h123 h124 h125
      go_wp2_with fail
      go_meet
      exact HW.out
  case rest =>
    obtain ⟨⟨n1, a1, A1, c1, d1, D1, e1, n2, a2, A2, c2, d2, D2, e2, k1, ⟨s1, s2⟩, ⟨r1, q1⟩, r2, q2⟩, ⟨n3, a3, A3, c3, d3, D3, e3, n4, a4, A4, c4, d4, D4, e4, k2, ⟨s3, s4⟩, ⟨r3, q3⟩, r4, q4⟩, ⟨n5, a5, A5, c5, d5, D5, e5, n6, a6, A6, c6, d6, D6, e6, k3, ⟨s5, s6⟩, ⟨r5, q5⟩, r6, q6⟩, bw⟩ := hcut
    obtain ⟨wb, hwb⟩ : ∃ x, x = wc := ⟨_, rfl⟩
    subst hwb
    obtain ⟨M7, hM7⟩ : ∃ M, (P3 * (Q1 : Int) - P1 * (Q3 : Int)) * (P6 * (Q2 : Int) - P2 * (Q6 : Int)) * (Q4 : Int) * (Q5 : Int) = M := ⟨_, rfl⟩
    obtain ⟨M8, hM8⟩ : ∃ M, (P4 * (Q2 : Int) - P2 * (Q4 : Int)) * (P5 * (Q1 : Int) - P1 * (Q5 : Int)) * (Q3 : Int) * (Q6 : Int) = M := ⟨_, rfl⟩
    obtain ⟨k7, hk7⟩ : ∃ k, m1 + m3 + 1 + (m2 + m6 + 1) + m4 + m5 = k := ⟨_, rfl⟩
    obtain ⟨k8, hk8⟩ : ∃ k, m2 + m4 + 1 + (m1 + m5 + 1) + m3 + m6 = k := ⟨_, rfl⟩
    have hk : k7 ≤ 8388608 ∧ k8 ≤ 8388608 := by omega
    have hz := HZ.out
    unfold det at hz
    rw [hM7, hM8] at hz
    have HZ2 := Lib.hid hz
    clear hz HZ
    have CG7 := Lib.hid (fun (V : World) (hV : Below wb.heap.size wb V) => spot_gap (A1 := A1) (D1 := D1) (A2 := A3) (D2 := D3) (by omega) (by omega) s1 s3 V ((r1.on (Below.refl _ wb)).on hV) ((q1.on (Below.refl _ wb)).on hV) ((r3.on (Below.refl _ wb)).on hV) ((q3.on (Below.refl _ wb)).on hV))
    have CH7 := Lib.hid (fun (V : World) (hV : Below wb.heap.size wb V) => spot_gap (A1 := A2) (D1 := D2) (A2 := A6) (D2 := D6) (by omega) (by omega) s2 s6 V ((r2.on (Below.refl _ wb)).on hV) ((q2.on (Below.refl _ wb)).on hV) ((r6.on (Below.refl _ wb)).on hV) ((q6.on (Below.refl _ wb)).on hV))
    have CP7 := Lib.hid (fun (V : World) (hV : Below wb.heap.size wb V) (n n' : Bool) (a a' : List Nat) (X X' : Option Addr) (c c' : Nat) (h : HW (P3 * (Q1 : Int) - P1 * (Q3 : Int)) (m1 + m3 + 1) n a c) (h' : HW (P6 * (Q2 : Int) - P2 * (Q6 : Int)) (m2 + m6 + 1) n' a' c') (r : Rd V (fun g => g < V.heap.size) .u32 X a) (r' : Rd V (fun g => g < V.heap.size) .u32 X' a') => spot_product (X := D4) (X' := D5) (by omega) h h' (show HD Q4 m4 d4 e4 from ⟨s4.2.1, s4.2.2.2.1, s4.2.2.2.2.2.1, s4.2.2.2.2.2.2.2⟩) (show HD Q5 m5 d5 e5 from ⟨s5.2.1, s5.2.2.2.1, s5.2.2.2.2.2.1, s5.2.2.2.2.2.2.2⟩) V r r' ((q4.on (Below.refl _ wb)).on hV) ((q5.on (Below.refl _ wb)).on hV))
    simp only [hM7, hk7] at CP7
    have HS := Lib.hid (And.intro (And.intro s1 s2) (And.intro (And.intro s3 s4) (And.intro s5 s6)))
    have HR := Lib.hid (And.intro (And.intro (And.intro r1 q1) (And.intro r2 q2)) (And.intro (And.intro (And.intro r3 q3) (And.intro r4 q4)) (And.intro (And.intro r5 q5) (And.intro r6 q6))))
    have H1 := Lib.hid k1
    have H2 := Lib.hid k2
    have H3 := Lib.hid k3
    have HM := Lib.hid (And.intro hM8 hk8)
    have HBW := Lib.hid bw
    have hl1 : w.heap.size + 1 + 1 < wb.heap.size := k3.lt
    obtain ⟨x00, x01, x02, x03, x04, x05⟩ := k1.facts6.1
    obtain ⟨x10, x11, x12, x13, x14, x15⟩ := k2.facts6.1
    obtain ⟨x20, x21, x22, x23, x24, x25⟩ := k3.facts6.1
    clear k1 k2 k3 bw hM7 hM8 hk7 hk8 s1 r1 q1 s2 r2 q2 s3 r3 q3 s4 r4 q4 s5 r5 q5 s6 r6 q6 CC0 CC1 CC2 HK1 HK2 HK3 HB0 K0 hlt p00 p01 p02 p03 p04 p05 p06 p07 p08 p09 p0a p0b p10 p11 p12 p13 p14 p15 p16 p17 p18 p19 p1a p1b p20 p21 p22 p23 p24 p25 p26 p27 p28 p29 p2a p2b g1 g2 g3 g4 g5 g6
    go_wp2_with fail
    go_cut [7] from 8 (fun v7 wd => ∃ g n x X c, v7 = .pointer (some ⟨g, 0, none⟩) ∧ HW (M7) (k7) n x c ∧ Blk wd g 37 [.bool n, .slice X x.length c] ∧ Rd wd (fun g => g < wd.heap.size) .u32 X x ∧ Below wb.heap.size wb wd)
    case first =>
      have K0 : Below wb.heap.size wb wb.drew := below_drewN (Below.refl _ _) 1
      have KO : Below wb.heap.size wb (wb.alloc (.cells #[.bool false, .slice none 0 0] 37)).drew := below_drewN (keep_one (Below.refl wb.heap.size wb) _) 1
      go_region_held3 (fun w' => (w'.cell? ⟨w.heap.size, 0, none⟩ = some (.bool n1) ∧ w'.cell? ⟨w.heap.size, 1, none⟩ = some (.slice A1 a1.length c1) ∧ w'.cell? ⟨w.heap.size, 2, none⟩ = some (.slice D1 d1.length e1) ∧ w'.cell? ⟨w.heap.size, 3, none⟩ = some (.bool n2) ∧ w'.cell? ⟨w.heap.size, 4, none⟩ = some (.slice A2 a2.length c2) ∧ w'.cell? ⟨w.heap.size, 5, none⟩ = some (.slice D2 d2.length e2)) ∧ (w'.cell? ⟨w.heap.size + 1, 0, none⟩ = some (.bool n3) ∧ w'.cell? ⟨w.heap.size + 1, 1, none⟩ = some (.slice A3 a3.length c3) ∧ w'.cell? ⟨w.heap.size + 1, 2, none⟩ = some (.slice D3 d3.length e3) ∧ w'.cell? ⟨w.heap.size + 1, 3, none⟩ = some (.bool n4) ∧ w'.cell? ⟨w.heap.size + 1, 4, none⟩ = some (.slice A4 a4.length c4) ∧ w'.cell? ⟨w.heap.size + 1, 5, none⟩ = some (.slice D4 d4.length e4)) ∧ (w'.cell? ⟨w.heap.size + 1 + 1, 0, none⟩ = some (.bool n5) ∧ w'.cell? ⟨w.heap.size + 1 + 1, 1, none⟩ = some (.slice A5 a5.length c5) ∧ w'.cell? ⟨w.heap.size + 1 + 1, 2, none⟩ = some (.slice D5 d5.length e5) ∧ w'.cell? ⟨w.heap.size + 1 + 1, 3, none⟩ = some (.bool n6) ∧ w'.cell? ⟨w.heap.size + 1 + 1, 4, none⟩ = some (.slice A6 a6.length c6) ∧ w'.cell? ⟨w.heap.size + 1 + 1, 5, none⟩ = some (.slice D6 d6.length e6)))
        (first | (refine ⟨kept6 H1.out ?_, kept6 H2.out ?_, kept6 H3.out ?_⟩ <;> first | (with_reducible exact KC) | (with_reducible exact KB) | (with_reducible exact KA) | (with_reducible exact K0) | (with_reducible exact KO) | ((repeat (first | (with_reducible refine Below.setCell ?_ (by dsimp only; omega) _) | (with_reducible refine Below.alloc ?_ (by first | omega | exact Nat.le_refl _ | (have := KC.size; omega) | (have := KB.size; omega) | (have := KA.size; omega) | (simp; omega) | (have := KC.size; simp [World.setCell]; omega) | (have := KB.size; simp; omega) | (have := KA.size; simp; omega)) _))); first | (with_reducible exact KC) | (with_reducible exact KB) | (with_reducible exact KA) | (with_reducible exact K0))) | go_keep)
        ((first
          | (go_at_call_of 90 (Value.slice A1 a1.length c1); (first | (with_reducible refine Calls.mono (CG7.out _ K0) ?_) | (with_reducible refine Calls.mono (CG7.out _ KO) ?_)); rintro e w2 ⟨m51, x51, X51, y51, rfl, s51, r51, b2⟩; (first | (guard_hyp b2 : Below wb.drew.heap.size wb.drew w2; have sz2 : wb.heap.size ≤ w2.heap.size := b2.size; have KA := below_next K0 (Nat.le_refl _) b2) | (obtain ⟨kX, sz2⟩ := got1d b2; have kX1 := kX.lt; obtain ⟨o0, o1, o2, o3⟩ := kX.facts2; have KA := below_next KO (Nat.le_refl _) b2)))
          | (go_at_call_of 90 (Value.slice A2 a2.length c2); (first | (with_reducible refine Calls.mono (CH7.out _ KA) ?_) | (with_reducible refine Calls.mono (CH7.out _ (keep_one KA _)) ?_)); rintro e w3 ⟨m52, x52, X52, y52, rfl, s52, r52, b3⟩; (first | (guard_hyp b3 : Below w2.heap.size w2 w3; have b23 : Below w2.heap.size w2 w3 := b3; have KB := below_next KA (Nat.le_refl _) b3; (try (have kX := kX.on b23; have kX2 := kX.lt; obtain ⟨o0, o1, o2, o3⟩ := kX.facts2))) | (obtain ⟨kX, sz3⟩ := got1 b3; have kX1 := kX.lt; obtain ⟨o0, o1, o2, o3⟩ := kX.facts2; have b23 : Below w2.heap.size w2 w3 := (below_new w2 _).trans (b3.mono (by simp)); have KB := below_next (keep_one KA _) (Nat.le_refl _) b3)); have sz4 : w2.heap.size ≤ w3.heap.size := b23.size; have r51 := r51.on b23)
          | (go_at_call 89; (first | (with_reducible refine Calls.mono (CP7.out _ KB m51 m52 x51 x52 X51 X52 y51 y52 s51 s52 r51 r52) ?_) | (with_reducible refine Calls.mono (CP7.out _ (keep_one KB _) m51 m52 x51 x52 X51 X52 y51 y52 s51 s52 (r51.on (below_new _ _)) (r52.on (below_new _ _))) ?_)); rintro e w4 ⟨m53, x53, X53, y53, rfl, s53, r53, b4⟩; (first | (guard_hyp b4 : Below w3.heap.size w3 w4; have b34 : Below w3.heap.size w3 w4 := b4; have KC := below_next KB (Nat.le_refl _) b4; (try (have kX := kX.on b34; have kX3 := kX.lt; obtain ⟨o0, o1, o2, o3⟩ := kX.facts2))) | (obtain ⟨kX, sz5⟩ := got1 b4; have kX1 := kX.lt; obtain ⟨o0, o1, o2, o3⟩ := kX.facts2; have b34 : Below w3.heap.size w3 w4 := (below_new w3 _).trans (b4.mono (by simp)); have KC := below_next (keep_one KB _) (Nat.le_refl _) b4)); have sz6 : w3.heap.size ≤ w4.heap.size := b34.size)))
      all_goals
        have hsz : wb.heap.size ≤ w4.heap.size := KC.size
        go_wp2_with fail
        go_meet
        refine ⟨_, m53, x53, X53, y53, rfl, s53, ?_⟩
        first
          | (with_reducible exact oneA KC _ _ r53)
          | (with_reducible exact oneB kX (by omega) KC _ _ r53)
    case rest =>
      obtain ⟨g7, n7, x7, X7, c7, rfl, s7, f7, r7, B7⟩ := hcut
      obtain ⟨wd, hwd⟩ : ∃ x, x = wc := ⟨_, rfl⟩
      subst hwd
      obtain ⟨⟨s1, s2⟩, ⟨s3, s4⟩, ⟨s5, s6⟩⟩ := HS.out
      obtain ⟨⟨⟨r1, q1⟩, ⟨r2, q2⟩⟩, ⟨⟨r3, q3⟩, ⟨r4, q4⟩⟩, ⟨⟨r5, q5⟩, ⟨r6, q6⟩⟩⟩ := HR.out
      obtain ⟨hM8, hk8⟩ := HM.out
      have CG8 := Lib.hid (fun (V : World) (hV : Below wd.heap.size wd V) => spot_gap (A1 := A2) (D1 := D2) (A2 := A4) (D2 := D4) (by omega) (by omega) s2 s4 V ((r2.on B7).on hV) ((q2.on B7).on hV) ((r4.on B7).on hV) ((q4.on B7).on hV))
      have CH8 := Lib.hid (fun (V : World) (hV : Below wd.heap.size wd V) => spot_gap (A1 := A1) (D1 := D1) (A2 := A5) (D2 := D5) (by omega) (by omega) s1 s5 V ((r1.on B7).on hV) ((q1.on B7).on hV) ((r5.on B7).on hV) ((q5.on B7).on hV))
      have CP8 := Lib.hid (fun (V : World) (hV : Below wd.heap.size wd V) (n n' : Bool) (a a' : List Nat) (X X' : Option Addr) (c c' : Nat) (h : HW (P4 * (Q2 : Int) - P2 * (Q4 : Int)) (m2 + m4 + 1) n a c) (h' : HW (P5 * (Q1 : Int) - P1 * (Q5 : Int)) (m1 + m5 + 1) n' a' c') (r : Rd V (fun g => g < V.heap.size) .u32 X a) (r' : Rd V (fun g => g < V.heap.size) .u32 X' a') => spot_product (X := D3) (X' := D6) (by omega) h h' (show HD Q3 m3 d3 e3 from ⟨s3.2.1, s3.2.2.2.1, s3.2.2.2.2.2.1, s3.2.2.2.2.2.2.2⟩) (show HD Q6 m6 d6 e6 from ⟨s6.2.1, s6.2.2.2.1, s6.2.2.2.2.2.1, s6.2.2.2.2.2.2.2⟩) V r r' ((q3.on B7).on hV) ((q6.on B7).on hV))
      simp only [hM8, hk8] at CP8
      have F7 := Lib.hid f7
      have S7 := Lib.hid s7
      have R7 := Lib.hid r7
      have HB7 := Lib.hid B7
      have H1 := Lib.hid (H1.out.on B7)
      have H2 := Lib.hid (H2.out.on B7)
      have H3 := Lib.hid (H3.out.on B7)
      have hl1 : w.heap.size + 1 + 1 < wd.heap.size := H3.out.lt
      obtain ⟨x00, x01, x02, x03, x04, x05⟩ := H1.out.facts6.1
      obtain ⟨x10, x11, x12, x13, x14, x15⟩ := H2.out.facts6.1
      obtain ⟨x20, x21, x22, x23, x24, x25⟩ := H3.out.facts6.1
      clear f7 s7 r7 B7 hM8 hk8 CG7 CH7 CP7 s1 r1 q1 s2 r2 q2 s3 r3 q3 s4 r4 q4 s5 r5 q5 s6 r6 q6
      go_wp2_with fail
      go_cut [8] from 9 (fun v8 we => ∃ g n x X c, v8 = .pointer (some ⟨g, 0, none⟩) ∧ HW (M8) (k8) n x c ∧ Blk we g 37 [.bool n, .slice X x.length c] ∧ Rd we (fun g => g < we.heap.size) .u32 X x ∧ Below wd.heap.size wd we)
      case first =>
        have K0 : Below wd.heap.size wd wd.drew := below_drewN (Below.refl _ _) 1
        have KO : Below wd.heap.size wd (wd.alloc (.cells #[.bool false, .slice none 0 0] 37)).drew := below_drewN (keep_one (Below.refl wd.heap.size wd) _) 1
        go_region_held3 (fun w' => (w'.cell? ⟨w.heap.size, 0, none⟩ = some (.bool n1) ∧ w'.cell? ⟨w.heap.size, 1, none⟩ = some (.slice A1 a1.length c1) ∧ w'.cell? ⟨w.heap.size, 2, none⟩ = some (.slice D1 d1.length e1) ∧ w'.cell? ⟨w.heap.size, 3, none⟩ = some (.bool n2) ∧ w'.cell? ⟨w.heap.size, 4, none⟩ = some (.slice A2 a2.length c2) ∧ w'.cell? ⟨w.heap.size, 5, none⟩ = some (.slice D2 d2.length e2)) ∧ (w'.cell? ⟨w.heap.size + 1, 0, none⟩ = some (.bool n3) ∧ w'.cell? ⟨w.heap.size + 1, 1, none⟩ = some (.slice A3 a3.length c3) ∧ w'.cell? ⟨w.heap.size + 1, 2, none⟩ = some (.slice D3 d3.length e3) ∧ w'.cell? ⟨w.heap.size + 1, 3, none⟩ = some (.bool n4) ∧ w'.cell? ⟨w.heap.size + 1, 4, none⟩ = some (.slice A4 a4.length c4) ∧ w'.cell? ⟨w.heap.size + 1, 5, none⟩ = some (.slice D4 d4.length e4)) ∧ (w'.cell? ⟨w.heap.size + 1 + 1, 0, none⟩ = some (.bool n5) ∧ w'.cell? ⟨w.heap.size + 1 + 1, 1, none⟩ = some (.slice A5 a5.length c5) ∧ w'.cell? ⟨w.heap.size + 1 + 1, 2, none⟩ = some (.slice D5 d5.length e5) ∧ w'.cell? ⟨w.heap.size + 1 + 1, 3, none⟩ = some (.bool n6) ∧ w'.cell? ⟨w.heap.size + 1 + 1, 4, none⟩ = some (.slice A6 a6.length c6) ∧ w'.cell? ⟨w.heap.size + 1 + 1, 5, none⟩ = some (.slice D6 d6.length e6)))
          (first | (refine ⟨kept6 H1.out ?_, kept6 H2.out ?_, kept6 H3.out ?_⟩ <;> first | (with_reducible exact KC) | (with_reducible exact KB) | (with_reducible exact KA) | (with_reducible exact K0) | (with_reducible exact KO) | ((repeat (first | (with_reducible refine Below.setCell ?_ (by dsimp only; omega) _) | (with_reducible refine Below.alloc ?_ (by first | omega | exact Nat.le_refl _ | (have := KC.size; omega) | (have := KB.size; omega) | (have := KA.size; omega) | (simp; omega) | (have := KC.size; simp [World.setCell]; omega) | (have := KB.size; simp; omega) | (have := KA.size; simp; omega)) _))); first | (with_reducible exact KC) | (with_reducible exact KB) | (with_reducible exact KA) | (with_reducible exact K0))) | go_keep)
          ((first
            | (go_at_call_of 90 (Value.slice A2 a2.length c2); (first | (with_reducible refine Calls.mono (CG8.out _ K0) ?_) | (with_reducible refine Calls.mono (CG8.out _ KO) ?_)); rintro e w2 ⟨m51, x51, X51, y51, rfl, s51, r51, b2⟩; (first | (guard_hyp b2 : Below wd.drew.heap.size wd.drew w2; have sz2 : wd.heap.size ≤ w2.heap.size := b2.size; have KA := below_next K0 (Nat.le_refl _) b2) | (obtain ⟨kX, sz2⟩ := got1d b2; have kX1 := kX.lt; obtain ⟨o0, o1, o2, o3⟩ := kX.facts2; have KA := below_next KO (Nat.le_refl _) b2)))
            | (go_at_call_of 90 (Value.slice A1 a1.length c1); (first | (with_reducible refine Calls.mono (CH8.out _ KA) ?_) | (with_reducible refine Calls.mono (CH8.out _ (keep_one KA _)) ?_)); rintro e w3 ⟨m52, x52, X52, y52, rfl, s52, r52, b3⟩; (first | (guard_hyp b3 : Below w2.heap.size w2 w3; have b23 : Below w2.heap.size w2 w3 := b3; have KB := below_next KA (Nat.le_refl _) b3; (try (have kX := kX.on b23; have kX2 := kX.lt; obtain ⟨o0, o1, o2, o3⟩ := kX.facts2))) | (obtain ⟨kX, sz3⟩ := got1 b3; have kX1 := kX.lt; obtain ⟨o0, o1, o2, o3⟩ := kX.facts2; have b23 : Below w2.heap.size w2 w3 := (below_new w2 _).trans (b3.mono (by simp)); have KB := below_next (keep_one KA _) (Nat.le_refl _) b3)); have sz4 : w2.heap.size ≤ w3.heap.size := b23.size; have r51 := r51.on b23)
            | (go_at_call 89; (first | (with_reducible refine Calls.mono (CP8.out _ KB m51 m52 x51 x52 X51 X52 y51 y52 s51 s52 r51 r52) ?_) | (with_reducible refine Calls.mono (CP8.out _ (keep_one KB _) m51 m52 x51 x52 X51 X52 y51 y52 s51 s52 (r51.on (below_new _ _)) (r52.on (below_new _ _))) ?_)); rintro e w4 ⟨m53, x53, X53, y53, rfl, s53, r53, b4⟩; (first | (guard_hyp b4 : Below w3.heap.size w3 w4; have b34 : Below w3.heap.size w3 w4 := b4; have KC := below_next KB (Nat.le_refl _) b4; (try (have kX := kX.on b34; have kX3 := kX.lt; obtain ⟨o0, o1, o2, o3⟩ := kX.facts2))) | (obtain ⟨kX, sz5⟩ := got1 b4; have kX1 := kX.lt; obtain ⟨o0, o1, o2, o3⟩ := kX.facts2; have b34 : Below w3.heap.size w3 w4 := (below_new w3 _).trans (b4.mono (by simp)); have KC := below_next (keep_one KB _) (Nat.le_refl _) b4)); have sz6 : w3.heap.size ≤ w4.heap.size := b34.size)))
        all_goals
          have hsz : wd.heap.size ≤ w4.heap.size := KC.size
          go_wp2_with fail
          go_meet
          refine ⟨_, m53, x53, X53, y53, rfl, s53, ?_⟩
          first
            | (with_reducible exact oneA KC _ _ r53)
            | (with_reducible exact oneB kX (by omega) KC _ _ r53)
      case rest =>
        obtain ⟨g8, n8, x8, X8, c8, rfl, s8, f8, r8, B8⟩ := hcut
        obtain ⟨we, hwe⟩ : ∃ x, x = wc := ⟨_, rfl⟩
        subst hwe
        have cC := whole_Cmp n7 n8 x7 x8 X7 X8 c7 c8 we (R7.out.on B8) r8 (by have := S7.out.2.2.1; omega) (by have := s8.2.2.1; omega) S7.out.1 s8.1 S7.out.2.1 s8.2.1
        rw [S7.out.2.2.2, s8.2.2.2, HZ2.out] at cC
        obtain ⟨y0, y1, -, -⟩ := (F7.out.on B8).facts2
        obtain ⟨z0, z1, -, -⟩ := f8.facts2
        have HB := Lib.hid (HBW.out.trans ((HB7.out.trans (B8.mono HB7.out.size)).mono HBW.out.size))
        clear s8 f8 r8 B8 CG8 CH8 CP8
        go_wp2_with fail
        refine cC.mono ?_
        rintro e w5 ⟨rfl, b5⟩
        go_wp2_with fail
        go_ret
        exact ⟨rfl, HB.out.trans (b5.mono HB.out.size)⟩
end Go.Proofs.YtdmoibphidipeaaGreatDoor
/- Spots, the document's own: what Area answers. -/

namespace Go.Proofs.YtdmoibphidipeaaGreatDoor
open Go.RowKit Num

end Go.Proofs.YtdmoibphidipeaaGreatDoor
/- Spots: numbers: the area of three spots, who lies between whom. -/

namespace Go.Proofs.YtdmoibphidipeaaGreatDoor

theorem sgn_three (x : Int) : sgn x = -1 ∨ sgn x = 0 ∨ sgn x = 1 := by
  unfold sgn
  split
  · exact .inl rfl
  · split
    · exact .inr (.inr rfl)
    · exact .inr (.inl rfl)
theorem sgn_one {x : Int} (h : 0 < x) : sgn x = 1 := by unfold sgn; rw [if_neg (by omega), if_pos h]
theorem sgn_mone {x : Int} (h : x < 0) : sgn x = -1 := by unfold sgn; rw [if_pos h]
theorem sgn_neg_ (x : Int) : sgn (-x) = - sgn x := by
  rcases Int.lt_trichotomy x 0 with hx | hx | hx
  · rw [sgn_mone hx, sgn_one (by omega)]; rfl
  · subst hx; rfl
  · rw [sgn_one hx, sgn_mone (by omega)]
theorem sgn_mul_ (x y : Int) : sgn (x * y) = sgn x * sgn y := by
  rcases Int.lt_trichotomy x 0 with hx | hx | hx <;> rcases Int.lt_trichotomy y 0 with hy | hy | hy
  · rw [sgn_mone hx, sgn_mone hy, sgn_one (Int.mul_pos_of_neg_of_neg hx hy)]; rfl
  · subst hy; rw [Int.mul_zero, show sgn 0 = 0 from rfl, Int.mul_zero]
  · rw [sgn_mone hx, sgn_one hy, sgn_mone (Int.mul_neg_of_neg_of_pos hx hy)]; rfl
  · subst hx; rw [Int.zero_mul, show sgn 0 = 0 from rfl, Int.zero_mul]
  · subst hx; rw [Int.zero_mul, show sgn 0 = 0 from rfl, Int.zero_mul]
  · subst hx; rw [Int.zero_mul, show sgn 0 = 0 from rfl, Int.zero_mul]
  · rw [sgn_one hx, sgn_mone hy, sgn_mone (Int.mul_neg_of_pos_of_neg hx hy)]; rfl
  · subst hy; rw [Int.mul_zero, show sgn 0 = 0 from rfl, Int.mul_zero]
  · rw [sgn_one hx, sgn_one hy, sgn_one (Int.mul_pos hx hy)]; rfl
theorem lex_three {x y : Int} (hx : x = -1 ∨ x = 0 ∨ x = 1) (hy : y = -1 ∨ y = 0 ∨ y = 1) : lex x y = -1 ∨ lex x y = 0 ∨ lex x y = 1 := by
  unfold lex
  split
  · exact hy
  · exact hx
set_option maxHeartbeats 3200000 in
/-- one that lies on the line of two others lies between them just when it does so by both numbers -/
theorem on_signs {ux uy vx vy : Int} (h1 : ux = -1 ∨ ux = 0 ∨ ux = 1) (h2 : uy = -1 ∨ uy = 0 ∨ uy = 1) (h3 : vx = -1 ∨ vx = 0 ∨ vx = 1) (h4 : vy = -1 ∨ vy = 0 ∨ vy = 1) (h : ux * vy = uy * vx) : (0 ≤ lex ux uy * lex vx vy) ↔ (ux * -vx ≤ 0 ∧ uy * -vy ≤ 0) := by
  rcases h1 with rfl | rfl | rfl <;> rcases h2 with rfl | rfl | rfl <;> rcases h3 with rfl | rfl | rfl <;> rcases h4 with rfl | rfl | rfl <;> revert h <;> decide
theorem det_on (P1 P2 P3 P4 P5 P6 : Int) (Q1 Q2 Q3 Q4 Q5 Q6 : Nat) : (P1 * (Q5 : Int) - P5 * (Q1 : Int)) * (P6 * (Q4 : Int) - P4 * (Q6 : Int)) * ((Q2 : Int) * (Q3 : Int)) - (P2 * (Q6 : Int) - P6 * (Q2 : Int)) * (P5 * (Q3 : Int) - P3 * (Q5 : Int)) * ((Q1 : Int) * (Q4 : Int)) = - det P1 P2 P3 P4 P5 P6 Q1 Q2 Q3 Q4 Q5 Q6 := by
  unfold det
  grind
/-- what the program asks of On is what the document asks -/
theorem on_same {P1 P2 P3 P4 P5 P6 : Int} {Q1 Q2 Q3 Q4 Q5 Q6 : Nat} (h1 : 0 < Q1) (h2 : 0 < Q2) (h3 : 0 < Q3) (h4 : 0 < Q4) (hd : sgn (det P1 P2 P3 P4 P5 P6 Q1 Q2 Q3 Q4 Q5 Q6) = 0) :
    (0 ≤ lex (sgn (P1 * (Q5 : Int) - P5 * (Q1 : Int))) (sgn (P2 * (Q6 : Int) - P6 * (Q2 : Int))) * lex (sgn (P5 * (Q3 : Int) - P3 * (Q5 : Int))) (sgn (P6 * (Q4 : Int) - P4 * (Q6 : Int)))) ↔
      (sgn (P1 * (Q5 : Int) - P5 * (Q1 : Int)) * sgn (P3 * (Q5 : Int) - P5 * (Q3 : Int)) ≤ 0 ∧ sgn (P2 * (Q6 : Int) - P6 * (Q2 : Int)) * sgn (P4 * (Q6 : Int) - P6 * (Q4 : Int)) ≤ 0) := by
  have e1 : sgn (P3 * (Q5 : Int) - P5 * (Q3 : Int)) = - sgn (P5 * (Q3 : Int) - P3 * (Q5 : Int)) := by rw [← sgn_neg_, Int.neg_sub]
  have e2 : sgn (P4 * (Q6 : Int) - P6 * (Q4 : Int)) = - sgn (P6 * (Q4 : Int) - P4 * (Q6 : Int)) := by rw [← sgn_neg_, Int.neg_sub]
  rw [e1, e2]
  refine on_signs (sgn_three _) (sgn_three _) (sgn_three _) (sgn_three _) ?_
  rw [← sgn_mul_, ← sgn_mul_]
  have h := det_on P1 P2 P3 P4 P5 P6 Q1 Q2 Q3 Q4 Q5 Q6
  rw [sgn_zero.1 hd] at h
  exact sgn_cross (y := (Q1 : Int) * (Q4 : Int)) (Q := (Q2 : Int) * (Q3 : Int)) (Int.mul_pos (by omega) (by omega)) (Int.mul_pos (by omega) (by omega)) (by omega)
end Go.Proofs.YtdmoibphidipeaaGreatDoor
/- Spots: contracts by what the parts are worth. -/

namespace Go.Proofs.YtdmoibphidipeaaGreatDoor
open Go.RowKit Num

theorem SI.widen {P : Int} {Q m m' : Nat} (hm : m ≤ m') {n : Bool} {a d : List Nat} {ca cd : Nat} (k : SI P Q m n a ca d cd) : SV P Q m' n a ca d cd := k.toV.wide hm
theorem fv_Cmp (P P' : Int) (Q Q' m : Nat) (hQ : 0 < Q) (hQ' : 0 < Q') (hm1 : 1 ≤ m) (hm : m ≤ 4194304) : Fi2 63 (SV P Q m) (SV P' Q' m) (sgn (P * (Q' : Int) - P' * (Q : Int))) :=
  fun n n' a d a' d' A D A' D' ca cd ca' cd' w hS hT r q r' q' => frac_Cmp (SV P Q m) (SV P' Q' m) P P' Q Q' m hQ hQ' hm (hold_V P Q m hm1 hm) (hold_V P' Q' m hm1 hm) n n' a d a' d' A D A' D' ca cd ca' cd' w hS hT r q r' q'
theorem rv_Cmp (P P' : Int) (Q Q' m : Nat) (hQ : 0 < Q) (hQ' : 0 < Q') (hm : m ≤ 2097152) : Fi2 41 (SV P Q m) (SV P' Q' m) (sgn (P * (Q' : Int) - P' * (Q : Int))) :=
  fun n n' a d a' d' A D A' D' ca cd ca' cd' w hS hT r q r' q' => by
    have h := ref4_Cmp n n' a d a' d' A D A' D' ca cd ca' cd' w r q r' q' (Nat.le_trans hS.2.2.2.2.1 hm) (Nat.le_trans hS.2.2.2.2.2.1 hm) (Nat.le_trans hT.2.2.2.2.1 hm) (Nat.le_trans hT.2.2.2.2.2.1 hm) hS.2.2.1 hS.2.2.2.1 hT.2.2.1 hT.2.2.2.1
    have p1 := loD_pos d
    have p2 := loD_pos d'
    rwa [sgn_cross (y := (loD d : Int) * (loD d' : Int)) (Q := (Q : Int) * (Q' : Int)) (Int.mul_pos (by omega) (by omega)) (Int.mul_pos (by omega) (by omega)) (cross_sub hS.2.2.2.2.2.2 hT.2.2.2.2.2.2)] at h
/-- a result that is not too great -/
theorem Fn2.fit {f : FuncId} {S S' : Shape} {P : Int} {Q m : Nat} (h : Fn2 f S S' (SF P Q)) (hQ : 0 < Q) {i j : Nat} (hP : P.natAbs < 4294967296 ^ i) (hi : i ≤ m) (hm : Q ≤ 4294967296 ^ j) (hj : j < m) : Fn2 f S S' (SV P Q m) :=
  h.imp (fun _ _ _ _ _ k => k) (fun _ _ _ _ _ k => k) fun _ _ _ _ _ k => k.toV hQ (Nat.lt_of_lt_of_le hP (Nat.pow_le_pow_right (by omega) hi)) (lt_of_le_pow hm hj)
theorem Fi2.pre {f : FuncId} {S T S' T' : Shape} {z : Int} (h : Fi2 f S T z) (hs : ∀ n a ca d cd, S' n a ca d cd → S n a ca d cd) (ht : ∀ n a ca d cd, T' n a ca d cd → T n a ca d cd) : Fi2 f S' T' z :=
  fun n n' a d a' d' A D A' D' ca cd ca' cd' w hS hT r q r' q' => h n n' a d a' d' A D A' D' ca cd ca' cd' w (hs _ _ _ _ _ hS) (ht _ _ _ _ _ hT) r q r' q'

/-- how two spots stand -/
theorem fv_SCmp {P1 P2 P3 P4 : Int} {Q1 Q2 Q3 Q4 m : Nat} (hm1 : 1 ≤ m) (hm : m ≤ 4194304) (h1 : 0 < Q1) (h2 : 0 < Q2) (h3 : 0 < Q3) (h4 : 0 < Q4) : Si2 32 (SV P1 Q1 m) (SV P2 Q2 m) (SV P3 Q3 m) (SV P4 Q4 m) (lex (sgn (P1 * (Q3 : Int) - P3 * (Q1 : Int))) (sgn (P2 * (Q4 : Int) - P4 * (Q2 : Int)))) :=
  spot_Cmp (fv_Cmp P1 P3 Q1 Q3 m h1 h3 hm1 hm) (fv_Cmp P2 P4 Q2 Q4 m h2 h4 hm1 hm)
theorem rv_SCmp {P1 P2 P3 P4 : Int} {Q1 Q2 Q3 Q4 m : Nat} (hm : m ≤ 2097152) (h1 : 0 < Q1) (h2 : 0 < Q2) (h3 : 0 < Q3) (h4 : 0 < Q4) : Si2 47 (SV P1 Q1 m) (SV P2 Q2 m) (SV P3 Q3 m) (SV P4 Q4 m) (lex (sgn (P1 * (Q3 : Int) - P3 * (Q1 : Int))) (sgn (P2 * (Q4 : Int) - P4 * (Q2 : Int)))) :=
  ref5_Cmp (rv_Cmp P1 P3 Q1 Q3 m h1 h3 hm) (rv_Cmp P2 P4 Q2 Q4 m h2 h4 hm)
/-- is a spot on a way: what both ask -/
def onB (P1 P2 P3 P4 P5 P6 : Int) (Q1 Q2 Q3 Q4 Q5 Q6 : Nat) : Bool := decide (0 ≤ lex (sgn (P1 * (Q5 : Int) - P5 * (Q1 : Int))) (sgn (P2 * (Q6 : Int) - P6 * (Q2 : Int))) * lex (sgn (P5 * (Q3 : Int) - P3 * (Q5 : Int))) (sgn (P6 * (Q4 : Int) - P4 * (Q6 : Int)))) && (sgn (det P1 P2 P3 P4 P5 P6 Q1 Q2 Q3 Q4 Q5 Q6) == 0)
set_option maxHeartbeats 800000 in
/-- the program's own On, of parts just as they are handed in -/
theorem fv_On {P1 P2 P3 P4 P5 P6 : Int} {Q1 Q2 Q3 Q4 Q5 Q6 m1 m2 m3 m4 m5 m6 : Nat} (g1 : 1 ≤ m1) (g2 : 1 ≤ m2) (g3 : 1 ≤ m3) (g4 : 1 ≤ m4) (g5 : 1 ≤ m5) (g6 : 1 ≤ m6) (hm : m1 + m2 + m3 + m4 + m5 + m6 ≤ 4194304) (h1 : 0 < Q1) (h2 : 0 < Q2) (h3 : 0 < Q3) (h4 : 0 < Q4) (h5 : 0 < Q5) (h6 : 0 < Q6) : Sb3 18 (SI P1 Q1 m1) (SI P2 Q2 m2) (SI P3 Q3 m3) (SI P4 Q4 m4) (SI P5 Q5 m5) (SI P6 Q6 m6) (onB P1 P2 P3 P4 P5 P6 Q1 Q2 Q3 Q4 Q5 Q6) := by
  have c1 : Si2 32 (SI P1 Q1 m1) (SI P2 Q2 m2) (SI P5 Q5 m5) (SI P6 Q6 m6) (lex (sgn (P1 * (Q5 : Int) - P5 * (Q1 : Int))) (sgn (P2 * (Q6 : Int) - P6 * (Q2 : Int)))) := spot_Cmp ((fv_Cmp P1 P5 Q1 Q5 4194304 h1 h5 (by omega) (Nat.le_refl _)).pre (fun _ _ _ _ _ => SI.widen (by omega)) (fun _ _ _ _ _ => SI.widen (by omega))) ((fv_Cmp P2 P6 Q2 Q6 4194304 h2 h6 (by omega) (Nat.le_refl _)).pre (fun _ _ _ _ _ => SI.widen (by omega)) (fun _ _ _ _ _ => SI.widen (by omega)))
  have c2 : Si2 32 (SI P5 Q5 m5) (SI P6 Q6 m6) (SI P3 Q3 m3) (SI P4 Q4 m4) (lex (sgn (P5 * (Q3 : Int) - P3 * (Q5 : Int))) (sgn (P6 * (Q4 : Int) - P4 * (Q6 : Int)))) := spot_Cmp ((fv_Cmp P5 P3 Q5 Q3 4194304 h5 h3 (by omega) (Nat.le_refl _)).pre (fun _ _ _ _ _ => SI.widen (by omega)) (fun _ _ _ _ _ => SI.widen (by omega))) ((fv_Cmp P6 P4 Q6 Q4 4194304 h6 h4 (by omega) (Nat.le_refl _)).pre (fun _ _ _ _ _ => SI.widen (by omega)) (fun _ _ _ _ _ => SI.widen (by omega)))
  refine spot_On (lex_three (sgn_three _) (sgn_three _)) (lex_three (sgn_three _) (sgn_three _)) ?_ ?_ c1 c2 (fun n1 n2 n3 n4 n5 n6 a1 d1 a2 d2 a3 d3 a4 d4 a5 d5 a6 d6 A1 D1 A2 D2 A3 D3 A4 D4 A5 D5 A6 D6 c1 e1 c2 e2 c3 e3 c4 e4 c5 e5 c6 e6 w s1 s2 s3 s4 s5 s6 r1 q1 r2 q2 r3 q3 r4 q4 r5 q5 r6 q6 => spot_Turn g1 g2 g3 g4 g5 g6 hm n1 n2 n3 n4 n5 n6 a1 d1 a2 d2 a3 d3 a4 d4 a5 d5 a6 d6 A1 D1 A2 D2 A3 D3 A4 D4 A5 D5 A6 D6 c1 e1 c2 e2 c3 e3 c4 e4 c5 e5 c6 e6 w s1 s2 s3 s4 s5 s6 r1 q1 r2 q2 r3 q3 r4 q4 r5 q5 r6 q6)
  · intro h
    unfold onB
    rw [decide_eq_true h, Bool.true_and]
  · intro h
    unfold onB
    rw [decide_eq_false (by omega), Bool.false_and]
end Go.Proofs.YtdmoibphidipeaaGreatDoor
/- Rows of spots: two rows that rise and hold the same classes are the same, class by class; what insertion and what sorting and cutting leave. -/
namespace Go.Proofs.YtdmoibphidipeaaGreatDoor.rows

/-- an order on indices, in which two may be equal -/
structure Ord (cf : Nat → Nat → Int) : Prop where
  anti : ∀ i j, cf j i = - cf i j
  trans : ∀ i j k, cf i j ≤ 0 → cf j k ≤ 0 → cf i k ≤ 0
variable {cf : Nat → Nat → Int}
theorem Ord.self (h : Ord cf) (i : Nat) : cf i i = 0 := by have := h.anti i i; omega
theorem Ord.lt_of_lt_le (h : Ord cf) {i j k : Nat} (h1 : cf i j < 0) (h2 : cf j k ≤ 0) : cf i k < 0 := by
  have h3 := h.trans i j k (by omega) h2
  rcases Int.lt_or_le (cf i k) 0 with h4 | h4
  · exact h4
  · have h5 := h.trans j k i h2 (by have := h.anti i k; omega)
    have := h.anti i j; omega
theorem Ord.lt_of_le_lt (h : Ord cf) {i j k : Nat} (h1 : cf i j ≤ 0) (h2 : cf j k < 0) : cf i k < 0 := by
  have h3 := h.trans i j k h1 (by omega)
  rcases Int.lt_or_le (cf i k) 0 with h4 | h4
  · exact h4
  · have h5 := h.trans k i j (by have := h.anti i k; omega) h1
    have := h.anti j k; omega
theorem Ord.eq_left (h : Ord cf) {i j : Nat} (k : Nat) (e : cf i j = 0) : (cf i k < 0 ↔ cf j k < 0) ∧ (cf i k = 0 ↔ cf j k = 0) := by
  have e' : cf j i = 0 := by have := h.anti i j; omega
  have a : cf i k < 0 ↔ cf j k < 0 := ⟨fun x => h.lt_of_le_lt (by omega) x, fun x => h.lt_of_le_lt (by omega) x⟩
  have b : cf i k ≤ 0 ↔ cf j k ≤ 0 := ⟨fun x => h.trans j i k (by omega) x, fun x => h.trans i j k (by omega) x⟩
  omega
/-- rising: each below all behind it -/
def Rising (cf : Nat → Nat → Int) (l : List Nat) : Prop := l.Pairwise fun a b => cf a b < 0
/-- class by class the same -/
def Alike (cf : Nat → Nat → Int) : List Nat → List Nat → Prop
  | [], [] => True
  | a :: l, b :: r => cf a b = 0 ∧ Alike cf l r
  | _, _ => False
theorem Alike.length : ∀ {l r : List Nat}, Alike cf l r → l.length = r.length
  | [], [], _ => rfl
  | [], _ :: _, h => h.elim
  | _ :: _, [], h => h.elim
  | _ :: _, _ :: _, h => by simp [Alike.length h.2]
theorem Alike.get : ∀ {l r : List Nat}, Alike cf l r → ∀ (k : Nat) (hl : k < l.length) (hr : k < r.length), cf l[k] r[k] = 0
  | [], [], _, _, hl, _ => by simp at hl
  | [], _ :: _, h, _, _, _ => h.elim
  | _ :: _, [], h, _, _, _ => h.elim
  | _ :: _, _ :: _, h, 0, _, _ => h.1
  | _ :: _, _ :: _, h, k + 1, hl, hr => Alike.get h.2 k (by simpa using hl) (by simpa using hr)
/-- the document's insertion: what stands behind a place, and whether it is in already -/
def ins (cf : Nat → Nat → Int) (i : Nat) : List Nat → Bool → List Nat
  | [], b => if b then [] else [i]
  | o :: r, b => if cf i o < 0 ∧ b = false then i :: o :: ins cf i r true else if cf i o = 0 then o :: ins cf i r true else o :: ins cf i r b
theorem ins_true (i : Nat) : ∀ l : List Nat, ins cf i l true = l
  | [] => rfl
  | o :: r => by
    unfold ins
    rw [if_neg (by simp), ins_true i r]
    split <;> rfl
theorem ins_mem (i : Nat) : ∀ (l : List Nat) (b : Bool) (x : Nat), x ∈ ins cf i l b → x = i ∨ x ∈ l
  | [], b, x, hx => by
    unfold ins at hx
    split at hx
    · simp at hx
    · left; simpa using hx
  | o :: r, b, x, hx => by
    unfold ins at hx
    split at hx
    · rw [ins_true] at hx
      rcases List.mem_cons.1 hx with rfl | hx
      · exact .inl rfl
      · exact .inr hx
    · split at hx
      · rw [ins_true] at hx; exact .inr hx
      · rcases List.mem_cons.1 hx with rfl | hx
        · exact .inr (by simp)
        · rcases ins_mem i r b x hx with h | h
          · exact .inl h
          · exact .inr (List.mem_cons_of_mem _ h)
theorem mem_ins (i : Nat) : ∀ (l : List Nat) (b : Bool) (x : Nat), x ∈ l → x ∈ ins cf i l b
  | [], _, _, h => by simp at h
  | o :: r, b, x, hx => by
    unfold ins
    split
    · rw [ins_true]; exact List.mem_cons_of_mem _ hx
    · split
      · rw [ins_true]; exact hx
      · rcases List.mem_cons.1 hx with rfl | hx
        · simp
        · exact List.mem_cons_of_mem _ (mem_ins i r b x hx)
theorem ins_has (h : Ord cf) (i : Nat) : ∀ l : List Nat, ∃ x ∈ ins cf i l false, cf i x = 0
  | [] => ⟨i, by simp [ins], h.self i⟩
  | o :: r => by
    unfold ins
    split
    · exact ⟨i, by simp, h.self i⟩
    · split
      · rename_i e; exact ⟨o, by simp, e⟩
      · obtain ⟨x, hx, e⟩ := ins_has h i r
        exact ⟨x, List.mem_cons_of_mem _ hx, e⟩
theorem ins_rising (h : Ord cf) (i : Nat) : ∀ l : List Nat, Rising cf l → Rising cf (ins cf i l false)
  | [], _ => by simp [ins, Rising]
  | o :: r, hl => by
    have hl' := List.pairwise_cons.1 hl
    unfold ins
    split
    · rename_i e
      rw [ins_true]
      refine List.pairwise_cons.2 ⟨fun x hx => ?_, hl⟩
      rcases List.mem_cons.1 hx with rfl | hx
      · exact e.1
      · exact h.lt_of_lt_le e.1 (by have := hl'.1 x hx; omega)
    · split
      · rw [ins_true]; exact hl
      · rename_i e1 e2
        refine List.pairwise_cons.2 ⟨fun x hx => ?_, ins_rising h i r hl'.2⟩
        rcases ins_mem i r false x hx with rfl | hx
        · have := h.anti x o
          have : ¬ cf x o < 0 := fun hh => e1 ⟨hh, rfl⟩
          omega
        · exact hl'.1 x hx
theorem ins_length (i : Nat) : ∀ (l : List Nat) (b : Bool), (ins cf i l b).length ≤ l.length + 1
  | [], b => by unfold ins; split <;> simp
  | o :: r, b => by
    unfold ins
    split
    · rw [ins_true]; simp
    · split
      · rw [ins_true]; simp
      · have := ins_length i r b; simp; omega
/-- the document's row of the first n -/
def rowR (cf : Nat → Nat → Int) : Nat → List Nat
  | 0 => []
  | n + 1 => ins cf n (rowR cf n) false
theorem rowR_rising (h : Ord cf) : ∀ n, Rising cf (rowR cf n)
  | 0 => by simp [rowR, Rising]
  | n + 1 => ins_rising h n _ (rowR_rising h n)
theorem rowR_length : ∀ n, (rowR cf n).length ≤ n
  | 0 => by simp [rowR]
  | n + 1 => by
    have h1 := rowR_length n
    have h2 := ins_length (cf := cf) n (rowR cf n) false
    simp only [rowR]
    omega
theorem rowR_lt : ∀ n x, x ∈ rowR cf n → x < n
  | 0, x, hx => by simp [rowR] at hx
  | n + 1, x, hx => by
    rcases ins_mem n _ false x hx with rfl | hx
    · omega
    · have := rowR_lt n x hx; omega
theorem rowR_has (h : Ord cf) : ∀ n i, i < n → ∃ x ∈ rowR cf n, cf i x = 0
  | 0, i, hi => by omega
  | n + 1, i, hi => by
    by_cases e : i = n
    · subst e; exact ins_has h i _
    · obtain ⟨x, hx, e⟩ := rowR_has h n i (by omega)
      exact ⟨x, mem_ins n _ false x hx, e⟩
/-- the program's cut of a sorted row: who differs from the one ahead -/
def cut (cf : Nat → Nat → Int) : Option Nat → List Nat → List Nat
  | _, [] => []
  | none, x :: r => x :: cut cf (some x) r
  | some q, x :: r => if cf q x = 0 then cut cf (some x) r else x :: cut cf (some x) r
theorem cut_mem : ∀ (p : Option Nat) (l : List Nat) (x : Nat), x ∈ cut cf p l → x ∈ l
  | _, [], _, h => by cases ‹Option Nat› <;> simp [cut] at h
  | none, y :: r, x, h => by
    simp only [cut] at h
    rcases List.mem_cons.1 h with rfl | h
    · simp
    · exact List.mem_cons_of_mem _ (cut_mem _ r x h)
  | some q, y :: r, x, h => by
    simp only [cut] at h
    split at h
    · exact List.mem_cons_of_mem _ (cut_mem _ r x h)
    · rcases List.mem_cons.1 h with rfl | h
      · simp
      · exact List.mem_cons_of_mem _ (cut_mem _ r x h)
/-- all that is left lies above the one ahead -/
theorem cut_above (h : Ord cf) : ∀ (l : List Nat) (q : Nat), (q :: l).Pairwise (fun a b => cf a b ≤ 0) → ∀ x ∈ cut cf (some q) l, cf q x < 0
  | [], _, _, x, hx => by simp [cut] at hx
  | y :: r, q, hs, x, hx => by
    have hs' := List.pairwise_cons.1 hs
    have hqy := hs'.1 y (by simp)
    simp only [cut] at hx
    split at hx
    · rename_i e
      have := cut_above h r y hs'.2 x hx
      exact h.lt_of_le_lt hqy this
    · rename_i e
      rcases List.mem_cons.1 hx with rfl | hx
      · omega
      · have := cut_above h r y hs'.2 x hx
        exact h.lt_of_le_lt hqy this
theorem cut_rising (h : Ord cf) : ∀ (l : List Nat) (p : Option Nat), l.Pairwise (fun a b => cf a b ≤ 0) → Rising cf (cut cf p l)
  | [], p, _ => by cases p <;> simp [cut, Rising]
  | y :: r, none, hs => by
    simp only [cut]
    exact List.pairwise_cons.2 ⟨cut_above h r y hs, cut_rising h r _ (List.pairwise_cons.1 hs).2⟩
  | y :: r, some q, hs => by
    simp only [cut]
    split
    · exact cut_rising h r _ (List.pairwise_cons.1 hs).2
    · exact List.pairwise_cons.2 ⟨cut_above h r y hs, cut_rising h r _ (List.pairwise_cons.1 hs).2⟩
theorem cut_has (h : Ord cf) : ∀ (l : List Nat) (p : Option Nat) (x : Nat), x ∈ l → (∃ y ∈ cut cf p l, cf x y = 0) ∨ ∃ q, p = some q ∧ cf x q = 0
  | [], _, _, hx => by simp at hx
  | y :: r, p, x, hx => by
    have tail : x ∈ r → (∃ z ∈ cut cf (some y) r, cf x z = 0) ∨ cf x y = 0 := fun hr => by
      rcases cut_has h r (some y) x hr with h1 | ⟨q, e, e2⟩
      · exact .inl h1
      · cases e; exact .inr e2
    have all : (∃ z ∈ cut cf (some y) r, cf x z = 0) ∨ cf x y = 0 := by
      rcases List.mem_cons.1 hx with rfl | hr
      · exact .inr (h.self _)
      · exact tail hr
    match p with
    | none =>
      simp only [cut]
      rcases all with ⟨z, hz, e⟩ | e
      · exact .inl ⟨z, List.mem_cons_of_mem _ hz, e⟩
      · exact .inl ⟨y, by simp, e⟩
    | some q =>
      simp only [cut]
      split
      · rename_i eq
        rcases all with ⟨z, hz, e⟩ | e
        · exact .inl ⟨z, hz, e⟩
        · refine .inr ⟨q, rfl, ?_⟩
          have := (h.eq_left q e).2
          have := h.anti q y
          omega
      · rcases all with ⟨z, hz, e⟩ | e
        · exact .inl ⟨z, List.mem_cons_of_mem _ hz, e⟩
        · exact .inl ⟨y, by simp, e⟩
end Go.Proofs.YtdmoibphidipeaaGreatDoor.rows
/- Rows of spots: a spot's words by name, a row of spots that is read; the closure that compares two places. -/

namespace Go.Proofs.YtdmoibphidipeaaGreatDoor
open Go.RowKit Num
open Go.Sort (grow)

/-- a spot as it lies in memory -/
structure Sp where
  n1 : Bool
  a1 : List Nat
  A1 : Option Addr
  c1 : Nat
  d1 : List Nat
  D1 : Option Addr
  e1 : Nat
  n2 : Bool
  a2 : List Nat
  A2 : Option Addr
  c2 : Nat
  d2 : List Nat
  D2 : Option Addr
  e2 : Nat
def Sp.cells (s : Sp) : List Value := [.bool s.n1, .slice s.A1 s.a1.length s.c1, .slice s.D1 s.d1.length s.e1, .bool s.n2, .slice s.A2 s.a2.length s.c2, .slice s.D2 s.d2.length s.e2]
/-- its words are read -/
def Sp.Ok (w : World) (s : Sp) : Prop := (Rd w (fun g => g < w.heap.size) .u32 s.A1 s.a1 ∧ Rd w (fun g => g < w.heap.size) .u32 s.D1 s.d1) ∧ (Rd w (fun g => g < w.heap.size) .u32 s.A2 s.a2 ∧ Rd w (fun g => g < w.heap.size) .u32 s.D2 s.d2)
/-- of at most m words each -/
def Sp.Sh (m : Nat) (s : Sp) : Prop := SI (upN s.n1 s.a1 s.d1) (loD s.d1) m s.n1 s.a1 s.c1 s.d1 s.e1 ∧ SI (upN s.n2 s.a2 s.d2) (loD s.d2) m s.n2 s.a2 s.c2 s.d2 s.e2
theorem Sp.Ok.on {w w' : World} {s : Sp} (h : s.Ok w) (b : Below w.heap.size w w') : s.Ok w' := ⟨⟨h.1.1.on b, h.1.2.on b⟩, h.2.1.on b, h.2.2.on b⟩
/-- how two stand -/
def cmpS (s t : Sp) : Int := lex (sgn (upN s.n1 s.a1 s.d1 * (loD t.d1 : Int) - upN t.n1 t.a1 t.d1 * (loD s.d1 : Int))) (sgn (upN s.n2 s.a2 s.d2 * (loD t.d2 : Int) - upN t.n2 t.a2 t.d2 * (loD s.d2 : Int)))
/-- a row of spots that is read -/
def RdS (w : World) (A : Option Addr) (L : List Sp) : Prop := 0 < L.length → ∃ b o, A = some ⟨b, o, none⟩ ∧ b < w.heap.size ∧ ∀ (i : Nat) (h : i < L.length) (j : Nat) (u : Value), (L[i].cells)[j]? = some u → w.cell? ⟨b, o + i * 6 + j, none⟩ = some u
theorem RdS.on {w w' : World} {A : Option Addr} {L : List Sp} (h : RdS w A L) (b : Below w.heap.size w w') : RdS w' A L := fun hn => by
  obtain ⟨g, o, e, hg, hc⟩ := h hn
  exact ⟨g, o, e, Nat.lt_of_lt_of_le hg b.size, fun i hi j u hu => (b.cell (p := ⟨g, o + i * 6 + j, none⟩) hg).trans (hc i hi j u hu)⟩

set_option maxRecDepth 100000 in
set_option maxHeartbeats 3200000 in
/-- the closure that compares two places -/
theorem spot_Row1 (L : List Sp) (A : Option Addr) (cap gl m : Nat) (V : World) (hm1 : 1 ≤ m) (hm : m ≤ 4194304) (hbox : V.cell? ⟨gl, 0, none⟩ = some (.slice A L.length cap)) (hl : RdS V A L) (hok : ∀ s ∈ L, s.Ok V) (hsh : ∀ s ∈ L, s.Sh m) (hlen : L.length ≤ 1073741824) (i j : Nat) (hi : i < L.length) (hj : j < L.length) :
    Calls Tryz.prog 70 #[.int .i64 i, .int .i64 j, .pointer (some ⟨gl, 0, none⟩)] V fun e w' => e = .returned (.int .i64 (cmpS L[i] L[j])) ∧ Below V.heap.size V w' := by
  obtain ⟨b, o, rfl, hb, hc⟩ := hl (by omega)
  have o1 := hok _ (List.getElem_mem hi)
  have o2 := hok _ (List.getElem_mem hj)
  have h1 := hsh _ (List.getElem_mem hi)
  have h2 := hsh _ (List.getElem_mem hj)
  have k1 := hc i hi
  have k2 := hc j hj
  generalize L[i] = s at o1 h1 k1 ⊢
  generalize L[j] = t at o2 h2 k2 ⊢
  obtain ⟨n1, a1, A1, c1, d1, D1, e1, n2, a2, A2, c2, d2, D2, e2⟩ := s
  obtain ⟨n3, a3, A3, c3, d3, D3, e3, n4, a4, A4, c4, d4, D4, e4⟩ := t
  have x0 := cell_regrown (k1 0 _ rfl)
  have x1 := cell_regrown (k1 1 _ rfl)
  have x2 := cell_regrown (k1 2 _ rfl)
  have x3 := cell_regrown (k1 3 _ rfl)
  have x4 := cell_regrown (k1 4 _ rfl)
  have x5 := cell_regrown (k1 5 _ rfl)
  have y0 := cell_regrown (k2 0 _ rfl)
  have y1 := cell_regrown (k2 1 _ rfl)
  have y2 := cell_regrown (k2 2 _ rfl)
  have y3 := cell_regrown (k2 3 _ rfl)
  have y4 := cell_regrown (k2 4 _ rfl)
  have y5 := cell_regrown (k2 5 _ rfl)
  have z0 := cell_regrown hbox
  simp only [Nat.add_zero] at x0 y0
  have cX := fun (U : World) (hU : Below V.heap.size V U) => fv_SCmp hm1 hm (loD_pos d1) (loD_pos d2) (loD_pos d3) (loD_pos d4) n1 n2 n3 n4 a1 d1 a2 d2 a3 d3 a4 d4 A1 D1 A2 D2 A3 D3 A4 D4 c1 e1 c2 e2 c3 e3 c4 e4 U h1.1.toV h1.2.toV h2.1.toV h2.2.toV (o1.1.1.on hU) (o1.1.2.on hU) (o1.2.1.on hU) (o1.2.2.on hU) (o2.1.1.on hU) (o2.1.2.on hU) (o2.2.1.on hU) (o2.2.2.on hU)
  have CX := quiet_of cX
  have hz : cmpS ⟨n1, a1, A1, c1, d1, D1, e1, n2, a2, A2, c2, d2, D2, e2⟩ ⟨n3, a3, A3, c3, d3, D3, e3, n4, a4, A4, c4, d4, D4, e4⟩ = lex (sgn (upN n1 a1 d1 * (loD d3 : Int) - upN n3 a3 d3 * (loD d1 : Int))) (sgn (upN n2 a2 d2 * (loD d4 : Int) - upN n4 a4 d4 * (loD d2 : Int))) := rfl
  rw [hz]
  generalize lex (sgn (upN n1 a1 d1 * (loD d3 : Int) - upN n3 a3 d3 * (loD d1 : Int))) (sgn (upN n2 a2 d2 * (loD d4 : Int) - upN n4 a4 d4 * (loD d2 : Int))) = z at CX ⊢
  clear hz cX hc k1 k2 o1 o2 h1 h2 hok hsh hm1 hm hb
  go_enter Tryz.func70, Tryz.ntmps70
  go_wp2_with fail
  refine wp_region_quiet_below (by kernel_rfl) (by kernel_rfl) ?_
  quiet_step (fail)
  quiet_step (fail)
  quiet_step (fail)
  quiet_step (fail)
  quiet_step (fail)
  quiet_step (fail)
  quiet_step (fail)
  quiet_step (fail)
  quiet_step (with_reducible exact CX _ _)
  quiet_step (fail)
  refine wpQuiet_nil ?_
  intro _ hw'
  obtain ⟨⟨dq, osq⟩, hw''⟩ := hw'
  subst hw''
  go_wp2_with fail
  go_ret
  exact ⟨rfl, below_regrown V dq osq⟩
end Go.Proofs.YtdmoibphidipeaaGreatDoor
/- Rows of spots: what the document's own Row answers. -/

namespace Go.Proofs.YtdmoibphidipeaaGreatDoor
open Go.RowKit Num rows
open Go.Sort (grow)

instance : Inhabited Sp := ⟨⟨false, [], none, 0, [], none, 0, false, [], none, 0, [], none, 0⟩⟩
def flat (xs : List Sp) : List Value := xs.flatMap Sp.cells
theorem flat_snoc (xs : List Sp) (x : Sp) : flat (xs ++ [x]) = flat xs ++ x.cells := by simp [flat]
theorem cells_len (s : Sp) : s.cells.length = 6 := rfl
theorem cells_noint (s : Sp) : NoInt s.cells := fun v hv k n e => by subst e; simp [Sp.cells] at hv
theorem cells_one (s : Sp) : ∀ u ∈ s.cells, u.oneCell' = true := fun u hu => by
  simp only [Sp.cells, List.mem_cons, List.not_mem_nil, or_false] at hu
  rcases hu with rfl | rfl | rfl | rfl | rfl | rfl <;> rfl
theorem flat_getS : ∀ (xs : List Sp) (k : Nat) (h : k < xs.length) (j : Nat) (u : Value), j < 6 → (xs[k].cells)[j]? = some u → (flat xs)[k * 6 + j]? = some u
  | x :: xs, 0, _, j, u, hj, hu => by
    simp only [flat, List.flatMap_cons, Nat.zero_mul, Nat.zero_add]
    rw [List.getElem?_append_left (by rw [cells_len]; exact hj)]
    exact hu
  | x :: xs, k + 1, h, j, u, hj, hu => by
    simp only [flat, List.flatMap_cons]
    rw [List.getElem?_append_right (by rw [cells_len]; omega), cells_len, show (k + 1) * 6 + j - 6 = k * 6 + j by omega]
    exact flat_getS xs k (by simpa using h) j u hj (by simpa using hu)
/-- a reduced spot of the class of number i -/
def Is (L : List Sp) (M i : Nat) (s : Sp) : Prop := SG (upN (L.getD i default).n1 (L.getD i default).a1 (L.getD i default).d1) (loD (L.getD i default).d1) M s.n1 s.a1 s.c1 s.d1 s.e1 ∧ SG (upN (L.getD i default).n2 (L.getD i default).a2 (L.getD i default).d2) (loD (L.getD i default).d2) M s.n2 s.a2 s.c2 s.d2 s.e2
def Fits (L : List Sp) (M : Nat) (w : World) (O : List Nat) (xs : List Sp) : Prop := O.length = xs.length ∧ ∀ (k : Nat) (h : k < O.length) (h' : k < xs.length), Is L M O[k] xs[k] ∧ xs[k].Ok w
theorem Fits.nil (L : List Sp) (M : Nat) (w : World) : Fits L M w [] [] := ⟨rfl, fun k h => by simp at h⟩
theorem Fits.snoc {L : List Sp} {M : Nat} {w : World} {O : List Nat} {xs : List Sp} (h : Fits L M w O xs) {i : Nat} {x : Sp} (hi : Is L M i x) (hx : x.Ok w) : Fits L M w (O ++ [i]) (xs ++ [x]) := by
  refine ⟨by simp [h.1], fun k h1 h2 => ?_⟩
  rcases Nat.lt_or_ge k O.length with hk | hk
  · rw [List.getElem_append_left hk, List.getElem_append_left (by rw [← h.1]; exact hk)]
    exact h.2 k hk (by rw [← h.1]; exact hk)
  · have hk2 : k = O.length := by simp at h1; omega
    subst hk2
    rw [List.getElem_append_right (Nat.le_refl _)]
    have : (xs ++ [x])[O.length] = x := by
      rw [List.getElem_append_right (by rw [h.1]; exact Nat.le_refl _)]
      simp [h.1]
    rw [this]
    simpa using ⟨hi, hx⟩
theorem Fits.imp {L : List Sp} {M : Nat} {w w' : World} {O : List Nat} {xs : List Sp} (h : Fits L M w O xs) (hw : ∀ s : Sp, s.Ok w → s.Ok w') : Fits L M w' O xs := ⟨h.1, fun k h1 h2 => ⟨(h.2 k h1 h2).1, hw _ (h.2 k h1 h2).2⟩⟩
def cfL (L : List Sp) (i j : Nat) : Int := cmpS (L.getD i default) (L.getD j default)
theorem OwnS.ok {w w' : World} {base : Nat} {v : Value} {n : Nat} {xs : List Value} (h : OwnS w base v n xs) (hg : w.grownBy w' v.ownBlock) {s : Sp} (k : s.Ok w) : s.Ok w' := ⟨⟨h.rd hg k.1.1, h.rd hg k.1.2⟩, h.rd hg k.2.1, h.rd hg k.2.2⟩
/-- another row stays when this one grows -/
theorem OwnS.other {w w' : World} {base B : Nat} {v : Value} {n : Nat} {xs : List Value} {row : Option Nat} (h : OwnS w base v n xs) (hlt : ∀ k, v.ownBlock = some k → k < B) (hrow : ∀ k, row = some k → B ≤ k) (hg : w.grownBy w' row) : OwnS w' base v n xs := by
  refine ⟨h.1, h.2.1, ?_⟩
  rcases h.2.2 with hn | ⟨g, cap, cur, rfl, hbg, hgg, rest⟩
  · exact .inl hn
  · refine .inr ⟨g, cap, cur, rfl, hbg, ?_, rest⟩
    rw [hg.block g (Array.getElem?_eq_some_iff.1 hgg).1 (fun e => by
      have h1 := hlt g (by simp [Value.ownBlock])
      have h2 := hrow g e.symm
      omega)]
    exact hgg
theorem OwnS.form {w : World} {base : Nat} {v : Value} {n : Nat} {xs : List Value} (h : OwnS w base v n xs) (hn : 0 < n) : ∃ g cap, v = .slice (some ⟨g, 0, none⟩) n cap ∧ n ≤ cap := by
  rcases h.2.2 with ⟨rfl, e⟩ | ⟨g, cap, cur, rfl, -, -, hc, -⟩
  · omega
  · exact ⟨g, cap, rfl, hc⟩
theorem OwnS.any {w : World} {base : Nat} {v : Value} {n : Nat} {xs : List Value} (h : OwnS w base v n xs) : ∃ A cap, v = .slice A n cap ∧ n ≤ cap := by
  rcases h.2.2 with ⟨rfl, rfl⟩ | ⟨g, cap, cur, rfl, -, -, hc, -⟩
  · exact ⟨none, 0, rfl, Nat.le_refl _⟩
  · exact ⟨_, cap, rfl, hc⟩
theorem OwnS.reads {w : World} {base : Nat} {p : Option Addr} {cap : Nat} {xs : List Sp} (h : OwnS w base (.slice p xs.length cap) xs.length (flat xs)) : RdS w p xs := fun hn => by
  obtain ⟨g, cap', e, -⟩ := h.form hn
  cases e
  refine ⟨g, 0, rfl, (h.lt g rfl).2, fun i hi j u hu => ?_⟩
  have hj : j < 6 := by
    have := (List.getElem?_eq_some_iff.1 hu).1
    rwa [cells_len] at this
  rw [Nat.zero_add]
  exact h.cell _ (flat_getS xs i hi j u hj hu)
/-- one spot, reduced -/
theorem ref5_cleanI (L : List Sp) (m i : Nat) (hm : m + 1 ≤ 4194304) (s : Sp) (hs : L.getD i default = s) (hsh : s.Sh m) (V : World) (hok : s.Ok V) :
    Calls Tryz.prog 84 #[.agg #[.bool s.n1, .slice s.A1 s.a1.length s.c1, .slice s.D1 s.d1.length s.e1, .bool s.n2, .slice s.A2 s.a2.length s.c2, .slice s.D2 s.d2.length s.e2]] V (fun e w' => ∃ x : Sp, e = .returned (.agg #[.bool x.n1, .slice x.A1 x.a1.length x.c1, .slice x.D1 x.d1.length x.e1, .bool x.n2, .slice x.A2 x.a2.length x.c2, .slice x.D2 x.d2.length x.e2]) ∧ Is L (m + 1) i x ∧ x.Ok w' ∧ Below V.heap.size V w') := by
  have b1 : (upN s.n1 s.a1 s.d1).natAbs < 4294967296 ^ m := Nat.lt_of_lt_of_le (up_lt hsh.1.2.2.1) (Nat.pow_le_pow_right (by omega) hsh.1.2.2.2.2.1)
  have b2 : (upN s.n2 s.a2 s.d2).natAbs < 4294967296 ^ m := Nat.lt_of_lt_of_le (up_lt hsh.2.2.2.1) (Nat.pow_le_pow_right (by omega) hsh.2.2.2.2.2.1)
  have l1 : loD s.d1 ≤ 4294967296 ^ m := Nat.le_trans (loD_le hsh.1.2.2.2.1) (Nat.pow_le_pow_right (by omega) hsh.1.2.2.2.2.2.1)
  have l2 : loD s.d2 ≤ 4294967296 ^ m := Nat.le_trans (loD_le hsh.2.2.2.2.1) (Nat.pow_le_pow_right (by omega) hsh.2.2.2.2.2.2.1)
  have c1 : Fn1 102 (SV (upN s.n1 s.a1 s.d1) (loD s.d1) m) (SG (upN s.n1 s.a1 s.d1) (loD s.d1) (m + 1)) := (rv_Reduce _ _ m (loD_pos _) (by omega)).imp (fun _ _ _ _ _ k => k) fun _ _ _ _ _ k => k.toG (Nat.lt_of_lt_of_le b1 (Nat.pow_le_pow_right (by omega) (by omega))) (lt_of_le_pow l1 (by omega))
  have c2 : Fn1 102 (SV (upN s.n2 s.a2 s.d2) (loD s.d2) m) (SG (upN s.n2 s.a2 s.d2) (loD s.d2) (m + 1)) := (rv_Reduce _ _ m (loD_pos _) (by omega)).imp (fun _ _ _ _ _ k => k) fun _ _ _ _ _ k => k.toG (Nat.lt_of_lt_of_le b2 (Nat.pow_le_pow_right (by omega) (by omega))) (lt_of_le_pow l2 (by omega))
  refine (ref5_clean _ _ _ _ c1 c2 s.n1 s.n2 s.a1 s.d1 s.a2 s.d2 s.A1 s.D1 s.A2 s.D2 s.c1 s.e1 s.c2 s.e2 V hsh.1.toV hsh.2.toV hok.1.1 hok.1.2 hok.2.1 hok.2.2).mono ?_
  rintro e w' ⟨n1, a1, A1, c1, d1, D1, e1, n2, a2, A2, c2, d2, D2, e2, rfl, ⟨h1, h2⟩, h3, h4, h5⟩
  exact ⟨⟨n1, a1, A1, c1, d1, D1, e1, n2, a2, A2, c2, d2, D2, e2⟩, rfl, ⟨by rw [hs]; exact h1, by rw [hs]; exact h2⟩, ⟨h3, h4⟩, h5⟩
/-- the cells of a new block that holds one spot -/
theorem one_spot (w : World) (x : Sp) : ∀ j u, x.cells[j]? = some u → (w.alloc (.cells #[.bool x.n1, .slice x.A1 x.a1.length x.c1, .slice x.D1 x.d1.length x.e1, .bool x.n2, .slice x.A2 x.a2.length x.c2, .slice x.D2 x.d2.length x.e2] 41)).cell? ((⟨w.heap.size, 0, none⟩ : Addr).add j) = some u := by
  intro j u hu
  have hadd : (⟨w.heap.size, 0, none⟩ : Addr).add j = ⟨w.heap.size, j, none⟩ := by unfold Addr.add; split <;> simp_all
  rw [hadd]
  exact (Blk.new w 41 x.cells).cell j hu
end Go.Proofs.YtdmoibphidipeaaGreatDoor
