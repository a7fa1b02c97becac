/- Spots: how two stand, whether they are one, whether one is on a way: the program's own and the document's own. -/
import Derived.Test.YtdmoibphidipeaaGreatDoorZOaH
import Derived.Lib.QuietBelow
import Derived.BigQuiet
import Derived.Deep.RegionHeld3
import Derived.Deep.RegionWith
namespace Go.Proofs.YtdmoibphidipeaaGreatDoor
open Go.RowKit Num
open Go.Sort (grow)

/-- contracts whose answer is an int or a bool -/
abbrev Fi1 (f : FuncId) (S1 : Shape) (z : Int) : Prop := ∀ (n1 : Bool) (a1 d1 : List Nat) (A1 D1 : Option Addr) (c1 e1 : Nat) (w : World), S1 n1 a1 c1 d1 e1 → Rd w (fun g => g < w.heap.size) .u32 A1 a1 → Rd w (fun g => g < w.heap.size) .u32 D1 d1 → Calls Tryz.prog f #[.agg #[.bool n1, .slice A1 a1.length c1, .slice D1 d1.length e1]] w fun e w' => e = .returned (.int .i64 z) ∧ Below w.heap.size w w'
abbrev Fi2 (f : FuncId) (S1 S2 : Shape) (z : Int) : Prop := ∀ (n1 n2 : Bool) (a1 d1 a2 d2 : List Nat) (A1 D1 A2 D2 : Option Addr) (c1 e1 c2 e2 : Nat) (w : World), S1 n1 a1 c1 d1 e1 → S2 n2 a2 c2 d2 e2 → Rd w (fun g => g < w.heap.size) .u32 A1 a1 → Rd w (fun g => g < w.heap.size) .u32 D1 d1 → Rd w (fun g => g < w.heap.size) .u32 A2 a2 → Rd w (fun g => g < w.heap.size) .u32 D2 d2 → Calls Tryz.prog f #[.agg #[.bool n1, .slice A1 a1.length c1, .slice D1 d1.length e1], .agg #[.bool n2, .slice A2 a2.length c2, .slice D2 d2.length e2]] w fun e w' => e = .returned (.int .i64 z) ∧ Below w.heap.size w w'
abbrev Fb2 (f : FuncId) (S1 S2 : Shape) (b : Bool) : Prop := ∀ (n1 n2 : Bool) (a1 d1 a2 d2 : List Nat) (A1 D1 A2 D2 : Option Addr) (c1 e1 c2 e2 : Nat) (w : World), S1 n1 a1 c1 d1 e1 → S2 n2 a2 c2 d2 e2 → Rd w (fun g => g < w.heap.size) .u32 A1 a1 → Rd w (fun g => g < w.heap.size) .u32 D1 d1 → Rd w (fun g => g < w.heap.size) .u32 A2 a2 → Rd w (fun g => g < w.heap.size) .u32 D2 d2 → Calls Tryz.prog f #[.agg #[.bool n1, .slice A1 a1.length c1, .slice D1 d1.length e1], .agg #[.bool n2, .slice A2 a2.length c2, .slice D2 d2.length e2]] w fun e w' => e = .returned (.bool b) ∧ Below w.heap.size w w'
abbrev Fb3 (f : FuncId) (S1 S2 S3 : Shape) (b : Bool) : Prop := ∀ (n1 n2 n3 : Bool) (a1 d1 a2 d2 a3 d3 : List Nat) (A1 D1 A2 D2 A3 D3 : Option Addr) (c1 e1 c2 e2 c3 e3 : Nat) (w : World), S1 n1 a1 c1 d1 e1 → S2 n2 a2 c2 d2 e2 → S3 n3 a3 c3 d3 e3 → Rd w (fun g => g < w.heap.size) .u32 A1 a1 → Rd w (fun g => g < w.heap.size) .u32 D1 d1 → Rd w (fun g => g < w.heap.size) .u32 A2 a2 → Rd w (fun g => g < w.heap.size) .u32 D2 d2 → Rd w (fun g => g < w.heap.size) .u32 A3 a3 → Rd w (fun g => g < w.heap.size) .u32 D3 d3 → Calls Tryz.prog f #[.agg #[.bool n1, .slice A1 a1.length c1, .slice D1 d1.length e1], .agg #[.bool n2, .slice A2 a2.length c2, .slice D2 d2.length e2], .agg #[.bool n3, .slice A3 a3.length c3, .slice D3 d3.length e3]] w fun e w' => e = .returned (.bool b) ∧ Below w.heap.size w w'
/-- the same, of spots -/
abbrev Si2 (f : FuncId) (S1 S2 S3 S4 : Shape) (z : Int) : Prop := ∀ (n1 n2 n3 n4 : Bool) (a1 d1 a2 d2 a3 d3 a4 d4 : List Nat) (A1 D1 A2 D2 A3 D3 A4 D4 : Option Addr) (c1 e1 c2 e2 c3 e3 c4 e4 : Nat) (w : World), S1 n1 a1 c1 d1 e1 → S2 n2 a2 c2 d2 e2 → S3 n3 a3 c3 d3 e3 → S4 n4 a4 c4 d4 e4 → Rd w (fun g => g < w.heap.size) .u32 A1 a1 → Rd w (fun g => g < w.heap.size) .u32 D1 d1 → Rd w (fun g => g < w.heap.size) .u32 A2 a2 → Rd w (fun g => g < w.heap.size) .u32 D2 d2 → Rd w (fun g => g < w.heap.size) .u32 A3 a3 → Rd w (fun g => g < w.heap.size) .u32 D3 d3 → Rd w (fun g => g < w.heap.size) .u32 A4 a4 → Rd w (fun g => g < w.heap.size) .u32 D4 d4 → Calls Tryz.prog f #[.agg #[.bool n1, .slice A1 a1.length c1, .slice D1 d1.length e1, .bool n2, .slice A2 a2.length c2, .slice D2 d2.length e2], .agg #[.bool n3, .slice A3 a3.length c3, .slice D3 d3.length e3, .bool n4, .slice A4 a4.length c4, .slice D4 d4.length e4]] w fun e w' => e = .returned (.int .i64 z) ∧ Below w.heap.size w w'
abbrev Sb2 (f : FuncId) (S1 S2 S3 S4 : Shape) (b : Bool) : Prop := ∀ (n1 n2 n3 n4 : Bool) (a1 d1 a2 d2 a3 d3 a4 d4 : List Nat) (A1 D1 A2 D2 A3 D3 A4 D4 : Option Addr) (c1 e1 c2 e2 c3 e3 c4 e4 : Nat) (w : World), S1 n1 a1 c1 d1 e1 → S2 n2 a2 c2 d2 e2 → S3 n3 a3 c3 d3 e3 → S4 n4 a4 c4 d4 e4 → Rd w (fun g => g < w.heap.size) .u32 A1 a1 → Rd w (fun g => g < w.heap.size) .u32 D1 d1 → Rd w (fun g => g < w.heap.size) .u32 A2 a2 → Rd w (fun g => g < w.heap.size) .u32 D2 d2 → Rd w (fun g => g < w.heap.size) .u32 A3 a3 → Rd w (fun g => g < w.heap.size) .u32 D3 d3 → Rd w (fun g => g < w.heap.size) .u32 A4 a4 → Rd w (fun g => g < w.heap.size) .u32 D4 d4 → Calls Tryz.prog f #[.agg #[.bool n1, .slice A1 a1.length c1, .slice D1 d1.length e1, .bool n2, .slice A2 a2.length c2, .slice D2 d2.length e2], .agg #[.bool n3, .slice A3 a3.length c3, .slice D3 d3.length e3, .bool n4, .slice A4 a4.length c4, .slice D4 d4.length e4]] w fun e w' => e = .returned (.bool b) ∧ Below w.heap.size w w'
abbrev Si3 (f : FuncId) (S1 S2 S3 S4 S5 S6 : Shape) (z : Int) : Prop := ∀ (n1 n2 n3 n4 n5 n6 : Bool) (a1 d1 a2 d2 a3 d3 a4 d4 a5 d5 a6 d6 : List Nat) (A1 D1 A2 D2 A3 D3 A4 D4 A5 D5 A6 D6 : Option Addr) (c1 e1 c2 e2 c3 e3 c4 e4 c5 e5 c6 e6 : Nat) (w : World), S1 n1 a1 c1 d1 e1 → S2 n2 a2 c2 d2 e2 → S3 n3 a3 c3 d3 e3 → S4 n4 a4 c4 d4 e4 → S5 n5 a5 c5 d5 e5 → S6 n6 a6 c6 d6 e6 → Rd w (fun g => g < w.heap.size) .u32 A1 a1 → Rd w (fun g => g < w.heap.size) .u32 D1 d1 → Rd w (fun g => g < w.heap.size) .u32 A2 a2 → Rd w (fun g => g < w.heap.size) .u32 D2 d2 → Rd w (fun g => g < w.heap.size) .u32 A3 a3 → Rd w (fun g => g < w.heap.size) .u32 D3 d3 → Rd w (fun g => g < w.heap.size) .u32 A4 a4 → Rd w (fun g => g < w.heap.size) .u32 D4 d4 → Rd w (fun g => g < w.heap.size) .u32 A5 a5 → Rd w (fun g => g < w.heap.size) .u32 D5 d5 → Rd w (fun g => g < w.heap.size) .u32 A6 a6 → Rd w (fun g => g < w.heap.size) .u32 D6 d6 → Calls Tryz.prog f #[.agg #[.bool n1, .slice A1 a1.length c1, .slice D1 d1.length e1, .bool n2, .slice A2 a2.length c2, .slice D2 d2.length e2], .agg #[.bool n3, .slice A3 a3.length c3, .slice D3 d3.length e3, .bool n4, .slice A4 a4.length c4, .slice D4 d4.length e4], .agg #[.bool n5, .slice A5 a5.length c5, .slice D5 d5.length e5, .bool n6, .slice A6 a6.length c6, .slice D6 d6.length e6]] w fun e w' => e = .returned (.int .i64 z) ∧ Below w.heap.size w w'
abbrev Sb3 (f : FuncId) (S1 S2 S3 S4 S5 S6 : Shape) (b : Bool) : Prop := ∀ (n1 n2 n3 n4 n5 n6 : Bool) (a1 d1 a2 d2 a3 d3 a4 d4 a5 d5 a6 d6 : List Nat) (A1 D1 A2 D2 A3 D3 A4 D4 A5 D5 A6 D6 : Option Addr) (c1 e1 c2 e2 c3 e3 c4 e4 c5 e5 c6 e6 : Nat) (w : World), S1 n1 a1 c1 d1 e1 → S2 n2 a2 c2 d2 e2 → S3 n3 a3 c3 d3 e3 → S4 n4 a4 c4 d4 e4 → S5 n5 a5 c5 d5 e5 → S6 n6 a6 c6 d6 e6 → Rd w (fun g => g < w.heap.size) .u32 A1 a1 → Rd w (fun g => g < w.heap.size) .u32 D1 d1 → Rd w (fun g => g < w.heap.size) .u32 A2 a2 → Rd w (fun g => g < w.heap.size) .u32 D2 d2 → Rd w (fun g => g < w.heap.size) .u32 A3 a3 → Rd w (fun g => g < w.heap.size) .u32 D3 d3 → Rd w (fun g => g < w.heap.size) .u32 A4 a4 → Rd w (fun g => g < w.heap.size) .u32 D4 d4 → Rd w (fun g => g < w.heap.size) .u32 A5 a5 → Rd w (fun g => g < w.heap.size) .u32 D5 d5 → Rd w (fun g => g < w.heap.size) .u32 A6 a6 → Rd w (fun g => g < w.heap.size) .u32 D6 d6 → Calls Tryz.prog f #[.agg #[.bool n1, .slice A1 a1.length c1, .slice D1 d1.length e1, .bool n2, .slice A2 a2.length c2, .slice D2 d2.length e2], .agg #[.bool n3, .slice A3 a3.length c3, .slice D3 d3.length e3, .bool n4, .slice A4 a4.length c4, .slice D4 d4.length e4], .agg #[.bool n5, .slice A5 a5.length c5, .slice D5 d5.length e5, .bool n6, .slice A6 a6.length c6, .slice D6 d6.length e6]] w fun e w' => e = .returned (.bool b) ∧ Below w.heap.size w w'
/-- by the first number, then by the second -/
def lex (x y : Int) : Int := if x = 0 then y else x
theorem quiet_of {W : World} {f : FuncId} {args : Array Value} {v : Value} (h : ∀ V : World, Below W.heap.size W V → Calls Tryz.prog f args V fun e w' => e = .returned v ∧ Below V.heap.size V w') (d : Nat) (os : Array Obj) : Calls Tryz.prog f args (grow (redrawn W d) os) fun e w'' => e = .returned v ∧ ∃ p : Regrown, w'' = grow (redrawn W p.d) p.os :=
  Calls.regrown_of (h _ (below_regrown W d os))

set_option maxRecDepth 100000 in
set_option maxHeartbeats 3200000 in
theorem spot_Cmp {S1 S2 S3 S4 : Shape} {z1 z2 : Int} (x1 : Fi2 63 S1 S3 z1) (x2 : Fi2 63 S2 S4 z2) : Si2 32 S1 S2 S3 S4 (lex z1 z2) := by
  intro n1 n2 n3 n4 a1 d1 a2 d2 a3 d3 a4 d4 A1 D1 A2 D2 A3 D3 A4 D4 c1 e1 c2 e2 c3 e3 c4 e4 w s1 s2 s3 s4 r1 q1 r2 q2 r3 q3 r4 q4
  obtain ⟨W, hW, k100, k101, b0, s0⟩ := bxb w 41 41 [.bool n1, .slice A1 a1.length c1, .slice D1 d1.length e1, .bool n2, .slice A2 a2.length c2, .slice D2 d2.length e2] [.bool n3, .slice A3 a3.length c3, .slice D3 d3.length e3, .bool n4, .slice A4 a4.length c4, .slice D4 d4.length e4]
  obtain ⟨⟨p00, p01, p02, p03, p04, p05⟩, -⟩ := k100.facts6
  obtain ⟨⟨p10, p11, p12, p13, p14, p15⟩, -⟩ := k101.facts6
  have cX := fun (V : World) (hV : Below W.heap.size W V) => x1 n1 n3 a1 d1 a3 d3 A1 D1 A3 D3 c1 e1 c3 e3 V s1 s3 ((r1.on b0).on hV) ((q1.on b0).on hV) ((r3.on b0).on hV) ((q3.on b0).on hV)
  have cY := fun (V : World) (hV : Below W.heap.size W V) => x2 n2 n4 a2 d2 a4 d4 A2 D2 A4 D4 c2 e2 c4 e4 V s2 s4 ((r2.on b0).on hV) ((q2.on b0).on hV) ((r4.on b0).on hV) ((q4.on b0).on hV)
  have HK0 := Lib.hid k100
  have HK1 := Lib.hid k101
  have HB0 := Lib.hid b0
  have CX := Lib.hid cX
  have CY := Lib.hid cY
  clear cX cY x1 x2 k100 k101 b0 s0 s1 r1 q1 s2 r2 q2 s3 r3 q3 s4 r4 q4
  by_cases hz : z1 = 0
  · subst hz
    rw [show lex 0 z2 = z2 from rfl]
    go_enter Tryz.func32, Tryz.ntmps32
    go_wp2_with fail
    try rw [hW]
    clear hW
    refine (CX.out _ (Below.refl _ _)).mono ?_
    rintro e w1 ⟨rfl, b1⟩
    obtain ⟨p00, p01, p02, p03, p04, p05⟩ := kept6 HK0.out b1
    obtain ⟨p10, p11, p12, p13, p14, p15⟩ := kept6 HK1.out b1
    go_wp2_with fail
    refine (CY.out _ b1).mono ?_
    rintro e w2 ⟨rfl, b2⟩
    go_wp2_with fail
    go_ret
    exact ⟨rfl, HB0.out.trans ((b1.trans (b2.mono b1.size)).mono HB0.out.size)⟩
  · have hzb : (z1 == 0) = false := by simpa using hz
    rw [show lex z1 z2 = z1 from if_neg hz]
    clear hz
    go_enter Tryz.func32, Tryz.ntmps32
    go_wp2_with fail
    try rw [hW]
    clear hW
    refine (CX.out _ (Below.refl _ _)).mono ?_
    rintro e w1 ⟨rfl, b1⟩
    obtain ⟨p00, p01, p02, p03, p04, p05⟩ := kept6 HK0.out b1
    obtain ⟨p10, p11, p12, p13, p14, p15⟩ := kept6 HK1.out b1
    go_wp2_with fail
    go_ret
    exact ⟨rfl, HB0.out.trans (b1.mono HB0.out.size)⟩

set_option maxRecDepth 100000 in
set_option maxHeartbeats 3200000 in
theorem ref5_Cmp {S1 S2 S3 S4 : Shape} {z1 z2 : Int} (x1 : Fi2 41 S1 S3 z1) (x2 : Fi2 41 S2 S4 z2) : Si2 47 S1 S2 S3 S4 (lex z1 z2) := by
  intro n1 n2 n3 n4 a1 d1 a2 d2 a3 d3 a4 d4 A1 D1 A2 D2 A3 D3 A4 D4 c1 e1 c2 e2 c3 e3 c4 e4 w s1 s2 s3 s4 r1 q1 r2 q2 r3 q3 r4 q4
  obtain ⟨W, hW, k100, k101, b0, s0⟩ := bxb w 41 41 [.bool n1, .slice A1 a1.length c1, .slice D1 d1.length e1, .bool n2, .slice A2 a2.length c2, .slice D2 d2.length e2] [.bool n3, .slice A3 a3.length c3, .slice D3 d3.length e3, .bool n4, .slice A4 a4.length c4, .slice D4 d4.length e4]
  obtain ⟨⟨p00, p01, p02, p03, p04, p05⟩, -⟩ := k100.facts6
  obtain ⟨⟨p10, p11, p12, p13, p14, p15⟩, -⟩ := k101.facts6
  have cX := fun (V : World) (hV : Below W.heap.size W V) => x1 n1 n3 a1 d1 a3 d3 A1 D1 A3 D3 c1 e1 c3 e3 V s1 s3 ((r1.on b0).on hV) ((q1.on b0).on hV) ((r3.on b0).on hV) ((q3.on b0).on hV)
  have cY := fun (V : World) (hV : Below W.heap.size W V) => x2 n2 n4 a2 d2 a4 d4 A2 D2 A4 D4 c2 e2 c4 e4 V s2 s4 ((r2.on b0).on hV) ((q2.on b0).on hV) ((r4.on b0).on hV) ((q4.on b0).on hV)
  have HK0 := Lib.hid k100
  have HK1 := Lib.hid k101
  have HB0 := Lib.hid b0
  have CX := Lib.hid cX
  have CY := Lib.hid cY
  clear cX cY x1 x2 k100 k101 b0 s0 s1 r1 q1 s2 r2 q2 s3 r3 q3 s4 r4 q4
  by_cases hz : z1 = 0
  · subst hz
    rw [show lex 0 z2 = z2 from rfl]
    go_enter Tryz.func47, Tryz.ntmps47
    go_wp2_with fail
    try rw [hW]
    clear hW
    refine (CX.out _ (Below.refl _ _)).mono ?_
    rintro e w1 ⟨rfl, b1⟩
    obtain ⟨p00, p01, p02, p03, p04, p05⟩ := kept6 HK0.out b1
    obtain ⟨p10, p11, p12, p13, p14, p15⟩ := kept6 HK1.out b1
    go_wp2_with fail
    refine (CY.out _ b1).mono ?_
    rintro e w2 ⟨rfl, b2⟩
    go_wp2_with fail
    go_ret
    exact ⟨rfl, HB0.out.trans ((b1.trans (b2.mono b1.size)).mono HB0.out.size)⟩
  · have hzb : (z1 == 0) = false := by simpa using hz
    rw [show lex z1 z2 = z1 from if_neg hz]
    clear hz
    go_enter Tryz.func47, Tryz.ntmps47
    go_wp2_with fail
    try rw [hW]
    clear hW
    refine (CX.out _ (Below.refl _ _)).mono ?_
    rintro e w1 ⟨rfl, b1⟩
    obtain ⟨p00, p01, p02, p03, p04, p05⟩ := kept6 HK0.out b1
    obtain ⟨p10, p11, p12, p13, p14, p15⟩ := kept6 HK1.out b1
    go_wp2_with fail
    refine (CX.out _ b1).mono ?_
    rintro e w2 ⟨rfl, b2⟩
    go_wp2_with fail
    go_ret
    exact ⟨rfl, HB0.out.trans ((b1.trans (b2.mono b1.size)).mono HB0.out.size)⟩

set_option maxRecDepth 100000 in
set_option maxHeartbeats 3200000 in
theorem spot_Same {S1 S2 S3 S4 : Shape} {z : Int} {b : Bool} (hb : (z == 0) = b) (x1 : Si2 32 S1 S2 S3 S4 z) : Sb2 33 S1 S2 S3 S4 b := by
  intro n1 n2 n3 n4 a1 d1 a2 d2 a3 d3 a4 d4 A1 D1 A2 D2 A3 D3 A4 D4 c1 e1 c2 e2 c3 e3 c4 e4 w s1 s2 s3 s4 r1 q1 r2 q2 r3 q3 r4 q4
  obtain ⟨W, hW, k100, k101, b0, s0⟩ := bxb w 41 41 [.bool n1, .slice A1 a1.length c1, .slice D1 d1.length e1, .bool n2, .slice A2 a2.length c2, .slice D2 d2.length e2] [.bool n3, .slice A3 a3.length c3, .slice D3 d3.length e3, .bool n4, .slice A4 a4.length c4, .slice D4 d4.length e4]
  obtain ⟨⟨p00, p01, p02, p03, p04, p05⟩, -⟩ := k100.facts6
  obtain ⟨⟨p10, p11, p12, p13, p14, p15⟩, -⟩ := k101.facts6
  have cX := fun (V : World) (hV : Below W.heap.size W V) => x1 n1 n2 n3 n4 a1 d1 a2 d2 a3 d3 a4 d4 A1 D1 A2 D2 A3 D3 A4 D4 c1 e1 c2 e2 c3 e3 c4 e4 V s1 s2 s3 s4 ((r1.on b0).on hV) ((q1.on b0).on hV) ((r2.on b0).on hV) ((q2.on b0).on hV) ((r3.on b0).on hV) ((q3.on b0).on hV) ((r4.on b0).on hV) ((q4.on b0).on hV)
  have HB0 := Lib.hid b0
  have CX := Lib.hid cX
  clear cX x1 k100 k101 b0 s0 s1 r1 q1 s2 r2 q2 s3 r3 q3 s4 r4 q4
  go_enter Tryz.func33, Tryz.ntmps33
  go_wp2_with fail
  try rw [hW]
  clear hW
  refine (CX.out _ (Below.refl _ _)).mono ?_
  rintro e w1 ⟨rfl, b1⟩
  go_wp2_with fail
  go_ret
  exact ⟨rfl, HB0.out.trans (b1.mono HB0.out.size)⟩

set_option maxRecDepth 100000 in
set_option maxHeartbeats 3200000 in
theorem ref5_Same {S1 S2 S3 S4 : Shape} (x1 : Fb2 64 S1 S3 true) (x2 : Fb2 64 S2 S4 true) : Sb2 34 S1 S2 S3 S4 true := by
  intro n1 n2 n3 n4 a1 d1 a2 d2 a3 d3 a4 d4 A1 D1 A2 D2 A3 D3 A4 D4 c1 e1 c2 e2 c3 e3 c4 e4 w s1 s2 s3 s4 r1 q1 r2 q2 r3 q3 r4 q4
  obtain ⟨W, hW, k100, k101, b0, s0⟩ := bxb w 41 41 [.bool n1, .slice A1 a1.length c1, .slice D1 d1.length e1, .bool n2, .slice A2 a2.length c2, .slice D2 d2.length e2] [.bool n3, .slice A3 a3.length c3, .slice D3 d3.length e3, .bool n4, .slice A4 a4.length c4, .slice D4 d4.length e4]
  obtain ⟨⟨p00, p01, p02, p03, p04, p05⟩, -⟩ := k100.facts6
  obtain ⟨⟨p10, p11, p12, p13, p14, p15⟩, -⟩ := k101.facts6
  have cX := fun (V : World) (hV : Below W.heap.size W V) => x1 n1 n3 a1 d1 a3 d3 A1 D1 A3 D3 c1 e1 c3 e3 V s1 s3 ((r1.on b0).on hV) ((q1.on b0).on hV) ((r3.on b0).on hV) ((q3.on b0).on hV)
  have cY := fun (V : World) (hV : Below W.heap.size W V) => x2 n2 n4 a2 d2 a4 d4 A2 D2 A4 D4 c2 e2 c4 e4 V s2 s4 ((r2.on b0).on hV) ((q2.on b0).on hV) ((r4.on b0).on hV) ((q4.on b0).on hV)
  have HK0 := Lib.hid k100
  have HK1 := Lib.hid k101
  have HB0 := Lib.hid b0
  have CX := Lib.hid cX
  have CY := Lib.hid cY
  clear cX cY x1 x2 k100 k101 b0 s0 s1 r1 q1 s2 r2 q2 s3 r3 q3 s4 r4 q4
  go_enter Tryz.func34, Tryz.ntmps34
  go_wp2_with fail
  try rw [hW]
  clear hW
  refine (CX.out _ (Below.refl _ _)).mono ?_
  rintro e w1 ⟨rfl, b1⟩
  obtain ⟨p00, p01, p02, p03, p04, p05⟩ := kept6 HK0.out b1
  obtain ⟨p10, p11, p12, p13, p14, p15⟩ := kept6 HK1.out b1
  go_wp2_with fail
  refine (CY.out _ b1).mono ?_
  rintro e w2 ⟨rfl, b2⟩
  go_wp2_with fail
  go_ret
  exact ⟨rfl, HB0.out.trans ((b1.trans (b2.mono b1.size)).mono HB0.out.size)⟩

set_option maxRecDepth 100000 in
set_option maxHeartbeats 12800000 in
theorem ref5_between {S1 S2 S3 : Shape} {z1 z2 : Int} {b : Bool} (hz1 : z1 = -1 ∨ z1 = 0 ∨ z1 = 1) (hz2 : z2 = -1 ∨ z2 = 0 ∨ z2 = 1) (hb : decide (z1 * z2 ≤ 0) = b) (x1 : Fi2 41 S1 S3 z1) (x2 : Fi2 41 S2 S3 z2) : Fb3 83 S1 S2 S3 b := by
  intro n1 n2 n3 a1 d1 a2 d2 a3 d3 A1 D1 A2 D2 A3 D3 c1 e1 c2 e2 c3 e3 w s1 s2 s3 r1 q1 r2 q2 r3 q3
  obtain ⟨W, hW, k100, k101, k102, b0, s0⟩ := bxc w 39 39 39 [.bool n1, .slice A1 a1.length c1, .slice D1 d1.length e1] [.bool n2, .slice A2 a2.length c2, .slice D2 d2.length e2] [.bool n3, .slice A3 a3.length c3, .slice D3 d3.length e3]
  obtain ⟨p00, p01, p02, -, -, -⟩ := k100.facts
  obtain ⟨p10, p11, p12, -, -, -⟩ := k101.facts
  obtain ⟨p20, p21, p22, -, -, -⟩ := k102.facts
  have cX := fun (V : World) (hV : Below W.heap.size W V) => x1 n1 n3 a1 d1 a3 d3 A1 D1 A3 D3 c1 e1 c3 e3 V s1 s3 ((r1.on b0).on hV) ((q1.on b0).on hV) ((r3.on b0).on hV) ((q3.on b0).on hV)
  have cY := fun (V : World) (hV : Below W.heap.size W V) => x2 n2 n3 a2 d2 a3 d3 A2 D2 A3 D3 c2 e2 c3 e3 V s2 s3 ((r2.on b0).on hV) ((q2.on b0).on hV) ((r3.on b0).on hV) ((q3.on b0).on hV)
  have CX := quiet_of cX
  have CY := quiet_of cY
  have y00 := cell_regrown p00
  have y01 := cell_regrown p01
  have y02 := cell_regrown p02
  have y10 := cell_regrown p10
  have y11 := cell_regrown p11
  have y12 := cell_regrown p12
  have y20 := cell_regrown p20
  have y21 := cell_regrown p21
  have y22 := cell_regrown p22
  have HB0 := Lib.hid b0
  clear cX cY x1 x2 k100 k101 k102 b0 s0 s1 r1 q1 s2 r2 q2 s3 r3 q3
  subst hb
  rcases hz1 with rfl | rfl | rfl <;> rcases hz2 with rfl | rfl | rfl
  all_goals
    go_enter Tryz.func83, Tryz.ntmps83
    go_wp2_with fail
    try rw [hW]
    clear hW
    have e1 : IntKind.i64.wrap 1 = 1 := by decide
    have e2 : IntKind.i64.wrap (-1) = -1 := by decide
    have e3 : IntKind.i64.wrap 0 = 0 := by decide
    refine wp_region_quiet_below (by kernel_rfl) (by kernel_rfl) ?_
    quiet_step (fail)
    quiet_step (fail)
    quiet_step (with_reducible exact CX _ _)
    quiet_step (fail)
    quiet_step (fail)
    quiet_step (with_reducible exact CY _ _)
    quiet_step (fail)
    quiet_step (fail)
    quiet_step (fail)
    refine wpQuiet_nil ?_
    intro _ hw'
    obtain ⟨⟨dq, osq⟩, hw''⟩ := hw'
    subst hw''
    go_wp2_with fail
    go_ret
    exact ⟨rfl, HB0.out.trans ((below_regrown W dq osq).mono HB0.out.size)⟩

set_option maxRecDepth 100000 in
set_option maxHeartbeats 3200000 in
theorem ref5_Turn {S1 S2 S3 S4 S5 S6 U : Shape} {z : Int} (x1 : ∀ (n1 n2 n3 n4 n5 n6 : Bool) (a1 d1 a2 d2 a3 d3 a4 d4 a5 d5 a6 d6 : List Nat) (A1 D1 A2 D2 A3 D3 A4 D4 A5 D5 A6 D6 : Option Addr) (c1 e1 c2 e2 c3 e3 c4 e4 c5 e5 c6 e6 : Nat) (w : World), S1 n1 a1 c1 d1 e1 → S2 n2 a2 c2 d2 e2 → S3 n3 a3 c3 d3 e3 → S4 n4 a4 c4 d4 e4 → S5 n5 a5 c5 d5 e5 → S6 n6 a6 c6 d6 e6 → Rd w (fun g => g < w.heap.size) .u32 A1 a1 → Rd w (fun g => g < w.heap.size) .u32 D1 d1 → Rd w (fun g => g < w.heap.size) .u32 A2 a2 → Rd w (fun g => g < w.heap.size) .u32 D2 d2 → Rd w (fun g => g < w.heap.size) .u32 A3 a3 → Rd w (fun g => g < w.heap.size) .u32 D3 d3 → Rd w (fun g => g < w.heap.size) .u32 A4 a4 → Rd w (fun g => g < w.heap.size) .u32 D4 d4 → Rd w (fun g => g < w.heap.size) .u32 A5 a5 → Rd w (fun g => g < w.heap.size) .u32 D5 d5 → Rd w (fun g => g < w.heap.size) .u32 A6 a6 → Rd w (fun g => g < w.heap.size) .u32 D6 d6 → Calls Tryz.prog 40 #[.agg #[.bool n1, .slice A1 a1.length c1, .slice D1 d1.length e1, .bool n2, .slice A2 a2.length c2, .slice D2 d2.length e2], .agg #[.bool n3, .slice A3 a3.length c3, .slice D3 d3.length e3, .bool n4, .slice A4 a4.length c4, .slice D4 d4.length e4], .agg #[.bool n5, .slice A5 a5.length c5, .slice D5 d5.length e5, .bool n6, .slice A6 a6.length c6, .slice D6 d6.length e6]] w (Gv U w)) (x2 : Fi1 127 U z) : Si3 82 S1 S2 S3 S4 S5 S6 z := by
  intro n1 n2 n3 n4 n5 n6 a1 d1 a2 d2 a3 d3 a4 d4 a5 d5 a6 d6 A1 D1 A2 D2 A3 D3 A4 D4 A5 D5 A6 D6 c1 e1 c2 e2 c3 e3 c4 e4 c5 e5 c6 e6 w s1 s2 s3 s4 s5 s6 r1 q1 r2 q2 r3 q3 r4 q4 r5 q5 r6 q6
  obtain ⟨W, hW, k100, k101, k102, b0, s0⟩ := bxc w 41 41 41 [.bool n1, .slice A1 a1.length c1, .slice D1 d1.length e1, .bool n2, .slice A2 a2.length c2, .slice D2 d2.length e2] [.bool n3, .slice A3 a3.length c3, .slice D3 d3.length e3, .bool n4, .slice A4 a4.length c4, .slice D4 d4.length e4] [.bool n5, .slice A5 a5.length c5, .slice D5 d5.length e5, .bool n6, .slice A6 a6.length c6, .slice D6 d6.length e6]
  obtain ⟨⟨p00, p01, p02, p03, p04, p05⟩, -⟩ := k100.facts6
  obtain ⟨⟨p10, p11, p12, p13, p14, p15⟩, -⟩ := k101.facts6
  obtain ⟨⟨p20, p21, p22, p23, p24, p25⟩, -⟩ := k102.facts6
  have cX := fun (V : World) (hV : Below W.heap.size W V) => x1 n1 n2 n3 n4 n5 n6 a1 d1 a2 d2 a3 d3 a4 d4 a5 d5 a6 d6 A1 D1 A2 D2 A3 D3 A4 D4 A5 D5 A6 D6 c1 e1 c2 e2 c3 e3 c4 e4 c5 e5 c6 e6 V s1 s2 s3 s4 s5 s6 ((r1.on b0).on hV) ((q1.on b0).on hV) ((r2.on b0).on hV) ((q2.on b0).on hV) ((r3.on b0).on hV) ((q3.on b0).on hV) ((r4.on b0).on hV) ((q4.on b0).on hV) ((r5.on b0).on hV) ((q5.on b0).on hV) ((r6.on b0).on hV) ((q6.on b0).on hV)
  have HB0 := Lib.hid b0
  have CX := Lib.hid cX
  have C2 := Lib.hid x2
  clear cX x1 x2 k100 k101 k102 b0 s0 s1 r1 q1 s2 r2 q2 s3 r3 q3 s4 r4 q4 s5 r5 q5 s6 r6 q6
  go_enter Tryz.func82, Tryz.ntmps82
  go_wp2_with fail
  try rw [hW]
  clear hW
  refine (CX.out _ (Below.refl _ _)).mono ?_
  rintro e w1 ⟨n7, a7, A7, c7, d7, D7, e7, rfl, s7, r7, q7, b1⟩
  go_wp2_with fail
  refine (C2.out n7 a7 d7 A7 D7 c7 e7 _ s7 r7 q7).mono ?_
  rintro e w2 ⟨rfl, b2⟩
  go_wp2_with fail
  go_ret
  exact ⟨rfl, HB0.out.trans ((b1.trans (b2.mono b1.size)).mono HB0.out.size)⟩

set_option maxRecDepth 100000 in
set_option maxHeartbeats 12800000 in
theorem ref5_On {S1 S2 S3 S4 S5 S6 : Shape} {z : Int} {b1 b2 b : Bool} (hb : ((z == 0) && b1 && b2) = b) (x1 : Si3 82 S1 S2 S3 S4 S5 S6 z) (x2 : Fb3 83 S1 S3 S5 b1) (x3 : Fb3 83 S2 S4 S6 b2) : Sb3 45 S1 S2 S3 S4 S5 S6 b := by
  intro n1 n2 n3 n4 n5 n6 a1 d1 a2 d2 a3 d3 a4 d4 a5 d5 a6 d6 A1 D1 A2 D2 A3 D3 A4 D4 A5 D5 A6 D6 c1 e1 c2 e2 c3 e3 c4 e4 c5 e5 c6 e6 w s1 s2 s3 s4 s5 s6 r1 q1 r2 q2 r3 q3 r4 q4 r5 q5 r6 q6
  obtain ⟨W, hW, k100, k101, k102, b0, s0⟩ := bxc w 41 41 41 [.bool n1, .slice A1 a1.length c1, .slice D1 d1.length e1, .bool n2, .slice A2 a2.length c2, .slice D2 d2.length e2] [.bool n3, .slice A3 a3.length c3, .slice D3 d3.length e3, .bool n4, .slice A4 a4.length c4, .slice D4 d4.length e4] [.bool n5, .slice A5 a5.length c5, .slice D5 d5.length e5, .bool n6, .slice A6 a6.length c6, .slice D6 d6.length e6]
  obtain ⟨⟨p00, p01, p02, p03, p04, p05⟩, -⟩ := k100.facts6
  obtain ⟨⟨p10, p11, p12, p13, p14, p15⟩, -⟩ := k101.facts6
  obtain ⟨⟨p20, p21, p22, p23, p24, p25⟩, -⟩ := k102.facts6
  have cX := fun (V : World) (hV : Below W.heap.size W V) => x1 n1 n2 n3 n4 n5 n6 a1 d1 a2 d2 a3 d3 a4 d4 a5 d5 a6 d6 A1 D1 A2 D2 A3 D3 A4 D4 A5 D5 A6 D6 c1 e1 c2 e2 c3 e3 c4 e4 c5 e5 c6 e6 V s1 s2 s3 s4 s5 s6 ((r1.on b0).on hV) ((q1.on b0).on hV) ((r2.on b0).on hV) ((q2.on b0).on hV) ((r3.on b0).on hV) ((q3.on b0).on hV) ((r4.on b0).on hV) ((q4.on b0).on hV) ((r5.on b0).on hV) ((q5.on b0).on hV) ((r6.on b0).on hV) ((q6.on b0).on hV)
  have cY := fun (V : World) (hV : Below W.heap.size W V) => x2 n1 n3 n5 a1 d1 a3 d3 a5 d5 A1 D1 A3 D3 A5 D5 c1 e1 c3 e3 c5 e5 V s1 s3 s5 ((r1.on b0).on hV) ((q1.on b0).on hV) ((r3.on b0).on hV) ((q3.on b0).on hV) ((r5.on b0).on hV) ((q5.on b0).on hV)
  have cZ := fun (V : World) (hV : Below W.heap.size W V) => x3 n2 n4 n6 a2 d2 a4 d4 a6 d6 A2 D2 A4 D4 A6 D6 c2 e2 c4 e4 c6 e6 V s2 s4 s6 ((r2.on b0).on hV) ((q2.on b0).on hV) ((r4.on b0).on hV) ((q4.on b0).on hV) ((r6.on b0).on hV) ((q6.on b0).on hV)
  have HK0 := Lib.hid k100
  have HK1 := Lib.hid k101
  have HK2 := Lib.hid k102
  have HB0 := Lib.hid b0
  have CX := Lib.hid cX
  have CY := Lib.hid cY
  have CZ := Lib.hid cZ
  clear cX cY cZ x1 x2 x3 k100 k101 k102 b0 s0 s1 r1 q1 s2 r2 q2 s3 r3 q3 s4 r4 q4 s5 r5 q5 s6 r6 q6
  by_cases hz : z = 0
  · subst hz
    simp only [BEq.rfl, Bool.true_and] at hb
    cases b1
    · simp only [Bool.false_and] at hb
      subst hb
      go_enter Tryz.func45, Tryz.ntmps45
      go_wp2_with fail
      try rw [hW]
      clear hW
      refine (CX.out _ (Below.refl _ _)).mono ?_
      rintro e w1 ⟨rfl, b1⟩
      obtain ⟨p00, p01, p02, p03, p04, p05⟩ := kept6 HK0.out b1
      obtain ⟨p10, p11, p12, p13, p14, p15⟩ := kept6 HK1.out b1
      obtain ⟨p20, p21, p22, p23, p24, p25⟩ := kept6 HK2.out b1
      go_wp2_with fail
      refine (CY.out _ b1).mono ?_
      rintro e w2 ⟨rfl, b2⟩
      have B2 := b1.trans (b2.mono b1.size)
      obtain ⟨p00, p01, p02, p03, p04, p05⟩ := kept6 HK0.out B2
      obtain ⟨p10, p11, p12, p13, p14, p15⟩ := kept6 HK1.out B2
      obtain ⟨p20, p21, p22, p23, p24, p25⟩ := kept6 HK2.out B2
      go_wp2_with fail
      go_ret
      exact ⟨rfl, HB0.out.trans (B2.mono HB0.out.size)⟩
    · simp only [Bool.true_and] at hb
      subst hb
      go_enter Tryz.func45, Tryz.ntmps45
      go_wp2_with fail
      try rw [hW]
      clear hW
      refine (CX.out _ (Below.refl _ _)).mono ?_
      rintro e w1 ⟨rfl, b1⟩
      obtain ⟨p00, p01, p02, p03, p04, p05⟩ := kept6 HK0.out b1
      obtain ⟨p10, p11, p12, p13, p14, p15⟩ := kept6 HK1.out b1
      obtain ⟨p20, p21, p22, p23, p24, p25⟩ := kept6 HK2.out b1
      go_wp2_with fail
      refine (CY.out _ b1).mono ?_
      rintro e w2 ⟨rfl, b2⟩
      have B2 := b1.trans (b2.mono b1.size)
      obtain ⟨p00, p01, p02, p03, p04, p05⟩ := kept6 HK0.out B2
      obtain ⟨p10, p11, p12, p13, p14, p15⟩ := kept6 HK1.out B2
      obtain ⟨p20, p21, p22, p23, p24, p25⟩ := kept6 HK2.out B2
      go_wp2_with fail
      refine (CZ.out _ B2).mono ?_
      rintro e w3 ⟨rfl, b3⟩
      go_wp2_with fail
      go_ret
      exact ⟨rfl, HB0.out.trans ((B2.trans (b3.mono B2.size)).mono HB0.out.size)⟩
  · have hzb : (z == 0) = false := by simpa using hz
    rw [hzb] at hb
    simp only [Bool.false_and] at hb
    subst hb
    clear hz
    go_enter Tryz.func45, Tryz.ntmps45
    go_wp2_with fail
    try rw [hW]
    clear hW
    refine (CX.out _ (Below.refl _ _)).mono ?_
    rintro e w1 ⟨rfl, b1⟩
    obtain ⟨p00, p01, p02, p03, p04, p05⟩ := kept6 HK0.out b1
    obtain ⟨p10, p11, p12, p13, p14, p15⟩ := kept6 HK1.out b1
    obtain ⟨p20, p21, p22, p23, p24, p25⟩ := kept6 HK2.out b1
    go_wp2_with fail
    go_ret
    exact ⟨rfl, HB0.out.trans (b1.mono HB0.out.size)⟩
end Go.Proofs.YtdmoibphidipeaaGreatDoor
/- Spots, the program's own: what Turn answers. -/

namespace Go.Proofs.YtdmoibphidipeaaGreatDoor
open Go.RowKit Num

/-- the number whose sign tells on which side of the way from the first to the second spot the third one is -/
def det (P1 P2 P3 P4 P5 P6 : Int) (Q1 Q2 Q3 Q4 Q5 Q6 : Nat) : Int := (P3 * (Q1 : Int) - P1 * (Q3 : Int)) * (P6 * (Q2 : Int) - P2 * (Q6 : Int)) * (Q4 : Int) * (Q5 : Int) - (P4 * (Q2 : Int) - P2 * (Q4 : Int)) * (P5 * (Q1 : Int) - P1 * (Q5 : Int)) * (Q3 : Int) * (Q6 : Int)
/-- a spot in its box, no lower part of which is 0 -/
def Hd (g : Nat) (P1 : Int) (Q1 m1 : Nat) (P2 : Int) (Q2 m2 : Nat) (wc : World) : Prop :=
  ∃ n1 a1 A1 c1 d1 D1 e1 n2 a2 A2 c2 d2 D2 e2, Blk wc g 41 [.bool n1, .slice A1 a1.length c1, .slice D1 d1.length e1, .bool n2, .slice A2 a2.length c2, .slice D2 d2.length e2] ∧ (SH P1 Q1 m1 n1 a1 c1 d1 e1 ∧ SH P2 Q2 m2 n2 a2 c2 d2 e2) ∧
    (Rd wc (fun g => g < wc.heap.size) .u32 A1 a1 ∧ Rd wc (fun g => g < wc.heap.size) .u32 D1 d1) ∧ (Rd wc (fun g => g < wc.heap.size) .u32 A2 a2 ∧ Rd wc (fun g => g < wc.heap.size) .u32 D2 d2)
theorem Hd.six {g : Nat} {P1 P2 : Int} {Q1 m1 Q2 m2 : Nat} {w : World} (h : Hd g P1 Q1 m1 P2 Q2 m2 w) {g' : Nat} {t : TypeId} {x y : Bool} {p q r s : Option Addr} {i0 i1 i2 i3 i4 i5 i6 i7 : Nat} (f : Blk w g' t [.bool x, .slice p i0 i1, .slice q i2 i3, .bool y, .slice r i4 i5, .slice s i6 i7]) (hne : g ≠ g') (u0 u1 u2 u3 u4 u5 : Value) :
    Hd g P1 Q1 m1 P2 Q2 m2 (((((((w.setCell ⟨g', 0, none⟩ u0).setCell ⟨g', 1, none⟩ u1).setCell ⟨g', 2, none⟩ u2).setCell ⟨g', 3, none⟩ u3).setCell ⟨g', 4, none⟩ u4).setCell ⟨g', 5, none⟩ u5)) := by
  obtain ⟨n1, a1, A1, c1, d1, D1, e1, n2, a2, A2, c2, d2, D2, e2, k, hs, ⟨r1, q1⟩, r2, q2⟩ := h
  exact ⟨n1, a1, A1, c1, d1, D1, e1, n2, a2, A2, c2, d2, D2, e2, k.off6 hne _ _ _ _ _ _, hs, ⟨r1.six f _ _ _ _ _ _, q1.six f _ _ _ _ _ _⟩, r2.six f _ _ _ _ _ _, q2.six f _ _ _ _ _ _⟩
end Go.Proofs.YtdmoibphidipeaaGreatDoor
/- Spots, the document's own: what Area answers. -/

namespace Go.Proofs.YtdmoibphidipeaaGreatDoor
open Go.RowKit Num

/-- a fraction in a box of its own, at the end of a region -/
theorem oneF {W v : World} {t : TypeId} {X Y : Option Addr} {x y : List Nat} (K : Below W.heap.size W v) (n : Bool) (c e : Nat) (r : Rd v (fun g => g < v.heap.size) .u32 X x) (q : Rd v (fun g => g < v.heap.size) .u32 Y y) : Blk (v.alloc (.cells #[.bool n, .slice X x.length c, .slice Y y.length e] t)) v.heap.size t [.bool n, .slice X x.length c, .slice Y y.length e] ∧ (Rd (v.alloc (.cells #[.bool n, .slice X x.length c, .slice Y y.length e] t)) (fun g => g < (v.alloc (.cells #[.bool n, .slice X x.length c, .slice Y y.length e] t)).heap.size) .u32 X x ∧ Rd (v.alloc (.cells #[.bool n, .slice X x.length c, .slice Y y.length e] t)) (fun g => g < (v.alloc (.cells #[.bool n, .slice X x.length c, .slice Y y.length e] t)).heap.size) .u32 Y y) ∧ Below W.heap.size W (v.alloc (.cells #[.bool n, .slice X x.length c, .slice Y y.length e] t)) :=
  ⟨Blk.new v t [.bool n, .slice X x.length c, .slice Y y.length e], ⟨r.on (below_new v _), q.on (below_new v _)⟩, keep_one K _⟩
theorem oneG {W v : World} {g : Nat} {t : TypeId} {X Y : Option Addr} {x y : List Nat} (k : Blk v g t [.bool false, .slice none 0 0, .slice none 0 0]) (hg : W.heap.size ≤ g) (K : Below W.heap.size W v) (n : Bool) (c e : Nat) (r : Rd v (fun g => g < v.heap.size) .u32 X x) (q : Rd v (fun g => g < v.heap.size) .u32 Y y) : Blk (((v.setCell ⟨g, 0, none⟩ (.bool n)).setCell ⟨g, 1, none⟩ (.slice X x.length c)).setCell ⟨g, 2, none⟩ (.slice Y y.length e)) g t [.bool n, .slice X x.length c, .slice Y y.length e] ∧ (Rd (((v.setCell ⟨g, 0, none⟩ (.bool n)).setCell ⟨g, 1, none⟩ (.slice X x.length c)).setCell ⟨g, 2, none⟩ (.slice Y y.length e)) (fun b => b < (((v.setCell ⟨g, 0, none⟩ (.bool n)).setCell ⟨g, 1, none⟩ (.slice X x.length c)).setCell ⟨g, 2, none⟩ (.slice Y y.length e)).heap.size) .u32 X x ∧ Rd (((v.setCell ⟨g, 0, none⟩ (.bool n)).setCell ⟨g, 1, none⟩ (.slice X x.length c)).setCell ⟨g, 2, none⟩ (.slice Y y.length e)) (fun b => b < (((v.setCell ⟨g, 0, none⟩ (.bool n)).setCell ⟨g, 1, none⟩ (.slice X x.length c)).setCell ⟨g, 2, none⟩ (.slice Y y.length e)).heap.size) .u32 Y y) ∧ Below W.heap.size W (((v.setCell ⟨g, 0, none⟩ (.bool n)).setCell ⟨g, 1, none⟩ (.slice X x.length c)).setCell ⟨g, 2, none⟩ (.slice Y y.length e)) :=
  ⟨k.trip _ _ _, ⟨r.trip k _ _ _, q.trip k _ _ _⟩, ((K.setCell (p := ⟨g, 0, none⟩) hg _).setCell (p := ⟨g, 1, none⟩) hg _).setCell (p := ⟨g, 2, none⟩) hg _⟩

set_option maxRecDepth 100000 in
set_option maxHeartbeats 51200000 in
/-- twice the area of three spots -/
theorem ref5_Area {S1 S2 S3 S4 S5 S6 V0 V1 V2 V3 V4 V5 V6 V7 : Shape} (x0 : Fn2 43 S4 S6 V0) (x1 : Fn2 75 S1 V0 V1) (x2 : Fn2 43 S6 S2 V2) (x3 : Fn2 75 S3 V2 V3) (x4 : Fn2 74 V1 V3 V4) (x5 : Fn2 43 S2 S4 V5) (x6 : Fn2 75 S5 V5 V6) (x7 : Fn2 74 V4 V6 V7) (n1 n2 n3 n4 n5 n6 : Bool) (a1 d1 a2 d2 a3 d3 a4 d4 a5 d5 a6 d6 : List Nat) (A1 D1 A2 D2 A3 D3 A4 D4 A5 D5 A6 D6 : Option Addr) (c1 e1 c2 e2 c3 e3 c4 e4 c5 e5 c6 e6 : Nat) (w : World) (s1 : S1 n1 a1 c1 d1 e1) (s2 : S2 n2 a2 c2 d2 e2) (s3 : S3 n3 a3 c3 d3 e3) (s4 : S4 n4 a4 c4 d4 e4) (s5 : S5 n5 a5 c5 d5 e5) (s6 : S6 n6 a6 c6 d6 e6) (r1 : Rd w (fun g => g < w.heap.size) .u32 A1 a1) (q1 : Rd w (fun g => g < w.heap.size) .u32 D1 d1) (r2 : Rd w (fun g => g < w.heap.size) .u32 A2 a2) (q2 : Rd w (fun g => g < w.heap.size) .u32 D2 d2) (r3 : Rd w (fun g => g < w.heap.size) .u32 A3 a3) (q3 : Rd w (fun g => g < w.heap.size) .u32 D3 d3) (r4 : Rd w (fun g => g < w.heap.size) .u32 A4 a4) (q4 : Rd w (fun g => g < w.heap.size) .u32 D4 d4) (r5 : Rd w (fun g => g < w.heap.size) .u32 A5 a5) (q5 : Rd w (fun g => g < w.heap.size) .u32 D5 d5) (r6 : Rd w (fun g => g < w.heap.size) .u32 A6 a6) (q6 : Rd w (fun g => g < w.heap.size) .u32 D6 d6) :
    Calls Tryz.prog 40 #[.agg #[.bool n1, .slice A1 a1.length c1, .slice D1 d1.length e1, .bool n2, .slice A2 a2.length c2, .slice D2 d2.length e2], .agg #[.bool n3, .slice A3 a3.length c3, .slice D3 d3.length e3, .bool n4, .slice A4 a4.length c4, .slice D4 d4.length e4], .agg #[.bool n5, .slice A5 a5.length c5, .slice D5 d5.length e5, .bool n6, .slice A6 a6.length c6, .slice D6 d6.length e6]] w (Gv V7 w) := by
  obtain ⟨W, hW, k1, k2, k3, kr, b0, s0⟩ := bxd w 41 41 41 39 [.bool n1, .slice A1 a1.length c1, .slice D1 d1.length e1, .bool n2, .slice A2 a2.length c2, .slice D2 d2.length e2] [.bool n3, .slice A3 a3.length c3, .slice D3 d3.length e3, .bool n4, .slice A4 a4.length c4, .slice D4 d4.length e4] [.bool n5, .slice A5 a5.length c5, .slice D5 d5.length e5, .bool n6, .slice A6 a6.length c6, .slice D6 d6.length e6] [.bool false, .slice none 0 0, .slice none 0 0]
  obtain ⟨⟨p00, p01, p02, p03, p04, p05⟩, -⟩ := k1.facts6
  obtain ⟨⟨p10, p11, p12, p13, p14, p15⟩, -⟩ := k2.facts6
  obtain ⟨⟨p20, p21, p22, p23, p24, p25⟩, -⟩ := k3.facts6
  have C0 := Lib.hid (fun (V : World) (hV : Below W.heap.size W V) => x0 n4 n6 a4 d4 a6 d6 A4 D4 A6 D6 c4 e4 c6 e6 V s4 s6 ((r4.on b0).on hV) ((q4.on b0).on hV) ((r6.on b0).on hV) ((q6.on b0).on hV))
  have C1 := Lib.hid (fun (V : World) (hV : Below W.heap.size W V) (n50 : Bool) (a50 d50 : List Nat) (A50 D50 : Option Addr) (c50 e50 : Nat) (s50 : V0 n50 a50 c50 d50 e50) (r50 : Rd V (fun g => g < V.heap.size) .u32 A50 a50) (q50 : Rd V (fun g => g < V.heap.size) .u32 D50 d50) => x1 n1 n50 a1 d1 a50 d50 A1 D1 A50 D50 c1 e1 c50 e50 V s1 s50 ((r1.on b0).on hV) ((q1.on b0).on hV) r50 q50)
  have C2 := Lib.hid (fun (V : World) (hV : Below W.heap.size W V) => x2 n6 n2 a6 d6 a2 d2 A6 D6 A2 D2 c6 e6 c2 e2 V s6 s2 ((r6.on b0).on hV) ((q6.on b0).on hV) ((r2.on b0).on hV) ((q2.on b0).on hV))
  have C3 := Lib.hid (fun (V : World) (hV : Below W.heap.size W V) (n52 : Bool) (a52 d52 : List Nat) (A52 D52 : Option Addr) (c52 e52 : Nat) (s52 : V2 n52 a52 c52 d52 e52) (r52 : Rd V (fun g => g < V.heap.size) .u32 A52 a52) (q52 : Rd V (fun g => g < V.heap.size) .u32 D52 d52) => x3 n3 n52 a3 d3 a52 d52 A3 D3 A52 D52 c3 e3 c52 e52 V s3 s52 ((r3.on b0).on hV) ((q3.on b0).on hV) r52 q52)
  have C4 := Lib.hid (fun (V : World) (hV : Below W.heap.size W V) (n51 n53 : Bool) (a51 d51 a53 d53 : List Nat) (A51 D51 A53 D53 : Option Addr) (c51 e51 c53 e53 : Nat) (s51 : V1 n51 a51 c51 d51 e51) (s53 : V3 n53 a53 c53 d53 e53) (r51 : Rd V (fun g => g < V.heap.size) .u32 A51 a51) (q51 : Rd V (fun g => g < V.heap.size) .u32 D51 d51) (r53 : Rd V (fun g => g < V.heap.size) .u32 A53 a53) (q53 : Rd V (fun g => g < V.heap.size) .u32 D53 d53) => x4 n51 n53 a51 d51 a53 d53 A51 D51 A53 D53 c51 e51 c53 e53 V s51 s53 r51 q51 r53 q53)
  have X5 := Lib.hid x5
  have X6 := Lib.hid x6
  have X7 := Lib.hid x7
  have H1 := Lib.hid k1
  have H2 := Lib.hid k2
  have H3 := Lib.hid k3
  have HKR := Lib.hid kr
  have HB0 := Lib.hid b0
  have HS := Lib.hid (And.intro (And.intro s1 s2) (And.intro (And.intro s3 s4) (And.intro s5 s6)))
  have HR := Lib.hid (And.intro (And.intro (And.intro r1 q1) (And.intro r2 q2)) (And.intro (And.intro (And.intro r3 q3) (And.intro r4 q4)) (And.intro (And.intro r5 q5) (And.intro r6 q6))))
  have K0 : Below W.heap.size W W.drew := below_drewN (Below.refl _ _) 1
  have KO : Below W.heap.size W (W.alloc (.cells #[.bool false, .slice none 0 0, .slice none 0 0] 39)).drew := below_drewN (keep_one (Below.refl W.heap.size W) _) 1
  have hlt : w.heap.size + 3 < W.heap.size := by omega
  clear k1 k2 k3 kr b0 s0 x0 x1 x2 x3 x4 x5 x6 x7 s1 r1 q1 s2 r2 q2 s3 r3 q3 s4 r4 q4 s5 r5 q5 s6 r6 q6
  go_enter Tryz.func40, Tryz.ntmps40
  go_wp2_with fail
  try rw [hW]
  clear hW
  go_cut [7] from 8 (fun v7 wc => ∃ g n54 a54 A54 c54 d54 D54 e54, v7 = .pointer (some ⟨g, 0, none⟩) ∧ (V4 n54 a54 c54 d54 e54 ∧ W.heap.size ≤ g) ∧ Blk wc g 39 [.bool n54, .slice A54 a54.length c54, .slice D54 d54.length e54] ∧ (Rd wc (fun g => g < wc.heap.size) .u32 A54 a54 ∧ Rd wc (fun g => g < wc.heap.size) .u32 D54 d54) ∧ Below W.heap.size W wc)
  case first =>
    go_region_held3 (fun w' => (w'.cell? ⟨w.heap.size, 0, none⟩ = some (.bool n1) ∧ w'.cell? ⟨w.heap.size, 1, none⟩ = some (.slice A1 a1.length c1) ∧ w'.cell? ⟨w.heap.size, 2, none⟩ = some (.slice D1 d1.length e1) ∧ w'.cell? ⟨w.heap.size, 3, none⟩ = some (.bool n2) ∧ w'.cell? ⟨w.heap.size, 4, none⟩ = some (.slice A2 a2.length c2) ∧ w'.cell? ⟨w.heap.size, 5, none⟩ = some (.slice D2 d2.length e2)) ∧ (w'.cell? ⟨w.heap.size + 1, 0, none⟩ = some (.bool n3) ∧ w'.cell? ⟨w.heap.size + 1, 1, none⟩ = some (.slice A3 a3.length c3) ∧ w'.cell? ⟨w.heap.size + 1, 2, none⟩ = some (.slice D3 d3.length e3) ∧ w'.cell? ⟨w.heap.size + 1, 3, none⟩ = some (.bool n4) ∧ w'.cell? ⟨w.heap.size + 1, 4, none⟩ = some (.slice A4 a4.length c4) ∧ w'.cell? ⟨w.heap.size + 1, 5, none⟩ = some (.slice D4 d4.length e4)) ∧ (w'.cell? ⟨w.heap.size + 1 + 1, 0, none⟩ = some (.bool n5) ∧ w'.cell? ⟨w.heap.size + 1 + 1, 1, none⟩ = some (.slice A5 a5.length c5) ∧ w'.cell? ⟨w.heap.size + 1 + 1, 2, none⟩ = some (.slice D5 d5.length e5) ∧ w'.cell? ⟨w.heap.size + 1 + 1, 3, none⟩ = some (.bool n6) ∧ w'.cell? ⟨w.heap.size + 1 + 1, 4, none⟩ = some (.slice A6 a6.length c6) ∧ w'.cell? ⟨w.heap.size + 1 + 1, 5, none⟩ = some (.slice D6 d6.length e6)))
      (first | (refine ⟨kept6 H1.out ?_, kept6 H2.out ?_, kept6 H3.out ?_⟩ <;> first | (with_reducible exact K5) | (with_reducible exact K4) | (with_reducible exact K3) | (with_reducible exact K2) | (with_reducible exact K1) | (with_reducible exact K0) | (with_reducible exact KO) | ((repeat (first | (with_reducible refine Below.setCell ?_ (by dsimp only; omega) _) | (with_reducible refine Below.alloc ?_ (by first | omega | exact Nat.le_refl _ | (have := K5.size; omega) | (have := K4.size; omega) | (have := K3.size; omega) | (have := K2.size; omega) | (have := K1.size; omega) | (simp; omega) | (have := K5.size; simp [World.setCell]; omega)) _))); first | (with_reducible exact K5) | (with_reducible exact K4) | (with_reducible exact K3) | (with_reducible exact K2) | (with_reducible exact K1) | (with_reducible exact K0))) | go_keep)
      ((first
        | (go_at_call_of 43 (Value.slice A4 a4.length c4); (first | (with_reducible refine Calls.mono (C0.out _ K0) ?_) | (with_reducible refine Calls.mono (C0.out _ KO) ?_)); rintro e w1 ⟨n50, a50, A50, c50, d50, D50, e50, rfl, s50, r50, q50, b1⟩; (first | (guard_hyp b1 : Below W.drew.heap.size W.drew w1; have K1 := below_next K0 (Nat.le_refl _) b1) | (obtain ⟨kX, sz⟩ := got13d b1; have kX1 := kX.lt; obtain ⟨o0, o1, o2, o3, o4, o5⟩ := kX.facts; have K1 := below_next KO (Nat.le_refl _) b1)); have z1 : W.heap.size ≤ w1.heap.size := K1.size)
        | (go_at_call_of 75 (Value.slice A1 a1.length c1); (first | (with_reducible refine Calls.mono (C1.out _ K1 n50 a50 d50 A50 D50 c50 e50 s50 r50 q50 ) ?_) | (with_reducible refine Calls.mono (C1.out _ (keep_one K1 _) n50 a50 d50 A50 D50 c50 e50 s50 (r50.on (below_new _ _)) (q50.on (below_new _ _)) ) ?_)); rintro e w2 ⟨n51, a51, A51, c51, d51, D51, e51, rfl, s51, r51, q51, b2⟩; (first | (guard_hyp b2 : Below w1.heap.size w1 w2; have dd2 : Below w1.heap.size w1 w2 := b2; have K2 := below_next K1 (Nat.le_refl _) b2; (try (have kX := kX.on dd2; have kX1 := kX.lt; obtain ⟨o0, o1, o2, o3, o4, o5⟩ := kX.facts))) | (obtain ⟨kX, sz⟩ := got13 b2; have kX1 := kX.lt; obtain ⟨o0, o1, o2, o3, o4, o5⟩ := kX.facts; have dd2 : Below w1.heap.size w1 w2 := (below_new w1 _).trans (b2.mono (by simp)); have K2 := below_next (keep_one K1 _) (Nat.le_refl _) b2)); have z2 : w1.heap.size ≤ w2.heap.size := dd2.size)
        | (go_at_call_of 43 (Value.slice A2 a2.length c2); (first | (with_reducible refine Calls.mono (C2.out _ K2) ?_) | (with_reducible refine Calls.mono (C2.out _ (keep_one K2 _)) ?_)); rintro e w3 ⟨n52, a52, A52, c52, d52, D52, e52, rfl, s52, r52, q52, b3⟩; (first | (guard_hyp b3 : Below w2.heap.size w2 w3; have dd3 : Below w2.heap.size w2 w3 := b3; have K3 := below_next K2 (Nat.le_refl _) b3; (try (have kX := kX.on dd3; have kX1 := kX.lt; obtain ⟨o0, o1, o2, o3, o4, o5⟩ := kX.facts))) | (obtain ⟨kX, sz⟩ := got13 b3; have kX1 := kX.lt; obtain ⟨o0, o1, o2, o3, o4, o5⟩ := kX.facts; have dd3 : Below w2.heap.size w2 w3 := (below_new w2 _).trans (b3.mono (by simp)); have K3 := below_next (keep_one K2 _) (Nat.le_refl _) b3)); have z3 : w2.heap.size ≤ w3.heap.size := dd3.size; have r51 := r51.on dd3; have q51 := q51.on dd3)
        | (go_at_call_of 75 (Value.slice A3 a3.length c3); (first | (with_reducible refine Calls.mono (C3.out _ K3 n52 a52 d52 A52 D52 c52 e52 s52 r52 q52 ) ?_) | (with_reducible refine Calls.mono (C3.out _ (keep_one K3 _) n52 a52 d52 A52 D52 c52 e52 s52 (r52.on (below_new _ _)) (q52.on (below_new _ _)) ) ?_)); rintro e w4 ⟨n53, a53, A53, c53, d53, D53, e53, rfl, s53, r53, q53, b4⟩; (first | (guard_hyp b4 : Below w3.heap.size w3 w4; have dd4 : Below w3.heap.size w3 w4 := b4; have K4 := below_next K3 (Nat.le_refl _) b4; (try (have kX := kX.on dd4; have kX1 := kX.lt; obtain ⟨o0, o1, o2, o3, o4, o5⟩ := kX.facts))) | (obtain ⟨kX, sz⟩ := got13 b4; have kX1 := kX.lt; obtain ⟨o0, o1, o2, o3, o4, o5⟩ := kX.facts; have dd4 : Below w3.heap.size w3 w4 := (below_new w3 _).trans (b4.mono (by simp)); have K4 := below_next (keep_one K3 _) (Nat.le_refl _) b4)); have z4 : w3.heap.size ≤ w4.heap.size := dd4.size; have r51 := r51.on dd4; have q51 := q51.on dd4)
        | (go_at_call 74; (first | (with_reducible refine Calls.mono (C4.out _ K4 n51 n53 a51 d51 a53 d53 A51 D51 A53 D53 c51 e51 c53 e53 s51 s53 r51 q51 r53 q53 ) ?_) | (with_reducible refine Calls.mono (C4.out _ (keep_one K4 _) n51 n53 a51 d51 a53 d53 A51 D51 A53 D53 c51 e51 c53 e53 s51 s53 (r51.on (below_new _ _)) (q51.on (below_new _ _)) (r53.on (below_new _ _)) (q53.on (below_new _ _)) ) ?_)); rintro e w5 ⟨n54, a54, A54, c54, d54, D54, e54, rfl, s54, r54, q54, b5⟩; (first | (guard_hyp b5 : Below w4.heap.size w4 w5; have dd5 : Below w4.heap.size w4 w5 := b5; have K5 := below_next K4 (Nat.le_refl _) b5; (try (have kX := kX.on dd5; have kX1 := kX.lt; obtain ⟨o0, o1, o2, o3, o4, o5⟩ := kX.facts))) | (obtain ⟨kX, sz⟩ := got13 b5; have kX1 := kX.lt; obtain ⟨o0, o1, o2, o3, o4, o5⟩ := kX.facts; have dd5 : Below w4.heap.size w4 w5 := (below_new w4 _).trans (b5.mono (by simp)); have K5 := below_next (keep_one K4 _) (Nat.le_refl _) b5)); have z5 : w4.heap.size ≤ w5.heap.size := dd5.size)))
    all_goals
      have hsz : W.heap.size ≤ w5.heap.size := K5.size
      go_wp2_with fail
      go_meet
      refine ⟨_, n54, a54, A54, c54, d54, D54, e54, rfl, ⟨s54, by first | omega | exact K5.size⟩, ?_⟩
      first
        | (with_reducible exact oneF K5 _ _ _ r54 q54)
        | (with_reducible exact oneG kX (by omega) K5 _ _ _ r54 q54)
  case rest =>
    obtain ⟨g7, n54, a54, A54, c54, d54, D54, e54, rfl, ⟨s54, hge⟩, k7, ⟨r54, q54⟩, B7⟩ := hcut
    obtain ⟨wd, hwd⟩ : ∃ x, x = wc := ⟨_, rfl⟩
    subst hwd
    obtain ⟨⟨s1, s2⟩, ⟨s3, s4⟩, ⟨s5, s6⟩⟩ := HS.out
    obtain ⟨⟨⟨r1, q1⟩, ⟨r2, q2⟩⟩, ⟨⟨r3, q3⟩, ⟨r4, q4⟩⟩, ⟨⟨r5, q5⟩, ⟨r6, q6⟩⟩⟩ := HR.out
    have x5 := X5.out
    have x6 := X6.out
    have x7 := X7.out
    have C5 := Lib.hid (fun (V : World) (hV : Below wd.heap.size wd V) => x5 n2 n4 a2 d2 a4 d4 A2 D2 A4 D4 c2 e2 c4 e4 V s2 s4 ((r2.on (HB0.out.trans (B7.mono HB0.out.size))).on hV) ((q2.on (HB0.out.trans (B7.mono HB0.out.size))).on hV) ((r4.on (HB0.out.trans (B7.mono HB0.out.size))).on hV) ((q4.on (HB0.out.trans (B7.mono HB0.out.size))).on hV))
    have C6 := Lib.hid (fun (V : World) (hV : Below wd.heap.size wd V) (n55 : Bool) (a55 d55 : List Nat) (A55 D55 : Option Addr) (c55 e55 : Nat) (s55 : V5 n55 a55 c55 d55 e55) (r55 : Rd V (fun g => g < V.heap.size) .u32 A55 a55) (q55 : Rd V (fun g => g < V.heap.size) .u32 D55 d55) => x6 n5 n55 a5 d5 a55 d55 A5 D5 A55 D55 c5 e5 c55 e55 V s5 s55 ((r5.on (HB0.out.trans (B7.mono HB0.out.size))).on hV) ((q5.on (HB0.out.trans (B7.mono HB0.out.size))).on hV) r55 q55)
    have C7 := Lib.hid (fun (V : World) (hV : Below wd.heap.size wd V) (n56 : Bool) (a56 d56 : List Nat) (A56 D56 : Option Addr) (c56 e56 : Nat) (s56 : V6 n56 a56 c56 d56 e56) (r56 : Rd V (fun g => g < V.heap.size) .u32 A56 a56) (q56 : Rd V (fun g => g < V.heap.size) .u32 D56 d56) => x7 n54 n56 a54 d54 a56 d56 A54 D54 A56 D56 c54 e54 c56 e56 V s54 s56 (r54.on hV) (q54.on hV) r56 q56)
    have H1 := Lib.hid (H1.out.on B7)
    have H2 := Lib.hid (H2.out.on B7)
    have H3 := Lib.hid (H3.out.on B7)
    have H7 := Lib.hid k7
    have HKR := Lib.hid (HKR.out.on B7)
    have HB7 := Lib.hid (HB0.out.trans (B7.mono HB0.out.size))
    have hl1 : w.heap.size + 1 + 1 + 1 < wd.heap.size := HKR.out.lt
    have hg7 : w.heap.size + 1 + 1 + 1 < g7 := by omega
    obtain ⟨x00, x01, x02, x03, x04, x05⟩ := H1.out.facts6.1
    obtain ⟨x10, x11, x12, x13, x14, x15⟩ := H2.out.facts6.1
    obtain ⟨x20, x21, x22, x23, x24, x25⟩ := H3.out.facts6.1
    obtain ⟨y0, y1, y2, -, -, -⟩ := k7.facts
    have K0 : Below wd.heap.size wd wd.drew := below_drewN (Below.refl _ _) 1
    clear k7 B7 x5 x6 x7 X5 X6 X7 C0 C1 C2 C3 C4 s54 r54 q54 HB0 s1 r1 q1 s2 r2 q2 s3 r3 q3 s4 r4 q4 s5 r5 q5 s6 r6 q6
    go_wp2_with fail
    go_region_held3 (fun w' => (w'.cell? ⟨w.heap.size, 0, none⟩ = some (.bool n1) ∧ w'.cell? ⟨w.heap.size, 1, none⟩ = some (.slice A1 a1.length c1) ∧ w'.cell? ⟨w.heap.size, 2, none⟩ = some (.slice D1 d1.length e1) ∧ w'.cell? ⟨w.heap.size, 3, none⟩ = some (.bool n2) ∧ w'.cell? ⟨w.heap.size, 4, none⟩ = some (.slice A2 a2.length c2) ∧ w'.cell? ⟨w.heap.size, 5, none⟩ = some (.slice D2 d2.length e2)) ∧ (w'.cell? ⟨w.heap.size + 1, 0, none⟩ = some (.bool n3) ∧ w'.cell? ⟨w.heap.size + 1, 1, none⟩ = some (.slice A3 a3.length c3) ∧ w'.cell? ⟨w.heap.size + 1, 2, none⟩ = some (.slice D3 d3.length e3) ∧ w'.cell? ⟨w.heap.size + 1, 3, none⟩ = some (.bool n4) ∧ w'.cell? ⟨w.heap.size + 1, 4, none⟩ = some (.slice A4 a4.length c4) ∧ w'.cell? ⟨w.heap.size + 1, 5, none⟩ = some (.slice D4 d4.length e4)) ∧ (w'.cell? ⟨w.heap.size + 1 + 1, 0, none⟩ = some (.bool n5) ∧ w'.cell? ⟨w.heap.size + 1 + 1, 1, none⟩ = some (.slice A5 a5.length c5) ∧ w'.cell? ⟨w.heap.size + 1 + 1, 2, none⟩ = some (.slice D5 d5.length e5) ∧ w'.cell? ⟨w.heap.size + 1 + 1, 3, none⟩ = some (.bool n6) ∧ w'.cell? ⟨w.heap.size + 1 + 1, 4, none⟩ = some (.slice A6 a6.length c6) ∧ w'.cell? ⟨w.heap.size + 1 + 1, 5, none⟩ = some (.slice D6 d6.length e6)) ∧ (w'.cell? ⟨g7, 0, none⟩ = some (.bool n54) ∧ w'.cell? ⟨g7, 1, none⟩ = some (.slice A54 a54.length c54) ∧ w'.cell? ⟨g7, 2, none⟩ = some (.slice D54 d54.length e54)))
      (first | (with_reducible exact ⟨kept6 H1.out K0, kept6 H2.out K0, kept6 H3.out K0, keep3 H7.out K0⟩) | (with_reducible exact ⟨kept6 H1.out K1, kept6 H2.out K1, kept6 H3.out K1, keep3 H7.out K1⟩) | (with_reducible exact ⟨kept6 H1.out K2, kept6 H2.out K2, kept6 H3.out K2, keep3 H7.out K2⟩) | (with_reducible exact ⟨kept6 H1.out K3, kept6 H2.out K3, kept6 H3.out K3, keep3 H7.out K3⟩) | (with_reducible exact ⟨far63 (H1.out.on K3) (by omega) _ _ _, far63 (H2.out.on K3) (by omega) _ _ _, far63 (H3.out.on K3) (by omega) _ _ _, far33 (H7.out.on K3) (by omega) _ _ _⟩) | go_keep)
      ((first
        | (go_at_call_of 43 (Value.slice A4 a4.length c4); (with_reducible refine Calls.mono (C5.out _ K0) ?_); rintro e w1 ⟨n55, a55, A55, c55, d55, D55, e55, rfl, s55, r55, q55, b1⟩; have K1 := below_next K0 (Nat.le_refl _) b1)
        | (go_at_call_of 75 (Value.slice A5 a5.length c5); (with_reducible refine Calls.mono (C6.out _ K1 n55 a55 d55 A55 D55 c55 e55 s55 r55 q55 ) ?_); rintro e w2 ⟨n56, a56, A56, c56, d56, D56, e56, rfl, s56, r56, q56, b2⟩; have K2 := below_next K1 (Nat.le_refl _) b2)
        | (go_at_call 74; (with_reducible refine Calls.mono (C7.out _ K2 n56 a56 d56 A56 D56 c56 e56 s56 r56 q56 ) ?_); rintro e w3 ⟨n57, a57, A57, c57, d57, D57, e57, rfl, s57, r57, q57, b3⟩; have K3 := below_next K2 (Nat.le_refl _) b3; obtain ⟨i0, i1, i2, j0, j1, j2⟩ := (HKR.out.on K3).facts)))
    obtain ⟨U, hU, u0, u1, u2, hG⟩ := fin_any (w := w) (HKR.out.on K3) (by omega) (HB7.out.trans (K3.mono HB7.out.size)) s57 r57 q57
    have HU := Lib.hid hU
    have HF := Lib.hid (And.intro u0 (And.intro u1 u2))
    have HG := Lib.hid hG
    clear hU u0 u1 u2 hG i0 i1 i2 j0 j1 j2 C5 C6 C7 s55 s56 s57 r55 r56 r57 q55 q56 q57
    go_wp2_with fail
    rw [HU.out]
    obtain ⟨u0, u1, u2⟩ := HF.out
    exact bodyPost_ret (by simp [results, Tryz.results40, go_sem, u0, u1, u2]) rfl HG.out
end Go.Proofs.YtdmoibphidipeaaGreatDoor
/- Spots: numbers: the area of three spots, who lies between whom. -/

namespace Go.Proofs.YtdmoibphidipeaaGreatDoor

theorem sgn_three (x : Int) : sgn x = -1 ∨ sgn x = 0 ∨ sgn x = 1 := by
  unfold sgn
  split
  · exact .inl rfl
  · split
    · exact .inr (.inr rfl)
    · exact .inr (.inl rfl)
theorem sgn_one {x : Int} (h : 0 < x) : sgn x = 1 := by unfold sgn; rw [if_neg (by omega), if_pos h]
theorem sgn_mone {x : Int} (h : x < 0) : sgn x = -1 := by unfold sgn; rw [if_pos h]
theorem sgn_neg_ (x : Int) : sgn (-x) = - sgn x := by
  rcases Int.lt_trichotomy x 0 with hx | hx | hx
  · rw [sgn_mone hx, sgn_one (by omega)]; rfl
  · subst hx; rfl
  · rw [sgn_one hx, sgn_mone (by omega)]
theorem sgn_mul_ (x y : Int) : sgn (x * y) = sgn x * sgn y := by
  rcases Int.lt_trichotomy x 0 with hx | hx | hx <;> rcases Int.lt_trichotomy y 0 with hy | hy | hy
  · rw [sgn_mone hx, sgn_mone hy, sgn_one (Int.mul_pos_of_neg_of_neg hx hy)]; rfl
  · subst hy; rw [Int.mul_zero, show sgn 0 = 0 from rfl, Int.mul_zero]
  · rw [sgn_mone hx, sgn_one hy, sgn_mone (Int.mul_neg_of_neg_of_pos hx hy)]; rfl
  · subst hx; rw [Int.zero_mul, show sgn 0 = 0 from rfl, Int.zero_mul]
  · subst hx; rw [Int.zero_mul, show sgn 0 = 0 from rfl, Int.zero_mul]
  · subst hx; rw [Int.zero_mul, show sgn 0 = 0 from rfl, Int.zero_mul]
  · rw [sgn_one hx, sgn_mone hy, sgn_mone (Int.mul_neg_of_pos_of_neg hx hy)]; rfl
  · subst hy; rw [Int.mul_zero, show sgn 0 = 0 from rfl, Int.mul_zero]
  · rw [sgn_one hx, sgn_one hy, sgn_one (Int.mul_pos hx hy)]; rfl
theorem lex_three {x y : Int} (hx : x = -1 ∨ x = 0 ∨ x = 1) (hy : y = -1 ∨ y = 0 ∨ y = 1) : lex x y = -1 ∨ lex x y = 0 ∨ lex x y = 1 := by
  unfold lex
  split
  · exact hy
  · exact hx
set_option maxHeartbeats 3200000 in
/-- one that lies on the line of two others lies between them just when it does so by both numbers -/
theorem on_signs {ux uy vx vy : Int} (h1 : ux = -1 ∨ ux = 0 ∨ ux = 1) (h2 : uy = -1 ∨ uy = 0 ∨ uy = 1) (h3 : vx = -1 ∨ vx = 0 ∨ vx = 1) (h4 : vy = -1 ∨ vy = 0 ∨ vy = 1) (h : ux * vy = uy * vx) : (0 ≤ lex ux uy * lex vx vy) ↔ (ux * -vx ≤ 0 ∧ uy * -vy ≤ 0) := by
  rcases h1 with rfl | rfl | rfl <;> rcases h2 with rfl | rfl | rfl <;> rcases h3 with rfl | rfl | rfl <;> rcases h4 with rfl | rfl | rfl <;> revert h <;> decide
theorem det_on (P1 P2 P3 P4 P5 P6 : Int) (Q1 Q2 Q3 Q4 Q5 Q6 : Nat) : (P1 * (Q5 : Int) - P5 * (Q1 : Int)) * (P6 * (Q4 : Int) - P4 * (Q6 : Int)) * ((Q2 : Int) * (Q3 : Int)) - (P2 * (Q6 : Int) - P6 * (Q2 : Int)) * (P5 * (Q3 : Int) - P3 * (Q5 : Int)) * ((Q1 : Int) * (Q4 : Int)) = - det P1 P2 P3 P4 P5 P6 Q1 Q2 Q3 Q4 Q5 Q6 := by
  unfold det
  grind
/-- the area's upper part, as the document reckons it -/
def areaN (P1 P2 P3 P4 P5 P6 : Int) (Q1 Q2 Q3 Q4 Q5 Q6 : Nat) : Int :=
  (P1 * (P4 * (Q6 : Int) - P6 * (Q4 : Int)) * ((Q3 * (Q6 * Q2) : Nat) : Int) + P3 * (P6 * (Q2 : Int) - P2 * (Q6 : Int)) * ((Q1 * (Q4 * Q6) : Nat) : Int)) * ((Q5 * (Q2 * Q4) : Nat) : Int) + P5 * (P2 * (Q4 : Int) - P4 * (Q2 : Int)) * ((Q1 * (Q4 * Q6) * (Q3 * (Q6 * Q2)) : Nat) : Int)
theorem area_det (P1 P2 P3 P4 P5 P6 : Int) (Q1 Q2 Q3 Q4 Q5 Q6 : Nat) : areaN P1 P2 P3 P4 P5 P6 Q1 Q2 Q3 Q4 Q5 Q6 = det P1 P2 P3 P4 P5 P6 Q1 Q2 Q3 Q4 Q5 Q6 * ((Q2 : Int) * (Q4 : Int) * (Q6 : Int)) := by
  unfold det areaN
  simp only [Int.natCast_mul]
  grind
theorem area_sgn {P1 P2 P3 P4 P5 P6 : Int} {Q1 Q2 Q3 Q4 Q5 Q6 : Nat} (h2 : 0 < Q2) (h4 : 0 < Q4) (h6 : 0 < Q6) : sgn (areaN P1 P2 P3 P4 P5 P6 Q1 Q2 Q3 Q4 Q5 Q6) = sgn (det P1 P2 P3 P4 P5 P6 Q1 Q2 Q3 Q4 Q5 Q6) := by
  have hp : (0 : Int) < (Q2 : Int) * (Q4 : Int) * (Q6 : Int) := Int.mul_pos (Int.mul_pos (by omega) (by omega)) (by omega)
  exact sgn_cross (y := (Q2 : Int) * (Q4 : Int) * (Q6 : Int)) (Q := 1) hp (by omega) (by rw [Int.mul_one]; exact area_det P1 P2 P3 P4 P5 P6 Q1 Q2 Q3 Q4 Q5 Q6)
/-- what the program asks of On is what the document asks -/
theorem on_same {P1 P2 P3 P4 P5 P6 : Int} {Q1 Q2 Q3 Q4 Q5 Q6 : Nat} (h1 : 0 < Q1) (h2 : 0 < Q2) (h3 : 0 < Q3) (h4 : 0 < Q4) (hd : sgn (det P1 P2 P3 P4 P5 P6 Q1 Q2 Q3 Q4 Q5 Q6) = 0) :
    (0 ≤ lex (sgn (P1 * (Q5 : Int) - P5 * (Q1 : Int))) (sgn (P2 * (Q6 : Int) - P6 * (Q2 : Int))) * lex (sgn (P5 * (Q3 : Int) - P3 * (Q5 : Int))) (sgn (P6 * (Q4 : Int) - P4 * (Q6 : Int)))) ↔
      (sgn (P1 * (Q5 : Int) - P5 * (Q1 : Int)) * sgn (P3 * (Q5 : Int) - P5 * (Q3 : Int)) ≤ 0 ∧ sgn (P2 * (Q6 : Int) - P6 * (Q2 : Int)) * sgn (P4 * (Q6 : Int) - P6 * (Q4 : Int)) ≤ 0) := by
  have e1 : sgn (P3 * (Q5 : Int) - P5 * (Q3 : Int)) = - sgn (P5 * (Q3 : Int) - P3 * (Q5 : Int)) := by rw [← sgn_neg_, Int.neg_sub]
  have e2 : sgn (P4 * (Q6 : Int) - P6 * (Q4 : Int)) = - sgn (P6 * (Q4 : Int) - P4 * (Q6 : Int)) := by rw [← sgn_neg_, Int.neg_sub]
  rw [e1, e2]
  refine on_signs (sgn_three _) (sgn_three _) (sgn_three _) (sgn_three _) ?_
  rw [← sgn_mul_, ← sgn_mul_]
  have h := det_on P1 P2 P3 P4 P5 P6 Q1 Q2 Q3 Q4 Q5 Q6
  rw [sgn_zero.1 hd] at h
  exact sgn_cross (y := (Q1 : Int) * (Q4 : Int)) (Q := (Q2 : Int) * (Q3 : Int)) (Int.mul_pos (by omega) (by omega)) (Int.mul_pos (by omega) (by omega)) (by omega)
end Go.Proofs.YtdmoibphidipeaaGreatDoor
/- Spots: contracts by what the parts are worth. -/

namespace Go.Proofs.YtdmoibphidipeaaGreatDoor
open Go.RowKit Num

theorem SI.widen {P : Int} {Q m m' : Nat} (hm : m ≤ m') {n : Bool} {a d : List Nat} {ca cd : Nat} (k : SI P Q m n a ca d cd) : SV P Q m' n a ca d cd := k.toV.wide hm
theorem fv_Cmp (P P' : Int) (Q Q' m : Nat) (hQ : 0 < Q) (hQ' : 0 < Q') (hm1 : 1 ≤ m) (hm : m ≤ 4194304) : Fi2 63 (SV P Q m) (SV P' Q' m) (sgn (P * (Q' : Int) - P' * (Q : Int))) :=
  fun n n' a d a' d' A D A' D' ca cd ca' cd' w hS hT r q r' q' => frac_Cmp (SV P Q m) (SV P' Q' m) P P' Q Q' m hQ hQ' hm (hold_V P Q m hm1 hm) (hold_V P' Q' m hm1 hm) n n' a d a' d' A D A' D' ca cd ca' cd' w hS hT r q r' q'
theorem rv_Cmp (P P' : Int) (Q Q' m : Nat) (hQ : 0 < Q) (hQ' : 0 < Q') (hm : m ≤ 2097152) : Fi2 41 (SV P Q m) (SV P' Q' m) (sgn (P * (Q' : Int) - P' * (Q : Int))) :=
  fun n n' a d a' d' A D A' D' ca cd ca' cd' w hS hT r q r' q' => by
    have h := ref4_Cmp n n' a d a' d' A D A' D' ca cd ca' cd' w r q r' q' (Nat.le_trans hS.2.2.2.2.1 hm) (Nat.le_trans hS.2.2.2.2.2.1 hm) (Nat.le_trans hT.2.2.2.2.1 hm) (Nat.le_trans hT.2.2.2.2.2.1 hm) hS.2.2.1 hS.2.2.2.1 hT.2.2.1 hT.2.2.2.1
    have p1 := loD_pos d
    have p2 := loD_pos d'
    rwa [sgn_cross (y := (loD d : Int) * (loD d' : Int)) (Q := (Q : Int) * (Q' : Int)) (Int.mul_pos (by omega) (by omega)) (Int.mul_pos (by omega) (by omega)) (cross_sub hS.2.2.2.2.2.2 hT.2.2.2.2.2.2)] at h
theorem rv_Sign (P : Int) (Q m : Nat) (hQ : 0 < Q) (hm : m ≤ 4194304) : Fi1 127 (SV P Q m) (sgn P) :=
  fun n a d A D ca cd w hS r q => by
    have h := ref4_Sign n a d A D ca cd w r q (Nat.le_trans hS.2.2.2.2.1 hm) (Nat.le_trans hS.2.2.2.2.2.1 hm) hS.2.2.1 hS.2.2.2.1
    have p1 := loD_pos d
    rwa [sgn_cross (y := (loD d : Int)) (Q := (Q : Int)) (by omega) (by omega) hS.2.2.2.2.2.2] at h
/-- a result that is not too great -/
theorem Fn2.fit {f : FuncId} {S S' : Shape} {P : Int} {Q m : Nat} (h : Fn2 f S S' (SF P Q)) (hQ : 0 < Q) {i j : Nat} (hP : P.natAbs < 4294967296 ^ i) (hi : i ≤ m) (hm : Q ≤ 4294967296 ^ j) (hj : j < m) : Fn2 f S S' (SV P Q m) :=
  h.imp (fun _ _ _ _ _ k => k) (fun _ _ _ _ _ k => k) fun _ _ _ _ _ k => k.toV hQ (Nat.lt_of_lt_of_le hP (Nat.pow_le_pow_right (by omega) hi)) (lt_of_le_pow hm hj)
set_option maxHeartbeats 1600000 in
/-- the sign of the area, as the document reckons it -/
theorem rv_Turn {P1 P2 P3 P4 P5 P6 : Int} {Q1 Q2 Q3 Q4 Q5 Q6 u1 u2 u3 u4 u5 u6 : Nat} (hu : u1 + u2 + u3 + u4 + u5 + u6 ≤ 1048570) (p1 : P1.natAbs < 4294967296 ^ u1) (p2 : P2.natAbs < 4294967296 ^ u2) (p3 : P3.natAbs < 4294967296 ^ u3) (p4 : P4.natAbs < 4294967296 ^ u4) (p5 : P5.natAbs < 4294967296 ^ u5) (p6 : P6.natAbs < 4294967296 ^ u6) (q1 : Q1 ≤ 4294967296 ^ u1) (q2 : Q2 ≤ 4294967296 ^ u2) (q3 : Q3 ≤ 4294967296 ^ u3) (q4 : Q4 ≤ 4294967296 ^ u4) (q5 : Q5 ≤ 4294967296 ^ u5) (q6 : Q6 ≤ 4294967296 ^ u6) (h1 : 0 < Q1) (h2 : 0 < Q2) (h3 : 0 < Q3) (h4 : 0 < Q4) (h5 : 0 < Q5) (h6 : 0 < Q6) :
    Si3 82 (SV P1 Q1 2097150) (SV P2 Q2 2097150) (SV P3 Q3 2097150) (SV P4 Q4 2097150) (SV P5 Q5 2097150) (SV P6 Q6 2097150) (sgn (det P1 P2 P3 P4 P5 P6 Q1 Q2 Q3 Q4 Q5 Q6)) := by
  have n0 := sub_lt p4 p6 q4 q6 (s := u4 + u6) (by omega) (by omega)
  have d0 := prod_le q4 q6 (Nat.le_refl _)
  have n1 := mulI_lt p1 n0 (Nat.le_refl _)
  have d1 := prod_le q1 d0 (Nat.le_refl _)
  have n2 := sub_lt p6 p2 q6 q2 (s := u6 + u2) (by omega) (by omega)
  have d2 := prod_le q6 q2 (Nat.le_refl _)
  have n3 := mulI_lt p3 n2 (Nat.le_refl _)
  have d3 := prod_le q3 d2 (Nat.le_refl _)
  have n4 := sum_lt n1 n3 d1 d3 (s := u1 + u3 + u6 + u6 + u4 + u2 + 1) (by omega) (by omega)
  have d4 := prod_le d1 d3 (Nat.le_refl _)
  have n5 := sub_lt p2 p4 q2 q4 (s := u2 + u4) (by omega) (by omega)
  have d5 := prod_le q2 q4 (Nat.le_refl _)
  have n6 := mulI_lt p5 n5 (Nat.le_refl _)
  have d6 := prod_le q5 d5 (Nat.le_refl _)
  have n7 := sum_lt n4 n6 d4 d6 (s := 4000000) (by omega) (by omega)
  have d7 := prod_le d4 d6 (Nat.le_refl _)
  have k0 := Nat.mul_pos h4 h6
  have k1 := Nat.mul_pos h1 k0
  have k2 := Nat.mul_pos h6 h2
  have k3 := Nat.mul_pos h3 k2
  have k4 := Nat.mul_pos k1 k3
  have k5 := Nat.mul_pos h2 h4
  have k6 := Nat.mul_pos h5 k5
  have k7 := Nat.mul_pos k4 k6
  have x0 := (rv_Sub P4 P6 Q4 Q6 2097150 h4 h6 (by omega)).fit (m := 2097150) k0 n0 (by omega) d0 (by omega)
  have x1 := (rv_Mul P1 _ Q1 _ 2097150 h1 k0 (by omega)).fit (m := 2097150) k1 n1 (by omega) d1 (by omega)
  have x2 := (rv_Sub P6 P2 Q6 Q2 2097150 h6 h2 (by omega)).fit (m := 2097150) k2 n2 (by omega) d2 (by omega)
  have x3 := (rv_Mul P3 _ Q3 _ 2097150 h3 k2 (by omega)).fit (m := 2097150) k3 n3 (by omega) d3 (by omega)
  have x4 := (rv_Add _ _ _ _ 2097150 k1 k3 (by omega)).fit (m := 2097150) k4 n4 (by omega) d4 (by omega)
  have x5 := (rv_Sub P2 P4 Q2 Q4 2097150 h2 h4 (by omega)).fit (m := 2097150) k5 n5 (by omega) d5 (by omega)
  have x6 := (rv_Mul P5 _ Q5 _ 2097150 h5 k5 (by omega)).fit (m := 2097150) k6 n6 (by omega) d6 (by omega)
  have x7 := (rv_Add _ _ _ _ 2097150 k4 k6 (by omega)).fit (m := 4194304) k7 n7 (by omega) d7 (by omega)
  have hT := ref5_Turn (ref5_Area x0 x1 x2 x3 x4 x5 x6 x7) (rv_Sign _ _ 4194304 k7 (Nat.le_refl _))
  have e := area_sgn (P1 := P1) (P2 := P2) (P3 := P3) (P4 := P4) (P5 := P5) (P6 := P6) (Q1 := Q1) (Q3 := Q3) (Q5 := Q5) h2 h4 h6
  unfold areaN at e
  rwa [e] at hT
/-- how two spots stand -/
theorem fv_SCmp {P1 P2 P3 P4 : Int} {Q1 Q2 Q3 Q4 m : Nat} (hm1 : 1 ≤ m) (hm : m ≤ 4194304) (h1 : 0 < Q1) (h2 : 0 < Q2) (h3 : 0 < Q3) (h4 : 0 < Q4) : Si2 32 (SV P1 Q1 m) (SV P2 Q2 m) (SV P3 Q3 m) (SV P4 Q4 m) (lex (sgn (P1 * (Q3 : Int) - P3 * (Q1 : Int))) (sgn (P2 * (Q4 : Int) - P4 * (Q2 : Int)))) :=
  spot_Cmp (fv_Cmp P1 P3 Q1 Q3 m h1 h3 hm1 hm) (fv_Cmp P2 P4 Q2 Q4 m h2 h4 hm1 hm)
theorem rv_SCmp {P1 P2 P3 P4 : Int} {Q1 Q2 Q3 Q4 m : Nat} (hm : m ≤ 2097152) (h1 : 0 < Q1) (h2 : 0 < Q2) (h3 : 0 < Q3) (h4 : 0 < Q4) : Si2 47 (SV P1 Q1 m) (SV P2 Q2 m) (SV P3 Q3 m) (SV P4 Q4 m) (lex (sgn (P1 * (Q3 : Int) - P3 * (Q1 : Int))) (sgn (P2 * (Q4 : Int) - P4 * (Q2 : Int)))) :=
  ref5_Cmp (rv_Cmp P1 P3 Q1 Q3 m h1 h3 hm) (rv_Cmp P2 P4 Q2 Q4 m h2 h4 hm)
/-- is a spot on a way: what both ask -/
def onB (P1 P2 P3 P4 P5 P6 : Int) (Q1 Q2 Q3 Q4 Q5 Q6 : Nat) : Bool := decide (0 ≤ lex (sgn (P1 * (Q5 : Int) - P5 * (Q1 : Int))) (sgn (P2 * (Q6 : Int) - P6 * (Q2 : Int))) * lex (sgn (P5 * (Q3 : Int) - P3 * (Q5 : Int))) (sgn (P6 * (Q4 : Int) - P4 * (Q6 : Int)))) && (sgn (det P1 P2 P3 P4 P5 P6 Q1 Q2 Q3 Q4 Q5 Q6) == 0)
theorem rv_On {P1 P2 P3 P4 P5 P6 : Int} {Q1 Q2 Q3 Q4 Q5 Q6 u1 u2 u3 u4 u5 u6 : Nat} (hu : u1 + u2 + u3 + u4 + u5 + u6 ≤ 1048570) (p1 : P1.natAbs < 4294967296 ^ u1) (p2 : P2.natAbs < 4294967296 ^ u2) (p3 : P3.natAbs < 4294967296 ^ u3) (p4 : P4.natAbs < 4294967296 ^ u4) (p5 : P5.natAbs < 4294967296 ^ u5) (p6 : P6.natAbs < 4294967296 ^ u6) (q1 : Q1 ≤ 4294967296 ^ u1) (q2 : Q2 ≤ 4294967296 ^ u2) (q3 : Q3 ≤ 4294967296 ^ u3) (q4 : Q4 ≤ 4294967296 ^ u4) (q5 : Q5 ≤ 4294967296 ^ u5) (q6 : Q6 ≤ 4294967296 ^ u6) (h1 : 0 < Q1) (h2 : 0 < Q2) (h3 : 0 < Q3) (h4 : 0 < Q4) (h5 : 0 < Q5) (h6 : 0 < Q6) : Sb3 45 (SV P1 Q1 2097150) (SV P2 Q2 2097150) (SV P3 Q3 2097150) (SV P4 Q4 2097150) (SV P5 Q5 2097150) (SV P6 Q6 2097150) (onB P1 P2 P3 P4 P5 P6 Q1 Q2 Q3 Q4 Q5 Q6) := by
  refine ref5_On ?_ (rv_Turn hu p1 p2 p3 p4 p5 p6 q1 q2 q3 q4 q5 q6 h1 h2 h3 h4 h5 h6)
    (ref5_between (sgn_three _) (sgn_three _) rfl (rv_Cmp P1 P5 Q1 Q5 2097150 h1 h5 (by omega)) (rv_Cmp P3 P5 Q3 Q5 2097150 h3 h5 (by omega)))
    (ref5_between (sgn_three _) (sgn_three _) rfl (rv_Cmp P2 P6 Q2 Q6 2097150 h2 h6 (by omega)) (rv_Cmp P4 P6 Q4 Q6 2097150 h4 h6 (by omega)))
  unfold onB
  by_cases hd : sgn (det P1 P2 P3 P4 P5 P6 Q1 Q2 Q3 Q4 Q5 Q6) = 0
  · rw [decide_eq_decide.2 (on_same h1 h2 h3 h4 hd), hd, Bool.decide_and]
    simp
  · have e : (sgn (det P1 P2 P3 P4 P5 P6 Q1 Q2 Q3 Q4 Q5 Q6) == 0) = false := by simpa using hd
    rw [e]; simp
end Go.Proofs.YtdmoibphidipeaaGreatDoor
/- Rows of spots: two rows that rise and hold the same classes are the same, class by class; what insertion and what sorting and cutting leave. -/
namespace Go.Proofs.YtdmoibphidipeaaGreatDoor.rows

/-- an order on indices, in which two may be equal -/
structure Ord (cf : Nat → Nat → Int) : Prop where
  anti : ∀ i j, cf j i = - cf i j
  trans : ∀ i j k, cf i j ≤ 0 → cf j k ≤ 0 → cf i k ≤ 0
variable {cf : Nat → Nat → Int}
theorem Ord.self (h : Ord cf) (i : Nat) : cf i i = 0 := by have := h.anti i i; omega
theorem Ord.lt_of_lt_le (h : Ord cf) {i j k : Nat} (h1 : cf i j < 0) (h2 : cf j k ≤ 0) : cf i k < 0 := by
  have h3 := h.trans i j k (by omega) h2
  rcases Int.lt_or_le (cf i k) 0 with h4 | h4
  · exact h4
  · have h5 := h.trans j k i h2 (by have := h.anti i k; omega)
    have := h.anti i j; omega
theorem Ord.lt_of_le_lt (h : Ord cf) {i j k : Nat} (h1 : cf i j ≤ 0) (h2 : cf j k < 0) : cf i k < 0 := by
  have h3 := h.trans i j k h1 (by omega)
  rcases Int.lt_or_le (cf i k) 0 with h4 | h4
  · exact h4
  · have h5 := h.trans k i j (by have := h.anti i k; omega) h1
    have := h.anti j k; omega
theorem Ord.eq_left (h : Ord cf) {i j : Nat} (k : Nat) (e : cf i j = 0) : (cf i k < 0 ↔ cf j k < 0) ∧ (cf i k = 0 ↔ cf j k = 0) := by
  have e' : cf j i = 0 := by have := h.anti i j; omega
  have a : cf i k < 0 ↔ cf j k < 0 := ⟨fun x => h.lt_of_le_lt (by omega) x, fun x => h.lt_of_le_lt (by omega) x⟩
  have b : cf i k ≤ 0 ↔ cf j k ≤ 0 := ⟨fun x => h.trans j i k (by omega) x, fun x => h.trans i j k (by omega) x⟩
  omega
/-- rising: each below all behind it -/
def Rising (cf : Nat → Nat → Int) (l : List Nat) : Prop := l.Pairwise fun a b => cf a b < 0
/-- class by class the same -/
def Alike (cf : Nat → Nat → Int) : List Nat → List Nat → Prop
  | [], [] => True
  | a :: l, b :: r => cf a b = 0 ∧ Alike cf l r
  | _, _ => False
theorem Alike.length : ∀ {l r : List Nat}, Alike cf l r → l.length = r.length
  | [], [], _ => rfl
  | [], _ :: _, h => h.elim
  | _ :: _, [], h => h.elim
  | _ :: _, _ :: _, h => by simp [Alike.length h.2]
/-- the document's insertion: what stands behind a place, and whether it is in already -/
def ins (cf : Nat → Nat → Int) (i : Nat) : List Nat → Bool → List Nat
  | [], b => if b then [] else [i]
  | o :: r, b => if cf i o < 0 ∧ b = false then i :: o :: ins cf i r true else if cf i o = 0 then o :: ins cf i r true else o :: ins cf i r b
theorem ins_true (i : Nat) : ∀ l : List Nat, ins cf i l true = l
  | [] => rfl
  | o :: r => by
    unfold ins
    rw [if_neg (by simp), ins_true i r]
    split <;> rfl
theorem ins_mem (i : Nat) : ∀ (l : List Nat) (b : Bool) (x : Nat), x ∈ ins cf i l b → x = i ∨ x ∈ l
  | [], b, x, hx => by
    unfold ins at hx
    split at hx
    · simp at hx
    · left; simpa using hx
  | o :: r, b, x, hx => by
    unfold ins at hx
    split at hx
    · rw [ins_true] at hx
      rcases List.mem_cons.1 hx with rfl | hx
      · exact .inl rfl
      · exact .inr hx
    · split at hx
      · rw [ins_true] at hx; exact .inr hx
      · rcases List.mem_cons.1 hx with rfl | hx
        · exact .inr (by simp)
        · rcases ins_mem i r b x hx with h | h
          · exact .inl h
          · exact .inr (List.mem_cons_of_mem _ h)
theorem mem_ins (i : Nat) : ∀ (l : List Nat) (b : Bool) (x : Nat), x ∈ l → x ∈ ins cf i l b
  | [], _, _, h => by simp at h
  | o :: r, b, x, hx => by
    unfold ins
    split
    · rw [ins_true]; exact List.mem_cons_of_mem _ hx
    · split
      · rw [ins_true]; exact hx
      · rcases List.mem_cons.1 hx with rfl | hx
        · simp
        · exact List.mem_cons_of_mem _ (mem_ins i r b x hx)
theorem ins_has (h : Ord cf) (i : Nat) : ∀ l : List Nat, ∃ x ∈ ins cf i l false, cf i x = 0
  | [] => ⟨i, by simp [ins], h.self i⟩
  | o :: r => by
    unfold ins
    split
    · exact ⟨i, by simp, h.self i⟩
    · split
      · rename_i e; exact ⟨o, by simp, e⟩
      · obtain ⟨x, hx, e⟩ := ins_has h i r
        exact ⟨x, List.mem_cons_of_mem _ hx, e⟩
theorem ins_rising (h : Ord cf) (i : Nat) : ∀ l : List Nat, Rising cf l → Rising cf (ins cf i l false)
  | [], _ => by simp [ins, Rising]
  | o :: r, hl => by
    have hl' := List.pairwise_cons.1 hl
    unfold ins
    split
    · rename_i e
      rw [ins_true]
      refine List.pairwise_cons.2 ⟨fun x hx => ?_, hl⟩
      rcases List.mem_cons.1 hx with rfl | hx
      · exact e.1
      · exact h.lt_of_lt_le e.1 (by have := hl'.1 x hx; omega)
    · split
      · rw [ins_true]; exact hl
      · rename_i e1 e2
        refine List.pairwise_cons.2 ⟨fun x hx => ?_, ins_rising h i r hl'.2⟩
        rcases ins_mem i r false x hx with rfl | hx
        · have := h.anti x o
          have : ¬ cf x o < 0 := fun hh => e1 ⟨hh, rfl⟩
          omega
        · exact hl'.1 x hx
theorem ins_length (i : Nat) : ∀ (l : List Nat) (b : Bool), (ins cf i l b).length ≤ l.length + 1
  | [], b => by unfold ins; split <;> simp
  | o :: r, b => by
    unfold ins
    split
    · rw [ins_true]; simp
    · split
      · rw [ins_true]; simp
      · have := ins_length i r b; simp; omega
/-- the document's row of the first n -/
def rowR (cf : Nat → Nat → Int) : Nat → List Nat
  | 0 => []
  | n + 1 => ins cf n (rowR cf n) false
theorem rowR_rising (h : Ord cf) : ∀ n, Rising cf (rowR cf n)
  | 0 => by simp [rowR, Rising]
  | n + 1 => ins_rising h n _ (rowR_rising h n)
theorem rowR_length : ∀ n, (rowR cf n).length ≤ n
  | 0 => by simp [rowR]
  | n + 1 => by
    have h1 := rowR_length n
    have h2 := ins_length (cf := cf) n (rowR cf n) false
    simp only [rowR]
    omega
theorem rowR_lt : ∀ n x, x ∈ rowR cf n → x < n
  | 0, x, hx => by simp [rowR] at hx
  | n + 1, x, hx => by
    rcases ins_mem n _ false x hx with rfl | hx
    · omega
    · have := rowR_lt n x hx; omega
theorem rowR_has (h : Ord cf) : ∀ n i, i < n → ∃ x ∈ rowR cf n, cf i x = 0
  | 0, i, hi => by omega
  | n + 1, i, hi => by
    by_cases e : i = n
    · subst e; exact ins_has h i _
    · obtain ⟨x, hx, e⟩ := rowR_has h n i (by omega)
      exact ⟨x, mem_ins n _ false x hx, e⟩
/-- the program's cut of a sorted row: who differs from the one ahead -/
def cut (cf : Nat → Nat → Int) : Option Nat → List Nat → List Nat
  | _, [] => []
  | none, x :: r => x :: cut cf (some x) r
  | some q, x :: r => if cf q x = 0 then cut cf (some x) r else x :: cut cf (some x) r
theorem cut_mem : ∀ (p : Option Nat) (l : List Nat) (x : Nat), x ∈ cut cf p l → x ∈ l
  | _, [], _, h => by cases ‹Option Nat› <;> simp [cut] at h
  | none, y :: r, x, h => by
    simp only [cut] at h
    rcases List.mem_cons.1 h with rfl | h
    · simp
    · exact List.mem_cons_of_mem _ (cut_mem _ r x h)
  | some q, y :: r, x, h => by
    simp only [cut] at h
    split at h
    · exact List.mem_cons_of_mem _ (cut_mem _ r x h)
    · rcases List.mem_cons.1 h with rfl | h
      · simp
      · exact List.mem_cons_of_mem _ (cut_mem _ r x h)
/-- all that is left lies above the one ahead -/
theorem cut_above (h : Ord cf) : ∀ (l : List Nat) (q : Nat), (q :: l).Pairwise (fun a b => cf a b ≤ 0) → ∀ x ∈ cut cf (some q) l, cf q x < 0
  | [], _, _, x, hx => by simp [cut] at hx
  | y :: r, q, hs, x, hx => by
    have hs' := List.pairwise_cons.1 hs
    have hqy := hs'.1 y (by simp)
    simp only [cut] at hx
    split at hx
    · rename_i e
      have := cut_above h r y hs'.2 x hx
      exact h.lt_of_le_lt hqy this
    · rename_i e
      rcases List.mem_cons.1 hx with rfl | hx
      · omega
      · have := cut_above h r y hs'.2 x hx
        exact h.lt_of_le_lt hqy this
theorem cut_rising (h : Ord cf) : ∀ (l : List Nat) (p : Option Nat), l.Pairwise (fun a b => cf a b ≤ 0) → Rising cf (cut cf p l)
  | [], p, _ => by cases p <;> simp [cut, Rising]
  | y :: r, none, hs => by
    simp only [cut]
    exact List.pairwise_cons.2 ⟨cut_above h r y hs, cut_rising h r _ (List.pairwise_cons.1 hs).2⟩
  | y :: r, some q, hs => by
    simp only [cut]
    split
    · exact cut_rising h r _ (List.pairwise_cons.1 hs).2
    · exact List.pairwise_cons.2 ⟨cut_above h r y hs, cut_rising h r _ (List.pairwise_cons.1 hs).2⟩
theorem cut_has (h : Ord cf) : ∀ (l : List Nat) (p : Option Nat) (x : Nat), x ∈ l → (∃ y ∈ cut cf p l, cf x y = 0) ∨ ∃ q, p = some q ∧ cf x q = 0
  | [], _, _, hx => by simp at hx
  | y :: r, p, x, hx => by
    have tail : x ∈ r → (∃ z ∈ cut cf (some y) r, cf x z = 0) ∨ cf x y = 0 := fun hr => by
      rcases cut_has h r (some y) x hr with h1 | ⟨q, e, e2⟩
      · exact .inl h1
      · cases e; exact .inr e2
    have all : (∃ z ∈ cut cf (some y) r, cf x z = 0) ∨ cf x y = 0 := by
      rcases List.mem_cons.1 hx with rfl | hr
      · exact .inr (h.self _)
      · exact tail hr
    match p with
    | none =>
      simp only [cut]
      rcases all with ⟨z, hz, e⟩ | e
      · exact .inl ⟨z, List.mem_cons_of_mem _ hz, e⟩
      · exact .inl ⟨y, by simp, e⟩
    | some q =>
      simp only [cut]
      split
      · rename_i eq
        rcases all with ⟨z, hz, e⟩ | e
        · exact .inl ⟨z, hz, e⟩
        · refine .inr ⟨q, rfl, ?_⟩
          have := (h.eq_left q e).2
          have := h.anti q y
          omega
      · rcases all with ⟨z, hz, e⟩ | e
        · exact .inl ⟨z, List.mem_cons_of_mem _ hz, e⟩
        · exact .inl ⟨y, by simp, e⟩
end Go.Proofs.YtdmoibphidipeaaGreatDoor.rows
/- Rows of spots: a spot's words by name, a row of spots that is read; the closure that compares two places. -/

namespace Go.Proofs.YtdmoibphidipeaaGreatDoor
open Go.RowKit Num
open Go.Sort (grow)

/-- a spot as it lies in memory -/
structure Sp where
  n1 : Bool
  a1 : List Nat
  A1 : Option Addr
  c1 : Nat
  d1 : List Nat
  D1 : Option Addr
  e1 : Nat
  n2 : Bool
  a2 : List Nat
  A2 : Option Addr
  c2 : Nat
  d2 : List Nat
  D2 : Option Addr
  e2 : Nat
def Sp.cells (s : Sp) : List Value := [.bool s.n1, .slice s.A1 s.a1.length s.c1, .slice s.D1 s.d1.length s.e1, .bool s.n2, .slice s.A2 s.a2.length s.c2, .slice s.D2 s.d2.length s.e2]
/-- its words are read -/
def Sp.Ok (w : World) (s : Sp) : Prop := (Rd w (fun g => g < w.heap.size) .u32 s.A1 s.a1 ∧ Rd w (fun g => g < w.heap.size) .u32 s.D1 s.d1) ∧ (Rd w (fun g => g < w.heap.size) .u32 s.A2 s.a2 ∧ Rd w (fun g => g < w.heap.size) .u32 s.D2 s.d2)
/-- of at most m words each -/
def Sp.Sh (m : Nat) (s : Sp) : Prop := SI (upN s.n1 s.a1 s.d1) (loD s.d1) m s.n1 s.a1 s.c1 s.d1 s.e1 ∧ SI (upN s.n2 s.a2 s.d2) (loD s.d2) m s.n2 s.a2 s.c2 s.d2 s.e2
theorem Sp.Ok.on {w w' : World} {s : Sp} (h : s.Ok w) (b : Below w.heap.size w w') : s.Ok w' := ⟨⟨h.1.1.on b, h.1.2.on b⟩, h.2.1.on b, h.2.2.on b⟩
/-- how two stand -/
def cmpS (s t : Sp) : Int := lex (sgn (upN s.n1 s.a1 s.d1 * (loD t.d1 : Int) - upN t.n1 t.a1 t.d1 * (loD s.d1 : Int))) (sgn (upN s.n2 s.a2 s.d2 * (loD t.d2 : Int) - upN t.n2 t.a2 t.d2 * (loD s.d2 : Int)))
/-- a row of spots that is read -/
def RdS (w : World) (A : Option Addr) (L : List Sp) : Prop := 0 < L.length → ∃ b o, A = some ⟨b, o, none⟩ ∧ b < w.heap.size ∧ ∀ (i : Nat) (h : i < L.length) (j : Nat) (u : Value), (L[i].cells)[j]? = some u → w.cell? ⟨b, o + i * 6 + j, none⟩ = some u
theorem RdS.on {w w' : World} {A : Option Addr} {L : List Sp} (h : RdS w A L) (b : Below w.heap.size w w') : RdS w' A L := fun hn => by
  obtain ⟨g, o, e, hg, hc⟩ := h hn
  exact ⟨g, o, e, Nat.lt_of_lt_of_le hg b.size, fun i hi j u hu => (b.cell (p := ⟨g, o + i * 6 + j, none⟩) hg).trans (hc i hi j u hu)⟩

set_option maxRecDepth 100000 in
set_option maxHeartbeats 3200000 in
/-- the closure that compares two places -/
theorem spot_Row1 (L : List Sp) (A : Option Addr) (cap gl m : Nat) (V : World) (hm1 : 1 ≤ m) (hm : m ≤ 4194304) (hbox : V.cell? ⟨gl, 0, none⟩ = some (.slice A L.length cap)) (hl : RdS V A L) (hok : ∀ s ∈ L, s.Ok V) (hsh : ∀ s ∈ L, s.Sh m) (hlen : L.length ≤ 1073741824) (i j : Nat) (hi : i < L.length) (hj : j < L.length) :
    Calls Tryz.prog 70 #[.int .i64 i, .int .i64 j, .pointer (some ⟨gl, 0, none⟩)] V fun e w' => e = .returned (.int .i64 (cmpS L[i] L[j])) ∧ Below V.heap.size V w' := by
  obtain ⟨b, o, rfl, hb, hc⟩ := hl (by omega)
  have o1 := hok _ (List.getElem_mem hi)
  have o2 := hok _ (List.getElem_mem hj)
  have h1 := hsh _ (List.getElem_mem hi)
  have h2 := hsh _ (List.getElem_mem hj)
  have k1 := hc i hi
  have k2 := hc j hj
  generalize L[i] = s at o1 h1 k1 ⊢
  generalize L[j] = t at o2 h2 k2 ⊢
  obtain ⟨n1, a1, A1, c1, d1, D1, e1, n2, a2, A2, c2, d2, D2, e2⟩ := s
  obtain ⟨n3, a3, A3, c3, d3, D3, e3, n4, a4, A4, c4, d4, D4, e4⟩ := t
  have x0 := cell_regrown (k1 0 _ rfl)
  have x1 := cell_regrown (k1 1 _ rfl)
  have x2 := cell_regrown (k1 2 _ rfl)
  have x3 := cell_regrown (k1 3 _ rfl)
  have x4 := cell_regrown (k1 4 _ rfl)
  have x5 := cell_regrown (k1 5 _ rfl)
  have y0 := cell_regrown (k2 0 _ rfl)
  have y1 := cell_regrown (k2 1 _ rfl)
  have y2 := cell_regrown (k2 2 _ rfl)
  have y3 := cell_regrown (k2 3 _ rfl)
  have y4 := cell_regrown (k2 4 _ rfl)
  have y5 := cell_regrown (k2 5 _ rfl)
  have z0 := cell_regrown hbox
  simp only [Nat.add_zero] at x0 y0
  have cX := fun (U : World) (hU : Below V.heap.size V U) => fv_SCmp hm1 hm (loD_pos d1) (loD_pos d2) (loD_pos d3) (loD_pos d4) n1 n2 n3 n4 a1 d1 a2 d2 a3 d3 a4 d4 A1 D1 A2 D2 A3 D3 A4 D4 c1 e1 c2 e2 c3 e3 c4 e4 U h1.1.toV h1.2.toV h2.1.toV h2.2.toV (o1.1.1.on hU) (o1.1.2.on hU) (o1.2.1.on hU) (o1.2.2.on hU) (o2.1.1.on hU) (o2.1.2.on hU) (o2.2.1.on hU) (o2.2.2.on hU)
  have CX := quiet_of cX
  have hz : cmpS ⟨n1, a1, A1, c1, d1, D1, e1, n2, a2, A2, c2, d2, D2, e2⟩ ⟨n3, a3, A3, c3, d3, D3, e3, n4, a4, A4, c4, d4, D4, e4⟩ = lex (sgn (upN n1 a1 d1 * (loD d3 : Int) - upN n3 a3 d3 * (loD d1 : Int))) (sgn (upN n2 a2 d2 * (loD d4 : Int) - upN n4 a4 d4 * (loD d2 : Int))) := rfl
  rw [hz]
  generalize lex (sgn (upN n1 a1 d1 * (loD d3 : Int) - upN n3 a3 d3 * (loD d1 : Int))) (sgn (upN n2 a2 d2 * (loD d4 : Int) - upN n4 a4 d4 * (loD d2 : Int))) = z at CX ⊢
  clear hz cX hc k1 k2 o1 o2 h1 h2 hok hsh hm1 hm hb
  go_enter Tryz.func70, Tryz.ntmps70
  go_wp2_with fail
  refine wp_region_quiet_below (by kernel_rfl) (by kernel_rfl) ?_
  quiet_step (fail)
  quiet_step (fail)
  quiet_step (fail)
  quiet_step (fail)
  quiet_step (fail)
  quiet_step (fail)
  quiet_step (fail)
  quiet_step (fail)
  quiet_step (with_reducible exact CX _ _)
  quiet_step (fail)
  refine wpQuiet_nil ?_
  intro _ hw'
  obtain ⟨⟨dq, osq⟩, hw''⟩ := hw'
  subst hw''
  go_wp2_with fail
  go_ret
  exact ⟨rfl, below_regrown V dq osq⟩
end Go.Proofs.YtdmoibphidipeaaGreatDoor
/- Rows of spots: what the document's own Row answers. -/

namespace Go.Proofs.YtdmoibphidipeaaGreatDoor
open Go.RowKit Num rows
open Go.Sort (grow)

instance : Inhabited Sp := ⟨⟨false, [], none, 0, [], none, 0, false, [], none, 0, [], none, 0⟩⟩
def flat (xs : List Sp) : List Value := xs.flatMap Sp.cells
theorem flat_snoc (xs : List Sp) (x : Sp) : flat (xs ++ [x]) = flat xs ++ x.cells := by simp [flat]
theorem cells_len (s : Sp) : s.cells.length = 6 := rfl
theorem cells_noint (s : Sp) : NoInt s.cells := fun v hv k n e => by subst e; simp [Sp.cells] at hv
theorem cells_one (s : Sp) : ∀ u ∈ s.cells, u.oneCell' = true := fun u hu => by
  simp only [Sp.cells, List.mem_cons, List.not_mem_nil, or_false] at hu
  rcases hu with rfl | rfl | rfl | rfl | rfl | rfl <;> rfl
theorem flat_getS : ∀ (xs : List Sp) (k : Nat) (h : k < xs.length) (j : Nat) (u : Value), j < 6 → (xs[k].cells)[j]? = some u → (flat xs)[k * 6 + j]? = some u
  | x :: xs, 0, _, j, u, hj, hu => by
    simp only [flat, List.flatMap_cons, Nat.zero_mul, Nat.zero_add]
    rw [List.getElem?_append_left (by rw [cells_len]; exact hj)]
    exact hu
  | x :: xs, k + 1, h, j, u, hj, hu => by
    simp only [flat, List.flatMap_cons]
    rw [List.getElem?_append_right (by rw [cells_len]; omega), cells_len, show (k + 1) * 6 + j - 6 = k * 6 + j by omega]
    exact flat_getS xs k (by simpa using h) j u hj (by simpa using hu)
/-- a reduced spot of the class of number i -/
def Is (L : List Sp) (M i : Nat) (s : Sp) : Prop := SG (upN (L.getD i default).n1 (L.getD i default).a1 (L.getD i default).d1) (loD (L.getD i default).d1) M s.n1 s.a1 s.c1 s.d1 s.e1 ∧ SG (upN (L.getD i default).n2 (L.getD i default).a2 (L.getD i default).d2) (loD (L.getD i default).d2) M s.n2 s.a2 s.c2 s.d2 s.e2
def Fits (L : List Sp) (M : Nat) (w : World) (O : List Nat) (xs : List Sp) : Prop := O.length = xs.length ∧ ∀ (k : Nat) (h : k < O.length) (h' : k < xs.length), Is L M O[k] xs[k] ∧ xs[k].Ok w
theorem Fits.nil (L : List Sp) (M : Nat) (w : World) : Fits L M w [] [] := ⟨rfl, fun k h => by simp at h⟩
theorem Fits.snoc {L : List Sp} {M : Nat} {w : World} {O : List Nat} {xs : List Sp} (h : Fits L M w O xs) {i : Nat} {x : Sp} (hi : Is L M i x) (hx : x.Ok w) : Fits L M w (O ++ [i]) (xs ++ [x]) := by
  refine ⟨by simp [h.1], fun k h1 h2 => ?_⟩
  rcases Nat.lt_or_ge k O.length with hk | hk
  · rw [List.getElem_append_left hk, List.getElem_append_left (by rw [← h.1]; exact hk)]
    exact h.2 k hk (by rw [← h.1]; exact hk)
  · have hk2 : k = O.length := by simp at h1; omega
    subst hk2
    rw [List.getElem_append_right (Nat.le_refl _)]
    have : (xs ++ [x])[O.length] = x := by
      rw [List.getElem_append_right (by rw [h.1]; exact Nat.le_refl _)]
      simp [h.1]
    rw [this]
    simpa using ⟨hi, hx⟩
theorem Fits.imp {L : List Sp} {M : Nat} {w w' : World} {O : List Nat} {xs : List Sp} (h : Fits L M w O xs) (hw : ∀ s : Sp, s.Ok w → s.Ok w') : Fits L M w' O xs := ⟨h.1, fun k h1 h2 => ⟨(h.2 k h1 h2).1, hw _ (h.2 k h1 h2).2⟩⟩
def cfL (L : List Sp) (i j : Nat) : Int := cmpS (L.getD i default) (L.getD j default)
theorem OwnS.ok {w w' : World} {base : Nat} {v : Value} {n : Nat} {xs : List Value} (h : OwnS w base v n xs) (hg : w.grownBy w' v.ownBlock) {s : Sp} (k : s.Ok w) : s.Ok w' := ⟨⟨h.rd hg k.1.1, h.rd hg k.1.2⟩, h.rd hg k.2.1, h.rd hg k.2.2⟩
/-- another row stays when this one grows -/
theorem OwnS.other {w w' : World} {base B : Nat} {v : Value} {n : Nat} {xs : List Value} {row : Option Nat} (h : OwnS w base v n xs) (hlt : ∀ k, v.ownBlock = some k → k < B) (hrow : ∀ k, row = some k → B ≤ k) (hg : w.grownBy w' row) : OwnS w' base v n xs := by
  refine ⟨h.1, h.2.1, ?_⟩
  rcases h.2.2 with hn | ⟨g, cap, cur, rfl, hbg, hgg, rest⟩
  · exact .inl hn
  · refine .inr ⟨g, cap, cur, rfl, hbg, ?_, rest⟩
    rw [hg.block g (Array.getElem?_eq_some_iff.1 hgg).1 (fun e => by
      have h1 := hlt g (by simp [Value.ownBlock])
      have h2 := hrow g e.symm
      omega)]
    exact hgg
theorem OwnS.form {w : World} {base : Nat} {v : Value} {n : Nat} {xs : List Value} (h : OwnS w base v n xs) (hn : 0 < n) : ∃ g cap, v = .slice (some ⟨g, 0, none⟩) n cap ∧ n ≤ cap := by
  rcases h.2.2 with ⟨rfl, e⟩ | ⟨g, cap, cur, rfl, -, -, hc, -⟩
  · omega
  · exact ⟨g, cap, rfl, hc⟩
theorem OwnS.any {w : World} {base : Nat} {v : Value} {n : Nat} {xs : List Value} (h : OwnS w base v n xs) : ∃ A cap, v = .slice A n cap ∧ n ≤ cap := by
  rcases h.2.2 with ⟨rfl, rfl⟩ | ⟨g, cap, cur, rfl, -, -, hc, -⟩
  · exact ⟨none, 0, rfl, Nat.le_refl _⟩
  · exact ⟨_, cap, rfl, hc⟩
theorem OwnS.reads {w : World} {base : Nat} {p : Option Addr} {cap : Nat} {xs : List Sp} (h : OwnS w base (.slice p xs.length cap) xs.length (flat xs)) : RdS w p xs := fun hn => by
  obtain ⟨g, cap', e, -⟩ := h.form hn
  cases e
  refine ⟨g, 0, rfl, (h.lt g rfl).2, fun i hi j u hu => ?_⟩
  have hj : j < 6 := by
    have := (List.getElem?_eq_some_iff.1 hu).1
    rwa [cells_len] at this
  rw [Nat.zero_add]
  exact h.cell _ (flat_getS xs i hi j u hj hu)
/-- one spot, reduced -/
theorem ref5_cleanI (L : List Sp) (m i : Nat) (hm : m + 1 ≤ 4194304) (s : Sp) (hs : L.getD i default = s) (hsh : s.Sh m) (V : World) (hok : s.Ok V) :
    Calls Tryz.prog 84 #[.agg #[.bool s.n1, .slice s.A1 s.a1.length s.c1, .slice s.D1 s.d1.length s.e1, .bool s.n2, .slice s.A2 s.a2.length s.c2, .slice s.D2 s.d2.length s.e2]] V (fun e w' => ∃ x : Sp, e = .returned (.agg #[.bool x.n1, .slice x.A1 x.a1.length x.c1, .slice x.D1 x.d1.length x.e1, .bool x.n2, .slice x.A2 x.a2.length x.c2, .slice x.D2 x.d2.length x.e2]) ∧ Is L (m + 1) i x ∧ x.Ok w' ∧ Below V.heap.size V w') := by
  have b1 : (upN s.n1 s.a1 s.d1).natAbs < 4294967296 ^ m := Nat.lt_of_lt_of_le (up_lt hsh.1.2.2.1) (Nat.pow_le_pow_right (by omega) hsh.1.2.2.2.2.1)
  have b2 : (upN s.n2 s.a2 s.d2).natAbs < 4294967296 ^ m := Nat.lt_of_lt_of_le (up_lt hsh.2.2.2.1) (Nat.pow_le_pow_right (by omega) hsh.2.2.2.2.2.1)
  have l1 : loD s.d1 ≤ 4294967296 ^ m := Nat.le_trans (loD_le hsh.1.2.2.2.1) (Nat.pow_le_pow_right (by omega) hsh.1.2.2.2.2.2.1)
  have l2 : loD s.d2 ≤ 4294967296 ^ m := Nat.le_trans (loD_le hsh.2.2.2.2.1) (Nat.pow_le_pow_right (by omega) hsh.2.2.2.2.2.2.1)
  have c1 : Fn1 102 (SV (upN s.n1 s.a1 s.d1) (loD s.d1) m) (SG (upN s.n1 s.a1 s.d1) (loD s.d1) (m + 1)) := (rv_Reduce _ _ m (loD_pos _) (by omega)).imp (fun _ _ _ _ _ k => k) fun _ _ _ _ _ k => k.toG (Nat.lt_of_lt_of_le b1 (Nat.pow_le_pow_right (by omega) (by omega))) (lt_of_le_pow l1 (by omega))
  have c2 : Fn1 102 (SV (upN s.n2 s.a2 s.d2) (loD s.d2) m) (SG (upN s.n2 s.a2 s.d2) (loD s.d2) (m + 1)) := (rv_Reduce _ _ m (loD_pos _) (by omega)).imp (fun _ _ _ _ _ k => k) fun _ _ _ _ _ k => k.toG (Nat.lt_of_lt_of_le b2 (Nat.pow_le_pow_right (by omega) (by omega))) (lt_of_le_pow l2 (by omega))
  refine (ref5_clean _ _ _ _ c1 c2 s.n1 s.n2 s.a1 s.d1 s.a2 s.d2 s.A1 s.D1 s.A2 s.D2 s.c1 s.e1 s.c2 s.e2 V hsh.1.toV hsh.2.toV hok.1.1 hok.1.2 hok.2.1 hok.2.2).mono ?_
  rintro e w' ⟨n1, a1, A1, c1, d1, D1, e1, n2, a2, A2, c2, d2, D2, e2, rfl, ⟨h1, h2⟩, h3, h4, h5⟩
  exact ⟨⟨n1, a1, A1, c1, d1, D1, e1, n2, a2, A2, c2, d2, D2, e2⟩, rfl, ⟨by rw [hs]; exact h1, by rw [hs]; exact h2⟩, ⟨h3, h4⟩, h5⟩
/-- the cells of a new block that holds one spot -/
theorem one_spot (w : World) (x : Sp) : ∀ j u, x.cells[j]? = some u → (w.alloc (.cells #[.bool x.n1, .slice x.A1 x.a1.length x.c1, .slice x.D1 x.d1.length x.e1, .bool x.n2, .slice x.A2 x.a2.length x.c2, .slice x.D2 x.d2.length x.e2] 41)).cell? ((⟨w.heap.size, 0, none⟩ : Addr).add j) = some u := by
  intro j u hu
  have hadd : (⟨w.heap.size, 0, none⟩ : Addr).add j = ⟨w.heap.size, j, none⟩ := by unfold Addr.add; split <;> simp_all
  rw [hadd]
  exact (Blk.new w 41 x.cells).cell j hu
end Go.Proofs.YtdmoibphidipeaaGreatDoor
