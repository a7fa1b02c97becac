/- Spots: how two stand, whether they are one, whether one is on a way: the program's own and the document's own. -/
import Derived.Test.YtkgedgaddpojkaaGreatDoorSpN
import Derived.Lib.QuietBelow
import Derived.BigQuiet
namespace Go.Proofs.YtkgedgaddpojkaaGreatDoor
open Go.RowKit Num
open Go.Sort (grow)

/-- contracts whose answer is an int or a bool -/
abbrev Fi1 (f : FuncId) (S1 : Shape) (z : Int) : Prop := ∀ (n1 : Bool) (a1 d1 : List Nat) (A1 D1 : Option Addr) (c1 e1 : Nat) (w : World), S1 n1 a1 c1 d1 e1 → Rd w (fun g => g < w.heap.size) .u32 A1 a1 → Rd w (fun g => g < w.heap.size) .u32 D1 d1 → Calls Tryz.prog f #[.agg #[.bool n1, .slice A1 a1.length c1, .slice D1 d1.length e1]] w fun e w' => e = .returned (.int .i64 z) ∧ Below w.heap.size w w'
abbrev Fi2 (f : FuncId) (S1 S2 : Shape) (z : Int) : Prop := ∀ (n1 n2 : Bool) (a1 d1 a2 d2 : List Nat) (A1 D1 A2 D2 : Option Addr) (c1 e1 c2 e2 : Nat) (w : World), S1 n1 a1 c1 d1 e1 → S2 n2 a2 c2 d2 e2 → Rd w (fun g => g < w.heap.size) .u32 A1 a1 → Rd w (fun g => g < w.heap.size) .u32 D1 d1 → Rd w (fun g => g < w.heap.size) .u32 A2 a2 → Rd w (fun g => g < w.heap.size) .u32 D2 d2 → Calls Tryz.prog f #[.agg #[.bool n1, .slice A1 a1.length c1, .slice D1 d1.length e1], .agg #[.bool n2, .slice A2 a2.length c2, .slice D2 d2.length e2]] w fun e w' => e = .returned (.int .i64 z) ∧ Below w.heap.size w w'
abbrev Fb2 (f : FuncId) (S1 S2 : Shape) (b : Bool) : Prop := ∀ (n1 n2 : Bool) (a1 d1 a2 d2 : List Nat) (A1 D1 A2 D2 : Option Addr) (c1 e1 c2 e2 : Nat) (w : World), S1 n1 a1 c1 d1 e1 → S2 n2 a2 c2 d2 e2 → Rd w (fun g => g < w.heap.size) .u32 A1 a1 → Rd w (fun g => g < w.heap.size) .u32 D1 d1 → Rd w (fun g => g < w.heap.size) .u32 A2 a2 → Rd w (fun g => g < w.heap.size) .u32 D2 d2 → Calls Tryz.prog f #[.agg #[.bool n1, .slice A1 a1.length c1, .slice D1 d1.length e1], .agg #[.bool n2, .slice A2 a2.length c2, .slice D2 d2.length e2]] w fun e w' => e = .returned (.bool b) ∧ Below w.heap.size w w'
abbrev Fb3 (f : FuncId) (S1 S2 S3 : Shape) (b : Bool) : Prop := ∀ (n1 n2 n3 : Bool) (a1 d1 a2 d2 a3 d3 : List Nat) (A1 D1 A2 D2 A3 D3 : Option Addr) (c1 e1 c2 e2 c3 e3 : Nat) (w : World), S1 n1 a1 c1 d1 e1 → S2 n2 a2 c2 d2 e2 → S3 n3 a3 c3 d3 e3 → Rd w (fun g => g < w.heap.size) .u32 A1 a1 → Rd w (fun g => g < w.heap.size) .u32 D1 d1 → Rd w (fun g => g < w.heap.size) .u32 A2 a2 → Rd w (fun g => g < w.heap.size) .u32 D2 d2 → Rd w (fun g => g < w.heap.size) .u32 A3 a3 → Rd w (fun g => g < w.heap.size) .u32 D3 d3 → Calls Tryz.prog f #[.agg #[.bool n1, .slice A1 a1.length c1, .slice D1 d1.length e1], .agg #[.bool n2, .slice A2 a2.length c2, .slice D2 d2.length e2], .agg #[.bool n3, .slice A3 a3.length c3, .slice D3 d3.length e3]] w fun e w' => e = .returned (.bool b) ∧ Below w.heap.size w w'
/-- the same, of spots -/
abbrev Si2 (f : FuncId) (S1 S2 S3 S4 : Shape) (z : Int) : Prop := ∀ (n1 n2 n3 n4 : Bool) (a1 d1 a2 d2 a3 d3 a4 d4 : List Nat) (A1 D1 A2 D2 A3 D3 A4 D4 : Option Addr) (c1 e1 c2 e2 c3 e3 c4 e4 : Nat) (w : World), S1 n1 a1 c1 d1 e1 → S2 n2 a2 c2 d2 e2 → S3 n3 a3 c3 d3 e3 → S4 n4 a4 c4 d4 e4 → Rd w (fun g => g < w.heap.size) .u32 A1 a1 → Rd w (fun g => g < w.heap.size) .u32 D1 d1 → Rd w (fun g => g < w.heap.size) .u32 A2 a2 → Rd w (fun g => g < w.heap.size) .u32 D2 d2 → Rd w (fun g => g < w.heap.size) .u32 A3 a3 → Rd w (fun g => g < w.heap.size) .u32 D3 d3 → Rd w (fun g => g < w.heap.size) .u32 A4 a4 → Rd w (fun g => g < w.heap.size) .u32 D4 d4 → Calls Tryz.prog f #[.agg #[.bool n1, .slice A1 a1.length c1, .slice D1 d1.length e1, .bool n2, .slice A2 a2.length c2, .slice D2 d2.length e2], .agg #[.bool n3, .slice A3 a3.length c3, .slice D3 d3.length e3, .bool n4, .slice A4 a4.length c4, .slice D4 d4.length e4]] w fun e w' => e = .returned (.int .i64 z) ∧ Below w.heap.size w w'
abbrev Sb2 (f : FuncId) (S1 S2 S3 S4 : Shape) (b : Bool) : Prop := ∀ (n1 n2 n3 n4 : Bool) (a1 d1 a2 d2 a3 d3 a4 d4 : List Nat) (A1 D1 A2 D2 A3 D3 A4 D4 : Option Addr) (c1 e1 c2 e2 c3 e3 c4 e4 : Nat) (w : World), S1 n1 a1 c1 d1 e1 → S2 n2 a2 c2 d2 e2 → S3 n3 a3 c3 d3 e3 → S4 n4 a4 c4 d4 e4 → Rd w (fun g => g < w.heap.size) .u32 A1 a1 → Rd w (fun g => g < w.heap.size) .u32 D1 d1 → Rd w (fun g => g < w.heap.size) .u32 A2 a2 → Rd w (fun g => g < w.heap.size) .u32 D2 d2 → Rd w (fun g => g < w.heap.size) .u32 A3 a3 → Rd w (fun g => g < w.heap.size) .u32 D3 d3 → Rd w (fun g => g < w.heap.size) .u32 A4 a4 → Rd w (fun g => g < w.heap.size) .u32 D4 d4 → Calls Tryz.prog f #[.agg #[.bool n1, .slice A1 a1.length c1, .slice D1 d1.length e1, .bool n2, .slice A2 a2.length c2, .slice D2 d2.length e2], .agg #[.bool n3, .slice A3 a3.length c3, .slice D3 d3.length e3, .bool n4, .slice A4 a4.length c4, .slice D4 d4.length e4]] w fun e w' => e = .returned (.bool b) ∧ Below w.heap.size w w'
abbrev Si3 (f : FuncId) (S1 S2 S3 S4 S5 S6 : Shape) (z : Int) : Prop := ∀ (n1 n2 n3 n4 n5 n6 : Bool) (a1 d1 a2 d2 a3 d3 a4 d4 a5 d5 a6 d6 : List Nat) (A1 D1 A2 D2 A3 D3 A4 D4 A5 D5 A6 D6 : Option Addr) (c1 e1 c2 e2 c3 e3 c4 e4 c5 e5 c6 e6 : Nat) (w : World), S1 n1 a1 c1 d1 e1 → S2 n2 a2 c2 d2 e2 → S3 n3 a3 c3 d3 e3 → S4 n4 a4 c4 d4 e4 → S5 n5 a5 c5 d5 e5 → S6 n6 a6 c6 d6 e6 → Rd w (fun g => g < w.heap.size) .u32 A1 a1 → Rd w (fun g => g < w.heap.size) .u32 D1 d1 → Rd w (fun g => g < w.heap.size) .u32 A2 a2 → Rd w (fun g => g < w.heap.size) .u32 D2 d2 → Rd w (fun g => g < w.heap.size) .u32 A3 a3 → Rd w (fun g => g < w.heap.size) .u32 D3 d3 → Rd w (fun g => g < w.heap.size) .u32 A4 a4 → Rd w (fun g => g < w.heap.size) .u32 D4 d4 → Rd w (fun g => g < w.heap.size) .u32 A5 a5 → Rd w (fun g => g < w.heap.size) .u32 D5 d5 → Rd w (fun g => g < w.heap.size) .u32 A6 a6 → Rd w (fun g => g < w.heap.size) .u32 D6 d6 → Calls Tryz.prog f #[.agg #[.bool n1, .slice A1 a1.length c1, .slice D1 d1.length e1, .bool n2, .slice A2 a2.length c2, .slice D2 d2.length e2], .agg #[.bool n3, .slice A3 a3.length c3, .slice D3 d3.length e3, .bool n4, .slice A4 a4.length c4, .slice D4 d4.length e4], .agg #[.bool n5, .slice A5 a5.length c5, .slice D5 d5.length e5, .bool n6, .slice A6 a6.length c6, .slice D6 d6.length e6]] w fun e w' => e = .returned (.int .i64 z) ∧ Below w.heap.size w w'
abbrev Sb3 (f : FuncId) (S1 S2 S3 S4 S5 S6 : Shape) (b : Bool) : Prop := ∀ (n1 n2 n3 n4 n5 n6 : Bool) (a1 d1 a2 d2 a3 d3 a4 d4 a5 d5 a6 d6 : List Nat) (A1 D1 A2 D2 A3 D3 A4 D4 A5 D5 A6 D6 : Option Addr) (c1 e1 c2 e2 c3 e3 c4 e4 c5 e5 c6 e6 : Nat) (w : World), S1 n1 a1 c1 d1 e1 → S2 n2 a2 c2 d2 e2 → S3 n3 a3 c3 d3 e3 → S4 n4 a4 c4 d4 e4 → S5 n5 a5 c5 d5 e5 → S6 n6 a6 c6 d6 e6 → Rd w (fun g => g < w.heap.size) .u32 A1 a1 → Rd w (fun g => g < w.heap.size) .u32 D1 d1 → Rd w (fun g => g < w.heap.size) .u32 A2 a2 → Rd w (fun g => g < w.heap.size) .u32 D2 d2 → Rd w (fun g => g < w.heap.size) .u32 A3 a3 → Rd w (fun g => g < w.heap.size) .u32 D3 d3 → Rd w (fun g => g < w.heap.size) .u32 A4 a4 → Rd w (fun g => g < w.heap.size) .u32 D4 d4 → Rd w (fun g => g < w.heap.size) .u32 A5 a5 → Rd w (fun g => g < w.heap.size) .u32 D5 d5 → Rd w (fun g => g < w.heap.size) .u32 A6 a6 → Rd w (fun g => g < w.heap.size) .u32 D6 d6 → Calls Tryz.prog f #[.agg #[.bool n1, .slice A1 a1.length c1, .slice D1 d1.length e1, .bool n2, .slice A2 a2.length c2, .slice D2 d2.length e2], .agg #[.bool n3, .slice A3 a3.length c3, .slice D3 d3.length e3, .bool n4, .slice A4 a4.length c4, .slice D4 d4.length e4], .agg #[.bool n5, .slice A5 a5.length c5, .slice D5 d5.length e5, .bool n6, .slice A6 a6.length c6, .slice D6 d6.length e6]] w fun e w' => e = .returned (.bool b) ∧ Below w.heap.size w w'
/-- by the first number, then by the second -/
def lex (x y : Int) : Int := if x = 0 then y else x
theorem quiet_of {W : World} {f : FuncId} {args : Array Value} {v : Value} (h : ∀ V : World, Below W.heap.size W V → Calls Tryz.prog f args V fun e w' => e = .returned v ∧ Below V.heap.size V w') (d : Nat) (os : Array Obj) : Calls Tryz.prog f args (grow (redrawn W d) os) fun e w'' => e = .returned v ∧ ∃ p : Regrown, w'' = grow (redrawn W p.d) p.os :=
  Calls.regrown_of (h _ (below_regrown W d os))

set_option maxRecDepth 100000 in
set_option maxHeartbeats 3200000 in
theorem spot_Cmp {S1 S2 S3 S4 : Shape} {z1 z2 : Int} (x1 : Fi2 40 S1 S3 z1) (x2 : Fi2 40 S2 S4 z2) : Si2 18 S1 S2 S3 S4 (lex z1 z2) := by
  intro n1 n2 n3 n4 a1 d1 a2 d2 a3 d3 a4 d4 A1 D1 A2 D2 A3 D3 A4 D4 c1 e1 c2 e2 c3 e3 c4 e4 w s1 s2 s3 s4 r1 q1 r2 q2 r3 q3 r4 q4
  obtain ⟨W, hW, k100, k101, b0, s0⟩ := bxb w 28 28 [.bool n1, .slice A1 a1.length c1, .slice D1 d1.length e1, .bool n2, .slice A2 a2.length c2, .slice D2 d2.length e2] [.bool n3, .slice A3 a3.length c3, .slice D3 d3.length e3, .bool n4, .slice A4 a4.length c4, .slice D4 d4.length e4]
  obtain ⟨⟨p00, p01, p02, p03, p04, p05⟩, -⟩ := k100.facts6
  obtain ⟨⟨p10, p11, p12, p13, p14, p15⟩, -⟩ := k101.facts6
  have cX := fun (V : World) (hV : Below W.heap.size W V) => x1 n1 n3 a1 d1 a3 d3 A1 D1 A3 D3 c1 e1 c3 e3 V s1 s3 ((r1.on b0).on hV) ((q1.on b0).on hV) ((r3.on b0).on hV) ((q3.on b0).on hV)
  have cY := fun (V : World) (hV : Below W.heap.size W V) => x2 n2 n4 a2 d2 a4 d4 A2 D2 A4 D4 c2 e2 c4 e4 V s2 s4 ((r2.on b0).on hV) ((q2.on b0).on hV) ((r4.on b0).on hV) ((q4.on b0).on hV)
  have HK0 := Lib.hid k100
  have HK1 := Lib.hid k101
  have HB0 := Lib.hid b0
  have CX := Lib.hid cX
  have CY := Lib.hid cY
  clear cX cY x1 x2 k100 k101 b0 s0 s1 r1 q1 s2 r2 q2 s3 r3 q3 s4 r4 q4
  by_cases hz : z1 = 0
  · subst hz
    rw [show lex 0 z2 = z2 from rfl]
    go_enter Tryz.func18, Tryz.ntmps18
    go_wp2_with fail
    try rw [hW]
    clear hW
    refine (CX.out _ (Below.refl _ _)).mono ?_
    rintro e w1 ⟨rfl, b1⟩
    obtain ⟨p00, p01, p02, p03, p04, p05⟩ := kept6 HK0.out b1
    obtain ⟨p10, p11, p12, p13, p14, p15⟩ := kept6 HK1.out b1
    go_wp2_with fail
    refine (CY.out _ b1).mono ?_
    rintro e w2 ⟨rfl, b2⟩
    go_wp2_with fail
    go_ret
    exact ⟨rfl, HB0.out.trans ((b1.trans (b2.mono b1.size)).mono HB0.out.size)⟩
  · have hzb : (z1 == 0) = false := by simpa using hz
    rw [show lex z1 z2 = z1 from if_neg hz]
    clear hz
    go_enter Tryz.func18, Tryz.ntmps18
    go_wp2_with fail
    try rw [hW]
    clear hW
    refine (CX.out _ (Below.refl _ _)).mono ?_
    rintro e w1 ⟨rfl, b1⟩
    obtain ⟨p00, p01, p02, p03, p04, p05⟩ := kept6 HK0.out b1
    obtain ⟨p10, p11, p12, p13, p14, p15⟩ := kept6 HK1.out b1
    go_wp2_with fail
    go_ret
    exact ⟨rfl, HB0.out.trans (b1.mono HB0.out.size)⟩

set_option maxRecDepth 100000 in
set_option maxHeartbeats 3200000 in
theorem ref5_Cmp {S1 S2 S3 S4 : Shape} {z1 z2 : Int} (x1 : Fi2 41 S1 S3 z1) (x2 : Fi2 41 S2 S4 z2) : Si2 19 S1 S2 S3 S4 (lex z1 z2) := by
  intro n1 n2 n3 n4 a1 d1 a2 d2 a3 d3 a4 d4 A1 D1 A2 D2 A3 D3 A4 D4 c1 e1 c2 e2 c3 e3 c4 e4 w s1 s2 s3 s4 r1 q1 r2 q2 r3 q3 r4 q4
  obtain ⟨W, hW, k100, k101, b0, s0⟩ := bxb w 28 28 [.bool n1, .slice A1 a1.length c1, .slice D1 d1.length e1, .bool n2, .slice A2 a2.length c2, .slice D2 d2.length e2] [.bool n3, .slice A3 a3.length c3, .slice D3 d3.length e3, .bool n4, .slice A4 a4.length c4, .slice D4 d4.length e4]
  obtain ⟨⟨p00, p01, p02, p03, p04, p05⟩, -⟩ := k100.facts6
  obtain ⟨⟨p10, p11, p12, p13, p14, p15⟩, -⟩ := k101.facts6
  have cX := fun (V : World) (hV : Below W.heap.size W V) => x1 n1 n3 a1 d1 a3 d3 A1 D1 A3 D3 c1 e1 c3 e3 V s1 s3 ((r1.on b0).on hV) ((q1.on b0).on hV) ((r3.on b0).on hV) ((q3.on b0).on hV)
  have cY := fun (V : World) (hV : Below W.heap.size W V) => x2 n2 n4 a2 d2 a4 d4 A2 D2 A4 D4 c2 e2 c4 e4 V s2 s4 ((r2.on b0).on hV) ((q2.on b0).on hV) ((r4.on b0).on hV) ((q4.on b0).on hV)
  have HK0 := Lib.hid k100
  have HK1 := Lib.hid k101
  have HB0 := Lib.hid b0
  have CX := Lib.hid cX
  have CY := Lib.hid cY
  clear cX cY x1 x2 k100 k101 b0 s0 s1 r1 q1 s2 r2 q2 s3 r3 q3 s4 r4 q4
  by_cases hz : z1 = 0
  · subst hz
    rw [show lex 0 z2 = z2 from rfl]
    go_enter Tryz.func19, Tryz.ntmps19
    go_wp2_with fail
    try rw [hW]
    clear hW
    refine (CX.out _ (Below.refl _ _)).mono ?_
    rintro e w1 ⟨rfl, b1⟩
    obtain ⟨p00, p01, p02, p03, p04, p05⟩ := kept6 HK0.out b1
    obtain ⟨p10, p11, p12, p13, p14, p15⟩ := kept6 HK1.out b1
    go_wp2_with fail
    refine (CY.out _ b1).mono ?_
    rintro e w2 ⟨rfl, b2⟩
    go_wp2_with fail
    go_ret
    exact ⟨rfl, HB0.out.trans ((b1.trans (b2.mono b1.size)).mono HB0.out.size)⟩
  · have hzb : (z1 == 0) = false := by simpa using hz
    rw [show lex z1 z2 = z1 from if_neg hz]
    clear hz
    go_enter Tryz.func19, Tryz.ntmps19
    go_wp2_with fail
    try rw [hW]
    clear hW
    refine (CX.out _ (Below.refl _ _)).mono ?_
    rintro e w1 ⟨rfl, b1⟩
    obtain ⟨p00, p01, p02, p03, p04, p05⟩ := kept6 HK0.out b1
    obtain ⟨p10, p11, p12, p13, p14, p15⟩ := kept6 HK1.out b1
    go_wp2_with fail
    refine (CX.out _ b1).mono ?_
    rintro e w2 ⟨rfl, b2⟩
    go_wp2_with fail
    go_ret
    exact ⟨rfl, HB0.out.trans ((b1.trans (b2.mono b1.size)).mono HB0.out.size)⟩

set_option maxRecDepth 100000 in
set_option maxHeartbeats 3200000 in
theorem spot_Same {S1 S2 S3 S4 : Shape} {z : Int} {b : Bool} (hb : (z == 0) = b) (x1 : Si2 18 S1 S2 S3 S4 z) : Sb2 20 S1 S2 S3 S4 b := by
  intro n1 n2 n3 n4 a1 d1 a2 d2 a3 d3 a4 d4 A1 D1 A2 D2 A3 D3 A4 D4 c1 e1 c2 e2 c3 e3 c4 e4 w s1 s2 s3 s4 r1 q1 r2 q2 r3 q3 r4 q4
  obtain ⟨W, hW, k100, k101, b0, s0⟩ := bxb w 28 28 [.bool n1, .slice A1 a1.length c1, .slice D1 d1.length e1, .bool n2, .slice A2 a2.length c2, .slice D2 d2.length e2] [.bool n3, .slice A3 a3.length c3, .slice D3 d3.length e3, .bool n4, .slice A4 a4.length c4, .slice D4 d4.length e4]
  obtain ⟨⟨p00, p01, p02, p03, p04, p05⟩, -⟩ := k100.facts6
  obtain ⟨⟨p10, p11, p12, p13, p14, p15⟩, -⟩ := k101.facts6
  have cX := fun (V : World) (hV : Below W.heap.size W V) => x1 n1 n2 n3 n4 a1 d1 a2 d2 a3 d3 a4 d4 A1 D1 A2 D2 A3 D3 A4 D4 c1 e1 c2 e2 c3 e3 c4 e4 V s1 s2 s3 s4 ((r1.on b0).on hV) ((q1.on b0).on hV) ((r2.on b0).on hV) ((q2.on b0).on hV) ((r3.on b0).on hV) ((q3.on b0).on hV) ((r4.on b0).on hV) ((q4.on b0).on hV)
  have HB0 := Lib.hid b0
  have CX := Lib.hid cX
  clear cX x1 k100 k101 b0 s0 s1 r1 q1 s2 r2 q2 s3 r3 q3 s4 r4 q4
  go_enter Tryz.func20, Tryz.ntmps20
  go_wp2_with fail
  try rw [hW]
  clear hW
  refine (CX.out _ (Below.refl _ _)).mono ?_
  rintro e w1 ⟨rfl, b1⟩
  go_wp2_with fail
  go_ret
  exact ⟨rfl, HB0.out.trans (b1.mono HB0.out.size)⟩

set_option maxRecDepth 100000 in
set_option maxHeartbeats 3200000 in
theorem ref5_Same {S1 S2 S3 S4 : Shape} (x1 : Fb2 37 S1 S3 true) (x2 : Fb2 37 S2 S4 true) : Sb2 15 S1 S2 S3 S4 true := by
  intro n1 n2 n3 n4 a1 d1 a2 d2 a3 d3 a4 d4 A1 D1 A2 D2 A3 D3 A4 D4 c1 e1 c2 e2 c3 e3 c4 e4 w s1 s2 s3 s4 r1 q1 r2 q2 r3 q3 r4 q4
  obtain ⟨W, hW, k100, k101, b0, s0⟩ := bxb w 28 28 [.bool n1, .slice A1 a1.length c1, .slice D1 d1.length e1, .bool n2, .slice A2 a2.length c2, .slice D2 d2.length e2] [.bool n3, .slice A3 a3.length c3, .slice D3 d3.length e3, .bool n4, .slice A4 a4.length c4, .slice D4 d4.length e4]
  obtain ⟨⟨p00, p01, p02, p03, p04, p05⟩, -⟩ := k100.facts6
  obtain ⟨⟨p10, p11, p12, p13, p14, p15⟩, -⟩ := k101.facts6
  have cX := fun (V : World) (hV : Below W.heap.size W V) => x1 n1 n3 a1 d1 a3 d3 A1 D1 A3 D3 c1 e1 c3 e3 V s1 s3 ((r1.on b0).on hV) ((q1.on b0).on hV) ((r3.on b0).on hV) ((q3.on b0).on hV)
  have cY := fun (V : World) (hV : Below W.heap.size W V) => x2 n2 n4 a2 d2 a4 d4 A2 D2 A4 D4 c2 e2 c4 e4 V s2 s4 ((r2.on b0).on hV) ((q2.on b0).on hV) ((r4.on b0).on hV) ((q4.on b0).on hV)
  have HK0 := Lib.hid k100
  have HK1 := Lib.hid k101
  have HB0 := Lib.hid b0
  have CX := Lib.hid cX
  have CY := Lib.hid cY
  clear cX cY x1 x2 k100 k101 b0 s0 s1 r1 q1 s2 r2 q2 s3 r3 q3 s4 r4 q4
  go_enter Tryz.func15, Tryz.ntmps15
  go_wp2_with fail
  try rw [hW]
  clear hW
  refine (CX.out _ (Below.refl _ _)).mono ?_
  rintro e w1 ⟨rfl, b1⟩
  obtain ⟨p00, p01, p02, p03, p04, p05⟩ := kept6 HK0.out b1
  obtain ⟨p10, p11, p12, p13, p14, p15⟩ := kept6 HK1.out b1
  go_wp2_with fail
  refine (CY.out _ b1).mono ?_
  rintro e w2 ⟨rfl, b2⟩
  go_wp2_with fail
  go_ret
  exact ⟨rfl, HB0.out.trans ((b1.trans (b2.mono b1.size)).mono HB0.out.size)⟩

set_option maxRecDepth 100000 in
set_option maxHeartbeats 12800000 in
theorem ref5_between {S1 S2 S3 : Shape} {z1 z2 : Int} {b : Bool} (hz1 : z1 = -1 ∨ z1 = 0 ∨ z1 = 1) (hz2 : z2 = -1 ∨ z2 = 0 ∨ z2 = 1) (hb : decide (z1 * z2 ≤ 0) = b) (x1 : Fi2 41 S1 S3 z1) (x2 : Fi2 41 S2 S3 z2) : Fb3 32 S1 S2 S3 b := by
  intro n1 n2 n3 a1 d1 a2 d2 a3 d3 A1 D1 A2 D2 A3 D3 c1 e1 c2 e2 c3 e3 w s1 s2 s3 r1 q1 r2 q2 r3 q3
  obtain ⟨W, hW, k100, k101, k102, b0, s0⟩ := bxc w 26 26 26 [.bool n1, .slice A1 a1.length c1, .slice D1 d1.length e1] [.bool n2, .slice A2 a2.length c2, .slice D2 d2.length e2] [.bool n3, .slice A3 a3.length c3, .slice D3 d3.length e3]
  obtain ⟨p00, p01, p02, -, -, -⟩ := k100.facts
  obtain ⟨p10, p11, p12, -, -, -⟩ := k101.facts
  obtain ⟨p20, p21, p22, -, -, -⟩ := k102.facts
  have cX := fun (V : World) (hV : Below W.heap.size W V) => x1 n1 n3 a1 d1 a3 d3 A1 D1 A3 D3 c1 e1 c3 e3 V s1 s3 ((r1.on b0).on hV) ((q1.on b0).on hV) ((r3.on b0).on hV) ((q3.on b0).on hV)
  have cY := fun (V : World) (hV : Below W.heap.size W V) => x2 n2 n3 a2 d2 a3 d3 A2 D2 A3 D3 c2 e2 c3 e3 V s2 s3 ((r2.on b0).on hV) ((q2.on b0).on hV) ((r3.on b0).on hV) ((q3.on b0).on hV)
  have CX := quiet_of cX
  have CY := quiet_of cY
  have y00 := cell_regrown p00
  have y01 := cell_regrown p01
  have y02 := cell_regrown p02
  have y10 := cell_regrown p10
  have y11 := cell_regrown p11
  have y12 := cell_regrown p12
  have y20 := cell_regrown p20
  have y21 := cell_regrown p21
  have y22 := cell_regrown p22
  have HB0 := Lib.hid b0
  clear cX cY x1 x2 k100 k101 k102 b0 s0 s1 r1 q1 s2 r2 q2 s3 r3 q3
  subst hb
  rcases hz1 with rfl | rfl | rfl <;> rcases hz2 with rfl | rfl | rfl
  all_goals
    go_enter Tryz.func32, Tryz.ntmps32
    go_wp2_with fail
    try rw [hW]
    clear hW
    have e1 : IntKind.i64.wrap 1 = 1 := by decide
    have e2 : IntKind.i64.wrap (-1) = -1 := by decide
    have e3 : IntKind.i64.wrap 0 = 0 := by decide
    refine wp_region_quiet_below (by kernel_rfl) (by kernel_rfl) ?_
    quiet_step (fail)
    quiet_step (fail)
    quiet_step (with_reducible exact CX _ _)
    quiet_step (fail)
    quiet_step (fail)
    quiet_step (with_reducible exact CY _ _)
    quiet_step (fail)
    quiet_step (fail)
    quiet_step (fail)
    refine wpQuiet_nil ?_
    intro _ hw'
    obtain ⟨⟨dq, osq⟩, hw''⟩ := hw'
    subst hw''
    go_wp2_with fail
    go_ret
    exact ⟨rfl, HB0.out.trans ((below_regrown W dq osq).mono HB0.out.size)⟩

set_option maxRecDepth 100000 in
set_option maxHeartbeats 25600000 in
theorem spot_On {S1 S2 S3 S4 S5 S6 : Shape} {z1 z2 t : Int} {b : Bool} (hz1 : z1 = -1 ∨ z1 = 0 ∨ z1 = 1) (hz2 : z2 = -1 ∨ z2 = 0 ∨ z2 = 1) (hb1 : 0 ≤ z1 * z2 → (t == 0) = b) (hb2 : z1 * z2 < 0 → b = false) (x1 : Si2 18 S1 S2 S5 S6 z1) (x2 : Si2 18 S5 S6 S3 S4 z2) (x3 : Si3 7 S1 S2 S3 S4 S5 S6 t) : Sb3 9 S1 S2 S3 S4 S5 S6 b := by
  intro n1 n2 n3 n4 n5 n6 a1 d1 a2 d2 a3 d3 a4 d4 a5 d5 a6 d6 A1 D1 A2 D2 A3 D3 A4 D4 A5 D5 A6 D6 c1 e1 c2 e2 c3 e3 c4 e4 c5 e5 c6 e6 w s1 s2 s3 s4 s5 s6 r1 q1 r2 q2 r3 q3 r4 q4 r5 q5 r6 q6
  obtain ⟨W, hW, k100, k101, k102, b0, s0⟩ := bxc w 28 28 28 [.bool n1, .slice A1 a1.length c1, .slice D1 d1.length e1, .bool n2, .slice A2 a2.length c2, .slice D2 d2.length e2] [.bool n3, .slice A3 a3.length c3, .slice D3 d3.length e3, .bool n4, .slice A4 a4.length c4, .slice D4 d4.length e4] [.bool n5, .slice A5 a5.length c5, .slice D5 d5.length e5, .bool n6, .slice A6 a6.length c6, .slice D6 d6.length e6]
  obtain ⟨⟨p00, p01, p02, p03, p04, p05⟩, -⟩ := k100.facts6
  obtain ⟨⟨p10, p11, p12, p13, p14, p15⟩, -⟩ := k101.facts6
  obtain ⟨⟨p20, p21, p22, p23, p24, p25⟩, -⟩ := k102.facts6
  have cX := fun (V : World) (hV : Below W.heap.size W V) => x1 n1 n2 n5 n6 a1 d1 a2 d2 a5 d5 a6 d6 A1 D1 A2 D2 A5 D5 A6 D6 c1 e1 c2 e2 c5 e5 c6 e6 V s1 s2 s5 s6 ((r1.on b0).on hV) ((q1.on b0).on hV) ((r2.on b0).on hV) ((q2.on b0).on hV) ((r5.on b0).on hV) ((q5.on b0).on hV) ((r6.on b0).on hV) ((q6.on b0).on hV)
  have cY := fun (V : World) (hV : Below W.heap.size W V) => x2 n5 n6 n3 n4 a5 d5 a6 d6 a3 d3 a4 d4 A5 D5 A6 D6 A3 D3 A4 D4 c5 e5 c6 e6 c3 e3 c4 e4 V s5 s6 s3 s4 ((r5.on b0).on hV) ((q5.on b0).on hV) ((r6.on b0).on hV) ((q6.on b0).on hV) ((r3.on b0).on hV) ((q3.on b0).on hV) ((r4.on b0).on hV) ((q4.on b0).on hV)
  have cZ := fun (V : World) (hV : Below W.heap.size W V) => x3 n1 n2 n3 n4 n5 n6 a1 d1 a2 d2 a3 d3 a4 d4 a5 d5 a6 d6 A1 D1 A2 D2 A3 D3 A4 D4 A5 D5 A6 D6 c1 e1 c2 e2 c3 e3 c4 e4 c5 e5 c6 e6 V s1 s2 s3 s4 s5 s6 ((r1.on b0).on hV) ((q1.on b0).on hV) ((r2.on b0).on hV) ((q2.on b0).on hV) ((r3.on b0).on hV) ((q3.on b0).on hV) ((r4.on b0).on hV) ((q4.on b0).on hV) ((r5.on b0).on hV) ((q5.on b0).on hV) ((r6.on b0).on hV) ((q6.on b0).on hV)
  have CX := quiet_of cX
  have CY := quiet_of cY
  have CZ := quiet_of cZ
  have y00 := cell_regrown p00
  have y01 := cell_regrown p01
  have y02 := cell_regrown p02
  have y03 := cell_regrown p03
  have y04 := cell_regrown p04
  have y05 := cell_regrown p05
  have y10 := cell_regrown p10
  have y11 := cell_regrown p11
  have y12 := cell_regrown p12
  have y13 := cell_regrown p13
  have y14 := cell_regrown p14
  have y15 := cell_regrown p15
  have y20 := cell_regrown p20
  have y21 := cell_regrown p21
  have y22 := cell_regrown p22
  have y23 := cell_regrown p23
  have y24 := cell_regrown p24
  have y25 := cell_regrown p25
  have HB0 := Lib.hid b0
  clear cX cY cZ x1 x2 x3 k100 k101 k102 b0 s0 s1 r1 q1 s2 r2 q2 s3 r3 q3 s4 r4 q4 s5 r5 q5 s6 r6 q6
  rcases hz1 with rfl | rfl | rfl <;> rcases hz2 with rfl | rfl | rfl
  all_goals first
    | (have hb := hb1 (by decide); clear hb1 hb2)
    | (have hb := hb2 (by decide); clear hb1 hb2; subst hb)
  all_goals
    go_enter Tryz.func9, Tryz.ntmps9
    go_wp2_with fail
    try rw [hW]
    clear hW
    have e1 : IntKind.i64.wrap 1 = 1 := by decide
    have e2 : IntKind.i64.wrap (-1) = -1 := by decide
    have e3 : IntKind.i64.wrap 0 = 0 := by decide
    refine wp_region_quiet_below (by kernel_rfl) (by kernel_rfl) ?_
    quiet_step (fail)
    quiet_step (fail)
    quiet_step (with_reducible exact CX _ _)
    quiet_step (fail)
    quiet_step (fail)
    quiet_step (with_reducible exact CY _ _)
    quiet_step (fail)
    quiet_step (fail)
    quiet_step (fail)
    quiet_step (fail)
    quiet_step (fail)
    quiet_step (fail)
    quiet_step (with_reducible exact CZ _ _)
    quiet_step (fail)
    quiet_step (fail)
    quiet_step (fail)
    refine wpQuiet_nil ?_
    intro _ hw'
    obtain ⟨⟨dq, osq⟩, hw''⟩ := hw'
    subst hw''
    go_wp2_with fail
    go_ret
    exact ⟨rfl, HB0.out.trans ((below_regrown W dq osq).mono HB0.out.size)⟩

set_option maxRecDepth 100000 in
set_option maxHeartbeats 3200000 in
theorem ref5_Turn {S1 S2 S3 S4 S5 S6 U : Shape} {z : Int} (x1 : ∀ (n1 n2 n3 n4 n5 n6 : Bool) (a1 d1 a2 d2 a3 d3 a4 d4 a5 d5 a6 d6 : List Nat) (A1 D1 A2 D2 A3 D3 A4 D4 A5 D5 A6 D6 : Option Addr) (c1 e1 c2 e2 c3 e3 c4 e4 c5 e5 c6 e6 : Nat) (w : World), S1 n1 a1 c1 d1 e1 → S2 n2 a2 c2 d2 e2 → S3 n3 a3 c3 d3 e3 → S4 n4 a4 c4 d4 e4 → S5 n5 a5 c5 d5 e5 → S6 n6 a6 c6 d6 e6 → Rd w (fun g => g < w.heap.size) .u32 A1 a1 → Rd w (fun g => g < w.heap.size) .u32 D1 d1 → Rd w (fun g => g < w.heap.size) .u32 A2 a2 → Rd w (fun g => g < w.heap.size) .u32 D2 d2 → Rd w (fun g => g < w.heap.size) .u32 A3 a3 → Rd w (fun g => g < w.heap.size) .u32 D3 d3 → Rd w (fun g => g < w.heap.size) .u32 A4 a4 → Rd w (fun g => g < w.heap.size) .u32 D4 d4 → Rd w (fun g => g < w.heap.size) .u32 A5 a5 → Rd w (fun g => g < w.heap.size) .u32 D5 d5 → Rd w (fun g => g < w.heap.size) .u32 A6 a6 → Rd w (fun g => g < w.heap.size) .u32 D6 d6 → Calls Tryz.prog 31 #[.agg #[.bool n1, .slice A1 a1.length c1, .slice D1 d1.length e1, .bool n2, .slice A2 a2.length c2, .slice D2 d2.length e2], .agg #[.bool n3, .slice A3 a3.length c3, .slice D3 d3.length e3, .bool n4, .slice A4 a4.length c4, .slice D4 d4.length e4], .agg #[.bool n5, .slice A5 a5.length c5, .slice D5 d5.length e5, .bool n6, .slice A6 a6.length c6, .slice D6 d6.length e6]] w (Gv U w)) (x2 : Fi1 30 U z) : Si3 8 S1 S2 S3 S4 S5 S6 z := by
  intro n1 n2 n3 n4 n5 n6 a1 d1 a2 d2 a3 d3 a4 d4 a5 d5 a6 d6 A1 D1 A2 D2 A3 D3 A4 D4 A5 D5 A6 D6 c1 e1 c2 e2 c3 e3 c4 e4 c5 e5 c6 e6 w s1 s2 s3 s4 s5 s6 r1 q1 r2 q2 r3 q3 r4 q4 r5 q5 r6 q6
  obtain ⟨W, hW, k100, k101, k102, b0, s0⟩ := bxc w 28 28 28 [.bool n1, .slice A1 a1.length c1, .slice D1 d1.length e1, .bool n2, .slice A2 a2.length c2, .slice D2 d2.length e2] [.bool n3, .slice A3 a3.length c3, .slice D3 d3.length e3, .bool n4, .slice A4 a4.length c4, .slice D4 d4.length e4] [.bool n5, .slice A5 a5.length c5, .slice D5 d5.length e5, .bool n6, .slice A6 a6.length c6, .slice D6 d6.length e6]
  obtain ⟨⟨p00, p01, p02, p03, p04, p05⟩, -⟩ := k100.facts6
  obtain ⟨⟨p10, p11, p12, p13, p14, p15⟩, -⟩ := k101.facts6
  obtain ⟨⟨p20, p21, p22, p23, p24, p25⟩, -⟩ := k102.facts6
  have cX := fun (V : World) (hV : Below W.heap.size W V) => x1 n1 n2 n3 n4 n5 n6 a1 d1 a2 d2 a3 d3 a4 d4 a5 d5 a6 d6 A1 D1 A2 D2 A3 D3 A4 D4 A5 D5 A6 D6 c1 e1 c2 e2 c3 e3 c4 e4 c5 e5 c6 e6 V s1 s2 s3 s4 s5 s6 ((r1.on b0).on hV) ((q1.on b0).on hV) ((r2.on b0).on hV) ((q2.on b0).on hV) ((r3.on b0).on hV) ((q3.on b0).on hV) ((r4.on b0).on hV) ((q4.on b0).on hV) ((r5.on b0).on hV) ((q5.on b0).on hV) ((r6.on b0).on hV) ((q6.on b0).on hV)
  have HB0 := Lib.hid b0
  have CX := Lib.hid cX
  have C2 := Lib.hid x2
  clear cX x1 x2 k100 k101 k102 b0 s0 s1 r1 q1 s2 r2 q2 s3 r3 q3 s4 r4 q4 s5 r5 q5 s6 r6 q6
  go_enter Tryz.func8, Tryz.ntmps8
  go_wp2_with fail
  try rw [hW]
  clear hW
  refine (CX.out _ (Below.refl _ _)).mono ?_
  rintro e w1 ⟨n7, a7, A7, c7, d7, D7, e7, rfl, s7, r7, q7, b1⟩
  go_wp2_with fail
  refine (C2.out n7 a7 d7 A7 D7 c7 e7 _ s7 r7 q7).mono ?_
  rintro e w2 ⟨rfl, b2⟩
  go_wp2_with fail
  go_ret
  exact ⟨rfl, HB0.out.trans ((b1.trans (b2.mono b1.size)).mono HB0.out.size)⟩

set_option maxRecDepth 100000 in
set_option maxHeartbeats 12800000 in
theorem ref5_On {S1 S2 S3 S4 S5 S6 : Shape} {z : Int} {b1 b2 b : Bool} (hb : ((z == 0) && b1 && b2) = b) (x1 : Si3 8 S1 S2 S3 S4 S5 S6 z) (x2 : Fb3 32 S1 S3 S5 b1) (x3 : Fb3 32 S2 S4 S6 b2) : Sb3 10 S1 S2 S3 S4 S5 S6 b := by
  intro n1 n2 n3 n4 n5 n6 a1 d1 a2 d2 a3 d3 a4 d4 a5 d5 a6 d6 A1 D1 A2 D2 A3 D3 A4 D4 A5 D5 A6 D6 c1 e1 c2 e2 c3 e3 c4 e4 c5 e5 c6 e6 w s1 s2 s3 s4 s5 s6 r1 q1 r2 q2 r3 q3 r4 q4 r5 q5 r6 q6
  obtain ⟨W, hW, k100, k101, k102, b0, s0⟩ := bxc w 28 28 28 [.bool n1, .slice A1 a1.length c1, .slice D1 d1.length e1, .bool n2, .slice A2 a2.length c2, .slice D2 d2.length e2] [.bool n3, .slice A3 a3.length c3, .slice D3 d3.length e3, .bool n4, .slice A4 a4.length c4, .slice D4 d4.length e4] [.bool n5, .slice A5 a5.length c5, .slice D5 d5.length e5, .bool n6, .slice A6 a6.length c6, .slice D6 d6.length e6]
  obtain ⟨⟨p00, p01, p02, p03, p04, p05⟩, -⟩ := k100.facts6
  obtain ⟨⟨p10, p11, p12, p13, p14, p15⟩, -⟩ := k101.facts6
  obtain ⟨⟨p20, p21, p22, p23, p24, p25⟩, -⟩ := k102.facts6
  have cX := fun (V : World) (hV : Below W.heap.size W V) => x1 n1 n2 n3 n4 n5 n6 a1 d1 a2 d2 a3 d3 a4 d4 a5 d5 a6 d6 A1 D1 A2 D2 A3 D3 A4 D4 A5 D5 A6 D6 c1 e1 c2 e2 c3 e3 c4 e4 c5 e5 c6 e6 V s1 s2 s3 s4 s5 s6 ((r1.on b0).on hV) ((q1.on b0).on hV) ((r2.on b0).on hV) ((q2.on b0).on hV) ((r3.on b0).on hV) ((q3.on b0).on hV) ((r4.on b0).on hV) ((q4.on b0).on hV) ((r5.on b0).on hV) ((q5.on b0).on hV) ((r6.on b0).on hV) ((q6.on b0).on hV)
  have cY := fun (V : World) (hV : Below W.heap.size W V) => x2 n1 n3 n5 a1 d1 a3 d3 a5 d5 A1 D1 A3 D3 A5 D5 c1 e1 c3 e3 c5 e5 V s1 s3 s5 ((r1.on b0).on hV) ((q1.on b0).on hV) ((r3.on b0).on hV) ((q3.on b0).on hV) ((r5.on b0).on hV) ((q5.on b0).on hV)
  have cZ := fun (V : World) (hV : Below W.heap.size W V) => x3 n2 n4 n6 a2 d2 a4 d4 a6 d6 A2 D2 A4 D4 A6 D6 c2 e2 c4 e4 c6 e6 V s2 s4 s6 ((r2.on b0).on hV) ((q2.on b0).on hV) ((r4.on b0).on hV) ((q4.on b0).on hV) ((r6.on b0).on hV) ((q6.on b0).on hV)
  have HK0 := Lib.hid k100
  have HK1 := Lib.hid k101
  have HK2 := Lib.hid k102
  have HB0 := Lib.hid b0
  have CX := Lib.hid cX
  have CY := Lib.hid cY
  have CZ := Lib.hid cZ
  clear cX cY cZ x1 x2 x3 k100 k101 k102 b0 s0 s1 r1 q1 s2 r2 q2 s3 r3 q3 s4 r4 q4 s5 r5 q5 s6 r6 q6
  by_cases hz : z = 0
  · subst hz
    simp only [BEq.rfl, Bool.true_and] at hb
    cases b1
    · simp only [Bool.false_and] at hb
      subst hb
      go_enter Tryz.func10, Tryz.ntmps10
      go_wp2_with fail
      try rw [hW]
      clear hW
      refine (CX.out _ (Below.refl _ _)).mono ?_
      rintro e w1 ⟨rfl, b1⟩
      obtain ⟨p00, p01, p02, p03, p04, p05⟩ := kept6 HK0.out b1
      obtain ⟨p10, p11, p12, p13, p14, p15⟩ := kept6 HK1.out b1
      obtain ⟨p20, p21, p22, p23, p24, p25⟩ := kept6 HK2.out b1
      go_wp2_with fail
      refine (CY.out _ b1).mono ?_
      rintro e w2 ⟨rfl, b2⟩
      have B2 := b1.trans (b2.mono b1.size)
      obtain ⟨p00, p01, p02, p03, p04, p05⟩ := kept6 HK0.out B2
      obtain ⟨p10, p11, p12, p13, p14, p15⟩ := kept6 HK1.out B2
      obtain ⟨p20, p21, p22, p23, p24, p25⟩ := kept6 HK2.out B2
      go_wp2_with fail
      go_ret
      exact ⟨rfl, HB0.out.trans (B2.mono HB0.out.size)⟩
    · simp only [Bool.true_and] at hb
      subst hb
      go_enter Tryz.func10, Tryz.ntmps10
      go_wp2_with fail
      try rw [hW]
      clear hW
      refine (CX.out _ (Below.refl _ _)).mono ?_
      rintro e w1 ⟨rfl, b1⟩
      obtain ⟨p00, p01, p02, p03, p04, p05⟩ := kept6 HK0.out b1
      obtain ⟨p10, p11, p12, p13, p14, p15⟩ := kept6 HK1.out b1
      obtain ⟨p20, p21, p22, p23, p24, p25⟩ := kept6 HK2.out b1
      go_wp2_with fail
      refine (CY.out _ b1).mono ?_
      rintro e w2 ⟨rfl, b2⟩
      have B2 := b1.trans (b2.mono b1.size)
      obtain ⟨p00, p01, p02, p03, p04, p05⟩ := kept6 HK0.out B2
      obtain ⟨p10, p11, p12, p13, p14, p15⟩ := kept6 HK1.out B2
      obtain ⟨p20, p21, p22, p23, p24, p25⟩ := kept6 HK2.out B2
      go_wp2_with fail
      refine (CZ.out _ B2).mono ?_
      rintro e w3 ⟨rfl, b3⟩
      go_wp2_with fail
      go_ret
      exact ⟨rfl, HB0.out.trans ((B2.trans (b3.mono B2.size)).mono HB0.out.size)⟩
  · have hzb : (z == 0) = false := by simpa using hz
    rw [hzb] at hb
    simp only [Bool.false_and] at hb
    subst hb
    clear hz
    go_enter Tryz.func10, Tryz.ntmps10
    go_wp2_with fail
    try rw [hW]
    clear hW
    refine (CX.out _ (Below.refl _ _)).mono ?_
    rintro e w1 ⟨rfl, b1⟩
    obtain ⟨p00, p01, p02, p03, p04, p05⟩ := kept6 HK0.out b1
    obtain ⟨p10, p11, p12, p13, p14, p15⟩ := kept6 HK1.out b1
    obtain ⟨p20, p21, p22, p23, p24, p25⟩ := kept6 HK2.out b1
    go_wp2_with fail
    go_ret
    exact ⟨rfl, HB0.out.trans (b1.mono HB0.out.size)⟩
end Go.Proofs.YtkgedgaddpojkaaGreatDoor
