/- Spots, the program's own: what Turn answers. -/
import Derived.Test.YtokaapljlpngdaaGreatDoorMA
import Derived.Deep.RegionHeld3
import Derived.Deep.RegionWith
namespace Go.Proofs.YtokaapljlpngdaaGreatDoor
open Go.RowKit Num

/-- the number whose sign tells on which side of the way from the first to the second spot the third one is -/
def det (P1 P2 P3 P4 P5 P6 : Int) (Q1 Q2 Q3 Q4 Q5 Q6 : Nat) : Int := (P3 * (Q1 : Int) - P1 * (Q3 : Int)) * (P6 * (Q2 : Int) - P2 * (Q6 : Int)) * (Q4 : Int) * (Q5 : Int) - (P4 * (Q2 : Int) - P2 * (Q4 : Int)) * (P5 * (Q1 : Int) - P1 * (Q5 : Int)) * (Q3 : Int) * (Q6 : Int)
/-- a spot in its box, no lower part of which is 0 -/
def Hd (g : Nat) (P1 : Int) (Q1 m1 : Nat) (P2 : Int) (Q2 m2 : Nat) (wc : World) : Prop :=
  ∃ n1 a1 A1 c1 d1 D1 e1 n2 a2 A2 c2 d2 D2 e2, Blk wc g 31 [.bool n1, .slice A1 a1.length c1, .slice D1 d1.length e1, .bool n2, .slice A2 a2.length c2, .slice D2 d2.length e2] ∧ (SH P1 Q1 m1 n1 a1 c1 d1 e1 ∧ SH P2 Q2 m2 n2 a2 c2 d2 e2) ∧
    (Rd wc (fun g => g < wc.heap.size) .u32 A1 a1 ∧ Rd wc (fun g => g < wc.heap.size) .u32 D1 d1) ∧ (Rd wc (fun g => g < wc.heap.size) .u32 A2 a2 ∧ Rd wc (fun g => g < wc.heap.size) .u32 D2 d2)
theorem Hd.six {g : Nat} {P1 P2 : Int} {Q1 m1 Q2 m2 : Nat} {w : World} (h : Hd g P1 Q1 m1 P2 Q2 m2 w) {g' : Nat} {t : TypeId} {x y : Bool} {p q r s : Option Addr} {i0 i1 i2 i3 i4 i5 i6 i7 : Nat} (f : Blk w g' t [.bool x, .slice p i0 i1, .slice q i2 i3, .bool y, .slice r i4 i5, .slice s i6 i7]) (hne : g ≠ g') (u0 u1 u2 u3 u4 u5 : Value) :
    Hd g P1 Q1 m1 P2 Q2 m2 (((((((w.setCell ⟨g', 0, none⟩ u0).setCell ⟨g', 1, none⟩ u1).setCell ⟨g', 2, none⟩ u2).setCell ⟨g', 3, none⟩ u3).setCell ⟨g', 4, none⟩ u4).setCell ⟨g', 5, none⟩ u5)) := by
  obtain ⟨n1, a1, A1, c1, d1, D1, e1, n2, a2, A2, c2, d2, D2, e2, k, hs, ⟨r1, q1⟩, r2, q2⟩ := h
  exact ⟨n1, a1, A1, c1, d1, D1, e1, n2, a2, A2, c2, d2, D2, e2, k.off6 hne _ _ _ _ _ _, hs, ⟨r1.six f _ _ _ _ _ _, q1.six f _ _ _ _ _ _⟩, r2.six f _ _ _ _ _ _, q2.six f _ _ _ _ _ _⟩
set_option maxHeartbeats 800000 in
theorem held3 {v w : World} {g : Nat} {P1 P2 P3 P4 P5 P6 : Int} {Q1 Q2 Q3 Q4 Q5 Q6 m1 m2 m3 m4 m5 m6 : Nat} {x1 y1 x2 y2 x3 y3 : Bool} {p1 q1 r1 s1 p2 q2 r2 s2 p3 q3 r3 s3 : Option Addr} {i10 i11 i12 i13 i14 i15 i16 i17 i20 i21 i22 i23 i24 i25 i26 i27 i30 i31 i32 i33 i34 i35 i36 i37 : Nat} {n1 n2 n3 n4 n5 n6 : Bool} {a1 d1 a2 d2 a3 d3 a4 d4 a5 d5 a6 d6 : List Nat} {A1 D1 A2 D2 A3 D3 A4 D4 A5 D5 A6 D6 : Option Addr} {c1 e1 c2 e2 c3 e3 c4 e4 c5 e5 c6 e6 : Nat}
    (k1 : Blk v (g) 31 [.bool x1, .slice p1 i10 i11, .slice q1 i12 i13, .bool y1, .slice r1 i14 i15, .slice s1 i16 i17]) (k2 : Blk v (g + 1) 31 [.bool x2, .slice p2 i20 i21, .slice q2 i22 i23, .bool y2, .slice r2 i24 i25, .slice s2 i26 i27]) (k3 : Blk v (g + 1 + 1) 31 [.bool x3, .slice p3 i30 i31, .slice q3 i32 i33, .bool y3, .slice r3 i34 i35, .slice s3 i36 i37]) (b : Below g w v)
    (h1 : SH P1 Q1 m1 n1 a1 c1 d1 e1) (h2 : SH P2 Q2 m2 n2 a2 c2 d2 e2) (h3 : SH P3 Q3 m3 n3 a3 c3 d3 e3) (h4 : SH P4 Q4 m4 n4 a4 c4 d4 e4) (h5 : SH P5 Q5 m5 n5 a5 c5 d5 e5) (h6 : SH P6 Q6 m6 n6 a6 c6 d6 e6) (t1 : Rd v (fun g => g < v.heap.size) .u32 A1 a1) (l1 : Rd v (fun g => g < v.heap.size) .u32 D1 d1) (t2 : Rd v (fun g => g < v.heap.size) .u32 A2 a2) (l2 : Rd v (fun g => g < v.heap.size) .u32 D2 d2) (t3 : Rd v (fun g => g < v.heap.size) .u32 A3 a3) (l3 : Rd v (fun g => g < v.heap.size) .u32 D3 d3) (t4 : Rd v (fun g => g < v.heap.size) .u32 A4 a4) (l4 : Rd v (fun g => g < v.heap.size) .u32 D4 d4) (t5 : Rd v (fun g => g < v.heap.size) .u32 A5 a5) (l5 : Rd v (fun g => g < v.heap.size) .u32 D5 d5) (t6 : Rd v (fun g => g < v.heap.size) .u32 A6 a6) (l6 : Rd v (fun g => g < v.heap.size) .u32 D6 d6) :
    Hd g P1 Q1 m1 P2 Q2 m2 ((((((((((((((((((v.setCell ⟨g, 0, none⟩ (.bool n1)).setCell ⟨g, 1, none⟩ (.slice A1 a1.length c1)).setCell ⟨g, 2, none⟩ (.slice D1 d1.length e1)).setCell ⟨g, 3, none⟩ (.bool n2)).setCell ⟨g, 4, none⟩ (.slice A2 a2.length c2)).setCell ⟨g, 5, none⟩ (.slice D2 d2.length e2)).setCell ⟨g + 1, 0, none⟩ (.bool n3)).setCell ⟨g + 1, 1, none⟩ (.slice A3 a3.length c3)).setCell ⟨g + 1, 2, none⟩ (.slice D3 d3.length e3)).setCell ⟨g + 1, 3, none⟩ (.bool n4)).setCell ⟨g + 1, 4, none⟩ (.slice A4 a4.length c4)).setCell ⟨g + 1, 5, none⟩ (.slice D4 d4.length e4)).setCell ⟨g + 1 + 1, 0, none⟩ (.bool n5)).setCell ⟨g + 1 + 1, 1, none⟩ (.slice A5 a5.length c5)).setCell ⟨g + 1 + 1, 2, none⟩ (.slice D5 d5.length e5)).setCell ⟨g + 1 + 1, 3, none⟩ (.bool n6)).setCell ⟨g + 1 + 1, 4, none⟩ (.slice A6 a6.length c6)).setCell ⟨g + 1 + 1, 5, none⟩ (.slice D6 d6.length e6)) ∧ Hd (g + 1) P3 Q3 m3 P4 Q4 m4 ((((((((((((((((((v.setCell ⟨g, 0, none⟩ (.bool n1)).setCell ⟨g, 1, none⟩ (.slice A1 a1.length c1)).setCell ⟨g, 2, none⟩ (.slice D1 d1.length e1)).setCell ⟨g, 3, none⟩ (.bool n2)).setCell ⟨g, 4, none⟩ (.slice A2 a2.length c2)).setCell ⟨g, 5, none⟩ (.slice D2 d2.length e2)).setCell ⟨g + 1, 0, none⟩ (.bool n3)).setCell ⟨g + 1, 1, none⟩ (.slice A3 a3.length c3)).setCell ⟨g + 1, 2, none⟩ (.slice D3 d3.length e3)).setCell ⟨g + 1, 3, none⟩ (.bool n4)).setCell ⟨g + 1, 4, none⟩ (.slice A4 a4.length c4)).setCell ⟨g + 1, 5, none⟩ (.slice D4 d4.length e4)).setCell ⟨g + 1 + 1, 0, none⟩ (.bool n5)).setCell ⟨g + 1 + 1, 1, none⟩ (.slice A5 a5.length c5)).setCell ⟨g + 1 + 1, 2, none⟩ (.slice D5 d5.length e5)).setCell ⟨g + 1 + 1, 3, none⟩ (.bool n6)).setCell ⟨g + 1 + 1, 4, none⟩ (.slice A6 a6.length c6)).setCell ⟨g + 1 + 1, 5, none⟩ (.slice D6 d6.length e6)) ∧ Hd (g + 1 + 1) P5 Q5 m5 P6 Q6 m6 ((((((((((((((((((v.setCell ⟨g, 0, none⟩ (.bool n1)).setCell ⟨g, 1, none⟩ (.slice A1 a1.length c1)).setCell ⟨g, 2, none⟩ (.slice D1 d1.length e1)).setCell ⟨g, 3, none⟩ (.bool n2)).setCell ⟨g, 4, none⟩ (.slice A2 a2.length c2)).setCell ⟨g, 5, none⟩ (.slice D2 d2.length e2)).setCell ⟨g + 1, 0, none⟩ (.bool n3)).setCell ⟨g + 1, 1, none⟩ (.slice A3 a3.length c3)).setCell ⟨g + 1, 2, none⟩ (.slice D3 d3.length e3)).setCell ⟨g + 1, 3, none⟩ (.bool n4)).setCell ⟨g + 1, 4, none⟩ (.slice A4 a4.length c4)).setCell ⟨g + 1, 5, none⟩ (.slice D4 d4.length e4)).setCell ⟨g + 1 + 1, 0, none⟩ (.bool n5)).setCell ⟨g + 1 + 1, 1, none⟩ (.slice A5 a5.length c5)).setCell ⟨g + 1 + 1, 2, none⟩ (.slice D5 d5.length e5)).setCell ⟨g + 1 + 1, 3, none⟩ (.bool n6)).setCell ⟨g + 1 + 1, 4, none⟩ (.slice A6 a6.length c6)).setCell ⟨g + 1 + 1, 5, none⟩ (.slice D6 d6.length e6)) ∧ Below g w ((((((((((((((((((v.setCell ⟨g, 0, none⟩ (.bool n1)).setCell ⟨g, 1, none⟩ (.slice A1 a1.length c1)).setCell ⟨g, 2, none⟩ (.slice D1 d1.length e1)).setCell ⟨g, 3, none⟩ (.bool n2)).setCell ⟨g, 4, none⟩ (.slice A2 a2.length c2)).setCell ⟨g, 5, none⟩ (.slice D2 d2.length e2)).setCell ⟨g + 1, 0, none⟩ (.bool n3)).setCell ⟨g + 1, 1, none⟩ (.slice A3 a3.length c3)).setCell ⟨g + 1, 2, none⟩ (.slice D3 d3.length e3)).setCell ⟨g + 1, 3, none⟩ (.bool n4)).setCell ⟨g + 1, 4, none⟩ (.slice A4 a4.length c4)).setCell ⟨g + 1, 5, none⟩ (.slice D4 d4.length e4)).setCell ⟨g + 1 + 1, 0, none⟩ (.bool n5)).setCell ⟨g + 1 + 1, 1, none⟩ (.slice A5 a5.length c5)).setCell ⟨g + 1 + 1, 2, none⟩ (.slice D5 d5.length e5)).setCell ⟨g + 1 + 1, 3, none⟩ (.bool n6)).setCell ⟨g + 1 + 1, 4, none⟩ (.slice A6 a6.length c6)).setCell ⟨g + 1 + 1, 5, none⟩ (.slice D6 d6.length e6)) := by
  have w2 := k2.off6 (g' := g) (by omega) (.bool n1) (.slice A1 a1.length c1) (.slice D1 d1.length e1) (.bool n2) (.slice A2 a2.length c2) (.slice D2 d2.length e2)
  have w3 := k3.off6 (g' := g) (by omega) (.bool n1) (.slice A1 a1.length c1) (.slice D1 d1.length e1) (.bool n2) (.slice A2 a2.length c2) (.slice D2 d2.length e2)
  have z3 := w3.off6 (g' := g + 1) (by omega) (.bool n3) (.slice A3 a3.length c3) (.slice D3 d3.length e3) (.bool n4) (.slice A4 a4.length c4) (.slice D4 d4.length e4)
  have j1 : Hd g P1 Q1 m1 P2 Q2 m2 _ := ⟨n1, a1, A1, c1, d1, D1, e1, n2, a2, A2, c2, d2, D2, e2, k1.six (.bool n1) (.slice A1 a1.length c1) (.slice D1 d1.length e1) (.bool n2) (.slice A2 a2.length c2) (.slice D2 d2.length e2), ⟨h1, h2⟩, ⟨t1.six k1 _ _ _ _ _ _, l1.six k1 _ _ _ _ _ _⟩, t2.six k1 _ _ _ _ _ _, l2.six k1 _ _ _ _ _ _⟩
  have j2 : Hd (g + 1) P3 Q3 m3 P4 Q4 m4 _ := ⟨n3, a3, A3, c3, d3, D3, e3, n4, a4, A4, c4, d4, D4, e4, w2.six (.bool n3) (.slice A3 a3.length c3) (.slice D3 d3.length e3) (.bool n4) (.slice A4 a4.length c4) (.slice D4 d4.length e4), ⟨h3, h4⟩, ⟨(t3.six k1 _ _ _ _ _ _).six w2 _ _ _ _ _ _, (l3.six k1 _ _ _ _ _ _).six w2 _ _ _ _ _ _⟩, (t4.six k1 _ _ _ _ _ _).six w2 _ _ _ _ _ _, (l4.six k1 _ _ _ _ _ _).six w2 _ _ _ _ _ _⟩
  have j3 : Hd (g + 1 + 1) P5 Q5 m5 P6 Q6 m6 _ := ⟨n5, a5, A5, c5, d5, D5, e5, n6, a6, A6, c6, d6, D6, e6, z3.six (.bool n5) (.slice A5 a5.length c5) (.slice D5 d5.length e5) (.bool n6) (.slice A6 a6.length c6) (.slice D6 d6.length e6), ⟨h5, h6⟩, ⟨((t5.six k1 _ _ _ _ _ _).six w2 _ _ _ _ _ _).six z3 _ _ _ _ _ _, ((l5.six k1 _ _ _ _ _ _).six w2 _ _ _ _ _ _).six z3 _ _ _ _ _ _⟩, ((t6.six k1 _ _ _ _ _ _).six w2 _ _ _ _ _ _).six z3 _ _ _ _ _ _, ((l6.six k1 _ _ _ _ _ _).six w2 _ _ _ _ _ _).six z3 _ _ _ _ _ _⟩
  exact ⟨(j1.six w2 (by omega) _ _ _ _ _ _).six z3 (by omega) _ _ _ _ _ _, j2.six z3 (by omega) _ _ _ _ _ _, j3, below_six (below_six (below_six b (Nat.le_refl _) _ _ _ _ _ _) (by omega) _ _ _ _ _ _) (by omega) _ _ _ _ _ _⟩
/-- a whole number in a box of its own, at the end of a region -/
theorem oneA {W v : World} {t : TypeId} {X : Option Addr} {x : List Nat} (K : Below W.heap.size W v) (n : Bool) (c : Nat) (r : Rd v (fun g => g < v.heap.size) .u32 X x) : Blk (v.alloc (.cells #[.bool n, .slice X x.length c] t)) v.heap.size t [.bool n, .slice X x.length c] ∧ Rd (v.alloc (.cells #[.bool n, .slice X x.length c] t)) (fun g => g < (v.alloc (.cells #[.bool n, .slice X x.length c] t)).heap.size) .u32 X x ∧ Below W.heap.size W (v.alloc (.cells #[.bool n, .slice X x.length c] t)) :=
  ⟨Blk.new v t [.bool n, .slice X x.length c], r.on (below_new v _), keep_one K _⟩
theorem oneB {W v : World} {g : Nat} {t : TypeId} {X : Option Addr} {x : List Nat} (k : Blk v g t [.bool false, .slice none 0 0]) (hg : W.heap.size ≤ g) (K : Below W.heap.size W v) (n : Bool) (c : Nat) (r : Rd v (fun g => g < v.heap.size) .u32 X x) : Blk ((v.setCell ⟨g, 0, none⟩ (.bool n)).setCell ⟨g, 1, none⟩ (.slice X x.length c)) g t [.bool n, .slice X x.length c] ∧ Rd ((v.setCell ⟨g, 0, none⟩ (.bool n)).setCell ⟨g, 1, none⟩ (.slice X x.length c)) (fun b => b < ((v.setCell ⟨g, 0, none⟩ (.bool n)).setCell ⟨g, 1, none⟩ (.slice X x.length c)).heap.size) .u32 X x ∧ Below W.heap.size W ((v.setCell ⟨g, 0, none⟩ (.bool n)).setCell ⟨g, 1, none⟩ (.slice X x.length c)) :=
  ⟨k.pair _ _, r.far2 k _ _, (K.setCell (p := ⟨g, 0, none⟩) hg _).setCell (p := ⟨g, 1, none⟩) hg _⟩

set_option maxRecDepth 100000 in
set_option maxHeartbeats 51200000 in
/-- on which side of a way a spot is -/
theorem spot_Turn {P1 P2 P3 P4 P5 P6 : Int} {Q1 Q2 Q3 Q4 Q5 Q6 m1 m2 m3 m4 m5 m6 : Nat} (g1 : 1 ≤ m1) (g2 : 1 ≤ m2) (g3 : 1 ≤ m3) (g4 : 1 ≤ m4) (g5 : 1 ≤ m5) (g6 : 1 ≤ m6) (hs : m1 + m2 + m3 + m4 + m5 + m6 ≤ 4194304) (n1 n2 n3 n4 n5 n6 : Bool) (a1 d1 a2 d2 a3 d3 a4 d4 a5 d5 a6 d6 : List Nat) (A1 D1 A2 D2 A3 D3 A4 D4 A5 D5 A6 D6 : Option Addr) (c1 e1 c2 e2 c3 e3 c4 e4 c5 e5 c6 e6 : Nat) (w : World) (s1 : SI P1 Q1 m1 n1 a1 c1 d1 e1) (s2 : SI P2 Q2 m2 n2 a2 c2 d2 e2) (s3 : SI P3 Q3 m3 n3 a3 c3 d3 e3) (s4 : SI P4 Q4 m4 n4 a4 c4 d4 e4) (s5 : SI P5 Q5 m5 n5 a5 c5 d5 e5) (s6 : SI P6 Q6 m6 n6 a6 c6 d6 e6) (r1 : Rd w (fun g => g < w.heap.size) .u32 A1 a1) (q1 : Rd w (fun g => g < w.heap.size) .u32 D1 d1) (r2 : Rd w (fun g => g < w.heap.size) .u32 A2 a2) (q2 : Rd w (fun g => g < w.heap.size) .u32 D2 d2) (r3 : Rd w (fun g => g < w.heap.size) .u32 A3 a3) (q3 : Rd w (fun g => g < w.heap.size) .u32 D3 d3) (r4 : Rd w (fun g => g < w.heap.size) .u32 A4 a4) (q4 : Rd w (fun g => g < w.heap.size) .u32 D4 d4) (r5 : Rd w (fun g => g < w.heap.size) .u32 A5 a5) (q5 : Rd w (fun g => g < w.heap.size) .u32 D5 d5) (r6 : Rd w (fun g => g < w.heap.size) .u32 A6 a6) (q6 : Rd w (fun g => g < w.heap.size) .u32 D6 d6) :
    Calls Tryz.prog 28 #[.agg #[.bool n1, .slice A1 a1.length c1, .slice D1 d1.length e1, .bool n2, .slice A2 a2.length c2, .slice D2 d2.length e2], .agg #[.bool n3, .slice A3 a3.length c3, .slice D3 d3.length e3, .bool n4, .slice A4 a4.length c4, .slice D4 d4.length e4], .agg #[.bool n5, .slice A5 a5.length c5, .slice D5 d5.length e5, .bool n6, .slice A6 a6.length c6, .slice D6 d6.length e6]] w fun e w' => e = .returned (.int .i64 (sgn (det P1 P2 P3 P4 P5 P6 Q1 Q2 Q3 Q4 Q5 Q6))) ∧ Below w.heap.size w w' := by
  obtain ⟨z, hz⟩ : ∃ z, sgn (det P1 P2 P3 P4 P5 P6 Q1 Q2 Q3 Q4 Q5 Q6) = z := ⟨_, rfl⟩
  rw [hz]
  have HZ := Lib.hid hz
  clear hz
  obtain ⟨W, hW, k1, k2, k3, b0, s0⟩ := bxc w 31 31 31 [.bool n1, .slice A1 a1.length c1, .slice D1 d1.length e1, .bool n2, .slice A2 a2.length c2, .slice D2 d2.length e2] [.bool n3, .slice A3 a3.length c3, .slice D3 d3.length e3, .bool n4, .slice A4 a4.length c4, .slice D4 d4.length e4] [.bool n5, .slice A5 a5.length c5, .slice D5 d5.length e5, .bool n6, .slice A6 a6.length c6, .slice D6 d6.length e6]
  obtain ⟨⟨p00, p01, p02, p03, p04, p05⟩, ⟨p06, p07, p08, p09, p0a, p0b⟩⟩ := k1.facts6
  obtain ⟨⟨p10, p11, p12, p13, p14, p15⟩, ⟨p16, p17, p18, p19, p1a, p1b⟩⟩ := k2.facts6
  obtain ⟨⟨p20, p21, p22, p23, p24, p25⟩, ⟨p26, p27, p28, p29, p2a, p2b⟩⟩ := k3.facts6
  have CC0 := Lib.hid (fun (V : World) (hV : Below W.heap.size W V) => spot_hold _ _ _ _ (spot_counted P1 Q1 m1 g1 (by omega)) (spot_counted P2 Q2 m2 g2 (by omega)) n1 n2 a1 d1 a2 d2 A1 D1 A2 D2 c1 e1 c2 e2 V s1 s2 ((r1.on b0).on hV) ((q1.on b0).on hV) ((r2.on b0).on hV) ((q2.on b0).on hV))
  have CC1 := Lib.hid (fun (V : World) (hV : Below W.heap.size W V) => spot_hold _ _ _ _ (spot_counted P3 Q3 m3 g3 (by omega)) (spot_counted P4 Q4 m4 g4 (by omega)) n3 n4 a3 d3 a4 d4 A3 D3 A4 D4 c3 e3 c4 e4 V s3 s4 ((r3.on b0).on hV) ((q3.on b0).on hV) ((r4.on b0).on hV) ((q4.on b0).on hV))
  have CC2 := Lib.hid (fun (V : World) (hV : Below W.heap.size W V) => spot_hold _ _ _ _ (spot_counted P5 Q5 m5 g5 (by omega)) (spot_counted P6 Q6 m6 g6 (by omega)) n5 n6 a5 d5 a6 d6 A5 D5 A6 D6 c5 e5 c6 e6 V s5 s6 ((r5.on b0).on hV) ((q5.on b0).on hV) ((r6.on b0).on hV) ((q6.on b0).on hV))
  have HK1 := Lib.hid k1
  have HK2 := Lib.hid k2
  have HK3 := Lib.hid k3
  have HB0 := Lib.hid b0
  have K0 : Below W.heap.size W W.drew := below_drewN (Below.refl _ _) 1
  have hlt : w.heap.size + 2 < W.heap.size := by omega
  clear k1 k2 k3 b0 s0 s1 r1 q1 s2 r2 q2 s3 r3 q3 s4 r4 q4 s5 r5 q5 s6 r6 q6
  go_enter Tryz.func28, Tryz.ntmps28
  go_wp2_with fail
  try rw [hW]
  clear hW
  go_cut [] from 7 (fun wc => Hd (w.heap.size) P1 Q1 m1 P2 Q2 m2 wc ∧ Hd (w.heap.size + 1) P3 Q3 m3 P4 Q4 m4 wc ∧ Hd (w.heap.size + 1 + 1) P5 Q5 m5 P6 Q6 m6 wc ∧ Below w.heap.size w wc)
  case first =>
    go_region_with (first
      | (go_at_call_of 55 (Value.slice A1 a1.length c1); (with_reducible refine Calls.mono (CC0.out _ K0) ?_); rintro e w1 ⟨n51, a51, A51, c51, d51, D51, e51, n52, a52, A52, c52, d52, D52, e52, rfl, ⟨s51, s52⟩, ⟨r51, q51⟩, ⟨r52, q52⟩, b1⟩; have KA := below_next K0 (Nat.le_refl _) b1; obtain ⟨h010, h011, h012, h013, h014, h015⟩ := kept6 HK2.out KA; obtain ⟨h020, h021, h022, h023, h024, h025⟩ := kept6 HK3.out KA)
      | (go_at_call_of 55 (Value.slice A3 a3.length c3); (with_reducible refine Calls.mono (CC1.out _ KA) ?_); rintro e w2 ⟨n53, a53, A53, c53, d53, D53, e53, n54, a54, A54, c54, d54, D54, e54, rfl, ⟨s53, s54⟩, ⟨r53, q53⟩, ⟨r54, q54⟩, b2⟩; have KB := below_next KA (Nat.le_refl _) b2; obtain ⟨h120, h121, h122, h123, h124, h125⟩ := kept6 HK3.out KB)
      | (go_at_call_of 55 (Value.slice A5 a5.length c5); (with_reducible refine Calls.mono (CC2.out _ KB) ?_); rintro e w3 ⟨n55, a55, A55, c55, d55, D55, e55, n56, a56, A56, c56, d56, D56, e56, rfl, ⟨s55, s56⟩, ⟨r55, q55⟩, ⟨r56, q56⟩, b3⟩; have KC := below_next KB (Nat.le_refl _) b3; obtain ⟨⟨t00, t01, t02, t03, t04, t05⟩, ⟨t06, t07, t08, t09, t0a, t0b⟩⟩ := (HK1.out.below KC HK1.out.lt).facts6; obtain ⟨⟨t10, t11, t12, t13, t14, t15⟩, ⟨t16, t17, t18, t19, t1a, t1b⟩⟩ := (HK2.out.below KC HK2.out.lt).facts6; obtain ⟨⟨t20, t21, t22, t23, t24, t25⟩, ⟨t26, t27, t28, t29, t2a, t2b⟩⟩ := (HK3.out.below KC HK3.out.lt).facts6))
    all_goals
      have hw := held3 (v := w3) (w := w) (HK1.out.below KC HK1.out.lt) (HK2.out.below KC HK2.out.lt) (HK3.out.below KC HK3.out.lt) (HB0.out.trans (KC.mono HB0.out.size)) s51 s52 s53 s54 s55 s56 (r51.on (b2.trans (b3.mono b2.size))) (q51.on (b2.trans (b3.mono b2.size))) (r52.on (b2.trans (b3.mono b2.size))) (q52.on (b2.trans (b3.mono b2.size))) (r53.on b3) (q53.on b3) (r54.on b3) (q54.on b3) r55 q55 r56 q56
      have HW := Lib.hid hw
      clear hw KA KB KC b1 b2 b3 s51 r51 q51 s52 r52 q52 s53 r53 q53 s54 r54 q54 s55 r55 q55 s56 r56 q56 t00 t01 t02 t03 t04 t05 t06 t07 t08 t09 t0a t0b t10 t11 t12 t13 t14 t15 t16 t17 t18 t19 t1a t1b t20 t21 t22 t23 t24 t25 t26 t27 t28 t29 t2a t2b h010 h011 h012 h013 h014 h015 h020 h021 h022 h023 h024 h025 h120 h121 h122 h123 h124 h125
      go_wp2_with fail
      go_meet
      exact HW.out
  case rest =>
    obtain ⟨⟨n1, a1, A1, c1, d1, D1, e1, n2, a2, A2, c2, d2, D2, e2, k1, ⟨s1, s2⟩, ⟨r1, q1⟩, r2, q2⟩, ⟨n3, a3, A3, c3, d3, D3, e3, n4, a4, A4, c4, d4, D4, e4, k2, ⟨s3, s4⟩, ⟨r3, q3⟩, r4, q4⟩, ⟨n5, a5, A5, c5, d5, D5, e5, n6, a6, A6, c6, d6, D6, e6, k3, ⟨s5, s6⟩, ⟨r5, q5⟩, r6, q6⟩, bw⟩ := hcut
    obtain ⟨wb, hwb⟩ : ∃ x, x = wc := ⟨_, rfl⟩
    subst hwb
    obtain ⟨M7, hM7⟩ : ∃ M, (P3 * (Q1 : Int) - P1 * (Q3 : Int)) * (P6 * (Q2 : Int) - P2 * (Q6 : Int)) * (Q4 : Int) * (Q5 : Int) = M := ⟨_, rfl⟩
    obtain ⟨M8, hM8⟩ : ∃ M, (P4 * (Q2 : Int) - P2 * (Q4 : Int)) * (P5 * (Q1 : Int) - P1 * (Q5 : Int)) * (Q3 : Int) * (Q6 : Int) = M := ⟨_, rfl⟩
    obtain ⟨k7, hk7⟩ : ∃ k, m1 + m3 + 1 + (m2 + m6 + 1) + m4 + m5 = k := ⟨_, rfl⟩
    obtain ⟨k8, hk8⟩ : ∃ k, m2 + m4 + 1 + (m1 + m5 + 1) + m3 + m6 = k := ⟨_, rfl⟩
    have hk : k7 ≤ 8388608 ∧ k8 ≤ 8388608 := by omega
    have hz := HZ.out
    unfold det at hz
    rw [hM7, hM8] at hz
    have HZ2 := Lib.hid hz
    clear hz HZ
    have CG7 := Lib.hid (fun (V : World) (hV : Below wb.heap.size wb V) => spot_gap (A1 := A1) (D1 := D1) (A2 := A3) (D2 := D3) (by omega) (by omega) s1 s3 V ((r1.on (Below.refl _ wb)).on hV) ((q1.on (Below.refl _ wb)).on hV) ((r3.on (Below.refl _ wb)).on hV) ((q3.on (Below.refl _ wb)).on hV))
    have CH7 := Lib.hid (fun (V : World) (hV : Below wb.heap.size wb V) => spot_gap (A1 := A2) (D1 := D2) (A2 := A6) (D2 := D6) (by omega) (by omega) s2 s6 V ((r2.on (Below.refl _ wb)).on hV) ((q2.on (Below.refl _ wb)).on hV) ((r6.on (Below.refl _ wb)).on hV) ((q6.on (Below.refl _ wb)).on hV))
    have CP7 := Lib.hid (fun (V : World) (hV : Below wb.heap.size wb V) (n n' : Bool) (a a' : List Nat) (X X' : Option Addr) (c c' : Nat) (h : HW (P3 * (Q1 : Int) - P1 * (Q3 : Int)) (m1 + m3 + 1) n a c) (h' : HW (P6 * (Q2 : Int) - P2 * (Q6 : Int)) (m2 + m6 + 1) n' a' c') (r : Rd V (fun g => g < V.heap.size) .u32 X a) (r' : Rd V (fun g => g < V.heap.size) .u32 X' a') => spot_product (X := D4) (X' := D5) (by omega) h h' (show HD Q4 m4 d4 e4 from ⟨s4.2.1, s4.2.2.2.1, s4.2.2.2.2.2.1, s4.2.2.2.2.2.2.2⟩) (show HD Q5 m5 d5 e5 from ⟨s5.2.1, s5.2.2.2.1, s5.2.2.2.2.2.1, s5.2.2.2.2.2.2.2⟩) V r r' ((q4.on (Below.refl _ wb)).on hV) ((q5.on (Below.refl _ wb)).on hV))
    simp only [hM7, hk7] at CP7
    have HS := Lib.hid (And.intro (And.intro s1 s2) (And.intro (And.intro s3 s4) (And.intro s5 s6)))
    have HR := Lib.hid (And.intro (And.intro (And.intro r1 q1) (And.intro r2 q2)) (And.intro (And.intro (And.intro r3 q3) (And.intro r4 q4)) (And.intro (And.intro r5 q5) (And.intro r6 q6))))
    have H1 := Lib.hid k1
    have H2 := Lib.hid k2
    have H3 := Lib.hid k3
    have HM := Lib.hid (And.intro hM8 hk8)
    have HBW := Lib.hid bw
    have hl1 : w.heap.size + 1 + 1 < wb.heap.size := k3.lt
    obtain ⟨x00, x01, x02, x03, x04, x05⟩ := k1.facts6.1
    obtain ⟨x10, x11, x12, x13, x14, x15⟩ := k2.facts6.1
    obtain ⟨x20, x21, x22, x23, x24, x25⟩ := k3.facts6.1
    clear k1 k2 k3 bw hM7 hM8 hk7 hk8 s1 r1 q1 s2 r2 q2 s3 r3 q3 s4 r4 q4 s5 r5 q5 s6 r6 q6 CC0 CC1 CC2 HK1 HK2 HK3 HB0 K0 hlt p00 p01 p02 p03 p04 p05 p06 p07 p08 p09 p0a p0b p10 p11 p12 p13 p14 p15 p16 p17 p18 p19 p1a p1b p20 p21 p22 p23 p24 p25 p26 p27 p28 p29 p2a p2b g1 g2 g3 g4 g5 g6
    go_wp2_with fail
    go_cut [7] from 8 (fun v7 wd => ∃ g n x X c, v7 = .pointer (some ⟨g, 0, none⟩) ∧ HW (M7) (k7) n x c ∧ Blk wd g 27 [.bool n, .slice X x.length c] ∧ Rd wd (fun g => g < wd.heap.size) .u32 X x ∧ Below wb.heap.size wb wd)
    case first =>
      have K0 : Below wb.heap.size wb wb.drew := below_drewN (Below.refl _ _) 1
      have KO : Below wb.heap.size wb (wb.alloc (.cells #[.bool false, .slice none 0 0] 27)).drew := below_drewN (keep_one (Below.refl wb.heap.size wb) _) 1
      go_region_held3 (fun w' => (w'.cell? ⟨w.heap.size, 0, none⟩ = some (.bool n1) ∧ w'.cell? ⟨w.heap.size, 1, none⟩ = some (.slice A1 a1.length c1) ∧ w'.cell? ⟨w.heap.size, 2, none⟩ = some (.slice D1 d1.length e1) ∧ w'.cell? ⟨w.heap.size, 3, none⟩ = some (.bool n2) ∧ w'.cell? ⟨w.heap.size, 4, none⟩ = some (.slice A2 a2.length c2) ∧ w'.cell? ⟨w.heap.size, 5, none⟩ = some (.slice D2 d2.length e2)) ∧ (w'.cell? ⟨w.heap.size + 1, 0, none⟩ = some (.bool n3) ∧ w'.cell? ⟨w.heap.size + 1, 1, none⟩ = some (.slice A3 a3.length c3) ∧ w'.cell? ⟨w.heap.size + 1, 2, none⟩ = some (.slice D3 d3.length e3) ∧ w'.cell? ⟨w.heap.size + 1, 3, none⟩ = some (.bool n4) ∧ w'.cell? ⟨w.heap.size + 1, 4, none⟩ = some (.slice A4 a4.length c4) ∧ w'.cell? ⟨w.heap.size + 1, 5, none⟩ = some (.slice D4 d4.length e4)) ∧ (w'.cell? ⟨w.heap.size + 1 + 1, 0, none⟩ = some (.bool n5) ∧ w'.cell? ⟨w.heap.size + 1 + 1, 1, none⟩ = some (.slice A5 a5.length c5) ∧ w'.cell? ⟨w.heap.size + 1 + 1, 2, none⟩ = some (.slice D5 d5.length e5) ∧ w'.cell? ⟨w.heap.size + 1 + 1, 3, none⟩ = some (.bool n6) ∧ w'.cell? ⟨w.heap.size + 1 + 1, 4, none⟩ = some (.slice A6 a6.length c6) ∧ w'.cell? ⟨w.heap.size + 1 + 1, 5, none⟩ = some (.slice D6 d6.length e6)))
        (first | (refine ⟨kept6 H1.out ?_, kept6 H2.out ?_, kept6 H3.out ?_⟩ <;> first | (with_reducible exact KC) | (with_reducible exact KB) | (with_reducible exact KA) | (with_reducible exact K0) | (with_reducible exact KO) | ((repeat (first | (with_reducible refine Below.setCell ?_ (by dsimp only; omega) _) | (with_reducible refine Below.alloc ?_ (by first | omega | exact Nat.le_refl _ | (have := KC.size; omega) | (have := KB.size; omega) | (have := KA.size; omega) | (simp; omega) | (have := KC.size; simp [World.setCell]; omega) | (have := KB.size; simp; omega) | (have := KA.size; simp; omega)) _))); first | (with_reducible exact KC) | (with_reducible exact KB) | (with_reducible exact KA) | (with_reducible exact K0))) | go_keep)
        ((first
          | (go_at_call_of 57 (Value.slice A1 a1.length c1); (first | (with_reducible refine Calls.mono (CG7.out _ K0) ?_) | (with_reducible refine Calls.mono (CG7.out _ KO) ?_)); rintro e w2 ⟨m51, x51, X51, y51, rfl, s51, r51, b2⟩; (first | (guard_hyp b2 : Below wb.drew.heap.size wb.drew w2; have sz2 : wb.heap.size ≤ w2.heap.size := b2.size; have KA := below_next K0 (Nat.le_refl _) b2) | (obtain ⟨kX, sz2⟩ := got1d b2; have kX1 := kX.lt; obtain ⟨o0, o1, o2, o3⟩ := kX.facts2; have KA := below_next KO (Nat.le_refl _) b2)))
          | (go_at_call_of 57 (Value.slice A2 a2.length c2); (first | (with_reducible refine Calls.mono (CH7.out _ KA) ?_) | (with_reducible refine Calls.mono (CH7.out _ (keep_one KA _)) ?_)); rintro e w3 ⟨m52, x52, X52, y52, rfl, s52, r52, b3⟩; (first | (guard_hyp b3 : Below w2.heap.size w2 w3; have b23 : Below w2.heap.size w2 w3 := b3; have KB := below_next KA (Nat.le_refl _) b3; (try (have kX := kX.on b23; have kX2 := kX.lt; obtain ⟨o0, o1, o2, o3⟩ := kX.facts2))) | (obtain ⟨kX, sz3⟩ := got1 b3; have kX1 := kX.lt; obtain ⟨o0, o1, o2, o3⟩ := kX.facts2; have b23 : Below w2.heap.size w2 w3 := (below_new w2 _).trans (b3.mono (by simp)); have KB := below_next (keep_one KA _) (Nat.le_refl _) b3)); have sz4 : w2.heap.size ≤ w3.heap.size := b23.size; have r51 := r51.on b23)
          | (go_at_call 56; (first | (with_reducible refine Calls.mono (CP7.out _ KB m51 m52 x51 x52 X51 X52 y51 y52 s51 s52 r51 r52) ?_) | (with_reducible refine Calls.mono (CP7.out _ (keep_one KB _) m51 m52 x51 x52 X51 X52 y51 y52 s51 s52 (r51.on (below_new _ _)) (r52.on (below_new _ _))) ?_)); rintro e w4 ⟨m53, x53, X53, y53, rfl, s53, r53, b4⟩; (first | (guard_hyp b4 : Below w3.heap.size w3 w4; have b34 : Below w3.heap.size w3 w4 := b4; have KC := below_next KB (Nat.le_refl _) b4; (try (have kX := kX.on b34; have kX3 := kX.lt; obtain ⟨o0, o1, o2, o3⟩ := kX.facts2))) | (obtain ⟨kX, sz5⟩ := got1 b4; have kX1 := kX.lt; obtain ⟨o0, o1, o2, o3⟩ := kX.facts2; have b34 : Below w3.heap.size w3 w4 := (below_new w3 _).trans (b4.mono (by simp)); have KC := below_next (keep_one KB _) (Nat.le_refl _) b4)); have sz6 : w3.heap.size ≤ w4.heap.size := b34.size)))
      all_goals
        have hsz : wb.heap.size ≤ w4.heap.size := KC.size
        go_wp2_with fail
        go_meet
        refine ⟨_, m53, x53, X53, y53, rfl, s53, ?_⟩
        first
          | (with_reducible exact oneA KC _ _ r53)
          | (with_reducible exact oneB kX (by omega) KC _ _ r53)
    case rest =>
      obtain ⟨g7, n7, x7, X7, c7, rfl, s7, f7, r7, B7⟩ := hcut
      obtain ⟨wd, hwd⟩ : ∃ x, x = wc := ⟨_, rfl⟩
      subst hwd
      obtain ⟨⟨s1, s2⟩, ⟨s3, s4⟩, ⟨s5, s6⟩⟩ := HS.out
      obtain ⟨⟨⟨r1, q1⟩, ⟨r2, q2⟩⟩, ⟨⟨r3, q3⟩, ⟨r4, q4⟩⟩, ⟨⟨r5, q5⟩, ⟨r6, q6⟩⟩⟩ := HR.out
      obtain ⟨hM8, hk8⟩ := HM.out
      have CG8 := Lib.hid (fun (V : World) (hV : Below wd.heap.size wd V) => spot_gap (A1 := A2) (D1 := D2) (A2 := A4) (D2 := D4) (by omega) (by omega) s2 s4 V ((r2.on B7).on hV) ((q2.on B7).on hV) ((r4.on B7).on hV) ((q4.on B7).on hV))
      have CH8 := Lib.hid (fun (V : World) (hV : Below wd.heap.size wd V) => spot_gap (A1 := A1) (D1 := D1) (A2 := A5) (D2 := D5) (by omega) (by omega) s1 s5 V ((r1.on B7).on hV) ((q1.on B7).on hV) ((r5.on B7).on hV) ((q5.on B7).on hV))
      have CP8 := Lib.hid (fun (V : World) (hV : Below wd.heap.size wd V) (n n' : Bool) (a a' : List Nat) (X X' : Option Addr) (c c' : Nat) (h : HW (P4 * (Q2 : Int) - P2 * (Q4 : Int)) (m2 + m4 + 1) n a c) (h' : HW (P5 * (Q1 : Int) - P1 * (Q5 : Int)) (m1 + m5 + 1) n' a' c') (r : Rd V (fun g => g < V.heap.size) .u32 X a) (r' : Rd V (fun g => g < V.heap.size) .u32 X' a') => spot_product (X := D3) (X' := D6) (by omega) h h' (show HD Q3 m3 d3 e3 from ⟨s3.2.1, s3.2.2.2.1, s3.2.2.2.2.2.1, s3.2.2.2.2.2.2.2⟩) (show HD Q6 m6 d6 e6 from ⟨s6.2.1, s6.2.2.2.1, s6.2.2.2.2.2.1, s6.2.2.2.2.2.2.2⟩) V r r' ((q3.on B7).on hV) ((q6.on B7).on hV))
      simp only [hM8, hk8] at CP8
      have F7 := Lib.hid f7
      have S7 := Lib.hid s7
      have R7 := Lib.hid r7
      have HB7 := Lib.hid B7
      have H1 := Lib.hid (H1.out.on B7)
      have H2 := Lib.hid (H2.out.on B7)
      have H3 := Lib.hid (H3.out.on B7)
      have hl1 : w.heap.size + 1 + 1 < wd.heap.size := H3.out.lt
      obtain ⟨x00, x01, x02, x03, x04, x05⟩ := H1.out.facts6.1
      obtain ⟨x10, x11, x12, x13, x14, x15⟩ := H2.out.facts6.1
      obtain ⟨x20, x21, x22, x23, x24, x25⟩ := H3.out.facts6.1
      clear f7 s7 r7 B7 hM8 hk8 CG7 CH7 CP7 s1 r1 q1 s2 r2 q2 s3 r3 q3 s4 r4 q4 s5 r5 q5 s6 r6 q6
      go_wp2_with fail
      go_cut [8] from 9 (fun v8 we => ∃ g n x X c, v8 = .pointer (some ⟨g, 0, none⟩) ∧ HW (M8) (k8) n x c ∧ Blk we g 27 [.bool n, .slice X x.length c] ∧ Rd we (fun g => g < we.heap.size) .u32 X x ∧ Below wd.heap.size wd we)
      case first =>
        have K0 : Below wd.heap.size wd wd.drew := below_drewN (Below.refl _ _) 1
        have KO : Below wd.heap.size wd (wd.alloc (.cells #[.bool false, .slice none 0 0] 27)).drew := below_drewN (keep_one (Below.refl wd.heap.size wd) _) 1
        go_region_held3 (fun w' => (w'.cell? ⟨w.heap.size, 0, none⟩ = some (.bool n1) ∧ w'.cell? ⟨w.heap.size, 1, none⟩ = some (.slice A1 a1.length c1) ∧ w'.cell? ⟨w.heap.size, 2, none⟩ = some (.slice D1 d1.length e1) ∧ w'.cell? ⟨w.heap.size, 3, none⟩ = some (.bool n2) ∧ w'.cell? ⟨w.heap.size, 4, none⟩ = some (.slice A2 a2.length c2) ∧ w'.cell? ⟨w.heap.size, 5, none⟩ = some (.slice D2 d2.length e2)) ∧ (w'.cell? ⟨w.heap.size + 1, 0, none⟩ = some (.bool n3) ∧ w'.cell? ⟨w.heap.size + 1, 1, none⟩ = some (.slice A3 a3.length c3) ∧ w'.cell? ⟨w.heap.size + 1, 2, none⟩ = some (.slice D3 d3.length e3) ∧ w'.cell? ⟨w.heap.size + 1, 3, none⟩ = some (.bool n4) ∧ w'.cell? ⟨w.heap.size + 1, 4, none⟩ = some (.slice A4 a4.length c4) ∧ w'.cell? ⟨w.heap.size + 1, 5, none⟩ = some (.slice D4 d4.length e4)) ∧ (w'.cell? ⟨w.heap.size + 1 + 1, 0, none⟩ = some (.bool n5) ∧ w'.cell? ⟨w.heap.size + 1 + 1, 1, none⟩ = some (.slice A5 a5.length c5) ∧ w'.cell? ⟨w.heap.size + 1 + 1, 2, none⟩ = some (.slice D5 d5.length e5) ∧ w'.cell? ⟨w.heap.size + 1 + 1, 3, none⟩ = some (.bool n6) ∧ w'.cell? ⟨w.heap.size + 1 + 1, 4, none⟩ = some (.slice A6 a6.length c6) ∧ w'.cell? ⟨w.heap.size + 1 + 1, 5, none⟩ = some (.slice D6 d6.length e6)))
          (first | (refine ⟨kept6 H1.out ?_, kept6 H2.out ?_, kept6 H3.out ?_⟩ <;> first | (with_reducible exact KC) | (with_reducible exact KB) | (with_reducible exact KA) | (with_reducible exact K0) | (with_reducible exact KO) | ((repeat (first | (with_reducible refine Below.setCell ?_ (by dsimp only; omega) _) | (with_reducible refine Below.alloc ?_ (by first | omega | exact Nat.le_refl _ | (have := KC.size; omega) | (have := KB.size; omega) | (have := KA.size; omega) | (simp; omega) | (have := KC.size; simp [World.setCell]; omega) | (have := KB.size; simp; omega) | (have := KA.size; simp; omega)) _))); first | (with_reducible exact KC) | (with_reducible exact KB) | (with_reducible exact KA) | (with_reducible exact K0))) | go_keep)
          ((first
            | (go_at_call_of 57 (Value.slice A2 a2.length c2); (first | (with_reducible refine Calls.mono (CG8.out _ K0) ?_) | (with_reducible refine Calls.mono (CG8.out _ KO) ?_)); rintro e w2 ⟨m51, x51, X51, y51, rfl, s51, r51, b2⟩; (first | (guard_hyp b2 : Below wd.drew.heap.size wd.drew w2; have sz2 : wd.heap.size ≤ w2.heap.size := b2.size; have KA := below_next K0 (Nat.le_refl _) b2) | (obtain ⟨kX, sz2⟩ := got1d b2; have kX1 := kX.lt; obtain ⟨o0, o1, o2, o3⟩ := kX.facts2; have KA := below_next KO (Nat.le_refl _) b2)))
            | (go_at_call_of 57 (Value.slice A1 a1.length c1); (first | (with_reducible refine Calls.mono (CH8.out _ KA) ?_) | (with_reducible refine Calls.mono (CH8.out _ (keep_one KA _)) ?_)); rintro e w3 ⟨m52, x52, X52, y52, rfl, s52, r52, b3⟩; (first | (guard_hyp b3 : Below w2.heap.size w2 w3; have b23 : Below w2.heap.size w2 w3 := b3; have KB := below_next KA (Nat.le_refl _) b3; (try (have kX := kX.on b23; have kX2 := kX.lt; obtain ⟨o0, o1, o2, o3⟩ := kX.facts2))) | (obtain ⟨kX, sz3⟩ := got1 b3; have kX1 := kX.lt; obtain ⟨o0, o1, o2, o3⟩ := kX.facts2; have b23 : Below w2.heap.size w2 w3 := (below_new w2 _).trans (b3.mono (by simp)); have KB := below_next (keep_one KA _) (Nat.le_refl _) b3)); have sz4 : w2.heap.size ≤ w3.heap.size := b23.size; have r51 := r51.on b23)
            | (go_at_call 56; (first | (with_reducible refine Calls.mono (CP8.out _ KB m51 m52 x51 x52 X51 X52 y51 y52 s51 s52 r51 r52) ?_) | (with_reducible refine Calls.mono (CP8.out _ (keep_one KB _) m51 m52 x51 x52 X51 X52 y51 y52 s51 s52 (r51.on (below_new _ _)) (r52.on (below_new _ _))) ?_)); rintro e w4 ⟨m53, x53, X53, y53, rfl, s53, r53, b4⟩; (first | (guard_hyp b4 : Below w3.heap.size w3 w4; have b34 : Below w3.heap.size w3 w4 := b4; have KC := below_next KB (Nat.le_refl _) b4; (try (have kX := kX.on b34; have kX3 := kX.lt; obtain ⟨o0, o1, o2, o3⟩ := kX.facts2))) | (obtain ⟨kX, sz5⟩ := got1 b4; have kX1 := kX.lt; obtain ⟨o0, o1, o2, o3⟩ := kX.facts2; have b34 : Below w3.heap.size w3 w4 := (below_new w3 _).trans (b4.mono (by simp)); have KC := below_next (keep_one KB _) (Nat.le_refl _) b4)); have sz6 : w3.heap.size ≤ w4.heap.size := b34.size)))
        all_goals
          have hsz : wd.heap.size ≤ w4.heap.size := KC.size
          go_wp2_with fail
          go_meet
          refine ⟨_, m53, x53, X53, y53, rfl, s53, ?_⟩
          first
            | (with_reducible exact oneA KC _ _ r53)
            | (with_reducible exact oneB kX (by omega) KC _ _ r53)
      case rest =>
        obtain ⟨g8, n8, x8, X8, c8, rfl, s8, f8, r8, B8⟩ := hcut
        obtain ⟨we, hwe⟩ : ∃ x, x = wc := ⟨_, rfl⟩
        subst hwe
        have cC := whole_Cmp n7 n8 x7 x8 X7 X8 c7 c8 we (R7.out.on B8) r8 (by have := S7.out.2.2.1; omega) (by have := s8.2.2.1; omega) S7.out.1 s8.1 S7.out.2.1 s8.2.1
        rw [S7.out.2.2.2, s8.2.2.2, HZ2.out] at cC
        obtain ⟨y0, y1, -, -⟩ := (F7.out.on B8).facts2
        obtain ⟨z0, z1, -, -⟩ := f8.facts2
        have HB := Lib.hid (HBW.out.trans ((HB7.out.trans (B8.mono HB7.out.size)).mono HBW.out.size))
        clear s8 f8 r8 B8 CG8 CH8 CP8
        go_wp2_with fail
        refine cC.mono ?_
        rintro e w5 ⟨rfl, b5⟩
        go_wp2_with fail
        go_ret
        exact ⟨rfl, HB.out.trans (b5.mono HB.out.size)⟩
end Go.Proofs.YtokaapljlpngdaaGreatDoor
