/- The walk of PamParts. Written by gen/genpu.py. -/
import Derived.Test.YtchfbpgbojnakaaDoorZPaS
import Derived.Deep.RegionHeld3
namespace Go.Proofs.YtchfbpgbojnakaaDoor
open Go.RowKit

theorem lies6_on {r R : Ras} {p p3 p4 : Option Addr} {c c3 c4 : Nat} {u v : Int} {cc : Col} {g0 g5 g1 g2 g3 g4 : Nat} {V w w' : World} (h : (((w.cell? ⟨g0, 0, none⟩ = some (.int .i64 r.w) ∧ w.cell? ⟨g0, 1, none⟩ = some (.int .i64 r.h) ∧ w.cell? ⟨g0, 2, none⟩ = some (.slice p r.pix.length c)) ∧ (w.cell? ⟨g5, 2, none⟩ = some (.int .i64 u) ∧ w.cell? ⟨g5, 3, none⟩ = some (.int .i64 v)) ∧ (w.cell? ⟨g1, 0, none⟩ = some (.int .u8 (cc.r.toNat : Int)) ∧ w.cell? ⟨g1, 1, none⟩ = some (.int .u8 (cc.g.toNat : Int)) ∧ w.cell? ⟨g1, 2, none⟩ = some (.int .u8 (cc.b.toNat : Int)) ∧ w.cell? ⟨g1, 3, none⟩ = some (.int .u8 (cc.a.toNat : Int))) ∧ (w.cell? ⟨g2, 0, none⟩ = some (.int .u8 (cc.r.toNat : Int)) ∧ w.cell? ⟨g2, 1, none⟩ = some (.int .u8 (cc.g.toNat : Int)) ∧ w.cell? ⟨g2, 2, none⟩ = some (.int .u8 (cc.b.toNat : Int)) ∧ w.cell? ⟨g2, 3, none⟩ = some (.int .u8 (cc.a.toNat : Int))) ∧ (w.cell? ⟨g3, 0, none⟩ = some (.int .i64 R.w) ∧ w.cell? ⟨g3, 1, none⟩ = some (.int .i64 R.h) ∧ w.cell? ⟨g3, 2, none⟩ = some (.slice p3 R.pix.length c3)) ∧ (w.cell? ⟨g4, 0, none⟩ = some (.int .i64 R.w) ∧ w.cell? ⟨g4, 1, none⟩ = some (.int .i64 R.h) ∧ w.cell? ⟨g4, 2, none⟩ = some (.slice p4 R.pix.length c4))) ∧ (g0 < w.heap.size ∧ g5 < w.heap.size ∧ g1 < w.heap.size ∧ g2 < w.heap.size ∧ g3 < w.heap.size ∧ g4 < w.heap.size)) ∧ Below V.heap.size V w) (hb : Below w.heap.size w w') : (((w'.cell? ⟨g0, 0, none⟩ = some (.int .i64 r.w) ∧ w'.cell? ⟨g0, 1, none⟩ = some (.int .i64 r.h) ∧ w'.cell? ⟨g0, 2, none⟩ = some (.slice p r.pix.length c)) ∧ (w'.cell? ⟨g5, 2, none⟩ = some (.int .i64 u) ∧ w'.cell? ⟨g5, 3, none⟩ = some (.int .i64 v)) ∧ (w'.cell? ⟨g1, 0, none⟩ = some (.int .u8 (cc.r.toNat : Int)) ∧ w'.cell? ⟨g1, 1, none⟩ = some (.int .u8 (cc.g.toNat : Int)) ∧ w'.cell? ⟨g1, 2, none⟩ = some (.int .u8 (cc.b.toNat : Int)) ∧ w'.cell? ⟨g1, 3, none⟩ = some (.int .u8 (cc.a.toNat : Int))) ∧ (w'.cell? ⟨g2, 0, none⟩ = some (.int .u8 (cc.r.toNat : Int)) ∧ w'.cell? ⟨g2, 1, none⟩ = some (.int .u8 (cc.g.toNat : Int)) ∧ w'.cell? ⟨g2, 2, none⟩ = some (.int .u8 (cc.b.toNat : Int)) ∧ w'.cell? ⟨g2, 3, none⟩ = some (.int .u8 (cc.a.toNat : Int))) ∧ (w'.cell? ⟨g3, 0, none⟩ = some (.int .i64 R.w) ∧ w'.cell? ⟨g3, 1, none⟩ = some (.int .i64 R.h) ∧ w'.cell? ⟨g3, 2, none⟩ = some (.slice p3 R.pix.length c3)) ∧ (w'.cell? ⟨g4, 0, none⟩ = some (.int .i64 R.w) ∧ w'.cell? ⟨g4, 1, none⟩ = some (.int .i64 R.h) ∧ w'.cell? ⟨g4, 2, none⟩ = some (.slice p4 R.pix.length c4))) ∧ (g0 < w'.heap.size ∧ g5 < w'.heap.size ∧ g1 < w'.heap.size ∧ g2 < w'.heap.size ∧ g3 < w'.heap.size ∧ g4 < w'.heap.size)) ∧ Below V.heap.size V w' := by
  obtain ⟨⟨⟨⟨h0, h1, h2⟩, ⟨k0, k1⟩, ⟨a0, a1, a2, a3⟩, ⟨b0, b1, b2, b3⟩, ⟨d0, d1, d2⟩, e0, e1, e2⟩, l0, l1, l2, l3, l4, l5⟩, hv⟩ := h
  have e : ∀ (i j : Nat), i < w.heap.size → w'.cell? ⟨i, j, none⟩ = w.cell? ⟨i, j, none⟩ := fun i j hi => hb.cell (p := ⟨i, j, none⟩) hi
  have hs := hb.size
  refine ⟨⟨⟨⟨?_, ?_, ?_⟩, ⟨?_, ?_⟩, ⟨?_, ?_, ?_, ?_⟩, ⟨?_, ?_, ?_, ?_⟩, ⟨?_, ?_, ?_⟩, ?_, ?_, ?_⟩, by omega, by omega, by omega, by omega, by omega, by omega⟩, hv.trans (hb.mono hv.size)⟩
  all_goals exact (e _ _ (by assumption)).trans (by assumption)
theorem lies6_drew {r R : Ras} {p p3 p4 : Option Addr} {c c3 c4 : Nat} {u v : Int} {cc : Col} {g0 g5 g1 g2 g3 g4 : Nat} {V w : World} (h : (((w.cell? ⟨g0, 0, none⟩ = some (.int .i64 r.w) ∧ w.cell? ⟨g0, 1, none⟩ = some (.int .i64 r.h) ∧ w.cell? ⟨g0, 2, none⟩ = some (.slice p r.pix.length c)) ∧ (w.cell? ⟨g5, 2, none⟩ = some (.int .i64 u) ∧ w.cell? ⟨g5, 3, none⟩ = some (.int .i64 v)) ∧ (w.cell? ⟨g1, 0, none⟩ = some (.int .u8 (cc.r.toNat : Int)) ∧ w.cell? ⟨g1, 1, none⟩ = some (.int .u8 (cc.g.toNat : Int)) ∧ w.cell? ⟨g1, 2, none⟩ = some (.int .u8 (cc.b.toNat : Int)) ∧ w.cell? ⟨g1, 3, none⟩ = some (.int .u8 (cc.a.toNat : Int))) ∧ (w.cell? ⟨g2, 0, none⟩ = some (.int .u8 (cc.r.toNat : Int)) ∧ w.cell? ⟨g2, 1, none⟩ = some (.int .u8 (cc.g.toNat : Int)) ∧ w.cell? ⟨g2, 2, none⟩ = some (.int .u8 (cc.b.toNat : Int)) ∧ w.cell? ⟨g2, 3, none⟩ = some (.int .u8 (cc.a.toNat : Int))) ∧ (w.cell? ⟨g3, 0, none⟩ = some (.int .i64 R.w) ∧ w.cell? ⟨g3, 1, none⟩ = some (.int .i64 R.h) ∧ w.cell? ⟨g3, 2, none⟩ = some (.slice p3 R.pix.length c3)) ∧ (w.cell? ⟨g4, 0, none⟩ = some (.int .i64 R.w) ∧ w.cell? ⟨g4, 1, none⟩ = some (.int .i64 R.h) ∧ w.cell? ⟨g4, 2, none⟩ = some (.slice p4 R.pix.length c4))) ∧ (g0 < w.heap.size ∧ g5 < w.heap.size ∧ g1 < w.heap.size ∧ g2 < w.heap.size ∧ g3 < w.heap.size ∧ g4 < w.heap.size)) ∧ Below V.heap.size V w) : (((w.drew.cell? ⟨g0, 0, none⟩ = some (.int .i64 r.w) ∧ w.drew.cell? ⟨g0, 1, none⟩ = some (.int .i64 r.h) ∧ w.drew.cell? ⟨g0, 2, none⟩ = some (.slice p r.pix.length c)) ∧ (w.drew.cell? ⟨g5, 2, none⟩ = some (.int .i64 u) ∧ w.drew.cell? ⟨g5, 3, none⟩ = some (.int .i64 v)) ∧ (w.drew.cell? ⟨g1, 0, none⟩ = some (.int .u8 (cc.r.toNat : Int)) ∧ w.drew.cell? ⟨g1, 1, none⟩ = some (.int .u8 (cc.g.toNat : Int)) ∧ w.drew.cell? ⟨g1, 2, none⟩ = some (.int .u8 (cc.b.toNat : Int)) ∧ w.drew.cell? ⟨g1, 3, none⟩ = some (.int .u8 (cc.a.toNat : Int))) ∧ (w.drew.cell? ⟨g2, 0, none⟩ = some (.int .u8 (cc.r.toNat : Int)) ∧ w.drew.cell? ⟨g2, 1, none⟩ = some (.int .u8 (cc.g.toNat : Int)) ∧ w.drew.cell? ⟨g2, 2, none⟩ = some (.int .u8 (cc.b.toNat : Int)) ∧ w.drew.cell? ⟨g2, 3, none⟩ = some (.int .u8 (cc.a.toNat : Int))) ∧ (w.drew.cell? ⟨g3, 0, none⟩ = some (.int .i64 R.w) ∧ w.drew.cell? ⟨g3, 1, none⟩ = some (.int .i64 R.h) ∧ w.drew.cell? ⟨g3, 2, none⟩ = some (.slice p3 R.pix.length c3)) ∧ (w.drew.cell? ⟨g4, 0, none⟩ = some (.int .i64 R.w) ∧ w.drew.cell? ⟨g4, 1, none⟩ = some (.int .i64 R.h) ∧ w.drew.cell? ⟨g4, 2, none⟩ = some (.slice p4 R.pix.length c4))) ∧ (g0 < w.drew.heap.size ∧ g5 < w.drew.heap.size ∧ g1 < w.drew.heap.size ∧ g2 < w.drew.heap.size ∧ g3 < w.drew.heap.size ∧ g4 < w.drew.heap.size)) ∧ Below V.heap.size V w.drew := ⟨h.1, h.2.drew⟩
theorem low6 {A : Prop} {v w : World} (h : A ∧ Below v.heap.size v w) : Below v.heap.size v w := h.2
theorem crop_len (r : Ras) (x y u v : Int) : (cropR r x y u v).pix.length ≤ 4611686018427387904 := by
  unfold cropR
  by_cases h : CropOk r x y u v
  · rw [if_pos h]
    have h1 := h.2.1
    have h2 := h.2.2.1
    show (cropTo r x y u.toNat v.toNat 0).length ≤ _
    rw [cropTo_len]
    have := side_mul h1 h2
    have e : (v.toNat * u.toNat + 0 : Nat) ≤ 4096 := by
      have e1 : u = (u.toNat : Int) := by omega
      have e2 : v = (v.toNat : Int) := by omega
      rw [e1, e2] at this
      have h3 : ((u.toNat * v.toNat : Nat) : Int) ≤ 4096 := by rw [Int.natCast_mul]; exact this.2
      rw [Nat.mul_comm]
      omega
    omega
  · rw [if_neg h]; simp [ras0]
theorem blank_len (x y : Int) : (blankR x y).pix.length ≤ 4611686018427387904 := by
  unfold blankR
  by_cases h : (1 ≤ x ∧ x ≤ 64) ∧ (1 ≤ y ∧ y ≤ 64)
  · rw [if_pos h]
    have := side_mul h.1 h.2
    simp only [List.length_replicate]
    omega
  · rw [if_neg h]; simp [ras0]

set_option maxRecDepth 10000 in
set_option maxHeartbeats 12800000 in
theorem walk_PamParts (r : Ras) (p : Option Addr) (c : Nat) (hR : RasOk r) (x y u v : Int) (hx : -9223372036854775808 ≤ x ∧ x ≤ 9223372036854775807) (hy : -9223372036854775808 ≤ y ∧ y ≤ 9223372036854775807) (hpc : r.pix.length ≤ c) (w : World) (hq : RdV w w.heap.size p (rowCells r.pix)) (hEnv : Env9 w) :
    Calls Tryd.prog 4 #[rasV r p c, .agg #[.int .i64 x, .int .i64 y, .int .i64 u, .int .i64 v]] w fun e w' => e = .returned (.bool true) ∧ Below w.heap.size w w' := by
  obtain ⟨V0, hV, k1, hq1, B0, hz⟩ := ras_laid w r p c hq
  obtain ⟨W, hW, k2, B1, hz2⟩ : ∃ W, V0.alloc (.cells #[.int .i64 x, .int .i64 y, .int .i64 u, .int .i64 v] 39) = W ∧ Box W (w.heap.size + 1) 39 [.int .i64 x, .int .i64 y, .int .i64 u, .int .i64 v] ∧ Below V0.heap.size V0 W ∧ W.heap.size = V0.heap.size + 1 :=
    ⟨_, rfl, Box.at_new V0 _ [.int .i64 x, .int .i64 y, .int .i64 u, .int .i64 v] hz.symm, (Below.refl _ _).alloc (Nat.le_refl _) _, by simp⟩
  have k1' := k1.below B1 (by omega)
  have hq2 := hq1.on B1
  have HB := Lib.hid (B0.trans (B1.mono (by omega)))
  obtain ⟨cc, hcc⟩ : ∃ cc, (atR r x y).getD col0 = cc := ⟨_, rfl⟩
  obtain ⟨is, his⟩ : ∃ b, (atR r x y).isSome = b := ⟨_, rfl⟩
  obtain ⟨R, hRR⟩ : ∃ R, cropR r x y u v = R := ⟨_, rfl⟩
  obtain ⟨E, hE⟩ : ∃ E, cropE r x y u v = E := ⟨_, rfl⟩
  obtain ⟨L, hL⟩ : ∃ L, blankR u v = L := ⟨_, rfl⟩
  obtain ⟨m, hm⟩ : ∃ m, mayR r = m := ⟨_, rfl⟩
  have E1 := fun X (h : Below W.heap.size W X) => pam_At r p c x y hR hx hy X (hq2.on h)
  have E2 := fun X (h : Below W.heap.size W X) => ref9_At r p c x y hR hx hy X (hq2.on h)
  have E3 := fun X (h : Below W.heap.size W X) => pam_Crop r p c hpc x y u v hR hx hy X (hq2.on h)
  have E4 := fun X (h : Below W.heap.size W X) => ref9_Crop r p c x y u v hR X (hq2.on h)
  have E5 := fun X => pam_May r p c hR X
  have E6 := fun X => ref9_May r p c hR X
  have E7 := fun X => pam_Blank u v X
  have E8 := fun X => ref9_Blank u v X
  have HLR := Lib.hid (show R.pix.length ≤ 4611686018427387904 by rw [← hRR]; exact crop_len r x y u v)
  have HLL := Lib.hid (show L.pix.length ≤ 4611686018427387904 by rw [← hL]; exact blank_len u v)
  simp only [hcc, his] at E1 E2
  simp only [hRR, hE] at E3 E4
  simp only [hL] at E7 E8
  simp only [hm] at E5 E6
  replace hEnv := Lib.hid hEnv
  clear hpc
  replace E1 := Lib.hid E1
  replace E2 := Lib.hid E2
  replace E3 := Lib.hid E3
  replace E4 := Lib.hid E4
  replace E5 := Lib.hid E5
  replace E6 := Lib.hid E6
  replace E7 := Lib.hid E7
  replace E8 := Lib.hid E8
  have HK := Lib.hid (And.intro k1' k2)
  have HW := Lib.hid (show (w.alloc (.cells #[.int .i64 r.w, .int .i64 r.h, .slice p r.pix.length c] 24)).alloc (.cells #[.int .i64 x, .int .i64 y, .int .i64 u, .int .i64 v] 39) = W from by rw [hV]; exact hW)
  clear hcc his hRR hE hL hm hV hW k1 k1' k2 hq hq1 hq2 B0 B1 hz hz2 hR hx hy
  unfold rasV colV at *
  go_enter Tryd.func4, Tryd.ntmps4
  go_wp2_with first
    | (rw [HW.out]; go_at_call 13; with_reducible refine Calls.mono (E1.out W (Below.refl _ _)) ?_; rintro e w1 ⟨rfl, b1⟩
       have D1 := Lib.hid (b1.alloc b1.size (.cells #[.int .u8 (cc.r.toNat : Int), .int .u8 (cc.g.toNat : Int), .int .u8 (cc.b.toNat : Int), .int .u8 (cc.a.toNat : Int)] 41))
       obtain ⟨y0, y1, y2⟩ := Box.three (HK.out.1.below D1.out HK.out.1.lt)
       obtain ⟨⟨z0, z1, z2, z3⟩, -⟩ := Box.four (HK.out.2.below D1.out HK.out.2.lt))
    | (go_at_call 14; with_reducible refine Calls.mono (E2.out _ D1.out) ?_; rintro e w2 ⟨rfl, b2⟩
       have D2 := Lib.hid ((D1.out.trans (b2.mono D1.out.size)).alloc ((D1.out.trans (b2.mono D1.out.size)).size) (.cells #[.int .u8 (cc.r.toNat : Int), .int .u8 (cc.g.toNat : Int), .int .u8 (cc.b.toNat : Int), .int .u8 (cc.a.toNat : Int)] 41))
       obtain ⟨y0, y1, y2⟩ := Box.three (HK.out.1.below D2.out HK.out.1.lt)
       obtain ⟨⟨z0, z1, z2, z3⟩, -⟩ := Box.four (HK.out.2.below D2.out HK.out.2.lt))
    | (go_at_call 15; with_reducible refine Calls.mono (E3.out _ D2.out) ?_; rintro e w3 ⟨⟨p3, c3, rfl, r3⟩, b3⟩
       have D3 := Lib.hid ((D2.out.trans (b3.mono D2.out.size)).alloc ((D2.out.trans (b3.mono D2.out.size)).size) (.cells #[.int .i64 R.w, .int .i64 R.h, .slice p3 R.pix.length c3] 24))
       obtain ⟨y0, y1, y2⟩ := Box.three (HK.out.1.below D3.out HK.out.1.lt)
       obtain ⟨⟨z0, z1, z2, z3⟩, -⟩ := Box.four (HK.out.2.below D3.out HK.out.2.lt))
    | (go_at_call 16; with_reducible refine Calls.mono (E4.out _ D3.out) ?_; rintro e w4 ⟨⟨p4, c4, rfl, r4⟩, b4⟩
       have D4 := Lib.hid ((D3.out.trans (b4.mono D3.out.size)).alloc ((D3.out.trans (b4.mono D3.out.size)).size) (.cells #[.int .i64 R.w, .int .i64 R.h, .slice p4 R.pix.length c4] 24))
       have n4 : Below w4.heap.size w4 (w4.alloc (.cells #[.int .i64 R.w, .int .i64 R.h, .slice p4 R.pix.length c4] 24)) := (Below.refl _ _).alloc (Nat.le_refl _) _
       have n3 : Below w3.heap.size w3 (w4.alloc (.cells #[.int .i64 R.w, .int .i64 R.h, .slice p4 R.pix.length c4] 24)) := by
         have h := ((Below.refl w3.heap.size w3).alloc (Nat.le_refl _) (.cells #[.int .i64 R.w, .int .i64 R.h, .slice p3 R.pix.length c3] 24))
         have h2 := h.trans (b4.mono h.size)
         exact h2.alloc h2.size _
       have t4 := Box.new w4 24 [.int .i64 R.w, .int .i64 R.h, .slice p4 R.pix.length c4]
       have t3 := Box.new w3 24 [.int .i64 R.w, .int .i64 R.h, .slice p3 R.pix.length c3]
       have t3' := (t3.below b4 t3.lt).alloc (.cells #[.int .i64 R.w, .int .i64 R.h, .slice p4 R.pix.length c4] 24)
       have t2 := Box.new w2 41 (colCells cc)
       have t2' := (((t2.below b3 t2.lt).alloc (.cells #[.int .i64 R.w, .int .i64 R.h, .slice p3 R.pix.length c3] 24)).below b4 ((t2.below b3 t2.lt).alloc (.cells #[.int .i64 R.w, .int .i64 R.h, .slice p3 R.pix.length c3] 24)).lt).alloc (.cells #[.int .i64 R.w, .int .i64 R.h, .slice p4 R.pix.length c4] 24)
       have t1 := Box.new w1 41 (colCells cc)
       have t1a := (t1.below b2 t1.lt).alloc (.cells #[.int .u8 (cc.r.toNat : Int), .int .u8 (cc.g.toNat : Int), .int .u8 (cc.b.toNat : Int), .int .u8 (cc.a.toNat : Int)] 41)
       have t1b := (t1a.below b3 t1a.lt).alloc (.cells #[.int .i64 R.w, .int .i64 R.h, .slice p3 R.pix.length c3] 24)
       have t1' := (t1b.below b4 t1b.lt).alloc (.cells #[.int .i64 R.w, .int .i64 R.h, .slice p4 R.pix.length c4] 24)
       have q0 := HK.out.1.below D4.out HK.out.1.lt
       have q1 := HK.out.2.below D4.out HK.out.2.lt
       have hS : ((((w4.alloc (.cells #[.int .i64 R.w, .int .i64 R.h, .slice p4 R.pix.length c4] 24)).cell? ⟨w.heap.size, 0, none⟩ = some (.int .i64 r.w) ∧ (w4.alloc (.cells #[.int .i64 R.w, .int .i64 R.h, .slice p4 R.pix.length c4] 24)).cell? ⟨w.heap.size, 1, none⟩ = some (.int .i64 r.h) ∧ (w4.alloc (.cells #[.int .i64 R.w, .int .i64 R.h, .slice p4 R.pix.length c4] 24)).cell? ⟨w.heap.size, 2, none⟩ = some (.slice p r.pix.length c)) ∧ ((w4.alloc (.cells #[.int .i64 R.w, .int .i64 R.h, .slice p4 R.pix.length c4] 24)).cell? ⟨(w.heap.size + 1), 2, none⟩ = some (.int .i64 u) ∧ (w4.alloc (.cells #[.int .i64 R.w, .int .i64 R.h, .slice p4 R.pix.length c4] 24)).cell? ⟨(w.heap.size + 1), 3, none⟩ = some (.int .i64 v)) ∧ ((w4.alloc (.cells #[.int .i64 R.w, .int .i64 R.h, .slice p4 R.pix.length c4] 24)).cell? ⟨w1.heap.size, 0, none⟩ = some (.int .u8 (cc.r.toNat : Int)) ∧ (w4.alloc (.cells #[.int .i64 R.w, .int .i64 R.h, .slice p4 R.pix.length c4] 24)).cell? ⟨w1.heap.size, 1, none⟩ = some (.int .u8 (cc.g.toNat : Int)) ∧ (w4.alloc (.cells #[.int .i64 R.w, .int .i64 R.h, .slice p4 R.pix.length c4] 24)).cell? ⟨w1.heap.size, 2, none⟩ = some (.int .u8 (cc.b.toNat : Int)) ∧ (w4.alloc (.cells #[.int .i64 R.w, .int .i64 R.h, .slice p4 R.pix.length c4] 24)).cell? ⟨w1.heap.size, 3, none⟩ = some (.int .u8 (cc.a.toNat : Int))) ∧ ((w4.alloc (.cells #[.int .i64 R.w, .int .i64 R.h, .slice p4 R.pix.length c4] 24)).cell? ⟨w2.heap.size, 0, none⟩ = some (.int .u8 (cc.r.toNat : Int)) ∧ (w4.alloc (.cells #[.int .i64 R.w, .int .i64 R.h, .slice p4 R.pix.length c4] 24)).cell? ⟨w2.heap.size, 1, none⟩ = some (.int .u8 (cc.g.toNat : Int)) ∧ (w4.alloc (.cells #[.int .i64 R.w, .int .i64 R.h, .slice p4 R.pix.length c4] 24)).cell? ⟨w2.heap.size, 2, none⟩ = some (.int .u8 (cc.b.toNat : Int)) ∧ (w4.alloc (.cells #[.int .i64 R.w, .int .i64 R.h, .slice p4 R.pix.length c4] 24)).cell? ⟨w2.heap.size, 3, none⟩ = some (.int .u8 (cc.a.toNat : Int))) ∧ ((w4.alloc (.cells #[.int .i64 R.w, .int .i64 R.h, .slice p4 R.pix.length c4] 24)).cell? ⟨w3.heap.size, 0, none⟩ = some (.int .i64 R.w) ∧ (w4.alloc (.cells #[.int .i64 R.w, .int .i64 R.h, .slice p4 R.pix.length c4] 24)).cell? ⟨w3.heap.size, 1, none⟩ = some (.int .i64 R.h) ∧ (w4.alloc (.cells #[.int .i64 R.w, .int .i64 R.h, .slice p4 R.pix.length c4] 24)).cell? ⟨w3.heap.size, 2, none⟩ = some (.slice p3 R.pix.length c3)) ∧ ((w4.alloc (.cells #[.int .i64 R.w, .int .i64 R.h, .slice p4 R.pix.length c4] 24)).cell? ⟨w4.heap.size, 0, none⟩ = some (.int .i64 R.w) ∧ (w4.alloc (.cells #[.int .i64 R.w, .int .i64 R.h, .slice p4 R.pix.length c4] 24)).cell? ⟨w4.heap.size, 1, none⟩ = some (.int .i64 R.h) ∧ (w4.alloc (.cells #[.int .i64 R.w, .int .i64 R.h, .slice p4 R.pix.length c4] 24)).cell? ⟨w4.heap.size, 2, none⟩ = some (.slice p4 R.pix.length c4))) ∧ (w.heap.size < (w4.alloc (.cells #[.int .i64 R.w, .int .i64 R.h, .slice p4 R.pix.length c4] 24)).heap.size ∧ (w.heap.size + 1) < (w4.alloc (.cells #[.int .i64 R.w, .int .i64 R.h, .slice p4 R.pix.length c4] 24)).heap.size ∧ w1.heap.size < (w4.alloc (.cells #[.int .i64 R.w, .int .i64 R.h, .slice p4 R.pix.length c4] 24)).heap.size ∧ w2.heap.size < (w4.alloc (.cells #[.int .i64 R.w, .int .i64 R.h, .slice p4 R.pix.length c4] 24)).heap.size ∧ w3.heap.size < (w4.alloc (.cells #[.int .i64 R.w, .int .i64 R.h, .slice p4 R.pix.length c4] 24)).heap.size ∧ w4.heap.size < (w4.alloc (.cells #[.int .i64 R.w, .int .i64 R.h, .slice p4 R.pix.length c4] 24)).heap.size)) ∧ Below (w4.alloc (.cells #[.int .i64 R.w, .int .i64 R.h, .slice p4 R.pix.length c4] 24)).heap.size (w4.alloc (.cells #[.int .i64 R.w, .int .i64 R.h, .slice p4 R.pix.length c4] 24)) (w4.alloc (.cells #[.int .i64 R.w, .int .i64 R.h, .slice p4 R.pix.length c4] 24)) := ⟨⟨⟨Box.three q0, ⟨q1.cell 2 rfl, q1.cell 3 rfl⟩, (Box.four t1').1, (Box.four t2').1, Box.three t3', Box.three t4⟩, q0.lt, q1.lt, t1'.lt, t2'.lt, t3'.lt, t4.lt⟩, Below.refl _ _⟩
       have HS := Lib.hid hS
       have RX := Lib.hid (And.intro (r3.on n3) (r4.on n4))
       have HB2 := Lib.hid (HB.out.trans (D4.out.mono HB.out.size))
       clear hS t1 t1a t1b t1' t2 t2' t3 t3' t4 q0 q1 n3 n4 r3 r4)
  clear HK HW D1 D2 D3 D4 b1 b2 b3 b4 HB
  generalize w1.heap.size = g1 at *
  generalize w2.heap.size = g2 at *
  generalize w3.heap.size = g3 at *
  obtain ⟨g4, hg4⟩ : ∃ g4, w4.heap.size = g4 := ⟨_, rfl⟩
  generalize (w4.alloc (.cells #[.int .i64 R.w, .int .i64 R.h, .slice p4 R.pix.length c4] 24)) = V at *
  rw [hg4] at HS ⊢
  clear hg4
  have hSV := HS.out
  obtain ⟨⟨⟨⟨s0, s1, s2⟩, ⟨s3, s4⟩, ⟨s5, s6, s7, s8⟩, ⟨s9, s10, s11, s12⟩, ⟨s13, s14, s15⟩, s16, s17, s18⟩, -⟩, -⟩ := hSV
  have A7 := Lib.hid (fun X (h : Below V.heap.size V X) => ref9_Same R R p3 p4 c3 c4 X (RX.out.1.on h) (RX.out.2.on h) HLR.out)
  have A8 := Lib.hid (fun X p6 c6 p7 c7 h6 h7 => ref9_Same L L p6 p7 c6 c7 X h6 h7 HLL.out)
  have A9 := Lib.hid (fun X (h : Below V.heap.size V X) => law9_lives X ((hEnv.out.on HB2.out).on h))
  unfold rasV TellsIt at A7 A8
  clear y0 y1 y2 z0 z1 z2 z3
  go_region_held3 (fun w' => (((w'.cell? ⟨w.heap.size, 0, none⟩ = some (.int .i64 r.w) ∧ w'.cell? ⟨w.heap.size, 1, none⟩ = some (.int .i64 r.h) ∧ w'.cell? ⟨w.heap.size, 2, none⟩ = some (.slice p r.pix.length c)) ∧ (w'.cell? ⟨(w.heap.size + 1), 2, none⟩ = some (.int .i64 u) ∧ w'.cell? ⟨(w.heap.size + 1), 3, none⟩ = some (.int .i64 v)) ∧ (w'.cell? ⟨g1, 0, none⟩ = some (.int .u8 (cc.r.toNat : Int)) ∧ w'.cell? ⟨g1, 1, none⟩ = some (.int .u8 (cc.g.toNat : Int)) ∧ w'.cell? ⟨g1, 2, none⟩ = some (.int .u8 (cc.b.toNat : Int)) ∧ w'.cell? ⟨g1, 3, none⟩ = some (.int .u8 (cc.a.toNat : Int))) ∧ (w'.cell? ⟨g2, 0, none⟩ = some (.int .u8 (cc.r.toNat : Int)) ∧ w'.cell? ⟨g2, 1, none⟩ = some (.int .u8 (cc.g.toNat : Int)) ∧ w'.cell? ⟨g2, 2, none⟩ = some (.int .u8 (cc.b.toNat : Int)) ∧ w'.cell? ⟨g2, 3, none⟩ = some (.int .u8 (cc.a.toNat : Int))) ∧ (w'.cell? ⟨g3, 0, none⟩ = some (.int .i64 R.w) ∧ w'.cell? ⟨g3, 1, none⟩ = some (.int .i64 R.h) ∧ w'.cell? ⟨g3, 2, none⟩ = some (.slice p3 R.pix.length c3)) ∧ (w'.cell? ⟨g4, 0, none⟩ = some (.int .i64 R.w) ∧ w'.cell? ⟨g4, 1, none⟩ = some (.int .i64 R.h) ∧ w'.cell? ⟨g4, 2, none⟩ = some (.slice p4 R.pix.length c4))) ∧ (w.heap.size < w'.heap.size ∧ (w.heap.size + 1) < w'.heap.size ∧ g1 < w'.heap.size ∧ g2 < w'.heap.size ∧ g3 < w'.heap.size ∧ g4 < w'.heap.size)) ∧ Below V.heap.size V w')
    (first | (with_reducible exact HS.out) | (with_reducible exact lies6_drew HS.out) | (with_reducible exact lies6_on (by assumption) b6) | (with_reducible exact lies6_drew (by assumption)) | go_keep)
    ((first
      | (go_at_call 17; (with_reducible refine Calls.mono (E5.out _) ?_); rintro e w5 ⟨rfl, b6⟩)
      | (go_at_call 18; (with_reducible refine Calls.mono (E6.out _) ?_); rintro e w5 ⟨rfl, b6⟩)
      | (go_at_call 11; (with_reducible refine Calls.mono (A7.out _ (low6 (by assumption))) ?_); rintro e w5 ⟨⟨bb, rfl, hbb⟩, b6⟩; obtain rfl : bb = true := hbb.2 (by first | rfl | trivial))
      | (go_at_call 19; (with_reducible refine Calls.mono (E7.out _) ?_); rintro e w6 ⟨⟨p6, c6, rfl, r6⟩, b6⟩)
      | (go_at_call 20; (with_reducible refine Calls.mono (E8.out _) ?_); rintro e w7 ⟨⟨p7, c7, rfl, r7⟩, b6⟩; have r6' := r6.on b6)
      | (go_at_call 11; (with_reducible refine Calls.mono (A8.out _ _ _ _ _ r6' r7) ?_); rintro e w5 ⟨⟨bb, rfl, hbb⟩, b6⟩; obtain rfl : bb = true := hbb.2 (by first | rfl | trivial))
      | (go_at_call 12; (with_reducible refine Calls.mono (A9.out _ (low6 (by assumption))) ?_); rintro e w5 ⟨rfl, b6⟩)))
  all_goals
    rename_i hHeld
    obtain ⟨-, hB⟩ := hHeld
    go_wp2_with fail
    go_ret
    exact ⟨rfl, HB2.out.trans (hB.mono HB2.out.size)⟩
end Go.Proofs.YtchfbpgbojnakaaDoor
