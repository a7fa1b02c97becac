/- The law WholeSums: sums, differences, products, order and signs are the document's own. -/
import Derived.Test.YtkmgmppmhgoadaaDoorLawF
import Derived.Test.YtkmgmppmhgoadaaDoorWhE
import Derived.Deep.RegionWith
namespace Go.Proofs.YtkmgmppmhgoadaaDoor
open Go.RowKit Num

set_option maxRecDepth 100000 in
set_option maxHeartbeats 12800000 in
theorem walk_WholeSums (n1 n2 : Bool) (a b : List Nat) (A A' : Option Addr) (ca cb : Nat) (w : World) (h : Rd w (fun g => g < w.heap.size) .u32 A a) (h' : Rd w (fun g => g < w.heap.size) .u32 A' b) (hl : a.length ≤ 2097152) (hl' : b.length ≤ 2097152) (hc : a.length ≤ ca) (hc' : b.length ≤ cb) (ha : Dg 4294967296 a) (hb : Dg 4294967296 b) (htab : Tab w) :
    Calls Tryd.prog 3 #[.agg #[.bool n1, .slice A a.length ca], .agg #[.bool n2, .slice A' b.length cb]] w fun e w' => e = .returned (.bool true) ∧ Below w.heap.size w w' := by
  obtain ⟨m, hm1, hm2⟩ : ∃ m, 4194305 ≤ m ∧ m ≤ 4194305 := ⟨4194305, Nat.le_refl _, Nat.le_refl _⟩
  have xa := wv_abs n1 a
  have xb := wv_abs n2 b
  obtain ⟨W, hW, k1, k2, k3, k4, k5, k6⟩ := boxes20 w (.bool n1) (.slice A a.length ca) (.bool n2) (.slice A' b.length cb) 24
  have hW1 : w.heap.size + 2 ≤ W.heap.size := by omega
  have D : ∀ V, Below W.heap.size W.drew V → Below w.heap.size w V := fun V hV => (below_drewN k6 1).trans (hV.mono k6.size)
  have c1 := fun (V : World) (hV : Below W.heap.size W.drew V) => (whole_Add n1 n2 a b A A' ca cb V (h.on (D V hV)) (h'.on (D V hV)) (by omega) (by omega) hc hc' ha hb).mono (fun e w' hg => lim (m := m) (lim_sum (n := 2097152) ha hb hl hl' (by omega) (by omega)) hg)
  have c2 := fun (V : World) (hV : Below W.heap.size W.drew V) => (ref2_Add n1 n2 a b A A' ca cb V (h.on (D V hV)) (h'.on (D V hV)) (by omega) (by omega) ha hb).mono (fun e w' hg => lim (m := m) (lim_sum (n := 2097152) ha hb hl hl' (by omega) (by omega)) hg)
  have c3 := fun (V : World) (hV : Below W.heap.size W.drew V) => (whole_Sub n1 n2 a b A A' ca cb V (h.on (D V hV)) (h'.on (D V hV)) (by omega) (by omega) hc hc' ha hb).mono (fun e w' hg => lim (m := m) (lim_sum (n := 2097152) ha hb hl hl' (by omega) (by omega)) hg)
  have c4 := fun (V : World) (hV : Below W.heap.size W.drew V) => (ref2_Sub n1 n2 a b A A' ca cb V (h.on (D V hV)) (h'.on (D V hV)) (by omega) (by omega) ha hb).mono (fun e w' hg => lim (m := m) (lim_sum (n := 2097152) ha hb hl hl' (by omega) (by omega)) hg)
  have c5 := fun (V : World) (hV : Below W.heap.size W.drew V) => (whole_Mul n1 n2 a b A A' ca cb V (h.on (D V hV)) (h'.on (D V hV)) (by omega) (by omega) hc hc' ha hb).mono (fun e w' hg => lim (m := m) (lim_prod n1 n2 ha hb (by omega)) hg)
  have c6 := fun (V : World) (hV : Below W.heap.size W.drew V) => (ref2_Mul n1 n2 a b A A' ca cb V (h.on (D V hV)) (h'.on (D V hV)) (by omega) (by omega) ha hb).mono (fun e w' hg => lim (m := m) (lim_prod n1 n2 ha hb (by omega)) hg)
  have c7 := fun (V : World) (hV : Below W.heap.size W.drew V) => whole_Cmp n1 n2 a b A A' ca cb V (h.on (D V hV)) (h'.on (D V hV)) (by omega) (by omega) hc hc' ha hb
  have c8 := fun (V : World) (hV : Below W.heap.size W.drew V) => ref2_Cmp n1 n2 a b A A' ca cb V (h.on (D V hV)) (h'.on (D V hV)) (by omega) (by omega) ha hb
  have c9 := fun (V : World) (hV : Below W.heap.size W.drew V) => whole_Sign n1 a A ca V (h.on (D V hV)) (by omega) hc ha
  have c10 := fun (V : World) (hV : Below W.heap.size W.drew V) => ref2_Sign n1 a A ca V (h.on (D V hV)) (by omega) ha
  have c11 := fun (V : World) (hV : Below W.heap.size W.drew V) => (whole_Neg n1 a A ca V (h.on (D V hV)) (by omega) hc ha).mono (fun e w' hg => lim (m := m) (lim_one ha (by omega) (by omega)) hg)
  have c12 := fun (V : World) (hV : Below W.heap.size W.drew V) => (ref2_Neg n1 a A ca V (h.on (D V hV)) (by omega) ha).mono (fun e w' hg => lim (m := m) (lim_one ha (by omega) (by omega)) hg)
  have c13 := fun (V : World) (hV : Below W.heap.size W.drew V) => law2_lives V (htab.on (D V hV))
  obtain ⟨N1, hN1⟩ : ∃ N, wv n1 a + wv n2 b = N := ⟨_, rfl⟩
  rw [hN1] at c1 c2
  obtain ⟨N2, hN2⟩ : ∃ N, wv n1 a - wv n2 b = N := ⟨_, rfl⟩
  rw [hN2] at c3 c4
  obtain ⟨N3, hN3⟩ : ∃ N, wv n1 a * wv n2 b = N := ⟨_, rfl⟩
  rw [hN3] at c5 c6
  rw [hN2] at c7 c8
  obtain ⟨z1, hz1⟩ : ∃ z, sgn N2 = z := ⟨_, rfl⟩
  rw [hz1] at c7 c8
  obtain ⟨z2, hz2⟩ : ∃ z, sgn (wv n1 a) = z := ⟨_, rfl⟩
  rw [hz2] at c9 c10
  obtain ⟨N4, hN4⟩ : ∃ N, - wv n1 a = N := ⟨_, rfl⟩
  rw [hN4] at c11 c12
  clear hN1 hN2 hN3 hN4 hz1 hz2 xa xb
  have C1 := Lib.hid c1
  have C2 := Lib.hid c2
  have C3 := Lib.hid c3
  have C4 := Lib.hid c4
  have C5 := Lib.hid c5
  have C6 := Lib.hid c6
  have C7 := Lib.hid c7
  have C8 := Lib.hid c8
  have C9 := Lib.hid c9
  have C10 := Lib.hid c10
  have C11 := Lib.hid c11
  have C12 := Lib.hid c12
  have C13 := Lib.hid c13
  have HD := Lib.hid D
  have HW2 := Lib.hid k5
  clear c1 c2 c3 c4 c5 c6 c7 c8 c9 c10 c11 c12 c13 D k5
  have K0 : Below W.heap.size W.drew W.drew := Below.refl _ _
  go_enter Tryd.func3, Tryd.ntmps3
  go_wp2_with fail
  try rw [hW]
  clear hW
  go_region_held3 (fun w' => w'.cell? ⟨w.heap.size, 0, none⟩ = some (.bool n1) ∧ w'.cell? ⟨w.heap.size, 1, none⟩ = some (.slice A a.length ca) ∧ w'.cell? ⟨w.heap.size + 1, 0, none⟩ = some (.bool n2) ∧ w'.cell? ⟨w.heap.size + 1, 1, none⟩ = some (.slice A' b.length cb))
    (first | exact keep4 (W := W.drew) k1 k2 k3 k4 hW1 K17 | exact keep4 (W := W.drew) k1 k2 k3 k4 hW1 K16 | exact keep4 (W := W.drew) k1 k2 k3 k4 hW1 K15 | exact keep4 (W := W.drew) k1 k2 k3 k4 hW1 K14 | exact keep4 (W := W.drew) k1 k2 k3 k4 hW1 K13 | exact keep4 (W := W.drew) k1 k2 k3 k4 hW1 K12 | exact keep4 (W := W.drew) k1 k2 k3 k4 hW1 K11 | exact keep4 (W := W.drew) k1 k2 k3 k4 hW1 K10 | exact keep4 (W := W.drew) k1 k2 k3 k4 hW1 K9 | exact keep4 (W := W.drew) k1 k2 k3 k4 hW1 K8 | exact keep4 (W := W.drew) k1 k2 k3 k4 hW1 K7 | exact keep4 (W := W.drew) k1 k2 k3 k4 hW1 K6 | exact keep4 (W := W.drew) k1 k2 k3 k4 hW1 K5 | exact keep4 (W := W.drew) k1 k2 k3 k4 hW1 K4 | exact keep4 (W := W.drew) k1 k2 k3 k4 hW1 K3 | exact keep4 (W := W.drew) k1 k2 k3 k4 hW1 K2 | exact keep4 (W := W.drew) k1 k2 k3 k4 hW1 K1 | go_keep)
    ((first
      | (go_at_call 9; (with_reducible refine Calls.mono (C1.out _ K0) ?_); rintro e w1 ⟨A1, x1, y1, rfl, hc1, hl1, hn1, hv1, r1, b1⟩; have K1 := next K0 (Nat.le_refl _) b1)
      | (go_at_call 10; (with_reducible refine Calls.mono (C2.out _ K1) ?_); rintro e w2 ⟨A2, x2, y2, rfl, hc2, hl2, hn2, hv2, r2, b2⟩; have K2 := next K1 (Nat.le_refl _) b2; obtain rfl : x1 = x2 := Norm.ext (b := 4294967296) (by omega) hn1 hn2 (hv1.trans hv2.symm))
      | (go_at_call_of 8 x1; (with_reducible refine Calls.mono (ref2_Same _ x1 A1 A2 y1 y2 _ (r1.on b2) r2 (by omega)) ?_); rintro e w3 ⟨rfl, b3⟩; have K3 := next K2 (Nat.le_refl _) b3)
      | (go_at_call 11; (with_reducible refine Calls.mono (C3.out _ K3) ?_); rintro e w4 ⟨A4, x4, y4, rfl, hc4, hl4, hn4, hv4, r4, b4⟩; have K4 := next K3 (Nat.le_refl _) b4)
      | (go_at_call 12; (with_reducible refine Calls.mono (C4.out _ K4) ?_); rintro e w5 ⟨A5, x5, y5, rfl, hc5, hl5, hn5, hv5, r5, b5⟩; have K5 := next K4 (Nat.le_refl _) b5; obtain rfl : x4 = x5 := Norm.ext (b := 4294967296) (by omega) hn4 hn5 (hv4.trans hv5.symm))
      | (go_at_call_of 8 x4; (with_reducible refine Calls.mono (ref2_Same _ x4 A4 A5 y4 y5 _ (r4.on b5) r5 (by omega)) ?_); rintro e w6 ⟨rfl, b6⟩; have K6 := next K5 (Nat.le_refl _) b6)
      | (go_at_call 13; (with_reducible refine Calls.mono (C5.out _ K6) ?_); rintro e w7 ⟨A7, x7, y7, rfl, hc7, hl7, hn7, hv7, r7, b7⟩; have K7 := next K6 (Nat.le_refl _) b7)
      | (go_at_call 14; (with_reducible refine Calls.mono (C6.out _ K7) ?_); rintro e w8 ⟨A8, x8, y8, rfl, hc8, hl8, hn8, hv8, r8, b8⟩; have K8 := next K7 (Nat.le_refl _) b8; obtain rfl : x7 = x8 := Norm.ext (b := 4294967296) (by omega) hn7 hn8 (hv7.trans hv8.symm))
      | (go_at_call_of 8 x7; (with_reducible refine Calls.mono (ref2_Same _ x7 A7 A8 y7 y8 _ (r7.on b8) r8 (by omega)) ?_); rintro e w9 ⟨rfl, b9⟩; have K9 := next K8 (Nat.le_refl _) b9)
      | (go_at_call 15; (with_reducible refine Calls.mono (C7.out _ K9) ?_); rintro e w10 ⟨rfl, b10⟩; have K10 := next K9 (Nat.le_refl _) b10)
      | (go_at_call 16; (with_reducible refine Calls.mono (C8.out _ K10) ?_); rintro e w11 ⟨rfl, b11⟩; have K11 := next K10 (Nat.le_refl _) b11)
      | (go_at_call 17; (with_reducible refine Calls.mono (C9.out _ K11) ?_); rintro e w12 ⟨rfl, b12⟩; have K12 := next K11 (Nat.le_refl _) b12)
      | (go_at_call 18; (with_reducible refine Calls.mono (C10.out _ K12) ?_); rintro e w13 ⟨rfl, b13⟩; have K13 := next K12 (Nat.le_refl _) b13)
      | (go_at_call 19; (with_reducible refine Calls.mono (C11.out _ K13) ?_); rintro e w14 ⟨A14, x14, y14, rfl, hc14, hl14, hn14, hv14, r14, b14⟩; have K14 := next K13 (Nat.le_refl _) b14)
      | (go_at_call 20; (with_reducible refine Calls.mono (C12.out _ K14) ?_); rintro e w15 ⟨A15, x15, y15, rfl, hc15, hl15, hn15, hv15, r15, b15⟩; have K15 := next K14 (Nat.le_refl _) b15; obtain rfl : x14 = x15 := Norm.ext (b := 4294967296) (by omega) hn14 hn15 (hv14.trans hv15.symm))
      | (go_at_call_of 8 x14; (with_reducible refine Calls.mono (ref2_Same _ x14 A14 A15 y14 y15 _ (r14.on b15) r15 (by omega)) ?_); rintro e w16 ⟨rfl, b16⟩; have K16 := next K15 (Nat.le_refl _) b16)
      | (go_at_call 21; (with_reducible refine Calls.mono (C13.out _ K16) ?_); rintro e w17 ⟨rfl, b17⟩; have K17 := next K16 (Nat.le_refl _) b17)))
  go_wp2_with fail
  go_ret
  exact ⟨rfl, HD.out _ K17⟩
end Go.Proofs.YtkmgmppmhgoadaaDoor
