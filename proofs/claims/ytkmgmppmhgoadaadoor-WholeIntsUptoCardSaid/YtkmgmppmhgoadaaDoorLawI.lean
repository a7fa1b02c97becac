/- The law WholeInts: which numbers are ints, and what any sign and size are, is the document's own. -/
import Derived.Test.YtkmgmppmhgoadaaDoorWrF
import Derived.Deep.RegionWith
namespace Go.Proofs.YtkmgmppmhgoadaaDoor
open Go.RowKit Num

set_option maxRecDepth 100000 in
set_option maxHeartbeats 12800000 in
theorem walk_WholeInts (n1 : Bool) (a : List Nat) (A : Option Addr) (ca : Nat) (n : Int) (w : World) (h : Rd w (fun g => g < w.heap.size) .u32 A a) (hl : a.length ≤ 2097152) (hc : a.length ≤ ca) (ha : Dg 4294967296 a) (hx1 : -9223372036854775808 ≤ n) (hx2 : n ≤ 9223372036854775807) (htab : Tab w) :
    Calls Tryd.prog 5 #[.agg #[.bool n1, .slice A a.length ca], .int .i64 n] w fun e w' => e = .returned (.bool true) ∧ Below w.heap.size w w' := by
  obtain ⟨m, hm1, hm2⟩ : ∃ m, 4194305 ≤ m ∧ m ≤ 4194305 := ⟨4194305, Nat.le_refl _, Nat.le_refl _⟩
  have c1 := fun (V : World) (hV : Below w.heap.size w V) => whole_Int n1 a A ca V (h.on hV) (by omega) hc ha
  have c2 := fun (V : World) (hV : Below w.heap.size w V) => ref2_Int n1 a A ca V (h.on hV) (by omega) ha
  have hnl : n.natAbs < 4294967296 ^ m := Nat.lt_of_lt_of_le (show n.natAbs < 4294967296 ^ 2 by omega) (Nat.pow_le_pow_right (by omega) (by omega))
  have c3 := fun (V : World) => (whole_Of n hx1 hx2 V).mono (fun e w' hg => lim (m := m) hnl hg)
  have c4 := fun (V : World) => (ref2_Of n hx1 hx2 V).mono (fun e w' hg => lim (m := m) hnl hg)
  have hlm : (wv n1 a).natAbs < 4294967296 ^ m := lim_one ha (by omega) (by rw [wv_abs]; exact Nat.le_refl _)
  have c5 := fun (V : World) (hV : Below w.heap.size w V) => (whole_Make n1 a A ca _ V (h.on hV) (by omega) hc ha rfl).mono (fun e w' hg => lim (m := m) hlm hg)
  have c6 := fun (V : World) (hV : Below w.heap.size w V) => (ref2_Make n1 a A ca _ V (h.on hV) (by omega) ha rfl).mono (fun e w' hg => lim (m := m) hlm hg)
  have c7 := fun (V : World) (hV : Below w.heap.size w V) => law2_lives V (htab.on hV)
  have c8 : ∀ (V : World) (xs : List Nat) (A : Option Addr) (c : Nat) (d : Bool), Rd V (fun g => g < V.heap.size) .u32 A xs → xs.length ≤ c → xs.length ≤ m → Norm 4294967296 xs → val 4294967296 xs = n.natAbs → decide (n < 0) = d → Calls Tryd.prog 24 #[.agg #[.bool d, .slice A xs.length c]] V fun e w' => e = .returned (.tuple #[.int .i64 n, .bool true]) ∧ Below V.heap.size V w' := fun V xs A c d hr hc hl hn hv hd => by
    have := whole_Int d xs A c V hr (by omega) hc hn.1
    rw [show wv d xs = n by rw [← hd]; exact wv_dec hv] at this
    unfold IntIs at this
    rwa [(isInt_yes hx1 hx2).1, (isInt_yes hx1 hx2).2] at this
  unfold IntIs at c1 c2
  obtain ⟨z, hz⟩ : ∃ z, intOr0 (wv n1 a) = z := ⟨_, rfl⟩
  obtain ⟨p, hp⟩ : ∃ p, isInt (wv n1 a) = p := ⟨_, rfl⟩
  obtain ⟨N, hN⟩ : ∃ N, wv n1 a = N := ⟨_, rfl⟩
  rw [hz, hp] at c1 c2
  rw [hN] at c5 c6
  obtain ⟨dn, hdn⟩ : ∃ d, decide (n < 0) = d := ⟨_, rfl⟩
  have HDN := Lib.hid hdn
  unfold GivesWL at c3 c4
  rw [hdn] at c3 c4
  have C1 := Lib.hid c1
  have C2 := Lib.hid c2
  have C3 := Lib.hid c3
  have C4 := Lib.hid c4
  have C5 := Lib.hid c5
  have C6 := Lib.hid c6
  have C7 := Lib.hid c7
  have C8 := Lib.hid c8
  clear c1 c2 c3 c4 c5 c6 c7 c8 hz hp hN hdn hnl hlm
  obtain ⟨W, hW, k1, k2, s1, B0⟩ : ∃ W, w.alloc (.cells #[.bool n1, .slice A a.length ca] 24) = W ∧ W.cell? ⟨w.heap.size, 0, none⟩ = some (.bool n1) ∧ W.cell? ⟨w.heap.size, 1, none⟩ = some (.slice A a.length ca) ∧ w.heap.size < W.heap.size ∧ Below w.heap.size w W :=
    ⟨_, rfl, (cells_of (heap_alloc_new w _)).1, (cells_of (heap_alloc_new w _)).2.1, by simp, below_new _ _⟩
  go_enter Tryd.func5, Tryd.ntmps5
  go_wp2_with fail
  try rw [hW]
  clear hW
  refine (C1.out W B0).mono ?_
  rintro e v1 ⟨rfl, b1⟩
  have B1 := B0.trans (b1.mono B0.size)
  obtain ⟨j1, j2⟩ := box_keep k1 k2 s1 b1
  have s2 : w.heap.size < v1.heap.size := Nat.lt_of_lt_of_le s1 b1.size
  clear k1 k2 b1
  go_wp2_with fail
  refine (C2.out v1 B1).mono ?_
  rintro e v2 ⟨rfl, b2⟩
  have B2 := B1.trans (b2.mono B1.size)
  obtain ⟨k1, k2⟩ := box_keep j1 j2 s2 b2
  have s3 : w.heap.size < v2.heap.size := Nat.lt_of_lt_of_le s2 b2.size
  clear j1 j2 b2
  go_wp2_with fail
  refine (C3.out v2).mono ?_
  rintro e v3 ⟨P3, q3, d3, rfl, hc3, hl3, hn3, hv3, r3, b3⟩
  have cI := C8.out v3 q3 P3 d3 dn r3 hc3 hl3 hn3 hv3 HDN.out
  have B3 := B2.trans (b3.mono B2.size)
  obtain ⟨j1, j2⟩ := box_keep k1 k2 s3 b3
  have s4 : w.heap.size < v3.heap.size := Nat.lt_of_lt_of_le s3 b3.size
  clear k1 k2 b3 hv3 hn3
  go_wp2_with fail
  refine cI.mono ?_
  rintro e V ⟨rfl, b4⟩
  have BV := B3.trans (b4.mono B3.size)
  obtain ⟨k1, k2⟩ := box_keep j1 j2 s4 b4
  have sV : w.heap.size < V.heap.size := Nat.lt_of_lt_of_le s4 b4.size
  clear j1 j2 b4 cI
  have HD := Lib.hid (fun (U : World) (hU : Below V.heap.size V U) => (BV.trans (hU.mono BV.size) : Below w.heap.size w U))
  have K0 : Below V.heap.size V V.drew := below_drewN (Below.refl _ _) 1
  go_wp2_with fail
  go_region_held3 (fun w' => w'.cell? ⟨w.heap.size, 0, none⟩ = some (.bool n1) ∧ w'.cell? ⟨w.heap.size, 1, none⟩ = some (.slice A a.length ca))
    (first | exact box_keep k1 k2 sV K7 | exact box_keep k1 k2 sV K6 | exact box_keep k1 k2 sV K5 | exact box_keep k1 k2 sV K4 | exact box_keep k1 k2 sV K3 | exact box_keep k1 k2 sV K2 | exact box_keep k1 k2 sV K1 | exact box_keep k1 k2 sV K0 | go_keep)
    ((first
      | (go_at_call 26; (with_reducible refine Calls.mono (C3.out _) ?_); rintro e w1 ⟨A1, x1, y1, rfl, hc1, hl1, hn1, hv1, r1, b1⟩; have K1 := next K0 (Nat.le_refl _) b1)
      | (go_at_call 27; (with_reducible refine Calls.mono (C4.out _) ?_); rintro e w2 ⟨A2, x2, y2, rfl, hc2, hl2, hn2, hv2, r2, b2⟩; have K2 := next K1 (Nat.le_refl _) b2; obtain rfl : x1 = x2 := Norm.ext (b := 4294967296) (by omega) hn1 hn2 (hv1.trans hv2.symm))
      | (go_at_call_of 8 x1; (with_reducible refine Calls.mono (ref2_Same _ x1 A1 A2 y1 y2 _ (r1.on b2) r2 (by omega)) ?_); rintro e w3 ⟨rfl, b3⟩; have K3 := next K2 (Nat.le_refl _) b3)
      | (go_at_call 28; (with_reducible refine Calls.mono (C5.out _ (HD.out _ K3)) ?_); rintro e w4 ⟨A4, x4, y4, rfl, hc4, hl4, hn4, hv4, r4, b4⟩; have K4 := next K3 (Nat.le_refl _) b4)
      | (go_at_call 29; (with_reducible refine Calls.mono (C6.out _ (HD.out _ K4)) ?_); rintro e w5 ⟨A5, x5, y5, rfl, hc5, hl5, hn5, hv5, r5, b5⟩; have K5 := next K4 (Nat.le_refl _) b5; obtain rfl : x4 = x5 := Norm.ext (b := 4294967296) (by omega) hn4 hn5 (hv4.trans hv5.symm))
      | (go_at_call_of 8 x4; (with_reducible refine Calls.mono (ref2_Same _ x4 A4 A5 y4 y5 _ (r4.on b5) r5 (by omega)) ?_); rintro e w6 ⟨rfl, b6⟩; have K6 := next K5 (Nat.le_refl _) b6)
      | (go_at_call 21; (with_reducible refine Calls.mono (C7.out _ (HD.out _ K6)) ?_); rintro e w7 ⟨rfl, b7⟩; have K7 := next K6 (Nat.le_refl _) b7)))
  go_wp2_with fail
  go_ret
  exact ⟨rfl, HD.out _ K7⟩
end Go.Proofs.YtkmgmppmhgoadaaDoor
