/- Whole numbers: what Sum answers, of none, one, two and three. -/
import Derived.Test.YtkmgmppmhgoadaaDoorLawF
import Derived.Deep.RegionWith
namespace Go.Proofs.YtkmgmppmhgoadaaDoor
open Go.RowKit Num

theorem pair_keep {V w1 : World} {g o B : Nat} {x y : Value} (k1 : V.cell? ⟨g, o, none⟩ = some x) (k2 : V.cell? ⟨g, o + 1, none⟩ = some y) (hB : g < B) (hb : Below B V w1) : w1.cell? ⟨g, o, none⟩ = some x ∧ w1.cell? ⟨g, o + 1, none⟩ = some y :=
  ⟨(hb.cell (p := ⟨g, o, none⟩) hB).trans k1, (hb.cell (p := ⟨g, o + 1, none⟩) hB).trans k2⟩

set_option maxRecDepth 10000 in
set_option maxHeartbeats 1600000 in
theorem whole_Sum0 (w : World) : Calls Tryd.prog 34 #[.slice none 0 0] w (GivesW 0 w) := by
  go_enter Tryd.func34, Tryd.ntmps34
  go_wp2_with fail
  exact bodyPost_ret (v := .agg #[.bool false, .slice none 0 0]) (by simp [results, Tryd.results34, go_sem]) rfl
    ⟨none, [], 0, rfl, by simp, norm_nil _, rfl, Rd.nil, below_new _ _⟩

set_option maxRecDepth 10000 in
set_option maxHeartbeats 1600000 in
theorem whole_Sum1 (n1 : Bool) (a : List Nat) (A : Option Addr) (ca g o c : Nat) (w : World) (hg : g < w.heap.size) (k1 : w.cell? ⟨g, o, none⟩ = some (.bool n1)) (k2 : w.cell? ⟨g, o + 1, none⟩ = some (.slice A a.length ca)) (h : Rd w (fun g => g < w.heap.size) .u32 A a) (hl : a.length ≤ 1073741824) (hc : a.length ≤ ca) (ha : Dg 4294967296 a) :
    Calls Tryd.prog 34 #[.slice (some ⟨g, o, none⟩) 1 c] w (GivesW (wv n1 a) w) := by
  have cM : ∀ V, Below w.heap.size w V → Calls Tryd.prog 28 #[.bool n1, .slice A a.length ca] V (GivesW (wv n1 a) V) := fun V hV => whole_Make n1 a A ca _ V (h.on hV) (by omega) hc ha rfl
  obtain ⟨N, hN⟩ : ∃ N, wv n1 a = N := ⟨_, rfl⟩
  rw [hN] at cM ⊢
  have CM := Lib.hid cM
  clear hN cM
  obtain ⟨W, hW, e0, e1⟩ : ∃ W, w.alloc (.cells #[.bool false, .slice none 0 0] 24) = W ∧ W.heap[w.heap.size]? = some (.cells #[.bool false, .slice none 0 0] 24 (0, 0)) ∧ Below w.heap.size w W ∧ w.heap.size < W.heap.size := ⟨_, rfl, heap_alloc_new _ _, below_new _ _, by simp⟩
  obtain ⟨B0, s0⟩ := e1
  have j1 := (B0.cell (p := ⟨g, o, none⟩) hg).trans k1
  have j2 := (B0.cell (p := ⟨g, o + 1, none⟩) hg).trans k2
  have K0 : Below W.heap.size W W.drew := below_drewN (Below.refl _ _) 1
  have sg : g < W.heap.size := Nat.lt_trans hg s0
  clear k1 k2
  go_enter Tryd.func34, Tryd.ntmps34
  go_wp2_with fail
  try rw [hW]
  clear hW
  have HB := Lib.hid B0
  go_region_held3 (fun w' => w'.cell? ⟨g, o, none⟩ = some (.bool n1) ∧ w'.cell? ⟨g, o + 1, none⟩ = some (.slice A a.length ca))
    (first | exact pair_keep j1 j2 sg K0 | exact pair_keep j1 j2 sg K1 | exact pair_keep j1 j2 hg (((below_drewN (Below.refl _ _) 1).trans (K1.mono (Nat.le_of_lt s0))).trans ((stored_whole f0 _ _).2.2.2 _ (Nat.le_refl _))) | exact pair_keep j1 j2 hg ((K1.mono (Nat.le_of_lt s0)).trans ((stored_whole f0 _ _).2.2.2 _ (Nat.le_refl _))) | go_keep)
    ((first
      | (go_at_call 28; (with_reducible refine Calls.mono (CM.out _ (HB.out.trans (K0.mono HB.out.size))) ?_); rintro e w1 ⟨A1, xs, c1, rfl, hc1, hn1, hv1, hr1, b1⟩; have K1 := next K0 (Nat.le_refl _) b1; have f0 := (K1.block _ s0).trans e0; obtain ⟨u1, u2, u3, u4⟩ := cells_of f0)))
  have KK := K1
  obtain ⟨r0, r1, r2, r3⟩ := stored_whole f0 (.bool (decide (N < 0))) (.slice A1 xs.length c1)
  have HN := Lib.hid hn1
  have HV := Lib.hid hv1
  clear hn1 hv1
  go_wp2_with fail
  exact bodyPost_ret (v := .agg #[.bool (decide (N < 0)), .slice A1 xs.length c1]) (by simp [results, Tryd.results34, go_sem, r0, r1]) rfl
    (gives_stored f0 (B0.trans (KK.mono B0.size)) (Nat.le_refl _) hc1 HN.out HV.out hr1 _ _)

set_option maxRecDepth 10000 in
set_option maxHeartbeats 1600000 in
theorem whole_Sum2 (n1 n2 : Bool) (a1 a2 : List Nat) (A1 A2 : Option Addr) (c1 c2 g o : Nat) (w : World) (hg : g < w.heap.size) (k1 : w.cell? ⟨g, o, none⟩ = some (.bool n1)) (k1' : w.cell? ⟨g, o + 1, none⟩ = some (.slice A1 a1.length c1)) (h1 : Rd w (fun g => g < w.heap.size) .u32 A1 a1) (hl1 : a1.length ≤ 2097152) (hc1 : a1.length ≤ c1) (ha1 : Dg 4294967296 a1) (k2 : w.cell? ⟨g, o + 2, none⟩ = some (.bool n2)) (k2' : w.cell? ⟨g, o + 2 + 1, none⟩ = some (.slice A2 a2.length c2)) (h2 : Rd w (fun g => g < w.heap.size) .u32 A2 a2) (hl2 : a2.length ≤ 2097152) (hc2 : a2.length ≤ c2) (ha2 : Dg 4294967296 a2) :
    Calls Tryd.prog 34 #[.slice (some ⟨g, o, none⟩) 2 2] w (GivesW (wv n1 a1 + wv n2 a2) w) := by
  obtain ⟨m, hm1, hm2⟩ : ∃ m, 4194305 ≤ m ∧ m ≤ 4194305 := ⟨4194305, Nat.le_refl _, Nat.le_refl _⟩
  have c1 := fun (V : World) (hV : Below w.heap.size w V) => (whole_Sum1 n1 a1 A1 c1 g (o) 2 V (Nat.lt_of_lt_of_le hg hV.size) (pair_keep k1 k1' hg hV).1 (pair_keep k1 k1' hg hV).2 (h1.on hV) (by omega) hc1 ha1).mono (fun e w' hh => lim (m := m) (lim_one ha1 (by omega) (by rw [wv_abs]; exact Nat.le_refl _)) hh)
  have c2 := fun (V : World) (hV : Below w.heap.size w V) => (whole_Sum1 n2 a2 A2 c2 g (o + 2) 1 V (Nat.lt_of_lt_of_le hg hV.size) (pair_keep k2 k2' hg hV).1 (pair_keep k2 k2' hg hV).2 (h2.on hV) (by omega) hc2 ha2).mono (fun e w' hh => lim (m := m) (lim_one ha2 (by omega) (by rw [wv_abs]; exact Nat.le_refl _)) hh)
  obtain ⟨N1, hN1⟩ : ∃ N, wv n1 a1 = N := ⟨_, rfl⟩
  obtain ⟨N2, hN2⟩ : ∃ N, wv n2 a2 = N := ⟨_, rfl⟩
  rw [hN1] at c1
  rw [hN2] at c2
  obtain ⟨N, hN⟩ : ∃ N, N1 + N2 = N := ⟨_, rfl⟩
  have cA : ∀ (V : World) (xs ys : List Nat) (A A' : Option Addr) (ca cb : Nat), Rd V (fun g => g < V.heap.size) .u32 A xs → Rd V (fun g => g < V.heap.size) .u32 A' ys → xs.length ≤ ca → ys.length ≤ cb → xs.length ≤ m → ys.length ≤ m → Norm 4294967296 xs → Norm 4294967296 ys → val 4294967296 xs = N1.natAbs → val 4294967296 ys = N2.natAbs →
      Calls Tryd.prog 9 #[.agg #[.bool (decide (N1 < 0)), .slice A xs.length ca], .agg #[.bool (decide (N2 < 0)), .slice A' ys.length cb]] V (GivesW N V) := fun V xs ys A A' ca cb hr hr' hc hc' hl hl' hn hn' hv hv' => by
    have := whole_Add (decide (N1 < 0)) (decide (N2 < 0)) xs ys A A' ca cb V hr hr' (by omega) (by omega) hc hc' hn.1 hn'.1
    rwa [wv_dec hv, wv_dec hv', hN] at this
  have HE := Lib.hid (show wv n1 a1 + wv n2 a2 = N by first | (rw [hN1, hN2, hN]) | omega)
  rw [HE.out]
  have C1 := Lib.hid c1
  have C2 := Lib.hid c2
  have CA := Lib.hid cA
  clear c1 c2 cA hN1 hN2 hN
  obtain ⟨W, hW, e0, e1⟩ : ∃ W, w.alloc (.cells #[.bool false, .slice none 0 0] 24) = W ∧ W.heap[w.heap.size]? = some (.cells #[.bool false, .slice none 0 0] 24 (0, 0)) ∧ Below w.heap.size w W ∧ w.heap.size < W.heap.size := ⟨_, rfl, heap_alloc_new _ _, below_new _ _, by simp⟩
  obtain ⟨B0, s0⟩ := e1
  have K0 : Below W.heap.size W W.drew := below_drewN (Below.refl _ _) 1
  have HB := Lib.hid (fun (V : World) (hV : Below W.heap.size W V) => (B0.trans (hV.mono B0.size) : Below w.heap.size w V))
  go_enter Tryd.func34, Tryd.ntmps34
  go_wp2_with fail
  try rw [hW]
  clear hW
  go_region_held3 (fun _ => True) (trivial)
    ((first
      | (go_at_call 34; (with_reducible refine Calls.mono (C1.out _ (HB.out _ K0)) ?_); rintro e w1 ⟨A1, xs, d1, rfl, hd1, hl1, hn1, hv1, hr1, b1⟩; have K1 := next K0 (Nat.le_refl _) b1)
      | (go_at_call 34; (with_reducible refine Calls.mono (C2.out _ (HB.out _ K1)) ?_); rintro e w2 ⟨A2, ys, d2, rfl, hd2, hl2, hn2, hv2, hr2, b2⟩; have K2 := next K1 (Nat.le_refl _) b2)
      | (go_at_call 9; (with_reducible refine Calls.mono (CA.out _ xs ys A1 A2 d1 d2 (hr1.on b2) hr2 hd1 hd2 hl1 hl2 hn1 hn2 hv1 hv2) ?_); rintro e w3 ⟨A3, zs, d3, rfl, hd3, hn3, hv3, hr3, b3⟩; have K3 := next K2 (Nat.le_refl _) b3; have f0 := (K3.block _ s0).trans e0; obtain ⟨u1, u2, u3, u4⟩ := cells_of f0)))
  obtain ⟨r0, r1, r2, r3⟩ := stored_whole f0 (.bool (decide (N < 0))) (.slice A3 zs.length d3)
  have HN := Lib.hid hn3
  have HV := Lib.hid hv3
  have HK := Lib.hid (B0.trans (K3.mono B0.size))
  clear hn3 hv3 hn1 hn2 hv1 hv2 C1 C2 CA
  go_wp2_with fail
  exact bodyPost_ret (v := .agg #[.bool (decide (N < 0)), .slice A3 zs.length d3]) (by simp [results, Tryd.results34, go_sem, r0, r1]) rfl
    (gives_stored f0 HK.out (Nat.le_refl _) hd3 HN.out HV.out hr3 _ _)

set_option maxRecDepth 10000 in
set_option maxHeartbeats 1600000 in
theorem whole_Sum3 (n1 n2 n3 : Bool) (a1 a2 a3 : List Nat) (A1 A2 A3 : Option Addr) (c1 c2 c3 g : Nat) (w : World) (hg : g < w.heap.size) (k1 : w.cell? ⟨g, 0, none⟩ = some (.bool n1)) (k1' : w.cell? ⟨g, 0 + 1, none⟩ = some (.slice A1 a1.length c1)) (h1 : Rd w (fun g => g < w.heap.size) .u32 A1 a1) (hl1 : a1.length ≤ 2097152) (hc1 : a1.length ≤ c1) (ha1 : Dg 4294967296 a1) (k2 : w.cell? ⟨g, 2, none⟩ = some (.bool n2)) (k2' : w.cell? ⟨g, 2 + 1, none⟩ = some (.slice A2 a2.length c2)) (h2 : Rd w (fun g => g < w.heap.size) .u32 A2 a2) (hl2 : a2.length ≤ 2097152) (hc2 : a2.length ≤ c2) (ha2 : Dg 4294967296 a2) (k3 : w.cell? ⟨g, 4, none⟩ = some (.bool n3)) (k3' : w.cell? ⟨g, 4 + 1, none⟩ = some (.slice A3 a3.length c3)) (h3 : Rd w (fun g => g < w.heap.size) .u32 A3 a3) (hl3 : a3.length ≤ 2097152) (hc3 : a3.length ≤ c3) (ha3 : Dg 4294967296 a3) :
    Calls Tryd.prog 34 #[.slice (some ⟨g, 0, none⟩) 3 3] w (GivesW (wv n1 a1 + (wv n2 a2 + wv n3 a3)) w) := by
  obtain ⟨m, hm1, hm2⟩ : ∃ m, 4194305 ≤ m ∧ m ≤ 4194305 := ⟨4194305, Nat.le_refl _, Nat.le_refl _⟩
  have c1 := fun (V : World) (hV : Below w.heap.size w V) => (whole_Sum1 n1 a1 A1 c1 g (0) 3 V (Nat.lt_of_lt_of_le hg hV.size) (pair_keep k1 k1' hg hV).1 (pair_keep k1 k1' hg hV).2 (h1.on hV) (by omega) hc1 ha1).mono (fun e w' hh => lim (m := m) (lim_one ha1 (by omega) (by rw [wv_abs]; exact Nat.le_refl _)) hh)
  have c2 := fun (V : World) (hV : Below w.heap.size w V) => (whole_Sum2 n2 n3 a2 a3 A2 A3 c2 c3 g 2 V (Nat.lt_of_lt_of_le hg hV.size) (pair_keep k2 k2' hg hV).1 (pair_keep k2 k2' hg hV).2 (h2.on hV) (by omega) hc2 ha2 (pair_keep k3 k3' hg hV).1 (pair_keep k3 k3' hg hV).2 (h3.on hV) (by omega) hc3 ha3).mono (fun e w' hh => lim (m := m) (lim_sum (n := 2097152) ha2 ha3 (by omega) (by omega) (by omega) (by have q1 := wv_abs n2 a2; have q2 := wv_abs n3 a3; omega)) hh)
  obtain ⟨N1, hN1⟩ : ∃ N, wv n1 a1 = N := ⟨_, rfl⟩
  obtain ⟨N2, hN2⟩ : ∃ N, wv n2 a2 + wv n3 a3 = N := ⟨_, rfl⟩
  rw [hN1] at c1
  rw [hN2] at c2
  obtain ⟨N, hN⟩ : ∃ N, N1 + N2 = N := ⟨_, rfl⟩
  have cA : ∀ (V : World) (xs ys : List Nat) (A A' : Option Addr) (ca cb : Nat), Rd V (fun g => g < V.heap.size) .u32 A xs → Rd V (fun g => g < V.heap.size) .u32 A' ys → xs.length ≤ ca → ys.length ≤ cb → xs.length ≤ m → ys.length ≤ m → Norm 4294967296 xs → Norm 4294967296 ys → val 4294967296 xs = N1.natAbs → val 4294967296 ys = N2.natAbs →
      Calls Tryd.prog 9 #[.agg #[.bool (decide (N1 < 0)), .slice A xs.length ca], .agg #[.bool (decide (N2 < 0)), .slice A' ys.length cb]] V (GivesW N V) := fun V xs ys A A' ca cb hr hr' hc hc' hl hl' hn hn' hv hv' => by
    have := whole_Add (decide (N1 < 0)) (decide (N2 < 0)) xs ys A A' ca cb V hr hr' (by omega) (by omega) hc hc' hn.1 hn'.1
    rwa [wv_dec hv, wv_dec hv', hN] at this
  have HE := Lib.hid (show wv n1 a1 + (wv n2 a2 + wv n3 a3) = N by first | (rw [hN1, hN2, hN]) | omega)
  rw [HE.out]
  have C1 := Lib.hid c1
  have C2 := Lib.hid c2
  have CA := Lib.hid cA
  clear c1 c2 cA hN1 hN2 hN
  obtain ⟨W, hW, e0, e1⟩ : ∃ W, w.alloc (.cells #[.bool false, .slice none 0 0] 24) = W ∧ W.heap[w.heap.size]? = some (.cells #[.bool false, .slice none 0 0] 24 (0, 0)) ∧ Below w.heap.size w W ∧ w.heap.size < W.heap.size := ⟨_, rfl, heap_alloc_new _ _, below_new _ _, by simp⟩
  obtain ⟨B0, s0⟩ := e1
  have K0 : Below W.heap.size W W.drew := below_drewN (Below.refl _ _) 1
  have HB := Lib.hid (fun (V : World) (hV : Below W.heap.size W V) => (B0.trans (hV.mono B0.size) : Below w.heap.size w V))
  go_enter Tryd.func34, Tryd.ntmps34
  go_wp2_with fail
  try rw [hW]
  clear hW
  go_region_held3 (fun _ => True) (trivial)
    ((first
      | (go_at_call 34; (with_reducible refine Calls.mono (C1.out _ (HB.out _ K0)) ?_); rintro e w1 ⟨A1, xs, d1, rfl, hd1, hl1, hn1, hv1, hr1, b1⟩; have K1 := next K0 (Nat.le_refl _) b1)
      | (go_at_call 34; (with_reducible refine Calls.mono (C2.out _ (HB.out _ K1)) ?_); rintro e w2 ⟨A2, ys, d2, rfl, hd2, hl2, hn2, hv2, hr2, b2⟩; have K2 := next K1 (Nat.le_refl _) b2)
      | (go_at_call 9; (with_reducible refine Calls.mono (CA.out _ xs ys A1 A2 d1 d2 (hr1.on b2) hr2 hd1 hd2 hl1 hl2 hn1 hn2 hv1 hv2) ?_); rintro e w3 ⟨A3, zs, d3, rfl, hd3, hn3, hv3, hr3, b3⟩; have K3 := next K2 (Nat.le_refl _) b3; have f0 := (K3.block _ s0).trans e0; obtain ⟨u1, u2, u3, u4⟩ := cells_of f0)))
  obtain ⟨r0, r1, r2, r3⟩ := stored_whole f0 (.bool (decide (N < 0))) (.slice A3 zs.length d3)
  have HN := Lib.hid hn3
  have HV := Lib.hid hv3
  have HK := Lib.hid (B0.trans (K3.mono B0.size))
  clear hn3 hv3 hn1 hn2 hv1 hv2 C1 C2 CA
  go_wp2_with fail
  exact bodyPost_ret (v := .agg #[.bool (decide (N < 0)), .slice A3 zs.length d3]) (by simp [results, Tryd.results34, go_sem, r0, r1]) rfl
    (gives_stored f0 HK.out (Nat.le_refl _) hd3 HN.out HV.out hr3 _ _)
end Go.Proofs.YtkmgmppmhgoadaaDoor
