/- The law WholeRules: sums in any order, products into sums, order kept by what is added. -/
import Derived.Test.YtkmgmppmhgoadaaDoorWhK
import Derived.Test.YtkmgmppmhgoadaaDoorWhE
import Derived.Deep.CutRange
import Derived.Deep.RegionWith
namespace Go.Proofs.YtkmgmppmhgoadaaDoor
open Go.RowKit Num

/-- three arguments in their boxes -/
def Tri (w : World) (g : Nat) (n1 n2 n3 : Bool) (v1 v2 v3 : Value) : Prop :=
  w.heap[g]? = some (.cells #[.bool n1, v1] 24 (0, 0)) ∧ w.heap[g + 1]? = some (.cells #[.bool n2, v2] 24 (0, 0)) ∧ w.heap[g + 1 + 1]? = some (.cells #[.bool n3, v3] 24 (0, 0)) ∧ g + 3 ≤ w.heap.size
theorem Tri.new (w : World) (n1 n2 n3 : Bool) (v1 v2 v3 : Value) : Tri (((w.alloc (.cells #[.bool n1, v1] 24)).alloc (.cells #[.bool n2, v2] 24)).alloc (.cells #[.bool n3, v3] 24)) w.heap.size n1 n2 n3 v1 v2 v3 := by
  have s1 : ∀ (u : World) (o : Obj), (u.alloc o).heap.size = u.heap.size + 1 := fun u o => by simp
  have e : ∀ (u : World) (o : Obj) (k : Nat), k = u.heap.size → (u.alloc o).heap[k]? = some o := fun u o k hk => by rw [hk]; exact heap_alloc_new u o
  refine ⟨?_, ?_, ?_, by rw [s1, s1, s1]; omega⟩
  · rw [Below.heap_alloc _ _ _ (by rw [s1, s1]; omega), Below.heap_alloc _ _ _ (by rw [s1]; omega)]
    exact e _ _ _ rfl
  · rw [Below.heap_alloc _ _ _ (by rw [s1, s1]; omega)]
    exact e _ _ _ (by rw [s1])
  · exact e _ _ _ (by rw [s1, s1])
theorem Tri.on {w w' : World} {g B : Nat} {n1 n2 n3 : Bool} {v1 v2 v3 : Value} (h : Tri w g n1 n2 n3 v1 v2 v3) (hB : g + 3 ≤ B) (hb : Below B w w') : Tri w' g n1 n2 n3 v1 v2 v3 := by
  obtain ⟨h0, h1, h2, h4⟩ := h
  exact ⟨(hb.block _ (by omega)).trans h0, (hb.block _ (by omega)).trans h1, (hb.block _ (by omega)).trans h2, Nat.le_trans h4 hb.size⟩
theorem Tri.cells {w : World} {g : Nat} {n1 n2 n3 : Bool} {v1 v2 v3 : Value} (h : Tri w g n1 n2 n3 v1 v2 v3) :
    w.cell? ⟨g, 0, none⟩ = some (.bool n1) ∧ w.cell? ⟨g, 1, none⟩ = some v1 ∧ w.cell? ⟨g + 1, 0, none⟩ = some (.bool n2) ∧ w.cell? ⟨g + 1, 1, none⟩ = some v2 ∧ w.cell? ⟨g + 1 + 1, 0, none⟩ = some (.bool n3) ∧ w.cell? ⟨g + 1 + 1, 1, none⟩ = some v3 :=
  ⟨(cells_of h.1).1, (cells_of h.1).2.1, (cells_of h.2.1).1, (cells_of h.2.1).2.1, (cells_of h.2.2.1).1, (cells_of h.2.2.1).2.1⟩
theorem Tri.keep {w w' : World} {g B : Nat} {n1 n2 n3 : Bool} {v1 v2 v3 : Value} (h : Tri w g n1 n2 n3 v1 v2 v3) (hB : g + 3 ≤ B) (hb : Below B w w') :
    w'.cell? ⟨g, 0, none⟩ = some (.bool n1) ∧ w'.cell? ⟨g, 1, none⟩ = some v1 ∧ w'.cell? ⟨g + 1, 0, none⟩ = some (.bool n2) ∧ w'.cell? ⟨g + 1, 1, none⟩ = some v2 ∧ w'.cell? ⟨g + 1 + 1, 0, none⟩ = some (.bool n3) ∧ w'.cell? ⟨g + 1 + 1, 1, none⟩ = some v3 := (h.on hB hb).cells

theorem six_cells {w : World} {g : Nat} {x0 x1 x2 x3 x4 x5 : Value} {t : TypeId} (h : w.heap[g]? = some (.cells #[x0, x1, x2, x3, x4, x5] t (0, 0))) :
    (w.cell? ⟨g, 0, none⟩ = some x0 ∧ w.cell? ⟨g, 0 + 1, none⟩ = some x1 ∧ w.cell? ⟨g, 2, none⟩ = some x2 ∧ w.cell? ⟨g, 2 + 1, none⟩ = some x3 ∧ w.cell? ⟨g, 4, none⟩ = some x4 ∧ w.cell? ⟨g, 4 + 1, none⟩ = some x5) ∧ g < w.heap.size := by
  refine ⟨⟨?_, ?_, ?_, ?_, ?_, ?_⟩, ?_⟩
  all_goals first
    | (rw [cell_of_row _ _ _ _ _ _ h]; rfl)
    | (rcases Nat.lt_or_ge g w.heap.size with hh | hh
       · exact hh
       · rw [Array.getElem?_eq_none hh] at h; cases h)
theorem at_second (U : World) (o o' : Obj) : ((U.alloc o).alloc o').drew.heap[U.heap.size + 1]? = some o' := by
  rw [← World.size_alloc U o]
  exact heap_alloc_new _ o'
theorem keep10 {U w' : World} {g g7 g8 : Nat} {n1 n2 n3 n7 n8 : Bool} {v1 v2 v3 v7 v8 : Value} {t t' : TypeId} (T : Tri U g n1 n2 n3 v1 v2 v3) (e7 : U.heap[g7]? = some (.cells #[.bool n7, v7] t (0, 0))) (e8 : U.heap[g8]? = some (.cells #[.bool n8, v8] t' (0, 0))) (hB : g + 3 ≤ U.heap.size) (z7 : g7 < U.heap.size) (z8 : g8 < U.heap.size) (hb : Below U.heap.size U.drew w') :
    w'.cell? ⟨g, 0, none⟩ = some (.bool n1) ∧ w'.cell? ⟨g, 1, none⟩ = some v1 ∧ w'.cell? ⟨g + 1, 0, none⟩ = some (.bool n2) ∧ w'.cell? ⟨g + 1, 1, none⟩ = some v2 ∧ w'.cell? ⟨g + 1 + 1, 0, none⟩ = some (.bool n3) ∧ w'.cell? ⟨g + 1 + 1, 1, none⟩ = some v3 ∧ w'.cell? ⟨g7, 0, none⟩ = some (.bool n7) ∧ w'.cell? ⟨g7, 1, none⟩ = some v7 ∧ w'.cell? ⟨g8, 0, none⟩ = some (.bool n8) ∧ w'.cell? ⟨g8, 1, none⟩ = some v8 := by
  have a := T.keep (w := U.drew) hB hb
  have b := cells_of ((hb.block _ z7).trans e7)
  have c := cells_of ((hb.block _ z8).trans e8)
  exact ⟨a.1, a.2.1, a.2.2.1, a.2.2.2.1, a.2.2.2.2.1, a.2.2.2.2.2, b.1, b.2.1, c.1, c.2.1⟩

set_option maxRecDepth 100000 in
set_option maxHeartbeats 12800000 in
theorem walk_WholeRules (n1 n2 n3 : Bool) (a1 a2 a3 : List Nat) (A1 A2 A3 : Option Addr) (c1 c2 c3 : Nat) (w : World) (h1 : Rd w (fun g => g < w.heap.size) .u32 A1 a1) (h2 : Rd w (fun g => g < w.heap.size) .u32 A2 a2) (h3 : Rd w (fun g => g < w.heap.size) .u32 A3 a3) (hl1 : a1.length ≤ 1048576) (hl2 : a2.length ≤ 1048576) (hl3 : a3.length ≤ 1048576) (hc1 : a1.length ≤ c1) (hc2 : a2.length ≤ c2) (hc3 : a3.length ≤ c3) (ha1 : Dg 4294967296 a1) (ha2 : Dg 4294967296 a2) (ha3 : Dg 4294967296 a3) (htab : Tab w) :
    Calls Tryd.prog 7 #[.agg #[.bool n1, .slice A1 a1.length c1], .agg #[.bool n2, .slice A2 a2.length c2], .agg #[.bool n3, .slice A3 a3.length c3]] w fun e w' => e = .returned (.bool true) ∧ Below w.heap.size w w' := by
  obtain ⟨m, hm1, hm2⟩ : ∃ m, 8388608 ≤ m ∧ m ≤ 8388608 := ⟨8388608, Nat.le_refl _, Nat.le_refl _⟩
  have q1 := wv_abs n1 a1
  have q2 := wv_abs n2 a2
  have q3 := wv_abs n3 a3
  have d11 := fun (V : World) (hV : Below w.heap.size w V) => (whole_Add n2 n3 a2 a3 A2 A3 c2 c3 V (h2.on hV) (h3.on hV) (by omega) (by omega) hc2 hc3 ha2 ha3).mono (fun e w' hg => lim (m := m) (lim_sum (n := 1048576) ha2 ha3 hl2 hl3 (by omega) (by omega)) hg)
  have d12 := fun (V : World) (hV : Below w.heap.size w V) => (whole_Add n1 n3 a1 a3 A1 A3 c1 c3 V (h1.on hV) (h3.on hV) (by omega) (by omega) hc1 hc3 ha1 ha3).mono (fun e w' hg => lim (m := m) (lim_sum (n := 1048576) ha1 ha3 hl1 hl3 (by omega) (by omega)) hg)
  have d13 := fun (V : World) (hV : Below w.heap.size w V) => (whole_Mul n1 n2 a1 a2 A1 A2 c1 c2 V (h1.on hV) (h2.on hV) (by omega) (by omega) hc1 hc2 ha1 ha2).mono (fun e w' hg => lim (m := m) (lim_prod n1 n2 ha1 ha2 (by omega)) hg)
  have d14 := fun (V : World) (hV : Below w.heap.size w V) => (whole_Mul n1 n3 a1 a3 A1 A3 c1 c3 V (h1.on hV) (h3.on hV) (by omega) (by omega) hc1 hc3 ha1 ha3).mono (fun e w' hg => lim (m := m) (lim_prod n1 n3 ha1 ha3 (by omega)) hg)
  obtain ⟨X, hX⟩ : ∃ X, wv n1 a1 = X := ⟨_, rfl⟩
  obtain ⟨Y, hY⟩ : ∃ X, wv n2 a2 = X := ⟨_, rfl⟩
  obtain ⟨Z, hZ⟩ : ∃ X, wv n3 a3 = X := ⟨_, rfl⟩
  rw [hY, hZ] at d11
  rw [hX, hZ] at d12 d14
  rw [hX, hY] at d13
  rw [hX] at q1
  rw [hY] at q2
  rw [hZ] at q3
  obtain ⟨YZ, hYZ⟩ : ∃ X, Y + Z = X := ⟨_, rfl⟩
  obtain ⟨XZ, hXZ⟩ : ∃ Q, X + Z = Q := ⟨_, rfl⟩
  obtain ⟨P, hP⟩ : ∃ Q, X * Y = Q := ⟨_, rfl⟩
  obtain ⟨Q, hQ⟩ : ∃ Q, X * Z = Q := ⟨_, rfl⟩
  obtain ⟨L, hL⟩ : ∃ Q, X * YZ = Q := ⟨_, rfl⟩
  have hPQ : P + Q = L := by rw [← hP, ← hQ, ← hL, ← hYZ, Int.mul_add]
  rw [hYZ] at d11
  rw [hXZ] at d12
  rw [hP] at d13
  rw [hQ] at d14
  have hLb : L.natAbs < 4294967296 ^ m := by
    have k1 := val_lt_pow ha1 (by omega) hl1
    have k2 := val_lt_pow ha2 (by omega) hl2
    have k3 := val_lt_pow ha3 (by omega) hl3
    obtain ⟨p, hp⟩ : ∃ p, 1048576 = p := ⟨_, rfl⟩
    rw [hp] at k1 k2 k3
    have e1 : L.natAbs = X.natAbs * YZ.natAbs := by rw [← hL, Int.natAbs_mul]
    have e2 : YZ.natAbs < 4294967296 ^ (p + 1) := by rw [Nat.pow_succ]; omega
    have e3 : X.natAbs < 4294967296 ^ p := by omega
    rw [e1]
    refine Nat.lt_of_lt_of_le (Nat.mul_lt_mul'' e3 e2) ?_
    rw [← Nat.pow_add]
    exact Nat.pow_le_pow_right (by omega) (by omega)
  have dM : ∀ (V : World), Below w.heap.size w V → ∀ (y : List Nat) (Ay : Option Addr) (cy : Nat), Rd V (fun g => g < V.heap.size) .u32 Ay y → y.length ≤ cy → y.length ≤ m → Norm 4294967296 y → val 4294967296 y = YZ.natAbs → Calls Tryd.prog 13 #[.agg #[.bool n1, .slice A1 a1.length c1], .agg #[.bool (decide (YZ < 0)), .slice Ay y.length cy]] V (GivesWL L m V) := fun V hV y Ay cy hr hc hl hn hv => by
    have := (whole_Mul n1 (decide (YZ < 0)) a1 y A1 Ay c1 cy V (h1.on hV) hr (by omega) (by omega) hc1 hc ha1 hn.1)
    rw [hX, wv_dec hv, hL] at this
    exact this.mono (fun e w' hg => lim (m := m) hLb hg)
  have dA : ∀ (V : World) (xs ys : List Nat) (A A' : Option Addr) (ca cb : Nat), Rd V (fun g => g < V.heap.size) .u32 A xs → Rd V (fun g => g < V.heap.size) .u32 A' ys → xs.length ≤ ca → ys.length ≤ cb → xs.length ≤ m → ys.length ≤ m → Norm 4294967296 xs → Norm 4294967296 ys → val 4294967296 xs = P.natAbs → val 4294967296 ys = Q.natAbs →
      Calls Tryd.prog 9 #[.agg #[.bool (decide (P < 0)), .slice A xs.length ca], .agg #[.bool (decide (Q < 0)), .slice A' ys.length cb]] V (GivesWL L m V) := fun V xs ys A A' ca cb hr hr' hc hc' hl hl' hn hn' hv hv' => by
    have := whole_Add (decide (P < 0)) (decide (Q < 0)) xs ys A A' ca cb V hr hr' (by omega) (by omega) hc hc' hn.1 hn'.1
    rw [wv_dec hv, wv_dec hv', hPQ] at this
    exact this.mono (fun e w' hg => lim (m := m) hLb hg)
  have hS2 : Z + (X + Y) = X + YZ := by omega
  obtain ⟨NS, hNS⟩ : ∃ Q, X + YZ = Q := ⟨_, rfl⟩
  have hNSb : NS.natAbs < 4294967296 ^ m := by
    have k1 := val_lt_pow ha1 (by omega) hl1
    have k2 := val_lt_pow ha2 (by omega) hl2
    have k3 := val_lt_pow ha3 (by omega) hl3
    obtain ⟨p, hp⟩ : ∃ p, 1048576 = p := ⟨_, rfl⟩
    rw [hp] at k1 k2 k3
    have k4 : 4294967296 ^ (p + 1) ≤ 4294967296 ^ m := Nat.pow_le_pow_right (by omega) (by omega)
    rw [Nat.pow_succ] at k4
    omega
  have dS1 : ∀ (V : World) (g : Nat), Below w.heap.size w V → V.heap[g]? = some (.cells #[.bool n1, .slice A1 a1.length c1, .bool n2, .slice A2 a2.length c2, .bool n3, .slice A3 a3.length c3] 24 (0, 0)) → Calls Tryd.prog 34 #[.slice (some ⟨g, 0, none⟩) 3 3] V (GivesWL NS m V) := fun V g hV hg => by
    have e := six_cells hg
    have := whole_Sum3 n1 n2 n3 a1 a2 a3 A1 A2 A3 c1 c2 c3 g V e.2 e.1.1 e.1.2.1 (h1.on hV) (by omega) hc1 ha1 e.1.2.2.1 e.1.2.2.2.1 (h2.on hV) (by omega) hc2 ha2 e.1.2.2.2.2.1 e.1.2.2.2.2.2 (h3.on hV) (by omega) hc3 ha3
    rw [hX, hY, hZ, hYZ, hNS] at this
    exact this.mono (fun e w' hg => lim (m := m) hNSb hg)
  have dS2 : ∀ (V : World) (g : Nat), Below w.heap.size w V → V.heap[g]? = some (.cells #[.bool n3, .slice A3 a3.length c3, .bool n1, .slice A1 a1.length c1, .bool n2, .slice A2 a2.length c2] 24 (0, 0)) → Calls Tryd.prog 34 #[.slice (some ⟨g, 0, none⟩) 3 3] V (GivesWL NS m V) := fun V g hV hg => by
    have e := six_cells hg
    have := whole_Sum3 n3 n1 n2 a3 a1 a2 A3 A1 A2 c3 c1 c2 g V e.2 e.1.1 e.1.2.1 (h3.on hV) (by omega) hc3 ha3 e.1.2.2.1 e.1.2.2.2.1 (h1.on hV) (by omega) hc1 ha1 e.1.2.2.2.2.1 e.1.2.2.2.2.2 (h2.on hV) (by omega) hc2 ha2
    rw [hX, hY, hZ, hS2, hNS] at this
    exact this.mono (fun e w' hg => lim (m := m) hNSb hg)
  have d15 : ∀ (V : World), Below w.heap.size w V → ∀ (y : List Nat) (Ay : Option Addr) (cy : Nat), Rd V (fun g => g < V.heap.size) .u32 Ay y → y.length ≤ cy → y.length ≤ m → Norm 4294967296 y → val 4294967296 y = YZ.natAbs → Calls Tryd.prog 9 #[.agg #[.bool n1, .slice A1 a1.length c1], .agg #[.bool (decide (YZ < 0)), .slice Ay y.length cy]] V (GivesWL NS m V) := fun V hV y Ay cy hr hc hl hn hv => by
    have := (whole_Add n1 (decide (YZ < 0)) a1 y A1 Ay c1 cy V (h1.on hV) hr (by omega) (by omega) hc1 hc ha1 hn.1)
    rw [hX, wv_dec hv, hNS] at this
    exact this.mono (fun e w' hg => lim (m := m) hNSb hg)
  have dS0 : ∀ (V : World), Calls Tryd.prog 34 #[.slice none 0 0] V (fun e w' => ∃ A c, e = .returned (.agg #[.bool false, .slice A 0 c]) ∧ Below V.heap.size V w') := fun V => by
    refine (whole_Sum0 V).mono ?_
    rintro e w' ⟨A, xs, c, rfl, hc, hn, hv, hr, hb⟩
    obtain rfl : xs = [] := (hn.2.nil_iff (b := 4294967296) (by omega)).2 hv
    exact ⟨A, c, rfl, hb⟩
  have dZ : ∀ (V : World) (A : Option Addr) (c : Nat), Calls Tryd.prog 8 #[.agg #[.bool false, .slice A 0 c], .agg #[.bool false, .slice none 0 0]] V (fun e w' => e = .returned (.bool true) ∧ Below V.heap.size V w') := fun V A c => ref2_Same false [] A none c 0 V Rd.nil Rd.nil (by simp)
  obtain ⟨z, hz⟩ : ∃ z, sgn (X - Y) = z := ⟨_, rfl⟩
  have d16 := fun (V : World) (hV : Below w.heap.size w V) => whole_Cmp n1 n2 a1 a2 A1 A2 c1 c2 V (h1.on hV) (h2.on hV) (by omega) (by omega) hc1 hc2 ha1 ha2
  rw [hX, hY, hz] at d16
  have hzz : sgn (XZ - YZ) = z := by rw [← hz, ← hXZ, ← hYZ]; congr 1; omega
  have d17 : ∀ (V : World) (xs ys : List Nat) (A A' : Option Addr) (ca cb : Nat), Rd V (fun g => g < V.heap.size) .u32 A xs → Rd V (fun g => g < V.heap.size) .u32 A' ys → xs.length ≤ ca → ys.length ≤ cb → xs.length ≤ m → ys.length ≤ m → Norm 4294967296 xs → Norm 4294967296 ys → val 4294967296 xs = XZ.natAbs → val 4294967296 ys = YZ.natAbs →
      Calls Tryd.prog 15 #[.agg #[.bool (decide (XZ < 0)), .slice A xs.length ca], .agg #[.bool (decide (YZ < 0)), .slice A' ys.length cb]] V (fun e w' => e = .returned (.int .i64 z) ∧ Below V.heap.size V w') := fun V xs ys A A' ca cb hr hr' hc hc' hl hl' hn hn' hv hv' => by
    have := whole_Cmp (decide (XZ < 0)) (decide (YZ < 0)) xs ys A A' ca cb V hr hr' (by omega) (by omega) hc hc' hn.1 hn'.1
    rwa [wv_dec hv, wv_dec hv', hzz] at this
  have d18 := fun (V : World) (hV : Below w.heap.size w V) => law2_lives V (htab.on hV)
  have CS1 := Lib.hid dS1
  have CS2 := Lib.hid dS2
  have CS0 := Lib.hid dS0
  have CZ := Lib.hid dZ
  have C15 := Lib.hid d15
  have C16 := Lib.hid d16
  have C17 := Lib.hid d17
  have C18 := Lib.hid d18
  clear dS1 dS2 dS0 dZ d15 d16 d17 d18 hS2 hNS hNSb hz hzz
  have C11 := Lib.hid d11
  have C12 := Lib.hid d12
  have C13 := Lib.hid d13
  have C14 := Lib.hid d14
  have CM := Lib.hid dM
  have CA := Lib.hid dA
  have HX := Lib.hid hX
  have HY := Lib.hid hY
  have HZ := Lib.hid hZ
  have HYZ := Lib.hid hYZ
  have HXZ := Lib.hid hXZ
  clear d11 d12 d13 d14 dM dA hX hY hZ hYZ hXZ hP hQ hL hPQ hLb q1 q2 q3
  have T0 := Tri.new w n1 n2 n3 (.slice A1 a1.length c1) (.slice A2 a2.length c2) (.slice A3 a3.length c3)
  have B0 := below_new3 w (.cells #[.bool n1, .slice A1 a1.length c1] 24) (.cells #[.bool n2, .slice A2 a2.length c2] 24) (.cells #[.bool n3, .slice A3 a3.length c3] 24)
  obtain ⟨W, hW⟩ : ∃ W, ((w.alloc (.cells #[.bool n1, .slice A1 a1.length c1] 24)).alloc (.cells #[.bool n2, .slice A2 a2.length c2] 24)).alloc (.cells #[.bool n3, .slice A3 a3.length c3] 24) = W := ⟨_, rfl⟩
  rw [hW] at T0 B0
  have s0 : w.heap.size + 3 ≤ W.heap.size := T0.2.2.2
  obtain ⟨k1, k2, k3, k4, k5, k6⟩ := T0.cells
  go_enter Tryd.func7, Tryd.ntmps7
  go_wp2_with fail
  try rw [hW]
  clear hW
  have HDW := Lib.hid (fun (U : World) (hU : Below W.heap.size W.drew U) => ((below_drewN B0 1).trans (hU.mono B0.size) : Below w.heap.size w U))
  go_cut [7] from 9 (fun vv wc => ∃ g A x c, vv = .pointer (some ⟨g, 0, none⟩) ∧ W.heap.size ≤ g ∧ wc.heap[g]? = some (.cells #[.bool (decide (L < 0)), .slice A x.length c] 24 (0, 0)) ∧ x.length ≤ c ∧ x.length ≤ m ∧ Norm 4294967296 x ∧ val 4294967296 x = L.natAbs ∧ Rd wc (fun g => g < wc.heap.size) .u32 A x ∧ Below W.heap.size W wc)
  case first =>
    go_region_held3 (fun w' => w'.cell? ⟨w.heap.size, 0, none⟩ = some (.bool n1) ∧ w'.cell? ⟨w.heap.size, 1, none⟩ = some (.slice A1 a1.length c1) ∧ w'.cell? ⟨w.heap.size + 1, 0, none⟩ = some (.bool n2) ∧ w'.cell? ⟨w.heap.size + 1, 1, none⟩ = some (.slice A2 a2.length c2) ∧ w'.cell? ⟨w.heap.size + 1 + 1, 0, none⟩ = some (.bool n3) ∧ w'.cell? ⟨w.heap.size + 1 + 1, 1, none⟩ = some (.slice A3 a3.length c3))
      (first | exact T0.keep (w := W.drew) s0 X5 | exact T0.keep (w := W.drew) s0 X6 | (refine T0.keep (w := W.drew) s0 ?_; (repeat (first | refine Below.setCell ?_ (by first | exact Nat.le_refl _ | (dsimp only; omega)) _ | refine Below.alloc ?_ (by repeat (first | omega | refine size_alloc_ok ?_ _ | refine size_set_ok ?_ _ _)) _)); first | exact X6 | exact X5 | exact Below.refl _ _) | go_keep)
      ((first
        | (go_at_call 9; (with_reducible refine Calls.mono (C11.out _ (HDW.out _ ?_)) ?_) <;> first
            | exact Below.refl _ _
            | exact below_new W.drew _
            | (rintro e w5 ⟨P5, y, d5, rfl, hd5, hl5, hn5, hv5, hr5, b5⟩; (first | (guard_hyp b5 : Below W.drew.heap.size W.drew w5; obtain ⟨X5, s5⟩ := seen0d b5) | (obtain ⟨⟨X5, s5⟩, p5⟩ := seen1d b5; obtain ⟨l1, l2, l3, l4⟩ := cells_of p5))))
        | (go_at_call 13; (with_reducible refine Calls.mono (CM.out _ (HDW.out _ ?_) y P5 d5 ?_ hd5 hl5 hn5 hv5) ?_) <;> first
            | exact X5
            | exact X5.alloc X5.size _
            | exact hr5
            | exact hr5.on (below_new _ _)
            | (rintro e w6 ⟨P6, x6, d6, rfl, hd6, hl6, hn6, hv6, hr6, b6⟩; (first | (guard_hyp b6 : Below w5.heap.size w5 w6; obtain ⟨X56, s6⟩ := seen0 (W := w5) b6) | (obtain ⟨⟨X56, s6⟩, p6⟩ := seen1 (W := w5) b6; obtain ⟨u5, u6, u7, u8⟩ := cells_of p6)); have X6 : Below W.heap.size W.drew w6 := X5.trans (X56.mono X5.size); have z6 := X6.size; (try (have p7 := (X56.block _ s5).trans p5; obtain ⟨u1, u2, u3, u4⟩ := cells_of p7))))))
    all_goals
      have X7 : Below W.heap.size W w6 := (below_drewN (Below.refl _ _) 1).trans X6
      have X8 := Lib.hid X7
      clear C11 C12 C13 C14 CM CA X5 X6 X7 X56 b5 b6
      go_wp2_with fail
      go_meet
      first
        | exact ⟨_, P6, x6, d6, rfl, z6, heap_alloc_new _ _, hd6, hl6, hn6, hv6, hr6.on (below_new _ _), X8.out.alloc X8.out.size _⟩
        | exact ⟨_, P6, x6, d6, rfl, s5, (stored_whole p6 _ _).2.2.1, hd6, hl6, hn6, hv6, hr6.stored p6 _ _, X8.out.trans ((stored_whole p6 _ _).2.2.2 _ s5)⟩
        | exact ⟨_, P6, x6, d6, rfl, Nat.le_refl _, (stored_whole p7 _ _).2.2.1, hd6, hl6, hn6, hv6, hr6.stored p7 _ _, X8.out.trans ((stored_whole p7 _ _).2.2.2 _ (Nat.le_refl _))⟩
  case rest =>
    obtain ⟨g7, P7, x7, d7, rfl, hg7, e7, hd7, hl7, hn7, hv7, hr7, b7⟩ := hcut
    have HN7 := Lib.hid hn7
    have HV7 := Lib.hid hv7
    clear k1 k2 k3 k4 k5 k6 HDW hn7 hv7
    have BU := B0.trans (b7.mono B0.size)
    have T1 := T0.on s0 b7
    have s1 : w.heap.size + 3 ≤ wc.heap.size := T1.2.2.2
    have z7 : g7 < wc.heap.size := by
      rcases Nat.lt_or_ge g7 wc.heap.size with hh | hh
      · exact hh
      · rw [Array.getElem?_eq_none hh] at e7; cases e7
    clear T0 b7
    obtain ⟨k1, k2, k3, k4, k5, k6⟩ := T1.cells
    obtain ⟨V, hV⟩ : ∃ V, V = wc := ⟨_, rfl⟩
    subst hV
    have HDW := Lib.hid (fun (U : World) (hU : Below V.heap.size V.drew U) => ((below_drewN BU 1).trans (hU.mono BU.size) : Below w.heap.size w U))
    go_wp2_with fail
    go_cut [8] from 14 (fun vv wc => ∃ g A x c, vv = .pointer (some ⟨g, 0, none⟩) ∧ V.heap.size ≤ g ∧ wc.heap[g]? = some (.cells #[.bool (decide (L < 0)), .slice A x.length c] 24 (0, 0)) ∧ x.length ≤ c ∧ x.length ≤ m ∧ Norm 4294967296 x ∧ val 4294967296 x = L.natAbs ∧ Rd wc (fun g => g < wc.heap.size) .u32 A x ∧ Below V.heap.size V wc)
    case first =>
      go_region_held3 (fun w' => w'.cell? ⟨w.heap.size, 0, none⟩ = some (.bool n1) ∧ w'.cell? ⟨w.heap.size, 1, none⟩ = some (.slice A1 a1.length c1) ∧ w'.cell? ⟨w.heap.size + 1, 0, none⟩ = some (.bool n2) ∧ w'.cell? ⟨w.heap.size + 1, 1, none⟩ = some (.slice A2 a2.length c2) ∧ w'.cell? ⟨w.heap.size + 1 + 1, 0, none⟩ = some (.bool n3) ∧ w'.cell? ⟨w.heap.size + 1 + 1, 1, none⟩ = some (.slice A3 a3.length c3))
        (first | exact T1.keep (w := V.drew) s1 X5 | exact T1.keep (w := V.drew) s1 X6 | exact T1.keep (w := V.drew) s1 X7 | (refine T1.keep (w := V.drew) s1 ?_; (repeat (first | refine Below.setCell ?_ (by first | exact Nat.le_refl _ | (dsimp only; omega)) _ | refine Below.alloc ?_ (by repeat (first | omega | refine size_alloc_ok ?_ _ | refine size_set_ok ?_ _ _)) _)); first | exact X7 | exact X6 | exact X5 | exact Below.refl _ _) | go_keep)
        ((first
          | (go_at_call_of 13 a2; (with_reducible refine Calls.mono (C13.out _ (HDW.out _ ?_)) ?_) <;> first
              | exact Below.refl _ _
              | exact below_new V.drew _
              | (rintro e w5 ⟨P5, y, d5, rfl, hd5, hl5, hn5, hv5, hr5, b5⟩; (first | (guard_hyp b5 : Below V.drew.heap.size V.drew w5; obtain ⟨X5, s5⟩ := seen0d b5) | (obtain ⟨⟨X5, s5⟩, p5⟩ := seen1d b5; obtain ⟨l1, l2, l3, l4⟩ := cells_of p5))))
          | (go_at_call_of 13 a3; (with_reducible refine Calls.mono (C14.out _ (HDW.out _ ?_)) ?_) <;> first
              | exact X5
              | exact X5.alloc X5.size _
              | (rintro e w6 ⟨P6, x6, d6, rfl, hd6, hl6, hn6, hv6, hr6, b6⟩; (first | (guard_hyp b6 : Below w5.heap.size w5 w6; obtain ⟨X56, s6⟩ := seen0 (W := w5) b6) | (obtain ⟨⟨X56, s6⟩, p6⟩ := seen1 (W := w5) b6; obtain ⟨u5, u6, u7, u8⟩ := cells_of p6)); have X6 : Below V.heap.size V.drew w6 := X5.trans (X56.mono X5.size); have z6 := X6.size; (try (have p7 := (X56.block _ s5).trans p5; obtain ⟨u1, u2, u3, u4⟩ := cells_of p7)); have y5 := s5; have s5 : V.heap.size ≤ w5.heap.size := X5.size))
          | (go_at_call 9; (with_reducible refine Calls.mono (CA.out _ y x6 P5 P6 d5 d6 ?_ ?_ hd5 hd6 hl5 hl6 hn5 hn6 hv5 hv6) ?_) <;> first
              | exact hr5.on X56
              | exact (hr5.on X56).on (below_new _ _)
              | exact hr6
              | exact hr6.on (below_new _ _)
              | (rintro e w7 ⟨P8, x8, d8, rfl, hd8, hl8, hn8, hv8, hr8, b8⟩; (first | (guard_hyp b8 : Below w6.heap.size w6 w7; obtain ⟨X67, s7⟩ := seen0 (W := w6) b8) | (obtain ⟨⟨X67, s7⟩, p8⟩ := seen1 (W := w6) b8; obtain ⟨m5, m6, m7, m8⟩ := cells_of p8)); have X7 : Below V.heap.size V.drew w7 := X6.trans (X67.mono X6.size); have z8 := X7.size; have z9 : w5.heap.size ≤ w6.heap.size := X56.size; have z10 : w6.heap.size ≤ w7.heap.size := X67.size; (try (have p9 := (X67.block _ s6).trans p6; obtain ⟨m1, m2, m3, m4⟩ := cells_of p9)); (try (have p10 := (X67.block _ (Nat.lt_of_lt_of_le y5 z9)).trans p7; obtain ⟨m1, m2, m3, m4⟩ := cells_of p10))))))
      all_goals
        have J7 : Below V.heap.size V w7 := (below_drewN (Below.refl _ _) 1).trans X7
        have J8 := Lib.hid J7
        clear C11 C12 C13 C14 CM CA X5 X6 X7 J7 X56 X67 b5 b6 b8
        go_wp2_with fail
        go_meet
        first
          | exact ⟨_, P8, x8, d8, rfl, z8, heap_alloc_new _ _, hd8, hl8, hn8, hv8, hr8.on (below_new _ _), J8.out.alloc J8.out.size _⟩
          | exact ⟨_, P8, x8, d8, rfl, z6, (stored_whole p8 _ _).2.2.1, hd8, hl8, hn8, hv8, hr8.stored p8 _ _, J8.out.trans ((stored_whole p8 _ _).2.2.2 _ z6)⟩
          | exact ⟨_, P8, x8, d8, rfl, s5, (stored_whole p9 _ _).2.2.1, hd8, hl8, hn8, hv8, hr8.stored p9 _ _, J8.out.trans ((stored_whole p9 _ _).2.2.2 _ s5)⟩
          | exact ⟨_, P8, x8, d8, rfl, Nat.le_refl _, (stored_whole p10 _ _).2.2.1, hd8, hl8, hn8, hv8, hr8.stored p10 _ _, J8.out.trans ((stored_whole p10 _ _).2.2.2 _ (Nat.le_refl _))⟩
    case rest =>
      obtain ⟨g8, P8, x8, d8, rfl, hg8, e8, hd8, hl8, hn8, hv8, hr8, b8⟩ := hcut
      obtain rfl : x7 = x8 := Norm.ext (b := 4294967296) (by omega) HN7.out hn8 (HV7.out.trans hv8.symm)
      clear k1 k2 k3 k4 k5 k6 HDW hn8 hv8
      have BV := BU.trans (b8.mono BU.size)
      have T2 := T1.on s1 b8
      have s2 : w.heap.size + 3 ≤ wc.heap.size := T2.2.2.2
      have e7 := (b8.block _ z7).trans e7
      have hr7 := hr7.on b8
      have z7 : g7 < wc.heap.size := Nat.lt_of_lt_of_le z7 b8.size
      have z8 : g8 < wc.heap.size := by
        rcases Nat.lt_or_ge g8 wc.heap.size with hh | hh
        · exact hh
        · rw [Array.getElem?_eq_none hh] at e8; cases e8
      clear T1 b8
      obtain ⟨k1, k2, k3, k4, k5, k6⟩ := T2.cells
      obtain ⟨U, hU⟩ : ∃ U, U = wc := ⟨_, rfl⟩
      subst hU
      have J0 : Below U.heap.size U U.drew := below_drewN (Below.refl _ _) 1
      have HD := Lib.hid (fun (V : World) (hV : Below U.heap.size U.drew V) => ((below_drewN BV 1).trans (hV.mono BV.size) : Below w.heap.size w V))
      have K0 : Below U.heap.size U.drew U.drew := Below.refl _ _
      obtain ⟨l1, l2, -, -⟩ := cells_of e7
      obtain ⟨l3, l4, -, -⟩ := cells_of e8
      go_wp2_with fail
      go_region_held3 (fun w' => w'.cell? ⟨w.heap.size, 0, none⟩ = some (.bool n1) ∧ w'.cell? ⟨w.heap.size, 1, none⟩ = some (.slice A1 a1.length c1) ∧ w'.cell? ⟨w.heap.size + 1, 0, none⟩ = some (.bool n2) ∧ w'.cell? ⟨w.heap.size + 1, 1, none⟩ = some (.slice A2 a2.length c2) ∧ w'.cell? ⟨w.heap.size + 1 + 1, 0, none⟩ = some (.bool n3) ∧ w'.cell? ⟨w.heap.size + 1 + 1, 1, none⟩ = some (.slice A3 a3.length c3) ∧ w'.cell? ⟨g7, 0, none⟩ = some (.bool (decide (L < 0))) ∧ w'.cell? ⟨g7, 1, none⟩ = some (.slice P7 x7.length d7) ∧ w'.cell? ⟨g8, 0, none⟩ = some (.bool (decide (L < 0))) ∧ w'.cell? ⟨g8, 1, none⟩ = some (.slice P8 x7.length d8))
        (first | exact keep10 T2 e7 e8 s2 z7 z8 K15 | exact keep10 T2 e7 e8 s2 z7 z8 K14 | exact keep10 T2 e7 e8 s2 z7 z8 K13 | exact keep10 T2 e7 e8 s2 z7 z8 K12 | exact keep10 T2 e7 e8 s2 z7 z8 K11 | exact keep10 T2 e7 e8 s2 z7 z8 K10 | exact keep10 T2 e7 e8 s2 z7 z8 K9 | exact keep10 T2 e7 e8 s2 z7 z8 K8 | exact keep10 T2 e7 e8 s2 z7 z8 K7 | exact keep10 T2 e7 e8 s2 z7 z8 K6 | exact keep10 T2 e7 e8 s2 z7 z8 K5 | exact keep10 T2 e7 e8 s2 z7 z8 K4 | exact keep10 T2 e7 e8 s2 z7 z8 K3 | exact keep10 T2 e7 e8 s2 z7 z8 K2 | exact keep10 T2 e7 e8 s2 z7 z8 K1 | (refine keep10 T2 e7 e8 s2 z7 z8 ?_; (repeat (refine Below.alloc ?_ (by repeat (first | omega | exact Nat.le_refl _ | exact K1.size | exact K3.size | refine size_alloc_ok ?_ _)) _)); first | exact K3 | exact K1 | exact Below.refl _ _) | go_keep)
        ((first
          | (go_at_call 21; (with_reducible refine Calls.mono (C18.out _ (HD.out _ K14)) ?_); rintro e w15 ⟨rfl, b15⟩; have K15 := next K14 (Nat.le_refl _) b15)
          | (go_at_call 15; (with_reducible refine Calls.mono (C17.out _ y12 y13 Q12 Q13 f12 f13 (q12.on b13) q13 hf12 hf13 hk12 hk13 hm12 hm13 hw12 hw13) ?_); rintro e w14 ⟨rfl, b14⟩; have K14 := next K13 (Nat.le_refl _) b14)
          | (go_at_call_of 9 a2; (with_reducible refine Calls.mono (C11.out _ (HD.out _ K12)) ?_); rintro e w13 ⟨Q13, y13, f13, rfl, hf13, hk13, hm13, hw13, q13, b13⟩; have K13 := next K12 (Nat.le_refl _) b13)
          | (go_at_call_of 9 a3; (with_reducible refine Calls.mono (C12.out _ (HD.out _ K11)) ?_); rintro e w12 ⟨Q12, y12, f12, rfl, hf12, hk12, hm12, hw12, q12, b12⟩; have K12 := next K11 (Nat.le_refl _) b12)
          | (go_at_call_of 15 a1; (with_reducible refine Calls.mono (C16.out _ (HD.out _ K10)) ?_); rintro e w11 ⟨rfl, b11⟩; have K11 := next K10 (Nat.le_refl _) b11)
          | (go_at_call_of 8 x7; (with_reducible refine Calls.mono (ref2_Same _ x7 P7 P8 d7 d8 _ (hr7.on (J0.trans (K9.mono (Nat.le_refl _)))) (hr8.on (J0.trans (K9.mono (Nat.le_refl _)))) (by omega)) ?_); rintro e w10 ⟨rfl, b10⟩; have K10 := next K9 (Nat.le_refl _) b10)
          | (go_at_call 8; (with_reducible refine Calls.mono (CZ.out _ Z8 f8) ?_); rintro e w9 ⟨rfl, b9⟩; have K9 := next K8 (Nat.le_refl _) b9)
          | (go_at_call 34; (with_reducible refine Calls.mono (CS0.out w7) ?_); rintro e w8 ⟨Z8, f8, rfl, b8⟩; have K8 := next K7 (Nat.le_refl _) b8)
          | (go_at_call_of 8 y4; (with_reducible refine Calls.mono (ref2_Same _ y4 Q4 Q6 f4 f6 _ ((q4.on b5).on b6) q6 (by omega)) ?_); rintro e w7 ⟨rfl, b7⟩; have K7 := next K6 (Nat.le_refl _) b7)
          | (go_at_call_of 9 y5; (with_reducible refine Calls.mono (C15.out _ (HD.out _ K5) y5 Q5 f5 q5 hf5 hk5 hm5 hw5) ?_); rintro e w6 ⟨Q6, y6, f6, rfl, hf6, hk6, hm6, hw6, q6, b6⟩; have K6 := next K5 (Nat.le_refl _) b6; obtain rfl : y4 = y6 := Norm.ext (b := 4294967296) (by omega) hm4 hm6 (hw4.trans hw6.symm))
          | (go_at_call_of 9 a2; (with_reducible refine Calls.mono (C11.out _ (HD.out _ K4)) ?_); rintro e w5 ⟨Q5, y5, f5, rfl, hf5, hk5, hm5, hw5, q5, b5⟩; have K5 := next K4 (Nat.le_refl _) b5)
          | (go_at_call 34; (with_reducible refine Calls.mono (CS1.out _ _ (HD.out _ ?_) ?_) ?_) <;> first
            | exact K3.alloc K3.size _
            | exact heap_alloc_new w3 _
            | (rintro e w4 ⟨Q4, y4, f4, rfl, hf4, hk4, hm4, hw4, q4, b4⟩; have K4 := K3.trans ((seen1 (W := w3) b4).1.1.mono K3.size)))
          | (go_at_call_of 8 y1; (with_reducible refine Calls.mono (ref2_Same _ y1 Q1 Q2 f1 f2 _ (q1.on L12) q2 (by omega)) ?_); rintro e w3 ⟨rfl, b3⟩; have K3 := next K2 (Nat.le_refl _) b3)
          | (go_at_call 34; (with_reducible refine Calls.mono (CS2.out _ _ (HD.out _ ?_) ?_) ?_) <;> first
            | exact K1
            | exact K1.alloc K1.size _
            | exact heap_alloc_new w1 _
            | exact p2
            | exact p1
            | (rintro e w2 ⟨Q2, y2, f2, rfl, hf2, hk2, hmm2, hw2, q2, b2⟩; have L12 : Below w1.heap.size w1 w2 := (by first | exact b2 | exact (seen1 (W := w1) b2).1.1); have K2 : Below U.heap.size U.drew w2 := K1.trans (L12.mono K1.size); obtain rfl : y1 = y2 := Norm.ext (b := 4294967296) (by omega) hmm1 hmm2 (hw1.trans hw2.symm)))
          | (go_at_call 34; (with_reducible refine Calls.mono (CS1.out _ _ (HD.out _ ?_) ?_) ?_) <;> first
            | exact below_new U.drew _
            | exact below_new2 U.drew _ _
            | exact heap_alloc_new U _
            | exact (Below.heap_alloc _ _ _ (by simp)).trans (heap_alloc_new U _)
            | exact at_second U _ _
            | (rintro e w1 ⟨Q1, y1, f1, rfl, hf1, hk1, hmm1, hw1, q1, b1⟩; (first | (guard_hyp b1 : Below (U.alloc (.cells #[.bool n1, .slice A1 a1.length c1, .bool n2, .slice A2 a2.length c2, .bool n3, .slice A3 a3.length c3] 24)).drew.heap.size (U.alloc (.cells #[.bool n1, .slice A1 a1.length c1, .bool n2, .slice A2 a2.length c2, .bool n3, .slice A3 a3.length c3] 24)).drew w1; obtain ⟨⟨K1, s3⟩, p0⟩ := seen1d b1) | (obtain ⟨⟨K1, s3⟩, p1, p2⟩ := seen2d b1))))))
      all_goals
        have KZ := HD.out _ K15
        have HKZ := Lib.hid KZ
        clear K0 K1 K2 K3 K4 K5 K6 K7 K8 K9 K10 K11 K12 K13 K14 K15 KZ
        go_wp2_with fail
        go_ret
        exact ⟨rfl, HKZ.out⟩
end Go.Proofs.YtkmgmppmhgoadaaDoor
