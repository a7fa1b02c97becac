/- Whole numbers: what Div answers. -/
import Derived.Test.YtidbpkibjficnaaGreatDoorZWhX
import Derived.Test.YtidbpkibjficnaaGreatDoorZNatY
namespace Go.Proofs.YtidbpkibjficnaaGreatDoor
open Go.RowKit Num

theorem euclid {N D Q R : Int} (h : R + D * Q = N) (h0 : 0 ≤ R) (h1 : R < D.natAbs) : N / D = Q ∧ N % D = R := by
  have pos : ∀ {D Q : Int}, 0 < D → R + D * Q = N → R < D → N / D = Q ∧ N % D = R := fun {D Q} hD h h1 => (Int.ediv_emod_unique hD).2 ⟨h, h0, h1⟩
  rcases Int.lt_trichotomy D 0 with hD | hD | hD
  · have := pos (D := -D) (Q := -Q) (by omega) (by rw [Int.neg_mul_neg]; exact h) (by omega)
    rw [Int.ediv_neg, Int.emod_neg] at this
    exact ⟨by omega, this.2⟩
  · subst hD; simp at h1; omega
  · exact pos hD h (by omega)

theorem quo_flat (n1 n2 : Bool) {N D : Int} {n d p m : Nat} (hN : N = if n1 then -(n : Int) else n) (hD : D = if n2 then -(d : Int) else d) (hk : d * p + m = n) (hm : m < d) (hx : n1 = true → m = 0) :
    N / D = (if (n1 != n2) then -(p : Int) else p) ∧ N % D = m := by
  have hk' : (d : Int) * p + m = n := by exact_mod_cast hk
  refine euclid ?_ (by omega) (by cases n2 <;> simp at hD <;> omega)
  cases n1 <;> cases n2 <;> simp at hN hD hx <;> subst hN hD
  · show (m : Int) + (d : Int) * (p : Int) = n; omega
  · show (m : Int) + -(d : Int) * -(p : Int) = n; rw [Int.neg_mul_neg]; omega
  · show (m : Int) + (d : Int) * -(p : Int) = -n; rw [Int.mul_neg]; omega
  · show (m : Int) + -(d : Int) * (p : Int) = -n; rw [Int.neg_mul]; omega
theorem quo_up (n2 : Bool) {N D : Int} {n d p m : Nat} (hN : N = -(n : Int)) (hD : D = if n2 then -(d : Int) else d) (hk : d * p + m = n) (h0 : 0 < m) (hm : m < d) :
    N / D = (if (true != n2) then -((p + 1 : Nat) : Int) else ((p + 1 : Nat) : Int)) ∧ N % D = ((d - m : Nat) : Int) := by
  have hk' : (d : Int) * p + m = n := by exact_mod_cast hk
  have e : (d : Int) * ((p + 1 : Nat) : Int) = d * p + d := by rw [Int.natCast_add, Int.mul_add]; simp
  refine euclid ?_ (by omega) (by cases n2 <;> simp at hD <;> omega)
  cases n2
  · simp only [Bool.false_eq_true, if_false] at hD
    subst hN hD
    simp only [Bool.bne_false, if_true]
    rw [Int.mul_neg, e]; omega
  · simp only [if_true] at hD
    subst hN hD
    simp only [bne_self_eq_false, Bool.false_eq_true, if_false]
    rw [Int.neg_mul, e]; omega

/-- two arguments in their boxes, and two results' places -/
def Four (w : World) (g : Nat) (n1 n2 : Bool) (v1 v2 : Value) : Prop :=
  w.heap[g]? = some (.cells #[.bool n1, v1] 24 (0, 0)) ∧ w.heap[g + 1]? = some (.cells #[.bool n2, v2] 24 (0, 0)) ∧ w.heap[g + 1 + 1]? = some (.cells #[.bool false, .slice none 0 0] 24 (0, 0)) ∧ w.heap[g + 1 + 1 + 1]? = some (.cells #[.bool false, .slice none 0 0] 24 (0, 0)) ∧ g + 4 ≤ w.heap.size
theorem Four.new (w : World) (n1 n2 : Bool) (v1 v2 : Value) : Four ((((w.alloc (.cells #[.bool n1, v1] 24)).alloc (.cells #[.bool n2, v2] 24)).alloc (.cells #[.bool false, .slice none 0 0] 24)).alloc (.cells #[.bool false, .slice none 0 0] 24)) w.heap.size n1 n2 v1 v2 := by
  have s1 : ∀ (u : World) (o : Obj), (u.alloc o).heap.size = u.heap.size + 1 := fun u o => by simp
  have e : ∀ (u : World) (o : Obj) (k : Nat), k = u.heap.size → (u.alloc o).heap[k]? = some o := fun u o k hk => by rw [hk]; exact heap_alloc_new u o
  refine ⟨?_, ?_, ?_, ?_, by rw [s1, s1, s1, s1]; omega⟩
  · rw [Below.heap_alloc _ _ _ (by rw [s1, s1, s1]; omega), Below.heap_alloc _ _ _ (by rw [s1, s1]; omega), Below.heap_alloc _ _ _ (by rw [s1]; omega)]
    exact e _ _ _ rfl
  · rw [Below.heap_alloc _ _ _ (by rw [s1, s1, s1]; omega), Below.heap_alloc _ _ _ (by rw [s1, s1]; omega)]
    exact e _ _ _ (by rw [s1])
  · rw [Below.heap_alloc _ _ _ (by rw [s1, s1, s1]; omega)]
    exact e _ _ _ (by rw [s1, s1])
  · exact e _ _ _ (by rw [s1, s1, s1])
theorem Four.on {w w' : World} {g : Nat} {n1 n2 : Bool} {v1 v2 : Value} (h : Four w g n1 n2 v1 v2) (hb : Below w.heap.size w w') : Four w' g n1 n2 v1 v2 := by
  obtain ⟨h0, h1, h2, h3, h4⟩ := h
  exact ⟨(hb.block _ (by omega)).trans h0, (hb.block _ (by omega)).trans h1, (hb.block _ (by omega)).trans h2, (hb.block _ (by omega)).trans h3, Nat.le_trans h4 hb.size⟩
theorem Four.on_low {w w' : World} {g B : Nat} {n1 n2 : Bool} {v1 v2 : Value} (h : Four w g n1 n2 v1 v2) (hB : g + 4 ≤ B) (hb : Below B w w') : Four w' g n1 n2 v1 v2 := by
  obtain ⟨h0, h1, h2, h3, h4⟩ := h
  exact ⟨(hb.block _ (by omega)).trans h0, (hb.block _ (by omega)).trans h1, (hb.block _ (by omega)).trans h2, (hb.block _ (by omega)).trans h3, Nat.le_trans h4 hb.size⟩
theorem Four.boxes {w : World} {g : Nat} {n1 n2 : Bool} {v1 v2 : Value} (h : Four w g n1 n2 v1 v2) :
    w.cell? ⟨g, 0, none⟩ = some (.bool n1) ∧ w.cell? ⟨g, 1, none⟩ = some v1 ∧ w.cell? ⟨g + 1, 0, none⟩ = some (.bool n2) ∧ w.cell? ⟨g + 1, 1, none⟩ = some v2 := by
  obtain ⟨h0, h1, h2, h3, h4⟩ := h
  exact ⟨by rw [cell_of_row _ _ _ _ _ _ h0]; rfl, by rw [cell_of_row _ _ _ _ _ _ h0]; rfl, by rw [cell_of_row _ _ _ _ _ _ h1]; rfl, by rw [cell_of_row _ _ _ _ _ _ h1]; rfl⟩
theorem Four.place {w : World} {g : Nat} {n1 n2 : Bool} {v1 v2 : Value} (h : Four w g n1 n2 v1 v2) :
    (w.cell? ⟨g + 1 + 1, 0, none⟩ = some (.bool false) ∧ w.cell? ⟨g + 1 + 1, 1, none⟩ = some (.slice none 0 0) ∧ w.frozen? ⟨g + 1 + 1, 0, none⟩ = false ∧ w.frozen? ⟨g + 1 + 1, 1, none⟩ = false) ∧
    (w.cell? ⟨g + 1 + 1 + 1, 0, none⟩ = some (.bool false) ∧ w.cell? ⟨g + 1 + 1 + 1, 1, none⟩ = some (.slice none 0 0) ∧ w.frozen? ⟨g + 1 + 1 + 1, 0, none⟩ = false ∧ w.frozen? ⟨g + 1 + 1 + 1, 1, none⟩ = false) := by
  obtain ⟨h0, h1, h2, h3, h4⟩ := h
  exact ⟨⟨by rw [cell_of_row _ _ _ _ _ _ h2]; rfl, by rw [cell_of_row _ _ _ _ _ _ h2]; rfl, frozen_of_row _ _ _ _ _ h2, frozen_of_row _ _ _ _ _ h2⟩, ⟨by rw [cell_of_row _ _ _ _ _ _ h3]; rfl, by rw [cell_of_row _ _ _ _ _ _ h3]; rfl, frozen_of_row _ _ _ _ _ h3, frozen_of_row _ _ _ _ _ h3⟩⟩

/-- both results are stored -/
theorem Four.stored {w : World} {g : Nat} {n1 n2 : Bool} {v1 v2 : Value} (h : Four w g n1 n2 v1 v2) (u v x y : Value) : ∃ W', (((w.setCell ⟨g + 1 + 1, 0, none⟩ u).setCell ⟨g + 1 + 1, 1, none⟩ v).setCell ⟨g + 1 + 1 + 1, 0, none⟩ x).setCell ⟨g + 1 + 1 + 1, 1, none⟩ y = W' ∧
    W'.cell? ⟨g + 1 + 1, 0, none⟩ = some u ∧ W'.cell? ⟨g + 1 + 1, 1, none⟩ = some v ∧ W'.cell? ⟨g + 1 + 1 + 1, 0, none⟩ = some x ∧ W'.cell? ⟨g + 1 + 1 + 1, 1, none⟩ = some y ∧ (∀ B, B ≤ g → Below B w W') ∧
    (∀ k A xs, Rd w (fun b => b < w.heap.size) k A xs → Rd W' (fun b => b < W'.heap.size) k A xs) := by
  obtain ⟨h0, h1, h2, h3, h4⟩ := h
  obtain ⟨e0, e1, e2, e3⟩ := stored_whole h2 u v
  have h3' := h3
  rw [← Below.heap_setCell w ⟨g + 1 + 1, 0, none⟩ u (g + 1 + 1 + 1) (by show g + 1 + 1 + 1 ≠ g + 1 + 1; omega), ← Below.heap_setCell _ ⟨g + 1 + 1, 1, none⟩ v (g + 1 + 1 + 1) (by show g + 1 + 1 + 1 ≠ g + 1 + 1; omega)] at h3'
  obtain ⟨d0, d1, d2, d3⟩ := stored_whole h3' x y
  have h2' := e2
  rw [← Below.heap_setCell _ ⟨g + 1 + 1 + 1, 0, none⟩ x (g + 1 + 1) (by show g + 1 + 1 ≠ g + 1 + 1 + 1; omega), ← Below.heap_setCell _ ⟨g + 1 + 1 + 1, 1, none⟩ y (g + 1 + 1) (by show g + 1 + 1 ≠ g + 1 + 1 + 1; omega)] at h2'
  exact ⟨_, rfl, by rw [cell_of_row _ _ _ _ _ _ h2']; rfl, by rw [cell_of_row _ _ _ _ _ _ h2']; rfl, d0, d1, fun B hB => (e3 B (by omega)).trans (d3 B (by omega)), fun k A xs hr => (hr.stored h2 u v).stored h3' x y⟩

/-- a quotient and what is left, never below 0; zeros and false, where there is nothing to divide by. -/
def GivesWQR (N D : Int) (w : World) (e : Ending) (w' : World) : Prop :=
  ∃ A q c A' r c', e = .returned (.tuple #[.agg #[.bool (decide (N / D < 0)), .slice A q.length c], .agg #[.bool false, .slice A' r.length c'], .bool (decide (D ≠ 0))]) ∧ q.length ≤ c ∧ r.length ≤ c' ∧ Norm 4294967296 q ∧ Norm 4294967296 r ∧
    val 4294967296 q = (N / D).natAbs ∧ val 4294967296 r = (if D = 0 then 0 else N % D).natAbs ∧ Rd w' (fun g => g < w'.heap.size) .u32 A q ∧ Rd w' (fun g => g < w'.heap.size) .u32 A' r ∧ Below w.heap.size w w'

set_option maxRecDepth 10000 in
set_option maxHeartbeats 3200000 in
theorem whole_Div (n1 n2 : Bool) (a b : List Nat) (A A' : Option Addr) (ca cb : Nat) (w : World) (h : Rd w (fun g => g < w.heap.size) .u32 A a) (h' : Rd w (fun g => g < w.heap.size) .u32 A' b) (hl : a.length ≤ 1073741824) (hl' : b.length ≤ 1073741824) (hc : a.length ≤ ca) (hc' : b.length ≤ cb) (ha : Dg 4294967296 a) (hb : Dg 4294967296 b) :
    Calls Tryz.prog 70 #[.agg #[.bool n1, .slice A a.length ca], .agg #[.bool n2, .slice A' b.length cb]] w (GivesWQR (wv n1 a) (wv n2 b) w) := by
  have xa := wv_abs n1 a
  have xb := wv_abs n2 b
  have F0 := Four.new w n1 n2 (.slice A a.length ca) (.slice A' b.length cb)
  have B0 : Below w.heap.size w ((((w.alloc (.cells #[.bool n1, .slice A a.length ca] 24)).alloc (.cells #[.bool n2, .slice A' b.length cb] 24)).alloc (.cells #[.bool false, .slice none 0 0] 24)).alloc (.cells #[.bool false, .slice none 0 0] 24)) :=
    (below_new3 _ _ _ _).trans ((below_new _ _).mono (by simp; omega))
  have cD := nat_Div a b A A' ca cb _ _ _ (h.on B0) (h'.on B0) (fun g hg => hg) (fun g hg => hg) hl hl' hc hc' ha hb
  unfold GivesQR at cD
  obtain ⟨n, hn⟩ : ∃ n, val 4294967296 a = n := ⟨_, rfl⟩
  obtain ⟨d, hd⟩ : ∃ d, val 4294967296 b = d := ⟨_, rfl⟩
  obtain ⟨N, hN⟩ : ∃ N, wv n1 a = N := ⟨_, rfl⟩
  obtain ⟨D, hD⟩ : ∃ D, wv n2 b = D := ⟨_, rfl⟩
  rw [hn, hd] at cD
  rw [hN, hn] at xa
  rw [hD, hd] at xb
  rw [hN, hD]
  have HNa := Lib.hid hN
  have HDb := Lib.hid hD
  have HVb := Lib.hid hd
  have HVa := Lib.hid hn
  have HN := Lib.hid (show N = if n1 then -(n : Int) else n by rw [← hN, ← hn]; rfl)
  have HD := Lib.hid (show D = if n2 then -(d : Int) else d by rw [← hD, ← hd]; rfl)
  clear hN hD hn hd
  by_cases hz : d = 0
  · subst hz
    obtain rfl : D = 0 := by omega
    clear xa xb
    rw [decide_eq_false (show ¬ 0 < 0 by omega)] at cD
    go_enter Tryz.func70, Tryz.ntmps70
    go_wp2_with fail
    refine cD.mono ?_
    rintro e w1 ⟨A1, q, c1, A2, r, c2, rfl, -, -, -, -, -, -, -, -, b1⟩
    have B1 := B0.trans (b1.mono B0.size)
    have F1 := F0.on b1
    obtain ⟨⟨p0, p1, p2, p3⟩, q0, q1, q2, q3⟩ := F1.place
    clear cD
    go_wp2_with fail
    obtain ⟨W', hW', r0, r1, r2, r3, r4, r5⟩ := F1.stored (.bool false) (.slice none 0 0) (.bool false) (.slice none 0 0)
    rw [hW']
    exact bodyPost_ret (v := .tuple #[.agg #[.bool false, .slice none 0 0], .agg #[.bool false, .slice none 0 0], .bool false]) (by simp [results, Tryz.results70, go_sem, r0, r1, r2, r3]) rfl
      ⟨none, [], 0, none, [], 0, by simp, by simp, by simp, norm_nil _, norm_nil _, by simp [val], by simp [val], Rd.nil, Rd.nil, B1.trans (r4 _ (Nat.le_refl _))⟩
  · have hdp : 0 < d := by omega
    rw [decide_eq_true hdp] at cD
    by_cases hbr : n1 = true ∧ 0 < n % d
    · obtain ⟨rfl, hr0⟩ := hbr
      have hQR := quo_up n2 HN.out HD.out (Nat.div_add_mod n d) hr0 (Nat.mod_lt _ hdp)
      have HQR := Lib.hid hQR
      have HR0 := Lib.hid hr0
      have HDP := Lib.hid hdp
      have HZ := Lib.hid (show D ≠ 0 by omega)
      clear hQR hr0 hdp hz xa xb
      go_enter Tryz.func70, Tryz.ntmps70
      go_wp2_with fail
      refine cD.mono ?_
      rintro e w1 ⟨A1, q, c1, A2, r, c2, rfl, hc1, hc2, hn1, hn2, hv1, hv2, hr1, hr2, b1⟩
      have B1 := B0.trans (b1.mono B0.size)
      have F1 := F0.on b1
      have HN1 := Lib.hid hn1
      have HN2 := Lib.hid hn2
      have HV1 := Lib.hid hv1
      have HV2 := Lib.hid (show val 4294967296 r = n % d by rw [hv2, if_neg (by have := HDP.out; omega)])
      have hl1 : q.length ≤ 1073741824 := Nat.le_trans (len_le (b := 4294967296) (by omega) HN1.out.2 ha (by rw [HV1.out, HVa.out]; exact Nat.div_le_self _ _)) hl
      have hl2 : r.length ≤ 1073741824 := Nat.le_trans (len_le (b := 4294967296) (by omega) HN2.out.2 ha (by rw [HV2.out, HVa.out]; exact Nat.mod_le _ _)) hl
      have hpos : 0 < r.length := by
        rcases Nat.eq_zero_or_pos r.length with h0 | h0
        · have := HV2.out
          rw [List.eq_nil_of_length_eq_zero h0] at this
          have := HR0.out
          simp [val] at *
          omega
        · exact h0
      obtain ⟨k1, k2, k3, k4⟩ := F1.boxes
      clear hn1 hn2 hv1 hv2 cD
      go_wp2_with fail
      refine (nat_Of 1 (by omega) _).mono ?_
      rintro e w2 ⟨A3, o, c3, rfl, hc3, hn3, hv3, hr3, b2⟩
      have HN3 := Lib.hid hn3
      have HV3 := Lib.hid hv3
      have hl3 : o.length ≤ 1 := HN3.out.2.length_le (b := 4294967296) (by omega) (by rw [HV3.out]; omega)
      clear hn3 hv3
      go_wp2_with fail
      refine (nat_Add q o A1 A3 c1 c3 _ _ w2 (hr1.on b2) hr3 (fun g hg => hg) (fun g hg => hg) (by omega) (by omega) hc1 hc3 HN1.out.1 HN3.out.1).mono ?_
      rintro e w3 ⟨A4, s, c4, rfl, hc4, hn4, hv4, hr4, b3⟩
      have HN4 := Lib.hid hn4
      have HV4 := Lib.hid (show val 4294967296 s = n / d + 1 by rw [hv4, HV1.out, HV3.out])
      have b13 := b2.trans (b3.mono b2.size)
      have B3 := B1.trans (b13.mono B1.size)
      have F3 := F1.on b13
      clear hn4 hv4 k1 k2 k3 k4
      obtain ⟨k1, k2, k3, k4⟩ := F3.boxes
      have cS := nat_Sub b r A' A2 cb c2 _ _ w3 (h'.on B3) (hr2.on b13) (fun g hg => hg) (fun g hg => hg) (by omega) (by omega) hc' hc2 hb HN2.out.1
      rw [HV2.out, HVb.out, decide_eq_true (show n % d ≤ d from Nat.le_of_lt (Nat.mod_lt _ HDP.out))] at cS
      go_wp2_with fail
      refine cS.mono ?_
      rintro e w4 ⟨A5, l, c5, rfl, hc5, hn5, hv5, hr5, b4⟩
      have HN5 := Lib.hid hn5
      have HV5 := Lib.hid hv5
      have B4 := B3.trans (b4.mono B3.size)
      have F4 := F3.on b4
      clear hn5 hv5 k1 k2 k3 k4 cS
      obtain ⟨k1, k2, k3, k4⟩ := F4.boxes
      go_wp2_with fail
      refine (whole_own _ s A4 c4 (N / D) _ HN4.out (by rw [HQR.out.1, wv, HV4.out]; cases n2 <;> rfl)).mono ?_
      rintro e w5 ⟨rfl, b5⟩
      go_wp2_with fail
      refine (whole_own false l A5 c5 (N % D) _ HN5.out (by rw [HQR.out.2, wv_false, HV5.out])).mono ?_
      rintro e w6 ⟨rfl, b6⟩
      have b46 := b5.trans (b6.mono b5.size)
      have F6 := F4.on b46
      have HE := Lib.hid (show decide (N % D < 0) = false by rw [HQR.out.2]; exact decide_eq_false (by omega))
      rw [HE.out]
      obtain ⟨dq, hdq⟩ : ∃ dq, decide (N / D < 0) = dq := ⟨_, rfl⟩
      rw [hdq]
      have HDQ := Lib.hid hdq
      clear hdq k1 k2 k3 k4
      obtain ⟨⟨p0, p1, p2, p3⟩, q0, q1, q2, q3⟩ := F6.place
      go_wp2_with fail
      obtain ⟨W', hW', r0, r1, r2, r3, r4, r5⟩ := F6.stored (.bool dq) (.slice A4 s.length c4) (.bool false) (.slice A5 l.length c5)
      rw [hW']
      exact bodyPost_ret (v := .tuple #[.agg #[.bool dq, .slice A4 s.length c4], .agg #[.bool false, .slice A5 l.length c5], .bool true]) (by simp [results, Tryz.results70, go_sem, r0, r1, r2, r3]) rfl
        ⟨A4, s, c4, A5, l, c5, by rw [HDQ.out, decide_eq_true HZ.out], hc4, hc5, HN4.out, HN5.out, by rw [HQR.out.1, HV4.out]; split <;> first | rw [Int.natAbs_neg, Int.natAbs_natCast] | rw [Int.natAbs_natCast], by rw [if_neg HZ.out, HQR.out.2, HV5.out]; rfl,
          r5 _ _ _ ((hr4.on b4).on b46), r5 _ _ _ (hr5.on b46), B4.trans ((b46.mono B4.size).trans (r4 _ (Nat.le_refl _)))⟩
    · have hx : n1 = true → n % d = 0 := fun h1 => by
        rcases Nat.eq_zero_or_pos (n % d) with h0 | h0
        · exact h0
        · exact absurd ⟨h1, h0⟩ hbr
      have hQR := quo_flat n1 n2 HN.out HD.out (Nat.div_add_mod n d) (Nat.mod_lt _ hdp) hx
      have HQR := Lib.hid hQR
      have HX := Lib.hid hx
      have HDP := Lib.hid hdp
      have HZ := Lib.hid (show D ≠ 0 by omega)
      clear hQR hdp hz xa xb hx hbr
      have hcase : n1 = false ∨ n1 = true := by cases n1 <;> simp
      rcases hcase with rfl | rfl
      all_goals
        go_enter Tryz.func70, Tryz.ntmps70
        go_wp2_with fail
        refine cD.mono ?_
        rintro e w1 ⟨A1, q, c1, A2, r, c2, rfl, hc1, hc2, hn1, hn2, hv1, hv2, hr1, hr2, b1⟩
        have B1 := B0.trans (b1.mono B0.size)
        have F1 := F0.on b1
        have HN1 := Lib.hid hn1
        have HN2 := Lib.hid hn2
        have HV1 := Lib.hid hv1
        have HV2 := Lib.hid (show val 4294967296 r = n % d by rw [hv2, if_neg (by have := HDP.out; omega)])
        obtain ⟨k1, k2, k3, k4⟩ := F1.boxes
        clear hn1 hn2 hv1 hv2 cD
      · go_wp2_with fail
        refine (whole_own _ q A1 c1 (N / D) _ HN1.out (by rw [HQR.out.1, wv, HV1.out]; cases n2 <;> rfl)).mono ?_
        rintro e w5 ⟨rfl, b5⟩
        go_wp2_with fail
        refine (whole_own false r A2 c2 (N % D) _ HN2.out (by rw [HQR.out.2, wv_false, HV2.out])).mono ?_
        rintro e w6 ⟨rfl, b6⟩
        have b46 := b5.trans (b6.mono b5.size)
        have F6 := F1.on b46
        have HE := Lib.hid (show decide (N % D < 0) = false by rw [HQR.out.2]; exact decide_eq_false (by omega))
        rw [HE.out]
        obtain ⟨dq, hdq⟩ : ∃ dq, decide (N / D < 0) = dq := ⟨_, rfl⟩
        rw [hdq]
        have HDQ := Lib.hid hdq
        clear hdq k1 k2 k3 k4
        obtain ⟨⟨p0, p1, p2, p3⟩, q0, q1, q2, q3⟩ := F6.place
        go_wp2_with fail
        obtain ⟨W', hW', r0, r1, r2, r3, r4, r5⟩ := F6.stored (.bool dq) (.slice A1 q.length c1) (.bool false) (.slice A2 r.length c2)
        rw [hW']
        exact bodyPost_ret (v := .tuple #[.agg #[.bool dq, .slice A1 q.length c1], .agg #[.bool false, .slice A2 r.length c2], .bool true]) (by simp [results, Tryz.results70, go_sem, r0, r1, r2, r3]) rfl
          ⟨A1, q, c1, A2, r, c2, by rw [HDQ.out, decide_eq_true HZ.out], hc1, hc2, HN1.out, HN2.out, by rw [HQR.out.1, HV1.out]; split <;> first | rw [Int.natAbs_neg, Int.natAbs_natCast] | rw [Int.natAbs_natCast], by rw [if_neg HZ.out, HQR.out.2, HV2.out]; rfl,
            r5 _ _ _ (hr1.on b46), r5 _ _ _ (hr2.on b46), B1.trans ((b46.mono B1.size).trans (r4 _ (Nat.le_refl _)))⟩
      · obtain rfl : r = [] := (HN2.out.2.nil_iff (b := 4294967296) (by omega)).2 (by rw [HV2.out, HX.out (by simp)])
        go_wp2_with fail
        refine (whole_own _ q A1 c1 (N / D) _ HN1.out (by rw [HQR.out.1, wv, HV1.out]; cases n2 <;> rfl)).mono ?_
        rintro e w5 ⟨rfl, b5⟩
        go_wp2_with fail
        refine (whole_own false [] A2 c2 (N % D) _ HN2.out (by rw [HQR.out.2, wv_false, HV2.out])).mono ?_
        rintro e w6 ⟨rfl, b6⟩
        have b46 := b5.trans (b6.mono b5.size)
        have F6 := F1.on b46
        have HE := Lib.hid (show decide (N % D < 0) = false by rw [HQR.out.2]; exact decide_eq_false (by omega))
        rw [HE.out]
        obtain ⟨dq, hdq⟩ : ∃ dq, decide (N / D < 0) = dq := ⟨_, rfl⟩
        rw [hdq]
        have HDQ := Lib.hid hdq
        clear hdq k1 k2 k3 k4
        obtain ⟨⟨p0, p1, p2, p3⟩, q0, q1, q2, q3⟩ := F6.place
        go_wp2_with fail
        obtain ⟨W', hW', r0, r1, r2, r3, r4, r5⟩ := F6.stored (.bool dq) (.slice A1 q.length c1) (.bool false) (.slice A2 0 c2)
        rw [hW']
        exact bodyPost_ret (v := .tuple #[.agg #[.bool dq, .slice A1 q.length c1], .agg #[.bool false, .slice A2 0 c2], .bool true]) (by simp [results, Tryz.results70, go_sem, r0, r1, r2, r3]) rfl
          ⟨A1, q, c1, A2, [], c2, by rw [HDQ.out, decide_eq_true HZ.out]; rfl, hc1, hc2, HN1.out, HN2.out, by rw [HQR.out.1, HV1.out]; split <;> first | rw [Int.natAbs_neg, Int.natAbs_natCast] | rw [Int.natAbs_natCast], by rw [if_neg HZ.out, HQR.out.2, HV2.out]; rfl,
            r5 _ _ _ (hr1.on b46), r5 _ _ _ (hr2.on b46), B1.trans ((b46.mono B1.size).trans (r4 _ (Nat.le_refl _)))⟩
end Go.Proofs.YtidbpkibjficnaaGreatDoor
