/- The second layer's laws: a quotient below 0 is right. -/
import Derived.Test.YtkebffkekinblaaZOaD
import Derived.Test.YtkebffkekinblaaZWrX
import Derived.Test.YtkebffkekinblaaZWhX
import Derived.Deep.CutRange
import Derived.Deep.RegionWith
import Derived.StillTailTactics
namespace Go.Proofs.Ytkebffkekinblaa
open Go.RowKit Num

/-- a whole number of at most m words -/
def GivesWL (N : Int) (m : Nat) (w : World) (e : Ending) (w' : World) : Prop :=
  ∃ A xs c, e = .returned (.agg #[.bool (decide (N < 0)), .slice A xs.length c]) ∧ xs.length ≤ c ∧ xs.length ≤ m ∧ Norm 4294967296 xs ∧ val 4294967296 xs = N.natAbs ∧ Rd w' (fun g => g < w'.heap.size) .u32 A xs ∧ Below w.heap.size w w'
theorem lim {N : Int} {m : Nat} {w w' : World} {e : Ending} (hN : N.natAbs < 4294967296 ^ m) (h : GivesW N w e w') : GivesWL N m w e w' := by
  obtain ⟨A, xs, c, h1, h2, h3, h4, h5, h6⟩ := h
  exact ⟨A, xs, c, h1, h2, h3.2.length_le (b := 4294967296) (by omega) (by rw [h4]; exact hN), h3, h4, h5, h6⟩
theorem lim_sum {a b : List Nat} {m n : Nat} {N : Int} (ha : Dg 4294967296 a) (hb : Dg 4294967296 b) (h1 : a.length ≤ n) (h2 : b.length ≤ n) (hm : n + 1 ≤ m) (hN : N.natAbs ≤ val 4294967296 a + val 4294967296 b) : N.natAbs < 4294967296 ^ m := by
  have k1 := val_lt_pow ha (by omega) h1
  have k2 := val_lt_pow hb (by omega) h2
  have k3 : 4294967296 ^ (n + 1) ≤ 4294967296 ^ m := Nat.pow_le_pow_right (by omega) hm
  rw [Nat.pow_succ] at k3
  omega
theorem lim_one {a : List Nat} {m : Nat} {N : Int} (ha : Dg 4294967296 a) (h1 : a.length ≤ m) (hN : N.natAbs ≤ val 4294967296 a) : N.natAbs < 4294967296 ^ m := by
  have k1 := val_lt_pow ha (by omega) h1
  omega
theorem lim_prod {a b : List Nat} {m : Nat} (n1 n2 : Bool) (ha : Dg 4294967296 a) (hb : Dg 4294967296 b) (h1 : a.length + b.length ≤ m) : (wv n1 a * wv n2 b).natAbs < 4294967296 ^ m := by
  rw [Int.natAbs_mul, wv_abs, wv_abs]
  refine Nat.lt_of_lt_of_le (Nat.mul_lt_mul'' (val_lt ha) (val_lt hb)) ?_
  rw [← Nat.pow_add]
  exact Nat.pow_le_pow_right (by omega) h1
theorem next {B : Nat} {W V w' : World} (K : Below B W V) (hB : B ≤ W.heap.size) (b : Below V.heap.size V w') : Below B W w' := K.trans (b.mono (Nat.le_trans hB K.size))
end Go.Proofs.Ytkebffkekinblaa
/- Whole numbers, the document's own: what Div answers. -/

namespace Go.Proofs.Ytkebffkekinblaa
open Go.RowKit Num

theorem keep6 {V w1 : World} {g g10 B : Nat} {n1 n2 n3 : Bool} {v1 v2 v3 : Value} (k1 : V.cell? ⟨g, 0, none⟩ = some (.bool n1)) (k2 : V.cell? ⟨g, 1, none⟩ = some v1) (k3 : V.cell? ⟨g + 1, 0, none⟩ = some (.bool n2)) (k4 : V.cell? ⟨g + 1, 1, none⟩ = some v2) (k5 : V.cell? ⟨g10, 0, none⟩ = some (.bool n3)) (k6 : V.cell? ⟨g10, 1, none⟩ = some v3)
    (hB : g + 2 ≤ B) (h10 : g10 < B) (hb : Below B V w1) :
    w1.cell? ⟨g, 0, none⟩ = some (.bool n1) ∧ w1.cell? ⟨g, 1, none⟩ = some v1 ∧ w1.cell? ⟨g + 1, 0, none⟩ = some (.bool n2) ∧ w1.cell? ⟨g + 1, 1, none⟩ = some v2 ∧ w1.cell? ⟨g10, 0, none⟩ = some (.bool n3) ∧ w1.cell? ⟨g10, 1, none⟩ = some v3 :=
  ⟨(hb.cell (p := ⟨g, 0, none⟩) (show g < B by omega)).trans k1, (hb.cell (p := ⟨g, 1, none⟩) (show g < B by omega)).trans k2, (hb.cell (p := ⟨g + 1, 0, none⟩) (show g + 1 < B by omega)).trans k3, (hb.cell (p := ⟨g + 1, 1, none⟩) (show g + 1 < B by omega)).trans k4, (hb.cell (p := ⟨g10, 0, none⟩) h10).trans k5, (hb.cell (p := ⟨g10, 1, none⟩) h10).trans k6⟩
theorem four_at {w : World} {g g' : Nat} {x y x' y' : Value} {t t' : TypeId} (h : w.heap[g]? = some (.cells #[x, y] t (0, 0))) (h' : w.heap[g']? = some (.cells #[x', y'] t' (0, 0))) : w.cell? ⟨g, 0, none⟩ = some x ∧ w.cell? ⟨g, 1, none⟩ = some y ∧ w.cell? ⟨g', 0, none⟩ = some x' ∧ w.cell? ⟨g', 1, none⟩ = some y' :=
  ⟨(cells_of h).1, (cells_of h).2.1, (cells_of h').1, (cells_of h').2.1⟩
theorem heap_two {w : World} {k s : Nat} (h : ¬ k = s) (u v : Value) : ((w.setCell ⟨s, 0, none⟩ u).setCell ⟨s, 1, none⟩ v).heap[k]? = w.heap[k]? :=
  (Below.heap_setCell _ _ _ _ h).trans (Below.heap_setCell _ _ _ _ h)
theorem far0 {w : World} {g g' : Nat} {x y x' y' : Value} {t t' : TypeId} (h : w.heap[g]? = some (.cells #[x, y] t (0, 0))) (h' : w.heap[g']? = some (.cells #[x', y'] t' (0, 0))) : w.drew.cell? ⟨g, 0, none⟩ = some x ∧ w.drew.cell? ⟨g, 1, none⟩ = some y ∧ w.drew.cell? ⟨g', 0, none⟩ = some x' ∧ w.drew.cell? ⟨g', 1, none⟩ = some y' := four_at (w := w.drew) h h'
theorem far1 {w : World} {g g' s : Nat} {x y x' y' : Value} {t t' : TypeId} (n1 : ¬ g = s) (n2 : ¬ g' = s) (u v : Value) (h : w.heap[g]? = some (.cells #[x, y] t (0, 0))) (h' : w.heap[g']? = some (.cells #[x', y'] t' (0, 0))) :
    ((w.setCell ⟨s, 0, none⟩ u).setCell ⟨s, 1, none⟩ v).drew.cell? ⟨g, 0, none⟩ = some x ∧ ((w.setCell ⟨s, 0, none⟩ u).setCell ⟨s, 1, none⟩ v).drew.cell? ⟨g, 1, none⟩ = some y ∧ ((w.setCell ⟨s, 0, none⟩ u).setCell ⟨s, 1, none⟩ v).drew.cell? ⟨g', 0, none⟩ = some x' ∧ ((w.setCell ⟨s, 0, none⟩ u).setCell ⟨s, 1, none⟩ v).drew.cell? ⟨g', 1, none⟩ = some y' :=
  far0 ((heap_two n1 u v).trans h) ((heap_two n2 u v).trans h')
theorem far2 {w : World} {g g' s s' : Nat} {x y x' y' : Value} {t t' : TypeId} (n1 : ¬ g = s) (n2 : ¬ g' = s) (n3 : ¬ g = s') (n4 : ¬ g' = s') (u v u' v' : Value) (h : w.heap[g]? = some (.cells #[x, y] t (0, 0))) (h' : w.heap[g']? = some (.cells #[x', y'] t' (0, 0))) :
    ((((w.setCell ⟨s, 0, none⟩ u).setCell ⟨s, 1, none⟩ v).setCell ⟨s', 0, none⟩ u').setCell ⟨s', 1, none⟩ v').drew.cell? ⟨g, 0, none⟩ = some x ∧ ((((w.setCell ⟨s, 0, none⟩ u).setCell ⟨s, 1, none⟩ v).setCell ⟨s', 0, none⟩ u').setCell ⟨s', 1, none⟩ v').drew.cell? ⟨g, 1, none⟩ = some y ∧ ((((w.setCell ⟨s, 0, none⟩ u).setCell ⟨s, 1, none⟩ v).setCell ⟨s', 0, none⟩ u').setCell ⟨s', 1, none⟩ v').drew.cell? ⟨g', 0, none⟩ = some x' ∧ ((((w.setCell ⟨s, 0, none⟩ u).setCell ⟨s, 1, none⟩ v).setCell ⟨s', 0, none⟩ u').setCell ⟨s', 1, none⟩ v').drew.cell? ⟨g', 1, none⟩ = some y' :=
  far1 n3 n4 u' v' ((heap_two n1 u v).trans h) ((heap_two n2 u v).trans h')
theorem keep2 {w w1 : World} {g B : Nat} {x y : Value} (k1 : w.cell? ⟨g, 0, none⟩ = some x) (k3 : w.cell? ⟨g + 1, 0, none⟩ = some y) (hB : g + 2 ≤ B) (hb : Below B w w1) : w1.cell? ⟨g, 0, none⟩ = some x ∧ w1.cell? ⟨g + 1, 0, none⟩ = some y :=
  ⟨(hb.cell (p := ⟨g, 0, none⟩) (show g < B by omega)).trans k1, (hb.cell (p := ⟨g + 1, 0, none⟩) (show g + 1 < B by omega)).trans k3⟩
theorem next_drew {U o w1 : World} {ob : Obj} (ho : o = (U.alloc ob).drew) (hb : Below o.heap.size o w1) : Below U.heap.size U w1 := by
  subst ho
  exact (below_drewN (below_new U ob) 1).trans (hb.mono (by show U.heap.size ≤ (U.alloc ob).heap.size; simp))
/-- what is left, from a quotient that may be one too small -/
theorem rest_flat {n1 n2 : Bool} {N D : Int} {n d p m : Nat} (hN : N = if n1 then -(n : Int) else n) (hD : D = if n2 then -(d : Int) else d) (hk : d * p + m = n) (hm : m < d) (hx : n1 = true → m = 0) : N - (if (n1 != n2) then -(p : Int) else p) * D = m := by
  obtain ⟨h1, h2⟩ := quo_flat n1 n2 hN hD hk hm hx
  rw [← h1, ← h2, Int.mul_comm]
  have := Int.mul_ediv_add_emod N D
  omega
theorem rest_up {n2 : Bool} {N D : Int} {n d p m : Nat} (hN : N = -(n : Int)) (hD : D = if n2 then -(d : Int) else d) (hk : d * p + m = n) : N - (if (true != n2) then -(p : Int) else p) * D = -(m : Int) := by
  have hk' : (d : Int) * p + m = n := by exact_mod_cast hk
  subst hN hD
  cases n2
  · show -(n : Int) - -(p : Int) * (d : Int) = -(m : Int)
    rw [Int.neg_mul, Int.mul_comm (p : Int)]; omega
  · show -(n : Int) - (p : Int) * -(d : Int) = -(m : Int)
    rw [Int.mul_neg, Int.mul_comm (p : Int)]; omega
theorem rest_last {N D : Int} : N - N / D * D = N % D := by
  have := Int.mul_ediv_add_emod N D
  rw [Int.mul_comm] at this
  omega

set_option maxRecDepth 100000 in
set_option maxHeartbeats 6400000 in
theorem ref2_Div (n1 n2 : Bool) (a b : List Nat) (A A' : Option Addr) (ca cb : Nat) (w : World) (h : Rd w (fun g => g < w.heap.size) .u32 A a) (h' : Rd w (fun g => g < w.heap.size) .u32 A' b) (hl : a.length ≤ 33554432) (hl' : b.length ≤ 33554432) (ha : Dg 4294967296 a) (hb : Dg 4294967296 b) :
    Calls Try.prog 86 #[.agg #[.bool n1, .slice A a.length ca], .agg #[.bool n2, .slice A' b.length cb]] w (GivesWQR (wv n1 a) (wv n2 b) w) := by
  have xa := wv_abs n1 a
  have xb := wv_abs n2 b
  have F0 := Four.new w n1 n2 (.slice A a.length ca) (.slice A' b.length cb)
  have B0 : Below w.heap.size w ((((w.alloc (.cells #[.bool n1, .slice A a.length ca] 79)).alloc (.cells #[.bool n2, .slice A' b.length cb] 79)).alloc (.cells #[.bool false, .slice none 0 0] 79)).alloc (.cells #[.bool false, .slice none 0 0] 79)) :=
    (below_new3 _ _ _ _).trans ((below_new _ _).mono (by simp; omega))
  have cG := ref2_Sign n2 b A' cb _ (h'.on B0) (by omega) hb
  obtain ⟨n, hn⟩ : ∃ n, val 4294967296 a = n := ⟨_, rfl⟩
  obtain ⟨d, hd⟩ : ∃ d, val 4294967296 b = d := ⟨_, rfl⟩
  obtain ⟨N, hN⟩ : ∃ N, wv n1 a = N := ⟨_, rfl⟩
  obtain ⟨D, hD⟩ : ∃ D, wv n2 b = D := ⟨_, rfl⟩
  rw [hN, hn] at xa
  rw [hD, hd] at xb
  rw [hD] at cG
  rw [hN, hD]
  have HNa := Lib.hid hN
  have HDb := Lib.hid hD
  have HVb := Lib.hid hd
  have HVa := Lib.hid hn
  have HN := Lib.hid (show N = if n1 then -(n : Int) else n by rw [← hN, ← hn]; rfl)
  have HD := Lib.hid (show D = if n2 then -(d : Int) else d by rw [← hD, ← hd]; rfl)
  clear hN hD hn hd
  by_cases hz : d = 0
  · subst hz
    obtain rfl : D = 0 := by omega
    rw [show sgn 0 = 0 from rfl] at cG
    clear xa xb
    go_enter Try.func86, Try.ntmps86
    go_wp2_with fail
    refine cG.mono ?_
    rintro e w1 ⟨rfl, b1⟩
    have B1 := B0.trans (b1.mono B0.size)
    have F1 := F0.on b1
    obtain ⟨⟨p0, p1, p2, p3⟩, q0, q1, q2, q3⟩ := F1.place
    clear cG
    go_wp2_with fail
    obtain ⟨W', hW', r0, r1, r2, r3, r4, r5⟩ := F1.stored (.bool false) (.slice none 0 0) (.bool false) (.slice none 0 0)
    rw [hW']
    exact bodyPost_ret (v := .tuple #[.agg #[.bool false, .slice none 0 0], .agg #[.bool false, .slice none 0 0], .bool false]) (by simp [results, Try.results86, go_sem, r0, r1, r2, r3]) rfl
      ⟨none, [], 0, none, [], 0, by simp, by simp, by simp, norm_nil _, norm_nil _, by simp [val], by simp [val], Rd.nil, Rd.nil, B1.trans (r4 _ (Nat.le_refl _))⟩
  · have hdp : 0 < d := by omega
    have hz1 : sgn D = -1 ∨ sgn D = 1 := by
      unfold sgn
      by_cases hneg : D < 0
      · rw [if_pos hneg]; exact .inl rfl
      · rw [if_neg hneg, if_pos (by omega)]; exact .inr rfl
    obtain ⟨z, hzz⟩ : ∃ z, sgn D = z := ⟨_, rfl⟩
    rw [hzz] at cG hz1
    have hzn : ¬ z = 0 := by omega
    have HDP := Lib.hid hdp
    have HZ := Lib.hid (show D ≠ 0 by omega)
    clear hzz hz1 hz hdp xa xb
    go_enter Try.func86, Try.ntmps86
    go_wp2_with fail
    refine cG.mono ?_
    rintro e w1 ⟨rfl, b1⟩
    have B1 := B0.trans (b1.mono B0.size)
    have F1 := F0.on b1
    clear cG F0
    obtain ⟨k1, k2, k3, k4⟩ := F1.boxes
    have cD := ref_Div a b A A' ca cb _ _ w1 (h.on B1) (h'.on B1) (fun g hg => hg) (fun g hg => hg) (by omega) (by omega) ha hb
    unfold GivesQR at cD
    rw [HVa.out, HVb.out, decide_eq_true HDP.out] at cD
    go_wp2_with fail
    refine cD.mono ?_
    rintro e w2 ⟨A1, q, c1, A2, r, c2, rfl, hc1, -, hn1, -, hv1, -, hr1, -, b2⟩
    have B2 := B1.trans (b2.mono B1.size)
    have F2 := F1.on b2
    have HN1 := Lib.hid hn1
    have HV1 := Lib.hid hv1
    have hl1 : q.length ≤ 33554432 := Nat.le_trans (len_le (b := 4294967296) (by omega) HN1.out.2 ha (by rw [HV1.out, HVa.out]; exact Nat.div_le_self _ _)) hl
    clear hn1 hv1 cD k1 k2 k3 k4 F1
    obtain ⟨k1, k2, k3, k4⟩ := F2.boxes
    obtain ⟨X, hX⟩ : ∃ X : Int, (if (n1 != n2) then -((n / d : Nat) : Int) else ((n / d : Nat) : Int)) = X := ⟨_, rfl⟩
    have HX := Lib.hid hX
    clear hX
    go_wp2_with fail
    refine (ref2_Make _ q A1 c1 X _ hr1 (by omega) HN1.out.1 (by rw [wv, HV1.out, ← HX.out]; cases n1 <;> cases n2 <;> rfl)).mono ?_
    rintro e w3 ⟨A3, x, c3, rfl, hc3, hn3, hv3, hr3, b3⟩
    have B3 := B2.trans (b3.mono B2.size)
    have F3 := F2.on b3
    have HN3 := Lib.hid hn3
    have HV3 := Lib.hid hv3
    obtain ⟨dx, hdx⟩ : ∃ dx, decide (X < 0) = dx := ⟨_, rfl⟩
    rw [hdx]
    have HDX := Lib.hid hdx
    have hl3 : x.length ≤ 33554432 := Nat.le_trans (len_abs HN3.out ha HV3.out (by rw [← HX.out, HVa.out]; have := Nat.div_le_self n d; split <;> first | (rw [Int.natAbs_neg, Int.natAbs_natCast]; exact this) | (rw [Int.natAbs_natCast]; exact this))) hl
    have F2' := Lib.hid F3.2.2.2.2
    clear hn3 hv3 hdx k1 k2 k3 k4 F2
    go_wp2_with fail
    have b34 := below_new w3 (.cells #[.bool dx, .slice A3 x.length c3] 79)
    have B4 := B3.trans (b34.mono B3.size)
    have F4 := F3.on b34
    have hr4 := hr3.on b34
    have hr1 := (hr1.on b3).on b34
    have e10 := heap_alloc_new w3 (.cells #[.bool dx, .slice A3 x.length c3] 79)
    have s4 : w3.heap.size < (w3.alloc (.cells #[.bool dx, .slice A3 x.length c3] 79)).heap.size := by simp
    clear F3 b34 hr3
    obtain ⟨V, hV⟩ : ∃ V, w3.alloc (.cells #[.bool dx, .slice A3 x.length c3] 79) = V := ⟨_, rfl⟩
    rw [hV] at B4 F4 hr4 hr1 e10 s4 ⊢
    clear hV
    obtain ⟨g10, hg10⟩ : ∃ g, w3.heap.size = g := ⟨_, rfl⟩
    have s10 : w.heap.size + 4 ≤ g10 := by
      rw [← hg10]; exact F2'.out
    rw [hg10] at e10 s4 ⊢
    clear hg10
    obtain ⟨P, hP⟩ : ∃ P, X * D = P := ⟨_, rfl⟩
    obtain ⟨R1, hR1⟩ : ∃ R, N - P = R := ⟨_, rfl⟩
    obtain ⟨m, hm1, hm2⟩ : ∃ m, 67108864 ≤ m ∧ m ≤ 67108864 := ⟨67108864, Nat.le_refl _, Nat.le_refl _⟩
    have hdw : wv dx x = X := by rw [← HDX.out]; exact wv_dec HV3.out
    have cM := fun (U : World) (hU : Below V.heap.size V.drew U) => (ref2_Mul dx n2 x b A3 A' c3 cb U (hr4.on ((below_drewN (Below.refl _ _) 1).trans hU)) ((h'.on B4).on ((below_drewN (Below.refl _ _) 1).trans hU)) (by omega) (by omega) HN3.out.1 hb).mono (fun e w' hg => lim (m := m) (lim_prod dx n2 HN3.out.1 hb (by omega)) hg)
    rw [hdw, HDb.out, hP] at cM
    have cS : ∀ (U : World), Below V.heap.size V.drew U → ∀ (y : List Nat) (Ay : Option Addr) (cy : Nat), Rd U (fun g => g < U.heap.size) .u32 Ay y → y.length ≤ m → Norm 4294967296 y → val 4294967296 y = P.natAbs → Calls Try.prog 89 #[.agg #[.bool n1, .slice A a.length ca], .agg #[.bool (decide (P < 0)), .slice Ay y.length cy]] U (GivesW R1 U) := fun U hU y Ay cy hry hly hny hvy => by
      have := ref2_Sub n1 (decide (P < 0)) a y A Ay ca cy U ((h.on B4).on ((below_drewN (Below.refl _ _) 1).trans hU)) hry (by omega) (by omega) ha hny.1
      rwa [wv_dec hvy, HNa.out, hR1] at this
    have CM := Lib.hid cM
    have CS := Lib.hid cS
    have HR1 := Lib.hid (show N - X * D = R1 by rw [hP, hR1])
    clear cM cS hP hR1 hdw
    obtain ⟨k1, k2, k3, k4⟩ := F4.boxes
    obtain ⟨k5, k6, k7, k8⟩ := cells_of e10
    have s2 : w.heap.size + 2 ≤ V.heap.size := by omega
    go_cut [11] from 33 (fun v11 wc => ∃ g11 A r c, v11 = .pointer (some ⟨g11, 0, none⟩) ∧ V.heap.size ≤ g11 ∧ wc.heap[g11]? = some (.cells #[.bool (decide (R1 < 0)), .slice A r.length c] 79 (0, 0)) ∧ r.length ≤ c ∧ Norm 4294967296 r ∧ val 4294967296 r = R1.natAbs ∧ Rd wc (fun g => g < wc.heap.size) .u32 A r ∧ Below V.heap.size V wc)
    case first =>
      go_region_held3 (fun w' => w'.cell? ⟨w.heap.size, 0, none⟩ = some (.bool n1) ∧ w'.cell? ⟨w.heap.size, 1, none⟩ = some (.slice A a.length ca) ∧ w'.cell? ⟨w.heap.size + 1, 0, none⟩ = some (.bool n2) ∧ w'.cell? ⟨w.heap.size + 1, 1, none⟩ = some (.slice A' b.length cb) ∧ w'.cell? ⟨g10, 0, none⟩ = some (.bool dx) ∧ w'.cell? ⟨g10, 1, none⟩ = some (.slice A3 x.length c3))
        (first | exact keep6 (V := V.drew) k1 k2 k3 k4 k5 k6 s2 s4 X5 | exact keep6 (V := V.drew) k1 k2 k3 k4 k5 k6 s2 s4 X6 | (refine keep6 (V := V.drew) k1 k2 k3 k4 k5 k6 s2 s4 ?_; (repeat (first | refine Below.setCell ?_ (by first | exact Nat.le_refl _ | (dsimp only; omega)) _ | refine Below.alloc ?_ (by repeat (first | omega | refine size_alloc_ok ?_ _ | refine size_set_ok ?_ _ _)) _)); first | exact X6 | exact X5 | exact Below.refl _ _) | go_keep)
        ((first
          | (go_at_call 67; (with_reducible refine Calls.mono (CM.out _ ?_) ?_) <;> first
              | exact Below.refl _ _
              | exact below_new V.drew _
              | (rintro e w5 ⟨A5, y, c5, rfl, hc5, hl5, hn5, hv5, hr5, b5⟩; (first | (guard_hyp b5 : Below V.drew.heap.size V.drew w5; obtain ⟨X5, s5⟩ := seen0d b5) | (obtain ⟨⟨X5, s5⟩, p5⟩ := seen1d b5; obtain ⟨q5, q6, q7, q8⟩ := cells_of p5))))
          | (go_at_call 89; (with_reducible refine Calls.mono (CS.out _ ?_ y A5 c5 ?_ hl5 hn5 hv5) ?_) <;> first
              | exact X5
              | exact X5.alloc X5.size _
              | exact hr5
              | exact hr5.on (below_new _ _)
              | (rintro e w6 ⟨A6, r6, c6, rfl, hc6, hn6, hv6, hr6, b6⟩; (first | (guard_hyp b6 : Below w5.heap.size w5 w6; obtain ⟨X56, s6⟩ := seen0 (W := w5) b6) | (obtain ⟨⟨X56, s6⟩, p6⟩ := seen1 (W := w5) b6; obtain ⟨u5, u6, u7, u8⟩ := cells_of p6)); have X6 : Below V.heap.size V.drew w6 := X5.trans (X56.mono X5.size); have z6 := X6.size; (try (have p7 := (X56.block _ s5).trans p5; obtain ⟨u1, u2, u3, u4⟩ := cells_of p7))))))
      all_goals
        have X7 : Below V.heap.size V w6 := (below_drewN (Below.refl _ _) 1).trans X6
        have X8 := Lib.hid X7
        clear CM CS X5 X6 X7 X56 b5 b6
        go_wp2_with fail
        go_meet
        first
          | exact ⟨_, A6, r6, c6, rfl, z6, heap_alloc_new _ _, hc6, hn6, hv6, hr6.on (below_new _ _), X8.out.alloc X8.out.size _⟩
          | exact ⟨_, A6, r6, c6, rfl, s5, (stored_whole p6 _ _).2.2.1, hc6, hn6, hv6, hr6.stored p6 _ _, X8.out.trans ((stored_whole p6 _ _).2.2.2 _ s5)⟩
          | exact ⟨_, A6, r6, c6, rfl, Nat.le_refl _, (stored_whole p7 _ _).2.2.1, hc6, hn6, hv6, hr6.stored p7 _ _, X8.out.trans ((stored_whole p7 _ _).2.2.2 _ (Nat.le_refl _))⟩
    case rest =>
      obtain ⟨g11, A6, r6, c6, rfl, hg11, e11, hc6, hn6, hv6, hr6, b5⟩ := hcut
      have B5 := B4.trans (b5.mono B4.size)
      have F5 := F4.on b5
      have e10' := (b5.block g10 s4).trans e10
      have HN6 := Lib.hid hn6
      have HV6 := Lib.hid hv6
      clear hn6 hv6 CM CS k1 k2 k3 k4 k5 k6 k7 k8 e10
      obtain ⟨dr, hdr⟩ : ∃ dr, decide (R1 < 0) = dr := ⟨_, rfl⟩
      rw [hdr] at e11
      have HDR := Lib.hid hdr
      clear hdr
      have s11 : g11 < wc.heap.size := by
        rcases Nat.lt_or_ge g11 wc.heap.size with hh | hh
        · exact hh
        · rw [Array.getElem?_eq_none hh] at e11; cases e11
      by_cases hbr : n1 = true ∧ 0 < n % d
      · obtain ⟨rfl, hr0⟩ := hbr
        have hR := rest_up (n2 := n2) HN.out HD.out (Nat.div_add_mod n d)
        have hQ := quo_up n2 HN.out HD.out (Nat.div_add_mod n d) hr0 (Nat.mod_lt _ HDP.out)
        rw [HX.out] at hR
        rw [HR1.out] at hR
        have HQ := Lib.hid hQ
        have HR := Lib.hid hR
        have hl6 : r6.length ≤ 33554432 := Nat.le_trans (len_abs HN6.out ha HV6.out (by rw [HR.out, HVa.out, Int.natAbs_neg, Int.natAbs_natCast]; exact Nat.mod_le _ _)) hl
        have cG := ref2_Sign dr r6 A6 c6 wc hr6 (by omega) HN6.out.1
        rw [show wv dr r6 = R1 by rw [← HDR.out]; exact wv_dec HV6.out] at cG
        rw [show sgn R1 = -1 by unfold sgn; rw [if_pos (by rw [hR]; omega)]] at cG
        clear hQ hR hr0
        obtain ⟨k1, k2, k3, k4⟩ := cells_of e11
        go_wp2_with fail
        refine cG.mono ?_
        rintro e w7 ⟨rfl, b7⟩
        have B7 := B5.trans (b7.mono B5.size)
        have F7 := F5.on b7
        have i10 := (b7.block g10 (Nat.lt_of_lt_of_le s4 b5.size)).trans e10'
        have i11 := (b7.block g11 s11).trans e11
        have hr1' := (hr1.on b5).on b7
        have L7 : w.heap.size + 4 ≤ w7.heap.size := F7.2.2.2.2
        have t10 : g10 < w7.heap.size := Nat.lt_of_lt_of_le s4 (Nat.le_trans b5.size b7.size)
        have t11 : g11 < w7.heap.size := Nat.lt_of_lt_of_le s11 b7.size
        clear cG k1 k2 k3 k4 e10' e11 F5 F4
        have CA := Lib.hid (fun (U : World) (hU : Below w7.heap.size w7 U) (hR : Row U w7.heap.size 77 .u32 [1]) => ref_add q [1] A1 (some ⟨w7.heap.size, 0, none⟩) c1 1 _ _ U (hr1'.on hU) (hR.rd_all (S := fun b => b < U.heap.size) hR.lt) (fun g hg => hg) (fun g hg => hg) (by omega) (by simp) HN1.out.1 (by simp [Dg]))
        obtain ⟨k1, k2, k3, k4⟩ := F7.boxes
        have K0 : Below w7.heap.size w7 w7.drew := below_drewN (Below.refl _ _) 1
        have K1 : Below w7.heap.size w7 (w7.alloc (.cells #[.int .u32 1] 77)).drew := below_drewN (below_new _ _) 1
        have s2' : w.heap.size + 2 ≤ w7.heap.size := by omega
        go_wp2_with fail
        go_region_held3 (fun w' => w'.cell? ⟨w.heap.size, 0, none⟩ = some (.bool true) ∧ w'.cell? ⟨w.heap.size + 1, 0, none⟩ = some (.bool n2))
          (first | with_reducible exact keep2 k1 k3 s2' K0 | with_reducible exact keep2 k1 k3 s2' K1 | with_reducible exact keep2 k1 k3 s2' X8 | with_reducible exact keep2 k1 k3 s2' X9 | with_reducible exact keep2 k1 k3 s2'' ((X9.mono t10').trans ((stored_whole f10 _ _).2.2.2 _ (Nat.le_refl _))) | go_keep)
          ((first
            | (go_at_call 60; (with_reducible refine Calls.mono (CA.out _ K1 ?_) ?_) <;> first
                | exact row_drew (row_one w7 _ 1)
                | (rintro e w8 ⟨A8, s, c8, rfl, hc8, hn8, hv8, hr8, b8⟩; have X8 : Below w7.heap.size w7 w8 := next_drew rfl b8; obtain ⟨hd8, ht8⟩ := hn8))
            | (go_at_call 84; (with_reducible refine Calls.mono (ref2_Make _ s A8 c8 (N / D) _ hr8 ?_ hd8 ?_) ?_) <;> first
                | exact Nat.le_trans (len_add (b := 4294967296) (n := 33554432) (by omega) ht8 HN1.out.1 (by simp [Dg]) hv8 hl1 (by simp)) (by omega)
                | (rw [HQ.out.1, wv, hv8, HV1.out]; cases n2 <;> rfl)
                | (rintro e w9 ⟨A9, x9, c9, rfl, hc9, hn9, hv9, hr9, b9⟩; have X9 : Below w7.heap.size w7 w9 := X8.trans (b9.mono X8.size); have f10 := (X9.block g10 t10).trans i10; obtain ⟨u1, u2, u3, u4⟩ := cells_of f10; have s2'' : w.heap.size + 2 ≤ g10 := (by omega); have t10' : g10 ≤ w7.heap.size := Nat.le_of_lt t10))))
        have HN9 := Lib.hid hn9
        have HV9 := Lib.hid hv9
        obtain ⟨dq, hdq⟩ : ∃ dq, decide (N / D < 0) = dq := ⟨_, rfl⟩
        rw [hdq]
        have HDQ := Lib.hid hdq
        have hl9 : x9.length ≤ 33554433 := by
          refine HN9.out.2.length_le (b := 4294967296) (by omega) ?_
          rw [HV9.out, HQ.out.1]
          obtain ⟨L, hL⟩ : ∃ L, L = 33554432 := ⟨_, rfl⟩
          rw [← hL] at hl
          have k := val_lt_pow ha (by omega) hl
          rw [HVa.out] at k
          have k2 : n / d ≤ n := Nat.div_le_self _ _
          have e : ((if (true != n2) = true then -((n / d + 1 : Nat) : Int) else ((n / d + 1 : Nat) : Int)).natAbs) = n / d + 1 := by split <;> first | rw [Int.natAbs_neg, Int.natAbs_natCast] | rw [Int.natAbs_natCast]
          rw [e, show 33554433 = L + 1 by omega, Nat.pow_succ]
          omega
        have B9 := B7.trans (X9.mono B7.size)
        have F9 := F7.on X9
        have g9 := (X9.block g11 t11).trans i11
        have L9 : w7.heap.size ≤ w9.heap.size := X9.size
        clear hd8 ht8 hv8 hn9 hv9 hdq X8 X9 K0 K1 CA b8 b9 k1 k2 k3 k4 F7 i10 i11 u1 u2 u3 u4 hr1 hr1'
        obtain ⟨W9, hW9⟩ : ∃ W9, (w9.setCell ⟨g10, 0, none⟩ (.bool dq)).setCell ⟨g10, 1, none⟩ (.slice A9 x9.length c9) = W9 := ⟨_, rfl⟩
        have i10 := (stored_whole f10 (.bool dq) (.slice A9 x9.length c9)).2.2.1
        have q9 := (stored_whole f10 (.bool dq) (.slice A9 x9.length c9)).2.2.2
        have hr9' := hr9.stored f10 (.bool dq) (.slice A9 x9.length c9)
        have i11 := (heap_two (w := w9) (k := g11) (s := g10) (by omega) (.bool dq) (.slice A9 x9.length c9)).trans g9
        rw [hW9] at i10 q9 hr9' i11 ⊢
        have F10 := F9.on_low s10 (q9 g10 (Nat.le_refl _))
        have B10 := B9.trans (q9 _ (by omega))
        have ta10 : g10 < W9.heap.size := Nat.lt_of_lt_of_le (Nat.lt_of_lt_of_le t10 L9) (q9 g10 (Nat.le_refl _)).size
        have ta11 : g11 < W9.heap.size := Nat.lt_of_lt_of_le (Nat.lt_of_lt_of_le t11 L9) (q9 g10 (Nat.le_refl _)).size
        clear hW9 q9 F9 B9 f10 g9 hr9
        obtain ⟨P2, hP2⟩ : ∃ P, N / D * D = P := ⟨_, rfl⟩
        have hR2 : N - P2 = N % D := by rw [← hP2]; exact rest_last
        have hdw : wv dq x9 = N / D := by rw [← HDQ.out]; exact wv_dec HV9.out
        have cM := fun (U : World) (hU : Below W9.heap.size W9.drew U) => (ref2_Mul dq n2 x9 b A9 A' c9 cb U (hr9'.on ((below_drewN (Below.refl _ _) 1).trans hU)) ((h'.on B10).on ((below_drewN (Below.refl _ _) 1).trans hU)) (by omega) (by omega) HN9.out.1 hb).mono (fun e w' hg => lim (m := m + 1) (lim_prod dq n2 HN9.out.1 hb (by omega)) hg)
        rw [hdw, HDb.out, hP2] at cM
        have cS : ∀ (U : World), Below W9.heap.size W9.drew U → ∀ (y : List Nat) (Ay : Option Addr) (cy : Nat), Rd U (fun g => g < U.heap.size) .u32 Ay y → y.length ≤ m + 1 → Norm 4294967296 y → val 4294967296 y = P2.natAbs → Calls Try.prog 89 #[.agg #[.bool true, .slice A a.length ca], .agg #[.bool (decide (P2 < 0)), .slice Ay y.length cy]] U (GivesW (N % D) U) := fun U hU y Ay cy hry hly hny hvy => by
          have := ref2_Sub true (decide (P2 < 0)) a y A Ay ca cy U ((h.on B10).on ((below_drewN (Below.refl _ _) 1).trans hU)) hry (by omega) (by omega) ha hny.1
          rwa [wv_dec hvy, HNa.out, hR2] at this
        have CM := Lib.hid cM
        have CS := Lib.hid cS
        clear cM cS hP2 hR2 hdw
        have K10 : Below W9.heap.size W9.drew W9.drew := Below.refl _ _
        obtain ⟨k1, k2, k3, k4⟩ := F10.boxes
        obtain ⟨k5, k6, k7, k8⟩ := cells_of i10
        have s2 : w.heap.size + 2 ≤ W9.heap.size := by omega
        go_wp2_with fail
        go_region_held3 (fun w' => w'.cell? ⟨w.heap.size, 0, none⟩ = some (.bool true) ∧ w'.cell? ⟨w.heap.size, 1, none⟩ = some (.slice A a.length ca) ∧ w'.cell? ⟨w.heap.size + 1, 0, none⟩ = some (.bool n2) ∧ w'.cell? ⟨w.heap.size + 1, 1, none⟩ = some (.slice A' b.length cb) ∧ w'.cell? ⟨g10, 0, none⟩ = some (.bool dq) ∧ w'.cell? ⟨g10, 1, none⟩ = some (.slice A9 x9.length c9))
          (first | exact keep6 (V := W9.drew) k1 k2 k3 k4 k5 k6 s2 ta10 K10 | exact keep6 (V := W9.drew) k1 k2 k3 k4 k5 k6 s2 ta10 K11 | exact keep6 (V := W9.drew) k1 k2 k3 k4 k5 k6 s2 ta10 K12 | exact keep6 (V := W9.drew) k1 k2 k3 k4 k5 k6 sb2 t1011 ((K12.mono tb11).trans ((stored_whole f11 _ _).2.2.2 _ (Nat.le_refl _))) | go_keep)
          ((first
            | (go_at_call 67; (with_reducible refine Calls.mono (CM.out _ K10) ?_); rintro e w11 ⟨A11, y, c11, rfl, hc11, hl11, hn11, hv11, hr11, b11⟩; have K11 := next K10 (Nat.le_refl _) b11)
            | (go_at_call 89; (with_reducible refine Calls.mono (CS.out _ K11 y A11 c11 hr11 hl11 hn11 hv11) ?_); rintro e w12 ⟨A12, r12, c12, rfl, hc12, hn12, hv12, hr12, b12⟩; have K12 := next K11 (Nat.le_refl _) b12; have f11 := (K12.block g11 ta11).trans i11; obtain ⟨u1, u2, u3, u4⟩ := cells_of f11; have sb2 : w.heap.size + 2 ≤ g11 := (by omega); have tb11 : g11 ≤ W9.heap.size := Nat.le_of_lt ta11; have t1011 : g10 < g11 := (by omega))))
        have hE : decide (N % D < 0) = false := by rw [HQ.out.2]; exact decide_eq_false (by omega)
        rw [hE]
        have HN12 := Lib.hid hn12
        have HV12 := Lib.hid hv12
        have J : Below W9.heap.size W9 w12 := (below_drewN (Below.refl _ _) 1).trans K12
        have F12 := F10.on J
        have B12 := B10.trans (J.mono B10.size)
        have j10 := (J.block g10 ta10).trans i10
        have hrq := hr9'.on J
        have hlow : w.heap.size + 4 ≤ g11 := by omega
        clear hE hn12 hv12 J K10 K11 K12 B10 F10 hr9' i10 i11 k1 k2 k3 k4 k5 k6 k7 k8 u1 u2 u3 u4 CM CS hv11 hn11 b11 b12 B7
        obtain ⟨W12, hW12⟩ : ∃ W12, (w12.setCell ⟨g11, 0, none⟩ (.bool false)).setCell ⟨g11, 1, none⟩ (.slice A12 r12.length c12) = W12 := ⟨_, rfl⟩
        have i11 := (stored_whole f11 (.bool false) (.slice A12 r12.length c12)).2.2.1
        have q12 := (stored_whole f11 (.bool false) (.slice A12 r12.length c12)).2.2.2
        have hrX := hrq.stored f11 (.bool false) (.slice A12 r12.length c12)
        have hrR := hr12.stored f11 (.bool false) (.slice A12 r12.length c12)
        have i10 := (heap_two (w := w12) (k := g10) (s := g11) (by omega) (.bool false) (.slice A12 r12.length c12)).trans j10
        rw [hW12] at i10 q12 hrX hrR i11 ⊢
        have F7 := F12.on_low hlow (q12 g11 (Nat.le_refl _))
        have B7 := B12.trans (q12 _ (by omega))
        clear hW12 q12 F12 B12 f11 j10 hrq

        obtain ⟨k1, k2, k3, k4⟩ := cells_of i10
        obtain ⟨k5, k6, k7, k8⟩ := cells_of i11
        obtain ⟨⟨p0, p1, p2, p3⟩, q0, q1, q2, q3⟩ := F7.place
        have ne1 : ¬ g10 = w.heap.size + 1 + 1 := by omega
        have ne2 : ¬ g10 = w.heap.size + 1 + 1 + 1 := by omega
        have ne3 : ¬ g11 = w.heap.size + 1 + 1 := by omega
        have ne4 : ¬ g11 = w.heap.size + 1 + 1 + 1 := by omega
        go_wp2_with fail
        go_region_held3 (fun w' => w'.cell? ⟨g10, 0, none⟩ = some (.bool dq) ∧ w'.cell? ⟨g10, 1, none⟩ = some (.slice A9 x9.length c9) ∧ w'.cell? ⟨g11, 0, none⟩ = some (.bool false) ∧ w'.cell? ⟨g11, 1, none⟩ = some (.slice A12 r12.length c12))
          (first | with_reducible exact far0 i10 i11 | with_reducible exact far1 ne1 ne3 _ _ i10 i11 | with_reducible exact far2 ne1 ne3 ne2 ne4 _ _ _ _ i10 i11 | go_keep) ((fail))
        obtain ⟨W', hW', r0, r1, r2, r3, r4, r5⟩ := F7.stored (.bool dq) (.slice A9 x9.length c9) (.bool false) (.slice A12 r12.length c12)
        rw [hW']
        clear hW'
        have HB7 := Lib.hid (B7.trans (r4 _ (Nat.le_refl _)))
        have HRX := Lib.hid (r5 _ _ _ (hrX))
        have HRR := Lib.hid (r5 _ _ _ (hrR))
        clear r4 r5 k1 k2 k3 k4 k5 k6 k7 k8 p0 p1 p2 p3 q0 q1 q2 q3 i10 i11
        go_wp2_with fail
        exact bodyPost_ret (v := .tuple #[.agg #[.bool dq, .slice A9 x9.length c9], .agg #[.bool false, .slice A12 r12.length c12], .bool true]) (by simp [results, Try.results86, go_sem, r0, r1, r2, r3]) rfl
          ⟨A9, x9, c9, A12, r12, c12, by rw [HDQ.out, decide_eq_true HZ.out], hc9, hc12, HN9.out, HN12.out, HV9.out, by rw [if_neg HZ.out]; exact HV12.out,
            HRX.out, HRR.out, below_drewN HB7.out 1⟩
      · have hx : n1 = true → n % d = 0 := fun h1 => by
          rcases Nat.eq_zero_or_pos (n % d) with h0 | h0
          · exact h0
          · exact absurd ⟨h1, h0⟩ hbr
        have hR := rest_flat HN.out HD.out (Nat.div_add_mod n d) (Nat.mod_lt _ HDP.out) hx
        have hQ := quo_flat n1 n2 HN.out HD.out (Nat.div_add_mod n d) (Nat.mod_lt _ HDP.out) hx
        rw [HX.out] at hR hQ
        rw [HR1.out] at hR
        have HQ := Lib.hid hQ
        have HR := Lib.hid hR
        have hl6 : r6.length ≤ 33554432 := Nat.le_trans (len_abs HN6.out ha HV6.out (by rw [HR.out, HVa.out, Int.natAbs_natCast]; exact Nat.mod_le _ _)) hl
        have cG := ref2_Sign dr r6 A6 c6 wc hr6 (by omega) HN6.out.1
        rw [show wv dr r6 = R1 by rw [← HDR.out]; exact wv_dec HV6.out] at cG
        obtain ⟨z, hz, hz0⟩ : ∃ z, sgn R1 = z ∧ 0 ≤ z := ⟨_, rfl, by unfold sgn; rw [if_neg (by rw [hR]; omega)]; split <;> omega⟩
        rw [hz] at cG
        obtain rfl : dr = false := by rw [← HDR.out, HR.out]; exact decide_eq_false (by omega)
        have HDQ := Lib.hid (show decide (N / D < 0) = dx by rw [HQ.out.1]; exact HDX.out)
        have HV3' := Lib.hid (show val 4294967296 x = (N / D).natAbs by rw [HQ.out.1]; exact HV3.out)
        have HV6' := Lib.hid (show val 4294967296 r6 = (N % D).natAbs by rw [HQ.out.2, HV6.out, HR.out])
        clear hx hbr hQ hR hz
        obtain ⟨k1, k2, k3, k4⟩ := cells_of e11
        go_wp2_with fail
        refine cG.mono ?_
        rintro e w7 ⟨rfl, b7⟩
        have B7 := B5.trans (b7.mono B5.size)
        have F7 := F5.on b7
        have hr7 := hr6.on b7
        have hr4' := (hr4.on b5).on b7
        have i10 := (b7.block g10 (Nat.lt_of_lt_of_le s4 b5.size)).trans e10'
        have i11 := (b7.block g11 s11).trans e11
        clear cG k1 k2 k3 k4 e10' e11 F5 F4

        obtain ⟨k1, k2, k3, k4⟩ := cells_of i10
        obtain ⟨k5, k6, k7, k8⟩ := cells_of i11
        obtain ⟨⟨p0, p1, p2, p3⟩, q0, q1, q2, q3⟩ := F7.place
        have ne1 : ¬ g10 = w.heap.size + 1 + 1 := by omega
        have ne2 : ¬ g10 = w.heap.size + 1 + 1 + 1 := by omega
        have ne3 : ¬ g11 = w.heap.size + 1 + 1 := by omega
        have ne4 : ¬ g11 = w.heap.size + 1 + 1 + 1 := by omega
        go_wp2_with fail
        go_region_held3 (fun w' => w'.cell? ⟨g10, 0, none⟩ = some (.bool dx) ∧ w'.cell? ⟨g10, 1, none⟩ = some (.slice A3 x.length c3) ∧ w'.cell? ⟨g11, 0, none⟩ = some (.bool false) ∧ w'.cell? ⟨g11, 1, none⟩ = some (.slice A6 r6.length c6))
          (first | with_reducible exact far0 i10 i11 | with_reducible exact far1 ne1 ne3 _ _ i10 i11 | with_reducible exact far2 ne1 ne3 ne2 ne4 _ _ _ _ i10 i11 | go_keep) ((fail))
        obtain ⟨W', hW', r0, r1, r2, r3, r4, r5⟩ := F7.stored (.bool dx) (.slice A3 x.length c3) (.bool false) (.slice A6 r6.length c6)
        rw [hW']
        clear hW'
        have HB7 := Lib.hid (B7.trans (r4 _ (Nat.le_refl _)))
        have HRX := Lib.hid (r5 _ _ _ (hr4'))
        have HRR := Lib.hid (r5 _ _ _ (hr7))
        clear r4 r5 k1 k2 k3 k4 k5 k6 k7 k8 p0 p1 p2 p3 q0 q1 q2 q3 i10 i11
        go_wp2_with fail
        exact bodyPost_ret (v := .tuple #[.agg #[.bool dx, .slice A3 x.length c3], .agg #[.bool false, .slice A6 r6.length c6], .bool true]) (by simp [results, Try.results86, go_sem, r0, r1, r2, r3]) rfl
          ⟨A3, x, c3, A6, r6, c6, by rw [HDQ.out, decide_eq_true HZ.out], hc3, hc6, HN3.out, HN6.out, HV3'.out, by rw [if_neg HZ.out]; exact HV6'.out,
            HRX.out, HRR.out, below_drewN HB7.out 1⟩
end Go.Proofs.Ytkebffkekinblaa
/- Whole numbers, the document's own: what Of answers. -/

namespace Go.Proofs.Ytkebffkekinblaa
open Go.RowKit Num

set_option maxRecDepth 10000 in
set_option maxHeartbeats 1600000 in
theorem ref2_Of (n : Int) (hn1 : -9223372036854775808 ≤ n) (hn2 : n ≤ 9223372036854775807) (w : World) :
    Calls Try.prog 69 #[.int .i64 n] w (GivesW n w) := by
  by_cases hneg : n < 0
  · obtain ⟨m, rfl⟩ : ∃ m : Nat, n = -1 - (m : Int) := ⟨(-1 - n).toNat, by omega⟩
    have hm : m < 9223372036854775808 := by omega
    have hw : IntKind.u64.wrap (-1 - (-1 - (m : Int))) = m := IntWalk.u64_in _ (by omega) |>.trans (by omega)
    go_enter Try.func69, Try.ntmps69
    go_wp2_with fail
    clear hw
    have B0 := below_new w (.cells #[.bool false, .slice none 0 0] 79)
    refine (ref_Of m (by omega) _).mono ?_
    rintro e w1 ⟨A1, xs, c1, rfl, hc1, hn1', hv1, hr1, hb1⟩
    have HN := Lib.hid hn1'
    have HV := Lib.hid hv1
    have hlx : xs.length ≤ 2 := HN.out.2.length_le (b := 4294967296) (by omega) (by rw [HV.out]; omega)
    clear hn1' hv1
    have b1a := below_new w1 (.cells #[.int .u32 1] 77)
    have cA := ref_add xs [1] A1 (some ⟨w1.heap.size, 0, none⟩) c1 1 _ _ (w1.alloc (.cells #[.int .u32 1] 77)) (hr1.on b1a) ((row_one w1 77 1).rd_all (S := fun b => b < (w1.alloc (.cells #[.int .u32 1] 77)).heap.size) (by simp)) (fun g hg => hg) (fun g hg => hg) (by omega) (by simp) HN.out.1 (by simp [Dg])
    go_wp2_with fail
    refine cA.mono ?_
    rintro e w2 ⟨A2, s, c2, rfl, hc2, hn2', hv2, hr2, hb2⟩
    have HN2 := Lib.hid hn2'
    have HV2 := Lib.hid (show val 4294967296 s = m + 1 by rw [hv2, HV.out]; simp [val])
    have hls : s.length ≤ 3 := HN2.out.2.length_le (b := 4294967296) (by omega) (by rw [HV2.out]; omega)
    clear hn2' hv2 cA
    have b12 := b1a.trans (hb2.mono (by simp))
    go_wp2_with fail
    refine (ref2_Make true s A2 c2 (-1 - (m : Int)) w2 hr2 (by omega) HN2.out.1 (by rw [wv_true, HV2.out]; omega)).mono ?_
    rintro e w3 ⟨A3, y, c3, rfl, hc3, hn3, hv3, hr3, hb3⟩
    have HN3 := Lib.hid hn3
    have HV3 := Lib.hid hv3
    have b13 := b12.trans (hb3.mono b12.size)
    have b2 := hb1.trans (b13.mono hb1.size)
    clear hn3 hv3
    obtain ⟨f0, f1, f2, f3⟩ := new_whole w b2
    obtain ⟨dd, hd⟩ : ∃ d, decide (-1 - (m : Int) < 0) = d := ⟨_, rfl⟩
    have HD := Lib.hid hd
    rw [hd]
    clear hd
    go_wp2_with fail
    obtain ⟨r0, r1, r2, r3⟩ := stored_whole f0 (.bool dd) (.slice A3 y.length c3)
    refine bodyPost_ret (v := .agg #[.bool dd, .slice A3 y.length c3]) (by simp [results, Try.results69, go_sem, r0, r1]) rfl ?_
    rw [← HD.out]
    exact gives_stored f0 (B0.trans (b2.mono B0.size)) (Nat.le_refl _) hc3 HN3.out HV3.out hr3 _ _
  · obtain ⟨m, rfl⟩ : ∃ m : Nat, n = (m : Int) := ⟨n.toNat, by omega⟩
    go_enter Try.func69, Try.ntmps69
    go_wp2_with fail
    have B0 := below_new w (.cells #[.bool false, .slice none 0 0] 79)
    refine (ref_Of m (by omega) _).mono ?_
    rintro e w1 ⟨A1, xs, c1, rfl, hc1, hn1', hv1, hr1, hb1⟩
    have HN := Lib.hid hn1'
    have HV := Lib.hid hv1
    have hlx : xs.length ≤ 2 := HN.out.2.length_le (b := 4294967296) (by omega) (by rw [HV.out]; omega)
    clear hn1' hv1
    go_wp2_with fail
    refine (ref2_Make false xs A1 c1 (m : Int) w1 hr1 (by omega) HN.out.1 (by rw [wv_false, HV.out])).mono ?_
    rintro e w3 ⟨A3, y, c3, rfl, hc3, hn3, hv3, hr3, hb3⟩
    have HN3 := Lib.hid hn3
    have HV3 := Lib.hid hv3
    have b2 := hb1.trans (hb3.mono hb1.size)
    clear hn3 hv3
    obtain ⟨f0, f1, f2, f3⟩ := new_whole w b2
    obtain ⟨dd, hd⟩ : ∃ d, decide ((m : Int) < 0) = d := ⟨_, rfl⟩
    have HD := Lib.hid hd
    rw [hd]
    clear hd
    go_wp2_with fail
    obtain ⟨r0, r1, r2, r3⟩ := stored_whole f0 (.bool dd) (.slice A3 y.length c3)
    refine bodyPost_ret (v := .agg #[.bool dd, .slice A3 y.length c3]) (by simp [results, Try.results69, go_sem, r0, r1]) rfl ?_
    rw [← HD.out]
    exact gives_stored f0 (B0.trans (b2.mono B0.size)) (Nat.le_refl _) hc3 HN3.out HV3.out hr3 _ _
end Go.Proofs.Ytkebffkekinblaa
