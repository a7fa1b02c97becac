/- Whole numbers, the document's own: what Sub, Cmp, Same answer. -/
import Derived.Test.YtkmgmppmhgoadaaDoorWrB
namespace Go.Proofs.YtkmgmppmhgoadaaDoor
open Go.RowKit Num

theorem wv_dec {N : Int} {xs : List Nat} (h : val 4294967296 xs = N.natAbs) : wv (decide (N < 0)) xs = N := by
  by_cases hn : N < 0
  · rw [decide_eq_true hn, wv_true]; omega
  · rw [decide_eq_false hn, wv_false]; omega
theorem len_abs {xs a : List Nat} (hn : Norm 4294967296 xs) (ha : Dg 4294967296 a) {N : Int} (h : val 4294967296 xs = N.natAbs) (hN : N.natAbs ≤ val 4294967296 a) : xs.length ≤ a.length :=
  len_le (b := 4294967296) (by omega) hn.2 ha (by omega)
theorem len_sum {xs a b : List Nat} {n : Nat} (hn : Norm 4294967296 xs) (ha : Dg 4294967296 a) (hb : Dg 4294967296 b) {N : Int} (h : val 4294967296 xs = N.natAbs) (hN : N.natAbs ≤ val 4294967296 a + val 4294967296 b) (h1 : a.length ≤ n) (h2 : b.length ≤ n) : xs.length ≤ n + 1 := by
  refine hn.2.length_le (b := 4294967296) (by omega) ?_
  have k1 := val_lt_pow ha (by omega) h1
  have k2 := val_lt_pow hb (by omega) h2
  rw [h, Nat.pow_succ]
  omega

set_option maxRecDepth 10000 in
set_option maxHeartbeats 1600000 in
theorem ref2_Sub (n1 n2 : Bool) (a b : List Nat) (A A' : Option Addr) (ca cb : Nat) (w : World) (h : Rd w (fun g => g < w.heap.size) .u32 A a) (h' : Rd w (fun g => g < w.heap.size) .u32 A' b) (hl : a.length ≤ 268435456) (hl' : b.length ≤ 268435456) (ha : Dg 4294967296 a) (hb : Dg 4294967296 b) :
    Calls Tryd.prog 12 #[.agg #[.bool n1, .slice A a.length ca], .agg #[.bool n2, .slice A' b.length cb]] w (GivesW (wv n1 a - wv n2 b) w) := by
  obtain ⟨N, hN⟩ : ∃ N, wv n1 a - wv n2 b = N := ⟨_, rfl⟩
  rw [hN]
  have HE := Lib.hid hN
  have xb := wv_abs n2 b
  obtain ⟨M, hM⟩ : ∃ M, - wv n2 b = M := ⟨_, rfl⟩
  have HM := Lib.hid (show wv n1 a + M = N by omega)
  have HMb := Lib.hid (show M.natAbs ≤ val 4294967296 b by omega)
  obtain ⟨W, hW, k1, k2, k3, k4, k5, k6, k7⟩ := boxes2 w (.bool n1) (.slice A a.length ca) (.bool n2) (.slice A' b.length cb) 24 24
  have cM := ref2_Neg n2 b A' cb W.drew (h'.on (below_drewN k7 1)) (by omega) hb
  rw [hM] at cM
  clear hN hM xb
  go_enter Tryd.func12, Tryd.ntmps12
  go_wp2_with fail
  try rw [hW]
  clear hW
  go_region_held3 (fun w' => w'.cell? ⟨w.heap.size, 0, none⟩ = some (.bool n1) ∧ w'.cell? ⟨w.heap.size, 1, none⟩ = some (.slice A a.length ca) ∧ w'.cell? ⟨w.heap.size + 1, 0, none⟩ = some (.bool n2) ∧ w'.cell? ⟨w.heap.size + 1, 1, none⟩ = some (.slice A' b.length cb))
    (first | exact cells4 k1 k2 k3 k4 (lower k6 hb1) | exact cells4 k1 k2 k3 k4 (lower k6 (hb1.trans (hb2.mono hb1.size))) | exact cells4 k1 k2 k3 k4 ((lower k6 (hb1.trans (hb2.mono hb1.size))).trans ((stored_whole f0 _ _).2.2.2 _ (Nat.le_refl _))) | go_keep)
    ((first
      | (go_at_call 20; (with_reducible refine Calls.mono cM ?_); rintro e w1 ⟨A1, xs, c1, rfl, hc1, hn1, hv1, hr1, hb1⟩; have K1 : Below w.heap.size w w1 := (below_drewN k7 1).trans (hb1.mono (below_drewN k7 1).size); obtain ⟨hd1, ht1⟩ := hn1)
      | (go_at_call 10; (with_reducible refine Calls.mono (ref2_Add n1 _ a xs A A1 ca c1 _ (h.on K1) hr1 hl ?_ ha hd1) ?_) <;> first | exact Nat.le_trans (len_abs ⟨hd1, ht1⟩ hb hv1 HMb.out) hl' | (rintro e w2 ⟨A2, ys, c2, rfl, hc2, hn2, hv2, hr2, hb2⟩; obtain ⟨f0, f1, f2, f3⟩ := place2 k5 k6 (hb1.trans (hb2.mono hb1.size))))))
  have HS := Lib.hid (show wv n1 a + wv (decide (M < 0)) xs = N by rw [wv_dec hv1]; exact HM.out)
  rw [HS.out]
  have HN := Lib.hid hn2
  have HV := Lib.hid (hv2.trans (by rw [HS.out]))
  have b2 := hb1.trans (hb2.mono hb1.size)
  clear hv1 cM hn2 hv2
  obtain ⟨r0, r1, r2, r3⟩ := stored_whole f0 (.bool (decide (N < 0))) (.slice A2 ys.length c2)
  go_wp2_with fail
  exact bodyPost_ret (v := .agg #[.bool (decide (N < 0)), .slice A2 ys.length c2]) (by simp [results, Tryd.results12, go_sem, r0, r1]) rfl
    (gives_stored f0 ((below_drewN k7 1).trans (b2.mono (below_drewN k7 1).size)) (by omega) hc2 HN.out HV.out hr2 _ _)

set_option maxRecDepth 10000 in
set_option maxHeartbeats 1600000 in
theorem ref2_Cmp (n1 n2 : Bool) (a b : List Nat) (A A' : Option Addr) (ca cb : Nat) (w : World) (h : Rd w (fun g => g < w.heap.size) .u32 A a) (h' : Rd w (fun g => g < w.heap.size) .u32 A' b) (hl : a.length ≤ 268435456) (hl' : b.length ≤ 268435456) (ha : Dg 4294967296 a) (hb : Dg 4294967296 b) :
    Calls Tryd.prog 16 #[.agg #[.bool n1, .slice A a.length ca], .agg #[.bool n2, .slice A' b.length cb]] w fun e w' => e = .returned (.int .i64 (sgn (wv n1 a - wv n2 b))) ∧ Below w.heap.size w w' := by
  have xa := wv_abs n1 a
  have xb := wv_abs n2 b
  have B0 := below_new2 w (.cells #[.bool n1, .slice A a.length ca] 24) (.cells #[.bool n2, .slice A' b.length cb] 24)
  have cS := ref2_Sub n1 n2 a b A A' ca cb _ (h.on B0) (h'.on B0) hl hl' ha hb
  obtain ⟨N, hN⟩ : ∃ N, wv n1 a - wv n2 b = N := ⟨_, rfl⟩
  rw [hN] at cS ⊢
  have HB := Lib.hid (show N.natAbs ≤ val 4294967296 a + val 4294967296 b by omega)
  clear hN xa xb
  go_enter Tryd.func16, Tryd.ntmps16
  go_wp2_with fail
  refine cS.mono ?_
  rintro e w1 ⟨A1, xs, c1, rfl, hc1, hn1, hv1, hr1, b1⟩
  have HN := Lib.hid hn1
  have HV := Lib.hid hv1
  clear hn1 hv1 cS
  have hxl : xs.length ≤ 536870912 := Nat.le_trans (len_sum HN.out ha hb HV.out HB.out hl hl') (by omega)
  have cG := ref2_Sign (decide (N < 0)) xs A1 c1 w1 hr1 hxl HN.out.1
  rw [wv_dec HV.out] at cG
  go_wp2_with fail
  refine cG.mono ?_
  rintro e w2 ⟨rfl, b2⟩
  go_wp2_with fail
  go_ret
  exact ⟨rfl, B0.trans ((b1.trans (b2.mono b1.size)).mono B0.size)⟩

set_option maxRecDepth 10000 in
set_option maxHeartbeats 1600000 in
/-- one number, twice -/
theorem ref2_Same (n1 : Bool) (xs : List Nat) (A A' : Option Addr) (c c' : Nat) (w : World) (h : Rd w (fun g => g < w.heap.size) .u32 A xs) (h' : Rd w (fun g => g < w.heap.size) .u32 A' xs) (hl : xs.length ≤ 4611686018427387904) :
    Calls Tryd.prog 8 #[.agg #[.bool n1, .slice A xs.length c], .agg #[.bool n1, .slice A' xs.length c']] w fun e w' => e = .returned (.bool true) ∧ Below w.heap.size w w' := by
  have B0 := below_new2 w (.cells #[.bool n1, .slice A xs.length c] 24) (.cells #[.bool n1, .slice A' xs.length c'] 24)
  have cS := ref_same xs A A' c c' _ _ _ (h.on B0) (h'.on B0) hl
  go_enter Tryd.func8, Tryd.ntmps8
  go_wp2_with fail
  refine cS.mono ?_
  rintro e w1 ⟨rfl, m, hw1⟩
  have B1 : Below w.heap.size w w1 := by rw [hw1]; exact below_drewN B0 m
  clear hw1 cS
  go_wp2_with fail
  go_ret
  exact ⟨rfl, B1⟩
end Go.Proofs.YtkmgmppmhgoadaaDoor
