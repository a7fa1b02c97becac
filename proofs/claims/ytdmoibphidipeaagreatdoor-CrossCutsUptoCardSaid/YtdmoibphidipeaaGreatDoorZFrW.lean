/- Fractions, the document's own: what Floor answers. -/
import Derived.Test.YtdmoibphidipeaaGreatDoorZOaE
import Derived.Test.YtdmoibphidipeaaGreatDoorZWhX
import Derived.Deep.CutRange
import Derived.Test.YtdmoibphidipeaaGreatDoorZWrY
namespace Go.Proofs.YtdmoibphidipeaaGreatDoor
open Go.RowKit Num

theorem Blk.on {W V : World} {g : Nat} {t : TypeId} {vs : List Value} (k : Blk W g t vs) (b : Below W.heap.size W V) : Blk V g t vs := k.below b k.lt
theorem Blk.pair {W : World} {g : Nat} {t : TypeId} {a0 a1 : Value} (k : Blk W g t [a0, a1]) (u0 u1 : Value) : Blk ((W.setCell ⟨g, 0, none⟩ u0).setCell ⟨g, 1, none⟩ u1) g t [u0, u1] := (k.set 0 u0).set 1 u1
theorem Blk.facts2 {w : World} {g : Nat} {t : TypeId} {a0 a1 : Value} (h : Blk w g t [a0, a1]) : w.cell? ⟨g, 0, none⟩ = some a0 ∧ w.cell? ⟨g, 1, none⟩ = some a1 ∧ w.frozen? ⟨g, 0, none⟩ = false ∧ w.frozen? ⟨g, 1, none⟩ = false :=
  ⟨h.cell 0 rfl, h.cell 1 rfl, h.frozen 0, h.frozen 1⟩
/-- what was allotted before a call lies there still behind it -/
theorem got1 {W v : World} {v0 v1 : Value} {t : TypeId} (b : Below (W.alloc (.cells #[v0, v1] t)).heap.size (W.alloc (.cells #[v0, v1] t)) v) : Blk v W.heap.size t [v0, v1] ∧ W.heap.size < v.heap.size := by
  have k := (Blk.new W t [v0, v1]).on b
  exact ⟨k, k.lt⟩
theorem got1d {W v : World} {v0 v1 : Value} {t : TypeId} (b : Below (W.alloc (.cells #[v0, v1] t)).drew.heap.size (W.alloc (.cells #[v0, v1] t)).drew v) : Blk v W.heap.size t [v0, v1] ∧ W.heap.size < v.heap.size := got1 (W := W.drew) b
theorem Num.Rd.far2 {w : World} {g : Nat} {t : TypeId} {x : Bool} {p : Option Addr} {n m : Nat} {k : IntKind} {A : Option Addr} {xs : List Nat} (h : Rd w (fun g => g < w.heap.size) k A xs) (f : Blk w g t [.bool x, .slice p n m]) (u0 u1 : Value) : Rd ((w.setCell ⟨g, 0, none⟩ u0).setCell ⟨g, 1, none⟩ u1) (fun b => b < ((w.setCell ⟨g, 0, none⟩ u0).setCell ⟨g, 1, none⟩ u1).heap.size) k A xs := fun hn => by
  obtain ⟨b, o, e, hb, hc⟩ := h hn
  have hne : b ≠ g := by
    rintro rfl
    have h0 := hc 0 hn
    rw [cell_of_row _ _ _ _ _ _ f] at h0
    match o, h0 with
    | 0, h0 => simp at h0
    | 1, h0 => simp at h0
    | o + 2, h0 => simp at h0
  refine ⟨b, o, e, by simpa [World.setCell] using hb, fun j hj => ?_⟩
  rw [← hc j hj]
  exact World.cell?_of_block ((Below.heap_setCell _ _ u1 b hne).trans (Below.heap_setCell _ _ u0 b hne))
end Go.Proofs.YtdmoibphidipeaaGreatDoor
/- Fractions: what the program's own turned, plus and minus answer. -/

namespace Go.Proofs.YtdmoibphidipeaaGreatDoor
open Go.RowKit Num

/-- 1 by P by Q: its upper part -/
def turnN (P : Int) (Q : Nat) : Int := if P < 0 then - (Q : Int) else Q
theorem turn_sign {n : Bool} {a d : List Nat} {P : Int} {Q : Nat} (hQ : 0 < Q) (hd : 0 < val 4294967296 d) (h : wv n a * (Q : Int) = P * (val 4294967296 d : Int)) :
    val 4294967296 a * Q = P.natAbs * val 4294967296 d ∧ (P ≠ 0 → 0 < val 4294967296 a ∧ wv n d = (if P < 0 then - (val 4294967296 d : Int) else val 4294967296 d)) := by
  have e := congrArg Int.natAbs h
  rw [Int.natAbs_mul, Int.natAbs_mul, Int.natAbs_natCast, Int.natAbs_natCast, wv_abs] at e
  refine ⟨e, fun hP => ?_⟩
  have hp : 0 < P.natAbs * val 4294967296 d := Nat.mul_pos (by omega) hd
  have ha : 0 < val 4294967296 a := by
    rcases Nat.eq_zero_or_pos (val 4294967296 a) with h0 | h0
    · rw [h0, Nat.zero_mul] at e; omega
    · exact h0
  refine ⟨ha, ?_⟩
  have q1 : (0 : Int) < (val 4294967296 a : Int) * Q := Int.mul_pos (by omega) (by omega)
  cases n
  · rw [wv_false] at h ⊢
    by_cases hn : P < 0
    · have := Int.mul_neg_of_neg_of_pos hn (show (0 : Int) < (val 4294967296 d : Int) by omega)
      omega
    · rw [if_neg hn]
  · rw [wv_true] at h ⊢
    by_cases hn : P < 0
    · rw [if_pos hn]
    · have := Int.mul_nonneg (show 0 ≤ P by omega) (show (0 : Int) ≤ (val 4294967296 d : Int) by omega)
      rw [Int.neg_mul] at h
      omega

set_option maxRecDepth 10000 in
set_option maxHeartbeats 800000 in
/-- what times it is 1 -/
theorem ratio_turned (P : Int) (Q m : Nat) (hP : P ≠ 0) (hQ : 0 < Q) : Fn1 202 (SR P Q m) (SR (turnN P Q) P.natAbs m) := by
  intro n a d A D ca cd w hS h h'
  obtain ⟨hc, hc', ha, hd, hl, hl', hd0, hv⟩ := hS
  obtain ⟨W, hW, k1, kr, b0, s0⟩ := bx2 w 111 111 (.bool n) (.slice A a.length ca) (.slice D d.length cd) (.bool false) (.slice none 0 0) (.slice none 0 0)
  obtain ⟨p0, p1, p2, -, -, -⟩ := k1.facts
  obtain ⟨i0, i1, i2, i3, i4, i5⟩ := kr.facts
  obtain ⟨e1, e2⟩ := turn_sign hQ hd0 hv
  obtain ⟨e3, e4⟩ := e2 hP
  have hs : SR (turnN P Q) P.natAbs m n d cd a ca := ⟨hc', hc, hd, ha, hl', hl, e3, by
    rw [e4]
    unfold turnN
    have e5 : (val 4294967296 d : Int) * (P.natAbs : Int) = (Q : Int) * (val 4294967296 a : Int) := by
      rw [← Int.natCast_mul, ← Int.natCast_mul, Nat.mul_comm, ← e1, Nat.mul_comm]
    by_cases hn : P < 0
    · rw [if_pos hn, if_pos hn, Int.neg_mul, Int.neg_mul, e5]
    · rw [if_neg hn, if_neg hn, e5]⟩
  obtain ⟨Z, hZ, u0, u1, u2, hG⟩ := fin_any (w := w) kr (by omega) b0 (n := n) (a := d) (d := a) (ca := cd) (cd := ca) hs (h'.on b0) (h.on b0)
  have HZ := Lib.hid hZ
  have HF := Lib.hid (And.intro u0 (And.intro u1 u2))
  have HG := Lib.hid hG
  clear hZ u0 u1 u2 hG k1 kr hs e1 e2 e3 e4 hv hP
  go_enter Tryz.func202, Tryz.ntmps202
  go_wp2_with fail
  try rw [hW]
  clear hW
  try go_wp2_with fail
  rw [HZ.out]
  obtain ⟨u0, u1, u2⟩ := HF.out
  exact bodyPost_ret (by simp [results, Tryz.results202, go_sem, u0, u1, u2]) rfl HG.out

theorem cmpI_ne {a b : Nat} (h : ¬ a = b) : ¬ cmpI a b = 0 := by
  unfold cmpI
  split
  · omega
  · split
    · omega
    · omega
theorem plus_same {x x' P P' y Q Q' : Int} (h : x * Q = P * y) (g : x' * Q' = P' * y) : (x + x') * (Q * Q') = (P * Q' + P' * Q) * y := by
  rw [Int.add_mul, show x * (Q * Q') = (x * Q) * Q' by ac_rfl, show x' * (Q * Q') = (x' * Q') * Q by ac_rfl, h, g, Int.add_mul]
  ac_rfl
theorem plus_other {x x' P P' y y' u u' g Q Q' : Int} (h : x * Q = P * y) (k : x' * Q' = P' * y') (e : y = u * g) (e' : y' = u' * g) : (x * u' + x' * u) * (Q * Q') = (P * Q' + P' * Q) * (y * u') := by
  rw [Int.add_mul, show x * u' * (Q * Q') = (x * Q) * (u' * Q') by ac_rfl, show x' * u * (Q * Q') = (x' * Q') * (u * Q) by ac_rfl, h, k, Int.add_mul, e, e']
  congr 1 <;> ac_rfl

/-- a whole number stored where it lies -/
theorem box_end {W v : World} {g : Nat} {t : TypeId} (k : Blk v g t [.bool false, .slice none 0 0]) (hg : W.heap.size ≤ g) (B : Below W.heap.size W v) (u0 u1 : Value) {X Y : Option Addr} {x y : List Nat} (r : Rd v (fun g => g < v.heap.size) .u32 X x) (q : Rd v (fun g => g < v.heap.size) .u32 Y y) :
    Blk ((v.setCell ⟨g, 0, none⟩ u0).setCell ⟨g, 1, none⟩ u1) g t [u0, u1] ∧ W.heap.size ≤ g ∧ Rd ((v.setCell ⟨g, 0, none⟩ u0).setCell ⟨g, 1, none⟩ u1) (fun b => b < ((v.setCell ⟨g, 0, none⟩ u0).setCell ⟨g, 1, none⟩ u1).heap.size) .u32 X x ∧ Rd ((v.setCell ⟨g, 0, none⟩ u0).setCell ⟨g, 1, none⟩ u1) (fun b => b < ((v.setCell ⟨g, 0, none⟩ u0).setCell ⟨g, 1, none⟩ u1).heap.size) .u32 Y y ∧ Below W.heap.size W ((v.setCell ⟨g, 0, none⟩ u0).setCell ⟨g, 1, none⟩ u1) :=
  ⟨k.pair _ _, hg, r.far2 k _ _, q.far2 k _ _, (B.setCell hg _).setCell hg _⟩

set_option maxRecDepth 10000 in
set_option maxHeartbeats 3200000 in
/-- a sum -/
theorem ratio_plus (P P' : Int) (Q Q' m : Nat) (hm : m ≤ 2097150) : Fn2 204 (SR P Q m) (SR P' Q' m) (SR (P * (Q' : Int) + P' * (Q : Int)) (Q * Q') (m + m + 1)) := by
  intro n n' a d a' d' A D A' D' ca cd ca' cd' w hS hT h h' q q'
  obtain ⟨hc, hc', ha, hd, hl, hl', hd0, hv⟩ := hS
  obtain ⟨gc, gc', ga, gd, gl, gl', gd0, gv⟩ := hT
  obtain ⟨W, hW, k1, k2, kr, b0, s0⟩ := bx3 w 111 111 111 (.bool n) (.slice A a.length ca) (.slice D d.length cd) (.bool n') (.slice A' a'.length ca') (.slice D' d'.length cd') (.bool false) (.slice none 0 0) (.slice none 0 0)
  obtain ⟨p0, p1, p2, -, -, -⟩ := k1.facts
  obtain ⟨z0, z1, z2, -, -, -⟩ := k2.facts
  obtain ⟨i0, i1, i2, i3, i4, i5⟩ := kr.facts
  have h := h.on b0
  have h' := h'.on b0
  have q := q.on b0
  have q' := q'.on b0
  have cC := nat_Cmp d d' D D' cd cd' _ _ W h' q' (by omega) (by omega) hc' gc' hd gd
  have hlt : w.heap.size + 2 < W.heap.size := by omega
  by_cases he : val 4294967296 d = val 4294967296 d'
  · rw [cmpI_eq he] at cC
    obtain ⟨N, hN⟩ : ∃ N, wv n a + wv n' a' = N := ⟨_, rfl⟩
    have cN := fun (V : World) (hV : Below W.heap.size W V) => whole_Add n n' a a' A A' ca ca' V (h.on hV) (q.on hV) (by omega) (by omega) hc gc ha ga
    simp only [hN] at cN
    have hs : ∀ (x : List Nat) (cx : Nat), x.length ≤ cx → Norm 4294967296 x → val 4294967296 x = N.natAbs → SR (P * (Q' : Int) + P' * (Q : Int)) (Q * Q') (m + m + 1) (decide (N < 0)) x cx d cd := fun x cx hx hn hv' =>
      ⟨hx, hc', hn.1, hd, Nat.le_trans (hn.2.length_le (b := 4294967296) (n := m + 1) (by omega) (by rw [hv']; exact lim_sum ha ga hl gl (Nat.le_refl _) (by rw [← hN]; have e1 := wv_abs n a; have e2 := wv_abs n' a'; omega))) (by omega), by omega, hd0, by
        rw [wv_dec hv', ← hN, Int.natCast_mul]
        rw [← he] at gv
        exact plus_same hv gv⟩
    have CN := Lib.hid cN
    have HS := Lib.hid hs
    have HQ := Lib.hid h'
    have HK1 := Lib.hid k1
    have HK2 := Lib.hid k2
    have HKR := Lib.hid kr
    have HB0 := Lib.hid b0
    clear cN hs hN hv gv he k1 k2 kr b0
    go_enter Tryz.func204, Tryz.ntmps204
    go_wp2_with fail
    try rw [hW]
    clear hW
    refine cC.mono ?_
    rintro e w1 ⟨rfl, j, rfl⟩
    clear cC
    have K0 : Below W.heap.size W (W.drewN j) := below_drewN (Below.refl _ _) j
    have K1 : Below W.heap.size W (W.drewN (j + 1)) := below_drewN (Below.refl _ _) (j + 1)
    obtain ⟨p0, p1, p2⟩ := keep3 HK1.out K0
    obtain ⟨z0, z1, z2⟩ := keep3 HK2.out K0
    obtain ⟨i0, i1, i2, i3, i4, i5⟩ := (HKR.out.below K0 HKR.out.lt).facts
    go_wp2_with fail
    go_region_held3 (fun w' => (w'.cell? ⟨w.heap.size, 0, none⟩ = some (.bool n) ∧ w'.cell? ⟨w.heap.size, 1, none⟩ = some (.slice A a.length ca) ∧ w'.cell? ⟨w.heap.size, 2, none⟩ = some (.slice D d.length cd)) ∧ (w'.cell? ⟨w.heap.size + 1, 0, none⟩ = some (.bool n') ∧ w'.cell? ⟨w.heap.size + 1, 1, none⟩ = some (.slice A' a'.length ca') ∧ w'.cell? ⟨w.heap.size + 1, 2, none⟩ = some (.slice D' d'.length cd')))
      (first | (with_reducible exact ⟨keep3 HK1.out K1, keep3 HK2.out K1⟩) | exact ⟨keep3 HK1.out K1, keep3 HK2.out K1⟩ | (with_reducible exact ⟨keep3 HK1.out KA, keep3 HK2.out KA⟩) | (with_reducible exact ⟨far_cells (HK1.out.below KA HK1.out.lt) (by omega) _ _ _, far_cells (HK2.out.below KA HK2.out.lt) (by omega) _ _ _⟩) | go_keep)
      ((first
        | (go_at_call 233; (with_reducible refine Calls.mono (CN.out _ K1) ?_); rintro e w1 ⟨X, x, cx, rfl, hcx, hnx, hvx, rx, b1⟩; have KA := below_next K1 (Nat.le_refl _) b1; obtain ⟨i0, i1, i2, i3, i4, i5⟩ := (HKR.out.below KA HKR.out.lt).facts)))
    obtain ⟨Z, hZ, u0, u1, u2, hG⟩ := fin_any (n := decide (N < 0)) (a := x) (d := d) (ca := cx) (cd := cd) (w := w) (HKR.out.below KA HKR.out.lt) (by omega) (HB0.out.trans (KA.mono HB0.out.size)) (HS.out x cx hcx hnx hvx) rx (HQ.out.on KA)
    have HZ := Lib.hid hZ
    have HF := Lib.hid (And.intro u0 (And.intro u1 u2))
    have HG := Lib.hid hG
    clear hZ u0 u1 u2 hG i0 i1 i2 i3 i4 i5 CN rx hvx hnx
    go_wp2_with fail
    rw [HZ.out]
    obtain ⟨u0, u1, u2⟩ := HF.out
    exact bodyPost_ret (by simp [results, Tryz.results204, go_sem, u0, u1, u2]) rfl HG.out
  · obtain ⟨z, hz⟩ : ∃ z, cmpI (val 4294967296 d) (val 4294967296 d') = z := ⟨_, rfl⟩
    have hzb : (z == 0) = false := by
      have := cmpI_ne he
      rw [hz] at this
      simpa using this
    rw [hz] at cC
    obtain ⟨g, hg⟩ : ∃ g, Nat.gcd (val 4294967296 d) (val 4294967296 d') = g := ⟨_, rfl⟩
    have hu : val 4294967296 d / g * g = val 4294967296 d := by rw [← hg]; exact Nat.div_mul_cancel (Nat.gcd_dvd_left _ _)
    have hu' : val 4294967296 d' / g * g = val 4294967296 d' := by rw [← hg]; exact Nat.div_mul_cancel (Nat.gcd_dvd_right _ _)
    have cR := fun (V : World) (hV : Below W.heap.size W V) => root_Reduce d d' D D' cd cd' V (h'.on hV) (q'.on hV) (by omega) (by omega) hc' gc' hd gd
    simp only [hg] at cR
    obtain ⟨M, hM⟩ : ∃ M, val 4294967296 d / g = M := ⟨_, rfl⟩
    obtain ⟨M', hM'⟩ : ∃ M, val 4294967296 d' / g = M := ⟨_, rfl⟩
    simp only [hM, hM'] at cR
    rw [hM] at hu
    rw [hM'] at hu'
    have hg0 : 0 < g := by rw [← hg]; exact Nat.gcd_pos_of_pos_left _ hd0
    have hM0 : 0 < M' := by
      rcases Nat.eq_zero_or_pos M' with h0 | h0
      · rw [h0, Nat.zero_mul] at hu'; omega
      · exact h0
    have hlx : ∀ x : List Nat, Norm 4294967296 x → val 4294967296 x = M → x.length ≤ m := fun x hn hv => Nat.le_trans (len_le (by omega) hn.2 hd (by rw [hv, ← hu]; exact Nat.le_mul_of_pos_right _ hg0)) hl'
    have hly : ∀ x : List Nat, Norm 4294967296 x → val 4294967296 x = M' → x.length ≤ m := fun x hn hv => Nat.le_trans (len_le (by omega) hn.2 gd (by rw [hv, ← hu']; exact Nat.le_mul_of_pos_right _ hg0)) gl'
    obtain ⟨N1, hN1⟩ : ∃ N, wv n a * (M' : Int) = N := ⟨_, rfl⟩
    obtain ⟨N2, hN2⟩ : ∃ N, wv n' a' * (M : Int) = N := ⟨_, rfl⟩
    obtain ⟨N, hN⟩ : ∃ N, N1 + N2 = N := ⟨_, rfl⟩
    have cM1 : ∀ (V : World) (y : List Nat) (Y : Option Addr) (cy : Nat), Below W.heap.size W V → Rd V (fun g => g < V.heap.size) .u32 Y y → y.length ≤ cy → Norm 4294967296 y → val 4294967296 y = M' → Calls Tryz.prog 110 #[.agg #[.bool n, .slice A a.length ca], .agg #[.bool false, .slice Y y.length cy]] V (GivesW N1 V) := fun V y Y cy hV r hcy hn hv => by
      have := whole_Mul n false a y A Y ca cy V (h.on hV) r (by omega) (by have := hly y hn hv; omega) hc hcy ha hn.1
      rwa [wv_false, hv, hN1] at this
    have cM2 : ∀ (V : World) (y : List Nat) (Y : Option Addr) (cy : Nat), Below W.heap.size W V → Rd V (fun g => g < V.heap.size) .u32 Y y → y.length ≤ cy → Norm 4294967296 y → val 4294967296 y = M → Calls Tryz.prog 110 #[.agg #[.bool n', .slice A' a'.length ca'], .agg #[.bool false, .slice Y y.length cy]] V (GivesW N2 V) := fun V y Y cy hV r hcy hn hv => by
      have := whole_Mul n' false a' y A' Y ca' cy V (q.on hV) r (by omega) (by have := hlx y hn hv; omega) gc hcy ga hn.1
      rwa [wv_false, hv, hN2] at this
    have l1 : N1.natAbs < 4294967296 ^ (m + m) := by
      rw [← hN1, Int.natAbs_mul, wv_abs, Int.natAbs_natCast, Nat.pow_add]
      have e1 : val 4294967296 a < 4294967296 ^ m := Nat.lt_of_lt_of_le (val_lt ha) (Nat.pow_le_pow_right (by omega) hl)
      have e2 : M' < 4294967296 ^ m := Nat.lt_of_le_of_lt (by rw [← hu']; exact Nat.le_mul_of_pos_right _ hg0) (Nat.lt_of_lt_of_le (val_lt gd) (Nat.pow_le_pow_right (by omega) gl'))
      exact Nat.mul_lt_mul'' e1 e2
    have l2 : N2.natAbs < 4294967296 ^ (m + m) := by
      rw [← hN2, Int.natAbs_mul, wv_abs, Int.natAbs_natCast, Nat.pow_add]
      have e1 : val 4294967296 a' < 4294967296 ^ m := Nat.lt_of_lt_of_le (val_lt ga) (Nat.pow_le_pow_right (by omega) gl)
      have e2 : M < 4294967296 ^ m := Nat.lt_of_le_of_lt (by rw [← hu]; exact Nat.le_mul_of_pos_right _ hg0) (Nat.lt_of_lt_of_le (val_lt hd) (Nat.pow_le_pow_right (by omega) hl'))
      exact Nat.mul_lt_mul'' e1 e2
    have cA : ∀ (V : World) (x y : List Nat) (X Y : Option Addr) (cx cy : Nat), Rd V (fun g => g < V.heap.size) .u32 X x → Rd V (fun g => g < V.heap.size) .u32 Y y → x.length ≤ cx → y.length ≤ cy → Norm 4294967296 x → Norm 4294967296 y → val 4294967296 x = N1.natAbs → val 4294967296 y = N2.natAbs → Calls Tryz.prog 233 #[.agg #[.bool (decide (N1 < 0)), .slice X x.length cx], .agg #[.bool (decide (N2 < 0)), .slice Y y.length cy]] V (GivesW N V) := fun V x y X Y cx cy hx hy hcx hcy hn hm' hv hu => by
      have lx := hn.2.length_le (b := 4294967296) (n := m + m) (by omega) (by rw [hv]; exact l1)
      have ly := hm'.2.length_le (b := 4294967296) (n := m + m) (by omega) (by rw [hu]; exact l2)
      have := whole_Add (decide (N1 < 0)) (decide (N2 < 0)) x y X Y cx cy V hx hy (by omega) (by omega) hcx hcy hn.1 hm'.1
      rwa [wv_dec hv, wv_dec hu, hN] at this
    have cD : ∀ (V : World) (y : List Nat) (Y : Option Addr) (cy : Nat), Below W.heap.size W V → Rd V (fun g => g < V.heap.size) .u32 Y y → y.length ≤ cy → Norm 4294967296 y → val 4294967296 y = M' → Calls Tryz.prog 148 #[.slice D d.length cd, .slice Y y.length cy] V (Gives .u32 4294967296 (val 4294967296 d * M') V) := fun V y Y cy hV r hcy hn hv => by
      have := nat_Mul d y D Y cd cy _ _ V (h'.on hV) r (fun g hg => hg) (fun g hg => hg) (by omega) (by have := hly y hn hv; omega) hc' hcy hd hn.1
      rwa [hv] at this
    have cS := fun (V : World) (y : List Nat) (Y : Option Addr) (cy : Nat) => frac_size Y y.length cy V
    have hs : ∀ (x y : List Nat) (cx cy : Nat), x.length ≤ cx → y.length ≤ cy → Norm 4294967296 x → Norm 4294967296 y → val 4294967296 x = N.natAbs → val 4294967296 y = val 4294967296 d * M' → SR (P * (Q' : Int) + P' * (Q : Int)) (Q * Q') (m + m + 1) (decide (N < 0)) x cx y cy := fun x y cx cy hx hy hn hm' hv' hu2 => by
      have lx := hn.2.length_le (b := 4294967296) (n := m + m + 1) (by omega) (by
        rw [hv', ← hN, Nat.pow_succ]
        have := Int.natAbs_add_le N1 N2
        omega)
      have ly := hm'.2.length_le (b := 4294967296) (n := m + m) (by omega) (by
        rw [hu2, Nat.pow_add]
        have e1 : val 4294967296 d < 4294967296 ^ m := Nat.lt_of_lt_of_le (val_lt hd) (Nat.pow_le_pow_right (by omega) hl')
        have e2 : M' < 4294967296 ^ m := Nat.lt_of_le_of_lt (by rw [← hu']; exact Nat.le_mul_of_pos_right _ hg0) (Nat.lt_of_lt_of_le (val_lt gd) (Nat.pow_le_pow_right (by omega) gl'))
        exact Nat.mul_lt_mul'' e1 e2)
      refine ⟨hx, hy, hn.1, hm'.1, lx, by omega, by rw [hu2]; exact Nat.mul_pos hd0 hM0, ?_⟩
      rw [wv_dec hv', ← hN, ← hN1, ← hN2, hu2, Int.natCast_mul, Int.natCast_mul]
      exact plus_other hv gv (g := (g : Int)) (by rw [← Int.natCast_mul, hu]) (by rw [← Int.natCast_mul, hu'])
    have CR := Lib.hid cR
    have CM1 := Lib.hid cM1
    have CM2 := Lib.hid cM2
    have CA := Lib.hid cA
    have CD := Lib.hid cD
    have CS := Lib.hid cS
    have HS := Lib.hid hs
    have HK1 := Lib.hid k1
    have HK2 := Lib.hid k2
    have HKR := Lib.hid kr
    have HB0 := Lib.hid b0
    clear cR cM1 cM2 cA cD cS hs l1 l2 hlx hly hM hM' hg hu hu' hN hN1 hN2 hM0 hg0 hz hv gv he k1 k2 kr b0
    go_enter Tryz.func204, Tryz.ntmps204
    go_wp2_with fail
    try rw [hW]
    clear hW
    refine cC.mono ?_
    rintro e w1 ⟨rfl, j, rfl⟩
    clear cC
    have K0 : Below W.heap.size W (W.drewN j) := below_drewN (Below.refl _ _) j
    obtain ⟨p0, p1, p2⟩ := keep3 HK1.out K0
    obtain ⟨z0, z1, z2⟩ := keep3 HK2.out K0
    obtain ⟨i0, i1, i2, i3, i4, i5⟩ := (HKR.out.below K0 HKR.out.lt).facts
    go_wp2_with fail
    refine (CR.out _ K0).mono ?_
    rintro e w2 ⟨X, x, cx, Y, y, cy, rfl, hcx, hcy, hnx, hny, hvx, hvy, rx, ry, b1⟩
    have KA := below_next K0 (Nat.le_refl _) b1
    have KA' : Below W.heap.size W w2.drew := below_drewN KA 1
    have HX := Lib.hid (And.intro hnx (And.intro hny (And.intro hvx hvy)))
    obtain ⟨p0, p1, p2⟩ := keep3 HK1.out KA
    obtain ⟨z0, z1, z2⟩ := keep3 HK2.out KA
    obtain ⟨i0, i1, i2, i3, i4, i5⟩ := (HKR.out.below KA HKR.out.lt).facts
    clear hnx hny hvx hvy
    go_wp2_with fail
    go_cut [7] from 8 (fun v7 wc => ∃ g7 X3 x3 c3, v7 = .pointer (some ⟨g7, 0, none⟩) ∧ x3.length ≤ c3 ∧ Norm 4294967296 x3 ∧ val 4294967296 x3 = N.natAbs ∧ Blk wc g7 37 [.bool (decide (N < 0)), .slice X3 x3.length c3] ∧ W.heap.size ≤ g7 ∧ Rd wc (fun g => g < wc.heap.size) .u32 X3 x3 ∧ Rd wc (fun g => g < wc.heap.size) .u32 Y y ∧ Below W.heap.size W wc)
    case first =>
      go_region_held3 (fun w' => (w'.cell? ⟨w.heap.size, 0, none⟩ = some (.bool n) ∧ w'.cell? ⟨w.heap.size, 1, none⟩ = some (.slice A a.length ca) ∧ w'.cell? ⟨w.heap.size, 2, none⟩ = some (.slice D d.length cd)) ∧ (w'.cell? ⟨w.heap.size + 1, 0, none⟩ = some (.bool n') ∧ w'.cell? ⟨w.heap.size + 1, 1, none⟩ = some (.slice A' a'.length ca') ∧ w'.cell? ⟨w.heap.size + 1, 2, none⟩ = some (.slice D' d'.length cd')))
        (first | (refine ⟨keep3 HK1.out ?_, keep3 HK2.out ?_⟩ <;> (first | (with_reducible exact KS) | (with_reducible exact KA') | (apply keep_one; with_reducible exact KS) | (apply keep_one; with_reducible exact KA') | ((repeat (first | refine Below.setCell ?_ (by first | (dsimp only; omega) | (have := KS.size; dsimp only; omega) | (with_reducible exact hgB)) _ | refine Below.alloc ?_ (by have := KS.size; first | omega | (simp; omega)) _)); with_reducible exact KS))) | go_keep)
        ((first
          | (go_at_call_of 111 (Value.slice Y y.length cy); (with_reducible refine Calls.mono (CS.out _ y Y cy) ?_); rintro e w3 ⟨rfl, b3⟩; (first | (guard_hyp b3 : Below w2.drew.heap.size w2.drew w3; have KS := below_next KA' (Nat.le_refl _) b3; have bb : Below w2.heap.size w2 w3 := Below.trans (below_drewN (Below.refl w2.heap.size w2) 1) b3) | (have hgB : W.heap.size ≤ w2.heap.size := KA.size; obtain ⟨kA, sA⟩ := got1d b3; obtain ⟨o0, o1, o2, o3⟩ := kA.facts2; have KS := below_next (below_drewN (keep_one KA (.cells #[.bool false, .slice none 0 0] 37)) 1) (Nat.le_refl _) b3; have bb : Below w2.heap.size w2 w3 := Below.trans (below_drewN (below_new w2 (.cells #[.bool false, .slice none 0 0] 37)) 1) (b3.mono (by simp)))); have rx := rx.on bb; have ry := ry.on bb)
          | (go_at_call_of 110 (Value.slice A a.length ca); (first | (with_reducible refine Calls.mono (CM1.out _ y Y cy KS ry hcy HX.out.2.1 HX.out.2.2.2) ?_) | (with_reducible refine Calls.mono (CM1.out _ y Y cy (keep_one KS _) (ry.on (below_new _ _)) hcy HX.out.2.1 HX.out.2.2.2) ?_)); rintro e w4 ⟨X1, x1, c1, rfl, hc1, hn1, hv1, r1, b4⟩; (first | (guard_hyp b4 : Below w3.heap.size w3 w4; have bb := b4; have KS := below_next KS (Nat.le_refl _) b4; first | (guard_hyp kA; have kA := kA.on b4; have sA := kA.lt; obtain ⟨o0, o1, o2, o3⟩ := kA.facts2) | skip) | (have hgB : W.heap.size ≤ w3.heap.size := KS.size; obtain ⟨kA, sA⟩ := got1 b4; obtain ⟨o0, o1, o2, o3⟩ := kA.facts2; have bb := (below_new w3 (.cells #[.bool false, .slice none 0 0] 37)).trans (b4.mono (by simp)); have KS := below_next (keep_one KS (.cells #[.bool false, .slice none 0 0] 37)) (Nat.le_refl _) b4)); have rx := rx.on bb; have ry := ry.on bb)
          | (go_at_call_of 111 (Value.slice X x.length cx); (with_reducible refine Calls.mono (CS.out _ x X cx) ?_); rintro e w5 ⟨rfl, b5⟩; (first | (guard_hyp b5 : Below w4.heap.size w4 w5; have bb := b5; have KS := below_next KS (Nat.le_refl _) b5; first | (guard_hyp kA; have kA := kA.on b5; have sA := kA.lt; obtain ⟨o0, o1, o2, o3⟩ := kA.facts2) | skip) | (have hgB : W.heap.size ≤ w4.heap.size := KS.size; obtain ⟨kA, sA⟩ := got1 b5; obtain ⟨o0, o1, o2, o3⟩ := kA.facts2; have bb := (below_new w4 (.cells #[.bool false, .slice none 0 0] 37)).trans (b5.mono (by simp)); have KS := below_next (keep_one KS (.cells #[.bool false, .slice none 0 0] 37)) (Nat.le_refl _) b5)); have rx := rx.on bb; have ry := ry.on bb; have r1 := r1.on bb)
          | (go_at_call_of 110 (Value.slice A' a'.length ca'); (first | (with_reducible refine Calls.mono (CM2.out _ x X cx KS rx hcx HX.out.1 HX.out.2.2.1) ?_) | (with_reducible refine Calls.mono (CM2.out _ x X cx (keep_one KS _) (rx.on (below_new _ _)) hcx HX.out.1 HX.out.2.2.1) ?_)); rintro e w6 ⟨X2, x2, c2, rfl, hc2, hn2, hv2, r2, b6⟩; (first | (guard_hyp b6 : Below w5.heap.size w5 w6; have bb := b6; have KS := below_next KS (Nat.le_refl _) b6; first | (guard_hyp kA; have kA := kA.on b6; have sA := kA.lt; obtain ⟨o0, o1, o2, o3⟩ := kA.facts2) | skip) | (have hgB : W.heap.size ≤ w5.heap.size := KS.size; obtain ⟨kA, sA⟩ := got1 b6; obtain ⟨o0, o1, o2, o3⟩ := kA.facts2; have bb := (below_new w5 (.cells #[.bool false, .slice none 0 0] 37)).trans (b6.mono (by simp)); have KS := below_next (keep_one KS (.cells #[.bool false, .slice none 0 0] 37)) (Nat.le_refl _) b6)); have rx := rx.on bb; have ry := ry.on bb; have r1 := r1.on bb)
          | (go_at_call 233; (first | (with_reducible refine Calls.mono (CA.out _ x1 x2 X1 X2 c1 c2 r1 r2 hc1 hc2 hn1 hn2 hv1 hv2) ?_) | (with_reducible refine Calls.mono (CA.out _ x1 x2 X1 X2 c1 c2 (r1.on (below_new _ _)) (r2.on (below_new _ _)) hc1 hc2 hn1 hn2 hv1 hv2) ?_)); rintro e w7 ⟨X3, x3, c3, rfl, hc3, hn3, hv3, r3, b7⟩; (first | (guard_hyp b7 : Below w6.heap.size w6 w7; have bb := b7; have KS := below_next KS (Nat.le_refl _) b7; first | (guard_hyp kA; have kA := kA.on b7; have sA := kA.lt; obtain ⟨o0, o1, o2, o3⟩ := kA.facts2) | skip) | (have hgB : W.heap.size ≤ w6.heap.size := KS.size; obtain ⟨kA, sA⟩ := got1 b7; obtain ⟨o0, o1, o2, o3⟩ := kA.facts2; have bb := (below_new w6 (.cells #[.bool false, .slice none 0 0] 37)).trans (b7.mono (by simp)); have KS := below_next (keep_one KS (.cells #[.bool false, .slice none 0 0] 37)) (Nat.le_refl _) b7)); have ry := ry.on bb)))
      all_goals
        go_wp2_with fail
        go_meet
        refine ⟨_, X3, x3, c3, rfl, hc3, hn3, hv3, ?_⟩
        first
          | (with_reducible exact box_end kA hgB KS _ _ r3 ry)
          | exact ⟨Blk.new w7 _ _, KS.size, r3.on (below_new _ _), ry.on (below_new _ _), keep_one KS _⟩
    case rest =>
      obtain ⟨g7, X3, x3, c3, rfl, hc3, hn3, hv3, k7, hg7, r3, ry, KB⟩ := hcut
      have k1 := HK1.out.below KB HK1.out.lt
      have kr := HKR.out.below KB HKR.out.lt
      have BW : Below w.heap.size w wc := HB0.out.trans (KB.mono HB0.out.size)
      have HK1 := Lib.hid k1
      have HKR := Lib.hid kr
      have HK7 := Lib.hid k7
      have HBW := Lib.hid BW
      have HN3 := Lib.hid (And.intro hn3 hv3)
      have hlt7 : w.heap.size + 2 < wc.heap.size := by have := KB.size; omega
      have Z0 : Below wc.heap.size wc wc.drew := below_drewN (Below.refl _ _) 1
      have cD := fun (V : World) (hV : Below wc.heap.size wc V) => CD.out V y Y cy (KB.trans (hV.mono KB.size)) (ry.on hV) hcy HX.out.2.1 HX.out.2.2.2
      have CD := Lib.hid cD
      clear cD k1 kr k7 BW hn3 hv3 CR CM1 CM2 CA
      obtain ⟨p0, p1, p2⟩ := keep3 HK1.out (Below.refl _ _)
      obtain ⟨t0, t1⟩ := keep2w HK7.out (Below.refl _ _)
      obtain ⟨i0, i1, i2, i3, i4, i5⟩ := HKR.out.facts
      go_wp2_with fail
      go_region_held3 (fun w' => (w'.cell? ⟨w.heap.size, 0, none⟩ = some (.bool n) ∧ w'.cell? ⟨w.heap.size, 1, none⟩ = some (.slice A a.length ca) ∧ w'.cell? ⟨w.heap.size, 2, none⟩ = some (.slice D d.length cd)) ∧ (w'.cell? ⟨g7, 0, none⟩ = some (.bool (decide (N < 0))) ∧ w'.cell? ⟨g7, 1, none⟩ = some (.slice X3 x3.length c3)))
        (first | (with_reducible exact ⟨keep3 HK1.out Z0, keep2w HK7.out Z0⟩) | (with_reducible exact ⟨keep3 HK1.out ZA, keep2w HK7.out ZA⟩) | (with_reducible exact ⟨far_cells (HK1.out.below ZA HK1.out.lt) (by omega) _ _ _, far_cells2 (HK7.out.below ZA HK7.out.lt) (by omega) _ _ _⟩) | go_keep)
        ((first
          | (go_at_call 148; (with_reducible refine Calls.mono (CD.out _ Z0) ?_); rintro e w8 ⟨Y8, y8, c8, rfl, hc8, hn8, hv8, r8, b8⟩; have ZA := below_next Z0 (Nat.le_refl _) b8; obtain ⟨i0, i1, i2, i3, i4, i5⟩ := (HKR.out.below ZA HKR.out.lt).facts)))
      obtain ⟨Z, hZ, u0, u1, u2, hG⟩ := fin_any (n := decide (N < 0)) (a := x3) (d := y8) (ca := c3) (cd := c8) (w := w) (HKR.out.below ZA HKR.out.lt) (by omega) (HBW.out.trans (ZA.mono HBW.out.size)) (HS.out x3 y8 c3 c8 hc3 hc8 HN3.out.1 hn8 HN3.out.2 hv8) (r3.on ZA) r8
      have HZ := Lib.hid hZ
      have HF := Lib.hid (And.intro u0 (And.intro u1 u2))
      have HG := Lib.hid hG
      clear hZ u0 u1 u2 hG i0 i1 i2 i3 i4 i5 CD r3 r8 hv8 hn8
      go_wp2_with fail
      rw [HZ.out]
      obtain ⟨u0, u1, u2⟩ := HF.out
      exact bodyPost_ret (by simp [results, Tryz.results204, go_sem, u0, u1, u2]) rfl HG.out
end Go.Proofs.YtdmoibphidipeaaGreatDoor
