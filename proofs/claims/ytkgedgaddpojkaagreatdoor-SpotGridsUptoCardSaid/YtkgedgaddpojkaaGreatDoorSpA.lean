/- Spots, the program's own: what counted, times, gap and product answer. -/
import Derived.Test.YtkgedgaddpojkaaGreatDoorSpN
import Derived.Test.YtkgedgaddpojkaaGreatDoorZLawO
import Derived.Deep.RegionHeld3
namespace Go.Proofs.YtkgedgaddpojkaaGreatDoor
open Go.RowKit Num

set_option maxRecDepth 10000 in
set_option maxHeartbeats 800000 in
/-- a fraction as it counts -/
theorem spot_counted (P : Int) (Q m : Nat) (hm1 : 1 ≤ m) (hm : m ≤ 4194304) : Fn1 51 (SI P Q m) (SH P Q m) := by
  intro n a d A D ca cd w hS h h'
  obtain ⟨hc, hc', ha, hd, hl, hl', hP, hQ⟩ := hS
  obtain ⟨z, hb⟩ := isBits_some (val 4294967296 d)
  obtain ⟨W, hW, k1, k2, b0, s0⟩ := bx2 w 26 26 (.bool n) (.slice A a.length ca) (.slice D d.length cd) (.bool false) (.slice none 0 0) (.slice none 0 0)
  obtain ⟨p0, p1, p2, -, -, -⟩ := k1.facts
  obtain ⟨i0, i1, i2, i3, i4, i5⟩ := k2.facts
  have cB := nat_Bits_at d D cd z W (h'.on b0) (by omega) hc' hd hb
  have hzi := isBits_zero_iff hb
  clear hb
  by_cases hz : z = 0
  · subst hz
    have hv : val 4294967296 d = 0 := hzi.1 rfl
    have HP := Lib.hid (show P = 0 by rw [← hP]; unfold upN; rw [if_pos hv])
    have HQ := Lib.hid (show Q = 1 by rw [← hQ]; unfold loD; rw [if_pos hv])
    have cI := fun (V : World) => frac_Int 0 (by omega) (by omega) V
    clear hzi hv hP hQ
    go_enter Tryz.func51, Tryz.ntmps51
    go_wp2_with fail
    try rw [hW]
    clear hW
    refine cB.mono ?_
    rintro e w1 ⟨rfl, rfl⟩
    clear cB
    go_wp2_with fail
    refine (cI _).mono ?_
    rintro e w2 ⟨n2, a2, A2, c2, d2, D2, e2, rfl, hs, r, q, b2⟩
    obtain ⟨rfl, rfl, rfl⟩ := nought_words hs
    have K := k2.below b2 k2.lt
    have B := b0.trans (b2.mono b0.size)
    obtain ⟨j0, j1, j2, j3, j4, j5⟩ := K.facts
    obtain ⟨Z, hZ, u0, u1, u2, hG⟩ := fin_any (S := SH P Q m) (w := w) K (by omega) B (n := false) (a := []) (d := [1]) (ca := c2) (cd := e2) (A := A2) (D := D2) ⟨by simp, hs.2.2.1, Dg.nil _, dg_one (by omega), by simp, by simpa using hm1, by rw [HP.out]; rfl, by rw [HQ.out]; rfl⟩ r q
    simp only [List.length_nil, List.length_singleton] at hZ u1 u2 hG
    have HZ := Lib.hid hZ
    have HF := Lib.hid (And.intro u0 (And.intro u1 u2))
    have HG := Lib.hid hG
    clear hZ u0 u1 u2 hG cI k1 k2 K r q b2 B hs i0 i1 i2 i3 i4 i5
    go_wp2_with fail
    rw [HZ.out]
    obtain ⟨u0, u1, u2⟩ := HF.out
    exact bodyPost_ret (by simp [results, Tryz.results51, go_sem, u0, u1, u2]) rfl HG.out
  · have hv : ¬ val 4294967296 d = 0 := fun h => hz (hzi.2 h)
    have hP' : wv n a = P := by rw [← hP]; unfold upN; rw [if_neg hv]
    have hQ' : val 4294967296 d = Q := by rw [← hQ]; unfold loD; rw [if_neg hv]
    have hzb : ((z : Int) == 0) = false := by simp; omega
    obtain ⟨Z, hZ, u0, u1, u2, hG⟩ := fin_any (S := SH P Q m) (w := w) k2 (by omega) b0 (n := n) (a := a) (d := d) (ca := ca) (cd := cd) (A := A) (D := D) ⟨hc, hc', ha, hd, hl, hl', hP', hQ'⟩ (h.on b0) (h'.on b0)
    have HZ := Lib.hid hZ
    have HF := Lib.hid (And.intro u0 (And.intro u1 u2))
    have HG := Lib.hid hG
    clear hZ u0 u1 u2 hG hP' hQ' hP hQ hv hzi k1 k2
    go_enter Tryz.func51, Tryz.ntmps51
    go_wp2_with fail
    try rw [hW]
    clear hW
    refine cB.mono ?_
    rintro e w1 ⟨rfl, rfl⟩
    clear cB
    go_wp2_with fail
    rw [HZ.out]
    obtain ⟨u0, u1, u2⟩ := HF.out
    exact bodyPost_ret (by simp [results, Tryz.results51, go_sem, u0, u1, u2]) rfl HG.out

/-- a whole number of value N, of at most k words -/
def HW (N : Int) (k : Nat) (n : Bool) (a : List Nat) (ca : Nat) : Prop := a.length ≤ ca ∧ Dg 4294967296 a ∧ a.length ≤ k ∧ wv n a = N
def HD (D k : Nat) (d : List Nat) (cd : Nat) : Prop := d.length ≤ cd ∧ Dg 4294967296 d ∧ d.length ≤ k ∧ val 4294967296 d = D
def GvW (N : Int) (k : Nat) (w : World) (e : Ending) (w' : World) : Prop :=
  ∃ n a A c, e = .returned (.agg #[.bool n, .slice A a.length c]) ∧ HW N k n a c ∧ Rd w' (fun g => g < w'.heap.size) .u32 A a ∧ Below w.heap.size w w'
theorem gvw_of {N : Int} {k : Nat} {w w' : World} {e : Ending} (hN : N.natAbs < 4294967296 ^ k) (h : GivesW N w e w') : GvW N k w e w' := by
  obtain ⟨A, xs, c, rfl, hc, hn, hv, r, b⟩ := h
  exact ⟨_, xs, A, c, rfl, ⟨hc, hn.1, hn.2.length_le (b := 4294967296) (by omega) (by rw [hv]; exact hN), wv_dec hv⟩, r, b⟩
theorem HW.lt {N : Int} {k : Nat} {n : Bool} {a : List Nat} {ca : Nat} (h : HW N k n a ca) : N.natAbs < 4294967296 ^ k := by
  rw [← h.2.2.2, wv_abs]
  exact Nat.lt_of_lt_of_le (val_lt h.2.1) (Nat.pow_le_pow_right (by omega) h.2.2.1)
theorem HD.lt {D k : Nat} {d : List Nat} {cd : Nat} (h : HD D k d cd) : D < 4294967296 ^ k := by
  rw [← h.2.2.2]
  exact Nat.lt_of_lt_of_le (val_lt h.2.1) (Nat.pow_le_pow_right (by omega) h.2.2.1)
theorem mulI_lt {M N : Int} {i j k : Nat} (h : M.natAbs < 4294967296 ^ i) (h' : N.natAbs < 4294967296 ^ j) (hk : i + j ≤ k) : (M * N).natAbs < 4294967296 ^ k := by
  rw [Int.natAbs_mul]
  exact prod_lt h (Nat.le_of_lt h') hk
/-- a whole number stored where the result lies -/
theorem fin_gvw {w v : World} {g : Nat} {t : TypeId} (k : Blk v g t [.bool false, .slice none 0 0]) (hg : w.heap.size ≤ g) (B : Below w.heap.size w v) {N : Int} {m : Nat} {n : Bool} {A : Option Addr} {a : List Nat} {c : Nat} (hs : HW N m n a c) (r : Rd v (fun g => g < v.heap.size) .u32 A a) :
    ∃ U, (v.setCell ⟨g, 0, none⟩ (.bool n)).setCell ⟨g, 1, none⟩ (.slice A a.length c) = U ∧ (U.cell? ⟨g, 0, none⟩ = some (.bool n) ∧ U.cell? ⟨g, 1, none⟩ = some (.slice A a.length c)) ∧ GvW N m w (.returned (.agg #[.bool n, .slice A a.length c])) U := by
  have K := k.pair (.bool n) (.slice A a.length c)
  exact ⟨_, rfl, ⟨K.cell 0 rfl, K.cell 1 rfl⟩, n, a, A, c, rfl, hs, r.far2 k _ _, (B.setCell (p := ⟨g, 0, none⟩) hg _).setCell (p := ⟨g, 1, none⟩) hg _⟩
/-- the product of two wholes -/
theorem whole_mul_hw {M N : Int} {i j : Nat} {n n' : Bool} {a b : List Nat} {A B : Option Addr} {ca cb : Nat} (hi : i ≤ 1073741824) (hj : j ≤ 1073741824) (ha : HW M i n a ca) (hb : HW N j n' b cb) (w : World) (r : Rd w (fun g => g < w.heap.size) .u32 A a) (q : Rd w (fun g => g < w.heap.size) .u32 B b) :
    Calls Tryz.prog 53 #[.agg #[.bool n, .slice A a.length ca], .agg #[.bool n', .slice B b.length cb]] w (GvW (M * N) (i + j) w) := by
  have h := whole_Mul n n' a b A B ca cb w r q (Nat.le_trans ha.2.2.1 hi) (Nat.le_trans hb.2.2.1 hj) ha.1 hb.1 ha.2.1 hb.2.1
  rw [ha.2.2.2, hb.2.2.2] at h
  exact h.mono fun _ _ => gvw_of (mulI_lt ha.lt hb.lt (Nat.le_refl _))
theorem whole_sub_hw {M N : Int} {i j : Nat} {n n' : Bool} {a b : List Nat} {A B : Option Addr} {ca cb : Nat} (k : Nat) (hi : i ≤ 1073741824) (hj : j ≤ 1073741824) (hk : i ≤ k) (hk' : j ≤ k) (ha : HW M i n a ca) (hb : HW N j n' b cb) (w : World) (r : Rd w (fun g => g < w.heap.size) .u32 A a) (q : Rd w (fun g => g < w.heap.size) .u32 B b) :
    Calls Tryz.prog 54 #[.agg #[.bool n, .slice A a.length ca], .agg #[.bool n', .slice B b.length cb]] w (GvW (M - N) (k + 1) w) := by
  have h := whole_Sub n n' a b A B ca cb w r q (Nat.le_trans ha.2.2.1 hi) (Nat.le_trans hb.2.2.1 hj) ha.1 hb.1 ha.2.1 hb.2.1
  rw [ha.2.2.2, hb.2.2.2] at h
  refine h.mono fun _ _ => gvw_of ?_
  have e1 := Nat.lt_of_lt_of_le ha.lt (Nat.pow_le_pow_right (n := 4294967296) (by omega) hk)
  have e2 := Nat.lt_of_lt_of_le hb.lt (Nat.pow_le_pow_right (n := 4294967296) (by omega) hk')
  have e3 := Int.natAbs_sub_le M N
  rw [Nat.pow_succ]
  omega
theorem HD.toW {D k : Nat} {d : List Nat} {cd : Nat} (h : HD D k d cd) : HW (D : Int) k false d cd := ⟨h.1, h.2.1, h.2.2.1, by rw [wv_false, h.2.2.2]⟩

set_option maxRecDepth 10000 in
set_option maxHeartbeats 800000 in
/-- a whole number times a natural one -/
theorem spot_times {N : Int} {D i j : Nat} {n : Bool} {a d : List Nat} {A X : Option Addr} {ca cd : Nat} (hi : i ≤ 536870912) (hj : j ≤ 536870912) (ha : HW N i n a ca) (hd : HD D j d cd) (w : World) (h : Rd w (fun g => g < w.heap.size) .u32 A a) (h' : Rd w (fun g => g < w.heap.size) .u32 X d) :
    Calls Tryz.prog 52 #[.agg #[.bool n, .slice A a.length ca], .slice X d.length cd] w (GvW (N * (D : Int)) (i + j) w) := by
  obtain ⟨z, hb⟩ := isBits_some (val 4294967296 d)
  obtain ⟨W, hW, k1, k2, b0, s0⟩ := bxb w 24 24 [.bool n, .slice A a.length ca] [.bool false, .slice none 0 0]
  obtain ⟨p0, p1, -, -⟩ := k1.facts2
  obtain ⟨i0, i1, i2, i3⟩ := k2.facts2
  have cB := nat_Bits_at d X cd z W (h'.on b0) (by have := hd.2.2.1; omega) hd.1 hd.2.1 hb
  have hzi := isBits_one_iff hb
  clear hb
  by_cases hz : z = 1
  · subst hz
    have hD : D = 1 := by rw [← hd.2.2.2]; exact hzi.1 rfl
    subst hD
    obtain ⟨U, hU, hF, hG⟩ := fin_gvw (w := w) k2 (by omega) b0 (show HW (N * ((1 : Nat) : Int)) (i + j) n a ca from ⟨ha.1, ha.2.1, Nat.le_trans ha.2.2.1 (by omega), by rw [ha.2.2.2]; simp⟩) (h.on b0)
    have HU := Lib.hid hU
    have HF := Lib.hid hF
    have HG := Lib.hid hG
    clear hU hF hG hzi k1 k2 ha hd
    go_enter Tryz.func52, Tryz.ntmps52
    go_wp2_with fail
    try rw [hW]
    clear hW
    refine cB.mono ?_
    rintro e w1 ⟨rfl, rfl⟩
    clear cB
    go_wp2_with fail
    rw [HU.out]
    obtain ⟨u0, u1⟩ := HF.out
    exact bodyPost_ret (by simp [results, Tryz.results52, go_sem, u0, u1]) rfl HG.out
  · have hzb : ((z : Int) == 1) = false := by simp; omega
    have cM := fun (V : World) (hV : Below W.heap.size W V) => whole_mul_hw (by omega) (by omega) ha hd.toW V ((h.on b0).on hV) ((h'.on b0).on hV)
    obtain ⟨M, hM⟩ : ∃ M, N * (D : Int) = M := ⟨_, rfl⟩
    simp only [hM] at cM
    rw [hM]
    clear hM hzi ha hd
    go_enter Tryz.func52, Tryz.ntmps52
    go_wp2_with fail
    try rw [hW]
    clear hW
    refine cB.mono ?_
    rintro e w1 ⟨rfl, rfl⟩
    clear cB
    go_wp2_with fail
    refine (cM _ (Below.refl _ _)).mono ?_
    rintro e w2 ⟨n2, a2, A2, c2, rfl, hs, r, b2⟩
    have K := k2.below b2 k2.lt
    obtain ⟨i0, i1, i2, i3⟩ := K.facts2
    obtain ⟨U, hU, hF, hG⟩ := fin_gvw (w := w) K (by omega) (b0.trans (b2.mono b0.size)) hs r
    have HU := Lib.hid hU
    have HF := Lib.hid hF
    have HG := Lib.hid hG
    clear hU hF hG k1 k2 K cM hs r
    go_wp2_with fail
    rw [HU.out]
    obtain ⟨u0, u1⟩ := HF.out
    exact bodyPost_ret (by simp [results, Tryz.results52, go_sem, u0, u1]) rfl HG.out

set_option maxRecDepth 10000 in
set_option maxHeartbeats 800000 in
/-- a product of two whole numbers and two natural ones -/
theorem spot_product {M N : Int} {D E i j k l : Nat} {n n' : Bool} {a a' d d' : List Nat} {A A' X X' : Option Addr} {ca ca' cd cd' : Nat} (hs : i + j + k + l ≤ 134217728) (ha : HW M i n a ca) (ha' : HW N j n' a' ca') (hd : HD D k d cd) (hd' : HD E l d' cd') (w : World) (h : Rd w (fun g => g < w.heap.size) .u32 A a) (h' : Rd w (fun g => g < w.heap.size) .u32 A' a') (q : Rd w (fun g => g < w.heap.size) .u32 X d) (q' : Rd w (fun g => g < w.heap.size) .u32 X' d') :
    Calls Tryz.prog 27 #[.agg #[.bool n, .slice A a.length ca], .agg #[.bool n', .slice A' a'.length ca'], .slice X d.length cd, .slice X' d'.length cd'] w (GvW (M * N * (D : Int) * (E : Int)) (i + j + k + l) w) := by
  obtain ⟨W, hW, k1, k2, k3, b0, s0⟩ := bxc w 24 24 24 [.bool n, .slice A a.length ca] [.bool n', .slice A' a'.length ca'] [.bool false, .slice none 0 0]
  obtain ⟨p0, p1, -, -⟩ := k1.facts2
  obtain ⟨z0, z1, -, -⟩ := k2.facts2
  have cM := whole_mul_hw (by omega) (by omega) ha ha' W (h.on b0) (h'.on b0)
  have cT := fun (V : World) (hV : Below W.heap.size W V) (n2 : Bool) (a2 : List Nat) (A2 : Option Addr) (c2 : Nat) (h2 : HW (M * N) (i + j) n2 a2 c2) (r2 : Rd V (fun g => g < V.heap.size) .u32 A2 a2) => spot_times (by omega) (by omega) h2 hd V r2 ((q.on b0).on hV)
  have cU := fun (V : World) (hV : Below W.heap.size W V) (n2 : Bool) (a2 : List Nat) (A2 : Option Addr) (c2 : Nat) (h2 : HW (M * N * (D : Int)) (i + j + k) n2 a2 c2) (r2 : Rd V (fun g => g < V.heap.size) .u32 A2 a2) => spot_times (by omega) (by omega) h2 hd' V r2 ((q'.on b0).on hV)
  obtain ⟨M1, hM1⟩ : ∃ x, M * N = x := ⟨_, rfl⟩
  simp only [hM1] at cM cT cU ⊢
  obtain ⟨M2, hM2⟩ : ∃ x, M1 * (D : Int) = x := ⟨_, rfl⟩
  simp only [hM2] at cT cU ⊢
  obtain ⟨M3, hM3⟩ : ∃ x, M2 * (E : Int) = x := ⟨_, rfl⟩
  simp only [hM3] at cU ⊢
  have CT := Lib.hid cT
  have CU := Lib.hid cU
  clear cT cU hM1 hM2 hM3 ha ha' hd hd' h h' q q'
  go_enter Tryz.func27, Tryz.ntmps27
  go_wp2_with fail
  try rw [hW]
  clear hW
  refine cM.mono ?_
  rintro e w1 ⟨n2, a2, A2, c2, rfl, s2, r2, b1⟩
  clear cM
  go_wp2_with fail
  refine (CT.out _ b1 n2 a2 A2 c2 s2 r2).mono ?_
  rintro e w2 ⟨n3, a3, A3, c3, rfl, s3, r3, b2⟩
  have B2 := b1.trans (b2.mono b1.size)
  go_wp2_with fail
  refine (CU.out _ B2 n3 a3 A3 c3 s3 r3).mono ?_
  rintro e w3 ⟨n4, a4, A4, c4, rfl, s4, r4, b3⟩
  have B3 := B2.trans (b3.mono B2.size)
  have K := k3.below B3 k3.lt
  obtain ⟨i0, i1, i2, i3⟩ := K.facts2
  obtain ⟨U, hU, hF, hG⟩ := fin_gvw (w := w) K (by omega) (b0.trans (B3.mono b0.size)) s4 r4
  have HU := Lib.hid hU
  have HF := Lib.hid hF
  have HG := Lib.hid hG
  clear hU hF hG k1 k2 k3 K CT CU s2 s3 s4 r2 r3 r4
  go_wp2_with fail
  rw [HU.out]
  obtain ⟨u0, u1⟩ := HF.out
  exact bodyPost_ret (by simp [results, Tryz.results27, go_sem, u0, u1]) rfl HG.out

set_option maxRecDepth 10000 in
set_option maxHeartbeats 3200000 in
/-- what leads from one fraction to another, times both lower parts -/
theorem spot_gap {P1 P2 : Int} {Q1 Q2 i j : Nat} {n1 n2 : Bool} {a1 d1 a2 d2 : List Nat} {A1 D1 A2 D2 : Option Addr} {c1 e1 c2 e2 : Nat} (hi : i ≤ 134217728) (hj : j ≤ 134217728) (hS : SH P1 Q1 i n1 a1 c1 d1 e1) (hT : SH P2 Q2 j n2 a2 c2 d2 e2) (w : World) (h : Rd w (fun g => g < w.heap.size) .u32 A1 a1) (h' : Rd w (fun g => g < w.heap.size) .u32 D1 d1) (q : Rd w (fun g => g < w.heap.size) .u32 A2 a2) (q' : Rd w (fun g => g < w.heap.size) .u32 D2 d2) :
    Calls Tryz.prog 28 #[.agg #[.bool n1, .slice A1 a1.length c1, .slice D1 d1.length e1], .agg #[.bool n2, .slice A2 a2.length c2, .slice D2 d2.length e2]] w (GvW (P2 * (Q1 : Int) - P1 * (Q2 : Int)) (i + j + 1) w) := by
  obtain ⟨W, hW, k1, k2, k3, b0, s0⟩ := bxc w 26 26 24 [.bool n1, .slice A1 a1.length c1, .slice D1 d1.length e1] [.bool n2, .slice A2 a2.length c2, .slice D2 d2.length e2] [.bool false, .slice none 0 0]
  obtain ⟨p0, p1, p2, p3, p4, p5⟩ := k1.facts
  obtain ⟨z0, z1, z2, z3, z4, z5⟩ := k2.facts
  obtain ⟨h1, h2, h3, h4, h5, h6, h7, h8⟩ := hS
  obtain ⟨g1, g2, g3, g4, g5, g6, g7, g8⟩ := hT
  have w1 : HW P1 i n1 a1 c1 := ⟨h1, h3, h5, h7⟩
  have w2 : HW P2 j n2 a2 c2 := ⟨g1, g3, g5, g7⟩
  have v1 : HD Q1 i d1 e1 := ⟨h2, h4, h6, h8⟩
  have v2 : HD Q2 j d2 e2 := ⟨g2, g4, g6, g8⟩
  have cX := fun (V : World) (hV : Below W.heap.size W V) => spot_times (A := A2) (X := D1) (by omega) (by omega) w2 v1 V ((q.on b0).on hV) ((h'.on b0).on hV)
  have cY := fun (V : World) (hV : Below W.heap.size W V) => spot_times (A := A1) (X := D2) (by omega) (by omega) w1 v2 V ((h.on b0).on hV) ((q'.on b0).on hV)
  have cS := fun (V : World) (n n' : Bool) (a b : List Nat) (A B : Option Addr) (ca cb : Nat) (ha : HW (P2 * (Q1 : Int)) (j + i) n a ca) (hb : HW (P1 * (Q2 : Int)) (i + j) n' b cb) (r : Rd V (fun g => g < V.heap.size) .u32 A a) (r' : Rd V (fun g => g < V.heap.size) .u32 B b) => whole_sub_hw (i + j) (by omega) (by omega) (by omega) (by omega) ha hb V r r'
  obtain ⟨M, hM⟩ : ∃ x, P2 * (Q1 : Int) = x := ⟨_, rfl⟩
  obtain ⟨N, hN⟩ : ∃ x, P1 * (Q2 : Int) = x := ⟨_, rfl⟩
  simp only [hM] at cX cS ⊢
  simp only [hN] at cY cS ⊢
  obtain ⟨L, hL⟩ : ∃ x, M - N = x := ⟨_, rfl⟩
  simp only [hL] at cS ⊢
  have CX := Lib.hid cX
  have CY := Lib.hid cY
  have CS := Lib.hid cS
  have HK1 := Lib.hid k1
  have HK2 := Lib.hid k2
  have HK3 := Lib.hid k3
  have HB0 := Lib.hid b0
  have K0 : Below W.heap.size W W.drew := below_drewN (Below.refl _ _) 1
  have hlt : w.heap.size + 2 < W.heap.size := by omega
  clear cX cY cS hM hN hL w1 w2 v1 v2 h1 h2 h3 h4 h5 h6 h7 h8 g1 g2 g3 g4 g5 g6 g7 g8 h h' q q' k1 k2 k3 b0 s0
  go_enter Tryz.func28, Tryz.ntmps28
  go_wp2_with fail
  try rw [hW]
  clear hW
  go_region_held3 (fun w' => (w'.cell? ⟨w.heap.size, 0, none⟩ = some (.bool n1) ∧ w'.cell? ⟨w.heap.size, 1, none⟩ = some (.slice A1 a1.length c1) ∧ w'.cell? ⟨w.heap.size, 2, none⟩ = some (.slice D1 d1.length e1)) ∧ (w'.cell? ⟨w.heap.size + 1, 0, none⟩ = some (.bool n2) ∧ w'.cell? ⟨w.heap.size + 1, 1, none⟩ = some (.slice A2 a2.length c2) ∧ w'.cell? ⟨w.heap.size + 1, 2, none⟩ = some (.slice D2 d2.length e2)))
    (first | (with_reducible exact ⟨keep3 HK1.out K0, keep3 HK2.out K0⟩) | (with_reducible exact ⟨keep3 HK1.out KA, keep3 HK2.out KA⟩) | (with_reducible exact ⟨keep3 HK1.out KB, keep3 HK2.out KB⟩) | (with_reducible exact ⟨keep3 HK1.out KC, keep3 HK2.out KC⟩) | (with_reducible exact ⟨keep3s (HK1.out.below KC HK1.out.lt) (by omega) _ _, keep3s (HK2.out.below KC HK2.out.lt) (by omega) _ _⟩) | go_keep)
    ((first
      | (go_at_call_of 52 (Value.slice D1 d1.length e1); (with_reducible refine Calls.mono (CX.out _ K0) ?_); rintro e w2 ⟨m3, x3, X3, y3, rfl, s3, r3, b2⟩; have KA := below_next K0 (Nat.le_refl _) b2)
      | (go_at_call_of 52 (Value.slice D2 d2.length e2); (with_reducible refine Calls.mono (CY.out _ KA) ?_); rintro e w3 ⟨m4, x4, X4, y4, rfl, s4, r4, b3⟩; have KB := below_next KA (Nat.le_refl _) b3)
      | (go_at_call 54; (with_reducible refine Calls.mono (CS.out _ m3 m4 x3 x4 X3 X4 y3 y4 s3 s4 (r3.on b3) r4) ?_); rintro e w4 ⟨m5, x5, X5, y5, rfl, s5, r5, b4⟩; have KC := below_next KB (Nat.le_refl _) b4; obtain ⟨i0, i1, i2, i3⟩ := (HK3.out.below KC HK3.out.lt).facts2)))
  obtain ⟨U, hU, hF, hG⟩ := fin_gvw (w := w) (HK3.out.below KC HK3.out.lt) (by omega) (HB0.out.trans (KC.mono HB0.out.size)) s5 r5
  have HU := Lib.hid hU
  have HF := Lib.hid hF
  have HG := Lib.hid hG
  clear hU hF hG i0 i1 i2 i3 CX CY CS s3 s4 s5 r3 r4 r5
  go_wp2_with fail
  rw [HU.out]
  obtain ⟨u0, u1⟩ := HF.out
  exact bodyPost_ret (by simp [results, Tryz.results28, go_sem, u0, u1]) rfl HG.out
end Go.Proofs.YtkgedgaddpojkaaGreatDoor
