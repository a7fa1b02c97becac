/- Fractions: what the program's own Text answers. -/
import Derived.Test.YtidbpkibjficnaaGreatDoorZFpY
import Derived.Test.YtidbpkibjficnaaGreatDoorZFrM
import Derived.Test.YtidbpkibjficnaaGreatDoorZLawF
import Derived.Test.YtidbpkibjficnaaGreatDoorZFpH
namespace Go.Proofs.YtidbpkibjficnaaGreatDoor
open Go.RowKit Num

set_option maxRecDepth 10000 in
set_option maxHeartbeats 1600000 in
/-- a fraction's text -/
theorem frac_Text (P : Int) (Q m : Nat) (hQ : 0 < Q) (hm1 : 1 ≤ m) (hm : m ≤ 2097152) (n : Bool) (a d : List Nat) (A D : Option Addr) (ca cd : Nat) (w : World) (hS : SI P Q m n a ca d cd) (h : Rd w (fun g => g < w.heap.size) .u32 A a) (h' : Rd w (fun g => g < w.heap.size) .u32 D d) (htab : Tab w) :
    Calls Tryz.prog 43 #[.agg #[.bool n, .slice A a.length ca, .slice D d.length cd]] w (fun e w' => e = .returned (.string ⟨(ftext P Q).toArray⟩) ∧ Below w.heap.size w w') := by
  obtain ⟨W, hW, k1, b0, s0⟩ := bx1 w 26 (.bool n) (.slice A a.length ca) (.slice D d.length cd)
  obtain ⟨p0, p1, p2, -, -, -⟩ := k1.facts
  have h := h.on b0
  have h' := h'.on b0
  have cR := fun (V : World) (hV : Below W.heap.size W V) => frac_Reduce P Q m hQ hm1 (by omega) n a d A D ca cd V hS (h.on hV) (h'.on hV)
  go_enter Tryz.func43, Tryz.ntmps43
  go_wp2_with fail
  try rw [hW]
  clear hW
  refine (cR W (Below.refl _ _)).mono ?_
  rintro e w1 ⟨n1, x, X, cx, y, Y, cy, rfl, hs, r1, q1, b1⟩
  obtain ⟨rfl, hcx, hcy, hnx, hny, hvx, hvy⟩ := hs
  have lx := hnx.2.length_le (b := 4294967296) (n := m) (by omega) (by
    rw [hvx]
    refine Nat.lt_of_le_of_lt (Nat.div_le_self _ _) ?_
    rw [← hS.2.2.2.2.2.2.1]
    exact Nat.lt_of_le_of_lt (up_abs n a d) (Nat.lt_of_lt_of_le (val_lt hS.2.2.1) (Nat.pow_le_pow_right (by omega) hS.2.2.2.2.1)))
  have ly := hny.2.length_le (b := 4294967296) (n := m) (by omega) (by
    rw [hvy]
    refine Nat.lt_of_le_of_lt (Nat.div_le_self _ _) ?_
    rw [← hS.2.2.2.2.2.2.2]
    unfold loD
    have := Nat.pow_le_pow_right (n := 4294967296) (by omega) hm1
    split
    · omega
    · exact Nat.lt_of_lt_of_le (val_lt hS.2.2.2.1) (Nat.pow_le_pow_right (by omega) hS.2.2.2.2.2.1))
  obtain ⟨V, hV, KV, bV, sV⟩ := bx1 w1 26 (.bool (decide (P < 0))) (.slice X x.length cx) (.slice Y y.length cy)
  have BV := (b0.trans (b1.mono b0.size)).trans (bV.mono (Nat.le_trans b0.size b1.size))
  have rx := r1.on bV
  have qy := q1.on bV
  have hlv := KV.lt
  have cN := fun (Z : World) (hZ : Below V.heap.size V Z) => whole_Text (decide (P < 0)) x X cx Z (rx.on hZ) (by omega) hcx hnx.1 (htab.on (BV.trans (hZ.mono BV.size)))
  have cD := fun (Z : World) (hZ : Below V.heap.size V Z) => nat_Text y Y cy _ Z (qy.on hZ) (fun g hg => hg) (by omega) hcy hny.1 (htab.on (BV.trans (hZ.mono BV.size)))
  rw [ftop_of hvx] at cN
  rw [hvy] at cD
  have lN : (wtext (ftop P Q)).length ≤ 4000000000000 := by
    have h1 := wtext_len (ftop P Q)
    rw [← ftop_of hvx, wv_abs] at h1
    have h2 := dec_len_words (val_lt hnx.1)
    rw [ftop_of hvx] at h1
    omega
  have lD : (Lib.decDigits (Q / Nat.gcd P.natAbs Q)).length ≤ 4000000000000 := by
    have h2 := dec_len_words (val_lt hny.1)
    rw [hvy] at h2
    omega
  have cI := fun (b : Bool) (hb : decide (val 4294967296 y = 1) = b) => frac_isOne y Y cy V qy (by omega) hcy hny.1 b hb
  rw [hvy] at cI
  obtain ⟨N, hN⟩ : ∃ N, wtext (ftop P Q) = N := ⟨_, rfl⟩
  obtain ⟨M, hM⟩ : ∃ M, Lib.decDigits (Q / Nat.gcd P.natAbs Q) = M := ⟨_, rfl⟩
  have HF := Lib.hid (show ftext P Q = if Q / Nat.gcd P.natAbs Q = 1 then N else N ++ 47 :: M by rw [← hN, ← hM]; rfl)
  rw [hN] at lN
  rw [hM] at lD
  simp only [hN] at cN
  simp only [hM] at cD
  have CN := Lib.hid cN
  have CD := Lib.hid cD
  have HKV := Lib.hid KV
  have HBV := Lib.hid BV
  have HVV := Lib.hid hV
  clear cN cD hN hM rx qy r1 q1 KV bV BV hvx hvy b1 b0 k1 hV h h' cR p0 p1 p2 hS lx ly hnx hny
  obtain ⟨x0, x1, x2⟩ := keep3 HKV.out (Below.refl _ _)
  by_cases h1 : Q / Nat.gcd P.natAbs Q = 1
  · have cI := cI true (decide_eq_true h1)
    have HT := Lib.hid (show ftext P Q = N by rw [HF.out, if_pos h1])
    clear h1 HF
    go_wp2_with fail
    rw [HVV.out]
    refine cI.mono ?_
    rintro e w2 ⟨rfl, rfl⟩
    go_wp2_with fail
    refine (CN.out _ (Below.refl _ _)).mono ?_
    rintro e w3 ⟨rfl, b3⟩
    have B3 := HBV.out.trans (b3.mono HBV.out.size)
    go_wp2_with fail
    go_ret
    exact ⟨by rw [HT.out]; rfl, B3⟩
  · have cI := cI false (decide_eq_false h1)
    have HT := Lib.hid (show ftext P Q = N ++ 47 :: M by rw [HF.out, if_neg h1])
    clear h1 HF
    go_wp2_with fail
    rw [HVV.out]
    refine cI.mono ?_
    rintro e w2 ⟨rfl, rfl⟩
    have K0' : Below V.heap.size V V.drew := below_drewN (Below.refl V.heap.size V) 1
    clear cI
    go_wp2_with fail
    have hs1 : ¬ 9223372036854775807 < N.length + 1 := by omega
    have hs2 : ¬ 9223372036854775807 < N.length + 1 + M.length := by omega
    go_region_held3 (fun w' => w'.cell? ⟨w1.heap.size, 0, none⟩ = some (.bool (decide (P < 0))) ∧ w'.cell? ⟨w1.heap.size, 1, none⟩ = some (.slice X x.length cx) ∧ w'.cell? ⟨w1.heap.size, 2, none⟩ = some (.slice Y y.length cy))
      (first | (with_reducible exact keep3 HKV.out K0') | exact keep3 HKV.out K0' | (with_reducible exact keep3 HKV.out KA) | (with_reducible exact keep3 HKV.out KB) | go_keep)
      ((first
        | (go_at_call 87; (with_reducible refine Calls.mono (CN.out _ K0') ?_); rintro e w3 ⟨rfl, b3⟩; have KA := below_next K0' (Nat.le_refl _) b3)
        | (go_at_call 88; (with_reducible refine Calls.mono (CD.out _ KA) ?_); rintro e w4 ⟨rfl, b4⟩; have KB := below_next KA (Nat.le_refl _) b4)))
    all_goals
      have B3 := HBV.out.trans (KB.mono HBV.out.size)
      go_wp2_with fail
      go_ret
      exact ⟨by rw [HT.out, ← text_join]; rfl, B3⟩
end Go.Proofs.YtidbpkibjficnaaGreatDoor
/- Fractions: what the program's own Floor and Round answer. -/

namespace Go.Proofs.YtidbpkibjficnaaGreatDoor
open Go.RowKit Num

/-- the contract of what answers a whole number of one fraction -/
abbrev Fw (f : FuncId) (S : Shape) (N : Int) : Prop := ∀ (n : Bool) (a d : List Nat) (A D : Option Addr) (ca cd : Nat) (w : World), S n a ca d cd → Rd w (fun g => g < w.heap.size) .u32 A a → Rd w (fun g => g < w.heap.size) .u32 D d → Calls Tryz.prog f #[.agg #[.bool n, .slice A a.length ca, .slice D d.length cd]] w (GivesW N w)
theorem fin_whole {w v : World} {g : Nat} {t : TypeId} (k : Blk v g t [.bool false, .slice none 0 0]) (hg : w.heap.size ≤ g) (B : Below w.heap.size w v) {N : Int} {A : Option Addr} {x : List Nat} {c : Nat} (hc : x.length ≤ c) (hn : Norm 4294967296 x) (hv : val 4294967296 x = N.natAbs) (r : Rd v (fun g => g < v.heap.size) .u32 A x) :
    ∃ U, (v.setCell ⟨g, 0, none⟩ (.bool (decide (N < 0)))).setCell ⟨g, 1, none⟩ (.slice A x.length c) = U ∧ U.cell? ⟨g, 0, none⟩ = some (.bool (decide (N < 0))) ∧ U.cell? ⟨g, 1, none⟩ = some (.slice A x.length c) ∧ GivesW N w (.returned (.agg #[.bool (decide (N < 0)), .slice A x.length c])) U :=
  ⟨_, rfl, (k.pair _ _).cell 0 rfl, (k.pair _ _).cell 1 rfl, A, x, c, rfl, hc, hn, hv, r.far2 k _ _, (B.setCell hg _).setCell hg _⟩
theorem keep3s {v : World} {g g' : Nat} {t : TypeId} {a0 a1 a2 : Value} (k : Blk v g t [a0, a1, a2]) (hne : g ≠ g') (u0 u1 : Value) :
    ((v.setCell ⟨g', 0, none⟩ u0).setCell ⟨g', 1, none⟩ u1).cell? ⟨g, 0, none⟩ = some a0 ∧ ((v.setCell ⟨g', 0, none⟩ u0).setCell ⟨g', 1, none⟩ u1).cell? ⟨g, 1, none⟩ = some a1 ∧ ((v.setCell ⟨g', 0, none⟩ u0).setCell ⟨g', 1, none⟩ u1).cell? ⟨g, 2, none⟩ = some a2 := by
  have k' := (k.far (p := ⟨g', 0, none⟩) hne u0).far (p := ⟨g', 1, none⟩) hne u1
  exact ⟨k'.cell 0 rfl, k'.cell 1 rfl, k'.cell 2 rfl⟩

set_option maxRecDepth 10000 in
set_option maxHeartbeats 1600000 in
/-- the greatest whole number that is not above -/
theorem frac_Floor_gen (S T : Shape) (N : Int) (cH : Fn1 60 S T) (cL : Fw 79 T N) : Fw 39 S N := by
  intro n a d A D ca cd w hS h h'
  obtain ⟨W, hW, k1, kr, b0, s0⟩ := bxw w 26 (.bool n) (.slice A a.length ca) (.slice D d.length cd)
  obtain ⟨p0, p1, p2, -, -, -⟩ := k1.facts
  have h := h.on b0
  have h' := h'.on b0
  obtain ⟨i0, i1, i3, i4⟩ := kr.facts2
  have K0 : Below W.heap.size W W.drew := below_drewN (Below.refl _ _) 1
  have KI : Below W.heap.size W W := Below.refl _ _
  have HK1 := Lib.hid k1
  have HKR := Lib.hid kr
  have HB0 := Lib.hid b0
  have hlt : w.heap.size + 1 < W.heap.size := by omega
  have CH := Lib.hid cH
  have CL := Lib.hid cL
  clear cH cL
  clear k1 kr b0
  go_enter Tryz.func39, Tryz.ntmps39
  go_wp2_with fail
  try rw [hW]
  clear hW
  refine Calls.mono (CH.out n a d A D ca cd _ hS (h.on KI) (h'.on KI)) ?_
  rintro e w1 ⟨n2, a2, X2, c2, d2, Y2, e2, rfl, s2, r2, q2, b1⟩
  have KA := below_next KI (Nat.le_refl _) b1
  obtain ⟨p0, p1, p2⟩ := keep3 HK1.out KA
  obtain ⟨i0, i1, i3, i4⟩ := (HKR.out.below KA HKR.out.lt).facts2
  go_wp2_with fail
  refine Calls.mono (CL.out n2 a2 d2 X2 Y2 c2 e2 _ s2 r2 q2) ?_
  rintro e w2 ⟨X9, x9, c9, rfl, hc9, hn9, hv9, r9, b2⟩
  have KB := below_next KA (Nat.le_refl _) b2
  obtain ⟨p0, p1, p2⟩ := keep3 HK1.out KB
  obtain ⟨i0, i1, i3, i4⟩ := (HKR.out.below KB HKR.out.lt).facts2
  obtain ⟨Z, hZ, u0, u1, hG⟩ := fin_whole (w := w) (HKR.out.below KB HKR.out.lt) (by omega) (HB0.out.trans (KB.mono HB0.out.size)) (N := N) hc9 hn9 hv9 r9
  have HZ := Lib.hid hZ
  have HF := Lib.hid (And.intro u0 u1)
  have HG := Lib.hid hG
  clear hZ u0 u1 hG CH CL r2 q2 r9 hv9 hn9
  go_wp2_with fail
  rw [HZ.out]
  obtain ⟨u0, u1⟩ := HF.out
  exact bodyPost_ret (by simp [results, Tryz.results39, go_sem, u0, u1]) rfl HG.out

set_option maxRecDepth 10000 in
set_option maxHeartbeats 1600000 in
/-- the nearest whole number -/
theorem frac_Round_gen (S T T1 T2 T3 : Shape) (N : Int) (cH : Fn1 60 S T) (cI : ∀ w : World, Calls Tryz.prog 28 #[.int .i64 1] w (Gv T1 w)) (cF : Fn1 58 T1 T2) (cP : Fn2 47 T T2 T3) (cL : Fw 79 T3 N) : Fw 40 S N := by
  intro n a d A D ca cd w hS h h'
  obtain ⟨W, hW, k1, kr, b0, s0⟩ := bxw w 26 (.bool n) (.slice A a.length ca) (.slice D d.length cd)
  obtain ⟨p0, p1, p2, -, -, -⟩ := k1.facts
  have h := h.on b0
  have h' := h'.on b0
  obtain ⟨i0, i1, i3, i4⟩ := kr.facts2
  have K0 : Below W.heap.size W W.drew := below_drewN (Below.refl _ _) 1
  have KI : Below W.heap.size W W := Below.refl _ _
  have HK1 := Lib.hid k1
  have HKR := Lib.hid kr
  have HB0 := Lib.hid b0
  have hlt : w.heap.size + 1 < W.heap.size := by omega
  have CH := Lib.hid cH
  have CI := Lib.hid cI
  have CF := Lib.hid cF
  have CP := Lib.hid cP
  have CL := Lib.hid cL
  clear cH cI cF cP cL
  clear k1 kr b0
  go_enter Tryz.func40, Tryz.ntmps40
  go_wp2_with fail
  try rw [hW]
  clear hW
  refine Calls.mono (CH.out n a d A D ca cd _ hS (h.on KI) (h'.on KI)) ?_
  rintro e w1 ⟨n2, a2, X2, c2, d2, Y2, e2, rfl, s2, r2, q2, b1⟩
  have KA := below_next KI (Nat.le_refl _) b1
  obtain ⟨p0, p1, p2⟩ := keep3 HK1.out KA
  obtain ⟨i0, i1, i3, i4⟩ := (HKR.out.below KA HKR.out.lt).facts2
  go_wp2_with fail
  refine Calls.mono (CI.out _) ?_
  rintro e w2 ⟨n3, a3, X3, c3, d3, Y3, e3, rfl, s3, r3, q3, b2⟩
  have KB := below_next KA (Nat.le_refl _) b2
  obtain ⟨p0, p1, p2⟩ := keep3 HK1.out KB
  obtain ⟨i0, i1, i3, i4⟩ := (HKR.out.below KB HKR.out.lt).facts2
  go_wp2_with fail
  refine Calls.mono (CF.out n3 a3 d3 X3 Y3 c3 e3 _ s3 r3 q3) ?_
  rintro e w3 ⟨n4, a4, X4, c4, d4, Y4, e4, rfl, s4, r4, q4, b3⟩
  have KC := below_next KB (Nat.le_refl _) b3
  obtain ⟨p0, p1, p2⟩ := keep3 HK1.out KC
  obtain ⟨i0, i1, i3, i4⟩ := (HKR.out.below KC HKR.out.lt).facts2
  go_wp2_with fail
  refine Calls.mono (CP.out n2 n4 a2 d2 a4 d4 X2 Y2 X4 Y4 c2 e2 c4 e4 _ s2 s4 (r2.on (b2.trans (b3.mono b2.size))) (q2.on (b2.trans (b3.mono b2.size))) r4 q4) ?_
  rintro e w4 ⟨n5, a5, X5, c5, d5, Y5, e5, rfl, s5, r5, q5, b4⟩
  have KD := below_next KC (Nat.le_refl _) b4
  obtain ⟨p0, p1, p2⟩ := keep3 HK1.out KD
  obtain ⟨i0, i1, i3, i4⟩ := (HKR.out.below KD HKR.out.lt).facts2
  go_wp2_with fail
  refine Calls.mono (CL.out n5 a5 d5 X5 Y5 c5 e5 _ s5 r5 q5) ?_
  rintro e w5 ⟨X9, x9, c9, rfl, hc9, hn9, hv9, r9, b5⟩
  have KE := below_next KD (Nat.le_refl _) b5
  obtain ⟨p0, p1, p2⟩ := keep3 HK1.out KE
  obtain ⟨i0, i1, i3, i4⟩ := (HKR.out.below KE HKR.out.lt).facts2
  obtain ⟨Z, hZ, u0, u1, hG⟩ := fin_whole (w := w) (HKR.out.below KE HKR.out.lt) (by omega) (HB0.out.trans (KE.mono HB0.out.size)) (N := N) hc9 hn9 hv9 r9
  have HZ := Lib.hid hZ
  have HF := Lib.hid (And.intro u0 u1)
  have HG := Lib.hid hG
  clear hZ u0 u1 hG CH CI CF CP CL r2 q2 r3 q3 r4 q4 r5 q5 r9 hv9 hn9
  go_wp2_with fail
  rw [HZ.out]
  obtain ⟨u0, u1⟩ := HF.out
  exact bodyPost_ret (by simp [results, Tryz.results40, go_sem, u0, u1]) rfl HG.out

theorem frac_Floor (P : Int) (Q m : Nat) (hQ : 0 < Q) (hm1 : 1 ≤ m) (hm : m ≤ 4194304) : Fw 39 (SI P Q m) (P / (Q : Int)) :=
  frac_Floor_gen _ _ _ (hold_R P Q m hQ hm1 hm) fun n a d A D ca cd w => ratio_floor P Q m hQ hm n a d A D ca cd w
theorem frac_Round (P : Int) (Q m : Nat) (hQ : 0 < Q) (hm1 : 1 ≤ m) (hm : m ≤ 2097149) : Fw 40 (SI P Q m) ((P * 2 + Q) / ((Q * 2 : Nat) : Int)) := by
  have h := frac_Round_gen (SI P Q m) (SR P Q (m + 1)) (SR 1 1 m) (SR 1 (1 * 2) (m + 1)) (SR (P * ((1 * 2 : Nat) : Int) + 1 * (Q : Int)) (Q * (1 * 2)) (m + 1 + (m + 1) + 1)) ((P * ((1 * 2 : Nat) : Int) + 1 * (Q : Int)) / ((Q * (1 * 2) : Nat) : Int))
    ((hold_R P Q m hQ hm1 (by omega)).imp (fun _ _ _ _ _ h => h) fun _ _ _ _ _ => SR.wide (by omega))
    (fun w => (frac_Int 1 (by omega) (by omega) w).mono fun _ _ => Gv.imp fun _ _ _ _ _ => SF.toR (by omega) (by
      have := Nat.pow_le_pow_right (n := 4294967296) (by omega) hm1
      exact Nat.lt_of_lt_of_le (by decide) this) (by
      have := Nat.pow_le_pow_right (n := 4294967296) (by omega) hm1
      exact Nat.lt_of_lt_of_le (by decide) this))
    (ratio_half 1 1 m (by omega)) (ratio_plus P 1 Q (1 * 2) (m + 1) (by omega))
    (fun n a d A D ca cd w => ratio_floor _ _ (m + 1 + (m + 1) + 1) (by omega) (by omega) n a d A D ca cd w)
  rwa [Int.one_mul, Nat.one_mul] at h
end Go.Proofs.YtidbpkibjficnaaGreatDoor
