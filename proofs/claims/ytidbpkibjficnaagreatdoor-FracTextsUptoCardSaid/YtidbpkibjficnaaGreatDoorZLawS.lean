/- The law FracTexts: each text is that of one fraction. -/
import Derived.Test.YtidbpkibjficnaaGreatDoorZFrP
import Derived.Test.YtidbpkibjficnaaGreatDoorZFpZ
import Derived.Test.YtidbpkibjficnaaGreatDoorZFpV
import Derived.Test.YtidbpkibjficnaaGreatDoorZFrV
import Derived.Deep.RegionWith
import Derived.Deep.RegionHeld3
namespace Go.Proofs.YtidbpkibjficnaaGreatDoor
open Go.RowKit Num

theorem ftop_abs (P : Int) (Q : Nat) : (ftop P Q).natAbs = P.natAbs / Nat.gcd P.natAbs Q := by
  unfold ftop
  generalize P.natAbs / Nat.gcd P.natAbs Q = z
  split <;> omega
theorem ftop_neg {P : Int} {Q : Nat} (hQ : 0 < Q) : decide (ftop P Q < 0) = decide (P < 0) := by
  have hg : 0 < Nat.gcd P.natAbs Q := Nat.gcd_pos_of_pos_right _ hQ
  rw [decide_eq_decide]
  unfold ftop
  by_cases hp : P < 0
  · rw [if_pos hp]
    have : 0 < P.natAbs / Nat.gcd P.natAbs Q := Nat.div_pos (Nat.le_of_dvd (by omega) (Nat.gcd_dvd_left _ _)) hg
    generalize P.natAbs / Nat.gcd P.natAbs Q = z at this ⊢
    omega
  · rw [if_neg hp]
    generalize P.natAbs / Nat.gcd P.natAbs Q = z
    omega
theorem dec_le_wtext (N : Int) : (Lib.decDigits N.natAbs).length ≤ (wtext N).length := by
  unfold wtext
  split <;> simp
/-- a fraction's text is read as it, reduced -/
theorem ftext_tells {P : Int} {Q : Nat} (hQ : 0 < Q) (hl : (ftext P Q).length ≤ 2000) : IsFParse (ftext P Q) (ftop P Q) (Q / Nat.gcd P.natAbs Q) 0 := by
  have hg : 0 < Nat.gcd P.natAbs Q := Nat.gcd_pos_of_pos_right _ hQ
  have h1 : 0 < Q / Nat.gcd P.natAbs Q := Nat.div_pos (Nat.le_of_dvd hQ (Nat.gcd_dvd_right _ _)) hg
  have hw := dec_le_wtext (ftop P Q)
  refine .inl ⟨rfl, h1, by rw [ftop_abs]; exact Nat.gcd_div_gcd_div_gcd_of_pos_right hQ, rfl, ?_, ?_⟩
  · unfold ftext at hl
    split at hl
    · omega
    · rw [List.length_append] at hl
      omega
  · unfold ftext at hl
    split at hl
    · rename_i h
      rw [h]
      decide +kernel
    · rw [List.length_append, List.length_cons] at hl
      omega
theorem ftext_len {n : Bool} {a d : List Nat} {s : Nat} (ha : Dg 4294967296 a) (hd : Dg 4294967296 d) (hl : a.length + d.length ≤ s) : (ftext (upN n a d) (loD d)).length ≤ 10 * s + 20 := by
  obtain ⟨P, hP⟩ : ∃ P, upN n a d = P := ⟨_, rfl⟩
  obtain ⟨Q, hQ⟩ : ∃ Q, loD d = Q := ⟨_, rfl⟩
  have h1 : (ftop P Q).natAbs < 4294967296 ^ a.length := by
    rw [ftop_abs]
    refine Nat.lt_of_le_of_lt (Nat.div_le_self _ _) ?_
    rw [← hP]
    exact Nat.lt_of_le_of_lt (up_abs n a d) (val_lt ha)
  have h2 : Q / Nat.gcd P.natAbs Q < 4294967296 ^ (d.length + 1) := by
    refine Nat.lt_of_le_of_lt (Nat.div_le_self _ _) ?_
    rw [← hQ, Nat.pow_succ]
    have := val_lt hd
    have hp := Nat.pow_pos (n := d.length) (show 0 < 4294967296 by omega)
    unfold loD
    split <;> omega
  have e1 := dec_len_words h1
  have e2 := dec_len_words h2
  have e3 := wtext_len (ftop P Q)
  rw [hP, hQ]
  unfold ftext
  split
  · omega
  · rw [List.length_append, List.length_cons]
    omega
theorem same4_is (r : Bool) (n n' : Bool) (a d a' d' : List Nat) (A D A' D' : Option Addr) (ca cd ca' cd' : Nat) (w : World) (hr : decide ((n = n' ∧ a = a') ∧ d = d') = r) (h1 : Rd w (fun g => g < w.heap.size) .u32 A a) (h2 : Rd w (fun g => g < w.heap.size) .u32 D d) (h3 : Rd w (fun g => g < w.heap.size) .u32 A' a') (h4 : Rd w (fun g => g < w.heap.size) .u32 D' d') (hl1 : a.length ≤ 4611686018427387904) (hl2 : d.length ≤ 4611686018427387904) :
    Calls Tryz.prog 8 #[.agg #[.bool n, .slice A a.length ca, .slice D d.length cd], .agg #[.bool n', .slice A' a'.length ca', .slice D' d'.length cd']] w fun e w' => e = .returned (.bool r) ∧ Below w.heap.size w w' := by
  have := ref4_Same n n' a d a' d' A D A' D' ca cd ca' cd' w h1 h2 h3 h4 hl1 hl2
  rwa [hr] at this
/-- four boxes of three cells -/
theorem keep12 {V w1 : World} {g0 g1 g2 g3 : Nat} {t : TypeId} {a0 b0 c0 a1 b1 c1 a2 b2 c2 a3 b3 c3 : Value} (h0 : Blk V g0 t [a0, b0, c0]) (h1 : Blk V g1 t [a1, b1, c1]) (h2 : Blk V g2 t [a2, b2, c2]) (h3 : Blk V g3 t [a3, b3, c3]) (hb : Below V.heap.size V w1) :
    (w1.cell? ⟨g0, 0, none⟩ = some a0 ∧ w1.cell? ⟨g0, 1, none⟩ = some b0 ∧ w1.cell? ⟨g0, 2, none⟩ = some c0) ∧ (w1.cell? ⟨g1, 0, none⟩ = some a1 ∧ w1.cell? ⟨g1, 1, none⟩ = some b1 ∧ w1.cell? ⟨g1, 2, none⟩ = some c1) ∧ (w1.cell? ⟨g2, 0, none⟩ = some a2 ∧ w1.cell? ⟨g2, 1, none⟩ = some b2 ∧ w1.cell? ⟨g2, 2, none⟩ = some c2) ∧ (w1.cell? ⟨g3, 0, none⟩ = some a3 ∧ w1.cell? ⟨g3, 1, none⟩ = some b3 ∧ w1.cell? ⟨g3, 2, none⟩ = some c3) :=
  ⟨keep3 h0 hb, keep3 h1 hb, keep3 h2 hb, keep3 h3 hb⟩

set_option maxRecDepth 100000 in
set_option maxHeartbeats 12800000 in
theorem walk_FracTexts (n : Bool) (a d : List Nat) (A D : Option Addr) (ca cd : Nat) (t : ByteArray) (w : World) (h : Rd w (fun g => g < w.heap.size) .u32 A a) (h' : Rd w (fun g => g < w.heap.size) .u32 D d) (hl : a.length + d.length ≤ 1048576) (hc : a.length ≤ ca) (hc' : d.length ≤ cd) (ha : Dg 4294967296 a) (hd : Dg 4294967296 d) (hsz : t.size ≤ 1048576) (htab : Tab w) (m : Int) (hm : w.cell? ⟨0, 0, none⟩ = some (.int .i64 m)) (hm0 : 0 < w.heap.size) :
    Calls Tryz.prog 6 #[.agg #[.bool n, .slice A a.length ca, .slice D d.length cd], .string t] w fun e w' => e = .returned (.bool true) ∧ Below w.heap.size w w' := by
  obtain ⟨W, hW, H0, b0, s0⟩ := bx1 w 26 (.bool n) (.slice A a.length ca) (.slice D d.length cd)
  have hQ := loD_pos d
  have hwl := ftext_len (n := n) ha hd hl
  have c1 := fun (V : World) (hV : Below w.heap.size w V) => frac_Parse t (by omega) m V (by rw [hV.cell hm0]; exact hm) (Nat.lt_of_lt_of_le hm0 hV.size)
  have c2 := fun (V : World) => ref4_Parse t hsz V
  have c3 := fun (V : World) (hV : Below w.heap.size w V) => frac_Text (upN n a d) (loD d) 1048577 hQ (by omega) (by omega) n a d A D ca cd V ⟨hc, hc', ha, hd, by omega, by omega, rfl, rfl⟩ (h.on hV) (h'.on hV) (htab.on hV)
  have c4 := fun (V : World) (hV : Below w.heap.size w V) => ref4_Text n a d A D ca cd V (h.on hV) (h'.on hV) (by omega) (by omega) ha hd
  have c6 := fun (V : World) (hV : Below w.heap.size w V) => ref4_Reduce n a d A D ca cd V (h.on hV) (h'.on hV) (by omega) (by omega) ha hd
  have c7 := fun (V : World) (hV : Below w.heap.size w V) => law4_lives V (htab.on hV)
  have hlq : ∀ (x y : List Nat), Norm 4294967296 x → Norm 4294967296 y → val 4294967296 x = (upN n a d).natAbs / Nat.gcd (upN n a d).natAbs (loD d) → val 4294967296 y = loD d / Nat.gcd (upN n a d).natAbs (loD d) → x.length ≤ 1048577 ∧ y.length ≤ 1048577 := fun x y hx hy hv hu => reduced_len hx hy ha hd (by omega) (by omega) (by omega) rfl hv hu
  obtain ⟨P, hP⟩ : ∃ P, upN n a d = P := ⟨_, rfl⟩
  obtain ⟨Q, hQe⟩ : ∃ Q, loD d = Q := ⟨_, rfl⟩
  simp only [hP, hQe] at c3 c4 c6 hlq hwl hQ
  obtain ⟨tx, htx⟩ : ∃ tx : ByteArray, (⟨(ftext P Q).toArray⟩ : ByteArray) = tx := ⟨_, rfl⟩
  simp only [htx] at c3 c4
  have htd : tx.data.toList = ftext P Q := by rw [← htx]
  have hts : tx.size ≤ 20971521 := by rw [← data_size, htd]; omega
  have c5 := fun (V : World) (hV : Below w.heap.size w V) => frac_Parse tx hts m V (by rw [hV.cell hm0]; exact hm) (Nat.lt_of_lt_of_le hm0 hV.size)
  rw [htd] at c5
  have HTL := Lib.hid (show (ftext P Q).length = tx.size by rw [← data_size, htd])
  have HQ := Lib.hid hQ
  have HLQ := Lib.hid hlq
  have C1 := Lib.hid c1
  have C2 := Lib.hid c2
  have C3 := Lib.hid c3
  have C4 := Lib.hid c4
  have C5 := Lib.hid c5
  have C6 := Lib.hid c6
  have C7 := Lib.hid c7
  clear c1 c2 c3 c4 c5 c6 c7 hP hQe htx htd hwl hlq hQ hm hm0 h h' htab s0
  obtain ⟨k0, k1, k2, -, -, -⟩ := H0.facts
  go_enter Tryz.func6, Tryz.ntmps6
  go_wp2_with fail
  try rw [hW]
  clear hW
  refine (C1.out W b0).mono ?_
  rintro e v1 ⟨X1, x1, cx1, Y1, y1, cy1, er, M, rfl, hcx1, hcy1, hnx1, hny1, hvx1, hp1, r1, q1, b1⟩
  obtain ⟨dM, hdM⟩ : ∃ d, decide (M < 0) = d := ⟨_, rfl⟩
  rw [hdM]
  have G1 := Lib.hid (And.intro hdM (And.intro hnx1 (And.intro hny1 (And.intro hvx1 hp1))))
  have B1 := b0.trans (b1.mono b0.size)
  have J0 := H0.below b1 H0.lt
  clear hdM hnx1 hny1 hvx1 hp1 k0 k1 k2 b1 b0 H0
  obtain ⟨U1, hU1, H3, b3, s3⟩ := bx1 v1 26 (.bool dM) (.slice X1 x1.length cx1) (.slice Y1 y1.length cy1)
  have B1 := B1.trans (b3.mono B1.size)
  have H0 := J0.below b3 J0.lt
  have r1 := r1.on b3
  have q1 := q1.on b3
  clear b3 s3 J0
  obtain ⟨k0, k1, k2, -, -, -⟩ := H0.facts
  go_wp2_with fail
  try rw [hU1]
  clear hU1
  refine (C2.out U1).mono ?_
  rintro e v2 ⟨X2, x2, cx2, Y2, y2, cy2, er2, M2, rfl, hcx2, hcy2, hnx2, hny2, hvx2, hp2, r2, q2, b2⟩
  obtain ⟨hdM, hnx1, hny1, hvx1, hp1⟩ := G1.out
  obtain ⟨rfl, hvv, rfl⟩ := hp1.unique hp2
  obtain rfl : x1 = x2 := Norm.ext (b := 4294967296) (by omega) hnx1 hnx2 (hvx1.trans hvx2.symm)
  obtain rfl : y1 = y2 := Norm.ext (b := 4294967296) (by omega) hny1 hny2 hvv
  rw [hdM]
  have lx1 : x1.length ≤ 2000 ∧ y1.length ≤ 2000 := by
    rcases hp1 with ⟨-, -, -, -, h4, h5⟩ | ⟨-, h4, h5, -⟩
    · exact ⟨dec_small_words hnx1 hvx1 h4, dec_small_words hny1 rfl h5⟩
    · rw [h4] at hvx1
      rw [(hnx1.2.nil_iff (b := 4294967296) (by omega)).2 hvx1, (hny1.2.nil_iff (b := 4294967296) (by omega)).2 h5]
      simp
  have r1 := r1.on b2
  have q1 := q1.on b2
  have B2 := B1.trans (b2.mono B1.size)
  have J0 := H0.below b2 H0.lt
  have J3 := H3.below b2 H3.lt
  clear hdM hnx1 hny1 hvx1 hp1 hnx2 hny2 hvx2 hp2 hvv k0 k1 k2 b2 B1 H0 H3 G1 C1 C2
  obtain ⟨U2, hU2, H5, b5, s5⟩ := bx1 v2 26 (.bool dM) (.slice X2 x1.length cx2) (.slice Y2 y1.length cy2)
  have B2 := B2.trans (b5.mono B2.size)
  have H0 := J0.below b5 J0.lt
  have H3 := J3.below b5 J3.lt
  have r1 := r1.on b5
  have q1 := q1.on b5
  have r2 := r2.on b5
  have q2 := q2.on b5
  clear b5 s5 J0 J3
  obtain ⟨k0, k1, k2, -, -, -⟩ := H0.facts
  go_wp2_with fail
  try rw [hU2]
  clear hU2
  refine (C3.out U2 B2).mono ?_
  rintro e v3 ⟨rfl, b3⟩
  have B3 := B2.trans (b3.mono B2.size)
  have J0 := H0.below b3 H0.lt
  have J3 := H3.below b3 H3.lt
  have J5 := H5.below b3 H5.lt
  have r1 := r1.on b3
  have q1 := q1.on b3
  have r2 := r2.on b3
  have q2 := q2.on b3
  clear k0 k1 k2 b3 B2 H0 H3 H5 C3
  go_wp2_with fail
  refine (C5.out v3 B3).mono ?_
  rintro e v4 ⟨X4, x4, cx4, Y4, y4, cy4, er4, M4, rfl, hcx4, hcy4, hnx4, hny4, hvx4, hp4, r4, q4, b4⟩
  obtain ⟨d4, hd4⟩ : ∃ d, decide (M4 < 0) = d := ⟨_, rfl⟩
  rw [hd4]
  have G4 := Lib.hid (And.intro hd4 (And.intro hnx4 (And.intro hny4 (And.intro hvx4 hp4))))
  have B4 := B3.trans (b4.mono B3.size)
  have H0 := J0.below b4 J0.lt
  have H3 := J3.below b4 J3.lt
  have H5 := J5.below b4 J5.lt
  have r1 := r1.on b4
  have q1 := q1.on b4
  have r2 := r2.on b4
  have q2 := q2.on b4
  clear hd4 hnx4 hny4 hvx4 hp4 b4 B3 J0 J3 J5 C5
  obtain ⟨V, hV, H8, b8, s8⟩ := bx1 v4 26 (.bool d4) (.slice X4 x4.length cx4) (.slice Y4 y4.length cy4)
  have BV := B4.trans (b8.mono B4.size)
  have I0 := H0.below b8 H0.lt
  have I3 := H3.below b8 H3.lt
  have I5 := H5.below b8 H5.lt
  have r1 := r1.on b8
  have q1 := q1.on b8
  have r2 := r2.on b8
  have q2 := q2.on b8
  have r4 := r4.on b8
  have q4 := q4.on b8
  clear b8 s8 H0 H3 H5 B4
  have ly1 : y1.length ≤ 4611686018427387904 := by omega
  have lx1 : x1.length ≤ 4611686018427387904 := by omega
  have HD := Lib.hid (fun (U : World) (hU : Below V.heap.size V U) => (BV.trans (hU.mono BV.size) : Below w.heap.size w U))
  have K0 : Below V.heap.size V V.drew := below_drewN (Below.refl _ _) 1
  obtain ⟨k1, k2, k3, -, -, -⟩ := I0.facts
  obtain ⟨k4, k5, k6, -, -, -⟩ := I3.facts
  obtain ⟨k7, k8, k9, -, -, -⟩ := I5.facts
  obtain ⟨k10, k11, k12, -, -, -⟩ := H8.facts
  have L0 := Lib.hid I0
  have L3 := Lib.hid I3
  have L5 := Lib.hid I5
  have L8 := Lib.hid H8
  clear I0 I3 I5 H8 BV
  go_wp2_with fail
  try rw [hV]
  clear hV
  by_cases hbig : 2000 < tx.size
  · have e1 : decide (2000 < tx.size) = true := decide_eq_true hbig
    have e2 : decide ((2000 : Int) < (tx.size : Int)) = true := decide_eq_true (by omega)
    clear hbig
    refine wp_region_held_drew (S := fun w' => (w'.cell? ⟨w.heap.size, 0, none⟩ = some (.bool n) ∧ w'.cell? ⟨w.heap.size, 1, none⟩ = some (.slice A a.length ca) ∧ w'.cell? ⟨w.heap.size, 2, none⟩ = some (.slice D d.length cd)) ∧ (w'.cell? ⟨v1.heap.size, 0, none⟩ = some (.bool dM) ∧ w'.cell? ⟨v1.heap.size, 1, none⟩ = some (.slice X1 x1.length cx1) ∧ w'.cell? ⟨v1.heap.size, 2, none⟩ = some (.slice Y1 y1.length cy1)) ∧ (w'.cell? ⟨v2.heap.size, 0, none⟩ = some (.bool dM) ∧ w'.cell? ⟨v2.heap.size, 1, none⟩ = some (.slice X2 x1.length cx2) ∧ w'.cell? ⟨v2.heap.size, 2, none⟩ = some (.slice Y2 y1.length cy2)) ∧ (w'.cell? ⟨v4.heap.size, 0, none⟩ = some (.bool d4) ∧ w'.cell? ⟨v4.heap.size, 1, none⟩ = some (.slice X4 x4.length cx4) ∧ w'.cell? ⟨v4.heap.size, 2, none⟩ = some (.slice Y4 y4.length cy4))) (by kernel_rfl) (keep12 L0.out L3.out L5.out L8.out K0) (fun hH0 => ?_)
    refine wpAnyH_take (i := 0) (oi := _) (v := ?_) rfl (by kernel_rfl) (by kernel_rfl) (by kernel_rfl) (fun _ _ _ h => h) (Or.inl ⟨by rfl, ?_⟩) (by assumption) ?_
    rotate_left
    · intro w' hSw
      obtain ⟨⟨l1, l2, l3⟩, ⟨l4, l5, l6⟩, ⟨l7, l8, l9⟩, l10, l11, l12⟩ := hSw
      go_simp
      try with_reducible rfl
    try simp only [Act.put, List.getElem_toArray, List.getElem_cons_zero, List.setIfInBounds_toArray, List.set_cons_zero, List.set_cons_succ]
    refine wpAnyH_take (i := 1) (oi := _) (v := ?_) rfl (by kernel_rfl) (by kernel_rfl) (by kernel_rfl) (fun _ _ _ h => h) (Or.inl ⟨by rfl, ?_⟩) (by assumption) ?_
    rotate_left
    · intro w' hSw
      obtain ⟨⟨l1, l2, l3⟩, ⟨l4, l5, l6⟩, ⟨l7, l8, l9⟩, l10, l11, l12⟩ := hSw
      go_simp
      try with_reducible rfl
    try simp only [Act.put, List.getElem_toArray, List.getElem_cons_zero, List.getElem_cons_succ, List.setIfInBounds_toArray, List.set_cons_zero, List.set_cons_succ]
    refine wpAnyH_ready (rs := [2]) (by kernel_rfl) (by simp) ?_
    refine AllReadyH.cons (o := _) rfl (fun K' hK => ?_) AllReadyH.nil
    go_simp
    (go_at_call 44; (with_reducible refine Calls.mono (C4.out _ (HD.out _ K0)) ?_); rintro e w1 ⟨rfl, b1⟩; have K1 := below_next K0 (Nat.le_refl _) b1)
    try go_wp2_with fail
    refine hK.out _ _ (keep12 L0.out L3.out L5.out L8.out K1) (fun hH1 => ?_)
    clear hK
    try simp only [Act.put, List.getElem_toArray, List.getElem_cons_zero, List.getElem_cons_succ, List.setIfInBounds_toArray, List.set_cons_zero, List.set_cons_succ]
    refine wpAnyH_take (i := 3) (oi := _) (v := ?_) rfl (by kernel_rfl) (by kernel_rfl) (by kernel_rfl) (fun _ _ _ h => h) (Or.inl ⟨by rfl, ?_⟩) (by assumption) ?_
    rotate_left
    · intro w' hSw
      obtain ⟨⟨l1, l2, l3⟩, ⟨l4, l5, l6⟩, ⟨l7, l8, l9⟩, l10, l11, l12⟩ := hSw
      go_simp
      try with_reducible rfl
    try simp only [Act.put, List.getElem_toArray, List.getElem_cons_zero, List.getElem_cons_succ, List.setIfInBounds_toArray, List.set_cons_zero, List.set_cons_succ]
    refine wpAnyH_take (i := 4) (oi := _) (v := ?_) rfl (by kernel_rfl) (by kernel_rfl) (by kernel_rfl) (fun _ _ _ h => h) (Or.inl ⟨by rfl, ?_⟩) (by assumption) ?_
    rotate_left
    · intro w' hSw
      obtain ⟨⟨l1, l2, l3⟩, ⟨l4, l5, l6⟩, ⟨l7, l8, l9⟩, l10, l11, l12⟩ := hSw
      go_simp
      try with_reducible rfl
    try simp only [Act.put, List.getElem_toArray, List.getElem_cons_zero, List.getElem_cons_succ, List.setIfInBounds_toArray, List.set_cons_zero, List.set_cons_succ]
    refine wpAnyH_take (i := 5) (oi := _) (v := ?_) rfl (by kernel_rfl) (by kernel_rfl) (by kernel_rfl) (fun _ _ _ h => h) (Or.inl ⟨by rfl, ?_⟩) (by assumption) ?_
    rotate_left
    · intro w' hSw
      obtain ⟨⟨l1, l2, l3⟩, ⟨l4, l5, l6⟩, ⟨l7, l8, l9⟩, l10, l11, l12⟩ := hSw
      go_simp
      try with_reducible rfl
    try simp only [Act.put, List.getElem_toArray, List.getElem_cons_zero, List.getElem_cons_succ, List.setIfInBounds_toArray, List.set_cons_zero, List.set_cons_succ]
    refine wpAnyH_take (i := 6) (oi := _) (v := ?_) rfl (by kernel_rfl) (by kernel_rfl) (by kernel_rfl) (fun _ _ _ h => h) (Or.inl ⟨by rfl, ?_⟩) (by assumption) ?_
    rotate_left
    · intro w' hSw
      obtain ⟨⟨l1, l2, l3⟩, ⟨l4, l5, l6⟩, ⟨l7, l8, l9⟩, l10, l11, l12⟩ := hSw
      go_simp
      try with_reducible rfl
    try simp only [Act.put, List.getElem_toArray, List.getElem_cons_zero, List.getElem_cons_succ, List.setIfInBounds_toArray, List.set_cons_zero, List.set_cons_succ]
    refine wpAnyH_ready (rs := [7]) (by kernel_rfl) (by simp) ?_
    refine AllReadyH.cons (o := _) rfl (fun K' hK => ?_) AllReadyH.nil
    go_simp
    (go_at_call_of 8 x1; (with_reducible refine Calls.mono (same4_is true dM dM x1 y1 x1 y1 X1 Y1 X2 Y2 cx1 cy1 cx2 cy2 _ (by simp) (r1.on K1) (q1.on K1) (r2.on K1) (q2.on K1) lx1 ly1) ?_); rintro e w2 ⟨rfl, b2⟩; have K2 := below_next K1 (Nat.le_refl _) b2)
    try go_wp2_with fail
    refine hK.out _ _ (keep12 L0.out L3.out L5.out L8.out K2) (fun hH2 => ?_)
    clear hK
    try simp only [Act.put, List.getElem_toArray, List.getElem_cons_zero, List.getElem_cons_succ, List.setIfInBounds_toArray, List.set_cons_zero, List.set_cons_succ]
    refine wpAnyH_take (i := 8) (oi := _) (v := ?_) rfl (by kernel_rfl) (by kernel_rfl) (by kernel_rfl) (fun _ _ _ h => h) (Or.inl ⟨by rfl, ?_⟩) (by assumption) ?_
    rotate_left
    · intro w' hSw
      obtain ⟨⟨l1, l2, l3⟩, ⟨l4, l5, l6⟩, ⟨l7, l8, l9⟩, l10, l11, l12⟩ := hSw
      go_simp
      try with_reducible rfl
    try simp only [Act.put, List.getElem_toArray, List.getElem_cons_zero, List.getElem_cons_succ, List.setIfInBounds_toArray, List.set_cons_zero, List.set_cons_succ]
    refine wpAnyH_take (i := 9) (oi := _) (v := ?_) rfl (by kernel_rfl) (by kernel_rfl) (by kernel_rfl) (fun _ _ _ h => h) (Or.inl ⟨by rfl, ?_⟩) (by assumption) ?_
    rotate_left
    · intro w' hSw
      obtain ⟨⟨l1, l2, l3⟩, ⟨l4, l5, l6⟩, ⟨l7, l8, l9⟩, l10, l11, l12⟩ := hSw
      go_simp
      try with_reducible rfl
    try simp only [Act.put, List.getElem_toArray, List.getElem_cons_zero, List.getElem_cons_succ, List.setIfInBounds_toArray, List.set_cons_zero, List.set_cons_succ]
    refine wpAnyH_take (i := 10) (oi := _) (v := ?_) rfl (by kernel_rfl) (by kernel_rfl) (by kernel_rfl) (fun _ _ _ h => h) (Or.inl ⟨by rfl, ?_⟩) (by assumption) ?_
    rotate_left
    · intro w' hSw
      obtain ⟨⟨l1, l2, l3⟩, ⟨l4, l5, l6⟩, ⟨l7, l8, l9⟩, l10, l11, l12⟩ := hSw
      go_simp
      try with_reducible rfl
    try simp only [Act.put, List.getElem_toArray, List.getElem_cons_zero, List.getElem_cons_succ, List.setIfInBounds_toArray, List.set_cons_zero, List.set_cons_succ]
    refine wpAnyH_take (i := 11) (oi := _) (v := ?_) rfl (by kernel_rfl) (by kernel_rfl) (by kernel_rfl) (fun _ _ _ h => h) (Or.inl ⟨by rfl, ?_⟩) (by assumption) ?_
    rotate_left
    · intro w' hSw
      obtain ⟨⟨l1, l2, l3⟩, ⟨l4, l5, l6⟩, ⟨l7, l8, l9⟩, l10, l11, l12⟩ := hSw
      go_simp
      try with_reducible rfl
    try simp only [Act.put, List.getElem_toArray, List.getElem_cons_zero, List.getElem_cons_succ, List.setIfInBounds_toArray, List.set_cons_zero, List.set_cons_succ]
    refine wpAnyH_take (i := 12) (oi := _) (v := ?_) rfl (by kernel_rfl) (by kernel_rfl) (by kernel_rfl) (fun _ _ _ h => h) (Or.inl ⟨by rfl, ?_⟩) (by assumption) ?_
    rotate_left
    · intro w' hSw
      obtain ⟨⟨l1, l2, l3⟩, ⟨l4, l5, l6⟩, ⟨l7, l8, l9⟩, l10, l11, l12⟩ := hSw
      go_simp
      try with_reducible rfl
    try simp only [Act.put, List.getElem_toArray, List.getElem_cons_zero, List.getElem_cons_succ, List.setIfInBounds_toArray, List.set_cons_zero, List.set_cons_succ]
    refine wpAnyH_take (i := 13) (oi := _) (v := ?_) rfl (by kernel_rfl) (by kernel_rfl) (by kernel_rfl) (fun _ _ _ h => h) (Or.inl ⟨by rfl, ?_⟩) (by assumption) ?_
    rotate_left
    · intro w' hSw
      obtain ⟨⟨l1, l2, l3⟩, ⟨l4, l5, l6⟩, ⟨l7, l8, l9⟩, l10, l11, l12⟩ := hSw
      go_simp
      try with_reducible rfl
    try simp only [Act.put, List.getElem_toArray, List.getElem_cons_zero, List.getElem_cons_succ, List.setIfInBounds_toArray, List.set_cons_zero, List.set_cons_succ]
    refine wpAnyH_take (i := 14) (oi := _) (v := ?_) rfl (by kernel_rfl) (by kernel_rfl) (by kernel_rfl) (fun _ _ _ h => h) (Or.inl ⟨by rfl, ?_⟩) (by assumption) ?_
    rotate_left
    · intro w' hSw
      obtain ⟨⟨l1, l2, l3⟩, ⟨l4, l5, l6⟩, ⟨l7, l8, l9⟩, l10, l11, l12⟩ := hSw
      go_simp
      try with_reducible rfl
    try simp only [Act.put, List.getElem_toArray, List.getElem_cons_zero, List.getElem_cons_succ, List.setIfInBounds_toArray, List.set_cons_zero, List.set_cons_succ]
    refine wpAnyH_take (i := 15) (oi := _) (v := ?_) rfl (by kernel_rfl) (by kernel_rfl) (by kernel_rfl) (fun _ _ _ h => h) (Or.inl ⟨by rfl, ?_⟩) (by assumption) ?_
    rotate_left
    · intro w' hSw
      obtain ⟨⟨l1, l2, l3⟩, ⟨l4, l5, l6⟩, ⟨l7, l8, l9⟩, l10, l11, l12⟩ := hSw
      go_simp
      try with_reducible rfl
    try simp only [Act.put, List.getElem_toArray, List.getElem_cons_zero, List.getElem_cons_succ, List.setIfInBounds_toArray, List.set_cons_zero, List.set_cons_succ]
    refine wpAnyH_take (i := 16) (oi := _) (v := ?_) rfl (by kernel_rfl) (by kernel_rfl) (by kernel_rfl) (fun _ _ _ h => h) (Or.inl ⟨by rfl, ?_⟩) (by assumption) ?_
    rotate_left
    · intro w' hSw
      obtain ⟨⟨l1, l2, l3⟩, ⟨l4, l5, l6⟩, ⟨l7, l8, l9⟩, l10, l11, l12⟩ := hSw
      go_simp
      try with_reducible rfl
    try simp only [Act.put, List.getElem_toArray, List.getElem_cons_zero, List.getElem_cons_succ, List.setIfInBounds_toArray, List.set_cons_zero, List.set_cons_succ]
    refine wpAnyH_take (i := 17) (oi := _) (v := ?_) rfl (by kernel_rfl) (by kernel_rfl) (by kernel_rfl) (fun _ _ _ h => h) (Or.inl ⟨by rfl, ?_⟩) (by assumption) ?_
    rotate_left
    · intro w' hSw
      obtain ⟨⟨l1, l2, l3⟩, ⟨l4, l5, l6⟩, ⟨l7, l8, l9⟩, l10, l11, l12⟩ := hSw
      go_simp
      try with_reducible rfl
    try simp only [Act.put, List.getElem_toArray, List.getElem_cons_zero, List.getElem_cons_succ, List.setIfInBounds_toArray, List.set_cons_zero, List.set_cons_succ]
    refine wpAnyH_take (i := 18) (oi := _) (v := ?_) rfl (by kernel_rfl) (by kernel_rfl) (by kernel_rfl) (fun _ _ _ h => h) (Or.inl ⟨by rfl, ?_⟩) (by assumption) ?_
    rotate_left
    · intro w' hSw
      obtain ⟨⟨l1, l2, l3⟩, ⟨l4, l5, l6⟩, ⟨l7, l8, l9⟩, l10, l11, l12⟩ := hSw
      go_simp
      try with_reducible rfl
    try simp only [Act.put, List.getElem_toArray, List.getElem_cons_zero, List.getElem_cons_succ, List.setIfInBounds_toArray, List.set_cons_zero, List.set_cons_succ]
    refine wpAnyH_take (i := 19) (oi := _) (v := undef) rfl (by kernel_rfl) (by kernel_rfl) (by kernel_rfl) (fun _ _ _ h => h) (Or.inr ⟨by rfl, rfl⟩) (by assumption) ?_
    try simp only [Act.put, List.getElem_toArray, List.getElem_cons_zero, List.getElem_cons_succ, List.setIfInBounds_toArray, List.set_cons_zero, List.set_cons_succ]
    refine wpAnyH_take (i := 20) (oi := _) (v := undef) rfl (by kernel_rfl) (by kernel_rfl) (by kernel_rfl) (fun _ _ _ h => h) (Or.inr ⟨by rfl, rfl⟩) (by assumption) ?_
    try simp only [Act.put, List.getElem_toArray, List.getElem_cons_zero, List.getElem_cons_succ, List.setIfInBounds_toArray, List.set_cons_zero, List.set_cons_succ]
    refine wpAnyH_take (i := 21) (oi := _) (v := undef) rfl (by kernel_rfl) (by kernel_rfl) (by kernel_rfl) (fun _ _ _ h => h) (Or.inr ⟨by rfl, rfl⟩) (by assumption) ?_
    try simp only [Act.put, List.getElem_toArray, List.getElem_cons_zero, List.getElem_cons_succ, List.setIfInBounds_toArray, List.set_cons_zero, List.set_cons_succ]
    refine wpAnyH_take (i := 22) (oi := _) (v := undef) rfl (by kernel_rfl) (by kernel_rfl) (by kernel_rfl) (fun _ _ _ h => h) (Or.inr ⟨by rfl, rfl⟩) (by assumption) ?_
    try simp only [Act.put, List.getElem_toArray, List.getElem_cons_zero, List.getElem_cons_succ, List.setIfInBounds_toArray, List.set_cons_zero, List.set_cons_succ]
    refine wpAnyH_take (i := 23) (oi := _) (v := undef) rfl (by kernel_rfl) (by kernel_rfl) (by kernel_rfl) (fun _ _ _ h => h) (Or.inr ⟨by rfl, rfl⟩) (by assumption) ?_
    try simp only [Act.put, List.getElem_toArray, List.getElem_cons_zero, List.getElem_cons_succ, List.setIfInBounds_toArray, List.set_cons_zero, List.set_cons_succ]
    refine wpAnyH_take (i := 24) (oi := _) (v := undef) rfl (by kernel_rfl) (by kernel_rfl) (by kernel_rfl) (fun _ _ _ h => h) (Or.inr ⟨by rfl, rfl⟩) (by assumption) ?_
    try simp only [Act.put, List.getElem_toArray, List.getElem_cons_zero, List.getElem_cons_succ, List.setIfInBounds_toArray, List.set_cons_zero, List.set_cons_succ]
    refine wpAnyH_take (i := 25) (oi := _) (v := undef) rfl (by kernel_rfl) (by kernel_rfl) (by kernel_rfl) (fun _ _ _ h => h) (Or.inr ⟨by rfl, rfl⟩) (by assumption) ?_
    try simp only [Act.put, List.getElem_toArray, List.getElem_cons_zero, List.getElem_cons_succ, List.setIfInBounds_toArray, List.set_cons_zero, List.set_cons_succ]
    refine wpAnyH_take (i := 26) (oi := _) (v := undef) rfl (by kernel_rfl) (by kernel_rfl) (by kernel_rfl) (fun _ _ _ h => h) (Or.inr ⟨by rfl, rfl⟩) (by assumption) ?_
    try simp only [Act.put, List.getElem_toArray, List.getElem_cons_zero, List.getElem_cons_succ, List.setIfInBounds_toArray, List.set_cons_zero, List.set_cons_succ]
    refine wpAnyH_take (i := 27) (oi := _) (v := ?_) rfl (by kernel_rfl) (by kernel_rfl) (by kernel_rfl) (fun _ _ _ h => h) (Or.inl ⟨by rfl, ?_⟩) (by assumption) ?_
    rotate_left
    · intro w' hSw
      obtain ⟨⟨l1, l2, l3⟩, ⟨l4, l5, l6⟩, ⟨l7, l8, l9⟩, l10, l11, l12⟩ := hSw
      go_simp
      try with_reducible rfl
    try simp only [Act.put, List.getElem_toArray, List.getElem_cons_zero, List.getElem_cons_succ, List.setIfInBounds_toArray, List.set_cons_zero, List.set_cons_succ]
    refine wpAnyH_take (i := 28) (oi := _) (v := ?_) rfl (by kernel_rfl) (by kernel_rfl) (by kernel_rfl) (fun _ _ _ h => h) (Or.inl ⟨by rfl, ?_⟩) (by assumption) ?_
    rotate_left
    · intro w' hSw
      obtain ⟨⟨l1, l2, l3⟩, ⟨l4, l5, l6⟩, ⟨l7, l8, l9⟩, l10, l11, l12⟩ := hSw
      go_simp
      try with_reducible rfl
    try simp only [Act.put, List.getElem_toArray, List.getElem_cons_zero, List.getElem_cons_succ, List.setIfInBounds_toArray, List.set_cons_zero, List.set_cons_succ]
    refine wpAnyH_take (i := 29) (oi := _) (v := ?_) rfl (by kernel_rfl) (by kernel_rfl) (by kernel_rfl) (fun _ _ _ h => h) (Or.inl ⟨by rfl, ?_⟩) (by assumption) ?_
    rotate_left
    · intro w' hSw
      obtain ⟨⟨l1, l2, l3⟩, ⟨l4, l5, l6⟩, ⟨l7, l8, l9⟩, l10, l11, l12⟩ := hSw
      go_simp
      try with_reducible rfl
    try simp only [Act.put, List.getElem_toArray, List.getElem_cons_zero, List.getElem_cons_succ, List.setIfInBounds_toArray, List.set_cons_zero, List.set_cons_succ]
    refine wpAnyH_ready (rs := [30]) (by kernel_rfl) (by simp) ?_
    refine AllReadyH.cons (o := _) rfl (fun K' hK => ?_) AllReadyH.nil
    go_simp
    (go_at_call 21; (with_reducible refine Calls.mono (C7.out _ (HD.out _ K2)) ?_); rintro e w5 ⟨rfl, b5⟩; have K5 := below_next K2 (Nat.le_refl _) b5)
    try go_wp2_with fail
    refine hK.out _ _ (keep12 L0.out L3.out L5.out L8.out K5) (fun hH5 => ?_)
    clear hK
    try simp only [Act.put, List.getElem_toArray, List.getElem_cons_zero, List.getElem_cons_succ, List.setIfInBounds_toArray, List.set_cons_zero, List.set_cons_succ]
    refine wpAnyH_take (i := 31) (oi := _) (v := ?_) rfl (by kernel_rfl) (by kernel_rfl) (by kernel_rfl) (fun _ _ _ h => h) (Or.inl ⟨by rfl, ?_⟩) (by assumption) ?_
    rotate_left
    · intro w' hSw
      obtain ⟨⟨l1, l2, l3⟩, ⟨l4, l5, l6⟩, ⟨l7, l8, l9⟩, l10, l11, l12⟩ := hSw
      go_simp
      try with_reducible rfl
    try simp only [Act.put, List.getElem_toArray, List.getElem_cons_zero, List.getElem_cons_succ, List.setIfInBounds_toArray, List.set_cons_zero, List.set_cons_succ]
    refine wpAnyH_take (i := 32) (oi := _) (v := ?_) rfl (by kernel_rfl) (by kernel_rfl) (by kernel_rfl) (fun _ _ _ h => h) (Or.inl ⟨by rfl, ?_⟩) (by assumption) ?_
    rotate_left
    · intro w' hSw
      obtain ⟨⟨l1, l2, l3⟩, ⟨l4, l5, l6⟩, ⟨l7, l8, l9⟩, l10, l11, l12⟩ := hSw
      go_simp
      try with_reducible rfl
    try simp only [Act.put, List.getElem_toArray, List.getElem_cons_zero, List.getElem_cons_succ, List.setIfInBounds_toArray, List.set_cons_zero, List.set_cons_succ]
    refine wpAnyH_done (by kernel_rfl) ?_ _
    go_wp2_with fail
    go_ret
    exact ⟨rfl, HD.out _ K5⟩
  · have hsm : (ftext P Q).length ≤ 2000 := by rw [HTL.out]; omega
    obtain ⟨hd4, hnx4, hny4, hvx4, hp4⟩ := G4.out
    obtain ⟨rfl, hvy4, rfl⟩ := hp4.unique (ftext_tells HQ.out hsm)
    rw [ftop_neg HQ.out] at hd4
    subst hd4
    rw [ftop_abs] at hvx4
    have HXE := Lib.hid (show (∀ x3, Norm 4294967296 x3 → val 4294967296 x3 = P.natAbs / Nat.gcd P.natAbs Q → x4 = x3) ∧ (∀ y3, Norm 4294967296 y3 → val 4294967296 y3 = Q / Nat.gcd P.natAbs Q → y4 = y3) from ⟨fun x3 k1 k2 => Norm.ext (b := 4294967296) (by omega) hnx4 k1 (hvx4.trans k2.symm), fun y3 k1 k2 => Norm.ext (b := 4294967296) (by omega) hny4 k1 (hvy4.trans k2.symm)⟩)
    obtain ⟨lx4, ly4⟩ := HLQ.out x4 y4 hnx4 hny4 hvx4 hvy4
    have lx4 : x4.length ≤ 4611686018427387904 := by omega
    have ly4 : y4.length ≤ 4611686018427387904 := by omega
    have e1 : decide (2000 < tx.size) = false := decide_eq_false hbig
    have e2 : decide ((2000 : Int) < (tx.size : Int)) = false := decide_eq_false (by omega)
    clear hbig hsm hp4 hnx4 hny4 hvx4 hvy4 G4
    go_region_held3 (fun w' => (w'.cell? ⟨w.heap.size, 0, none⟩ = some (.bool n) ∧ w'.cell? ⟨w.heap.size, 1, none⟩ = some (.slice A a.length ca) ∧ w'.cell? ⟨w.heap.size, 2, none⟩ = some (.slice D d.length cd)) ∧ (w'.cell? ⟨v1.heap.size, 0, none⟩ = some (.bool dM) ∧ w'.cell? ⟨v1.heap.size, 1, none⟩ = some (.slice X1 x1.length cx1) ∧ w'.cell? ⟨v1.heap.size, 2, none⟩ = some (.slice Y1 y1.length cy1)) ∧ (w'.cell? ⟨v2.heap.size, 0, none⟩ = some (.bool dM) ∧ w'.cell? ⟨v2.heap.size, 1, none⟩ = some (.slice X2 x1.length cx2) ∧ w'.cell? ⟨v2.heap.size, 2, none⟩ = some (.slice Y2 y1.length cy2)) ∧ (w'.cell? ⟨v4.heap.size, 0, none⟩ = some (.bool (decide (P < 0))) ∧ w'.cell? ⟨v4.heap.size, 1, none⟩ = some (.slice X4 x4.length cx4) ∧ w'.cell? ⟨v4.heap.size, 2, none⟩ = some (.slice Y4 y4.length cy4)))
      (first | (with_reducible exact keep12 L0.out L3.out L5.out L8.out K5) | (with_reducible exact keep12 L0.out L3.out L5.out L8.out K4) | (with_reducible exact keep12 L0.out L3.out L5.out L8.out K3) | (with_reducible exact keep12 L0.out L3.out L5.out L8.out K2) | (with_reducible exact keep12 L0.out L3.out L5.out L8.out K1) | (with_reducible exact keep12 L0.out L3.out L5.out L8.out K0) | go_keep)
      ((first
        | (go_at_call 44; (with_reducible refine Calls.mono (C4.out _ (HD.out _ K0)) ?_); rintro e w1 ⟨rfl, b1⟩; have K1 := below_next K0 (Nat.le_refl _) b1)
        | (go_at_call_of 8 x1; (with_reducible refine Calls.mono (same4_is true dM dM x1 y1 x1 y1 X1 Y1 X2 Y2 cx1 cy1 cx2 cy2 _ (by simp) (r1.on K1) (q1.on K1) (r2.on K1) (q2.on K1) lx1 ly1) ?_); rintro e w2 ⟨rfl, b2⟩; have K2 := below_next K1 (Nat.le_refl _) b2)
        | (go_at_call 30; (with_reducible refine Calls.mono (C6.out _ (HD.out _ K2)) ?_); rintro e w3 ⟨A3, x3, c3, D3, y3, e3, rfl, hc3, hd3, hn3, hm3, hv3, hu3, r3, q3, b3⟩; have K3 := below_next K2 (Nat.le_refl _) b3; obtain rfl : x4 = x3 := HXE.out.1 x3 hn3 hv3; obtain rfl : y4 = y3 := HXE.out.2 y3 hm3 hu3)
        | (go_at_call_of 8 x4; (with_reducible refine Calls.mono (same4_is true (decide (P < 0)) (decide (P < 0)) x4 y4 x4 y4 X4 Y4 A3 D3 cx4 cy4 c3 e3 _ (by simp) (r4.on K3) (q4.on K3) r3 q3 lx4 ly4) ?_); rintro e w4 ⟨rfl, b4⟩; have K4 := below_next K3 (Nat.le_refl _) b4)
        | (go_at_call 21; (with_reducible refine Calls.mono (C7.out _ (HD.out _ K4)) ?_); rintro e w5 ⟨rfl, b5⟩; have K5 := below_next K4 (Nat.le_refl _) b5)))
    go_wp2_with fail
    go_ret
    exact ⟨rfl, HD.out _ K5⟩
end Go.Proofs.YtidbpkibjficnaaGreatDoor
