/- The law FracStands: order, floors, roundings and whole numbers are the document's own. -/
import Derived.Test.YtidbpkibjficnaaGreatDoorZLawO
import Derived.Test.YtidbpkibjficnaaGreatDoorZFpS
import Derived.Test.YtidbpkibjficnaaGreatDoorZFpW
import Derived.Test.YtidbpkibjficnaaGreatDoorZFrZ
import Derived.Test.YtidbpkibjficnaaGreatDoorZFrX
import Derived.Test.YtidbpkibjficnaaGreatDoorZWrF
import Derived.Deep.RegionWith
import Derived.Deep.RegionHeld3
namespace Go.Proofs.YtidbpkibjficnaaGreatDoor
open Go.RowKit Num

theorem bw1 (w : World) (t : TypeId) (v0 v1 : Value) : ∃ W, w.alloc (.cells #[v0, v1] t) = W ∧ Blk W w.heap.size t [v0, v1] ∧ Below w.heap.size w W ∧ W.heap.size = w.heap.size + 1 :=
  ⟨_, rfl, Blk.new w t [v0, v1], below_one w _, by simp⟩
theorem a5_is {a b : List Nat} (h : Norm 4294967296 a) (k : Norm 4294967296 b) (e : val 4294967296 a = val 4294967296 b) : a = b := Norm.ext (by omega) h k e
theorem ref2_same_is (n : Bool) (xs ys : List Nat) (e : xs = ys) (A A' : Option Addr) (c c' : Nat) (w : World) (h : Rd w (fun g => g < w.heap.size) .u32 A xs) (h' : Rd w (fun g => g < w.heap.size) .u32 A' ys) (hl : xs.length ≤ 4611686018427387904) :
    Calls Tryz.prog 38 #[.agg #[.bool n, .slice A xs.length c], .agg #[.bool n, .slice A' ys.length c']] w fun e w' => e = .returned (.bool true) ∧ Below w.heap.size w w' := by
  subst e
  exact ref2_Same n xs A A' c c' w h h' hl
theorem one_new (w : World) : Rd (w.alloc (.cells #[.int .u32 1] 50)) (fun g => g < (w.alloc (.cells #[.int .u32 1] 50)).heap.size) .u32 (some ⟨w.heap.size, 0, none⟩) [1] := by
  obtain ⟨Z, hZ, r, -, -⟩ := one_word w 1 1 rfl
  rw [← hZ] at r
  exact r
theorem ref4_same_one (r : Bool) (n n' : Bool) (a d a' : List Nat) (A D A' D' : Option Addr) (ca cd ca' cd' : Nat) (w : World) (hr : decide ((n = n' ∧ a = a') ∧ d = [1]) = r) (h1 : Rd w (fun g => g < w.heap.size) .u32 A a) (h2 : Rd w (fun g => g < w.heap.size) .u32 D d) (h3 : Rd w (fun g => g < w.heap.size) .u32 A' a') (h4 : Rd w (fun g => g < w.heap.size) .u32 D' [1]) (hl1 : a.length ≤ 4611686018427387904) (hl2 : d.length ≤ 4611686018427387904) :
    Calls Tryz.prog 8 #[.agg #[.bool n, .slice A a.length ca, .slice D d.length cd], .agg #[.bool n', .slice A' a'.length ca', .slice D' 1 cd']] w fun e w' => e = .returned (.bool r) ∧ Below w.heap.size w w' := by
  have := ref4_Same n n' a d a' [1] A D A' D' ca cd ca' cd' w h1 h2 h3 h4 hl1 hl2
  rwa [hr] at this
/-- a fraction is whole just when its lower part, reduced, is 1, and then its upper part is the quotient -/
theorem whole_words {P N : Int} {Q : Nat} (hQ : 0 < Q) (hN : P / (Q : Int) = N) {n : Bool} {a d q : List Nat} {ca cd : Nat} (k : SF P Q n a ca d cd) (hq : Norm 4294967296 q) (hv : val 4294967296 q = N.natAbs) :
    (P % (Q : Int) = 0 → n = decide (N < 0) ∧ a = q ∧ d = [1]) ∧ (¬ P % (Q : Int) = 0 → d ≠ [1]) := by
  constructor
  · intro hm
    have e : P = N * (Q : Int) := by
      have := Int.mul_ediv_add_emod P (Q : Int)
      rw [hm, hN, Int.add_zero, Int.mul_comm] at this
      exact this.symm
    have k' := SF.conv hQ (Q' := 1) (P' := N) (by omega) (by rw [e]; show N * (Q : Int) * 1 = N * (Q : Int); rw [Int.mul_one]) k
    obtain ⟨h0, -, -, h3, h4, h5, h6⟩ := k'
    simp only [Nat.gcd_one_right, Nat.div_one] at h5 h6
    exact ⟨h0, Norm.ext (by omega) h3 hq (by rw [h5, hv]), Norm.ext (by omega) h4 (norm_one (by omega) (by omega)) (by rw [h6]; rfl)⟩
  · rintro hm rfl
    obtain ⟨-, -, -, -, -, -, h6⟩ := k
    have h7 : Q / Nat.gcd P.natAbs Q = 1 := by rw [← h6]; rfl
    have h8 := Nat.div_mul_cancel (Nat.gcd_dvd_right P.natAbs Q)
    rw [h7, Nat.one_mul] at h8
    have h9 : (Q : Int) ∣ P := by
      rw [← Int.natAbs_dvd_natAbs, Int.natAbs_natCast]
      have := Nat.gcd_dvd_left P.natAbs Q
      rwa [h8] at this
    exact hm (Int.emod_eq_zero_of_dvd h9)

set_option maxRecDepth 100000 in
set_option maxHeartbeats 25600000 in
theorem walk_FracStands (n n' : Bool) (a d a' d' : List Nat) (A D A' D' : Option Addr) (ca cd ca' cd' : Nat) (w : World) (h : Rd w (fun g => g < w.heap.size) .u32 A a) (h' : Rd w (fun g => g < w.heap.size) .u32 D d) (q : Rd w (fun g => g < w.heap.size) .u32 A' a') (q' : Rd w (fun g => g < w.heap.size) .u32 D' d') (hl : a.length + d.length + a'.length + d'.length ≤ 1048576) (hc : a.length ≤ ca) (hc' : d.length ≤ cd) (gc : a'.length ≤ ca') (gc' : d'.length ≤ cd') (ha : Dg 4294967296 a) (hd : Dg 4294967296 d) (ga : Dg 4294967296 a') (gd : Dg 4294967296 d') (htab : Tab w) :
    Calls Tryz.prog 5 #[.agg #[.bool n, .slice A a.length ca, .slice D d.length cd], .agg #[.bool n', .slice A' a'.length ca', .slice D' d'.length cd']] w fun e w' => e = .returned (.bool true) ∧ Below w.heap.size w w' := by
  obtain ⟨W, hW, k1, k2, b0, s0⟩ := bx2 w 26 26 (.bool n) (.slice A a.length ca) (.slice D d.length cd) (.bool n') (.slice A' a'.length ca') (.slice D' d'.length cd')
  obtain ⟨p0, p1, p2, -, -, -⟩ := k1.facts
  obtain ⟨z0, z1, z2, -, -, -⟩ := k2.facts
  have h := h.on b0
  have h' := h'.on b0
  have q := q.on b0
  have q' := q'.on b0
  have hQ := loD_pos d
  have hQ' := loD_pos d'
  have bP := up_lt (n := n) (d := d) ha
  have bP' := up_lt (n := n') (d := d') ga
  have bQ := loD_le hd
  have bQ' := loD_le gd
  obtain ⟨P, hP⟩ : ∃ P, upN n a d = P := ⟨_, rfl⟩
  obtain ⟨P', hP'⟩ : ∃ P, upN n' a' d' = P := ⟨_, rfl⟩
  obtain ⟨Q, hQe⟩ : ∃ Q, loD d = Q := ⟨_, rfl⟩
  obtain ⟨Q', hQe'⟩ : ∃ Q, loD d' = Q := ⟨_, rfl⟩
  rw [hP] at bP
  rw [hP'] at bP'
  rw [hQe] at bQ hQ
  rw [hQe'] at bQ' hQ'
  obtain ⟨s, hs⟩ : ∃ s, s = 1048576 := ⟨_, rfl⟩
  rw [← hs] at hl
  have hS : SV P Q (s + 1) n a ca d cd := ⟨hc, hc', ha, hd, by omega, by omega, by rw [hP, hQe]⟩
  have hT : SV P' Q' (s + 1) n' a' ca' d' cd' := ⟨gc, gc', ga, gd, by omega, by omega, by rw [hP', hQe']⟩
  have tab : ∀ V, Below W.heap.size W V → Tab V := fun V hV => htab.on (b0.trans (hV.mono b0.size))
  have rA := fun (V : World) (hV : Below W.heap.size W V) => h.on hV
  have rD := fun (V : World) (hV : Below W.heap.size W V) => h'.on hV
  have rA' := fun (V : World) (hV : Below W.heap.size W V) => q.on hV
  have rD' := fun (V : World) (hV : Below W.heap.size W V) => q'.on hV
  have bPs : P.natAbs < 4294967296 ^ (s + 1) := Nat.lt_of_lt_of_le bP (Nat.pow_le_pow_right (by omega) (by omega))
  have bQs : Q < 4294967296 ^ (s + 1) := lt_of_le_pow bQ (by omega)
  have b1s : (1 : Int).natAbs < 4294967296 ^ (s + 1) := Nat.lt_of_lt_of_le (by decide) (Nat.pow_le_pow_right (n := 4294967296) (i := 1) (by omega) (by omega))
  have b2s : 2 < 4294967296 ^ (s + 1) := Nat.lt_of_lt_of_le (by decide) (Nat.pow_le_pow_right (n := 4294967296) (i := 1) (by omega) (by omega))
  have bH : (P * ((2 : Nat) : Int) + 1 * (Q : Int)).natAbs < 4294967296 ^ (s + 1 + 1) := sum_lt (i := a.length) (j := 1) (k := d.length) (l := 1) bP (by decide) bQ (by decide) (by omega) (by omega)
  have bHQ : Q * 2 < 4294967296 ^ (s + 1 + 1) := lt_of_le_pow (k := d.length + 1) (prod_le bQ (show 2 ≤ 4294967296 ^ 1 by decide) (Nat.le_refl _)) (by omega)
  obtain ⟨N, hN⟩ : ∃ N, P / (Q : Int) = N := ⟨_, rfl⟩
  obtain ⟨NR, hNR⟩ : ∃ N, (P * 2 + (Q : Int)) / ((Q * 2 : Nat) : Int) = N := ⟨_, rfl⟩
  have c1 := fun (V : World) (hV : Below W.heap.size W V) => frac_Whole (SV P Q (s + 1)) P Q (s + 1) hQ (by omega) (hold_V P Q (s + 1) (by omega) (by omega)) n a d A D ca cd V hS (rA V hV) (rD V hV)
  have c2 := fun (V : World) (hV : Below W.heap.size W V) => rv_Floor P Q (s + 1) hQ (by omega) n a d A D ca cd V hS (rA V hV) (rD V hV)
  have c3 : ∀ (V : World) (x : List Nat) (X : Option Addr) (cx : Nat), Rd V (fun g => g < V.heap.size) .u32 X x → Norm 4294967296 x → val 4294967296 x = N.natAbs → Calls Tryz.prog 33 #[.agg #[.bool (decide (N < 0)), .slice X x.length cx]] V (IntIs N V) := fun V x X cx r hn hv => by
    have hlx : x.length ≤ 1048576 := by
      refine Nat.le_trans (hn.2.length_le (b := 4294967296) (n := s) (by omega) ?_) (by omega)
      rw [hv, ← hN]
      exact Nat.lt_of_le_of_lt (Int.natAbs_ediv_le_natAbs _ _) (Nat.lt_of_lt_of_le bP (Nat.pow_le_pow_right (by omega) (by omega)))
    have := ref2_Int (decide (N < 0)) x X cx V r (by omega) hn.1
    rwa [wv_dec hv] at this
  have c4 := fun (V : World) (hV : Below W.heap.size W V) => (rv_Reduce P Q (s + 1) hQ (by omega) n a d A D ca cd V hS (rA V hV) (rD V hV)).mono fun _ _ => Gv.imp fun _ _ _ _ _ => SF.toG bPs bQs
  have c5 := fun (V : World) (hV : Below W.heap.size W V) => frac_Cmp (SV P Q (s + 1)) (SV P' Q' (s + 1)) P P' Q Q' (s + 1) hQ hQ' (by omega) (hold_V P Q (s + 1) (by omega) (by omega)) (hold_V P' Q' (s + 1) (by omega) (by omega)) n n' a d a' d' A D A' D' ca cd ca' cd' V hS hT (rA V hV) (rD V hV) (rA' V hV) (rD' V hV)
  have c6 := fun (V : World) (hV : Below W.heap.size W V) => ref4_Cmp n n' a d a' d' A D A' D' ca cd ca' cd' V (rA V hV) (rD V hV) (rA' V hV) (rD' V hV) (by omega) (by omega) (by omega) (by omega) ha hd ga gd
  have c7 := fun (V : World) (hV : Below W.heap.size W V) => frac_Sign_gen (SV P Q (s + 1)) (SR P Q (s + 1)) (sgn P) (hold_V P Q (s + 1) (by omega) (by omega)) (fun n a d A ca cd w hh r => by
    have := whole_Sign n a A ca w r (by have := hh.2.2.2.2.1; omega) hh.1 hh.2.2.1
    rwa [sgn_cross (P := P) (Q := (Q : Int)) (by have := hh.2.2.2.2.2.2.1; omega) (by omega) hh.2.2.2.2.2.2.2] at this) n a d A D ca cd V hS (rA V hV) (rD V hV)
  have c8 := fun (V : World) (hV : Below W.heap.size W V) => ref4_Sign n a d A D ca cd V (rA V hV) (rD V hV) (by omega) (by omega) ha hd
  simp only [hP, hP', hQe, hQe'] at c6 c8
  obtain ⟨zc, hzc⟩ : ∃ z, sgn (P * (Q' : Int) - P' * (Q : Int)) = z := ⟨_, rfl⟩
  obtain ⟨zs, hzs⟩ : ∃ z, sgn P = z := ⟨_, rfl⟩
  simp only [hzc] at c5 c6
  simp only [hzs] at c7 c8
  have c9 := fun (V : World) (hV : Below W.heap.size W V) => fv_Floor P Q (s + 1) hQ (by omega) (by omega) n a d A D ca cd V hS (rA V hV) (rD V hV)
  have c10 := fun (V : World) (hV : Below W.heap.size W V) => fv_Round P Q (s + 1) hQ (by omega) (by omega) n a d A D ca cd V hS (rA V hV) (rD V hV)
  simp only [hN] at c2 c9
  simp only [hNR] at c10
  have c11 := fun (V : World) => (ref4_Half V).mono fun _ _ hh => (gv_of_f hh).imp fun _ _ _ _ _ => SF.toG (m := s + 1) b1s b2s
  have c12 : ∀ (V : World) (hV : Below W.heap.size W V) (n2 : Bool) (a2 d2 : List Nat) (X2 Y2 : Option Addr) (c2 e2 : Nat), SG 1 2 (s + 1) n2 a2 c2 d2 e2 → Rd V (fun g => g < V.heap.size) .u32 X2 a2 → Rd V (fun g => g < V.heap.size) .u32 Y2 d2 → Calls Tryz.prog 10 #[.agg #[.bool n, .slice A a.length ca, .slice D d.length cd], .agg #[.bool n2, .slice X2 a2.length c2, .slice Y2 d2.length e2]] V (Gv (SG (P * ((2 : Nat) : Int) + 1 * (Q : Int)) (Q * 2) (s + 1 + 1)) V) := fun V hV n2 a2 d2 X2 Y2 c2 e2 hh r r' =>
    (rv_Add P 1 Q 2 (s + 1) hQ (by omega) (by omega) n n2 a d a2 d2 A D X2 Y2 ca cd c2 e2 V hS (hh.toV (by omega)) (rA V hV) (rD V hV) r r').mono fun _ _ => Gv.imp fun _ _ _ _ _ => SF.toG bH bHQ
  have c13 : ∀ (V : World) (n2 : Bool) (a2 d2 : List Nat) (X2 Y2 : Option Addr) (c2 e2 : Nat), SG (P * ((2 : Nat) : Int) + 1 * (Q : Int)) (Q * 2) (s + 1 + 1) n2 a2 c2 d2 e2 → Rd V (fun g => g < V.heap.size) .u32 X2 a2 → Rd V (fun g => g < V.heap.size) .u32 Y2 d2 → Calls Tryz.prog 32 #[.agg #[.bool n2, .slice X2 a2.length c2, .slice Y2 d2.length e2]] V (GivesW NR V) := fun V n2 a2 d2 X2 Y2 c2 e2 hh r r' => by
    have := rv_Floor (P * ((2 : Nat) : Int) + 1 * (Q : Int)) (Q * 2) (s + 1 + 1) (by omega) (by omega) n2 a2 d2 X2 Y2 c2 e2 V (hh.toV (by omega)) r r'
    rwa [Int.one_mul, show ((2 : Nat) : Int) = 2 from rfl, hNR] at this
  have c14 := fun (V : World) (hV : Below W.heap.size W V) => law4_lives V (tab V hV)
  have HW := Lib.hid (fun (n2 : Bool) (a2 d2 q2 : List Nat) (c2 e2 : Nat) (k : SG P Q (s + 1) n2 a2 c2 d2 e2) (hq : Norm 4294967296 q2) (hv : val 4294967296 q2 = N.natAbs) => whole_words hQ hN k.1 hq hv)
  have hLX := Lib.hid (fun (x : List Nat) (hn : Norm 4294967296 x) (hv : val 4294967296 x = N.natAbs) => (show x.length ≤ s from by
    refine hn.2.length_le (b := 4294967296) (n := s) (by omega) ?_
    rw [hv, ← hN]
    exact Nat.lt_of_le_of_lt (Int.natAbs_ediv_le_natAbs _ _) (Nat.lt_of_lt_of_le bP (Nat.pow_le_pow_right (by omega) (by omega)))))
  have hLR := Lib.hid (fun (x : List Nat) (hn : Norm 4294967296 x) (hv : val 4294967296 x = NR.natAbs) => (show x.length ≤ s + 1 + 1 from by
    refine hn.2.length_le (b := 4294967296) (n := s + 1 + 1) (by omega) ?_
    rw [hv, ← hNR]
    refine Nat.lt_of_le_of_lt (Int.natAbs_ediv_le_natAbs _ _) ?_
    rw [Int.one_mul] at bH
    exact bH))
  have es : s + 1 + 1 ≤ 1048578 := by omega
  have C1 := Lib.hid c1
  have C2 := Lib.hid c2
  have C3 := Lib.hid c3
  have C4 := Lib.hid c4
  have C5 := Lib.hid c5
  have C6 := Lib.hid c6
  have C7 := Lib.hid c7
  have C8 := Lib.hid c8
  have C9 := Lib.hid c9
  have C10 := Lib.hid c10
  have C11 := Lib.hid c11
  have C12 := Lib.hid c12
  have C13 := Lib.hid c13
  have C14 := Lib.hid c14
  have HK1 := Lib.hid k1
  have HK2 := Lib.hid k2
  have HB0 := Lib.hid b0
  have HN := Lib.hid hN
  clear c1 c2 c3 c4 c5 c6 c7 c8 c9 c10 c11 c12 c13 c14 rA rD rA' rD' hzc hzs hN hNR bH bHQ bPs bQs b1s b2s hP hP' hQe hQe' bP bP' bQ bQ' hS hT h h' q q' hQ hQ' tab hs s0 k1 k2 b0
  go_enter Tryz.func5, Tryz.ntmps5
  go_wp2_with fail
  try rw [hW]
  clear hW
  refine Calls.mono (C1.out _ (Below.refl _ _)) ?_
  rintro e w1 hE
  rcases hE with ⟨hm, rfl, b1⟩ | ⟨hm, rfl, b1⟩
  all_goals
    have K1 := b1
    have HM := Lib.hid hm
    obtain ⟨p0, p1, p2⟩ := keep3 HK1.out K1
    obtain ⟨z0, z1, z2⟩ := keep3 HK2.out K1
    clear hm
  · rw [HN.out]
    obtain ⟨i0, hi0⟩ : ∃ i, intOr0 N = i := ⟨_, rfl⟩
    obtain ⟨i1, hi1⟩ : ∃ i, isInt N = i := ⟨_, rfl⟩
    have HI := Lib.hid (And.intro hi0 hi1)
    rw [hi0, hi1]
    clear hi0 hi1
    go_wp2_with fail
    refine Calls.mono (C2.out _ K1) ?_
    rintro e w2 ⟨X2, x2, c2, rfl, hc2, hn2, hv2, r2, b2⟩
    have K2 := below_next K1 (Nat.le_refl _) b2
    obtain ⟨V, hV, kV, bV, sV⟩ := bw1 w2 24 (.bool (decide (N < 0))) (.slice X2 x2.length c2)
    have KV := below_next K2 (Nat.le_refl _) bV
    have cI := C3.out V x2 X2 c2 (r2.on bV) hn2 hv2
    have R2 := Lib.hid (r2.on bV)
    have H2 := Lib.hid (And.intro hn2 hv2)
    have HK7 := Lib.hid kV
    have HV := Lib.hid hV
    clear hn2 hv2 hV kV sV p0 p1 p2 z0 z1 z2
    go_wp2_with fail
    rw [HV.out]
    refine cI.mono ?_
    rintro e w3 ⟨rfl, b3⟩
    have K3 := below_next KV (Nat.le_refl _) b3
    rw [HI.out.1, HI.out.2]
    have D1 := Lib.hid (HK1.out.below K3 HK1.out.lt)
    have D2 := Lib.hid (HK2.out.below K3 HK2.out.lt)
    have D7 := Lib.hid (HK7.out.below b3 HK7.out.lt)
    have R3 := Lib.hid (R2.out.on b3)
    obtain ⟨p0, p1, p2, -, -, -⟩ := D1.out.facts
    obtain ⟨z0, z1, z2, -, -, -⟩ := D2.out.facts
    obtain ⟨y0, y1, -, -⟩ := D7.out.facts2
    have K0 : Below w3.heap.size w3 w3.drew := below_drewN (Below.refl _ _) 1
    have KO : Below w3.heap.size w3 (w3.alloc (.cells #[.int .u32 1] 50)).drew := below_drewN (below_new w3 _) 1
    have hone : Rd (w3.alloc (.cells #[.int .u32 1] 50)).drew (fun g => g < (w3.alloc (.cells #[.int .u32 1] 50)).drew.heap.size) .u32 (some ⟨w3.heap.size, 0, none⟩) [1] := by
      obtain ⟨Z, hZ, r, -, -⟩ := one_word w3 1 1 rfl
      subst hZ
      exact r.on (below_drewN (Below.refl _ _) 1)
    have HO := Lib.hid hone
    clear cI hone
    go_wp2_with fail
    go_region_held3 (fun w' => (w'.cell? ⟨w.heap.size, 0, none⟩ = some (.bool n) ∧ w'.cell? ⟨w.heap.size, 1, none⟩ = some (.slice A a.length ca) ∧ w'.cell? ⟨w.heap.size, 2, none⟩ = some (.slice D d.length cd)) ∧ (w'.cell? ⟨w2.heap.size, 0, none⟩ = some (.bool (decide (N < 0))) ∧ w'.cell? ⟨w2.heap.size, 1, none⟩ = some (.slice X2 x2.length c2)))
      (first | (refine ⟨keep3 D1.out ?_, keep2w D7.out ?_⟩ <;> first | (with_reducible exact MB) | (with_reducible exact MA) | (with_reducible exact K0) | (with_reducible exact KO) | (with_reducible exact keep_one MA _) | (with_reducible exact keep_one K0 _) | exact KO) | go_keep)
      ((first
        | (go_at_call 30; (first | (with_reducible refine Calls.mono (C4.out _ (K3.trans (K0.mono K3.size))) ?_) | (with_reducible refine Calls.mono (C4.out _ (K3.trans (KO.mono K3.size))) ?_)); rintro e w4 ⟨m4, a4, Y4, e4, d4, E4, o4, rfl, s4, r4, q4, b4⟩; have l4 := s4.2; have heq : decide ((m4 = decide (N < 0) ∧ a4 = x2) ∧ d4 = [1]) = true := decide_eq_true (by have e := (HW.out m4 a4 d4 x2 e4 o4 s4 H2.out.1 H2.out.2).1 HM.out; exact ⟨⟨e.1, e.2.1⟩, e.2.2⟩); (first | (guard_hyp b4 : Below w3.drew.heap.size w3.drew w4; have MA := below_next K0 (Nat.le_refl _) b4) | (have MA := below_next KO (Nat.le_refl _) b4; have ho := HO.out.on b4)))
        | (go_at_call 8; (first | (with_reducible refine Calls.mono (ref4_same_one true m4 (decide (N < 0)) a4 d4 x2 Y4 E4 X2 (some ⟨w3.heap.size, 0, none⟩) e4 o4 c2 1 _ heq r4 q4 (R3.out.on MA) ho (by omega) (by omega)) ?_) | (with_reducible refine Calls.mono (ref4_same_one true m4 (decide (N < 0)) a4 d4 x2 Y4 E4 X2 (some ⟨w4.heap.size, 0, none⟩) e4 o4 c2 1 _ heq (r4.on (below_new w4 _)) (q4.on (below_new w4 _)) (R3.out.on (keep_one MA _)) (one_new w4) (by omega) (by omega)) ?_)); rintro e w5 ⟨rfl, b5⟩; (first | (guard_hyp b5 : Below w4.heap.size w4 w5; have MB := below_next MA (Nat.le_refl _) b5) | (have MB := below_next (keep_one MA _) (Nat.le_refl _) b5)))))
    all_goals
      clear R2
      have F1 := Lib.hid (D1.out.below MB D1.out.lt)
      have F2 := Lib.hid (D2.out.below MB D2.out.lt)
      have F7 := Lib.hid (D7.out.below MB D7.out.lt)
      have N0 : Below w5.heap.size w5 w5.drew := below_drewN (Below.refl _ _) 1
      obtain ⟨p0, p1, p2, -, -, -⟩ := F1.out.facts
      obtain ⟨z0, z1, z2, -, -, -⟩ := F2.out.facts
      obtain ⟨y0, y1, -, -⟩ := F7.out.facts2
      go_wp2_with fail
      go_region_held3 (fun w' => (w'.cell? ⟨w.heap.size, 0, none⟩ = some (.bool n) ∧ w'.cell? ⟨w.heap.size, 1, none⟩ = some (.slice A a.length ca) ∧ w'.cell? ⟨w.heap.size, 2, none⟩ = some (.slice D d.length cd)) ∧ (w'.cell? ⟨w.heap.size + 1, 0, none⟩ = some (.bool n') ∧ w'.cell? ⟨w.heap.size + 1, 1, none⟩ = some (.slice A' a'.length ca') ∧ w'.cell? ⟨w.heap.size + 1, 2, none⟩ = some (.slice D' d'.length cd')) ∧ (w'.cell? ⟨w2.heap.size, 0, none⟩ = some (.bool (decide (N < 0))) ∧ w'.cell? ⟨w2.heap.size, 1, none⟩ = some (.slice X2 x2.length c2)))
        (first | (with_reducible exact ⟨keep3 F1.out N0, keep3 F2.out N0, keep2w F7.out N0⟩) | (with_reducible exact ⟨keep3 F1.out N1, keep3 F2.out N1, keep2w F7.out N1⟩) | (with_reducible exact ⟨keep3 F1.out N2, keep3 F2.out N2, keep2w F7.out N2⟩) | (with_reducible exact ⟨keep3 F1.out N3, keep3 F2.out N3, keep2w F7.out N3⟩) | (with_reducible exact ⟨keep3 F1.out N4, keep3 F2.out N4, keep2w F7.out N4⟩) | (with_reducible exact ⟨keep3 F1.out N5, keep3 F2.out N5, keep2w F7.out N5⟩) | (with_reducible exact ⟨keep3 F1.out N6, keep3 F2.out N6, keep2w F7.out N6⟩) | (with_reducible exact ⟨keep3 F1.out N7, keep3 F2.out N7, keep2w F7.out N7⟩) | (with_reducible exact ⟨keep3 F1.out N8, keep3 F2.out N8, keep2w F7.out N8⟩) | (with_reducible exact ⟨keep3 F1.out N9, keep3 F2.out N9, keep2w F7.out N9⟩) | (with_reducible exact ⟨keep3 F1.out N10, keep3 F2.out N10, keep2w F7.out N10⟩) | (with_reducible exact ⟨keep3 F1.out N11, keep3 F2.out N11, keep2w F7.out N11⟩) | (with_reducible exact ⟨keep3 F1.out N12, keep3 F2.out N12, keep2w F7.out N12⟩) | go_keep)
        ((first
          | (go_at_call 34; (with_reducible refine Calls.mono (C5.out _ (K3.trans ((MB.trans (N0.mono MB.size)).mono K3.size))) ?_); rintro e u1 ⟨rfl, f1⟩; have N1 := below_next N0 (Nat.le_refl _) f1)
          | (go_at_call 35; (with_reducible refine Calls.mono (C6.out _ (K3.trans ((MB.trans (N1.mono MB.size)).mono K3.size))) ?_); rintro e u2 ⟨rfl, f2⟩; have N2 := below_next N1 (Nat.le_refl _) f2)
          | (go_at_call 36; (with_reducible refine Calls.mono (C7.out _ (K3.trans ((MB.trans (N2.mono MB.size)).mono K3.size))) ?_); rintro e u3 ⟨rfl, f3⟩; have N3 := below_next N2 (Nat.le_refl _) f3)
          | (go_at_call 37; (with_reducible refine Calls.mono (C8.out _ (K3.trans ((MB.trans (N3.mono MB.size)).mono K3.size))) ?_); rintro e u4 ⟨rfl, f4⟩; have N4 := below_next N3 (Nat.le_refl _) f4)
          | (go_at_call 39; (with_reducible refine Calls.mono (C9.out _ (K3.trans ((MB.trans (N4.mono MB.size)).mono K3.size))) ?_); rintro e u5 ⟨A5, a5, e5, rfl, h5, n5, v5, r5, f5⟩; have N5 := below_next N4 (Nat.le_refl _) f5; have l5 := hLX.out a5 n5 v5; have q5 := Lib.hid (a5_is n5 H2.out.1 (v5.trans H2.out.2.symm)))
          | (go_at_call_of 38 (Value.slice A5 a5.length e5); (with_reducible refine Calls.mono (ref2_same_is (decide (N < 0)) a5 x2 q5.out A5 X2 e5 c2 _ r5 (R3.out.on (MB.trans (N5.mono MB.size))) (by omega)) ?_); rintro e u6 ⟨rfl, f6⟩; have N6 := below_next N5 (Nat.le_refl _) f6)
          | (go_at_call 40; (with_reducible refine Calls.mono (C10.out _ (K3.trans ((MB.trans (N6.mono MB.size)).mono K3.size))) ?_); rintro e u7 ⟨A7, a7, e7, rfl, h7, n7, v7, r7, f7⟩; have N7 := below_next N6 (Nat.le_refl _) f7; have l7 := hLR.out a7 n7 v7)
          | (go_at_call 18; (with_reducible refine Calls.mono (C11.out _) ?_); rintro e u8 ⟨m8, a8, Y8, e8, d8, E8, o8, rfl, s8, r8, q8, f8⟩; have N8 := below_next N7 (Nat.le_refl _) f8)
          | (go_at_call 10; (with_reducible refine Calls.mono (C12.out _ (K3.trans ((MB.trans (N8.mono MB.size)).mono K3.size)) m8 a8 d8 Y8 E8 e8 o8 s8 r8 q8) ?_); rintro e u9 ⟨m9, a9, Y9, e9, d9, E9, o9, rfl, s9, r9, q9, f9⟩; have N9 := below_next N8 (Nat.le_refl _) f9)
          | (go_at_call 32; (with_reducible refine Calls.mono (C13.out _ m9 a9 d9 Y9 E9 e9 o9 s9 r9 q9) ?_); rintro e u10 ⟨A10, a10, e10, rfl, h10, n10, v10, r10, f10⟩; have N10 := below_next N9 (Nat.le_refl _) f10; have q10 := Lib.hid (a5_is n7 n10 (v7.trans v10.symm)))
          | (go_at_call_of 38 (Value.slice A7 a7.length e7); (with_reducible refine Calls.mono (ref2_same_is (decide (NR < 0)) a7 a10 q10.out A7 A10 e7 e10 _ (r7.on ((f8.trans (f9.mono f8.size)).trans (f10.mono (Nat.le_trans f8.size f9.size)))) r10 (by omega)) ?_); rintro e u11 ⟨rfl, f11⟩; have N11 := below_next N10 (Nat.le_refl _) f11)
          | (go_at_call 21; (with_reducible refine Calls.mono (C14.out _ (K3.trans ((MB.trans (N11.mono MB.size)).mono K3.size))) ?_); rintro e u12 ⟨rfl, f12⟩; have N12 := below_next N11 (Nat.le_refl _) f12)))
      go_wp2_with fail
      go_ret
      exact ⟨rfl, HB0.out.trans (((K3.trans ((MB.trans (N12.mono MB.size)).mono K3.size))).mono HB0.out.size)⟩
  · obtain ⟨i0, hi0⟩ : ∃ i, intOr0 N = i := ⟨_, rfl⟩
    obtain ⟨i1, hi1⟩ : ∃ i, isInt N = i := ⟨_, rfl⟩
    have HI := Lib.hid (And.intro hi0 hi1)
    clear hi0 hi1
    go_wp2_with fail
    refine Calls.mono (C2.out _ K1) ?_
    rintro e w2 ⟨X2, x2, c2, rfl, hc2, hn2, hv2, r2, b2⟩
    have K2 := below_next K1 (Nat.le_refl _) b2
    obtain ⟨V, hV, kV, bV, sV⟩ := bw1 w2 24 (.bool (decide (N < 0))) (.slice X2 x2.length c2)
    have KV := below_next K2 (Nat.le_refl _) bV
    have cI := C3.out V x2 X2 c2 (r2.on bV) hn2 hv2
    have R2 := Lib.hid (r2.on bV)
    have H2 := Lib.hid (And.intro hn2 hv2)
    have HK7 := Lib.hid kV
    have HV := Lib.hid hV
    clear hn2 hv2 hV kV sV p0 p1 p2 z0 z1 z2
    go_wp2_with fail
    rw [HV.out]
    refine cI.mono ?_
    rintro e w3 ⟨rfl, b3⟩
    have K3 := below_next KV (Nat.le_refl _) b3
    rw [HI.out.1, HI.out.2]
    have D1 := Lib.hid (HK1.out.below K3 HK1.out.lt)
    have D2 := Lib.hid (HK2.out.below K3 HK2.out.lt)
    have D7 := Lib.hid (HK7.out.below b3 HK7.out.lt)
    have R3 := Lib.hid (R2.out.on b3)
    obtain ⟨p0, p1, p2, -, -, -⟩ := D1.out.facts
    obtain ⟨z0, z1, z2, -, -, -⟩ := D2.out.facts
    obtain ⟨y0, y1, -, -⟩ := D7.out.facts2
    have K0 : Below w3.heap.size w3 w3.drew := below_drewN (Below.refl _ _) 1
    have KO : Below w3.heap.size w3 (w3.alloc (.cells #[.int .u32 1] 50)).drew := below_drewN (below_new w3 _) 1
    have hone : Rd (w3.alloc (.cells #[.int .u32 1] 50)).drew (fun g => g < (w3.alloc (.cells #[.int .u32 1] 50)).drew.heap.size) .u32 (some ⟨w3.heap.size, 0, none⟩) [1] := by
      obtain ⟨Z, hZ, r, -, -⟩ := one_word w3 1 1 rfl
      subst hZ
      exact r.on (below_drewN (Below.refl _ _) 1)
    have HO := Lib.hid hone
    clear cI hone
    go_wp2_with fail
    go_region_held3 (fun w' => (w'.cell? ⟨w.heap.size, 0, none⟩ = some (.bool n) ∧ w'.cell? ⟨w.heap.size, 1, none⟩ = some (.slice A a.length ca) ∧ w'.cell? ⟨w.heap.size, 2, none⟩ = some (.slice D d.length cd)) ∧ (w'.cell? ⟨w2.heap.size, 0, none⟩ = some (.bool (decide (N < 0))) ∧ w'.cell? ⟨w2.heap.size, 1, none⟩ = some (.slice X2 x2.length c2)))
      (first | (refine ⟨keep3 D1.out ?_, keep2w D7.out ?_⟩ <;> first | (with_reducible exact MB) | (with_reducible exact MA) | (with_reducible exact K0) | (with_reducible exact KO) | (with_reducible exact keep_one MA _) | (with_reducible exact keep_one K0 _) | exact KO) | go_keep)
      ((first
        | (go_at_call 30; (first | (with_reducible refine Calls.mono (C4.out _ (K3.trans (K0.mono K3.size))) ?_) | (with_reducible refine Calls.mono (C4.out _ (K3.trans (KO.mono K3.size))) ?_)); rintro e w4 ⟨m4, a4, Y4, e4, d4, E4, o4, rfl, s4, r4, q4, b4⟩; have l4 := s4.2; have heq : decide ((m4 = decide (N < 0) ∧ a4 = x2) ∧ d4 = [1]) = false := decide_eq_false (fun e => (HW.out m4 a4 d4 x2 e4 o4 s4 H2.out.1 H2.out.2).2 HM.out e.2); (first | (guard_hyp b4 : Below w3.drew.heap.size w3.drew w4; have MA := below_next K0 (Nat.le_refl _) b4) | (have MA := below_next KO (Nat.le_refl _) b4; have ho := HO.out.on b4)))
        | (go_at_call 8; (first | (with_reducible refine Calls.mono (ref4_same_one false m4 (decide (N < 0)) a4 d4 x2 Y4 E4 X2 (some ⟨w3.heap.size, 0, none⟩) e4 o4 c2 1 _ heq r4 q4 (R3.out.on MA) ho (by omega) (by omega)) ?_) | (with_reducible refine Calls.mono (ref4_same_one false m4 (decide (N < 0)) a4 d4 x2 Y4 E4 X2 (some ⟨w4.heap.size, 0, none⟩) e4 o4 c2 1 _ heq (r4.on (below_new w4 _)) (q4.on (below_new w4 _)) (R3.out.on (keep_one MA _)) (one_new w4) (by omega) (by omega)) ?_)); rintro e w5 ⟨rfl, b5⟩; (first | (guard_hyp b5 : Below w4.heap.size w4 w5; have MB := below_next MA (Nat.le_refl _) b5) | (have MB := below_next (keep_one MA _) (Nat.le_refl _) b5)))))
    all_goals
      clear R2
      have F1 := Lib.hid (D1.out.below MB D1.out.lt)
      have F2 := Lib.hid (D2.out.below MB D2.out.lt)
      have F7 := Lib.hid (D7.out.below MB D7.out.lt)
      have N0 : Below w5.heap.size w5 w5.drew := below_drewN (Below.refl _ _) 1
      obtain ⟨p0, p1, p2, -, -, -⟩ := F1.out.facts
      obtain ⟨z0, z1, z2, -, -, -⟩ := F2.out.facts
      obtain ⟨y0, y1, -, -⟩ := F7.out.facts2
      go_wp2_with fail
      go_region_held3 (fun w' => (w'.cell? ⟨w.heap.size, 0, none⟩ = some (.bool n) ∧ w'.cell? ⟨w.heap.size, 1, none⟩ = some (.slice A a.length ca) ∧ w'.cell? ⟨w.heap.size, 2, none⟩ = some (.slice D d.length cd)) ∧ (w'.cell? ⟨w.heap.size + 1, 0, none⟩ = some (.bool n') ∧ w'.cell? ⟨w.heap.size + 1, 1, none⟩ = some (.slice A' a'.length ca') ∧ w'.cell? ⟨w.heap.size + 1, 2, none⟩ = some (.slice D' d'.length cd')) ∧ (w'.cell? ⟨w2.heap.size, 0, none⟩ = some (.bool (decide (N < 0))) ∧ w'.cell? ⟨w2.heap.size, 1, none⟩ = some (.slice X2 x2.length c2)))
        (first | (with_reducible exact ⟨keep3 F1.out N0, keep3 F2.out N0, keep2w F7.out N0⟩) | (with_reducible exact ⟨keep3 F1.out N1, keep3 F2.out N1, keep2w F7.out N1⟩) | (with_reducible exact ⟨keep3 F1.out N2, keep3 F2.out N2, keep2w F7.out N2⟩) | (with_reducible exact ⟨keep3 F1.out N3, keep3 F2.out N3, keep2w F7.out N3⟩) | (with_reducible exact ⟨keep3 F1.out N4, keep3 F2.out N4, keep2w F7.out N4⟩) | (with_reducible exact ⟨keep3 F1.out N5, keep3 F2.out N5, keep2w F7.out N5⟩) | (with_reducible exact ⟨keep3 F1.out N6, keep3 F2.out N6, keep2w F7.out N6⟩) | (with_reducible exact ⟨keep3 F1.out N7, keep3 F2.out N7, keep2w F7.out N7⟩) | (with_reducible exact ⟨keep3 F1.out N8, keep3 F2.out N8, keep2w F7.out N8⟩) | (with_reducible exact ⟨keep3 F1.out N9, keep3 F2.out N9, keep2w F7.out N9⟩) | (with_reducible exact ⟨keep3 F1.out N10, keep3 F2.out N10, keep2w F7.out N10⟩) | (with_reducible exact ⟨keep3 F1.out N11, keep3 F2.out N11, keep2w F7.out N11⟩) | (with_reducible exact ⟨keep3 F1.out N12, keep3 F2.out N12, keep2w F7.out N12⟩) | go_keep)
        ((first
          | (go_at_call 34; (with_reducible refine Calls.mono (C5.out _ (K3.trans ((MB.trans (N0.mono MB.size)).mono K3.size))) ?_); rintro e u1 ⟨rfl, f1⟩; have N1 := below_next N0 (Nat.le_refl _) f1)
          | (go_at_call 35; (with_reducible refine Calls.mono (C6.out _ (K3.trans ((MB.trans (N1.mono MB.size)).mono K3.size))) ?_); rintro e u2 ⟨rfl, f2⟩; have N2 := below_next N1 (Nat.le_refl _) f2)
          | (go_at_call 36; (with_reducible refine Calls.mono (C7.out _ (K3.trans ((MB.trans (N2.mono MB.size)).mono K3.size))) ?_); rintro e u3 ⟨rfl, f3⟩; have N3 := below_next N2 (Nat.le_refl _) f3)
          | (go_at_call 37; (with_reducible refine Calls.mono (C8.out _ (K3.trans ((MB.trans (N3.mono MB.size)).mono K3.size))) ?_); rintro e u4 ⟨rfl, f4⟩; have N4 := below_next N3 (Nat.le_refl _) f4)
          | (go_at_call 39; (with_reducible refine Calls.mono (C9.out _ (K3.trans ((MB.trans (N4.mono MB.size)).mono K3.size))) ?_); rintro e u5 ⟨A5, a5, e5, rfl, h5, n5, v5, r5, f5⟩; have N5 := below_next N4 (Nat.le_refl _) f5; have l5 := hLX.out a5 n5 v5; have q5 := Lib.hid (a5_is n5 H2.out.1 (v5.trans H2.out.2.symm)))
          | (go_at_call_of 38 (Value.slice A5 a5.length e5); (with_reducible refine Calls.mono (ref2_same_is (decide (N < 0)) a5 x2 q5.out A5 X2 e5 c2 _ r5 (R3.out.on (MB.trans (N5.mono MB.size))) (by omega)) ?_); rintro e u6 ⟨rfl, f6⟩; have N6 := below_next N5 (Nat.le_refl _) f6)
          | (go_at_call 40; (with_reducible refine Calls.mono (C10.out _ (K3.trans ((MB.trans (N6.mono MB.size)).mono K3.size))) ?_); rintro e u7 ⟨A7, a7, e7, rfl, h7, n7, v7, r7, f7⟩; have N7 := below_next N6 (Nat.le_refl _) f7; have l7 := hLR.out a7 n7 v7)
          | (go_at_call 18; (with_reducible refine Calls.mono (C11.out _) ?_); rintro e u8 ⟨m8, a8, Y8, e8, d8, E8, o8, rfl, s8, r8, q8, f8⟩; have N8 := below_next N7 (Nat.le_refl _) f8)
          | (go_at_call 10; (with_reducible refine Calls.mono (C12.out _ (K3.trans ((MB.trans (N8.mono MB.size)).mono K3.size)) m8 a8 d8 Y8 E8 e8 o8 s8 r8 q8) ?_); rintro e u9 ⟨m9, a9, Y9, e9, d9, E9, o9, rfl, s9, r9, q9, f9⟩; have N9 := below_next N8 (Nat.le_refl _) f9)
          | (go_at_call 32; (with_reducible refine Calls.mono (C13.out _ m9 a9 d9 Y9 E9 e9 o9 s9 r9 q9) ?_); rintro e u10 ⟨A10, a10, e10, rfl, h10, n10, v10, r10, f10⟩; have N10 := below_next N9 (Nat.le_refl _) f10; have q10 := Lib.hid (a5_is n7 n10 (v7.trans v10.symm)))
          | (go_at_call_of 38 (Value.slice A7 a7.length e7); (with_reducible refine Calls.mono (ref2_same_is (decide (NR < 0)) a7 a10 q10.out A7 A10 e7 e10 _ (r7.on ((f8.trans (f9.mono f8.size)).trans (f10.mono (Nat.le_trans f8.size f9.size)))) r10 (by omega)) ?_); rintro e u11 ⟨rfl, f11⟩; have N11 := below_next N10 (Nat.le_refl _) f11)
          | (go_at_call 21; (with_reducible refine Calls.mono (C14.out _ (K3.trans ((MB.trans (N11.mono MB.size)).mono K3.size))) ?_); rintro e u12 ⟨rfl, f12⟩; have N12 := below_next N11 (Nat.le_refl _) f12)))
      go_wp2_with fail
      go_ret
      exact ⟨rfl, HB0.out.trans (((K3.trans ((MB.trans (N12.mono MB.size)).mono K3.size))).mono HB0.out.size)⟩
end Go.Proofs.YtidbpkibjficnaaGreatDoor
