/- Fractions: what the program's own Whole answers. -/
import Derived.Test.YtidbpkibjficnaaGreatDoorZFpV
import Derived.Test.YtidbpkibjficnaaGreatDoorZFpR
import Derived.Test.YtidbpkibjficnaaGreatDoorZFpW
import Derived.Test.YtidbpkibjficnaaGreatDoorZWhY
import Derived.Deep.RegionHeld3
namespace Go.Proofs.YtidbpkibjficnaaGreatDoor
open Go.RowKit Num

/-- what Whole answers of P by Q -/
def WholeIs (P Q : Int) (w : World) (e : Ending) (w' : World) : Prop := (P % Q = 0 ∧ IntIs (P / Q) w e w') ∨ (¬ P % Q = 0 ∧ e = .returned (.tuple #[.int .i64 0, .bool false]) ∧ Below w.heap.size w w')

/-- a quotient and what is left -/
def GivesQ (N M : Int) (w : World) (e : Ending) (w' : World) : Prop :=
  ∃ A q c A' r c', e = .returned (.tuple #[.agg #[.bool (decide (N < 0)), .slice A q.length c], .agg #[.bool false, .slice A' r.length c'], .bool true]) ∧ q.length ≤ c ∧ r.length ≤ c' ∧ Norm 4294967296 q ∧ Norm 4294967296 r ∧
    val 4294967296 q = N.natAbs ∧ val 4294967296 r = M.natAbs ∧ Rd w' (fun g => g < w'.heap.size) .u32 A q ∧ Rd w' (fun g => g < w'.heap.size) .u32 A' r ∧ Below w.heap.size w w'
theorem gives_q {N D Q M : Int} {w w' : World} {e : Ending} (hD : D ≠ 0) (h1 : N / D = Q) (h2 : N % D = M) (h : GivesWQR N D w e w') : GivesQ Q M w e w' := by
  obtain ⟨A, q, c, A', r, c', rfl, k1, k2, k3, k4, k5, k6, k7⟩ := h
  rw [if_neg hD] at k6
  subst h1
  subst h2
  exact ⟨A, q, c, A', r, c', by rw [decide_eq_true hD], k1, k2, k3, k4, k5, k6, k7⟩

set_option maxRecDepth 10000 in
set_option maxHeartbeats 12800000 in
/-- the int that it is -/
theorem frac_Whole (S : Shape) (P : Int) (Q m : Nat) (hQ : 0 < Q) (hm : m ≤ 4194304) (cH : Fn1 60 S (SR P Q m)) (n : Bool) (a d : List Nat) (A D : Option Addr) (ca cd : Nat) (w : World) (hS : S n a ca d cd) (h : Rd w (fun g => g < w.heap.size) .u32 A a) (h' : Rd w (fun g => g < w.heap.size) .u32 D d) :
    Calls Tryz.prog 31 #[.agg #[.bool n, .slice A a.length ca, .slice D d.length cd]] w (WholeIs P (Q : Int) w) := by
  obtain ⟨W, hW, k1, b0, s0⟩ := bx1 w 26 (.bool n) (.slice A a.length ca) (.slice D d.length cd)
  obtain ⟨p0, p1, p2, -, -, -⟩ := k1.facts
  have cW := cH n a d A D ca cd W hS (h.on b0) (h'.on b0)
  obtain ⟨T, hT⟩ : ∃ T, SR P Q m = T := ⟨_, rfl⟩
  rw [hT] at cW
  have HT := Lib.hid hT
  clear hT cH hS h h'
  go_enter Tryz.func31, Tryz.ntmps31
  go_wp2_with fail
  try rw [hW]
  clear hW p0 p1 p2
  refine cW.mono ?_
  rintro e w1 ⟨n1, a1, A1, c1, d1, D1, e1, rfl, s1, r1, q1, b1⟩
  obtain ⟨U, hU, kU, bU, sU⟩ := bx1 w1 63 (.bool n1) (.slice A1 a1.length c1) (.slice D1 d1.length e1)
  have BU : Below w.heap.size w U := (b0.trans (b1.mono b0.size)).trans (bU.mono (Nat.le_trans b0.size b1.size))
  rw [← HT.out] at s1
  obtain ⟨hc, hc', ha, hd, hl, hl', hd0, hv⟩ := s1
  have rU := r1.on bU
  have qU := q1.on bU
  have K0 : Below U.heap.size U U.drew := below_drewN (Below.refl _ _) 1
  have hcm := cross_mod (show (0 : Int) < (val 4294967296 d1 : Int) by omega) (show (0 : Int) < (Q : Int) by omega) hv
  have hcd := cross_div (show (0 : Int) < (val 4294967296 d1 : Int) by omega) (show (0 : Int) < (Q : Int) by omega) hv
  have cP := fun (V : World) => frac_size D1 d1.length e1 V
  obtain ⟨N, hN⟩ : ∃ N, P / (Q : Int) = N := ⟨_, rfl⟩
  obtain ⟨M, hM⟩ : ∃ M, wv n1 a1 % (val 4294967296 d1 : Int) = M := ⟨_, rfl⟩
  have cD := fun (V : World) (hV : Below U.heap.size U V) => (whole_Div n1 false a1 d1 A1 D1 c1 e1 V (rU.on hV) (qU.on hV) (by omega) (by omega) hc hc' ha hd).mono fun e w' hh => gives_q (Q := N) (M := M) (show wv false d1 ≠ 0 by rw [wv_false]; omega) (by rw [wv_false, hcd, hN]) (by rw [wv_false, hM]) hh
  have hlq : ∀ x : List Nat, Norm 4294967296 x → val 4294967296 x = (P / (Q : Int)).natAbs → x.length ≤ 4194304 := fun x hn hx => by
    rw [← hcd] at hx
    refine Nat.le_trans (len_le (by omega) hn.2 ha ?_) (by omega)
    rw [hx, ← wv_abs n1 a1]
    exact Int.natAbs_ediv_le_natAbs _ _
  have hlr : ∀ x : List Nat, Norm 4294967296 x → val 4294967296 x = M.natAbs → x.length ≤ 4194304 := fun x hn hx => by
    refine Nat.le_trans (len_le (by omega) hn.2 hd ?_) (by omega)
    rw [hx]
    have e1 := Int.emod_lt_of_pos (wv n1 a1) (show (0 : Int) < (val 4294967296 d1 : Int) by omega)
    have e2 := Int.emod_nonneg (wv n1 a1) (show ((val 4294967296 d1 : Nat) : Int) ≠ 0 by omega)
    omega
  have hx : ∀ r : List Nat, val 4294967296 r = M.natAbs → (val 4294967296 r = 0 ↔ P % (Q : Int) = 0) := fun r hr => by
    rw [hr, ← hcm, hM]
    omega
  have HDC := Lib.hid (And.intro hN (And.intro hlq (And.intro hlr hx)))
  have CP := Lib.hid cP
  have CD := Lib.hid cD
  have HKU := Lib.hid kU
  have HBU := Lib.hid BU
  have HU := Lib.hid hU
  have hsz : w.heap.size < U.heap.size := by have := b0.size; have := b1.size; omega
  clear kU BU sU rU qU hU cP cD hN hM hlq hlr hx hcm hcd hv r1 q1 b1 b0 k1 bU cW s0
  go_wp2_with fail
  rw [HU.out]
  obtain ⟨x0, x1, x2, -, -, -⟩ := HKU.out.facts
  clear HU
  go_cut [5, 6] from 7 (fun v5 v6 wc => ∃ g5 g6 X2 q c2 X3 r c3, v5 = .pointer (some ⟨g5, 0, none⟩) ∧ v6 = .pointer (some ⟨g6, 0, none⟩) ∧ (q.length ≤ c2 ∧ r.length ≤ c3) ∧ Norm 4294967296 q ∧ Norm 4294967296 r ∧ val 4294967296 q = N.natAbs ∧ val 4294967296 r = M.natAbs ∧ Blk wc g5 24 [.bool (decide (N < 0)), .slice X2 q.length c2] ∧ Blk wc g6 24 [.bool false, .slice X3 r.length c3] ∧ Rd wc (fun g => g < wc.heap.size) .u32 X2 q ∧ Rd wc (fun g => g < wc.heap.size) .u32 X3 r ∧ Below U.heap.size U wc)
  case first =>
    have KO : Below U.heap.size U (U.alloc (.cells #[.bool false, .slice none 0 0] 24)).drew := below_drewN (keep_one (Below.refl U.heap.size U) _) 1
    have KT : Below U.heap.size U ((U.alloc (.cells #[.bool false, .slice none 0 0] 24)).alloc (.cells #[.bool false, .slice none 0 0] 24)).drew := below_drewN (keep_two (Below.refl U.heap.size U) _ _) 1
    go_region_held3 (fun w' => w'.cell? ⟨w1.heap.size, 0, none⟩ = some (.bool n1) ∧ w'.cell? ⟨w1.heap.size, 1, none⟩ = some (.slice A1 a1.length c1) ∧ w'.cell? ⟨w1.heap.size, 2, none⟩ = some (.slice D1 d1.length e1))
      (first | (refine keep3 HKU.out ?_; first | (with_reducible exact KB) | (with_reducible exact KA) | (with_reducible exact K0) | ((repeat (first | (with_reducible refine Below.setCell ?_ (by dsimp only; omega) _) | (with_reducible refine Below.alloc ?_ (by first | omega | exact Nat.le_refl _ | (have := KB.size; omega) | (have := KA.size; omega) | (simp; omega) | (have := KB.size; simp [World.setCell]; omega) | (have := KA.size; simp; omega)) _))); first | (with_reducible exact KB) | (with_reducible exact KA) | (with_reducible exact K0))) | go_keep)
      ((first
        | (go_at_call 71; (with_reducible refine Calls.mono (CP.out _) ?_); rintro e w2 ⟨rfl, b2⟩; (first | (guard_hyp b2 : Below U.drew.heap.size U.drew w2; have sz2 : U.heap.size ≤ w2.heap.size := b2.size; have KA := below_next K0 (Nat.le_refl _) b2) | (guard_hyp b2 : Below (U.alloc (.cells #[.bool false, .slice none 0 0] 24)).drew.heap.size (U.alloc (.cells #[.bool false, .slice none 0 0] 24)).drew w2; obtain ⟨kA, sz2⟩ := got1d b2; obtain ⟨o0, o1, o2, o3⟩ := kA.facts2; have KA := below_next KO (Nat.le_refl _) b2) | (obtain ⟨⟨kA, sz2⟩, kB⟩ := got2d b2; obtain ⟨o0, o1, o2, o3⟩ := kA.facts2; obtain ⟨l0, l1, l2, l3⟩ := kB.facts2; have KA := below_next KT (Nat.le_refl _) b2)))
        | (go_at_call 70; (first | (with_reducible refine Calls.mono (CD.out _ KA) ?_) | (with_reducible refine Calls.mono (CD.out _ (keep_one KA _)) ?_) | (with_reducible refine Calls.mono (CD.out _ (keep_two KA _ _)) ?_)); rintro e w3 ⟨X2, q, c2, X3, r, c3, rfl, hq2, hq3, hn2, hn3, hv2, hv3, r2, r3, b3⟩; (first | (guard_hyp b3 : Below w2.heap.size w2 w3; have sz3 : w2.heap.size ≤ w3.heap.size := b3.size; have KB := below_next KA (Nat.le_refl _) b3; have b23 : Below w2.heap.size w2 w3 := b3) | (guard_hyp b3 : Below (w2.alloc (.cells #[.bool false, .slice none 0 0] 24)).heap.size (w2.alloc (.cells #[.bool false, .slice none 0 0] 24)) w3; obtain ⟨kC, sz3⟩ := got1 b3; obtain ⟨t0, t1, t2, t3⟩ := kC.facts2; have KB := below_next (keep_one KA _) (Nat.le_refl _) b3; have b23 : Below w2.heap.size w2 w3 := (below_new w2 _).trans (b3.mono (by simp))) | (obtain ⟨⟨kC, sz3⟩, kD⟩ := got2 b3; obtain ⟨t0, t1, t2, t3⟩ := kC.facts2; obtain ⟨m0, m1, m2, m3⟩ := kD.facts2; have KB := below_next (keep_two KA _ _) (Nat.le_refl _) b3; have b23 : Below w2.heap.size w2 w3 := (below_new2 w2 _ _).trans (b3.mono (by simp; omega)))); (first | (guard_hyp b2 : Below U.drew.heap.size U.drew w2; have kX := b23) | (guard_hyp b2 : Below (U.alloc (.cells #[.bool false, .slice none 0 0] 24)).drew.heap.size (U.alloc (.cells #[.bool false, .slice none 0 0] 24)).drew w2; have kX := kA.on b23; have y1 := kX.lt; obtain ⟨o6, o7, o8, o9⟩ := kX.facts2) | (have kX := kA.on b23; have y1 := kX.lt; have kY := kB.on b23; have y2 := kY.lt; obtain ⟨o6, o7, o8, o9⟩ := kX.facts2; obtain ⟨l6, l7, l8, l9⟩ := kY.facts2)))))
    all_goals
      have hsz3 : U.heap.size ≤ w3.heap.size := KB.size
      go_wp2_with fail
      go_meet
      refine ⟨_, _, X2, q, c2, X3, r, c3, rfl, rfl, ⟨hq2, hq3⟩, hn2, hn3, hv2, hv3, ?_⟩
      first
        | (with_reducible exact wndA KB _ _ r2 _ _ r3)
        | (with_reducible exact wndA' KB _ _ r2 _ _ r3)
        | (with_reducible exact wndB kX (by omega) KB _ _ r2 _ _ r3)
        | (with_reducible exact wndB' kX (by omega) KB _ _ r2 _ _ r3)
        | (with_reducible exact wndB kY (by omega) KB _ _ r2 _ _ r3)
        | (with_reducible exact wndB' kY (by omega) KB _ _ r2 _ _ r3)
        | (with_reducible exact wndB kC (by omega) KB _ _ r2 _ _ r3)
        | (with_reducible exact wndB' kC (by omega) KB _ _ r2 _ _ r3)
        | (with_reducible exact wndC kX kY (by omega) (by omega) (by omega) KB _ _ r2 _ _ r3)
        | (with_reducible exact wndC kY kX (by omega) (by omega) (by omega) KB _ _ r2 _ _ r3)
        | (with_reducible exact wndC kX kC (by omega) (by omega) (by omega) KB _ _ r2 _ _ r3)
        | (with_reducible exact wndC kC kX (by omega) (by omega) (by omega) KB _ _ r2 _ _ r3)
        | (with_reducible exact wndC kC kD (by omega) (by omega) (by omega) KB _ _ r2 _ _ r3)
        | (with_reducible exact wndC kD kC (by omega) (by omega) (by omega) KB _ _ r2 _ _ r3)
  case rest =>
    obtain ⟨g5, g6, X2, q, c2, X3, r, c3, rfl, rfl, ⟨hq2, hq3⟩, hn2, hn3, hv2, hv3, k5, k6, r2, r3, KB⟩ := hcut
    obtain ⟨hN, hlq, hlr, hx⟩ := HDC.out
    have hr2 := hx r hv3
    have BW : Below w.heap.size w wc := HBU.out.trans (KB.mono HBU.out.size)
    have HBW := Lib.hid BW
    have H5 := Lib.hid k5
    have H6 := Lib.hid k6
    have cS := whole_Sign false r X3 c3 wc r3 (by have := hlr r hn3 hv3; omega) hq3 hn3.1
    rw [wv_false] at cS
    have cI := fun (V : World) (hV : Below wc.heap.size wc V) => whole_Int (decide (N < 0)) q X2 c2 V (r2.on hV) (by have := hlq q hn2 (by rw [hN]; exact hv2); omega) hq2 hn2.1
    rw [wv_dec hv2] at cI
    have CI := Lib.hid cI
    obtain ⟨y0, y1, -, -⟩ := k6.facts2
    by_cases hm0 : P % (Q : Int) = 0
    · have e0 : sgn (val 4294967296 r : Int) = 0 := sgn_zero.2 (by have := hr2.2 hm0; omega)
      rw [e0] at cS
      have HP := Lib.hid (And.intro hm0 hN)
      clear cI e0 hr2 hx hlq hlr hN hv2 hv3 HDC CP CD HKU HBU k5 k6 r2 r3 BW KB K0 x0 x1 x2 hm0 hq2 hq3 hn2 hn3 HT hd0
      go_wp2_with fail
      refine cS.mono ?_
      rintro e w4 ⟨rfl, b4⟩
      obtain ⟨y0, y1, -, -⟩ := (H5.out.below b4 H5.out.lt).facts2
      go_wp2_with fail
      refine (CI.out _ b4).mono ?_
      rintro e w5 ⟨rfl, b5⟩
      have HB := Lib.hid (HBW.out.trans ((below_next b4 (Nat.le_refl _) b5).mono HBW.out.size))
      obtain ⟨i0, hi0⟩ : ∃ i, intOr0 N = i := ⟨_, rfl⟩
      obtain ⟨i1, hi1⟩ : ∃ i, isInt N = i := ⟨_, rfl⟩
      have HI := Lib.hid (And.intro hi0 hi1)
      rw [hi0, hi1]
      clear hi0 hi1
      go_wp2_with fail
      go_ret2
      refine .inl ⟨HP.out.1, ?_⟩
      rw [HP.out.2]
      exact ⟨by rw [HI.out.1, HI.out.2]; rfl, HB.out⟩
    · have e0 : sgn (val 4294967296 r : Int) = 1 := by
        have h1 : ¬ val 4294967296 r = 0 := fun hh => hm0 (hr2.1 hh)
        unfold sgn
        rw [if_neg (by omega), if_pos (by omega)]
      rw [e0] at cS
      have HP := Lib.hid hm0
      clear cI CI e0 hr2 hx hlq hlr hN hv2 hv3 HDC CP CD HKU HBU k5 k6 r2 r3 BW KB K0 x0 x1 x2 hm0 hq2 hq3 hn2 hn3 HT hd0
      go_wp2_with fail
      refine cS.mono ?_
      rintro e w4 ⟨rfl, b4⟩
      have HB := Lib.hid (HBW.out.trans (b4.mono HBW.out.size))
      go_wp2_with fail
      go_ret2
      exact .inr ⟨HP.out, rfl, HB.out⟩
end Go.Proofs.YtidbpkibjficnaaGreatDoor
