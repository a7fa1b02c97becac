/- Fractions, the document's own: what Floor answers. -/
import Derived.Test.YtkebffkekinblaaZOaE
import Derived.Test.YtkebffkekinblaaZWhX
import Derived.Deep.CutRange
import Derived.Test.YtkebffkekinblaaZWrY
namespace Go.Proofs.Ytkebffkekinblaa
open Go.RowKit Num

theorem Blk.on {W V : World} {g : Nat} {t : TypeId} {vs : List Value} (k : Blk W g t vs) (b : Below W.heap.size W V) : Blk V g t vs := k.below b k.lt
theorem Blk.pair {W : World} {g : Nat} {t : TypeId} {a0 a1 : Value} (k : Blk W g t [a0, a1]) (u0 u1 : Value) : Blk ((W.setCell ⟨g, 0, none⟩ u0).setCell ⟨g, 1, none⟩ u1) g t [u0, u1] := (k.set 0 u0).set 1 u1
theorem Blk.drw {W : World} {g : Nat} {t : TypeId} {vs : List Value} (k : Blk W g t vs) : Blk W.drew g t vs := k
theorem Blk.facts2 {w : World} {g : Nat} {t : TypeId} {a0 a1 : Value} (h : Blk w g t [a0, a1]) : w.cell? ⟨g, 0, none⟩ = some a0 ∧ w.cell? ⟨g, 1, none⟩ = some a1 ∧ w.frozen? ⟨g, 0, none⟩ = false ∧ w.frozen? ⟨g, 1, none⟩ = false :=
  ⟨h.cell 0 rfl, h.cell 1 rfl, h.frozen 0, h.frozen 1⟩
/-- what was allotted before a call lies there still behind it -/
theorem got1 {W v : World} {v0 v1 : Value} {t : TypeId} (b : Below (W.alloc (.cells #[v0, v1] t)).heap.size (W.alloc (.cells #[v0, v1] t)) v) : Blk v W.heap.size t [v0, v1] ∧ W.heap.size < v.heap.size := by
  have k := (Blk.new W t [v0, v1]).on b
  exact ⟨k, k.lt⟩
theorem got2 {W v : World} {v0 v1 u0 u1 : Value} {t t' : TypeId} (b : Below ((W.alloc (.cells #[v0, v1] t)).alloc (.cells #[u0, u1] t')).heap.size ((W.alloc (.cells #[v0, v1] t)).alloc (.cells #[u0, u1] t')) v) : (Blk v W.heap.size t [v0, v1] ∧ W.heap.size + 1 < v.heap.size) ∧ Blk v (W.heap.size + 1) t' [u0, u1] := by
  have k := ((Blk.new W t [v0, v1]).alloc (.cells #[u0, u1] t')).on b
  have k' := (Blk.at_new (W.alloc (.cells #[v0, v1] t)) t' [u0, u1] (g := W.heap.size + 1) (by simp)).on b
  exact ⟨⟨k, k'.lt⟩, k'⟩
theorem got1d {W v : World} {v0 v1 : Value} {t : TypeId} (b : Below (W.alloc (.cells #[v0, v1] t)).drew.heap.size (W.alloc (.cells #[v0, v1] t)).drew v) : Blk v W.heap.size t [v0, v1] ∧ W.heap.size < v.heap.size := got1 (W := W.drew) b
theorem got2d {W v : World} {v0 v1 u0 u1 : Value} {t t' : TypeId} (b : Below ((W.alloc (.cells #[v0, v1] t)).alloc (.cells #[u0, u1] t')).drew.heap.size ((W.alloc (.cells #[v0, v1] t)).alloc (.cells #[u0, u1] t')).drew v) : (Blk v W.heap.size t [v0, v1] ∧ W.heap.size + 1 < v.heap.size) ∧ Blk v (W.heap.size + 1) t' [u0, u1] := got2 (W := W.drew) b
theorem Num.Rd.far2 {w : World} {g : Nat} {t : TypeId} {x : Bool} {p : Option Addr} {n m : Nat} {k : IntKind} {A : Option Addr} {xs : List Nat} (h : Rd w (fun g => g < w.heap.size) k A xs) (f : Blk w g t [.bool x, .slice p n m]) (u0 u1 : Value) : Rd ((w.setCell ⟨g, 0, none⟩ u0).setCell ⟨g, 1, none⟩ u1) (fun b => b < ((w.setCell ⟨g, 0, none⟩ u0).setCell ⟨g, 1, none⟩ u1).heap.size) k A xs := fun hn => by
  obtain ⟨b, o, e, hb, hc⟩ := h hn
  have hne : b ≠ g := by
    rintro rfl
    have h0 := hc 0 hn
    rw [cell_of_row _ _ _ _ _ _ f] at h0
    match o, h0 with
    | 0, h0 => simp at h0
    | 1, h0 => simp at h0
    | o + 2, h0 => simp at h0
  refine ⟨b, o, e, by simpa [World.setCell] using hb, fun j hj => ?_⟩
  rw [← hc j hj]
  exact World.cell?_of_block ((Below.heap_setCell _ _ u1 b hne).trans (Below.heap_setCell _ _ u0 b hne))
/-- both numbers stored where they lie: the first one is read -/
theorem floor_end {w Z : World} {g3 g4 gR : Nat} {t tR : TypeId} {b3 b4 : Bool} {p3 p4 : Option Addr} {n3 m3 n4 m4 : Nat} {vR : List Value} {A : Option Addr} {q : List Nat} (k3 : Blk Z g3 t [.bool b3, .slice p3 n3 m3]) (k4 : Blk Z g4 t [.bool b4, .slice p4 n4 m4]) (kR : Blk Z gR tR vR) (hne : g3 ≠ g4) (h3 : gR ≠ g3) (h4 : gR ≠ g4)
    (r : Rd Z (fun g => g < Z.heap.size) .u32 A q) (b : Below w.heap.size w Z) (e3 : w.heap.size ≤ g3) (e4 : w.heap.size ≤ g4) (u0 u1 y0 y1 : Value) {E : World} (hE : ((((Z.setCell ⟨g3, 0, none⟩ u0).setCell ⟨g3, 1, none⟩ u1).setCell ⟨g4, 0, none⟩ y0).setCell ⟨g4, 1, none⟩ y1) = E) :
    E.cell? ⟨g3, 0, none⟩ = some u0 ∧ E.cell? ⟨g3, 1, none⟩ = some u1 ∧ Rd E (fun g => g < E.heap.size) .u32 A q ∧ Blk E gR tR vR ∧ Below w.heap.size w E ∧ gR ≠ g3 := by
  subst hE
  have k3' := (k3.set 0 u0).set 1 u1
  have k4' := (k4.far (p := ⟨g3, 0, none⟩) (Ne.symm hne) u0).far (p := ⟨g3, 1, none⟩) (Ne.symm hne) u1
  have k3'' := (k3'.far (p := ⟨g4, 0, none⟩) hne y0).far (p := ⟨g4, 1, none⟩) hne y1
  exact ⟨k3''.cell 0 rfl, k3''.cell 1 rfl, (r.far2 k3 u0 u1).far2 k4' y0 y1, (((kR.far (p := ⟨g3, 0, none⟩) h3 u0).far (p := ⟨g3, 1, none⟩) h3 u1).far (p := ⟨g4, 0, none⟩) h4 y0).far (p := ⟨g4, 1, none⟩) h4 y1,
    (((b.setCell e3 _).setCell e3 _).setCell e4 _).setCell e4 _, h3⟩

set_option maxRecDepth 10000 in
set_option maxHeartbeats 12800000 in
/-- the greatest whole number that isn't above -/
theorem ref4_Floor (n : Bool) (a d : List Nat) (A D : Option Addr) (ca cd : Nat) (w : World) (h : Rd w (fun g => g < w.heap.size) .u32 A a) (h' : Rd w (fun g => g < w.heap.size) .u32 D d) (hl : a.length ≤ 4194304) (hl' : d.length ≤ 4194304) (ha : Dg 4294967296 a) (hd : Dg 4294967296 d) :
    Calls Try.prog 71 #[.agg #[.bool n, .slice A a.length ca, .slice D d.length cd]] w (GivesW (upN n a d / (loD d : Int)) w) := by
  obtain ⟨W, hW, k1, k2, b0, s0⟩ := frac_boxw w (.bool n) (.slice A a.length ca) (.slice D d.length cd)
  obtain ⟨p0, p1, p2, -, -, -⟩ := k1.facts
  have cW := ref4_worth n a d A D ca cd 4194304 W (h.on b0) (h'.on b0) (by omega) (by omega) hl hl' ha hd
  go_enter Try.func71, Try.ntmps71
  go_wp2_with fail
  try rw [hW]
  clear hW
  refine cW.mono ?_
  rintro e w1 ⟨n1, a1, A1, c1, d1, D1, e1, rfl, ha1, hd1, hl1, hm1, hv1, hu1, r1, q1, b1⟩
  have K1 := k1.below b1 k1.lt
  have K2 := k2.below b1 k2.lt
  have B1 := b0.trans (b1.mono b0.size)
  have HV1 := Lib.hid hv1
  have HU1 := Lib.hid hu1
  clear k1 k2 cW p0 p1 p2 hv1 hu1
  obtain ⟨x0, x1, x2, y0, y1, y2⟩ := K1.facts
  obtain ⟨U, hU, v0, v1, v2, kU, bU, oU, sU⟩ := K1.three (.bool n1) (.slice A1 a1.length c1) (.slice D1 d1.length e1)
  have K2' := oU _ _ _ (by omega) K2
  have BU := B1.trans (bU _ (Nat.le_refl _))
  have rU := r1.far3 K1 _ _ _ hU
  have qU := q1.far3 K1 _ _ _ hU
  have K0 : Below U.heap.size U U.drew := below_drewN (Below.refl _ _) 1
  have cP := fun (V : World) => ref4_up n1 a1 d1 A1 D1 c1 e1 V
  have cD := fun (V : World) (hV : Below U.heap.size U V) => ref2_Div n1 false a1 d1 A1 D1 c1 e1 V (rU.on hV) (qU.on hV) (by omega) (by omega) ha1 hd1
  obtain ⟨N, hN⟩ : ∃ N, wv n1 a1 = N := ⟨_, rfl⟩
  obtain ⟨M, hM⟩ : ∃ N, wv false d1 = N := ⟨_, rfl⟩
  simp only [hN, hM] at cD
  have CP := Lib.hid cP
  have CD := Lib.hid cD
  have HKU := Lib.hid kU
  have HBU := Lib.hid BU
  have HK2 := Lib.hid K2'
  have HN := Lib.hid hN
  have HM := Lib.hid hM
  have HU := Lib.hid hU
  have hsz : w.heap.size + 1 < U.heap.size := K2'.lt
  clear K1 K2 K2' kU oU bU sU B1 BU r1 q1 rU qU b1 hU cP cD hN hM v0 v1 v2
  go_wp2_with fail
  rw [HU.out]
  clear x0 x1 x2 y0 y1 y2
  clear h h' HU
  obtain ⟨x0, x1, x2, -, -, -⟩ := HKU.out.facts
  go_cut [3] from 4 (fun v3 wc => ∃ g3 A3 c3 q, v3 = .pointer (some ⟨g3, 0, none⟩) ∧ q.length ≤ c3 ∧ Norm 4294967296 q ∧ val 4294967296 q = (N / M).natAbs ∧ wc.cell? ⟨g3, 0, none⟩ = some (.bool (decide (N / M < 0))) ∧ wc.cell? ⟨g3, 1, none⟩ = some (.slice A3 q.length c3) ∧ Rd wc (fun g => g < wc.heap.size) .u32 A3 q ∧ Blk wc (w.heap.size + 1) 79 [.bool false, .slice none 0 0] ∧ Below w.heap.size w wc ∧ w.heap.size + 1 ≠ g3)
  case first =>
    go_region_held3 (fun w' => w'.cell? ⟨w.heap.size, 0, none⟩ = some (.bool n1) ∧ w'.cell? ⟨w.heap.size, 1, none⟩ = some (.slice A1 a1.length c1) ∧ w'.cell? ⟨w.heap.size, 2, none⟩ = some (.slice D1 d1.length e1))
      (first | (refine keep3 HKU.out ?_; first | (with_reducible exact KB) | (with_reducible exact KA) | (with_reducible exact K0) | (apply keep_one; with_reducible exact K0) | (apply keep_two; with_reducible exact K0) | (apply keep_one; with_reducible exact KA) | (apply keep_two; with_reducible exact KA) | (apply keep_one; with_reducible exact KB) | (apply keep_two; with_reducible exact KB) | ((repeat (first | refine Below.setCell ?_ (by dsimp only; omega) _ | refine Below.alloc ?_ (by have := KB.size; simp [World.setCell]; omega) _)); exact KB)) | go_keep)
      ((first
        | (go_at_call 68; (with_reducible refine Calls.mono (CP.out _) ?_); rintro e w2 ⟨rfl, b2⟩; (first | (guard_hyp b2 : Below U.drew.heap.size U.drew w2; have s2 : U.heap.size ≤ w2.heap.size := b2.size; have KA := below_next K0 (Nat.le_refl _) b2) | (guard_hyp b2 : Below (U.alloc (.cells #[.bool false, .slice none 0 0] 79)).drew.heap.size (U.alloc (.cells #[.bool false, .slice none 0 0] 79)).drew w2; obtain ⟨kA, s2⟩ := got1d b2; obtain ⟨o0, o1, o2, o3⟩ := kA.facts2; have KA := below_next (below_drewN (keep_one (Below.refl U.heap.size U) _) 1) (Nat.le_refl _) b2) | (obtain ⟨⟨kA, s2⟩, kB⟩ := got2d b2; obtain ⟨o0, o1, o2, o3⟩ := kA.facts2; obtain ⟨o4, o5, o6, o7⟩ := kB.facts2; have KA := below_next (below_drewN (keep_two (Below.refl U.heap.size U) _ _) 1) (Nat.le_refl _) b2)))
        | (go_at_call 86; (first | (with_reducible refine Calls.mono (CD.out _ KA) ?_) | (with_reducible refine Calls.mono (CD.out _ (keep_one KA _)) ?_) | (with_reducible refine Calls.mono (CD.out _ (keep_two KA _ _)) ?_)); rintro e w3 ⟨A3, q, c3, A4, r, c4, rfl, hc3, hc4, hn3, hn4, hv3, hv4, r3, r4, b3⟩; (first | (guard_hyp b3 : Below w2.heap.size w2 w3; have s3 : w2.heap.size ≤ w3.heap.size := b3.size; have KB := below_next KA (Nat.le_refl _) b3; have b23 : Below w2.heap.size w2 w3 := b3) | (guard_hyp b3 : Below (w2.alloc (.cells #[.bool false, .slice none 0 0] 79)).heap.size (w2.alloc (.cells #[.bool false, .slice none 0 0] 79)) w3; obtain ⟨kC, s3⟩ := got1 b3; obtain ⟨t0, t1, t2, t3⟩ := kC.facts2; have KB := below_next (keep_one KA _) (Nat.le_refl _) b3; have b23 : Below w2.heap.size w2 w3 := (below_new w2 _).trans (b3.mono (by simp))) | (obtain ⟨⟨kC, s3⟩, kD⟩ := got2 b3; obtain ⟨t0, t1, t2, t3⟩ := kC.facts2; obtain ⟨t4, t5, t6, t7⟩ := kD.facts2; have KB := below_next (keep_two KA _ _) (Nat.le_refl _) b3; have b23 : Below w2.heap.size w2 w3 := (below_new2 w2 _ _).trans (b3.mono (by simp; omega)))); (first | (guard_hyp b2 : Below U.drew.heap.size U.drew w2; have kX := b23) | (guard_hyp b2 : Below (U.alloc (.cells #[.bool false, .slice none 0 0] 79)).drew.heap.size (U.alloc (.cells #[.bool false, .slice none 0 0] 79)).drew w2; have kX := kA.on b23; have z1 := kX.lt; obtain ⟨o8, o9, oa, ob⟩ := kX.facts2) | (have kX := kA.on b23; have z1 := kX.lt; have kY := kB.on b23; have z2 := kY.lt; obtain ⟨o8, o9, oa, ob⟩ := kX.facts2; obtain ⟨oc, od, oe, of⟩ := kY.facts2)))))
    all_goals
      have HB3 : Below w.heap.size w w3 := HBU.out.trans (KB.mono HBU.out.size)
      have kR : Blk w3 (w.heap.size + 1) 79 [.bool false, .slice none 0 0] := HK2.out.on KB
      have hsz3 : U.heap.size ≤ w3.heap.size := KB.size
      go_wp2_with fail
      go_meet
      refine ⟨_, A3, c3, q, rfl, hc3, hn3, hv3, ?_, ?_, ?_, ?_, ?_, ?_⟩
      · refine Blk.cell (t := 79) (vs := [.bool (decide (N / M < 0)), .slice A3 q.length c3]) ?_ 0 rfl
        repeat (first | (with_reducible assumption) | with_reducible refine Blk.pair (a0 := .bool false) (a1 := .slice none 0 0) ?_ _ _ | refine Blk.far ?_ (by dsimp only; omega) _ | exact Blk.at_new _ _ _ (by simp [World.setCell]) | refine Blk.alloc ?_ _)
      · refine Blk.cell (t := 79) (vs := [.bool (decide (N / M < 0)), .slice A3 q.length c3]) ?_ 1 rfl
        repeat (first | (with_reducible assumption) | with_reducible refine Blk.pair (a0 := .bool false) (a1 := .slice none 0 0) ?_ _ _ | refine Blk.far ?_ (by dsimp only; omega) _ | exact Blk.at_new _ _ _ (by simp [World.setCell]) | refine Blk.alloc ?_ _)
      · repeat (first | (with_reducible assumption) | refine Num.Rd.on ?_ (below_new _ _) | (refine Num.Rd.far2 (t := 79) (x := false) (p := none) (n := 0) (m := 0) ?_ ?_ _ _; rotate_left; (repeat (first | (with_reducible assumption) | with_reducible refine Blk.pair (a0 := .bool false) (a1 := .slice none 0 0) ?_ _ _ | refine Blk.far ?_ (by dsimp only; omega) _ | exact Blk.at_new _ _ _ (by simp [World.setCell]) | refine Blk.alloc ?_ _)); rotate_right))
      · repeat (first | (with_reducible assumption) | with_reducible refine Blk.pair (a0 := .bool false) (a1 := .slice none 0 0) ?_ _ _ | refine Blk.far ?_ (by dsimp only; omega) _ | exact Blk.at_new _ _ _ (by simp [World.setCell]) | refine Blk.alloc ?_ _)
      · repeat (first | exact HB3 | refine Below.setCell ?_ (by dsimp only; omega) _ | refine Below.alloc ?_ (by first | omega | (simp [World.setCell]; omega) | simp [World.setCell]) _)
      · omega
  case rest =>
    obtain ⟨g3, A3, c3, q, rfl, hc3, hn3, hv3, f0, f1, r3, kR, hB, hne⟩ := hcut
    obtain ⟨i0, i1, i2, i3⟩ := kR.facts2
    have HE := Lib.hid (show N / M = upN n a d / (loD d : Int) by rw [← HN.out, ← HM.out, HV1.out, wv_false, HU1.out])
    have rE := r3.far2 kR (.bool (decide (N / M < 0))) (.slice A3 q.length c3)
    have kE := kR.pair (.bool (decide (N / M < 0))) (.slice A3 q.length c3)
    have bE := (hB.setCell (p := ⟨w.heap.size + 1, 0, none⟩) (show w.heap.size ≤ w.heap.size + 1 by omega) (.bool (decide (N / M < 0)))).setCell (p := ⟨w.heap.size + 1, 1, none⟩) (show w.heap.size ≤ w.heap.size + 1 by omega) (.slice A3 q.length c3)
    obtain ⟨E, hE⟩ : ∃ E, (wc.setCell ⟨w.heap.size + 1, 0, none⟩ (.bool (decide (N / M < 0)))).setCell ⟨w.heap.size + 1, 1, none⟩ (.slice A3 q.length c3) = E := ⟨_, rfl⟩
    rw [hE] at rE kE bE
    have v0 := kE.cell 0 rfl
    have v1 := kE.cell 1 rfl
    have HEE := Lib.hid hE
    have HRE := Lib.hid rE
    have HBE := Lib.hid bE
    have HVV := Lib.hid (And.intro v0 v1)
    clear hE rE kE bE v0 v1 kR hB r3 CP CD HKU HBU HK2 HU1 HV1 x0 x1 x2 K0
    go_wp2_with fail
    rw [HEE.out]
    obtain ⟨v0, v1⟩ := HVV.out
    refine bodyPost_ret (v := .agg #[.bool (decide (N / M < 0)), .slice A3 q.length c3]) (by simp [results, Try.results71, go_sem, v0, v1]) rfl ?_
    rw [← HE.out]
    exact ⟨A3, q, c3, rfl, hc3, hn3, hv3, HRE.out, HBE.out⟩
end Go.Proofs.Ytkebffkekinblaa
/- Fractions: what the program's own turned, plus and minus answer. -/

namespace Go.Proofs.Ytkebffkekinblaa
open Go.RowKit Num

/-- 1 by P by Q: its upper part -/
def turnN (P : Int) (Q : Nat) : Int := if P < 0 then - (Q : Int) else Q
theorem turn_sign {n : Bool} {a d : List Nat} {P : Int} {Q : Nat} (hQ : 0 < Q) (hd : 0 < val 4294967296 d) (h : wv n a * (Q : Int) = P * (val 4294967296 d : Int)) :
    val 4294967296 a * Q = P.natAbs * val 4294967296 d ∧ (P ≠ 0 → 0 < val 4294967296 a ∧ wv n d = (if P < 0 then - (val 4294967296 d : Int) else val 4294967296 d)) := by
  have e := congrArg Int.natAbs h
  rw [Int.natAbs_mul, Int.natAbs_mul, Int.natAbs_natCast, Int.natAbs_natCast, wv_abs] at e
  refine ⟨e, fun hP => ?_⟩
  have hp : 0 < P.natAbs * val 4294967296 d := Nat.mul_pos (by omega) hd
  have ha : 0 < val 4294967296 a := by
    rcases Nat.eq_zero_or_pos (val 4294967296 a) with h0 | h0
    · rw [h0, Nat.zero_mul] at e; omega
    · exact h0
  refine ⟨ha, ?_⟩
  have q1 : (0 : Int) < (val 4294967296 a : Int) * Q := Int.mul_pos (by omega) (by omega)
  cases n
  · rw [wv_false] at h ⊢
    by_cases hn : P < 0
    · have := Int.mul_neg_of_neg_of_pos hn (show (0 : Int) < (val 4294967296 d : Int) by omega)
      omega
    · rw [if_neg hn]
  · rw [wv_true] at h ⊢
    by_cases hn : P < 0
    · rw [if_pos hn]
    · have := Int.mul_nonneg (show 0 ≤ P by omega) (show (0 : Int) ≤ (val 4294967296 d : Int) by omega)
      rw [Int.neg_mul] at h
      omega

theorem cmpI_ne {a b : Nat} (h : ¬ a = b) : ¬ cmpI a b = 0 := by
  unfold cmpI
  split
  · omega
  · split
    · omega
    · omega
theorem plus_same {x x' P P' y Q Q' : Int} (h : x * Q = P * y) (g : x' * Q' = P' * y) : (x + x') * (Q * Q') = (P * Q' + P' * Q) * y := by
  rw [Int.add_mul, show x * (Q * Q') = (x * Q) * Q' by ac_rfl, show x' * (Q * Q') = (x' * Q') * Q by ac_rfl, h, g, Int.add_mul]
  ac_rfl
theorem plus_other {x x' P P' y y' u u' g Q Q' : Int} (h : x * Q = P * y) (k : x' * Q' = P' * y') (e : y = u * g) (e' : y' = u' * g) : (x * u' + x' * u) * (Q * Q') = (P * Q' + P' * Q) * (y * u') := by
  rw [Int.add_mul, show x * u' * (Q * Q') = (x * Q) * (u' * Q') by ac_rfl, show x' * u * (Q * Q') = (x' * Q') * (u * Q) by ac_rfl, h, k, Int.add_mul, e, e']
  congr 1 <;> ac_rfl

/-- a whole number stored where it lies -/
theorem box_end {W v : World} {g : Nat} {t : TypeId} (k : Blk v g t [.bool false, .slice none 0 0]) (hg : W.heap.size ≤ g) (B : Below W.heap.size W v) (u0 u1 : Value) {X Y : Option Addr} {x y : List Nat} (r : Rd v (fun g => g < v.heap.size) .u32 X x) (q : Rd v (fun g => g < v.heap.size) .u32 Y y) :
    Blk ((v.setCell ⟨g, 0, none⟩ u0).setCell ⟨g, 1, none⟩ u1) g t [u0, u1] ∧ W.heap.size ≤ g ∧ Rd ((v.setCell ⟨g, 0, none⟩ u0).setCell ⟨g, 1, none⟩ u1) (fun b => b < ((v.setCell ⟨g, 0, none⟩ u0).setCell ⟨g, 1, none⟩ u1).heap.size) .u32 X x ∧ Rd ((v.setCell ⟨g, 0, none⟩ u0).setCell ⟨g, 1, none⟩ u1) (fun b => b < ((v.setCell ⟨g, 0, none⟩ u0).setCell ⟨g, 1, none⟩ u1).heap.size) .u32 Y y ∧ Below W.heap.size W ((v.setCell ⟨g, 0, none⟩ u0).setCell ⟨g, 1, none⟩ u1) :=
  ⟨k.pair _ _, hg, r.far2 k _ _, q.far2 k _ _, (B.setCell hg _).setCell hg _⟩

end Go.Proofs.Ytkebffkekinblaa
