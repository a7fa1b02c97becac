/- Fractions: what the program's own Sign, floor, Floor and Round answer. -/
import Derived.Test.YtidbpkibjficnaaGreatDoorZFpY
import Derived.Test.YtidbpkibjficnaaGreatDoorZWhI
import Derived.Test.YtidbpkibjficnaaGreatDoorZFrL
namespace Go.Proofs.YtidbpkibjficnaaGreatDoor
open Go.RowKit Num

theorem cross_div {x y P Q : Int} (hy : 0 < y) (hQ : 0 < Q) (h : x * Q = P * y) : x / y = P / Q := by
  rw [← Int.mul_ediv_mul_of_pos_left x y hQ, h, Int.mul_comm y Q, Int.mul_ediv_mul_of_pos_left P Q hy]
/-- an argument's box of any type, and that of a result that is a whole number -/
theorem bxw (w : World) (t : TypeId) (v0 v1 v2 : Value) : ∃ W, (w.alloc (.cells #[v0, v1, v2] t)).alloc (.cells #[.bool false, .slice none 0 0] 24) = W ∧ Blk W w.heap.size t [v0, v1, v2] ∧ Blk W (w.heap.size + 1) 24 [.bool false, .slice none 0 0] ∧ Below w.heap.size w W ∧ W.heap.size = w.heap.size + 2 :=
  ⟨_, rfl, (Blk.new w t [v0, v1, v2]).alloc _, Blk.at_new (w.alloc (.cells #[v0, v1, v2] t)) 24 [.bool false, .slice none 0 0] (by simp), (below_one w _).trans ((below_one (w.alloc (.cells #[v0, v1, v2] t)) _).mono (by simp)), by simp⟩

set_option maxRecDepth 10000 in
set_option maxHeartbeats 12800000 in
/-- how often 1 is in it -/
theorem ratio_floor (P : Int) (Q m : Nat) (hQ : 0 < Q) (hm : m ≤ 4194304) (n : Bool) (a d : List Nat) (A D : Option Addr) (ca cd : Nat) (w : World) (hS : SR P Q m n a ca d cd) (h : Rd w (fun g => g < w.heap.size) .u32 A a) (h' : Rd w (fun g => g < w.heap.size) .u32 D d) :
    Calls Tryz.prog 79 #[.agg #[.bool n, .slice A a.length ca, .slice D d.length cd]] w (GivesW (P / (Q : Int)) w) := by
  obtain ⟨hc, hc', ha, hd, hl, hl', hd0, hv⟩ := hS
  obtain ⟨U, hU, kU, K2', BU, sU⟩ := bxw w 63 (.bool n) (.slice A a.length ca) (.slice D d.length cd)
  have rU := h.on BU
  have qU := h'.on BU
  have K0 : Below U.heap.size U U.drew := below_drewN (Below.refl _ _) 1
  have cP := fun (V : World) => frac_size D d.length cd V
  have cD := fun (V : World) (hV : Below U.heap.size U V) => whole_Div n false a d A D ca cd V (rU.on hV) (qU.on hV) (by omega) (by omega) hc hc' ha hd
  obtain ⟨N, hN⟩ : ∃ N, wv n a = N := ⟨_, rfl⟩
  obtain ⟨M, hM⟩ : ∃ N, wv false d = N := ⟨_, rfl⟩
  have hE : N / M = P / (Q : Int) := by
    rw [← hN, ← hM, wv_false]
    exact cross_div (by omega) (by omega) hv
  have HE := Lib.hid hE
  simp only [hN, hM] at cD
  have CP := Lib.hid cP
  have CD := Lib.hid cD
  have HKU := Lib.hid kU
  have HBU := Lib.hid BU
  have HK2 := Lib.hid K2'
  have HU := Lib.hid hU
  have hsz : w.heap.size + 1 < U.heap.size := K2'.lt
  clear K2' kU BU sU rU qU hU cP cD hN hM hE h h' hv
  obtain ⟨x0, x1, x2, -, -, -⟩ := HKU.out.facts
  go_enter Tryz.func79, Tryz.ntmps79
  go_wp2_with fail
  try rw [HU.out]
  go_cut [3] from 4 (fun v3 wc => ∃ g3 A3 c3 q, v3 = .pointer (some ⟨g3, 0, none⟩) ∧ q.length ≤ c3 ∧ Norm 4294967296 q ∧ val 4294967296 q = (N / M).natAbs ∧ wc.cell? ⟨g3, 0, none⟩ = some (.bool (decide (N / M < 0))) ∧ wc.cell? ⟨g3, 1, none⟩ = some (.slice A3 q.length c3) ∧ Rd wc (fun g => g < wc.heap.size) .u32 A3 q ∧ Blk wc (w.heap.size + 1) 24 [.bool false, .slice none 0 0] ∧ Below w.heap.size w wc ∧ w.heap.size + 1 ≠ g3)
  case first =>
    go_region_held3 (fun w' => w'.cell? ⟨w.heap.size, 0, none⟩ = some (.bool n) ∧ w'.cell? ⟨w.heap.size, 1, none⟩ = some (.slice A a.length ca) ∧ w'.cell? ⟨w.heap.size, 2, none⟩ = some (.slice D d.length cd))
      (first | (refine keep3 HKU.out ?_; first | (with_reducible exact KB) | (with_reducible exact KA) | (with_reducible exact K0) | (apply keep_one; with_reducible exact K0) | (apply keep_two; with_reducible exact K0) | (apply keep_one; with_reducible exact KA) | (apply keep_two; with_reducible exact KA) | (apply keep_one; with_reducible exact KB) | (apply keep_two; with_reducible exact KB) | ((repeat (first | refine Below.setCell ?_ (by dsimp only; omega) _ | refine Below.alloc ?_ (by have := KB.size; simp [World.setCell]; omega) _)); exact KB)) | go_keep)
      ((first
        | (go_at_call 71; (with_reducible refine Calls.mono (CP.out _) ?_); rintro e w2 ⟨rfl, b2⟩; (first | (guard_hyp b2 : Below U.drew.heap.size U.drew w2; have s2 : U.heap.size ≤ w2.heap.size := b2.size; have KA := below_next K0 (Nat.le_refl _) b2) | (guard_hyp b2 : Below (U.alloc (.cells #[.bool false, .slice none 0 0] 24)).drew.heap.size (U.alloc (.cells #[.bool false, .slice none 0 0] 24)).drew w2; obtain ⟨kA, s2⟩ := got1d b2; obtain ⟨o0, o1, o2, o3⟩ := kA.facts2; have KA := below_next (below_drewN (keep_one (Below.refl U.heap.size U) _) 1) (Nat.le_refl _) b2) | (obtain ⟨⟨kA, s2⟩, kB⟩ := got2d b2; obtain ⟨o0, o1, o2, o3⟩ := kA.facts2; obtain ⟨o4, o5, o6, o7⟩ := kB.facts2; have KA := below_next (below_drewN (keep_two (Below.refl U.heap.size U) _ _) 1) (Nat.le_refl _) b2)))
        | (go_at_call 70; (first | (with_reducible refine Calls.mono (CD.out _ KA) ?_) | (with_reducible refine Calls.mono (CD.out _ (keep_one KA _)) ?_) | (with_reducible refine Calls.mono (CD.out _ (keep_two KA _ _)) ?_)); rintro e w3 ⟨A3, q, c3, A4, r, c4, rfl, hc3, hc4, hn3, hn4, hv3, hv4, r3, r4, b3⟩; (first | (guard_hyp b3 : Below w2.heap.size w2 w3; have s3 : w2.heap.size ≤ w3.heap.size := b3.size; have KB := below_next KA (Nat.le_refl _) b3; have b23 : Below w2.heap.size w2 w3 := b3) | (guard_hyp b3 : Below (w2.alloc (.cells #[.bool false, .slice none 0 0] 24)).heap.size (w2.alloc (.cells #[.bool false, .slice none 0 0] 24)) w3; obtain ⟨kC, s3⟩ := got1 b3; obtain ⟨t0, t1, t2, t3⟩ := kC.facts2; have KB := below_next (keep_one KA _) (Nat.le_refl _) b3; have b23 : Below w2.heap.size w2 w3 := (below_new w2 _).trans (b3.mono (by simp))) | (obtain ⟨⟨kC, s3⟩, kD⟩ := got2 b3; obtain ⟨t0, t1, t2, t3⟩ := kC.facts2; obtain ⟨t4, t5, t6, t7⟩ := kD.facts2; have KB := below_next (keep_two KA _ _) (Nat.le_refl _) b3; have b23 : Below w2.heap.size w2 w3 := (below_new2 w2 _ _).trans (b3.mono (by simp; omega)))); (first | (guard_hyp b2 : Below U.drew.heap.size U.drew w2; have kX := b23) | (guard_hyp b2 : Below (U.alloc (.cells #[.bool false, .slice none 0 0] 24)).drew.heap.size (U.alloc (.cells #[.bool false, .slice none 0 0] 24)).drew w2; have kX := kA.on b23; have z1 := kX.lt; obtain ⟨o8, o9, oa, ob⟩ := kX.facts2) | (have kX := kA.on b23; have z1 := kX.lt; have kY := kB.on b23; have z2 := kY.lt; obtain ⟨o8, o9, oa, ob⟩ := kX.facts2; obtain ⟨oc, od, oe, of⟩ := kY.facts2)))))
    all_goals
      have HB3 : Below w.heap.size w w3 := HBU.out.trans (KB.mono HBU.out.size)
      have kR : Blk w3 (w.heap.size + 1) 24 [.bool false, .slice none 0 0] := HK2.out.on KB
      have hsz3 : U.heap.size ≤ w3.heap.size := KB.size
      go_wp2_with fail
      go_meet
      refine ⟨_, A3, c3, q, rfl, hc3, hn3, hv3, ?_, ?_, ?_, ?_, ?_, ?_⟩
      · refine Blk.cell (t := 24) (vs := [.bool (decide (N / M < 0)), .slice A3 q.length c3]) ?_ 0 rfl
        repeat (first | (with_reducible assumption) | with_reducible refine Blk.pair (a0 := .bool false) (a1 := .slice none 0 0) ?_ _ _ | refine Blk.far ?_ (by dsimp only; omega) _ | exact Blk.at_new _ _ _ (by simp [World.setCell]) | refine Blk.alloc ?_ _)
      · refine Blk.cell (t := 24) (vs := [.bool (decide (N / M < 0)), .slice A3 q.length c3]) ?_ 1 rfl
        repeat (first | (with_reducible assumption) | with_reducible refine Blk.pair (a0 := .bool false) (a1 := .slice none 0 0) ?_ _ _ | refine Blk.far ?_ (by dsimp only; omega) _ | exact Blk.at_new _ _ _ (by simp [World.setCell]) | refine Blk.alloc ?_ _)
      · repeat (first | (with_reducible assumption) | refine Num.Rd.on ?_ (below_new _ _) | (refine Num.Rd.far2 (t := 24) (x := false) (p := none) (n := 0) (m := 0) ?_ ?_ _ _; rotate_left; (repeat (first | (with_reducible assumption) | with_reducible refine Blk.pair (a0 := .bool false) (a1 := .slice none 0 0) ?_ _ _ | refine Blk.far ?_ (by dsimp only; omega) _ | exact Blk.at_new _ _ _ (by simp [World.setCell]) | refine Blk.alloc ?_ _)); rotate_right))
      · repeat (first | (with_reducible assumption) | with_reducible refine Blk.pair (a0 := .bool false) (a1 := .slice none 0 0) ?_ _ _ | refine Blk.far ?_ (by dsimp only; omega) _ | exact Blk.at_new _ _ _ (by simp [World.setCell]) | refine Blk.alloc ?_ _)
      · repeat (first | exact HB3 | refine Below.setCell ?_ (by dsimp only; omega) _ | refine Below.alloc ?_ (by first | omega | (simp [World.setCell]; omega) | simp [World.setCell]) _)
      · omega
  case rest =>
    obtain ⟨g3, A3, c3, q, rfl, hc3, hn3, hv3, f0, f1, r3, kR, hB, hne⟩ := hcut
    obtain ⟨i0, i1, i2, i3⟩ := kR.facts2
    have rE := r3.far2 kR (.bool (decide (N / M < 0))) (.slice A3 q.length c3)
    have kE := kR.pair (.bool (decide (N / M < 0))) (.slice A3 q.length c3)
    have bE := (hB.setCell (p := ⟨w.heap.size + 1, 0, none⟩) (show w.heap.size ≤ w.heap.size + 1 by omega) (.bool (decide (N / M < 0)))).setCell (p := ⟨w.heap.size + 1, 1, none⟩) (show w.heap.size ≤ w.heap.size + 1 by omega) (.slice A3 q.length c3)
    obtain ⟨E, hE⟩ : ∃ E, (wc.setCell ⟨w.heap.size + 1, 0, none⟩ (.bool (decide (N / M < 0)))).setCell ⟨w.heap.size + 1, 1, none⟩ (.slice A3 q.length c3) = E := ⟨_, rfl⟩
    rw [hE] at rE kE bE
    have v0 := kE.cell 0 rfl
    have v1 := kE.cell 1 rfl
    have HEE := Lib.hid hE
    have HRE := Lib.hid rE
    have HBE := Lib.hid bE
    have HVV := Lib.hid (And.intro v0 v1)
    clear hE rE kE bE v0 v1 kR hB r3 CP CD HKU HBU HK2 x0 x1 x2 K0
    go_wp2_with fail
    rw [HEE.out]
    obtain ⟨v0, v1⟩ := HVV.out
    refine bodyPost_ret (v := .agg #[.bool (decide (N / M < 0)), .slice A3 q.length c3]) (by simp [results, Tryz.results79, go_sem, v0, v1]) rfl ?_
    rw [← HE.out]
    exact ⟨A3, q, c3, rfl, hc3, hn3, hv3, HRE.out, HBE.out⟩
end Go.Proofs.YtidbpkibjficnaaGreatDoor
