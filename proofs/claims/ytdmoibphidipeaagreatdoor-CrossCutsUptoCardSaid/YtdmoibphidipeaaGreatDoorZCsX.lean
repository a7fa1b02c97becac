/- Where ways meet, the program's own way as mathematics: ways that part one another's ends go through one another; else what both have lies between ends that both have. No program is named here. -/
import Derived.Test.YtdmoibphidipeaaGreatDoorZCrX
import Derived.Test.YtdmoibphidipeaaGreatDoorZGaW
import Derived.Test.YtdmoibphidipeaaGreatDoorZCrY
import Derived.Test.YtdmoibphidipeaaGreatDoorZOaB
import Derived.Lib.QuietBelow
import Derived.BigQuiet
namespace Go.Proofs.YtdmoibphidipeaaGreatDoor

theorem crG_crQ (o a b : Pt) : ((crG o a b : Int) : Rat) = crQ (qAt o) (qAt a) (qAt b) := by
  unfold crG crQ qAt
  simp only [Rat.intCast_sub, Rat.intCast_mul]
/-- a way's line has both ends of another one on its two sides -/
def PartsG (a b c d : Pt) : Prop := (crG a b c < 0 ∧ 0 < crG a b d) ∨ (crG a b d < 0 ∧ 0 < crG a b c)
def PartsQ (a b c d : Qp) : Prop := (crQ a b c < 0 ∧ 0 < crQ a b d) ∨ (crQ a b d < 0 ∧ 0 < crQ a b c)
theorem parts_iff (a b c d : Pt) : PartsG a b c d ↔ PartsQ (qAt a) (qAt b) (qAt c) (qAt d) := by
  unfold PartsG PartsQ
  rw [← crG_crQ, ← crG_crQ]
  have e1 : crG a b c < 0 ↔ ((crG a b c : Int) : Rat) < 0 := ⟨fun h => by exact_mod_cast h, fun h => by exact_mod_cast h⟩
  have e2 : crG a b d < 0 ↔ ((crG a b d : Int) : Rat) < 0 := ⟨fun h => by exact_mod_cast h, fun h => by exact_mod_cast h⟩
  have e3 : 0 < crG a b c ↔ 0 < ((crG a b c : Int) : Rat) := ⟨fun h => by exact_mod_cast h, fun h => by exact_mod_cast h⟩
  have e4 : 0 < crG a b d ↔ 0 < ((crG a b d : Int) : Rat) := ⟨fun h => by exact_mod_cast h, fun h => by exact_mod_cast h⟩
  rw [e1, e2, e3, e4]
theorem part_in {A B : Rat} (h : (A < 0 ∧ 0 < B) ∨ (B < 0 ∧ 0 < A)) : A - B ≠ 0 ∧ 0 < A / (A - B) ∧ A / (A - B) < 1 := by
  have hn : A - B ≠ 0 := by grind
  refine ⟨hn, ?_, ?_⟩
  · rcases h with ⟨h1, h2⟩ | ⟨h1, h2⟩
    · have e : A / (A - B) = (-A) / (B - A) := by grind
      rw [e]
      have e2 : (-A) / (B - A) * (B - A) = -A := by grind
      apply Classical.byContradiction
      intro hc
      have := Rat.mul_le_mul_of_nonneg_right (show (-A) / (B - A) ≤ 0 by grind) (show 0 ≤ B - A by grind)
      grind
    · have e2 : A / (A - B) * (A - B) = A := by grind
      apply Classical.byContradiction
      intro hc
      have := Rat.mul_le_mul_of_nonneg_right (show A / (A - B) ≤ 0 by grind) (show 0 ≤ A - B by grind)
      grind
  · rcases h with ⟨h1, h2⟩ | ⟨h1, h2⟩
    · have e : A / (A - B) = (-A) / (B - A) := by grind
      rw [e]
      have e2 : (-A) / (B - A) * (B - A) = -A := by grind
      apply Classical.byContradiction
      intro hc
      have := Rat.mul_le_mul_of_nonneg_right (show 1 ≤ (-A) / (B - A) by grind) (show 0 ≤ B - A by grind)
      grind
    · have e2 : A / (A - B) * (A - B) = A := by grind
      apply Classical.byContradiction
      intro hc
      have := Rat.mul_le_mul_of_nonneg_right (show 1 ≤ A / (A - B) by grind) (show 0 ≤ A - B by grind)
      grind
/-- both ways of reckoning come to one point -/
theorem cross_turn {a b c d : Qp} (hn : crQ c d a - crQ c d b ≠ 0) (hn2 : crQ a b c - crQ a b d ≠ 0) : crossQ a b c d = crossQ c d a b := by
  have e0 : crQ a b c - crQ a b d = -(crQ c d a - crQ c d b) := by unfold crQ; grind
  unfold crossQ
  rw [e0] at hn2 ⊢
  have f1 : (a.x - c.x) * (crQ c d a - crQ c d b) + crQ c d a * (b.x - a.x) + crQ a b c * (d.x - c.x) = 0 := by unfold crQ; grind
  have f2 : (a.y - c.y) * (crQ c d a - crQ c d b) + crQ c d a * (b.y - a.y) + crQ a b c * (d.y - c.y) = 0 := by unfold crQ; grind
  generalize crQ c d a - crQ c d b = D at *
  generalize crQ c d a = A at *
  generalize crQ a b c = C at *
  have g : A / D * D = A := by grind
  have g2 : C / -D * D = -C := by grind
  generalize A / D = t at *
  generalize C / -D = u at *
  have key : ∀ z : Rat, z * D = 0 → z = 0 := fun z hz => by
    rcases Rat.mul_eq_zero.1 hz with h | h
    · exact h
    · exact absurd h hn
  apply Qp.ext'
  · dsimp only
    have := key (a.x + t * (b.x - a.x) - (c.x + u * (d.x - c.x))) (by grind)
    grind
  · dsimp only
    have := key (a.y + t * (b.y - a.y) - (c.y + u * (d.y - c.y))) (by grind)
    grind
theorem cross_both {a b c d : Qp} (h : PartsQ a b c d) (k : PartsQ c d a b) : Both a b c d (crossQ a b c d) := by
  obtain ⟨n1, l1, g1⟩ := part_in k
  obtain ⟨n2, l2, g2⟩ := part_in h
  refine ⟨part_onQ a b (by grind) (by grind), ?_⟩
  rw [cross_turn n1 n2]
  exact part_onQ c d (by grind) (by grind)
/-- going through: one point -/
theorem meet_through {a b c d : Qp} (h : PartsQ a b c d) (k : PartsQ c d a b) : IsMeet a b c d [crossQ a b c d] :=
  (meet_cross (by obtain ⟨n1, -, -⟩ := part_in k; grind)).1 (cross_both h k)
/-- what lies on a way at a point of another one's line, where that one doesn't part it, is an end -/
theorem end_of {a b c d p : Qp} (hn : crQ c d a ≠ crQ c d b) (k : ¬ PartsQ c d a b) (h : Both a b c d p) : p = a ∨ p = b := by
  obtain ⟨t, t0, t1, h1, h2⟩ := onQ_part h.1
  have h3 := h.2.1
  have e : crQ c d p = (1 - t) * crQ c d a + t * crQ c d b := by
    unfold crQ
    rw [h1, h2]
    grind
  rw [h3] at e
  unfold PartsQ at k
  generalize crQ c d a = A at *
  generalize crQ c d b = B at *
  by_cases c0 : t = 0
  · left; subst c0; apply Qp.ext' <;> grind
  by_cases c1 : t = 1
  · right; subst c1; apply Qp.ext' <;> grind
  exfalso
  have p0 : 0 < t := by grind
  have p1 : 0 < 1 - t := by grind
  rcases (show A < 0 ∨ A = 0 ∨ 0 < A by grind) with hA | hA | hA
  · have m1 := Rat.mul_pos p1 (show 0 < -A by grind)
    have m2 := Rat.mul_nonneg t0 (show 0 ≤ -B by grind)
    grind
  · subst hA
    rcases Rat.mul_eq_zero.1 (show t * B = 0 by grind) with e | e <;> grind
  · have m1 := Rat.mul_pos p1 hA
    have m2 := Rat.mul_nonneg t0 (show 0 ≤ B by grind)
    grind
theorem ends_between {a b c d p : Qp} (k : ¬ (PartsQ a b c d ∧ PartsQ c d a b)) (h : Both a b c d p) : ∃ lo hi, (EndQ a b c d lo ∧ Both a b c d lo) ∧ (EndQ a b c d hi ∧ Both a b c d hi) ∧ leQ lo p ∧ leQ p hi := by
  by_cases hpar : crQ c d a = crQ c d b
  · exact meet_ends hpar h
  have one : EndQ a b c d p := by
    by_cases k1 : PartsQ c d a b
    · have k2 : ¬ PartsQ a b c d := fun x => k ⟨x, k1⟩
      have hn2 : crQ a b c ≠ crQ a b d := fun e => hpar (by unfold crQ at *; grind)
      rcases end_of hn2 k2 h.turn with e | e
      · exact .inr (.inr (.inl e))
      · exact .inr (.inr (.inr e))
    · rcases end_of hpar k1 h with e | e
      · exact .inl e
      · exact .inr (.inl e)
  exact ⟨p, p, ⟨one, h⟩, ⟨one, h⟩, leQ_refl _, leQ_refl _⟩
/-- an end has nothing of its own way beyond it -/
theorem end_side {a b x y z : Qp} (hy : y = a ∨ y = b) (hx : OnQ a b x) (hz : OnQ a b z) (h1 : ltQ x y) (h2 : ltQ y z) : False := by
  have k1 := (onQ_le hx.1).1 hx
  have k2 := (onQ_le hz.1).1 hz
  rcases hy with rfl | rfl
  · rcases k1 with ⟨k, -⟩ | ⟨k, -⟩
    · exact ltQ_not h1 k
    · rcases k2 with ⟨-, k'⟩ | ⟨-, k'⟩
      · exact ltQ_not (ltQ_trans h1 h2) (leQ_trans k' k)
      · exact ltQ_not h2 k'
  · rcases k2 with ⟨-, k⟩ | ⟨-, k⟩
    · exact ltQ_not h2 k
    · rcases k1 with ⟨k', -⟩ | ⟨k', -⟩
      · exact ltQ_not (ltQ_trans h1 h2) (leQ_trans k k')
      · exact ltQ_not h1 k'
/-- the row of the ends that both have is what both have, where no way goes through the other -/
theorem meet_shared {a b c d : Qp} (k : ¬ (PartsQ a b c d ∧ PartsQ c d a b)) {l : List Qp} (hall : ∀ p, p ∈ l ↔ EndQ a b c d p ∧ Both a b c d p) (hs : l.Pairwise ltQ) : IsMeet a b c d l := by
  match l, hall, hs with
  | [], hall, _ =>
    intro p hp
    obtain ⟨lo, -, h1, -⟩ := ends_between k hp
    exact absurd ((hall lo).2 h1) (by simp)
  | [x], hall, _ =>
    refine ⟨((hall x).1 (by simp)).2, fun p hp => ?_⟩
    obtain ⟨lo, hi, h1, h2, h3, h4⟩ := ends_between k hp
    have e1 : lo = x := by simpa using (hall lo).2 h1
    have e2 : hi = x := by simpa using (hall hi).2 h2
    subst e1
    subst e2
    exact leQ_anti h4 h3
  | [x, y], hall, hs =>
    have hx := (hall x).1 (by simp)
    have hy := (hall y).1 (by simp)
    have hxy : ltQ x y := (List.pairwise_cons.1 hs).1 y (by simp)
    refine ⟨⟨hx.2, hy.2⟩, hxy, fun p hp => ?_⟩
    obtain ⟨lo, hi, h1, h2, h3, h4⟩ := ends_between k hp
    have e1 : lo = x ∨ lo = y := by simpa using (hall lo).2 h1
    have e2 : hi = x ∨ hi = y := by simpa using (hall hi).2 h2
    refine ⟨?_, ?_⟩
    · rcases e1 with e | e
      · rw [← e]; exact h3
      · rw [e] at h3; exact leQ_trans (ltQ_le hxy) h3
    · rcases e2 with e | e
      · rw [e] at h4; exact leQ_trans h4 (ltQ_le hxy)
      · rw [← e]; exact h4
  | x :: y :: z :: r, hall, hs =>
    exfalso
    have hx := ((hall x).1 (by simp)).2
    have hy := (hall y).1 (by simp)
    have hz := ((hall z).1 (by simp)).2
    have s1 := List.pairwise_cons.1 hs
    have s2 := List.pairwise_cons.1 s1.2
    have hxy : ltQ x y := s1.1 y (by simp)
    have hyz : ltQ y z := s2.1 z (by simp)
    rcases hy.1 with e | e | e | e
    · exact end_side (.inl e) hx.1 hz.1 hxy hyz
    · exact end_side (.inr e) hx.1 hz.1 hxy hyz
    · exact end_side (.inl e) hx.2 hz.2 hxy hyz
    · exact end_side (.inr e) hx.2 hz.2 hxy hyz
end Go.Proofs.YtdmoibphidipeaaGreatDoor
/- Where ways meet, the program's own between, aside, on, parts, may: numbers alone. -/

namespace Go.Proofs.YtdmoibphidipeaaGreatDoor
open Go.RowKit Num

theorem mul_inB {x y B C : Int} (hx : -B ≤ x ∧ x ≤ B) (hy : -C ≤ y ∧ y ≤ C) (hB : 0 ≤ B) : -(B * C) ≤ x * y ∧ x * y ≤ B * C := by
  have h1 : (x * y).natAbs ≤ (B * C).natAbs := by
    rw [Int.natAbs_mul, Int.natAbs_mul]
    exact Nat.mul_le_mul (by omega) (by omega)
  have h2 : 0 ≤ B * C := Int.mul_nonneg hB (by omega)
  omega
def btwI (x y n : Int) : Bool := decide (min x y ≤ n) && decide (n ≤ max x y)

set_option maxRecDepth 10000 in
set_option maxHeartbeats 1600000 in
theorem cross_between (x y n : Int) (w : World) :
    Calls Tryz.prog 119 #[.int .i64 x, .int .i64 y, .int .i64 n] w fun e w' => e = .returned (.bool (btwI x y n)) ∧ w = w' := by
  obtain ⟨r, hr⟩ : ∃ r : Bool, btwI x y n = r := ⟨_, rfl⟩
  rw [hr]
  unfold btwI at hr
  by_cases h : min x y ≤ n
  · rw [decide_eq_true h, Bool.true_and] at hr
    have HR := Lib.hid hr
    clear hr
    go_enter Tryz.func119, Tryz.ntmps119
    go_wp2_with fail
    go_ret
    rw [← HR.out]
    exact ⟨rfl, rfl⟩
  · rw [decide_eq_false h, Bool.false_and] at hr
    have HR := Lib.hid hr
    clear hr
    go_enter Tryz.func119, Tryz.ntmps119
    go_wp2_with fail
    go_ret
    rw [← HR.out]
    exact ⟨rfl, rfl⟩

set_option maxRecDepth 10000 in
set_option maxHeartbeats 1600000 in
theorem cross_aside (a b p : Pt) (ha : FitP a) (hb : FitP b) (hp : FitP p) (w : World) :
    Calls Tryz.prog 66 #[segV a b, ptV p] w fun e w' => e = .returned (.int .i64 (crG a b p)) ∧ Below w.heap.size w w' := by
  obtain ⟨W, hW, k1, k2, bW, sW⟩ := seg_pt_boxes w a b p
  have hc := cr_size ha hb hp
  unfold FitP at ha hb hp
  have m1 := mul_inB (x := b.x - a.x) (y := p.y - a.y) (B := 16777214) (C := 16777214) (by omega) (by omega) (by omega)
  have m2 := mul_inB (x := b.y - a.y) (y := p.x - a.x) (B := 16777214) (C := 16777214) (by omega) (by omega) (by omega)
  unfold segCells at k1
  unfold ptCells at k2
  obtain ⟨p0, p1, p2, p3⟩ := Box.quad k1
  obtain ⟨⟨q0, q1⟩, -⟩ := Box.pair k2
  unfold segV ptV
  have s1 : IntKind.i64.wrap (b.x - a.x) = b.x - a.x := IntWalk.i64_in _ (by omega)
  have s2 : IntKind.i64.wrap (p.y - a.y) = p.y - a.y := IntWalk.i64_in _ (by omega)
  have s3 : IntKind.i64.wrap (b.y - a.y) = b.y - a.y := IntWalk.i64_in _ (by omega)
  have s4 : IntKind.i64.wrap (p.x - a.x) = p.x - a.x := IntWalk.i64_in _ (by omega)
  have s5 : IntKind.i64.wrap ((b.x - a.x) * (p.y - a.y)) = (b.x - a.x) * (p.y - a.y) := IntWalk.i64_in _ (by omega)
  have s6 : IntKind.i64.wrap ((b.y - a.y) * (p.x - a.x)) = (b.y - a.y) * (p.x - a.x) := IntWalk.i64_in _ (by omega)
  have s7 : IntKind.i64.wrap ((b.x - a.x) * (p.y - a.y) - (b.y - a.y) * (p.x - a.x)) = (b.x - a.x) * (p.y - a.y) - (b.y - a.y) * (p.x - a.x) := IntWalk.i64_in _ (by omega)
  have HB := Lib.hid bW
  clear k1 k2 bW sW hc m1 m2
  go_enter Tryz.func66, Tryz.ntmps66
  go_wp2_with (rw [hW])
  go_ret
  exact ⟨rfl, HB.out⟩
def onG (a b p : Pt) : Bool := btwI a.x b.x p.x && btwI a.y b.y p.y && (crG a b p == 0)

set_option maxRecDepth 10000 in
set_option maxHeartbeats 3200000 in
theorem cross_on (a b p : Pt) (ha : FitP a) (hb : FitP b) (hp : FitP p) (w : World) :
    Calls Tryz.prog 72 #[segV a b, ptV p] w fun e w' => e = .returned (.bool (onG a b p)) ∧ Below w.heap.size w w' := by
  obtain ⟨W, hW, k1, k2, bW, sW⟩ := seg_pt_boxes w a b p
  have cA := fun V => cross_between a.x b.x p.x V
  have cB := fun V => cross_between a.y b.y p.y V
  have cC := cross_aside a b p ha hb hp W
  unfold segCells at k1
  unfold ptCells at k2
  obtain ⟨p0, p1, p2, p3⟩ := Box.quad k1
  obtain ⟨⟨q0, q1⟩, -⟩ := Box.pair k2
  unfold segV ptV at *
  have HB := Lib.hid bW
  obtain ⟨r, hr⟩ : ∃ r : Bool, onG a b p = r := ⟨_, rfl⟩
  rw [hr]
  unfold onG at hr
  clear k1 k2 bW ha hb hp
  obtain ⟨u, hu⟩ : ∃ u : Bool, btwI a.x b.x p.x = u := ⟨_, rfl⟩
  obtain ⟨v, hv⟩ : ∃ v : Bool, btwI a.y b.y p.y = v := ⟨_, rfl⟩
  rw [hu] at cA hr
  rw [hv] at cB hr
  obtain ⟨z, hz⟩ : ∃ z : Int, crG a b p = z := ⟨_, rfl⟩
  rw [hz] at cC hr
  have CA := Lib.hid cA
  have CB := Lib.hid cB
  have CC := Lib.hid cC
  clear cA cB cC hu hv hz
  cases u with
  | false =>
    simp only [Bool.false_and] at hr
    subst hr
    go_enter Tryz.func72, Tryz.ntmps72
    go_wp2_with first
      | (rw [hW])
      | (go_at_call 119; (with_reducible refine Calls.mono (CA.out _) ?_); rintro e w1 ⟨rfl, rfl⟩)
    go_ret
    exact ⟨rfl, HB.out⟩
  | true =>
    cases v with
    | false =>
      simp only [Bool.true_and, Bool.false_and] at hr
      subst hr
      go_enter Tryz.func72, Tryz.ntmps72
      go_wp2_with first
        | (rw [hW])
        | (go_at_call 119; (with_reducible refine Calls.mono (CA.out _) ?_); rintro e w1 ⟨rfl, rfl⟩)
        | (go_at_call 119; (with_reducible refine Calls.mono (CB.out _) ?_); rintro e w1 ⟨rfl, rfl⟩)
      go_ret
      exact ⟨rfl, HB.out⟩
    | true =>
      simp only [Bool.true_and] at hr
      go_enter Tryz.func72, Tryz.ntmps72
      go_wp2_with first
        | (rw [hW])
        | (go_at_call 119; (with_reducible refine Calls.mono (CA.out _) ?_); rintro e w1 ⟨rfl, rfl⟩)
        | (go_at_call 119; (with_reducible refine Calls.mono (CB.out _) ?_); rintro e w1 ⟨rfl, rfl⟩)
        | (go_at_call 66; (with_reducible refine Calls.mono CC.out ?_); rintro e w1 ⟨rfl, b1⟩)
      go_ret
      exact ⟨by rw [← hr]; rfl, HB.out.trans (b1.mono HB.out.size)⟩
theorem btwI_iff (x y n : Int) : btwI x y n = true ↔ btw (x : Rat) (y : Rat) (n : Rat) := by
  unfold btwI btw
  rw [Bool.and_eq_true, decide_eq_true_iff, decide_eq_true_iff]
  have e : ∀ u v : Int, ((u : Rat) ≤ (v : Rat)) ↔ u ≤ v := fun u v => ⟨fun h => by exact_mod_cast h, fun h => by exact_mod_cast h⟩
  rw [e, e, e, e]
  omega
theorem onG_iff (a b p : Pt) : onG a b p = true ↔ OnQ (qAt a) (qAt b) (qAt p) := by
  unfold onG OnQ
  rw [Bool.and_eq_true, Bool.and_eq_true, btwI_iff, btwI_iff, beq_iff_eq, ← crG_crQ]
  have e : crG a b p = 0 ↔ ((crG a b p : Int) : Rat) = 0 := ⟨fun h => by exact_mod_cast h, fun h => by exact_mod_cast h⟩
  rw [e]
  exact ⟨fun h => ⟨h.2, h.1⟩, fun h => ⟨h.2, h.1⟩⟩
instance (a b c d : Pt) : Decidable (PartsG a b c d) := by unfold PartsG; exact inferInstance
end Go.Proofs.YtdmoibphidipeaaGreatDoor
/- Where ways meet, the program's own parts and may. -/

namespace Go.Proofs.YtdmoibphidipeaaGreatDoor
open Go.RowKit
open Go.Sort (grow)

theorem quiet_ofC {P : Program} {f : FuncId} {args : Array Value} {W : World} {v : Value} (h : ∀ V, Calls P f args V fun e w' => e = .returned v ∧ Below V.heap.size V w') (d : Nat) (os : Array Obj) : Calls P f args (grow (redrawn W d) os) fun e w'' => e = .returned v ∧ ∃ p : Regrown, w'' = grow (redrawn W p.d) p.os :=
  Calls.regrown_of (h _)

set_option maxRecDepth 10000 in
set_option maxHeartbeats 3200000 in
theorem cross_parts (a b c d : Pt) (ha : FitP a) (hb : FitP b) (hc : FitP c) (hd : FitP d) (w : World) :
    Calls Tryz.prog 65 #[segV a b, segV c d] w fun e w' => e = .returned (.bool (decide (PartsG a b c d))) ∧ Below w.heap.size w w' := by
  obtain ⟨W, hW, k1, k2, bW, sW⟩ := seg_boxes w a b c d
  have c1 := quiet_ofC (W := W) (fun V => cross_aside a b c ha hb hc V)
  have c2 := quiet_ofC (W := W) (fun V => cross_aside a b d ha hb hd V)
  unfold segCells at k1 k2
  obtain ⟨p0, p1, p2, p3⟩ := Box.quad k1
  obtain ⟨q0, q1, q2, q3⟩ := Box.quad k2
  have hr : PartsG a b c d ↔ (crG a b c < 0 ∧ 0 < crG a b d) ∨ (crG a b d < 0 ∧ 0 < crG a b c) := Iff.rfl
  obtain ⟨u, hu⟩ : ∃ u : Int, crG a b c = u := ⟨_, rfl⟩
  obtain ⟨v, hv⟩ : ∃ v : Int, crG a b d = v := ⟨_, rfl⟩
  rw [hu] at c1 hr
  rw [hv] at c2 hr
  unfold segV ptV at *
  have C1 := Lib.hid c1
  have C2 := Lib.hid c2
  have HB := Lib.hid bW
  have x0 := cell_regrown p0
  have x1 := cell_regrown p1
  have x2 := cell_regrown p2
  have x3 := cell_regrown p3
  have y0 := cell_regrown q0
  have y1 := cell_regrown q1
  have y2 := cell_regrown q2
  have y3 := cell_regrown q3
  clear k1 k2 bW sW c1 c2 hu hv ha hb hc hd
  have walk : ∀ (z : Bool), (min u v < 0 → decide (0 < max u v) = z) → (0 ≤ min u v → z = false) → Calls Tryz.prog 65 #[.agg #[.int .i64 a.x, .int .i64 a.y, .int .i64 b.x, .int .i64 b.y], .agg #[.int .i64 c.x, .int .i64 c.y, .int .i64 d.x, .int .i64 d.y]] w fun e w' => e = .returned (.bool z) ∧ Below w.heap.size w w' := by
    intro z z1 z2
    have Z1 := Lib.hid z1
    have Z2 := Lib.hid z2
    clear z1 z2 hr
    go_enter Tryz.func65, Tryz.ntmps65
    go_wp2_with (rw [hW])
    refine wp_region_quiet_below (by kernel_rfl) (by kernel_rfl) ?_
    quiet_step (fail)
    quiet_step (fail)
    quiet_step (fail)
    quiet_step (with_reducible exact C1.out _ _)
    quiet_step (fail)
    quiet_step (fail)
    quiet_step (fail)
    quiet_step (with_reducible exact C2.out _ _)
    quiet_step (fail)
    quiet_step (fail)
    refine wpQuiet_nil ?_
    intro _ hw'
    obtain ⟨⟨dq, osq⟩, hw''⟩ := hw'
    subst hw''
    obtain ⟨wq, hwq⟩ : ∃ x, grow (redrawn W dq) osq = x := ⟨_, rfl⟩
    have Bq : Below W.heap.size W wq := by rw [← hwq]; exact below_regrown W dq osq
    rw [hwq]
    have BQ := Lib.hid Bq
    clear hwq Bq C1 C2 x0 x1 x2 x3 y0 y1 y2 y3 p0 p1 p2 p3 q0 q1 q2 q3
    by_cases hm : min u v < 0
    · have HZ := Lib.hid (Z1.out hm)
      clear Z1 Z2
      go_wp2_with fail
      go_ret
      rw [← HZ.out]
      exact ⟨rfl, HB.out.trans (BQ.out.mono HB.out.size)⟩
    · have HZ := Lib.hid (Z2.out (by omega))
      clear Z1 Z2
      go_wp2_with fail
      go_ret
      rw [HZ.out]
      exact ⟨rfl, HB.out.trans (BQ.out.mono HB.out.size)⟩
  exact walk _ (fun h => decide_eq_decide.2 (by rw [hr]; omega)) (fun h => decide_eq_false (by rw [hr]; omega))

set_option maxRecDepth 10000 in
set_option maxHeartbeats 1600000 in
theorem cross_may (a b : Pt) (w : World) :
    Calls Tryz.prog 49 #[segV a b] w fun e w' => e = .returned (.bool (decide (FitP a ∧ FitP b))) ∧ Below w.heap.size w w' := by
  obtain ⟨W, hW, k1, bW⟩ := seg_box w a b
  have cA := fun V => aff_Fits a V
  have cB := fun V => aff_Fits b V
  unfold segCells at k1
  obtain ⟨p0, p1, p2, p3⟩ := Box.quad k1
  have HK := Lib.hid (And.intro k1 bW)
  unfold segV ptV at *
  clear k1 bW
  by_cases ha : FitP a
  · rw [decide_eq_true ha] at cA
    obtain ⟨d, hd⟩ : ∃ d : Bool, decide (FitP b) = d := ⟨_, rfl⟩
    have hr : decide (FitP a ∧ FitP b) = d := by rw [← hd]; exact decide_eq_decide.2 ⟨fun h => h.2, fun h => ⟨ha, h⟩⟩
    rw [hd] at cB
    rw [hr]
    have CA := Lib.hid cA
    have CB := Lib.hid cB
    clear cA cB hd hr ha
    go_enter Tryz.func49, Tryz.ntmps49
    go_wp2_with first
      | (rw [hW])
      | (go_at_call 86; (with_reducible refine Calls.mono (CA.out _) ?_); rintro e w1 ⟨rfl, b1⟩
         obtain ⟨q0, q1, q2, q3⟩ := Box.quad (HK.out.1.below b1 HK.out.1.lt))
      | (go_at_call 86; (with_reducible refine Calls.mono (CB.out _) ?_); rintro e w2 ⟨rfl, b2⟩)
    go_ret
    exact ⟨rfl, HK.out.2.trans ((b1.trans (b2.mono b1.size)).mono HK.out.2.size)⟩
  · rw [decide_eq_false ha] at cA
    rw [decide_eq_false (fun h => ha h.1)]
    have CA := Lib.hid cA
    clear cA cB ha
    go_enter Tryz.func49, Tryz.ntmps49
    go_wp2_with first
      | (rw [hW])
      | (go_at_call 86; (with_reducible refine Calls.mono (CA.out _) ?_); rintro e w1 ⟨rfl, b1⟩)
    go_ret
    exact ⟨rfl, HK.out.2.trans (b1.mono HK.out.2.size)⟩
end Go.Proofs.YtdmoibphidipeaaGreatDoor
