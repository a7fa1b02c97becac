/- Where ways meet, the document's own Meet of ways whose boxes do not lie apart. -/
import Derived.Test.YtdmoibphidipeaaGreatDoorZCrS
import Derived.Test.YtdmoibphidipeaaGreatDoorZCrT
import Derived.Test.YtdmoibphidipeaaGreatDoorZFlC
import Derived.Test.YtdmoibphidipeaaGreatDoorZCsX
import Derived.Deep.CutRange
import Derived.Deep.RegionHeld3
namespace Go.Proofs.YtdmoibphidipeaaGreatDoor
open Go.RowKit Num rows

/-- a row that Meet answers, as it is read -/
def MeetRd (a b c d : Pt) (w : World) (e : Ending) (w' : World) : Prop :=
  ∃ p cap xs R, e = .returned (.slice p (List.length xs) cap) ∧ xs.length ≤ cap ∧ RdS w' p xs ∧ RowW 16 w' xs R ∧ MeetR a b c d R ∧ Below w.heap.size w w'
theorem some_bool (p : Prop) : ∃ o : Bool, o = true ↔ p := by
  by_cases h : p
  · exact ⟨true, fun _ => h, fun _ => rfl⟩
  · exact ⟨false, fun k => (by cases k), fun k => absurd k h⟩
def pk (o : Bool) (q : Qp) : List Qp := if o then [q] else []
theorem pk_false (q : Qp) : pk false q = [] := rfl
theorem mem_pk {o : Bool} {q p : Qp} : p ∈ pk o q ↔ o = true ∧ p = q := by
  unfold pk
  cases o <;> simp
/-- what is gathered at a stage -/
def GatS (B : World) (R : List Qp) (v : Value) (w : World) : Prop := ∃ xs : List Sp, OwnS w B.heap.size v xs.length (flat xs) ∧ RowW 8 w xs R ∧ xs.length ≤ 4 ∧ Below B.heap.size B w
theorem GatS.nil {B w : World} (h : Below B.heap.size B w) : GatS B [] (.slice none 0 0) w := ⟨[], OwnS.nil _ _, RowW.nil _ _, by simp, h⟩
theorem GatS.on {B w w' : World} {R : List Qp} {v : Value} (h : GatS B R v w) (b : Below w.heap.size w w') : GatS B R v w' := by
  obtain ⟨xs, h1, h2, h3, h4⟩ := h
  exact ⟨xs, h1.kept b, h2.on b, h3, h4.trans (b.mono h4.size)⟩
theorem GatS.more {B w w' : World} {R : List Qp} {v v' : Value} {xs : List Sp} {x : Sp} (ho : OwnS w B.heap.size v xs.length (flat xs)) (hr : RowW 8 w xs R) (hl : R.length ≤ 3) (hb : Below B.heap.size B w) (hx : x.Red 8) (hk : x.Ok w) (h5 : OwnS w' B.heap.size v' (xs.length + 1) (flat xs ++ x.cells)) (hg : w.grownBy w' v.ownBlock) {q : Qp} (hq : sw x = q) : GatS B (R ++ [q]) v' w' := by
  refine ⟨xs ++ [x], ?_, (hr.imp fun s k => ho.ok hg k).snoc hx (ho.ok hg hk) hq, ?_, hb.grown hg hb.size fun k hk => (ho.lt k hk).1⟩
  · rw [flat_snoc, List.length_append, List.length_singleton]; exact h5
  · have := hr.length; simp; omega
theorem oneRow (w : World) (x : Sp) (hr : x.Red 16) (ho : x.Ok w) : RdS (w.alloc (.cells #[.bool x.n1, .slice x.A1 x.a1.length x.c1, .slice x.D1 x.d1.length x.e1, .bool x.n2, .slice x.A2 x.a2.length x.c2, .slice x.D2 x.d2.length x.e2] 41)) (some ⟨w.heap.size, 0, none⟩) [x] ∧ RowW 16 (w.alloc (.cells #[.bool x.n1, .slice x.A1 x.a1.length x.c1, .slice x.D1 x.d1.length x.e1, .bool x.n2, .slice x.A2 x.a2.length x.c2, .slice x.D2 x.d2.length x.e2] 41)) [x] [sw x] ∧ Below w.heap.size w (w.alloc (.cells #[.bool x.n1, .slice x.A1 x.a1.length x.c1, .slice x.D1 x.d1.length x.e1, .bool x.n2, .slice x.A2 x.a2.length x.c2, .slice x.D2 x.d2.length x.e2] 41)) := by
  have hb : Below w.heap.size w (w.alloc (.cells #[.bool x.n1, .slice x.A1 x.a1.length x.c1, .slice x.D1 x.d1.length x.e1, .bool x.n2, .slice x.A2 x.a2.length x.c2, .slice x.D2 x.d2.length x.e2] 41)) := (Below.refl _ _).alloc (Nat.le_refl _) _
  refine ⟨fun _ => ⟨w.heap.size, 0, rfl, by simp, fun i hi j u hu => ?_⟩, ⟨rfl, fun s hs => ?_⟩, hb⟩
  · have h0 : i = 0 := by simpa using hi
    subst h0
    have := one_spot w x j u hu
    rw [addr_add] at this
    simpa using this
  · rw [List.mem_singleton] at hs
    subst hs
    exact ⟨hr, ho.on hb⟩
theorem MeetTo.rd {a b c d : Pt} {M : Nat} (hM : M ≤ 16) {w w' : World} {e : Ending} (h : MeetTo a b c d M w e w') : MeetRd a b c d w e w' := by
  obtain ⟨v, xs, R, rfl, ho, hr, hm, hb⟩ := h
  obtain ⟨p, cap, rfl, hc⟩ := ho.any
  exact ⟨p, cap, xs, R, rfl, hc, ho.reads, hr.wide hM, hm, hb⟩

set_option maxRecDepth 10000 in
set_option maxHeartbeats 6400000 in
theorem ref17_MeetFar (a b c d : Pt) (hf : (FitP a ∧ FitP b) ∧ FitP c ∧ FitP d) (n1 : ¬ (max a.x b.x < min c.x d.x)) (n2 : ¬ (max c.x d.x < min a.x b.x)) (n3 : ¬ (max a.y b.y < min c.y d.y)) (n4 : ¬ (max c.y d.y < min a.y b.y)) (w : World) :
    Calls Tryz.prog 11 #[segV a b, segV c d] w (MeetRd a b c d w) := by
  obtain ⟨W, hW, k1, k2, bW, sW⟩ := seg_boxes w a b c d
  have cA := fun V => ref17_May a b V
  have cB := fun V => ref17_May c d V
  unfold segCells at k1 k2
  obtain ⟨p0, p1, p2, p3⟩ := Box.quad k1
  have HK := Lib.hid (And.intro k1 (And.intro k2 bW))
  unfold segV at *
  clear k1 k2 bW
  rw [decide_eq_true hf.1] at cA
  rw [decide_eq_true hf.2] at cB
  have CA := Lib.hid cA
  have CB := Lib.hid cB
  clear cA cB
  go_enter Tryz.func11, Tryz.ntmps11
  go_upto_region 3 with first
    | (rw [hW])
    | (go_at_call 39; (with_reducible refine Calls.mono (CA.out _) ?_); rintro e w1 ⟨rfl, b1⟩
       obtain ⟨q0, q1, q2, q3⟩ := Box.quad (HK.out.2.1.below b1 HK.out.2.1.lt))
    | (go_at_call 39; (with_reducible refine Calls.mono (CB.out _) ?_); rintro e w2 ⟨rfl, b2⟩
       obtain ⟨s0, s1, s2, s3⟩ := Box.quad ((HK.out.1.below b1 HK.out.1.lt).below b2 (Nat.lt_of_lt_of_le HK.out.1.lt b1.size))
       obtain ⟨t0, t1, t2, t3⟩ := Box.quad ((HK.out.2.1.below b1 HK.out.2.1.lt).below b2 (Nat.lt_of_lt_of_le HK.out.2.1.lt b1.size))
       clear p0 p1 p2 p3 q0 q1 q2 q3)
  dsimp only [List.append]
  go_wp2_with fail
  have KB := Lib.hid (And.intro ((HK.out.1.below b1 HK.out.1.lt).below b2 (Nat.lt_of_lt_of_le HK.out.1.lt b1.size)) ((HK.out.2.1.below b1 HK.out.2.1.lt).below b2 (Nat.lt_of_lt_of_le HK.out.2.1.lt b1.size)))
  have BW := Lib.hid (HK.out.2.2.trans ((b1.trans (b2.mono b1.size)).mono HK.out.2.2.size))
  obtain ⟨W2, hW2⟩ : ∃ W2, W2 = w2 := ⟨_, rfl⟩
  refine wp_region_held_drew (S := fun w' => w'.cell? ⟨w.heap.size, 0, none⟩ = some (.int .i64 a.x) ∧ w'.cell? ⟨w.heap.size, 1, none⟩ = some (.int .i64 a.y) ∧ w'.cell? ⟨w.heap.size, 2, none⟩ = some (.int .i64 b.x) ∧ w'.cell? ⟨w.heap.size, 3, none⟩ = some (.int .i64 b.y) ∧ w'.cell? ⟨w.heap.size + 1, 0, none⟩ = some (.int .i64 c.x) ∧ w'.cell? ⟨w.heap.size + 1, 1, none⟩ = some (.int .i64 c.y) ∧ w'.cell? ⟨w.heap.size + 1, 2, none⟩ = some (.int .i64 d.x) ∧ w'.cell? ⟨w.heap.size + 1, 3, none⟩ = some (.int .i64 d.y)) (by kernel_rfl) ⟨s0, s1, s2, s3, t0, t1, t2, t3⟩ (fun hS => ?_)
  refine takeF (i := 0) (v := ?v0) rfl (by kernel_rfl) (by kernel_rfl) (by kernel_rfl) (fun _ _ _ h => h) (Or.inl ⟨by rfl, ?y0⟩) hS ?_
  case y0 =>
    intro w' hSw
    obtain ⟨h0, h1, h2, h3, h4, h5, h6, h7⟩ := hSw
    go_simp
    all_goals (with_reducible rfl)
  simp only [Act.put, List.setIfInBounds_toArray, List.set_cons_zero, List.set_cons_succ]
  refine takeF (i := 1) (v := ?v1) rfl (by kernel_rfl) (by kernel_rfl) (by kernel_rfl) (fun _ _ _ h => h) (Or.inl ⟨by rfl, ?y1⟩) hS ?_
  case y1 =>
    intro w' hSw
    obtain ⟨h0, h1, h2, h3, h4, h5, h6, h7⟩ := hSw
    go_simp
    all_goals (with_reducible rfl)
  simp only [Act.put, List.setIfInBounds_toArray, List.set_cons_zero, List.set_cons_succ]
  refine takeF (i := 3) (v := ?v3) rfl (by kernel_rfl) (by kernel_rfl) (by kernel_rfl) (fun _ _ _ h => h) (Or.inl ⟨by rfl, ?y3⟩) hS ?_
  case y3 =>
    intro w' hSw
    obtain ⟨h0, h1, h2, h3, h4, h5, h6, h7⟩ := hSw
    go_simp
    all_goals (with_reducible rfl)
  simp only [Act.put, List.setIfInBounds_toArray, List.set_cons_zero, List.set_cons_succ]
  refine takeF (i := 4) (v := ?v4) rfl (by kernel_rfl) (by kernel_rfl) (by kernel_rfl) (fun _ _ _ h => h) (Or.inl ⟨by rfl, ?y4⟩) hS ?_
  case y4 =>
    intro w' hSw
    obtain ⟨h0, h1, h2, h3, h4, h5, h6, h7⟩ := hSw
    go_simp
    all_goals (with_reducible rfl)
  simp only [Act.put, List.setIfInBounds_toArray, List.set_cons_zero, List.set_cons_succ]
  refine takeF (i := 6) (v := ?v6) rfl (by kernel_rfl) (by kernel_rfl) (by kernel_rfl) (fun _ _ _ h => h) (Or.inl ⟨by rfl, ?y6⟩) hS ?_
  case y6 =>
    intro w' hSw
    obtain ⟨h0, h1, h2, h3, h4, h5, h6, h7⟩ := hSw
    go_simp
    all_goals (with_reducible rfl)
  simp only [Act.put, List.setIfInBounds_toArray, List.set_cons_zero, List.set_cons_succ]
  refine takeF (i := 7) (v := ?v7) rfl (by kernel_rfl) (by kernel_rfl) (by kernel_rfl) (fun _ _ _ h => h) (Or.inl ⟨by rfl, ?y7⟩) hS ?_
  case y7 =>
    intro w' hSw
    obtain ⟨h0, h1, h2, h3, h4, h5, h6, h7⟩ := hSw
    go_simp
    all_goals (with_reducible rfl)
  simp only [Act.put, List.setIfInBounds_toArray, List.set_cons_zero, List.set_cons_succ]
  refine takeF (i := 9) (v := ?v9) rfl (by kernel_rfl) (by kernel_rfl) (by kernel_rfl) (fun _ _ _ h => h) (Or.inl ⟨by rfl, ?y9⟩) hS ?_
  case y9 =>
    intro w' hSw
    obtain ⟨h0, h1, h2, h3, h4, h5, h6, h7⟩ := hSw
    go_simp
    all_goals (with_reducible rfl)
  simp only [Act.put, List.setIfInBounds_toArray, List.set_cons_zero, List.set_cons_succ]
  refine takeF (i := 10) (v := ?v10) rfl (by kernel_rfl) (by kernel_rfl) (by kernel_rfl) (fun _ _ _ h => h) (Or.inl ⟨by rfl, ?y10⟩) hS ?_
  case y10 =>
    intro w' hSw
    obtain ⟨h0, h1, h2, h3, h4, h5, h6, h7⟩ := hSw
    go_simp
    all_goals (with_reducible rfl)
  simp only [Act.put, List.setIfInBounds_toArray, List.set_cons_zero, List.set_cons_succ]
  refine spots_go (n := 4) w2 (at4 2 5 8 11) (at4 12 13 14 15) (at4 16 17 18 19) (at4 91 94 97 100) (at4 5 6 7 8) (at4 0 1 2 3) (at4 4 5 6 7) [91, 94, 97, 100, 5, 6, 7, 8]
    (fun c m s => #[true, true, c 0, true, true, c 1, true, true, c 2, true, true, c 3, m 0, m 1, m 2, m 3, s 0, s 1, s 2, s 3]) (fun x p => [x 0, x 1, x 2, x 3, p 0, p 1, p 2, p 3]) (fun _ => 19) (at4 #[ptV a] #[ptV b] #[ptV c] #[ptV d]) (at4 (qAt a) (qAt b) (qAt c) (qAt d))
    (by kernel_rfl) (by decide) (fun s hs => Nat.lt_of_lt_of_eq ((by decide : ∀ s ∈ [91, 94, 97, 100, 5, 6, 7, 8], s < 185) s hs) rfl) (fun _ _ => rfl) (fun _ _ _ => rfl)
    ?oc ?oa ?os ?ks ?v ?vs ?vx ?Lg ?Ls ?all ?ws ?call ?S rfl (by decide) ((Below.refl _ _).drew) (fun _ => undef) (fun _ => undef) rfl ?final
  case oc =>
    intro j hj
    obtain rfl | rfl | rfl | rfl : j = 0 ∨ j = 1 ∨ j = 2 ∨ j = 3 := by omega
    all_goals exact ⟨_, rfl, rfl, rfl, fun vs V => exec_call1 rfl rfl (by go_simp) ((putAll_off _ _ _ _ (by decide)).trans rfl)⟩
  case oa =>
    intro j hj
    obtain rfl | rfl | rfl | rfl : j = 0 ∨ j = 1 ∨ j = 2 ∨ j = 3 := by omega
    all_goals exact ⟨_, rfl, rfl, rfl, rfl⟩
  case os =>
    intro j hj
    obtain rfl | rfl | rfl | rfl : j = 0 ∨ j = 1 ∨ j = 2 ∨ j = 3 := by omega
    all_goals exact ⟨_, rfl, rfl, rfl, rfl⟩
  case ks =>
    intro j hj
    obtain rfl | rfl | rfl | rfl : j = 0 ∨ j = 1 ∨ j = 2 ∨ j = 3 := by omega
    all_goals exact ⟨rfl, rfl⟩
  case v =>
    intro x p j hj
    obtain rfl | rfl | rfl | rfl : j = 0 ∨ j = 1 ∨ j = 2 ∨ j = 3 := by omega
    all_goals exact ⟨rfl, rfl⟩
  case vs =>
    intro x p j u hj
    obtain rfl | rfl | rfl | rfl : j = 0 ∨ j = 1 ∨ j = 2 ∨ j = 3 := by omega
    all_goals exact ⟨rfl, rfl⟩
  case vx =>
    intro x x' p p' h
    show [x 0, x 1, x 2, x 3, p 0, p 1, p 2, p 3] = _
    rw [(h 0 (by decide)).1, (h 0 (by decide)).2, (h 1 (by decide)).1, (h 1 (by decide)).2, (h 2 (by decide)).1, (h 2 (by decide)).2, (h 3 (by decide)).1, (h 3 (by decide)).2]
  case Lg =>
    intro c m s j hj
    obtain rfl | rfl | rfl | rfl : j = 0 ∨ j = 1 ∨ j = 2 ∨ j = 3 := by omega
    all_goals exact ⟨rfl, rfl, rfl⟩
  case Ls =>
    intro c m s j hj
    obtain rfl | rfl | rfl | rfl : j = 0 ∨ j = 1 ∨ j = 2 ∨ j = 3 := by omega
    all_goals exact ⟨rfl, rfl, rfl⟩
  case all =>
    intro c m s i hi h
    have hi' : i < 20 := hi
    clear hi
    obtain rfl | rfl | rfl | rfl | rfl | rfl | rfl | rfl | rfl | rfl | rfl | rfl | rfl | rfl | rfl | rfl | rfl | rfl | rfl | rfl : i = 0 ∨ i = 1 ∨ i = 2 ∨ i = 3 ∨ i = 4 ∨ i = 5 ∨ i = 6 ∨ i = 7 ∨ i = 8 ∨ i = 9 ∨ i = 10 ∨ i = 11 ∨ i = 12 ∨ i = 13 ∨ i = 14 ∨ i = 15 ∨ i = 16 ∨ i = 17 ∨ i = 18 ∨ i = 19 := by omega
    · cases (show true = false from h)
    · cases (show true = false from h)
    · exact ⟨0, by decide, .inl rfl⟩
    · cases (show true = false from h)
    · cases (show true = false from h)
    · exact ⟨1, by decide, .inl rfl⟩
    · cases (show true = false from h)
    · cases (show true = false from h)
    · exact ⟨2, by decide, .inl rfl⟩
    · cases (show true = false from h)
    · cases (show true = false from h)
    · exact ⟨3, by decide, .inl rfl⟩
    · exact ⟨0, by decide, .inr (.inl rfl)⟩
    · exact ⟨1, by decide, .inr (.inl rfl)⟩
    · exact ⟨2, by decide, .inr (.inl rfl)⟩
    · exact ⟨3, by decide, .inr (.inl rfl)⟩
    · exact ⟨0, by decide, .inr (.inr rfl)⟩
    · exact ⟨1, by decide, .inr (.inr rfl)⟩
    · exact ⟨2, by decide, .inr (.inr rfl)⟩
    · exact ⟨3, by decide, .inr (.inr rfl)⟩
  case ws =>
    intro j hj
    obtain rfl | rfl | rfl | rfl : j = 0 ∨ j = 1 ∨ j = 2 ∨ j = 3 := by omega
    all_goals exact ⟨by kernel_rfl, by kernel_rfl⟩
  case call =>
    intro j hj V hV
    obtain rfl | rfl | rfl | rfl : j = 0 ∨ j = 1 ∨ j = 2 ∨ j = 3 := by omega
    · exact ref5_AtW a hf.1.1 V
    · exact ref5_AtW b hf.1.2 V
    · exact ref5_AtW c hf.2.1 V
    · exact ref5_AtW d hf.2.2 V
  case S =>
    intro w' hb
    obtain ⟨h0, h1, h2, h3⟩ := Box.quad (KB.out.1.below hb KB.out.1.lt)
    obtain ⟨h4, h5, h6, h7⟩ := Box.quad (KB.out.2.below hb KB.out.2.lt)
    exact ⟨h0, h1, h2, h3, h4, h5, h6, h7⟩
  case final =>
    intro x g V hV hj hd
    obtain ⟨⟨rA, oA, eA⟩, lA, uA, kA⟩ := hj 0 (by decide)
    replace eA : sw (x 0) = qAt a := eA
    obtain ⟨⟨rB, oB, eB⟩, lB, uB, kB⟩ := hj 1 (by decide)
    replace eB : sw (x 1) = qAt b := eB
    obtain ⟨⟨rC, oC, eC⟩, lC, uC, kC⟩ := hj 2 (by decide)
    replace eC : sw (x 2) = qAt c := eC
    obtain ⟨⟨rD, oD, eD⟩, lD, uD, kD⟩ := hj 3 (by decide)
    replace eD : sw (x 3) = qAt d := eD
    clear hj hd hS s0 s1 s2 s3 t0 t1 t2 t3 b1 b2 n1 n2 n3 n4
    simp only [putAll, Act.put, List.setIfInBounds_toArray, List.set_cons_zero, List.set_cons_succ]
    generalize x 0 = sA at *
    generalize g 0 = gA at *
    generalize x 1 = sB at *
    generalize g 1 = gB at *
    generalize x 2 = sC at *
    generalize g 2 = gC at *
    generalize x 3 = sD at *
    generalize g 3 = gD at *
    have HA := Lib.hid (And.intro (And.intro rA eA) (And.intro oA kA))
    have HB := Lib.hid (And.intro (And.intro rB eB) (And.intro oB kB))
    have HC := Lib.hid (And.intro (And.intro rC eC) (And.intro oC kC))
    have HD := Lib.hid (And.intro (And.intro rD eD) (And.intro oD kD))
    obtain ⟨ax0, ax1, ax2, ax3, ax4, ax5⟩ := (Blk.facts6 kA).1
    obtain ⟨bx0, bx1, bx2, bx3, bx4, bx5⟩ := (Blk.facts6 kB).1
    obtain ⟨cx0, cx1, cx2, cx3, cx4, cx5⟩ := (Blk.facts6 kC).1
    obtain ⟨dx0, dx1, dx2, dx3, dx4, dx5⟩ := (Blk.facts6 kD).1
    have HV := Lib.hid (BW.out.trans (hV.mono BW.out.size))
    clear rA rB rC rD eA eB eC eD oA oB oC oD kA kB kC kD lA lB lC lD hV KB BW HK
    go_wp2_with fail
    refine wp_region_held_drew (S := fun w' => w'.cell? ⟨gA, 0, none⟩ = some (.bool sA.n1) ∧ w'.cell? ⟨gA, 1, none⟩ = some (.slice sA.A1 sA.a1.length sA.c1) ∧ w'.cell? ⟨gA, 2, none⟩ = some (.slice sA.D1 sA.d1.length sA.e1) ∧ w'.cell? ⟨gA, 3, none⟩ = some (.bool sA.n2) ∧ w'.cell? ⟨gA, 4, none⟩ = some (.slice sA.A2 sA.a2.length sA.c2) ∧ w'.cell? ⟨gA, 5, none⟩ = some (.slice sA.D2 sA.d2.length sA.e2) ∧ w'.cell? ⟨gB, 0, none⟩ = some (.bool sB.n1) ∧ w'.cell? ⟨gB, 1, none⟩ = some (.slice sB.A1 sB.a1.length sB.c1) ∧ w'.cell? ⟨gB, 2, none⟩ = some (.slice sB.D1 sB.d1.length sB.e1) ∧ w'.cell? ⟨gB, 3, none⟩ = some (.bool sB.n2) ∧ w'.cell? ⟨gB, 4, none⟩ = some (.slice sB.A2 sB.a2.length sB.c2) ∧ w'.cell? ⟨gB, 5, none⟩ = some (.slice sB.D2 sB.d2.length sB.e2) ∧ w'.cell? ⟨gC, 0, none⟩ = some (.bool sC.n1) ∧ w'.cell? ⟨gC, 1, none⟩ = some (.slice sC.A1 sC.a1.length sC.c1) ∧ w'.cell? ⟨gC, 2, none⟩ = some (.slice sC.D1 sC.d1.length sC.e1) ∧ w'.cell? ⟨gC, 3, none⟩ = some (.bool sC.n2) ∧ w'.cell? ⟨gC, 4, none⟩ = some (.slice sC.A2 sC.a2.length sC.c2) ∧ w'.cell? ⟨gC, 5, none⟩ = some (.slice sC.D2 sC.d2.length sC.e2) ∧ w'.cell? ⟨gD, 0, none⟩ = some (.bool sD.n1) ∧ w'.cell? ⟨gD, 1, none⟩ = some (.slice sD.A1 sD.a1.length sD.c1) ∧ w'.cell? ⟨gD, 2, none⟩ = some (.slice sD.D1 sD.d1.length sD.e1) ∧ w'.cell? ⟨gD, 3, none⟩ = some (.bool sD.n2) ∧ w'.cell? ⟨gD, 4, none⟩ = some (.slice sD.A2 sD.a2.length sD.c2) ∧ w'.cell? ⟨gD, 5, none⟩ = some (.slice sD.D2 sD.d2.length sD.e2)) (by kernel_rfl) ⟨ax0, ax1, ax2, ax3, ax4, ax5, bx0, bx1, bx2, bx3, bx4, bx5, cx0, cx1, cx2, cx3, cx4, cx5, dx0, dx1, dx2, dx3, dx4, dx5⟩ (fun hS => ?_)
    refine takeF (i := 0) (v := ?vr0) rfl (by kernel_rfl) (by kernel_rfl) (by kernel_rfl) (fun _ _ _ h => h) (Or.inl ⟨by rfl, ?yr0⟩) hS ?_
    case yr0 =>
      intro w' hSw
      obtain ⟨h0, h1, h2, h3, h4, h5, h6, h7, h8, h9, h10, h11, h12, h13, h14, h15, h16, h17, h18, h19, h20, h21, h22, h23⟩ := hSw
      go_simp
      all_goals (with_reducible rfl)
    simp only [Act.put, List.setIfInBounds_toArray, List.set_cons_zero, List.set_cons_succ]
    refine takeF (i := 1) (v := ?vr1) rfl (by kernel_rfl) (by kernel_rfl) (by kernel_rfl) (fun _ _ _ h => h) (Or.inl ⟨by rfl, ?yr1⟩) hS ?_
    case yr1 =>
      intro w' hSw
      obtain ⟨h0, h1, h2, h3, h4, h5, h6, h7, h8, h9, h10, h11, h12, h13, h14, h15, h16, h17, h18, h19, h20, h21, h22, h23⟩ := hSw
      go_simp
      all_goals (with_reducible rfl)
    simp only [Act.put, List.setIfInBounds_toArray, List.set_cons_zero, List.set_cons_succ]
    refine takeF (i := 2) (v := ?vr2) rfl (by kernel_rfl) (by kernel_rfl) (by kernel_rfl) (fun _ _ _ h => h) (Or.inl ⟨by rfl, ?yr2⟩) hS ?_
    case yr2 =>
      intro w' hSw
      obtain ⟨h0, h1, h2, h3, h4, h5, h6, h7, h8, h9, h10, h11, h12, h13, h14, h15, h16, h17, h18, h19, h20, h21, h22, h23⟩ := hSw
      go_simp
      all_goals (with_reducible rfl)
    simp only [Act.put, List.setIfInBounds_toArray, List.set_cons_zero, List.set_cons_succ]
    refine takeF (i := 4) (v := ?vr4) rfl (by kernel_rfl) (by kernel_rfl) (by kernel_rfl) (fun _ _ _ h => h) (Or.inl ⟨by rfl, ?yr4⟩) hS ?_
    case yr4 =>
      intro w' hSw
      obtain ⟨h0, h1, h2, h3, h4, h5, h6, h7, h8, h9, h10, h11, h12, h13, h14, h15, h16, h17, h18, h19, h20, h21, h22, h23⟩ := hSw
      go_simp
      all_goals (with_reducible rfl)
    simp only [Act.put, List.setIfInBounds_toArray, List.set_cons_zero, List.set_cons_succ]
    refine takeF (i := 5) (v := ?vr5) rfl (by kernel_rfl) (by kernel_rfl) (by kernel_rfl) (fun _ _ _ h => h) (Or.inl ⟨by rfl, ?yr5⟩) hS ?_
    case yr5 =>
      intro w' hSw
      obtain ⟨h0, h1, h2, h3, h4, h5, h6, h7, h8, h9, h10, h11, h12, h13, h14, h15, h16, h17, h18, h19, h20, h21, h22, h23⟩ := hSw
      go_simp
      all_goals (with_reducible rfl)
    simp only [Act.put, List.setIfInBounds_toArray, List.set_cons_zero, List.set_cons_succ]
    refine takeF (i := 6) (v := ?vr6) rfl (by kernel_rfl) (by kernel_rfl) (by kernel_rfl) (fun _ _ _ h => h) (Or.inl ⟨by rfl, ?yr6⟩) hS ?_
    case yr6 =>
      intro w' hSw
      obtain ⟨h0, h1, h2, h3, h4, h5, h6, h7, h8, h9, h10, h11, h12, h13, h14, h15, h16, h17, h18, h19, h20, h21, h22, h23⟩ := hSw
      go_simp
      all_goals (with_reducible rfl)
    simp only [Act.put, List.setIfInBounds_toArray, List.set_cons_zero, List.set_cons_succ]
    refine fracs_go (n := 2) V (at2 3 7) (at2 8 9) (at2 10 11) (at2 104 108) (at2 9 10) (at2 0 1) (at2 2 3) [104, 108, 9, 10]
      (fun c m s => #[true, true, true, c 0, true, true, true, c 1, m 0, m 1, s 0, s 1]) (fun x p => [x 0, x 1, p 0, p 1]) (fun _ => 40) (at2 #[spV sC, spV sD, spV sA] #[spV sC, spV sD, spV sB]) (at2 ((arI c.x c.y d.x d.y a.x a.y : Int), (1 : Nat)) ((arI c.x c.y d.x d.y b.x b.y : Int), (1 : Nat)))
      (by kernel_rfl) (by decide) (fun s hs => Nat.lt_of_lt_of_eq ((by decide : ∀ s ∈ [104, 108, 9, 10], s < 185) s hs) rfl) (fun _ _ => rfl) (fun _ _ _ => rfl)
      ?oc ?oa ?os ?ks ?v ?vs ?vx ?Lg ?Ls ?all ?ws ?call ?S rfl (by decide) ((Below.refl _ _).drew) (fun _ => undef) (fun _ => undef) rfl ?final
    case oc =>
      intro j hj
      obtain rfl | rfl : j = 0 ∨ j = 1 := by omega
      all_goals exact ⟨_, rfl, rfl, rfl, fun vs V => exec_call3 rfl rfl (by go_simp) ((putAll_off _ _ _ _ (by decide)).trans rfl) ((putAll_off _ _ _ _ (by decide)).trans rfl) ((putAll_off _ _ _ _ (by decide)).trans rfl)⟩
    case oa =>
      intro j hj
      obtain rfl | rfl : j = 0 ∨ j = 1 := by omega
      all_goals exact ⟨_, rfl, rfl, rfl, rfl⟩
    case os =>
      intro j hj
      obtain rfl | rfl : j = 0 ∨ j = 1 := by omega
      all_goals exact ⟨_, rfl, rfl, rfl, rfl⟩
    case ks =>
      intro j hj
      obtain rfl | rfl : j = 0 ∨ j = 1 := by omega
      all_goals exact ⟨rfl, rfl⟩
    case v =>
      intro x p j hj
      obtain rfl | rfl : j = 0 ∨ j = 1 := by omega
      all_goals exact ⟨rfl, rfl⟩
    case vs =>
      intro x p j u hj
      obtain rfl | rfl : j = 0 ∨ j = 1 := by omega
      all_goals exact ⟨rfl, rfl⟩
    case vx =>
      intro x x' p p' h
      show [x 0, x 1, p 0, p 1] = _
      rw [(h 0 (by decide)).1, (h 0 (by decide)).2, (h 1 (by decide)).1, (h 1 (by decide)).2]
    case Lg =>
      intro c m s j hj
      obtain rfl | rfl : j = 0 ∨ j = 1 := by omega
      all_goals exact ⟨rfl, rfl, rfl⟩
    case Ls =>
      intro c m s j hj
      obtain rfl | rfl : j = 0 ∨ j = 1 := by omega
      all_goals exact ⟨rfl, rfl, rfl⟩
    case all =>
      intro c m s i hi h
      have hi' : i < 12 := hi
      clear hi
      obtain rfl | rfl | rfl | rfl | rfl | rfl | rfl | rfl | rfl | rfl | rfl | rfl : i = 0 ∨ i = 1 ∨ i = 2 ∨ i = 3 ∨ i = 4 ∨ i = 5 ∨ i = 6 ∨ i = 7 ∨ i = 8 ∨ i = 9 ∨ i = 10 ∨ i = 11 := by omega
      · cases (show true = false from h)
      · cases (show true = false from h)
      · cases (show true = false from h)
      · exact ⟨0, by decide, .inl rfl⟩
      · cases (show true = false from h)
      · cases (show true = false from h)
      · cases (show true = false from h)
      · exact ⟨1, by decide, .inl rfl⟩
      · exact ⟨0, by decide, .inr (.inl rfl)⟩
      · exact ⟨1, by decide, .inr (.inl rfl)⟩
      · exact ⟨0, by decide, .inr (.inr rfl)⟩
      · exact ⟨1, by decide, .inr (.inr rfl)⟩
    case ws =>
      intro j hj
      obtain rfl | rfl : j = 0 ∨ j = 1 := by omega
      all_goals exact ⟨by kernel_rfl, by kernel_rfl⟩
    case call =>
      intro j hj W3 hW3
      obtain rfl | rfl : j = 0 ∨ j = 1 := by omega
      · exact ref5_AreaW hf.2.1 hf.2.2 hf.1.1 HC.out.1.1 HC.out.1.2 HD.out.1.1 HD.out.1.2 HA.out.1.1 HA.out.1.2 W3 (HC.out.2.1.on hW3) (HD.out.2.1.on hW3) (HA.out.2.1.on hW3)
      · exact ref5_AreaW hf.2.1 hf.2.2 hf.1.2 HC.out.1.1 HC.out.1.2 HD.out.1.1 HD.out.1.2 HB.out.1.1 HB.out.1.2 W3 (HC.out.2.1.on hW3) (HD.out.2.1.on hW3) (HB.out.2.1.on hW3)
    case S =>
      intro w' hb
      have fA := (Blk.facts6 (HA.out.2.2.on hb)).1
      have fB := (Blk.facts6 (HB.out.2.2.on hb)).1
      have fC := (Blk.facts6 (HC.out.2.2.on hb)).1
      have fD := (Blk.facts6 (HD.out.2.2.on hb)).1
      exact ⟨fA.1, fA.2.1, fA.2.2.1, fA.2.2.2.1, fA.2.2.2.2.1, fA.2.2.2.2.2, fB.1, fB.2.1, fB.2.2.1, fB.2.2.2.1, fB.2.2.2.2.1, fB.2.2.2.2.2, fC.1, fC.2.1, fC.2.2.1, fC.2.2.2.1, fC.2.2.2.2.1, fC.2.2.2.2.2, fD.1, fD.2.1, fD.2.2.1, fD.2.2.2.1, fD.2.2.2.2.1, fD.2.2.2.2.2⟩
    case final =>
      intro y h V3 hV3 hk hd
      obtain ⟨⟨iP, oP⟩, lP, uP, kP⟩ := hk 0 (by decide)
      obtain ⟨⟨iQ, oQ⟩, lQ, uQ, kQ⟩ := hk 1 (by decide)
      replace iP : (y 0).Is (arI c.x c.y d.x d.y a.x a.y) 1 8 := iP
      replace iQ : (y 1).Is (arI c.x c.y d.x d.y b.x b.y) 1 8 := iQ
      clear hk hd hS
      simp only [putAll, Act.put, List.setIfInBounds_toArray, List.set_cons_zero, List.set_cons_succ]
      generalize y 0 = sP at *
      generalize y 1 = sQ at *
      generalize h 0 = gP at *
      generalize h 1 = gQ at *
      clear ax0 ax1 ax2 ax3 ax4 ax5 bx0 bx1 bx2 bx3 bx4 bx5 cx0 cx1 cx2 cx3 cx4 cx5 dx0 dx1 dx2 dx3 dx4 dx5
      replace HA := Lib.hid (And.intro HA.out.1 (And.intro (HA.out.2.1.on hV3) (HA.out.2.2.on hV3)))
      replace HB := Lib.hid (And.intro HB.out.1 (And.intro (HB.out.2.1.on hV3) (HB.out.2.2.on hV3)))
      replace HC := Lib.hid (And.intro HC.out.1 (And.intro (HC.out.2.1.on hV3) (HC.out.2.2.on hV3)))
      replace HD := Lib.hid (And.intro HD.out.1 (And.intro (HD.out.2.1.on hV3) (HD.out.2.2.on hV3)))
      replace HV := Lib.hid (HV.out.trans (hV3.mono HV.out.size))
      have bP := arI_in (fit_InG hf.2.1).1 (fit_InG hf.2.1).2 (fit_InG hf.2.2).1 (fit_InG hf.2.2).2 (fit_InG hf.1.1).1 (fit_InG hf.1.1).2
      have bQ := arI_in (fit_InG hf.2.1).1 (fit_InG hf.2.1).2 (fit_InG hf.2.2).1 (fit_InG hf.2.2).2 (fit_InG hf.1.2).1 (fit_InG hf.1.2).2
      have hpar := par_iff a b c d
      have hcq := fun hr {F} {N} => cross_qs a b c d hr (F := F) (N := N)
      obtain ⟨P, hP⟩ : ∃ P, arI c.x c.y d.x d.y a.x a.y = P := ⟨_, rfl⟩
      obtain ⟨Q, hQ⟩ : ∃ Q, arI c.x c.y d.x d.y b.x b.y = Q := ⟨_, rfl⟩
      rw [hP] at iP bP
      rw [hQ] at iQ bQ
      rw [hP, hQ] at hpar hcq
      clear hP hQ hV3 lP lQ uP uQ uA uB uC uD sW hW CA CB
      obtain ⟨z, hz⟩ : ∃ z, sgn (P - Q) = z := ⟨_, rfl⟩
      have cc := fun (X : World) (hX : Below V3.heap.size V3 X) => ref4_CmpW iP iQ hz X (oP.on hX) (oQ.on hX)
      unfold fcV at cc
      have CC := Lib.hid cc
      obtain ⟨p0, p1, p2, -⟩ := Blk.facts kP
      obtain ⟨q0, q1, q2, -⟩ := Blk.facts kQ
      have HP := Lib.hid (And.intro iP (And.intro oP kP))
      have HQ := Lib.hid (And.intro iQ (And.intro oQ kQ))
      have HB2 := Lib.hid (And.intro bP bQ)
      have HX := Lib.hid (And.intro hpar (@hcq))
      clear cc iP iQ oP oQ kP kQ bP bQ hpar hcq
      by_cases hpq : P - Q = 0
      · have HZ := Lib.hid hpq
        rw [hpq] at hz
        obtain rfl : (0 : Int) = z := hz
        clear hpq
        have hmath := HX.out.1.1 HZ.out
        obtain ⟨o1, ho1⟩ : ∃ o : Bool, o = true ↔ OnQ (qAt c) (qAt d) (qAt a) := some_bool _
        obtain ⟨o2, ho2⟩ : ∃ o : Bool, o = true ↔ OnQ (qAt c) (qAt d) (qAt b) := some_bool _
        obtain ⟨o3, ho3⟩ : ∃ o : Bool, o = true ↔ OnQ (qAt a) (qAt b) (qAt c) := some_bool _
        obtain ⟨o4, ho4⟩ : ∃ o : Bool, o = true ↔ OnQ (qAt a) (qAt b) (qAt d) := some_bool _
        have co1 := fun (Y : World) (hY : Below V3.heap.size V3 Y) => ref5_OnW (M := 8) (by omega) sC sD sA HC.out.1.1 HD.out.1.1 HA.out.1.1 o1 (by rw [HC.out.1.2, HD.out.1.2, HA.out.1.2]; exact ho1) Y (HC.out.2.1.on hY) (HD.out.2.1.on hY) (HA.out.2.1.on hY)
        have co2 := fun (Y : World) (hY : Below V3.heap.size V3 Y) => ref5_OnW (M := 8) (by omega) sC sD sB HC.out.1.1 HD.out.1.1 HB.out.1.1 o2 (by rw [HC.out.1.2, HD.out.1.2, HB.out.1.2]; exact ho2) Y (HC.out.2.1.on hY) (HD.out.2.1.on hY) (HB.out.2.1.on hY)
        have co3 := fun (Y : World) (hY : Below V3.heap.size V3 Y) => ref5_OnW (M := 8) (by omega) sA sB sC HA.out.1.1 HB.out.1.1 HC.out.1.1 o3 (by rw [HA.out.1.2, HB.out.1.2, HC.out.1.2]; exact ho3) Y (HA.out.2.1.on hY) (HB.out.2.1.on hY) (HC.out.2.1.on hY)
        have co4 := fun (Y : World) (hY : Below V3.heap.size V3 Y) => ref5_OnW (M := 8) (by omega) sA sB sD HA.out.1.1 HB.out.1.1 HD.out.1.1 o4 (by rw [HA.out.1.2, HB.out.1.2, HD.out.1.2]; exact ho4) Y (HA.out.2.1.on hY) (HB.out.2.1.on hY) (HD.out.2.1.on hY)
        unfold spV at co1 co2 co3 co4
        have HM := Lib.hid (show ∀ R2 : List Qp, R2.Pairwise ltQ → (∀ q, q ∈ R2 ↔ q ∈ ((pk o1 (qAt a) ++ pk o2 (qAt b)) ++ pk o3 (qAt c)) ++ pk o4 (qAt d)) → MeetR a b c d R2 ∧ R2.length ≤ 2 from fun R2 hs hm => by
          have hnp : ¬ (PartsQ (qAt a) (qAt b) (qAt c) (qAt d) ∧ PartsQ (qAt c) (qAt d) (qAt a) (qAt b)) := by
            rintro ⟨-, k⟩
            unfold PartsQ at k
            rw [hmath] at k
            grind
          have hall : ∀ p, p ∈ R2 ↔ EndQ (qAt a) (qAt b) (qAt c) (qAt d) p ∧ Both (qAt a) (qAt b) (qAt c) (qAt d) p := fun p => by
            rw [hm p, List.mem_append, List.mem_append, List.mem_append, mem_pk, mem_pk, mem_pk, mem_pk, ho1, ho2, ho3, ho4]
            unfold EndQ Both
            constructor
            · rintro (((⟨h, rfl⟩ | ⟨h, rfl⟩) | ⟨h, rfl⟩) | ⟨h, rfl⟩)
              · exact ⟨.inl rfl, onQ_first _ _, h⟩
              · exact ⟨.inr (.inl rfl), onQ_second _ _, h⟩
              · exact ⟨.inr (.inr (.inl rfl)), h, onQ_first _ _⟩
              · exact ⟨.inr (.inr (.inr rfl)), h, onQ_second _ _⟩
            · rintro ⟨rfl | rfl | rfl | rfl, h1, h2⟩
              · exact .inl (.inl (.inl ⟨h2, rfl⟩))
              · exact .inl (.inl (.inr ⟨h2, rfl⟩))
              · exact .inl (.inr ⟨h1, rfl⟩)
              · exact .inr ⟨h1, rfl⟩
          have hme := meet_shared hnp hall hs
          exact ⟨⟨fun _ => hme, fun n => absurd hf n⟩, hme.le⟩)
        have CO1 := Lib.hid co1
        have CO2 := Lib.hid co2
        have CO3 := Lib.hid co3
        have CO4 := Lib.hid co4
        clear co1 co2 co3 co4 ho1 ho2 ho3 ho4 hmath HX HB2
        go_upto_if 140 with first
          | (go_at_call 41; (with_reducible refine Calls.mono (CC.out _ (Below.refl _ _)) ?_); rintro e w7 ⟨rfl, b7⟩
             have B7 := b7
             obtain ⟨cx0, cx1, cx2, cx3, cx4, cx5⟩ := (Blk.facts6 (HC.out.2.2.on B7)).1
             obtain ⟨dx0, dx1, dx2, dx3, dx4, dx5⟩ := (Blk.facts6 (HD.out.2.2.on B7)).1
             obtain ⟨ax0, ax1, ax2, ax3, ax4, ax5⟩ := (Blk.facts6 (HA.out.2.2.on B7)).1
             have H0 := Lib.hid (GatS.nil B7)
             replace b7 := Lib.hid b7)
          | (go_at_call 45; (with_reducible refine Calls.mono (CO1.out _ B7) ?_); rintro e w8 ⟨rfl, b8⟩
             have B8 := B7.trans (b8.mono B7.size)
             have H0 := Lib.hid (H0.out.on b8))
        clear cx0 cx1 cx2 cx3 cx4 cx5 dx0 dx1 dx2 dx3 dx4 dx5 ax0 ax1 ax2 ax3 ax4 ax5
        go_cut [14] from 137 (fun v14 wc => GatS V3 (pk o1 (qAt a)) v14 wc)
        case first =>
          obtain ⟨xs, ho, hr, hl, hb⟩ := H0.out
          cases o1 with
          | false =>
            go_wp2_with fail
            go_meet
            first
              | exact H0.out
              | (rw [pk_false, List.append_nil]; exact H0.out)
          | true =>
            have hn : xs.length ≤ 1073741824 := by omega
            obtain ⟨ax0, ax1, ax2, ax3, ax4, ax5⟩ := (Blk.facts6 (HA.out.2.2.on hb)).1
            have HO := Lib.hid ho
            have HRX := Lib.hid (And.intro hr (And.intro hl hb))
            clear ho hr hl hb
            go_wp2_with (at_builtin; refine wpList_append_sp _ rfl _ _ rfl V3.heap.size _ xs.length (flat xs) rfl (HO.out.kept (below_new w8 _)) ⟨w8.heap.size, 0, none⟩ sA.cells rfl rfl (one_spot w8 sA) (cells_one sA) (cells_noint sA) hn (by have := HRX.out.2.2.size; simp; omega) ?_
                         intro vn wn hownn hgrown
                         have hownn := Lib.hid hownn
                         have hgrown := Lib.hid hgrown
                         clear ax0 ax1 ax2 ax3 ax4 ax5)
            go_meet
            refine GatS.more (HO.out.kept (below_new w8 _)) (HRX.out.1.on (below_new w8 _)) ?_ (HRX.out.2.2.trans ((below_new w8 _).mono HRX.out.2.2.size)) HA.out.1.1 ((HA.out.2.1.on HRX.out.2.2).on (below_new w8 _)) hownn.out hgrown.out HA.out.1.2
            simp
        case rest =>
          obtain ⟨W0, hWk⟩ : ∃ x, x = wc := ⟨_, rfl⟩
          subst hWk
          have G0 := Lib.hid hcut
          have BG0 := hcut.choose_spec.2.2.2
          clear hcut
          obtain ⟨cx0, cx1, cx2, cx3, cx4, cx5⟩ := (Blk.facts6 (HC.out.2.2.on BG0)).1
          obtain ⟨dx0, dx1, dx2, dx3, dx4, dx5⟩ := (Blk.facts6 (HD.out.2.2.on BG0)).1
          obtain ⟨bx0, bx1, bx2, bx3, bx4, bx5⟩ := (Blk.facts6 (HB.out.2.2.on BG0)).1
          go_upto_if 148 with (go_at_call 45; (with_reducible refine Calls.mono (CO2.out _ BG0) ?_); rintro e w9 ⟨rfl, b9⟩; have H1 := Lib.hid (G0.out.on b9))
          clear cx0 cx1 cx2 cx3 cx4 cx5 dx0 dx1 dx2 dx3 dx4 dx5 bx0 bx1 bx2 bx3 bx4 bx5
          go_cut [14] from 145 (fun v14 wc => GatS V3 ((pk o1 (qAt a)) ++ pk o2 (qAt b)) v14 wc)
          case first =>
            obtain ⟨xs, ho, hr, hl, hb⟩ := H1.out
            cases o2 with
            | false =>
              go_wp2_with fail
              go_meet
              first
                | exact H1.out
                | (rw [pk_false, List.append_nil]; exact H1.out)
            | true =>
              have hn : xs.length ≤ 1073741824 := by omega
              obtain ⟨bx0, bx1, bx2, bx3, bx4, bx5⟩ := (Blk.facts6 (HB.out.2.2.on hb)).1
              have HO := Lib.hid ho
              have HRX := Lib.hid (And.intro hr (And.intro hl hb))
              clear ho hr hl hb
              go_wp2_with (at_builtin; refine wpList_append_sp _ rfl _ _ rfl V3.heap.size _ xs.length (flat xs) rfl (HO.out.kept (below_new w9 _)) ⟨w9.heap.size, 0, none⟩ sB.cells rfl rfl (one_spot w9 sB) (cells_one sB) (cells_noint sB) hn (by have := HRX.out.2.2.size; simp; omega) ?_
                           intro vn wn hownn hgrown
                           have hownn := Lib.hid hownn
                           have hgrown := Lib.hid hgrown
                           clear bx0 bx1 bx2 bx3 bx4 bx5)
              go_meet
              refine GatS.more (HO.out.kept (below_new w9 _)) (HRX.out.1.on (below_new w9 _)) ?_ (HRX.out.2.2.trans ((below_new w9 _).mono HRX.out.2.2.size)) HB.out.1.1 ((HB.out.2.1.on HRX.out.2.2).on (below_new w9 _)) hownn.out hgrown.out HB.out.1.2
              unfold pk; cases o1 <;> simp
          case rest =>
            obtain ⟨W1, hWk⟩ : ∃ x, x = wc := ⟨_, rfl⟩
            subst hWk
            have G1 := Lib.hid hcut
            have BG1 := hcut.choose_spec.2.2.2
            clear hcut
            obtain ⟨ax0, ax1, ax2, ax3, ax4, ax5⟩ := (Blk.facts6 (HA.out.2.2.on BG1)).1
            obtain ⟨bx0, bx1, bx2, bx3, bx4, bx5⟩ := (Blk.facts6 (HB.out.2.2.on BG1)).1
            obtain ⟨cx0, cx1, cx2, cx3, cx4, cx5⟩ := (Blk.facts6 (HC.out.2.2.on BG1)).1
            go_upto_if 156 with (go_at_call 45; (with_reducible refine Calls.mono (CO3.out _ BG1) ?_); rintro e w10 ⟨rfl, b10⟩; have H2 := Lib.hid (G1.out.on b10))
            clear ax0 ax1 ax2 ax3 ax4 ax5 bx0 bx1 bx2 bx3 bx4 bx5 cx0 cx1 cx2 cx3 cx4 cx5
            go_cut [14] from 153 (fun v14 wc => GatS V3 (((pk o1 (qAt a)) ++ pk o2 (qAt b)) ++ pk o3 (qAt c)) v14 wc)
            case first =>
              obtain ⟨xs, ho, hr, hl, hb⟩ := H2.out
              cases o3 with
              | false =>
                go_wp2_with fail
                go_meet
                first
                  | exact H2.out
                  | (rw [pk_false, List.append_nil]; exact H2.out)
              | true =>
                have hn : xs.length ≤ 1073741824 := by omega
                obtain ⟨cx0, cx1, cx2, cx3, cx4, cx5⟩ := (Blk.facts6 (HC.out.2.2.on hb)).1
                have HO := Lib.hid ho
                have HRX := Lib.hid (And.intro hr (And.intro hl hb))
                clear ho hr hl hb
                go_wp2_with (at_builtin; refine wpList_append_sp _ rfl _ _ rfl V3.heap.size _ xs.length (flat xs) rfl (HO.out.kept (below_new w10 _)) ⟨w10.heap.size, 0, none⟩ sC.cells rfl rfl (one_spot w10 sC) (cells_one sC) (cells_noint sC) hn (by have := HRX.out.2.2.size; simp; omega) ?_
                             intro vn wn hownn hgrown
                             have hownn := Lib.hid hownn
                             have hgrown := Lib.hid hgrown
                             clear cx0 cx1 cx2 cx3 cx4 cx5)
                go_meet
                refine GatS.more (HO.out.kept (below_new w10 _)) (HRX.out.1.on (below_new w10 _)) ?_ (HRX.out.2.2.trans ((below_new w10 _).mono HRX.out.2.2.size)) HC.out.1.1 ((HC.out.2.1.on HRX.out.2.2).on (below_new w10 _)) hownn.out hgrown.out HC.out.1.2
                unfold pk; cases o1 <;> cases o2 <;> simp
            case rest =>
              obtain ⟨W2, hWk⟩ : ∃ x, x = wc := ⟨_, rfl⟩
              subst hWk
              have G2 := Lib.hid hcut
              have BG2 := hcut.choose_spec.2.2.2
              clear hcut
              obtain ⟨ax0, ax1, ax2, ax3, ax4, ax5⟩ := (Blk.facts6 (HA.out.2.2.on BG2)).1
              obtain ⟨bx0, bx1, bx2, bx3, bx4, bx5⟩ := (Blk.facts6 (HB.out.2.2.on BG2)).1
              obtain ⟨dx0, dx1, dx2, dx3, dx4, dx5⟩ := (Blk.facts6 (HD.out.2.2.on BG2)).1
              go_upto_if 164 with (go_at_call 45; (with_reducible refine Calls.mono (CO4.out _ BG2) ?_); rintro e w11 ⟨rfl, b11⟩; have H3 := Lib.hid (G2.out.on b11))
              clear ax0 ax1 ax2 ax3 ax4 ax5 bx0 bx1 bx2 bx3 bx4 bx5 dx0 dx1 dx2 dx3 dx4 dx5
              go_cut [14] from 161 (fun v14 wc => GatS V3 ((((pk o1 (qAt a)) ++ pk o2 (qAt b)) ++ pk o3 (qAt c)) ++ pk o4 (qAt d)) v14 wc)
              case first =>
                obtain ⟨xs, ho, hr, hl, hb⟩ := H3.out
                cases o4 with
                | false =>
                  go_wp2_with fail
                  go_meet
                  first
                    | exact H3.out
                    | (rw [pk_false, List.append_nil]; exact H3.out)
                | true =>
                  have hn : xs.length ≤ 1073741824 := by omega
                  obtain ⟨dx0, dx1, dx2, dx3, dx4, dx5⟩ := (Blk.facts6 (HD.out.2.2.on hb)).1
                  have HO := Lib.hid ho
                  have HRX := Lib.hid (And.intro hr (And.intro hl hb))
                  clear ho hr hl hb
                  go_wp2_with (at_builtin; refine wpList_append_sp _ rfl _ _ rfl V3.heap.size _ xs.length (flat xs) rfl (HO.out.kept (below_new w11 _)) ⟨w11.heap.size, 0, none⟩ sD.cells rfl rfl (one_spot w11 sD) (cells_one sD) (cells_noint sD) hn (by have := HRX.out.2.2.size; simp; omega) ?_
                               intro vn wn hownn hgrown
                               have hownn := Lib.hid hownn
                               have hgrown := Lib.hid hgrown
                               clear dx0 dx1 dx2 dx3 dx4 dx5)
                  go_meet
                  refine GatS.more (HO.out.kept (below_new w11 _)) (HRX.out.1.on (below_new w11 _)) ?_ (HRX.out.2.2.trans ((below_new w11 _).mono HRX.out.2.2.size)) HD.out.1.1 ((HD.out.2.1.on HRX.out.2.2).on (below_new w11 _)) hownn.out hgrown.out HD.out.1.2
                  unfold pk; cases o1 <;> cases o2 <;> cases o3 <;> simp
              case rest =>
                obtain ⟨W3, hWk⟩ : ∃ x, x = wc := ⟨_, rfl⟩
                subst hWk
                have G3 := Lib.hid hcut
                have BG3 := hcut.choose_spec.2.2.2
                clear hcut
                obtain ⟨xs, ho, hr, hl, hb⟩ := G3.out
                obtain ⟨p14, cap14, rfl, hc14⟩ := ho.any
                have crow := ref5_RowW xs p14 cap14 W3 (by omega) hc14 ho.reads (fun s hs => ⟨(hr.2 s hs).1.wide (by omega), (hr.2 s hs).2⟩)
                have CR := Lib.hid crow
                have HRM := Lib.hid hr.1
                clear crow ho hr hl hc14
                go_upto_if 173 with (go_at_call 46; (with_reducible refine Calls.mono CR.out ?_); rintro e w14 ⟨p2, cap2, ys, R2, rfl, hc2, hr2, hw2, hs2, hb2⟩; have hfin := HM.out R2 hs2.1 (fun q => by rw [hs2.2 q, HRM.out]); have hlen : ¬ (2 : Int) < ys.length := (by have := hfin.2; have := hw2.length; omega); have HF := Lib.hid (And.intro hr2 (And.intro hw2 (And.intro hfin.1 (And.intro hc2 hb2)))); clear hr2 hw2 hfin hs2 hc2 hb2)
                go_wp2_with fail
                go_ret
                exact ⟨p2, cap2, ys, R2, rfl, HF.out.2.2.2.1, HF.out.1, HF.out.2.1, HF.out.2.2.1, HV.out.trans ((hb.trans (HF.out.2.2.2.2.mono hb.size)).mono HV.out.size)⟩
      · have hz0 : ¬ z = 0 := fun h => hpq (sgn_zero.1 (hz.trans h))
        have hz1 : (z == 0) = false := by rw [beq_eq_false_iff_ne]; exact hz0
        have hz2 : (z != 0) = true := by rw [bne_iff_ne]; exact hz0
        have HNZ := Lib.hid hpq
        clear hpq hz
        go_wp2_with (go_at_call 41; (with_reducible refine Calls.mono (CC.out _ (Below.refl _ _)) ?_); rintro e w7 ⟨rfl, b7⟩)
        clear CC hz0 hz1 hz2 p0 p1 p2 q0 q1 q2
        have e4 : (340282366920938463463374607431768211456 : Nat) = 4294967296 ^ 4 := by decide
        obtain ⟨p0, p1, p2, -⟩ := Blk.facts (HP.out.2.2.on b7)
        obtain ⟨q0, q1, q2, -⟩ := Blk.facts (HQ.out.2.2.on b7)
        refine wp_region_held_drew (S := fun w' => w'.cell? ⟨gP, 0, none⟩ = some (.bool sP.n) ∧ w'.cell? ⟨gP, 1, none⟩ = some (.slice sP.A sP.a.length sP.c) ∧ w'.cell? ⟨gP, 2, none⟩ = some (.slice sP.D sP.d.length sP.e) ∧ w'.cell? ⟨gQ, 0, none⟩ = some (.bool sQ.n) ∧ w'.cell? ⟨gQ, 1, none⟩ = some (.slice sQ.A sQ.a.length sQ.c) ∧ w'.cell? ⟨gQ, 2, none⟩ = some (.slice sQ.D sQ.d.length sQ.e)) (by kernel_rfl) ⟨p0, p1, p2, q0, q1, q2⟩ (fun hS => ?_)
        refine takeF (i := 0) (v := ?vs0) rfl (by kernel_rfl) (by kernel_rfl) (by kernel_rfl) (fun _ _ _ h => h) (Or.inl ⟨by rfl, ?ys0⟩) hS ?_
        case ys0 =>
          intro w' hSw
          obtain ⟨h0, h1, h2, h3, h4, h5⟩ := hSw
          go_simp
          all_goals (with_reducible rfl)
        simp only [Act.put, List.setIfInBounds_toArray, List.set_cons_zero, List.set_cons_succ]
        refine takeF (i := 1) (v := ?vs1) rfl (by kernel_rfl) (by kernel_rfl) (by kernel_rfl) (fun _ _ _ h => h) (Or.inl ⟨by rfl, ?ys1⟩) hS ?_
        case ys1 =>
          intro w' hSw
          obtain ⟨h0, h1, h2, h3, h4, h5⟩ := hSw
          go_simp
          all_goals (with_reducible rfl)
        simp only [Act.put, List.setIfInBounds_toArray, List.set_cons_zero, List.set_cons_succ]
        refine takeF (i := 2) (v := ?vs2) rfl (by kernel_rfl) (by kernel_rfl) (by kernel_rfl) (fun _ _ _ h => h) (Or.inl ⟨by rfl, ?ys2⟩) hS ?_
        case ys2 =>
          intro w' hSw
          obtain ⟨h0, h1, h2, h3, h4, h5⟩ := hSw
          go_simp
          all_goals (with_reducible rfl)
        simp only [Act.put, List.setIfInBounds_toArray, List.set_cons_zero, List.set_cons_succ]
        refine chain_go w7 (fun s => s.Is (P - Q) 1 8) (fun u => u.Is (acrossN P (P - Q)) (P - Q).natAbs 8) 117 118 113 119 120 11 12 43 42 #[fcV sP, fcV sQ] (fun s => #[fcV sP, fcV s])
          (by kernel_rfl) rfl (by decide) (fun s hs => Nat.lt_of_lt_of_eq ((by decide : ∀ s ∈ [117, 118, 113, 119, 120, 11, 12], s < 185) s hs) rfl)
          ⟨_, rfl, rfl, rfl, fun vs V => exec_call2 rfl rfl (by go_simp) ((putAll_off _ _ _ _ (by decide)).trans rfl) ((putAll_off _ _ _ _ (by decide)).trans rfl)⟩
          ⟨_, rfl, rfl, rfl, fun s vs V hx => exec_call2 rfl rfl (by go_simp) ((putAll_off _ _ _ _ (by decide)).trans rfl) hx⟩
          ⟨_, rfl, rfl, rfl, rfl⟩ ⟨_, rfl, rfl, rfl, rfl⟩ ⟨_, rfl, rfl, rfl, rfl⟩ ⟨_, rfl, rfl, rfl, rfl⟩ ⟨_, rfl, rfl, rfl, rfl⟩ ⟨_, rfl, rfl, rfl, rfl⟩
          (by kernel_rfl) ?c1 ?c2 ?cS rfl (by decide) ((Below.refl _ _).drew) undef undef undef undef undef undef undef rfl ?final8
        case c1 =>
          intro X hX
          have hb := HB2.out
          exact ref4_SubW (by omega) HP.out.1 HQ.out.1 X ((HP.out.2.1.on b7).on hX) ((HQ.out.2.1.on b7).on hX)
        case c2 =>
          intro s X hX hT hs
          have hb := HB2.out
          exact ref4_DivW HNZ.out (by unfold acrossN; split <;> omega) (by omega) HP.out.1 hT X ((HP.out.2.1.on b7).on hX) hs
        case cS =>
          intro w' hb
          obtain ⟨k0, k1, k2, -⟩ := Blk.facts ((HP.out.2.2.on b7).on hb)
          obtain ⟨l0, l1, l2, -⟩ := Blk.facts ((HQ.out.2.2.on b7).on hb)
          exact ⟨k0, k1, k2, l0, l1, l2⟩
        case final8 =>
          intro s u gF V5 hV5 hU hok hge hlt kF
          simp only [putAll, Act.put, List.setIfInBounds_toArray, List.set_cons_zero, List.set_cons_succ]
          have B5 : Below V3.heap.size V3 V5 := b7.trans (hV5.mono b7.size)
          clear hS p0 p1 p2 q0 q1 q2 hge
          have KA := Lib.hid (And.intro HA.out.1 (And.intro (HA.out.2.1.on B5) (HA.out.2.2.on B5)))
          have KB := Lib.hid (And.intro HB.out.1 (And.intro (HB.out.2.1.on B5) (HB.out.2.2.on B5)))
          have KC := Lib.hid (And.intro HC.out.1 (And.intro (HC.out.2.1.on B5) (HC.out.2.2.on B5)))
          have KD := Lib.hid (And.intro HD.out.1 (And.intro (HD.out.2.1.on B5) (HD.out.2.2.on B5)))
          have KV := Lib.hid (HV.out.trans (B5.mono HV.out.size))
          have hb := HB2.out
          have hN0 : 0 < (P - Q).natAbs := by have := HNZ.out; omega
          have hNB : (P - Q).natAbs ≤ 2251799813685248 := by omega
          have hFB : -2251799813685248 ≤ acrossN P (P - Q) ∧ acrossN P (P - Q) ≤ 2251799813685248 := by unfold acrossN; split <;> omega
          have ct := fun (Y : World) (hY : Below V5.heap.size V5 Y) => ref5_TowardW hf.1.1 hf.1.2 KA.out.1.1 KA.out.1.2 KB.out.1.1 KB.out.1.2 hU hN0 hNB hFB Y (KA.out.2.1.on hY) (KB.out.2.1.on hY) (hok.on hY)
          rw [HX.out.2 HNZ.out rfl rfl] at ct
          have hmc := meet_cross (fun e => HNZ.out (HX.out.1.2 e))
          obtain ⟨X, hX⟩ : ∃ X, crossQ (qAt a) (qAt b) (qAt c) (qAt d) = X := ⟨_, rfl⟩
          rw [hX] at ct hmc
          unfold spV fcV at ct
          have CT := Lib.hid ct
          obtain ⟨f0, f1, f2, -⟩ := Blk.facts kF
          have HMC := Lib.hid hmc
          clear ct hmc hX HX HNZ HB2 hb hN0 hNB hFB hU hok hlt HA HB HC HD HV HP HQ hV5 b7 B5 e4
          obtain ⟨ax0, ax1, ax2, ax3, ax4, ax5⟩ := (Blk.facts6 KA.out.2.2).1
          obtain ⟨bx0, bx1, bx2, bx3, bx4, bx5⟩ := (Blk.facts6 KB.out.2.2).1
          obtain ⟨cx0, cx1, cx2, cx3, cx4, cx5⟩ := (Blk.facts6 KC.out.2.2).1
          obtain ⟨dx0, dx1, dx2, dx3, dx4, dx5⟩ := (Blk.facts6 KD.out.2.2).1
          have gen : ∀ (o1 o2 : Bool), (o1 = true ↔ OnQ (qAt a) (qAt b) X) → (o2 = true ↔ OnQ (qAt c) (qAt d) X) → (∀ (t : Sp) (Y : World), t.Red 8 → sw t = X → Below V5.heap.size V5 Y → t.Ok Y → Calls Tryz.prog 45 #[spV sA, spV sB, spV t] Y fun e w' => e = .returned (.bool o1) ∧ Below Y.heap.size Y w') ∧ (∀ (t : Sp) (Y : World), t.Red 8 → sw t = X → Below V5.heap.size V5 Y → t.Ok Y → Calls Tryz.prog 45 #[spV sC, spV sD, spV t] Y fun e w' => e = .returned (.bool o2) ∧ Below Y.heap.size Y w') := fun o1 o2 h1 h2 =>
            ⟨fun t Y rt et hY ot => ref5_OnW (M := 8) (by omega) sA sB t KA.out.1.1 KB.out.1.1 rt o1 (by rw [KA.out.1.2, KB.out.1.2, et]; exact h1) Y (KA.out.2.1.on hY) (KB.out.2.1.on hY) ot,
             fun t Y rt et hY ot => ref5_OnW (M := 8) (by omega) sC sD t KC.out.1.1 KD.out.1.1 rt o2 (by rw [KC.out.1.2, KD.out.1.2, et]; exact h2) Y (KC.out.2.1.on hY) (KD.out.2.1.on hY) ot⟩
          unfold spV at gen
          have HG := Lib.hid gen
          clear gen
          by_cases h1 : OnQ (qAt a) (qAt b) X
          · by_cases h2 : OnQ (qAt c) (qAt d) X
            · have CO := Lib.hid (HG.out true true ⟨fun _ => h1, fun _ => rfl⟩ ⟨fun _ => h2, fun _ => rfl⟩)
              have HR := Lib.hid (show MeetR a b c d [X] from ⟨fun _ => HMC.out.1 ⟨h1, h2⟩, fun n => absurd hf n⟩)
              clear HG HMC h1 h2
              go_wp2_with first
                | (go_at_call 44; (with_reducible refine Calls.mono (CT.out _ (Below.refl _ _)) ?_); rintro e w9 ⟨sX, rfl, rX, oX, eX, b9⟩
                   unfold spV
                   obtain ⟨W9, hW9⟩ : ∃ W9, w9.alloc (.cells #[.bool sX.n1, .slice sX.A1 sX.a1.length sX.c1, .slice sX.D1 sX.d1.length sX.e1, .bool sX.n2, .slice sX.A2 sX.a2.length sX.c2, .slice sX.D2 sX.d2.length sX.e2] 41) = W9 := ⟨_, rfl⟩
                   have bn : Below w9.heap.size w9 W9 := by rw [← hW9]; exact (Below.refl _ _).alloc (Nat.le_refl _) _
                   have kX : Blk W9 w9.heap.size 41 sX.cells := by rw [← hW9]; exact Blk.new w9 _ sX.cells
                   have BX : Below V5.heap.size V5 W9 := b9.trans (bn.mono b9.size)
                   have oXX : sX.Ok W9 := oX.on bn
                   clear ax0 ax1 ax2 ax3 ax4 ax5 bx0 bx1 bx2 bx3 bx4 bx5 cx0 cx1 cx2 cx3 cx4 cx5 dx0 dx1 dx2 dx3 dx4 dx5 f0 f1 f2
                   obtain ⟨ax0, ax1, ax2, ax3, ax4, ax5⟩ := (Blk.facts6 (KA.out.2.2.on BX)).1
                   obtain ⟨bx0, bx1, bx2, bx3, bx4, bx5⟩ := (Blk.facts6 (KB.out.2.2.on BX)).1
                   obtain ⟨xx0, xx1, xx2, xx3, xx4, xx5⟩ := (Blk.facts6 kX).1
                   replace bn := Lib.hid bn)
                | (rw [hW9])
                | (go_at_call 45; first
                   | ((with_reducible refine Calls.mono (CO.out.1 sX _ rX eX BX oXX) ?_); rintro e w10 ⟨rfl, b10⟩
                      clear ax0 ax1 ax2 ax3 ax4 ax5 bx0 bx1 bx2 bx3 bx4 bx5 xx0 xx1 xx2 xx3 xx4 xx5
                      obtain ⟨cx0, cx1, cx2, cx3, cx4, cx5⟩ := (Blk.facts6 ((KC.out.2.2.on BX).on b10)).1
                      obtain ⟨dx0, dx1, dx2, dx3, dx4, dx5⟩ := (Blk.facts6 ((KD.out.2.2.on BX).on b10)).1
                      obtain ⟨xx0, xx1, xx2, xx3, xx4, xx5⟩ := (Blk.facts6 (kX.on b10)).1)
                   | ((with_reducible refine Calls.mono (CO.out.2 sX _ rX eX (BX.trans (b10.mono BX.size)) (oXX.on b10)) ?_); rintro e w11 ⟨rfl, b11⟩
                      clear cx0 cx1 cx2 cx3 cx4 cx5 dx0 dx1 dx2 dx3 dx4 dx5 xx0 xx1 xx2 xx3 xx4 xx5
                      obtain ⟨xx0, xx1, xx2, xx3, xx4, xx5⟩ := (Blk.facts6 ((kX.on b10).on b11)).1))
              go_ret
              obtain ⟨n1, n2, n3⟩ := oneRow w11 sX (rX.wide (by omega)) ((oXX.on b10).on b11)
              refine ⟨_, 1, [sX], [X], rfl, Nat.le_refl _, n1, ?_, HR.out, ?_⟩
              · rw [← eX]; exact n2
              · exact (KV.out.trans (((BX.trans (b10.mono BX.size)).trans (b11.mono (BX.trans (b10.mono BX.size)).size)).mono KV.out.size)).trans (n3.mono (KV.out.trans (((BX.trans (b10.mono BX.size)).trans (b11.mono (BX.trans (b10.mono BX.size)).size)).mono KV.out.size)).size)
            · have CO := Lib.hid (HG.out true false ⟨fun _ => h1, fun _ => rfl⟩ ⟨fun h => (by cases h), fun h => absurd h h2⟩)
              have HR := Lib.hid (show MeetR a b c d [] from ⟨fun _ => HMC.out.2 (fun h => h2 h.2), fun _ => rfl⟩)
              clear HG HMC h1 h2
              go_wp2_with first
                | (go_at_call 44; (with_reducible refine Calls.mono (CT.out _ (Below.refl _ _)) ?_); rintro e w9 ⟨sX, rfl, rX, oX, eX, b9⟩
                   unfold spV
                   obtain ⟨W9, hW9⟩ : ∃ W9, w9.alloc (.cells #[.bool sX.n1, .slice sX.A1 sX.a1.length sX.c1, .slice sX.D1 sX.d1.length sX.e1, .bool sX.n2, .slice sX.A2 sX.a2.length sX.c2, .slice sX.D2 sX.d2.length sX.e2] 41) = W9 := ⟨_, rfl⟩
                   have bn : Below w9.heap.size w9 W9 := by rw [← hW9]; exact (Below.refl _ _).alloc (Nat.le_refl _) _
                   have kX : Blk W9 w9.heap.size 41 sX.cells := by rw [← hW9]; exact Blk.new w9 _ sX.cells
                   have BX : Below V5.heap.size V5 W9 := b9.trans (bn.mono b9.size)
                   have oXX : sX.Ok W9 := oX.on bn
                   clear ax0 ax1 ax2 ax3 ax4 ax5 bx0 bx1 bx2 bx3 bx4 bx5 cx0 cx1 cx2 cx3 cx4 cx5 dx0 dx1 dx2 dx3 dx4 dx5 f0 f1 f2
                   obtain ⟨ax0, ax1, ax2, ax3, ax4, ax5⟩ := (Blk.facts6 (KA.out.2.2.on BX)).1
                   obtain ⟨bx0, bx1, bx2, bx3, bx4, bx5⟩ := (Blk.facts6 (KB.out.2.2.on BX)).1
                   obtain ⟨xx0, xx1, xx2, xx3, xx4, xx5⟩ := (Blk.facts6 kX).1
                   replace bn := Lib.hid bn)
                | (rw [hW9])
                | (go_at_call 45; first
                   | ((with_reducible refine Calls.mono (CO.out.1 sX _ rX eX BX oXX) ?_); rintro e w10 ⟨rfl, b10⟩
                      clear ax0 ax1 ax2 ax3 ax4 ax5 bx0 bx1 bx2 bx3 bx4 bx5 xx0 xx1 xx2 xx3 xx4 xx5
                      obtain ⟨cx0, cx1, cx2, cx3, cx4, cx5⟩ := (Blk.facts6 ((KC.out.2.2.on BX).on b10)).1
                      obtain ⟨dx0, dx1, dx2, dx3, dx4, dx5⟩ := (Blk.facts6 ((KD.out.2.2.on BX).on b10)).1
                      obtain ⟨xx0, xx1, xx2, xx3, xx4, xx5⟩ := (Blk.facts6 (kX.on b10)).1)
                   | ((with_reducible refine Calls.mono (CO.out.2 sX _ rX eX (BX.trans (b10.mono BX.size)) (oXX.on b10)) ?_); rintro e w11 ⟨rfl, b11⟩
                      clear cx0 cx1 cx2 cx3 cx4 cx5 dx0 dx1 dx2 dx3 dx4 dx5 xx0 xx1 xx2 xx3 xx4 xx5
                      obtain ⟨xx0, xx1, xx2, xx3, xx4, xx5⟩ := (Blk.facts6 ((kX.on b10).on b11)).1))
              go_ret
              exact ⟨_, 0, [], [], rfl, Nat.le_refl _, (fun hn => by simp at hn), RowW.nil _ _, HR.out, KV.out.trans (((BX.trans (b10.mono BX.size)).trans (b11.mono (BX.trans (b10.mono BX.size)).size)).mono KV.out.size)⟩
          · obtain ⟨o2, h2⟩ := some_bool (OnQ (qAt c) (qAt d) X)
            have CO := Lib.hid (HG.out false o2 ⟨fun h => (by cases h), fun h => absurd h h1⟩ h2)
            have HR := Lib.hid (show MeetR a b c d [] from ⟨fun _ => HMC.out.2 (fun h => h1 h.1), fun _ => rfl⟩)
            clear HG HMC h1 h2
            go_wp2_with first
              | (go_at_call 44; (with_reducible refine Calls.mono (CT.out _ (Below.refl _ _)) ?_); rintro e w9 ⟨sX, rfl, rX, oX, eX, b9⟩
                 unfold spV
                 obtain ⟨W9, hW9⟩ : ∃ W9, w9.alloc (.cells #[.bool sX.n1, .slice sX.A1 sX.a1.length sX.c1, .slice sX.D1 sX.d1.length sX.e1, .bool sX.n2, .slice sX.A2 sX.a2.length sX.c2, .slice sX.D2 sX.d2.length sX.e2] 41) = W9 := ⟨_, rfl⟩
                 have bn : Below w9.heap.size w9 W9 := by rw [← hW9]; exact (Below.refl _ _).alloc (Nat.le_refl _) _
                 have kX : Blk W9 w9.heap.size 41 sX.cells := by rw [← hW9]; exact Blk.new w9 _ sX.cells
                 have BX : Below V5.heap.size V5 W9 := b9.trans (bn.mono b9.size)
                 have oXX : sX.Ok W9 := oX.on bn
                 clear ax0 ax1 ax2 ax3 ax4 ax5 bx0 bx1 bx2 bx3 bx4 bx5 cx0 cx1 cx2 cx3 cx4 cx5 dx0 dx1 dx2 dx3 dx4 dx5 f0 f1 f2
                 obtain ⟨ax0, ax1, ax2, ax3, ax4, ax5⟩ := (Blk.facts6 (KA.out.2.2.on BX)).1
                 obtain ⟨bx0, bx1, bx2, bx3, bx4, bx5⟩ := (Blk.facts6 (KB.out.2.2.on BX)).1
                 obtain ⟨xx0, xx1, xx2, xx3, xx4, xx5⟩ := (Blk.facts6 kX).1
                 replace bn := Lib.hid bn)
              | (rw [hW9])
              | (go_at_call 45; first
                 | ((with_reducible refine Calls.mono (CO.out.1 sX _ rX eX BX oXX) ?_); rintro e w10 ⟨rfl, b10⟩
                    clear ax0 ax1 ax2 ax3 ax4 ax5 bx0 bx1 bx2 bx3 bx4 bx5 xx0 xx1 xx2 xx3 xx4 xx5
                    obtain ⟨cx0, cx1, cx2, cx3, cx4, cx5⟩ := (Blk.facts6 ((KC.out.2.2.on BX).on b10)).1
                    obtain ⟨dx0, dx1, dx2, dx3, dx4, dx5⟩ := (Blk.facts6 ((KD.out.2.2.on BX).on b10)).1
                    obtain ⟨xx0, xx1, xx2, xx3, xx4, xx5⟩ := (Blk.facts6 (kX.on b10)).1)
                 | ((with_reducible refine Calls.mono (CO.out.2 sX _ rX eX (BX.trans (b10.mono BX.size)) (oXX.on b10)) ?_); rintro e w11 ⟨rfl, b11⟩
                    clear cx0 cx1 cx2 cx3 cx4 cx5 dx0 dx1 dx2 dx3 dx4 dx5 xx0 xx1 xx2 xx3 xx4 xx5
                    obtain ⟨xx0, xx1, xx2, xx3, xx4, xx5⟩ := (Blk.facts6 ((kX.on b10).on b11)).1))
            go_ret
            exact ⟨_, 0, [], [], rfl, Nat.le_refl _, (fun hn => by simp at hn), RowW.nil _ _, HR.out, KV.out.trans ((BX.trans (b10.mono BX.size)).mono KV.out.size)⟩

end Go.Proofs.YtdmoibphidipeaaGreatDoor
