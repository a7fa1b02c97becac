/- Where ways meet, the document's own Meet where the boxes lie apart. -/
import Derived.Test.YtdmoibphidipeaaGreatDoorZCrY
import Derived.Deep.Cut
import Derived.BigGuard
namespace Go.Proofs.YtdmoibphidipeaaGreatDoor
open Go.RowKit Num

set_option maxRecDepth 10000 in
set_option maxHeartbeats 6400000 in
theorem ref17_MeetBox1 (a b c d : Pt) (hf : (FitP a ∧ FitP b) ∧ FitP c ∧ FitP d) (M : Nat)  (h1 : max a.x b.x < min c.x d.x) (w : World) :
    Calls Tryz.prog 11 #[segV a b, segV c d] w (MeetTo a b c d M w) := by
  obtain ⟨W, hW, k1, k2, bW, sW⟩ := seg_boxes w a b c d
  have cA := fun V => ref17_May a b V
  have cB := fun V => ref17_May c d V
  have HR := Lib.hid (show MeetR a b c d [] from ⟨fun _ => box_apart (.inl h1), fun _ => rfl⟩)
  unfold segCells at k1 k2
  obtain ⟨p0, p1, p2, p3⟩ := Box.quad k1
  have HK := Lib.hid (And.intro k1 (And.intro k2 bW))
  unfold segV at *
  clear k1 k2 bW
  rw [decide_eq_true hf.1] at cA
  rw [decide_eq_true hf.2] at cB
  have CA := Lib.hid cA
  have CB := Lib.hid cB
  clear cA cB hf
  generalize a.x = ax at *
  generalize a.y = ay at *
  generalize b.x = bx at *
  generalize b.y = bY at *
  generalize c.x = cx at *
  generalize c.y = cy at *
  generalize d.x = dx at *
  generalize d.y = dy at *
  go_enter Tryz.func11, Tryz.ntmps11
  go_upto_region 3 with first
    | (rw [hW])
    | (go_at_call 39; (with_reducible refine Calls.mono (CA.out _) ?_); rintro e w1 ⟨rfl, b1⟩
       obtain ⟨q0, q1, q2, q3⟩ := Box.quad (HK.out.2.1.below b1 HK.out.2.1.lt))
    | (go_at_call 39; (with_reducible refine Calls.mono (CB.out _) ?_); rintro e w2 ⟨rfl, b2⟩
       obtain ⟨s0, s1, s2, s3⟩ := Box.quad ((HK.out.1.below b1 HK.out.1.lt).below b2 (Nat.lt_of_lt_of_le HK.out.1.lt b1.size))
       obtain ⟨t0, t1, t2, t3⟩ := Box.quad ((HK.out.2.1.below b1 HK.out.2.1.lt).below b2 (Nat.lt_of_lt_of_le HK.out.2.1.lt b1.size))
       clear p0 p1 p2 p3 q0 q1 q2 q3)
  dsimp only [List.append]
  go_wp2_with fail
  go_ret
  exact MeetTo.none HR.out (HK.out.2.2.trans ((b1.trans (b2.mono b1.size)).mono HK.out.2.2.size))

set_option maxRecDepth 10000 in
set_option maxHeartbeats 6400000 in
theorem ref17_MeetBox2 (a b c d : Pt) (hf : (FitP a ∧ FitP b) ∧ FitP c ∧ FitP d) (M : Nat) (n1 : ¬ max a.x b.x < min c.x d.x) (h1 : max c.x d.x < min a.x b.x) (w : World) :
    Calls Tryz.prog 11 #[segV a b, segV c d] w (MeetTo a b c d M w) := by
  obtain ⟨W, hW, k1, k2, bW, sW⟩ := seg_boxes w a b c d
  have cA := fun V => ref17_May a b V
  have cB := fun V => ref17_May c d V
  have HR := Lib.hid (show MeetR a b c d [] from ⟨fun _ => box_apart (.inr (.inl h1)), fun _ => rfl⟩)
  unfold segCells at k1 k2
  obtain ⟨p0, p1, p2, p3⟩ := Box.quad k1
  have HK := Lib.hid (And.intro k1 (And.intro k2 bW))
  unfold segV at *
  clear k1 k2 bW
  rw [decide_eq_true hf.1] at cA
  rw [decide_eq_true hf.2] at cB
  have CA := Lib.hid cA
  have CB := Lib.hid cB
  clear cA cB hf
  generalize a.x = ax at *
  generalize a.y = ay at *
  generalize b.x = bx at *
  generalize b.y = bY at *
  generalize c.x = cx at *
  generalize c.y = cy at *
  generalize d.x = dx at *
  generalize d.y = dy at *
  go_enter Tryz.func11, Tryz.ntmps11
  go_upto_region 3 with first
    | (rw [hW])
    | (go_at_call 39; (with_reducible refine Calls.mono (CA.out _) ?_); rintro e w1 ⟨rfl, b1⟩
       obtain ⟨q0, q1, q2, q3⟩ := Box.quad (HK.out.2.1.below b1 HK.out.2.1.lt))
    | (go_at_call 39; (with_reducible refine Calls.mono (CB.out _) ?_); rintro e w2 ⟨rfl, b2⟩
       obtain ⟨s0, s1, s2, s3⟩ := Box.quad ((HK.out.1.below b1 HK.out.1.lt).below b2 (Nat.lt_of_lt_of_le HK.out.1.lt b1.size))
       obtain ⟨t0, t1, t2, t3⟩ := Box.quad ((HK.out.2.1.below b1 HK.out.2.1.lt).below b2 (Nat.lt_of_lt_of_le HK.out.2.1.lt b1.size))
       clear p0 p1 p2 p3 q0 q1 q2 q3)
  dsimp only [List.append]
  go_wp2_with fail
  go_ret
  exact MeetTo.none HR.out (HK.out.2.2.trans ((b1.trans (b2.mono b1.size)).mono HK.out.2.2.size))

set_option maxRecDepth 10000 in
set_option maxHeartbeats 6400000 in
theorem ref17_MeetBox3 (a b c d : Pt) (hf : (FitP a ∧ FitP b) ∧ FitP c ∧ FitP d) (M : Nat) (n1 : ¬ max a.x b.x < min c.x d.x) (n2 : ¬ max c.x d.x < min a.x b.x) (h1 : max a.y b.y < min c.y d.y) (w : World) :
    Calls Tryz.prog 11 #[segV a b, segV c d] w (MeetTo a b c d M w) := by
  obtain ⟨W, hW, k1, k2, bW, sW⟩ := seg_boxes w a b c d
  have cA := fun V => ref17_May a b V
  have cB := fun V => ref17_May c d V
  have HR := Lib.hid (show MeetR a b c d [] from ⟨fun _ => box_apart (.inr (.inr (.inl h1))), fun _ => rfl⟩)
  unfold segCells at k1 k2
  obtain ⟨p0, p1, p2, p3⟩ := Box.quad k1
  have HK := Lib.hid (And.intro k1 (And.intro k2 bW))
  unfold segV at *
  clear k1 k2 bW
  rw [decide_eq_true hf.1] at cA
  rw [decide_eq_true hf.2] at cB
  have CA := Lib.hid cA
  have CB := Lib.hid cB
  clear cA cB hf
  generalize a.x = ax at *
  generalize a.y = ay at *
  generalize b.x = bx at *
  generalize b.y = bY at *
  generalize c.x = cx at *
  generalize c.y = cy at *
  generalize d.x = dx at *
  generalize d.y = dy at *
  go_enter Tryz.func11, Tryz.ntmps11
  go_upto_region 3 with first
    | (rw [hW])
    | (go_at_call 39; (with_reducible refine Calls.mono (CA.out _) ?_); rintro e w1 ⟨rfl, b1⟩
       obtain ⟨q0, q1, q2, q3⟩ := Box.quad (HK.out.2.1.below b1 HK.out.2.1.lt))
    | (go_at_call 39; (with_reducible refine Calls.mono (CB.out _) ?_); rintro e w2 ⟨rfl, b2⟩
       obtain ⟨s0, s1, s2, s3⟩ := Box.quad ((HK.out.1.below b1 HK.out.1.lt).below b2 (Nat.lt_of_lt_of_le HK.out.1.lt b1.size))
       obtain ⟨t0, t1, t2, t3⟩ := Box.quad ((HK.out.2.1.below b1 HK.out.2.1.lt).below b2 (Nat.lt_of_lt_of_le HK.out.2.1.lt b1.size))
       clear p0 p1 p2 p3 q0 q1 q2 q3)
  dsimp only [List.append]
  go_wp2_with fail
  go_ret
  exact MeetTo.none HR.out (HK.out.2.2.trans ((b1.trans (b2.mono b1.size)).mono HK.out.2.2.size))

set_option maxRecDepth 10000 in
set_option maxHeartbeats 6400000 in
theorem ref17_MeetBox4 (a b c d : Pt) (hf : (FitP a ∧ FitP b) ∧ FitP c ∧ FitP d) (M : Nat) (n1 : ¬ max a.x b.x < min c.x d.x) (n2 : ¬ max c.x d.x < min a.x b.x) (n3 : ¬ max a.y b.y < min c.y d.y) (h1 : max c.y d.y < min a.y b.y) (w : World) :
    Calls Tryz.prog 11 #[segV a b, segV c d] w (MeetTo a b c d M w) := by
  obtain ⟨W, hW, k1, k2, bW, sW⟩ := seg_boxes w a b c d
  have cA := fun V => ref17_May a b V
  have cB := fun V => ref17_May c d V
  have HR := Lib.hid (show MeetR a b c d [] from ⟨fun _ => box_apart (.inr (.inr (.inr h1))), fun _ => rfl⟩)
  unfold segCells at k1 k2
  obtain ⟨p0, p1, p2, p3⟩ := Box.quad k1
  have HK := Lib.hid (And.intro k1 (And.intro k2 bW))
  unfold segV at *
  clear k1 k2 bW
  rw [decide_eq_true hf.1] at cA
  rw [decide_eq_true hf.2] at cB
  have CA := Lib.hid cA
  have CB := Lib.hid cB
  clear cA cB hf
  generalize a.x = ax at *
  generalize a.y = ay at *
  generalize b.x = bx at *
  generalize b.y = bY at *
  generalize c.x = cx at *
  generalize c.y = cy at *
  generalize d.x = dx at *
  generalize d.y = dy at *
  go_enter Tryz.func11, Tryz.ntmps11
  go_upto_region 3 with first
    | (rw [hW])
    | (go_at_call 39; (with_reducible refine Calls.mono (CA.out _) ?_); rintro e w1 ⟨rfl, b1⟩
       obtain ⟨q0, q1, q2, q3⟩ := Box.quad (HK.out.2.1.below b1 HK.out.2.1.lt))
    | (go_at_call 39; (with_reducible refine Calls.mono (CB.out _) ?_); rintro e w2 ⟨rfl, b2⟩
       obtain ⟨s0, s1, s2, s3⟩ := Box.quad ((HK.out.1.below b1 HK.out.1.lt).below b2 (Nat.lt_of_lt_of_le HK.out.1.lt b1.size))
       obtain ⟨t0, t1, t2, t3⟩ := Box.quad ((HK.out.2.1.below b1 HK.out.2.1.lt).below b2 (Nat.lt_of_lt_of_le HK.out.2.1.lt b1.size))
       clear p0 p1 p2 p3 q0 q1 q2 q3)
  dsimp only [List.append]
  go_wp2_with fail
  go_ret
  exact MeetTo.none HR.out (HK.out.2.2.trans ((b1.trans (b2.mono b1.size)).mono HK.out.2.2.size))

end Go.Proofs.YtdmoibphidipeaaGreatDoor
