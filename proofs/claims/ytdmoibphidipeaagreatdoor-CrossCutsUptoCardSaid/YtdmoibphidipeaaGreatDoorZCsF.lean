/- Where ways meet, the program's own come, Meet, Cross. -/
import Derived.Test.YtdmoibphidipeaaGreatDoorZCsD
import Derived.Test.YtdmoibphidipeaaGreatDoorZCsE
namespace Go.Proofs.YtdmoibphidipeaaGreatDoor
open Go.RowKit Num rows

def Fit4 (a b c d : Pt) : Prop := (FitP a ∧ FitP b) ∧ FitP c ∧ FitP d
theorem mem_endsN (a b c d : Pt) (p : Qp) : p ∈ endsN a b c d 4 ↔ EndQ (qAt a) (qAt b) (qAt c) (qAt d) p ∧ Both (qAt a) (qAt b) (qAt c) (qAt d) p := by
  have e : endsN a b c d 4 = (((([] : List Qp) ++ pk (shB a b c d a) (qAt a)) ++ pk (shB a b c d b) (qAt b)) ++ pk (shB a b c d c) (qAt c)) ++ pk (shB a b c d d) (qAt d) := rfl
  have sh : ∀ x : Pt, shB a b c d x = true ↔ Both (qAt a) (qAt b) (qAt c) (qAt d) (qAt x) := fun x => by
    unfold shB Both
    rw [Bool.and_eq_true, onG_iff, onG_iff]
  rw [e, List.nil_append, List.mem_append, List.mem_append, List.mem_append, mem_pk, mem_pk, mem_pk, mem_pk, sh, sh, sh, sh]
  unfold EndQ
  constructor
  · rintro (((⟨h, rfl⟩ | ⟨h, rfl⟩) | ⟨h, rfl⟩) | ⟨h, rfl⟩)
    · exact ⟨.inl rfl, h⟩
    · exact ⟨.inr (.inl rfl), h⟩
    · exact ⟨.inr (.inr (.inl rfl)), h⟩
    · exact ⟨.inr (.inr (.inr rfl)), h⟩
  · rintro ⟨rfl | rfl | rfl | rfl, h⟩
    · exact .inl (.inl (.inl ⟨h, rfl⟩))
    · exact .inl (.inl (.inr ⟨h, rfl⟩))
    · exact .inl (.inr ⟨h, rfl⟩)
    · exact .inr ⟨h, rfl⟩
/-- what two ways come to -/
def KindIs (a b c d : Pt) (k : Int) : Prop :=
  (¬ Fit4 a b c d ∧ k = 0) ∨ (Fit4 a b c d ∧ (PartsG a b c d ∧ PartsG c d a b) ∧ k = 1) ∨ (Fit4 a b c d ∧ ¬ (PartsG a b c d ∧ PartsG c d a b) ∧ ((endsN a b c d 4 = [] ∧ k = 0) ∨ (endsN a b c d 4 ≠ [] ∧ k = 2)))

set_option maxRecDepth 10000 in
set_option maxHeartbeats 6400000 in
theorem cross_comeNo (a b c d : Pt) (hn : ¬ Fit4 a b c d) (w : World) :
    Calls Tryz.prog 35 #[segV a b, segV c d] w fun e w' => e = .returned (.int .i64 0) ∧ Below w.heap.size w w' := by
  obtain ⟨W, hW, k1, k2, bW, sW⟩ := seg_boxes w a b c d
  have cA := fun V => cross_may a b V
  have cB := fun V => cross_may c d V
  unfold segCells at k1 k2
  have HK := Lib.hid (And.intro k1 (And.intro k2 bW))
  obtain ⟨p0, p1, p2, p3⟩ := Box.quad k1
  obtain ⟨q0, q1, q2, q3⟩ := Box.quad k2
  have B := Below.refl W.heap.size W
  unfold segV at *
  clear k1 k2 bW sW 
  by_cases ha : FitP a ∧ FitP b
  · rw [decide_eq_true ha] at cA
    rw [decide_eq_false (fun h => hn ⟨ha, h⟩)] at cB
    have CA := Lib.hid cA
    have CB := Lib.hid cB
    clear cA cB ha hn
    go_enter Tryz.func35, Tryz.ntmps35
    go_wp2_with first
      | (rw [hW])
      | (go_at_call 49; first | ((with_reducible refine Calls.mono (CA.out _) ?_); rintro e wn ⟨rfl, bz⟩; replace B := B.trans (bz.mono B.size); clear p0 p1 p2 p3 q0 q1 q2 q3; obtain ⟨p0, p1, p2, p3⟩ := Box.quad (HK.out.1.below B HK.out.1.lt); obtain ⟨q0, q1, q2, q3⟩ := Box.quad (HK.out.2.1.below B HK.out.2.1.lt)) | ((with_reducible refine Calls.mono (CB.out _) ?_); rintro e wn ⟨rfl, bz⟩; replace B := B.trans (bz.mono B.size); clear p0 p1 p2 p3 q0 q1 q2 q3; obtain ⟨p0, p1, p2, p3⟩ := Box.quad (HK.out.1.below B HK.out.1.lt); obtain ⟨q0, q1, q2, q3⟩ := Box.quad (HK.out.2.1.below B HK.out.2.1.lt)))
    go_ret
    exact ⟨rfl, HK.out.2.2.trans (B.mono HK.out.2.2.size)⟩
  · rw [decide_eq_false ha] at cA
    have CA := Lib.hid cA
    clear cA cB ha hn
    go_enter Tryz.func35, Tryz.ntmps35
    go_wp2_with first
      | (rw [hW])
      | (go_at_call 49; first | ((with_reducible refine Calls.mono (CA.out _) ?_); rintro e wn ⟨rfl, bz⟩; replace B := B.trans (bz.mono B.size); clear p0 p1 p2 p3 q0 q1 q2 q3; obtain ⟨p0, p1, p2, p3⟩ := Box.quad (HK.out.1.below B HK.out.1.lt); obtain ⟨q0, q1, q2, q3⟩ := Box.quad (HK.out.2.1.below B HK.out.2.1.lt)))
    go_ret
    exact ⟨rfl, HK.out.2.2.trans (B.mono HK.out.2.2.size)⟩

set_option maxRecDepth 10000 in
set_option maxHeartbeats 6400000 in
theorem cross_comeYes (a b c d : Pt) (hf : Fit4 a b c d) (w : World) :
    Calls Tryz.prog 35 #[segV a b, segV c d] w fun e w' => ∃ k, e = .returned (.int .i64 k) ∧ KindIs a b c d k ∧ Below w.heap.size w w' := by
  obtain ⟨W, hW, k1, k2, bW, sW⟩ := seg_boxes w a b c d
  have cA := fun V => cross_may a b V
  have cB := fun V => cross_may c d V
  rw [decide_eq_true hf.1] at cA
  rw [decide_eq_true hf.2] at cB
  have cP := fun V => cross_parts a b c d hf.1.1 hf.1.2 hf.2.1 hf.2.2 V
  have cQ := fun V => cross_parts c d a b hf.2.1 hf.2.2 hf.1.1 hf.1.2 V
  have cS := fun V => cross_shared a b c d hf.1.1 hf.1.2 hf.2.1 hf.2.2 V
  unfold segCells at k1 k2
  have HK := Lib.hid (And.intro k1 (And.intro k2 bW))
  obtain ⟨p0, p1, p2, p3⟩ := Box.quad k1
  obtain ⟨q0, q1, q2, q3⟩ := Box.quad k2
  have B := Below.refl W.heap.size W
  unfold segV at *
  have CA := Lib.hid cA
  have CB := Lib.hid cB
  have CS := Lib.hid cS
  clear k1 k2 bW sW cA cB cS
  by_cases h1 : PartsG a b c d
  · rw [decide_eq_true h1] at cP
    have CP := Lib.hid cP
    clear cP
    by_cases h2 : PartsG c d a b
    · rw [decide_eq_true h2] at cQ
      have CQ := Lib.hid cQ
      have HZ := Lib.hid (show KindIs a b c d 1 from .inr (.inl ⟨hf, ⟨h1, h2⟩, rfl⟩))
      clear cQ hf h1 h2
      go_enter Tryz.func35, Tryz.ntmps35
      go_wp2_with first
        | (rw [hW])
        | (go_at_call 49; first | ((with_reducible refine Calls.mono (CA.out _) ?_); rintro e wn ⟨rfl, bz⟩; replace B := B.trans (bz.mono B.size); clear p0 p1 p2 p3 q0 q1 q2 q3; obtain ⟨p0, p1, p2, p3⟩ := Box.quad (HK.out.1.below B HK.out.1.lt); obtain ⟨q0, q1, q2, q3⟩ := Box.quad (HK.out.2.1.below B HK.out.2.1.lt)) | ((with_reducible refine Calls.mono (CB.out _) ?_); rintro e wn ⟨rfl, bz⟩; replace B := B.trans (bz.mono B.size); clear p0 p1 p2 p3 q0 q1 q2 q3; obtain ⟨p0, p1, p2, p3⟩ := Box.quad (HK.out.1.below B HK.out.1.lt); obtain ⟨q0, q1, q2, q3⟩ := Box.quad (HK.out.2.1.below B HK.out.2.1.lt)))
        | (go_at_call 65; first | ((with_reducible refine Calls.mono (CP.out _) ?_); rintro e wn ⟨rfl, bz⟩; replace B := B.trans (bz.mono B.size); clear p0 p1 p2 p3 q0 q1 q2 q3; obtain ⟨p0, p1, p2, p3⟩ := Box.quad (HK.out.1.below B HK.out.1.lt); obtain ⟨q0, q1, q2, q3⟩ := Box.quad (HK.out.2.1.below B HK.out.2.1.lt)) | ((with_reducible refine Calls.mono (CQ.out _) ?_); rintro e wn ⟨rfl, bz⟩; replace B := B.trans (bz.mono B.size); clear p0 p1 p2 p3 q0 q1 q2 q3; obtain ⟨p0, p1, p2, p3⟩ := Box.quad (HK.out.1.below B HK.out.1.lt); obtain ⟨q0, q1, q2, q3⟩ := Box.quad (HK.out.2.1.below B HK.out.2.1.lt)))
      go_ret
      exact ⟨1, rfl, HZ.out, HK.out.2.2.trans (B.mono HK.out.2.2.size)⟩
    · rw [decide_eq_false h2] at cQ
      have CQ := Lib.hid cQ
      have hnp : ¬ (PartsG a b c d ∧ PartsG c d a b) := fun h => h2 h.2
      clear cQ h1 h2
      by_cases h0 : endsN a b c d 4 = []
      · have HZ := Lib.hid (show KindIs a b c d 0 from .inr (.inr ⟨hf, hnp, .inl ⟨h0, rfl⟩⟩))
        have HL := Lib.hid (show (endsN a b c d 4).length = 0 from by rw [h0]; rfl)
        clear hf hnp h0
        go_enter Tryz.func35, Tryz.ntmps35
        go_wp2_with first
          | (rw [hW])
          | (go_at_call 49; first | ((with_reducible refine Calls.mono (CA.out _) ?_); rintro e wn ⟨rfl, bz⟩; replace B := B.trans (bz.mono B.size); clear p0 p1 p2 p3 q0 q1 q2 q3; obtain ⟨p0, p1, p2, p3⟩ := Box.quad (HK.out.1.below B HK.out.1.lt); obtain ⟨q0, q1, q2, q3⟩ := Box.quad (HK.out.2.1.below B HK.out.2.1.lt)) | ((with_reducible refine Calls.mono (CB.out _) ?_); rintro e wn ⟨rfl, bz⟩; replace B := B.trans (bz.mono B.size); clear p0 p1 p2 p3 q0 q1 q2 q3; obtain ⟨p0, p1, p2, p3⟩ := Box.quad (HK.out.1.below B HK.out.1.lt); obtain ⟨q0, q1, q2, q3⟩ := Box.quad (HK.out.2.1.below B HK.out.2.1.lt)))
          | (go_at_call 65; first | ((with_reducible refine Calls.mono (CP.out _) ?_); rintro e wn ⟨rfl, bz⟩; replace B := B.trans (bz.mono B.size); clear p0 p1 p2 p3 q0 q1 q2 q3; obtain ⟨p0, p1, p2, p3⟩ := Box.quad (HK.out.1.below B HK.out.1.lt); obtain ⟨q0, q1, q2, q3⟩ := Box.quad (HK.out.2.1.below B HK.out.2.1.lt)) | ((with_reducible refine Calls.mono (CQ.out _) ?_); rintro e wn ⟨rfl, bz⟩; replace B := B.trans (bz.mono B.size); clear p0 p1 p2 p3 q0 q1 q2 q3; obtain ⟨p0, p1, p2, p3⟩ := Box.quad (HK.out.1.below B HK.out.1.lt); obtain ⟨q0, q1, q2, q3⟩ := Box.quad (HK.out.2.1.below B HK.out.2.1.lt)))
          | (go_at_call 38; first | ((with_reducible refine Calls.mono (CS.out _) ?_); rintro e wn ⟨v, xs, rfl, ho, hr, hl, bz⟩; replace B := B.trans (bz.mono B.size); clear p0 p1 p2 p3 q0 q1 q2 q3; obtain ⟨p0, p1, p2, p3⟩ := Box.quad (HK.out.1.below B HK.out.1.lt); obtain ⟨q0, q1, q2, q3⟩ := Box.quad (HK.out.2.1.below B HK.out.2.1.lt); obtain ⟨pv, cap, rfl, hcap⟩ := ho.any; have hlen := hr.length; have hx0 : ¬ (0 : Int) < (xs.length : Int) := (by have := HL.out; omega); clear ho hr hl))
        go_ret
        exact ⟨0, rfl, HZ.out, HK.out.2.2.trans (B.mono HK.out.2.2.size)⟩
      · have HZ := Lib.hid (show KindIs a b c d 2 from .inr (.inr ⟨hf, hnp, .inr ⟨h0, rfl⟩⟩))
        have HL := Lib.hid (show 0 < (endsN a b c d 4).length from List.length_pos_iff.2 h0)
        clear hf hnp h0
        go_enter Tryz.func35, Tryz.ntmps35
        go_wp2_with first
          | (rw [hW])
          | (go_at_call 49; first | ((with_reducible refine Calls.mono (CA.out _) ?_); rintro e wn ⟨rfl, bz⟩; replace B := B.trans (bz.mono B.size); clear p0 p1 p2 p3 q0 q1 q2 q3; obtain ⟨p0, p1, p2, p3⟩ := Box.quad (HK.out.1.below B HK.out.1.lt); obtain ⟨q0, q1, q2, q3⟩ := Box.quad (HK.out.2.1.below B HK.out.2.1.lt)) | ((with_reducible refine Calls.mono (CB.out _) ?_); rintro e wn ⟨rfl, bz⟩; replace B := B.trans (bz.mono B.size); clear p0 p1 p2 p3 q0 q1 q2 q3; obtain ⟨p0, p1, p2, p3⟩ := Box.quad (HK.out.1.below B HK.out.1.lt); obtain ⟨q0, q1, q2, q3⟩ := Box.quad (HK.out.2.1.below B HK.out.2.1.lt)))
          | (go_at_call 65; first | ((with_reducible refine Calls.mono (CP.out _) ?_); rintro e wn ⟨rfl, bz⟩; replace B := B.trans (bz.mono B.size); clear p0 p1 p2 p3 q0 q1 q2 q3; obtain ⟨p0, p1, p2, p3⟩ := Box.quad (HK.out.1.below B HK.out.1.lt); obtain ⟨q0, q1, q2, q3⟩ := Box.quad (HK.out.2.1.below B HK.out.2.1.lt)) | ((with_reducible refine Calls.mono (CQ.out _) ?_); rintro e wn ⟨rfl, bz⟩; replace B := B.trans (bz.mono B.size); clear p0 p1 p2 p3 q0 q1 q2 q3; obtain ⟨p0, p1, p2, p3⟩ := Box.quad (HK.out.1.below B HK.out.1.lt); obtain ⟨q0, q1, q2, q3⟩ := Box.quad (HK.out.2.1.below B HK.out.2.1.lt)))
          | (go_at_call 38; first | ((with_reducible refine Calls.mono (CS.out _) ?_); rintro e wn ⟨v, xs, rfl, ho, hr, hl, bz⟩; replace B := B.trans (bz.mono B.size); clear p0 p1 p2 p3 q0 q1 q2 q3; obtain ⟨p0, p1, p2, p3⟩ := Box.quad (HK.out.1.below B HK.out.1.lt); obtain ⟨q0, q1, q2, q3⟩ := Box.quad (HK.out.2.1.below B HK.out.2.1.lt); obtain ⟨pv, cap, rfl, hcap⟩ := ho.any; have hlen := hr.length; have hx0 : (0 : Int) < (xs.length : Int) := (by have := HL.out; omega); clear ho hr hl))
        go_ret
        exact ⟨2, rfl, HZ.out, HK.out.2.2.trans (B.mono HK.out.2.2.size)⟩

  · rw [decide_eq_false h1] at cP
    have CP := Lib.hid cP
    have hnp : ¬ (PartsG a b c d ∧ PartsG c d a b) := fun h => h1 h.1
    clear cP cQ h1
    by_cases h0 : endsN a b c d 4 = []
    · have HZ := Lib.hid (show KindIs a b c d 0 from .inr (.inr ⟨hf, hnp, .inl ⟨h0, rfl⟩⟩))
      have HL := Lib.hid (show (endsN a b c d 4).length = 0 from by rw [h0]; rfl)
      clear hf hnp h0
      go_enter Tryz.func35, Tryz.ntmps35
      go_wp2_with first
        | (rw [hW])
        | (go_at_call 49; first | ((with_reducible refine Calls.mono (CA.out _) ?_); rintro e wn ⟨rfl, bz⟩; replace B := B.trans (bz.mono B.size); clear p0 p1 p2 p3 q0 q1 q2 q3; obtain ⟨p0, p1, p2, p3⟩ := Box.quad (HK.out.1.below B HK.out.1.lt); obtain ⟨q0, q1, q2, q3⟩ := Box.quad (HK.out.2.1.below B HK.out.2.1.lt)) | ((with_reducible refine Calls.mono (CB.out _) ?_); rintro e wn ⟨rfl, bz⟩; replace B := B.trans (bz.mono B.size); clear p0 p1 p2 p3 q0 q1 q2 q3; obtain ⟨p0, p1, p2, p3⟩ := Box.quad (HK.out.1.below B HK.out.1.lt); obtain ⟨q0, q1, q2, q3⟩ := Box.quad (HK.out.2.1.below B HK.out.2.1.lt)))
        | (go_at_call 65; first | ((with_reducible refine Calls.mono (CP.out _) ?_); rintro e wn ⟨rfl, bz⟩; replace B := B.trans (bz.mono B.size); clear p0 p1 p2 p3 q0 q1 q2 q3; obtain ⟨p0, p1, p2, p3⟩ := Box.quad (HK.out.1.below B HK.out.1.lt); obtain ⟨q0, q1, q2, q3⟩ := Box.quad (HK.out.2.1.below B HK.out.2.1.lt)))
        | (go_at_call 38; first | ((with_reducible refine Calls.mono (CS.out _) ?_); rintro e wn ⟨v, xs, rfl, ho, hr, hl, bz⟩; replace B := B.trans (bz.mono B.size); clear p0 p1 p2 p3 q0 q1 q2 q3; obtain ⟨p0, p1, p2, p3⟩ := Box.quad (HK.out.1.below B HK.out.1.lt); obtain ⟨q0, q1, q2, q3⟩ := Box.quad (HK.out.2.1.below B HK.out.2.1.lt); obtain ⟨pv, cap, rfl, hcap⟩ := ho.any; have hlen := hr.length; have hx0 : ¬ (0 : Int) < (xs.length : Int) := (by have := HL.out; omega); clear ho hr hl))
      go_ret
      exact ⟨0, rfl, HZ.out, HK.out.2.2.trans (B.mono HK.out.2.2.size)⟩
    · have HZ := Lib.hid (show KindIs a b c d 2 from .inr (.inr ⟨hf, hnp, .inr ⟨h0, rfl⟩⟩))
      have HL := Lib.hid (show 0 < (endsN a b c d 4).length from List.length_pos_iff.2 h0)
      clear hf hnp h0
      go_enter Tryz.func35, Tryz.ntmps35
      go_wp2_with first
        | (rw [hW])
        | (go_at_call 49; first | ((with_reducible refine Calls.mono (CA.out _) ?_); rintro e wn ⟨rfl, bz⟩; replace B := B.trans (bz.mono B.size); clear p0 p1 p2 p3 q0 q1 q2 q3; obtain ⟨p0, p1, p2, p3⟩ := Box.quad (HK.out.1.below B HK.out.1.lt); obtain ⟨q0, q1, q2, q3⟩ := Box.quad (HK.out.2.1.below B HK.out.2.1.lt)) | ((with_reducible refine Calls.mono (CB.out _) ?_); rintro e wn ⟨rfl, bz⟩; replace B := B.trans (bz.mono B.size); clear p0 p1 p2 p3 q0 q1 q2 q3; obtain ⟨p0, p1, p2, p3⟩ := Box.quad (HK.out.1.below B HK.out.1.lt); obtain ⟨q0, q1, q2, q3⟩ := Box.quad (HK.out.2.1.below B HK.out.2.1.lt)))
        | (go_at_call 65; first | ((with_reducible refine Calls.mono (CP.out _) ?_); rintro e wn ⟨rfl, bz⟩; replace B := B.trans (bz.mono B.size); clear p0 p1 p2 p3 q0 q1 q2 q3; obtain ⟨p0, p1, p2, p3⟩ := Box.quad (HK.out.1.below B HK.out.1.lt); obtain ⟨q0, q1, q2, q3⟩ := Box.quad (HK.out.2.1.below B HK.out.2.1.lt)))
        | (go_at_call 38; first | ((with_reducible refine Calls.mono (CS.out _) ?_); rintro e wn ⟨v, xs, rfl, ho, hr, hl, bz⟩; replace B := B.trans (bz.mono B.size); clear p0 p1 p2 p3 q0 q1 q2 q3; obtain ⟨p0, p1, p2, p3⟩ := Box.quad (HK.out.1.below B HK.out.1.lt); obtain ⟨q0, q1, q2, q3⟩ := Box.quad (HK.out.2.1.below B HK.out.2.1.lt); obtain ⟨pv, cap, rfl, hcap⟩ := ho.any; have hlen := hr.length; have hx0 : (0 : Int) < (xs.length : Int) := (by have := HL.out; omega); clear ho hr hl))
      go_ret
      exact ⟨2, rfl, HZ.out, HK.out.2.2.trans (B.mono HK.out.2.2.size)⟩

theorem cross_come (a b c d : Pt) (w : World) : Calls Tryz.prog 35 #[segV a b, segV c d] w fun e w' => ∃ k, e = .returned (.int .i64 k) ∧ KindIs a b c d k ∧ Below w.heap.size w w' := by
  by_cases hf : Fit4 a b c d
  · exact cross_comeYes a b c d hf w
  · refine (cross_comeNo a b c d hf w).mono ?_
    rintro e w' ⟨rfl, hb⟩
    exact ⟨0, rfl, .inl ⟨hf, rfl⟩, hb⟩

set_option maxRecDepth 10000 in
set_option maxHeartbeats 6400000 in
theorem cross_Meet (a b c d : Pt) (w : World) :
    Calls Tryz.prog 10 #[segV a b, segV c d] w (MeetRd a b c d w) := by
  have cw : Fit4 a b c d → PartsG c d a b → ∀ V, Calls Tryz.prog 36 #[segV a b, segV c d] V (AtTo (crossQ (qAt a) (qAt b) (qAt c) (qAt d)) V) := fun hf hp V => cross_where a b c d hf.1.1 hf.1.2 hf.2.1 hf.2.2 hp V
  have cs : Fit4 a b c d → ∀ V, Calls Tryz.prog 38 #[segV a b, segV c d] V fun e w' => ∃ v xs, e = .returned v ∧ OwnS w' V.heap.size v xs.length (flat xs) ∧ RowW 8 w' xs (endsN a b c d 4) ∧ xs.length ≤ 4 ∧ Below V.heap.size V w' := fun hf V => cross_shared a b c d hf.1.1 hf.1.2 hf.2.1 hf.2.2 V
  obtain ⟨W, hW, k1, k2, bW, sW⟩ := seg_boxes w a b c d
  have cC := fun V => cross_come a b c d V
  unfold segCells at k1 k2
  have HK := Lib.hid (And.intro k1 (And.intro k2 bW))
  obtain ⟨p0, p1, p2, p3⟩ := Box.quad k1
  obtain ⟨q0, q1, q2, q3⟩ := Box.quad k2
  have B := Below.refl W.heap.size W
  unfold segV at *
  have CC := Lib.hid cC
  have CW := Lib.hid cw
  have CS := Lib.hid cs
  clear k1 k2 bW sW cC cw cs
  go_enter Tryz.func10, Tryz.ntmps10
  go_upto_region 2 with first
    | (rw [hW])
    | (go_at_call 35; first | ((with_reducible refine Calls.mono (CC.out _) ?_); rintro e wn ⟨k, rfl, hk, bz⟩; replace B := B.trans (bz.mono B.size); clear p0 p1 p2 p3 q0 q1 q2 q3; obtain ⟨p0, p1, p2, p3⟩ := Box.quad (HK.out.1.below B HK.out.1.lt); obtain ⟨q0, q1, q2, q3⟩ := Box.quad (HK.out.2.1.below B HK.out.2.1.lt)))
  rcases hk with ⟨hn, rfl⟩ | ⟨hf, hp, rfl⟩ | ⟨hf, hnp, ⟨h0, rfl⟩ | ⟨h0, rfl⟩⟩
  · have HR := Lib.hid (show MeetR a b c d [] from ⟨fun h => absurd h hn, fun _ => rfl⟩)
    clear hn
    go_wp2_with fail
    go_ret
    exact ⟨_, 0, [], [], rfl, Nat.le_refl _, (fun hn => by simp at hn), RowW.nil _ _, HR.out, HK.out.2.2.trans (B.mono HK.out.2.2.size)⟩
  · have HR := Lib.hid (show MeetR a b c d [crossQ (qAt a) (qAt b) (qAt c) (qAt d)] from ⟨fun _ => meet_through ((parts_iff a b c d).1 hp.1) ((parts_iff c d a b).1 hp.2), fun n => absurd hf n⟩)
    have CX := Lib.hid (CW.out hf hp.2)
    clear hf hp
    obtain ⟨X, hX⟩ : ∃ X, crossQ (qAt a) (qAt b) (qAt c) (qAt d) = X := ⟨_, rfl⟩
    rw [hX] at HR CX
    clear hX
    go_wp2_with (go_at_call 36; (with_reducible refine Calls.mono (CX.out _) ?_); rintro e w9 ⟨sX, rfl, rX, oX, eX, b9⟩; unfold spV; clear p0 p1 p2 p3 q0 q1 q2 q3)
    go_ret
    obtain ⟨n1, n2, n3⟩ := oneRow w9 sX (rX.wide (by omega)) oX
    refine ⟨_, 1, [sX], [X], rfl, Nat.le_refl _, n1, ?_, HR.out, ?_⟩
    · rw [← eX]; exact n2
    · have B9 := HK.out.2.2.trans ((B.trans (b9.mono B.size)).mono HK.out.2.2.size)
      exact B9.trans (n3.mono B9.size)
  · have HR := Lib.hid (show MeetR a b c d [] from ⟨fun _ => meet_shared (fun h => hnp ⟨(parts_iff a b c d).2 h.1, (parts_iff c d a b).2 h.2⟩) (l := []) (fun p => by rw [← mem_endsN, h0]) List.Pairwise.nil, fun n => absurd hf n⟩)
    clear hf hnp h0
    go_wp2_with fail
    go_ret
    exact ⟨_, 0, [], [], rfl, Nat.le_refl _, (fun hn => by simp at hn), RowW.nil _ _, HR.out, HK.out.2.2.trans (B.mono HK.out.2.2.size)⟩
  · have HR := Lib.hid (show ∀ R2 : List Qp, R2.Pairwise ltQ → (∀ q, q ∈ R2 ↔ q ∈ endsN a b c d 4) → MeetR a b c d R2 from fun R2 hs hm => ⟨fun _ => meet_shared (fun h => hnp ⟨(parts_iff a b c d).2 h.1, (parts_iff c d a b).2 h.2⟩) (fun p => (hm p).trans (mem_endsN a b c d p)) hs, fun n => absurd hf n⟩)
    have CX := Lib.hid (CS.out hf)
    have CRW := Lib.hid (fun (xs : List Sp) (V : World) (p : Option Addr) (cap : Nat) (hl : xs.length ≤ 4) (hr : RdS V p xs) (hx : RowW 8 V xs (endsN a b c d 4)) => spot_RowW xs p cap V (by omega) hr (fun s hs => ⟨(hx.2 s hs).1.wide (by omega), (hx.2 s hs).2⟩))
    clear hf hnp h0
    go_wp2_with first
      | (go_at_call 38; (with_reducible refine Calls.mono (CX.out _) ?_); rintro e w9 ⟨v, xs, rfl, ho, hr, hl, b9⟩; obtain ⟨pv, cap, rfl, hcap⟩ := ho.any; have HO := Lib.hid (And.intro ho.reads (And.intro hr (And.intro hl b9))); clear ho hr hl b9 p0 p1 p2 p3 q0 q1 q2 q3)
      | (go_at_call 37; (with_reducible refine Calls.mono (CRW.out xs _ pv cap HO.out.2.2.1 HO.out.1 HO.out.2.1) ?_); rintro e w14 ⟨p2, cap2, ys, R2, rfl, hc2, hr2, hw2, hs2, hb2⟩; have HF := Lib.hid (And.intro hr2 (And.intro hw2 (And.intro hs2 (And.intro hc2 hb2)))); clear hr2 hw2 hs2 hc2 hb2)
    go_ret
    have B9 := HK.out.2.2.trans ((B.trans (HO.out.2.2.2.mono B.size)).mono HK.out.2.2.size)
    exact ⟨p2, cap2, ys, R2, rfl, HF.out.2.2.2.1, HF.out.1, HF.out.2.1, HR.out R2 HF.out.2.2.1.1 (fun q => by rw [HF.out.2.2.1.2 q, HO.out.2.1.1]), B9.trans (HF.out.2.2.2.2.mono B9.size)⟩
theorem ref17_Meet (a b c d : Pt) (w : World) : Calls Tryz.prog 11 #[segV a b, segV c d] w (MeetRd a b c d w) := by
  by_cases hf : Fit4 a b c d
  · by_cases n1 : max a.x b.x < min c.x d.x
    · exact (ref17_MeetBox1 a b c d hf 16 n1 w).mono fun _ _ h => MeetTo.rd (by omega) h
    by_cases n2 : max c.x d.x < min a.x b.x
    · exact (ref17_MeetBox2 a b c d hf 16 n1 n2 w).mono fun _ _ h => MeetTo.rd (by omega) h
    by_cases n3 : max a.y b.y < min c.y d.y
    · exact (ref17_MeetBox3 a b c d hf 16 n1 n2 n3 w).mono fun _ _ h => MeetTo.rd (by omega) h
    by_cases n4 : max c.y d.y < min a.y b.y
    · exact (ref17_MeetBox4 a b c d hf 16 n1 n2 n3 n4 w).mono fun _ _ h => MeetTo.rd (by omega) h
    exact ref17_MeetFar a b c d hf n1 n2 n3 n4 w
  · exact (ref17_MeetNo a b c d 16 hf w).mono fun _ _ h => MeetTo.rd (by omega) h
end Go.Proofs.YtdmoibphidipeaaGreatDoor
