/- Where ways meet, what the laws share: the rows of Meet both ways, sides, the law's last call. -/
import Derived.Test.YtdmoibphidipeaaGreatDoorZCtA
namespace Go.Proofs.YtdmoibphidipeaaGreatDoor
open Go.RowKit Num rows
open Go.Sort (grow)

theorem MeetR.unique {a b c d : Pt} {R R' : List Qp} (h : MeetR a b c d R) (k : MeetR a b c d R') : R = R' := by
  by_cases hf : (FitP a ∧ FitP b) ∧ FitP c ∧ FitP d
  · exact (h.1 hf).unique (k.1 hf)
  · rw [h.2 hf, k.2 hf]
set_option maxRecDepth 100000 in
set_option maxHeartbeats 3200000 in
/-- the text of 2 2 -/
theorem spot_Text22 (n1 n2 : Bool) (a1 d1 a2 d2 : List Nat) (A1 D1 A2 D2 : Option Addr) (c1 e1 c2 e2 : Nat) (w : World) (s1 : SI 2 1 1 n1 a1 c1 d1 e1) (s2 : SI 2 1 1 n2 a2 c2 d2 e2) (r1 : Rd w (fun g => g < w.heap.size) .u32 A1 a1) (q1 : Rd w (fun g => g < w.heap.size) .u32 D1 d1) (r2 : Rd w (fun g => g < w.heap.size) .u32 A2 a2) (q2 : Rd w (fun g => g < w.heap.size) .u32 D2 d2) (htab : Tab w) :
    Calls Tryz.prog 48 #[.agg #[.bool n1, .slice A1 a1.length c1, .slice D1 d1.length e1, .bool n2, .slice A2 a2.length c2, .slice D2 d2.length e2]] w fun e w' => e = .returned (.string ⟨#[50, 32, 50]⟩) ∧ Below w.heap.size w w' := by
  obtain ⟨W, hW, k100, b0, s0⟩ := bxa w 41 [.bool n1, .slice A1 a1.length c1, .slice D1 d1.length e1, .bool n2, .slice A2 a2.length c2, .slice D2 d2.length e2]
  obtain ⟨⟨p00, p01, p02, p03, p04, p05⟩, -⟩ := k100.facts6
  have cX := fun (V : World) (hV : Below W.heap.size W V) => frac_Text 2 1 1 (by omega) (by omega) (by omega) n1 a1 d1 A1 D1 c1 e1 V s1 ((r1.on b0).on hV) ((q1.on b0).on hV) ((htab.on b0).on hV)
  have cY := fun (V : World) (hV : Below W.heap.size W V) => frac_Text 2 1 1 (by omega) (by omega) (by omega) n2 a2 d2 A2 D2 c2 e2 V s2 ((r2.on b0).on hV) ((q2.on b0).on hV) ((htab.on b0).on hV)
  simp only [show ftext 2 1 = [50] by decide +kernel] at cX cY
  have CX := quiet_of cX
  have CY := quiet_of cY
  have y00 := cell_regrown p00
  have y01 := cell_regrown p01
  have y02 := cell_regrown p02
  have y03 := cell_regrown p03
  have y04 := cell_regrown p04
  have y05 := cell_regrown p05
  have HB := Lib.hid b0
  clear cX cY s1 s2 r1 q1 r2 q2 htab b0 k100 s0
  go_enter Tryz.func48, Tryz.ntmps48
  go_wp2_with fail
  try rw [hW]
  clear hW
  refine wp_region_quiet_below (by kernel_rfl) (by kernel_rfl) ?_
  quiet_step (fail)
  quiet_step (fail)
  quiet_step (with_reducible exact CX _ _)
  quiet_step (fail)
  quiet_step (fail)
  quiet_step (fail)
  quiet_step (with_reducible exact CY _ _)
  quiet_step (fail)
  quiet_step (fail)
  refine wpQuiet_nil ?_
  intro _ hw'
  obtain ⟨⟨dq, osq⟩, hw''⟩ := hw'
  subst hw''
  go_wp2_with fail
  go_ret
  exact ⟨rfl, HB.out.trans ((below_regrown W dq osq).mono HB.out.size)⟩
theorem Sp.Red.two {M : Nat} {s : Sp} (h : s.Red M) (e : sw s = ⟨2, 2⟩) : SI 2 1 1 s.n1 s.a1 s.c1 s.d1 s.e1 ∧ SI 2 1 1 s.n2 s.a2 s.c2 s.d2 s.e2 := by
  have e' : sw s = qs 2 2 1 1 := e.trans (qs_pt ⟨2, 2⟩).symm
  unfold sw qs at e'
  injection e' with e1 e2
  have k1 := of_qf (loD_pos _) (by omega) e1
  have k2 := of_qf (loD_pos _) (by omega) e2
  exact ⟨SF.words (by decide) (SG.turn (loD_pos _) (by omega) k1 h.1).1, SF.words (by decide) (SG.turn (loD_pos _) (by omega) k2 h.2).1⟩

set_option maxRecDepth 100000 in
set_option maxHeartbeats 3200000 in
/-- the law's last call -/
theorem law17_lives (w : World) (htab : Tab w) : Calls Tryz.prog 14 #[] w fun e w' => e = .returned (.bool true) ∧ Below w.heap.size w w' := by
  have hme : MeetR ⟨0, 0⟩ ⟨4, 4⟩ ⟨0, 4⟩ ⟨4, 0⟩ [⟨2, 2⟩] := by
    refine ⟨fun _ => ?_, fun hn => absurd ⟨⟨by unfold FitP; decide, by unfold FitP; decide⟩, by unfold FitP; decide, by unfold FitP; decide⟩ hn⟩
    have h := meet_through ((parts_iff ⟨0, 0⟩ ⟨4, 4⟩ ⟨0, 4⟩ ⟨4, 0⟩).1 (by decide)) ((parts_iff ⟨0, 4⟩ ⟨4, 0⟩ ⟨0, 0⟩ ⟨4, 4⟩).1 (by decide))
    rwa [show crossQ (qAt ⟨0, 0⟩) (qAt ⟨4, 4⟩) (qAt ⟨0, 4⟩) (qAt ⟨4, 0⟩) = ⟨2, 2⟩ by decide +kernel] at h
  have cM := cross_Meet ⟨0, 0⟩ ⟨4, 4⟩ ⟨0, 4⟩ ⟨4, 0⟩ w
  unfold segV at cM
  dsimp only at cM
  have HM := Lib.hid hme
  have HT := Lib.hid htab
  clear hme htab
  go_enter Tryz.func14, Tryz.ntmps14
  go_wp2_with first
    | (go_at_call 10; (with_reducible refine Calls.mono cM ?_); rintro e w1 ⟨pX, cap, xs, R, rfl, hc, hr, hw, hm, b1⟩
       obtain rfl := hm.unique HM.out
       obtain ⟨sX, rfl⟩ := List.length_eq_one_iff.1 (hw.length : xs.length = 1)
       obtain ⟨bX, oX, rfl, hbX, hcX⟩ := hr (by simp)
       have hx := hw.get 0 (by simp) (by simp)
       obtain ⟨t1, t2⟩ := Sp.Red.two hx.1 hx.2.2
       have g := fun j u (hu : sX.cells[j]? = some u) => (show w1.cell? ⟨bX, oX + j, none⟩ = some u from by have := hcX 0 (by simp) j u hu; simpa using this)
       have g0 := g 0 _ rfl
       rw [Nat.add_zero] at g0
       have g1 := g 1 _ rfl
       have g2 := g 2 _ rfl
       have g3 := g 3 _ rfl
       have g4 := g 4 _ rfl
       have g5 := g 5 _ rfl
       have cT := spot_Text22 sX.n1 sX.n2 sX.a1 sX.d1 sX.a2 sX.d2 sX.A1 sX.D1 sX.A2 sX.D2 sX.c1 sX.e1 sX.c2 sX.e2 w1 t1 t2 hx.2.1.1.1 hx.2.1.1.2 hx.2.1.2.1 hx.2.1.2.2 (HT.out.on b1)
       have CT := Lib.hid cT
       have B1 := Lib.hid b1
       simp only [List.length_singleton]
       clear hc hr hw hm hx t1 t2 g hcX cT b1 cM)
    | (go_at_call 48; (with_reducible refine Calls.mono CT.out ?_); rintro e w2 ⟨rfl, b2⟩)
  go_ret
  exact ⟨rfl, B1.out.trans (b2.mono B1.out.size)⟩
end Go.Proofs.YtdmoibphidipeaaGreatDoor
