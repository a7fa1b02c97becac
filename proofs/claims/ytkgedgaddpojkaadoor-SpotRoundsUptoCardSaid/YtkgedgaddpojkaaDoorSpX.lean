/- Spots, the program's own: what Side and Text answer; the law's last call. -/
import Derived.Test.YtkgedgaddpojkaaDoorSpF
import Derived.Test.YtkgedgaddpojkaaDoorSpC
namespace Go.Proofs.YtkgedgaddpojkaaDoor
open Go.RowKit Num
open Go.Sort (grow)

set_option maxRecDepth 100000 in
set_option maxHeartbeats 3200000 in
/-- the text of 3 -4 -/
theorem spot_Text34 (n1 n2 : Bool) (a1 d1 a2 d2 : List Nat) (A1 D1 A2 D2 : Option Addr) (c1 e1 c2 e2 : Nat) (w : World) (s1 : SI 3 1 1 n1 a1 c1 d1 e1) (s2 : SI (-4) 1 1 n2 a2 c2 d2 e2) (r1 : Rd w (fun g => g < w.heap.size) .u32 A1 a1) (q1 : Rd w (fun g => g < w.heap.size) .u32 D1 d1) (r2 : Rd w (fun g => g < w.heap.size) .u32 A2 a2) (q2 : Rd w (fun g => g < w.heap.size) .u32 D2 d2) (htab : Tab w) :
    Calls Tryd.prog 15 #[.agg #[.bool n1, .slice A1 a1.length c1, .slice D1 d1.length e1, .bool n2, .slice A2 a2.length c2, .slice D2 d2.length e2]] w fun e w' => e = .returned (.string ⟨#[51, 32, 45, 52]⟩) ∧ Below w.heap.size w w' := by
  obtain ⟨W, hW, k100, b0, s0⟩ := bxa w 28 [.bool n1, .slice A1 a1.length c1, .slice D1 d1.length e1, .bool n2, .slice A2 a2.length c2, .slice D2 d2.length e2]
  obtain ⟨⟨p00, p01, p02, p03, p04, p05⟩, -⟩ := k100.facts6
  have cX := fun (V : World) (hV : Below W.heap.size W V) => frac_Text 3 1 1 (by omega) (by omega) (by omega) n1 a1 d1 A1 D1 c1 e1 V s1 ((r1.on b0).on hV) ((q1.on b0).on hV) ((htab.on b0).on hV)
  have cY := fun (V : World) (hV : Below W.heap.size W V) => frac_Text (-4) 1 1 (by omega) (by omega) (by omega) n2 a2 d2 A2 D2 c2 e2 V s2 ((r2.on b0).on hV) ((q2.on b0).on hV) ((htab.on b0).on hV)
  simp only [show ftext 3 1 = [51] by decide +kernel] at cX
  simp only [show ftext (-4) 1 = [45, 52] by decide +kernel] at cY
  have CX := quiet_of cX
  have CY := quiet_of cY
  have y00 := cell_regrown p00
  have y01 := cell_regrown p01
  have y02 := cell_regrown p02
  have y03 := cell_regrown p03
  have y04 := cell_regrown p04
  have y05 := cell_regrown p05
  have HB := Lib.hid b0
  clear cX cY s1 s2 r1 q1 r2 q2 htab b0 k100 s0
  go_enter Tryd.func15, Tryd.ntmps15
  go_wp2_with fail
  try rw [hW]
  clear hW
  refine wp_region_quiet_below (by kernel_rfl) (by kernel_rfl) ?_
  quiet_step (fail)
  quiet_step (fail)
  quiet_step (with_reducible exact CX _ _)
  quiet_step (fail)
  quiet_step (fail)
  quiet_step (fail)
  quiet_step (with_reducible exact CY _ _)
  quiet_step (fail)
  quiet_step (fail)
  refine wpQuiet_nil ?_
  intro _ hw'
  obtain ⟨⟨dq, osq⟩, hw''⟩ := hw'
  subst hw''
  go_wp2_with fail
  go_ret
  exact ⟨rfl, HB.out.trans ((below_regrown W dq osq).mono HB.out.size)⟩

theorem SF.words {P : Int} {n : Bool} {a d : List Nat} {ca cd : Nat} (hP : P.natAbs < 4294967296) (k : SF P 1 n a ca d cd) : SI P 1 1 n a ca d cd := by
  have h := (k.toR (m := 1) (by omega) (by simpa using hP) (by decide)).toI
  have hd : val 4294967296 d = 1 := by have := k.2.2.2.2.2.2; rw [this]; simp
  have hr := (k.toR (m := 1) (by omega) (by simpa using hP) (by decide)).2.2.2.2.2.2.2
  rw [hd] at h hr
  rw [show wv n a = P by simpa using hr] at h
  exact h
set_option maxRecDepth 100000 in
set_option maxHeartbeats 3200000 in
/-- the law's last call -/
theorem law5_lives (w : World) (htab : Tab w) : Calls Tryd.prog 7 #[] w fun e w' => e = .returned (.bool true) ∧ Below w.heap.size w w' := by
  have cT := spot_Turns 0 0 2 0 1 1 1 (by decide) w ⟨by omega, by omega⟩ ⟨by omega, by omega⟩ ⟨by omega, by omega⟩ ⟨by omega, by omega⟩ ⟨by omega, by omega⟩ ⟨by omega, by omega⟩
  have cA := fun (V : World) => (spot_At (SF 3 1) (SF (-4) 1) 3 (-4) (fun V => frac_Int 3 (by omega) (by omega) V) (fun V => frac_Int (-4) (by omega) (by omega) V) V).mono fun _ _ => Gs.imp (fun _ _ _ _ _ => SF.words (by decide)) (fun _ _ _ _ _ => SF.words (by decide))
  have CA := Lib.hid cA
  have HT := Lib.hid htab
  clear cA htab
  go_enter Tryd.func7, Tryd.ntmps7
  go_wp2_with fail
  refine cT.mono ?_
  rintro e w1 ⟨rfl, b1⟩
  clear cT
  go_wp2_with fail
  refine (CA.out _).mono ?_
  rintro e w2 ⟨n1, a1, A1, c1, d1, D1, e1, n2, a2, A2, c2, d2, D2, e2, rfl, ⟨s1, s2⟩, ⟨r1, q1⟩, ⟨r2, q2⟩, b2⟩
  have B2 := b1.trans (b2.mono b1.size)
  have cX := spot_Text34 n1 n2 a1 d1 a2 d2 A1 D1 A2 D2 c1 e1 c2 e2 w2 s1 s2 r1 q1 r2 q2 (HT.out.on B2)
  clear s1 s2 r1 q1 r2 q2
  go_wp2_with fail
  refine cX.mono ?_
  rintro e w3 ⟨rfl, b3⟩
  clear cX
  go_wp2_with fail
  go_ret
  exact ⟨rfl, B2.trans (b3.mono B2.size)⟩
end Go.Proofs.YtkgedgaddpojkaaDoor
