/- Spots, the program's own: what Side and Text answer; the law's last call. -/
import Derived.Test.YtkgedgaddpojkaaGreatDoorSpF
import Derived.Test.YtkgedgaddpojkaaGreatDoorSpC
namespace Go.Proofs.YtkgedgaddpojkaaGreatDoor
open Go.RowKit Num
open Go.Sort (grow)

set_option maxRecDepth 100000 in
set_option maxHeartbeats 12800000 in
/-- on which side of a way of the grid a spot is -/
theorem spot_Side (x1 y1 x2 y2 z : Int) {P5 P6 : Int} {Q5 Q6 m5 m6 : Nat} (g5 : 1 ≤ m5) (g6 : 1 ≤ m6) (hs : m5 + m6 ≤ 4194000) (hz : sgn (det x1 y1 x2 y2 P5 P6 1 1 1 1 Q5 Q6) = z) (n5 n6 : Bool) (a5 d5 a6 d6 : List Nat) (A5 D5 A6 D6 : Option Addr) (c5 e5 c6 e6 : Nat) (w : World) (i1 : In x1) (j1 : In y1) (i2 : In x2) (j2 : In y2) (s5 : SI P5 Q5 m5 n5 a5 c5 d5 e5) (s6 : SI P6 Q6 m6 n6 a6 c6 d6 e6) (r5 : Rd w (fun g => g < w.heap.size) .u32 A5 a5) (q5 : Rd w (fun g => g < w.heap.size) .u32 D5 d5) (r6 : Rd w (fun g => g < w.heap.size) .u32 A6 a6) (q6 : Rd w (fun g => g < w.heap.size) .u32 D6 d6) :
    Calls Tryz.prog 14 #[.agg #[.int .i64 x1, .int .i64 y1], .agg #[.int .i64 x2, .int .i64 y2], .agg #[.bool n5, .slice A5 a5.length c5, .slice D5 d5.length e5, .bool n6, .slice A6 a6.length c6, .slice D6 d6.length e6]] w fun e w' => e = .returned (.int .i64 z) ∧ Below w.heap.size w w' := by
  obtain ⟨W, hW, k100, k101, k102, b0, s0⟩ := bxc w 33 33 28 [.int .i64 x1, .int .i64 y1] [.int .i64 x2, .int .i64 y2] [.bool n5, .slice A5 a5.length c5, .slice D5 d5.length e5, .bool n6, .slice A6 a6.length c6, .slice D6 d6.length e6]
  obtain ⟨p00, p01, -, -⟩ := k100.facts2
  obtain ⟨p10, p11, -, -⟩ := k101.facts2
  obtain ⟨⟨p20, p21, p22, p23, p24, p25⟩, -⟩ := k102.facts6
  have CA0 := Lib.hid (fun V : World => spot_AtI x1 y1 i1.1 i1.2 j1.1 j1.2 V)
  have CA1 := Lib.hid (fun V : World => spot_AtI x2 y2 i2.1 i2.2 j2.1 j2.2 V)
  have CT := Lib.hid (fun (n51 n52 n53 n54 : Bool) (a51 d51 a52 d52 a53 d53 a54 d54 : List Nat) (A51 D51 A52 D52 A53 D53 A54 D54 : Option Addr) (c51 e51 c52 e52 c53 e53 c54 e54 : Nat) (V : World) (hV : Below W.heap.size W V) (s51 : SI x1 1 2 n51 a51 c51 d51 e51) (s52 : SI y1 1 2 n52 a52 c52 d52 e52) (s53 : SI x2 1 2 n53 a53 c53 d53 e53) (s54 : SI y2 1 2 n54 a54 c54 d54 e54) (r51 : Rd V (fun g => g < V.heap.size) .u32 A51 a51) (q51 : Rd V (fun g => g < V.heap.size) .u32 D51 d51) (r52 : Rd V (fun g => g < V.heap.size) .u32 A52 a52) (q52 : Rd V (fun g => g < V.heap.size) .u32 D52 d52) (r53 : Rd V (fun g => g < V.heap.size) .u32 A53 a53) (q53 : Rd V (fun g => g < V.heap.size) .u32 D53 d53) (r54 : Rd V (fun g => g < V.heap.size) .u32 A54 a54) (q54 : Rd V (fun g => g < V.heap.size) .u32 D54 d54) => by
    have h := spot_Turn (by omega) (by omega) (by omega) (by omega) g5 g6 (by omega) n51 n52 n53 n54 n5 n6 a51 d51 a52 d52 a53 d53 a54 d54 a5 d5 a6 d6 A51 D51 A52 D52 A53 D53 A54 D54 A5 D5 A6 D6 c51 e51 c52 e52 c53 e53 c54 e54 c5 e5 c6 e6 V s51 s52 s53 s54 s5 s6 r51 q51 r52 q52 r53 q53 r54 q54 ((r5.on b0).on hV) ((q5.on b0).on hV) ((r6.on b0).on hV) ((q6.on b0).on hV)
    rwa [hz] at h)
  have HK0 := Lib.hid k100
  have HK1 := Lib.hid k101
  have HK2 := Lib.hid k102
  have HB := Lib.hid b0
  have K0 : Below W.heap.size W W.drew := below_drewN (Below.refl _ _) 1
  clear hz k100 k101 k102 b0 s0 s5 r5 q5 s6 r6 q6
  go_enter Tryz.func14, Tryz.ntmps14
  go_wp2_with fail
  try rw [hW]
  clear hW
  go_region_held3 (fun w' => (w'.cell? ⟨w.heap.size, 0, none⟩ = some (.int .i64 x1) ∧ w'.cell? ⟨w.heap.size, 1, none⟩ = some (.int .i64 y1)) ∧ (w'.cell? ⟨w.heap.size + 1, 0, none⟩ = some (.int .i64 x2) ∧ w'.cell? ⟨w.heap.size + 1, 1, none⟩ = some (.int .i64 y2)) ∧ (w'.cell? ⟨w.heap.size + 1 + 1, 0, none⟩ = some (.bool n5) ∧ w'.cell? ⟨w.heap.size + 1 + 1, 1, none⟩ = some (.slice A5 a5.length c5) ∧ w'.cell? ⟨w.heap.size + 1 + 1, 2, none⟩ = some (.slice D5 d5.length e5) ∧ w'.cell? ⟨w.heap.size + 1 + 1, 3, none⟩ = some (.bool n6) ∧ w'.cell? ⟨w.heap.size + 1 + 1, 4, none⟩ = some (.slice A6 a6.length c6) ∧ w'.cell? ⟨w.heap.size + 1 + 1, 5, none⟩ = some (.slice D6 d6.length e6)))
    (first | (with_reducible exact ⟨kept2 HK0.out K0, kept2 HK1.out K0, kept6 HK2.out K0⟩) | (with_reducible exact ⟨kept2 HK0.out K1, kept2 HK1.out K1, kept6 HK2.out K1⟩) | (with_reducible exact ⟨kept2 HK0.out K2, kept2 HK1.out K2, kept6 HK2.out K2⟩) | (with_reducible exact ⟨kept2 HK0.out K3, kept2 HK1.out K3, kept6 HK2.out K3⟩) | go_keep)
    ((first
      | (go_at_call_of 16 (Value.int .i64 x1); (with_reducible refine Calls.mono (CA0.out _) ?_); rintro e w1 ⟨n51, a51, A51, c51, d51, D51, e51, n52, a52, A52, c52, d52, D52, e52, rfl, ⟨s51, s52⟩, ⟨r51, q51⟩, ⟨r52, q52⟩, b1⟩; have K1 := below_next K0 (Nat.le_refl _) b1)
      | (go_at_call_of 16 (Value.int .i64 x2); (with_reducible refine Calls.mono (CA1.out _) ?_); rintro e w2 ⟨n53, a53, A53, c53, d53, D53, e53, n54, a54, A54, c54, d54, D54, e54, rfl, ⟨s53, s54⟩, ⟨r53, q53⟩, ⟨r54, q54⟩, b2⟩; have K2 := below_next K1 (Nat.le_refl _) b2; have r51 := r51.on b2; have q51 := q51.on b2; have r52 := r52.on b2; have q52 := q52.on b2)
      | (go_at_call 7; (with_reducible refine Calls.mono (CT.out n51 n52 n53 n54 a51 d51 a52 d52 a53 d53 a54 d54 A51 D51 A52 D52 A53 D53 A54 D54 c51 e51 c52 e52 c53 e53 c54 e54 _ K2 s51 s52 s53 s54 r51 q51 r52 q52 r53 q53 r54 q54) ?_); rintro e w3 ⟨rfl, b3⟩; have K3 := below_next K2 (Nat.le_refl _) b3)))
  go_wp2_with fail
  go_ret
  exact ⟨rfl, HB.out.trans (K3.mono HB.out.size)⟩

set_option maxRecDepth 100000 in
set_option maxHeartbeats 3200000 in
/-- the text of 3 -4 -/
theorem spot_Text34 (n1 n2 : Bool) (a1 d1 a2 d2 : List Nat) (A1 D1 A2 D2 : Option Addr) (c1 e1 c2 e2 : Nat) (w : World) (s1 : SI 3 1 1 n1 a1 c1 d1 e1) (s2 : SI (-4) 1 1 n2 a2 c2 d2 e2) (r1 : Rd w (fun g => g < w.heap.size) .u32 A1 a1) (q1 : Rd w (fun g => g < w.heap.size) .u32 D1 d1) (r2 : Rd w (fun g => g < w.heap.size) .u32 A2 a2) (q2 : Rd w (fun g => g < w.heap.size) .u32 D2 d2) (htab : Tab w) :
    Calls Tryz.prog 33 #[.agg #[.bool n1, .slice A1 a1.length c1, .slice D1 d1.length e1, .bool n2, .slice A2 a2.length c2, .slice D2 d2.length e2]] w fun e w' => e = .returned (.string ⟨#[51, 32, 45, 52]⟩) ∧ Below w.heap.size w w' := by
  obtain ⟨W, hW, k100, b0, s0⟩ := bxa w 28 [.bool n1, .slice A1 a1.length c1, .slice D1 d1.length e1, .bool n2, .slice A2 a2.length c2, .slice D2 d2.length e2]
  obtain ⟨⟨p00, p01, p02, p03, p04, p05⟩, -⟩ := k100.facts6
  have cX := fun (V : World) (hV : Below W.heap.size W V) => frac_Text 3 1 1 (by omega) (by omega) (by omega) n1 a1 d1 A1 D1 c1 e1 V s1 ((r1.on b0).on hV) ((q1.on b0).on hV) ((htab.on b0).on hV)
  have cY := fun (V : World) (hV : Below W.heap.size W V) => frac_Text (-4) 1 1 (by omega) (by omega) (by omega) n2 a2 d2 A2 D2 c2 e2 V s2 ((r2.on b0).on hV) ((q2.on b0).on hV) ((htab.on b0).on hV)
  simp only [show ftext 3 1 = [51] by decide +kernel] at cX
  simp only [show ftext (-4) 1 = [45, 52] by decide +kernel] at cY
  have CX := quiet_of cX
  have CY := quiet_of cY
  have y00 := cell_regrown p00
  have y01 := cell_regrown p01
  have y02 := cell_regrown p02
  have y03 := cell_regrown p03
  have y04 := cell_regrown p04
  have y05 := cell_regrown p05
  have HB := Lib.hid b0
  clear cX cY s1 s2 r1 q1 r2 q2 htab b0 k100 s0
  go_enter Tryz.func33, Tryz.ntmps33
  go_wp2_with fail
  try rw [hW]
  clear hW
  refine wp_region_quiet_below (by kernel_rfl) (by kernel_rfl) ?_
  quiet_step (fail)
  quiet_step (fail)
  quiet_step (with_reducible exact CX _ _)
  quiet_step (fail)
  quiet_step (fail)
  quiet_step (fail)
  quiet_step (with_reducible exact CY _ _)
  quiet_step (fail)
  quiet_step (fail)
  refine wpQuiet_nil ?_
  intro _ hw'
  obtain ⟨⟨dq, osq⟩, hw''⟩ := hw'
  subst hw''
  go_wp2_with fail
  go_ret
  exact ⟨rfl, HB.out.trans ((below_regrown W dq osq).mono HB.out.size)⟩

theorem SF.words {P : Int} {n : Bool} {a d : List Nat} {ca cd : Nat} (hP : P.natAbs < 4294967296) (k : SF P 1 n a ca d cd) : SI P 1 1 n a ca d cd := by
  have h := (k.toR (m := 1) (by omega) (by simpa using hP) (by decide)).toI
  have hd : val 4294967296 d = 1 := by have := k.2.2.2.2.2.2; rw [this]; simp
  have hr := (k.toR (m := 1) (by omega) (by simpa using hP) (by decide)).2.2.2.2.2.2.2
  rw [hd] at h hr
  rw [show wv n a = P by simpa using hr] at h
  exact h
set_option maxRecDepth 100000 in
set_option maxHeartbeats 3200000 in
/-- the law's last call -/
theorem law5_lives (w : World) (htab : Tab w) : Calls Tryz.prog 11 #[] w fun e w' => e = .returned (.bool true) ∧ Below w.heap.size w w' := by
  have cT := spot_Turns 0 0 2 0 1 1 1 (by decide) w ⟨by omega, by omega⟩ ⟨by omega, by omega⟩ ⟨by omega, by omega⟩ ⟨by omega, by omega⟩ ⟨by omega, by omega⟩ ⟨by omega, by omega⟩
  have cA := fun (V : World) => (spot_At (SF 3 1) (SF (-4) 1) 3 (-4) (fun V => frac_Int 3 (by omega) (by omega) V) (fun V => frac_Int (-4) (by omega) (by omega) V) V).mono fun _ _ => Gs.imp (fun _ _ _ _ _ => SF.words (by decide)) (fun _ _ _ _ _ => SF.words (by decide))
  have CA := Lib.hid cA
  have HT := Lib.hid htab
  clear cA htab
  go_enter Tryz.func11, Tryz.ntmps11
  go_wp2_with fail
  refine cT.mono ?_
  rintro e w1 ⟨rfl, b1⟩
  clear cT
  go_wp2_with fail
  refine (CA.out _).mono ?_
  rintro e w2 ⟨n1, a1, A1, c1, d1, D1, e1, n2, a2, A2, c2, d2, D2, e2, rfl, ⟨s1, s2⟩, ⟨r1, q1⟩, ⟨r2, q2⟩, b2⟩
  have B2 := b1.trans (b2.mono b1.size)
  have cX := spot_Text34 n1 n2 a1 d1 a2 d2 A1 D1 A2 D2 c1 e1 c2 e2 w2 s1 s2 r1 q1 r2 q2 (HT.out.on B2)
  clear s1 s2 r1 q1 r2 q2
  go_wp2_with fail
  refine cX.mono ?_
  rintro e w3 ⟨rfl, b3⟩
  clear cX
  go_wp2_with fail
  go_ret
  exact ⟨rfl, B2.trans (b3.mono B2.size)⟩
end Go.Proofs.YtkgedgaddpojkaaGreatDoor
