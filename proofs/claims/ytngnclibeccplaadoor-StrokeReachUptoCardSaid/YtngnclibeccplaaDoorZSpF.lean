/- Spots, the program's own: what Turns, Side and Text answer; the law's first call. -/
import Derived.Test.YtngnclibeccplaaDoorZOaI
import Derived.Lib.QuietBelow
import Derived.BigQuiet
import Derived.Deep.RegionHeld3
import Derived.IntWalk
namespace Go.Proofs.YtngnclibeccplaaDoor
open Go.RowKit Num
open Go.Sort (grow)

theorem cmp_isNaN (x : Int) (w : World) : Calls Tryd.prog 53 #[.int .i64 x] w fun e w' => e = .returned (.bool false) ∧ w = w' := by
  go_enter Tryd.func53, Tryd.ntmps53
  go_wp2_with fail
  go_ret
  exact ⟨rfl, rfl⟩
theorem sgn_lt {x : Int} (h : x < 0) : sgn x = -1 := by unfold sgn; rw [if_pos h]
theorem sgn_gt {x : Int} (h : 0 < x) : sgn x = 1 := by unfold sgn; rw [if_neg (by omega), if_pos h]
set_option maxHeartbeats 800000 in
theorem cmp_Compare (x y z : Int) (hz : sgn (x - y) = z) (w : World) : Calls Tryd.prog 46 #[.int .i64 x, .int .i64 y] w fun e w' => e = .returned (.int .i64 z) ∧ w = w' := by
  have cN := fun (x : Int) (V : World) => cmp_isNaN x V
  have CN := Lib.hid cN
  clear cN
  by_cases h1 : x < y
  · have HZ := Lib.hid (show z = -1 by rw [← hz]; exact sgn_lt (by omega))
    clear hz
    go_enter Tryd.func46, Tryd.ntmps46
    go_wp2_with (go_at_call 53; refine (CN.out _ _).mono ?_; rintro e w' ⟨rfl, rfl⟩)
    go_ret
    exact ⟨by rw [HZ.out]; rfl, rfl⟩
  · by_cases h2 : y < x
    · have HZ := Lib.hid (show z = 1 by rw [← hz]; exact sgn_gt (by omega))
      clear hz
      go_enter Tryd.func46, Tryd.ntmps46
      go_wp2_with (go_at_call 53; refine (CN.out _ _).mono ?_; rintro e w' ⟨rfl, rfl⟩)
      go_ret
      exact ⟨by rw [HZ.out]; rfl, rfl⟩
    · have HZ := Lib.hid (show z = 0 by rw [← hz]; exact sgn_zero.2 (by omega))
      clear hz
      go_enter Tryd.func46, Tryd.ntmps46
      go_wp2_with (go_at_call 53; refine (CN.out _ _).mono ?_; rintro e w' ⟨rfl, rfl⟩)
      go_ret
      exact ⟨by rw [HZ.out]; rfl, rfl⟩

/-- does a point lie near enough to 0? -/
def Near (x y : Int) : Prop := (-1073741824 ≤ x ∧ x ≤ 1073741824) ∧ (-1073741824 ≤ y ∧ y ≤ 1073741824)
set_option maxHeartbeats 800000 in
theorem spot_isNear (x y : Int) (w : World) : (Near x y → Calls Tryd.prog 43 #[.agg #[.int .i64 x, .int .i64 y]] w fun e w' => e = .returned (.bool true) ∧ Below w.heap.size w w') ∧ (¬ Near x y → Calls Tryd.prog 43 #[.agg #[.int .i64 x, .int .i64 y]] w fun e w' => e = .returned (.bool false) ∧ Below w.heap.size w w') := by
  unfold Near
  obtain ⟨W, hW, k1, b0, s0⟩ := bxa w 34 [.int .i64 x, .int .i64 y]
  obtain ⟨p0, p1, -, -⟩ := k1.facts2
  have HB := Lib.hid b0
  clear b0 k1 s0
  by_cases h1 : -1073741824 ≤ x
  · by_cases h2 : x ≤ 1073741824
    · by_cases h3 : -1073741824 ≤ y
      · by_cases h4 : y ≤ 1073741824
        · refine ⟨fun _ => ?_, fun h => absurd ⟨⟨h1, h2⟩, h3, h4⟩ h⟩
          go_enter Tryd.func43, Tryd.ntmps43
          go_wp2_with fail
          try rw [hW]
          clear hW
          go_wp2_with fail
          go_ret
          exact ⟨rfl, HB.out⟩
        · refine ⟨fun h => absurd h.2.2 h4, fun _ => ?_⟩
          have h4' : decide (y ≤ 1073741824) = false := decide_eq_false h4
          go_enter Tryd.func43, Tryd.ntmps43
          go_wp2_with fail
          try rw [hW]
          clear hW
          go_wp2_with fail
          go_ret
          exact ⟨rfl, HB.out⟩
      · refine ⟨fun h => absurd h.2.1 h3, fun _ => ?_⟩
        have h3' : decide (-1073741824 ≤ y) = false := decide_eq_false h3
        go_enter Tryd.func43, Tryd.ntmps43
        go_wp2_with fail
        try rw [hW]
        clear hW
        go_wp2_with fail
        go_ret
        exact ⟨rfl, HB.out⟩
    · refine ⟨fun h => absurd h.1.2 h2, fun _ => ?_⟩
      have h2' : decide (x ≤ 1073741824) = false := decide_eq_false h2
      go_enter Tryd.func43, Tryd.ntmps43
      go_wp2_with fail
      try rw [hW]
      clear hW
      go_wp2_with fail
      go_ret
      exact ⟨rfl, HB.out⟩
  · refine ⟨fun h => absurd h.1.1 h1, fun _ => ?_⟩
    have h1' : decide (-1073741824 ≤ x) = false := decide_eq_false h1
    go_enter Tryd.func43, Tryd.ntmps43
    go_wp2_with fail
    try rw [hW]
    clear hW
    go_wp2_with fail
    go_ret
    exact ⟨rfl, HB.out⟩

/-- an int as a fraction that is handed in -/
theorem SF.toInt {P : Int} (hP : P.natAbs < 4294967296 ^ 2) {n : Bool} {a d : List Nat} {ca cd : Nat} (k : SF P 1 n a ca d cd) : SI P 1 2 n a ca d cd := by
  have h := (k.toR (m := 2) (by omega) hP (by decide)).toI
  have hd : val 4294967296 d = 1 := by have := k.2.2.2.2.2.2; rw [this]; simp
  have hr := (k.toR (m := 2) (by omega) hP (by decide)).2.2.2.2.2.2.2
  rw [hd] at h hr
  rw [show wv n a = P by simpa using hr] at h
  exact h
theorem int_small {x : Int} (h1 : -9223372036854775808 ≤ x) (h2 : x ≤ 9223372036854775807) : x.natAbs < 4294967296 ^ 2 := by
  have : (4294967296 : Nat) ^ 2 = 18446744073709551616 := by decide
  rw [this]; omega
theorem spot_AtI (x y : Int) (hx1 : -9223372036854775808 ≤ x) (hx2 : x ≤ 9223372036854775807) (hy1 : -9223372036854775808 ≤ y) (hy2 : y ≤ 9223372036854775807) (w : World) : Calls Tryd.prog 45 #[.agg #[.int .i64 x, .int .i64 y]] w (Gs (SI x 1 2) (SI y 1 2) w) :=
  (spot_At (SF x 1) (SF y 1) x y (fun V => frac_Int x hx1 hx2 V) (fun V => frac_Int y hy1 hy2 V) w).mono fun _ _ => Gs.imp (fun _ _ _ _ _ => SF.toInt (int_small hx1 hx2)) (fun _ _ _ _ _ => SF.toInt (int_small hy1 hy2))
/-- an int of the machine -/
def In (x : Int) : Prop := -9223372036854775808 ≤ x ∧ x ≤ 9223372036854775807

set_option maxRecDepth 100000 in
set_option maxHeartbeats 25600000 in
/-- on which side of a way of the grid a point is -/
theorem spot_Turns (x1 y1 x2 y2 x3 y3 z : Int) (hz : sgn (det x1 y1 x2 y2 x3 y3 1 1 1 1 1 1) = z) (w : World) (i1 : In x1) (j1 : In y1) (i2 : In x2) (j2 : In y2) (i3 : In x3) (j3 : In y3) :
    Calls Tryd.prog 34 #[.agg #[.int .i64 x1, .int .i64 y1], .agg #[.int .i64 x2, .int .i64 y2], .agg #[.int .i64 x3, .int .i64 y3]] w fun e w' => e = .returned (.int .i64 z) ∧ Below w.heap.size w w' := by
  obtain ⟨W, hW, k100, k101, k102, b0, s0⟩ := bxc w 34 34 34 [.int .i64 x1, .int .i64 y1] [.int .i64 x2, .int .i64 y2] [.int .i64 x3, .int .i64 y3]
  obtain ⟨p00, p01, -, -⟩ := k100.facts2
  obtain ⟨p10, p11, -, -⟩ := k101.facts2
  obtain ⟨p20, p21, -, -⟩ := k102.facts2
  have HK0 := Lib.hid k100
  have HK1 := Lib.hid k101
  have HK2 := Lib.hid k102
  have HB := Lib.hid b0
  have CA0 := Lib.hid (fun V : World => spot_AtI x1 y1 i1.1 i1.2 j1.1 j1.2 V)
  have CA1 := Lib.hid (fun V : World => spot_AtI x2 y2 i2.1 i2.2 j2.1 j2.2 V)
  have CA2 := Lib.hid (fun V : World => spot_AtI x3 y3 i3.1 i3.2 j3.1 j3.2 V)
  have CT := Lib.hid (fun (n51 n52 n53 n54 n55 n56 : Bool) (a51 d51 a52 d52 a53 d53 a54 d54 a55 d55 a56 d56 : List Nat) (A51 D51 A52 D52 A53 D53 A54 D54 A55 D55 A56 D56 : Option Addr) (c51 e51 c52 e52 c53 e53 c54 e54 c55 e55 c56 e56 : Nat) (V : World) (s51 : SI x1 1 2 n51 a51 c51 d51 e51) (s52 : SI y1 1 2 n52 a52 c52 d52 e52) (s53 : SI x2 1 2 n53 a53 c53 d53 e53) (s54 : SI y2 1 2 n54 a54 c54 d54 e54) (s55 : SI x3 1 2 n55 a55 c55 d55 e55) (s56 : SI y3 1 2 n56 a56 c56 d56 e56) (r51 : Rd V (fun g => g < V.heap.size) .u32 A51 a51) (q51 : Rd V (fun g => g < V.heap.size) .u32 D51 d51) (r52 : Rd V (fun g => g < V.heap.size) .u32 A52 a52) (q52 : Rd V (fun g => g < V.heap.size) .u32 D52 d52) (r53 : Rd V (fun g => g < V.heap.size) .u32 A53 a53) (q53 : Rd V (fun g => g < V.heap.size) .u32 D53 d53) (r54 : Rd V (fun g => g < V.heap.size) .u32 A54 a54) (q54 : Rd V (fun g => g < V.heap.size) .u32 D54 d54) (r55 : Rd V (fun g => g < V.heap.size) .u32 A55 a55) (q55 : Rd V (fun g => g < V.heap.size) .u32 D55 d55) (r56 : Rd V (fun g => g < V.heap.size) .u32 A56 a56) (q56 : Rd V (fun g => g < V.heap.size) .u32 D56 d56) => by
    have h := spot_Turn (by omega) (by omega) (by omega) (by omega) (by omega) (by omega) (by omega) n51 n52 n53 n54 n55 n56 a51 d51 a52 d52 a53 d53 a54 d54 a55 d55 a56 d56 A51 D51 A52 D52 A53 D53 A54 D54 A55 D55 A56 D56 c51 e51 c52 e52 c53 e53 c54 e54 c55 e55 c56 e56 V s51 s52 s53 s54 s55 s56 r51 q51 r52 q52 r53 q53 r54 q54 r55 q55 r56 q56
    rwa [hz] at h)
  have HZ := Lib.hid hz
  clear hz k100 k101 k102 b0 s0
  by_cases h0 : Near x1 y1
  · by_cases h1 : Near x2 y2
    · by_cases h2 : Near x3 y3
      · have H0 := Lib.hid h0
        have H1 := Lib.hid h1
        have H2 := Lib.hid h2
        have hz := HZ.out
        obtain ⟨L, hL⟩ : ∃ L, (x2 - x1) * (y3 - y1) = L := ⟨_, rfl⟩
        obtain ⟨R, hR⟩ : ∃ R, (y2 - y1) * (x3 - x1) = R := ⟨_, rfl⟩
        unfold det at hz
        simp only [Int.mul_one, show ((1 : Nat) : Int) = 1 from rfl] at hz
        rw [hL, hR] at hz
        have bnd : ∀ u v a b : Int, -1073741824 ≤ u → u ≤ 1073741824 → -1073741824 ≤ v → v ≤ 1073741824 → -1073741824 ≤ a → a ≤ 1073741824 → -1073741824 ≤ b → b ≤ 1073741824 → IntKind.i64.wrap ((u - v) * (a - b)) = (u - v) * (a - b) := fun u v a b u1 u2 v1 v2 a1 a2 b1 b2 => by
          have e1 : ((u - v) * (a - b)).natAbs ≤ 2147483648 * 2147483648 := by rw [Int.natAbs_mul]; exact Nat.mul_le_mul (by omega) (by omega)
          exact IntWalk.i64_in _ ⟨by omega, by omega⟩
        have eL := bnd x2 x1 y3 y1 h1.1.1 h1.1.2 h0.1.1 h0.1.2 h2.2.1 h2.2.2 h0.2.1 h0.2.2
        have eR := bnd y2 y1 x3 x1 h1.2.1 h1.2.2 h0.2.1 h0.2.2 h2.1.1 h2.1.2 h0.1.1 h0.1.2
        rw [hL] at eL
        rw [hR] at eR
        have wr : ∀ u v : Int, -1073741824 ≤ u → u ≤ 1073741824 → -1073741824 ≤ v → v ≤ 1073741824 → IntKind.i64.wrap (u - v) = u - v := fun u v u1 u2 v1 v2 => IntWalk.i64_in _ ⟨by omega, by omega⟩
        have f1 := wr x2 x1 h1.1.1 h1.1.2 h0.1.1 h0.1.2
        have f2 := wr y3 y1 h2.2.1 h2.2.2 h0.2.1 h0.2.2
        have f3 := wr y2 y1 h1.2.1 h1.2.2 h0.2.1 h0.2.2
        have f4 := wr x3 x1 h2.1.1 h2.1.2 h0.1.1 h0.1.2
        have cC := fun (V : World) => cmp_Compare L R z hz V
        have CC := Lib.hid cC
        clear wr bnd cC hz CT CA0 CA1 CA2
        have N0 := Lib.hid (fun V : World => (spot_isNear x1 y1 V).1 h0)
        have N1 := Lib.hid (fun V : World => (spot_isNear x2 y2 V).1 h1)
        have N2 := Lib.hid (fun V : World => (spot_isNear x3 y3 V).1 h2)
        clear h0 h1 h2
        go_enter Tryd.func34, Tryd.ntmps34
        go_wp2_with fail
        try rw [hW]
        clear hW
        refine (N0.out _).mono ?_
        rintro e w1 ⟨rfl, c1⟩
        have B1 := c1
        obtain ⟨p00, p01⟩ := kept2 HK0.out B1
        obtain ⟨p10, p11⟩ := kept2 HK1.out B1
        obtain ⟨p20, p21⟩ := kept2 HK2.out B1
        go_wp2_with fail
        refine (N1.out _).mono ?_
        rintro e w2 ⟨rfl, c2⟩
        have B2 := B1.trans (c2.mono B1.size)
        obtain ⟨p00, p01⟩ := kept2 HK0.out B2
        obtain ⟨p10, p11⟩ := kept2 HK1.out B2
        obtain ⟨p20, p21⟩ := kept2 HK2.out B2
        go_wp2_with fail
        refine (N2.out _).mono ?_
        rintro e w3 ⟨rfl, c3⟩
        have B3 := B2.trans (c3.mono B2.size)
        obtain ⟨p00, p01⟩ := kept2 HK0.out B3
        obtain ⟨p10, p11⟩ := kept2 HK1.out B3
        obtain ⟨p20, p21⟩ := kept2 HK2.out B3
        go_wp2_with fail
        go_quiet (fail)
        go_wp2_with fail
        refine (CC.out _).mono ?_
        rintro e w4 ⟨rfl, rfl⟩
        go_wp2_with fail
        go_ret
        exact ⟨rfl, HB.out.trans ((below_drewN B3 _).mono HB.out.size)⟩
      · skip
        have N0 := Lib.hid (fun V : World => (spot_isNear x1 y1 V).1 h0)
        have N1 := Lib.hid (fun V : World => (spot_isNear x2 y2 V).1 h1)
        have N2 := Lib.hid (fun V : World => (spot_isNear x3 y3 V).2 h2)
        clear h0 h1 h2
        go_enter Tryd.func34, Tryd.ntmps34
        go_wp2_with fail
        try rw [hW]
        clear hW
        refine (N0.out _).mono ?_
        rintro e w1 ⟨rfl, c1⟩
        have B1 := c1
        obtain ⟨p00, p01⟩ := kept2 HK0.out B1
        obtain ⟨p10, p11⟩ := kept2 HK1.out B1
        obtain ⟨p20, p21⟩ := kept2 HK2.out B1
        go_wp2_with fail
        refine (N1.out _).mono ?_
        rintro e w2 ⟨rfl, c2⟩
        have B2 := B1.trans (c2.mono B1.size)
        obtain ⟨p00, p01⟩ := kept2 HK0.out B2
        obtain ⟨p10, p11⟩ := kept2 HK1.out B2
        obtain ⟨p20, p21⟩ := kept2 HK2.out B2
        go_wp2_with fail
        refine (N2.out _).mono ?_
        rintro e w3 ⟨rfl, c3⟩
        have B3 := B2.trans (c3.mono B2.size)
        obtain ⟨p00, p01⟩ := kept2 HK0.out B3
        obtain ⟨p10, p11⟩ := kept2 HK1.out B3
        obtain ⟨p20, p21⟩ := kept2 HK2.out B3
        go_wp2_with fail
        have J0 := Lib.hid (HK0.out.on B3)
        have J1 := Lib.hid (HK1.out.on B3)
        have J2 := Lib.hid (HK2.out.on B3)
        have K0 : Below w3.heap.size w3 w3.drew := below_drewN (Below.refl _ _) 1
        go_region_held3 (fun w' => (w'.cell? ⟨w.heap.size, 0, none⟩ = some (.int .i64 x1) ∧ w'.cell? ⟨w.heap.size, 1, none⟩ = some (.int .i64 y1)) ∧ (w'.cell? ⟨w.heap.size + 1, 0, none⟩ = some (.int .i64 x2) ∧ w'.cell? ⟨w.heap.size + 1, 1, none⟩ = some (.int .i64 y2)) ∧ (w'.cell? ⟨w.heap.size + 1 + 1, 0, none⟩ = some (.int .i64 x3) ∧ w'.cell? ⟨w.heap.size + 1 + 1, 1, none⟩ = some (.int .i64 y3)))
          (first | (with_reducible exact ⟨kept2 J0.out K0, kept2 J1.out K0, kept2 J2.out K0⟩) | (with_reducible exact ⟨kept2 J0.out K1, kept2 J1.out K1, kept2 J2.out K1⟩) | (with_reducible exact ⟨kept2 J0.out K2, kept2 J1.out K2, kept2 J2.out K2⟩) | (with_reducible exact ⟨kept2 J0.out K3, kept2 J1.out K3, kept2 J2.out K3⟩) | (with_reducible exact ⟨kept2 J0.out K4, kept2 J1.out K4, kept2 J2.out K4⟩) | go_keep)
          ((first
            | (go_at_call_of 45 (Value.int .i64 x1); (with_reducible refine Calls.mono (CA0.out _) ?_); rintro e w1 ⟨n51, a51, A51, c51, d51, D51, e51, n52, a52, A52, c52, d52, D52, e52, rfl, ⟨s51, s52⟩, ⟨r51, q51⟩, ⟨r52, q52⟩, b1⟩; have K1 := below_next K0 (Nat.le_refl _) b1)
            | (go_at_call_of 45 (Value.int .i64 x2); (with_reducible refine Calls.mono (CA1.out _) ?_); rintro e w2 ⟨n53, a53, A53, c53, d53, D53, e53, n54, a54, A54, c54, d54, D54, e54, rfl, ⟨s53, s54⟩, ⟨r53, q53⟩, ⟨r54, q54⟩, b2⟩; have K2 := below_next K1 (Nat.le_refl _) b2; have r51 := r51.on b2; have q51 := q51.on b2; have r52 := r52.on b2; have q52 := q52.on b2)
            | (go_at_call_of 45 (Value.int .i64 x3); (with_reducible refine Calls.mono (CA2.out _) ?_); rintro e w3 ⟨n55, a55, A55, c55, d55, D55, e55, n56, a56, A56, c56, d56, D56, e56, rfl, ⟨s55, s56⟩, ⟨r55, q55⟩, ⟨r56, q56⟩, b3⟩; have K3 := below_next K2 (Nat.le_refl _) b3; have r51 := r51.on b3; have q51 := q51.on b3; have r52 := r52.on b3; have q52 := q52.on b3; have r53 := r53.on b3; have q53 := q53.on b3; have r54 := r54.on b3; have q54 := q54.on b3)
            | (go_at_call 44; (with_reducible refine Calls.mono (CT.out n51 n52 n53 n54 n55 n56 a51 d51 a52 d52 a53 d53 a54 d54 a55 d55 a56 d56 A51 D51 A52 D52 A53 D53 A54 D54 A55 D55 A56 D56 c51 e51 c52 e52 c53 e53 c54 e54 c55 e55 c56 e56 _ s51 s52 s53 s54 s55 s56 r51 q51 r52 q52 r53 q53 r54 q54 r55 q55 r56 q56) ?_); rintro e w4 ⟨rfl, b4⟩; have K4 := below_next K3 (Nat.le_refl _) b4)))
        go_wp2_with fail
        go_ret
        exact ⟨rfl, HB.out.trans ((B3.trans (K4.mono B3.size)).mono HB.out.size)⟩
    · skip
      have N0 := Lib.hid (fun V : World => (spot_isNear x1 y1 V).1 h0)
      have N1 := Lib.hid (fun V : World => (spot_isNear x2 y2 V).2 h1)
      clear h0 h1
      go_enter Tryd.func34, Tryd.ntmps34
      go_wp2_with fail
      try rw [hW]
      clear hW
      refine (N0.out _).mono ?_
      rintro e w1 ⟨rfl, c1⟩
      have B1 := c1
      obtain ⟨p00, p01⟩ := kept2 HK0.out B1
      obtain ⟨p10, p11⟩ := kept2 HK1.out B1
      obtain ⟨p20, p21⟩ := kept2 HK2.out B1
      go_wp2_with fail
      refine (N1.out _).mono ?_
      rintro e w2 ⟨rfl, c2⟩
      have B2 := B1.trans (c2.mono B1.size)
      obtain ⟨p00, p01⟩ := kept2 HK0.out B2
      obtain ⟨p10, p11⟩ := kept2 HK1.out B2
      obtain ⟨p20, p21⟩ := kept2 HK2.out B2
      go_wp2_with fail
      have J0 := Lib.hid (HK0.out.on B2)
      have J1 := Lib.hid (HK1.out.on B2)
      have J2 := Lib.hid (HK2.out.on B2)
      have K0 : Below w2.heap.size w2 w2.drew := below_drewN (Below.refl _ _) 1
      go_region_held3 (fun w' => (w'.cell? ⟨w.heap.size, 0, none⟩ = some (.int .i64 x1) ∧ w'.cell? ⟨w.heap.size, 1, none⟩ = some (.int .i64 y1)) ∧ (w'.cell? ⟨w.heap.size + 1, 0, none⟩ = some (.int .i64 x2) ∧ w'.cell? ⟨w.heap.size + 1, 1, none⟩ = some (.int .i64 y2)) ∧ (w'.cell? ⟨w.heap.size + 1 + 1, 0, none⟩ = some (.int .i64 x3) ∧ w'.cell? ⟨w.heap.size + 1 + 1, 1, none⟩ = some (.int .i64 y3)))
        (first | (with_reducible exact ⟨kept2 J0.out K0, kept2 J1.out K0, kept2 J2.out K0⟩) | (with_reducible exact ⟨kept2 J0.out K1, kept2 J1.out K1, kept2 J2.out K1⟩) | (with_reducible exact ⟨kept2 J0.out K2, kept2 J1.out K2, kept2 J2.out K2⟩) | (with_reducible exact ⟨kept2 J0.out K3, kept2 J1.out K3, kept2 J2.out K3⟩) | (with_reducible exact ⟨kept2 J0.out K4, kept2 J1.out K4, kept2 J2.out K4⟩) | go_keep)
        ((first
          | (go_at_call_of 45 (Value.int .i64 x1); (with_reducible refine Calls.mono (CA0.out _) ?_); rintro e w1 ⟨n51, a51, A51, c51, d51, D51, e51, n52, a52, A52, c52, d52, D52, e52, rfl, ⟨s51, s52⟩, ⟨r51, q51⟩, ⟨r52, q52⟩, b1⟩; have K1 := below_next K0 (Nat.le_refl _) b1)
          | (go_at_call_of 45 (Value.int .i64 x2); (with_reducible refine Calls.mono (CA1.out _) ?_); rintro e w2 ⟨n53, a53, A53, c53, d53, D53, e53, n54, a54, A54, c54, d54, D54, e54, rfl, ⟨s53, s54⟩, ⟨r53, q53⟩, ⟨r54, q54⟩, b2⟩; have K2 := below_next K1 (Nat.le_refl _) b2; have r51 := r51.on b2; have q51 := q51.on b2; have r52 := r52.on b2; have q52 := q52.on b2)
          | (go_at_call_of 45 (Value.int .i64 x3); (with_reducible refine Calls.mono (CA2.out _) ?_); rintro e w3 ⟨n55, a55, A55, c55, d55, D55, e55, n56, a56, A56, c56, d56, D56, e56, rfl, ⟨s55, s56⟩, ⟨r55, q55⟩, ⟨r56, q56⟩, b3⟩; have K3 := below_next K2 (Nat.le_refl _) b3; have r51 := r51.on b3; have q51 := q51.on b3; have r52 := r52.on b3; have q52 := q52.on b3; have r53 := r53.on b3; have q53 := q53.on b3; have r54 := r54.on b3; have q54 := q54.on b3)
          | (go_at_call 44; (with_reducible refine Calls.mono (CT.out n51 n52 n53 n54 n55 n56 a51 d51 a52 d52 a53 d53 a54 d54 a55 d55 a56 d56 A51 D51 A52 D52 A53 D53 A54 D54 A55 D55 A56 D56 c51 e51 c52 e52 c53 e53 c54 e54 c55 e55 c56 e56 _ s51 s52 s53 s54 s55 s56 r51 q51 r52 q52 r53 q53 r54 q54 r55 q55 r56 q56) ?_); rintro e w4 ⟨rfl, b4⟩; have K4 := below_next K3 (Nat.le_refl _) b4)))
      go_wp2_with fail
      go_ret
      exact ⟨rfl, HB.out.trans ((B2.trans (K4.mono B2.size)).mono HB.out.size)⟩
  · skip
    have N0 := Lib.hid (fun V : World => (spot_isNear x1 y1 V).2 h0)
    clear h0
    go_enter Tryd.func34, Tryd.ntmps34
    go_wp2_with fail
    try rw [hW]
    clear hW
    refine (N0.out _).mono ?_
    rintro e w1 ⟨rfl, c1⟩
    have B1 := c1
    obtain ⟨p00, p01⟩ := kept2 HK0.out B1
    obtain ⟨p10, p11⟩ := kept2 HK1.out B1
    obtain ⟨p20, p21⟩ := kept2 HK2.out B1
    go_wp2_with fail
    have J0 := Lib.hid (HK0.out.on B1)
    have J1 := Lib.hid (HK1.out.on B1)
    have J2 := Lib.hid (HK2.out.on B1)
    have K0 : Below w1.heap.size w1 w1.drew := below_drewN (Below.refl _ _) 1
    go_region_held3 (fun w' => (w'.cell? ⟨w.heap.size, 0, none⟩ = some (.int .i64 x1) ∧ w'.cell? ⟨w.heap.size, 1, none⟩ = some (.int .i64 y1)) ∧ (w'.cell? ⟨w.heap.size + 1, 0, none⟩ = some (.int .i64 x2) ∧ w'.cell? ⟨w.heap.size + 1, 1, none⟩ = some (.int .i64 y2)) ∧ (w'.cell? ⟨w.heap.size + 1 + 1, 0, none⟩ = some (.int .i64 x3) ∧ w'.cell? ⟨w.heap.size + 1 + 1, 1, none⟩ = some (.int .i64 y3)))
      (first | (with_reducible exact ⟨kept2 J0.out K0, kept2 J1.out K0, kept2 J2.out K0⟩) | (with_reducible exact ⟨kept2 J0.out K1, kept2 J1.out K1, kept2 J2.out K1⟩) | (with_reducible exact ⟨kept2 J0.out K2, kept2 J1.out K2, kept2 J2.out K2⟩) | (with_reducible exact ⟨kept2 J0.out K3, kept2 J1.out K3, kept2 J2.out K3⟩) | (with_reducible exact ⟨kept2 J0.out K4, kept2 J1.out K4, kept2 J2.out K4⟩) | go_keep)
      ((first
        | (go_at_call_of 45 (Value.int .i64 x1); (with_reducible refine Calls.mono (CA0.out _) ?_); rintro e w1 ⟨n51, a51, A51, c51, d51, D51, e51, n52, a52, A52, c52, d52, D52, e52, rfl, ⟨s51, s52⟩, ⟨r51, q51⟩, ⟨r52, q52⟩, b1⟩; have K1 := below_next K0 (Nat.le_refl _) b1)
        | (go_at_call_of 45 (Value.int .i64 x2); (with_reducible refine Calls.mono (CA1.out _) ?_); rintro e w2 ⟨n53, a53, A53, c53, d53, D53, e53, n54, a54, A54, c54, d54, D54, e54, rfl, ⟨s53, s54⟩, ⟨r53, q53⟩, ⟨r54, q54⟩, b2⟩; have K2 := below_next K1 (Nat.le_refl _) b2; have r51 := r51.on b2; have q51 := q51.on b2; have r52 := r52.on b2; have q52 := q52.on b2)
        | (go_at_call_of 45 (Value.int .i64 x3); (with_reducible refine Calls.mono (CA2.out _) ?_); rintro e w3 ⟨n55, a55, A55, c55, d55, D55, e55, n56, a56, A56, c56, d56, D56, e56, rfl, ⟨s55, s56⟩, ⟨r55, q55⟩, ⟨r56, q56⟩, b3⟩; have K3 := below_next K2 (Nat.le_refl _) b3; have r51 := r51.on b3; have q51 := q51.on b3; have r52 := r52.on b3; have q52 := q52.on b3; have r53 := r53.on b3; have q53 := q53.on b3; have r54 := r54.on b3; have q54 := q54.on b3)
        | (go_at_call 44; (with_reducible refine Calls.mono (CT.out n51 n52 n53 n54 n55 n56 a51 d51 a52 d52 a53 d53 a54 d54 a55 d55 a56 d56 A51 D51 A52 D52 A53 D53 A54 D54 A55 D55 A56 D56 c51 e51 c52 e52 c53 e53 c54 e54 c55 e55 c56 e56 _ s51 s52 s53 s54 s55 s56 r51 q51 r52 q52 r53 q53 r54 q54 r55 q55 r56 q56) ?_); rintro e w4 ⟨rfl, b4⟩; have K4 := below_next K3 (Nat.le_refl _) b4)))
    go_wp2_with fail
    go_ret
    exact ⟨rfl, HB.out.trans ((B1.trans (K4.mono B1.size)).mono HB.out.size)⟩
end Go.Proofs.YtngnclibeccplaaDoor
