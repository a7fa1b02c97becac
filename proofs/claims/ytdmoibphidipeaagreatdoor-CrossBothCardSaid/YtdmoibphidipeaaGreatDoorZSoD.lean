/- Spots, the program's own: what Turns, Side and Text answer; the law's first call. -/
import Derived.Test.YtdmoibphidipeaaGreatDoorZOaI
import Derived.Lib.QuietBelow
import Derived.BigQuiet
import Derived.Deep.RegionHeld3
import Derived.IntWalk
import Derived.Test.YtdmoibphidipeaaGreatDoorZSoC
namespace Go.Proofs.YtdmoibphidipeaaGreatDoor
open Go.RowKit Num
open Go.Sort (grow)

/-- an int as a fraction that is handed in -/
theorem SF.toInt {P : Int} (hP : P.natAbs < 4294967296 ^ 2) {n : Bool} {a d : List Nat} {ca cd : Nat} (k : SF P 1 n a ca d cd) : SI P 1 2 n a ca d cd := by
  have h := (k.toR (m := 2) (by omega) hP (by decide)).toI
  have hd : val 4294967296 d = 1 := by have := k.2.2.2.2.2.2; rw [this]; simp
  have hr := (k.toR (m := 2) (by omega) hP (by decide)).2.2.2.2.2.2.2
  rw [hd] at h hr
  rw [show wv n a = P by simpa using hr] at h
  exact h
theorem int_small {x : Int} (h1 : -9223372036854775808 ≤ x) (h2 : x ≤ 9223372036854775807) : x.natAbs < 4294967296 ^ 2 := by
  have : (4294967296 : Nat) ^ 2 = 18446744073709551616 := by decide
  rw [this]; omega
theorem spot_AtI (x y : Int) (hx1 : -9223372036854775808 ≤ x) (hx2 : x ≤ 9223372036854775807) (hy1 : -9223372036854775808 ≤ y) (hy2 : y ≤ 9223372036854775807) (w : World) : Calls Tryz.prog 50 #[.agg #[.int .i64 x, .int .i64 y]] w (Gs (SI x 1 2) (SI y 1 2) w) :=
  (spot_At (SF x 1) (SF y 1) x y (fun V => frac_Int x hx1 hx2 V) (fun V => frac_Int y hy1 hy2 V) w).mono fun _ _ => Gs.imp (fun _ _ _ _ _ => SF.toInt (int_small hx1 hx2)) (fun _ _ _ _ _ => SF.toInt (int_small hy1 hy2))
/-- an int of the machine -/
def In (x : Int) : Prop := -9223372036854775808 ≤ x ∧ x ≤ 9223372036854775807

end Go.Proofs.YtdmoibphidipeaaGreatDoor
/- Spots, the program's own: what Side and Text answer; the law's last call. -/

namespace Go.Proofs.YtdmoibphidipeaaGreatDoor
open Go.RowKit Num
open Go.Sort (grow)

set_option maxRecDepth 100000 in
set_option maxHeartbeats 12800000 in
/-- on which side of a way of the grid a spot is -/
theorem spot_Side (x1 y1 x2 y2 z : Int) {P5 P6 : Int} {Q5 Q6 m5 m6 : Nat} (g5 : 1 ≤ m5) (g6 : 1 ≤ m6) (hs : m5 + m6 ≤ 4194000) (hz : sgn (det x1 y1 x2 y2 P5 P6 1 1 1 1 Q5 Q6) = z) (n5 n6 : Bool) (a5 d5 a6 d6 : List Nat) (A5 D5 A6 D6 : Option Addr) (c5 e5 c6 e6 : Nat) (w : World) (i1 : In x1) (j1 : In y1) (i2 : In x2) (j2 : In y2) (s5 : SI P5 Q5 m5 n5 a5 c5 d5 e5) (s6 : SI P6 Q6 m6 n6 a6 c6 d6 e6) (r5 : Rd w (fun g => g < w.heap.size) .u32 A5 a5) (q5 : Rd w (fun g => g < w.heap.size) .u32 D5 d5) (r6 : Rd w (fun g => g < w.heap.size) .u32 A6 a6) (q6 : Rd w (fun g => g < w.heap.size) .u32 D6 d6) :
    Calls Tryz.prog 17 #[.agg #[.int .i64 x1, .int .i64 y1], .agg #[.int .i64 x2, .int .i64 y2], .agg #[.bool n5, .slice A5 a5.length c5, .slice D5 d5.length e5, .bool n6, .slice A6 a6.length c6, .slice D6 d6.length e6]] w fun e w' => e = .returned (.int .i64 z) ∧ Below w.heap.size w w' := by
  obtain ⟨W, hW, k100, k101, k102, b0, s0⟩ := bxc w 23 23 41 [.int .i64 x1, .int .i64 y1] [.int .i64 x2, .int .i64 y2] [.bool n5, .slice A5 a5.length c5, .slice D5 d5.length e5, .bool n6, .slice A6 a6.length c6, .slice D6 d6.length e6]
  obtain ⟨p00, p01, -, -⟩ := k100.facts2
  obtain ⟨p10, p11, -, -⟩ := k101.facts2
  obtain ⟨⟨p20, p21, p22, p23, p24, p25⟩, -⟩ := k102.facts6
  have CA0 := Lib.hid (fun V : World => spot_AtI x1 y1 i1.1 i1.2 j1.1 j1.2 V)
  have CA1 := Lib.hid (fun V : World => spot_AtI x2 y2 i2.1 i2.2 j2.1 j2.2 V)
  have CT := Lib.hid (fun (n51 n52 n53 n54 : Bool) (a51 d51 a52 d52 a53 d53 a54 d54 : List Nat) (A51 D51 A52 D52 A53 D53 A54 D54 : Option Addr) (c51 e51 c52 e52 c53 e53 c54 e54 : Nat) (V : World) (hV : Below W.heap.size W V) (s51 : SI x1 1 2 n51 a51 c51 d51 e51) (s52 : SI y1 1 2 n52 a52 c52 d52 e52) (s53 : SI x2 1 2 n53 a53 c53 d53 e53) (s54 : SI y2 1 2 n54 a54 c54 d54 e54) (r51 : Rd V (fun g => g < V.heap.size) .u32 A51 a51) (q51 : Rd V (fun g => g < V.heap.size) .u32 D51 d51) (r52 : Rd V (fun g => g < V.heap.size) .u32 A52 a52) (q52 : Rd V (fun g => g < V.heap.size) .u32 D52 d52) (r53 : Rd V (fun g => g < V.heap.size) .u32 A53 a53) (q53 : Rd V (fun g => g < V.heap.size) .u32 D53 d53) (r54 : Rd V (fun g => g < V.heap.size) .u32 A54 a54) (q54 : Rd V (fun g => g < V.heap.size) .u32 D54 d54) => by
    have h := spot_Turn (by omega) (by omega) (by omega) (by omega) g5 g6 (by omega) n51 n52 n53 n54 n5 n6 a51 d51 a52 d52 a53 d53 a54 d54 a5 d5 a6 d6 A51 D51 A52 D52 A53 D53 A54 D54 A5 D5 A6 D6 c51 e51 c52 e52 c53 e53 c54 e54 c5 e5 c6 e6 V s51 s52 s53 s54 s5 s6 r51 q51 r52 q52 r53 q53 r54 q54 ((r5.on b0).on hV) ((q5.on b0).on hV) ((r6.on b0).on hV) ((q6.on b0).on hV)
    rwa [hz] at h)
  have HK0 := Lib.hid k100
  have HK1 := Lib.hid k101
  have HK2 := Lib.hid k102
  have HB := Lib.hid b0
  have K0 : Below W.heap.size W W.drew := below_drewN (Below.refl _ _) 1
  clear hz k100 k101 k102 b0 s0 s5 r5 q5 s6 r6 q6
  go_enter Tryz.func17, Tryz.ntmps17
  go_wp2_with fail
  try rw [hW]
  clear hW
  go_region_held3 (fun w' => (w'.cell? ⟨w.heap.size, 0, none⟩ = some (.int .i64 x1) ∧ w'.cell? ⟨w.heap.size, 1, none⟩ = some (.int .i64 y1)) ∧ (w'.cell? ⟨w.heap.size + 1, 0, none⟩ = some (.int .i64 x2) ∧ w'.cell? ⟨w.heap.size + 1, 1, none⟩ = some (.int .i64 y2)) ∧ (w'.cell? ⟨w.heap.size + 1 + 1, 0, none⟩ = some (.bool n5) ∧ w'.cell? ⟨w.heap.size + 1 + 1, 1, none⟩ = some (.slice A5 a5.length c5) ∧ w'.cell? ⟨w.heap.size + 1 + 1, 2, none⟩ = some (.slice D5 d5.length e5) ∧ w'.cell? ⟨w.heap.size + 1 + 1, 3, none⟩ = some (.bool n6) ∧ w'.cell? ⟨w.heap.size + 1 + 1, 4, none⟩ = some (.slice A6 a6.length c6) ∧ w'.cell? ⟨w.heap.size + 1 + 1, 5, none⟩ = some (.slice D6 d6.length e6)))
    (first | (with_reducible exact ⟨kept2 HK0.out K0, kept2 HK1.out K0, kept6 HK2.out K0⟩) | (with_reducible exact ⟨kept2 HK0.out K1, kept2 HK1.out K1, kept6 HK2.out K1⟩) | (with_reducible exact ⟨kept2 HK0.out K2, kept2 HK1.out K2, kept6 HK2.out K2⟩) | (with_reducible exact ⟨kept2 HK0.out K3, kept2 HK1.out K3, kept6 HK2.out K3⟩) | go_keep)
    ((first
      | (go_at_call_of 50 (Value.int .i64 x1); (with_reducible refine Calls.mono (CA0.out _) ?_); rintro e w1 ⟨n51, a51, A51, c51, d51, D51, e51, n52, a52, A52, c52, d52, D52, e52, rfl, ⟨s51, s52⟩, ⟨r51, q51⟩, ⟨r52, q52⟩, b1⟩; have K1 := below_next K0 (Nat.le_refl _) b1)
      | (go_at_call_of 50 (Value.int .i64 x2); (with_reducible refine Calls.mono (CA1.out _) ?_); rintro e w2 ⟨n53, a53, A53, c53, d53, D53, e53, n54, a54, A54, c54, d54, D54, e54, rfl, ⟨s53, s54⟩, ⟨r53, q53⟩, ⟨r54, q54⟩, b2⟩; have K2 := below_next K1 (Nat.le_refl _) b2; have r51 := r51.on b2; have q51 := q51.on b2; have r52 := r52.on b2; have q52 := q52.on b2)
      | (go_at_call 52; (with_reducible refine Calls.mono (CT.out n51 n52 n53 n54 a51 d51 a52 d52 a53 d53 a54 d54 A51 D51 A52 D52 A53 D53 A54 D54 c51 e51 c52 e52 c53 e53 c54 e54 _ K2 s51 s52 s53 s54 r51 q51 r52 q52 r53 q53 r54 q54) ?_); rintro e w3 ⟨rfl, b3⟩; have K3 := below_next K2 (Nat.le_refl _) b3)))
  go_wp2_with fail
  go_ret
  exact ⟨rfl, HB.out.trans (K3.mono HB.out.size)⟩

theorem SF.words {P : Int} {n : Bool} {a d : List Nat} {ca cd : Nat} (hP : P.natAbs < 4294967296) (k : SF P 1 n a ca d cd) : SI P 1 1 n a ca d cd := by
  have h := (k.toR (m := 1) (by omega) (by simpa using hP) (by decide)).toI
  have hd : val 4294967296 d = 1 := by have := k.2.2.2.2.2.2; rw [this]; simp
  have hr := (k.toR (m := 1) (by omega) (by simpa using hP) (by decide)).2.2.2.2.2.2.2
  rw [hd] at h hr
  rw [show wv n a = P by simpa using hr] at h
  exact h
end Go.Proofs.YtdmoibphidipeaaGreatDoor
/- The law SpotRows: its walk. -/

namespace Go.Proofs.YtdmoibphidipeaaGreatDoor
open Go.RowKit Num rows
open Go.Sort (grow)

theorem rv_SameG (P : Int) (Q k : Nat) (hk : k ≤ 4611686018427387904) : Fb2 64 (SG P Q k) (SG P Q k) true :=
  fun n n' a d a' d' A D A' D' ca cd ca' cd' w hS hT r q r' q' => by
    obtain ⟨rfl, rfl, rfl⟩ := SG.same hS hT
    exact ref4_same_true n a d A D A' D' ca cd ca' cd' w r q r' q' (Nat.le_trans hS.2.1 hk) (Nat.le_trans hS.2.2 hk)
theorem SG.turn {P P' : Int} {Q Q' m : Nat} (hQ : 0 < Q) (hQ' : 0 < Q') (h : P * (Q' : Int) = P' * (Q : Int)) {n : Bool} {a d : List Nat} {ca cd : Nat} (k : SG P Q m n a ca d cd) : SG P' Q' m n a ca d cd := ⟨k.1.conv hQ hQ' h, k.2⟩
end Go.Proofs.YtdmoibphidipeaaGreatDoor
