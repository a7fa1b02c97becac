/- Maps of the plane: the document's own Near and one: sums of products, exactly, to the nearest whole number. -/
import Derived.Test.YtemipepahglndaaZAfW
import Derived.Test.YtemipepahglndaaZFpV
import Derived.Test.YtemipepahglndaaZFrZ
import Derived.Test.YtemipepahglndaaZWrF
import Derived.Deep.RegionHeld3
import Derived.Test.YtemipepahglndaaZAgX
namespace Go.Proofs.Ytemipepahglndaa
open Go.RowKit Num

/-- an int's fraction, a half -/
theorem rv_Int (n : Int) (hn1 : -9223372036854775808 ≤ n) (hn2 : n ≤ 9223372036854775807) (w : World) : Calls Try.prog 28 #[.int .i64 n] w (Gv (SF n 1) w) :=
  (ref4_Int n hn1 hn2 w).mono fun _ _ h => gv_of_f h
theorem rv_HalfOne (w : World) : Calls Try.prog 42 #[] w (Gv (SF 1 2) w) :=
  (ref4_Half w).mono fun _ _ h => gv_of_f h
theorem wv_own {N : Int} {x : List Nat} (h : val 4294967296 x = N.natAbs) : wv (decide (N < 0)) x = N := by
  by_cases hn : N < 0
  · rw [decide_eq_true hn, wv_true, h]; omega
  · rw [decide_eq_false hn, wv_false, h]; omega
theorem low3 {A : Prop} {v w : World} (h : A ∧ Below v.heap.size v w) : Below v.heap.size v w := h.2
theorem keep3w {W V V' : World} {g : Nat} {x y z : Value} (hg : g < W.heap.size) (h : (V.cell? ⟨g, 0, none⟩ = some x ∧ V.cell? ⟨g, 1, none⟩ = some y ∧ V.cell? ⟨g, 2, none⟩ = some z) ∧ Below W.heap.size W V) (hb : Below V.heap.size V V') :
    (V'.cell? ⟨g, 0, none⟩ = some x ∧ V'.cell? ⟨g, 1, none⟩ = some y ∧ V'.cell? ⟨g, 2, none⟩ = some z) ∧ Below W.heap.size W V' := by
  have hs := h.2.size
  have e : ∀ j, V'.cell? ⟨g, j, none⟩ = V.cell? ⟨g, j, none⟩ := fun j => hb.cell (p := ⟨g, j, none⟩) (by show g < _; omega)
  exact ⟨⟨(e 0).trans h.1.1, (e 1).trans h.1.2.1, (e 2).trans h.1.2.2⟩, h.2.trans (hb.mono hs)⟩

set_option maxRecDepth 10000 in
set_option maxHeartbeats 3200000 in
theorem ref10_Near (P : Int) (hP : P.natAbs ≤ 1099511627776) (n : Bool) (a d : List Nat) (A D : Option Addr) (ca cd : Nat) (w : World) (hS : SV P 256 2 n a ca d cd) (r : Rd w (fun g => g < w.heap.size) .u32 A a) (q : Rd w (fun g => g < w.heap.size) .u32 D d) :
    Calls Try.prog 30 #[.agg #[.bool n, .slice A a.length ca, .slice D d.length cd]] w fun e w' => e = .returned (.int .i64 (nearN P)) ∧ Below w.heap.size w w' := by
  obtain ⟨W, hW, kW, B0⟩ : ∃ W, w.alloc (.cells #[.bool n, .slice A a.length ca, .slice D d.length cd] 61) = W ∧ Box W w.heap.size 61 [.bool n, .slice A a.length ca, .slice D d.length cd] ∧ Below w.heap.size w W := ⟨_, rfl, Box.new w _ [.bool n, .slice A a.length ca, .slice D d.length cd], (Below.refl _ _).alloc (Nat.le_refl _) _⟩
  have cA := Lib.hid (rv_Add P 1 256 2 2 (by omega) (by omega) (by omega))
  have cF := Lib.hid (rv_Floor (P * ((2 : Nat) : Int) + 1 * ((256 : Nat) : Int)) (256 * 2) 2 (by omega) (by omega))
  have hN : (P * ((2 : Nat) : Int) + 1 * ((256 : Nat) : Int)) / ((256 * 2 : Nat) : Int) = nearN P := by unfold nearN; omega
  have hNb : -9223372036854775808 ≤ nearN P ∧ nearN P ≤ 9223372036854775807 := by unfold nearN; omega
  rw [hN] at cF
  have HS := Lib.hid hS
  have hV1 := Lib.hid (fun n' a' ca' d' cd' (k : SF 1 2 n' a' ca' d' cd') => SF.toV (m := 2) (by omega) (by decide) (by decide) k)
  have e2 : (P * ((2 : Nat) : Int) + 1 * ((256 : Nat) : Int)).natAbs < 4294967296 ^ 2 := by
    have e : (4294967296 : Nat) ^ 2 = 18446744073709551616 := by decide
    rw [e]
    omega
  have hV2 := Lib.hid (fun n' a' ca' d' cd' (k : SF (P * ((2 : Nat) : Int) + 1 * ((256 : Nat) : Int)) (256 * 2) n' a' ca' d' cd') => SF.toV (m := 2) (by omega) e2 (by decide) k)
  have rW := Lib.hid (fun V (hV : Below W.heap.size W V) => And.intro ((r.on B0).on hV) ((q.on B0).on hV))
  have HI := Lib.hid (fun (xs : List Nat) (X : Option Addr) (cx : Nat) (V : World) (hn : Norm 4294967296 xs) (hv : val 4294967296 xs = (nearN P).natAbs) (hx : Rd V (fun g => g < V.heap.size) .u32 X xs) => show Calls Try.prog 40 #[.agg #[.bool (decide (nearN P < 0)), .slice X xs.length cx]] V (fun e w' => e = .returned (.tuple #[.int .i64 (nearN P), .bool true]) ∧ Below V.heap.size V w') from by
    refine (ref2_Int _ xs X cx V hx ?_ hn.1).mono ?_
    · have e3 : (4294967296 : Nat) ^ 3 = 79228162514264337593543950336 := by decide
      have : xs.length ≤ 3 := hn.2.length_le (b := 4294967296) (by omega) (by rw [hv, e3]; omega)
      omega
    · rintro e w' ⟨he, hb⟩
      rw [wv_own hv, (isInt_yes hNb.1 hNb.2).1, (isInt_yes hNb.1 hNb.2).2] at he
      exact ⟨he, hb⟩)
  have HB0 := Lib.hid B0
  have hlt := kW.lt
  have HW := Lib.hid hW
  obtain ⟨p0, p1, p2⟩ := show W.cell? ⟨w.heap.size, 0, none⟩ = some (.bool n) ∧ W.cell? ⟨w.heap.size, 1, none⟩ = some (.slice A a.length ca) ∧ W.cell? ⟨w.heap.size, 2, none⟩ = some (.slice D d.length cd) from ⟨kW.cell 0 rfl, kW.cell 1 rfl, kW.cell 2 rfl⟩
  have HP := Lib.hid (show (W.drew.cell? ⟨w.heap.size, 0, none⟩ = some (.bool n) ∧ W.drew.cell? ⟨w.heap.size, 1, none⟩ = some (.slice A a.length ca) ∧ W.drew.cell? ⟨w.heap.size, 2, none⟩ = some (.slice D d.length cd)) ∧ Below W.heap.size W W.drew from ⟨⟨p0, p1, p2⟩, below_drewN (Below.refl _ _) 1⟩)
  clear hP hN hNb hS r q B0 hW kW e2
  go_enter Try.func30, Try.ntmps30
  go_wp2_with fail
  rw [HW.out]
  go_region_held3 (fun w' => (w'.cell? ⟨w.heap.size, 0, none⟩ = some (.bool n) ∧ w'.cell? ⟨w.heap.size, 1, none⟩ = some (.slice A a.length ca) ∧ w'.cell? ⟨w.heap.size, 2, none⟩ = some (.slice D d.length cd)) ∧ Below W.heap.size W w')
    (first | (with_reducible exact HP.out) | (with_reducible exact keep3w hlt (by assumption) b6))
    ((first
      | (go_at_call 42; (with_reducible refine Calls.mono (rv_HalfOne _) ?_); rintro e w1 ⟨n1, a1, A1, ca1, d1, D1, cd1, rfl, s1, r1, q1, b6⟩)
      | (go_at_call 26; (with_reducible refine Calls.mono (cA.out n n1 a d a1 d1 A D A1 D1 ca cd ca1 cd1 w1 HS.out (hV1.out _ _ _ _ _ s1) (rW.out w1 (low3 (by assumption))).1 (rW.out w1 (low3 (by assumption))).2 r1 q1) ?_); rintro e w2 ⟨n2, a2, A2, ca2, d2, D2, cd2, rfl, s2, r2, q2, b6⟩)
      | (go_at_call 41; (with_reducible refine Calls.mono (cF.out n2 a2 d2 A2 D2 ca2 cd2 w2 (hV2.out _ _ _ _ _ s2) r2 q2) ?_); rintro e w3 ⟨X, xs, cx, rfl, hcx, hnx, hvx, rx, b6⟩)
      | (go_at_call 40; (with_reducible refine Calls.mono (HI.out xs X cx w3 hnx hvx rx) ?_); rintro e w4 ⟨rfl, b6⟩)))
  all_goals
    rename_i hHeld
    obtain ⟨-, hB⟩ := hHeld
    go_wp2_with fail
    go_ret
    exact ⟨rfl, HB0.out.trans (hB.mono HB0.out.size)⟩
end Go.Proofs.Ytemipepahglndaa
/- Maps of the plane: a fraction by 256. -/

namespace Go.Proofs.Ytemipepahglndaa
open Go.RowKit Num

theorem cross256 {u d d' P Q : Int} (h : u * Q = P * d) : u * d' * (Q * 256) = P * (256 * d' * d) := by
  have e : u * d' * (Q * 256) = u * Q * (d' * 256) := by ac_rfl
  rw [e, h]
  ac_rfl
/-- a fraction by 256 -/
theorem rv_Div256 (P : Int) (Q m : Nat) (hQ : 0 < Q) (hm : m ≤ 2097152) (n n' : Bool) (a d a' d' : List Nat) (A D A' D' : Option Addr) (ca cd ca' cd' : Nat) (w : World) (hS : SV P Q m n a ca d cd) (hT : SV 256 1 m n' a' ca' d' cd')
    (r : Rd w (fun g => g < w.heap.size) .u32 A a) (q : Rd w (fun g => g < w.heap.size) .u32 D d) (r' : Rd w (fun g => g < w.heap.size) .u32 A' a') (q' : Rd w (fun g => g < w.heap.size) .u32 D' d') :
    Calls Try.prog 29 #[.agg #[.bool n, .slice A a.length ca, .slice D d.length cd], .agg #[.bool n', .slice A' a'.length ca', .slice D' d'.length cd']] w
      (fun e w' => ∃ v, e = .returned (.tuple #[v, .int .i64 0]) ∧ Gv (SF P (Q * 256)) w (.returned v) w') := by
  refine (ref4_Div n n' a d a' d' A D A' D' ca cd ca' cd' w r q r' q' (Nat.le_trans hS.2.2.2.2.1 hm) (Nat.le_trans hS.2.2.2.2.2.1 hm) (Nat.le_trans hT.2.2.2.2.1 hm) (Nat.le_trans hT.2.2.2.2.2.1 hm) hS.2.2.1 hS.2.2.2.1 hT.2.2.1 hT.2.2.2.1).mono ?_
  intro e w' h
  have hd := loD_pos d
  have hd' := loD_pos d'
  have hT7 : upN n' a' d' = 256 * (loD d' : Int) := by have := hT.2.2.2.2.2.2; omega
  have hS7 := hS.2.2.2.2.2.2
  have hpos : 0 < 256 * (loD d' : Int) * (loD d : Int) := Int.mul_pos (by omega) (by omega)
  rw [hT7] at h
  have hN : ((256 * (loD d' : Int) * (loD d : Int)).natAbs : Int) = 256 * (loD d' : Int) * (loD d : Int) := Int.natAbs_of_nonneg (by omega)
  have hA : acrossN (upN n a d * (loD d' : Int)) (256 * (loD d' : Int) * (loD d : Int)) = upN n a d * (loD d' : Int) := by unfold acrossN; rw [if_neg (by omega)]
  rw [hA] at h
  rcases h with ⟨h0, -, -⟩ | ⟨h0, v, rfl, h⟩
  · exact absurd h0 (by omega)
  · refine ⟨v, rfl, gv_of_f (h.conv h0 (by omega) ?_)⟩
    rw [hN, Int.natCast_mul]
    exact cross256 hS7
end Go.Proofs.Ytemipepahglndaa
/- Maps of the plane: the document's own one coordinate. -/

namespace Go.Proofs.Ytemipepahglndaa
open Go.RowKit Num

theorem pow32_2 : (4294967296 : Nat) ^ 2 = 18446744073709551616 := by decide
/-- of an int -/
theorem sv_int {n : Int} (h1 : -9223372036854775808 ≤ n) (h2 : n ≤ 9223372036854775807) {n' : Bool} {a d : List Nat} {ca cd : Nat} (k : SF n 1 n' a ca d cd) : SV n 1 2 n' a ca d cd :=
  SF.toV (by omega) (by rw [pow32_2]; omega) (by rw [pow32_2]; omega) k

theorem freshB {V V' : World} {t : TypeId} {x y z : Value} (b : Below (V.alloc (.cells #[x, y, z] t)).heap.size (V.alloc (.cells #[x, y, z] t)) V') : Blk V' V.heap.size t [x, y, z] :=
  (Blk.new V t [x, y, z]).below b (Blk.new V t [x, y, z]).lt
theorem endA (v : World) (t : TypeId) (n : Bool) {a d : List Nat} {A D : Option Addr} (ca cd : Nat) (r : Rd v (fun g => g < v.heap.size) .u32 A a) (q : Rd v (fun g => g < v.heap.size) .u32 D d) :
    ∃ Z, v.alloc (.cells #[.bool n, .slice A a.length ca, .slice D d.length cd] t) = Z ∧ Z.cell? ⟨v.heap.size, 0, none⟩ = some (.bool n) ∧ Z.cell? ⟨v.heap.size, 1, none⟩ = some (.slice A a.length ca) ∧ Z.cell? ⟨v.heap.size, 2, none⟩ = some (.slice D d.length cd) ∧ Rd Z (fun g => g < Z.heap.size) .u32 A a ∧ Rd Z (fun g => g < Z.heap.size) .u32 D d := by
  have k := Blk.new v t [.bool n, .slice A a.length ca, .slice D d.length cd]
  have b := (Below.refl v.heap.size v).alloc (Nat.le_refl _) (.cells #[.bool n, .slice A a.length ca, .slice D d.length cd] t)
  exact ⟨_, rfl, k.cell 0 rfl, k.cell 1 rfl, k.cell 2 rfl, r.on b, q.on b⟩
theorem endB {v : World} {g : Nat} {t : TypeId} (k : Blk v g t [.bool false, .slice none 0 0, .slice none 0 0]) (n : Bool) {a d : List Nat} {A D : Option Addr} (ca cd : Nat) (r : Rd v (fun g => g < v.heap.size) .u32 A a) (q : Rd v (fun g => g < v.heap.size) .u32 D d) :
    ∃ Z, ((v.setCell ⟨g, 0, none⟩ (.bool n)).setCell ⟨g, 1, none⟩ (.slice A a.length ca)).setCell ⟨g, 2, none⟩ (.slice D d.length cd) = Z ∧ Z.cell? ⟨g, 0, none⟩ = some (.bool n) ∧ Z.cell? ⟨g, 1, none⟩ = some (.slice A a.length ca) ∧ Z.cell? ⟨g, 2, none⟩ = some (.slice D d.length cd) ∧ Rd Z (fun g => g < Z.heap.size) .u32 A a ∧ Rd Z (fun g => g < Z.heap.size) .u32 D d := by
  obtain ⟨U, hU, u0, u1, u2, -, -, -, -⟩ := k.three (.bool n) (.slice A a.length ca) (.slice D d.length cd)
  exact ⟨U, hU, u0, u1, u2, r.far3 k _ _ _ hU, q.far3 k _ _ _ hU⟩
theorem freshD {V V' : World} {t : TypeId} {x y z : Value} (b : Below (V.alloc (.cells #[x, y, z] t)).drew.heap.size (V.alloc (.cells #[x, y, z] t)).drew V') : Blk V' V.heap.size t [x, y, z] := by
  have k : Blk (V.alloc (.cells #[x, y, z] t)).drew V.heap.size t [x, y, z] := (Blk.new V t [x, y, z]).drewN 1
  exact k.below b k.lt
theorem keep3y {W V : World} {g g' : Nat} {x y z u0 u1 u2 : Value} (hg : g < W.heap.size) (h : (V.cell? ⟨g, 0, none⟩ = some x ∧ V.cell? ⟨g, 1, none⟩ = some y ∧ V.cell? ⟨g, 2, none⟩ = some z) ∧ Below W.heap.size W V) (hp : W.heap.size ≤ g') :
    ((((V.setCell ⟨g', 0, none⟩ u0).setCell ⟨g', 1, none⟩ u1).setCell ⟨g', 2, none⟩ u2).cell? ⟨g, 0, none⟩ = some x ∧ (((V.setCell ⟨g', 0, none⟩ u0).setCell ⟨g', 1, none⟩ u1).setCell ⟨g', 2, none⟩ u2).cell? ⟨g, 1, none⟩ = some y ∧ (((V.setCell ⟨g', 0, none⟩ u0).setCell ⟨g', 1, none⟩ u1).setCell ⟨g', 2, none⟩ u2).cell? ⟨g, 2, none⟩ = some z) ∧ Below W.heap.size W (((V.setCell ⟨g', 0, none⟩ u0).setCell ⟨g', 1, none⟩ u1).setCell ⟨g', 2, none⟩ u2) := by
  have hne : g ≠ g' := by omega
  have e : ∀ j, (((V.setCell ⟨g', 0, none⟩ u0).setCell ⟨g', 1, none⟩ u1).setCell ⟨g', 2, none⟩ u2).cell? ⟨g, j, none⟩ = V.cell? ⟨g, j, none⟩ := fun j => by
    rw [World.cell?_setCell_far _ _ _ _ (by simpa using hne.symm), World.cell?_setCell_far _ _ _ _ (by simpa using hne.symm), World.cell?_setCell_far _ _ _ _ (by simpa using hne.symm)]
  exact ⟨⟨(e 0).trans h.1.1, (e 1).trans h.1.2.1, (e 2).trans h.1.2.2⟩, ((h.2.setCell (p := ⟨g', 0, none⟩) hp u0).setCell (p := ⟨g', 1, none⟩) hp u1).setCell (p := ⟨g', 2, none⟩) hp u2⟩

set_option maxRecDepth 10000 in
set_option maxHeartbeats 3200000 in
theorem ref10_one (a x c y f : Int) (ha : MayF a) (hx : -8388607 ≤ x ∧ x ≤ 8388607) (hc : MayF c) (hy : -8388607 ≤ y ∧ y ≤ 8388607) (hf : -8388607 ≤ f ∧ f ≤ 8388607) (w : World) :
    Calls Try.prog 22 #[.int .i64 a, .int .i64 x, .int .i64 c, .int .i64 y, .int .i64 f] w fun e w' => e = .returned (.int .i64 (nearN (a * x + c * y) + f)) ∧ Below w.heap.size w w' := by
  obtain ⟨m1, m2⟩ := mul_bound ha hx
  obtain ⟨m3, m4⟩ := mul_bound hc hy
  obtain ⟨P, hP⟩ : ∃ P, a * x + c * y = P := ⟨_, rfl⟩
  have hPb : P.natAbs ≤ 1099511627776 := by omega
  unfold MayF at ha hc
  have cA := Lib.hid (fun V => rv_Int a (by omega) (by omega) V)
  have cX := Lib.hid (fun V => rv_Int x (by omega) (by omega) V)
  have cC := Lib.hid (fun V => rv_Int c (by omega) (by omega) V)
  have cY := Lib.hid (fun V => rv_Int y (by omega) (by omega) V)
  have c2 := Lib.hid (fun V => rv_Int 256 (by omega) (by omega) V)
  have cM1 := Lib.hid (rv_Mul a x 1 1 2 (by omega) (by omega) (by omega))
  have cM2 := Lib.hid (rv_Mul c y 1 1 2 (by omega) (by omega) (by omega))
  have cS := Lib.hid (rv_Add (a * x) (c * y) (1 * 1) (1 * 1) 2 (by omega) (by omega) (by omega))
  have e1 : a * x * (((1 * 1 : Nat) : Int)) + c * y * (((1 * 1 : Nat) : Int)) = P := by rw [← hP]; omega
  rw [e1] at cS
  have vA := Lib.hid (fun n' a' ca' d' cd' (k : SF a 1 n' a' ca' d' cd') => sv_int (by omega) (by omega) k)
  have vX := Lib.hid (fun n' a' ca' d' cd' (k : SF x 1 n' a' ca' d' cd') => sv_int (by omega) (by omega) k)
  have vC := Lib.hid (fun n' a' ca' d' cd' (k : SF c 1 n' a' ca' d' cd') => sv_int (by omega) (by omega) k)
  have vY := Lib.hid (fun n' a' ca' d' cd' (k : SF y 1 n' a' ca' d' cd') => sv_int (by omega) (by omega) k)
  have v2 := Lib.hid (fun n' a' ca' d' cd' (k : SF 256 1 n' a' ca' d' cd') => sv_int (by omega) (by omega) k)
  have vM1 := Lib.hid (fun n' a' ca' d' cd' (k : SF (a * x) (1 * 1) n' a' ca' d' cd') => (sv_int (by omega) (by omega) k : SV (a * x) (1 * 1) 2 n' a' ca' d' cd'))
  have vM2 := Lib.hid (fun n' a' ca' d' cd' (k : SF (c * y) (1 * 1) n' a' ca' d' cd') => (sv_int (by omega) (by omega) k : SV (c * y) (1 * 1) 2 n' a' ca' d' cd'))
  have vS := Lib.hid (fun n' a' ca' d' cd' (k : SF P (1 * 1 * (1 * 1)) n' a' ca' d' cd') => (sv_int (by omega) (by omega) k : SV P 1 2 n' a' ca' d' cd'))
  have cD := Lib.hid (fun (n n' : Bool) (a d a' d' : List Nat) (A D A' D' : Option Addr) (ca cd ca' cd' : Nat) (w : World) (hS : SV P 1 2 n a ca d cd) (hT : SV 256 1 2 n' a' ca' d' cd') (r : Rd w (fun g => g < w.heap.size) .u32 A a) (q : Rd w (fun g => g < w.heap.size) .u32 D d) (r' : Rd w (fun g => g < w.heap.size) .u32 A' a') (q' : Rd w (fun g => g < w.heap.size) .u32 D' d') => show Calls Try.prog 29 #[.agg #[.bool n, .slice A a.length ca, .slice D d.length cd], .agg #[.bool n', .slice A' a'.length ca', .slice D' d'.length cd']] w (fun e w' => ∃ n a A ca d D cd, e = .returned (.tuple #[.agg #[.bool n, .slice A a.length ca, .slice D d.length cd], .int .i64 0]) ∧ SF P (1 * 256) n a ca d cd ∧ Rd w' (fun g => g < w'.heap.size) .u32 A a ∧ Rd w' (fun g => g < w'.heap.size) .u32 D d ∧ Below w.heap.size w w') from (rv_Div256 P 1 2 (by omega) (by omega) n n' a d a' d' A D A' D' ca cd ca' cd' w hS hT r q r' q').mono (by
    rintro e w' ⟨v, rfl, n, a, A, ca, d, D, cd, h1, h2⟩
    cases h1
    exact ⟨n, a, A, ca, d, D, cd, rfl, h2⟩))
  have vD := Lib.hid (fun n' a' ca' d' cd' (k : SF P (1 * 256) n' a' ca' d' cd') => (SF.toV (m := 2) (by omega) (by rw [pow32_2]; omega) (by rw [pow32_2]; omega) k : SV P 256 2 n' a' ca' d' cd'))
  have cN := Lib.hid (fun n a d A D ca cd w => ref10_Near P hPb n a d A D ca cd w)
  have hE := Lib.hid (show wrap64 (nearN P + f) = nearN P + f from by unfold wrap64 nearN; omega)
  rw [hP]
  clear hP hPb m1 m2 m3 m4 ha hx hc hy hf e1
  go_enter Try.func22, Try.ntmps22
  go_wp2_with first
    | (go_at_call 28; (with_reducible refine Calls.mono (cA.out _) ?_); rintro e w1 ⟨n1, a1, A1, ca1, d1, D1, cd1, rfl, s1, r1, q1, b1⟩)
    | (go_at_call 28; (with_reducible refine Calls.mono (cX.out _) ?_); rintro e w2 ⟨n2, a2, A2, ca2, d2, D2, cd2, rfl, s2, r2, q2, b2⟩)
    | (go_at_call 27; (with_reducible refine Calls.mono (cM1.out _ _ _ _ _ _ _ _ _ _ _ _ _ _ w2 (vA.out _ _ _ _ _ s1) (vX.out _ _ _ _ _ s2) (r1.on b2) (q1.on b2) r2 q2) ?_); rintro e w3 ⟨n3, a3, A3, ca3, d3, D3, cd3, rfl, s3, r3, q3, b3⟩)
    | (go_at_call 28; (with_reducible refine Calls.mono (cC.out _) ?_); rintro e w4 ⟨n4, a4, A4, ca4, d4, D4, cd4, rfl, s4, r4, q4, b4⟩)
    | (go_at_call 28; (with_reducible refine Calls.mono (cY.out _) ?_); rintro e w5 ⟨n5, a5, A5, ca5, d5, D5, cd5, rfl, s5, r5, q5, b5⟩)
    | (go_at_call 27; (with_reducible refine Calls.mono (cM2.out _ _ _ _ _ _ _ _ _ _ _ _ _ _ w5 (vC.out _ _ _ _ _ s4) (vY.out _ _ _ _ _ s5) (r4.on b5) (q4.on b5) r5 q5) ?_); rintro e w6 ⟨n6, a6, A6, ca6, d6, D6, cd6, rfl, s6, r6, q6, b6⟩)
    | (go_at_call 26; (with_reducible refine Calls.mono (cS.out _ _ _ _ _ _ _ _ _ _ _ _ _ _ w6 (vM1.out _ _ _ _ _ s3) (vM2.out _ _ _ _ _ s6) (((r3.on b4).on b5).on b6) (((q3.on b4).on b5).on b6) r6 q6) ?_); rintro e w7 ⟨n7, a7, A7, ca7, d7, D7, cd7, rfl, s7, r7, q7, b7⟩)
  obtain ⟨W, hW, kW, b8⟩ : ∃ W, w7.alloc (.cells #[.bool n7, .slice A7 a7.length ca7, .slice D7 d7.length cd7] 61) = W ∧ Blk W w7.heap.size 61 [.bool n7, .slice A7 a7.length ca7, .slice D7 d7.length cd7] ∧ Below w7.heap.size w7 W := ⟨_, rfl, Blk.new w7 _ [.bool n7, .slice A7 a7.length ca7, .slice D7 d7.length cd7], (Below.refl _ _).alloc (Nat.le_refl _) _⟩
  rw [hW]
  have rW := Lib.hid (fun V (hV : Below W.heap.size W V) => And.intro ((r7.on b8).on hV) ((q7.on b8).on hV))
  have h12 := b1.trans (b2.mono b1.size)
  have h13 := h12.trans (b3.mono h12.size)
  have h14 := h13.trans (b4.mono h13.size)
  have h15 := h14.trans (b5.mono h14.size)
  have h16 := h15.trans (b6.mono h15.size)
  have h17 := h16.trans (b7.mono h16.size)
  have HB := Lib.hid (h17.trans (b8.mono h17.size))
  have hlt := kW.lt
  obtain ⟨p0, p1, p2, -, -, -⟩ := kW.facts
  have HP := Lib.hid (show (W.drew.cell? ⟨w7.heap.size, 0, none⟩ = some (.bool n7) ∧ W.drew.cell? ⟨w7.heap.size, 1, none⟩ = some (.slice A7 a7.length ca7) ∧ W.drew.cell? ⟨w7.heap.size, 2, none⟩ = some (.slice D7 d7.length cd7)) ∧ Below W.heap.size W W.drew from ⟨⟨p0, p1, p2⟩, below_drewN (Below.refl _ _) 1⟩)
  have vS7 := Lib.hid (vS.out _ _ _ _ _ s7)
  clear h12 h13 h14 h15 h16 h17 hW kW b1 b2 b3 b4 b5 b6 b7 b8 s1 s2 s3 s4 s5 s6 s7 r1 r2 r3 r4 r5 r6 r7 q1 q2 q3 q4 q5 q6 q7 cA cX cC cY cM1 cM2 cS vA vX vC vY vM1 vM2 vS
  go_region_held3 (fun w' => (w'.cell? ⟨w7.heap.size, 0, none⟩ = some (.bool n7) ∧ w'.cell? ⟨w7.heap.size, 1, none⟩ = some (.slice A7 a7.length ca7) ∧ w'.cell? ⟨w7.heap.size, 2, none⟩ = some (.slice D7 d7.length cd7)) ∧ Below W.heap.size W w')
    (first
      | (with_reducible exact HP.out)
      | (with_reducible exact keep3w hlt (by assumption) b9)
      | (with_reducible exact keep3w hlt (by assumption) b10)
      | (with_reducible exact keep3w hlt (by assumption) ((Below.refl _ _).alloc (Nat.le_refl _) _))
      | (with_reducible exact keep3w hlt (keep3w hlt (keep3w hlt HP.out b9) b10) ((Below.refl _ _).alloc (Nat.le_refl _) _))
      | (with_reducible exact keep3y hlt (by assumption) (Nat.le_refl _))
      | ((with_reducible refine keep3y hlt (by assumption) ?_); have z9 := b9.size; have z10 := b10.size; (try simp at z9); (try simp at z10); (try simp); omega))
    ((first
      | (go_at_call 28; (with_reducible refine Calls.mono (c2.out _) ?_); rintro e w9 ⟨n9, a9, A9, ca9, d9, D9, cd9, rfl, s9, r9, q9, b9⟩; (try (have kb := freshD b9; obtain ⟨i0, i1, i2, i3, i4, i5⟩ := kb.facts)))
      | (go_at_call 29; (with_reducible refine Calls.mono (cD.out n7 n9 a7 d7 a9 d9 A7 D7 A9 D9 ca7 cd7 ca9 cd9 _ vS7.out (v2.out _ _ _ _ _ s9) ?ra ?rb ?rc ?rd) ?_); (case ra => exact (rW.out _ (low3 (by assumption))).1); (case rb => exact (rW.out _ (low3 (by assumption))).2); (case rc => first | exact r9 | exact r9.on ((Below.refl _ _).alloc (Nat.le_refl _) _)); (case rd => first | exact q9 | exact q9.on ((Below.refl _ _).alloc (Nat.le_refl _) _)); rintro e w10 ⟨n10, a10, A10, ca10, d10, D10, cd10, rfl, s10, r10, q10, b10⟩; (try first | (have kc := freshB b10; obtain ⟨j0, j1, j2, j3, j4, j5⟩ := kc.facts) | (have kc := kb.below b10 kb.lt; obtain ⟨j0, j1, j2, j3, j4, j5⟩ := kc.facts)))))
  all_goals
    rename_i hHeld
    obtain ⟨-, hB⟩ := hHeld
    first
      | (obtain ⟨Z, hZ, u0, u1, u2, rz, qz⟩ := endB kc n10 ca10 cd10 r10 q10; rw [hZ] at hB ⊢; have HB2 := Lib.hid (HB.out.trans (hB.mono HB.out.size)); clear hZ hB kc j0 j1 j2 j3 j4 j5)
      | (obtain ⟨Z, hZ, u0, u1, u2, rz, qz⟩ := endA w10 61 n10 ca10 cd10 r10 q10; rw [hZ] at hB ⊢; have HB2 := Lib.hid (HB.out.trans (hB.mono HB.out.size)); clear hZ hB)
    go_wp2_with first
      | (go_at_call 30; (with_reducible refine Calls.mono (cN.out n10 a10 d10 A10 D10 ca10 cd10 _ (vD.out _ _ _ _ _ s10) rz qz) ?_); rintro e w11 ⟨rfl, b11⟩)
    (try rw [hE.out])
    go_ret
    exact ⟨by (try dsimp only); first | rfl | rw [hE.out] | simp [hE.out], HB2.out.trans (b11.mono HB2.out.size)⟩
end Go.Proofs.Ytemipepahglndaa
/- Maps of the plane: the document's own Apply. -/

namespace Go.Proofs.Ytemipepahglndaa
open Go.RowKit

section
variable {W V V' : World} {s : Nat} {a b c d e f x y : Value}
/-- the cells that Apply reads, in each world that its calls leave -/
theorem on8 (hs : s + 1 < W.heap.size) (h : (W.cell? ⟨s, 0, none⟩ = some a ∧ W.cell? ⟨s, 1, none⟩ = some b ∧ W.cell? ⟨s, 2, none⟩ = some c ∧ W.cell? ⟨s, 3, none⟩ = some d ∧ W.cell? ⟨s, 4, none⟩ = some e ∧ W.cell? ⟨s, 5, none⟩ = some f) ∧ W.cell? ⟨s + 1, 0, none⟩ = some x ∧ W.cell? ⟨s + 1, 1, none⟩ = some y) (hb : Below W.heap.size W V) :
    (V.cell? ⟨s, 0, none⟩ = some a ∧ V.cell? ⟨s, 1, none⟩ = some b ∧ V.cell? ⟨s, 2, none⟩ = some c ∧ V.cell? ⟨s, 3, none⟩ = some d ∧ V.cell? ⟨s, 4, none⟩ = some e ∧ V.cell? ⟨s, 5, none⟩ = some f) ∧ V.cell? ⟨s + 1, 0, none⟩ = some x ∧ V.cell? ⟨s + 1, 1, none⟩ = some y := by
  have h0 : s < W.heap.size := by omega
  obtain ⟨⟨h1, h2, h3, h4, h5, h6⟩, h7, h8⟩ := h
  exact ⟨⟨(hb.cell (p := ⟨s, 0, none⟩) h0).trans h1, (hb.cell (p := ⟨s, 1, none⟩) h0).trans h2, (hb.cell (p := ⟨s, 2, none⟩) h0).trans h3, (hb.cell (p := ⟨s, 3, none⟩) h0).trans h4, (hb.cell (p := ⟨s, 4, none⟩) h0).trans h5, (hb.cell (p := ⟨s, 5, none⟩) h0).trans h6⟩, (hb.cell (p := ⟨s + 1, 0, none⟩) hs).trans h7, (hb.cell (p := ⟨s + 1, 1, none⟩) hs).trans h8⟩
theorem below_on {B : Nat} (h : Below B W V) (hB : B ≤ V.heap.size) (b : Below V.heap.size V V') : Below B W V' := h.trans (b.mono hB)
theorem below_on2 {V0 V1 V2 : World} (h : Below W.heap.size W V0) (b : Below V0.heap.size V0 V1) (b' : Below V1.heap.size V1 V2) (o : Obj) : Below W.heap.size W (V2.alloc o) := by
  have h2 := h.trans (b.mono h.size)
  have h3 := h2.trans (b'.mono h2.size)
  exact h3.alloc h3.size o
theorem fresh2 {t : TypeId} {x y : Value} (b : Below (V.alloc (.cells #[x, y] t)).heap.size (V.alloc (.cells #[x, y] t)) V') : Box V' V.heap.size t [x, y] :=
  (Box.new V t [x, y]).below b (Box.new V t [x, y]).lt
theorem fresh2d {t : TypeId} {x y : Value} (b : Below (V.alloc (.cells #[x, y] t)).drew.heap.size (V.alloc (.cells #[x, y] t)).drew V') : Box V' V.heap.size t [x, y] := by
  have k : Box (V.alloc (.cells #[x, y] t)).drew V.heap.size t [x, y] := (Box.new V t [x, y]).drewN 1
  exact k.below b k.lt
/-- what a point's box bears at the end, wherever it was laid -/
theorem endP (v : World) (t : TypeId) (x y : Value) : ∃ Z, v.alloc (.cells #[x, y] t) = Z ∧ Box Z v.heap.size t [x, y] ∧ Below v.heap.size v Z :=
  ⟨_, rfl, Box.new v t [x, y], (Below.refl _ _).alloc (Nat.le_refl _) _⟩
end

set_option maxRecDepth 10000 in
set_option maxHeartbeats 3200000 in
theorem ref10_Apply (m : Mp) (p : Pt) (w : World) :
    Calls Try.prog 7 #[mpV m, ptV p] w fun e w' => e = .returned (.tuple #[ptV (applyP m p), .int .i64 (applyE m p)]) ∧ Below w.heap.size w w' := by
  obtain ⟨a, b, c, d, e, f⟩ := m
  obtain ⟨x, y⟩ := p
  obtain ⟨W, hW, k1, k2, k3, B0, hz⟩ := ap_boxes a b c d e f x y w
  obtain ⟨p0, p1, p2, p3, p4, p5⟩ := Box.six k1
  obtain ⟨⟨q0, q1⟩, -⟩ := Box.pair k2
  obtain ⟨⟨r0, r1⟩, r2, r3⟩ := Box.pair k3
  have HK := Lib.hid (And.intro k1 (And.intro k2 (And.intro k3 (And.intro B0 hz))))
  have cM := fun V => ref10_May ⟨a, b, c, d, e, f⟩ V
  have cF := fun V => ref10_Fits ⟨x, y⟩ V
  clear k1 k2 k3 B0 hz
  by_cases hm : MayM ⟨a, b, c, d, e, f⟩
  · rw [decide_eq_true hm] at cM
    by_cases hp : FitP ⟨x, y⟩
    · rw [decide_eq_true hp] at cF
      obtain ⟨ma, mb, mc, md, me, mf⟩ := id hm
      have hg : goM ⟨a, b, c, d, e, f⟩ ⟨x, y⟩ = ⟨nearN (a * x + c * y) + e, nearN (b * x + d * y) + f⟩ := rfl
      have cN := fun V => ref10_one a x c y e ma hp.1 mc hp.2 me V
      have cO := fun V => ref10_one b x d y f mb hp.1 md hp.2 mf V
      obtain ⟨X, hX⟩ : ∃ X, nearN (a * x + c * y) + e = X := ⟨_, rfl⟩
      obtain ⟨Y, hY⟩ : ∃ Y, nearN (b * x + d * y) + f = Y := ⟨_, rfl⟩
      rw [hX] at cN
      rw [hY] at cO
      rw [hX, hY] at hg
      have cT := fun V => ref10_Fits ⟨X, Y⟩ V
      obtain ⟨o, ho⟩ : ∃ o, decide (FitP ⟨X, Y⟩) = o := ⟨_, rfl⟩
      rw [ho] at cT
      have HE := Lib.hid (show (o = true → ptV (applyP ⟨a, b, c, d, e, f⟩ ⟨x, y⟩) = .agg #[.int .i64 X, .int .i64 Y] ∧ applyE ⟨a, b, c, d, e, f⟩ ⟨x, y⟩ = 0) from fun h => by
        have h1 := apply_ok (m := ⟨a, b, c, d, e, f⟩) hm hp (by rw [hg]; rw [h] at ho; exact of_decide_eq_true ho)
        rw [hg] at h1
        exact h1)
      have HF := Lib.hid (show (o = false → ptV (applyP ⟨a, b, c, d, e, f⟩ ⟨x, y⟩) = .agg #[.int .i64 0, .int .i64 0] ∧ applyE ⟨a, b, c, d, e, f⟩ ⟨x, y⟩ = 4) from fun h => apply_range hm (fun z => by
        rw [hg] at z
        rw [decide_eq_true z.2] at ho
        rw [h] at ho
        cases ho))
      obtain ⟨R, hR⟩ : ∃ R, ptV (applyP ⟨a, b, c, d, e, f⟩ ⟨x, y⟩) = R := ⟨_, rfl⟩
      obtain ⟨E, hE⟩ : ∃ R, applyE ⟨a, b, c, d, e, f⟩ ⟨x, y⟩ = R := ⟨_, rfl⟩
      rw [hR, hE] at HE HF
      rw [hR, hE]
      have CM := Lib.hid cM
      have CF := Lib.hid cF
      have CN := Lib.hid cN
      have CO := Lib.hid cO
      have CT := Lib.hid cT
      clear cM cF cN cO cT hm hp ho hR hE hg ma mb mc md me mf hX hY
      unfold mpV ptV at *
      dsimp only at *
      go_enter Try.func7, Try.ntmps7
      go_wp2_with first
        | (go_at_call 9; with_reducible refine Calls.mono (CM.out _) ?_; rintro e w1 ⟨rfl, b1⟩
           have z2 := HK.out.2.1.below b1 HK.out.2.1.lt
           obtain ⟨⟨q0, q1⟩, -⟩ := Box.pair z2)
        | (go_at_call 11; with_reducible refine Calls.mono (CF.out _) ?_; rintro e w2 ⟨rfl, b2⟩)
        | (rw [hW])
      have b12 := b1.trans (b2.mono b1.size)
      obtain ⟨p0, p1, p2, p3, p4, p5⟩ := Box.six (HK.out.1.below b12 HK.out.1.lt)
      obtain ⟨⟨q0, q1⟩, -⟩ := Box.pair (HK.out.2.1.below b12 HK.out.2.1.lt)
      have hz := b12.size
      have hz2 := HK.out.2.2.2.2
      have HB := Lib.hid b12
      have hsz : w.heap.size + 1 < w2.heap.size := by omega
      have HC := Lib.hid (fun V (hb : Below w2.heap.size w2 V) => And.intro (on8 hsz ⟨⟨p0, p1, p2, p3, p4, p5⟩, q0, q1⟩ hb) hb)
      have HP := Lib.hid (HC.out w2.drew (Below.refl _ _).drew)
      clear hz hz2 b1 b2 b12 z2
      go_region_held3 (fun w' => ((w'.cell? ⟨w.heap.size, 0, none⟩ = some (.int .i64 a) ∧ w'.cell? ⟨w.heap.size, 1, none⟩ = some (.int .i64 b) ∧ w'.cell? ⟨w.heap.size, 2, none⟩ = some (.int .i64 c) ∧ w'.cell? ⟨w.heap.size, 3, none⟩ = some (.int .i64 d) ∧ w'.cell? ⟨w.heap.size, 4, none⟩ = some (.int .i64 e) ∧ w'.cell? ⟨w.heap.size, 5, none⟩ = some (.int .i64 f)) ∧ w'.cell? ⟨w.heap.size + 1, 0, none⟩ = some (.int .i64 x) ∧ w'.cell? ⟨w.heap.size + 1, 1, none⟩ = some (.int .i64 y)) ∧ Below w2.heap.size w2 w')
        (first
          | (with_reducible exact HP.out)
          | (with_reducible exact HC.out _ (below_on (low3 (by assumption)) (low3 (by assumption)).size b9))
          | (with_reducible exact HC.out _ (below_on (low3 (by assumption)) (low3 (by assumption)).size b10))
          | (with_reducible exact HC.out _ ((low3 (by assumption)).alloc (low3 (by assumption)).size _))
          | (with_reducible exact HC.out _ (below_on2 (low3 HP.out) b9 b10 _))
          | (with_reducible exact HC.out _ (((low3 (by assumption)).setCell (p := ⟨_, 0, none⟩) s9 _).setCell (p := ⟨_, 1, none⟩) s9 _))
          | (with_reducible exact HC.out _ (((low3 (by assumption)).setCell (p := ⟨_, 0, none⟩) (Nat.le_refl _) _).setCell (p := ⟨_, 1, none⟩) (Nat.le_refl _) _))
          | (with_reducible exact HC.out _ (((low3 (by assumption)).setCell (p := ⟨_, 0, none⟩) (low3 (by assumption)).size _).setCell (p := ⟨_, 1, none⟩) (low3 (by assumption)).size _)))
        ((first
          | (go_at_call 22; (with_reducible refine Calls.mono (CN.out _) ?_); rintro e w9 ⟨rfl, b9⟩; (have s9 : w2.heap.size ≤ w9.heap.size := by (have z9 := b9.size; (try simp at z9); first | omega | exact z9)); (try (have kb := fresh2d b9; obtain ⟨⟨i0, i1⟩, i2, i3⟩ := Box.pair kb)))
          | (go_at_call 22; (with_reducible refine Calls.mono (CO.out _) ?_); rintro e w10 ⟨rfl, b10⟩; (try first | (have kc := fresh2 b10; obtain ⟨⟨j0, j1⟩, j2, j3⟩ := Box.pair kc) | (have kc := kb.below b10 kb.lt; obtain ⟨⟨j0, j1⟩, j2, j3⟩ := Box.pair kc)))))
      all_goals
        rename_i hHeld
        obtain ⟨-, hB⟩ := hHeld
        first
          | (obtain ⟨V, hV, kV, -, -⟩ := kc.stored2 (.int .i64 X) (.int .i64 Y); rw [hV] at hB ⊢; clear kc hV)
          | (obtain ⟨V, hV, kV, -⟩ := endP w10 25 (.int .i64 X) (.int .i64 Y); rw [hV] at hB ⊢; clear hV)
        obtain ⟨⟨x0, x1⟩, -⟩ := Box.pair kV
        have HV := Lib.hid (And.intro kV (HB.out.trans (hB.mono HB.out.size)))
        clear kV hB
        cases o
      all_goals
        go_wp2_with first
          | (go_at_call 11; with_reducible refine Calls.mono (CT.out _) ?_; rintro e w3 ⟨rfl, b3⟩
             have kt := HV.out.1.below b3 HV.out.1.lt
             have b13 := HV.out.2.trans (b3.mono HV.out.2.size)
             have z3 := HK.out.2.2.1.below b13 HK.out.2.2.1.lt
             obtain ⟨⟨x0, x1⟩, -⟩ := Box.pair kt
             obtain ⟨⟨r0, r1⟩, r2, r3⟩ := Box.pair z3)
        first
          | (obtain ⟨rfl, rfl⟩ := HE.out trivial
             obtain ⟨U, hU, kU, ⟨u0, u1⟩, bU⟩ := z3.stored2 (.int .i64 X) (.int .i64 Y)
             have hB := (HK.out.2.2.2.1.trans (b13.mono HK.out.2.2.2.1.size)).trans (bU w.heap.size (by omega))
             (try rw [hU])
             exact bodyPost_ret (by simp [results, Try.results7, go_sem, u0, u1]) rfl ⟨rfl, hB⟩)
          | (obtain ⟨rfl, rfl⟩ := HF.out trivial
             obtain ⟨U, hU, kU, ⟨u0, u1⟩, bU⟩ := z3.stored2 (.int .i64 0) (.int .i64 0)
             have hB := (HK.out.2.2.2.1.trans (b13.mono HK.out.2.2.2.1.size)).trans (bU w.heap.size (by omega))
             (try rw [hU])
             exact bodyPost_ret (by simp [results, Try.results7, go_sem, u0, u1]) rfl ⟨rfl, hB⟩)
    · rw [decide_eq_false hp] at cF
      obtain ⟨e1, e2⟩ := apply_range hm (fun h => hp h.1)
      rw [e1, e2]
      have CM := Lib.hid cM
      have CF := Lib.hid cF
      clear cM cF e1 e2 hm hp
      unfold mpV ptV at *
      dsimp only at *
      go_enter Try.func7, Try.ntmps7
      go_wp2_with first
        | (go_at_call 9; with_reducible refine Calls.mono (CM.out _) ?_; rintro e w1 ⟨rfl, b1⟩
           have z2 := HK.out.2.1.below b1 HK.out.2.1.lt
           obtain ⟨⟨q0, q1⟩, -⟩ := Box.pair z2)
        | (go_at_call 11; with_reducible refine Calls.mono (CF.out _) ?_; rintro e w2 ⟨rfl, b2⟩
           have b12 := b1.trans (b2.mono b1.size)
           have z3 := HK.out.2.2.1.below b12 HK.out.2.2.1.lt
           obtain ⟨⟨r0, r1⟩, r2, r3⟩ := Box.pair z3)
        | (rw [hW])
      obtain ⟨U, hU, kU, ⟨u0, u1⟩, bU⟩ := z3.stored2 (.int .i64 0) (.int .i64 0)
      have hB := (HK.out.2.2.2.1.trans (b12.mono HK.out.2.2.2.1.size)).trans (bU w.heap.size (by omega))
      try rw [hU]
      exact bodyPost_ret (by simp [results, Try.results7, go_sem, u0, u1]) rfl ⟨rfl, hB⟩
  · rw [decide_eq_false hm] at cM
    obtain ⟨e1, e2⟩ := apply_arg (p := ⟨x, y⟩) hm
    rw [e1, e2]
    have CM := Lib.hid cM
    clear cM cF e1 e2 hm
    unfold mpV ptV at *
    dsimp only at *
    go_enter Try.func7, Try.ntmps7
    go_wp2_with first
      | (go_at_call 9; with_reducible refine Calls.mono (CM.out _) ?_; rintro e w1 ⟨rfl, b1⟩
         have z3 := HK.out.2.2.1.below b1 HK.out.2.2.1.lt
         obtain ⟨⟨r0, r1⟩, r2, r3⟩ := Box.pair z3)
      | (rw [hW])
    obtain ⟨U, hU, kU, ⟨u0, u1⟩, bU⟩ := z3.stored2 (.int .i64 0) (.int .i64 0)
    have hB := (HK.out.2.2.2.1.trans (b1.mono HK.out.2.2.2.1.size)).trans (bU w.heap.size (by omega))
    try rw [hU]
    exact bodyPost_ret (by simp [results, Try.results7, go_sem, u0, u1]) rfl ⟨rfl, hB⟩
end Go.Proofs.Ytemipepahglndaa
