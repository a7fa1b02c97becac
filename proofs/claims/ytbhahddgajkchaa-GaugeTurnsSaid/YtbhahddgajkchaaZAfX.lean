/- Maps of the plane: the document's own Near and one: sums of products, exactly, to the nearest whole number. -/
import Derived.Test.YtbhahddgajkchaaZAfW
import Derived.Test.YtbhahddgajkchaaZFpV
import Derived.Test.YtbhahddgajkchaaZFrZ
import Derived.Test.YtbhahddgajkchaaZWrF
import Derived.Deep.RegionHeld3
import Derived.Test.YtbhahddgajkchaaZAgX
namespace Go.Proofs.Ytbhahddgajkchaa
open Go.RowKit Num

/-- an int's fraction, a half -/
theorem rv_Int (n : Int) (hn1 : -9223372036854775808 ≤ n) (hn2 : n ≤ 9223372036854775807) (w : World) : Calls Try.prog 32 #[.int .i64 n] w (Gv (SF n 1) w) :=
  (ref4_Int n hn1 hn2 w).mono fun _ _ h => gv_of_f h
theorem rv_HalfOne (w : World) : Calls Try.prog 50 #[] w (Gv (SF 1 2) w) :=
  (ref4_Half w).mono fun _ _ h => gv_of_f h
theorem wv_own {N : Int} {x : List Nat} (h : val 4294967296 x = N.natAbs) : wv (decide (N < 0)) x = N := by
  by_cases hn : N < 0
  · rw [decide_eq_true hn, wv_true, h]; omega
  · rw [decide_eq_false hn, wv_false, h]; omega
theorem low3 {A : Prop} {v w : World} (h : A ∧ Below v.heap.size v w) : Below v.heap.size v w := h.2
theorem keep3w {W V V' : World} {g : Nat} {x y z : Value} (hg : g < W.heap.size) (h : (V.cell? ⟨g, 0, none⟩ = some x ∧ V.cell? ⟨g, 1, none⟩ = some y ∧ V.cell? ⟨g, 2, none⟩ = some z) ∧ Below W.heap.size W V) (hb : Below V.heap.size V V') :
    (V'.cell? ⟨g, 0, none⟩ = some x ∧ V'.cell? ⟨g, 1, none⟩ = some y ∧ V'.cell? ⟨g, 2, none⟩ = some z) ∧ Below W.heap.size W V' := by
  have hs := h.2.size
  have e : ∀ j, V'.cell? ⟨g, j, none⟩ = V.cell? ⟨g, j, none⟩ := fun j => hb.cell (p := ⟨g, j, none⟩) (by show g < _; omega)
  exact ⟨⟨(e 0).trans h.1.1, (e 1).trans h.1.2.1, (e 2).trans h.1.2.2⟩, h.2.trans (hb.mono hs)⟩

set_option maxRecDepth 10000 in
set_option maxHeartbeats 3200000 in
theorem ref10_Near (P : Int) (hP : P.natAbs ≤ 1099511627776) (n : Bool) (a d : List Nat) (A D : Option Addr) (ca cd : Nat) (w : World) (hS : SV P 256 2 n a ca d cd) (r : Rd w (fun g => g < w.heap.size) .u32 A a) (q : Rd w (fun g => g < w.heap.size) .u32 D d) :
    Calls Try.prog 33 #[.agg #[.bool n, .slice A a.length ca, .slice D d.length cd]] w fun e w' => e = .returned (.int .i64 (nearN P)) ∧ Below w.heap.size w w' := by
  obtain ⟨W, hW, kW, B0⟩ : ∃ W, w.alloc (.cells #[.bool n, .slice A a.length ca, .slice D d.length cd] 50) = W ∧ Box W w.heap.size 50 [.bool n, .slice A a.length ca, .slice D d.length cd] ∧ Below w.heap.size w W := ⟨_, rfl, Box.new w _ [.bool n, .slice A a.length ca, .slice D d.length cd], (Below.refl _ _).alloc (Nat.le_refl _) _⟩
  have cA := Lib.hid (rv_Add P 1 256 2 2 (by omega) (by omega) (by omega))
  have cF := Lib.hid (rv_Floor (P * ((2 : Nat) : Int) + 1 * ((256 : Nat) : Int)) (256 * 2) 2 (by omega) (by omega))
  have hN : (P * ((2 : Nat) : Int) + 1 * ((256 : Nat) : Int)) / ((256 * 2 : Nat) : Int) = nearN P := by unfold nearN; omega
  have hNb : -9223372036854775808 ≤ nearN P ∧ nearN P ≤ 9223372036854775807 := by unfold nearN; omega
  rw [hN] at cF
  have HS := Lib.hid hS
  have hV1 := Lib.hid (fun n' a' ca' d' cd' (k : SF 1 2 n' a' ca' d' cd') => SF.toV (m := 2) (by omega) (by decide) (by decide) k)
  have e2 : (P * ((2 : Nat) : Int) + 1 * ((256 : Nat) : Int)).natAbs < 4294967296 ^ 2 := by
    have e : (4294967296 : Nat) ^ 2 = 18446744073709551616 := by decide
    rw [e]
    omega
  have hV2 := Lib.hid (fun n' a' ca' d' cd' (k : SF (P * ((2 : Nat) : Int) + 1 * ((256 : Nat) : Int)) (256 * 2) n' a' ca' d' cd') => SF.toV (m := 2) (by omega) e2 (by decide) k)
  have rW := Lib.hid (fun V (hV : Below W.heap.size W V) => And.intro ((r.on B0).on hV) ((q.on B0).on hV))
  have HI := Lib.hid (fun (xs : List Nat) (X : Option Addr) (cx : Nat) (V : World) (hn : Norm 4294967296 xs) (hv : val 4294967296 xs = (nearN P).natAbs) (hx : Rd V (fun g => g < V.heap.size) .u32 X xs) => show Calls Try.prog 47 #[.agg #[.bool (decide (nearN P < 0)), .slice X xs.length cx]] V (fun e w' => e = .returned (.tuple #[.int .i64 (nearN P), .bool true]) ∧ Below V.heap.size V w') from by
    refine (ref2_Int _ xs X cx V hx ?_ hn.1).mono ?_
    · have e3 : (4294967296 : Nat) ^ 3 = 79228162514264337593543950336 := by decide
      have : xs.length ≤ 3 := hn.2.length_le (b := 4294967296) (by omega) (by rw [hv, e3]; omega)
      omega
    · rintro e w' ⟨he, hb⟩
      rw [wv_own hv, (isInt_yes hNb.1 hNb.2).1, (isInt_yes hNb.1 hNb.2).2] at he
      exact ⟨he, hb⟩)
  have HB0 := Lib.hid B0
  have hlt := kW.lt
  have HW := Lib.hid hW
  obtain ⟨p0, p1, p2⟩ := show W.cell? ⟨w.heap.size, 0, none⟩ = some (.bool n) ∧ W.cell? ⟨w.heap.size, 1, none⟩ = some (.slice A a.length ca) ∧ W.cell? ⟨w.heap.size, 2, none⟩ = some (.slice D d.length cd) from ⟨kW.cell 0 rfl, kW.cell 1 rfl, kW.cell 2 rfl⟩
  have HP := Lib.hid (show (W.drew.cell? ⟨w.heap.size, 0, none⟩ = some (.bool n) ∧ W.drew.cell? ⟨w.heap.size, 1, none⟩ = some (.slice A a.length ca) ∧ W.drew.cell? ⟨w.heap.size, 2, none⟩ = some (.slice D d.length cd)) ∧ Below W.heap.size W W.drew from ⟨⟨p0, p1, p2⟩, below_drewN (Below.refl _ _) 1⟩)
  clear hP hN hNb hS r q B0 hW kW e2
  go_enter Try.func33, Try.ntmps33
  go_wp2_with fail
  rw [HW.out]
  go_region_held3 (fun w' => (w'.cell? ⟨w.heap.size, 0, none⟩ = some (.bool n) ∧ w'.cell? ⟨w.heap.size, 1, none⟩ = some (.slice A a.length ca) ∧ w'.cell? ⟨w.heap.size, 2, none⟩ = some (.slice D d.length cd)) ∧ Below W.heap.size W w')
    (first | (with_reducible exact HP.out) | (with_reducible exact keep3w hlt (by assumption) b6))
    ((first
      | (go_at_call 50; (with_reducible refine Calls.mono (rv_HalfOne _) ?_); rintro e w1 ⟨n1, a1, A1, ca1, d1, D1, cd1, rfl, s1, r1, q1, b6⟩)
      | (go_at_call 49; (with_reducible refine Calls.mono (cA.out n n1 a d a1 d1 A D A1 D1 ca cd ca1 cd1 w1 HS.out (hV1.out _ _ _ _ _ s1) (rW.out w1 (low3 (by assumption))).1 (rW.out w1 (low3 (by assumption))).2 r1 q1) ?_); rintro e w2 ⟨n2, a2, A2, ca2, d2, D2, cd2, rfl, s2, r2, q2, b6⟩)
      | (go_at_call 48; (with_reducible refine Calls.mono (cF.out n2 a2 d2 A2 D2 ca2 cd2 w2 (hV2.out _ _ _ _ _ s2) r2 q2) ?_); rintro e w3 ⟨X, xs, cx, rfl, hcx, hnx, hvx, rx, b6⟩)
      | (go_at_call 47; (with_reducible refine Calls.mono (HI.out xs X cx w3 hnx hvx rx) ?_); rintro e w4 ⟨rfl, b6⟩)))
  all_goals
    rename_i hHeld
    obtain ⟨-, hB⟩ := hHeld
    go_wp2_with fail
    go_ret
    exact ⟨rfl, HB0.out.trans (hB.mono HB0.out.size)⟩
end Go.Proofs.Ytbhahddgajkchaa
/- Maps of the plane: a fraction by 256. -/

namespace Go.Proofs.Ytbhahddgajkchaa
open Go.RowKit Num

theorem cross256 {u d d' P Q : Int} (h : u * Q = P * d) : u * d' * (Q * 256) = P * (256 * d' * d) := by
  have e : u * d' * (Q * 256) = u * Q * (d' * 256) := by ac_rfl
  rw [e, h]
  ac_rfl
/-- a fraction by 256 -/
theorem rv_Div256 (P : Int) (Q m : Nat) (hQ : 0 < Q) (hm : m ≤ 2097152) (n n' : Bool) (a d a' d' : List Nat) (A D A' D' : Option Addr) (ca cd ca' cd' : Nat) (w : World) (hS : SV P Q m n a ca d cd) (hT : SV 256 1 m n' a' ca' d' cd')
    (r : Rd w (fun g => g < w.heap.size) .u32 A a) (q : Rd w (fun g => g < w.heap.size) .u32 D d) (r' : Rd w (fun g => g < w.heap.size) .u32 A' a') (q' : Rd w (fun g => g < w.heap.size) .u32 D' d') :
    Calls Try.prog 31 #[.agg #[.bool n, .slice A a.length ca, .slice D d.length cd], .agg #[.bool n', .slice A' a'.length ca', .slice D' d'.length cd']] w
      (fun e w' => ∃ v, e = .returned (.tuple #[v, .int .i64 0]) ∧ Gv (SF P (Q * 256)) w (.returned v) w') := by
  refine (ref4_Div n n' a d a' d' A D A' D' ca cd ca' cd' w r q r' q' (Nat.le_trans hS.2.2.2.2.1 hm) (Nat.le_trans hS.2.2.2.2.2.1 hm) (Nat.le_trans hT.2.2.2.2.1 hm) (Nat.le_trans hT.2.2.2.2.2.1 hm) hS.2.2.1 hS.2.2.2.1 hT.2.2.1 hT.2.2.2.1).mono ?_
  intro e w' h
  have hd := loD_pos d
  have hd' := loD_pos d'
  have hT7 : upN n' a' d' = 256 * (loD d' : Int) := by have := hT.2.2.2.2.2.2; omega
  have hS7 := hS.2.2.2.2.2.2
  have hpos : 0 < 256 * (loD d' : Int) * (loD d : Int) := Int.mul_pos (by omega) (by omega)
  rw [hT7] at h
  have hN : ((256 * (loD d' : Int) * (loD d : Int)).natAbs : Int) = 256 * (loD d' : Int) * (loD d : Int) := Int.natAbs_of_nonneg (by omega)
  have hA : acrossN (upN n a d * (loD d' : Int)) (256 * (loD d' : Int) * (loD d : Int)) = upN n a d * (loD d' : Int) := by unfold acrossN; rw [if_neg (by omega)]
  rw [hA] at h
  rcases h with ⟨h0, -, -⟩ | ⟨h0, v, rfl, h⟩
  · exact absurd h0 (by omega)
  · refine ⟨v, rfl, gv_of_f (h.conv h0 (by omega) ?_)⟩
    rw [hN, Int.natCast_mul]
    exact cross256 hS7
end Go.Proofs.Ytbhahddgajkchaa
/- Maps of the plane: the document's own one coordinate. -/

namespace Go.Proofs.Ytbhahddgajkchaa
open Go.RowKit Num

theorem pow32_2 : (4294967296 : Nat) ^ 2 = 18446744073709551616 := by decide
/-- of an int -/
theorem sv_int {n : Int} (h1 : -9223372036854775808 ≤ n) (h2 : n ≤ 9223372036854775807) {n' : Bool} {a d : List Nat} {ca cd : Nat} (k : SF n 1 n' a ca d cd) : SV n 1 2 n' a ca d cd :=
  SF.toV (by omega) (by rw [pow32_2]; omega) (by rw [pow32_2]; omega) k

theorem freshB {V V' : World} {t : TypeId} {x y z : Value} (b : Below (V.alloc (.cells #[x, y, z] t)).heap.size (V.alloc (.cells #[x, y, z] t)) V') : Blk V' V.heap.size t [x, y, z] :=
  (Blk.new V t [x, y, z]).below b (Blk.new V t [x, y, z]).lt
theorem endAf (v : World) (t : TypeId) (n : Bool) {a d : List Nat} {A D : Option Addr} (ca cd : Nat) (r : Rd v (fun g => g < v.heap.size) .u32 A a) (q : Rd v (fun g => g < v.heap.size) .u32 D d) :
    ∃ Z, v.alloc (.cells #[.bool n, .slice A a.length ca, .slice D d.length cd] t) = Z ∧ Z.cell? ⟨v.heap.size, 0, none⟩ = some (.bool n) ∧ Z.cell? ⟨v.heap.size, 1, none⟩ = some (.slice A a.length ca) ∧ Z.cell? ⟨v.heap.size, 2, none⟩ = some (.slice D d.length cd) ∧ Rd Z (fun g => g < Z.heap.size) .u32 A a ∧ Rd Z (fun g => g < Z.heap.size) .u32 D d := by
  have k := Blk.new v t [.bool n, .slice A a.length ca, .slice D d.length cd]
  have b := (Below.refl v.heap.size v).alloc (Nat.le_refl _) (.cells #[.bool n, .slice A a.length ca, .slice D d.length cd] t)
  exact ⟨_, rfl, k.cell 0 rfl, k.cell 1 rfl, k.cell 2 rfl, r.on b, q.on b⟩
theorem endBf {v : World} {g : Nat} {t : TypeId} (k : Blk v g t [.bool false, .slice none 0 0, .slice none 0 0]) (n : Bool) {a d : List Nat} {A D : Option Addr} (ca cd : Nat) (r : Rd v (fun g => g < v.heap.size) .u32 A a) (q : Rd v (fun g => g < v.heap.size) .u32 D d) :
    ∃ Z, ((v.setCell ⟨g, 0, none⟩ (.bool n)).setCell ⟨g, 1, none⟩ (.slice A a.length ca)).setCell ⟨g, 2, none⟩ (.slice D d.length cd) = Z ∧ Z.cell? ⟨g, 0, none⟩ = some (.bool n) ∧ Z.cell? ⟨g, 1, none⟩ = some (.slice A a.length ca) ∧ Z.cell? ⟨g, 2, none⟩ = some (.slice D d.length cd) ∧ Rd Z (fun g => g < Z.heap.size) .u32 A a ∧ Rd Z (fun g => g < Z.heap.size) .u32 D d := by
  obtain ⟨U, hU, u0, u1, u2, -, -, -, -⟩ := k.three (.bool n) (.slice A a.length ca) (.slice D d.length cd)
  exact ⟨U, hU, u0, u1, u2, r.far3 k _ _ _ hU, q.far3 k _ _ _ hU⟩
theorem freshD {V V' : World} {t : TypeId} {x y z : Value} (b : Below (V.alloc (.cells #[x, y, z] t)).drew.heap.size (V.alloc (.cells #[x, y, z] t)).drew V') : Blk V' V.heap.size t [x, y, z] := by
  have k : Blk (V.alloc (.cells #[x, y, z] t)).drew V.heap.size t [x, y, z] := (Blk.new V t [x, y, z]).drewN 1
  exact k.below b k.lt
theorem keep3y {W V : World} {g g' : Nat} {x y z u0 u1 u2 : Value} (hg : g < W.heap.size) (h : (V.cell? ⟨g, 0, none⟩ = some x ∧ V.cell? ⟨g, 1, none⟩ = some y ∧ V.cell? ⟨g, 2, none⟩ = some z) ∧ Below W.heap.size W V) (hp : W.heap.size ≤ g') :
    ((((V.setCell ⟨g', 0, none⟩ u0).setCell ⟨g', 1, none⟩ u1).setCell ⟨g', 2, none⟩ u2).cell? ⟨g, 0, none⟩ = some x ∧ (((V.setCell ⟨g', 0, none⟩ u0).setCell ⟨g', 1, none⟩ u1).setCell ⟨g', 2, none⟩ u2).cell? ⟨g, 1, none⟩ = some y ∧ (((V.setCell ⟨g', 0, none⟩ u0).setCell ⟨g', 1, none⟩ u1).setCell ⟨g', 2, none⟩ u2).cell? ⟨g, 2, none⟩ = some z) ∧ Below W.heap.size W (((V.setCell ⟨g', 0, none⟩ u0).setCell ⟨g', 1, none⟩ u1).setCell ⟨g', 2, none⟩ u2) := by
  have hne : g ≠ g' := by omega
  have e : ∀ j, (((V.setCell ⟨g', 0, none⟩ u0).setCell ⟨g', 1, none⟩ u1).setCell ⟨g', 2, none⟩ u2).cell? ⟨g, j, none⟩ = V.cell? ⟨g, j, none⟩ := fun j => by
    rw [World.cell?_setCell_far _ _ _ _ (by simpa using hne.symm), World.cell?_setCell_far _ _ _ _ (by simpa using hne.symm), World.cell?_setCell_far _ _ _ _ (by simpa using hne.symm)]
  exact ⟨⟨(e 0).trans h.1.1, (e 1).trans h.1.2.1, (e 2).trans h.1.2.2⟩, ((h.2.setCell (p := ⟨g', 0, none⟩) hp u0).setCell (p := ⟨g', 1, none⟩) hp u1).setCell (p := ⟨g', 2, none⟩) hp u2⟩

end Go.Proofs.Ytbhahddgajkchaa
/- Maps of the plane: the document's own Apply. -/

namespace Go.Proofs.Ytbhahddgajkchaa
open Go.RowKit

section
variable {W V V' : World} {s : Nat} {a b c d e f x y : Value}
/-- the cells that Apply reads, in each world that its calls leave -/
theorem on8 (hs : s + 1 < W.heap.size) (h : (W.cell? ⟨s, 0, none⟩ = some a ∧ W.cell? ⟨s, 1, none⟩ = some b ∧ W.cell? ⟨s, 2, none⟩ = some c ∧ W.cell? ⟨s, 3, none⟩ = some d ∧ W.cell? ⟨s, 4, none⟩ = some e ∧ W.cell? ⟨s, 5, none⟩ = some f) ∧ W.cell? ⟨s + 1, 0, none⟩ = some x ∧ W.cell? ⟨s + 1, 1, none⟩ = some y) (hb : Below W.heap.size W V) :
    (V.cell? ⟨s, 0, none⟩ = some a ∧ V.cell? ⟨s, 1, none⟩ = some b ∧ V.cell? ⟨s, 2, none⟩ = some c ∧ V.cell? ⟨s, 3, none⟩ = some d ∧ V.cell? ⟨s, 4, none⟩ = some e ∧ V.cell? ⟨s, 5, none⟩ = some f) ∧ V.cell? ⟨s + 1, 0, none⟩ = some x ∧ V.cell? ⟨s + 1, 1, none⟩ = some y := by
  have h0 : s < W.heap.size := by omega
  obtain ⟨⟨h1, h2, h3, h4, h5, h6⟩, h7, h8⟩ := h
  exact ⟨⟨(hb.cell (p := ⟨s, 0, none⟩) h0).trans h1, (hb.cell (p := ⟨s, 1, none⟩) h0).trans h2, (hb.cell (p := ⟨s, 2, none⟩) h0).trans h3, (hb.cell (p := ⟨s, 3, none⟩) h0).trans h4, (hb.cell (p := ⟨s, 4, none⟩) h0).trans h5, (hb.cell (p := ⟨s, 5, none⟩) h0).trans h6⟩, (hb.cell (p := ⟨s + 1, 0, none⟩) hs).trans h7, (hb.cell (p := ⟨s + 1, 1, none⟩) hs).trans h8⟩
theorem below_on {B : Nat} (h : Below B W V) (hB : B ≤ V.heap.size) (b : Below V.heap.size V V') : Below B W V' := h.trans (b.mono hB)
theorem below_on2 {V0 V1 V2 : World} (h : Below W.heap.size W V0) (b : Below V0.heap.size V0 V1) (b' : Below V1.heap.size V1 V2) (o : Obj) : Below W.heap.size W (V2.alloc o) := by
  have h2 := h.trans (b.mono h.size)
  have h3 := h2.trans (b'.mono h2.size)
  exact h3.alloc h3.size o
theorem fresh2 {t : TypeId} {x y : Value} (b : Below (V.alloc (.cells #[x, y] t)).heap.size (V.alloc (.cells #[x, y] t)) V') : Box V' V.heap.size t [x, y] :=
  (Box.new V t [x, y]).below b (Box.new V t [x, y]).lt
theorem fresh2d {t : TypeId} {x y : Value} (b : Below (V.alloc (.cells #[x, y] t)).drew.heap.size (V.alloc (.cells #[x, y] t)).drew V') : Box V' V.heap.size t [x, y] := by
  have k : Box (V.alloc (.cells #[x, y] t)).drew V.heap.size t [x, y] := (Box.new V t [x, y]).drewN 1
  exact k.below b k.lt
/-- what a point's box bears at the end, wherever it was laid -/
theorem endP (v : World) (t : TypeId) (x y : Value) : ∃ Z, v.alloc (.cells #[x, y] t) = Z ∧ Box Z v.heap.size t [x, y] ∧ Below v.heap.size v Z :=
  ⟨_, rfl, Box.new v t [x, y], (Below.refl _ _).alloc (Nat.le_refl _) _⟩
end

end Go.Proofs.Ytbhahddgajkchaa
