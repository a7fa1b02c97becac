/- Curves, the document's own: a fraction of two ints, a point of the way between two, its nearest whole number: by what they are worth. -/
import Derived.Test.YtkebffkekinblaaZOaI
import Derived.Test.YtkebffkekinblaaZOaG
import Derived.Test.YtkebffkekinblaaZOaE
import Derived.Test.YtkebffkekinblaaZOaB
import Derived.Deep.RegionHeld3
namespace Go.Proofs.Ytkebffkekinblaa
open Go.RowKit Num

theorem crossInt {u d d' P Q M : Int} (h : u * Q = P * d) : u * d' * (Q * M) = P * (M * d' * d) := by
  have e : u * d' * (Q * M) = u * Q * (d' * M) := by ac_rfl
  rw [e, h]
  ac_rfl
/-- a fraction by a number above 0 -/
theorem rv_DivInt (P : Int) (Q M m : Nat) (hQ : 0 < Q) (hM : 0 < M) (hm : m ≤ 2097152) (n n' : Bool) (a d a' d' : List Nat) (A D A' D' : Option Addr) (ca cd ca' cd' : Nat) (w : World) (hS : SV P Q m n a ca d cd) (hT : SV (M : Int) 1 m n' a' ca' d' cd')
    (r : Rd w (fun g => g < w.heap.size) .u32 A a) (q : Rd w (fun g => g < w.heap.size) .u32 D d) (r' : Rd w (fun g => g < w.heap.size) .u32 A' a') (q' : Rd w (fun g => g < w.heap.size) .u32 D' d') :
    Calls Try.prog 52 #[.agg #[.bool n, .slice A a.length ca, .slice D d.length cd], .agg #[.bool n', .slice A' a'.length ca', .slice D' d'.length cd']] w
      (fun e w' => ∃ v, e = .returned (.tuple #[v, .int .i64 0]) ∧ Gv (SF P (Q * M)) w (.returned v) w') := by
  refine (ref4_Div n n' a d a' d' A D A' D' ca cd ca' cd' w r q r' q' (Nat.le_trans hS.2.2.2.2.1 hm) (Nat.le_trans hS.2.2.2.2.2.1 hm) (Nat.le_trans hT.2.2.2.2.1 hm) (Nat.le_trans hT.2.2.2.2.2.1 hm) hS.2.2.1 hS.2.2.2.1 hT.2.2.1 hT.2.2.2.1).mono ?_
  intro e w' h
  have hd := loD_pos d
  have hd' := loD_pos d'
  have hT7 : upN n' a' d' = (M : Int) * (loD d' : Int) := by have := hT.2.2.2.2.2.2; omega
  have hS7 := hS.2.2.2.2.2.2
  have hpos : 0 < (M : Int) * (loD d' : Int) * (loD d : Int) := Int.mul_pos (Int.mul_pos (by omega) (by omega)) (by omega)
  rw [hT7] at h
  have hN : (((M : Int) * (loD d' : Int) * (loD d : Int)).natAbs : Int) = (M : Int) * (loD d' : Int) * (loD d : Int) := Int.natAbs_of_nonneg (by omega)
  have hA : acrossN (upN n a d * (loD d' : Int)) ((M : Int) * (loD d' : Int) * (loD d : Int)) = upN n a d * (loD d' : Int) := by unfold acrossN; rw [if_neg (by omega)]
  rw [hA] at h
  rcases h with ⟨h0, -, -⟩ | ⟨h0, v, rfl, h⟩
  · exact absurd h0 (by omega)
  · refine ⟨v, rfl, gv_of_f (h.conv h0 (Nat.mul_pos hQ hM) ?_)⟩
    rw [hN, Int.natCast_mul]
    exact crossInt hS7
theorem tw_eq (P1 P3 Q k n : Int) : (P1 * (n * (Q * Q)) + k * (P3 * Q - P1 * Q) * Q) * (Q * n) = ((n - k) * P1 + k * P3) * (Q * (n * (Q * Q))) := by grind
set_option maxRecDepth 10000 in
set_option maxHeartbeats 3200000 in
/-- to the nearest whole number -/
theorem ref10_NearQ (P : Int) (Q : Nat) (hQ : 0 < Q) (hQ1 : Q ≤ 32768) (hP : P.natAbs ≤ 1099511627776) (n : Bool) (a d : List Nat) (A D : Option Addr) (ca cd : Nat) (w : World) (hS : SV P Q 8 n a ca d cd) (r : Rd w (fun g => g < w.heap.size) .u32 A a) (q : Rd w (fun g => g < w.heap.size) .u32 D d) :
    Calls Try.prog 54 #[.agg #[.bool n, .slice A a.length ca, .slice D d.length cd]] w fun e w' => e = .returned (.int .i64 (nearQ P Q)) ∧ Below w.heap.size w w' := by
  obtain ⟨W, hW, kW, B0⟩ : ∃ W, w.alloc (.cells #[.bool n, .slice A a.length ca, .slice D d.length cd] 81) = W ∧ Box W w.heap.size 81 [.bool n, .slice A a.length ca, .slice D d.length cd] ∧ Below w.heap.size w W := ⟨_, rfl, Box.new w _ [.bool n, .slice A a.length ca, .slice D d.length cd], (Below.refl _ _).alloc (Nat.le_refl _) _⟩
  have cA := Lib.hid (rv_Add P 1 Q 2 8 hQ (by omega) (by omega))
  have hN : (P * ((2 : Nat) : Int) + 1 * (Q : Int)) / ((Q * 2 : Nat) : Int) = nearQ P Q := by unfold nearQ; congr 1 <;> omega
  have hNb : -9223372036854775808 ≤ nearQ P Q ∧ nearQ P Q ≤ 9223372036854775807 := by
    have h0 : (0 : Int) < Q := by omega
    have hh : (1 : Int) ≤ Q := by omega
    have hP2 : -1099511627776 ≤ P ∧ P ≤ 1099511627776 := by omega
    have h1 := nearQ_in (v := P) (d := (Q : Int)) (lo := -1099511627776) (hi := 1099511627776) h0 ⟨by omega, by omega⟩
    omega
  have cF := rv_Floor (P * ((2 : Nat) : Int) + 1 * (Q : Int)) (Q * 2) 8 (by omega) (by omega)
  rw [hN] at cF
  replace cF := Lib.hid cF
  have HS := Lib.hid hS
  have hV1 := Lib.hid (fun n' a' ca' d' cd' (k : SF 1 2 n' a' ca' d' cd') => SF.toV (m := 8) (by omega) (by decide) (by decide) k)
  have e8 : (18446744073709551616 : Nat) ≤ 4294967296 ^ 8 := by decide
  have e2 : (P * ((2 : Nat) : Int) + 1 * (Q : Int)).natAbs < 4294967296 ^ 8 := Nat.lt_of_lt_of_le (by omega) e8
  have e3 : Q * 2 < 4294967296 ^ 8 := Nat.lt_of_lt_of_le (by omega) e8
  have hV2 := Lib.hid (fun n' a' ca' d' cd' (k : SF (P * ((2 : Nat) : Int) + 1 * (Q : Int)) (Q * 2) n' a' ca' d' cd') => SF.toV (m := 8) (by omega) e2 e3 k)
  have rW := Lib.hid (fun V (hV : Below W.heap.size W V) => And.intro ((r.on B0).on hV) ((q.on B0).on hV))
  have HI := Lib.hid (fun (xs : List Nat) (X : Option Addr) (cx : Nat) (V : World) (hn : Norm 4294967296 xs) (hv : val 4294967296 xs = (nearQ P Q).natAbs) (hx : Rd V (fun g => g < V.heap.size) .u32 X xs) => show Calls Try.prog 70 #[.agg #[.bool (decide (nearQ P Q < 0)), .slice X xs.length cx]] V (fun e w' => e = .returned (.tuple #[.int .i64 (nearQ P Q), .bool true]) ∧ Below V.heap.size V w') from by
    refine (ref2_Int _ xs X cx V hx ?_ hn.1).mono ?_
    · have e3 : (4294967296 : Nat) ^ 3 = 79228162514264337593543950336 := by decide
      have : xs.length ≤ 3 := hn.2.length_le (b := 4294967296) (by omega) (by rw [hv, e3]; omega)
      omega
    · rintro e w' ⟨he, hb⟩
      rw [wv_own hv, (isInt_yes hNb.1 hNb.2).1, (isInt_yes hNb.1 hNb.2).2] at he
      exact ⟨he, hb⟩)
  have HB0 := Lib.hid B0
  have hlt := kW.lt
  have HW := Lib.hid hW
  obtain ⟨p0, p1, p2⟩ := show W.cell? ⟨w.heap.size, 0, none⟩ = some (.bool n) ∧ W.cell? ⟨w.heap.size, 1, none⟩ = some (.slice A a.length ca) ∧ W.cell? ⟨w.heap.size, 2, none⟩ = some (.slice D d.length cd) from ⟨kW.cell 0 rfl, kW.cell 1 rfl, kW.cell 2 rfl⟩
  have HP := Lib.hid (show (W.drew.cell? ⟨w.heap.size, 0, none⟩ = some (.bool n) ∧ W.drew.cell? ⟨w.heap.size, 1, none⟩ = some (.slice A a.length ca) ∧ W.drew.cell? ⟨w.heap.size, 2, none⟩ = some (.slice D d.length cd)) ∧ Below W.heap.size W W.drew from ⟨⟨p0, p1, p2⟩, below_drewN (Below.refl _ _) 1⟩)
  clear hP hN hNb hS r q B0 hW kW e2 e3 e8
  go_enter Try.func54, Try.ntmps54
  go_wp2_with fail
  rw [HW.out]
  go_region_held3 (fun w' => (w'.cell? ⟨w.heap.size, 0, none⟩ = some (.bool n) ∧ w'.cell? ⟨w.heap.size, 1, none⟩ = some (.slice A a.length ca) ∧ w'.cell? ⟨w.heap.size, 2, none⟩ = some (.slice D d.length cd)) ∧ Below W.heap.size W w')
    (first | (with_reducible exact HP.out) | (with_reducible exact keep3w hlt (by assumption) b6))
    ((first
      | (go_at_call 73; (with_reducible refine Calls.mono (rv_HalfOne _) ?_); rintro e w1 ⟨n1, a1, A1, ca1, d1, D1, cd1, rfl, s1, r1, q1, b6⟩)
      | (go_at_call 72; (with_reducible refine Calls.mono (cA.out n n1 a d a1 d1 A D A1 D1 ca cd ca1 cd1 w1 HS.out (hV1.out _ _ _ _ _ s1) (rW.out w1 (low3 (by assumption))).1 (rW.out w1 (low3 (by assumption))).2 r1 q1) ?_); rintro e w2 ⟨n2, a2, A2, ca2, d2, D2, cd2, rfl, s2, r2, q2, b6⟩)
      | (go_at_call 71; (with_reducible refine Calls.mono (cF.out n2 a2 d2 A2 D2 ca2 cd2 w2 (hV2.out _ _ _ _ _ s2) r2 q2) ?_); rintro e w3 ⟨X, xs, cx, rfl, hcx, hnx, hvx, rx, b6⟩)
      | (go_at_call 70; (with_reducible refine Calls.mono (HI.out xs X cx w3 hnx hvx rx) ?_); rintro e w4 ⟨rfl, b6⟩)))
  all_goals
    rename_i hHeld
    obtain ⟨-, hB⟩ := hHeld
    go_wp2_with fail
    go_ret
    exact ⟨rfl, HB0.out.trans (hB.mono HB0.out.size)⟩
end Go.Proofs.Ytkebffkekinblaa
/- Curves, the document's own: the point of a curve, by neighbours, till one is left. -/

namespace Go.Proofs.Ytkebffkekinblaa
open Go.RowKit Num rows

/-- a spot that is worth a point's parts by q -/
def SpIs (p : Pt) (q : Nat) (s : Sp) : Prop := SV p.x q 8 s.n1 s.a1 s.c1 s.d1 s.e1 ∧ SV p.y q 8 s.n2 s.a2 s.c2 s.d2 s.e2
/-- .. one by one -/
def SpsAre (w : World) (q : Nat) (ps : List Pt) (L : List Sp) : Prop := ps.length = L.length ∧ ∀ (i : Nat) (h : i < ps.length) (h' : i < L.length), SpIs ps[i] q L[i] ∧ L[i].Ok w
theorem SpsAre.nil (w : World) (q : Nat) : SpsAre w q [] [] := ⟨rfl, fun i h => absurd h (by simp)⟩
theorem SpsAre.imp {w w' : World} {q : Nat} {ps : List Pt} {L : List Sp} (h : SpsAre w q ps L) (hw : ∀ s : Sp, s.Ok w → s.Ok w') : SpsAre w' q ps L := ⟨h.1, fun i h1 h2 => ⟨(h.2 i h1 h2).1, hw _ (h.2 i h1 h2).2⟩⟩
theorem SpsAre.snoc {w : World} {q : Nat} {ps : List Pt} {L : List Sp} (h : SpsAre w q ps L) {p : Pt} {s : Sp} (hp : SpIs p q s) (hs : s.Ok w) : SpsAre w q (ps ++ [p]) (L ++ [s]) := by
  refine ⟨by simp [h.1], fun i h1 h2 => ?_⟩
  rcases Nat.lt_or_ge i ps.length with hi | hi
  · rw [List.getElem_append_left hi, List.getElem_append_left (by rw [← h.1]; exact hi)]
    exact h.2 i hi (by rw [← h.1]; exact hi)
  · have hi2 : i = ps.length := by simp at h1; omega
    subst hi2
    have e : (L ++ [s])[ps.length] = s := by
      rw [List.getElem_append_right (by rw [h.1]; exact Nat.le_refl _)]
      simp [h.1]
    rw [List.getElem_append_right (Nat.le_refl _), e]
    simpa using ⟨hp, hs⟩
/-- a spot as it is handed on -/
def Sp.v (s : Sp) : Value := .agg #[.bool s.n1, .slice s.A1 s.a1.length s.c1, .slice s.D1 s.d1.length s.e1, .bool s.n2, .slice s.A2 s.a2.length s.c2, .slice s.D2 s.d2.length s.e2]
theorem part_lt {x : Int} (h : -274877874176 ≤ x ∧ x ≤ 274877874176) : x.natAbs < 4294967296 ^ 2 := by
  have e : (4294967296 : Nat) ^ 2 = 18446744073709551616 := by decide
  rw [e]; omega
theorem Sp.Ok.drew {w : World} {s : Sp} (h : s.Ok w) : s.Ok w.drew := h.on (below_drewN (Below.refl _ _) 1)

end Go.Proofs.Ytkebffkekinblaa
/- Curves, the document's own: Curve. -/

namespace Go.Proofs.Ytkebffkekinblaa
open Go.RowKit Num rows

theorem rv_IntV (k : Nat) (hk : k ≤ 32) (V : World) : Calls Try.prog 53 #[.int .i64 (k : Int)] V (Gv (SV (k : Int) 1 8) V) := by
  have e8 : (18446744073709551616 : Nat) ≤ 4294967296 ^ 8 := by decide
  exact (rv_Int (k : Int) (by omega) (by omega) V).mono fun _ _ => Gv.imp fun _ _ _ _ _ h => h.toV (by omega) (Nat.lt_of_lt_of_le (by omega) e8) (Nat.lt_of_lt_of_le (by omega) e8)
theorem rv_DivV (k n : Nat) (hn : 0 < n) (hn2 : n ≤ 32) (hk : k ≤ 32) (b b' : Bool) (a d a' d' : List Nat) (A D A' D' : Option Addr) (ca cd ca' cd' : Nat) (w : World) (hS : SV (k : Int) 1 8 b a ca d cd) (hT : SV (n : Int) 1 8 b' a' ca' d' cd')
    (r : Rd w (fun g => g < w.heap.size) .u32 A a) (q : Rd w (fun g => g < w.heap.size) .u32 D d) (r' : Rd w (fun g => g < w.heap.size) .u32 A' a') (q' : Rd w (fun g => g < w.heap.size) .u32 D' d') :
    Calls Try.prog 52 #[.agg #[.bool b, .slice A a.length ca, .slice D d.length cd], .agg #[.bool b', .slice A' a'.length ca', .slice D' d'.length cd']] w
      (fun e w' => ∃ n3 a3 A3 ca3 d3 D3 cd3, e = .returned (.tuple #[.agg #[.bool n3, .slice A3 (List.length a3) ca3, .slice D3 (List.length d3) cd3], .int .i64 0]) ∧ SV (k : Int) n 8 n3 a3 ca3 d3 cd3 ∧ Rd w' (fun g => g < w'.heap.size) .u32 A3 a3 ∧ Rd w' (fun g => g < w'.heap.size) .u32 D3 d3 ∧ Below w.heap.size w w') := by
  have e8 : (18446744073709551616 : Nat) ≤ 4294967296 ^ 8 := by decide
  refine (rv_DivInt (k : Int) 1 n 8 (by omega) hn (by omega) b b' a d a' d' A D A' D' ca cd ca' cd' w hS hT r q r' q').mono ?_
  rintro e w' ⟨v, rfl, n3, a3, A3, ca3, d3, D3, cd3, hv, s3, r3, q3, b3⟩
  cases hv
  rw [Nat.one_mul] at s3
  exact ⟨n3, a3, A3, ca3, d3, D3, cd3, rfl, s3.toV hn (Nat.lt_of_lt_of_le (by omega) e8) (Nat.lt_of_lt_of_le (by omega) e8), r3, q3, b3⟩

/-- what lay below, and one block more, stay -/
def KeepG (wo V2 : World) (g : Nat) (V : World) : Prop := Below wo.heap.size wo V ∧ g < V.heap.size ∧ V2.heap[g]? = V.heap[g]?
theorem KeepG.on {wo V2 V V' : World} {g : Nat} (h : KeepG wo V2 g V) (b : Below V.heap.size V V') : KeepG wo V2 g V' := ⟨h.1.trans (b.mono h.1.size), Nat.lt_of_lt_of_le h.2.1 b.size, h.2.2.trans (b.block _ h.2.1).symm⟩
theorem KeepG.alloc {wo V2 V : World} {g : Nat} (h : KeepG wo V2 g V) (o : Obj) : KeepG wo V2 g (V.alloc o) := h.on (below_new V o)
theorem KeepG.drew {wo V2 V : World} {g : Nat} (h : KeepG wo V2 g V) : KeepG wo V2 g V.drew := ⟨h.1.drew, h.2.1, h.2.2⟩
theorem KeepG.grown {wo V2 V V' wr : World} {g base k n : Nat} {e : TypeId} {v : Value} {xs : List Value} (h : KeepG wo V2 g V) (hg : V.grownBy V' v.ownBlock) (ho : V.ownsRow base e k v n xs) (hr : wr.ownsRow base e k v n xs) (hb : wo.heap.size ≤ base) (hw : wr.heap.size ≤ g) : KeepG wo V2 g V' :=
  ⟨h.1.grown hg h.1.size (fun kk ee => Nat.le_trans hb (ho.lt kk ee).1), Nat.lt_of_lt_of_le h.2.1 hg.size, h.2.2.trans (hg.block _ h.2.1 (fun ee => by have h1 := (hr.lt _ ee.symm).2; omega)).symm⟩

end Go.Proofs.Ytkebffkekinblaa
