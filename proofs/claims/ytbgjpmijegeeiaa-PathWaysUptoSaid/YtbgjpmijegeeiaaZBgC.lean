/- Curves, the document's own: a fraction of two ints, a point of the way between two, its nearest whole number: by what they are worth. -/
import Derived.Test.YtbgjpmijegeeiaaZSgC
import Derived.Test.YtbgjpmijegeeiaaZAfX
import Derived.Test.YtbgjpmijegeeiaaZFrZ
import Derived.Test.YtbgjpmijegeeiaaZBgA
import Derived.Deep.RegionHeld3
import Derived.Test.YtbgjpmijegeeiaaZBgB
namespace Go.Proofs.Ytbgjpmijegeeiaa
open Go.RowKit Num

theorem crossInt {u d d' P Q M : Int} (h : u * Q = P * d) : u * d' * (Q * M) = P * (M * d' * d) := by
  have e : u * d' * (Q * M) = u * Q * (d' * M) := by ac_rfl
  rw [e, h]
  ac_rfl
/-- a fraction by a number above 0 -/
theorem rv_DivInt (P : Int) (Q M m : Nat) (hQ : 0 < Q) (hM : 0 < M) (hm : m ≤ 2097152) (n n' : Bool) (a d a' d' : List Nat) (A D A' D' : Option Addr) (ca cd ca' cd' : Nat) (w : World) (hS : SV P Q m n a ca d cd) (hT : SV (M : Int) 1 m n' a' ca' d' cd')
    (r : Rd w (fun g => g < w.heap.size) .u32 A a) (q : Rd w (fun g => g < w.heap.size) .u32 D d) (r' : Rd w (fun g => g < w.heap.size) .u32 A' a') (q' : Rd w (fun g => g < w.heap.size) .u32 D' d') :
    Calls Try.prog 39 #[.agg #[.bool n, .slice A a.length ca, .slice D d.length cd], .agg #[.bool n', .slice A' a'.length ca', .slice D' d'.length cd']] w
      (fun e w' => ∃ v, e = .returned (.tuple #[v, .int .i64 0]) ∧ Gv (SF P (Q * M)) w (.returned v) w') := by
  refine (ref4_Div n n' a d a' d' A D A' D' ca cd ca' cd' w r q r' q' (Nat.le_trans hS.2.2.2.2.1 hm) (Nat.le_trans hS.2.2.2.2.2.1 hm) (Nat.le_trans hT.2.2.2.2.1 hm) (Nat.le_trans hT.2.2.2.2.2.1 hm) hS.2.2.1 hS.2.2.2.1 hT.2.2.1 hT.2.2.2.1).mono ?_
  intro e w' h
  have hd := loD_pos d
  have hd' := loD_pos d'
  have hT7 : upN n' a' d' = (M : Int) * (loD d' : Int) := by have := hT.2.2.2.2.2.2; omega
  have hS7 := hS.2.2.2.2.2.2
  have hpos : 0 < (M : Int) * (loD d' : Int) * (loD d : Int) := Int.mul_pos (Int.mul_pos (by omega) (by omega)) (by omega)
  rw [hT7] at h
  have hN : (((M : Int) * (loD d' : Int) * (loD d : Int)).natAbs : Int) = (M : Int) * (loD d' : Int) * (loD d : Int) := Int.natAbs_of_nonneg (by omega)
  have hA : acrossN (upN n a d * (loD d' : Int)) ((M : Int) * (loD d' : Int) * (loD d : Int)) = upN n a d * (loD d' : Int) := by unfold acrossN; rw [if_neg (by omega)]
  rw [hA] at h
  rcases h with ⟨h0, -, -⟩ | ⟨h0, v, rfl, h⟩
  · exact absurd h0 (by omega)
  · refine ⟨v, rfl, gv_of_f (h.conv h0 (Nat.mul_pos hQ hM) ?_)⟩
    rw [hN, Int.natCast_mul]
    exact crossInt hS7
theorem tw_eq (P1 P3 Q k n : Int) : (P1 * (n * (Q * Q)) + k * (P3 * Q - P1 * Q) * Q) * (Q * n) = ((n - k) * P1 + k * P3) * (Q * (n * (Q * Q))) := by grind
/-- one part of a point of the way -/
theorem toward_one {P1 P3 : Int} {Q k n : Nat} (hQ : 0 < Q) (hn : 0 < n) (p1 : P1.natAbs < 4294967296 ^ 2) (p3 : P3.natAbs < 4294967296 ^ 2) (hQ1 : Q ≤ 4294967296 ^ 1) (hk1 : k < 4294967296 ^ 1) (hn1 : n ≤ 4294967296 ^ 1) (hr : ((n : Int) - k) * P1 + k * P3 < 4294967296 ^ 3 ∧ -(4294967296 ^ 3) < ((n : Int) - k) * P1 + k * P3) :
    ∃ S50 S51, Fn2 66 (SV P3 Q 8) (SV P1 Q 8) S50 ∧ Fn2 65 (SV (k : Int) n 8) S50 S51 ∧ Fn2 54 (SV P1 Q 8) S51 (SV (((n : Int) - k) * P1 + k * P3) (Q * n) 8) := by
  have n0 := sub_lt p3 p1 hQ1 hQ1 (s := 3) (by omega) (by omega)
  have d0 := prod_le hQ1 hQ1 (k := 2) (by omega)
  have hk2 : (k : Int).natAbs < 4294967296 ^ 1 := by simpa using hk1
  have n1 := mulI_lt hk2 n0 (k := 5) (by omega)
  have d1 := prod_le hn1 d0 (k := 3) (by omega)
  have k0 := Nat.mul_pos hQ hQ
  have k1 := Nat.mul_pos hn k0
  have x0 := (rv_Sub P3 P1 Q Q 8 hQ hQ (by omega)).fit (m := 8) k0 n0 (by omega) d0 (by omega)
  have x1 := (rv_Mul (k : Int) _ n _ 8 hn k0 (by omega)).fit (m := 8) k1 n1 (by omega) d1 (by omega)
  have x2 := rv_Add P1 ((k : Int) * (P3 * (Q : Int) - P1 * (Q : Int))) Q (n * (Q * Q)) 8 hQ k1 (by omega)
  refine ⟨_, _, x0, x1, x2.imp (fun _ _ _ _ _ k => k) (fun _ _ _ _ _ k => k) fun _ _ _ _ _ h => ?_⟩
  have h2 := SF.conv (P' := ((n : Int) - k) * P1 + k * P3) (Q' := Q * n) (Nat.mul_pos hQ k1) (Nat.mul_pos hQ hn) (by
    have := tw_eq P1 P3 (Q : Int) (k : Int) (n : Int)
    simpa only [Int.natCast_mul] using this) h
  refine h2.toV (Nat.mul_pos hQ hn) ?_ (lt_of_le_pow (prod_le hQ1 hn1 (k := 2) (by omega)) (by omega))
  have e3 : (4294967296 : Int) ^ 3 = 79228162514264337593543950336 := by decide
  have e8 : (79228162514264337593543950336 : Nat) ≤ 4294967296 ^ 8 := by decide
  rw [e3] at hr
  refine Nat.lt_of_lt_of_le ?_ e8
  omega

set_option maxRecDepth 10000 in
set_option maxHeartbeats 3200000 in
/-- to the nearest whole number -/
theorem ref10_NearQ (P : Int) (Q : Nat) (hQ : 0 < Q) (hQ1 : Q ≤ 32768) (hP : P.natAbs ≤ 1099511627776) (n : Bool) (a d : List Nat) (A D : Option Addr) (ca cd : Nat) (w : World) (hS : SV P Q 8 n a ca d cd) (r : Rd w (fun g => g < w.heap.size) .u32 A a) (q : Rd w (fun g => g < w.heap.size) .u32 D d) :
    Calls Try.prog 42 #[.agg #[.bool n, .slice A a.length ca, .slice D d.length cd]] w fun e w' => e = .returned (.int .i64 (nearQ P Q)) ∧ Below w.heap.size w w' := by
  obtain ⟨W, hW, kW, B0⟩ : ∃ W, w.alloc (.cells #[.bool n, .slice A a.length ca, .slice D d.length cd] 83) = W ∧ Box W w.heap.size 83 [.bool n, .slice A a.length ca, .slice D d.length cd] ∧ Below w.heap.size w W := ⟨_, rfl, Box.new w _ [.bool n, .slice A a.length ca, .slice D d.length cd], (Below.refl _ _).alloc (Nat.le_refl _) _⟩
  have cA := Lib.hid (rv_Add P 1 Q 2 8 hQ (by omega) (by omega))
  have hN : (P * ((2 : Nat) : Int) + 1 * (Q : Int)) / ((Q * 2 : Nat) : Int) = nearQ P Q := by unfold nearQ; congr 1 <;> omega
  have hNb : -9223372036854775808 ≤ nearQ P Q ∧ nearQ P Q ≤ 9223372036854775807 := by
    have h0 : (0 : Int) < Q := by omega
    have hh : (1 : Int) ≤ Q := by omega
    have hP2 : -1099511627776 ≤ P ∧ P ≤ 1099511627776 := by omega
    have h1 := nearQ_in (v := P) (d := (Q : Int)) (lo := -1099511627776) (hi := 1099511627776) h0 ⟨by omega, by omega⟩
    omega
  have cF := rv_Floor (P * ((2 : Nat) : Int) + 1 * (Q : Int)) (Q * 2) 8 (by omega) (by omega)
  rw [hN] at cF
  replace cF := Lib.hid cF
  have HS := Lib.hid hS
  have hV1 := Lib.hid (fun n' a' ca' d' cd' (k : SF 1 2 n' a' ca' d' cd') => SF.toV (m := 8) (by omega) (by decide) (by decide) k)
  have e8 : (18446744073709551616 : Nat) ≤ 4294967296 ^ 8 := by decide
  have e2 : (P * ((2 : Nat) : Int) + 1 * (Q : Int)).natAbs < 4294967296 ^ 8 := Nat.lt_of_lt_of_le (by omega) e8
  have e3 : Q * 2 < 4294967296 ^ 8 := Nat.lt_of_lt_of_le (by omega) e8
  have hV2 := Lib.hid (fun n' a' ca' d' cd' (k : SF (P * ((2 : Nat) : Int) + 1 * (Q : Int)) (Q * 2) n' a' ca' d' cd') => SF.toV (m := 8) (by omega) e2 e3 k)
  have rW := Lib.hid (fun V (hV : Below W.heap.size W V) => And.intro ((r.on B0).on hV) ((q.on B0).on hV))
  have HI := Lib.hid (fun (xs : List Nat) (X : Option Addr) (cx : Nat) (V : World) (hn : Norm 4294967296 xs) (hv : val 4294967296 xs = (nearQ P Q).natAbs) (hx : Rd V (fun g => g < V.heap.size) .u32 X xs) => show Calls Try.prog 52 #[.agg #[.bool (decide (nearQ P Q < 0)), .slice X xs.length cx]] V (fun e w' => e = .returned (.tuple #[.int .i64 (nearQ P Q), .bool true]) ∧ Below V.heap.size V w') from by
    refine (ref2_Int _ xs X cx V hx ?_ hn.1).mono ?_
    · have e3 : (4294967296 : Nat) ^ 3 = 79228162514264337593543950336 := by decide
      have : xs.length ≤ 3 := hn.2.length_le (b := 4294967296) (by omega) (by rw [hv, e3]; omega)
      omega
    · rintro e w' ⟨he, hb⟩
      rw [wv_own hv, (isInt_yes hNb.1 hNb.2).1, (isInt_yes hNb.1 hNb.2).2] at he
      exact ⟨he, hb⟩)
  have HB0 := Lib.hid B0
  have hlt := kW.lt
  have HW := Lib.hid hW
  obtain ⟨p0, p1, p2⟩ := show W.cell? ⟨w.heap.size, 0, none⟩ = some (.bool n) ∧ W.cell? ⟨w.heap.size, 1, none⟩ = some (.slice A a.length ca) ∧ W.cell? ⟨w.heap.size, 2, none⟩ = some (.slice D d.length cd) from ⟨kW.cell 0 rfl, kW.cell 1 rfl, kW.cell 2 rfl⟩
  have HP := Lib.hid (show (W.drew.cell? ⟨w.heap.size, 0, none⟩ = some (.bool n) ∧ W.drew.cell? ⟨w.heap.size, 1, none⟩ = some (.slice A a.length ca) ∧ W.drew.cell? ⟨w.heap.size, 2, none⟩ = some (.slice D d.length cd)) ∧ Below W.heap.size W W.drew from ⟨⟨p0, p1, p2⟩, below_drewN (Below.refl _ _) 1⟩)
  clear hP hN hNb hS r q B0 hW kW e2 e3 e8
  go_enter Try.func42, Try.ntmps42
  go_wp2_with fail
  rw [HW.out]
  go_region_held3 (fun w' => (w'.cell? ⟨w.heap.size, 0, none⟩ = some (.bool n) ∧ w'.cell? ⟨w.heap.size, 1, none⟩ = some (.slice A a.length ca) ∧ w'.cell? ⟨w.heap.size, 2, none⟩ = some (.slice D d.length cd)) ∧ Below W.heap.size W w')
    (first | (with_reducible exact HP.out) | (with_reducible exact keep3w hlt (by assumption) b6))
    ((first
      | (go_at_call 55; (with_reducible refine Calls.mono (rv_HalfOne _) ?_); rintro e w1 ⟨n1, a1, A1, ca1, d1, D1, cd1, rfl, s1, r1, q1, b6⟩)
      | (go_at_call 54; (with_reducible refine Calls.mono (cA.out n n1 a d a1 d1 A D A1 D1 ca cd ca1 cd1 w1 HS.out (hV1.out _ _ _ _ _ s1) (rW.out w1 (low3 (by assumption))).1 (rW.out w1 (low3 (by assumption))).2 r1 q1) ?_); rintro e w2 ⟨n2, a2, A2, ca2, d2, D2, cd2, rfl, s2, r2, q2, b6⟩)
      | (go_at_call 53; (with_reducible refine Calls.mono (cF.out n2 a2 d2 A2 D2 ca2 cd2 w2 (hV2.out _ _ _ _ _ s2) r2 q2) ?_); rintro e w3 ⟨X, xs, cx, rfl, hcx, hnx, hvx, rx, b6⟩)
      | (go_at_call 52; (with_reducible refine Calls.mono (HI.out xs X cx w3 hnx hvx rx) ?_); rintro e w4 ⟨rfl, b6⟩)))
  all_goals
    rename_i hHeld
    obtain ⟨-, hB⟩ := hHeld
    go_wp2_with fail
    go_ret
    exact ⟨rfl, HB0.out.trans (hB.mono HB0.out.size)⟩
end Go.Proofs.Ytbgjpmijegeeiaa
/- Curves, the document's own: the point of a curve, by neighbours, till one is left. -/

namespace Go.Proofs.Ytbgjpmijegeeiaa
open Go.RowKit Num rows

/-- a spot that is worth a point's parts by q -/
def SpIs (p : Pt) (q : Nat) (s : Sp) : Prop := SV p.x q 8 s.n1 s.a1 s.c1 s.d1 s.e1 ∧ SV p.y q 8 s.n2 s.a2 s.c2 s.d2 s.e2
/-- .. one by one -/
def SpsAre (w : World) (q : Nat) (ps : List Pt) (L : List Sp) : Prop := ps.length = L.length ∧ ∀ (i : Nat) (h : i < ps.length) (h' : i < L.length), SpIs ps[i] q L[i] ∧ L[i].Ok w
theorem SpsAre.nil (w : World) (q : Nat) : SpsAre w q [] [] := ⟨rfl, fun i h => absurd h (by simp)⟩
theorem SpsAre.imp {w w' : World} {q : Nat} {ps : List Pt} {L : List Sp} (h : SpsAre w q ps L) (hw : ∀ s : Sp, s.Ok w → s.Ok w') : SpsAre w' q ps L := ⟨h.1, fun i h1 h2 => ⟨(h.2 i h1 h2).1, hw _ (h.2 i h1 h2).2⟩⟩
theorem SpsAre.snoc {w : World} {q : Nat} {ps : List Pt} {L : List Sp} (h : SpsAre w q ps L) {p : Pt} {s : Sp} (hp : SpIs p q s) (hs : s.Ok w) : SpsAre w q (ps ++ [p]) (L ++ [s]) := by
  refine ⟨by simp [h.1], fun i h1 h2 => ?_⟩
  rcases Nat.lt_or_ge i ps.length with hi | hi
  · rw [List.getElem_append_left hi, List.getElem_append_left (by rw [← h.1]; exact hi)]
    exact h.2 i hi (by rw [← h.1]; exact hi)
  · have hi2 : i = ps.length := by simp at h1; omega
    subst hi2
    have e : (L ++ [s])[ps.length] = s := by
      rw [List.getElem_append_right (by rw [h.1]; exact Nat.le_refl _)]
      simp [h.1]
    rw [List.getElem_append_right (Nat.le_refl _), e]
    simpa using ⟨hp, hs⟩
/-- a spot as it is handed on -/
def Sp.v (s : Sp) : Value := .agg #[.bool s.n1, .slice s.A1 s.a1.length s.c1, .slice s.D1 s.d1.length s.e1, .bool s.n2, .slice s.A2 s.a2.length s.c2, .slice s.D2 s.d2.length s.e2]
theorem part_lt {x : Int} (h : -274877874176 ≤ x ∧ x ≤ 274877874176) : x.natAbs < 4294967296 ^ 2 := by
  have e : (4294967296 : Nat) ^ 2 = 18446744073709551616 := by decide
  rw [e]; omega
theorem mid_lt {a b : Int} {k n : Nat} (hk : k ≤ n) (hn : n ≤ 32) (ha : -274877874176 ≤ a ∧ a ≤ 274877874176) (hb : -274877874176 ≤ b ∧ b ≤ 274877874176) : ((n : Int) - k) * a + k * b < 4294967296 ^ 3 ∧ -(4294967296 ^ 3) < ((n : Int) - k) * a + k * b := by
  have e3 : (4294967296 : Int) ^ 3 = 79228162514264337593543950336 := by decide
  have h1 := mul_bound (a := (n : Int) - k) (A := 32) (x := a) (X := 274877874176) (by omega) ha
  have h2 := mul_bound (a := (k : Int)) (A := 32) (x := b) (X := 274877874176) (by omega) hb
  rw [e3]
  omega
/-- a point of the way between two -/
theorem ref11_Toward (a b : Pt) (q k n : Nat) (hq : 0 < q) (hq1 : q ≤ 32768) (hk : k ≤ n) (hn : n ≤ 32) (hn1 : 1 ≤ n) (ha : (-274877874176 ≤ a.x ∧ a.x ≤ 274877874176) ∧ (-274877874176 ≤ a.y ∧ a.y ≤ 274877874176)) (hb : (-274877874176 ≤ b.x ∧ b.x ≤ 274877874176) ∧ (-274877874176 ≤ b.y ∧ b.y ≤ 274877874176))
    (x y : Sp) (hx : SpIs a q x) (hy : SpIs b q y) (n5 : Bool) (a5 d5 : List Nat) (A5 D5 : Option Addr) (c5 e5 : Nat) (ht : SV (k : Int) n 8 n5 a5 c5 d5 e5) (V : World) (ox : x.Ok V) (oy : y.Ok V) (r5 : Rd V (fun g => g < V.heap.size) .u32 A5 a5) (q5 : Rd V (fun g => g < V.heap.size) .u32 D5 d5) :
    Calls Try.prog 51 #[x.v, y.v, .agg #[.bool n5, .slice A5 a5.length c5, .slice D5 d5.length e5]] V (fun e w' => ∃ z : Sp, e = .returned z.v ∧ SpIs (midP k n a b) (q * n) z ∧ z.Ok w' ∧ Below V.heap.size V w') := by
  have b1 : q ≤ 4294967296 ^ 1 := by rw [Nat.pow_one]; omega
  have b2 : k < 4294967296 ^ 1 := by rw [Nat.pow_one]; omega
  have b3 : n ≤ 4294967296 ^ 1 := by rw [Nat.pow_one]; omega
  obtain ⟨S0, S1, x0, x1, x2⟩ := toward_one (P1 := a.x) (P3 := b.x) (Q := q) (k := k) (n := n) hq (by omega) (part_lt ha.1) (part_lt hb.1) b1 b2 b3 (mid_lt hk hn ha.1 hb.1)
  obtain ⟨S3, S4, y0, y1, y2⟩ := toward_one (P1 := a.y) (P3 := b.y) (Q := q) (k := k) (n := n) hq (by omega) (part_lt ha.2) (part_lt hb.2) b1 b2 b3 (mid_lt hk hn ha.2 hb.2)
  refine (ref5_Toward _ _ _ _ _ _ _ _ _ _ _ x0 x1 x2 y0 y1 y2 x.n1 x.n2 y.n1 y.n2 n5 x.a1 x.d1 x.a2 x.d2 y.a1 y.d1 y.a2 y.d2 a5 d5 x.A1 x.D1 x.A2 x.D2 y.A1 y.D1 y.A2 y.D2 A5 D5 x.c1 x.e1 x.c2 x.e2 y.c1 y.e1 y.c2 y.e2 c5 e5 V hx.1 hx.2 hy.1 hy.2 ht ox.1.1 ox.1.2 ox.2.1 ox.2.2 oy.1.1 oy.1.2 oy.2.1 oy.2.2 r5 q5).mono ?_
  rintro e w' ⟨n1, a1, A1, c1, d1, D1, e1, n2, a2, A2, c2, d2, D2, e2, rfl, ⟨h1, h2⟩, h3, h4, h5⟩
  exact ⟨⟨n1, a1, A1, c1, d1, D1, e1, n2, a2, A2, c2, d2, D2, e2⟩, rfl, ⟨h1, h2⟩, ⟨h3, h4⟩, h5⟩

/-- one spot more, at a step of a drawn region -/
theorem step_append_sp {ops : Array Oper} {o : Oper} {a : Act} {K : Act → World → Prop} {Q : Exit → Act → World → Prop} {E : Prop} (w : World) (hgd : o.guard = none) (s x : Operand)
    (ho : o.op = .call { callee := .builtin .append, args := #[s, x], argTypes := #[78, 78] }) (base : Nat) (v : Value) (n : Nat) (xs : List Value) (hs : a.eval s = v) (hown : OwnS w base v n xs)
    (ad : Addr) (news : List Value) (hx : a.eval x = .slice (some ad) 1 1) (hl : news.length = 6) (hnews : ∀ j u, news[j]? = some u → w.cell? (ad.add j) = some u) (h1 : ∀ u ∈ news, u.oneCell' = true) (hno : NoInt news) (hn : n ≤ 1073741824) (hbase : base ≤ w.heap.size)
    (h : ∀ v' w', OwnS w' base v' (n + 1) (xs ++ news) → w.grownBy w' v.ownBlock → K (a.put o.dst v') w') :
    if Region.wanted o (yielded ops a.tmps) = true then Oper.wp Try.prog o a w K Q else E := by
  have hw : Region.wanted o (yielded ops a.tmps) = true := by simp [Region.wanted, hgd]
  rw [if_pos hw]
  obtain ⟨v', w', hr, h2, h3⟩ := run_append_sp w base o.type v n xs hown ad news hl hnews h1 hno hn hbase
  unfold Oper.wp execOp
  simp only [ho, resolve, invoke, builtin, Sem.run_bind, Sem.run_pure, Result.andThen_ok, List.map_toArray, List.map_cons, List.map_nil, hs, hx, hr]
  exact h v' w' h2 h3
theorem OwnS.drew {w : World} {base : Nat} {v : Value} {n : Nat} {xs : List Value} (h : OwnS w base v n xs) : OwnS w.drew base v n xs := h
theorem Sp.Ok.drew {w : World} {s : Sp} (h : s.Ok w) : s.Ok w.drew := h.on (below_drewN (Below.refl _ _) 1)

set_option maxRecDepth 10000 in
set_option maxHeartbeats 6400000 in
theorem ref11_point (pts : List Pt) (hF : FitL pts) (L : List Sp) (A : Option Addr) (cap k n : Nat) (hk : k ≤ n) (hn : n ≤ 32) (hn1 : 1 ≤ n) (hl : pts.length ≤ 4) (h0 : 0 < pts.length) (n5 : Bool) (a5 d5 : List Nat) (A5 D5 : Option Addr) (c5 e5 : Nat) (ht : SV (k : Int) n 8 n5 a5 c5 d5 e5) (w : World)
    (hR : RdS w A L) (hL : SpsAre w 1 pts L) (r5 : Rd w (fun g => g < w.heap.size) .u32 A5 a5) (q5 : Rd w (fun g => g < w.heap.size) .u32 D5 d5) :
    Calls Try.prog 41 #[.slice A L.length cap, .agg #[.bool n5, .slice A5 a5.length c5, .slice D5 d5.length e5]] w
      (Gs (SV ((castP k n (pts.length - 1) pts).getD 0 pt0).x (n ^ (pts.length - 1)) 8) (SV ((castP k n (pts.length - 1) pts).getD 0 pt0).y (n ^ (pts.length - 1)) 8) w) := by
  obtain ⟨W, hW, kT, kR, b0, -⟩ := bxb w 83 85 [.bool n5, .slice A5 a5.length c5, .slice D5 d5.length e5] [.bool false, .slice none 0 0, .slice none 0 0, .bool false, .slice none 0 0, .slice none 0 0]
  obtain ⟨m, hm⟩ : ∃ m, pts.length = m + 1 := ⟨pts.length - 1, by omega⟩
  have hm1 : pts.length - 1 = m := by omega
  rw [hm1]
  have hLl := hL.1
  have HK := Lib.hid (And.intro (hR.on b0) (And.intro (hL.imp fun s hs => hs.on b0) (And.intro kT (And.intro kR (And.intro (r5.on b0) (And.intro (q5.on b0) b0))))))
  have HT := Lib.hid ht
  have HM := Lib.hid hm
  have hm3 : m ≤ 3 := by omega
  obtain ⟨fin, hfin⟩ : ∃ fin, (castP (k : Int) (n : Int) m pts).getD 0 pt0 = fin := ⟨_, rfl⟩
  have HFI := Lib.hid hfin
  rw [hfin]
  clear hR hL kT kR r5 q5 b0 ht hm1 hfin
  go_enter Try.func41, Try.ntmps41
  go_wp2_with (rw [hW])
  try rw [hW]
  clear hW
  go_loopg [0] m (fun gh lv wr => ∃ (L' : List Sp) (A' : Option Addr) (cap' : Nat), lv = .slice A' L'.length cap' ∧ gh ≤ m ∧ RdS wr A' L' ∧ SpsAre wr (n ^ (m - gh)) (castP k n (m - gh) pts) L' ∧
    Blk wr w.heap.size 83 [.bool n5, .slice A5 a5.length c5, .slice D5 d5.length e5] ∧ Blk wr (w.heap.size + 1) 85 [.bool false, .slice none 0 0, .slice none 0 0, .bool false, .slice none 0 0, .slice none 0 0] ∧ Rd wr (fun g => g < wr.heap.size) .u32 A5 a5 ∧ Rd wr (fun g => g < wr.heap.size) .u32 D5 d5 ∧ Below w.heap.size w wr)
  case atStart => exact ⟨L, A, cap, rfl, Nat.le_refl _, HK.out.1, by rw [Nat.sub_self]; exact HK.out.2.1, HK.out.2.2⟩
  case round =>
    obtain ⟨L', A', cap', rfl, hgm, hR, hL, kT, kR, r5, q5, hB⟩ := hrel
    have hcl := castP_length (k : Int) (n : Int) (m - gk) pts
    rw [HM.out] at hcl
    have hL1 : L'.length = gk + 1 := by have := hL.1; omega
    cases gk with
    | zero =>
      rw [Nat.sub_zero] at hL hcl
      have hcp : 0 < (castP (k : Int) (n : Int) m pts).length := by omega
      obtain ⟨b, o, rfl, hb, hc⟩ := hR (by omega)
      have hx := hL.2 0 hcp (by omega)
      have e0 := hc 0 (by omega)
      obtain ⟨x, hxx⟩ : ∃ x, L'[0]'(by omega) = x := ⟨_, rfl⟩
      rw [hxx] at hx e0
      rw [← getD_get hcp, HFI.out] at hx
      have x0 := e0 0 _ rfl
      have x1 := e0 1 _ rfl
      have x2 := e0 2 _ rfl
      have x3 := e0 3 _ rfl
      have x4 := e0 4 _ rfl
      have x5 := e0 5 _ rfl
      simp only [Nat.zero_mul, Nat.add_zero] at x0 x1 x2 x3 x4 x5
      obtain ⟨⟨z0, z1, z2, z3, z4, z5⟩, f0, f1, f2, f3, f4, f5⟩ := kR.facts6
      obtain ⟨U, hU, ⟨u0, u1, u2, u3, u4, u5⟩, hG⟩ := fin_spot (w := w) kR (by omega) hB hx.1.1 hx.1.2 hx.2.1.1 hx.2.1.2 hx.2.2.1 hx.2.2.2
      have hpos : 0 < L'.length := by omega
      obtain ⟨nl, hnl⟩ : ∃ nl, L'.length = nl := ⟨_, rfl⟩
      have hn1' : nl = 1 := by omega
      subst hn1'
      rw [hnl]
      have HG := Lib.hid hG
      clear hR hL kT r5 q5 hB hc hx e0 hxx hG hcl hcp hnl hL1 hpos
      go_wp2_with fail
      try rw [hU]
      exact bodyPost_ret (by simp [results, Try.results41, go_sem, u0, u1, u2, u3, u4, u5]) rfl HG.out
    | succ r =>
      obtain ⟨j, hj⟩ : ∃ j, m - (r + 1) = j := ⟨_, rfl⟩
      have hnx : m - r = j + 1 := by omega
      have hT0 := pow_32 (n := n) (r := j) hn (by omega)
      have hq0 := Nat.pow_pos (n := j) (show 0 < n by omega)
      have hsz := cast_bound hF (r := j) hk hn (by omega)
      have HC := Lib.hid (castP_succ (k : Int) (n : Int) j pts)
      have HPW := Lib.hid (Nat.pow_succ (n := n) (m := j))
      rw [hj] at hL hcl
      obtain ⟨cur, hcur⟩ : ∃ cur, castP k n j pts = cur := ⟨_, rfl⟩
      obtain ⟨q, hq⟩ : ∃ q, n ^ j = q := ⟨_, rfl⟩
      rw [hcur] at hcl hL HC hsz
      rw [hq] at hL hT0 hq0 HPW
      obtain ⟨nl, hnl⟩ : ∃ nl, L'.length = nl := ⟨_, rfl⟩
      have HNL := Lib.hid hnl
      have hL2 : nl = r + 2 := by omega
      have hgt : (1 : Int) < (nl : Int) := by omega
      have hnl4 : nl ≤ 4 := by omega
      have HL2 := Lib.hid hL2
      have HI := Lib.hid (And.intro hR (And.intro hL (And.intro kT (And.intro kR (And.intro r5 (And.intro q5 hB))))))
      have HS := Lib.hid hsz
      have HCL := Lib.hid (show cur.length = nl by omega)
      have HJ := Lib.hid (And.intro hnx hgm)
      obtain ⟨wo, hwo⟩ : ∃ x, x = wr := ⟨_, rfl⟩
      subst hwo
      rw [hnl]
      clear hR hL kT kR r5 q5 hB hsz hcur hq hcl hL1 hnl hj hnx hgm hL2
      go_wp2_with fail
      go_loopg [5, 6] (r + 1) (fun gh nv iv wr => ∃ (i : Nat) (Y : List Sp), iv = .int .i64 (i : Int) ∧ gh + i = r + 1 ∧ OwnS wr wo.heap.size nv Y.length (flat Y) ∧ SpsAre wr (q * n) ((stepP k n cur).take i) Y ∧ Below wo.heap.size wo wr)
      case atStart => exact ⟨0, [], rfl, by omega, OwnS.nil _ _, SpsAre.nil _ _, Below.refl _ _⟩
      case round =>
        obtain ⟨i, Y, rfl, hgi, hown, hY, hB⟩ := hrel
        have HG := Lib.hid hgi
        by_cases hlt : i + 1 < nl
        · have hst := stepP_length (k : Int) (n : Int) cur
          rw [HCL.out] at hst
          have hYl : Y.length = i := by have := hY.1; rw [List.length_take] at this; omega
          have hi0 : i < cur.length := by rw [HCL.out]; omega
          have hi1 : i + 1 < cur.length := by rw [HCL.out]; omega
          have hx := (HI.out.2.1.2 i hi0 (by rw [HNL.out]; omega))
          have hy := (HI.out.2.1.2 (i + 1) hi1 (by rw [HNL.out]; omega))
          obtain ⟨b, o, rfl, hb, hc⟩ := HI.out.1 (by rw [HNL.out]; omega)
          have e0 := hc i (by rw [HNL.out]; omega)
          have e1 := hc (i + 1) (by rw [HNL.out]; omega)
          have hstep : (stepP k n cur).take (i + 1) = (stepP k n cur).take i ++ [midP k n cur[i] cur[i + 1]] := by
            rw [List.take_succ_eq_append_getElem (by omega : i < (stepP (k : Int) (n : Int) cur).length), stepP_get _ _ cur i (by omega) hi0 hi1]
          have cT := fun V (h : Below wo.heap.size wo V) => ref11_Toward cur[i] cur[i + 1] q k n hq0 hT0 hk hn hn1 (HS.out _ (List.getElem_mem hi0)) (HS.out _ (List.getElem_mem hi1)) _ _ hx.1 hy.1 n5 a5 d5 A5 D5 c5 e5 HT.out V (hx.2.on h) (hy.2.on h) (HI.out.2.2.2.2.1.on h) (HI.out.2.2.2.2.2.1.on h)
          obtain ⟨x, hxx⟩ : ∃ x, L'[i]'(by rw [HNL.out]; omega) = x := ⟨_, rfl⟩
          obtain ⟨y, hyy⟩ : ∃ y, L'[i + 1]'(by rw [HNL.out]; omega) = y := ⟨_, rfl⟩
          obtain ⟨p, hp⟩ : ∃ p, midP k n cur[i] cur[i + 1] = p := ⟨_, rfl⟩
          rw [hxx] at e0
          rw [hyy] at e1
          simp only [hxx, hyy, hp] at cT
          rw [hp] at hstep
          have HST := Lib.hid hstep
          have cS := fun V (h : Below wo.heap.size wo V) => show (V.cell? ⟨b, o + i * 6, none⟩ = some (.bool x.n1) ∧ V.cell? ⟨b, o + i * 6 + 1, none⟩ = some (.slice x.A1 x.a1.length x.c1) ∧ V.cell? ⟨b, o + i * 6 + 2, none⟩ = some (.slice x.D1 x.d1.length x.e1) ∧ V.cell? ⟨b, o + i * 6 + 3, none⟩ = some (.bool x.n2) ∧ V.cell? ⟨b, o + i * 6 + 4, none⟩ = some (.slice x.A2 x.a2.length x.c2) ∧ V.cell? ⟨b, o + i * 6 + 5, none⟩ = some (.slice x.D2 x.d2.length x.e2) ∧ V.cell? ⟨b, o + (i + 1) * 6, none⟩ = some (.bool y.n1) ∧ V.cell? ⟨b, o + (i + 1) * 6 + 1, none⟩ = some (.slice y.A1 y.a1.length y.c1) ∧ V.cell? ⟨b, o + (i + 1) * 6 + 2, none⟩ = some (.slice y.D1 y.d1.length y.e1) ∧ V.cell? ⟨b, o + (i + 1) * 6 + 3, none⟩ = some (.bool y.n2) ∧ V.cell? ⟨b, o + (i + 1) * 6 + 4, none⟩ = some (.slice y.A2 y.a2.length y.c2) ∧ V.cell? ⟨b, o + (i + 1) * 6 + 5, none⟩ = some (.slice y.D2 y.d2.length y.e2) ∧ V.cell? ⟨w.heap.size, 0, none⟩ = some (.bool n5) ∧ V.cell? ⟨w.heap.size, 1, none⟩ = some (.slice A5 a5.length c5) ∧ V.cell? ⟨w.heap.size, 2, none⟩ = some (.slice D5 d5.length e5)) ∧ Below wo.heap.size wo V from ⟨⟨(h.cell (p := ⟨b, o + i * 6 + 0, none⟩) hb).trans (e0 0 _ rfl), (h.cell (p := ⟨b, o + i * 6 + 1, none⟩) hb).trans (e0 1 _ rfl), (h.cell (p := ⟨b, o + i * 6 + 2, none⟩) hb).trans (e0 2 _ rfl), (h.cell (p := ⟨b, o + i * 6 + 3, none⟩) hb).trans (e0 3 _ rfl), (h.cell (p := ⟨b, o + i * 6 + 4, none⟩) hb).trans (e0 4 _ rfl), (h.cell (p := ⟨b, o + i * 6 + 5, none⟩) hb).trans (e0 5 _ rfl), (h.cell (p := ⟨b, o + (i + 1) * 6 + 0, none⟩) hb).trans (e1 0 _ rfl), (h.cell (p := ⟨b, o + (i + 1) * 6 + 1, none⟩) hb).trans (e1 1 _ rfl), (h.cell (p := ⟨b, o + (i + 1) * 6 + 2, none⟩) hb).trans (e1 2 _ rfl), (h.cell (p := ⟨b, o + (i + 1) * 6 + 3, none⟩) hb).trans (e1 3 _ rfl), (h.cell (p := ⟨b, o + (i + 1) * 6 + 4, none⟩) hb).trans (e1 4 _ rfl), (h.cell (p := ⟨b, o + (i + 1) * 6 + 5, none⟩) hb).trans (e1 5 _ rfl), (HI.out.2.2.1.on h).cell 0 rfl, (HI.out.2.2.1.on h).cell 1 rfl, (HI.out.2.2.1.on h).cell 2 rfl⟩, h⟩
          have HCS := Lib.hid cS
          have HP := Lib.hid (cS wr.drew hB.drew)
          have CT := Lib.hid cT
          have HO := Lib.hid (And.intro hown (And.intro hY hB))
          have HYL := Lib.hid hYl
          have hn8 : Y.length ≤ 1073741824 := by omega
          have hwi : IntKind.i64.wrap ((i : Int) + 1) = (i : Int) + 1 := IntWalk.i64_in _ (by omega)
          have i0 : (i : Int) < (nl : Int) := by omega
          have i1 : 0 ≤ (i : Int) + 1 ∧ (i : Int) + 1 < (nl : Int) := by omega
          have i3 : (i : Int) + 1 < (nl : Int) := by omega
          have ti : ((i : Int) + 1).toNat = i + 1 := by omega
          clear hxx hyy hp hstep cT cS hx hy e0 e1 hown hY hB hYl hst hi0 hi1 hc
          unfold Sp.v at CT
          go_wp2_with fail
          go_region_held3 (fun w' => (w'.cell? ⟨b, o + i * 6, none⟩ = some (.bool x.n1) ∧ w'.cell? ⟨b, o + i * 6 + 1, none⟩ = some (.slice x.A1 x.a1.length x.c1) ∧ w'.cell? ⟨b, o + i * 6 + 2, none⟩ = some (.slice x.D1 x.d1.length x.e1) ∧ w'.cell? ⟨b, o + i * 6 + 3, none⟩ = some (.bool x.n2) ∧ w'.cell? ⟨b, o + i * 6 + 4, none⟩ = some (.slice x.A2 x.a2.length x.c2) ∧ w'.cell? ⟨b, o + i * 6 + 5, none⟩ = some (.slice x.D2 x.d2.length x.e2) ∧ w'.cell? ⟨b, o + (i + 1) * 6, none⟩ = some (.bool y.n1) ∧ w'.cell? ⟨b, o + (i + 1) * 6 + 1, none⟩ = some (.slice y.A1 y.a1.length y.c1) ∧ w'.cell? ⟨b, o + (i + 1) * 6 + 2, none⟩ = some (.slice y.D1 y.d1.length y.e1) ∧ w'.cell? ⟨b, o + (i + 1) * 6 + 3, none⟩ = some (.bool y.n2) ∧ w'.cell? ⟨b, o + (i + 1) * 6 + 4, none⟩ = some (.slice y.A2 y.a2.length y.c2) ∧ w'.cell? ⟨b, o + (i + 1) * 6 + 5, none⟩ = some (.slice y.D2 y.d2.length y.e2) ∧ w'.cell? ⟨w.heap.size, 0, none⟩ = some (.bool n5) ∧ w'.cell? ⟨w.heap.size, 1, none⟩ = some (.slice A5 a5.length c5) ∧ w'.cell? ⟨w.heap.size, 2, none⟩ = some (.slice D5 d5.length e5)) ∧ Below wo.heap.size wo w')
            (first
              | (with_reducible exact HP.out)
              | (with_reducible exact HCS.out _ B1.out)
              | (with_reducible exact HCS.out _ B2.out)
              | (with_reducible exact HCS.out _ B3.out))
            ((first
              | (go_at_call 51; (with_reducible refine Calls.mono (CT.out _ (low3 (by assumption))) ?_); rintro e w9 ⟨z, rfl, hz, oz, b9⟩
                 have B1 := Lib.hid (HP.out.2.trans (b9.mono HP.out.2.size))
                 have B2 := Lib.hid (B1.out.alloc B1.out.size (.cells #[.bool z.n1, .slice z.A1 z.a1.length z.c1, .slice z.D1 z.d1.length z.e1, .bool z.n2, .slice z.A2 z.a2.length z.c2, .slice z.D2 z.d2.length z.e2] 85))
                 have HZ := Lib.hid (And.intro hz (And.intro oz b9))
                 clear hz oz b9)
              | (refine step_append_sp _ (by rfl) _ _ (by rfl) wo.heap.size _ Y.length (flat Y) (by rfl) (((HO.out.1.drew).kept HZ.out.2.2).kept (below_new w9 _)) ⟨w9.heap.size, 0, none⟩ z.cells (by rfl) (by rfl) (one_spot w9 z) (cells_one z) (cells_noint z) hn8 (by have := B1.out.size; simp; omega) ?_; intro v8 w8 hown8 hgrow8
                 have HO8 := Lib.hid hown8
                 have HG8 := Lib.hid hgrow8
                 have B3 := Lib.hid (B2.out.grown hgrow8 B2.out.size (fun kk ee => (((HO.out.1.drew).kept HZ.out.2.2).lt kk ee).1))
                 clear hown8 hgrow8)))
          have hst8 := HO.out.2.1.imp fun s (hs : s.Ok wr) => (HO.out.1.drew.kept HZ.out.2.2).kept (below_new w9 (.cells #[.bool z.n1, .slice z.A1 z.a1.length z.c1, .slice z.D1 z.d1.length z.e1, .bool z.n2, .slice z.A2 z.a2.length z.c2, .slice z.D2 z.d2.length z.e2] 85)) |>.ok HG8.out ((hs.drew.on HZ.out.2.2).on (below_new w9 _))
          have hz8 := ((HO.out.1.drew.kept HZ.out.2.2).kept (below_new w9 (.cells #[.bool z.n1, .slice z.A1 z.a1.length z.c1, .slice z.D1 z.d1.length z.e1, .bool z.n2, .slice z.A2 z.a2.length z.c2, .slice z.D2 z.d2.length z.e2] 85))).ok HG8.out (HZ.out.2.1.on (below_new w9 _))
          have hY8 := hst8.snoc HZ.out.1 hz8
          rw [← HST.out] at hY8
          have ho8 : OwnS w8 wo.heap.size v8 (Y ++ [z]).length (flat (Y ++ [z])) := by rw [flat_snoc, List.length_append]; exact HO8.out
          have HE := Lib.hid (And.intro ho8 hY8)
          clear hst8 hz8 hY8 ho8
          go_wp2_with fail
          go_roundg (r + 1 - (i + 1))
          case measure => have := HG.out; have := HL2.out; omega
          case rel => exact ⟨i + 1, Y ++ [z], by simp, by have := HL2.out; omega, HE.out.1, HE.out.2, B3.out⟩
        · have hir : i = r + 1 := by have := HL2.out; omega
          have hfin : (stepP k n cur).take i = castP k n (m - r) pts := by
            have hst := stepP_length (k : Int) (n : Int) cur
            rw [HCL.out] at hst
            have := HL2.out
            rw [HJ.out.1, HC.out, List.take_of_length_le (by omega)]
          rw [hfin, ← HPW.out] at hY
          have hqe : n ^ j.succ = n ^ (m - r) := by rw [HJ.out.1]
          rw [hqe] at hY
          obtain ⟨A8, cap8, rfl, hc8⟩ := hown.any
          have HE := Lib.hid (And.intro hown.reads (And.intro hY (And.intro (HI.out.2.2.1.on hB) (And.intro (HI.out.2.2.2.1.on hB) (And.intro (HI.out.2.2.2.2.1.on hB) (And.intro (HI.out.2.2.2.2.2.1.on hB) (HI.out.2.2.2.2.2.2.trans (hB.mono HI.out.2.2.2.2.2.2.size))))))))
          have hwi : IntKind.i64.wrap ((i : Int) + 1) = (i : Int) + 1 := IntWalk.i64_in _ (by have := HL2.out; omega)
          have hnot : ¬ (i : Int) + 1 < (nl : Int) := by omega
          clear hown hY hB hfin hqe hir
          go_wp2_with fail
          go_roundg r
          case measure => omega
          case rel => exact ⟨Y, A8, cap8, rfl, by have := HJ.out.2; omega, HE.out.1, HE.out.2.1, HE.out.2.2⟩
end Go.Proofs.Ytbgjpmijegeeiaa
/- Curves, the document's own: Curve. -/

namespace Go.Proofs.Ytbgjpmijegeeiaa
open Go.RowKit Num rows

/-- a point of the grid as a spot -/
theorem ref11_At (p : Pt) (hp : FitP p) (V : World) : Calls Try.prog 38 #[ptV p] V (fun e w' => ∃ z : Sp, e = .returned z.v ∧ SpIs p 1 z ∧ z.Ok w' ∧ Below V.heap.size V w') := by
  unfold FitP at hp
  have e8 : (18446744073709551616 : Nat) ≤ 4294967296 ^ 8 := by decide
  refine (ref5_At (SF p.x 1) (SF p.y 1) p.x p.y (fun V => rv_Int p.x (by omega) (by omega) V) (fun V => rv_Int p.y (by omega) (by omega) V) V).mono ?_
  rintro e w' ⟨n1, a1, A1, c1, d1, D1, e1, n2, a2, A2, c2, d2, D2, e2, rfl, ⟨h1, h2⟩, h3, h4, h5⟩
  exact ⟨⟨n1, a1, A1, c1, d1, D1, e1, n2, a2, A2, c2, d2, D2, e2⟩, rfl, ⟨h1.toV (by omega) (Nat.lt_of_lt_of_le (by omega) e8) (Nat.lt_of_lt_of_le (by omega) e8), h2.toV (by omega) (Nat.lt_of_lt_of_le (by omega) e8) (Nat.lt_of_lt_of_le (by omega) e8)⟩, ⟨h3, h4⟩, h5⟩
theorem rv_IntV (k : Nat) (hk : k ≤ 32) (V : World) : Calls Try.prog 40 #[.int .i64 (k : Int)] V (Gv (SV (k : Int) 1 8) V) := by
  have e8 : (18446744073709551616 : Nat) ≤ 4294967296 ^ 8 := by decide
  exact (rv_Int (k : Int) (by omega) (by omega) V).mono fun _ _ => Gv.imp fun _ _ _ _ _ h => h.toV (by omega) (Nat.lt_of_lt_of_le (by omega) e8) (Nat.lt_of_lt_of_le (by omega) e8)
theorem rv_DivV (k n : Nat) (hn : 0 < n) (hn2 : n ≤ 32) (hk : k ≤ 32) (b b' : Bool) (a d a' d' : List Nat) (A D A' D' : Option Addr) (ca cd ca' cd' : Nat) (w : World) (hS : SV (k : Int) 1 8 b a ca d cd) (hT : SV (n : Int) 1 8 b' a' ca' d' cd')
    (r : Rd w (fun g => g < w.heap.size) .u32 A a) (q : Rd w (fun g => g < w.heap.size) .u32 D d) (r' : Rd w (fun g => g < w.heap.size) .u32 A' a') (q' : Rd w (fun g => g < w.heap.size) .u32 D' d') :
    Calls Try.prog 39 #[.agg #[.bool b, .slice A a.length ca, .slice D d.length cd], .agg #[.bool b', .slice A' a'.length ca', .slice D' d'.length cd']] w
      (fun e w' => ∃ n3 a3 A3 ca3 d3 D3 cd3, e = .returned (.tuple #[.agg #[.bool n3, .slice A3 (List.length a3) ca3, .slice D3 (List.length d3) cd3], .int .i64 0]) ∧ SV (k : Int) n 8 n3 a3 ca3 d3 cd3 ∧ Rd w' (fun g => g < w'.heap.size) .u32 A3 a3 ∧ Rd w' (fun g => g < w'.heap.size) .u32 D3 d3 ∧ Below w.heap.size w w') := by
  have e8 : (18446744073709551616 : Nat) ≤ 4294967296 ^ 8 := by decide
  refine (rv_DivInt (k : Int) 1 n 8 (by omega) hn (by omega) b b' a d a' d' A D A' D' ca cd ca' cd' w hS hT r q r' q').mono ?_
  rintro e w' ⟨v, rfl, n3, a3, A3, ca3, d3, D3, cd3, hv, s3, r3, q3, b3⟩
  cases hv
  rw [Nat.one_mul] at s3
  exact ⟨n3, a3, A3, ca3, d3, D3, cd3, rfl, s3.toV hn (Nat.lt_of_lt_of_le (by omega) e8) (Nat.lt_of_lt_of_le (by omega) e8), r3, q3, b3⟩

/-- what lay below, and one block more, stay -/
def KeepG (wo V2 : World) (g : Nat) (V : World) : Prop := Below wo.heap.size wo V ∧ g < V.heap.size ∧ V2.heap[g]? = V.heap[g]?
theorem KeepG.on {wo V2 V V' : World} {g : Nat} (h : KeepG wo V2 g V) (b : Below V.heap.size V V') : KeepG wo V2 g V' := ⟨h.1.trans (b.mono h.1.size), Nat.lt_of_lt_of_le h.2.1 b.size, h.2.2.trans (b.block _ h.2.1).symm⟩
theorem KeepG.alloc {wo V2 V : World} {g : Nat} (h : KeepG wo V2 g V) (o : Obj) : KeepG wo V2 g (V.alloc o) := h.on (below_new V o)
theorem KeepG.drew {wo V2 V : World} {g : Nat} (h : KeepG wo V2 g V) : KeepG wo V2 g V.drew := ⟨h.1.drew, h.2.1, h.2.2⟩
theorem KeepG.grown {wo V2 V V' wr : World} {g base k n : Nat} {e : TypeId} {v : Value} {xs : List Value} (h : KeepG wo V2 g V) (hg : V.grownBy V' v.ownBlock) (ho : V.ownsRow base e k v n xs) (hr : wr.ownsRow base e k v n xs) (hb : wo.heap.size ≤ base) (hw : wr.heap.size ≤ g) : KeepG wo V2 g V' :=
  ⟨h.1.grown hg h.1.size (fun kk ee => Nat.le_trans hb (ho.lt kk ee).1), Nat.lt_of_lt_of_le h.2.1 hg.size, h.2.2.trans (hg.block _ h.2.1 (fun ee => by have h1 := (hr.lt _ ee.symm).2; omega)).symm⟩

set_option maxRecDepth 10000 in
set_option maxHeartbeats 12800000 in
theorem ref11_Curve (L : List Pt) (A : Option Addr) (c : Nat) (hl : L.length ≤ 4) (h0 : 0 < L.length) (w : World) (hL : RdV w w.heap.size A (ptRow L)) :
    Calls Try.prog 32 #[.slice A L.length c] w (Curved L w) := by
  have cP := ref11_Pieces L A c w hL (by omega)
  unfold Curved
  rw [curveP_length]
  obtain ⟨nl, hnl⟩ : ∃ nl, L.length = nl := ⟨_, rfl⟩
  have HNL := Lib.hid hnl
  rw [hnl] at cP hl h0 ⊢
  obtain ⟨n, hn⟩ : ∃ n, piecesM L = n := ⟨_, rfl⟩
  have hle := piecesM_le L
  have HN := Lib.hid hn
  have HF0 := Lib.hid (piecesM_fit (l := L))
  rw [hn] at cP hle ⊢
  have CP := Lib.hid cP
  have HL := Lib.hid hL
  clear cP hn hnl hL
  by_cases hz : n = 0
  · subst hz
    have he : curveE L = 4 := by unfold curveE; rw [if_pos HN.out]
    have hcp : curveP L = [] := List.eq_nil_of_length_eq_zero (by rw [curveP_length]; exact HN.out)
    rw [he, hcp]
    clear he hcp
    go_enter Try.func32, Try.ntmps32
    go_wp2_with (go_at_call 37; with_reducible refine Calls.mono CP.out ?_; rintro e w1 ⟨rfl, b1⟩)
    go_ret2
    exact ⟨⟨none, 0, rfl, RdV.nil _ _ _⟩, b1⟩
  · have he : curveE L = 0 := by unfold curveE; rw [if_neg (by rw [HN.out]; exact hz)]
    have hcp : curveP L = curveTo n L n := by unfold curveP; rw [HN.out]
    have HF := Lib.hid (HF0.out (by rw [HN.out]; exact hz))
    rw [he, hcp]
    have hzi : ¬ (n : Int) = 0 := by omega
    have hzb : ((n : Int) == 0) = false := by simpa using hzi
    clear he hcp
    go_enter Try.func32, Try.ntmps32
    go_wp2_with (go_at_call 37; with_reducible refine Calls.mono CP.out ?_; rintro e w1 ⟨rfl, b1⟩)
    go_loopg [5, 6] nl (fun gh sv iv wr => ∃ (i : Nat) (Y : List Sp), iv = .int .i64 (i : Int) ∧ gh + i = nl ∧ OwnS wr w1.heap.size sv Y.length (flat Y) ∧ SpsAre wr 1 (L.take i) Y ∧ Below w1.heap.size w1 wr ∧ Below w.heap.size w wr)
    case atStart => exact ⟨0, [], rfl, by omega, OwnS.nil _ _, SpsAre.nil _ _, Below.refl _ _, b1⟩
    case round =>
      obtain ⟨i, Y, rfl, hg, hown, hY, hB1, hB⟩ := hrel
      have HG := Lib.hid hg
      by_cases hlt : i < nl
      · have hlt' : i < L.length := by rw [HNL.out]; exact hlt
        have hYl : Y.length = i := by have := hY.1; rw [List.length_take] at this; omega
        obtain ⟨g, o, rfl, hgl, e0, e1⟩ := (HL.out.below hB).pt (i := i) hlt'
        have hil : (i : Int) < (nl : Int) := by omega
        have hst := List.take_succ_eq_append_getElem hlt'
        have cT := fun V => ref11_At L[i] (HF.out.get hlt') V
        obtain ⟨p, hpp⟩ : ∃ p, L[i] = p := ⟨_, rfl⟩
        rw [hpp] at e0 e1 hst
        simp only [hpp] at cT
        obtain ⟨x, y⟩ := p
        unfold ptV Sp.v at cT
        dsimp only at e0 e1 cT
        have CT := Lib.hid cT
        have HST := Lib.hid hst
        have HO := Lib.hid (And.intro hown (And.intro hY (And.intro hB1 hB)))
        have hn8 : Y.length ≤ 1073741824 := by omega
        clear hown hY hB1 hB hst cT hpp hlt' hYl
        go_wp2_with first
          | (go_at_call 38; with_reducible refine Calls.mono (CT.out _) ?_; rintro e w9 ⟨z, rfl, hz9, oz, b9⟩
             have HZ := Lib.hid (And.intro hz9 (And.intro oz b9))
             have hs9 : w1.heap.size ≤ w9.heap.size := Nat.le_trans HO.out.2.2.1.size b9.size
             clear hz9 oz b9)
          | (at_builtin; refine wpList_append_sp _ rfl _ _ rfl w1.heap.size _ Y.length (flat Y) rfl ((HO.out.1.kept HZ.out.2.2).kept (below_new w9 _)) ⟨w9.heap.size, 0, none⟩ z.cells rfl rfl (one_spot w9 z) (cells_one z) (cells_noint z) hn8 (by simp; omega) ?_; intro v8 w8 hown8 hgrow8; replace hown8 := Lib.hid hown8; replace hgrow8 := Lib.hid hgrow8)
        have hk9 := (HO.out.1.kept HZ.out.2.2).kept (below_new w9 (.cells #[.bool z.n1, .slice z.A1 z.a1.length z.c1, .slice z.D1 z.d1.length z.e1, .bool z.n2, .slice z.A2 z.a2.length z.c2, .slice z.D2 z.d2.length z.e2] 85))
        have hY8 := (HO.out.2.1.imp fun s (hs : s.Ok wr) => hk9.ok hgrow8.out ((hs.on HZ.out.2.2).on (below_new w9 _))).snoc HZ.out.1 (hk9.ok hgrow8.out (HZ.out.2.1.on (below_new w9 _)))
        rw [← HST.out] at hY8
        have ho8 : OwnS w8 w1.heap.size v8 (Y ++ [z]).length (flat (Y ++ [z])) := by rw [flat_snoc, List.length_append]; exact hown8.out
        have c1 := (HO.out.2.2.1.trans (HZ.out.2.2.mono HO.out.2.2.1.size)).alloc hs9 (.cells #[.bool z.n1, .slice z.A1 z.a1.length z.c1, .slice z.D1 z.d1.length z.e1, .bool z.n2, .slice z.A2 z.a2.length z.c2, .slice z.D2 z.d2.length z.e2] 85)
        have c2 := (HO.out.2.2.2.trans (HZ.out.2.2.mono HO.out.2.2.2.size)).alloc (Nat.le_trans b1.size hs9) (.cells #[.bool z.n1, .slice z.A1 z.a1.length z.c1, .slice z.D1 z.d1.length z.e1, .bool z.n2, .slice z.A2 z.a2.length z.c2, .slice z.D2 z.d2.length z.e2] 85)
        have d1 := c1.grown hgrow8.out c1.size (fun kk ee => (hk9.lt kk ee).1)
        have d2 := c2.grown hgrow8.out c2.size (fun kk ee => Nat.le_trans b1.size (hk9.lt kk ee).1)
        have HE := Lib.hid (And.intro ho8 (And.intro hY8 (And.intro d1 d2)))
        clear hk9 hY8 ho8 c1 c2 d1 d2
        go_roundg (nl - (i + 1))
        case measure => have := HG.out; omega
        case rel => exact ⟨i + 1, Y ++ [z], by simp, by omega, HE.out.1, HE.out.2.1, HE.out.2.2.1, HE.out.2.2.2⟩
      · have hi : i = nl := by omega
        subst hi
        have hall : L.take i = L := by rw [← HNL.out, List.take_length]
        rw [hall] at hY
        have hYl : Y.length = i := by have := hY.1; have := HNL.out; omega
        obtain ⟨A5, cap5, rfl, hc5⟩ := hown.any
        obtain ⟨wo, hwo⟩ : ∃ x, x = wr := ⟨_, rfl⟩
        subst hwo
        have HR := Lib.hid (And.intro hown.reads (And.intro hY hB))
        obtain ⟨i0, hi0, hz0, hz1, hz2⟩ := info_parts info_pt
        obtain ⟨ny, hny⟩ : ∃ ny, Y.length = ny := ⟨_, rfl⟩
        have HNY := Lib.hid hny
        rw [hny]
        clear hown hY hB hB1 hall hYl hny hg
        go_wp2_with fail
        go_loopg [7, 8] n (fun gh ov kv wr => ∃ q : Nat, kv = .int .i64 (q : Int) ∧ gh + q = n + 1 ∧ 1 ≤ q ∧ wr.ownsRow wo.heap.size 42 2 ov (q - 1) (ptRow (curveTo n L (q - 1))) ∧ Below wo.heap.size wo wr)
        case atStart => exact ⟨1, rfl, rfl, Nat.le_refl _, World.ownsRow_nil wo wo.heap.size 42 2, Below.refl _ _⟩
        case round =>
          obtain ⟨q, rfl, hgq, hq1, hown, hB⟩ := hrel
          have HGQ := Lib.hid hgq
          by_cases hlt : q ≤ n
          · have hql : (q : Int) ≤ (n : Int) := by omega
            have hmn : i - 1 ≤ 3 := by omega
            have cK := fun V => rv_IntV q (by omega) V
            have cN := fun V => rv_IntV n (by omega) V
            have cD := fun b b' a d a' d' A D A' D' ca cd ca' cd' V h1 h2 h3 h4 h5 h6 => rv_DivV q n (by omega) (by omega) (by omega) b b' a d a' d' A D A' D' ca cd ca' cd' V h1 h2 h3 h4 h5 h6
            have cPt := fun n5 a5 d5 A6 D6 c6 e6 ht V (h : Below wo.heap.size wo V) r5 q5 => ref11_point L HF.out Y A5 cap5 q n hlt hle (by omega) (by rw [HNL.out]; exact hl) (by rw [HNL.out]; exact h0) n5 a5 d5 A6 D6 c6 e6 ht V (HR.out.1.on h) (HR.out.2.1.imp fun s hs => hs.on h) r5 q5
            simp only [HNY.out, HNL.out] at cPt
            have hcv : curveAt q n L = ⟨nearQ ((castP q n (i - 1) L).getD 0 pt0).x ((n ^ (i - 1) : Nat) : Int), nearQ ((castP q n (i - 1) L).getD 0 pt0).y ((n ^ (i - 1) : Nat) : Int)⟩ := by unfold curveAt; rw [HNL.out]
            have hcl := castP_length (q : Int) (n : Int) (i - 1) L
            rw [HNL.out] at hcl
            have hcp : 0 < (castP (q : Int) (n : Int) (i - 1) L).length := by omega
            have hcb := cast_bound HF.out (r := i - 1) hlt hle hmn _ (List.getElem_mem hcp)
            rw [← getD_get hcp] at hcb
            have hT0 := pow_32 (n := n) (r := i - 1) hle hmn
            have hT1 := Nat.pow_pos (n := i - 1) (show 0 < n by omega)
            have hst := curveTo_step n L (q - 1)
            rw [show curveAt (q - 1 + 1) n L = curveAt q n L by rw [show q - 1 + 1 = q by omega], hcv] at hst
            generalize (castP (q : Int) (n : Int) (i - 1) L).getD 0 pt0 = P at cPt hst hcb
            generalize n ^ (i - 1) = T at cPt hst hT0 hT1
            obtain ⟨PX, PY⟩ := P
            dsimp only at cPt hst hcb
            have cX := fun n a d A D ca cd V h1 h2 h3 => ref10_NearQ PX T hT1 hT0 (by omega) n a d A D ca cd V h1 h2 h3
            have cY := fun n a d A D ca cd V h1 h2 h3 => ref10_NearQ PY T hT1 hT0 (by omega) n a d A D ca cd V h1 h2 h3
            generalize nearQ PX (T : Int) = X at cX hst
            generalize nearQ PY (T : Int) = Z at cY hst
            have HST := Lib.hid hst
            have CK := Lib.hid cK
            have CN := Lib.hid cN
            have CD := Lib.hid cD
            have CPt := Lib.hid cPt
            have CX := Lib.hid cX
            have CY := Lib.hid cY
            have HO := Lib.hid (And.intro hown hB)
            clear cK cN cD cPt cX cY hcv hcl hcp hcb hst hown hB hT0 hT1
            go_wp2_with first
              | (go_at_call 40; (with_reducible refine Calls.mono (CK.out _) ?_); rintro e w2 ⟨n2, a2, A2, ca2, d2, D2, cd2, rfl, s2, r2, q2, b2⟩)
              | (go_at_call 40; (with_reducible refine Calls.mono (CN.out _) ?_); rintro e w3 ⟨n3, a3, A3, ca3, d3, D3, cd3, rfl, s3, r3, q3, b3⟩)
              | (go_at_call 39; (with_reducible refine Calls.mono (CD.out n2 n3 a2 d2 a3 d3 A2 D2 A3 D3 ca2 cd2 ca3 cd3 w3 s2 s3 (r2.on b3) (q2.on b3) r3 q3) ?_); rintro e w4 ⟨n4, a4, A4, ca4, d4, D4, cd4, rfl, s4, r4, q4, b4⟩
                 obtain ⟨V1, hV1, k1, c1⟩ := bx1 w4 83 (.bool n4) (.slice A4 a4.length ca4) (.slice D4 d4.length cd4)
                 have B4 := HO.out.2.trans (((b2.trans (b3.mono b2.size)).trans (b4.mono (Nat.le_trans b2.size b3.size))).mono HO.out.2.size)
                 have BV := B4.trans (c1.1.mono B4.size)
                 obtain ⟨t0, t1, t2, -, -, -⟩ := k1.facts
                 have H1 := Lib.hid (And.intro s4 (And.intro (r4.on c1.1) (And.intro (q4.on c1.1) BV)))
                 have bw := ((b2.trans (b3.mono b2.size)).trans (b4.mono (Nat.le_trans b2.size b3.size))).trans (c1.1.mono (Nat.le_trans (Nat.le_trans b2.size b3.size) b4.size))
                 have HR5 := Lib.hid bw.size
                 have HOV := Lib.hid (own_below HO.out.1 bw)
                 clear bw
                 clear s2 r2 q2 s3 r3 q3 b2 b3 b4 s4 r4 q4 k1 c1 B4 BV)
              | (go_at_call 41; (with_reducible refine Calls.mono (CPt.out n4 a4 d4 A4 D4 ca4 cd4 H1.out.1 V1 H1.out.2.2.2 H1.out.2.1 H1.out.2.2.1) ?_); rintro e w5 ⟨n5, a5, A6, c5, d5, D6, e5, n6, a6, A7, c6, d6, D7, e6, rfl, ⟨s5, s6⟩, ⟨r5, q5⟩, ⟨r6, q6⟩, b5⟩
                 obtain ⟨V2, hV2, k2, c2, z2⟩ := bxa w5 85 [.bool n5, .slice A6 a5.length c5, .slice D6 d5.length e5, .bool n6, .slice A7 a6.length c6, .slice D7 d6.length e6]
                 have B5 := H1.out.2.2.2.trans (b5.mono H1.out.2.2.2.size)
                 have BV := B5.trans (c2.mono B5.size)
                 have hw5 : wr.heap.size ≤ w5.heap.size := Nat.le_trans HR5.out b5.size
                 have H2 := Lib.hid (And.intro (own_below (own_below HOV.out b5) c2) (And.intro BV (And.intro k2 hw5)))
                 obtain ⟨⟨t0, t1, t2, t3, t4, t5⟩, -⟩ := k2.facts6
                 have H5 := Lib.hid (And.intro s5 (And.intro ((r5.on c2).on ((Below.refl _ V2).drew)) ((q5.on c2).on ((Below.refl _ V2).drew))))
                 have H6 := Lib.hid (And.intro s6 (And.intro ((r6.on c2).on ((Below.refl _ V2).drew)) ((q6.on c2).on ((Below.refl _ V2).drew))))
                 clear s5 s6 r5 q5 r6 q6 b5 k2 c2 B5 BV)
              | (rw [hV1])
              | (rw [hV2])
            have HCS := Lib.hid (fun V (h : KeepG wo V2 w5.heap.size V) => show (V.cell? ⟨w5.heap.size, 0, none⟩ = some (.bool n5) ∧ V.cell? ⟨w5.heap.size, 1, none⟩ = some (.slice A6 a5.length c5) ∧ V.cell? ⟨w5.heap.size, 2, none⟩ = some (.slice D6 d5.length e5) ∧ V.cell? ⟨w5.heap.size, 3, none⟩ = some (.bool n6) ∧ V.cell? ⟨w5.heap.size, 4, none⟩ = some (.slice A7 a6.length c6) ∧ V.cell? ⟨w5.heap.size, 5, none⟩ = some (.slice D7 d6.length e6)) ∧ KeepG wo V2 w5.heap.size V from by
              have k : Blk V w5.heap.size 85 [.bool n5, .slice A6 a5.length c5, .slice D6 d5.length e5, .bool n6, .slice A7 a6.length c6, .slice D7 d6.length e6] := h.2.2.symm.trans H2.out.2.2.1
              exact ⟨k.facts6.1, h⟩)
            have G0 := Lib.hid (show KeepG wo V2 w5.heap.size V2.drew from ⟨H2.out.2.1.drew, H2.out.2.2.1.lt, rfl⟩)
            have HP := Lib.hid (HCS.out V2.drew G0.out)
            have HV2 := Lib.hid (show V2.drew.ownsRow wo.heap.size 42 2 _ (q - 1) (ptRow (curveTo n L (q - 1))) from H2.out.1)
            have hqb : (q - 1 + 1) * 16 ≤ 140737488355328 := by omega
            have hqm : q - 1 + 1 ≤ maxLen := by unfold maxLen; omega
            clear t0 t1 t2 t3 t4 t5
            go_region_held3 (fun w' => (w'.cell? ⟨w5.heap.size, 0, none⟩ = some (.bool n5) ∧ w'.cell? ⟨w5.heap.size, 1, none⟩ = some (.slice A6 a5.length c5) ∧ w'.cell? ⟨w5.heap.size, 2, none⟩ = some (.slice D6 d5.length e5) ∧ w'.cell? ⟨w5.heap.size, 3, none⟩ = some (.bool n6) ∧ w'.cell? ⟨w5.heap.size, 4, none⟩ = some (.slice A7 a6.length c6) ∧ w'.cell? ⟨w5.heap.size, 5, none⟩ = some (.slice D7 d6.length e6)) ∧ KeepG wo V2 w5.heap.size w')
              (first
                | (with_reducible exact HP.out)
                | (with_reducible exact HCS.out _ G1.out)
                | (with_reducible exact HCS.out _ G2.out)
                | (with_reducible exact HCS.out _ G3.out)
                | (with_reducible exact HCS.out _ G4.out))
              ((first
                | (go_at_call_of 42 (Value.slice A6 a5.length c5); (with_reducible refine Calls.mono (CX.out n5 a5 d5 A6 D6 c5 e5 V2.drew H5.out.1 H5.out.2.1 H5.out.2.2) ?_); rintro e w6 ⟨rfl, b6⟩
                   have HB6 := Lib.hid (show Below V2.drew.heap.size V2.drew w6 from b6)
                   have G1 := Lib.hid (G0.out.on HB6.out)
                   have HV6 := Lib.hid (own_below HV2.out HB6.out)
                   clear b6)
                | (go_at_call_of 42 (Value.slice A7 a6.length c6); (with_reducible refine Calls.mono (CY.out n6 a6 d6 A7 D7 c6 e6 w6 H6.out.1 (H6.out.2.1.on HB6.out) (H6.out.2.2.on HB6.out)) ?_); rintro e w7 ⟨rfl, b7⟩
                   have G2 := Lib.hid (G1.out.on b7)
                   have G3 := Lib.hid (G2.out.alloc (.cells #[.int .i64 X, .int .i64 Z] 42))
                   have HV7 := Lib.hid (own_below (own_below HV6.out b7) (below_new w7 (.cells #[.int .i64 X, .int .i64 Z] 42)))
                   clear b7)
                | (refine step_append_lies _ (by rfl) _ _ _ (by rfl) wo.heap.size 42 i0 (.agg #[.int .i64 0, .int .i64 0]) 2 16 Try.underlying47 hi0 hz0 hz1 hz2 rfl (by omega) _ (q - 1) (ptRow (curveTo n L (q - 1))) (by rfl) HV7.out ⟨w7.heap.size, 0, none⟩ 1 1 [.int .i64 X, .int .i64 Z] (by rfl) (by rfl) (two_new _ _ _ _) (by simp [Value.oneCell'])
                    (by omega) hqm hqb (G3.out.1.size) (w7.heap.size + 1) (by simp) ?_; intro gg cap w8 hown1 hgrow hor hlt1
                   have HW8 := Lib.hid hown1
                   have G4 := Lib.hid (G3.out.grown hgrow HV7.out HO.out.1 (Nat.le_refl _) H2.out.2.2.2)
                   clear hown1 hgrow hor hlt1)))
            have HW9 := Lib.hid (show w8.ownsRow wo.heap.size 42 2 (.slice (some ⟨gg, 0, none⟩) q cap) (q + 1 - 1) (ptRow (curveTo n L (q + 1 - 1))) from by
              have h8 := HW8.out
              rw [← ptRow_one ⟨X, Z⟩, ← ptRow_append, ← HST.out, show q - 1 + 1 = q by omega] at h8
              rw [show q + 1 - 1 = q by omega]
              exact h8)
            go_wp2_with fail
            go_roundg (n - q)
            case measure => have := HGQ.out; omega
            case rel => exact ⟨q + 1, by simp, by omega, by omega, HW9.out, G4.out.1⟩
          · have hqn : q - 1 = n := by omega
            rw [hqn] at hown
            obtain ⟨p, k, rfl, hk, -, hr⟩ := RdV.ofOwnK hown
            have HF2 := Lib.hid (And.intro hr (HR.out.2.2.trans (hB.mono HR.out.2.2.size)))
            have hnq : ¬ (q : Int) ≤ (n : Int) := by omega
            clear hown hr hB hqn
            go_wp2_with fail
            go_ret2
            exact ⟨⟨p, ⟨k, rfl⟩, HF2.out.1⟩, HF2.out.2⟩
end Go.Proofs.Ytbgjpmijegeeiaa
