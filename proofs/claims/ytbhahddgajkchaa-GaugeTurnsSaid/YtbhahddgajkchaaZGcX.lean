/- Lengths, the document's own: Root, Len, Fits. -/
import Derived.Test.YtbhahddgajkchaaZGaX
import Derived.Test.YtbhahddgajkchaaZRrX
import Derived.Test.YtbhahddgajkchaaZAfY
import Derived.Test.YtbhahddgajkchaaZBgC
import Derived.Test.YtbhahddgajkchaaZAfX
import Derived.Deep.RegionHeld3
namespace Go.Proofs.Ytbhahddgajkchaa
open Go.RowKit Num

theorem one_wordG {xs : List Nat} (hn : Norm 4294967296 xs) (h : val 4294967296 xs < 4294967296) : xs = [] ∨ ∃ d, xs = [d] := by
  have hl : xs.length ≤ 1 := hn.2.length_le (b := 4294967296) (by omega) (by rw [Nat.pow_one]; exact h)
  match xs, hl with
  | [], _ => exact .inl rfl
  | [d], _ => exact .inr ⟨d, rfl⟩
set_option maxRecDepth 10000 in
set_option maxHeartbeats 1600000 in
theorem ref14_Root (m : Nat) (hm : m < 4611686018427387904) (w : World) :
    Calls Try.prog 29 #[.int .i64 (m : Int)] w fun e w' => e = .returned (.int .i64 (rootG m : Int)) ∧ Below w.heap.size w w' := by
  have cO := Lib.hid (fun V => ref_Of m (by omega) V)
  have hsm : rootG m < 4294967296 := by
    refine Classical.byContradiction fun n => ?_
    have h3 := Nat.mul_le_mul (show 4294967296 ≤ rootG m by omega) (show 4294967296 ≤ rootG m by omega)
    have := (rootG_is m).1
    omega
  obtain ⟨t, ht⟩ : ∃ t, rootG m = t := ⟨_, rfl⟩
  have HT := Lib.hid (show ∀ r, IsRoot m r → r = t from fun _ h => by rw [← ht]; exact h.unique (rootG_is m))
  rw [ht] at hsm ⊢
  have HM := Lib.hid hm
  clear ht
  go_enter Try.func29, Try.ntmps29
  go_wp2_with first
    | (go_at_call 41; (with_reducible refine Calls.mono (cO.out _) ?_); rintro e w1 ⟨A1, a1, c1, rfl, hc1, hn1, hv1, hr1, b1⟩
       have hl1 : a1.length ≤ 4194304 := by
         have e2 : (18446744073709551616 : Nat) ≤ 4294967296 ^ 2 := by decide
         have hm0 := HM.out
         have := hn1.2.length_le (b := 4294967296) (n := 2) (by omega) (by rw [hv1]; omega)
         omega)
    | (go_at_call 40; (refine Calls.mono (r3_Sqrt a1 A1 c1 w1 hr1 hl1 hn1.1) ?_); rintro e w2 ⟨A2, x, c2, rfl, hc2, hn2, hv2, hr2, b2⟩)
  rw [hv1] at hv2
  obtain hvt := HT.out _ hv2
  have HB := Lib.hid (b1.trans (b2.mono b1.size))
  have hx := one_wordG hn2 (by rw [hvt]; exact hsm)
  clear hv2 hn2 b1 b2 hn1 hv1 hr1 hl1 hc1 HM cO HT
  rcases hx with rfl | ⟨d, rfl⟩
  · obtain rfl : t = 0 := hvt.symm
    clear hvt hsm
    simp only [List.length_nil] at *
    go_wp2_with fail
    go_loopg [3, 5] 0 (fun gh v i wr => v = .int .i64 0 ∧ i = .int .i64 (-1) ∧ wr = w2)
    case atStart => exact ⟨rfl, congrArg (Value.int .i64) (by unfold wrap64; omega), rfl⟩
    case round =>
      obtain ⟨rfl, rfl, rfl⟩ := hrel
      go_wp2_with fail
      go_ret
      exact ⟨rfl, HB.out⟩
  · obtain rfl : d = t := by rw [← hvt]; simp [val]
    obtain ⟨b, o, rfl, hb, hc⟩ := hr2 (by simp)
    have h0 := hc 0 (by simp)
    simp only [List.length_cons, List.length_nil, List.getElem_cons_zero, Nat.add_zero, Nat.zero_add] at *
    clear hvt hr2 hc
    have hw1 : IntKind.i64.wrap (d : Int) = d := IntWalk.i64_in _ (by omega)
    go_wp2_with fail
    go_loopg [3, 5] 1 (fun gh v i wr => wr = w2 ∧ ((gh = 1 ∧ v = .int .i64 0 ∧ i = .int .i64 0) ∨ (gh = 0 ∧ v = .int .i64 (d : Int) ∧ i = .int .i64 (-1))))
    case atStart => exact ⟨rfl, .inl ⟨rfl, rfl, congrArg (Value.int .i64) (by unfold wrap64; omega)⟩⟩
    case round =>
      obtain ⟨rfl, hcase⟩ := hrel
      rcases hcase with ⟨rfl, rfl, rfl⟩ | ⟨rfl, rfl, rfl⟩
      · go_wp2_with fail
        go_roundg 0
        case measure => omega
        case rel => exact ⟨rfl, .inr ⟨rfl, rfl, rfl⟩⟩
      · go_wp2_with fail
        go_ret
        exact ⟨rfl, HB.out⟩

set_option maxRecDepth 10000 in
set_option maxHeartbeats 1600000 in
theorem ref14_Len (a b : Pt) (w : World) :
    Calls Try.prog 8 #[ptV a, ptV b] w fun e w' => e = .returned (.int .i64 (lenG a b : Int)) ∧ Below w.heap.size w w' := by
  obtain ⟨W, hW, k1, k2, bW, sW⟩ := two_boxes w a b
  have cA := fun V => ref10_Fits a V
  have cB := fun V => ref10_Fits b V
  obtain ⟨⟨p0, p1⟩, -⟩ := Box.pair k1
  obtain ⟨⟨q0, q1⟩, -⟩ := Box.pair k2
  have HK := Lib.hid (And.intro k1 (And.intro k2 bW))
  clear k1 k2 bW sW
  by_cases ha : FitP a
  · rw [decide_eq_true ha] at cA
    by_cases hb : FitP b
    · rw [decide_eq_true hb] at cB
      have hd := diff_in hb ha
      have hs := sq_sum (a.x - b.x) (a.y - b.y) hd.1 hd.2
      have hr := lenG_yes ha hb
      rw [sqG_comm] at hr
      unfold sqG at hr
      obtain ⟨r, hlr⟩ : ∃ r, lenG a b = r := ⟨_, rfl⟩
      rw [hlr] at hr ⊢
      obtain ⟨ax, ay⟩ := a
      obtain ⟨bx, bY⟩ := b
      dsimp only at *
      obtain ⟨hd1, hd2⟩ := hd
      have w1 : IntKind.i64.wrap (ax - bx) = ax - bx := IntWalk.i64_in _ (by omega)
      have w2 : IntKind.i64.wrap (ay - bY) = ay - bY := IntWalk.i64_in _ (by omega)
      obtain ⟨X, hX⟩ : ∃ X, ax - bx = X := ⟨_, rfl⟩
      obtain ⟨Y, hY⟩ : ∃ X, ay - bY = X := ⟨_, rfl⟩
      rw [hX, hY] at hr hs
      rw [hX] at w1
      rw [hY] at w2
      obtain ⟨u, hu⟩ : ∃ u, X * X = u := ⟨_, rfl⟩
      obtain ⟨v, hv⟩ : ∃ u, Y * Y = u := ⟨_, rfl⟩
      rw [hu, hv] at hr hs
      have w3 : IntKind.i64.wrap u = u := IntWalk.i64_in _ (by omega)
      have w4 : IntKind.i64.wrap v = v := IntWalk.i64_in _ (by omega)
      have w5 : IntKind.i64.wrap (u + v) = u + v := IntWalk.i64_in _ (by omega)
      have cR := fun V => ref14_Root (u + v).toNat (by omega) V
      rw [Int.toNat_of_nonneg (by omega), ← hr] at cR
      have CR := Lib.hid cR
      have CA := Lib.hid cA
      have CB := Lib.hid cB
      clear cA cB cR hr hlr ha hb hs hd1 hd2
      unfold ptV at *
      dsimp only at *
      go_enter Try.func8, Try.ntmps8
      go_wp2_with first
        | (go_at_call 28; (with_reducible refine Calls.mono (CA.out _) ?_); rintro e w1 ⟨rfl, b1⟩
           obtain ⟨⟨q0, q1⟩, -⟩ := Box.pair (HK.out.2.1.below b1 HK.out.2.1.lt))
        | (go_at_call 28; (with_reducible refine Calls.mono (CB.out _) ?_); rintro e w2 ⟨rfl, b2⟩
           have b12 := b1.trans (b2.mono b1.size)
           obtain ⟨⟨p0, p1⟩, -⟩ := Box.pair (HK.out.1.below b12 HK.out.1.lt)
           obtain ⟨⟨q0, q1⟩, -⟩ := Box.pair (HK.out.2.1.below b12 HK.out.2.1.lt))
        | (go_at_call 29; (with_reducible refine Calls.mono (CR.out _) ?_); rintro e w3 ⟨rfl, b3⟩)
        | (rw [hW])
      go_ret
      have b13 := b12.trans (b3.mono b12.size)
      exact ⟨rfl, HK.out.2.2.trans (b13.mono HK.out.2.2.size)⟩
    · rw [decide_eq_false hb] at cB
      rw [lenG_no (fun h => hb h.2)]
      obtain ⟨ax, ay⟩ := a
      obtain ⟨bx, bY⟩ := b
      have CA := Lib.hid cA
      have CB := Lib.hid cB
      clear cA cB ha hb
      unfold ptV at *
      dsimp only at *
      go_enter Try.func8, Try.ntmps8
      go_wp2_with first
        | (go_at_call 28; (with_reducible refine Calls.mono (CA.out _) ?_); rintro e w1 ⟨rfl, b1⟩
           obtain ⟨⟨q0, q1⟩, -⟩ := Box.pair (HK.out.2.1.below b1 HK.out.2.1.lt))
        | (go_at_call 28; (with_reducible refine Calls.mono (CB.out _) ?_); rintro e w2 ⟨rfl, b2⟩)
        | (rw [hW])
      go_ret
      have b12 := b1.trans (b2.mono b1.size)
      exact ⟨rfl, HK.out.2.2.trans (b12.mono HK.out.2.2.size)⟩
  · rw [decide_eq_false ha] at cA
    rw [lenG_no (fun h => ha h.1)]
    obtain ⟨ax, ay⟩ := a
    obtain ⟨bx, bY⟩ := b
    have CA := Lib.hid cA
    clear cA cB ha
    unfold ptV at *
    dsimp only at *
    go_enter Try.func8, Try.ntmps8
    go_wp2_with first
      | (go_at_call 28; (with_reducible refine Calls.mono (CA.out _) ?_); rintro e w1 ⟨rfl, b1⟩)
      | (rw [hW])
    go_ret
    exact ⟨rfl, HK.out.2.2.trans (b1.mono HK.out.2.2.size)⟩

set_option maxRecDepth 10000 in
set_option maxHeartbeats 1600000 in
theorem ref14_Fits (L : List Pt) (A : Option Addr) (c : Nat) (w : World) (hL : RdV w w.heap.size A (ptRow L)) (hl : L.length ≤ 1073741824) :
    Calls Try.prog 35 #[.slice A L.length c] w fun e w' => e = .returned (.bool (decide (FitL L))) ∧ Below w.heap.size w w' := by
  obtain ⟨n, hn⟩ : ∃ n, L.length = n := ⟨_, rfl⟩
  have HN := Lib.hid hn
  have HL := Lib.hid hL
  rw [hn] at hl ⊢
  obtain ⟨r, hr⟩ : ∃ r : Bool, decide (FitL L) = r := ⟨_, rfl⟩
  have HR := Lib.hid hr
  rw [hr]
  clear hn hL hr
  go_enter Try.func35, Try.ntmps35
  go_wp2_with fail
  go_loopg [3] n (fun gh it wr => ∃ i : Nat, it = .int .i64 (i : Int) ∧ gh + i = n ∧ (∀ p ∈ L.take i, FitP p) ∧ Below w.heap.size w wr)
  case atStart => exact ⟨0, rfl, by omega, by simp, Below.refl _ _⟩
  case round =>
    obtain ⟨i, rfl, hg, hok, hB⟩ := hrel
    by_cases hlt : i < n
    · have hlt' : i < L.length := by rw [HN.out]; exact hlt
      obtain ⟨g, o, rfl, hgl, e0, e1⟩ := (HL.out.below hB).pt (i := i) hlt'
      have hil : (i : Int) < (n : Int) := by omega
      obtain ⟨p, hpp⟩ : ∃ p, L[i] = p := ⟨_, rfl⟩
      have HST := Lib.hid (fitL_step hlt' hok)
      have HNO := Lib.hid (fitL_not hlt')
      rw [hpp] at e0 e1 HST HNO
      obtain ⟨d, hd⟩ : ∃ d : Bool, decide (FitP p) = d := ⟨_, rfl⟩
      have cF := fun V => ref10_Fits p V
      rw [hd] at cF
      obtain ⟨x, y⟩ := p
      unfold ptV at cF
      dsimp only at e0 e1 cF
      have CF := Lib.hid cF
      have HB := Lib.hid hB
      have HD := Lib.hid hd
      clear hok hB cF hpp hlt' hd
      cases d with
      | true =>
        have HS := Lib.hid (HST.out (of_decide_eq_true HD.out))
        clear HST HNO
        go_wp2_with (go_at_call 28; with_reducible refine Calls.mono (CF.out _) ?_; rintro e w1 ⟨rfl, b1⟩)
        have hBB := HB.out.trans (b1.mono HB.out.size)
        go_roundg (n - (i + 1))
        case measure => omega
        case rel => exact ⟨i + 1, by simp, by omega, HS.out, hBB⟩
      | false =>
        have HS := Lib.hid (decide_eq_false (HNO.out (of_decide_eq_false HD.out)))
        clear HST HNO
        go_wp2_with (go_at_call 28; with_reducible refine Calls.mono (CF.out _) ?_; rintro e w1 ⟨rfl, b1⟩)
        have hBB := HB.out.trans (b1.mono HB.out.size)
        go_ret
        rw [← HR.out, HS.out]
        exact ⟨rfl, hBB⟩
    · obtain rfl : i = n := by omega
      have HF := Lib.hid (decide_eq_true (fitL_all (l := L) (by rw [HN.out]; exact hok)))
      have HB := Lib.hid hB
      clear hok hB
      go_wp2_with fail
      go_ret
      rw [← HR.out, HF.out]
      exact ⟨rfl, HB.out⟩
end Go.Proofs.Ytbhahddgajkchaa
/- Lengths, the document's own: the nearest whole number of any quotient; Near. -/

namespace Go.Proofs.Ytbhahddgajkchaa
open Go.RowKit Num

set_option maxRecDepth 10000 in
set_option maxHeartbeats 3200000 in
/-- to the nearest whole number -/
theorem ref10_NearW (P : Int) (Q : Nat) (hQ : 0 < Q) (hQ1 : Q ≤ 4294967296) (hP : P.natAbs ≤ 1125899906842624) (n : Bool) (a d : List Nat) (A D : Option Addr) (ca cd : Nat) (w : World) (hS : SV P Q 8 n a ca d cd) (r : Rd w (fun g => g < w.heap.size) .u32 A a) (q : Rd w (fun g => g < w.heap.size) .u32 D d) :
    Calls Try.prog 33 #[.agg #[.bool n, .slice A a.length ca, .slice D d.length cd]] w fun e w' => e = .returned (.int .i64 (nearQ P Q)) ∧ Below w.heap.size w w' := by
  obtain ⟨W, hW, kW, B0⟩ : ∃ W, w.alloc (.cells #[.bool n, .slice A a.length ca, .slice D d.length cd] 50) = W ∧ Box W w.heap.size 50 [.bool n, .slice A a.length ca, .slice D d.length cd] ∧ Below w.heap.size w W := ⟨_, rfl, Box.new w _ [.bool n, .slice A a.length ca, .slice D d.length cd], (Below.refl _ _).alloc (Nat.le_refl _) _⟩
  have cA := Lib.hid (rv_Add P 1 Q 2 8 hQ (by omega) (by omega))
  have hN : (P * ((2 : Nat) : Int) + 1 * (Q : Int)) / ((Q * 2 : Nat) : Int) = nearQ P Q := by unfold nearQ; congr 1 <;> omega
  have hNb : -9223372036854775808 ≤ nearQ P Q ∧ nearQ P Q ≤ 9223372036854775807 := by
    have h0 : (0 : Int) < Q := by omega
    have hh : (1 : Int) ≤ Q := by omega
    have hP2 : -1125899906842624 ≤ P ∧ P ≤ 1125899906842624 := by omega
    have h1 := nearQ_in (v := P) (d := (Q : Int)) (lo := -1125899906842624) (hi := 1125899906842624) h0 ⟨by omega, by omega⟩
    omega
  have cF := rv_Floor (P * ((2 : Nat) : Int) + 1 * (Q : Int)) (Q * 2) 8 (by omega) (by omega)
  rw [hN] at cF
  replace cF := Lib.hid cF
  have HS := Lib.hid hS
  have hV1 := Lib.hid (fun n' a' ca' d' cd' (k : SF 1 2 n' a' ca' d' cd') => SF.toV (m := 8) (by omega) (by decide) (by decide) k)
  have e8 : (18446744073709551616 : Nat) ≤ 4294967296 ^ 8 := by decide
  have e2 : (P * ((2 : Nat) : Int) + 1 * (Q : Int)).natAbs < 4294967296 ^ 8 := Nat.lt_of_lt_of_le (by omega) e8
  have e3 : Q * 2 < 4294967296 ^ 8 := Nat.lt_of_lt_of_le (by omega) e8
  have hV2 := Lib.hid (fun n' a' ca' d' cd' (k : SF (P * ((2 : Nat) : Int) + 1 * (Q : Int)) (Q * 2) n' a' ca' d' cd') => SF.toV (m := 8) (by omega) e2 e3 k)
  have rW := Lib.hid (fun V (hV : Below W.heap.size W V) => And.intro ((r.on B0).on hV) ((q.on B0).on hV))
  have HI := Lib.hid (fun (xs : List Nat) (X : Option Addr) (cx : Nat) (V : World) (hn : Norm 4294967296 xs) (hv : val 4294967296 xs = (nearQ P Q).natAbs) (hx : Rd V (fun g => g < V.heap.size) .u32 X xs) => show Calls Try.prog 47 #[.agg #[.bool (decide (nearQ P Q < 0)), .slice X xs.length cx]] V (fun e w' => e = .returned (.tuple #[.int .i64 (nearQ P Q), .bool true]) ∧ Below V.heap.size V w') from by
    refine (ref2_Int _ xs X cx V hx ?_ hn.1).mono ?_
    · have e3 : (4294967296 : Nat) ^ 3 = 79228162514264337593543950336 := by decide
      have : xs.length ≤ 3 := hn.2.length_le (b := 4294967296) (by omega) (by rw [hv, e3]; omega)
      omega
    · rintro e w' ⟨he, hb⟩
      rw [wv_own hv, (isInt_yes hNb.1 hNb.2).1, (isInt_yes hNb.1 hNb.2).2] at he
      exact ⟨he, hb⟩)
  have HB0 := Lib.hid B0
  have hlt := kW.lt
  have HW := Lib.hid hW
  obtain ⟨p0, p1, p2⟩ := show W.cell? ⟨w.heap.size, 0, none⟩ = some (.bool n) ∧ W.cell? ⟨w.heap.size, 1, none⟩ = some (.slice A a.length ca) ∧ W.cell? ⟨w.heap.size, 2, none⟩ = some (.slice D d.length cd) from ⟨kW.cell 0 rfl, kW.cell 1 rfl, kW.cell 2 rfl⟩
  have HP := Lib.hid (show (W.drew.cell? ⟨w.heap.size, 0, none⟩ = some (.bool n) ∧ W.drew.cell? ⟨w.heap.size, 1, none⟩ = some (.slice A a.length ca) ∧ W.drew.cell? ⟨w.heap.size, 2, none⟩ = some (.slice D d.length cd)) ∧ Below W.heap.size W W.drew from ⟨⟨p0, p1, p2⟩, below_drewN (Below.refl _ _) 1⟩)
  clear hP hN hNb hS r q B0 hW kW e2 e3 e8
  go_enter Try.func33, Try.ntmps33
  go_wp2_with fail
  rw [HW.out]
  go_region_held3 (fun w' => (w'.cell? ⟨w.heap.size, 0, none⟩ = some (.bool n) ∧ w'.cell? ⟨w.heap.size, 1, none⟩ = some (.slice A a.length ca) ∧ w'.cell? ⟨w.heap.size, 2, none⟩ = some (.slice D d.length cd)) ∧ Below W.heap.size W w')
    (first | (with_reducible exact HP.out) | (with_reducible exact keep3w hlt (by assumption) b6))
    ((first
      | (go_at_call 50; (with_reducible refine Calls.mono (rv_HalfOne _) ?_); rintro e w1 ⟨n1, a1, A1, ca1, d1, D1, cd1, rfl, s1, r1, q1, b6⟩)
      | (go_at_call 49; (with_reducible refine Calls.mono (cA.out n n1 a d a1 d1 A D A1 D1 ca cd ca1 cd1 w1 HS.out (hV1.out _ _ _ _ _ s1) (rW.out w1 (low3 (by assumption))).1 (rW.out w1 (low3 (by assumption))).2 r1 q1) ?_); rintro e w2 ⟨n2, a2, A2, ca2, d2, D2, cd2, rfl, s2, r2, q2, b6⟩)
      | (go_at_call 48; (with_reducible refine Calls.mono (cF.out n2 a2 d2 A2 D2 ca2 cd2 w2 (hV2.out _ _ _ _ _ s2) r2 q2) ?_); rintro e w3 ⟨X, xs, cx, rfl, hcx, hnx, hvx, rx, b6⟩)
      | (go_at_call 47; (with_reducible refine Calls.mono (HI.out xs X cx w3 hnx hvx rx) ?_); rintro e w4 ⟨rfl, b6⟩)))
  all_goals
    rename_i hHeld
    obtain ⟨-, hB⟩ := hHeld
    go_wp2_with fail
    go_ret
    exact ⟨rfl, HB0.out.trans (hB.mono HB0.out.size)⟩

set_option maxRecDepth 10000 in
set_option maxHeartbeats 3200000 in
theorem ref14_Near (v d : Int) (w : World) :
    Calls Try.prog 15 #[.int .i64 v, .int .i64 d] w fun e w' => e = .returned (.int .i64 (nearG v d)) ∧ Below w.heap.size w w' := by
  by_cases h1 : v < -1125899906842624
  · rw [nearG_no (fun h => by unfold NearOk at h; omega)]
    go_enter Try.func15, Try.ntmps15
    go_wp2_with fail
    go_ret
    exact ⟨rfl, Below.refl _ _⟩
  by_cases h2 : 1125899906842624 < v
  · rw [nearG_no (fun h => by unfold NearOk at h; omega)]
    go_enter Try.func15, Try.ntmps15
    go_wp2_with fail
    go_ret
    exact ⟨rfl, Below.refl _ _⟩
  by_cases h3 : d < 1
  · rw [nearG_no (fun h => by unfold NearOk at h; omega)]
    go_enter Try.func15, Try.ntmps15
    go_wp2_with fail
    go_ret
    exact ⟨rfl, Below.refl _ _⟩
  by_cases h4 : 4294967296 < d
  · rw [nearG_no (fun h => by unfold NearOk at h; omega)]
    go_enter Try.func15, Try.ntmps15
    go_wp2_with fail
    go_ret
    exact ⟨rfl, Below.refl _ _⟩
  rw [nearG_yes (by unfold NearOk; omega)]
  obtain ⟨M, rfl⟩ : ∃ M : Nat, d = M := ⟨d.toNat, by omega⟩
  have cV := Lib.hid (fun V => rv_Int v (by omega) (by omega) V)
  have cM := Lib.hid (fun V => rv_Int (M : Int) (by omega) (by omega) V)
  have vV := Lib.hid (fun n' a' ca' d' cd' (k : SF v 1 n' a' ca' d' cd') => sv_int (by omega) (by omega) k)
  have vM := Lib.hid (fun n' a' ca' d' cd' (k : SF (M : Int) 1 n' a' ca' d' cd') => sv_int (by omega) (by omega) k)
  have cD := Lib.hid (fun (n n' : Bool) (a d a' d' : List Nat) (A D A' D' : Option Addr) (ca cd ca' cd' : Nat) (w : World) (hS : SV v 1 2 n a ca d cd) (hT : SV (M : Int) 1 2 n' a' ca' d' cd') (r : Rd w (fun g => g < w.heap.size) .u32 A a) (q : Rd w (fun g => g < w.heap.size) .u32 D d) (r' : Rd w (fun g => g < w.heap.size) .u32 A' a') (q' : Rd w (fun g => g < w.heap.size) .u32 D' d') => show Calls Try.prog 31 #[.agg #[.bool n, .slice A a.length ca, .slice D d.length cd], .agg #[.bool n', .slice A' a'.length ca', .slice D' d'.length cd']] w (fun e w' => ∃ n a A ca d D cd, e = .returned (.tuple #[.agg #[.bool n, .slice A a.length ca, .slice D d.length cd], .int .i64 0]) ∧ SF v M n a ca d cd ∧ Rd w' (fun g => g < w'.heap.size) .u32 A a ∧ Rd w' (fun g => g < w'.heap.size) .u32 D d ∧ Below w.heap.size w w') from (rv_DivInt v 1 M 2 (by omega) (by omega) (by omega) n n' a d a' d' A D A' D' ca cd ca' cd' w hS hT r q r' q').mono (by
    rintro e w' ⟨z, rfl, n, a, A, ca, d, D, cd, h1, h2⟩
    cases h1
    rw [Nat.one_mul] at h2
    exact ⟨n, a, A, ca, d, D, cd, rfl, h2⟩))
  have e8 : (18446744073709551616 : Nat) ≤ 4294967296 ^ 8 := by decide
  have vD := Lib.hid (fun n' a' ca' d' cd' (k : SF v M n' a' ca' d' cd') => (SF.toV (m := 8) (by omega) (Nat.lt_of_lt_of_le (by omega) e8) (Nat.lt_of_lt_of_le (by omega) e8) k : SV v M 8 n' a' ca' d' cd'))
  have cN := Lib.hid (fun n a d A D ca cd w => ref10_NearW v M (by omega) (by omega) (by omega) n a d A D ca cd w)
  clear e8
  go_enter Try.func15, Try.ntmps15
  go_wp2_with first
    | (go_at_call 32; (with_reducible refine Calls.mono (cV.out _) ?_); rintro e w1 ⟨n1, a1, A1, ca1, d1, D1, cd1, rfl, s1, r1, q1, b1⟩)
    | (go_at_call 32; (with_reducible refine Calls.mono (cM.out _) ?_); rintro e w2 ⟨n2, a2, A2, ca2, d2, D2, cd2, rfl, s2, r2, q2, b2⟩)
    | (go_at_call 31; (with_reducible refine Calls.mono (cD.out _ _ _ _ _ _ _ _ _ _ _ _ _ _ w2 (vV.out _ _ _ _ _ s1) (vM.out _ _ _ _ _ s2) (r1.on b2) (q1.on b2) r2 q2) ?_); rintro e w3 ⟨n3, a3, A3, ca3, d3, D3, cd3, rfl, s3, r3, q3, b3⟩
       obtain ⟨Z, hZ, z0, z1, z2, rZ, qZ⟩ := endAf w3 50 n3 ca3 cd3 r3 q3
       have bZ : Below w3.heap.size w3 Z := by rw [← hZ]; exact below_new _ _)
    | (rw [hZ])
    | (go_at_call 33; (with_reducible refine Calls.mono (cN.out _ _ _ _ _ _ _ Z (vD.out _ _ _ _ _ s3) rZ qZ) ?_); rintro e w4 ⟨rfl, b4⟩)
  go_ret
  have h12 := b1.trans (b2.mono b1.size)
  have h13 := h12.trans (b3.mono h12.size)
  have h14 := h13.trans (bZ.mono h13.size)
  exact ⟨rfl, h14.trans (b4.mono h14.size)⟩
end Go.Proofs.Ytbhahddgajkchaa
/- Lengths, the document's own: Aside, Ahead. -/

namespace Go.Proofs.Ytbhahddgajkchaa
open Go.RowKit

set_option maxRecDepth 10000 in
set_option maxHeartbeats 3200000 in
theorem ref14_Aside (a b : Pt) (h : Int) (w : World) :
    Calls Try.prog 10 #[ptV a, ptV b, .int .i64 h] w fun e w' => e = .returned (ptV (asideG a b h)) ∧ Below w.heap.size w w' := by
  obtain ⟨W, hW, k1, k2, k3, bW, sW⟩ := three_boxes w a b
  have cL := fun V => ref14_Len a b V
  obtain ⟨l, hl⟩ : ∃ l, lenG a b = l := ⟨_, rfl⟩
  obtain ⟨R, hR⟩ : ∃ R, asideG a b h = R := ⟨_, rfl⟩
  rw [hR]
  simp only [hl] at cL
  have HK := Lib.hid (And.intro k1 (And.intro k2 (And.intro k3 (And.intro bW sW))))
  obtain ⟨⟨p0, p1⟩, -⟩ := Box.pair k1
  obtain ⟨⟨q0, q1⟩, -⟩ := Box.pair k2
  by_cases hok : l ≠ 0 ∧ (-65536 ≤ h ∧ h ≤ 65536)
  · obtain ⟨hl0, hh⟩ := hok
    have hf := lenG_fit (by rw [hl]; exact hl0)
    have hd := diff_in hf.1 hf.2
    have hE : R = ⟨nearG ((a.y - b.y) * h) (l : Int), nearG ((b.x - a.x) * h) (l : Int)⟩ := by
      rw [← hR]
      unfold asideG leadG
      rw [if_pos hh, hl]
    obtain ⟨ax, ay⟩ := a
    obtain ⟨bx, bY⟩ := b
    dsimp only at *
    have w1 : IntKind.i64.wrap (ay - bY) = ay - bY := IntWalk.i64_in _ (by omega)
    have w2 : IntKind.i64.wrap (bx - ax) = bx - ax := IntWalk.i64_in _ (by omega)
    obtain ⟨D, hD⟩ : ∃ D, ay - bY = D := ⟨_, rfl⟩
    obtain ⟨E, hEE⟩ : ∃ D, bx - ax = D := ⟨_, rfl⟩
    rw [hD] at w1 hE
    rw [hEE] at w2 hE
    have m1 := mul_in (x := D) (y := h) (M := 16777214) (N := 65536) (by omega) hh
    have m2 := mul_in (x := E) (y := h) (M := 16777214) (N := 65536) (by omega) hh
    obtain ⟨u, hu⟩ : ∃ u, D * h = u := ⟨_, rfl⟩
    obtain ⟨v, hv⟩ : ∃ u, E * h = u := ⟨_, rfl⟩
    rw [hu] at hE m1
    rw [hv] at hE m2
    have w3 : IntKind.i64.wrap u = u := IntWalk.i64_in _ (by omega)
    have w4 : IntKind.i64.wrap v = v := IntWalk.i64_in _ (by omega)
    have cX := fun V => ref14_Near u (l : Int) V
    have cY := fun V => ref14_Near v (l : Int) V
    obtain ⟨X, hX⟩ : ∃ X, nearG u (l : Int) = X := ⟨_, rfl⟩
    obtain ⟨Y, hY⟩ : ∃ X, nearG v (l : Int) = X := ⟨_, rfl⟩
    rw [hX, hY] at hE
    rw [hX] at cX
    rw [hY] at cY
    subst hE
    have CL := Lib.hid cL
    have CX := Lib.hid cX
    have CY := Lib.hid cY
    have hlz : ((l : Int) == 0) = false := by simp; omega
    obtain ⟨hh1, hh2⟩ := hh
    have hh3 : ¬ h < -65536 := by omega
    have hh4 : ¬ 65536 < h := by omega
    unfold ptV at *
    dsimp only at *
    clear cL cX cY hX hY hR hl hf hd m1 m2 k1 k2 k3 bW sW
    go_enter Try.func10, Try.ntmps10
    go_wp2_with first
      | (rw [hW])
      | (go_at_call 8; (with_reducible refine Calls.mono (CL.out _) ?_); rintro e w1 ⟨rfl, b1⟩
         obtain ⟨⟨p0, p1⟩, -⟩ := Box.pair (HK.out.1.below b1 HK.out.1.lt)
         obtain ⟨⟨q0, q1⟩, -⟩ := Box.pair (HK.out.2.1.below b1 HK.out.2.1.lt)
         have s1 := b1.size
         have HP := Lib.hid (show ((w1.drew.cell? ⟨w.heap.size, 0, none⟩ = some (.int .i64 ax) ∧ w1.drew.cell? ⟨w.heap.size, 1, none⟩ = some (.int .i64 ay)) ∧ w1.drew.cell? ⟨w.heap.size + 1, 0, none⟩ = some (.int .i64 bx) ∧ w1.drew.cell? ⟨w.heap.size + 1, 1, none⟩ = some (.int .i64 bY)) ∧ Below (w.heap.size + 2) w1 w1.drew ∧ w.heap.size + 2 ≤ w1.drew.heap.size from ⟨⟨⟨p0, p1⟩, q0, q1⟩, (Below.refl _ _).drew, by show _ ≤ w1.heap.size; have := HK.out.2.2.2.2; omega⟩)
         have HK1 := Lib.hid (And.intro (HK.out.2.2.1.below b1 HK.out.2.2.1.lt) (HK.out.2.2.2.1.trans (b1.mono HK.out.2.2.2.1.size)))
         clear b1 s1)
    go_region_held3 (fun w' => ((w'.cell? ⟨w.heap.size, 0, none⟩ = some (.int .i64 ax) ∧ w'.cell? ⟨w.heap.size, 1, none⟩ = some (.int .i64 ay)) ∧ w'.cell? ⟨w.heap.size + 1, 0, none⟩ = some (.int .i64 bx) ∧ w'.cell? ⟨w.heap.size + 1, 1, none⟩ = some (.int .i64 bY)) ∧ Below (w.heap.size + 2) w1 w' ∧ w.heap.size + 2 ≤ w'.heap.size)
      (first
        | (with_reducible exact HP.out)
        | (with_reducible exact way_call (Nat.le_refl _) (by assumption) b10)
        | (with_reducible exact way_call (Nat.le_refl _) (by assumption) b9)
        | (with_reducible exact way_store (Nat.le_refl _) (by assumption) (Nat.le_refl _) _ _))
      ((first
        | (go_at_call 15; (with_reducible refine Calls.mono (CX.out _) ?_); rintro e w9 ⟨rfl, b9⟩; (have kb : Box w9 (w.heap.size + 2) 23 [.int .i64 0, .int .i64 0] := HK1.out.1.below (show Below w1.heap.size w1 w9 from (Below.refl _ w1).drew.trans b9) HK1.out.1.lt))
        | (go_at_call 15; (with_reducible refine Calls.mono (CY.out _) ?_); rintro e w10 ⟨rfl, b10⟩; (have kc := kb.below b10 kb.lt); obtain ⟨⟨i0, i1⟩, i2, i3⟩ := Box.pair kc)))
    rename_i hHeld
    obtain ⟨-, hB, -⟩ := hHeld
    obtain ⟨V, hV, kV, ⟨x0, x1⟩, -⟩ := kc.stored2 (.int .i64 X) (.int .i64 Y)
    rw [hV] at hB ⊢
    have HB := Lib.hid (HK1.out.2.trans (hB.mono (by omega)))
    clear hB kc hV
    go_wp2_with fail
    exact bodyPost_ret (by simp [results, Try.results10, go_sem, x0, x1]) rfl ⟨rfl, HB.out⟩
  · have hE : R = pt0 := by
      rw [← hR]
      by_cases h0 : l = 0
      · exact asideG_zero (by rw [hl, h0])
      · exact asideG_no (fun k => hok ⟨h0, k⟩)
    subst hE
    obtain ⟨ax, ay⟩ := a
    obtain ⟨bx, bY⟩ := b
    have CL := Lib.hid cL
    unfold ptV pt0 at *
    dsimp only at *
    clear cL hR hl k1 k2 k3 bW sW
    rcases (show l = 0 ∨ (l ≠ 0 ∧ h < -65536) ∨ (l ≠ 0 ∧ ¬ h < -65536 ∧ 65536 < h) from by omega) with rfl | ⟨h0, h1⟩ | ⟨h0, h1, h2⟩
    all_goals
      (try have hlz : ((l : Int) == 0) = false := by simp; omega)
      clear hok
      go_enter Try.func10, Try.ntmps10
      go_wp2_with first
        | (rw [hW])
        | (go_at_call 8; (with_reducible refine Calls.mono (CL.out _) ?_); rintro e w1 ⟨rfl, b1⟩
           have kz := HK.out.2.2.1.below b1 HK.out.2.2.1.lt
           obtain ⟨⟨z0, z1⟩, z2, z3⟩ := Box.pair kz)
      obtain ⟨V, hV, kV, ⟨x0, x1⟩, bV⟩ := kz.stored2 (.int .i64 0) (.int .i64 0)
      try rw [hV]
      exact bodyPost_ret (by simp [results, Try.results10, go_sem, x0, x1]) rfl ⟨rfl, (HK.out.2.2.2.1.trans (b1.mono HK.out.2.2.2.1.size)).trans (bV w.heap.size (by omega))⟩

set_option maxRecDepth 10000 in
set_option maxHeartbeats 3200000 in
theorem ref14_Ahead (a b : Pt) (h : Int) (w : World) :
    Calls Try.prog 12 #[ptV a, ptV b, .int .i64 h] w fun e w' => e = .returned (ptV (aheadG a b h)) ∧ Below w.heap.size w w' := by
  obtain ⟨W, hW, k1, k2, k3, bW, sW⟩ := three_boxes w a b
  have cL := fun V => ref14_Len a b V
  obtain ⟨l, hl⟩ : ∃ l, lenG a b = l := ⟨_, rfl⟩
  obtain ⟨R, hR⟩ : ∃ R, aheadG a b h = R := ⟨_, rfl⟩
  rw [hR]
  simp only [hl] at cL
  have HK := Lib.hid (And.intro k1 (And.intro k2 (And.intro k3 (And.intro bW sW))))
  obtain ⟨⟨p0, p1⟩, -⟩ := Box.pair k1
  obtain ⟨⟨q0, q1⟩, -⟩ := Box.pair k2
  by_cases hok : l ≠ 0 ∧ (0 ≤ h ∧ h ≤ 33554432)
  · obtain ⟨hl0, hh⟩ := hok
    have hf := lenG_fit (by rw [hl]; exact hl0)
    have hd := diff_in hf.1 hf.2
    have f1 := hf.1
    unfold FitP at f1
    have hE : R = ⟨a.x + nearG ((b.x - a.x) * h) (l : Int), a.y + nearG ((b.y - a.y) * h) (l : Int)⟩ := by
      rw [← hR]
      unfold aheadG leadG
      rw [if_pos hh, hl]
    obtain ⟨ax, ay⟩ := a
    obtain ⟨bx, bY⟩ := b
    dsimp only at *
    have w1 : IntKind.i64.wrap (bx - ax) = bx - ax := IntWalk.i64_in _ (by omega)
    have w2 : IntKind.i64.wrap (bY - ay) = bY - ay := IntWalk.i64_in _ (by omega)
    obtain ⟨D, hD⟩ : ∃ D, bx - ax = D := ⟨_, rfl⟩
    obtain ⟨E, hEE⟩ : ∃ D, bY - ay = D := ⟨_, rfl⟩
    rw [hD] at w1 hE
    rw [hEE] at w2 hE
    have m1 := mul_in (x := D) (y := h) (M := 16777214) (N := 33554432) (by omega) (by omega)
    have m2 := mul_in (x := E) (y := h) (M := 16777214) (N := 33554432) (by omega) (by omega)
    obtain ⟨u, hu⟩ : ∃ u, D * h = u := ⟨_, rfl⟩
    obtain ⟨v, hv⟩ : ∃ u, E * h = u := ⟨_, rfl⟩
    rw [hu] at hE m1
    rw [hv] at hE m2
    have w3 : IntKind.i64.wrap u = u := IntWalk.i64_in _ (by omega)
    have w4 : IntKind.i64.wrap v = v := IntWalk.i64_in _ (by omega)
    have cX := fun V => ref14_Near u (l : Int) V
    have cY := fun V => ref14_Near v (l : Int) V
    have n1 := nearG_in u (l : Int)
    have n2 := nearG_in v (l : Int)
    obtain ⟨X, hX⟩ : ∃ X, nearG u (l : Int) = X := ⟨_, rfl⟩
    obtain ⟨Y, hY⟩ : ∃ X, nearG v (l : Int) = X := ⟨_, rfl⟩
    rw [hX] at cX n1
    rw [hY] at cY n2
    rw [hX, hY] at hE
    have w5 : IntKind.i64.wrap (ax + X) = ax + X := IntWalk.i64_in _ (by omega)
    have w6 : IntKind.i64.wrap (ay + Y) = ay + Y := IntWalk.i64_in _ (by omega)
    obtain ⟨P, hP⟩ : ∃ P, ax + X = P := ⟨_, rfl⟩
    obtain ⟨Q, hQ⟩ : ∃ P, ay + Y = P := ⟨_, rfl⟩
    rw [hP] at w5 hE
    rw [hQ] at w6 hE
    subst hE
    have CL := Lib.hid cL
    have CX := Lib.hid cX
    have CY := Lib.hid cY
    have hlz : ((l : Int) == 0) = false := by simp; omega
    obtain ⟨hh1, hh2⟩ := hh
    have hh3 : ¬ h < 0 := by omega
    have hh4 : ¬ 33554432 < h := by omega
    unfold ptV at *
    dsimp only at *
    clear cL cX cY hX hY hR hl hf hd m1 m2 k1 k2 k3 bW sW n1 n2 f1
    go_enter Try.func12, Try.ntmps12
    go_wp2_with first
      | (rw [hW])
      | (go_at_call 8; (with_reducible refine Calls.mono (CL.out _) ?_); rintro e w1 ⟨rfl, b1⟩
         obtain ⟨⟨p0, p1⟩, -⟩ := Box.pair (HK.out.1.below b1 HK.out.1.lt)
         obtain ⟨⟨q0, q1⟩, -⟩ := Box.pair (HK.out.2.1.below b1 HK.out.2.1.lt)
         have s1 := b1.size
         have HP := Lib.hid (show ((w1.drew.cell? ⟨w.heap.size, 0, none⟩ = some (.int .i64 ax) ∧ w1.drew.cell? ⟨w.heap.size, 1, none⟩ = some (.int .i64 ay)) ∧ w1.drew.cell? ⟨w.heap.size + 1, 0, none⟩ = some (.int .i64 bx) ∧ w1.drew.cell? ⟨w.heap.size + 1, 1, none⟩ = some (.int .i64 bY)) ∧ Below (w.heap.size + 2) w1 w1.drew ∧ w.heap.size + 2 ≤ w1.drew.heap.size from ⟨⟨⟨p0, p1⟩, q0, q1⟩, (Below.refl _ _).drew, by show _ ≤ w1.heap.size; have := HK.out.2.2.2.2; omega⟩)
         have HK1 := Lib.hid (And.intro (HK.out.2.2.1.below b1 HK.out.2.2.1.lt) (HK.out.2.2.2.1.trans (b1.mono HK.out.2.2.2.1.size)))
         clear b1 s1)
    go_region_held3 (fun w' => ((w'.cell? ⟨w.heap.size, 0, none⟩ = some (.int .i64 ax) ∧ w'.cell? ⟨w.heap.size, 1, none⟩ = some (.int .i64 ay)) ∧ w'.cell? ⟨w.heap.size + 1, 0, none⟩ = some (.int .i64 bx) ∧ w'.cell? ⟨w.heap.size + 1, 1, none⟩ = some (.int .i64 bY)) ∧ Below (w.heap.size + 2) w1 w' ∧ w.heap.size + 2 ≤ w'.heap.size)
      (first
        | (with_reducible exact HP.out)
        | (with_reducible exact way_call (Nat.le_refl _) (by assumption) b10)
        | (with_reducible exact way_call (Nat.le_refl _) (by assumption) b9)
        | (with_reducible exact way_store (Nat.le_refl _) (by assumption) (Nat.le_refl _) _ _))
      ((first
        | (go_at_call 15; (with_reducible refine Calls.mono (CX.out _) ?_); rintro e w9 ⟨rfl, b9⟩; (have kb : Box w9 (w.heap.size + 2) 23 [.int .i64 0, .int .i64 0] := HK1.out.1.below (show Below w1.heap.size w1 w9 from (Below.refl _ w1).drew.trans b9) HK1.out.1.lt))
        | (go_at_call 15; (with_reducible refine Calls.mono (CY.out _) ?_); rintro e w10 ⟨rfl, b10⟩; (have kc := kb.below b10 kb.lt); obtain ⟨⟨i0, i1⟩, i2, i3⟩ := Box.pair kc)))
    all_goals
      rename_i hHeld
      obtain ⟨-, hB, -⟩ := hHeld
      obtain ⟨V, hV, kV, ⟨x0, x1⟩, -⟩ := kc.stored2 (.int .i64 P) (.int .i64 Q)
      rw [hV] at hB ⊢
      have HB := Lib.hid (HK1.out.2.trans (hB.mono (by omega)))
      clear hB kc hV
      go_wp2_with fail
      exact bodyPost_ret (by simp [results, Try.results12, go_sem, x0, x1]) rfl ⟨rfl, HB.out⟩
  · have hE : R = a := by
      rw [← hR]
      by_cases h0 : l = 0
      · exact aheadG_zero (by rw [hl, h0])
      · exact aheadG_no (fun k => hok ⟨h0, k⟩)
    subst hE
    obtain ⟨ax, ay⟩ := R
    obtain ⟨bx, bY⟩ := b
    have CL := Lib.hid cL
    unfold ptV at *
    dsimp only at *
    clear cL hR hl k1 k2 k3 bW sW
    rcases (show l = 0 ∨ (l ≠ 0 ∧ h < 0) ∨ (l ≠ 0 ∧ ¬ h < 0 ∧ 33554432 < h) from by omega) with rfl | ⟨h0, h1⟩ | ⟨h0, h1, h2⟩
    all_goals
      (try have hlz : ((l : Int) == 0) = false := by simp; omega)
      clear hok
      go_enter Try.func12, Try.ntmps12
      go_wp2_with first
        | (rw [hW])
        | (go_at_call 8; (with_reducible refine Calls.mono (CL.out _) ?_); rintro e w1 ⟨rfl, b1⟩
           obtain ⟨⟨p0, p1⟩, -⟩ := Box.pair (HK.out.1.below b1 HK.out.1.lt)
           have kz := HK.out.2.2.1.below b1 HK.out.2.2.1.lt
           obtain ⟨⟨z0, z1⟩, z2, z3⟩ := Box.pair kz)
      obtain ⟨V, hV, kV, ⟨x0, x1⟩, bV⟩ := kz.stored2 (.int .i64 ax) (.int .i64 ay)
      try rw [hV]
      exact bodyPost_ret (by simp [results, Try.results12, go_sem, x0, x1]) rfl ⟨rfl, (HK.out.2.2.2.1.trans (b1.mono HK.out.2.2.2.1.size)).trans (bV w.heap.size (by omega))⟩
end Go.Proofs.Ytbhahddgajkchaa
