/- Maps of the plane: the program's own within, May, Fits, near. -/
import Derived.Test.YtemipepahglndaaZAfW
import Derived.Test.YtemipepahglndaaZFgY
import Derived.Deep.RegionHeld3
namespace Go.Proofs.Ytemipepahglndaa
open Go.RowKit

def inB (m : Int) (l : List Int) : Bool := l.all fun n => decide (-m ≤ n ∧ n ≤ m)
theorem inB_nil (m : Int) : inB m [] = true := rfl
theorem inB_step {m : Int} {l : List Int} {i : Nat} (hi : i < l.length) (h : inB m (l.take i) = true) (hx : -m ≤ l[i] ∧ l[i] ≤ m) : inB m (l.take (i + 1)) = true := by
  rw [List.take_succ_eq_append_getElem hi]
  unfold inB at *
  rw [List.all_append, h]
  simp [hx]
theorem inB_not {m : Int} {l : List Int} {i : Nat} (hi : i < l.length) (hx : ¬ (-m ≤ l[i] ∧ l[i] ≤ m)) : inB m l = false := by
  unfold inB
  rw [List.all_eq_false]
  exact ⟨l[i], List.getElem_mem hi, by simpa using hx⟩
theorem Box.rd {w : World} {g : Nat} {t : TypeId} {vs : List Value} (h : Box w g t vs) : RdV w w.heap.size (some ⟨g, 0, none⟩) vs := fun _ => ⟨g, 0, rfl, h.lt, fun j hj => by rw [Nat.zero_add]; exact h.cell j (List.getElem?_eq_getElem hj)⟩

set_option maxRecDepth 10000 in
set_option maxHeartbeats 1600000 in
theorem aff_within (m : Int) (hm : 0 ≤ m ∧ m ≤ 4611686018427387904) (A : Option Addr) (c : Nat) (a : List Int) (w : World) (ha : RdV w w.heap.size A (icells a)) (hl : a.length ≤ 4611686018427387904) :
    Calls Try.prog 23 #[.int .i64 m, .slice A a.length c] w fun e w' => e = .returned (.bool (inB m a)) ∧ w = w' := by
  obtain ⟨n, hn⟩ : ∃ n, a.length = n := ⟨_, rfl⟩
  obtain ⟨d, hd⟩ : ∃ d, inB m a = d := ⟨_, rfl⟩
  have HA := Lib.hid hn
  have HD := Lib.hid hd
  rw [hd, hn]
  rw [hn] at hl
  clear hd hn
  obtain ⟨hm1, hm2⟩ := hm
  have hneg : IntKind.i64.wrap (-m) = -m := IntWalk.i64_in _ (by omega)
  go_enter Try.func23, Try.ntmps23
  go_wp2_with fail
  go_loopg [6, 9] n (fun gh nv it wr => ∃ i : Nat, it = .int .i64 (i : Int) ∧ gh + i = n ∧ inB m (a.take i) = true ∧ wr = w)
  case atStart => exact ⟨0, rfl, by omega, rfl, rfl⟩
  case round =>
    obtain ⟨i, rfl, hg, hs, rfl⟩ := hrel
    by_cases hlt : i < n
    · have hlt' : i < a.length := by rw [HA.out]; exact hlt
      obtain ⟨g, o, rfl, _, hc⟩ := ha.num (i := i) hlt'
      have HNX := Lib.hid (inB_step hlt' hs)
      have HNO := Lib.hid (inB_not (m := m) hlt')
      obtain ⟨x, hx⟩ : ∃ x, a[i] = x := ⟨_, rfl⟩
      rw [hx] at hc HNX HNO
      clear hs hx hlt'
      by_cases h1 : x < -m
      · have HX := Lib.hid (HNO.out (by omega))
        clear HNX HNO
        go_wp2_with fail
        go_ret
        exact ⟨by rw [← HD.out, HX.out]; rfl, rfl⟩
      · by_cases h2 : m < x
        · have HX := Lib.hid (HNO.out (by omega))
          clear HNX HNO
          go_wp2_with fail
          go_ret
          exact ⟨by rw [← HD.out, HX.out]; rfl, rfl⟩
        · have HX := Lib.hid (HNX.out (by omega))
          clear HNX HNO
          go_wp2_with fail
          go_roundg (n - (i + 1))
          case measure => omega
          case rel => exact ⟨i + 1, by simp, by omega, HX.out, rfl⟩
    · obtain rfl : i = n := by omega
      have HE := Lib.hid (show d = true by rw [← HD.out]; rw [← HA.out, List.take_length] at hs; exact hs)
      clear hs
      go_wp2_with fail
      go_ret
      exact ⟨by rw [HE.out]; rfl, rfl⟩

set_option maxRecDepth 10000 in
theorem aff_near (s : Int) (hs : -4611686018427387904 ≤ s ∧ s ≤ 4611686018427387904) (w : World) :
    Calls Try.prog 21 #[.int .i64 s] w fun e w' => e = .returned (.int .i64 (nearN s)) ∧ w = w' := by
  obtain ⟨h1, h2⟩ := hs
  have hw : IntKind.i64.wrap (s + 128) = s + 128 := IntWalk.i64_in _ (by omega)
  unfold nearN
  go_enter Try.func21, Try.ntmps21
  go_wp2_with fail
  go_ret
  exact ⟨rfl, rfl⟩
end Go.Proofs.Ytemipepahglndaa
/- Maps of the plane: the program's own Fits, May. -/

namespace Go.Proofs.Ytemipepahglndaa
open Go.RowKit

theorem inB_fit (x y : Int) : inB 8388607 [x, y] = decide (FitP ⟨x, y⟩) := by
  unfold inB FitP
  simp only [List.all_cons, List.all_nil, Bool.and_true]
  by_cases h1 : -8388607 ≤ x ∧ x ≤ 8388607 <;> by_cases h2 : -8388607 ≤ y ∧ y ≤ 8388607 <;> simp [h1, h2]
theorem inB_may (a b c d : Int) : inB 32768 [a, b, c, d] = decide (MayF a ∧ MayF b ∧ MayF c ∧ MayF d) := by
  unfold inB MayF
  simp only [List.all_cons, List.all_nil, Bool.and_true, Bool.decide_and]
theorem may_split (m : Mp) : decide (MayM m) = (inB 32768 [m.a, m.b, m.c, m.d] && inB 8388607 [m.e, m.f]) := by
  rw [inB_may, inB_fit, Bool.eq_iff_iff, Bool.and_eq_true, decide_eq_true_iff, decide_eq_true_iff, decide_eq_true_iff]
  exact ⟨fun ⟨a, b, c, d, e⟩ => ⟨⟨a, b, c, d⟩, e⟩, fun ⟨⟨a, b, c, d⟩, e⟩ => ⟨a, b, c, d, e⟩⟩
theorem aff_two (m x y : Int) (hm : 0 ≤ m ∧ m ≤ 4611686018427387904) (g : Nat) (V : World) (h : Box V g 3 [.int .i64 x, .int .i64 y]) :
    Calls Try.prog 23 #[.int .i64 m, .slice (some ⟨g, 0, none⟩) 2 2] V fun e w' => e = .returned (.bool (inB m [x, y])) ∧ V = w' :=
  aff_within m hm _ 2 [x, y] V h.rd (by simp)
theorem aff_four (m a b c d : Int) (hm : 0 ≤ m ∧ m ≤ 4611686018427387904) (g : Nat) (V : World) (h : Box V g 3 [.int .i64 a, .int .i64 b, .int .i64 c, .int .i64 d]) :
    Calls Try.prog 23 #[.int .i64 m, .slice (some ⟨g, 0, none⟩) 4 4] V fun e w' => e = .returned (.bool (inB m [a, b, c, d])) ∧ V = w' :=
  aff_within m hm _ 4 [a, b, c, d] V h.rd (by simp)

set_option maxRecDepth 10000 in
theorem aff_Fits (p : Pt) (w : World) :
    Calls Try.prog 10 #[ptV p] w fun e w' => e = .returned (.bool (decide (FitP p))) ∧ Below w.heap.size w w' := by
  obtain ⟨x, y⟩ := p
  rw [← inB_fit]
  unfold ptV
  dsimp only
  obtain ⟨W, hW, k, B0⟩ : ∃ W, w.alloc (.cells #[.int .i64 x, .int .i64 y] 25) = W ∧ Box W w.heap.size 25 [.int .i64 x, .int .i64 y] ∧ Below w.heap.size w W := ⟨_, rfl, Box.new w _ [.int .i64 x, .int .i64 y], (Below.refl _ _).alloc (Nat.le_refl _) _⟩
  obtain ⟨⟨p0, p1⟩, -⟩ := Box.pair k
  have HB := Lib.hid (B0.alloc B0.size (.cells #[.int .i64 x, .int .i64 y] 3))
  have HC := Lib.hid (fun g V h => aff_two 8388607 x y (by omega) g V h)
  clear B0 k
  go_enter Try.func10, Try.ntmps10
  go_wp2_with first
    | (go_at_call 23; refine Calls.mono (HC.out _ _ (by first | rw [hW]; exact Box.new _ _ _ | exact Box.new _ _ _)) ?_; rintro e w1 ⟨rfl, rfl⟩)
    | (rw [hW])
  go_ret
  exact ⟨rfl, HB.out⟩

set_option maxRecDepth 10000 in
set_option maxHeartbeats 1600000 in
theorem aff_May (m : Mp) (w : World) :
    Calls Try.prog 8 #[mpV m] w fun e w' => e = .returned (.bool (decide (MayM m))) ∧ Below w.heap.size w w' := by
  rw [may_split]
  obtain ⟨a, b, c, d, e, f⟩ := m
  unfold mpV
  dsimp only
  obtain ⟨W, hW, k, B0⟩ : ∃ W, w.alloc (.cells #[.int .i64 a, .int .i64 b, .int .i64 c, .int .i64 d, .int .i64 e, .int .i64 f] 23) = W ∧ Box W w.heap.size 23 [.int .i64 a, .int .i64 b, .int .i64 c, .int .i64 d, .int .i64 e, .int .i64 f] ∧ Below w.heap.size w W := ⟨_, rfl, Box.new w _ [.int .i64 a, .int .i64 b, .int .i64 c, .int .i64 d, .int .i64 e, .int .i64 f], (Below.refl _ _).alloc (Nat.le_refl _) _⟩
  obtain ⟨W2, hW2, k2, B2⟩ : ∃ W2, W.alloc (.cells #[.int .i64 a, .int .i64 b, .int .i64 c, .int .i64 d] 3) = W2 ∧ Box W2 W.heap.size 3 [.int .i64 a, .int .i64 b, .int .i64 c, .int .i64 d] ∧ Below W.heap.size W W2 := ⟨_, rfl, Box.new W _ [.int .i64 a, .int .i64 b, .int .i64 c, .int .i64 d], (Below.refl _ _).alloc (Nat.le_refl _) _⟩
  have k' := k.below B2 k.lt
  have B02 := B0.trans (B2.mono B0.size)
  obtain ⟨p0, p1, p2, p3, p4, p5⟩ := Box.six k
  obtain ⟨q0, q1, q2, q3, q4, q5⟩ := Box.six k'
  have HB := Lib.hid B02
  have HB2 := Lib.hid (B02.alloc B02.size (.cells #[.int .i64 e, .int .i64 f] 3))
  have HC := Lib.hid (aff_four 32768 a b c d (by omega) _ W2 k2)
  have HC2 := Lib.hid (fun g V h => aff_two 8388607 e f (by omega) g V h)
  obtain ⟨t, ht⟩ : ∃ t, inB 32768 [a, b, c, d] = t := ⟨_, rfl⟩
  obtain ⟨u, hu⟩ : ∃ u, inB 8388607 [e, f] = u := ⟨_, rfl⟩
  rw [ht, hu]
  rw [ht] at HC
  rw [hu] at HC2
  clear B0 k k' k2 B2 B02 ht hu
  cases t with
  | false =>
    go_enter Try.func8, Try.ntmps8
    go_wp2_with first
      | (go_at_call 23; refine Calls.mono HC.out ?_; rintro e w1 ⟨rfl, rfl⟩)
      | (rw [hW])
      | (rw [hW2])
    go_ret
    exact ⟨rfl, HB.out⟩
  | true =>
    go_enter Try.func8, Try.ntmps8
    go_wp2_with first
      | (go_at_call 23; with_reducible refine Calls.mono HC.out ?_; rintro e w1 ⟨rfl, rfl⟩)
      | (go_at_call 23; refine Calls.mono (HC2.out _ _ (by exact Box.new _ _ _)) ?_; rintro e w1 ⟨rfl, rfl⟩)
      | (rw [hW])
      | (rw [hW2])
    go_ret
    exact ⟨by cases u <;> rfl, HB2.out⟩
end Go.Proofs.Ytemipepahglndaa
/- Maps of the plane: the program's own Apply. -/

namespace Go.Proofs.Ytemipepahglndaa
open Go.RowKit

/-- the boxes that Apply makes: the map's, the point's, the result's -/
theorem ap_boxes (a b c d e f x y : Int) (w : World) : ∃ W, ((w.alloc (.cells #[.int .i64 a, .int .i64 b, .int .i64 c, .int .i64 d, .int .i64 e, .int .i64 f] 23)).alloc (.cells #[.int .i64 x, .int .i64 y] 25)).alloc (.cells #[.int .i64 0, .int .i64 0] 25) = W ∧
    Box W w.heap.size 23 [.int .i64 a, .int .i64 b, .int .i64 c, .int .i64 d, .int .i64 e, .int .i64 f] ∧ Box W (w.heap.size + 1) 25 [.int .i64 x, .int .i64 y] ∧ Box W (w.heap.size + 2) 25 [.int .i64 0, .int .i64 0] ∧ Below w.heap.size w W ∧ w.heap.size + 3 ≤ W.heap.size := by
  refine ⟨_, rfl, ((Box.new w _ [.int .i64 a, .int .i64 b, .int .i64 c, .int .i64 d, .int .i64 e, .int .i64 f]).alloc _).alloc _, (Box.at_new (w.alloc (.cells #[.int .i64 a, .int .i64 b, .int .i64 c, .int .i64 d, .int .i64 e, .int .i64 f] 23)) _ [.int .i64 x, .int .i64 y] (by simp)).alloc _, Box.at_new _ _ [.int .i64 0, .int .i64 0] (by simp), ?_, by simp⟩
  exact (((Below.refl _ w).alloc (Nat.le_refl _) _).alloc (by simp) _).alloc (by simp; omega) _
/-- a point's box, written anew -/
theorem Box.stored2 {w : World} {g : Nat} {t : TypeId} {a b : Value} (h : Box w g t [a, b]) (x y : Value) : ∃ U, (w.setCell ⟨g, 0, none⟩ x).setCell ⟨g, 1, none⟩ y = U ∧ Box U g t [x, y] ∧ (U.cell? ⟨g, 0, none⟩ = some x ∧ U.cell? ⟨g, 1, none⟩ = some y) ∧ ∀ B, B ≤ g → Below B w U :=
  ⟨_, rfl, (h.set 0 x).set 1 y, ⟨((h.set 0 x).set 1 y).cell 0 rfl, ((h.set 0 x).set 1 y).cell 1 rfl⟩, fun B hB => ((Below.refl B w).setCell (p := ⟨g, 0, none⟩) hB x).setCell (p := ⟨g, 1, none⟩) hB y⟩
theorem apply_arg {m : Mp} {p : Pt} (h : ¬ MayM m) : ptV (applyP m p) = .agg #[.int .i64 0, .int .i64 0] ∧ applyE m p = 2 := by
  unfold applyP applyE
  rw [if_neg fun k => h k.1, if_neg h]
  exact ⟨rfl, rfl⟩
theorem apply_range {m : Mp} {p : Pt} (h : MayM m) (k : ¬ (FitP p ∧ FitP (goM m p))) : ptV (applyP m p) = .agg #[.int .i64 0, .int .i64 0] ∧ applyE m p = 4 := by
  unfold applyP applyE
  rw [if_neg fun z => k z.2, if_pos h, if_neg k]
  exact ⟨rfl, rfl⟩
theorem apply_ok {m : Mp} {p : Pt} (h : MayM m) (k : FitP p) (z : FitP (goM m p)) : ptV (applyP m p) = ptV (goM m p) ∧ applyE m p = 0 := by
  unfold applyP applyE
  rw [if_pos ⟨h, k, z⟩, if_pos h, if_pos ⟨k, z⟩]
  exact ⟨rfl, rfl⟩

set_option maxRecDepth 10000 in
set_option maxHeartbeats 3200000 in
theorem aff_Apply (m : Mp) (p : Pt) (w : World) :
    Calls Try.prog 6 #[mpV m, ptV p] w fun e w' => e = .returned (.tuple #[ptV (applyP m p), .int .i64 (applyE m p)]) ∧ Below w.heap.size w w' := by
  obtain ⟨a, b, c, d, e, f⟩ := m
  obtain ⟨x, y⟩ := p
  obtain ⟨W, hW, k1, k2, k3, B0, hz⟩ := ap_boxes a b c d e f x y w
  obtain ⟨p0, p1, p2, p3, p4, p5⟩ := Box.six k1
  obtain ⟨⟨q0, q1⟩, -⟩ := Box.pair k2
  obtain ⟨⟨r0, r1⟩, r2, r3⟩ := Box.pair k3
  have HK := Lib.hid (And.intro k1 (And.intro k2 (And.intro k3 (And.intro B0 hz))))
  have cM := fun V => aff_May ⟨a, b, c, d, e, f⟩ V
  have cF := fun V => aff_Fits ⟨x, y⟩ V
  clear k1 k2 k3 B0 hz
  by_cases hm : MayM ⟨a, b, c, d, e, f⟩
  · rw [decide_eq_true hm] at cM
    by_cases hp : FitP ⟨x, y⟩
    · rw [decide_eq_true hp] at cF
      obtain ⟨ma, mb, mc, md, me, mf⟩ := id hm
      obtain ⟨⟨b1, b2⟩, b3, b4⟩ := sum_bound ma hp.1 mc hp.2
      obtain ⟨⟨b5, b6⟩, b7, b8⟩ := sum_bound mb hp.1 md hp.2
      have hg : goM ⟨a, b, c, d, e, f⟩ ⟨x, y⟩ = ⟨nearN (a * x + c * y) + e, nearN (b * x + d * y) + f⟩ := rfl
      obtain ⟨u, hu⟩ : ∃ u, a * x = u := ⟨_, rfl⟩
      obtain ⟨v, hv⟩ : ∃ u, c * y = u := ⟨_, rfl⟩
      obtain ⟨s, hs⟩ : ∃ u, b * x = u := ⟨_, rfl⟩
      obtain ⟨t, ht⟩ : ∃ u, d * y = u := ⟨_, rfl⟩
      rw [hu, hv, hs, ht] at hg
      dsimp only at b1 b2 b3 b4 b5 b6 b7 b8 me mf
      rw [hu] at b1 b2
      rw [hv] at b3 b4
      rw [hs] at b5 b6
      rw [ht] at b7 b8
      have w1 : IntKind.i64.wrap u = u := IntWalk.i64_in _ (by omega)
      have w2 : IntKind.i64.wrap v = v := IntWalk.i64_in _ (by omega)
      have w3 : IntKind.i64.wrap s = s := IntWalk.i64_in _ (by omega)
      have w4 : IntKind.i64.wrap t = t := IntWalk.i64_in _ (by omega)
      obtain ⟨P, hP⟩ : ∃ P, u + v = P := ⟨_, rfl⟩
      obtain ⟨Q, hQ⟩ : ∃ P, s + t = P := ⟨_, rfl⟩
      rw [hP, hQ] at hg
      have w5 : IntKind.i64.wrap P = P := IntWalk.i64_in _ (by omega)
      have w6 : IntKind.i64.wrap Q = Q := IntWalk.i64_in _ (by omega)
      have cN := fun V => aff_near P (by omega) V
      have cO := fun V => aff_near Q (by omega) V
      have n1 : -4294967296 ≤ nearN P ∧ nearN P ≤ 4294967296 := by unfold nearN; omega
      have n2 : -4294967296 ≤ nearN Q ∧ nearN Q ≤ 4294967296 := by unfold nearN; omega
      obtain ⟨N, hN⟩ : ∃ N, nearN P = N := ⟨_, rfl⟩
      obtain ⟨M, hM⟩ : ∃ M, nearN Q = M := ⟨_, rfl⟩
      rw [hN] at cN n1 hg
      rw [hM] at cO n2 hg
      obtain ⟨X, hX⟩ : ∃ X, N + e = X := ⟨_, rfl⟩
      obtain ⟨Y, hY⟩ : ∃ Y, M + f = Y := ⟨_, rfl⟩
      rw [hX, hY] at hg
      have w7 : IntKind.i64.wrap X = X := IntWalk.i64_in _ (by omega)
      have w8 : IntKind.i64.wrap Y = Y := IntWalk.i64_in _ (by omega)
      have cT := fun V => aff_Fits ⟨X, Y⟩ V
      obtain ⟨o, ho⟩ : ∃ o, decide (FitP ⟨X, Y⟩) = o := ⟨_, rfl⟩
      rw [ho] at cT
      have HE := Lib.hid (show (o = true → ptV (applyP ⟨a, b, c, d, e, f⟩ ⟨x, y⟩) = .agg #[.int .i64 X, .int .i64 Y] ∧ applyE ⟨a, b, c, d, e, f⟩ ⟨x, y⟩ = 0) from fun h => by
        have h1 := apply_ok (m := ⟨a, b, c, d, e, f⟩) hm hp (by rw [hg]; rw [h] at ho; exact of_decide_eq_true ho)
        rw [hg] at h1
        exact h1)
      have HF := Lib.hid (show (o = false → ptV (applyP ⟨a, b, c, d, e, f⟩ ⟨x, y⟩) = .agg #[.int .i64 0, .int .i64 0] ∧ applyE ⟨a, b, c, d, e, f⟩ ⟨x, y⟩ = 4) from fun h => apply_range hm (fun z => by
        rw [hg] at z
        rw [decide_eq_true z.2] at ho
        rw [h] at ho
        cases ho))
      obtain ⟨R, hR⟩ : ∃ R, ptV (applyP ⟨a, b, c, d, e, f⟩ ⟨x, y⟩) = R := ⟨_, rfl⟩
      obtain ⟨E, hE⟩ : ∃ R, applyE ⟨a, b, c, d, e, f⟩ ⟨x, y⟩ = R := ⟨_, rfl⟩
      rw [hR, hE] at HE HF
      rw [hR, hE]
      have CM := Lib.hid cM
      have CF := Lib.hid cF
      have CN := Lib.hid cN
      have CO := Lib.hid cO
      have CT := Lib.hid cT
      clear cM cF cN cO cT hm hp ho hR hE hg ma mb mc md me mf b1 b2 b3 b4 b5 b6 b7 b8 n1 n2 hN hM
      unfold mpV ptV at *
      dsimp only at *
      go_enter Try.func6, Try.ntmps6
      go_wp2_with first
        | (go_at_call 8; with_reducible refine Calls.mono (CM.out _) ?_; rintro e w1 ⟨rfl, b1⟩
           have z2 := HK.out.2.1.below b1 HK.out.2.1.lt
           obtain ⟨⟨q0, q1⟩, -⟩ := Box.pair z2)
        | (go_at_call 10; with_reducible refine Calls.mono (CF.out _) ?_; rintro e w2 ⟨rfl, b2⟩)
        | (rw [hW])
      have b12 := b1.trans (b2.mono b1.size)
      obtain ⟨p0, p1, p2, p3, p4, p5⟩ := Box.six (HK.out.1.below b12 HK.out.1.lt)
      obtain ⟨⟨q0, q1⟩, -⟩ := Box.pair (HK.out.2.1.below b12 HK.out.2.1.lt)
      have hz := b12.size
      have hz2 := HK.out.2.2.2.2
      have HB := Lib.hid b12
      have HP := Lib.hid (show ((w2.drew.cell? ⟨w.heap.size, 0, none⟩ = some (.int .i64 a) ∧ w2.drew.cell? ⟨w.heap.size, 1, none⟩ = some (.int .i64 b) ∧ w2.drew.cell? ⟨w.heap.size, 2, none⟩ = some (.int .i64 c) ∧ w2.drew.cell? ⟨w.heap.size, 3, none⟩ = some (.int .i64 d) ∧ w2.drew.cell? ⟨w.heap.size, 4, none⟩ = some (.int .i64 e) ∧ w2.drew.cell? ⟨w.heap.size, 5, none⟩ = some (.int .i64 f)) ∧ w2.drew.cell? ⟨w.heap.size + 1, 0, none⟩ = some (.int .i64 x) ∧ w2.drew.cell? ⟨w.heap.size + 1, 1, none⟩ = some (.int .i64 y)) from ⟨⟨p0, p1, p2, p3, p4, p5⟩, q0, q1⟩)
      have hsz : w.heap.size + 1 < w2.heap.size := by omega
      clear hz hz2 b1 b2 b12 z2
      go_region_held3 (fun w' => (w'.cell? ⟨w.heap.size, 0, none⟩ = some (.int .i64 a) ∧ w'.cell? ⟨w.heap.size, 1, none⟩ = some (.int .i64 b) ∧ w'.cell? ⟨w.heap.size, 2, none⟩ = some (.int .i64 c) ∧ w'.cell? ⟨w.heap.size, 3, none⟩ = some (.int .i64 d) ∧ w'.cell? ⟨w.heap.size, 4, none⟩ = some (.int .i64 e) ∧ w'.cell? ⟨w.heap.size, 5, none⟩ = some (.int .i64 f)) ∧ w'.cell? ⟨w.heap.size + 1, 0, none⟩ = some (.int .i64 x) ∧ w'.cell? ⟨w.heap.size + 1, 1, none⟩ = some (.int .i64 y))
        (first | (with_reducible exact HP.out) | go_keep)
        ((first
          | (go_at_call 21; (with_reducible refine Calls.mono (CN.out _) ?_); rintro e w1 ⟨rfl, rfl⟩)
          | (go_at_call 21; (with_reducible refine Calls.mono (CO.out _) ?_); rintro e w1 ⟨rfl, rfl⟩)))
      all_goals
        rename_i hHeld
        clear hHeld
        obtain ⟨V, hV, kV, bV⟩ : ∃ V, (w2.alloc (.cells #[.int .i64 X, .int .i64 Y] 25)).drew = V ∧ Box V w2.heap.size 25 [.int .i64 X, .int .i64 Y] ∧ Below w2.heap.size w2 V := ⟨_, rfl, Box.drewN (Box.new w2 _ [.int .i64 X, .int .i64 Y]) 1, ((Below.refl _ _).alloc (Nat.le_refl _) _).drew⟩
        rw [hV]
        obtain ⟨⟨x0, x1⟩, -⟩ := Box.pair kV
        have HV := Lib.hid (And.intro kV (HB.out.trans (bV.mono HB.out.size)))
        clear hV kV bV
        cases o
      all_goals
        go_wp2_with first
          | (go_at_call 10; with_reducible refine Calls.mono (CT.out _) ?_; rintro e w3 ⟨rfl, b3⟩
             have kt := HV.out.1.below b3 HV.out.1.lt
             have b13 := HV.out.2.trans (b3.mono HV.out.2.size)
             have z3 := HK.out.2.2.1.below b13 HK.out.2.2.1.lt
             obtain ⟨⟨x0, x1⟩, -⟩ := Box.pair kt
             obtain ⟨⟨r0, r1⟩, r2, r3⟩ := Box.pair z3)
        first
          | (obtain ⟨rfl, rfl⟩ := HE.out trivial
             obtain ⟨U, hU, kU, ⟨u0, u1⟩, bU⟩ := z3.stored2 (.int .i64 X) (.int .i64 Y)
             have hB := (HK.out.2.2.2.1.trans (b13.mono HK.out.2.2.2.1.size)).trans (bU w.heap.size (by omega))
             (try rw [hU])
             exact bodyPost_ret (by simp [results, Try.results6, go_sem, u0, u1]) rfl ⟨rfl, hB⟩)
          | (obtain ⟨rfl, rfl⟩ := HF.out trivial
             obtain ⟨U, hU, kU, ⟨u0, u1⟩, bU⟩ := z3.stored2 (.int .i64 0) (.int .i64 0)
             have hB := (HK.out.2.2.2.1.trans (b13.mono HK.out.2.2.2.1.size)).trans (bU w.heap.size (by omega))
             (try rw [hU])
             exact bodyPost_ret (by simp [results, Try.results6, go_sem, u0, u1]) rfl ⟨rfl, hB⟩)
    · rw [decide_eq_false hp] at cF
      obtain ⟨e1, e2⟩ := apply_range hm (fun h => hp h.1)
      rw [e1, e2]
      have CM := Lib.hid cM
      have CF := Lib.hid cF
      clear cM cF e1 e2 hm hp
      unfold mpV ptV at *
      dsimp only at *
      go_enter Try.func6, Try.ntmps6
      go_wp2_with first
        | (go_at_call 8; with_reducible refine Calls.mono (CM.out _) ?_; rintro e w1 ⟨rfl, b1⟩
           have z2 := HK.out.2.1.below b1 HK.out.2.1.lt
           obtain ⟨⟨q0, q1⟩, -⟩ := Box.pair z2)
        | (go_at_call 10; with_reducible refine Calls.mono (CF.out _) ?_; rintro e w2 ⟨rfl, b2⟩
           have b12 := b1.trans (b2.mono b1.size)
           have z3 := HK.out.2.2.1.below b12 HK.out.2.2.1.lt
           obtain ⟨⟨r0, r1⟩, r2, r3⟩ := Box.pair z3)
        | (rw [hW])
      obtain ⟨U, hU, kU, ⟨u0, u1⟩, bU⟩ := z3.stored2 (.int .i64 0) (.int .i64 0)
      have hB := (HK.out.2.2.2.1.trans (b12.mono HK.out.2.2.2.1.size)).trans (bU w.heap.size (by omega))
      try rw [hU]
      exact bodyPost_ret (by simp [results, Try.results6, go_sem, u0, u1]) rfl ⟨rfl, hB⟩
  · rw [decide_eq_false hm] at cM
    obtain ⟨e1, e2⟩ := apply_arg (p := ⟨x, y⟩) hm
    rw [e1, e2]
    have CM := Lib.hid cM
    clear cM cF e1 e2 hm
    unfold mpV ptV at *
    dsimp only at *
    go_enter Try.func6, Try.ntmps6
    go_wp2_with first
      | (go_at_call 8; with_reducible refine Calls.mono (CM.out _) ?_; rintro e w1 ⟨rfl, b1⟩
         have z3 := HK.out.2.2.1.below b1 HK.out.2.2.1.lt
         obtain ⟨⟨r0, r1⟩, r2, r3⟩ := Box.pair z3)
      | (rw [hW])
    obtain ⟨U, hU, kU, ⟨u0, u1⟩, bU⟩ := z3.stored2 (.int .i64 0) (.int .i64 0)
    have hB := (HK.out.2.2.2.1.trans (b1.mono HK.out.2.2.2.1.size)).trans (bU w.heap.size (by omega))
    try rw [hU]
    exact bodyPost_ret (by simp [results, Try.results6, go_sem, u0, u1]) rfl ⟨rfl, hB⟩
end Go.Proofs.Ytemipepahglndaa
/- Maps of the plane: the program's own Same, Det, Flat; that a point goes anywhere. -/

namespace Go.Proofs.Ytemipepahglndaa
open Go.RowKit

def detF (m : Mp) : Int := if MayM m then detM m else 0
theorem may_mul {a d : Int} (h : MayF a) (k : MayF d) : -1073741824 ≤ a * d ∧ a * d ≤ 1073741824 := by
  have := mul_bound (A := 32768) (X := 32768) h k
  omega

set_option maxRecDepth 10000 in
theorem aff_Same (w : World) :
    Calls Try.prog 20 #[] w fun e w' => e = .returned (mpV ⟨256, 0, 0, 256, 0, 0⟩) ∧ Below w.heap.size w w' := by
  obtain ⟨W, hW, k, B0⟩ : ∃ W, w.alloc (.cells #[.int .i64 0, .int .i64 0, .int .i64 0, .int .i64 0, .int .i64 0, .int .i64 0] 23) = W ∧ Box W w.heap.size 23 [.int .i64 0, .int .i64 0, .int .i64 0, .int .i64 0, .int .i64 0, .int .i64 0] ∧ Below w.heap.size w W := ⟨_, rfl, Box.new w _ [.int .i64 0, .int .i64 0, .int .i64 0, .int .i64 0, .int .i64 0, .int .i64 0], (Below.refl _ _).alloc (Nat.le_refl _) _⟩
  obtain ⟨p0, p1, p2, p3, p4, p5⟩ := Box.six k
  have f0 := k.frozen 0
  have f1 := k.frozen 1
  have f2 := k.frozen 2
  have f3 := k.frozen 3
  have f4 := k.frozen 4
  have f5 := k.frozen 5
  obtain ⟨U, hU, kU, bU⟩ : ∃ U, (((((W.setCell ⟨w.heap.size, 0, none⟩ (.int .i64 256)).setCell ⟨w.heap.size, 1, none⟩ (.int .i64 0)).setCell ⟨w.heap.size, 2, none⟩ (.int .i64 0)).setCell ⟨w.heap.size, 3, none⟩ (.int .i64 256)).setCell ⟨w.heap.size, 4, none⟩ (.int .i64 0)).setCell ⟨w.heap.size, 5, none⟩ (.int .i64 0) = U ∧ Box U w.heap.size 23 [.int .i64 256, .int .i64 0, .int .i64 0, .int .i64 256, .int .i64 0, .int .i64 0] ∧ Below w.heap.size w U :=
    ⟨_, rfl, (((((k.set 0 _).set 1 _).set 2 _).set 3 _).set 4 _).set 5 _, (((((B0.setCell (p := ⟨w.heap.size, 0, none⟩) (Nat.le_refl _) _).setCell (p := ⟨w.heap.size, 1, none⟩) (Nat.le_refl _) _).setCell (p := ⟨w.heap.size, 2, none⟩) (Nat.le_refl _) _).setCell (p := ⟨w.heap.size, 3, none⟩) (Nat.le_refl _) _).setCell (p := ⟨w.heap.size, 4, none⟩) (Nat.le_refl _) _).setCell (p := ⟨w.heap.size, 5, none⟩) (Nat.le_refl _) _⟩
  obtain ⟨u0, u1, u2, u3, u4, u5⟩ := Box.six kU
  have HB := Lib.hid bU
  have HU := Lib.hid hU
  clear k B0 kU bU hU
  unfold mpV
  dsimp only
  go_enter Try.func20, Try.ntmps20
  go_wp2_with (rw [hW])
  try rw [HU.out]
  exact bodyPost_ret (by simp [results, Try.results20, go_sem, u0, u1, u2, u3, u4, u5]) rfl ⟨rfl, HB.out⟩

set_option maxRecDepth 10000 in
set_option maxHeartbeats 1600000 in
theorem aff_Det (m : Mp) (w : World) :
    Calls Try.prog 12 #[mpV m] w fun e w' => e = .returned (.int .i64 (detF m)) ∧ Below w.heap.size w w' := by
  obtain ⟨a, b, c, d, e, f⟩ := m
  obtain ⟨W, hW, k, B0⟩ : ∃ W, w.alloc (.cells #[.int .i64 a, .int .i64 b, .int .i64 c, .int .i64 d, .int .i64 e, .int .i64 f] 23) = W ∧ Box W w.heap.size 23 [.int .i64 a, .int .i64 b, .int .i64 c, .int .i64 d, .int .i64 e, .int .i64 f] ∧ Below w.heap.size w W := ⟨_, rfl, Box.new w _ [.int .i64 a, .int .i64 b, .int .i64 c, .int .i64 d, .int .i64 e, .int .i64 f], (Below.refl _ _).alloc (Nat.le_refl _) _⟩
  obtain ⟨p0, p1, p2, p3, p4, p5⟩ := Box.six k
  have cM := fun V => aff_May ⟨a, b, c, d, e, f⟩ V
  have HK := Lib.hid (And.intro k B0)
  clear k B0
  by_cases hm : MayM ⟨a, b, c, d, e, f⟩
  · rw [decide_eq_true hm] at cM
    have hr : detF ⟨a, b, c, d, e, f⟩ = a * d - b * c := by unfold detF; rw [if_pos hm]; rfl
    rw [hr]
    obtain ⟨b1, b2⟩ := may_mul hm.1 hm.2.2.2.1
    obtain ⟨b3, b4⟩ := may_mul hm.2.1 hm.2.2.1
    dsimp only at b1 b2 b3 b4
    obtain ⟨u, hu⟩ : ∃ u, a * d = u := ⟨_, rfl⟩
    obtain ⟨v, hv⟩ : ∃ u, b * c = u := ⟨_, rfl⟩
    rw [hu] at b1 b2
    rw [hv] at b3 b4
    rw [hu, hv]
    have w1 : IntKind.i64.wrap u = u := IntWalk.i64_in _ (by omega)
    have w2 : IntKind.i64.wrap v = v := IntWalk.i64_in _ (by omega)
    have CM := Lib.hid cM
    clear cM hr hm
    unfold mpV at *
    dsimp only at *
    go_enter Try.func12, Try.ntmps12
    go_wp2_with first
      | (go_at_call 8; with_reducible refine Calls.mono (CM.out _) ?_; rintro e w1 ⟨rfl, b1⟩
         obtain ⟨p0, p1, p2, p3, p4, p5⟩ := Box.six (HK.out.1.below b1 HK.out.1.lt))
      | (rw [hW])
    go_ret
    exact ⟨rfl, HK.out.2.trans (b1.mono HK.out.2.size)⟩
  · rw [decide_eq_false hm] at cM
    have hr : detF ⟨a, b, c, d, e, f⟩ = 0 := if_neg hm
    rw [hr]
    have CM := Lib.hid cM
    clear cM hr hm
    unfold mpV at *
    dsimp only at *
    go_enter Try.func12, Try.ntmps12
    go_wp2_with first
      | (go_at_call 8; with_reducible refine Calls.mono (CM.out _) ?_; rintro e w1 ⟨rfl, b1⟩)
      | (rw [hW])
    go_ret
    exact ⟨rfl, HK.out.2.trans (b1.mono HK.out.2.size)⟩

set_option maxRecDepth 10000 in
theorem aff_Flat (m : Mp) (w : World) :
    Calls Try.prog 13 #[mpV m] w fun e w' => e = .returned (.bool (decide (detF m = 0))) ∧ Below w.heap.size w w' := by
  obtain ⟨a, b, c, d, e, f⟩ := m
  obtain ⟨W, hW, k, B0⟩ : ∃ W, w.alloc (.cells #[.int .i64 a, .int .i64 b, .int .i64 c, .int .i64 d, .int .i64 e, .int .i64 f] 23) = W ∧ Box W w.heap.size 23 [.int .i64 a, .int .i64 b, .int .i64 c, .int .i64 d, .int .i64 e, .int .i64 f] ∧ Below w.heap.size w W := ⟨_, rfl, Box.new w _ [.int .i64 a, .int .i64 b, .int .i64 c, .int .i64 d, .int .i64 e, .int .i64 f], (Below.refl _ _).alloc (Nat.le_refl _) _⟩
  obtain ⟨p0, p1, p2, p3, p4, p5⟩ := Box.six k
  have cD := fun V => aff_Det ⟨a, b, c, d, e, f⟩ V
  have HK := Lib.hid B0
  obtain ⟨z, hz⟩ : ∃ z, detF ⟨a, b, c, d, e, f⟩ = z := ⟨_, rfl⟩
  rw [hz] at cD ⊢
  have CD := Lib.hid cD
  clear k B0 cD hz
  unfold mpV at *
  dsimp only at *
  by_cases h : z = 0
  all_goals
    have HZ := Lib.hid h
    go_enter Try.func13, Try.ntmps13
    go_wp2_with first
      | (go_at_call 12; with_reducible refine Calls.mono (CD.out _) ?_; rintro e w1 ⟨rfl, b1⟩)
      | (rw [hW])
    go_ret
    exact ⟨by simp [HZ.out], HK.out.trans (b1.mono HK.out.size)⟩

set_option maxRecDepth 10000 in
theorem law10_lives (w : World) :
    Calls Try.prog 14 #[] w fun e w' => e = .returned (.bool true) ∧ Below w.heap.size w w' := by
  have c := fun V => aff_Apply ⟨512, 0, 0, 512, 5, 0⟩ ⟨3, 4⟩ V
  have e1 : applyP ⟨512, 0, 0, 512, 5, 0⟩ ⟨3, 4⟩ = ⟨11, 8⟩ := by decide
  have e2 : applyE ⟨512, 0, 0, 512, 5, 0⟩ ⟨3, 4⟩ = 0 := by decide
  rw [e1, e2] at c
  unfold mpV ptV at c
  dsimp only at c
  have C := Lib.hid c
  clear c e1 e2
  go_enter Try.func14, Try.ntmps14
  go_wp2_with first
    | (go_at_call 6; with_reducible refine Calls.mono (C.out _) ?_; rintro e w1 ⟨rfl, b1⟩)
  go_ret
  exact ⟨rfl, b1.alloc b1.size _⟩
end Go.Proofs.Ytemipepahglndaa
