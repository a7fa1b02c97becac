/- Maps of the plane: the document's own Through. -/
import Derived.Test.YtemipepahglndaaZAfX
import Derived.Test.YtemipepahglndaaZAfW
import Derived.Deep.RegionHeld3
import Derived.Test.YtemipepahglndaaZFgY
import Derived.Laws.AppendOwn
import Derived.Laws.OwnMore
namespace Go.Proofs.Ytemipepahglndaa
open Go.RowKit

section
variable {W V V' : World} {s g o : Nat} {a b c d e f x y : Value}
/-- the cells that a round reads: an element of the row, and the point's box -/
theorem onMP (hg : g < W.heap.size) (hs : s < W.heap.size) (h : (W.cell? ⟨g, o, none⟩ = some a ∧ W.cell? ⟨g, o + 1, none⟩ = some b ∧ W.cell? ⟨g, o + 2, none⟩ = some c ∧ W.cell? ⟨g, o + 3, none⟩ = some d ∧ W.cell? ⟨g, o + 4, none⟩ = some e ∧ W.cell? ⟨g, o + 5, none⟩ = some f) ∧ W.cell? ⟨s, 0, none⟩ = some x ∧ W.cell? ⟨s, 1, none⟩ = some y) (hb : Below W.heap.size W V) :
    (V.cell? ⟨g, o, none⟩ = some a ∧ V.cell? ⟨g, o + 1, none⟩ = some b ∧ V.cell? ⟨g, o + 2, none⟩ = some c ∧ V.cell? ⟨g, o + 3, none⟩ = some d ∧ V.cell? ⟨g, o + 4, none⟩ = some e ∧ V.cell? ⟨g, o + 5, none⟩ = some f) ∧ V.cell? ⟨s, 0, none⟩ = some x ∧ V.cell? ⟨s, 1, none⟩ = some y := by
  obtain ⟨⟨h1, h2, h3, h4, h5, h6⟩, h7, h8⟩ := h
  exact ⟨⟨(hb.cell (p := ⟨g, o, none⟩) hg).trans h1, (hb.cell (p := ⟨g, o + 1, none⟩) hg).trans h2, (hb.cell (p := ⟨g, o + 2, none⟩) hg).trans h3, (hb.cell (p := ⟨g, o + 3, none⟩) hg).trans h4, (hb.cell (p := ⟨g, o + 4, none⟩) hg).trans h5, (hb.cell (p := ⟨g, o + 5, none⟩) hg).trans h6⟩, (hb.cell (p := ⟨s, 0, none⟩) hs).trans h7, (hb.cell (p := ⟨s, 1, none⟩) hs).trans h8⟩
end
/-- the boxes of the document's Through -/
theorem th_boxes2 (x y : Int) (w : World) : ∃ W, (w.alloc (.cells #[.int .i64 x, .int .i64 y] 25)).alloc (.cells #[.int .i64 0, .int .i64 0] 25) = W ∧
    Box W w.heap.size 25 [.int .i64 x, .int .i64 y] ∧ Box W (w.heap.size + 1) 25 [.int .i64 0, .int .i64 0] ∧ Below w.heap.size w W ∧ w.heap.size + 2 ≤ W.heap.size := by
  refine ⟨_, rfl, (Box.new w _ [.int .i64 x, .int .i64 y]).alloc _, Box.at_new (w.alloc (.cells #[.int .i64 x, .int .i64 y] 25)) _ [.int .i64 0, .int .i64 0] (by simp), ?_, by simp⟩
  exact ((Below.refl _ w).alloc (Nat.le_refl _) _).alloc (by simp) _

set_option maxRecDepth 10000 in
set_option maxHeartbeats 6400000 in
theorem ref10_Through (L : List Mp) (A : Option Addr) (c : Nat) (p : Pt) (w : World) (hL : RdV w w.heap.size A (mpRow L)) (hm : L.length ≤ 4611686018427387904) :
    Calls Try.prog 18 #[.slice A L.length c, ptV p] w fun e w' => e = .returned (.tuple #[ptV (throughM L p).1, .int .i64 (throughM L p).2]) ∧ Below w.heap.size w w' := by
  obtain ⟨px, py⟩ := p
  obtain ⟨W, hW, k0, k1, B0, hz⟩ := th_boxes2 px py w
  obtain ⟨X0, Y0, E0, hR⟩ : ∃ X Y E, throughR L.reverse ⟨px, py⟩ = (⟨X, Y⟩, E) := ⟨_, _, _, rfl⟩
  unfold throughM
  rw [hR]
  obtain ⟨n, hn⟩ : ∃ n, L.length = n := ⟨_, rfl⟩
  have HL := Lib.hid hn
  rw [hn]
  rw [hn] at hm
  have HR := Lib.hid (show throughR (L.take n).reverse ⟨px, py⟩ = (⟨X0, Y0⟩, E0) by rw [← hn, List.take_length]; exact hR)
  have hn1 : IntKind.i64.wrap ((n : Int) - 1) = (n : Int) - 1 := IntWalk.i64_in _ (by omega)
  clear hn hR
  unfold ptV
  dsimp only
  go_enter Try.func18, Try.ntmps18
  go_wp2_with (rw [hW])
  try rw [hW]
  clear hW
  go_loopg [6] n (fun gh it wr => ∃ x y : Int, it = .int .i64 ((gh : Int) - 1) ∧ gh ≤ n ∧ throughR (L.take gh).reverse ⟨x, y⟩ = (⟨X0, Y0⟩, E0) ∧ Box wr w.heap.size 25 [.int .i64 x, .int .i64 y] ∧ Box wr (w.heap.size + 1) 25 [.int .i64 0, .int .i64 0] ∧ Below w.heap.size w wr)
  case atStart => exact ⟨px, py, rfl, Nat.le_refl _, HR.out, k0, k1, B0⟩
  case round =>
    obtain ⟨x, y, rfl, hgn, hth, c0, c1, hB⟩ := hrel
    cases gk with
    | zero =>
      have hth2 : ((⟨x, y⟩ : Pt), (0 : Int)) = (⟨X0, Y0⟩, E0) := by simpa [throughR] using hth
      obtain ⟨⟨rfl, rfl⟩, rfl⟩ : (x = X0 ∧ y = Y0) ∧ 0 = E0 := by simpa using hth2
      clear hth hth2
      obtain ⟨⟨q0, q1⟩, -⟩ := Box.pair c0
      obtain ⟨⟨r0, r1⟩, r2, r3⟩ := Box.pair c1
      have HB := Lib.hid (And.intro hB c1)
      clear hB c0 c1
      go_wp2_with fail
      obtain ⟨U, hU, kU, ⟨u0, u1⟩, bU⟩ := HB.out.2.stored2 (.int .i64 x) (.int .i64 y)
      have hBB := HB.out.1.trans (bU w.heap.size (by omega))
      try rw [hU]
      exact bodyPost_ret (by simp [results, Try.results18, go_sem, u0, u1]) rfl ⟨rfl, hBB⟩
    | succ j =>
      have hj : j < L.length := by rw [HL.out]; omega
      obtain ⟨g, o, rfl, hg, g0, g1, g2, g3, g4, g5⟩ := (hL.below hB).mp hj
      obtain ⟨m, hmm⟩ : ∃ m, L[j] = m := ⟨_, rfl⟩
      rw [through_last hj, hmm] at hth
      rw [hmm] at g0 g1 g2 g3 g4 g5
      have e1 : (((j + 1 : Nat) : Int) - 1) = (j : Int) := by omega
      rw [e1]
      have hi : (j : Int) < (n : Int) := by omega
      have hwj : IntKind.i64.wrap (j : Int) = (j : Int) := IntWalk.i64_in _ (by omega)
      have hwk : IntKind.i64.wrap ((j : Int) - 1) = (j : Int) - 1 := IntWalk.i64_in _ (by omega)
      obtain ⟨X, Y, hXY⟩ : ∃ X Y, applyP m ⟨x, y⟩ = ⟨X, Y⟩ := ⟨_, _, rfl⟩
      obtain ⟨E, hE⟩ : ∃ E, applyE m ⟨x, y⟩ = E := ⟨_, rfl⟩
      have cA := fun V => ref10_Apply m ⟨x, y⟩ V
      rw [hXY, hE] at cA hth
      obtain ⟨m0, m1, m2, m3, m4, m5⟩ := m
      have hsz := hB.size
      have hg1 : g < wr.heap.size := Nat.lt_of_lt_of_le hg hsz
      have hs1 : w.heap.size < wr.heap.size := c0.lt
      obtain ⟨⟨q0, q1⟩, -⟩ := Box.pair c0
      have HK := Lib.hid (And.intro hB (And.intro c0 c1))
      unfold mpV ptV at cA
      dsimp only at cA g0 g1 g2 g3 g4 g5
      have HT := Lib.hid hth
      have HA := Lib.hid cA
      have HC := Lib.hid (fun V (hb : Below wr.heap.size wr V) => And.intro (onMP hg1 hs1 ⟨⟨g0, g1, g2, g3, g4, g5⟩, q0, q1⟩ hb) hb)
      have HP := Lib.hid (HC.out wr.drew (Below.refl _ _).drew)
      have hn0 : w.heap.size ≤ wr.heap.size := hsz
      clear hth cA hXY hE hmm hB c0 c1 hsz e1 hj hn1 hg
      go_wp2_with fail
      go_region_held3 (fun w' => ((w'.cell? ⟨g, o + j * 6, none⟩ = some (.int .i64 m0) ∧ w'.cell? ⟨g, o + j * 6 + 1, none⟩ = some (.int .i64 m1) ∧ w'.cell? ⟨g, o + j * 6 + 2, none⟩ = some (.int .i64 m2) ∧ w'.cell? ⟨g, o + j * 6 + 3, none⟩ = some (.int .i64 m3) ∧ w'.cell? ⟨g, o + j * 6 + 4, none⟩ = some (.int .i64 m4) ∧ w'.cell? ⟨g, o + j * 6 + 5, none⟩ = some (.int .i64 m5)) ∧ w'.cell? ⟨w.heap.size, 0, none⟩ = some (.int .i64 x) ∧ w'.cell? ⟨w.heap.size, 1, none⟩ = some (.int .i64 y)) ∧ Below wr.heap.size wr w')
        (first
          | (with_reducible exact HP.out)
          | (with_reducible exact HC.out _ (below_on (low3 (by assumption)) (low3 (by assumption)).size b9))
          | (with_reducible exact HC.out _ ((low3 (by assumption)).alloc (low3 (by assumption)).size _))
          | (with_reducible exact HC.out _ ((below_on (low3 HP.out) (low3 HP.out).size b9).alloc s9 _))
          | (with_reducible exact HC.out _ (((low3 (by assumption)).setCell (p := ⟨_, 0, none⟩) (Nat.le_refl _) _).setCell (p := ⟨_, 1, none⟩) (Nat.le_refl _) _)))
        ((first
          | (go_at_call 7; (with_reducible refine Calls.mono (HA.out _) ?_); rintro e w9 ⟨rfl, b9⟩; (have s9 : wr.heap.size ≤ w9.heap.size := by (have z9 := b9.size; (try simp at z9); first | omega | exact z9)); (try (have kb := fresh2d b9; obtain ⟨⟨i0, i1⟩, i2, i3⟩ := Box.pair kb)))))
      all_goals
        rename_i hHeld
        obtain ⟨-, hBV⟩ := hHeld
        first
          | (obtain ⟨V, hV, kV, -, -⟩ := kb.stored2 (.int .i64 X) (.int .i64 Y); rw [hV] at hBV ⊢; clear kb hV)
          | (obtain ⟨V, hV, kV, -⟩ := endP w9 25 (.int .i64 X) (.int .i64 Y); rw [hV] at hBV ⊢; clear hV)
        obtain ⟨⟨x0, x1⟩, -⟩ := Box.pair kV
        have kp := HK.out.2.1.below hBV HK.out.2.1.lt
        have kr := HK.out.2.2.below hBV HK.out.2.2.lt
        obtain ⟨⟨y0, y1⟩, y2, y3⟩ := Box.pair kp
        obtain ⟨⟨r0, r1⟩, r2, r3⟩ := Box.pair kr
        have HV := Lib.hid (And.intro kp (And.intro kr (HK.out.1.trans (hBV.mono hn0))))
        clear kV kp kr hBV
        by_cases hE0 : E = 0
        · have hT := HT.out
          rw [if_pos hE0] at hT
          replace hT := Lib.hid hT
          subst hE0
          go_wp2_with fail
          go_roundg j
          case measure => omega
          case rel => exact ⟨X, Y, rfl, by omega, hT.out, (HV.out.1.set 0 _).set 1 _, (HV.out.2.1.far (by simp) _).far (by simp) _, (HV.out.2.2.setCell (p := ⟨w.heap.size, 0, none⟩) (Nat.le_refl _) _).setCell (p := ⟨w.heap.size, 1, none⟩) (Nat.le_refl _) _⟩
        · have hE1 : (E == 0) = false := by simpa using hE0
          have hT := HT.out
          rw [if_neg hE0] at hT
          obtain ⟨⟨rfl, rfl⟩, rfl⟩ : (0 = X0 ∧ 0 = Y0) ∧ E = E0 := by simpa [pt0] using hT
          clear hT
          go_wp2_with fail
          obtain ⟨U, hU, kU, ⟨u0, u1⟩, bU⟩ := HV.out.2.1.stored2 (.int .i64 0) (.int .i64 0)
          have hBB := HV.out.2.2.trans (bU w.heap.size (by omega))
          try rw [hU]
          exact bodyPost_ret (by simp [results, Try.results18, go_sem, u0, u1]) rfl ⟨rfl, hBB⟩
end Go.Proofs.Ytemipepahglndaa
/- Maps of the plane: the document's own All and Same. -/

namespace Go.Proofs.Ytemipepahglndaa
open Go.RowKit

theorem allM_ok {L : List Mp} : ∀ {l : List Pt}, (∀ p ∈ l, (throughM L p).2 = 0) → allM L l = (l.map fun p => (throughM L p).1, 0)
  | [], _ => rfl
  | p :: l, h => by
    have h1 := allM_ok (l := l) (fun q hq => h q (List.mem_cons_of_mem _ hq))
    simp only [allM, if_pos (h p List.mem_cons_self), h1, if_pos, List.map_cons]
theorem allM_err {L : List Mp} : ∀ {l : List Pt} {i : Nat} (hi : i < l.length), (∀ p ∈ l.take i, (throughM L p).2 = 0) → (throughM L l[i]).2 ≠ 0 → allM L l = ([], (throughM L l[i]).2)
  | [], i, hi, _, _ => absurd hi (by simp)
  | p :: l, 0, _, _, h2 => by
    simp only [List.getElem_cons_zero] at h2 ⊢
    simp only [allM, if_neg h2]
  | p :: l, i + 1, hi, h1, h2 => by
    simp only [List.getElem_cons_succ] at h2 ⊢
    have h3 := allM_err (l := l) (i := i) (by simp at hi; omega) (fun q hq => h1 q (by simp [hq])) h2
    simp only [allM, if_pos (h1 p (by simp)), h3, if_neg h2]
theorem oks_step {L : List Mp} {l : List Pt} {i : Nat} (hi : i < l.length) (h : ∀ p ∈ l.take i, (throughM L p).2 = 0) (h2 : (throughM L l[i]).2 = 0) : ∀ p ∈ l.take (i + 1), (throughM L p).2 = 0 := by
  intro p hp
  rw [List.take_succ_eq_append_getElem hi, List.mem_append] at hp
  rcases hp with hp | hp
  · exact h p hp
  · simp at hp; subst hp; exact h2
/-- what has come of the first i points -/
def gone (L : List Mp) (l : List Pt) (i : Nat) : List Pt := (l.take i).map fun p => (throughM L p).1
theorem gone_length {L : List Mp} {l : List Pt} {i : Nat} (h : i ≤ l.length) : (gone L l i).length = i := by simp [gone]; omega
theorem gone_step {L : List Mp} {l : List Pt} {i : Nat} (hi : i < l.length) : gone L l (i + 1) = gone L l i ++ [(throughM L l[i]).1] := by
  unfold gone
  rw [List.take_succ_eq_append_getElem hi, List.map_append]
  rfl
theorem gone_all {L : List Mp} {l : List Pt} (h : ∀ p ∈ l.take l.length, (throughM L p).2 = 0) : allM L l = (gone L l l.length, 0) := by
  rw [List.take_length] at h
  rw [allM_ok h]
  simp [gone]
theorem below_grow2 {B k : Nat} {a w w' : World} {e : TypeId} {v : Value} {n : Nat} {xs : List Value} (h : Below B a w) (ho : w.ownsRow B e k v n xs) (hs : B ≤ w.heap.size) (hg : w.grownBy w' v.ownBlock) : Below B a w' :=
  h.grown hg hs (fun q e => (ho.lt q e).1)
theorem own_below {w w' : World} {base k : Nat} {e : TypeId} {v : Value} {n : Nat} {xs : List Value} (h : w.ownsRow base e k v n xs) (hb : Below w.heap.size w w') : w'.ownsRow base e k v n xs := by
  refine ⟨h.1, ?_⟩
  rcases h.2 with hn | ⟨g, cap, cur, rfl, hbg, hg, rest⟩
  · exact .inl hn
  · exact .inr ⟨g, cap, cur, rfl, hbg, (hb.block g (Array.getElem?_eq_some_iff.1 hg).1).trans hg, rest⟩
theorem two_new (w : World) (t : TypeId) (a b : Value) : ∀ j u, [a, b][j]? = some u → (w.alloc (.cells #[a, b] t)).cell? ((⟨w.heap.size, 0, none⟩ : Addr).add j) = some u := by
  intro j u hj
  rw [addr_add, Nat.zero_add]
  exact (Box.new w t [a, b]).cell j hj
theorem info_pt : (Try.prog.info? 25).map (fun i => (i.zero, i.size, i.bytes)) = some (some (.agg #[.int .i64 0, .int .i64 0]), 2, 16) := by kernel_rfl
theorem pt_step {a b : List Pt} {i : Nat} (h : a.take i = b.take i) (ha : i < a.length) (hb : i < b.length) (he : a[i] = b[i]) : a.take (i + 1) = b.take (i + 1) := by
  rw [List.take_succ_eq_append_getElem ha, List.take_succ_eq_append_getElem hb, h, he]
theorem pt_not {a b : List Pt} {i : Nat} (ha : i < a.length) (hb : i < b.length) (he : ¬ a[i] = b[i]) : ¬ a = b := fun e => he (by subst e; rfl)
theorem pt_end {a b : List Pt} {n : Nat} (h : a.take n = b.take n) (ha : a.length = n) (hb : b.length = n) : a = b := by
  rw [List.take_of_length_le (by omega), List.take_of_length_le (by omega)] at h; exact h

set_option maxRecDepth 10000 in
set_option maxHeartbeats 1600000 in
theorem ref10_Same (A B : Option Addr) (c d : Nat) (a b : List Pt) (w : World) (ha : RdV w w.heap.size A (ptRow a)) (hb : RdV w w.heap.size B (ptRow b)) (hl : a.length ≤ 4611686018427387904) :
    Calls Try.prog 19 #[.slice A a.length c, .slice B b.length d] w (TellsIt (a = b) w) := by
  by_cases hab : a.length = b.length
  · obtain ⟨n, hn⟩ : ∃ n, a.length = n := ⟨_, rfl⟩
    have HA := Lib.hid hn
    have HB := Lib.hid (hab.symm.trans hn)
    rw [← hab, hn]
    rw [hn] at hl
    have HR := Lib.hid (And.intro ha hb)
    clear hab hn ha hb
    go_enter Try.func19, Try.ntmps19
    go_wp2_with fail
    go_loopg [5] n (fun gh it wr => ∃ i : Nat, it = .int .i64 (i : Int) ∧ gh + i = n ∧ a.take i = b.take i ∧ Below w.heap.size w wr)
    case atStart => exact ⟨0, rfl, by omega, rfl, Below.refl _ _⟩
    case round =>
      obtain ⟨i, rfl, hg, hs, hB⟩ := hrel
      by_cases hlt : i < n
      · obtain ⟨g, o, rfl, _, e0, e1⟩ := (HR.out.1.below hB).pt (i := i) (by rw [HA.out]; exact hlt)
        obtain ⟨g', o', rfl, _, e0', e1'⟩ := (HR.out.2.below hB).pt (i := i) (by rw [HB.out]; exact hlt)
        have HS := Lib.hid (And.intro hs hB)
        have HNX := Lib.hid (pt_step hs (by rw [HA.out]; exact hlt) (by rw [HB.out]; exact hlt))
        have HNO := Lib.hid (pt_not (a := a) (b := b) (i := i) (by rw [HA.out]; exact hlt) (by rw [HB.out]; exact hlt))
        obtain ⟨x, hx⟩ : ∃ x, a[i]'(by rw [HA.out]; exact hlt) = x := ⟨_, rfl⟩
        obtain ⟨y, hy⟩ : ∃ y, b[i]'(by rw [HB.out]; exact hlt) = y := ⟨_, rfl⟩
        rw [hx] at e0 e1 HNX HNO
        rw [hy] at e0' e1' HNX HNO
        clear hs hB hx hy
        have hil : (i : Int) < (n : Int) := by omega
        obtain ⟨x0, x1⟩ := x
        obtain ⟨y0, y1⟩ := y
        dsimp only at e0 e1 e0' e1'
        by_cases r0 : x0 = y0
        · subst r0
          by_cases r1 : x1 = y1
          · subst r1
            have HX := Lib.hid (HNX.out rfl)
            clear HNX HNO
            go_wp2_with fail
            go_quiet (fail)
            go_wp2_with fail
            go_roundg (n - (i + 1))
            case measure => omega
            case rel => exact ⟨i + 1, by simp, by omega, HX.out, below_figE HS.out.2 nq⟩
          · go_wp2_with fail
            go_quiet (fail)
            go_wp2_with fail
            go_ret
            exact ⟨⟨false, rfl, by simp [HNO.out (fun e => r1 (congrArg Pt.y e))]⟩, below_figE HS.out.2 nq⟩
        · go_wp2_with fail
          go_quiet (fail)
          go_wp2_with fail
          go_ret
          exact ⟨⟨false, rfl, by simp [HNO.out (fun e => r0 (congrArg Pt.x e))]⟩, below_figE HS.out.2 nq⟩
      · obtain rfl : i = n := by omega
        have HE := Lib.hid (And.intro (pt_end hs HA.out HB.out) hB)
        clear hs hB
        go_wp2_with fail
        go_ret
        exact ⟨⟨true, rfl, by simp [HE.out.1]⟩, HE.out.2⟩
  · have HN := Lib.hid (show ¬ a = b from fun e => hab (by rw [e]))
    have hab' : ¬ (a.length : Int) = (b.length : Int) := by omega
    go_enter Try.func19, Try.ntmps19
    go_wp2_with fail
    go_ret
    exact ⟨⟨false, rfl, by simp [HN.out]⟩, Below.refl _ _⟩

set_option maxRecDepth 10000 in
set_option maxHeartbeats 3200000 in
theorem ref10_All (L : List Mp) (A : Option Addr) (c : Nat) (ps : List Pt) (B : Option Addr) (d : Nat) (w : World) (hL : RdV w w.heap.size A (mpRow L)) (hm : L.length ≤ 4611686018427387904) (hP : RdV w w.heap.size B (ptRow ps)) (hp : ps.length ≤ 8796093022208) :
    Calls Try.prog 16 #[.slice A L.length c, .slice B ps.length d] w fun e w' => (∃ q k, e = .returned (.tuple #[.slice q (allM L ps).1.length k, .int .i64 (allM L ps).2]) ∧ RdV w' w'.heap.size q (ptRow (allM L ps).1)) ∧ Below w.heap.size w w' := by
  obtain ⟨n, hn⟩ : ∃ n, ps.length = n := ⟨_, rfl⟩
  obtain ⟨nl, hnl⟩ : ∃ n, L.length = n := ⟨_, rfl⟩
  have HN := Lib.hid hn
  have HL := Lib.hid hL
  have HP := Lib.hid hP
  obtain ⟨i0, hi, hz0, hz1, hz2⟩ := info_parts info_pt
  have cT := fun (p : Pt) (V : World) (h : RdV V V.heap.size A (mpRow L)) => ref10_Through L A c p V h hm
  have HM := Lib.hid hm
  rw [hnl] at cT
  rw [hn, hnl]
  rw [hn] at hp
  have CT := Lib.hid cT
  clear cT hn hL hP hnl hm
  go_enter Try.func16, Try.ntmps16
  go_wp2_with fail
  go_loopg [6, 7] n (fun gh v it wr => ∃ i : Nat, it = .int .i64 (i : Int) ∧ gh + i = n ∧ (∀ p ∈ ps.take i, (throughM L p).2 = 0) ∧ wr.ownsRow w.heap.size 25 2 v i (ptRow (gone L ps i)) ∧ Below w.heap.size w wr)
  case atStart => exact ⟨0, rfl, by omega, by simp, by simpa [gone, ptRow] using World.ownsRow_nil w w.heap.size 25 2, Below.refl _ _⟩
  case round =>
    obtain ⟨i, rfl, hg, hok, hown, hB⟩ := hrel
    by_cases hlt : i < n
    · have hlt' : i < ps.length := by rw [HN.out]; exact hlt
      obtain ⟨g, o, rfl, hgl, e0, e1⟩ := (HP.out.below hB).pt (i := i) hlt'
      have hil : (i : Int) < (n : Int) := by omega
      obtain ⟨p, hpp⟩ : ∃ p, ps[i] = p := ⟨_, rfl⟩
      have HST := Lib.hid (oks_step hlt' hok)
      have HGO := Lib.hid (gone_step (L := L) hlt')
      have HER := Lib.hid (allM_err hlt' hok)
      rw [hpp] at e0 e1 HST HGO HER
      have cA := fun (V : World) (h : Below w.heap.size w V) => CT.out p V ((HL.out.below h).mono h.size)
      obtain ⟨X, Y, hXY⟩ : ∃ X Y, (throughM L p).1 = ⟨X, Y⟩ := ⟨_, _, rfl⟩
      obtain ⟨E, hE⟩ : ∃ E, (throughM L p).2 = E := ⟨_, rfl⟩
      rw [hXY] at HGO
      rw [hE] at HST HER
      simp only [hXY, hE] at cA
      obtain ⟨x, y⟩ := p
      unfold ptV at cA
      dsimp only at e0 e1 cA
      have HA := Lib.hid cA
      have HO := Lib.hid (And.intro hown hB)
      clear hok hown hB cA hXY hE hpp hlt'
      by_cases hE0 : E = 0
      · subst hE0
        have HS := Lib.hid (HST.out rfl)
        clear HST HER
        go_wp2_with first
          | (go_at_call 18; with_reducible refine Calls.mono (HA.out _ HO.out.2) ?_; rintro e w1 ⟨rfl, b1⟩
             obtain ⟨V1, hV1, k1, c1⟩ := endP w1 25 (.int .i64 X) (.int .i64 Y)
             have bV := b1.trans (c1.mono b1.size)
             obtain ⟨⟨z0, z1⟩, -⟩ := Box.pair k1
             have HV := Lib.hid (And.intro (own_below HO.out.1 bV) (HO.out.2.trans (bV.mono HO.out.2.size)))
             clear b1 c1 bV k1)
          | (rw [hV1])
          | (at_builtin; refine wpList_append_own _ rfl _ _ 37 rfl w.heap.size 25 i0 (.agg #[.int .i64 0, .int .i64 0]) 2 16 Try.underlying37 hi hz0 hz1 hz2 rfl (by decide) _ i _ rfl (HV.out.1.alloc _) ⟨V1.heap.size, 0, none⟩ 1 1 [.int .i64 X, .int .i64 Y] rfl rfl (two_new _ _ _ _) (by simp [Value.oneCell']) (by simp [maxLen]; omega) (by omega) (by have h1 := HV.out.2.size; simp; omega) ?_; intro v' w3 hown' hgrow _; replace hown' := Lib.hid hown'; replace hgrow := Lib.hid hgrow)
        have hstep : w3.ownsRow w.heap.size 25 2 v' (i + 1) (ptRow (gone L ps (i + 1))) := by
          rw [HGO.out, ptRow_append]
          exact hown'.out
        have hBs := below_grow2 (HV.out.2.alloc HV.out.2.size (.cells #[.int .i64 X, .int .i64 Y] 25)) (HV.out.1.alloc _) (by have h1 := HV.out.2.size; simp; omega) hgrow.out
        go_roundg (n - (i + 1))
        case measure => omega
        case rel => exact ⟨i + 1, by simp, by omega, HS.out, hstep, hBs⟩
      · have hE1 : (E == 0) = false := by simpa using hE0
        have HS := Lib.hid (HER.out hE0)
        clear HST HER
        go_wp2_with first
          | (go_at_call 18; with_reducible refine Calls.mono (HA.out _ HO.out.2) ?_; rintro e w1 ⟨rfl, b1⟩
             obtain ⟨V1, hV1, k1, c1⟩ := endP w1 25 (.int .i64 X) (.int .i64 Y)
             have bV := b1.trans (c1.mono b1.size)
             have HV := Lib.hid (HO.out.2.trans (bV.mono HO.out.2.size))
             clear b1 c1 bV k1)
          | (rw [hV1])
        go_ret2
        rw [HS.out]
        exact ⟨⟨none, 0, rfl, RdV.nil _ _ _⟩, HV.out⟩
    · obtain rfl : i = n := by omega
      obtain ⟨q, k, rfl, hk, -, hr⟩ := RdV.ofOwnK hown
      have hall : allM L ps = (gone L ps i, 0) := by
        have := gone_all (L := L) (l := ps) (by rw [HN.out]; exact hok)
        rwa [HN.out] at this
      have HF := Lib.hid (And.intro hall (And.intro hr (And.intro hB (show (gone L ps i).length = i from gone_length (by rw [HN.out]; exact Nat.le_refl _)))))
      clear hok hown hr hB hall
      go_wp2_with fail
      go_ret2
      rw [HF.out.1]
      exact ⟨⟨q, k, by rw [HF.out.2.2.2]; rfl, HF.out.2.1⟩, HF.out.2.2.1⟩
end Go.Proofs.Ytemipepahglndaa
