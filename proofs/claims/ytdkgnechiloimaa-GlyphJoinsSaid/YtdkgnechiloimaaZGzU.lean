/- Letters, the program's own: Set. -/
import Derived.Test.YtdkgnechiloimaaZGzT
import Derived.Test.YtdkgnechiloimaaZGzS
import Derived.Test.YtdkgnechiloimaaZAgY
namespace Go.Proofs.Ytdkgnechiloimaa
open Go Go.RowKit Go.Shelf
attribute [local go_sem] Oper.semAt_some

theorem letters_stops (n : Nat) (hn : 3 ≤ n) (Bt Bf Bp n₀ Nb : Nat) (ρ : World → Option Nat) (hρ : AtBox Bp ρ) (L : List Glv) (A : Option Addr) (c : Nat) (s : ByteArray) (hm : s.size ≤ 4611686018427387904) (hm2 : L.length ≤ 4611686018427387904)
    (w : World) (hL : RdGlv w n₀ A L) (hn₀ : n₀ ≤ Nb) (hNb : Nb ≤ w.heap.size) (hBp : Bp < Nb) (hbt : Box w Bt 9 [.string s]) (hbf : Box w Bf 22 [.slice A L.length c]) (hNt : Nb ≤ Bt) (hNf : Nb ≤ Bf) (hr0 : ρ w = none) :
    SeqX Fence.wide n Try.prog 13 #[.pointer (some ⟨Bt, 0, none⟩), .pointer (some ⟨Bf, 0, none⟩)] (fun x : Lt => #[gvV x.1, .int .i64 x.2]) TG (OkL Nb ρ) (KpR n₀ Nb ρ)
      (fun ys => ys.map Lt.m = lettersM (L.map Glv.gl) s.data.toList) (fun pre => pre.map Lt.m <+: lettersM (L.map Glv.gl) s.data.toList) s.size w := fun l J Jx W hW hJ _ hY h0 =>
  letters1_in n hn l Bt Bf Bp n₀ Nb ρ hρ L A c s hm hm2 J Jx W (hL.below (hW.mono (by omega))) hn₀ (Nat.le_trans hNb hW.size) hBp (hbt.below hW hbt.lt) (hbf.below hW hbf.lt) hNt hNf ((hρ _ _ (hW.block Bp (by omega))).trans hr0) hJ hY h0
theorem TG.not_book {o : Obj} (h : TG o) : ¬ IsBook o := by
  rcases h with ⟨es, c, rfl⟩ | ⟨vs, f, rfl⟩
  · exact not_book_map
  · exact not_book_cells
theorem IsBook.not_cells {o : Obj} (h : IsBook o) : o.isCells = false := by
  rcases h with ⟨r, rfl⟩ | ⟨d, rfl⟩ <;> rfl
/-- blocks that hold no steps -/
def NoStep (o : Obj) : Prop := ∀ vs f, o ≠ .cells vs 49 f
theorem noStep_of {o : Obj} (h : IsBook o ∨ TG o) : NoStep o := by
  rintro vs f rfl
  rcases h with h | ⟨es, c, h⟩ | ⟨vs', f', h⟩
  · exact not_book_cells h
  · cases h
  · injection h with _ h2
    exact absurd h2 (by decide)
theorem PenS.turned {W W' : World} {g : Nat} {q : Pn} {x : Int} {v : Value} {out : List St} {row : Option Nat} (h : PenS W g q x v out) (hg : W.grownBy W' row) (hr : ∀ r, row = some r → r ≠ g ∧ ∃ o, W.heap[r]? = some o ∧ NoStep o) : PenS W' g q x v out := by
  refine ⟨(hg.block g h.box.lt (fun e => (hr g e.symm).1 rfl)).trans h.box, h.row.kept hg ?_⟩
  rcases h.row.2 with ⟨rfl, _⟩ | ⟨k, cap, cur, rfl, _, hk, _⟩
  · exact .inl rfl
  · refine .inr fun e => ?_
    obtain ⟨-, o, ho, hno⟩ := hr k e.symm
    rw [hk] at ho
    cases ho
    exact hno _ _ rfl
/-- setting keeps whatever is no cells -/
theorem PenK.keeps {W W' : World} {g B : Nat} {q : Pn} {x : Int} {v : Value} {out : List St} (h : PenK g W W') (hP : PenS W g q x v out) (hB : g < B) : KeepsFrom B W W' :=
  ⟨h.1.size, fun k o hk ho hc => by
    refine (h.2.1 k (by omega) (Array.getElem?_eq_some_iff.1 ho).1 (fun e => ?_)).trans ho
    rw [hP.rowP] at e
    rcases hP.row.2 with ⟨rfl, _⟩ | ⟨k', cap, cur, rfl, _, hk', _⟩
    · cases e
    · simp only [Value.ownBlock, Option.some.injEq] at e
      subst e
      rw [hk'] at ho
      cases ho
      cases hc⟩
theorem RdR.book {Nb g : Nat} {W W' : World} {A : Option Addr} {xs : List Value} {row : Option Nat} (h : RdR Nb (rowP g) W A xs) (hg : W.grownBy W' row) (hgl : g < W.heap.size) (hr : ∀ r, row = some r → r ≠ g ∧ ∃ o, W.heap[r]? = some o ∧ IsBook o) : RdR Nb (rowP g) W' A xs := fun hn => by
  obtain ⟨b, o, e, ⟨h1, h2, h3⟩, hc⟩ := h hn
  have hsame : rowP g W' = rowP g W := rowP_same (hg.block g hgl (fun e2 => (hr g e2.symm).1 rfl))
  refine ⟨b, o, e, ⟨h1, Nat.lt_of_lt_of_le h2 hg.size, by rw [hsame]; exact h3⟩, fun j hj => (World.cell?_of_block (a := ⟨b, o + j, none⟩) (hg.block b h2 (fun e2 => ?_))).trans (hc j hj)⟩
  obtain ⟨-, ob, ho, hb⟩ := hr b e2.symm
  obtain ⟨vs, t, f, hv⟩ := cells_there (hc 0 hn)
  rw [hv] at ho
  cases ho
  exact not_book_cells hb
theorem errS_zero {q : Pn} {x : Int} {n : Nat} {g : Gl} (h : errS q x n (g, 0) = 0) : x + g.adv ≤ 8388607 ∧ n + g.steps.length ≤ 200 := by
  unfold errS at h
  rw [if_neg (by simp)] at h
  by_cases h1 : 200 < n + g.steps.length
  · rw [if_pos h1] at h
    simp at h
  · rw [if_neg h1] at h
    by_cases h2 : AllOk q x g.steps
    · rw [if_pos h2] at h
      by_cases h3 : 8388607 < x + g.adv
      · rw [if_pos h3] at h
        simp at h
      · exact ⟨by omega, by omega⟩
    · rw [if_neg h2] at h
      simp at h
theorem Box.turned {W W' : World} {k : Nat} {t : TypeId} {vs : List Value} {row : Option Nat} (h : Box W k t vs) (hg : W.grownBy W' row) (hr : row ≠ some k) : Box W' k t vs := (hg.block k h.lt (fun e => hr e.symm)).trans h

set_option maxRecDepth 100000 in
set_option maxHeartbeats 4000000 in
theorem gly_Set (L : List Glv) (A : Option Addr) (c : Nat) (s : ByteArray) (size : Int) (p : Pt) (w : World) (hL : RdGlv w w.heap.size A L) (hm2 : L.length ≤ 4611686018427387904) (hm : s.size ≤ 4611686018427387904) :
    Calls Try.prog 4 #[.slice A L.length c, .string s, .int .i64 size, ptV p] w fun e w' => ∃ qa k, e = .returned (.tuple #[.slice qa (setM (L.map Glv.gl) s.data.toList size p).1.length k, .int .i64 (setM (L.map Glv.gl) s.data.toList size p).2]) ∧ ((setM (L.map Glv.gl) s.data.toList size p).1.length ≤ k ∧ RdV w' w'.heap.size qa (stRow (setM (L.map Glv.gl) s.data.toList size p).1)) ∧ Below w.heap.size w w' := by
  refine (callsIn_wide (n := 6)).1 ?_
  refine callsIn_of_wp_marks Try.func4 rfl trivial ?_ rfl
  simp only [Try.ntmps4, List.size_toArray, List.length_cons, List.length_nil, Nat.reduceAdd, Nat.reduceSub, Array.replicate_succ, Array.replicate_zero, List.push_toArray, List.append_toArray, List.nil_append, List.cons_append]
  obtain ⟨⟨Rl, RE⟩, hR⟩ : ∃ R, setM (L.map Glv.gl) s.data.toList size p = R := ⟨_, rfl⟩
  rw [hR]
  dsimp only
  obtain ⟨px, py⟩ := p
  have HSET := Lib.hid hR
  clear hR
  obtain ⟨V1, hV1, k1, b1⟩ := endP w 24 (.int .i64 px) (.int .i64 py)
  obtain ⟨V2, hV2, k2, b2⟩ : ∃ Z, V1.alloc (.cells #[.slice none 0 0] 27) = Z ∧ Box Z V1.heap.size 27 [.slice none 0 0] ∧ Below V1.heap.size V1 Z := ⟨_, rfl, Box.new V1 _ [.slice none 0 0], (Below.refl _ V1).alloc (Nat.le_refl _) _⟩
  obtain ⟨V3, hV3, k3, b3⟩ : ∃ Z, V2.alloc (.cells #[.int .i64 0] 28) = Z ∧ Box Z V2.heap.size 28 [.int .i64 0] ∧ Below V2.heap.size V2 Z := ⟨_, rfl, Box.new V2 _ [.int .i64 0], (Below.refl _ V2).alloc (Nat.le_refl _) _⟩
  have hl1 : w.heap.size < V1.heap.size := k1.lt
  have hl2 : V1.heap.size < V2.heap.size := k2.lt
  have hl3 : V2.heap.size < V3.heap.size := k3.lt
  replace k1 := (k1.below b2 hl1).below b3 (by omega)
  replace k2 := k2.below b3 hl2
  have bV : Below w.heap.size w V3 := (b1.trans (b2.mono (by omega))).trans (b3.mono (by omega))
  have cZ := fun V => gly_sized size V
  have cF := fun V => aff_Fits ⟨px, py⟩ V
  obtain ⟨d1, hd1⟩ : ∃ d : Bool, decide (1 ≤ size ∧ size ≤ 65536) = d := ⟨_, rfl⟩
  obtain ⟨d2, hd2⟩ : ∃ d : Bool, decide (FitP ⟨px, py⟩) = d := ⟨_, rfl⟩
  rw [hd1] at cZ
  rw [hd2] at cF
  have HD := Lib.hid (And.intro hd1 hd2)
  unfold ptV at *
  dsimp only at *
  have CZ := Lib.hid cZ
  have CF := Lib.hid cF
  have HV := Lib.hid (And.intro k2 (And.intro k3 bV))
  obtain ⟨⟨x0, x1⟩, -⟩ := Box.pair k1
  have r0 := k2.cell 0 rfl
  have r1 := k3.cell 0 rfl
  have r2 := k2.frozen 0
  have r3 := k3.frozen 0
  have HK1 := Lib.hid k1
  have HLL := Lib.hid hL
  clear cZ cF hd1 hd2 k1 k2 k3 bV b1 b2 b3 hL
  cases d1 with
  | false =>
    have hs := HSET.out
    have hn : ¬ ((1 ≤ size ∧ size ≤ 65536) ∧ FitP ⟨px, py⟩) := fun h => of_decide_eq_false HD.out.1 h.1
    unfold setM at hs
    rw [if_neg hn] at hs
    simp only [Prod.mk.injEq] at hs
    obtain ⟨rfl, rfl⟩ := hs
    clear hn
    gi_wp2_with first
      | (rw [hV1])
      | (rw [hV2])
      | (rw [hV3])
      | ((try refine ⟨trivial, ?_⟩); gi_at_call 7; (with_reducible refine (callsIn_wide.2 (CZ.out _)).mono ?_); rintro e w' ⟨rfl, rfl⟩)
    refine ⟨trivial, ?_⟩
    gi_wp2
    have k2 := (HV.out.1.set 0 (.slice none 0 0)).far (p := ⟨V2.heap.size, 0, none⟩) (by show V1.heap.size ≠ V2.heap.size; omega) (.int .i64 2)
    have k3 := (HV.out.2.1.far (p := ⟨V1.heap.size, 0, none⟩) (by show V2.heap.size ≠ V1.heap.size; omega) (.slice none 0 0)).set 0 (.int .i64 2)
    have z0 := k2.cell 0 rfl
    have z1 := k3.cell 0 rfl
    refine ⟨.tuple #[.slice none 0 0, .int .i64 2], ?_, none, 0, rfl, ⟨Nat.le_refl _, RdV.nil _ _ _⟩, ?_⟩
    · simp [results, Try.f4, go_sem, z0, z1]
    · exact (HV.out.2.2.setCell (p := ⟨V1.heap.size, 0, none⟩) (by show w.heap.size ≤ V1.heap.size; omega) _).setCell (p := ⟨V2.heap.size, 0, none⟩) (by show w.heap.size ≤ V2.heap.size; omega) _
  | true =>
    cases d2 with
    | false =>
      have hs := HSET.out
      have hn : ¬ ((1 ≤ size ∧ size ≤ 65536) ∧ FitP ⟨px, py⟩) := fun h => of_decide_eq_false HD.out.2 h.2
      unfold setM at hs
      rw [if_neg hn] at hs
      simp only [Prod.mk.injEq] at hs
      obtain ⟨rfl, rfl⟩ := hs
      clear hn
      gi_wp2_with first
        | (rw [hV1])
        | (rw [hV2])
        | (rw [hV3])
        | ((try refine ⟨trivial, ?_⟩); gi_at_call 7; (with_reducible refine (callsIn_wide.2 (CZ.out _)).mono ?_); rintro e w' ⟨rfl, rfl⟩)
        | ((try refine ⟨trivial, ?_⟩); gi_at_call 8; (with_reducible refine (callsIn_wide.2 (CF.out _)).mono ?_); rintro e w1 ⟨rfl, bF⟩
           go_loud (
           have HW1 := Lib.hid (And.intro (HV.out.1.below bF (by omega)) (And.intro (HV.out.2.1.below bF (by omega)) (HV.out.2.2.trans (bF.mono (by omega)))))
           have r4 := HW1.out.1.cell 0 rfl
           have r5 := HW1.out.2.1.cell 0 rfl
           have r6 := HW1.out.1.frozen 0
           have r7 := HW1.out.2.1.frozen 0
           clear bF))
      have k2 := (HW1.out.1.set 0 (.slice none 0 0)).far (p := ⟨V2.heap.size, 0, none⟩) (by show V1.heap.size ≠ V2.heap.size; omega) (.int .i64 2)
      have k3 := (HW1.out.2.1.far (p := ⟨V1.heap.size, 0, none⟩) (by show V2.heap.size ≠ V1.heap.size; omega) (.slice none 0 0)).set 0 (.int .i64 2)
      have z0 := k2.cell 0 rfl
      have z1 := k3.cell 0 rfl
      refine ⟨.tuple #[.slice none 0 0, .int .i64 2], ?_, none, 0, rfl, ⟨Nat.le_refl _, RdV.nil _ _ _⟩, ?_⟩
      · simp [results, Try.f4, go_sem, z0, z1]
      · exact (HW1.out.2.2.setCell (p := ⟨V1.heap.size, 0, none⟩) (by show w.heap.size ≤ V1.heap.size; omega) _).setCell (p := ⟨V2.heap.size, 0, none⟩) (by show w.heap.size ≤ V2.heap.size; omega) _
    | true =>
      gi_wp2_with first
        | (rw [hV1])
        | (rw [hV2])
        | (rw [hV3])
        | ((try refine ⟨trivial, ?_⟩); gi_at_call 7; (with_reducible refine (callsIn_wide.2 (CZ.out _)).mono ?_); rintro e w' ⟨rfl, rfl⟩)
        | ((try refine ⟨trivial, ?_⟩); gi_at_call 8; (with_reducible refine (callsIn_wide.2 (CF.out _)).mono ?_); rintro e w1 ⟨rfl, bF⟩
           go_loud (
           have k1 := HK1.out.below bF (by omega)
           obtain ⟨⟨y0, y1⟩, -⟩ := Box.pair k1
           have HW1 := Lib.hid (And.intro (HV.out.1.below bF (by omega)) (And.intro (HV.out.2.1.below bF (by omega)) (HV.out.2.2.trans (bF.mono (by omega)))))
           have hw1 : V3.heap.size ≤ w1.heap.size := bF.size
           clear k1 bF))
        | ((try refine ⟨trivial, ?_⟩); gi_at_call 9; with_reducible refine (letters_in _ _ _ _ _ _).mono ?_; rintro e w' ⟨rfl, rfl⟩)
      obtain ⟨W0, hW0⟩ : ∃ W0, ((w1.alloc (.cells #[.int .i64 size, .int .i64 px, .int .i64 py, .int .i64 0, .slice none 0 0] 38)).alloc (.cells #[.slice A L.length c] 22)).alloc (.cells #[.string s] 9) = W0 := ⟨_, rfl⟩
      obtain ⟨q, hq⟩ : ∃ q : Pn, q = ⟨size, ⟨px, py⟩⟩ := ⟨_, rfl⟩
      have hb1 : Below w1.heap.size w1 W0 := by rw [← hW0]; exact (((Below.refl _ w1).alloc (Nat.le_refl _) _).alloc (by simp) _).alloc (by simp; omega) _
      have hs0 : W0.heap.size = w1.heap.size + 1 + 1 + 1 := by rw [← hW0]; simp
      have hP0 : PenS W0 w1.heap.size q 0 (.slice none 0 0) [] := by
        refine ⟨?_, World.ownsRow_nil _ _ _ _⟩
        rw [← hW0, hq]
        exact ((Box.new w1 38 [.int .i64 size, .int .i64 px, .int .i64 py, .int .i64 0, .slice none 0 0]).alloc _).alloc _
      have hbf : Box W0 (w1.heap.size + 1) 22 [.slice A L.length c] := by
        rw [← hW0]
        exact (Box.at_new (w1.alloc _) _ [.slice A L.length c] (by simp)).alloc _
      have hbt : Box W0 (w1.heap.size + 1 + 1) 9 [.string s] := by
        rw [← hW0]
        exact Box.at_new _ _ [.string s] (by simp)
      rw [hW0]
      obtain ⟨g, hg⟩ : ∃ g, w1.heap.size = g := ⟨_, rfl⟩
      rw [hg] at hP0 hbf hbt hs0 hw1 hb1 ⊢
      have hr0 : rowP g W0 = none := by rw [hP0.rowP]; rfl
      have hB0 := HW1.out.2.2.trans (hb1.mono (by omega))
      have hk0 := HW1.out.1.below hb1 (by omega)
      have hk1 := HW1.out.2.1.below hb1 (by omega)
      have hsz : 1 ≤ q.size ∧ q.size ≤ 65536 := by rw [hq]; exact of_decide_eq_true HD.out.1
      have hat : FitP q.at_ := by rw [hq]; exact of_decide_eq_true HD.out.2
      have hset : (Rl, RE) = if (runS q 0 [] (lettersM (L.map Glv.gl) s.data.toList)).2 = 0 then ((runS q 0 [] (lettersM (L.map Glv.gl) s.data.toList)).1.2, 0) else ([], (runS q 0 [] (lettersM (L.map Glv.gl) s.data.toList)).2) := by
        rw [← HSET.out]
        unfold setM
        rw [if_pos ⟨of_decide_eq_true HD.out.1, of_decide_eq_true HD.out.2⟩, hq]
      have HRES := Lib.hid hset
      have HQ := Lib.hid hq
      have hL0 := HLL.out.below hB0
      clear hW0 hset hq hg HW1 hb1 x0 x1 r0 r1 r2 r3 HK1 HLL HV y0 y1
      refine wpIn_rangeX rfl (by omega) (gf := 13) (lb := #[.pointer (some ⟨g + 1 + 1, 0, none⟩), .pointer (some ⟨g + 1, 0, none⟩)]) rfl trivial (enters_of Try.func13 (by kernel_rfl) rfl)
        (letters_stops _ (by omega) (g + 1 + 1) (g + 1) g w.heap.size (g + 1) (rowP g) (fun _ _ h => rowP_same h) L A c s hm hm2 W0 hL0 (by omega) (by omega) (by omega) hbt hbf (by omega) (Nat.le_refl _) hr0)
        (fun o h => h.not_book) KpR.tr (KpR.book (Bp := g) (fun _ _ h => rowP_same h) (by omega) (by omega)) (fun _ => rfl)
        (fun pre W => ((∃ x v out, runS q 0 [] (pre.map Lt.m) = ((x, out), 0) ∧ PenS W g q x v out ∧ (0 ≤ x ∧ x ≤ 8388607) ∧ out.length ≤ 200 ∧ W0.heap.size ≤ W.heap.size) ∧ (Box W V1.heap.size 27 [.slice none 0 0] ∧ Box W V2.heap.size 28 [.int .i64 0])) ∧ Below w.heap.size w W)
        (fun d pre W => ((d = .ret ∧ (runS q 0 [] (pre.map Lt.m)).2 ≠ 0) ∧ (Box W V1.heap.size 27 [.slice none 0 0] ∧ Box W V2.heap.size 28 [.int .i64 (runS q 0 [] (pre.map Lt.m)).2])) ∧ Below w.heap.size w W)
        ?hI ?hIx ?h0
        (fun x a' W => (∃ Bx, W0.heap.size ≤ Bx ∧ Box W Bx 43 [.int .i64 x.1.code, .int .i64 x.1.adv, .slice x.1.A x.1.steps.length x.1.c] ∧ a' = { tmps := #[.slice A L.length c, .string s, .int .i64 size, .agg #[.int .i64 px, .int .i64 py], undef, undef, undef, .pointer (some ⟨w.heap.size, 0, none⟩), .pointer (some ⟨V1.heap.size, 0, none⟩), .pointer (some ⟨V2.heap.size, 0, none⟩), .pointer (some ⟨g, 0, none⟩), .pointer (some ⟨Bx, 0, none⟩), .int .i64 x.2, .int .i64 size,
          .bool true, .bool false, .bool false, .agg #[.int .i64 px, .int .i64 py], .bool true, .bool false, .bool false, .int .i64 size, .agg #[.int .i64 px, .int .i64 py], .agg #[.int .i64 size, .int .i64 px, .int .i64 py, .int .i64 0, .slice none 0 0], .slice A L.length c, .string s,
          .func (.func 13) #[] #[.pointer (some ⟨g + 1 + 1, 0, none⟩), .pointer (some ⟨g + 1, 0, none⟩)], gvV x.1, .int .i64 x.2, undef, undef, undef, undef, undef, undef, undef, undef, undef], defers := [] }) ∧ (RdR (g + 1) (rowP g) W x.1.A (stRow x.1.steps) ∧ (x.2 = 0 → MayG x.1.gl)) ∧ g < W.heap.size)
        ?hAx ?assign ?body ?done ?stop
      case hI =>
        rintro pre X Y row ⟨⟨⟨x, v, out, h1, h2, h3, h4, hsw⟩, h5, h6⟩, h7⟩ hgr hr
        have hne : ∀ k, k < W0.heap.size → row ≠ some k := fun k hk e => by have := (hr k e).1; omega
        have hX := h2.box.lt
        refine ⟨⟨⟨x, v, out, h1, h2.turned hgr (fun r e => ⟨by have := (hr r e).1; omega, by obtain ⟨-, o, ho, hk⟩ := hr r e; exact ⟨o, ho, noStep_of hk⟩⟩), h3, h4, Nat.le_trans hsw hgr.size⟩, h5.turned hgr (hne _ (by omega)), h6.turned hgr (hne _ (by omega))⟩, h7.grown hgr (by omega) (fun k e => by have := (hr k e).1; omega)⟩
      case hIx =>
        rintro d pre X Y row ⟨⟨h1, h5, h6⟩, h7⟩ hgr hr
        have hne : ∀ k, k < W0.heap.size → row ≠ some k := fun k hk e => by have := (hr k e).1; omega
        have hX := h6.lt
        exact ⟨⟨h1, h5.turned hgr (hne _ (by omega)), h6.turned hgr (hne _ (by omega))⟩, h7.grown hgr (by omega) (fun k e => by have := (hr k e).1; omega)⟩
      case h0 => exact ⟨⟨⟨0, _, [], rfl, hP0, by omega, by simp, Nat.le_refl _⟩, hk0, hk1⟩, hB0⟩
      case hAx =>
        rintro x a' u X Y row ⟨⟨Bx, h1, h2, h3⟩, ⟨h4, h5⟩, h6⟩ hgr hr
        refine ⟨⟨Bx, h1, h2.turned hgr (fun e => ?_), h3⟩, ⟨h4.book hgr h6 (fun r e => ⟨by have := (hr r e).1; omega, (hr r e).2⟩), h5⟩, Nat.lt_of_lt_of_le h6 hgr.size⟩
        obtain ⟨-, o, ho, hk⟩ := hr Bx e
        rw [h2] at ho
        cases ho
        exact not_book_cells hk
      case assign =>
        rintro l pre ⟨y, E⟩ W K hI ⟨hrr, hmay⟩ hK
        obtain ⟨⟨⟨x, v, out, h1, h2, h3, h4, hsw⟩, h5, h6⟩, h7⟩ := hI
        have hgl := h2.box.lt
        obtain ⟨W2, hW2, k2, b2⟩ := newBox3 W 43 (.int .i64 y.code) (.int .i64 y.adv) (.slice y.A y.steps.length y.c)
        have HF := Lib.hid (And.intro h1 (And.intro h2 (And.intro h3 (And.intro h4 (And.intro h5 (And.intro h6 h7))))))
        have HR2 := Lib.hid (And.intro hrr hmay)
        have HK2 := Lib.hid (And.intro k2 b2)
        clear h1 h2 h3 h4 h5 h6 h7 hrr hmay k2 b2
        unfold gvV at *
        dsimp only at *
        gi_wp2
        obtain ⟨h1, h2, h3, h4, h5, h6, h7⟩ := HF.out
        have b2 := HK2.out.2
        have hkp : KpR w.heap.size (g + 1) (rowP g) W W2 := KpR.ofBelow (Bp := g) (fun _ _ h => rowP_same h) b2 (by omega) hgl
        refine hK _ _ (by rw [← hW2]; exact (KeepsOthers.alloc _ _).from _) hkp ⟨⟨⟨x, v, out, h1, h2.below b2, h3, h4, Nat.le_trans hsw b2.size⟩, h5.below b2 h5.lt, h6.below b2 h6.lt⟩, h7.trans (b2.mono (by omega))⟩ ⟨⟨W.heap.size, hsw, HK2.out.1, rfl⟩, ⟨HR2.out.1.kept hkp, HR2.out.2⟩, Nat.lt_of_lt_of_le hgl b2.size⟩
      case body =>
        rintro l pre ⟨y, E⟩ a' W hI ⟨⟨Bx, hBx, bX, rfl⟩, ⟨hrr, hmay⟩, hgl⟩ -
        obtain ⟨⟨⟨x, v, out, h1, h2, h3, h4, hsw⟩, h5, h6⟩, h7⟩ := hI
        have hsn := runS_snoc h1 (y.gl, E)
        have hmap : (pre ++ [(y, E)]).map Lt.m = pre.map Lt.m ++ [(y.gl, E)] := by rw [List.map_append]; rfl
        have hVg : V1.heap.size < g ∧ V2.heap.size < g := ⟨by omega, by omega⟩
        obtain ⟨⟨x0, x1, x2⟩, -⟩ := bX.trip3
        by_cases hE : E = 0
        · subst hE
          have hap : 0 < (stRow y.steps).length → Apart g W y.A := fun hn b o e => by
            obtain ⟨b', o', e', ⟨p1, -, p3⟩, -⟩ := hrr hn
            rw [e] at e'
            cases e'
            exact ⟨by omega, p3⟩
          have cS := pen_set g q x v out y W h2 hrr.rd hap (hmay rfl) h3 hsz hat h4
          obtain ⟨E2, hE2⟩ : ∃ E2, errS q x out.length (y.gl, 0) = E2 := ⟨_, rfl⟩
          unfold SetOn at cS
          rw [hE2] at cS hsn
          have hadv : (0 ≤ y.adv ∧ y.adv ≤ 8388607) := (hmay rfl).2.1
          have hlim : E2 = 0 → x + y.adv ≤ 8388607 ∧ out.length + y.steps.length ≤ 200 := fun h => errS_zero (g := y.gl) (hE2.trans h)
          have HF := Lib.hid (And.intro h2 (And.intro h3 (And.intro h4 (And.intro h5 (And.intro h6 (And.intro h7 hsw))))))
          have HN := Lib.hid (And.intro hsn (And.intro hmap (And.intro hlim hadv)))
          have HH := Lib.hid h1
          have HB := Lib.hid bX
          have CS := Lib.hid cS
          clear h1 h2 h3 h4 h5 h6 h7 hrr hmay hap cS hsn hmap hlim hadv hE2 bX
          unfold gvV at *
          dsimp only at *
          by_cases hE0 : E2 = 0
          · subst hE0
            gi_wp2_with first
              | (refine ⟨trivial, ?_⟩; gi_at_call 10; with_reducible refine (CallsIn.inRound l (callsIn_wide.2 CS.out)).mono ?_; rintro e w2 ⟨rfl, hso, hpk⟩
                 have HS2 := Lib.hid (And.intro hso hpk)
                 clear hso hpk)
            obtain ⟨hso, hpk⟩ := HS2.out
            obtain ⟨h2, h3, h4, h5, h6, h7, hsw⟩ := HF.out
            obtain ⟨v', hP'⟩ := hso trivial
            obtain ⟨hsn, hmap, hlim, hadv⟩ := HN.out
            obtain ⟨hl1', hl2'⟩ := hlim trivial
            refine ⟨hpk.keeps h2 (by omega), hpk.kp (by omega) (Nat.lt_succ_self g), ⟨⟨x + y.adv, v', out ++ y.steps.map (toM q x), ?_, hP', by omega, by rw [List.length_append, List.length_map]; exact hl2', Nat.le_trans hsw hpk.1.size⟩, h5.below hpk.1 hVg.1, h6.below hpk.1 hVg.2⟩, h7.trans (hpk.1.mono (by omega))⟩
            rw [hmap, hsn]
            simp [Glv.gl]
          · have hEb : (E2 == 0) = false := by simpa using hE0
            gi_wp2_with first
              | (refine ⟨trivial, ?_⟩; gi_at_call 10; with_reducible refine (CallsIn.inRound l (callsIn_wide.2 CS.out)).mono ?_; rintro e w2 ⟨rfl, hso, hpk⟩
                 go_loud (
                 have HS2 := Lib.hid hpk
                 have k5 := HF.out.2.2.2.1.below hpk.1 hVg.1
                 have k6 := HF.out.2.2.2.2.1.below hpk.1 hVg.2
                 have r0 := k5.cell 0 rfl
                 have r1 := k6.cell 0 rfl
                 have r2 := k5.frozen 0
                 have r3 := k6.frozen 0
                 have HK6 := Lib.hid (And.intro k5 k6)
                 clear hso hpk k5 k6))
            obtain ⟨h2, h3, h4, h5, h6, h7, hsw⟩ := HF.out
            obtain ⟨hsn, hmap, hlim, hadv⟩ := HN.out
            refine ⟨(HS2.out.keeps h2 (by omega)).trans (((KeepsOthers.setCell _ _ _).trans (KeepsOthers.setCell _ _ _)).from _), ?_⟩
            rw [if_neg hE0] at hsn
            rw [hmap, hsn]
            exact ⟨⟨⟨rfl, hE0⟩, (HK6.out.1.set 0 _).far (by show V1.heap.size ≠ V2.heap.size; omega) _, (HK6.out.2.far (by show V2.heap.size ≠ V1.heap.size; omega) _).set 0 _⟩, ((h7.trans (HS2.out.1.mono (by omega))).setCell (p := ⟨V1.heap.size, 0, none⟩) (by show w.heap.size ≤ V1.heap.size; omega) _).setCell (p := ⟨V2.heap.size, 0, none⟩) (by show w.heap.size ≤ V2.heap.size; omega) _⟩
        · have hEb : (E == 0) = false := by simpa using hE
          have hes : errS q x out.length (y.gl, E) = E := by unfold errS; rw [if_pos hE]
          rw [hes, if_neg hE] at hsn
          have r0 := h5.cell 0 rfl
          have r1 := h6.cell 0 rfl
          have r2 := h5.frozen 0
          have r3 := h6.frozen 0
          have HF := Lib.hid (And.intro h5 (And.intro h6 h7))
          have HN := Lib.hid (And.intro hsn hmap)
          clear h1 h2 h3 h4 h5 h6 h7 hrr hmay hsn hmap hes bX hsw
          unfold gvV at *
          dsimp only at *
          gi_wp2
          obtain ⟨h5, h6, h7⟩ := HF.out
          obtain ⟨hsn, hmap⟩ := HN.out
          refine ⟨((KeepsOthers.setCell _ _ _).trans (KeepsOthers.setCell _ _ _)).from _, ?_⟩
          simp only [hmap, hsn]
          exact ⟨⟨⟨trivial, hE⟩, (h5.set 0 _).far (by show V1.heap.size ≠ V2.heap.size; omega) _, (h6.far (by show V2.heap.size ≠ V1.heap.size; omega) _).set 0 _⟩, (h7.setCell (p := ⟨V1.heap.size, 0, none⟩) (by show w.heap.size ≤ V1.heap.size; omega) _).setCell (p := ⟨V2.heap.size, 0, none⟩) (by show w.heap.size ≤ V2.heap.size; omega) _⟩
      case done =>
        rintro D ys W hD hys ⟨⟨⟨x, v, out, h1, h2, h3, h4, hsw⟩, h5, h6⟩, h7⟩ hK
        rw [hys] at h1
        have hres := HRES.out
        rw [h1] at hres
        simp only [if_true, Prod.mk.injEq] at hres
        obtain ⟨rfl, rfl⟩ := hres
        obtain ⟨qa, k, rfl, hk, -, hrv⟩ := RdV.ofOwnK h2.row
        have p4 := h2.box.cell 4 rfl
        have r0 := h5.cell 0 rfl
        have r1 := h6.cell 0 rfl
        have r2 := h5.frozen 0
        have r3 := h6.frozen 0
        obtain ⟨n, hn⟩ : ∃ n, Rl.length = n := ⟨_, rfl⟩
        have HF := Lib.hid (And.intro h2 (And.intro h5 (And.intro h6 h7)))
        have HN := Lib.hid hn
        rw [hn] at p4 hk
        clear h1 h2 h3 h4 h5 h6 h7 hys hrv hn
        gi_wp2
        have hK' := ((KeepsOthers.setCell W ⟨V1.heap.size, 0, none⟩ (.slice qa n k)).trans (KeepsOthers.setCell _ ⟨V2.heap.size, 0, none⟩ (.int .i64 0))).same D _ hK rfl
        refine ⟨by simp, .inl ⟨_, _, rfl, run_takeDeferred hK', ?_⟩⟩
        obtain ⟨h2, h5, h6, h7⟩ := HF.out
        have k5 := ((h5.set 0 (.slice qa n k)).far (p := ⟨V2.heap.size, 0, none⟩) (by show V1.heap.size ≠ V2.heap.size; omega) (.int .i64 0)).put hK' (.deferred none)
        have k6 := ((h6.far (p := ⟨V1.heap.size, 0, none⟩) (by show V2.heap.size ≠ V1.heap.size; omega) (.slice qa n k)).set 0 (.int .i64 0)).put hK' (.deferred none)
        have z0 := k5.cell 0 rfl
        have z1 := k6.cell 0 rfl
        have hrow := ownsRow_putObj (own_setG (own_setG h2.row (show V1.heap.size < g + 1 by omega) 0 (.slice qa n k)) (show V2.heap.size < g + 1 by omega) 0 (.int .i64 0)) (.deferred none) hK' rfl
        obtain ⟨p2, c2, e2, -, -, hrf⟩ := RdV.ofOwnK hrow
        cases e2
        refine ⟨.tuple #[.slice qa n k, .int .i64 0], ?_, qa, k, ?_, ⟨?_, hrf⟩, ?_⟩
        · simp [results, Try.f4, go_sem, z0, z1]
        · rw [HN.out]
        · rw [HN.out]; exact hk
        · exact ((h7.setCell (p := ⟨V1.heap.size, 0, none⟩) (by show w.heap.size ≤ V1.heap.size; omega) _).setCell (p := ⟨V2.heap.size, 0, none⟩) (by show w.heap.size ≤ V2.heap.size; omega) _).trans (belowK_b (w := w) (Nat.le_refl _) _ D _ _ (by omega) hK' rfl rfl)
      case stop =>
        rintro D d pre W hD hpre ⟨⟨⟨rfl, hne⟩, h5, h6⟩, h7⟩ hK
        have hst := runS_stop hpre hne
        have hres := HRES.out
        rw [hst, if_neg hne] at hres
        simp only [Prod.mk.injEq] at hres
        obtain ⟨rfl, hE⟩ := hres
        rw [← hE] at h6
        have HF := Lib.hid (And.intro h5 (And.intro h6 h7))
        clear h5 h6 h7 hst hpre hne hE
        gi_wp2
        refine ⟨by simp, .inl ⟨_, _, rfl, run_takeDeferred hK, ?_⟩⟩
        obtain ⟨h5, h6, h7⟩ := HF.out
        have z0 := (h5.put hK (.deferred none)).cell 0 rfl
        have z1 := (h6.put hK (.deferred none)).cell 0 rfl
        refine ⟨.tuple #[.slice none 0 0, .int .i64 RE], ?_, none, 0, rfl, ⟨Nat.le_refl _, RdV.nil _ _ _⟩, ?_⟩
        · simp [results, Try.f4, go_sem, z0, z1]
        · exact h7.trans (belowK_b (w := w) (Nat.le_refl _) _ D _ _ (by omega) hK rfl rfl)
end Go.Proofs.Ytdkgnechiloimaa
/- Letters, the program's own: Width. -/

namespace Go.Proofs.Ytdkgnechiloimaa
open Go Go.RowKit Go.Shelf
attribute [local go_sem] Oper.semAt_some

theorem widthS_snoc {a : List (Gl × Int)} {x0 x : Int} (h : widthS x0 a = (x, 0)) (ge : Gl × Int) : widthS x0 (a ++ [ge]) = if ge.2 ≠ 0 then (x, ge.2) else if 8388607 < x + ge.1.adv then (x, 4) else (x + ge.1.adv, 0) := by
  rw [widthS_append, h, if_pos rfl]
  rfl

set_option maxRecDepth 100000 in
set_option maxHeartbeats 4000000 in
theorem gly_Width (L : List Glv) (A : Option Addr) (c : Nat) (s : ByteArray) (size : Int) (w : World) (hL : RdGlv w w.heap.size A L) (hm2 : L.length ≤ 4611686018427387904) (hm : s.size ≤ 4611686018427387904) :
    Calls Try.prog 11 #[.slice A L.length c, .string s, .int .i64 size] w fun e w' => e = .returned (.tuple #[.int .i64 (widthM (L.map Glv.gl) s.data.toList size).1, .int .i64 (widthM (L.map Glv.gl) s.data.toList size).2]) ∧ Below w.heap.size w w' := by
  refine (callsIn_wide (n := 6)).1 ?_
  refine callsIn_of_wp_marks Try.func11 rfl trivial ?_ rfl
  simp only [Try.ntmps11, List.size_toArray, List.length_cons, List.length_nil, Nat.reduceAdd, Nat.reduceSub, Array.replicate_succ, Array.replicate_zero, List.push_toArray, List.append_toArray, List.nil_append, List.cons_append]
  obtain ⟨⟨RN, RE⟩, hR⟩ : ∃ R, widthM (L.map Glv.gl) s.data.toList size = R := ⟨_, rfl⟩
  rw [hR]
  dsimp only
  have HSET := Lib.hid hR
  clear hR
  obtain ⟨V1, hV1, k1, b1⟩ : ∃ Z, w.alloc (.cells #[.int .i64 0] 3) = Z ∧ Box Z w.heap.size 3 [.int .i64 0] ∧ Below w.heap.size w Z := ⟨_, rfl, Box.new w _ [.int .i64 0], (Below.refl _ w).alloc (Nat.le_refl _) _⟩
  obtain ⟨V2, hV2, k2, b2⟩ : ∃ Z, V1.alloc (.cells #[.int .i64 0] 28) = Z ∧ Box Z V1.heap.size 28 [.int .i64 0] ∧ Below V1.heap.size V1 Z := ⟨_, rfl, Box.new V1 _ [.int .i64 0], (Below.refl _ V1).alloc (Nat.le_refl _) _⟩
  have hl1 : w.heap.size < V1.heap.size := k1.lt
  have hl2 : V1.heap.size < V2.heap.size := k2.lt
  replace k1 := k1.below b2 hl1
  have bV : Below w.heap.size w V2 := b1.trans (b2.mono (by omega))
  have cZ := fun V => gly_sized size V
  obtain ⟨d1, hd1⟩ : ∃ d : Bool, decide (1 ≤ size ∧ size ≤ 65536) = d := ⟨_, rfl⟩
  rw [hd1] at cZ
  have HD := Lib.hid hd1
  have CZ := Lib.hid cZ
  have HV := Lib.hid (And.intro k1 (And.intro k2 bV))
  have r0 := k1.cell 0 rfl
  have r1 := k2.cell 0 rfl
  have r2 := k1.frozen 0
  have r3 := k2.frozen 0
  have HLL := Lib.hid hL
  clear cZ hd1 k1 k2 bV b1 b2 hL
  cases d1 with
  | false =>
    have hs := HSET.out
    unfold widthM at hs
    rw [if_neg (of_decide_eq_false HD.out)] at hs
    simp only [Prod.mk.injEq] at hs
    obtain ⟨rfl, rfl⟩ := hs
    gi_wp2_with first
      | (rw [hV1])
      | (rw [hV2])
      | ((try refine ⟨trivial, ?_⟩); gi_at_call 7; (with_reducible refine (callsIn_wide.2 (CZ.out _)).mono ?_); rintro e w' ⟨rfl, rfl⟩)
    have k2 := (HV.out.1.set 0 (.int .i64 0)).far (p := ⟨V1.heap.size, 0, none⟩) (by show w.heap.size ≠ V1.heap.size; omega) (.int .i64 2)
    have k3 := (HV.out.2.1.far (p := ⟨w.heap.size, 0, none⟩) (by show V1.heap.size ≠ w.heap.size; omega) (.int .i64 0)).set 0 (.int .i64 2)
    have z0 := k2.cell 0 rfl
    have z1 := k3.cell 0 rfl
    refine ⟨.tuple #[.int .i64 0, .int .i64 2], ?_, rfl, ?_⟩
    · simp [results, Try.f11, go_sem, z0, z1]
    · exact (HV.out.2.2.setCell (p := ⟨w.heap.size, 0, none⟩) (Nat.le_refl _) _).setCell (p := ⟨V1.heap.size, 0, none⟩) (by show w.heap.size ≤ V1.heap.size; omega) _
  | true =>
    gi_wp2_with first
      | (rw [hV1])
      | (rw [hV2])
      | ((try refine ⟨trivial, ?_⟩); gi_at_call 7; (with_reducible refine (callsIn_wide.2 (CZ.out _)).mono ?_); rintro e w' ⟨rfl, rfl⟩)
      | ((try refine ⟨trivial, ?_⟩); gi_at_call 9; with_reducible refine (letters_in _ _ _ _ _ _).mono ?_; rintro e w' ⟨rfl, rfl⟩)
    obtain ⟨W0, hW0⟩ : ∃ W0, ((V2.alloc (.cells #[.int .i64 0] 3)).alloc (.cells #[.slice A L.length c] 22)).alloc (.cells #[.string s] 9) = W0 := ⟨_, rfl⟩
    have hb1 : Below V2.heap.size V2 W0 := by rw [← hW0]; exact (((Below.refl _ V2).alloc (Nat.le_refl _) _).alloc (by simp) _).alloc (by simp; omega) _
    have hs0 : W0.heap.size = V2.heap.size + 1 + 1 + 1 := by rw [← hW0]; simp
    have hg0 : Box W0 V2.heap.size 3 [.int .i64 0] := by
      rw [← hW0]
      exact ((Box.new V2 3 [.int .i64 0]).alloc _).alloc _
    have hbf : Box W0 (V2.heap.size + 1) 22 [.slice A L.length c] := by
      rw [← hW0]
      exact (Box.at_new (V2.alloc _) _ [.slice A L.length c] (by simp)).alloc _
    have hbt : Box W0 (V2.heap.size + 1 + 1) 9 [.string s] := by
      rw [← hW0]
      exact Box.at_new _ _ [.string s] (by simp)
    rw [hW0]
    obtain ⟨g, hg⟩ : ∃ g, V2.heap.size = g := ⟨_, rfl⟩
    rw [hg] at hg0 hbf hbt hs0 hl2 hb1 ⊢
    have hB0 := HV.out.2.2.trans (hb1.mono (by omega))
    have hk0 := HV.out.1.below hb1 (by omega)
    have hk1 := HV.out.2.1.below hb1 (by omega)
    have hsz : 1 ≤ size ∧ size ≤ 65536 := of_decide_eq_true HD.out
    have hset : (RN, RE) = if (widthS 0 (lettersM (L.map Glv.gl) s.data.toList)).2 = 0 then (scaleM (widthS 0 (lettersM (L.map Glv.gl) s.data.toList)).1 size, 0) else (0, (widthS 0 (lettersM (L.map Glv.gl) s.data.toList)).2) := by
      rw [← HSET.out]
      unfold widthM
      rw [if_pos hsz]
    have HRES := Lib.hid hset
    have hL0 := HLL.out.below hB0
    clear hW0 hset hg hb1 r0 r1 r2 r3 HLL HV
    refine wpIn_rangeX rfl (by omega) (gf := 13) (lb := #[.pointer (some ⟨g + 1 + 1, 0, none⟩), .pointer (some ⟨g + 1, 0, none⟩)]) rfl trivial (enters_of Try.func13 (by kernel_rfl) rfl)
      (letters_stops _ (by omega) (g + 1 + 1) (g + 1) g w.heap.size (g + 1) (fun _ => none) (fun _ _ _ => rfl) L A c s hm hm2 W0 hL0 (by omega) (by omega) (by omega) hbt hbf (by omega) (Nat.le_refl _) rfl)
      (fun o h => h.not_book) KpR.tr (KpR.book (Bp := g) (fun _ _ _ => rfl) (by omega) (by omega)) (fun _ => rfl)
      (fun pre W => ((∃ x, widthS 0 (pre.map Lt.m) = (x, 0) ∧ Box W g 3 [.int .i64 x] ∧ (0 ≤ x ∧ x ≤ 8388607) ∧ W0.heap.size ≤ W.heap.size) ∧ (Box W w.heap.size 3 [.int .i64 0] ∧ Box W V1.heap.size 28 [.int .i64 0])) ∧ Below w.heap.size w W)
      (fun d pre W => ((d = .ret ∧ (widthS 0 (pre.map Lt.m)).2 ≠ 0) ∧ (Box W w.heap.size 3 [.int .i64 0] ∧ Box W V1.heap.size 28 [.int .i64 (widthS 0 (pre.map Lt.m)).2])) ∧ Below w.heap.size w W)
      ?hI ?hIx ?h0
      (fun x a' W => (∃ Bx, W0.heap.size ≤ Bx ∧ Box W Bx 43 [.int .i64 x.1.code, .int .i64 x.1.adv, .slice x.1.A x.1.steps.length x.1.c] ∧ a' = { tmps := #[.slice A L.length c, .string s, .int .i64 size, undef, undef, undef, .pointer (some ⟨w.heap.size, 0, none⟩), .pointer (some ⟨V1.heap.size, 0, none⟩), .pointer (some ⟨g, 0, none⟩), .pointer (some ⟨Bx, 0, none⟩), .int .i64 x.2, .int .i64 size,
        .bool true, .bool false, .slice A L.length c, .string s,
        .func (.func 13) #[] #[.pointer (some ⟨g + 1 + 1, 0, none⟩), .pointer (some ⟨g + 1, 0, none⟩)], gvV x.1, .int .i64 x.2, undef, undef, undef, undef, undef, undef, undef, undef, undef, undef, undef, undef], defers := [] }) ∧ (x.2 = 0 → MayG x.1.gl))
      ?hAx ?assign ?body ?done ?stop
    case hI =>
      rintro pre X Y row ⟨⟨⟨x, h1, h2, h3, hsw⟩, h5, h6⟩, h7⟩ hgr hr
      have hne : ∀ k, k < W0.heap.size → row ≠ some k := fun k hk e => by have := (hr k e).1; omega
      have hX := h2.lt
      refine ⟨⟨⟨x, h1, h2.turned hgr (hne _ (by omega)), h3, Nat.le_trans hsw hgr.size⟩, h5.turned hgr (hne _ (by omega)), h6.turned hgr (hne _ (by omega))⟩, h7.grown hgr (by omega) (fun k e => by have := (hr k e).1; omega)⟩
    case hIx =>
      rintro d pre X Y row ⟨⟨h1, h5, h6⟩, h7⟩ hgr hr
      have hne : ∀ k, k < W0.heap.size → row ≠ some k := fun k hk e => by have := (hr k e).1; omega
      have hX := h6.lt
      exact ⟨⟨h1, h5.turned hgr (hne _ (by omega)), h6.turned hgr (hne _ (by omega))⟩, h7.grown hgr (by omega) (fun k e => by have := (hr k e).1; omega)⟩
    case h0 => exact ⟨⟨⟨0, rfl, hg0, by omega, Nat.le_refl _⟩, hk0, hk1⟩, hB0⟩
    case hAx =>
      rintro x a' u X Y row ⟨⟨Bx, h1, h2, h3⟩, h5⟩ hgr hr
      refine ⟨⟨Bx, h1, h2.turned hgr (fun e => ?_), h3⟩, h5⟩
      obtain ⟨-, o, ho, hk⟩ := hr Bx e
      rw [h2] at ho
      cases ho
      exact not_book_cells hk
    case assign =>
      rintro l pre ⟨y, E⟩ W K hI ⟨hrr, hmay⟩ hK
      obtain ⟨⟨⟨x, h1, h2, h3, hsw⟩, h5, h6⟩, h7⟩ := hI
      obtain ⟨W2, hW2, k2, b2⟩ := newBox3 W 43 (.int .i64 y.code) (.int .i64 y.adv) (.slice y.A y.steps.length y.c)
      have HF := Lib.hid (And.intro h1 (And.intro h2 (And.intro h3 (And.intro hsw (And.intro h5 (And.intro h6 h7))))))
      have HM := Lib.hid hmay
      have HK2 := Lib.hid (And.intro k2 b2)
      clear h1 h2 h3 h5 h6 h7 hrr hmay k2 b2
      unfold gvV at *
      dsimp only at *
      gi_wp2
      obtain ⟨h1, h2, h3, hsw, h5, h6, h7⟩ := HF.out
      have b2 := HK2.out.2
      have hkp : KpR w.heap.size (g + 1) (fun _ => none) W W2 := KpR.ofBelow (Bp := g) (fun _ _ _ => rfl) b2 (by omega) h2.lt
      refine hK _ _ (by rw [← hW2]; exact (KeepsOthers.alloc _ _).from _) hkp ⟨⟨⟨x, h1, h2.below b2 h2.lt, h3, Nat.le_trans hsw b2.size⟩, h5.below b2 h5.lt, h6.below b2 h6.lt⟩, h7.trans (b2.mono (by omega))⟩ ⟨⟨W.heap.size, hsw, HK2.out.1, rfl⟩, HM.out⟩
    case body =>
      rintro l pre ⟨y, E⟩ a' W hI ⟨⟨Bx, hBx, bX, rfl⟩, hmay⟩ -
      obtain ⟨⟨⟨x, h1, h2, h3, hsw⟩, h5, h6⟩, h7⟩ := hI
      have hsn := widthS_snoc h1 (y.gl, E)
      have hmap : (pre ++ [(y, E)]).map Lt.m = pre.map Lt.m ++ [(y.gl, E)] := by rw [List.map_append]; rfl
      obtain ⟨⟨x0, x1, x2⟩, -⟩ := bX.trip3
      have r0 := h5.cell 0 rfl
      have r1 := h6.cell 0 rfl
      have r2 := h5.frozen 0
      have r3 := h6.frozen 0
      have s0 := h2.cell 0 rfl
      have s1 := h2.frozen 0
      have HF := Lib.hid (And.intro h2 (And.intro h5 (And.intro h6 (And.intro h7 hsw))))
      have HMP := Lib.hid hmap
      by_cases hE : E = 0
      · subst hE
        have hadv : 0 ≤ y.adv ∧ y.adv ≤ 8388607 := (hmay rfl).2.1
        have mx : IntKind.i64.wrap (x + y.adv) = x + y.adv := IntWalk.i64_in _ (by omega)
        rw [if_neg (by simp)] at hsn
        have hs1 : 8388607 < x + y.adv → widthS 0 (pre.map Lt.m ++ [(y.gl, 0)]) = (x, 4) := fun h => hsn.trans (if_pos h)
        have hs2 : ¬ 8388607 < x + y.adv → widthS 0 (pre.map Lt.m ++ [(y.gl, 0)]) = (x + y.adv, 0) := fun h => hsn.trans (if_neg h)
        clear hsn
        have hgs := h2.lt
        obtain ⟨U, hU⟩ : ∃ U, W.setCell ⟨g, 0, none⟩ (.int .i64 (x + y.adv)) = U := ⟨_, rfl⟩
        have k2 : Box U g 3 [.int .i64 (x + y.adv)] := by rw [← hU]; exact h2.set 0 _
        have k5 : Box U w.heap.size 3 [.int .i64 0] := by rw [← hU]; exact h5.far (by show w.heap.size ≠ g; omega) _
        have k6 : Box U V1.heap.size 28 [.int .i64 0] := by rw [← hU]; exact h6.far (by show V1.heap.size ≠ g; omega) _
        have u0 := k2.cell 0 rfl
        have u1 := k5.cell 0 rfl
        have u2 := k6.cell 0 rfl
        have u3 := k5.frozen 0
        have u4 := k6.frozen 0
        have HU := Lib.hid (And.intro hU (And.intro k2 (And.intro k5 k6)))
        clear h1 h2 h5 h6 h7 hmay hmap bX hsw k2 k5 k6
        unfold gvV at *
        dsimp only at *
        by_cases hl : 8388607 < x + y.adv
        · have HN := Lib.hid (hs1 hl)
          clear hs1 hs2
          gi_wp2
          obtain ⟨h2, h5, h6, h7, hsw⟩ := HF.out
          refine ⟨?_, ?_⟩
          · rw [← hU]; exact ((KeepsOthers.setCell _ _ _).trans ((KeepsOthers.setCell _ _ _).trans (KeepsOthers.setCell _ _ _))).from _
          · simp only [HMP.out, HN.out]
            refine ⟨⟨⟨trivial, by decide⟩, (HU.out.2.2.1.set 0 _).far (by show w.heap.size ≠ V1.heap.size; omega) _, (HU.out.2.2.2.far (by show V1.heap.size ≠ w.heap.size; omega) _).set 0 _⟩, ?_⟩
            rw [← hU]
            exact ((h7.setCell (p := ⟨g, 0, none⟩) (by show w.heap.size ≤ g; omega) _).setCell (p := ⟨w.heap.size, 0, none⟩) (Nat.le_refl _) _).setCell (p := ⟨V1.heap.size, 0, none⟩) (by show w.heap.size ≤ V1.heap.size; omega) _
        · have HN := Lib.hid (hs2 hl)
          clear hs1 hs2
          gi_wp2
          obtain ⟨h2, h5, h6, h7, hsw⟩ := HF.out
          have hgu : W.grownBy U (some g) := by rw [← hU]; exact grown_setG W g 0 _
          have hbu : Below w.heap.size w U := by rw [← hU]; exact h7.setCell (p := ⟨g, 0, none⟩) (by show w.heap.size ≤ g; omega) _
          refine ⟨by rw [← hU]; exact (KeepsOthers.setCell _ _ _).from _, ⟨?_, ?_, .inl rfl⟩, ⟨⟨x + y.adv, ?_, HU.out.2.1, by omega, (by have := hgu.size; omega)⟩, HU.out.2.2.1, HU.out.2.2.2⟩, hbu⟩
          · rw [← hU]; exact (Below.refl _ W).setCell (p := ⟨g, 0, none⟩) (by show w.heap.size ≤ g; omega) _
          · exact fun k _ hk ho _ _ => (hgu.block k (Array.getElem?_eq_some_iff.1 ho).1 (fun e => by have e2 : k = g := (by injection e); omega)).trans ho
          · rw [HMP.out, HN.out]
      · have hEb : (E == 0) = false := by simpa using hE
        rw [if_pos hE] at hsn
        have HN := Lib.hid hsn
        clear h1 h2 h5 h6 h7 hmay hmap bX hsw hsn
        unfold gvV at *
        dsimp only at *
        gi_wp2
        obtain ⟨h2, h5, h6, h7, hsw⟩ := HF.out
        refine ⟨((KeepsOthers.setCell _ _ _).trans (KeepsOthers.setCell _ _ _)).from _, ?_⟩
        simp only [HMP.out, HN.out]
        exact ⟨⟨⟨trivial, hE⟩, (h5.set 0 _).far (by show w.heap.size ≠ V1.heap.size; omega) _, (h6.far (by show V1.heap.size ≠ w.heap.size; omega) _).set 0 _⟩, (h7.setCell (p := ⟨w.heap.size, 0, none⟩) (Nat.le_refl _) _).setCell (p := ⟨V1.heap.size, 0, none⟩) (by show w.heap.size ≤ V1.heap.size; omega) _⟩
    case done =>
      rintro D ys W hD hys ⟨⟨⟨x, h1, h2, h3, hsw⟩, h5, h6⟩, h7⟩ hK
      rw [hys] at h1
      have hres := HRES.out
      rw [h1] at hres
      simp only [if_true, Prod.mk.injEq] at hres
      obtain ⟨hRN, rfl⟩ := hres
      have cS := fun V => gly_scale x size (by omega) (by omega) hsz.1 hsz.2 V
      have p4 := h2.cell 0 rfl
      have r0 := h5.cell 0 rfl
      have r1 := h6.cell 0 rfl
      have r2 := h5.frozen 0
      have r3 := h6.frozen 0
      have HF := Lib.hid (And.intro h5 (And.intro h6 h7))
      have CS := Lib.hid cS
      rw [← hRN] at CS
      clear h1 h2 h5 h6 h7 hys cS hRN
      gi_wp2_with ((try refine ⟨trivial, ?_⟩); gi_at_call 16; (with_reducible refine (callsIn_wide.2 (CS.out _)).mono ?_); rintro e w' ⟨rfl, rfl⟩)
      have hK' := ((KeepsOthers.setCell W ⟨w.heap.size, 0, none⟩ (.int .i64 RN)).trans (KeepsOthers.setCell _ ⟨V1.heap.size, 0, none⟩ (.int .i64 0))).same D _ hK rfl
      refine ⟨by simp, .inl ⟨_, _, rfl, run_takeDeferred hK', ?_⟩⟩
      obtain ⟨h5, h6, h7⟩ := HF.out
      have k5 := ((h5.set 0 (.int .i64 RN)).far (p := ⟨V1.heap.size, 0, none⟩) (by show w.heap.size ≠ V1.heap.size; omega) (.int .i64 0)).put hK' (.deferred none)
      have k6 := ((h6.far (p := ⟨w.heap.size, 0, none⟩) (by show V1.heap.size ≠ w.heap.size; omega) (.int .i64 RN)).set 0 (.int .i64 0)).put hK' (.deferred none)
      have z0 := k5.cell 0 rfl
      have z1 := k6.cell 0 rfl
      refine ⟨.tuple #[.int .i64 RN, .int .i64 0], ?_, rfl, ?_⟩
      · simp [results, Try.f11, go_sem, z0, z1]
      · exact ((h7.setCell (p := ⟨w.heap.size, 0, none⟩) (Nat.le_refl _) _).setCell (p := ⟨V1.heap.size, 0, none⟩) (by show w.heap.size ≤ V1.heap.size; omega) _).trans (belowK_b (w := w) (Nat.le_refl _) _ D _ _ (by omega) hK' rfl rfl)
    case stop =>
      rintro D d pre W hD hpre ⟨⟨⟨rfl, hne⟩, h5, h6⟩, h7⟩ hK
      have hst := widthS_stop hpre hne
      have hres := HRES.out
      rw [hst, if_neg hne] at hres
      simp only [Prod.mk.injEq] at hres
      obtain ⟨rfl, hE⟩ := hres
      rw [← hE] at h6
      have HF := Lib.hid (And.intro h5 (And.intro h6 h7))
      clear h5 h6 h7 hst hpre hne hE
      gi_wp2
      refine ⟨by simp, .inl ⟨_, _, rfl, run_takeDeferred hK, ?_⟩⟩
      obtain ⟨h5, h6, h7⟩ := HF.out
      have z0 := (h5.put hK (.deferred none)).cell 0 rfl
      have z1 := (h6.put hK (.deferred none)).cell 0 rfl
      refine ⟨.tuple #[.int .i64 0, .int .i64 RE], ?_, rfl, ?_⟩
      · simp [results, Try.f11, go_sem, z0, z1]
      · exact h7.trans (belowK_b (w := w) (Nat.le_refl _) _ D _ _ (by omega) hK rfl rfl)
end Go.Proofs.Ytdkgnechiloimaa
/- Letters: rows of steps that are the same; two letters are as wide as they are. -/

namespace Go.Proofs.Ytdkgnechiloimaa
open Go.RowKit

theorem arr_eq (d : Nat) (a b c e f g : Int) (W : World) : (Op.equalIn (d + 1 + 1 + 1) 47 (.agg #[.int .i64 a, .int .i64 b, .int .i64 c, .int .i64 e, .int .i64 f, .int .i64 g]) (.agg #[.int .i64 a, .int .i64 b, .int .i64 c, .int .i64 e, .int .i64 f, .int .i64 g])).run Try.prog W = .ok true W := by
  have h1 : Try.prog.cellsOf 24 = 2 := by kernel_rfl
  have hp : ∀ (d : Nat) (x y : Int) (W : World), (Op.equalIn (d + 1 + 1) 24 (.agg #[.int .i64 x, .int .i64 y]) (.agg #[.int .i64 x, .int .i64 y])).run Try.prog W = .ok true W := fun d x y W => by
    go_simp
  unfold Op.equalIn
  simp [run_underlying Try.underlying47, Sem.run_bind, List.range', hp, go_sem]
/-- a step is not unlike itself -/
theorem st_neq (a b c e f g i : Int) (W : World) : (binOp .neq 49 (.agg #[.int .i64 i, .int .i64 a, .int .i64 b, .int .i64 c, .int .i64 e, .int .i64 f, .int .i64 g]) (.agg #[.int .i64 i, .int .i64 a, .int .i64 b, .int .i64 c, .int .i64 e, .int .i64 f, .int .i64 g])).run Try.prog W = .ok (.bool false) W := by
  have h := arr_eq 9996 a b c e f g
  go_simp

set_option maxRecDepth 10000 in
set_option maxHeartbeats 3200000 in
theorem ref12_SameSteps (l : List St) (A B : Option Addr) (c d : Nat) (w : World) (ha : RdV w w.heap.size A (stRow l)) (hb : RdV w w.heap.size B (stRow l)) (hl : l.length ≤ 4611686018427387904) :
    Calls Try.prog 6 #[.slice A l.length c, .slice B l.length d] w fun e w' => e = .returned (.bool true) ∧ Below w.heap.size w w' := by
  obtain ⟨n, hn⟩ : ∃ n, l.length = n := ⟨_, rfl⟩
  have HN := Lib.hid hn
  have HR := Lib.hid (And.intro ha hb)
  rw [hn] at hl ⊢
  clear hn ha hb
  go_enter Try.func6, Try.ntmps6
  go_wp2_with fail
  go_loopg [5] n (fun gh it wr => ∃ i : Nat, it = .int .i64 (i : Int) ∧ gh + i = n ∧ Below w.heap.size w wr)
  case atStart => exact ⟨0, rfl, by omega, Below.refl _ _⟩
  case round =>
    obtain ⟨i, rfl, hg, hB⟩ := hrel
    have HG := Lib.hid hg
    by_cases hlt : i < n
    · obtain ⟨g, o, rfl, -, e0, e1, e2, e3, e4, e5, e6⟩ := (HR.out.1.below hB).st (i := i) (by rw [HN.out]; exact hlt)
      obtain ⟨g', o', rfl, -, f0, f1, f2, f3, f4, f5, f6⟩ := (HR.out.2.below hB).st (i := i) (by rw [HN.out]; exact hlt)
      obtain ⟨x, hx⟩ : ∃ x, l[i]'(by rw [HN.out]; exact hlt) = x := ⟨_, rfl⟩
      rw [hx] at e0 e1 e2 e3 e4 e5 e6 f0 f1 f2 f3 f4 f5 f6
      have HB := Lib.hid hB
      have hil : (i : Int) < (n : Int) := by omega
      obtain ⟨op, ⟨ax, ay⟩, ⟨bx, bY⟩, ⟨cx, cy⟩⟩ := x
      dsimp only at e0 e1 e2 e3 e4 e5 e6 f0 f1 f2 f3 f4 f5 f6
      have hq := st_neq ax ay bx bY cx cy op
      clear hB hx
      go_wp2_with fail
      go_quiet (fail)
      go_wp2_with fail
      go_roundg (n - (i + 1))
      case measure => have := HG.out; omega
      case rel => exact ⟨i + 1, by simp, by omega, below_figE HB.out nq⟩
    · have HB := Lib.hid hB
      clear hB
      have hil : ¬ (i : Int) < (n : Int) := by omega
      go_wp2_with fail
      go_ret
      exact ⟨rfl, HB.out⟩

/-- the font of the test -/
def fontL (A : Option Addr) (steps : List St) : List Glv := [⟨65, 512, A, steps.length, steps⟩]
theorem wide_AA : widthM [⟨65, 512, []⟩] [65, 65] 100 = (100, 0) := by kernel_rfl
def setAA : List St := [⟨1, ⟨7, 0⟩, ⟨0, 0⟩, ⟨0, 0⟩⟩, ⟨1, ⟨519, 0⟩, ⟨0, 0⟩, ⟨0, 0⟩⟩]
theorem set_AA : setM [⟨65, 512, [⟨1, ⟨0, 0⟩, ⟨0, 0⟩, ⟨0, 0⟩⟩]⟩] [65, 65] 1024 ⟨7, 0⟩ = (setAA, 0) := by kernel_rfl

set_option maxRecDepth 10000 in
set_option maxHeartbeats 3200000 in
theorem law13_lives (w : World) : Calls Try.prog 5 #[] w fun e w' => e = .returned (.bool true) ∧ Below w.heap.size w w' := by
  obtain ⟨W1, hW1, k1, b1⟩ := newBox3 w 43 (.int .i64 65) (.int .i64 512) (.slice none 0 0)
  have hr1 : RdGlv W1 W1.heap.size (some ⟨w.heap.size, 0, none⟩) [⟨65, 512, none, 0, []⟩] := ⟨k1.rd, fun x hx => by simp at hx; subst hx; exact ⟨RdV.nil _ _ _, by simp⟩⟩
  have cW := gly_Width [⟨65, 512, none, 0, []⟩] (some ⟨w.heap.size, 0, none⟩) 1 ⟨#[65, 65]⟩ 100 W1 hr1 (by simp) (by decide)
  rw [show widthM (([⟨65, 512, none, 0, []⟩] : List Glv).map Glv.gl) (⟨#[65, 65]⟩ : ByteArray).data.toList 100 = (100, 0) from wide_AA] at cW
  have cS := fun (V : World) (A B : Option Addr) (h : RdGlv V V.heap.size B [⟨65, 512, A, 1, [⟨1, ⟨0, 0⟩, ⟨0, 0⟩, ⟨0, 0⟩⟩]⟩]) => gly_Set [⟨65, 512, A, 1, [⟨1, ⟨0, 0⟩, ⟨0, 0⟩, ⟨0, 0⟩⟩]⟩] B 1 ⟨#[65, 65]⟩ 1024 ⟨7, 0⟩ V h (by simp) (by decide)
  have e2 : ∀ A : Option Addr, setM (([⟨65, 512, A, 1, [⟨1, ⟨0, 0⟩, ⟨0, 0⟩, ⟨0, 0⟩⟩]⟩] : List Glv).map Glv.gl) (⟨#[65, 65]⟩ : ByteArray).data.toList 1024 ⟨7, 0⟩ = (setAA, 0) := fun A => set_AA
  simp only [e2] at cS
  have hC : ∀ w1, Below W1.heap.size W1 w1 → ∃ W2, w1.alloc (.cells #[.int .i64 1, .int .i64 0, .int .i64 0, .int .i64 0, .int .i64 0, .int .i64 0, .int .i64 0] 49) = W2 ∧ ∃ W3, W2.alloc (.cells #[.int .i64 65, .int .i64 512, .slice (some ⟨w1.heap.size, 0, none⟩) 1 1] 43) = W3 ∧
      RdGlv W3 W3.heap.size (some ⟨W2.heap.size, 0, none⟩) [⟨65, 512, some ⟨w1.heap.size, 0, none⟩, 1, [⟨1, ⟨0, 0⟩, ⟨0, 0⟩, ⟨0, 0⟩⟩]⟩] ∧ Below w.heap.size w W3 := fun w1 h => by
    obtain ⟨W2, hW2, k2, b2, -⟩ := newSt w1 ⟨1, ⟨0, 0⟩, ⟨0, 0⟩, ⟨0, 0⟩⟩
    obtain ⟨W3, hW3, k3, b3⟩ := newBox3 W2 43 (.int .i64 65) (.int .i64 512) (.slice (some ⟨w1.heap.size, 0, none⟩) 1 1)
    refine ⟨W2, hW2, W3, hW3, ⟨k3.rd, fun x hx => ?_⟩, (b1.trans (h.mono b1.size)).trans ((b2.trans (b3.mono b2.size)).mono (Nat.le_trans b1.size h.size))⟩
    simp at hx
    subst hx
    exact ⟨(k2.below b3 k2.lt).rd, by simp⟩
  unfold gvV ptV at *
  dsimp only [List.length_cons, List.length_nil, Nat.zero_add] at *
  have CW := Lib.hid cW
  have CS := Lib.hid cS
  have HC := Lib.hid hC
  clear cW cS hC e2 hr1 k1 b1
  go_enter Try.func5, Try.ntmps5
  go_wp2_with first
    | (rw [hW1])
    | ((try rw [hW1]); go_at_call 11; (with_reducible refine Calls.mono CW.out ?_); rintro e w1 ⟨rfl, b1⟩
       go_loud (
       obtain ⟨W2, hW2, W3, hW3, hr3, bW3⟩ := HC.out w1 b1
       have H3 := Lib.hid (And.intro hr3 bW3)
       clear hr3 bW3 b1))
    | (rw [hW2])
    | (rw [hW3])
    | ((try rw [hW2]); (try rw [hW3]); go_at_call 4; (with_reducible refine Calls.mono (CS.out _ _ _ H3.out.1) ?_); rintro e w4 ⟨qa, k, rfl, ⟨hk, hr4⟩, b4⟩
       go_loud (
       have HB4 := Lib.hid (H3.out.2.trans (b4.mono H3.out.2.size))
       obtain ⟨b, o, rfl, -, -, x1, -⟩ := hr4.st (i := 1) (by decide)
       clear hr4 b4))
  all_goals
    go_ret
    exact ⟨rfl, HB4.out⟩
end Go.Proofs.Ytdkgnechiloimaa
/- The law of layer 13: a text of a letter and others begins with the letter's path. -/

namespace Go.Proofs.Ytdkgnechiloimaa
open Go.RowKit

theorem one_str (u : UInt8) (W : World) (g : Nat) (h : W.cell? ⟨g, 0, none⟩ = some (.int .u8 (u.toNat : Int))) : (convert 31 9 (.slice (some ⟨g, 0, none⟩) 1 1)).run Try.prog W = .ok (.string (str [u])) W := by
  refine run_convert_bytes_back (P := Try.prog) W 31 9 5 ⟨g, 0, none⟩ 1 [u] Try.underlying31 Try.underlying5 Try.underlying9 fun j hj => ?_
  obtain rfl : j = 0 := by simp at hj; omega
  rw [addr_add]
  exact h
theorem str_cons (u : UInt8) (s : ByteArray) : (str [u] ++ s).data.toList = u :: s.data.toList := by
  rw [ByteArray.data_append, Array.toList_append]
  rfl
theorem str_cons_size (u : UInt8) (s : ByteArray) : (str [u] ++ s).size = s.size + 1 := by
  rw [ByteArray.size_append, str_size, List.length_singleton]
  omega
theorem RdV.frontS {w : World} {B : Nat} {p : Option Addr} {a b : List Value} (h : RdV w B p (a ++ b)) : RdV w B p a := fun hn => by
  obtain ⟨b', o, e, hb, hc⟩ := h (by rw [List.length_append]; omega)
  exact ⟨b', o, e, hb, fun j hj => by rw [hc j (by rw [List.length_append]; omega), List.getElem_append_left hj]⟩
theorem newBox4 (v : World) (t : TypeId) (x y z u : Value) : ∃ Z, v.alloc (.cells #[x, y, z, u] t) = Z ∧ Box Z v.heap.size t [x, y, z, u] ∧ Below v.heap.size v Z :=
  ⟨_, rfl, Box.new v t [x, y, z, u], (Below.refl _ v).alloc (Nat.le_refl _) _⟩
theorem newBox1 (v : World) (t : TypeId) (x : Value) : ∃ Z, v.alloc (.cells #[x] t) = Z ∧ Box Z v.heap.size t [x] ∧ Below v.heap.size v Z :=
  ⟨_, rfl, Box.new v t [x], (Below.refl _ v).alloc (Nat.le_refl _) _⟩

set_option maxRecDepth 10000 in
set_option maxHeartbeats 3200000 in
theorem walk_GlyphJoins (L : List Glv) (A : Option Addr) (c : Nat) (s : ByteArray) (size : Int) (p : Pt) (u : UInt8) (w : World) (hL : RdGlv w w.heap.size A L) (hl : L.length ≤ 4611686018427387904) (hs : s.size ≤ 1152921504606846976) :
    Calls Try.prog 3 #[.slice A L.length c, .agg #[.string s, .int .i64 size, .int .i64 p.x, .int .i64 p.y], .int .u8 (u.toNat : Int)] w fun e w' => e = .returned (.bool true) ∧ Below w.heap.size w w' := by
  obtain ⟨px, py⟩ := p
  dsimp only
  obtain ⟨W1, hW1, k1, b1⟩ := newBox4 w 26 (.string s) (.int .i64 size) (.int .i64 px) (.int .i64 py)
  obtain ⟨W2, hW2, k2, b2⟩ := newBox1 W1 5 (.int .u8 (u.toNat : Int))
  have hl1 : w.heap.size < W1.heap.size := k1.lt
  have k1' := k1.below b2 hl1
  obtain ⟨⟨x0, x1, x2, x3⟩, -⟩ := k1.four
  obtain ⟨⟨y0, y1, y2, y3⟩, -⟩ := k1'.four
  have hcv := one_str u W2 W1.heap.size (k2.cell 0 rfl)
  have bW : Below w.heap.size w W2 := b1.trans (b2.mono (by omega))
  have cS := fun (V : World) (h : Below w.heap.size w V) (t : ByteArray) (ht : t.size ≤ 4611686018427387904) => gly_Set L A c t size ⟨px, py⟩ V ((hL.below h).mono h.size) hl ht
  have hcons := fun h => setM_cons (font := L.map Glv.gl) (c := u) (s := s.data.toList) (size := size) (p := ⟨px, py⟩) h
  have hlen := fun h => setM_length (font := L.map Glv.gl) (s := s.data.toList) (size := size) (p := ⟨px, py⟩) h
  have herr := fun h => setM_err (font := L.map Glv.gl) (text := u :: s.data.toList) (size := size) (p := ⟨px, py⟩) h
  have hin := fun t => setM_in (L.map Glv.gl) t size ⟨px, py⟩
  have cA := fun V h => cS V h (str [u]) (by rw [str_size]; simp)
  have cB := fun V h => cS V h s (by omega)
  have cX := fun V h => cS V h (str [u] ++ s) (by rw [str_cons_size]; omega)
  simp only [str_cons] at cX
  rw [show (str [u]).data.toList = [u] from rfl] at cA
  obtain ⟨⟨la, ea⟩, hra⟩ : ∃ r, setM (L.map Glv.gl) [u] size ⟨px, py⟩ = r := ⟨_, rfl⟩
  obtain ⟨⟨lb, eb⟩, hrb⟩ : ∃ r, setM (L.map Glv.gl) s.data.toList size ⟨px, py⟩ = r := ⟨_, rfl⟩
  obtain ⟨⟨lx, ex⟩, hrx⟩ : ∃ r, setM (L.map Glv.gl) (u :: s.data.toList) size ⟨px, py⟩ = r := ⟨_, rfl⟩
  have hia := hin [u]
  have hib := hin s.data.toList
  have hix := hin (u :: s.data.toList)
  rw [hra] at hia
  rw [hrb] at hib hlen
  rw [hrx] at hix herr
  rw [hra, hrx] at hcons
  simp only [hra] at cA
  simp only [hrb] at cB
  simp only [hrx] at cX
  unfold ptV at *
  dsimp only at *
  have cL := fun V => law13_lives V
  have cQ := fun (V : World) (P Q : Option Addr) (k m : Nat) (h1 : RdV V V.heap.size P (stRow la)) (h2 : RdV V V.heap.size Q (stRow la)) => ref12_SameSteps la P Q k m V h1 h2 (by omega)
  have CA := Lib.hid cA
  have CB := Lib.hid cB
  have CX := Lib.hid cX
  have CL := Lib.hid cL
  have HW := Lib.hid (And.intro k1' bW)
  have HM := Lib.hid (And.intro hcons (And.intro hlen herr))
  have hsz1 : (str [u]).size ≤ 1 := by rw [str_size]; simp
  clear cA cB cX cS cL hra hrb hrx hin k1 k2 k1' b1 b2 bW hcons hlen herr hL
  obtain ⟨na, hna⟩ : ∃ n, la.length = n := ⟨_, rfl⟩
  obtain ⟨nb, hnb⟩ : ∃ n, lb.length = n := ⟨_, rfl⟩
  obtain ⟨nx, hnx⟩ : ∃ n, lx.length = n := ⟨_, rfl⟩
  have HN := Lib.hid (And.intro hna (And.intro hnb hnx))
  have CQ := Lib.hid cQ
  clear cQ
  rw [hna] at hia CA CQ
  rw [hnb] at hib CB
  rw [hnx] at hix CX
  clear hna hnb hnx
  by_cases hx0 : ex = 0
  · subst hx0
    obtain ⟨hea, t, hlx, htl⟩ := HM.out.1 rfl
    subst hea
    have hnx : nx = na + t.length := by rw [← HN.out.1, ← HN.out.2.2, hlx, List.length_append]
    have HP := Lib.hid hlx
    have HTL := Lib.hid htl
    clear hlx htl
    have hle : na ≤ nx := by omega
    have hlt : ¬ (nx : Int) < (na : Int) := by omega
    by_cases hb0 : eb = 0
    · subst hb0
      have hlb := HM.out.2.1 rfl
      have hnn : nx = na + nb := by rw [hnx, HTL.out, ← hlb, HN.out.2.1]
      have hw : IntKind.i64.wrap ((na : Int) + (nb : Int)) = (na : Int) + (nb : Int) := IntWalk.i64_in _ (by omega)
      have HNN := Lib.hid hnx
      clear hlb hnx
      subst hnn
      clear hlt hle
      have hlt : ¬ (na : Int) + (nb : Int) < (na : Int) := by omega
      have hle : na ≤ na + nb := by omega
      go_enter Try.func3, Try.ntmps3
      go_wp2_with first
        | (rw [hW1])
        | (rw [hW2])
        | ((try rw [hW2]); go_at_call 4; (with_reducible refine Calls.mono (CA.out _ HW.out.2) ?_); rintro e w1 ⟨qa, ka, rfl, ⟨hka, hra⟩, b⟩
           go_loud (
           have k1 := HW.out.1.below b HW.out.1.lt
           obtain ⟨⟨z0, z1, z2, z3⟩, -⟩ := k1.four
           have H1 := Lib.hid (And.intro k1 (And.intro (HW.out.2.trans (b.mono HW.out.2.size)) hra))
           clear hra b k1))
        | (go_at_call 4; (with_reducible refine Calls.mono (CB.out _ H1.out.2.1) ?_); rintro e w2 ⟨qb, kb, rfl, ⟨hkb, hrb⟩, b⟩
           go_loud (
           obtain ⟨W3, hW3, k3, b3⟩ := newBox1 w2 5 (.int .u8 (u.toNat : Int))
           have hcv3 := one_str u W3 w2.heap.size (k3.cell 0 rfl)
           have k2 := H1.out.1.below b H1.out.1.lt
           obtain ⟨⟨p0, p1, p2, p3⟩, -⟩ := k2.four
           have k4 := k2.below b3 k2.lt
           obtain ⟨⟨q0, q1, q2, q3⟩, -⟩ := k4.four
           have H3 := Lib.hid (And.intro k4 (And.intro ((H1.out.2.1.trans (b.mono H1.out.2.1.size)).trans (b3.mono (Nat.le_trans H1.out.2.1.size b.size))) ((H1.out.2.2.on b).on b3)))
           clear hrb b b3 k2 k3 k4))
        | (rw [hW3])
        | ((try rw [hW3]); go_at_call 4; (with_reducible refine Calls.mono (CX.out _ H3.out.2.1) ?_); rintro e w4 ⟨qx, kx, rfl, ⟨hkx, hrx⟩, b⟩
           go_loud (
           have H4 := Lib.hid (And.intro (H3.out.2.1.trans (b.mono H3.out.2.1.size)) (And.intro (H3.out.2.2.on b) hrx))
           clear hrx b))
        | (go_at_call 6; (with_reducible refine Calls.mono (CQ.out _ _ _ _ _ (by have h := H4.out.2.2; rw [HP.out, stRow_append] at h; exact h.frontS) H4.out.2.1) ?_); rintro e w6 ⟨rfl, b⟩
           have H6 := Lib.hid (H4.out.1.trans (b.mono H4.out.1.size))
           clear b)
        | (go_at_call 5; (with_reducible refine Calls.mono (CL.out _) ?_); rintro e w5 ⟨rfl, b⟩; have HE := Lib.hid (H6.out.trans (b.mono H6.out.size)); clear b)
      all_goals
        go_ret
        exact ⟨rfl, HE.out⟩
    · have hbb : (eb == 0) = false := by simpa using hb0
      have HNN := Lib.hid hnx
      clear hnx
      go_enter Try.func3, Try.ntmps3
      go_wp2_with first
        | (rw [hW1])
        | (rw [hW2])
        | ((try rw [hW2]); go_at_call 4; (with_reducible refine Calls.mono (CA.out _ HW.out.2) ?_); rintro e w1 ⟨qa, ka, rfl, ⟨hka, hra⟩, b⟩
           go_loud (
           have k1 := HW.out.1.below b HW.out.1.lt
           obtain ⟨⟨z0, z1, z2, z3⟩, -⟩ := k1.four
           have H1 := Lib.hid (And.intro k1 (And.intro (HW.out.2.trans (b.mono HW.out.2.size)) hra))
           clear hra b k1))
        | (go_at_call 4; (with_reducible refine Calls.mono (CB.out _ H1.out.2.1) ?_); rintro e w2 ⟨qb, kb, rfl, ⟨hkb, hrb⟩, b⟩
           go_loud (
           obtain ⟨W3, hW3, k3, b3⟩ := newBox1 w2 5 (.int .u8 (u.toNat : Int))
           have hcv3 := one_str u W3 w2.heap.size (k3.cell 0 rfl)
           have k2 := H1.out.1.below b H1.out.1.lt
           obtain ⟨⟨p0, p1, p2, p3⟩, -⟩ := k2.four
           have k4 := k2.below b3 k2.lt
           obtain ⟨⟨q0, q1, q2, q3⟩, -⟩ := k4.four
           have H3 := Lib.hid (And.intro k4 (And.intro ((H1.out.2.1.trans (b.mono H1.out.2.1.size)).trans (b3.mono (Nat.le_trans H1.out.2.1.size b.size))) ((H1.out.2.2.on b).on b3)))
           clear hrb b b3 k2 k3 k4))
        | (rw [hW3])
        | ((try rw [hW3]); go_at_call 4; (with_reducible refine Calls.mono (CX.out _ H3.out.2.1) ?_); rintro e w4 ⟨qx, kx, rfl, ⟨hkx, hrx⟩, b⟩
           go_loud (
           have H4 := Lib.hid (And.intro (H3.out.2.1.trans (b.mono H3.out.2.1.size)) (And.intro (H3.out.2.2.on b) hrx))
           clear hrx b))
        | (go_at_call 6; (with_reducible refine Calls.mono (CQ.out _ _ _ _ _ (by have h := H4.out.2.2; rw [HP.out, stRow_append] at h; exact h.frontS) H4.out.2.1) ?_); rintro e w6 ⟨rfl, b⟩
           have H6 := Lib.hid (H4.out.1.trans (b.mono H4.out.1.size))
           clear b)
        | (go_at_call 5; (with_reducible refine Calls.mono (CL.out _) ?_); rintro e w5 ⟨rfl, b⟩; have HE := Lib.hid (H6.out.trans (b.mono H6.out.size)); clear b)
      all_goals
        go_ret
        exact ⟨rfl, HE.out⟩
  · have hxn : nx = 0 := by rw [← HN.out.2.2, HM.out.2.2 hx0]; rfl
    have hxb : (ex == 0) = false := by simpa using hx0
    subst hxn
    go_enter Try.func3, Try.ntmps3
    go_wp2_with first
      | (rw [hW1])
      | (rw [hW2])
      | ((try rw [hW2]); go_at_call 4; (with_reducible refine Calls.mono (CA.out _ HW.out.2) ?_); rintro e w1 ⟨qa, ka, rfl, ⟨hka, hra⟩, b⟩
         go_loud (
         have k1 := HW.out.1.below b HW.out.1.lt
         obtain ⟨⟨z0, z1, z2, z3⟩, -⟩ := k1.four
         have H1 := Lib.hid (And.intro k1 (And.intro (HW.out.2.trans (b.mono HW.out.2.size)) hra))
         clear hra b k1))
      | (go_at_call 4; (with_reducible refine Calls.mono (CB.out _ H1.out.2.1) ?_); rintro e w2 ⟨qb, kb, rfl, ⟨hkb, hrb⟩, b⟩
         go_loud (
         obtain ⟨W3, hW3, k3, b3⟩ := newBox1 w2 5 (.int .u8 (u.toNat : Int))
         have hcv3 := one_str u W3 w2.heap.size (k3.cell 0 rfl)
         have k2 := H1.out.1.below b H1.out.1.lt
         obtain ⟨⟨p0, p1, p2, p3⟩, -⟩ := k2.four
         have k4 := k2.below b3 k2.lt
         obtain ⟨⟨q0, q1, q2, q3⟩, -⟩ := k4.four
         have H3 := Lib.hid (And.intro k4 (And.intro ((H1.out.2.1.trans (b.mono H1.out.2.1.size)).trans (b3.mono (Nat.le_trans H1.out.2.1.size b.size))) ((H1.out.2.2.on b).on b3)))
         clear hrb b b3 k2 k3 k4))
      | (rw [hW3])
      | ((try rw [hW3]); go_at_call 4; (with_reducible refine Calls.mono (CX.out _ H3.out.2.1) ?_); rintro e w4 ⟨qx, kx, rfl, ⟨hkx, hrx⟩, b⟩
         go_loud (
         have H4 := Lib.hid (And.intro (H3.out.2.1.trans (b.mono H3.out.2.1.size)) (And.intro (H3.out.2.2.on b) hrx))
         clear hrx b))
      | (go_at_call 5; (with_reducible refine Calls.mono (CL.out _) ?_); rintro e w5 ⟨rfl, b⟩; have HE := Lib.hid (H4.out.1.trans (b.mono H4.out.1.size)); clear b)
    all_goals
      go_ret
      exact ⟨rfl, HE.out⟩
end Go.Proofs.Ytdkgnechiloimaa
