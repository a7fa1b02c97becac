/- Lines in pieces, the program's own: Cut where nothing is cut. -/
import Derived.Test.YtkebffkekinblaaZDuY
import Derived.Test.YtkebffkekinblaaZDsY
import Derived.Test.YtkebffkekinblaaZDuZ
namespace Go.Proofs.Ytkebffkekinblaa
open Go.RowKit Num

/-- the boxes of a line, of lines, of a number -/
theorem cut_boxes (w : World) (p b : Value) : ∃ W, ((w.alloc (.cells #[p, b] 24)).alloc (.cells #[.slice none 0 0] 26)).alloc (.cells #[.int .i64 0] 27) = W ∧ Box W w.heap.size 24 [p, b] ∧ Box W (w.heap.size + 1) 26 [.slice none 0 0] ∧ Box W (w.heap.size + 2) 27 [.int .i64 0] ∧ Below w.heap.size w W ∧ W.heap.size = w.heap.size + 3 := by
  obtain ⟨V, hV⟩ : ∃ V, (w.alloc (.cells #[p, b] 24)).alloc (.cells #[.slice none 0 0] 26) = V := ⟨_, rfl⟩
  have hs : V.heap.size = w.heap.size + 2 := by rw [← hV]; simp
  have k1 : Box V w.heap.size 24 [p, b] := by rw [← hV]; exact (Box.new w _ [p, b]).alloc _
  have k2 : Box V (w.heap.size + 1) 26 [.slice none 0 0] := by rw [← hV]; exact Box.at_new (w.alloc (.cells #[p, b] 24)) _ [.slice none 0 0] (by simp)
  have bV : Below w.heap.size w V := by rw [← hV]; exact ((Below.refl _ w).alloc (Nat.le_refl _) _).alloc (by simp) _
  rw [hV]
  exact ⟨_, rfl, k1.alloc _, k2.alloc _, Box.at_new V _ [.int .i64 0] (by omega), bV.alloc bV.size _, by simp [hs]⟩
/-- lines and a number, stored -/
theorem cut_store {V : World} {s : Nat} {a b : Value} (k1 : Box V (s + 1) 26 [a]) (k2 : Box V (s + 2) 27 [b]) (x y : Value) : ∃ U, (V.setCell ⟨s + 1, 0, none⟩ x).setCell ⟨s + 2, 0, none⟩ y = U ∧ (U.cell? ⟨s + 1, 0, none⟩ = some x ∧ U.cell? ⟨s + 2, 0, none⟩ = some y) ∧ Below (s + 1) V U := by
  refine ⟨_, rfl, ⟨?_, ?_⟩, ((Below.refl _ V).setCell (p := ⟨s + 1, 0, none⟩) (Nat.le_refl _) x).setCell (p := ⟨s + 2, 0, none⟩) (by show s + 1 ≤ s + 2; omega) y⟩
  · exact ((k1.set 0 x).far (p := ⟨s + 2, 0, none⟩) (by show s + 1 ≠ s + 2; omega) y).cell 0 rfl
  · exact ((k2.far (p := ⟨s + 1, 0, none⟩) (by show s + 2 ≠ s + 1; omega) x).set 0 y).cell 0 rfl

theorem grown_setU (w : World) (t i : Nat) (u : Value) : w.grownBy (w.setCell ⟨t, i, none⟩ u) (some t) :=
  ⟨rfl, rfl, rfl, by simp, fun k _ hne => Below.heap_setCell w _ u k (fun e => hne (by rw [e]))⟩
theorem own_setU {w : World} {base k n : Nat} {e : TypeId} {v : Value} {xs : List Value} (h : w.ownsRow base e k v n xs) {t : Nat} (ht : t < base) (i : Nat) (u : Value) : (w.setCell ⟨t, i, none⟩ u).ownsRow base e k v n xs := by
  refine h.kept (grown_setU w t i u) (.inr fun e => ?_)
  have := (h.lt t e).1
  omega
theorem OwnLn.setU {w : World} {base : Nat} {v : Value} {l : List Lv} (h : OwnLn w base v l) {t : Nat} (ht : t < base) (i : Nat) (u : Value) : OwnLn (w.setCell ⟨t, i, none⟩ u) base v l :=
  ⟨own_setU h.1 ht i u, fun x hx => own_setU (h.2 x hx) ht i u⟩
theorem h_set1 {W V : World} {s : Nat} {S : Prop} {v : Value} (h : S ∧ Below (s + 1) W V) : Below (s + 1) W (V.setCell ⟨s + 1, 0, none⟩ v) := h.2.setCell (p := ⟨s + 1, 0, none⟩) (Nat.le_refl _) v
theorem h_set2 {W V : World} {s : Nat} {S : Prop} {v : Value} (h : S ∧ Below (s + 1) W V) : Below (s + 1) W (V.setCell ⟨s + 2, 0, none⟩ v) := h.2.setCell (p := ⟨s + 2, 0, none⟩) (by show s + 1 ≤ s + 2; omega) v

set_option maxRecDepth 10000 in
set_option maxHeartbeats 6400000 in
theorem cut_early (L : List Pt) (A : Option Addr) (c : Nat) (cl : Bool) (P : List Int) (B : Option Addr) (d : Nat) (h : Int) (w : World) (hL : RdV w w.heap.size A (ptRow L)) (hl : L.length ≤ 1048576) (hP : RdV w w.heap.size B (icells P)) (hp : P.length ≤ 1048576) (hd : P.length ≤ d) (hno : ¬ (MayD P h ∧ FitL L ∧ P ≠ [])) :
    Calls Try.prog 6 #[.agg #[.slice A L.length c, .bool cl], .slice B P.length d, .int .i64 h] w (CutTo L cl P h w) := by
  obtain ⟨W, hW, k0, k1, k2, bW, sW⟩ := cut_boxes w (.slice A L.length c) (.bool cl)
  have HL := Lib.hid (hL.on bW)
  have c1 := fun V (hb : Below W.heap.size W V) => dash_May P B d h V ((hP.on bW).on hb) hp hd
  have c2 := fun V (hb : Below W.heap.size W V) => dash_fit L A c V (HL.out.on hb) (by omega)
  have c3 := fun V (hb : Below W.heap.size W V) => slices_CloneO L A c V (HL.out.on hb) (by omega)
  obtain ⟨⟨f0, f1⟩, -⟩ := Box.pair k0
  obtain ⟨nl, hnl⟩ : ∃ nl, L.length = nl := ⟨_, rfl⟩
  have HNL := Lib.hid hnl
  obtain ⟨np, hnp⟩ : ∃ np, P.length = np := ⟨_, rfl⟩
  rw [hnl] at c2 c3 k0 hW f0 ⊢
  rw [hnp] at c1 hd ⊢
  have HK := Lib.hid (And.intro k0 (And.intro k1 (And.intro k2 (And.intro bW sW))))
  have HST := Lib.hid (fun V (hb : Below W.heap.size W V) x y => show ∃ U, (V.setCell ⟨w.heap.size + 1, 0, none⟩ x).setCell ⟨w.heap.size + 2, 0, none⟩ y = U ∧ (U.cell? ⟨w.heap.size + 1, 0, none⟩ = some x ∧ U.cell? ⟨w.heap.size + 2, 0, none⟩ = some y) ∧ Below w.heap.size w U from by
    obtain ⟨U, hU, hu, bU⟩ := cut_store (k1.below hb k1.lt) (k2.below hb k2.lt) x y
    exact ⟨U, hU, hu, (bW.trans (hb.mono bW.size)).trans (bU.mono (by omega))⟩)
  unfold CutTo
  by_cases hm : MayD P h
  · rw [decide_eq_true hm] at c1
    have C1 := Lib.hid c1
    by_cases hf : FitL L
    · rw [decide_eq_true hf] at c2
      have C2 := Lib.hid c2
      have C3 := Lib.hid c3
      have hP0 : P = [] := Classical.byContradiction fun k => hno ⟨hm, hf, k⟩
      subst hP0
      obtain rfl : np = 0 := by rw [← hnp]; rfl
      rw [cutM_none hm hf]
      have HC := Lib.hid (fun V (hb : Below (w.heap.size + 1) W V) => show (V.cell? ⟨w.heap.size, 0, none⟩ = some (.slice A nl c) ∧ V.cell? ⟨w.heap.size, 1, none⟩ = some (.bool cl)) ∧ Below (w.heap.size + 1) W V from
        ⟨⟨(hb.cell (p := ⟨w.heap.size, 0, none⟩) (by show w.heap.size < _; omega)).trans f0, (hb.cell (p := ⟨w.heap.size, 1, none⟩) (by show w.heap.size < _; omega)).trans f1⟩, hb⟩)
      clear c1 c2 c3 hL hP hnl hnp k0 k1 k2 bW sW hm hf hno
      go_enter Try.func6, Try.ntmps6
      go_wp2_with first
        | (rw [hW])
        | (go_at_call 13; (with_reducible refine Calls.mono (C1.out _ (Below.refl _ _)) ?_); rintro e w1 ⟨rfl, b1⟩
           have G1 := Lib.hid b1
           obtain ⟨⟨f0, f1⟩, -⟩ := Box.pair (HK.out.1.below b1 HK.out.1.lt)
           clear b1)
        | (go_at_call 18; (with_reducible refine Calls.mono (C2.out _ G1.out) ?_); rintro e w2 ⟨rfl, b2⟩
           have G2 := Lib.hid (G1.out.trans (b2.mono G1.out.size))
           obtain ⟨⟨f0, f1⟩, -⟩ := Box.pair (HK.out.1.below G2.out HK.out.1.lt)
           have G2m := Lib.hid (show Below (w.heap.size + 1) W w2.drew ∧ w.heap.size + 1 ≤ w2.drew.heap.size ∧ Below W.heap.size W w2.drew from ⟨G2.out.drew.mono (by have h1 := HK.out.2.2.2.2; omega), by have h1 := HK.out.2.2.2.2; have h2 := G2.out.size; show w.heap.size + 1 ≤ w2.heap.size; omega, G2.out.drew⟩)
           have HP := Lib.hid (HC.out w2.drew G2m.out.1)
           clear b2)
      go_region_held3 (fun w' => (w'.cell? ⟨w.heap.size, 0, none⟩ = some (.slice A nl c) ∧ w'.cell? ⟨w.heap.size, 1, none⟩ = some (.bool cl)) ∧ Below (w.heap.size + 1) W w')
        (first
          | (with_reducible exact HP.out)
          | (with_reducible exact HC.out _ G3.out)
          | (with_reducible exact HC.out _ (G3.out.alloc (Nat.le_trans (by have h1 := HK.out.2.2.2.2; omega) G3.out.size) _))
          | (with_reducible exact HC.out _ (h_set1 (by assumption)))
          | (with_reducible exact HC.out _ (h_set2 (by assumption))))
        ((go_at_call 19; (with_reducible refine Calls.mono (C3.out _ G2m.out.2.2) ?_); rintro e w3 ⟨v, rfl, hown, b3⟩
          obtain ⟨q, k, rfl, hqk, -, hq⟩ := RdV.ofOwnK hown
          have G3 := Lib.hid (G2m.out.1.trans (b3.mono G2m.out.2.1))
          have B3 : Below W.heap.size W w3 := G2m.out.2.2.trans (b3.mono G2m.out.2.2.size)
          have e1 := HK.out.2.1.below B3 HK.out.2.1.lt
          have e2 := HK.out.2.2.1.below B3 HK.out.2.2.1.lt
          have r0 := (e1.alloc (.cells #[.slice q nl k, .bool cl] 24)).cell 0 rfl
          have r1 := (e2.alloc (.cells #[.slice q nl k, .bool cl] 24)).cell 0 rfl
          have r2 := (e1.alloc (.cells #[.slice q nl k, .bool cl] 24)).frozen 0
          have r3 := (e2.alloc (.cells #[.slice q nl k, .bool cl] 24)).frozen 0
          have HQ := Lib.hid (And.intro (own_mono (hown.alloc (.cells #[.slice q nl k, .bool cl] 24)) G2m.out.2.2.size) (And.intro B3 (And.intro e1 e2)))
          clear hown hq b3 B3 e1 e2))
      rename_i hHeld
      clear hHeld
      have hB4 : Below W.heap.size W (w3.alloc (.cells #[.slice q nl k, .bool cl] 24)) := HQ.out.2.1.alloc HQ.out.2.1.size _
      have hs3 := HK.out.2.2.2.2
      have hs4 := HQ.out.2.1.size
      have kB := ((Box.new w3 24 [.slice q nl k, .bool cl]).far (p := ⟨w.heap.size + 1, 0, none⟩) (by show w3.heap.size ≠ w.heap.size + 1; omega) (.slice (some ⟨w3.heap.size, 0, none⟩) 1 1)).far (p := ⟨w.heap.size + 2, 0, none⟩) (by show w3.heap.size ≠ w.heap.size + 2; omega) (.int .i64 0)
      have hrow := own_setU (own_setU HQ.out.1 (show w.heap.size + 1 < W.heap.size by omega) 0 (.slice (some ⟨w3.heap.size, 0, none⟩) 1 1)) (show w.heap.size + 2 < W.heap.size by omega) 0 (.int .i64 0)
      obtain ⟨U, hU, ⟨u0, u1⟩, bU⟩ := HST.out _ hB4 (.slice (some ⟨w3.heap.size, 0, none⟩) 1 1) (.int .i64 0)
      rw [show w.heap.size + 1 + 1 = w.heap.size + 2 from rfl]
      have kB2 : Box U w3.heap.size 24 [.slice q nl k, .bool cl] := by rw [← hU]; exact kB
      have hrow2 : U.ownsRow W.heap.size 36 2 (.slice q nl k) nl (ptRow L) := by rw [← hU]; exact hrow
      obtain ⟨q2, k2, he, -, -, hq2⟩ := RdV.ofOwnK hrow2
      cases he
      rw [hU]
      have HF := Lib.hid (And.intro kB2.rd (And.intro hq2 bU))
      clear hU kB kB2 hrow hrow2 hq2 bU hB4 hs3 hs4 r0 r1 r2 r3
      go_wp2_with fail
      refine bodyPost_ret (by simp [results, Try.results6, go_sem, u0, u1]) rfl ⟨⟨some ⟨w3.heap.size, 0, none⟩, 1, [⟨q, k, L, cl⟩], rfl, rfl, Nat.le_refl _, ?_, ?_⟩, HF.out.2.2⟩
      · rw [show lvRow [⟨q, k, L, cl⟩] = [.slice q nl k, .bool cl] from by rw [← HNL.out]; rfl]
        exact HF.out.1
      · intro x hx
        rw [List.mem_singleton] at hx
        subst hx
        exact HF.out.2.1
    · rw [decide_eq_false hf] at c2
      have C2 := Lib.hid c2
      rw [cutM_range hm hf]
      clear c1 c2 c3 hL hP hnl hnp k0 k1 k2 bW sW hm hf hno
      go_enter Try.func6, Try.ntmps6
      go_wp2_with first
        | (rw [hW])
        | (go_at_call 13; (with_reducible refine Calls.mono (C1.out _ (Below.refl _ _)) ?_); rintro e w1 ⟨rfl, b1⟩
           have G1 := Lib.hid b1
           obtain ⟨⟨f0, f1⟩, -⟩ := Box.pair (HK.out.1.below b1 HK.out.1.lt)
           clear b1)
        | (go_at_call 18; (with_reducible refine Calls.mono (C2.out _ G1.out) ?_); rintro e w2 ⟨rfl, b2⟩
           have G2 := Lib.hid (G1.out.trans (b2.mono G1.out.size))
           have r0 := (HK.out.2.1.below G2.out HK.out.2.1.lt).cell 0 rfl
           have r1 := (HK.out.2.2.1.below G2.out HK.out.2.2.1.lt).cell 0 rfl
           have r2 := (HK.out.2.1.below G2.out HK.out.2.1.lt).frozen 0
           have r3 := (HK.out.2.2.1.below G2.out HK.out.2.2.1.lt).frozen 0
           obtain ⟨U, hU, ⟨u0, u1⟩, bU⟩ := HST.out _ G2.out (.slice none 0 0) (.int .i64 4)
           have HU := Lib.hid (And.intro hU bU)
           clear b2 hU bU)
      try rw [HU.out.1]
      exact bodyPost_ret (by simp [results, Try.results6, go_sem, u0, u1]) rfl ⟨⟨none, 0, [], rfl, rfl, Nat.le_refl _, RdLn.nil _ _ _⟩, HU.out.2⟩
  · rw [decide_eq_false hm] at c1
    have C1 := Lib.hid c1
    rw [cutM_arg hm]
    clear c1 c2 c3 hL hP hnl hnp k0 k1 k2 bW sW hm hno
    go_enter Try.func6, Try.ntmps6
    go_wp2_with first
      | (rw [hW])
      | (go_at_call 13; (with_reducible refine Calls.mono (C1.out _ (Below.refl _ _)) ?_); rintro e w1 ⟨rfl, b1⟩
         have r0 := (HK.out.2.1.below b1 HK.out.2.1.lt).cell 0 rfl
         have r1 := (HK.out.2.2.1.below b1 HK.out.2.2.1.lt).cell 0 rfl
         have r2 := (HK.out.2.1.below b1 HK.out.2.1.lt).frozen 0
         have r3 := (HK.out.2.2.1.below b1 HK.out.2.2.1.lt).frozen 0
         obtain ⟨U, hU, ⟨u0, u1⟩, bU⟩ := HST.out _ b1 (.slice none 0 0) (.int .i64 2)
         have HU := Lib.hid (And.intro hU bU)
         clear b1 hU bU)
    try rw [HU.out.1]
    exact bodyPost_ret (by simp [results, Try.results6, go_sem, u0, u1]) rfl ⟨⟨none, 0, [], rfl, rfl, Nat.le_refl _, RdLn.nil _ _ _⟩, HU.out.2⟩
end Go.Proofs.Ytkebffkekinblaa
/- Lines in pieces, the program's own: what lies where while Cut goes round a pattern; how much is cut. -/

namespace Go.Proofs.Ytkebffkekinblaa
open Go Go.RowKit Go.Shelf Num

/-- a row that lies from a place on -/
def RdN (w : World) (N B : Nat) (p : Option Addr) (xs : List Value) : Prop := 0 < xs.length → ∃ b o, p = some ⟨b, o, none⟩ ∧ N ≤ b ∧ b < B ∧ ∀ j (hj : j < xs.length), w.cell? ⟨b, o + j, none⟩ = some xs[j]
theorem RdN.rd {w : World} {N B : Nat} {p : Option Addr} {xs : List Value} (h : RdN w N B p xs) : RdV w B p xs := fun hx => by
  obtain ⟨b, o, e, -, hb, hc⟩ := h hx
  exact ⟨b, o, e, hb, hc⟩
theorem RdN.mid {w w' : World} {N B : Nat} {p : Option Addr} {xs : List Value} (h : RdN w N B p xs) (hk : ∀ b, N ≤ b → b < B → w'.heap[b]? = w.heap[b]?) : RdN w' N B p xs := fun hx => by
  obtain ⟨b, o, e, hn, hb, hc⟩ := h hx
  refine ⟨b, o, e, hn, hb, fun j hj => ?_⟩
  rw [← hc j hj]
  exact World.cell?_of_block (w := w) (hk b hn hb)

theorem book_not_cells {o : Obj} (h : IsBook o) : ∀ vs t f, o ≠ .cells vs t f := by
  rintro vs t f rfl
  rcases h with ⟨r, e⟩ | ⟨d, e⟩ <;> cases e
theorem own_turned {w w' : World} {base k n : Nat} {e : TypeId} {v : Value} {xs : List Value} {row : Option Nat} (h : w.ownsRow base e k v n xs) (hg : w.grownBy w' row) (hr : ∀ r, row = some r → ∃ o, w.heap[r]? = some o ∧ IsBook o) : w'.ownsRow base e k v n xs := by
  refine h.kept hg ?_
  rcases h.2 with ⟨rfl, _⟩ | ⟨g, cap, cur, rfl, _, hgb, _⟩
  · exact .inl rfl
  · refine .inr fun e2 => ?_
    obtain ⟨o, ho, hb⟩ := hr g e2.symm
    rw [hgb] at ho
    cases ho
    exact book_not_cells hb _ _ _ rfl
/-- how the boxes lie -/
structure Ord (s a8 n3 g b0 : Nat) : Prop where
  h1 : s + 2 < a8
  h2 : a8 < n3
  h3 : n3 ≤ g
  h4 : g + 1 < b0
/-- what lies where between two rounds -/
structure CutK (s a8 n3 g b0 : Nat) (w W0 : World) (V : List Lv) (ov : Value) (f n y : Int) (W : World) : Prop where
  own : OwnLn W b0 ov V
  o8 : Box W a8 26 [ov]
  o11 : Box W g 3 [.int .i64 f]
  o12 : Box W (g + 1) 3 [.int .i64 n]
  r6 : Box W (s + 1) 26 [.slice none 0 0]
  r7 : Box W (s + 2) 27 [.int .i64 y]
  mid : ∀ b, n3 ≤ b → b < b0 → b ≠ g → b ≠ g + 1 → W.heap[b]? = W0.heap[b]?
  size : b0 ≤ W.heap.size
  below : Below s w W
section
variable {s a8 n3 g b0 : Nat} {w W0 W W' : World} {V : List Lv} {ov : Value} {f n y : Int}
theorem CutK.on (O : Ord s a8 n3 g b0) (h : CutK s a8 n3 g b0 w W0 V ov f n y W) (hb : Below W.heap.size W W') : CutK s a8 n3 g b0 w W0 V ov f n y W' := by
  obtain ⟨o1, o2, o3, o4⟩ := O
  have hs := h.size
  exact ⟨h.own.kept hb, h.o8.below hb (by omega), h.o11.below hb (by omega), h.o12.below hb (by omega), h.r6.below hb (by omega), h.r7.below hb (by omega), fun b h1 h2 h3 h4 => (hb.block b (by omega)).trans (h.mid b h1 h2 h3 h4), Nat.le_trans hs hb.size, h.below.trans (hb.mono (by omega))⟩
theorem CutK.turned (O : Ord s a8 n3 g b0) (h : CutK s a8 n3 g b0 w W0 V ov f n y W) {row : Option Nat} (hg : W.grownBy W' row) (hr : ∀ r, row = some r → b0 ≤ r ∧ ∃ o, W.heap[r]? = some o ∧ IsBook o) : CutK s a8 n3 g b0 w W0 V ov f n y W' := by
  obtain ⟨o1, o2, o3, o4⟩ := O
  have hs := h.size
  have hne : ∀ b, b < b0 → some b ≠ row := fun b hb e => by have := (hr b e.symm).1; omega
  have hbx : ∀ {b : Nat} {t : TypeId} {vs : List Value}, b < b0 → Box W b t vs → Box W' b t vs := fun hb k => (hg.block _ k.lt (hne _ hb)).trans k
  exact ⟨⟨own_turned h.own.1 hg (fun r e => (hr r e).2), fun x hx => own_turned (h.own.2 x hx) hg (fun r e => (hr r e).2)⟩, hbx (by omega) h.o8, hbx (by omega) h.o11, hbx (by omega) h.o12, hbx (by omega) h.r6, hbx (by omega) h.r7, fun b h1 h2 h3 h4 => (hg.block b (by omega) (hne b h2)).trans (h.mid b h1 h2 h3 h4), Nat.le_trans hs hg.size, h.below.grown hg (by omega) (fun k e => by have := (hr k e).1; omega)⟩
theorem CutK.set12 (O : Ord s a8 n3 g b0) (h : CutK s a8 n3 g b0 w W0 V ov f n y W) (n' : Int) : CutK s a8 n3 g b0 w W0 V ov f n' y (W.setCell ⟨g + 1, 0, none⟩ (.int .i64 n')) := by
  obtain ⟨o1, o2, o3, o4⟩ := O
  exact ⟨h.own.setU (by omega) 0 _, h.o8.far (p := ⟨g + 1, 0, none⟩) (by show a8 ≠ g + 1; omega) _, h.o11.far (p := ⟨g + 1, 0, none⟩) (by show g ≠ g + 1; omega) _, h.o12.set 0 _, h.r6.far (p := ⟨g + 1, 0, none⟩) (by show s + 1 ≠ g + 1; omega) _, h.r7.far (p := ⟨g + 1, 0, none⟩) (by show s + 2 ≠ g + 1; omega) _,
    fun b h1 h2 h3 h4 => (Below.heap_setCell W ⟨g + 1, 0, none⟩ _ b h4).trans (h.mid b h1 h2 h3 h4), by simpa using h.size, h.below.setCell (p := ⟨g + 1, 0, none⟩) (by show s ≤ g + 1; omega) _⟩
theorem CutK.set11 (O : Ord s a8 n3 g b0) (h : CutK s a8 n3 g b0 w W0 V ov f n y W) (f' : Int) : CutK s a8 n3 g b0 w W0 V ov f' n y (W.setCell ⟨g, 0, none⟩ (.int .i64 f')) := by
  obtain ⟨o1, o2, o3, o4⟩ := O
  exact ⟨h.own.setU (by omega) 0 _, h.o8.far (p := ⟨g, 0, none⟩) (by show a8 ≠ g; omega) _, h.o11.set 0 _, h.o12.far (p := ⟨g, 0, none⟩) (by show g + 1 ≠ g; omega) _, h.r6.far (p := ⟨g, 0, none⟩) (by show s + 1 ≠ g; omega) _, h.r7.far (p := ⟨g, 0, none⟩) (by show s + 2 ≠ g; omega) _,
    fun b h1 h2 h3 h4 => (Below.heap_setCell W ⟨g, 0, none⟩ _ b h3).trans (h.mid b h1 h2 h3 h4), by simpa using h.size, h.below.setCell (p := ⟨g, 0, none⟩) (by show s ≤ g; omega) _⟩
/-- a line more -/
theorem CutK.more (O : Ord s a8 n3 g b0) (h : CutK s a8 n3 g b0 w W0 V ov f n y W) {x : Lv} {v' : Value} (hx : W.ownsRow b0 36 2 x.hd x.pts.length (ptRow x.pts)) (hg : W.grownBy W' ov.ownBlock) (ho : W'.ownsRow b0 24 2 v' (V.length + 1) (lvRow V ++ lvCells x)) : CutK s a8 n3 g b0 w W0 (V ++ [x]) v' f n y (W'.setCell ⟨a8, 0, none⟩ v') := by
  obtain ⟨o1, o2, o3, o4⟩ := O
  have hs := h.size
  have hlt := h.own.lt
  have hne : ∀ b, b < b0 → some b ≠ ov.ownBlock := fun b hb e => by have := (hlt b e.symm).1; omega
  have hbx : ∀ {b : Nat} {t : TypeId} {vs : List Value}, b < b0 → Box W b t vs → Box W' b t vs := fun hb k => (hg.block _ k.lt (hne _ hb)).trans k
  exact ⟨(h.own.snoc hx hg ho).setU (by omega) 0 _, (hbx (by omega) h.o8).set 0 _, (hbx (by omega) h.o11).far (p := ⟨a8, 0, none⟩) (by show g ≠ a8; omega) _, (hbx (by omega) h.o12).far (p := ⟨a8, 0, none⟩) (by show g + 1 ≠ a8; omega) _, (hbx (by omega) h.r6).far (p := ⟨a8, 0, none⟩) (by show s + 1 ≠ a8; omega) _, (hbx (by omega) h.r7).far (p := ⟨a8, 0, none⟩) (by show s + 2 ≠ a8; omega) _,
    fun b h1 h2 h3 h4 => (Below.heap_setCell W' ⟨a8, 0, none⟩ _ b (by show b ≠ a8; omega)).trans ((hg.block b (by omega) (hne b h2)).trans (h.mid b h1 h2 h3 h4)), by simpa using Nat.le_trans hs hg.size, (h.below.grown hg (by omega) (fun k e => by have := (hlt k e).1; omega)).setCell (p := ⟨a8, 0, none⟩) (by show s ≤ a8; omega) _⟩
/-- no line, and what is wrong -/
theorem CutK.fail (O : Ord s a8 n3 g b0) (h : CutK s a8 n3 g b0 w W0 V ov f n y W) (z : Int) : CutK s a8 n3 g b0 w W0 V ov f n z ((W.setCell ⟨s + 1, 0, none⟩ (.slice none 0 0)).setCell ⟨s + 2, 0, none⟩ (.int .i64 z)) := by
  obtain ⟨o1, o2, o3, o4⟩ := O
  exact ⟨(h.own.setU (by omega) 0 _).setU (by omega) 0 _, (h.o8.far (p := ⟨s + 1, 0, none⟩) (by show a8 ≠ s + 1; omega) _).far (p := ⟨s + 2, 0, none⟩) (by show a8 ≠ s + 2; omega) _, (h.o11.far (p := ⟨s + 1, 0, none⟩) (by show g ≠ s + 1; omega) _).far (p := ⟨s + 2, 0, none⟩) (by show g ≠ s + 2; omega) _, (h.o12.far (p := ⟨s + 1, 0, none⟩) (by show g + 1 ≠ s + 1; omega) _).far (p := ⟨s + 2, 0, none⟩) (by show g + 1 ≠ s + 2; omega) _,
    (h.r6.set 0 _).far (p := ⟨s + 2, 0, none⟩) (by show s + 1 ≠ s + 2; omega) _, (h.r7.far (p := ⟨s + 1, 0, none⟩) (by show s + 2 ≠ s + 1; omega) _).set 0 _,
    fun b h1 h2 h3 h4 => (Below.heap_setCell _ ⟨s + 2, 0, none⟩ _ b (by show b ≠ s + 2; omega)).trans ((Below.heap_setCell W ⟨s + 1, 0, none⟩ _ b (by show b ≠ s + 1; omega)).trans (h.mid b h1 h2 h3 h4)), by simpa using h.size, (h.below.setCell (p := ⟨s + 1, 0, none⟩) (by show s ≤ s + 1; omega) _).setCell (p := ⟨s + 2, 0, none⟩) (by show s ≤ s + 2; omega) _⟩
/-- the boxes in the grown world, ahead of the store -/
theorem CutK.o8g (O : Ord s a8 n3 g b0) (h : CutK s a8 n3 g b0 w W0 V ov f n y W) (hg : W.grownBy W' ov.ownBlock) : Box W' a8 26 [ov] := by
  obtain ⟨o1, o2, o3, o4⟩ := O
  have hlt := h.own.lt
  exact (hg.block _ h.o8.lt (fun e => by have := (hlt a8 e.symm).1; omega)).trans h.o8
theorem CutK.o11g (O : Ord s a8 n3 g b0) (h : CutK s a8 n3 g b0 w W0 V ov f n y W) (hg : W.grownBy W' ov.ownBlock) : Box W' g 3 [.int .i64 f] := by
  obtain ⟨o1, o2, o3, o4⟩ := O
  have hlt := h.own.lt
  exact (hg.block _ h.o11.lt (fun e => by have := (hlt g e.symm).1; omega)).trans h.o11
end
theorem grow_othU {W W' : World} {base k n : Nat} {e : TypeId} {v : Value} {xs : List Value} (h : W.ownsRow base e k v n xs) (hg : W.grownBy W' v.ownBlock) : KeepsOthers W W' :=
  KeepsOthers.of_grownBy hg (fun j o ej ho => by
    rcases h.2 with ⟨rfl, _⟩ | ⟨g, cap, cur, rfl, _, hgb, _⟩
    · simp [Value.ownBlock] at ej
    · simp only [Value.ownBlock, Option.some.injEq] at ej
      subst ej
      rw [hgb] at ho
      cases ho
      rfl)
theorem below_othU {W W' : World} (h : Below W.heap.size W W') : KeepsOthers W W' :=
  ⟨h.size, fun k _ hk _ => (h.block k (Array.getElem?_eq_some_iff.1 hk).1).trans hk⟩

/-- how much is cut, place by place; the facts that a round keeps -/
def CutM (P : List Int) (L : List Pt) (cl : Bool) (E s0 : Int) (X : List Ln × Int) (i n : Nat) (V : List Ln) : Prop :=
  cutGo (pattP P) L cl E (2000 - i) i (goneP P i - s0) n V = X ∧ n ≤ 1000 ∧ i ≤ n + 16 ∧ (goneP P i - s0 ≤ 0 → n = 0) ∧ V.length ≤ n
section
variable {P : List Int} {L : List Pt} {cl : Bool} {E s0 h : Int} {X : List Ln × Int} {i n : Nat} {V : List Ln}
theorem CutM.lt (k : CutM P L cl E s0 X i n V) : i < 2000 := by
  obtain ⟨-, h1, h2, -, -⟩ := k
  omega
theorem cut_unfold (hp : 0 < P.length) (hi : i < 2000) : cutGo (pattP P) L cl E (2000 - i) i (goneP P i - s0) n V =
    if goneP P i - s0 < E then
      if 0 < goneP P (i + 1) - s0 then
        if 1000 < n + 1 then ([], 7) else cutGo (pattP P) L cl E (2000 - (i + 1)) (i + 1) (goneP P (i + 1) - s0) (n + 1) (cutStep L cl E i (goneP P i - s0) (goneP P (i + 1) - s0) V)
      else cutGo (pattP P) L cl E (2000 - (i + 1)) (i + 1) (goneP P (i + 1) - s0) n V
    else (V, 0) := by
  obtain ⟨f, hf⟩ : ∃ f, 2000 - i = f + 1 := ⟨2000 - i - 1, by omega⟩
  rw [hf, show 2000 - (i + 1) = f by omega]
  show (if _ then _ else _) = _
  rw [pattP_at hp i, show goneP P i - s0 + patAt P i = goneP P (i + 1) - s0 by simp only [goneP]; omega]
theorem CutM.skip (hm : MayD P h) (hp : 0 < P.length) (hs : s0 < totalP P) (hE : 0 ≤ E) (k : CutM P L cl E s0 X i n V) (hy : ¬ 0 < goneP P (i + 1) - s0) : CutM P L cl E s0 X (i + 1) n V := by
  have hlt := k.lt
  have hgl := goneP_le hm hp i (i + 1) (by omega)
  have hfew := gone_few hm hp hs (k := i + 1) (by omega)
  obtain ⟨k1, k2, k3, k4, k5⟩ := k
  rw [cut_unfold hp hlt, if_pos (by omega), if_neg hy] at k1
  exact ⟨k1, k2, by omega, fun _ => k4 (by omega), k5⟩
theorem CutM.many (hp : 0 < P.length) (k : CutM P L cl E s0 X i n V) (he : max (goneP P i - s0) 0 < E) (hy : 0 < goneP P (i + 1) - s0) (hn : 1000 < n + 1) : X = ([], 7) := by
  have hlt := k.lt
  obtain ⟨k1, -⟩ := k
  rw [cut_unfold hp hlt, if_pos (by omega), if_pos hy, if_pos hn] at k1
  exact k1.symm
theorem CutM.step (hp : 0 < P.length) (k : CutM P L cl E s0 X i n V) (he : max (goneP P i - s0) 0 < E) (hy : 0 < goneP P (i + 1) - s0) (hn : ¬ 1000 < n + 1) : CutM P L cl E s0 X (i + 1) (n + 1) (cutStep L cl E i (goneP P i - s0) (goneP P (i + 1) - s0) V) := by
  have hlt := k.lt
  obtain ⟨k1, k2, k3, k4, k5⟩ := k
  rw [cut_unfold hp hlt, if_pos (by omega), if_pos hy, if_neg hn] at k1
  refine ⟨k1, by omega, by omega, fun q => by omega, ?_⟩
  unfold cutStep
  split
  · rw [List.length_append]; simp; omega
  · omega
theorem CutM.done (hp : 0 < P.length) (hE : 0 ≤ E) (k : CutM P L cl E s0 X i n V) (he : ¬ max (goneP P i - s0) 0 < E) (hy : 0 < goneP P (i + 1) - s0) : X = (V, 0) := by
  have hlt := k.lt
  obtain ⟨k1, k2, k3, k4, k5⟩ := k
  rw [cut_unfold hp hlt] at k1
  by_cases ha : goneP P i - s0 < E
  · have hE0 : E = 0 := by omega
    have hn0 : n = 0 := k4 (by omega)
    subst hE0
    have hpc : cutStep L cl 0 i (goneP P i - s0) (goneP P (i + 1) - s0) V = V := by
      unfold cutStep
      rw [if_neg]
      rintro ⟨-, hq⟩
      rw [show max (goneP P i - s0) 0 = 0 by omega, show min (goneP P (i + 1) - s0) 0 = 0 by omega] at hq
      have := piece_none (l := L) (c := cl)
      omega
    rw [if_pos ha, if_pos hy, if_neg (by omega), hpc, cutGo_end (.inr (by omega))] at k1
    exact k1.symm
  · rw [if_neg ha] at k1
    exact k1.symm
end
end Go.Proofs.Ytkebffkekinblaa
/- Lines in pieces, the program's own: Cut. -/

namespace Go.Proofs.Ytkebffkekinblaa
open Go Go.RowKit Go.Shelf Num
attribute [local go_sem] Oper.semAt_some

theorem RdN.of {w : World} {N B : Nat} {p : Option Addr} {xs : List Value} (h : RdV w B p xs) (hn : ∀ b o, p = some ⟨b, o, none⟩ → N ≤ b) : RdN w N B p xs := fun hx => by
  obtain ⟨b, o, e, hb, hc⟩ := h hx
  exact ⟨b, o, e, hn b o e, hb, hc⟩
theorem RdN.grow {w w' : World} {N B B' : Nat} {p : Option Addr} {xs : List Value} (h : RdN w N B p xs) (hb : Below B w w') (hB : B ≤ B') : RdN w' N B' p xs := fun hx => by
  obtain ⟨b, o, e, hn, hl, hc⟩ := h hx
  exact ⟨b, o, e, hn, Nat.lt_of_lt_of_le hl hB, fun j hj => (hb.cell (p := ⟨b, o + j, none⟩) hl).trans (hc j hj)⟩

section
variable {X V' : World} {t u : TypeId} {x y z : Value}
/-- boxes that were made ahead of a call -/
theorem fr1 (b : Below (X.alloc (.cells #[z] u)).heap.size (X.alloc (.cells #[z] u)) V') : Box V' X.heap.size u [z] := (Box.new X u [z]).below b (Box.new X u [z]).lt
theorem fr2 (b : Below (X.alloc (.cells #[x, y] t)).heap.size (X.alloc (.cells #[x, y] t)) V') : Box V' X.heap.size t [x, y] := (Box.new X t [x, y]).below b (Box.new X t [x, y]).lt
theorem fr21 (b : Below ((X.alloc (.cells #[x, y] t)).alloc (.cells #[z] u)).heap.size ((X.alloc (.cells #[x, y] t)).alloc (.cells #[z] u)) V') : Box V' X.heap.size t [x, y] ∧ Box V' (X.heap.size + 1) u [z] := by
  have k1 := (Box.new X t [x, y]).alloc (.cells #[z] u)
  have k2 := Box.at_new (X.alloc (.cells #[x, y] t)) u [z] (g := X.heap.size + 1) (by simp)
  exact ⟨k1.below b k1.lt, k2.below b k2.lt⟩
theorem fr12 (b : Below ((X.alloc (.cells #[z] u)).alloc (.cells #[x, y] t)).heap.size ((X.alloc (.cells #[z] u)).alloc (.cells #[x, y] t)) V') : Box V' X.heap.size u [z] ∧ Box V' (X.heap.size + 1) t [x, y] := by
  have k1 := (Box.new X u [z]).alloc (.cells #[x, y] t)
  have k2 := Box.at_new (X.alloc (.cells #[z] u)) t [x, y] (g := X.heap.size + 1) (by simp)
  exact ⟨k1.below b k1.lt, k2.below b k2.lt⟩
theorem fr1d (b : Below (X.alloc (.cells #[z] u)).drew.heap.size (X.alloc (.cells #[z] u)).drew V') : Box V' X.heap.size u [z] := fr1 (X := X) ((Below.refl _ _).drew.trans b)
theorem fr2d (b : Below (X.alloc (.cells #[x, y] t)).drew.heap.size (X.alloc (.cells #[x, y] t)).drew V') : Box V' X.heap.size t [x, y] := fr2 (X := X) ((Below.refl _ _).drew.trans b)
theorem fr21d (b : Below ((X.alloc (.cells #[x, y] t)).alloc (.cells #[z] u)).drew.heap.size ((X.alloc (.cells #[x, y] t)).alloc (.cells #[z] u)).drew V') : Box V' X.heap.size t [x, y] ∧ Box V' (X.heap.size + 1) u [z] := fr21 ((Below.refl _ _).drew.trans b)
theorem fr12d (b : Below ((X.alloc (.cells #[z] u)).alloc (.cells #[x, y] t)).drew.heap.size ((X.alloc (.cells #[z] u)).alloc (.cells #[x, y] t)).drew V') : Box V' X.heap.size u [z] ∧ Box V' (X.heap.size + 1) t [x, y] := fr12 ((Below.refl _ _).drew.trans b)
end

/-- what the two boxes' making and filling leaves as it was -/
def EndK (V wc : World) (a9 a10 : Nat) : Prop := (∀ b, b < V.heap.size → b ≠ a9 → b ≠ a10 → wc.heap[b]? = V.heap[b]?) ∧ V.heap.size ≤ wc.heap.size
section
variable {V : World} {t u : TypeId} {x y z x0 y0 z0 : Value} {a b : Nat}
theorem keep_set {U : World} (p : Addr) (v : Value) (h : EndK V U a b) (hp : p.block = a ∨ p.block = b ∨ V.heap.size ≤ p.block) : EndK V (U.setCell p v) a b :=
  ⟨fun c hc h1 h2 => (Below.heap_setCell U p v c (fun e => by rcases hp with q | q | q <;> omega)).trans (h.1 c hc h1 h2), by simpa using h.2⟩
theorem keep_all {U : World} (o : Obj) (h : EndK V U a b) : EndK V (U.alloc o) a b :=
  ⟨fun c hc h1 h2 => (Below.heap_alloc U o c (Nat.lt_of_lt_of_le hc h.2)).trans (h.1 c hc h1 h2), Nat.le_trans h.2 (by simp)⟩
theorem keep_id : EndK V V a b := ⟨fun _ _ _ _ => rfl, Nat.le_refl _⟩
theorem end1 : Box ((V.alloc (.cells #[x, y] t)).alloc (.cells #[z] u)) V.heap.size t [x, y] ∧ Box ((V.alloc (.cells #[x, y] t)).alloc (.cells #[z] u)) (V.heap.size + 1) u [z] ∧ EndK V ((V.alloc (.cells #[x, y] t)).alloc (.cells #[z] u)) V.heap.size (V.heap.size + 1) :=
  ⟨(Box.new V t [x, y]).alloc _, Box.at_new (V.alloc (.cells #[x, y] t)) u [z] (by simp), keep_all _ (keep_all _ keep_id)⟩
theorem end2 : Box ((V.alloc (.cells #[z] u)).alloc (.cells #[x, y] t)) (V.heap.size + 1) t [x, y] ∧ Box ((V.alloc (.cells #[z] u)).alloc (.cells #[x, y] t)) V.heap.size u [z] ∧ EndK V ((V.alloc (.cells #[z] u)).alloc (.cells #[x, y] t)) (V.heap.size + 1) V.heap.size :=
  ⟨Box.at_new (V.alloc (.cells #[z] u)) t [x, y] (by simp), (Box.new V u [z]).alloc _, keep_all _ (keep_all _ keep_id)⟩
theorem end3 (k : Box V a t [x0, y0]) : Box ((((V.alloc (.cells #[z0] u)).setCell ⟨a, 0, none⟩ x).setCell ⟨a, 1, none⟩ y).setCell ⟨V.heap.size, 0, none⟩ z) a t [x, y] ∧ Box ((((V.alloc (.cells #[z0] u)).setCell ⟨a, 0, none⟩ x).setCell ⟨a, 1, none⟩ y).setCell ⟨V.heap.size, 0, none⟩ z) V.heap.size u [z] ∧ EndK V ((((V.alloc (.cells #[z0] u)).setCell ⟨a, 0, none⟩ x).setCell ⟨a, 1, none⟩ y).setCell ⟨V.heap.size, 0, none⟩ z) a V.heap.size := by
  have hne := Nat.ne_of_lt k.lt
  refine ⟨?_, ?_, keep_set _ _ (keep_set _ _ (keep_set _ _ (keep_all _ keep_id) (.inl rfl)) (.inl rfl)) (.inr (.inl rfl))⟩
  · exact (((k.alloc (.cells #[z0] u)).set 0 x).set 1 y).far (p := ⟨V.heap.size, 0, none⟩) hne z
  · exact (((Box.new V u [z0]).far (p := ⟨a, 0, none⟩) (Ne.symm hne) x).far (p := ⟨a, 1, none⟩) (Ne.symm hne) y).set 0 z
theorem end4 (k : Box V b u [z0]) : Box ((V.alloc (.cells #[x, y] t)).setCell ⟨b, 0, none⟩ z) V.heap.size t [x, y] ∧ Box ((V.alloc (.cells #[x, y] t)).setCell ⟨b, 0, none⟩ z) b u [z] ∧ EndK V ((V.alloc (.cells #[x, y] t)).setCell ⟨b, 0, none⟩ z) V.heap.size b := by
  have hne := Nat.ne_of_lt k.lt
  refine ⟨?_, ?_, keep_set _ _ (keep_all _ keep_id) (.inr (.inl rfl))⟩
  · exact (Box.new V t [x, y]).far (p := ⟨b, 0, none⟩) (Ne.symm hne) z
  · exact (k.alloc (.cells #[x, y] t)).set 0 z
theorem end5 (k : Box V a t [x0, y0]) (k2 : Box V b u [z0]) (hne : a ≠ b) : Box (((V.setCell ⟨a, 0, none⟩ x).setCell ⟨a, 1, none⟩ y).setCell ⟨b, 0, none⟩ z) a t [x, y] ∧ Box (((V.setCell ⟨a, 0, none⟩ x).setCell ⟨a, 1, none⟩ y).setCell ⟨b, 0, none⟩ z) b u [z] ∧ EndK V (((V.setCell ⟨a, 0, none⟩ x).setCell ⟨a, 1, none⟩ y).setCell ⟨b, 0, none⟩ z) a b := by
  refine ⟨?_, ?_, keep_set _ _ (keep_set _ _ (keep_set _ _ keep_id (.inl rfl)) (.inl rfl)) (.inr (.inl rfl))⟩
  · exact ((k.set 0 x).set 1 y).far (p := ⟨b, 0, none⟩) hne z
  · exact ((k2.far (p := ⟨a, 0, none⟩) (Ne.symm hne) x).far (p := ⟨a, 1, none⟩) (Ne.symm hne) y).set 0 z
end
theorem sz2 (X : World) (o o' : Obj) : ((X.alloc o).alloc o').drew.heap.size = X.heap.size + 2 := by
  show ((X.alloc o).alloc o').heap.size = _
  simp
theorem sz1 (X : World) (o : Obj) : (X.alloc o).drew.heap.size = X.heap.size + 1 := by
  show (X.alloc o).heap.size = _
  simp
theorem fresh_at {V w9 : World} {q r : Option Addr} (hqr : ∀ b o, (q = some ⟨b, o, none⟩ ∨ r = some ⟨b, o, none⟩) → V.heap.size ≤ b) (_b : Below V.heap.size V w9) : ∃ n, n = V.heap.size ∧ ∀ b o, (q = some ⟨b, o, none⟩ ∨ r = some ⟨b, o, none⟩) → n ≤ b := ⟨_, rfl, hqr⟩
theorem from9_1 {X V : World} {o : Obj} (b : Below (X.alloc o).heap.size (X.alloc o) V) : Below X.heap.size X V := ((Below.refl _ X).alloc (Nat.le_refl _) o).trans (b.mono (by simp))
theorem from9_2 {X V : World} {o o' : Obj} (b : Below ((X.alloc o).alloc o').heap.size ((X.alloc o).alloc o') V) : Below X.heap.size X V := from9_1 (from9_1 b)
theorem cst2 {S : Prop} {W3 V : World} {g : Nat} {x y : Value} (h : S ∧ Below W3.heap.size W3 V) (hg : W3.heap.size ≤ g) : Below W3.heap.size W3 ((V.setCell ⟨g, 0, none⟩ x).setCell ⟨g, 1, none⟩ y) := (h.2.setCell (p := ⟨g, 0, none⟩) hg x).setCell (p := ⟨g, 1, none⟩) hg y
theorem cst1 {S : Prop} {W3 V : World} {g : Nat} {x : Value} (h : S ∧ Below W3.heap.size W3 V) (hg : W3.heap.size ≤ g) : Below W3.heap.size W3 (V.setCell ⟨g, 0, none⟩ x) := h.2.setCell (p := ⟨g, 0, none⟩) hg x
theorem rows_end {V w9 wc : World} {a9 a10 VS N : Nat} {q : Option Addr} {xs : List Value} (hq : RdV w9 w9.heap.size q xs) (hf : ∀ b o, q = some ⟨b, o, none⟩ → VS ≤ b) (h10 : Below w9.heap.size w9 V) (hk : EndK V wc a9 a10) (g9 : a9 < VS ∨ w9.heap.size ≤ a9) (g10 : a10 < VS ∨ w9.heap.size ≤ a10) (hN : N ≤ VS) : RdN wc N wc.heap.size q xs := fun hx => by
  obtain ⟨b, o, e, hb, hc⟩ := hq hx
  have hv := hf b o e
  have hbV := Nat.lt_of_lt_of_le hb h10.size
  refine ⟨b, o, e, by omega, Nat.lt_of_lt_of_le hbV hk.2, fun j hj => ?_⟩
  rw [← hc j hj]
  exact World.cell?_of_block (w := w9) ((hk.1 b hbV (by omega) (by omega)).trans (h10.block b hb))
/-- what lies where behind the statement that makes the tape and the length -/
def TapeAt (W3 : World) (p : List Pt) (m : Nat) (E : Int) (v9 v10 : Value) (wc : World) : Prop :=
  ∃ a9 a10 q k r j, v9 = .pointer (some ⟨a9, 0, none⟩) ∧ v10 = .pointer (some ⟨a10, 0, none⟩) ∧ Box wc a9 48 [.slice q m k, .slice r m j] ∧ Box wc a10 3 [.int .i64 E] ∧ (W3.heap.size ≤ a9 ∧ W3.heap.size ≤ a10) ∧ m ≤ k ∧ RdN wc W3.heap.size wc.heap.size q (ptRow p) ∧ RdN wc W3.heap.size wc.heap.size r (icells (farL p)) ∧ Below W3.heap.size W3 wc
theorem cut_rel {W3 w9 V wc : World} {a9 a10 VS k j m : Nat} {q r : Option Addr} {E : Int} {p : List Pt} (he : Box wc a9 48 [.slice q m k, .slice r m j] ∧ Box wc a10 3 [.int .i64 E] ∧ EndK V wc a9 a10) (hB : Below W3.heap.size W3 wc) (hmk : m ≤ k) (hq : RdV w9 w9.heap.size q (ptRow p)) (hr : RdV w9 w9.heap.size r (icells (farL p)))
    (hf : ∀ b o, (q = some ⟨b, o, none⟩ ∨ r = some ⟨b, o, none⟩) → VS ≤ b) (h10 : Below w9.heap.size w9 V) (g9 : a9 < VS ∨ w9.heap.size ≤ a9) (g10 : a10 < VS ∨ w9.heap.size ≤ a10) (hN : W3.heap.size ≤ VS) (n9 : W3.heap.size ≤ a9) (n10 : W3.heap.size ≤ a10) : TapeAt W3 p m E (.pointer (some ⟨a9, 0, none⟩)) (.pointer (some ⟨a10, 0, none⟩)) wc :=
  ⟨a9, a10, q, k, r, j, rfl, rfl, he.1, he.2.1, ⟨n9, n10⟩, hmk, rows_end hq (fun b o e => hf b o (.inl e)) h10 he.2.2 g9 g10 hN, rows_end hr (fun b o e => hf b o (.inr e)) h10 he.2.2 g9 g10 hN, hB⟩

theorem Box.book {W : World} {g D : Nat} {t : TypeId} {vs : List Value} (h : Box W g t vs) (hK : W.heap[D]? = some (.deferred (some []))) : Box (W.putObj D (.deferred none)) g t vs := by
  refine (World.putObj_heap_other ?_).trans h
  rintro rfl
  unfold Box at h
  rw [hK] at h
  cases h
theorem OwnLn.book {W : World} {base D : Nat} {v : Value} {l : List Lv} (h : OwnLn W base v l) (hK : W.heap[D]? = some (.deferred (some []))) : OwnLn (W.putObj D (.deferred none)) base v l :=
  ⟨own_turned h.1 (grownBy_putObj' W D (.deferred none)) (fun r e => by cases e; exact ⟨_, hK, .inr ⟨_, rfl⟩⟩), fun x hx => own_turned (h.2 x hx) (grownBy_putObj' W D (.deferred none)) (fun r e => by cases e; exact ⟨_, hK, .inr ⟨_, rfl⟩⟩)⟩
theorem KpS_of {s a8 n3 g b0 : Nat} {w W0 W W' : World} {V V' : List Lv} {ov ov' : Value} {f f' n n' y y' : Int} {Bp Bq : Nat} (h : CutK s a8 n3 g b0 w W0 V ov f n y W) (h' : CutK s a8 n3 g b0 w W0 V' ov' f' n' y' W') (hs : W.heap.size ≤ W'.heap.size) (hp : n3 ≤ Bp ∧ Bp < b0 ∧ Bp ≠ g ∧ Bp ≠ g + 1) (hq : n3 ≤ Bq ∧ Bq < b0 ∧ Bq ≠ g ∧ Bq ≠ g + 1) : KpS s Bp Bq W W' :=
  ⟨hs, fun b hb _ => by
    rcases hb with hb | rfl | rfl
    · exact (h'.below.block b hb).trans (h.below.block b hb).symm
    · exact (h'.mid b hp.1 hp.2.1 hp.2.2.1 hp.2.2.2).trans (h.mid b hp.1 hp.2.1 hp.2.2.1 hp.2.2.2).symm
    · exact (h'.mid b hq.1 hq.2.1 hq.2.2.1 hq.2.2.2).trans (h.mid b hq.1 hq.2.1 hq.2.2.1 hq.2.2.2).symm⟩

set_option maxRecDepth 100000 in
set_option maxHeartbeats 12800000 in
theorem cut_main (L : List Pt) (A : Option Addr) (c : Nat) (cl : Bool) (P : List Int) (B : Option Addr) (d : Nat) (h : Int) (w : World) (hL : RdV w w.heap.size A (ptRow L)) (hl : L.length ≤ 1048576) (hc : L.length ≤ c) (hP : RdV w w.heap.size B (icells P)) (hd : P.length ≤ d) (hm : MayD P h) (hf : FitL L) (hP0 : P ≠ []) :
    Calls Try.prog 6 #[.agg #[.slice A L.length c, .bool cl], .slice B P.length d, .int .i64 h] w (CutTo L cl P h w) := by
  refine (callsIn_wide (n := 8)).1 ?_
  refine callsIn_of_wp_marks Try.func6 rfl trivial ?_ rfl
  simp only [Try.ntmps6, List.size_toArray, List.length_cons, List.length_nil, Nat.reduceAdd, Nat.reduceSub, Array.replicate_succ, Array.replicate_zero, List.push_toArray, List.append_toArray, List.nil_append, List.cons_append]
  refine wpIn_wide.2 ?_
  obtain ⟨W, hW, k0, k1, k2, bW, sW⟩ := cut_boxes w (.slice A L.length c) (.bool cl)
  have HL := Lib.hid (hL.on bW)
  have c1 := fun V (hb : Below W.heap.size W V) => dash_May P B d h V ((hP.on bW).on hb) (by have := hm.1; omega) hd
  have c2 := fun V (hb : Below W.heap.size W V) => dash_fit L A c V (HL.out.on hb) (by omega)
  have c3 := fun V (hb : Below W.heap.size W V) => dash_lay L A c cl V (HL.out.on hb) hl
  have c4 := fun V (hb : Below W.heap.size W V) => gauge_Long L A c cl V (HL.out.on hb) (by omega) hc
  have hpos : 0 < P.length := List.length_pos_iff.2 hP0
  rw [decide_eq_true hm] at c1
  rw [decide_eq_true hf] at c2
  unfold Laid at c3
  obtain ⟨⟨f0, f1⟩, -⟩ := Box.pair k0
  obtain ⟨E, hE⟩ : ∃ E, longM L cl = E := ⟨_, rfl⟩
  simp only [hE] at c4
  obtain ⟨p, hp⟩ : ∃ p, ringP L cl = p := ⟨_, rfl⟩
  simp only [hp] at c3
  obtain ⟨m, hm2⟩ : ∃ m, p.length = m := ⟨_, rfl⟩
  rw [hm2] at c3
  obtain ⟨nl, hnl⟩ : ∃ nl, L.length = nl := ⟨_, rfl⟩
  obtain ⟨np, hnp⟩ : ∃ np, P.length = np := ⟨_, rfl⟩
  have HNP := Lib.hid hnp
  rw [hnl] at c2 c3 c4 k0 hW f0 ⊢
  rw [hnp] at c1 hd hpos ⊢
  have hnpz : ((np : Int) == 0) = false := by simp; omega
  have HK := Lib.hid (And.intro k0 (And.intro k1 (And.intro k2 (And.intro bW sW))))
  have C1 := Lib.hid c1
  have C2 := Lib.hid c2
  have C3 := Lib.hid c3
  have C4 := Lib.hid c4
  clear c1 c2 c3 c4 hL hnl hnp k0 k1 k2 bW sW
  go_wp2_with first
    | (rw [hW])
    | (go_at_call 13; (with_reducible refine Calls.mono (C1.out _ (Below.refl _ _)) ?_); rintro e w1 ⟨rfl, b1⟩
       have G1 := Lib.hid b1
       obtain ⟨⟨f0, f1⟩, -⟩ := Box.pair (HK.out.1.below b1 HK.out.1.lt)
       clear b1)
    | (go_at_call 18; (with_reducible refine Calls.mono (C2.out _ G1.out) ?_); rintro e w2 ⟨rfl, b2⟩
       have G2 := Lib.hid (G1.out.trans (b2.mono G1.out.size))
       obtain ⟨W3, hW3, k3, b3⟩ := one_box w2 26 (.slice none 0 0)
       have G3 := Lib.hid (show Below W.heap.size W W3 ∧ Box W3 w2.heap.size 26 [.slice none 0 0] from ⟨G2.out.trans (b3.mono G2.out.size), k3⟩)
       obtain ⟨⟨f0, f1⟩, -⟩ := Box.pair (HK.out.1.below G3.out.1 HK.out.1.lt)
       clear b2 k3 b3)
    | (rw [hW3])
  clear f0 f1
  obtain ⟨⟨f0, f1⟩, -⟩ := Box.pair (HK.out.1.below G3.out.1 HK.out.1.lt)
  have hsz := G3.out.1.size
  have hsw : w.heap.size + 3 ≤ W.heap.size := by have h1 := HK.out.2.2.2.2; omega
  have HC := Lib.hid (fun V (hb : Below W3.heap.size W3 V) => show (V.cell? ⟨w.heap.size, 0, none⟩ = some (.slice A nl c) ∧ V.cell? ⟨w.heap.size, 1, none⟩ = some (.bool cl)) ∧ Below W3.heap.size W3 V from
    ⟨⟨(hb.cell (p := ⟨w.heap.size, 0, none⟩) (by show w.heap.size < _; omega)).trans f0, (hb.cell (p := ⟨w.heap.size, 1, none⟩) (by show w.heap.size < _; omega)).trans f1⟩, hb⟩)
  have HP3 := Lib.hid (HC.out W3.drew (Below.refl _ _).drew)
  have HG := Lib.hid (fun V (hb : Below W3.heap.size W3 V) => show Below W.heap.size W V from G3.out.1.trans (hb.mono G3.out.1.size))
  go_cut [9, 10] from 37 to 40 (fun v9 v10 wc => TapeAt W3 p m E v9 v10 wc)
  case first =>
    go_region_held3 (fun w' => (w'.cell? ⟨w.heap.size, 0, none⟩ = some (.slice A nl c) ∧ w'.cell? ⟨w.heap.size, 1, none⟩ = some (.bool cl)) ∧ Below W3.heap.size W3 w')
      (first
        | (with_reducible exact HP3.out)
        | (with_reducible exact HC.out _ ((low3 (by assumption)).trans (b9.mono (low3 (by assumption)).size)))
        | (with_reducible exact HC.out _ ((low3 (by assumption)).trans (b10.mono (low3 (by assumption)).size)))
        | (with_reducible exact HC.out _ ((low3 (by assumption)).alloc (low3 (by assumption)).size _))
        | (with_reducible exact HC.out _ (((low3 (by assumption)).alloc (low3 (by assumption)).size _).drew))
        | (with_reducible exact HC.out _ ((SB.out.alloc SB.out.size _).alloc (Nat.le_trans SB.out.size (by simp)) _))
        | (with_reducible exact HC.out _ (SB.out.alloc SB.out.size _))
        | ((with_reducible refine HC.out _ (cst2 (by assumption) ?_)); first | exact Nat.le_refl _ | omega)
        | ((with_reducible refine HC.out _ (cst1 (by assumption) ?_)); first | exact Nat.le_refl _ | omega)
        | trace "KEEP")
      ((first
        | (go_at_call 20; (with_reducible refine Calls.mono (C3.out _ (HG.out _ (low3 (by assumption)))) ?_); rintro e w9 ⟨⟨q, k, r, j, rfl, hmk, -, hq, hr, hqr⟩, b9⟩; obtain ⟨VS, hVS, hqv⟩ := fresh_at hqr b9; (have HQ9 := Lib.hid (And.intro hq (And.intro hr hqv))); clear hq hr hqr hqv
           try first
             | (with_reducible have kab := fr21d b9; obtain ⟨ka, kb⟩ := kab; (have HVS := Lib.hid (hVS.trans (sz2 _ _ _))); clear hVS; obtain ⟨⟨x0, x1⟩, x2, x3⟩ := Box.pair ka; (have y0 := kb.cell 0 rfl); (have y1 := kb.frozen 0))
             | (with_reducible have kab := fr12d b9; obtain ⟨kb, ka⟩ := kab; (have HVS := Lib.hid (hVS.trans (sz2 _ _ _))); clear hVS; obtain ⟨⟨x0, x1⟩, x2, x3⟩ := Box.pair ka; (have y0 := kb.cell 0 rfl); (have y1 := kb.frozen 0))
             | (with_reducible have ka := fr2d b9; (have HVS := Lib.hid (hVS.trans (sz1 _ _))); clear hVS; obtain ⟨⟨x0, x1⟩, x2, x3⟩ := Box.pair ka)
             | (with_reducible have kb := fr1d b9; (have HVS := Lib.hid (hVS.trans (sz1 _ _))); clear hVS; (have y0 := kb.cell 0 rfl); (have y1 := kb.frozen 0))
             | ((have HVS := Lib.hid (show VS = W3.heap.size from hVS)); clear hVS))
        | (go_at_call 21; (with_reducible refine Calls.mono (C4.out _ (HG.out _ (low3 (by assumption)))) ?_); rintro e w10 ⟨rfl, b10⟩
           (have SB := Lib.hid ((low3 (by assumption)).trans (b10.mono (low3 (by assumption)).size))); (have B10 := Lib.hid (show Below w9.heap.size w9 w10 from by first | with_reducible exact b10 | with_reducible exact from9_1 b10 | with_reducible exact from9_2 b10)); (have s9 := b9.size); (have s10 := b10.size); (try simp at s9); (try simp at s10); (try have s11 : W3.heap.size ≤ w9.heap.size := b9.size); (try have n1 : ¬ W3.heap.size = w9.heap.size := by omega); (try have m1 : ¬ w9.heap.size = W3.heap.size := by omega); (try have n2 : ¬ W3.heap.size = w10.heap.size := by omega); (try have m2 : ¬ w10.heap.size = W3.heap.size := by omega); (try have n3 : ¬ W3.heap.size + 1 = w9.heap.size := by omega); (try have m3 : ¬ w9.heap.size = W3.heap.size + 1 := by omega); (try have n4 : ¬ W3.heap.size + 1 = w10.heap.size := by omega); (try have m4 : ¬ w10.heap.size = W3.heap.size + 1 := by omega); (try have n5 : ¬ w9.heap.size = w10.heap.size := by omega); (try have m5 : ¬ w10.heap.size = w9.heap.size := by omega); (try have n6 : ¬ w9.heap.size + 1 = w10.heap.size := by omega); (try have m6 : ¬ w10.heap.size = w9.heap.size + 1 := by omega)
           try first
             | (with_reducible have kcd := fr21 b10; obtain ⟨kc, kd⟩ := kcd; obtain ⟨⟨x0, x1⟩, x2, x3⟩ := Box.pair kc; obtain ⟨⟨x4, x5⟩, x6, x7⟩ := Box.pair (kc.alloc (.cells #[.int .i64 0] 3)); (have y0 := kd.cell 0 rfl); (have y1 := kd.frozen 0); (have y2 := (kd.alloc (.cells #[.slice none 0 0, .slice none 0 0] 48)).cell 0 rfl); (have y3 := (kd.alloc (.cells #[.slice none 0 0, .slice none 0 0] 48)).frozen 0); (have y4 := (kd.alloc (.cells #[.slice q m k, .slice r m j] 48)).cell 0 rfl); (have y5 := (kd.alloc (.cells #[.slice q m k, .slice r m j] 48)).frozen 0))
             | (with_reducible have kcd := fr12 b10; obtain ⟨kd, kc⟩ := kcd; obtain ⟨⟨x0, x1⟩, x2, x3⟩ := Box.pair kc; obtain ⟨⟨x4, x5⟩, x6, x7⟩ := Box.pair (kc.alloc (.cells #[.int .i64 0] 3)); (have y0 := kd.cell 0 rfl); (have y1 := kd.frozen 0); (have y2 := (kd.alloc (.cells #[.slice none 0 0, .slice none 0 0] 48)).cell 0 rfl); (have y3 := (kd.alloc (.cells #[.slice none 0 0, .slice none 0 0] 48)).frozen 0); (have y4 := (kd.alloc (.cells #[.slice q m k, .slice r m j] 48)).cell 0 rfl); (have y5 := (kd.alloc (.cells #[.slice q m k, .slice r m j] 48)).frozen 0))
             | (with_reducible have kc := fr2 b10; obtain ⟨⟨x0, x1⟩, x2, x3⟩ := Box.pair kc; obtain ⟨⟨x4, x5⟩, x6, x7⟩ := Box.pair (kc.alloc (.cells #[.int .i64 0] 3)); try (have kd := (kb.alloc _).below b10 (by first | exact Box.lt (by assumption) | (have q1 := Box.lt ka; simp; omega) | (have q2 := Box.lt kb; simp; omega)); (have y0 := kd.cell 0 rfl); (have y1 := kd.frozen 0); (have y2 := (kd.alloc (.cells #[.slice none 0 0, .slice none 0 0] 48)).cell 0 rfl); (have y3 := (kd.alloc (.cells #[.slice none 0 0, .slice none 0 0] 48)).frozen 0); (have y4 := (kd.alloc (.cells #[.slice q m k, .slice r m j] 48)).cell 0 rfl); (have y5 := (kd.alloc (.cells #[.slice q m k, .slice r m j] 48)).frozen 0)))
             | (with_reducible have kd := fr1 b10; (have y0 := kd.cell 0 rfl); (have y1 := kd.frozen 0); (have y2 := (kd.alloc (.cells #[.slice none 0 0, .slice none 0 0] 48)).cell 0 rfl); (have y3 := (kd.alloc (.cells #[.slice none 0 0, .slice none 0 0] 48)).frozen 0); (have y4 := (kd.alloc (.cells #[.slice q m k, .slice r m j] 48)).cell 0 rfl); (have y5 := (kd.alloc (.cells #[.slice q m k, .slice r m j] 48)).frozen 0); try (have kc := (ka.alloc _).below b10 (by first | exact Box.lt (by assumption) | (have q1 := Box.lt ka; simp; omega) | (have q2 := Box.lt kb; simp; omega)); obtain ⟨⟨x0, x1⟩, x2, x3⟩ := Box.pair kc; obtain ⟨⟨x4, x5⟩, x6, x7⟩ := Box.pair (kc.alloc (.cells #[.int .i64 0] 3))))
             | ((try (have kc := ka.below b10 (by first | exact Box.lt (by assumption) | (have q1 := Box.lt ka; simp; omega) | (have q2 := Box.lt kb; simp; omega)); obtain ⟨⟨x0, x1⟩, x2, x3⟩ := Box.pair kc; obtain ⟨⟨x4, x5⟩, x6, x7⟩ := Box.pair (kc.alloc (.cells #[.int .i64 0] 3)))); (try (have kd := kb.below b10 (by first | exact Box.lt (by assumption) | (have q1 := Box.lt ka; simp; omega) | (have q2 := Box.lt kb; simp; omega)); (have y0 := kd.cell 0 rfl); (have y1 := kd.frozen 0); (have y2 := (kd.alloc (.cells #[.slice none 0 0, .slice none 0 0] 48)).cell 0 rfl); (have y3 := (kd.alloc (.cells #[.slice none 0 0, .slice none 0 0] 48)).frozen 0); (have y4 := (kd.alloc (.cells #[.slice q m k, .slice r m j] 48)).cell 0 rfl); (have y5 := (kd.alloc (.cells #[.slice q m k, .slice r m j] 48)).frozen 0)))))))
    all_goals
      rename_i hHeld
      have hB := hHeld.2
      have hv := HVS.out
      have s12 := B10.out.size
      go_wp2_with fail
      go_meet
      first
        | ((with_reducible refine cut_rel end1 hB hmk HQ9.out.1 HQ9.out.2.1 HQ9.out.2.2 B10.out ?_ ?_ ?_ ?_ ?_) <;> omega)
        | ((with_reducible refine cut_rel end2 hB hmk HQ9.out.1 HQ9.out.2.1 HQ9.out.2.2 B10.out ?_ ?_ ?_ ?_ ?_) <;> omega)
        | ((with_reducible refine cut_rel (end3 kc) hB hmk HQ9.out.1 HQ9.out.2.1 HQ9.out.2.2 B10.out ?_ ?_ ?_ ?_ ?_) <;> omega)
        | ((with_reducible refine cut_rel (end4 kd) hB hmk HQ9.out.1 HQ9.out.2.1 HQ9.out.2.2 B10.out ?_ ?_ ?_ ?_ ?_) <;> omega)
        | ((with_reducible refine cut_rel (end5 kc kd ?_) hB hmk HQ9.out.1 HQ9.out.2.1 HQ9.out.2.2 B10.out ?_ ?_ ?_ ?_ ?_) <;> omega)
  case rest =>
    obtain ⟨a9, a10, q, k, r, j, rfl, rfl, k9, k10, hna, hmk, hq, hr, hB⟩ := hcut
    go_wp2_with (go_at_call 22; with_reducible refine Calls.mono (callsIn_wide.1 (rounds_in 1 _ _ _ _ _)) ?_; rintro e w' ⟨rfl, rfl⟩)
    obtain ⟨W0, hW0⟩ : ∃ W0, ((((wc.alloc (.cells #[.int .i64 0] 3)).alloc (.cells #[.int .i64 0] 3)).alloc (.cells #[.slice B np d] 25)).alloc (.cells #[.int .i64 h] 3)) = W0 := ⟨_, rfl⟩
    obtain ⟨g, hg⟩ : ∃ g, wc.heap.size = g := ⟨_, rfl⟩
    have hs0 : W0.heap.size = g + 4 := by rw [← hW0]; simp [hg]
    have kA : Box W0 g 3 [.int .i64 0] := by rw [← hW0, ← hg]; exact (((Box.new wc 3 [.int .i64 0]).alloc _).alloc _).alloc _
    have kB : Box W0 (g + 1) 3 [.int .i64 0] := by rw [← hW0]; exact ((Box.at_new (wc.alloc (.cells #[.int .i64 0] 3)) 3 [.int .i64 0] (by simp [hg])).alloc _).alloc _
    have kC : Box W0 (g + 2) 25 [.slice B np d] := by rw [← hW0]; exact (Box.at_new ((wc.alloc (.cells #[.int .i64 0] 3)).alloc (.cells #[.int .i64 0] 3)) 25 [.slice B np d] (by simp [hg])).alloc _
    have kD : Box W0 (g + 3) 3 [.int .i64 h] := by rw [← hW0]; exact Box.at_new _ 3 [.int .i64 h] (by simp [hg])
    have bc : Below wc.heap.size wc W0 := by rw [← hW0]; exact ((((Below.refl _ wc).alloc (Nat.le_refl _) _).alloc (by simp) _).alloc (by simp; omega) _).alloc (by simp; omega) _
    rw [hg] at bc
    have hn3 : W3.heap.size = w2.heap.size + 1 := by rw [← hW3]; simp
    have hO : Ord w.heap.size w2.heap.size W3.heap.size g (g + 4) := ⟨by have h1 := HK.out.2.2.2.2; have h2 := G2.out.size; omega, by omega, by rw [← hg]; exact hB.size, by omega⟩
    obtain ⟨s0, hs⟩ : ∃ s, h % totalP P = s := ⟨_, rfl⟩
    have htp := totalP_pos hm (by rw [HNP.out]; exact hpos)
    have hsb : 0 ≤ s0 ∧ s0 < totalP P := by rw [← hs]; exact ⟨Int.emod_nonneg _ (by omega), Int.emod_lt_of_pos _ (by omega)⟩
    have hEb : 0 ≤ E ∧ E ≤ 35184372088832 := by
      rw [← hE, longM_ring hf cl]
      have h1 := chainTo_in (ringP L cl) ((ringP L cl).length - 1)
      have h2 := (ringP_le L cl).2
      omega
    have h8 := G3.out.2.below hB G3.out.2.lt
    have h6 := (HK.out.2.1.below (G3.out.1.trans (hB.mono G3.out.1.size)) HK.out.2.1.lt)
    have h7 := (HK.out.2.2.1.below (G3.out.1.trans (hB.mono G3.out.1.size)) HK.out.2.2.1.lt)
    have hBw : Below w.heap.size w W0 := (HK.out.2.2.2.1.trans ((G3.out.1.trans (hB.mono G3.out.1.size)).mono HK.out.2.2.2.1.size)).trans (bc.mono (by have h1 := hO.h1; have h2 := hO.h2; have h3 := hO.h3; omega))
    obtain ⟨X, hX⟩ : ∃ X, cutM L cl P h = X := ⟨_, rfl⟩
    have hM0 : CutM P L cl E s0 X 0 0 [] := by
      refine ⟨?_, by omega, by omega, fun _ => rfl, Nat.le_refl _⟩
      rw [← hX, cutM_go hm hf hP0, hE, hs]
      simp [goneP]
    have hK0 : CutK w.heap.size w2.heap.size W3.heap.size g (g + 4) w W0 [] (.slice none 0 0) 0 0 0 W0 := by
      have o1 := hO.h1
      have o2 := hO.h2
      have o3 := hO.h3
      exact ⟨OwnLn.nil _ _, h8.below bc (by omega), kA, kB, h6.below bc (by omega), h7.below bc (by omega), fun _ _ _ _ _ => rfl, by omega, hBw⟩
    have k9W := k9.below bc (by rw [← hg]; exact k9.lt)
    have k10W := k10.below bc (by rw [← hg]; exact k10.lt)
    have l9 : a9 < g := by rw [← hg]; exact k9.lt
    have l10 : a10 < g := by rw [← hg]; exact k10.lt
    have hqW := hq.mid (w' := W0) (fun b _ hb => bc.block b (by omega))
    have hrW := hr.mid (w' := W0) (fun b _ hb => bc.block b (by omega))
    rw [hg] at hqW hrW
    have HXM := Lib.hid hX
    unfold CutTo
    rw [hX]
    rw [hW0]
    rw [hg]
    have HT := Lib.hid (fun (V : World) (hv : ∀ b, W3.heap.size ≤ b → b < g → V.heap[b]? = W0.heap[b]?) (hsz2 : g ≤ V.heap.size) => show (V.cell? ⟨a9, 0, none⟩ = some (.slice q m k) ∧ V.cell? ⟨a9, 1, none⟩ = some (.slice r m j)) ∧ V.cell? ⟨a10, 0, none⟩ = some (.int .i64 E) ∧ RdV V V.heap.size q (ptRow p) ∧ RdV V V.heap.size r (icells (farL p)) from
      ⟨(Box.pair ((hv a9 hna.1 l9).trans k9W)).1, Box.cell ((hv a10 hna.2 l10).trans k10W) 0 rfl, ((hqW.mid hv).rd).mono hsz2, ((hrW.mid hv).rd).mono hsz2⟩)
    refine (wpIn_wide (n := 8)).1 ?_
    have HSEQ := rounds_seq (8 - 1) (by omega) (g + 1 + 1 + 1) (g + 1 + 1) w.heap.size P B d h hm (by rw [HNP.out]; exact hpos) (by rw [HNP.out]; exact hd) 2000 (by omega) W0 (hP.below hBw) hBw.size kD (by rw [HNP.out]; exact kC)
    simp only [hs] at HSEQ
    have hpos' : 0 < P.length := by rw [HNP.out]; exact hpos
    have hflat : 0 < E → 0 < L.length := fun he => by
      rcases Nat.eq_zero_or_pos L.length with h0 | h0
      · obtain rfl := List.eq_nil_of_length_eq_zero h0
        rw [longM_nil] at hE
        omega
      · exact h0
    have HRT := Lib.hid (fun (F M : Int) (h0 : 0 < L.length) (h1 : 0 ≤ F) (h2 : F ≤ M) (h3 : M ≤ E) => show onceM ([tapeAt p F] ++ (p.take (firstF p M)).drop (firstF p (F + 1)) ++ [tapeAt p M]) = pieceP L cl F M from by
      unfold pieceP
      rw [rawP_tape h0 hf h1 h2 (by rw [hE]; exact h3), hp])
    have HPC := Lib.hid (fun (F M : Int) (V : World) (h0 : 0 < L.length) (h1 : 0 ≤ F) (h2 : F < M) (h3 : M ≤ E) (hqV : RdV V V.heap.size q (ptRow p)) (hrV : RdV V V.heap.size r (icells (farL p))) => tape_piece p q k r j F M V hqV hrV (by rw [← hp]; have := (ringP_le L cl).2; omega) (by rw [← hp]; exact fitL_ring.2 hf) (by rw [← hp]; have := (ringP_le L cl).1; omega) h1 h2 (by rw [← hp, ← longM_ring hf cl, hE]; exact h3) (by rw [hm2]; exact hmk))
    rw [hm2] at HPC
    have hs4 : g + 4 ≤ W0.heap.size := by omega
    have HEB := Lib.hid hEb
    have HFL := Lib.hid hflat
    have HO := Lib.hid hO
    have HK0 := Lib.hid (And.intro hM0 hK0)
    have HSB := Lib.hid hsb
    obtain ⟨i0, hi0, hz0, hz1, hz2⟩ := info_parts info_ln
    clear kA kB kC kD bc k9 k10 hq hr hB h6 h7 h8 hBw hM0 hK0 k9W k10W hqW hrW hW0 hflat hEb htp hE hp hm2 f0 f1 hs0 hn3
    refine wpIn_rangeB rfl (by omega) (gf := 37) (lb := #[.pointer (some ⟨g + 1 + 1 + 1, 0, none⟩), .pointer (some ⟨g + 1 + 1, 0, none⟩)]) rfl trivial (enters_of Try.func37 (by kernel_rfl) rfl) HSEQ
      (fun o ho => ho.elim) (fun x y => x.trans y) (fun W l o o' hl _ _ => KpS.put l o' (by omega) (by omega) (by omega)) (fun _ => rfl)
      (fun i W => ∃ (n : Nat) (V : List Lv) (ov : Value), CutM P L cl E s0 X i n (Lv.all V) ∧ CutK w.heap.size w2.heap.size W3.heap.size g (g + 4) w W0 V ov (max (goneP P i - s0) 0) (n : Int) 0 W)
      (fun c _ W => ∃ (n : Nat) (V : List Lv) (ov : Value) (f y : Int), ((c = .exit 1 ∧ X = (Lv.all V, 0) ∧ y = 0) ∨ (c = .ret ∧ X = ([], 7) ∧ y = 7)) ∧ V.length ≤ 1000 ∧ CutK w.heap.size w2.heap.size W3.heap.size g (g + 4) w W0 V ov f (n : Int) y W)
      ?hI ?hIx ?hN ?hskip ?h0
      (fun i a' _ => a' = { tmps := #[.agg #[.slice A nl c, .bool cl], .slice B np d, .int .i64 h, .pointer (some ⟨w.heap.size, 0, none⟩), undef, undef, .pointer (some ⟨w.heap.size + 1, 0, none⟩), .pointer (some ⟨w.heap.size + 1 + 1, 0, none⟩), .pointer (some ⟨w2.heap.size, 0, none⟩), .pointer (some ⟨a9, 0, none⟩), .pointer (some ⟨a10, 0, none⟩), .pointer (some ⟨g, 0, none⟩), .pointer (some ⟨g + 1, 0, none⟩), .int .i64 (goneP P (i + 1) - s0), .bool (drawnD (i + 1)), undef, .bool false, .slice B np d, .int .i64 h, .bool true, .bool false, .bool false, .pointer (some ⟨w.heap.size, 0, none⟩), .slice A nl c, .bool true, .bool false, .bool false, .slice B np d, .int .i64 (np : Int), .bool false, undef, undef, undef, undef, undef, undef, undef, u37, u38, u39, u40, .slice B np d, .int .i64 h, .func (.func 37) #[] #[.pointer (some ⟨g + 1 + 1 + 1, 0, none⟩), .pointer (some ⟨g + 1 + 1, 0, none⟩)], .int .i64 (goneP P (i + 1) - s0), .bool (drawnD (i + 1)), undef, undef, undef, undef, undef, undef, undef, undef, undef, undef, undef, undef, undef, undef, undef, undef, undef, undef, undef, undef, undef, undef, undef, undef], defers := [] })
      ?hAx ?assign ?body ?stop
    case hI =>
      rintro i V V' row ⟨n, Vs, ov, h1, h2⟩ hgr hr
      exact ⟨n, Vs, ov, h1, h2.turned HO.out hgr (fun r e => ⟨by have := (hr r e).1; omega, by
        obtain ⟨-, o, ho, hb⟩ := hr r e
        exact ⟨o, ho, hb.elim id (fun q => q.elim)⟩⟩)⟩
    case hIx =>
      rintro c i V V' row ⟨n, Vs, ov, f, y, h1, h3, h2⟩ hgr hr
      exact ⟨n, Vs, ov, f, y, h1, h3, h2.turned HO.out hgr (fun r e => ⟨by have := (hr r e).1; omega, by
        obtain ⟨-, o, ho, hb⟩ := hr r e
        exact ⟨o, ho, hb.elim id (fun q => q.elim)⟩⟩)⟩
    case hN =>
      rintro i V ⟨n, Vs, ov, h1, -⟩
      exact h1.lt
    case hskip =>
      rintro i V ⟨n, Vs, ov, h1, h2⟩ hy
      have hgl := goneP_le hm hpos' i (i + 1) (by omega)
      refine ⟨n, Vs, ov, h1.skip hm hpos' HSB.out.2 HEB.out.1 hy, ?_⟩
      rw [show max (goneP P (i + 1) - s0) 0 = max (goneP P i - s0) 0 by omega]
      exact h2
    case h0 =>
      refine ⟨0, [], .slice none 0 0, HK0.out.1, ?_⟩
      rw [show max (goneP P 0 - s0) 0 = 0 by have := HSB.out.1; simp only [goneP]; omega]
      exact HK0.out.2
    case hAx =>
      rintro i a' u V V' row ha _ _
      exact ha
    case assign =>
      intro l i W K hI hy hK
      gi_wp2
      exact hK _ _ ((KeepsOthers.refl _).from _) ⟨Nat.le_refl _, fun _ _ _ => rfl⟩ hI rfl
    case body =>
      rintro l i a' W ⟨n, V, ov, hM, hK⟩ rfl hy
      obtain ⟨⟨t0, t1⟩, t2, hqV, hrV⟩ := HT.out W (fun b h1 h2 => hK.mid b h1 (by omega) (by omega) (by omega)) (by have := hK.size; omega)
      have e11 := hK.o11.cell 0 rfl
      have e12 := hK.o12.cell 0 rfl
      have u12 := hK.o12.frozen 0
      have hEb := HEB.out
      have hbb := goneP_in hm hpos' (i + 1)
      have hba := goneP_in hm hpos' i
      have hi2 := hM.lt
      have hsb := HSB.out
      have hti := totalP_in hm
      have hlen := hM.2.2.2.2
      have hn1 := hM.2.1
      have HDN := Lib.hid (fun he => hM.done hpos' hEb.1 he hy)
      have HMA := Lib.hid (fun he => hM.many hpos' he hy)
      have HST := Lib.hid (fun he => hM.step hpos' he hy)
      have HGL := Lib.hid (goneP_le hm hpos' i (i + 1) (by omega))
      have hdr : drawnD (i + 1) = decide (i % 2 = 0) := by
        unfold drawnD
        exact decide_eq_decide.2 (by omega)
      have hcs : cutStep L cl E i (goneP P i - s0) (goneP P (i + 1) - s0) (Lv.all V) = if i % 2 = 0 ∧ 1 < (pieceP L cl (max (goneP P i - s0) 0) (min (goneP P (i + 1) - s0) E)).length then Lv.all V ++ [⟨pieceP L cl (max (goneP P i - s0) 0) (min (goneP P (i + 1) - s0) E), false⟩] else Lv.all V := rfl
      have HCS := Lib.hid hcs
      rw [hdr]
      have hfb : max (goneP P i - s0) 0 < goneP P (i + 1) - s0 := by have := HGL.out; omega
      have hmx : max (goneP P (i + 1) - s0) 0 = goneP P (i + 1) - s0 := by omega
      have hlv : (Lv.all V).length = V.length := by simp [Lv.all]
      rw [hlv] at hlen
      obtain ⟨F, hF⟩ : ∃ F, max (goneP P i - s0) 0 = F := ⟨_, rfl⟩
      obtain ⟨b, hb⟩ : ∃ b, goneP P (i + 1) - s0 = b := ⟨_, rfl⟩
      have hF0 : 0 ≤ F := by omega
      have hb2 : 0 < b ∧ b ≤ 16777214000 := by omega
      rw [hF] at hK HDN HMA HST HCS hfb e11
      rw [hb] at HST HCS hfb hmx ⊢
      rw [hmx]
      have HKK := Lib.hid hK
      have HKP := Lib.hid (fun W' V' ov' f' n' y' (_ : Unit) (hk' : CutK w.heap.size w2.heap.size W3.heap.size g (g + 4) w W0 V' ov' f' n' y' W') (hs : W.heap.size ≤ W'.heap.size) => show KpS w.heap.size (g + 1 + 1 + 1) (g + 1 + 1) W W' from KpS_of hK hk' hs ⟨by have := HO.out.h3; omega, by omega, by omega, by omega⟩ ⟨by have := HO.out.h3; omega, by omega, by omega, by omega⟩)
      have HHH := Lib.hid hM
      have w1 : IntKind.i64.wrap ((n : Int) + 1) = (n : Int) + 1 := IntWalk.i64_in _ (by omega)
      clear hM hF hcs hdr hba hbb hsb hti hmx hlv hy
      by_cases he : F < E
      · have hge : ¬ E ≤ F := by omega
        by_cases hn : 1000 < n + 1
        · have HX := Lib.hid (HMA.out he hn)
          have hn' : (1000 : Int) < (n : Int) + 1 := by omega
          have hK1 := hK.set12 HO.out ((n : Int) + 1)
          have hK2 := hK1.fail HO.out 7
          have d6 := hK1.r6.cell 0 rfl
          have d7 := hK1.r7.cell 0 rfl
          have v6 := hK1.r6.frozen 0
          have v7 := hK1.r7.frozen 0
          have HF2 := Lib.hid hK2
          clear HDN HMA HST HCS hK hK1 hK2
          gi_wp2
          exact ⟨(((KeepsOthers.setCell _ _ _).trans (KeepsOthers.setCell _ _ _)).trans (KeepsOthers.setCell _ _ _)).from _, n + 1, V, ov, F, 7, .inr ⟨rfl, HX.out, rfl⟩, by omega, HF2.out⟩
        · have HS1 := Lib.hid (HST.out he hn)
          have hn' : ¬ (1000 : Int) < (n : Int) + 1 := by omega
          have hK1 := hK.set12 HO.out ((n : Int) + 1)
          rcases (show i % 2 = 0 ∨ ¬ i % 2 = 0 from by omega) with h2 | h2
          · obtain ⟨M, hM⟩ : ∃ M, min b E = M := ⟨_, rfl⟩
            have r2 := fun ts t W => min2_runD (P := Try.prog) b E M hM ts t W
            have v2 := min2_iteD hM
            have hMb : F < M ∧ M ≤ E := by omega
            have hL0 := HFL.out (by omega)
            have hzl := pieceP_le L cl F M
            rw [hM] at HCS
            have hdt : decide (i % 2 = 0) = true := decide_eq_true h2
            rw [hdt]
            have cP := fun V hqV hrV => HPC.out F M V hL0 hF0 hMb.1 hMb.2 hqV hrV
            rw [HRT.out F M hL0 hF0 (by omega) hMb.2] at cP
            obtain ⟨Z, hZ⟩ : ∃ Z, pieceP L cl F M = Z := ⟨_, rfl⟩
            rw [hZ] at cP HCS hzl
            obtain ⟨nz, hnz⟩ : ∃ n, Z.length = n := ⟨_, rfl⟩
            have HNZ := Lib.hid hnz
            rw [hnz] at cP HCS hzl
            have CP := Lib.hid cP
            obtain ⟨X1, hX1⟩ : ∃ X1, W.setCell ⟨g + 1, 0, none⟩ (.int .i64 ((n : Int) + 1)) = X1 := ⟨_, rfl⟩
            rw [hX1] at hK1
            obtain ⟨⟨t4, t5⟩, t6, hq1, hr1⟩ := HT.out X1 (fun b h1 h2 => hK1.mid b h1 (by omega) (by omega) (by omega)) (by have := hK1.size; omega)
            have e1 := hK1.o11.cell 0 rfl
            have e2 := hK1.o12.cell 0 rfl
            have HQ1 := Lib.hid (And.intro hq1 hr1)
            have HK1 := Lib.hid hK1
            have HKO := Lib.hid (show KeepsOthers W X1 from by rw [← hX1]; exact KeepsOthers.setCell _ _ _)
            have HX1 := Lib.hid hX1
            have HSX := Lib.hid (show W.heap.size ≤ X1.heap.size from by rw [← hX1]; simp)
            by_cases hz : 1 < nz
            · have hzi : (1 : Int) < (nz : Int) := by omega
              have HCS2 := Lib.hid (show cutStep L cl E i (goneP P i - s0) b (Lv.all V) = Lv.all V ++ [⟨Z, false⟩] from by rw [HCS.out, if_pos ⟨h2, hz⟩])
              clear HDN HMA HST HCS hK hK1 hq1 hr1 hqV hrV cP hnz hZ hM hX1 HHH
              gi_wp2_with first
                | (rw [HX1.out])
                | (refine ⟨trivial, ?_⟩; gi_at_call 23; with_reducible refine (CallsIn.inRound l (callsIn_wide.2 (CP.out _ HQ1.out.1 HQ1.out.2))).mono ?_; rintro e w9 ⟨⟨vz, rfl, hoz⟩, b9⟩
                   obtain ⟨qz, kz, rfl, hkz, -, -⟩ := RdV.ofOwnK hoz
                   have hK9 := HK1.out.on HO.out b9
                   have x8 := hK9.o8.cell 0 rfl
                   have hK10 := hK9.on HO.out (below_new w9 (.cells #[.slice qz nz kz, .bool false] 24))
                   have hz10 := own_below (own_mono hoz HK1.out.size) (below_new w9 (.cells #[.slice qz nz kz, .bool false] 24))
                   have HNW := Lib.hid (two_new w9 24 (.slice qz nz kz) (.bool false))
                   have HK10 := Lib.hid (And.intro hK10 hz10)
                   have HO9 := Lib.hid (below_othU b9)
                   have HSZ9 := Lib.hid b9.size
                   clear hoz b9 hK9 hK10 hz10)
                | (gi_at_builtin; refine wpListIn_append_own _ rfl _ _ 26 rfl (g + 4) 24 i0 (.agg #[.slice none 0 0, .bool false]) 2 32 Try.underlying26 hi0 hz0 hz1 hz2 rfl (by decide) _ V.length _ rfl HK10.out.1.own.1 ⟨w9.heap.size, 0, none⟩ 1 1 [.slice qz nz kz, .bool false] rfl rfl HNW.out (by simp [Value.oneCell']) (by simp [maxLen]; omega) (by omega) HK10.out.1.size ?_; intro v' w10 hown' hgrow hiff; clear hiff
                   obtain ⟨g', cap', rfl⟩ := ownsRow_succ hown'
                   have k8 := HK10.out.1.o8g HO.out hgrow
                   have x8 := k8.cell 0 rfl
                   have y8 := k8.frozen 0
                   have hmore := HK10.out.1.more HO.out (x := ⟨qz, kz, Z, false⟩) (by show World.ownsRow _ _ _ _ (.slice qz Z.length kz) Z.length (ptRow Z); rw [HNZ.out]; exact HK10.out.2) hgrow (by show World.ownsRow _ _ _ _ _ _ (lvRow V ++ [.slice qz Z.length kz, .bool false]); rw [HNZ.out]; exact hown')
                   have x11 := hmore.o11.cell 0 rfl
                   have y11 := hmore.o11.frozen 0
                   have HMO := Lib.hid hmore
                   have HOG := Lib.hid (And.intro (grow_othU HK10.out.1.own.1 hgrow) hgrow.size)
                   clear k8 hmore hown' hgrow)
              have HS2 := Lib.hid (show CutM P L cl E s0 X (i + 1) (n + 1) (Lv.all (V ++ [⟨qz, kz, Z, false⟩])) from by
                have h := HS1.out
                rw [HCS2.out] at h
                simpa [Lv.all, Lv.ln] using h)
              have HKL := Lib.hid (HMO.out.set11 HO.out b)
              exact ⟨(((((HKO.out.trans HO9.out).trans (KeepsOthers.alloc _ _)).trans HOG.out.1).trans (KeepsOthers.setCell _ _ _)).trans (KeepsOthers.setCell _ _ _)).from _, HKP.out _ _ _ _ _ _ () HKL.out (Nat.le_trans HSX.out (Nat.le_trans HSZ9.out (Nat.le_trans (by simp) (Nat.le_trans HOG.out.2 (by simp))))), n + 1, V ++ [⟨qz, kz, Z, false⟩], _, HS2.out, HKL.out⟩
            · have hzi : ¬ (1 : Int) < (nz : Int) := by omega
              have HCS2 := Lib.hid (show cutStep L cl E i (goneP P i - s0) b (Lv.all V) = Lv.all V from by rw [HCS.out, if_neg (fun h => hz h.2)])
              clear HDN HMA HST HCS hK hK1 hq1 hr1 hqV hrV cP hnz hZ hM hX1 HHH
              gi_wp2_with first
                | (rw [HX1.out])
                | (refine ⟨trivial, ?_⟩; gi_at_call 23; with_reducible refine (CallsIn.inRound l (callsIn_wide.2 (CP.out _ HQ1.out.1 HQ1.out.2))).mono ?_; rintro e w9 ⟨⟨vz, rfl, hoz⟩, b9⟩
                   obtain ⟨qz, kz, rfl, hkz, -, -⟩ := RdV.ofOwnK hoz
                   have hK9 := HK1.out.on HO.out b9
                   have x11 := hK9.o11.cell 0 rfl
                   have y11 := hK9.o11.frozen 0
                   have HK9 := Lib.hid hK9
                   have HO9 := Lib.hid (below_othU b9)
                   have HSZ9 := Lib.hid b9.size
                   clear hoz b9 hK9)
              exact ⟨((HKO.out.trans HO9.out).trans (KeepsOthers.setCell _ _ _)).from _, HKP.out _ _ _ _ _ _ () (HK9.out.set11 HO.out b) (Nat.le_trans HSX.out (Nat.le_trans HSZ9.out (by simp))), n + 1, V, ov, by have h := HS1.out; rw [HCS2.out] at h; exact h, HK9.out.set11 HO.out b⟩
          · have hdt : decide (i % 2 = 0) = false := decide_eq_false h2
            rw [hdt]
            have HCS2 := Lib.hid (show cutStep L cl E i (goneP P i - s0) b (Lv.all V) = Lv.all V from by rw [HCS.out, if_neg (fun h => h2 h.1)])
            have hK2 := hK1.set11 HO.out b
            have y11 := hK1.o11.cell 0 rfl
            have z11 := hK1.o11.frozen 0
            have HF2 := Lib.hid hK2
            clear HDN HMA HST HCS hK hK1 hK2
            gi_wp2
            have HS2 := Lib.hid (show CutM P L cl E s0 X (i + 1) (n + 1) (Lv.all V) from by have h := HS1.out; rw [HCS2.out] at h; exact h)
            first
              | exact ⟨((KeepsOthers.setCell _ _ _).trans (KeepsOthers.setCell _ _ _)).from _, HKP.out _ _ _ _ _ _ () HF2.out (by simp), n + 1, V, ov, HS2.out, HF2.out⟩
              | exact ⟨((KeepsOthers.setCell _ _ _).trans (KeepsOthers.setCell _ _ _)).from _, HKP.out _ _ _ _ _ _ () HF2.out (by simp), n + 1, V, HS2.out, ov, HF2.out⟩
      · have hge : E ≤ F := by omega
        have HX := Lib.hid (HDN.out he)
        clear HDN HMA HST HCS hK
        gi_wp2
        exact ⟨(KeepsOthers.refl _).from _, n, V, ov, F, 0, .inl ⟨rfl, HX.out, rfl⟩, by omega, HKK.out⟩
    case stop =>
      rintro D c i W hD ⟨n, V, ov, f, y, hc, hvl, hK⟩ hDd
      rcases hc with ⟨rfl, hX2, rfl⟩ | ⟨rfl, hX2, rfl⟩
      · obtain ⟨q9, k9, he, hk9, -⟩ := hK.own.rd
        subst he
        have x8 := hK.o8.cell 0 rfl
        have r6 := hK.r6.cell 0 rfl
        have r7 := hK.r7.cell 0 rfl
        have v6 := hK.r6.frozen 0
        have v7 := hK.r7.frozen 0
        have HKK := Lib.hid hK
        have HX := Lib.hid hX2
        clear hK hX2
        gi_wp2
        go_wp2_with fail
        have hK' := ((KeepsOthers.setCell W ⟨w.heap.size + 1, 0, none⟩ (.slice q9 V.length k9)).trans (KeepsOthers.setCell _ ⟨w.heap.size + 2, 0, none⟩ (.int .i64 0))).same D _ hDd rfl
        refine ⟨by simp, .inl ⟨_, _, rfl, run_takeDeferred hK', ?_⟩⟩
        obtain ⟨o1, o2, o3, o4⟩ := HO.out
        have hown := (HKK.out.own.setU (show w.heap.size + 1 < g + 4 by omega) 0 (.slice q9 V.length k9)).setU (show w.heap.size + 2 < g + 4 by omega) 0 (.int .i64 0)
        have hownD := hown.book hK'
        obtain ⟨q8, k8, he, -, hrd⟩ := hownD.rd
        cases he
        have k6 := (((HKK.out.r6.set 0 (.slice q9 V.length k9)).far (p := ⟨w.heap.size + 2, 0, none⟩) (by show w.heap.size + 1 ≠ w.heap.size + 2; omega) (.int .i64 0)).book hK').cell 0 rfl
        have k7 := (((HKK.out.r7.far (p := ⟨w.heap.size + 1, 0, none⟩) (by show w.heap.size + 2 ≠ w.heap.size + 1; omega) (.slice q9 V.length k9)).set 0 (.int .i64 0)).book hK').cell 0 rfl
        refine ⟨.tuple #[.slice q9 V.length k9, .int .i64 0], ?_, ⟨q9, k9, V, by rw [HXM.out.trans HX.out], by rw [HXM.out.trans HX.out], hk9, hrd⟩, ?_⟩
        · simp [results, Try.f6, go_sem, k6, k7]
        · exact ((HKK.out.below.setCell (p := ⟨w.heap.size + 1, 0, none⟩) (by show w.heap.size ≤ w.heap.size + 1; omega) _).setCell (p := ⟨w.heap.size + 2, 0, none⟩) (by show w.heap.size ≤ w.heap.size + 2; omega) _).trans (belowK_b (w := w) (Nat.le_refl _) _ D _ _ (by omega) hK' rfl rfl)
      · have HKK := Lib.hid hK
        have HX := Lib.hid hX2
        clear hK hX2
        gi_wp2
        refine ⟨by simp, .inl ⟨_, _, rfl, run_takeDeferred hDd, ?_⟩⟩
        have o3 := HO.out.h3
        have o2 := HO.out.h2
        have o1 := HO.out.h1
        have k6 := (HKK.out.r6.book hDd).cell 0 rfl
        have k7 := (HKK.out.r7.book hDd).cell 0 rfl
        refine ⟨.tuple #[.slice none 0 0, .int .i64 7], ?_, ⟨none, 0, [], by rw [HX.out]; rfl, by rw [HX.out]; rfl, Nat.le_refl _, RdLn.nil _ _ _⟩, ?_⟩
        · simp [results, Try.f6, go_sem, k6, k7]
        · exact HKK.out.below.trans (belowK_b (w := w) (Nat.le_refl _) _ D _ _ (by omega) hDd rfl rfl)
end Go.Proofs.Ytkebffkekinblaa
/- Lines in pieces, the program's own: what the laws' walks need of it. -/

namespace Go.Proofs.Ytkebffkekinblaa
open Go.RowKit

/-- what Cut answers, whatever comes in -/
theorem dash_Cut (L : List Pt) (A : Option Addr) (c : Nat) (cl : Bool) (P : List Int) (B : Option Addr) (d : Nat) (h : Int) (w : World) (hL : RdV w w.heap.size A (ptRow L)) (hl : L.length ≤ 1048576) (hc : L.length ≤ c) (hP : RdV w w.heap.size B (icells P)) (hp : P.length ≤ 1048576) (hd : P.length ≤ d) :
    Calls Try.prog 6 #[.agg #[.slice A L.length c, .bool cl], .slice B P.length d, .int .i64 h] w (CutTo L cl P h w) := by
  by_cases hk : MayD P h ∧ FitL L ∧ P ≠ []
  · exact cut_main L A c cl P B d h w hL hl hc hP hd hk.1 hk.2.1 hk.2.2
  · exact cut_early L A c cl P B d h w hL hl hP hp hd hk
end Go.Proofs.Ytkebffkekinblaa
