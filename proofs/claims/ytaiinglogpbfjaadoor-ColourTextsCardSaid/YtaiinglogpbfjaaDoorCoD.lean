/- Colours in figures, there and back: the document's own. -/
import Derived.Test.YtaiinglogpbfjaaDoorCoC
import Derived.Test.YtaiinglogpbfjaaDoorFgC
namespace Go.Proofs.YtaiinglogpbfjaaDoor
open Go.RowKit

set_option maxRecDepth 10000 in
theorem ref8_Text (c : Col) (w : World) :
    Calls Tryd.prog 7 #[colV c] w fun e w' => e = .returned (.string (str (hexOf (colBy c)))) ∧ Below w.heap.size w w' := by
  obtain ⟨W, hW⟩ : ∃ W, w.alloc (.cells (colCells c).toArray 23) = W := ⟨_, rfl⟩
  have k1 : Box W w.heap.size 23 (colCells c) := by rw [← hW]; exact Box.new w _ _
  have B0 : Below w.heap.size w W := by rw [← hW]; exact (Below.refl _ _).alloc (Nat.le_refl _) _
  obtain ⟨⟨p0, p1, p2, p3⟩, -⟩ := Box.four k1
  have hr : RdV (W.alloc (.cells (bcells (colBy c)).toArray 5)) (W.alloc (.cells (bcells (colBy c)).toArray 5)).heap.size (some ⟨W.heap.size, 0, none⟩) (bcells (colBy c)) := fun _ =>
    ⟨W.heap.size, 0, rfl, by simp, fun j hj => by rw [Nat.zero_add]; exact (Box.new W 5 (bcells (colBy c))).cell j (List.getElem?_eq_getElem hj)⟩
  have B1 : Below w.heap.size w (W.alloc (.cells (bcells (colBy c)).toArray 5)) := B0.alloc B0.size _
  have c1 := ref7_Hex (some ⟨W.heap.size, 0, none⟩) 4 (colBy c) _ hr (by simp [colBy])
  have c2 : Calls Tryd.prog 14 #[.slice (some ⟨W.heap.size, 0, none⟩) 4 4] (W.alloc (.cells (bcells (colBy c)).toArray 5)) fun e w' => e = .returned (.string (str (hexOf (colBy c)))) ∧ Below w.heap.size w w' := c1.mono fun e w' ⟨h1, h2⟩ => ⟨h1, B1.trans (h2.mono B1.size)⟩
  have hz : W.heap.size = w.heap.size + 1 := by rw [← hW]; simp
  obtain ⟨s, hs⟩ : ∃ s, str (hexOf (colBy c)) = s := ⟨_, rfl⟩
  rw [hs, hz] at c2
  rw [hs]
  clear c1 hr k1 B0 B1 hs hz
  subst hW
  unfold colV colCells bcells colBy at *
  simp only [List.map_cons, List.map_nil] at c2
  have C2 := Lib.hid c2
  clear c2
  go_enter Tryd.func7, Tryd.ntmps7
  go_wp2_with (go_at_call 14; with_reducible refine Calls.mono C2.out ?_; rintro e w1 ⟨rfl, b1⟩)
  go_ret
  exact ⟨rfl, b1⟩

/-- what a text comes to as a colour -/
theorem colRead_none {s : By} (h : unhexOf s = none) : colRead s = none := by simp [colRead, h]
theorem colRead_bad {s b : By} (h : unhexOf s = some b) (hl : b.length ≠ 4) : colRead s = none := by simp [colRead, h, colOf_long hl]
theorem colRead_good {s : By} {c : Col} (h : unhexOf s = some (colBy c)) : colRead s = some c := by simp [colRead, h, colOf_by]

theorem colV_zero : colV col0 = .agg #[.int .u8 0, .int .u8 0, .int .u8 0, .int .u8 0] := rfl

set_option maxRecDepth 10000 in
set_option maxHeartbeats 3200000 in
theorem ref8_Parse (t : ByteArray) (hsz : t.size ≤ 140737488355328) (w : World) :
    Calls Tryd.prog 5 #[.string t] w fun e w' => Below w.heap.size w w' ∧
      ((∃ c, colRead t.data.toList = some c ∧ e = .returned (.tuple #[colV c, .int .i64 0])) ∨ (colRead t.data.toList = none ∧ e = .returned (.tuple #[colV col0, .int .i64 3]))) := by
  obtain ⟨W, hW⟩ : ∃ W, w.alloc (.cells zero4.toArray 23) = W := ⟨_, rfl⟩
  have k1 : Box W w.heap.size 23 zero4 := by rw [← hW]; exact Box.new w _ _
  have B0 : Below w.heap.size w W := by rw [← hW]; exact (Below.refl _ _).alloc (Nat.le_refl _) _
  have hz : W.heap.size = w.heap.size + 1 := by rw [← hW]; simp
  rw [colV_zero]
  unfold zero4 at hW k1
  have hU := ref7_UnhexO t hsz W
  obtain ⟨bs, hbs⟩ : ∃ bs, t.data.toList = bs := ⟨_, rfl⟩
  rw [hbs] at hU ⊢
  clear hbs
  cases hb : unhexOf bs with
  | none =>
    have HN := Lib.hid (colRead_none hb)
    have cN : Calls Tryd.prog 11 #[.string t] W fun e w' => e = .returned (.tuple #[.slice none 0 0, .int .i64 3]) ∧ Below W.heap.size W w' := hU.mono fun e w' ⟨h0, h⟩ => ⟨by
      rcases h with ⟨b, _, _, h1, _⟩ | ⟨_, h2⟩
      · rw [hb] at h1; cases h1
      · exact h2, h0⟩
    have CN := Lib.hid cN
    have HK := Lib.hid k1
    have HB := Lib.hid B0
    clear cN hU hb k1 B0
    go_enter Tryd.func5, Tryd.ntmps5
    go_wp2_with (go_at_call 11; with_reducible refine Calls.mono CN.out ?_; rintro e w1 ⟨rfl, b1⟩
                 obtain ⟨⟨q0, q1, q2, q3⟩, f0, f1, f2, f3⟩ := Box.four (HK.out.below b1 HK.out.lt))
    obtain ⟨U, hU, kU, bU⟩ := (HK.out.below b1 HK.out.lt).stored (.int .u8 0) (.int .u8 0) (.int .u8 0) (.int .u8 0)
    obtain ⟨⟨u0, u1, u2, u3⟩, -⟩ := Box.four kU
    have hB := (HB.out.trans (b1.mono HB.out.size)).trans (bU w.heap.size (Nat.le_refl _))
    rw [hU]
    exact bodyPost_ret (by simp [results, Tryd.results5, go_sem, u0, u1, u2, u3]) rfl ⟨hB, .inr ⟨HN.out, rfl⟩⟩
  | some b =>
    have cN : Calls Tryd.prog 11 #[.string t] W fun e w' => (∃ (p : Option Addr) (cap : Nat), e = .returned (.tuple #[.slice p b.length cap, .int .i64 0]) ∧ RdV w' w'.heap.size p (bcells b) ∧ ∀ a, p = some a → W.heap.size ≤ a.block) ∧ Below W.heap.size W w' := hU.mono fun e w' ⟨h0, h⟩ => ⟨by
      rcases h with ⟨b', p, cap, h1, h2, h3, h4⟩ | ⟨h1, _⟩
      · rw [hb] at h1
        obtain rfl := Option.some.inj h1
        exact ⟨p, cap, h2, h3, h4⟩
      · rw [hb] at h1
        exact (by cases h1), h0⟩
    have CN := Lib.hid cN
    have HK := Lib.hid k1
    have HB := Lib.hid B0
    clear cN hU k1 B0
    by_cases h4 : b.length = 4
    · obtain ⟨c, rfl, -⟩ := colOf_four h4
      have HN := Lib.hid (colRead_good hb)
      clear hb h4
      have hl4 : (colBy c).length = 4 := rfl
      rw [hl4] at CN
      clear hl4
      go_enter Tryd.func5, Tryd.ntmps5
      go_wp2_with (go_at_call 11; with_reducible refine Calls.mono CN.out ?_; rintro e w1 ⟨⟨p, cap, rfl, hr, hge⟩, b1⟩
                   have hk := HK.out.below b1 HK.out.lt
                   obtain ⟨g, o, rfl, hgb, hc⟩ := hr (by simp [bcells, colBy])
                   have hne : w.heap.size ≠ g := by have := hge _ rfl; have h2 : W.heap.size ≤ g := this; omega
                   have hne' : g ≠ w.heap.size := fun e => hne e.symm
                   have p0 := hc 0 (by simp [bcells, colBy])
                   have p1 := hc 1 (by simp [bcells, colBy])
                   have p2 := hc 2 (by simp [bcells, colBy])
                   have p3 := hc 3 (by simp [bcells, colBy])
                   simp only [bcells, colBy, List.map_cons, List.map_nil, List.getElem_cons_zero, List.getElem_cons_succ, Nat.add_zero] at p0 p1 p2 p3
                   obtain ⟨⟨q0, q1, q2, q3⟩, f0, f1, f2, f3⟩ := Box.four hk
                   replace hk := Lib.hid hk
                   clear hc hr)
      have HC := Lib.hid (And.intro HN.out hge)
      go_region_held3 (fun w' => (w'.cell? ⟨g, o, none⟩ = some (.int .u8 (c.r.toNat : Int)) ∧ w'.cell? ⟨g, o + 1, none⟩ = some (.int .u8 (c.g.toNat : Int)) ∧ w'.cell? ⟨g, o + 2, none⟩ = some (.int .u8 (c.b.toNat : Int)) ∧ w'.cell? ⟨g, o + 3, none⟩ = some (.int .u8 (c.a.toNat : Int))))
        (first | (with_reducible exact ⟨p0, p1, p2, p3⟩) | go_keep)
        (fail)
      all_goals
        obtain ⟨U, hU, kU, bU⟩ := hk.out.stored (.int .u8 (c.r.toNat : Int)) (.int .u8 (c.g.toNat : Int)) (.int .u8 (c.b.toNat : Int)) (.int .u8 (c.a.toNat : Int))
        have kd : Box U.drew w.heap.size 23 _ := kU
        obtain ⟨⟨u0, u1, u2, u3⟩, -⟩ := Box.four kd
        have hB := ((HB.out.trans (b1.mono HB.out.size)).trans (bU w.heap.size (Nat.le_refl _))).drew
        clear kU kd bU
        go_wp2_with fail
        rw [hU]
        generalize U.drew = V at *
        exact bodyPost_ret (by simp [results, Tryd.results5, go_sem, u0, u1, u2, u3, colV]) rfl ⟨hB, .inl ⟨c, HN.out, rfl⟩⟩
    · have HN := Lib.hid (colRead_bad hb h4)
      have hl : ¬ (b.length : Int) = 4 := by omega
      clear hb
      go_enter Tryd.func5, Tryd.ntmps5
      go_wp2_with (go_at_call 11; with_reducible refine Calls.mono CN.out ?_; rintro e w1 ⟨⟨p, cap, rfl, -, -⟩, b1⟩
                   obtain ⟨⟨q0, q1, q2, q3⟩, f0, f1, f2, f3⟩ := Box.four (HK.out.below b1 HK.out.lt))
      obtain ⟨U, hU, kU, bU⟩ := (HK.out.below b1 HK.out.lt).stored (.int .u8 0) (.int .u8 0) (.int .u8 0) (.int .u8 0)
      obtain ⟨⟨u0, u1, u2, u3⟩, -⟩ := Box.four kU
      have hB := (HB.out.trans (b1.mono HB.out.size)).trans (bU w.heap.size (Nat.le_refl _))
      rw [hU]
      exact bodyPost_ret (by simp [results, Tryd.results5, go_sem, u0, u1, u2, u3]) rfl ⟨hB, .inr ⟨HN.out, rfl⟩⟩
end Go.Proofs.YtaiinglogpbfjaaDoor
