/- Colours in figures, there and back: the program's own. -/
import Derived.Test.YtaiinglogpbfjaaDoorCoQ
import Derived.Test.YtaiinglogpbfjaaDoorCoD
import Derived.Test.YtaiinglogpbfjaaDoorFhF
import Derived.Test.YtaiinglogpbfjaaDoorFhH
import Derived.Laws.IdiomCopy
import Derived.Lib.SlBuf
namespace Go.Proofs.YtaiinglogpbfjaaDoor
open Go.RowKit

/-- four bytes that lie in a box of their own, in figures -/
theorem hex_box (c : Col) (W w1 : World) (b1 : Below W.heap.size W w1) (hF : Figs W) (v : World) (hv : Below v.heap.size v W) :
    Calls Tryd.prog 13 #[.slice (some ⟨w1.heap.size, 0, none⟩) 4 4] (w1.alloc (.cells #[.int .u8 (c.r.toNat : Int), .int .u8 (c.g.toNat : Int), .int .u8 (c.b.toNat : Int), .int .u8 (c.a.toNat : Int)] 33)) fun e w' => e = .returned (.string (str (hexOf (colBy c)))) ∧ Below v.heap.size v w' := by
  have k := Box.new w1 33 (colCells c)
  have hB : Below v.heap.size v (w1.alloc (.cells (colCells c).toArray 33)) := (hv.trans (b1.mono hv.size)).alloc ((hv.trans (b1.mono hv.size)).size) _
  have hb : Below W.heap.size W (w1.alloc (.cells (colCells c).toArray 33)) := b1.alloc b1.size _
  have hr : RdV (w1.alloc (.cells (colCells c).toArray 33)) (w1.alloc (.cells (colCells c).toArray 33)).heap.size (some ⟨w1.heap.size, 0, none⟩) (bcells (colBy c)) := fun _ =>
    ⟨w1.heap.size, 0, rfl, by simp, fun j hj => by rw [Nat.zero_add]; exact k.cell j (List.getElem?_eq_getElem (l := colCells c) hj)⟩
  have h := fig_Hex (some ⟨w1.heap.size, 0, none⟩) 4 (colBy c) _ hr (by simp [colBy]) (hF.on hb)
  exact h.mono fun e w' ⟨h1, h2⟩ => ⟨h1, hB.trans (h2.mono hB.size)⟩

set_option maxRecDepth 10000 in
theorem col_Text (c : Col) (w : World) (hF : Figs w) : Calls Tryd.prog 6 #[colV c] w fun e w' => e = .returned (.string (str (hexOf (colBy c)))) ∧ Below w.heap.size w w' := by
  obtain ⟨W, hW, B0⟩ : ∃ W, w.alloc (.cells (colCells c).toArray 23) = W ∧ Below w.heap.size w W := ⟨_, rfl, (Below.refl _ _).alloc (Nat.le_refl _) _⟩
  have c1 := col_partsOf c W
  have c2 := fun w1 b1 => hex_box c W w1 b1 (hF.on B0) w B0
  obtain ⟨s, hs⟩ : ∃ s, str (hexOf (colBy c)) = s := ⟨_, rfl⟩
  rw [hs] at c2 ⊢
  clear hs
  unfold colV colCells at *
  have C1 := Lib.hid c1
  have C2 := Lib.hid c2
  have HW := Lib.hid hW
  clear c1 c2 hW hF B0
  go_enter Tryd.func6, Tryd.ntmps6
  go_wp2_with first
    | (rw [HW.out]; go_at_call 12; with_reducible refine Calls.mono C1.out ?_; rintro e w1 ⟨rfl, b1⟩)
    | (go_at_call 13; with_reducible refine Calls.mono (C2.out w1 b1) ?_; rintro e w2 ⟨rfl, b2⟩)
  go_ret
  exact ⟨rfl, b2⟩

/-- a text of another length is no colour's -/
theorem colRead_size {s : By} (h : s.length ≠ 8) : colRead s = none := by
  cases hb : unhexOf s with
  | none => exact colRead_none hb
  | some b =>
    refine colRead_bad hb fun h4 => h ?_
    rw [← unhexOf_some hb, hexOf_length, h4]
theorem unhex_four {s b : By} (h : s.length = 8) (hb : unhexOf s = some b) : b.length = 4 := by
  have := hexOf_length b
  rw [unhexOf_some hb, h] at this
  omega

/-- a row of four copied into a box of four -/
theorem run_copy_four (w : World) (b : Nat) (t : TypeId) (x y z u : Value) (hk : Box w b t [x, y, z, u]) (p : Addr) (cap : Nat) (c : Col) (hsrc : ∀ j v, (bcells (colBy c))[j]? = some v → w.cell? (p.add j) = some v) (ty : TypeId) :
    (Builtin.copy_ #[34, 34] ty #[.slice (some ⟨b, 0, none⟩) 4 4, .slice (some p) 4 cap]).run Tryd.prog w = .ok (.int .i64 4) ((((w.setCell ⟨b, 0, none⟩ (.int .u8 (c.r.toNat : Int))).setCell ⟨b, 1, none⟩ (.int .u8 (c.g.toNat : Int))).setCell ⟨b, 2, none⟩ (.int .u8 (c.b.toNat : Int))).setCell ⟨b, 3, none⟩ (.int .u8 (c.a.toNat : Int))) := by
  have h := run_copy_cells (P := Tryd.prog) w 34 34 ty 5 b 0 4 4 p 4 cap (bcells (colBy c)) Tryd.underlying34 (by kernel_rfl) rfl hsrc
    (fun j hj => by
      have hj4 : j < 4 := hj
      rw [Nat.zero_add, hk.cell j (List.getElem?_eq_getElem (l := [x, y, z, u]) hj4)]; rfl)
    (fun j _ => by rw [Nat.zero_add]; exact hk.frozen j)
    (fun v hv => by
      obtain ⟨i, hi, rfl⟩ := List.mem_map.1 hv
      rfl)
  exact h

set_option maxRecDepth 10000 in
set_option maxHeartbeats 3200000 in
theorem col_Parse (t : ByteArray) (hsz : t.size ≤ 140737488355328) (w : World) (hF : Figs w) :
    Calls Tryd.prog 4 #[.string t] w fun e w' => Below w.heap.size w w' ∧
      ((∃ c, colRead t.data.toList = some c ∧ e = .returned (.tuple #[colV c, .int .i64 0])) ∨ (colRead t.data.toList = none ∧ e = .returned (.tuple #[colV col0, .int .i64 3]))) := by
  obtain ⟨W, hW, k1, k2, B0, hz⟩ : ∃ W, (w.alloc (.cells zero4.toArray 23)).alloc (.cells zero4.toArray 33) = W ∧ Box W w.heap.size 23 zero4 ∧ Box W (w.heap.size + 1) 33 zero4 ∧ Below w.heap.size w W ∧ W.heap.size = w.heap.size + 2 :=
    ⟨_, rfl, (Box.new w _ _).alloc _, Box.at_new _ _ _ (by simp), ((Below.refl _ _).alloc (Nat.le_refl _) _).alloc (by simp) _, by simp⟩
  rw [colV_zero]
  unfold zero4 at hW k1 k2
  have hU := fig_Unhex t hsz W (hF.on B0)
  obtain ⟨bs, hbs⟩ : ∃ bs, t.data.toList = bs := ⟨_, rfl⟩
  have hlen : bs.length = t.size := by rw [← hbs]; exact str_len t
  rw [hbs] at hU ⊢
  clear hbs
  by_cases h8 : t.size = 8
  · have h8i : (t.size : Int) = 8 := by omega
    cases hb : unhexOf bs with
    | none =>
      have HN := Lib.hid (colRead_none hb)
      have cN : Calls Tryd.prog 9 #[.string t] W fun e w' => e = .returned (.tuple #[.slice none 0 0, .int .i64 3]) ∧ Below W.heap.size W w' := hU.mono fun e w' ⟨h0, h⟩ => ⟨by
        rcases h with ⟨b, _, _, h1, _⟩ | ⟨_, h2⟩
        · rw [hb] at h1; cases h1
        · exact h2, h0⟩
      have CN := Lib.hid cN
      have HK := Lib.hid k1
      have HB := Lib.hid B0
      have HW := Lib.hid hW
      clear cN hU hb k1 k2 B0 hlen h8 hsz hF hW
      go_enter Tryd.func4, Tryd.ntmps4
      go_wp2_with (rw [HW.out]; go_at_call 9; with_reducible refine Calls.mono CN.out ?_; rintro e w1 ⟨rfl, b1⟩
                   obtain ⟨⟨q0, q1, q2, q3⟩, f0, f1, f2, f3⟩ := Box.four (HK.out.below b1 HK.out.lt))
      obtain ⟨U, hU, kU, bU⟩ := (HK.out.below b1 HK.out.lt).stored (.int .u8 0) (.int .u8 0) (.int .u8 0) (.int .u8 0)
      obtain ⟨⟨u0, u1, u2, u3⟩, -⟩ := Box.four kU
      have hB := (HB.out.trans (b1.mono HB.out.size)).trans (bU w.heap.size (Nat.le_refl _))
      rw [hU]
      exact bodyPost_ret (by simp [results, Tryd.results4, go_sem, u0, u1, u2, u3]) rfl ⟨hB, .inr ⟨HN.out, rfl⟩⟩
    | some b =>
      obtain ⟨c, rfl, -⟩ := colOf_four (unhex_four (by omega) hb)
      have HN := Lib.hid (colRead_good hb)
      have cN : Calls Tryd.prog 9 #[.string t] W fun e w' => (∃ (p : Addr) (cap : Nat), e = .returned (.tuple #[.slice (some p) 4 cap, .int .i64 0]) ∧ (∀ j v, (bcells (colBy c))[j]? = some v → w'.cell? (p.add j) = some v)) ∧ Below W.heap.size W w' := hU.mono fun e w' ⟨h0, h⟩ => ⟨by
        rcases h with ⟨b', p, cap, h1, h2, h3⟩ | ⟨h1, _⟩
        · rw [hb] at h1
          obtain rfl := Option.some.inj h1
          obtain ⟨g, o, rfl, -, hc⟩ := h3 (by simp [bcells, colBy])
          refine ⟨⟨g, o, none⟩, cap, h2, fun j v hv => ?_⟩
          obtain ⟨hj, rfl⟩ := List.getElem?_eq_some_iff.1 hv
          have e : (⟨g, o, none⟩ : Addr).add j = ⟨g, o + j, none⟩ := by cases j <;> simp [Addr.add]
          rw [e]
          exact hc j hj
        · rw [hb] at h1
          exact (by cases h1), h0⟩
      have CN := Lib.hid cN
      have HK := Lib.hid k1
      have HK2 := Lib.hid k2
      have HB := Lib.hid B0
      have HW := Lib.hid hW
      have CC := Lib.hid (fun V => col_colour c V)
      have hzz : w.heap.size + 2 ≤ W.heap.size := by omega
      clear cN hU hb k1 k2 B0 hlen h8 hsz hF hW hz
      unfold colV at *
      go_enter Tryd.func4, Tryd.ntmps4
      go_wp2_with first
        | (rw [HW.out]; go_at_call 9; with_reducible refine Calls.mono CN.out ?_; rintro e w1 ⟨⟨p, cap, rfl, hr⟩, b1⟩
           have hcp := Lib.hid (run_copy_four w1 (w.heap.size + 1) _ _ _ _ _ (HK2.out.below b1 HK2.out.lt) p cap c hr)
           obtain ⟨U, hU, kU, bU⟩ := (HK2.out.below b1 HK2.out.lt).stored (.int .u8 (c.r.toNat : Int)) (.int .u8 (c.g.toNat : Int)) (.int .u8 (c.b.toNat : Int)) (.int .u8 (c.a.toNat : Int))
           rw [hU] at hcp
           obtain ⟨⟨u0, u1, u2, u3⟩, -⟩ := Box.four kU
           have hR := Lib.hid ((HK.out.below b1 HK.out.lt).below (bU (w.heap.size + 1) (Nat.le_refl _)) (by omega)))
        | (refine Lib.wpList_copy_run _ rfl _ _ 34 34 rfl _ _ rfl rfl (hcp.out _) ?_)
        | (go_at_call 10; with_reducible refine Calls.mono (CC.out _) ?_; rintro e w2 ⟨rfl, b2⟩
           have hR2 := hR.out.below b2 hR.out.lt
           obtain ⟨⟨q0, q1, q2, q3⟩, f0, f1, f2, f3⟩ := Box.four hR2)
      obtain ⟨V, hV, kV, bV⟩ := hR2.stored (.int .u8 (c.r.toNat : Int)) (.int .u8 (c.g.toNat : Int)) (.int .u8 (c.b.toNat : Int)) (.int .u8 (c.a.toNat : Int))
      obtain ⟨⟨v0, v1, v2, v3⟩, -⟩ := Box.four kV
      have h1 := HB.out.trans (b1.mono HB.out.size)
      have h2 := h1.trans (bU w.heap.size (by omega))
      have hB := (h2.trans (b2.mono h2.size)).trans (bV w.heap.size (Nat.le_refl _))
      rw [hV]
      exact bodyPost_ret (by simp [results, Tryd.results4, go_sem, v0, v1, v2, v3]) rfl ⟨hB, .inl ⟨c, HN.out, rfl⟩⟩
  · have h8i : ¬ (t.size : Int) = 8 := by omega
    have HN := Lib.hid (colRead_size (s := bs) (by omega))
    obtain ⟨⟨q0, q1, q2, q3⟩, f0, f1, f2, f3⟩ := Box.four k1
    obtain ⟨U, hU2, kU, bU⟩ := k1.stored (.int .u8 0) (.int .u8 0) (.int .u8 0) (.int .u8 0)
    have HB := Lib.hid B0
    have HW := Lib.hid hW
    have HU := Lib.hid (And.intro hU2 (And.intro kU bU))
    clear hU hlen h8 hsz hF k1 k2 B0 hU2 kU bU hW hz
    go_enter Tryd.func4, Tryd.ntmps4
    go_wp2_with fail
    rw [HW.out]
    exact bodyPost_ret (by simp [results, Tryd.results4, go_sem, q0, q1, q2, q3]) rfl ⟨HB.out, .inr ⟨HN.out, rfl⟩⟩
end Go.Proofs.YtaiinglogpbfjaaDoor
