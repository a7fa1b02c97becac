/- Colours: the program's own Fade, Weigh: parts that are gone through. Written by gen/genco8.py. -/
import Derived.Test.YtaiinglogpbfjaaDoorCoP
import Derived.Deep.LoopGhost
import Derived.BigQuiet
namespace Go.Proofs.YtaiinglogpbfjaaDoor
open Go.RowKit

/-- the first k parts as they shall be, the others as they were -/
def half4 (x y : Col) : Nat → List Value
  | 0 => [.int .u8 (y.r.toNat : Int), .int .u8 (y.g.toNat : Int), .int .u8 (y.b.toNat : Int), .int .u8 (y.a.toNat : Int)]
  | 1 => [.int .u8 (x.r.toNat : Int), .int .u8 (y.g.toNat : Int), .int .u8 (y.b.toNat : Int), .int .u8 (y.a.toNat : Int)]
  | 2 => [.int .u8 (x.r.toNat : Int), .int .u8 (x.g.toNat : Int), .int .u8 (y.b.toNat : Int), .int .u8 (y.a.toNat : Int)]
  | 3 => [.int .u8 (x.r.toNat : Int), .int .u8 (x.g.toNat : Int), .int .u8 (x.b.toNat : Int), .int .u8 (y.a.toNat : Int)]
  | _ => [.int .u8 (x.r.toNat : Int), .int .u8 (x.g.toNat : Int), .int .u8 (x.b.toNat : Int), .int .u8 (x.a.toNat : Int)]

/-- a part out of a row of four -/
theorem parts_index (a b c d : Value) (k : Nat) (v : Value) (hv : #[a, b, c, d][k]? = some v) (W : World) : (Instr.index 33 (.agg #[a, b, c, d]) (.int .i64 (k : Int))).run Tryd.prog W = .ok v W := by
  have hk : k < 4 := (Array.getElem?_eq_some_iff.1 hv).1
  have hs : (Tryd.prog.info? 5).map (·.size) = some 1 := by kernel_rfl
  cases hq : Tryd.prog.info? 5 with
  | none => simp [hq] at hs
  | some i =>
    have hs1 : i.size = 1 := by simpa [hq] using hs
    have hv' : [a, b, c, d][k]? = some v := by simpa using hv
    simp [Instr.index, run_underlying Tryd.underlying33, asIntOf, go_sem, sizeOf, typeInfo, hq, hs1]
    rw [if_pos hk, hv']
    rfl
theorem half4_4 (x y : Col) : half4 x y 4 = [.int .u8 (x.r.toNat : Int), .int .u8 (x.g.toNat : Int), .int .u8 (x.b.toNat : Int), .int .u8 (x.a.toNat : Int)] := rfl
/-- a round's place, and what it leaves -/
theorem half4_step (x y : Col) {k : Nat} (hk : k < 4) (w : World) (g : Nat) (t : TypeId) (h : Box w g t (half4 x y k)) (v : Value) (hv : #[Value.int .u8 (x.r.toNat : Int), .int .u8 (x.g.toNat : Int), .int .u8 (x.b.toNat : Int), .int .u8 (x.a.toNat : Int)][k]? = some v) : Box (w.setCell ⟨g, k, none⟩ v) g t (half4 x y (k + 1)) := by
  have h2 := h.set k v
  have hc : k = 0 ∨ k = 1 ∨ k = 2 ∨ k = 3 := by omega
  rcases hc with rfl | rfl | rfl | rfl <;> (cases hv; exact h2)

set_option maxRecDepth 10000 in
set_option maxHeartbeats 3200000 in
theorem col_Fade (c : Col) (n : UInt8) (w : World) :
    Calls Tryd.prog 19 #[colV c, .int .u8 (n.toNat : Int)] w fun e w' => e = .returned (colV (fadeC c n)) ∧ Below w.heap.size w w' := by
  have kW : ∃ W, (w.alloc (.cells (colCells c).toArray 23)).alloc (.cells zero4.toArray 23) = W ∧ Box W (w.heap.size + 1) 23 zero4 ∧ Below w.heap.size w W ∧ W.heap.size = w.heap.size + 2 :=
    ⟨_, rfl, Box.at_new _ _ _ (by simp), ((Below.refl _ _).alloc (Nat.le_refl _) _).alloc (by simp) _, by simp⟩
  obtain ⟨W, hW, k1, B0, hsz⟩ := kW
  have c1 := fun V => col_Times0 c.r n V
  have c2 := fun V => col_Times0 c.g n V
  have c3 := fun V => col_Times0 c.b n V
  have c4 := fun V => col_Times0 c.a n V
  have cp := fun V => col_partsOf c V
  obtain ⟨X, hX⟩ : ∃ X, fadeC c n = X := ⟨_, rfl⟩
  rw [show timesU c.r n = X.r from by rw [← hX]; rfl] at c1
  rw [show timesU c.g n = X.g from by rw [← hX]; rfl] at c2
  rw [show timesU c.b n = X.b from by rw [← hX]; rfl] at c3
  rw [show timesU c.a n = X.a from by rw [← hX]; rfl] at c4
  rw [hX]
  clear hX
  have cc := fun V => col_colour X V
  unfold colV colCells zero4 at *
  have C := Lib.hid (And.intro c1 (And.intro c2 (And.intro c3 (And.intro c4 (And.intro cp cc)))))
  clear c1 c2 c3 c4 cp cc
  have HW := Lib.hid hW
  have HK := Lib.hid (And.intro k1 (And.intro B0 hsz))
  clear hW k1 B0 hsz
  go_enter Tryd.func19, Tryd.ntmps19
  go_wp2_with (rw [HW.out]; go_at_call 12; (with_reducible refine Calls.mono (C.out.2.2.2.2.1 W) ?_); rintro e w1 ⟨rfl, hB1⟩)
  obtain ⟨kW, bW, hsW⟩ := HK.out
  obtain ⟨g, hg⟩ : ∃ g, w1.heap.size = g := ⟨_, rfl⟩
  have hgW : w.heap.size + 2 ≤ g := by have := hB1.size; omega
  have kG := Lib.hid (Box.new w1 33 [.int .u8 (c.r.toNat : Int), .int .u8 (c.g.toNat : Int), .int .u8 (c.b.toNat : Int), .int .u8 (c.a.toNat : Int)])
  have kR := Lib.hid ((kW.below hB1 (by omega)).alloc (.cells #[.int .u8 (c.r.toNat : Int), .int .u8 (c.g.toNat : Int), .int .u8 (c.b.toNat : Int), .int .u8 (c.a.toNat : Int)] 33))
  have kB := Lib.hid ((bW.trans (hB1.mono (by omega))).alloc (by omega) (.cells #[.int .u8 (c.r.toNat : Int), .int .u8 (c.g.toNat : Int), .int .u8 (c.b.toNat : Int), .int .u8 (c.a.toNat : Int)] 33))
  rw [hg] at *
  clear hB1 kW bW hsW
  go_loopg [6, 7, 11] 4 (fun gh _ _ it wr => ∃ k : Nat, it = .int .i64 (k : Int) ∧ gh + k = 4 ∧ Box wr g 33 (half4 X c k) ∧ Box wr (w.heap.size + 1) 23 zero4 ∧ Below w.heap.size w wr)
  case atStart => exact ⟨0, rfl, rfl, hg ▸ kG.out, kR.out, kB.out⟩
  case round =>
    obtain ⟨k, rfl, hgk, hbox, hres, hB⟩ := hrel
    have hB := Lib.hid hB
    have hres := Lib.hid hres
    have hk5 : k = 0 ∨ k = 1 ∨ k = 2 ∨ k = 3 ∨ k = 4 := by omega
    clear kG kR kB HW HK
    rcases hk5 with rfl | rfl | rfl | rfl | rfl
    · have ix : ∀ W, (Instr.index 33 (.agg #[.int .u8 (c.r.toNat : Int), .int .u8 (c.g.toNat : Int), .int .u8 (c.b.toNat : Int), .int .u8 (c.a.toNat : Int)]) (.int .i64 0)).run Tryd.prog W = .ok (.int .u8 (c.r.toNat : Int)) W := fun W => parts_index (.int .u8 (c.r.toNat : Int)) (.int .u8 (c.g.toNat : Int)) (.int .u8 (c.b.toNat : Int)) (.int .u8 (c.a.toNat : Int)) 0 _ rfl W
      have hcell := hbox.cell 0 rfl
      have hfro := hbox.frozen 0
      have kn := Lib.hid (half4_step X c (by omega) wr g 33 hbox (.int .u8 (X.r.toNat : Int)) rfl)
      clear hbox
      go_wp2_with (go_at_call 20; (with_reducible refine Calls.mono (C.out.1 _) ?_); rintro e w1 ⟨rfl, rfl⟩)
      go_roundg 3
      case measure => omega
      case rel => exact ⟨1, rfl, by omega, kn.out, hres.out.far (by simp; omega) _, hB.out.setCell (by simp; omega) _⟩
    · have ix : ∀ W, (Instr.index 33 (.agg #[.int .u8 (c.r.toNat : Int), .int .u8 (c.g.toNat : Int), .int .u8 (c.b.toNat : Int), .int .u8 (c.a.toNat : Int)]) (.int .i64 1)).run Tryd.prog W = .ok (.int .u8 (c.g.toNat : Int)) W := fun W => parts_index (.int .u8 (c.r.toNat : Int)) (.int .u8 (c.g.toNat : Int)) (.int .u8 (c.b.toNat : Int)) (.int .u8 (c.a.toNat : Int)) 1 _ rfl W
      have hcell := hbox.cell 1 rfl
      have hfro := hbox.frozen 1
      have kn := Lib.hid (half4_step X c (by omega) wr g 33 hbox (.int .u8 (X.g.toNat : Int)) rfl)
      clear hbox
      go_wp2_with (go_at_call 20; (with_reducible refine Calls.mono (C.out.2.1 _) ?_); rintro e w1 ⟨rfl, rfl⟩)
      go_roundg 2
      case measure => omega
      case rel => exact ⟨2, rfl, by omega, kn.out, hres.out.far (by simp; omega) _, hB.out.setCell (by simp; omega) _⟩
    · have ix : ∀ W, (Instr.index 33 (.agg #[.int .u8 (c.r.toNat : Int), .int .u8 (c.g.toNat : Int), .int .u8 (c.b.toNat : Int), .int .u8 (c.a.toNat : Int)]) (.int .i64 2)).run Tryd.prog W = .ok (.int .u8 (c.b.toNat : Int)) W := fun W => parts_index (.int .u8 (c.r.toNat : Int)) (.int .u8 (c.g.toNat : Int)) (.int .u8 (c.b.toNat : Int)) (.int .u8 (c.a.toNat : Int)) 2 _ rfl W
      have hcell := hbox.cell 2 rfl
      have hfro := hbox.frozen 2
      have kn := Lib.hid (half4_step X c (by omega) wr g 33 hbox (.int .u8 (X.b.toNat : Int)) rfl)
      clear hbox
      go_wp2_with (go_at_call 20; (with_reducible refine Calls.mono (C.out.2.2.1 _) ?_); rintro e w1 ⟨rfl, rfl⟩)
      go_roundg 1
      case measure => omega
      case rel => exact ⟨3, rfl, by omega, kn.out, hres.out.far (by simp; omega) _, hB.out.setCell (by simp; omega) _⟩
    · have ix : ∀ W, (Instr.index 33 (.agg #[.int .u8 (c.r.toNat : Int), .int .u8 (c.g.toNat : Int), .int .u8 (c.b.toNat : Int), .int .u8 (c.a.toNat : Int)]) (.int .i64 3)).run Tryd.prog W = .ok (.int .u8 (c.a.toNat : Int)) W := fun W => parts_index (.int .u8 (c.r.toNat : Int)) (.int .u8 (c.g.toNat : Int)) (.int .u8 (c.b.toNat : Int)) (.int .u8 (c.a.toNat : Int)) 3 _ rfl W
      have hcell := hbox.cell 3 rfl
      have hfro := hbox.frozen 3
      have kn := Lib.hid (half4_step X c (by omega) wr g 33 hbox (.int .u8 (X.a.toNat : Int)) rfl)
      clear hbox
      go_wp2_with (go_at_call 20; (with_reducible refine Calls.mono (C.out.2.2.2.1 _) ?_); rintro e w1 ⟨rfl, rfl⟩)
      go_roundg 0
      case measure => omega
      case rel => exact ⟨4, rfl, by omega, kn.out, hres.out.far (by simp; omega) _, hB.out.setCell (by simp; omega) _⟩
    · rw [half4_4] at hbox
      obtain ⟨⟨u0, u1, u2, u3⟩, -⟩ := Box.four hbox
      have hr := hres
      clear hbox hres
      go_wp2_with (go_at_call 10; (with_reducible refine Calls.mono (C.out.2.2.2.2.2 _) ?_); rintro e w2 ⟨rfl, hB3⟩; have hx := hr.out.below hB3 hr.out.lt; obtain ⟨⟨q0, q1, q2, q3⟩, f0, f1, f2, f3⟩ := Box.four hx; have hx2 := Lib.hid (And.intro hx hB3); clear hx hB3)
      obtain ⟨hx, hB3⟩ := hx2.out
      obtain ⟨U, hU, kU, bU⟩ := hx.stored (.int .u8 (X.r.toNat : Int)) (.int .u8 (X.g.toNat : Int)) (.int .u8 (X.b.toNat : Int)) (.int .u8 (X.a.toNat : Int))
      rw [hU]
      have hB4 := ((hB.out.trans (hB3.mono (by have := hr.out.lt; omega))).trans (bU w.heap.size (by omega)))
      obtain ⟨⟨v0, v1, v2, v3⟩, -⟩ := Box.four kU
      exact bodyPost_ret (by simp [results, Tryd.results19, go_sem, v0, v1, v2, v3]) rfl ⟨rfl, hB4⟩

set_option maxRecDepth 10000 in
set_option maxHeartbeats 1600000 in
theorem col_Weigh (c : Col) (w : World) :
    Calls Tryd.prog 15 #[colV c] w fun e w' => e = .returned (colV (weighC c)) ∧ Below w.heap.size w w' := by
  have kW : ∃ W, (w.alloc (.cells (colCells c).toArray 23)).alloc (.cells zero4.toArray 23) = W ∧ Box W w.heap.size 23 (colCells c) ∧ Box W (w.heap.size + 1) 23 zero4 ∧ Below w.heap.size w W ∧ W.heap.size = w.heap.size + 2 :=
    ⟨_, rfl, (Box.new w _ _).alloc _, Box.at_new _ _ _ (by simp), ((Below.refl _ _).alloc (Nat.le_refl _) _).alloc (by simp) _, by simp⟩
  obtain ⟨W, hW, k0, k1, B0, hsz⟩ := kW
  have cp := fun V => col_Fade c c.a V
  obtain ⟨X, hX⟩ : ∃ X, fadeC c c.a = X := ⟨_, rfl⟩
  have hY : weighC c = ⟨X.r, X.g, X.b, c.a⟩ := by rw [← hX]; rfl
  rw [hX] at cp
  rw [hY]
  clear hX hY
  unfold colV colCells zero4 at *
  have C := Lib.hid cp
  clear cp
  have HW := Lib.hid hW
  have HK := Lib.hid (And.intro k0 (And.intro k1 (And.intro B0 hsz)))
  clear hW k0 k1 B0 hsz
  go_enter Tryd.func15, Tryd.ntmps15
  go_wp2_with (rw [HW.out]; go_at_call 19; (with_reducible refine Calls.mono (C.out W) ?_); rintro e w1 ⟨rfl, hB1⟩; obtain ⟨kc, kW, bW, hsW⟩ := HK.out; have kc1 := kc.below hB1 (by omega); have kW1 := kW.below hB1 (by omega); have hB2 := Lib.hid (bW.trans (hB1.mono (by omega))); clear kc kW bW hB1; obtain ⟨⟨p0, p1, p2, p3⟩, -⟩ := Box.four (kc1.alloc (.cells #[.int .u8 (X.r.toNat : Int), .int .u8 (X.g.toNat : Int), .int .u8 (X.b.toNat : Int), .int .u8 (X.a.toNat : Int)] 23)); obtain ⟨⟨q0, q1, q2, q3⟩, f0, f1, f2, f3⟩ := Box.four (kW1.alloc (.cells #[.int .u8 (X.r.toNat : Int), .int .u8 (X.g.toNat : Int), .int .u8 (X.b.toNat : Int), .int .u8 (c.a.toNat : Int)] 23)); have HQ := Lib.hid (And.intro kc1 kW1); clear kc1 kW1)
  obtain ⟨kc1, kW1⟩ := HQ.out
  obtain ⟨U, hU, kU, bU⟩ := (kW1.alloc (.cells #[.int .u8 (X.r.toNat : Int), .int .u8 (X.g.toNat : Int), .int .u8 (X.b.toNat : Int), .int .u8 (c.a.toNat : Int)] 23)).stored (.int .u8 (X.r.toNat : Int)) (.int .u8 (X.g.toNat : Int)) (.int .u8 (X.b.toNat : Int)) (.int .u8 (c.a.toNat : Int))
  rw [hU]
  have hB4 := (hB2.out.alloc hB2.out.size (.cells #[.int .u8 (X.r.toNat : Int), .int .u8 (X.g.toNat : Int), .int .u8 (X.b.toNat : Int), .int .u8 (c.a.toNat : Int)] 23)).trans (bU w.heap.size (by omega))
  obtain ⟨⟨v0, v1, v2, v3⟩, -⟩ := Box.four kU
  exact bodyPost_ret (by simp [results, Tryd.results15, go_sem, v0, v1, v2, v3]) rfl ⟨rfl, hB4⟩
end Go.Proofs.YtaiinglogpbfjaaDoor
