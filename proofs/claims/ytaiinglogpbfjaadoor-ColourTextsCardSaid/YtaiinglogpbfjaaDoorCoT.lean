/- The walk of ColourTexts. Written by gen/gencx.py. -/
import Derived.Test.YtaiinglogpbfjaaDoorCoF
import Derived.Test.YtaiinglogpbfjaaDoorCoU
namespace Go.Proofs.YtaiinglogpbfjaaDoor
open Go.RowKit

theorem and_low {A : Prop} {v w : World} (h : A ∧ Below v.heap.size v w) : Below v.heap.size v w := h.2
theorem str_backT (b : By) : (str b).data.toList = b := by simp [str]
/-- what a text read as a colour comes to: the colour, or none, and the error's number -/
def colOr (s : By) : Col := (colRead s).getD col0
def colErr (s : By) : Int := if colRead s = none then 3 else 0
theorem read_one {s : By} {w : World} {e : Ending} {w' : World} (h : Below w.heap.size w w' ∧ ((∃ c, colRead s = some c ∧ e = .returned (.tuple #[colV c, .int .i64 0])) ∨ (colRead s = none ∧ e = .returned (.tuple #[colV col0, .int .i64 3])))) :
    e = .returned (.tuple #[colV (colOr s), .int .i64 (colErr s)]) ∧ Below w.heap.size w w' := by
  obtain ⟨h0, ⟨c, h1, h2⟩ | ⟨h1, h2⟩⟩ := h
  · exact ⟨by rw [h2]; simp [colOr, colErr, h1], h0⟩
  · exact ⟨by rw [h2]; simp [colOr, colErr, h1], h0⟩

set_option maxRecDepth 10000 in
set_option maxHeartbeats 6400000 in
theorem walk_ColourTexts (c : Col) (t : ByteArray) (ht : t.size ≤ 140737488355328) (w : World) (hF : Figs w) : Calls Tryd.prog 3 #[colV c, .string t] w fun e w' => e = .returned (.bool true) ∧ Below w.heap.size w w' := by
  have k1 : Box (w.alloc (.cells (colCells c).toArray 23)) w.heap.size 23 (colCells c) := Box.new w _ _
  have B0 : Below w.heap.size w (w.alloc (.cells (colCells c).toArray 23)) := (Below.refl _ _).alloc (Nat.le_refl _) _
  have L0 := Lies.box k1
  obtain ⟨W, hW⟩ : ∃ W, w.alloc (.cells (colCells c).toArray 23) = W := ⟨_, rfl⟩
  rw [hW] at L0 B0
  obtain ⟨x, hx⟩ : ∃ x, colOr t.data.toList = x := ⟨_, rfl⟩
  obtain ⟨k, hk⟩ : ∃ x, colErr t.data.toList = x := ⟨_, rfl⟩
  obtain ⟨s, hs⟩ : ∃ s, str (hexOf (colBy c)) = s := ⟨_, rfl⟩
  have hss : s.size ≤ 140737488355328 := by rw [← hs, ← str_len, str_backT, hexOf_length]; simp [colBy]
  have hsd : s.data.toList = hexOf (colBy c) := by rw [← hs, str_backT]
  have E1 := Lib.hid (show ∀ V, Below w.heap.size w V → Calls Tryd.prog 4 #[.string t] V (fun e w' => e = .returned (.tuple #[.agg #[.int .u8 (x.r.toNat : Int), .int .u8 (x.g.toNat : Int), .int .u8 (x.b.toNat : Int), .int .u8 (x.a.toNat : Int)], .int .i64 k]) ∧ Below V.heap.size V w') from fun V hb => (col_Parse t ht V (hF.on hb)).mono fun e w' h => by have h := read_one h; rw [hx, hk] at h; exact h)
  have E2 := Lib.hid (show ∀ V, Calls Tryd.prog 5 #[.string t] V (fun e w' => e = .returned (.tuple #[.agg #[.int .u8 (x.r.toNat : Int), .int .u8 (x.g.toNat : Int), .int .u8 (x.b.toNat : Int), .int .u8 (x.a.toNat : Int)], .int .i64 k]) ∧ Below V.heap.size V w') from fun V => (ref8_Parse t (by omega) V).mono fun e w' h => by have h := read_one h; rw [hx, hk] at h; exact h)
  have E3 := Lib.hid (show ∀ V, Below w.heap.size w V → Calls Tryd.prog 4 #[.string s] V (fun e w' => e = .returned (.tuple #[.agg #[.int .u8 (c.r.toNat : Int), .int .u8 (c.g.toNat : Int), .int .u8 (c.b.toNat : Int), .int .u8 (c.a.toNat : Int)], .int .i64 0]) ∧ Below V.heap.size V w') from fun V hb => (col_Parse s hss V (hF.on hb)).mono fun e w' h => by
    have h := read_one h
    rw [hsd] at h
    simpa [colOr, colErr, colRead_text, colV] using h)
  have E4 := Lib.hid (show ∀ V, Below w.heap.size w V → Calls Tryd.prog 6 #[.agg #[.int .u8 (c.r.toNat : Int), .int .u8 (c.g.toNat : Int), .int .u8 (c.b.toNat : Int), .int .u8 (c.a.toNat : Int)]] V (fun e w' => e = .returned (.string s) ∧ Below V.heap.size V w') from fun V hb => by have h := col_Text c V (hF.on hb); rw [hs] at h; exact h)
  have E5 := Lib.hid (show ∀ V, Calls Tryd.prog 7 #[.agg #[.int .u8 (c.r.toNat : Int), .int .u8 (c.g.toNat : Int), .int .u8 (c.b.toNat : Int), .int .u8 (c.a.toNat : Int)]] V (fun e w' => e = .returned (.string s) ∧ Below V.heap.size V w') from fun V => by have h := ref8_Text c V; rw [hs] at h; exact h)
  have HL := Lib.hid (And.intro L0 B0)
  clear k1 L0 B0 hx hk hs hss hsd hF
  unfold colV colCells at *
  go_enter Tryd.func3, Tryd.ntmps3
  go_wp2_with first
    | (go_at_call 4; (with_reducible refine Calls.mono (E1.out _ HL.out.2) ?_); rintro e w1 ⟨rfl, b1⟩
       have M1 := Lib.hid (show (Lies (w1.alloc (.cells #[.int .u8 (x.r.toNat : Int), .int .u8 (x.g.toNat : Int), .int .u8 (x.b.toNat : Int), .int .u8 (x.a.toNat : Int)] 23)) w.heap.size c ∧ Lies (w1.alloc (.cells #[.int .u8 (x.r.toNat : Int), .int .u8 (x.g.toNat : Int), .int .u8 (x.b.toNat : Int), .int .u8 (x.a.toNat : Int)] 23)) w1.heap.size x) ∧ Below w.heap.size w (w1.alloc (.cells #[.int .u8 (x.r.toNat : Int), .int .u8 (x.g.toNat : Int), .int .u8 (x.b.toNat : Int), .int .u8 (x.a.toNat : Int)] 23)) from ⟨⟨(HL.out.1.on b1).alloc _, Lies.box (Box.new w1 23 (colCells x))⟩, (HL.out.2.trans (b1.mono HL.out.2.size)).alloc ((HL.out.2.trans (b1.mono HL.out.2.size)).size) _⟩))
    | (go_at_call 5; (with_reducible refine Calls.mono (E2.out _) ?_); rintro e w2 ⟨rfl, b2⟩
       have M2 := Lib.hid (show (Lies (w2.alloc (.cells #[.int .u8 (x.r.toNat : Int), .int .u8 (x.g.toNat : Int), .int .u8 (x.b.toNat : Int), .int .u8 (x.a.toNat : Int)] 23)) w.heap.size c ∧ Lies (w2.alloc (.cells #[.int .u8 (x.r.toNat : Int), .int .u8 (x.g.toNat : Int), .int .u8 (x.b.toNat : Int), .int .u8 (x.a.toNat : Int)] 23)) w1.heap.size x ∧ Lies (w2.alloc (.cells #[.int .u8 (x.r.toNat : Int), .int .u8 (x.g.toNat : Int), .int .u8 (x.b.toNat : Int), .int .u8 (x.a.toNat : Int)] 23)) w2.heap.size x) ∧ Below w.heap.size w (w2.alloc (.cells #[.int .u8 (x.r.toNat : Int), .int .u8 (x.g.toNat : Int), .int .u8 (x.b.toNat : Int), .int .u8 (x.a.toNat : Int)] 23)) from ⟨⟨(M1.out.1.1.on b2).alloc _, (M1.out.1.2.on b2).alloc _, Lies.box (Box.new w2 23 (colCells x))⟩, (M1.out.2.trans (b2.mono M1.out.2.size)).alloc ((M1.out.2.trans (b2.mono M1.out.2.size)).size) _⟩)
       obtain ⟨⟨⟨⟨r0, r1, r2, r3⟩, -⟩, -⟩, -⟩ := M2.out)
    | (go_at_call 6; (with_reducible refine Calls.mono (E4.out _ M2.out.2) ?_); rintro e w3 ⟨rfl, b3⟩)
    | (go_at_call 4; (with_reducible refine Calls.mono (E3.out _ (M2.out.2.trans (b3.mono M2.out.2.size))) ?_); rintro e w4 ⟨rfl, b4⟩
       have hS : ((((w4.alloc (.cells #[.int .u8 (c.r.toNat : Int), .int .u8 (c.g.toNat : Int), .int .u8 (c.b.toNat : Int), .int .u8 (c.a.toNat : Int)] 23)).cell? ⟨w.heap.size, 0, none⟩ = some (.int .u8 (c.r.toNat : Int)) ∧ (w4.alloc (.cells #[.int .u8 (c.r.toNat : Int), .int .u8 (c.g.toNat : Int), .int .u8 (c.b.toNat : Int), .int .u8 (c.a.toNat : Int)] 23)).cell? ⟨w.heap.size, 1, none⟩ = some (.int .u8 (c.g.toNat : Int)) ∧ (w4.alloc (.cells #[.int .u8 (c.r.toNat : Int), .int .u8 (c.g.toNat : Int), .int .u8 (c.b.toNat : Int), .int .u8 (c.a.toNat : Int)] 23)).cell? ⟨w.heap.size, 2, none⟩ = some (.int .u8 (c.b.toNat : Int)) ∧ (w4.alloc (.cells #[.int .u8 (c.r.toNat : Int), .int .u8 (c.g.toNat : Int), .int .u8 (c.b.toNat : Int), .int .u8 (c.a.toNat : Int)] 23)).cell? ⟨w.heap.size, 3, none⟩ = some (.int .u8 (c.a.toNat : Int))) ∧ ((w4.alloc (.cells #[.int .u8 (c.r.toNat : Int), .int .u8 (c.g.toNat : Int), .int .u8 (c.b.toNat : Int), .int .u8 (c.a.toNat : Int)] 23)).cell? ⟨w.heap.size, 0, none⟩ = some (.int .u8 (c.r.toNat : Int)) ∧ (w4.alloc (.cells #[.int .u8 (c.r.toNat : Int), .int .u8 (c.g.toNat : Int), .int .u8 (c.b.toNat : Int), .int .u8 (c.a.toNat : Int)] 23)).cell? ⟨w.heap.size, 1, none⟩ = some (.int .u8 (c.g.toNat : Int)) ∧ (w4.alloc (.cells #[.int .u8 (c.r.toNat : Int), .int .u8 (c.g.toNat : Int), .int .u8 (c.b.toNat : Int), .int .u8 (c.a.toNat : Int)] 23)).cell? ⟨w.heap.size, 2, none⟩ = some (.int .u8 (c.b.toNat : Int)) ∧ (w4.alloc (.cells #[.int .u8 (c.r.toNat : Int), .int .u8 (c.g.toNat : Int), .int .u8 (c.b.toNat : Int), .int .u8 (c.a.toNat : Int)] 23)).cell? ⟨w.heap.size, 3, none⟩ = some (.int .u8 (c.a.toNat : Int))) ∧ ((w4.alloc (.cells #[.int .u8 (c.r.toNat : Int), .int .u8 (c.g.toNat : Int), .int .u8 (c.b.toNat : Int), .int .u8 (c.a.toNat : Int)] 23)).cell? ⟨w1.heap.size, 0, none⟩ = some (.int .u8 (x.r.toNat : Int)) ∧ (w4.alloc (.cells #[.int .u8 (c.r.toNat : Int), .int .u8 (c.g.toNat : Int), .int .u8 (c.b.toNat : Int), .int .u8 (c.a.toNat : Int)] 23)).cell? ⟨w1.heap.size, 1, none⟩ = some (.int .u8 (x.g.toNat : Int)) ∧ (w4.alloc (.cells #[.int .u8 (c.r.toNat : Int), .int .u8 (c.g.toNat : Int), .int .u8 (c.b.toNat : Int), .int .u8 (c.a.toNat : Int)] 23)).cell? ⟨w1.heap.size, 2, none⟩ = some (.int .u8 (x.b.toNat : Int)) ∧ (w4.alloc (.cells #[.int .u8 (c.r.toNat : Int), .int .u8 (c.g.toNat : Int), .int .u8 (c.b.toNat : Int), .int .u8 (c.a.toNat : Int)] 23)).cell? ⟨w1.heap.size, 3, none⟩ = some (.int .u8 (x.a.toNat : Int))) ∧ ((w4.alloc (.cells #[.int .u8 (c.r.toNat : Int), .int .u8 (c.g.toNat : Int), .int .u8 (c.b.toNat : Int), .int .u8 (c.a.toNat : Int)] 23)).cell? ⟨w2.heap.size, 0, none⟩ = some (.int .u8 (x.r.toNat : Int)) ∧ (w4.alloc (.cells #[.int .u8 (c.r.toNat : Int), .int .u8 (c.g.toNat : Int), .int .u8 (c.b.toNat : Int), .int .u8 (c.a.toNat : Int)] 23)).cell? ⟨w2.heap.size, 1, none⟩ = some (.int .u8 (x.g.toNat : Int)) ∧ (w4.alloc (.cells #[.int .u8 (c.r.toNat : Int), .int .u8 (c.g.toNat : Int), .int .u8 (c.b.toNat : Int), .int .u8 (c.a.toNat : Int)] 23)).cell? ⟨w2.heap.size, 2, none⟩ = some (.int .u8 (x.b.toNat : Int)) ∧ (w4.alloc (.cells #[.int .u8 (c.r.toNat : Int), .int .u8 (c.g.toNat : Int), .int .u8 (c.b.toNat : Int), .int .u8 (c.a.toNat : Int)] 23)).cell? ⟨w2.heap.size, 3, none⟩ = some (.int .u8 (x.a.toNat : Int))) ∧ ((w4.alloc (.cells #[.int .u8 (c.r.toNat : Int), .int .u8 (c.g.toNat : Int), .int .u8 (c.b.toNat : Int), .int .u8 (c.a.toNat : Int)] 23)).cell? ⟨w4.heap.size, 0, none⟩ = some (.int .u8 (c.r.toNat : Int)) ∧ (w4.alloc (.cells #[.int .u8 (c.r.toNat : Int), .int .u8 (c.g.toNat : Int), .int .u8 (c.b.toNat : Int), .int .u8 (c.a.toNat : Int)] 23)).cell? ⟨w4.heap.size, 1, none⟩ = some (.int .u8 (c.g.toNat : Int)) ∧ (w4.alloc (.cells #[.int .u8 (c.r.toNat : Int), .int .u8 (c.g.toNat : Int), .int .u8 (c.b.toNat : Int), .int .u8 (c.a.toNat : Int)] 23)).cell? ⟨w4.heap.size, 2, none⟩ = some (.int .u8 (c.b.toNat : Int)) ∧ (w4.alloc (.cells #[.int .u8 (c.r.toNat : Int), .int .u8 (c.g.toNat : Int), .int .u8 (c.b.toNat : Int), .int .u8 (c.a.toNat : Int)] 23)).cell? ⟨w4.heap.size, 3, none⟩ = some (.int .u8 (c.a.toNat : Int)))) ∧ (w.heap.size < (w4.alloc (.cells #[.int .u8 (c.r.toNat : Int), .int .u8 (c.g.toNat : Int), .int .u8 (c.b.toNat : Int), .int .u8 (c.a.toNat : Int)] 23)).heap.size ∧ w.heap.size < (w4.alloc (.cells #[.int .u8 (c.r.toNat : Int), .int .u8 (c.g.toNat : Int), .int .u8 (c.b.toNat : Int), .int .u8 (c.a.toNat : Int)] 23)).heap.size ∧ w1.heap.size < (w4.alloc (.cells #[.int .u8 (c.r.toNat : Int), .int .u8 (c.g.toNat : Int), .int .u8 (c.b.toNat : Int), .int .u8 (c.a.toNat : Int)] 23)).heap.size ∧ w2.heap.size < (w4.alloc (.cells #[.int .u8 (c.r.toNat : Int), .int .u8 (c.g.toNat : Int), .int .u8 (c.b.toNat : Int), .int .u8 (c.a.toNat : Int)] 23)).heap.size ∧ w4.heap.size < (w4.alloc (.cells #[.int .u8 (c.r.toNat : Int), .int .u8 (c.g.toNat : Int), .int .u8 (c.b.toNat : Int), .int .u8 (c.a.toNat : Int)] 23)).heap.size)) ∧ Below w.heap.size w (w4.alloc (.cells #[.int .u8 (c.r.toNat : Int), .int .u8 (c.g.toNat : Int), .int .u8 (c.b.toNat : Int), .int .u8 (c.a.toNat : Int)] 23)) := by
         have a := ((M2.out.1.1.on b3).on b4).alloc (.cells #[.int .u8 (c.r.toNat : Int), .int .u8 (c.g.toNat : Int), .int .u8 (c.b.toNat : Int), .int .u8 (c.a.toNat : Int)] 23)
         have b := ((M2.out.1.2.1.on b3).on b4).alloc (.cells #[.int .u8 (c.r.toNat : Int), .int .u8 (c.g.toNat : Int), .int .u8 (c.b.toNat : Int), .int .u8 (c.a.toNat : Int)] 23)
         have d := ((M2.out.1.2.2.on b3).on b4).alloc (.cells #[.int .u8 (c.r.toNat : Int), .int .u8 (c.g.toNat : Int), .int .u8 (c.b.toNat : Int), .int .u8 (c.a.toNat : Int)] 23)
         have f := Lies.box (Box.new w4 23 (colCells c))
         have h := M2.out.2.trans (b3.mono M2.out.2.size)
         have h2 := h.trans (b4.mono h.size)
         exact ⟨⟨⟨a.1, a.1, b.1, d.1, f.1⟩, a.2, a.2, b.2, d.2, f.2⟩, h2.alloc h2.size _⟩
       have HS := Lib.hid hS
       clear hS r0 r1 r2 r3 b3 b4)
  clear HL M1 M2 b1 b2
  generalize w1.heap.size = g1 at *
  generalize w2.heap.size = g2 at *
  generalize w4.heap.size = g4 at *
  go_region_held3 (fun w' => (((w'.cell? ⟨w.heap.size, 0, none⟩ = some (.int .u8 (c.r.toNat : Int)) ∧ w'.cell? ⟨w.heap.size, 1, none⟩ = some (.int .u8 (c.g.toNat : Int)) ∧ w'.cell? ⟨w.heap.size, 2, none⟩ = some (.int .u8 (c.b.toNat : Int)) ∧ w'.cell? ⟨w.heap.size, 3, none⟩ = some (.int .u8 (c.a.toNat : Int))) ∧ (w'.cell? ⟨w.heap.size, 0, none⟩ = some (.int .u8 (c.r.toNat : Int)) ∧ w'.cell? ⟨w.heap.size, 1, none⟩ = some (.int .u8 (c.g.toNat : Int)) ∧ w'.cell? ⟨w.heap.size, 2, none⟩ = some (.int .u8 (c.b.toNat : Int)) ∧ w'.cell? ⟨w.heap.size, 3, none⟩ = some (.int .u8 (c.a.toNat : Int))) ∧ (w'.cell? ⟨g1, 0, none⟩ = some (.int .u8 (x.r.toNat : Int)) ∧ w'.cell? ⟨g1, 1, none⟩ = some (.int .u8 (x.g.toNat : Int)) ∧ w'.cell? ⟨g1, 2, none⟩ = some (.int .u8 (x.b.toNat : Int)) ∧ w'.cell? ⟨g1, 3, none⟩ = some (.int .u8 (x.a.toNat : Int))) ∧ (w'.cell? ⟨g2, 0, none⟩ = some (.int .u8 (x.r.toNat : Int)) ∧ w'.cell? ⟨g2, 1, none⟩ = some (.int .u8 (x.g.toNat : Int)) ∧ w'.cell? ⟨g2, 2, none⟩ = some (.int .u8 (x.b.toNat : Int)) ∧ w'.cell? ⟨g2, 3, none⟩ = some (.int .u8 (x.a.toNat : Int))) ∧ (w'.cell? ⟨g4, 0, none⟩ = some (.int .u8 (c.r.toNat : Int)) ∧ w'.cell? ⟨g4, 1, none⟩ = some (.int .u8 (c.g.toNat : Int)) ∧ w'.cell? ⟨g4, 2, none⟩ = some (.int .u8 (c.b.toNat : Int)) ∧ w'.cell? ⟨g4, 3, none⟩ = some (.int .u8 (c.a.toNat : Int)))) ∧ (w.heap.size < w'.heap.size ∧ w.heap.size < w'.heap.size ∧ g1 < w'.heap.size ∧ g2 < w'.heap.size ∧ g4 < w'.heap.size)) ∧ Below w.heap.size w w')
    (first | (with_reducible exact five_drew HS.out) | (with_reducible exact HS.out) | (with_reducible exact five_on (by assumption) b6) | (with_reducible exact five_drew (by assumption)) | go_keep)
    ((first
      | (go_at_call 6; (with_reducible refine Calls.mono (E4.out _ (and_low (by assumption))) ?_); rintro e w6 ⟨rfl, b6⟩)
      | (go_at_call 7; (with_reducible refine Calls.mono (E5.out _) ?_); rintro e w6 ⟨rfl, b6⟩)
      | (go_at_call 8; (with_reducible refine Calls.mono (law8_lives _) ?_); rintro e w6 ⟨rfl, b6⟩)))
  all_goals
    rename_i hHeld
    obtain ⟨-, hB⟩ := hHeld
    go_wp2_with fail
    go_ret
    exact ⟨rfl, hB⟩
end Go.Proofs.YtaiinglogpbfjaaDoor
