/- The walk of PamFiles. -/
import Derived.Test.YtchfbpgbojnakaaDoorZPzI
namespace Go.Proofs.YtchfbpgbojnakaaDoor
open Go.RowKit

/-- a raster's box, as it is made behind a call, and what lies behind it -/
theorem ras_laid (w : World) (r : Ras) (p : Option Addr) (c : Nat) (h : RdV w w.heap.size p (rowCells r.pix)) : ∃ V, w.alloc (.cells #[.int .i64 r.w, .int .i64 r.h, .slice p r.pix.length c] 24) = V ∧ Box V w.heap.size 24 [.int .i64 r.w, .int .i64 r.h, .slice p r.pix.length c] ∧ RdV V V.heap.size p (rowCells r.pix) ∧ Below w.heap.size w V ∧ V.heap.size = w.heap.size + 1 :=
  ⟨_, rfl, Box.new w _ [.int .i64 r.w, .int .i64 r.h, .slice p r.pix.length c], h.on ((Below.refl _ _).alloc (Nat.le_refl _) _), (Below.refl _ _).alloc (Nat.le_refl _) _, by simp⟩
theorem file_pix {bs : By} {r : Ras} {k : Nat} (h : IsFile bs r k) : r.pix.length ≤ 4096 := by
  rcases h with ⟨x, y, rest, hs, -, ⟨-, rfl, -⟩ | ⟨-, rfl, -⟩ | ⟨l, -, hl, rfl, -⟩⟩ | ⟨-, rfl, -⟩
  · simp [ras0]
  · simp [ras0]
  · have := side_mul hs.1 hs.2
    show l.length ≤ 4096
    omega
  · simp [ras0]

set_option maxRecDepth 10000 in
set_option maxHeartbeats 6400000 in
theorem walk_PamFiles (r : Ras) (p : Option Addr) (c : Nat) (hR : RasOk r) (bs : By) (q : Option Addr) (d : Nat) (hbl : bs.length ≤ 140737488355328) (hbc : bs.length ≤ d) (hqd : q = none → d = 0) (w : World) (hq : RdV w w.heap.size p (rowCells r.pix)) (hb : RdV w w.heap.size q (bcells bs)) (hE : Env9 w) (hG : Rng w) :
    Calls Tryd.prog 3 #[rasV r p c, .slice q bs.length d] w fun e w' => e = .returned (.bool true) ∧ Below w.heap.size w w' := by
  obtain ⟨W, hW, k1, hq1, B0, hz⟩ := ras_laid w r p c hq
  have E1 := Lib.hid (pam_Write r p c hR W hq1 (hE.1.on B0) (hE.2.on B0))
  have E2 := Lib.hid (fun V (hb : Below W.heap.size W V) => ref9_Write r p c hR V (hq1.on hb))
  have E3 := Lib.hid (fun V (h : Below w.heap.size w V) => pam_Read bs q d hbl hbc hqd V (hb.on h) (hE.1.on h) (hG.on h))
  have E9 := Lib.hid (fun V (h : Below w.heap.size w V) => law9_lives V (hE.on h))
  have E4 := Lib.hid (fun V (h : Below w.heap.size w V) => ref9_Read bs q d hbl hbc V (hb.on h))
  obtain ⟨X, hX⟩ : ∃ X, writeB r = X := ⟨_, rfl⟩
  obtain ⟨z, hz2⟩ : ∃ z, writeE r = z := ⟨_, rfl⟩
  rw [hX, hz2] at E1
  simp only [hX, hz2] at E2
  have HK := Lib.hid (And.intro k1 B0)
  have hzz : W.heap.size = w.heap.size + 1 := hz
  have HW := Lib.hid hW
  obtain ⟨⟨p0, p1, p2⟩⟩ := show (_ ∧ _ ∧ _) ∧ True from ⟨Box.three k1, trivial⟩
  clear hX hz2 k1 B0 hW hq hb hq1 hz hE hG hqd
  unfold rasV at *
  go_enter Tryd.func3, Tryd.ntmps3
  go_wp2_with first
    | (rw [HW.out]; go_at_call 7; with_reducible refine Calls.mono E1.out ?_; rintro e w1 ⟨⟨p1, c1, rfl, hc1, -, r1⟩, b1⟩
       obtain ⟨y0, y1, y2⟩ := Box.three (HK.out.1.below b1 HK.out.1.lt)
       have B1 := Lib.hid (HK.out.2.trans (b1.mono HK.out.2.size)))
    | (go_at_call 8; with_reducible refine Calls.mono (E2.out w1 b1) ?_; rintro e w2 ⟨⟨p2, c2, rfl, r2⟩, b2⟩
       have B2 := Lib.hid (B1.out.trans (b2.mono B1.out.size)))
    | (go_at_call 9; with_reducible refine Calls.mono (E3.out w2 B2.out) ?_; rintro e w3 ⟨⟨p3, c3, ra, k3, rfl, f3, r3⟩, b3⟩
       have B3 := Lib.hid ((B2.out.trans (b3.mono B2.out.size)).alloc ((B2.out.trans (b3.mono B2.out.size)).size) (.cells #[.int .i64 ra.w, .int .i64 ra.h, .slice p3 ra.pix.length c3] 24)))
    | (go_at_call 10; with_reducible refine Calls.mono (E4.out _ B3.out) ?_; rintro e w4 ⟨⟨p4, c4, rb, k4, rfl, f4, r4⟩, b4⟩
       obtain ⟨rfl, rfl⟩ := f3.unique f4
       have d1 : Below w1.heap.size w1 (w4.alloc (.cells #[.int .i64 ra.w, .int .i64 ra.h, .slice p4 ra.pix.length c4] 24)) := by
         have h2 := b2.trans (b3.mono b2.size)
         have h3 := h2.alloc h2.size (.cells #[.int .i64 ra.w, .int .i64 ra.h, .slice p3 ra.pix.length c3] 24)
         have h4 := h3.trans (b4.mono h3.size)
         exact h4.alloc h4.size _
       have d2 : Below w2.heap.size w2 (w4.alloc (.cells #[.int .i64 ra.w, .int .i64 ra.h, .slice p4 ra.pix.length c4] 24)) := by
         have h3 := b3.alloc b3.size (.cells #[.int .i64 ra.w, .int .i64 ra.h, .slice p3 ra.pix.length c3] 24)
         have h4 := h3.trans (b4.mono h3.size)
         exact h4.alloc h4.size _
       have d3 : Below w3.heap.size w3 (w4.alloc (.cells #[.int .i64 ra.w, .int .i64 ra.h, .slice p4 ra.pix.length c4] 24)) := by
         have h3 := (Below.refl w3.heap.size w3).alloc (Nat.le_refl _) (.cells #[.int .i64 ra.w, .int .i64 ra.h, .slice p3 ra.pix.length c3] 24)
         have h4 := h3.trans (b4.mono h3.size)
         exact h4.alloc h4.size _
       have d4 : Below w4.heap.size w4 (w4.alloc (.cells #[.int .i64 ra.w, .int .i64 ra.h, .slice p4 ra.pix.length c4] 24)) := (Below.refl _ _).alloc (Nat.le_refl _) _
       have hcv1 := conv_by (r1.on d1) c1
       have hcv2 := conv_by (r2.on d2) c2
       have hb3 := (Box.new w3 24 [.int .i64 ra.w, .int .i64 ra.h, .slice p3 ra.pix.length c3])
       obtain ⟨m0, m1, m2⟩ := Box.three ((hb3.below b4 hb3.lt).alloc (.cells #[.int .i64 ra.w, .int .i64 ra.h, .slice p4 ra.pix.length c4] 24))
       have hs := ref9_Same ra ra p3 p4 c3 c4 _ (r3.on d3) (r4.on d4) (by have := file_pix f3; omega)
       unfold rasV TellsIt at hs
       have HS := Lib.hid hs
       have B5 := Lib.hid (show Below w.heap.size w (w4.alloc (.cells #[.int .i64 ra.w, .int .i64 ra.h, .slice p4 ra.pix.length c4] 24)) from by have h := B3.out.trans (b4.mono B3.out.size); exact h.alloc h.size _)
       clear d1 d2 d3 d4 hb3 hs)
    | (go_at_call 11; with_reducible refine Calls.mono HS.out ?_; rintro e w5 ⟨⟨bb, rfl, hbb⟩, b5⟩
       obtain rfl : bb = true := hbb.2 (by first | rfl | trivial))
    | (go_at_call 12; with_reducible refine Calls.mono (E9.out _ (B5.out.trans (b5.mono B5.out.size))) ?_; rintro e w6 ⟨rfl, b6⟩)
  go_ret
  exact ⟨rfl, (B5.out.trans (b5.mono B5.out.size)).trans (b6.mono (B5.out.trans (b5.mono B5.out.size)).size)⟩
end Go.Proofs.YtchfbpgbojnakaaDoor
