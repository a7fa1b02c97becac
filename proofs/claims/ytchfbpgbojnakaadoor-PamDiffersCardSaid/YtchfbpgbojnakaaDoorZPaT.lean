/- The walk of PamDiffers. -/
import Derived.Test.YtchfbpgbojnakaaDoorZPaS
namespace Go.Proofs.YtchfbpgbojnakaaDoor
open Go.RowKit

set_option maxRecDepth 10000 in
set_option maxHeartbeats 6400000 in
theorem walk_PamDiffers (a b : Ras) (p q : Option Addr) (c d : Nat) (hA : RasOk a) (hB : RasOk b) (w : World) (ha : RdV w w.heap.size p (rowCells a.pix)) (hb : RdV w w.heap.size q (rowCells b.pix)) (hE : Env9 w) :
    Calls Tryd.prog 5 #[rasV a p c, rasV b q d] w fun e w' => e = .returned (.bool true) ∧ Below w.heap.size w w' := by
  obtain ⟨V, hV, k1, ha1, B0, hz⟩ := ras_laid w a p c ha
  obtain ⟨W, hW, k2, hb2, B1, hz2⟩ := ras_laid V b q d (hb.on B0)
  have ha2 := ha1.on (B1.mono (Nat.le_refl _))
  have k1' := k1.below B1 (by omega)
  have HB := Lib.hid (B0.trans (B1.mono (by omega)))
  have E1 := Lib.hid (fun X (h : Below W.heap.size W X) => pam_Differ a b p q c d hA hB X (ha2.on h) (hb2.on h))
  have E2 := Lib.hid (fun X (h : Below W.heap.size W X) => ref9_Differ a b p q c d hA hB X (ha2.on h) (hb2.on h))
  have E3 := Lib.hid (fun X (h : Below W.heap.size W X) => pam_Differ a a p p c c hA hA X (ha2.on h) (ha2.on h))
  have E9 := Lib.hid (fun V (h : Below w.heap.size w V) => law9_lives V (hE.on h))
  rw [hz] at k2
  have HK := Lib.hid (And.intro k1' k2)
  have HW := Lib.hid (show (w.alloc (.cells #[.int .i64 a.w, .int .i64 a.h, .slice p a.pix.length c] 24)).alloc (.cells #[.int .i64 b.w, .int .i64 b.h, .slice q b.pix.length d] 24) = W from by rw [hV]; exact hW)
  have hlt : w.heap.size + 1 < W.heap.size := by omega
  clear hV hW k1 k1' k2 ha hb ha1 ha2 hb2 B0 B1 hz hz2 hE
  unfold rasV at *
  go_enter Tryd.func5, Tryd.ntmps5
  go_wp2_with first
    | (rw [HW.out]; go_at_call 21; with_reducible refine Calls.mono (E1.out W (Below.refl _ _)) ?_; rintro e w1 ⟨⟨x, y, t, rfl, f1⟩, b1⟩
       obtain ⟨m0, m1, m2⟩ := Box.three (HK.out.1.below b1 HK.out.1.lt)
       obtain ⟨n0, n1, n2⟩ := Box.three (HK.out.2.below b1 HK.out.2.lt))
    | (go_at_call 22; with_reducible refine Calls.mono (E2.out w1 b1) ?_; rintro e w2 ⟨⟨x', y', t', rfl, f2⟩, b2⟩
       obtain ⟨rfl, rfl, rfl⟩ := f1.unique f2
       have c2 := Lib.hid (b1.trans (b2.mono b1.size))
       obtain ⟨m0, m1, m2⟩ := Box.three (HK.out.1.below c2.out HK.out.1.lt))
    | (go_at_call 21; with_reducible refine Calls.mono (E3.out w2 c2.out) ?_; rintro e w3 ⟨⟨x'', y'', t'', rfl, f3⟩, b3⟩
       obtain rfl : t'' = false := f3.own
       have c3 := Lib.hid (c2.out.trans (b3.mono c2.out.size)))
    | (go_at_call 12; with_reducible refine Calls.mono (E9.out _ (HB.out.trans (c3.out.mono HB.out.size))) ?_; rintro e w4 ⟨rfl, b4⟩)
  go_ret
  exact ⟨rfl, (HB.out.trans (c3.out.mono HB.out.size)).trans (b4.mono (HB.out.trans (c3.out.mono HB.out.size)).size)⟩
end Go.Proofs.YtchfbpgbojnakaaDoor
