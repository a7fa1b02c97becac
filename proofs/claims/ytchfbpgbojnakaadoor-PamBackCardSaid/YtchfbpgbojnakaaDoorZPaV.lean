/- The walk of PamBack. Written by gen/genpv.py. -/
import Derived.Test.YtchfbpgbojnakaaDoorZPaS
namespace Go.Proofs.YtchfbpgbojnakaaDoor
open Go.RowKit

theorem file_is (b : By) : ∃ r k, IsFile b r k := by
  by_cases h : ∃ w h rest, ((1 ≤ w ∧ w ≤ 64) ∧ (1 ≤ h ∧ h ≤ 64)) ∧ b = headOf w h ++ rest
  · obtain ⟨x, y, rest, hs, hb⟩ := h
    have hp := side_mul hs.1 hs.2
    obtain ⟨n, hn⟩ : ∃ n : Nat, x * y = n := ⟨(x * y).toNat, by omega⟩
    by_cases h1 : (rest.length : Int) < 4 * (x * y)
    · exact ⟨ras0, 13, .inl ⟨x, y, rest, hs, hb, .inl ⟨h1, rfl, rfl⟩⟩⟩
    · by_cases h2 : 4 * (x * y) < (rest.length : Int)
      · exact ⟨ras0, 14, .inl ⟨x, y, rest, hs, hb, .inr (.inl ⟨h2, rfl, rfl⟩)⟩⟩
      · obtain ⟨l, l1, l2⟩ := bodyOf_of n rest (by omega)
        exact ⟨⟨x, y, l⟩, 0, .inl ⟨x, y, rest, hs, hb, .inr (.inr ⟨l, l2, by omega, rfl, rfl⟩)⟩⟩
  · exact ⟨ras0, 3, .inr ⟨fun x y rest hs hb => h ⟨x, y, rest, hs, hb⟩, rfl, rfl⟩⟩
theorem pam_ReadIs {bs : By} {r : Ras} {k : Nat} (hf : IsFile bs r k) (p : Option Addr) (c : Nat) (hl : bs.length ≤ 140737488355328) (hc : bs.length ≤ c) (hp : p = none → c = 0) (w : World) (hq : RdV w w.heap.size p (bcells bs)) (hH : Heads w) (hR : Rng w) :
    Calls Tryd.prog 9 #[.slice p bs.length c] w fun e w' => (∃ p c, e = .returned (.tuple #[rasV r p c, .int .i64 (k : Int)]) ∧ RdV w' w'.heap.size p (rowCells r.pix)) ∧ Below w.heap.size w w' :=
  (pam_Read bs p c hl hc hp w hq hH hR).mono fun e w' ⟨⟨p, c, r', k', he, hf', hr⟩, hb⟩ => by
    obtain ⟨rfl, rfl⟩ := hf.unique hf'
    exact ⟨⟨p, c, he, hr⟩, hb⟩
theorem RasOk.of_may {r : Ras} (h : RMay r) : RasOk r := by
  have := h.1
  have := h.2.1
  have := h.2.2
  have := side_mul h.1 h.2.1
  exact ⟨⟨by omega, by omega⟩, ⟨by omega, by omega⟩, by omega⟩
theorem file_length {r : Ras} (h : RMay r) : (fileOf r).length ≤ 140737488355328 := by
  have h1 := head_len r.w r.h ⟨by have := h.1; omega, by have := h.1; omega⟩ ⟨by have := h.2.1; omega, by have := h.2.1; omega⟩
  have h2 := side_mul h.1 h.2.1
  have h3 := h.2.2
  unfold fileOf
  rw [List.length_append, bodyOf_length]
  omega

set_option maxRecDepth 10000 in
set_option maxHeartbeats 12800000 in
theorem walk_PamBack (r : Ras) (p : Option Addr) (c : Nat) (hR : RasOk r) (bs : By) (q : Option Addr) (d : Nat) (hbl : bs.length ≤ 140737488355328) (hbc : bs.length ≤ d) (hqd : q = none → d = 0) (w : World) (hq : RdV w w.heap.size p (rowCells r.pix)) (hb : RdV w w.heap.size q (bcells bs)) (hE : Env9 w) (hG : Rng w) :
    Calls Tryd.prog 6 #[rasV r p c, .slice q bs.length d] w fun e w' => e = .returned (.bool true) ∧ Below w.heap.size w w' := by
  obtain ⟨W, hW, k1, hq1, B0, hz⟩ := ras_laid w r p c hq
  obtain ⟨rb, k, hf⟩ := file_is bs
  have E1 := pam_Write r p c hR W hq1 (hE.1.on B0) (hE.2.on B0)
  have E3 := Lib.hid (fun V (h : Below w.heap.size w V) => pam_ReadIs hf q d hbl hbc hqd V (hb.on h) (hE.1.on h) (hG.on h))
  have E9 := Lib.hid (fun V (h : Below w.heap.size w V) => law9_lives V (hE.on h))
  have HE := Lib.hid (show (Heads w ∧ Tab w) ∧ Rng w from ⟨hE, hG⟩)
  have HK := Lib.hid (And.intro k1 B0)
  have HW := Lib.hid hW
  have HQ := Lib.hid (And.intro hq1 hb)
  have HZ := Lib.hid (And.intro hz (And.intro hbl hf))
  have HR := Lib.hid hR
  clear k1 B0 hW hq hb hq1 hz hbl hR hE hG hqd
  by_cases hm : RMay r
  · by_cases hk : k = 0
    · skip
      have eB : writeB r = fileOf r := if_pos hm
      have eE : writeE r = 0 := if_pos hm
      have HM := Lib.hid hm
      rw [eB, eE] at E1
      obtain rfl : k = 0 := hk
      obtain ⟨hm2, hfb⟩ := file_again HZ.out.2.2
      have E5 := Lib.hid (fun p4 c4 V hr (h : Below w.heap.size w V) => pam_Write rb p4 c4 (RasOk.of_may hm2) V hr (HE.out.1.1.on h) (HE.out.1.2.on h))
      rw [show writeB rb = bs from (if_pos hm2).trans hfb, show writeE rb = 0 from if_pos hm2] at E5
      clear hm2 hfb
      replace E1 := Lib.hid E1
      clear eB eE hm
      unfold rasV at *
      go_enter Tryd.func6, Tryd.ntmps6
      go_wp2_with first
        | (rw [HW.out]; go_at_call 7; with_reducible refine Calls.mono E1.out ?_; rintro e w1 ⟨⟨p1, c1, rfl, hc1, hp1, r1⟩, b1⟩
           have B1 := Lib.hid (HK.out.2.trans (b1.mono HK.out.2.size)))
        | (go_at_call 9; with_reducible refine Calls.mono (pam_ReadIs (file_back HM.out) p1 c1 (file_length HM.out) hc1 hp1 w1 r1 (HE.out.1.1.on B1.out) (HE.out.2.on B1.out)) ?_; (try unfold rasV); rintro e w2 ⟨⟨p2, c2, rfl, r2⟩, b2⟩
           have B2 := Lib.hid ((B1.out.trans (b2.mono B1.out.size)).alloc ((B1.out.trans (b2.mono B1.out.size)).size) (.cells #[.int .i64 r.w, .int .i64 r.h, .slice p2 r.pix.length c2] 24))
           have d0 : Below W.heap.size W (w2.alloc (.cells #[.int .i64 r.w, .int .i64 r.h, .slice p2 r.pix.length c2] 24)) := by
             have h := b1.trans (b2.mono b1.size)
             exact h.alloc h.size _
           obtain ⟨y0, y1, y2⟩ := Box.three (HK.out.1.below d0 HK.out.1.lt)
           have hs := ref9_Same r r p2 p c2 c (w2.alloc (.cells #[.int .i64 r.w, .int .i64 r.h, .slice p2 r.pix.length c2] 24)) (r2.on ((Below.refl _ _).alloc (Nat.le_refl _) _)) (HQ.out.1.on d0) (by have := HR.out.2.2; omega)
           unfold rasV TellsIt at hs
           have HS := Lib.hid hs
           clear hs d0)
        | (go_at_call 11; with_reducible refine Calls.mono HS.out ?_; rintro e w3 ⟨⟨bb, rfl, hbb⟩, b3⟩
           obtain rfl : bb = true := hbb.2 (by first | rfl | trivial)
           have B3 := Lib.hid (B2.out.trans (b3.mono B2.out.size)))
        | (go_at_call 9; with_reducible refine Calls.mono (E3.out w3 B3.out) ?_; (try unfold rasV); rintro e w4 ⟨⟨p4, c4, rfl, r4⟩, b4⟩
           have B4 := Lib.hid ((B3.out.trans (b4.mono B3.out.size)).alloc ((B3.out.trans (b4.mono B3.out.size)).size) (.cells #[.int .i64 rb.w, .int .i64 rb.h, .slice p4 rb.pix.length c4] 24)))
        | (go_at_call 7; with_reducible refine Calls.mono (E5.out p4 c4 (w4.alloc (.cells #[.int .i64 rb.w, .int .i64 rb.h, .slice p4 rb.pix.length c4] 24)) (r4.on ((Below.refl _ _).alloc (Nat.le_refl _) _)) B4.out) ?_; rintro e w5 ⟨⟨p5, c5, rfl, -, -, r5⟩, b5⟩
           have B5 := Lib.hid (B4.out.trans (b5.mono B4.out.size))
           have hcv1 := conv_by r5 c5
           have hcv2 := conv_by (HQ.out.2.on B5.out) d)
        | (go_at_call 12; with_reducible refine Calls.mono (E9.out _ B5.out) ?_; rintro e w6 ⟨rfl, b6⟩)
      go_ret
      exact ⟨rfl, B5.out.trans (b6.mono B5.out.size)⟩
    · skip
      have eB : writeB r = fileOf r := if_pos hm
      have eE : writeE r = 0 := if_pos hm
      have HM := Lib.hid hm
      rw [eB, eE] at E1
      have hki : ¬ (k : Int) = 0 := by omega
      clear hk
      replace E1 := Lib.hid E1
      clear eB eE hm
      unfold rasV at *
      go_enter Tryd.func6, Tryd.ntmps6
      go_wp2_with first
        | (rw [HW.out]; go_at_call 7; with_reducible refine Calls.mono E1.out ?_; rintro e w1 ⟨⟨p1, c1, rfl, hc1, hp1, r1⟩, b1⟩
           have B1 := Lib.hid (HK.out.2.trans (b1.mono HK.out.2.size)))
        | (go_at_call 9; with_reducible refine Calls.mono (pam_ReadIs (file_back HM.out) p1 c1 (file_length HM.out) hc1 hp1 w1 r1 (HE.out.1.1.on B1.out) (HE.out.2.on B1.out)) ?_; (try unfold rasV); rintro e w2 ⟨⟨p2, c2, rfl, r2⟩, b2⟩
           have B2 := Lib.hid ((B1.out.trans (b2.mono B1.out.size)).alloc ((B1.out.trans (b2.mono B1.out.size)).size) (.cells #[.int .i64 r.w, .int .i64 r.h, .slice p2 r.pix.length c2] 24))
           have d0 : Below W.heap.size W (w2.alloc (.cells #[.int .i64 r.w, .int .i64 r.h, .slice p2 r.pix.length c2] 24)) := by
             have h := b1.trans (b2.mono b1.size)
             exact h.alloc h.size _
           obtain ⟨y0, y1, y2⟩ := Box.three (HK.out.1.below d0 HK.out.1.lt)
           have hs := ref9_Same r r p2 p c2 c (w2.alloc (.cells #[.int .i64 r.w, .int .i64 r.h, .slice p2 r.pix.length c2] 24)) (r2.on ((Below.refl _ _).alloc (Nat.le_refl _) _)) (HQ.out.1.on d0) (by have := HR.out.2.2; omega)
           unfold rasV TellsIt at hs
           have HS := Lib.hid hs
           clear hs d0)
        | (go_at_call 11; with_reducible refine Calls.mono HS.out ?_; rintro e w3 ⟨⟨bb, rfl, hbb⟩, b3⟩
           obtain rfl : bb = true := hbb.2 (by first | rfl | trivial)
           have B3 := Lib.hid (B2.out.trans (b3.mono B2.out.size)))
        | (go_at_call 9; with_reducible refine Calls.mono (E3.out w3 B3.out) ?_; (try unfold rasV); rintro e w4 ⟨⟨p4, c4, rfl, r4⟩, b4⟩
           have B4 := Lib.hid ((B3.out.trans (b4.mono B3.out.size)).alloc ((B3.out.trans (b4.mono B3.out.size)).size) (.cells #[.int .i64 rb.w, .int .i64 rb.h, .slice p4 rb.pix.length c4] 24)))
        | (go_at_call 12; with_reducible refine Calls.mono (E9.out _ B4.out) ?_; rintro e w6 ⟨rfl, b6⟩)
      go_ret
      exact ⟨rfl, B4.out.trans (b6.mono B4.out.size)⟩
  · by_cases hk : k = 0
    · skip
      have eE : writeE r = 2 := if_neg hm
      have eB : writeB r = [] := if_neg hm
      rw [eB, eE] at E1
      obtain rfl : k = 0 := hk
      obtain ⟨hm2, hfb⟩ := file_again HZ.out.2.2
      have E5 := Lib.hid (fun p4 c4 V hr (h : Below w.heap.size w V) => pam_Write rb p4 c4 (RasOk.of_may hm2) V hr (HE.out.1.1.on h) (HE.out.1.2.on h))
      rw [show writeB rb = bs from (if_pos hm2).trans hfb, show writeE rb = 0 from if_pos hm2] at E5
      clear hm2 hfb
      replace E1 := Lib.hid E1
      clear eB eE hm
      unfold rasV at *
      go_enter Tryd.func6, Tryd.ntmps6
      go_wp2_with first
        | (rw [HW.out]; go_at_call 7; with_reducible refine Calls.mono E1.out ?_; rintro e w1 ⟨⟨p1, c1, rfl, hc1, hp1, r1⟩, b1⟩
           have B1 := Lib.hid (HK.out.2.trans (b1.mono HK.out.2.size)))
        | (go_at_call 9; with_reducible refine Calls.mono (E3.out w1 B1.out) ?_; (try unfold rasV); rintro e w4 ⟨⟨p4, c4, rfl, r4⟩, b4⟩
           have B4 := Lib.hid ((B1.out.trans (b4.mono B1.out.size)).alloc ((B1.out.trans (b4.mono B1.out.size)).size) (.cells #[.int .i64 rb.w, .int .i64 rb.h, .slice p4 rb.pix.length c4] 24)))
        | (go_at_call 7; with_reducible refine Calls.mono (E5.out p4 c4 (w4.alloc (.cells #[.int .i64 rb.w, .int .i64 rb.h, .slice p4 rb.pix.length c4] 24)) (r4.on ((Below.refl _ _).alloc (Nat.le_refl _) _)) B4.out) ?_; rintro e w5 ⟨⟨p5, c5, rfl, -, -, r5⟩, b5⟩
           have B5 := Lib.hid (B4.out.trans (b5.mono B4.out.size))
           have hcv1 := conv_by r5 c5
           have hcv2 := conv_by (HQ.out.2.on B5.out) d)
        | (go_at_call 12; with_reducible refine Calls.mono (E9.out _ B5.out) ?_; rintro e w6 ⟨rfl, b6⟩)
      go_ret
      exact ⟨rfl, B5.out.trans (b6.mono B5.out.size)⟩
    · skip
      have eE : writeE r = 2 := if_neg hm
      have eB : writeB r = [] := if_neg hm
      rw [eB, eE] at E1
      have hki : ¬ (k : Int) = 0 := by omega
      clear hk
      replace E1 := Lib.hid E1
      clear eB eE hm
      unfold rasV at *
      go_enter Tryd.func6, Tryd.ntmps6
      go_wp2_with first
        | (rw [HW.out]; go_at_call 7; with_reducible refine Calls.mono E1.out ?_; rintro e w1 ⟨⟨p1, c1, rfl, hc1, hp1, r1⟩, b1⟩
           have B1 := Lib.hid (HK.out.2.trans (b1.mono HK.out.2.size)))
        | (go_at_call 9; with_reducible refine Calls.mono (E3.out w1 B1.out) ?_; (try unfold rasV); rintro e w4 ⟨⟨p4, c4, rfl, r4⟩, b4⟩
           have B4 := Lib.hid ((B1.out.trans (b4.mono B1.out.size)).alloc ((B1.out.trans (b4.mono B1.out.size)).size) (.cells #[.int .i64 rb.w, .int .i64 rb.h, .slice p4 rb.pix.length c4] 24)))
        | (go_at_call 12; with_reducible refine Calls.mono (E9.out _ B4.out) ?_; rintro e w6 ⟨rfl, b6⟩)
      go_ret
      exact ⟨rfl, B4.out.trans (b6.mono B4.out.size)⟩
end Go.Proofs.YtchfbpgbojnakaaDoor
