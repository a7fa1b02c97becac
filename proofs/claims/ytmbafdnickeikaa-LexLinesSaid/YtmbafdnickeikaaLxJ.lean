/- The law LexLines: its walk. -/
import Derived.Test.YtmbafdnickeikaaLxI
namespace Go.Proofs.Ytmbafdnickeikaa
open Go.RowKit Go.Shelf

set_option maxRecDepth 10000 in
set_option maxHeartbeats 4000000 in
theorem walk_LexLines (A : Option Addr) (c : Nat) (L : By) (w : World) (hL : RdV w w.heap.size A (bcells L)) (hc : L.length ≤ c) (hA : A = none → c = 0) (hm : L.length ≤ 2305843009213693952) :
    Calls Try.prog 3 #[.slice A L.length c] w fun e w' => e = .returned (.bool true) ∧ Below w.heap.size w w' := by
  obtain ⟨R, n, k, hR⟩ : ∃ R n k, linesOf L = (R, n, k) := ⟨_, _, _, rfl⟩
  have hsm := linesOf_small L
  rw [hR] at hsm
  obtain ⟨hs1, hs2⟩ := hsm
  have h1 := lex_LinesTo A c L R n k w hR hL hc hA hm
  have h2 : ∀ w1, Below w.heap.size w w1 → Calls Try.prog 6 #[.slice A L.length c] w1 _ := fun w1 hb => ref6_LinesTo A c L R n k w1 hR (hL.on hb) hc hA hm
  have h3 : ∀ (p q : Option Addr) (cp cq : Nat) (Ls Ms : List Rw) (w2 : World) (B C : Nat), Rw.all Ls = R → Rw.all Ms = R → RdL w2 B p Ls → RdL w2 C q Ms → Calls Try.prog 7 #[.slice p Ls.length cp, .slice q Ms.length cq] w2 fun e w' => e = .returned (.bool true) ∧ ∃ m, w' = w2.drewN m := by
    intro p q cp cq Ls Ms w2 B C e1 e2 hp hq
    have hl : Ls.length = R.length := by rw [← e1, Rw.all_length]
    have hs1' : R.length ≤ 1000 := hs1
    refine ref6_Same B C p q cp cq Ls Ms w2 hp hq (by omega) (fun r hr => ?_) (e1.trans e2.symm)
    have := hs2 r.ws (by show r.ws ∈ R; rw [← e1]; exact List.mem_map.2 ⟨r, hr, rfl⟩)
    omega
  have H1 := Lib.hid h1
  have H2 := Lib.hid h2
  have H3 := Lib.hid h3
  clear h1 h2 h3 hL hs1 hs2 hR
  go_enter Try.func3, Try.ntmps3
  go_wp2_with first
    | (go_at_call 5; with_reducible refine Calls.mono H1.out ?_; rintro e w1 ⟨p, cap, Ls, rfl, hall, hrd, _, _, _, hb1⟩; replace hall := Lib.hid hall; replace hrd := Lib.hid hrd; replace hb1 := Lib.hid hb1)
    | (go_at_call 6; with_reducible refine Calls.mono (H2.out _ hb1.out) ?_; rintro e w2 ⟨q, cq, Ms, rfl, hall2, hrd2, _, _, _, hb2⟩; replace hall2 := Lib.hid hall2; replace hrd2 := Lib.hid hrd2; replace hb2 := Lib.hid hb2)
    | (go_at_call 7; with_reducible refine Calls.mono (H3.out p q cap cq Ls Ms _ _ _ hall.out hall2.out (hrd.out.below hb2.out) hrd2.out) ?_; rintro e w3 ⟨rfl, dn, rfl⟩)
    | (go_at_call 8; with_reducible refine Calls.mono (lives6 _) ?_; rintro e w4 ⟨rfl, hb4⟩; replace hb4 := Lib.hid hb4)
  go_ret
  exact ⟨rfl, (hb1.out.trans (hb2.out.mono hb1.out.size)).trans ((below_drewN (Below.refl _ _) dn).trans (hb4.out.mono (Nat.le_trans hb1.out.size hb2.out.size)))⟩
end Go.Proofs.Ytmbafdnickeikaa
