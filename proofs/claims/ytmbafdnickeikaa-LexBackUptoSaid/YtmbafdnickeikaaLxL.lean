/- The law LexBack: its walk. -/
import Derived.Test.YtmbafdnickeikaaLxI
import Derived.Test.YtmbafdnickeikaaLxR
namespace Go.Proofs.Ytmbafdnickeikaa
open Go.RowKit Go.Shelf

theorem linesGo_code : ∀ (ps : List By) (acc : List (List By)), (linesGo acc ps).2.2 = 0 → (linesGo acc ps).2.1 = 0 := by
  intro ps
  induction ps with
  | nil => intro acc _; rfl
  | cons p ps ih =>
    intro acc h
    cases ps with
    | nil =>
      simp only [linesGo] at h ⊢
      split at h
      · rw [if_pos (by assumption)]
      · split at h <;> simp at h
    | cons q r =>
      simp only [linesGo] at h ⊢
      split at h
      · simp at h
      · split at h
        · simp at h
        · split at h
          · rename_i h1 h2 h3
            rw [if_neg h1, if_neg h2, if_pos h3]
            exact ih _ h
          · simp at h

set_option maxRecDepth 10000 in
set_option maxHeartbeats 4000000 in
theorem walk_LexBack (A : Option Addr) (c : Nat) (L : By) (A1 : Option Addr) (c1 : Nat) (Ms : List Rw) (w : World) (hL : RdV w w.heap.size A (bcells L)) (hc : L.length ≤ c) (hA : A = none → c = 0) (hm : L.length ≤ 1073741824)
    (hM : RdL w w.heap.size A1 Ms) (hM1 : Ms.length ≤ 1073741824) (hM2 : ∀ r ∈ Ms, r.ws.length ≤ 1073741824 ∧ sumOf r.ws ≤ 1073741824) :
    Calls Try.prog 4 #[.slice A L.length c, .slice A1 Ms.length c1] w fun e w' => e = .returned (.bool true) ∧ Below w.heap.size w w' := by
  obtain ⟨R, n, k, hR⟩ : ∃ R n k, linesOf L = (R, n, k) := ⟨_, _, _, rfl⟩
  have hl1 := lex_LinesTo A c L R n k w hR hL hc hA hm
  have hj2 := fun w2 (hb : Below w.heap.size w w2) => lex_Join w.heap.size A1 c1 Ms w2 (hM.below hb) hb.size hM1 hM2
  -- the second part's calls
  have hl3 : joinOk (Rw.all Ms) = true → ∀ (w3 : World) (q : Option Addr), RdV w3 w3.heap.size q (bcells (text (Rw.all Ms))) → (q = none → (text (Rw.all Ms)).length = 0) → Calls Try.prog 5 #[.slice q (text (Rw.all Ms)).length (text (Rw.all Ms)).length] w3 fun e w' => ∃ (p : Option Addr) (cap : Nat) (Ls : List Rw), e = .returned (.tuple #[.slice p Ls.length cap, .int .i64 0, .int .i64 0]) ∧ Rw.all Ls = Rw.all Ms ∧ RdL w' w'.heap.size p Ls ∧ Below w3.heap.size w3 w' := fun hj w3 q hr hq => by
    obtain ⟨h1, h2⟩ := joinOk_iff.1 hj
    have hb := text_bound _ h2
    have := lex_LinesTo q (text (Rw.all Ms)).length (text (Rw.all Ms)) (Rw.all Ms) 0 0 w3 (linesOf_text h1 h2) hr (Nat.le_refl _) hq (by omega)
    exact this.mono fun e w' ⟨p, cap, Ls, he, ha, hrd, _, _, _, hbl⟩ => ⟨p, cap, Ls, he, ha, hrd, hbl⟩
  have hs : ∀ (w4 : World) (p : Option Addr) (cap : Nat) (Ls : List Rw), Below w.heap.size w w4 → Rw.all Ls = Rw.all Ms → RdL w4 w4.heap.size p Ls → Calls Try.prog 7 #[.slice p Ls.length cap, .slice A1 Ms.length c1] w4 fun e w' => e = .returned (.bool true) ∧ ∃ m, w' = w4.drewN m := fun w4 p cap Ls hb he hr => by
    have hlen : Ls.length = Ms.length := by rw [← Rw.all_length, ← Rw.all_length, he]
    refine ref6_Same w4.heap.size w.heap.size p A1 cap c1 Ls Ms w4 hr (hM.below hb) (by omega) (fun r hr => ?_) he
    obtain ⟨r', hr', e⟩ : ∃ r' ∈ Ms, r'.ws = r.ws := by
      have : r.ws ∈ Rw.all Ms := by rw [← he]; exact List.mem_map.2 ⟨r, hr, rfl⟩
      exact List.mem_map.1 this
    have := (hM2 r' hr').1
    rw [e] at this
    omega
  have hcA : ∀ w2, Below w.heap.size w w2 → (convert 22 9 (.slice A L.length c)).run Try.prog w2 = .ok (.string (str L)) w2 := fun w2 hb => conv_rd (hL.below hb) c
  obtain ⟨T, hT⟩ : ∃ T, T = text (Rw.all Ms) := ⟨_, rfl⟩
  rw [← hT] at hl3 hj2
  have hmb : Ms.length ≤ 1073741824 := hM1
  clear hM hM1 hM2
  by_cases hk : k = 0
  · subst hk
    have hn0 : n = 0 := by
      have := linesGo_code (pcs 10 L) [] (by show (linesOf L).2.2 = 0; rw [hR])
      have h2 : (linesOf L).2.1 = 0 := this
      rw [hR] at h2
      exact h2
    subst hn0
    obtain ⟨hb1, hb2, hb3⟩ := linesOf_back hR
    have hj1 : ∀ (w1 : World) (p : Option Addr) (cap : Nat) (Ls : List Rw), Rw.all Ls = R → RdL w1 w1.heap.size p Ls → Calls Try.prog 9 #[.slice p Ls.length cap] w1 fun e w' => ∃ q, e = .returned (.tuple #[.slice q L.length L.length, .int .i64 0, .int .i64 0]) ∧ RdV w' w'.heap.size q (bcells L) ∧ Below w1.heap.size w1 w' := fun w1 p cap Ls ha hr => by
      have hlen : Ls.length = R.length := by rw [← ha, Rw.all_length]
      refine (lex_Join w1.heap.size p cap Ls w1 hr (Nat.le_refl _) (by omega) (fun r hr => ?_)).mono fun e w' ⟨hbl, h⟩ => ?_
      · have h4 := (rowOk_iff.1 (hb3 r.ws (by rw [← ha]; exact List.mem_map.2 ⟨r, hr, rfl⟩))).1
        unfold longOf at h4
        omega
      · rw [ha, hb1] at h
        rcases h with ⟨_, q, he, hrd, _⟩ | ⟨hbad, _⟩
        · exact ⟨q, he, hrd, hbl⟩
        · rw [joinOk_iff.2 ⟨hb2, hb3⟩] at hbad
          cases hbad
    have hl1' : Calls Try.prog 5 #[.slice A L.length c] w fun e w' => ∃ (p : Option Addr) (cap : Nat) (Ls : List Rw), e = .returned (.tuple #[.slice p Ls.length cap, .int .i64 0, .int .i64 0]) ∧ Rw.all Ls = R ∧ RdL w' w'.heap.size p Ls ∧ Below w.heap.size w w' := hl1.mono fun e w' ⟨p, cap, Ls, he, ha, hrd, _, _, _, hb⟩ => ⟨p, cap, Ls, he, ha, hrd, hb⟩
    have H1 := Lib.hid hl1'
    have HJ := Lib.hid hj1
    have HS := Lib.hid hs
    have HC := Lib.hid hcA
    clear hl1 hl1' hj1 hs hcA hb1 hb2 hb3 hR hL
    cases hjo : joinOk (Rw.all Ms) with
    | true =>
      have hj2' : ∀ w2, Below w.heap.size w w2 → Calls Try.prog 9 #[.slice A1 Ms.length c1] w2 fun e w' => ∃ q, e = .returned (.tuple #[.slice q T.length T.length, .int .i64 0, .int .i64 0]) ∧ RdV w' w'.heap.size q (bcells T) ∧ (q = none → T.length = 0) ∧ Below w2.heap.size w2 w' := fun w2 hb => (hj2 w2 hb).mono fun e w' ⟨hbl, h⟩ => by
        rcases h with ⟨_, q, he, h1, h2⟩ | ⟨h, _⟩
        · exact ⟨q, he, h1, h2, hbl⟩
        · rw [hjo] at h; cases h
      have hl3' := hl3 hjo
      have HJ2 := Lib.hid hj2'
      have HL3 := Lib.hid hl3'
      clear hj2 hj2' hl3 hl3' hjo hT
      go_enter Try.func4, Try.ntmps4
      go_wp2_with first
        | (go_at_call 5; with_reducible refine Calls.mono H1.out ?_; rintro e w1 ⟨p, cap, Ls, rfl, hall, hrd, hb1⟩; replace hall := Lib.hid hall; replace hrd := Lib.hid hrd; replace hb1 := Lib.hid hb1)
        | (go_at_call 9; with_reducible refine Calls.mono (HJ.out _ p cap Ls hall.out hrd.out) ?_; rintro e w2 ⟨q, rfl, hq, hb2⟩; have hcq := conv_rd hq L.length; have hb02 := hb1.out.trans (hb2.mono hb1.out.size); have hcA := HC.out _ hb02; replace hq := Lib.hid hq; replace hb2 := Lib.hid hb2; replace hb02 := Lib.hid hb02)
        | (go_at_call 9; with_reducible refine Calls.mono (HJ2.out _ hb02.out) ?_; rintro e w3 ⟨q3, rfl, hq3, hqn, hb3⟩; replace hq3 := Lib.hid hq3; replace hqn := Lib.hid hqn; replace hb3 := Lib.hid hb3)
        | (go_at_call 5; with_reducible refine Calls.mono (HL3.out _ q3 hq3.out hqn.out) ?_; rintro e w4 ⟨p4, cap4, Ls4, rfl, hall4, hrd4, hb4⟩; replace hall4 := Lib.hid hall4; replace hrd4 := Lib.hid hrd4; have hb04 := Lib.hid ((hb02.out.trans (hb3.out.mono hb02.out.size)).trans (hb4.mono (Nat.le_trans hb02.out.size hb3.out.size))); replace hb4 := Lib.hid hb4)
        | (go_at_call 7; with_reducible refine Calls.mono (HS.out _ p4 cap4 Ls4 hb04.out hall4.out hrd4.out) ?_; rintro e w5 ⟨rfl, dn, rfl⟩)
        | (go_at_call 8; with_reducible refine Calls.mono (lives6 _) ?_; rintro e w6 ⟨rfl, hb6⟩; replace hb6 := Lib.hid hb6)
      go_ret
      exact ⟨rfl, hb04.out.trans ((below_drewN (Below.refl _ _) dn).trans (hb6.out.mono hb04.out.size))⟩
    | false =>
      have hj2' : ∀ w2, Below w.heap.size w w2 → Calls Try.prog 9 #[.slice A1 Ms.length c1] w2 fun e w' => ∃ n m : Int, m ≠ 0 ∧ e = .returned (.tuple #[.slice none 0 0, .int .i64 n, .int .i64 m]) ∧ Below w2.heap.size w2 w' := fun w2 hb => (hj2 w2 hb).mono fun e w' ⟨hbl, h⟩ => by
        rcases h with ⟨h, _⟩ | ⟨_, n, m, hm, he⟩
        · rw [hjo] at h; cases h
        · exact ⟨n, m, hm, he, hbl⟩
      have HJ2 := Lib.hid hj2'
      clear hj2 hj2' hl3 hjo hT
      go_enter Try.func4, Try.ntmps4
      go_wp2_with first
        | (go_at_call 5; with_reducible refine Calls.mono H1.out ?_; rintro e w1 ⟨p, cap, Ls, rfl, hall, hrd, hb1⟩; replace hall := Lib.hid hall; replace hrd := Lib.hid hrd; replace hb1 := Lib.hid hb1)
        | (go_at_call 9; with_reducible refine Calls.mono (HJ.out _ p cap Ls hall.out hrd.out) ?_; rintro e w2 ⟨q, rfl, hq, hb2⟩; have hcq := conv_rd hq L.length; have hb02 := hb1.out.trans (hb2.mono hb1.out.size); have hcA := HC.out _ hb02; replace hq := Lib.hid hq; replace hb2 := Lib.hid hb2; replace hb02 := Lib.hid hb02)
        | (go_at_call 9; with_reducible refine Calls.mono (HJ2.out _ hb02.out) ?_; rintro e w3 ⟨n3, m3, hm3, rfl, hb3⟩; have hm3b : (m3 == 0) = false := beq_eq_false_iff_ne.2 hm3; replace hb3 := Lib.hid hb3)
        | (go_at_call 8; with_reducible refine Calls.mono (lives6 _) ?_; rintro e w6 ⟨rfl, hb6⟩; replace hb6 := Lib.hid hb6)
      go_ret
      exact ⟨rfl, (hb02.out.trans (hb3.out.mono hb02.out.size)).trans (hb6.out.mono (Nat.le_trans hb02.out.size hb3.out.size))⟩
  · have hkb : ((k : Int) == 0) = false := beq_eq_false_iff_ne.2 (by omega)
    have hl1' : Calls Try.prog 5 #[.slice A L.length c] w fun e w' => ∃ (p : Option Addr) (cap : Nat) (Ls : List Rw), e = .returned (.tuple #[.slice p Ls.length cap, .int .i64 n, .int .i64 k]) ∧ Rw.all Ls = R ∧ RdL w' w'.heap.size p Ls ∧ Below w.heap.size w w' := hl1.mono fun e w' ⟨p, cap, Ls, he, ha, hrd, _, _, _, hb⟩ => ⟨p, cap, Ls, he, ha, hrd, hb⟩
    have H1 := Lib.hid hl1'
    have HS := Lib.hid hs
    clear hl1 hl1' hs hcA hR hL
    cases hjo : joinOk (Rw.all Ms) with
    | true =>
      have hj2' : ∀ w2, Below w.heap.size w w2 → Calls Try.prog 9 #[.slice A1 Ms.length c1] w2 fun e w' => ∃ q, e = .returned (.tuple #[.slice q T.length T.length, .int .i64 0, .int .i64 0]) ∧ RdV w' w'.heap.size q (bcells T) ∧ (q = none → T.length = 0) ∧ Below w2.heap.size w2 w' := fun w2 hb => (hj2 w2 hb).mono fun e w' ⟨hbl, h⟩ => by
        rcases h with ⟨_, q, he, h1, h2⟩ | ⟨h, _⟩
        · exact ⟨q, he, h1, h2, hbl⟩
        · rw [hjo] at h; cases h
      have hl3' := hl3 hjo
      have HJ2 := Lib.hid hj2'
      have HL3 := Lib.hid hl3'
      clear hj2 hj2' hl3 hl3' hjo hT
      go_enter Try.func4, Try.ntmps4
      go_wp2_with first
        | (go_at_call 5; with_reducible refine Calls.mono H1.out ?_; rintro e w1 ⟨p, cap, Ls, rfl, hall, hrd, hb1⟩; replace hall := Lib.hid hall; replace hrd := Lib.hid hrd; replace hb1 := Lib.hid hb1)
        | (go_at_call 9; with_reducible refine Calls.mono (HJ2.out _ hb1.out) ?_; rintro e w3 ⟨q3, rfl, hq3, hqn, hb3⟩; replace hq3 := Lib.hid hq3; replace hqn := Lib.hid hqn; replace hb3 := Lib.hid hb3)
        | (go_at_call 5; with_reducible refine Calls.mono (HL3.out _ q3 hq3.out hqn.out) ?_; rintro e w4 ⟨p4, cap4, Ls4, rfl, hall4, hrd4, hb4⟩; replace hall4 := Lib.hid hall4; replace hrd4 := Lib.hid hrd4; have hb04 := Lib.hid ((hb1.out.trans (hb3.out.mono hb1.out.size)).trans (hb4.mono (Nat.le_trans hb1.out.size hb3.out.size))); replace hb4 := Lib.hid hb4)
        | (go_at_call 7; with_reducible refine Calls.mono (HS.out _ p4 cap4 Ls4 hb04.out hall4.out hrd4.out) ?_; rintro e w5 ⟨rfl, dn, rfl⟩)
        | (go_at_call 8; with_reducible refine Calls.mono (lives6 _) ?_; rintro e w6 ⟨rfl, hb6⟩; replace hb6 := Lib.hid hb6)
      go_ret
      exact ⟨rfl, hb04.out.trans ((below_drewN (Below.refl _ _) dn).trans (hb6.out.mono hb04.out.size))⟩
    | false =>
      have hj2' : ∀ w2, Below w.heap.size w w2 → Calls Try.prog 9 #[.slice A1 Ms.length c1] w2 fun e w' => ∃ n m : Int, m ≠ 0 ∧ e = .returned (.tuple #[.slice none 0 0, .int .i64 n, .int .i64 m]) ∧ Below w2.heap.size w2 w' := fun w2 hb => (hj2 w2 hb).mono fun e w' ⟨hbl, h⟩ => by
        rcases h with ⟨h, _⟩ | ⟨_, n, m, hm, he⟩
        · rw [hjo] at h; cases h
        · exact ⟨n, m, hm, he, hbl⟩
      have HJ2 := Lib.hid hj2'
      clear hj2 hj2' hl3 hjo hT
      go_enter Try.func4, Try.ntmps4
      go_wp2_with first
        | (go_at_call 5; with_reducible refine Calls.mono H1.out ?_; rintro e w1 ⟨p, cap, Ls, rfl, hall, hrd, hb1⟩; replace hall := Lib.hid hall; replace hrd := Lib.hid hrd; replace hb1 := Lib.hid hb1)
        | (go_at_call 9; with_reducible refine Calls.mono (HJ2.out _ hb1.out) ?_; rintro e w3 ⟨n3, m3, hm3, rfl, hb3⟩; have hm3b : (m3 == 0) = false := beq_eq_false_iff_ne.2 hm3; replace hb3 := Lib.hid hb3)
        | (go_at_call 8; with_reducible refine Calls.mono (lives6 _) ?_; rintro e w6 ⟨rfl, hb6⟩; replace hb6 := Lib.hid hb6)
      go_ret
      exact ⟨rfl, (hb1.out.trans (hb3.out.mono hb1.out.size)).trans (hb6.out.mono (Nat.le_trans hb1.out.size hb3.out.size))⟩
end Go.Proofs.Ytmbafdnickeikaa
