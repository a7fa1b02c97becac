/- Lines put together: the program's Join. -/
import Derived.Test.YtmbafdnickeikaaLxQ
namespace Go.Proofs.Ytmbafdnickeikaa
open Go.RowKit Go.Shelf

/-- may these lines be put together -/
def joinOk (R : List (List By)) : Bool := decide (R.length ≤ 1000) && R.all rowOk
theorem joinOk_iff {R : List (List By)} : joinOk R = true ↔ R.length ≤ 1000 ∧ ∀ r ∈ R, rowOk r = true := by
  unfold joinOk
  rw [Bool.and_eq_true, decide_eq_true_eq, List.all_eq_true]
theorem text_bound (R : List (List By)) (h : ∀ r ∈ R, rowOk r = true) : (text R).length ≤ R.length * 4097 := by
  induction R with
  | nil => simp [text]
  | cons r R ih =>
    have h1 := (rowOk_iff.1 (h r (by simp))).1
    have h2 := ih fun x hx => h x (List.mem_cons_of_mem _ hx)
    rw [text_cons, List.length_append, List.length_cons, List.length_cons, glue_length]
    omega

set_option maxRecDepth 10000 in
set_option maxHeartbeats 1600000 in
theorem lex_Join (B : Nat) (p : Option Addr) (c : Nat) (Ls : List Rw) (w : World) (hL : RdL w B p Ls) (hB : B ≤ w.heap.size) (h1 : Ls.length ≤ 1073741824) (hr : ∀ r ∈ Ls, r.ws.length ≤ 1073741824 ∧ sumOf r.ws ≤ 1073741824) :
    Calls Try.prog 9 #[.slice p Ls.length c] w fun e w' => Below w.heap.size w w' ∧
      ((joinOk (Rw.all Ls) = true ∧ ∃ q, e = .returned (.tuple #[.slice q (text (Rw.all Ls)).length (text (Rw.all Ls)).length, .int .i64 0, .int .i64 0]) ∧ RdV w' w'.heap.size q (bcells (text (Rw.all Ls))) ∧ (q = none → (text (Rw.all Ls)).length = 0)) ∨
       (joinOk (Rw.all Ls) = false ∧ ∃ n m : Int, m ≠ 0 ∧ e = .returned (.tuple #[.slice none 0 0, .int .i64 n, .int .i64 m]))) := by
  obtain ⟨R, hR⟩ : ∃ R, R = Rw.all Ls := ⟨_, rfl⟩
  have hRl : R.length = Ls.length := by rw [hR, Rw.all_length]
  have hRi : ∀ i (h : i < Ls.length), R[i]'(by omega) = Ls[i].ws := fun i h => by
    subst hR
    simp [Rw.all]
  rw [← hR]
  have hrow : ∀ i (h : i < Ls.length), ∃ b o, p = some ⟨b, o, none⟩ ∧ b < w.heap.size ∧ w.cell? ⟨b, o + i, none⟩ = some (.slice Ls[i].A Ls[i].ws.length Ls[i].c) ∧ RdV w w.heap.size Ls[i].A (scells Ls[i].ws) := fun i h => (hL.mono hB).row h
  have HR := Lib.hid hrow
  have HS := Lib.hid hr
  have HI := Lib.hid hRi
  clear hrow hr hL hRi hR
  go_enter Try.func9, Try.ntmps9
  go_wp2_with fail
  go_loopg [5, 11] Ls.length (fun gh s t wr => ∃ i : Nat, t = .int .i64 i ∧ gh + i = Ls.length ∧ i ≤ 1000 ∧ (∀ r ∈ R.take i, rowOk r = true) ∧ wr.ownsRow w.heap.size 5 1 s (text (R.take i)).length (bcells (text (R.take i))) ∧ Below w.heap.size w wr)
  case atStart => exact ⟨0, rfl, rfl, by omega, by simp, World.ownsRow_nil _ _ _ _, Below.refl _ _⟩
  case round =>
    obtain ⟨i, rfl, hg, hi1, hok, hown, hbl⟩ := hrel
    have htb := text_bound _ hok
    rw [List.length_take] at htb
    by_cases hi : i < Ls.length
    · obtain ⟨b, o, rfl, hbb, hc, hrd⟩ := HR.out i hi
      have hc' : wr.cell? ⟨b, o + i, none⟩ = some (.slice Ls[i].A Ls[i].ws.length Ls[i].c) := (hbl.cell (p := ⟨b, o + i, none⟩) hbb).trans hc
      have hrs := HS.out _ (List.getElem_mem hi)
      have hri := HI.out i hi
      have htk := text_take R (i := i) (by omega)
      have hmem : R[i]'(by omega) ∈ R := List.getElem_mem _
      have htn : R.take (i + 1) = R.take i ++ [R[i]'(by omega)] := List.take_succ_eq_append_getElem (by omega)
      rw [hri] at htk hmem htn
      obtain ⟨r, hr⟩ : ∃ r, r = Ls[i] := ⟨_, rfl⟩
      rw [← hr] at hc' hrs hri htk hmem hrd htn
      obtain ⟨rA, rc, ws⟩ := r
      dsimp only at hc' hrs hri htk hmem hrd htn
      have hfits := lex_fits w.heap.size rA rc ws ((i : Int) + 1) wr (hrd.below hbl) hrs.1 hrs.2
      clear hr hc hri
      cases hf : fitsR ((i : Int) + 1) ws with
      | false =>
        have hfits' : Calls Try.prog 14 #[.slice rA ws.length rc, .int .i64 ((i : Int) + 1)] wr fun e w' => ∃ m : Int, m ≠ 0 ∧ e = .returned (.int .i64 m) ∧ wr = w' := hfits.mono fun e w' ⟨h0, h⟩ => by
          rcases h with ⟨h, _⟩ | ⟨_, m, hm, h⟩
          · rw [hf] at h; cases h
          · exact ⟨m, hm, h, h0.symm⟩
        have hbad : joinOk R = false := by
          cases hj : joinOk R with
          | false => rfl
          | true =>
            have hj' := joinOk_iff.1 hj
            have := fitsR_yes (k := (i : Int) + 1) (r := ws) (by omega) (hj'.2 _ hmem)
            rw [hf] at this
            cases this
        have HF := Lib.hid hfits'
        have HB := Lib.hid (And.intro hbad hbl)
        clear hfits hfits' hbad hf hmem htk hok hown hbl hrd hrs htn
        go_wp2_with (go_at_call 14; with_reducible refine Calls.mono HF.out ?_; rintro e w2 ⟨m, hm, rfl, rfl⟩; have hmb : (m != 0) = true := by simpa using hm)
        go_ret3
        exact ⟨HB.out.2, .inr ⟨HB.out.1, _, m, hm, rfl⟩⟩
      | true =>
        have hfo := fitsR_of hf
        have hfits' : Calls Try.prog 14 #[.slice rA ws.length rc, .int .i64 ((i : Int) + 1)] wr fun e w' => e = .returned (.int .i64 0) ∧ wr = w' := hfits.mono fun e w' ⟨h0, h⟩ => by
          rcases h with ⟨_, h⟩ | ⟨h, _⟩
          · exact ⟨h, h0.symm⟩
          · rw [hf] at h; cases h
        have hrl := (rowOk_iff.1 hfo.2).1
        have hlaid := fun v h => lex_laid w.heap.size v (text (R.take i)) rA rc ws wr h (hrd.below hbl) hbl.size hrs.1 (by omega)
        have hok' : ∀ r ∈ R.take (i + 1), rowOk r = true := fun x hx => by
          rw [htn] at hx
          rcases List.mem_append.1 hx with h | h
          · exact hok x h
          · simp at h; subst h; exact hfo.2
        rw [← htk] at hlaid
        have hi2 : i + 1 ≤ 1000 := by omega
        have HF := Lib.hid hfits'
        have HA := Lib.hid hlaid
        have HO := Lib.hid hown
        have HK := Lib.hid (And.intro hok' hbl)
        clear hfits hfits' hlaid hf hmem htk hok hown hbl hrd hrs htn hok' hfo
        go_wp2_with first
          | (go_at_call 14; with_reducible refine Calls.mono HF.out ?_; rintro e w2 ⟨rfl, rfl⟩)
          | (go_at_call 15; with_reducible refine Calls.mono (HA.out _ HO.out) ?_; rintro e w3 ⟨v', rfl, hown', hb3⟩; replace hown' := Lib.hid hown'; replace hb3 := Lib.hid hb3)
        go_roundg (Ls.length - (i + 1))
        case measure => omega
        case rel => exact ⟨i + 1, by simp, by omega, hi2, HK.out.1, hown'.out, HK.out.2.trans hb3.out⟩
    · obtain rfl : i = Ls.length := by omega
      have htk : R.take Ls.length = R := by rw [← hRl]; exact List.take_length
      rw [htk] at hok hown
      obtain ⟨q, cap, rfl, hxx, hcap, hq, hrd⟩ := RdV.ofOwn hown
      clear hxx
      have hjk : joinOk R = true := joinOk_iff.2 ⟨by omega, hok⟩
      obtain ⟨n, hn⟩ : ∃ n, n = (text R).length := ⟨_, rfl⟩
      rw [← hn] at hcap hown ⊢
      have HF := Lib.hid (And.intro hjk (And.intro hbl hrd))
      have HN := Lib.hid hn
      clear hok hown hrd hbl hjk htk hn htb
      go_wp2_with fail
      go_ret3
      have hn := HN.out
      subst hn
      exact ⟨HF.out.2.1, .inl ⟨HF.out.1, q, rfl, HF.out.2.2, fun e => by have := hq e; omega⟩⟩
end Go.Proofs.Ytmbafdnickeikaa
