/- A text's lines: the document's own. -/
import Derived.Test.YtmbafdnickeikaaLxF
namespace Go.Proofs.Ytmbafdnickeikaa
open Go.RowKit Go.Shelf

set_option maxRecDepth 10000 in
set_option maxHeartbeats 4000000 in
theorem ref6_Lines (A : Option Addr) (c : Nat) (L : By) (w : World) (hL : RdV w w.heap.size A (bcells L)) (hc : L.length ≤ c) (hA : A = none → c = 0) (hm : L.length ≤ 2305843009213693952) :
    Calls Try.prog 6 #[.slice A L.length c] w fun e w' => ∃ (p : Option Addr) (cap : Nat) (Ls : List Rw) (n k : Nat), e = .returned (.tuple #[.slice p Ls.length cap, .int .i64 n, .int .i64 k]) ∧ linesOf L = (Rw.all Ls, n, k) ∧ RdL w' w'.heap.size p Ls ∧ Ls.length ≤ cap ∧ (p = none → cap = 0) ∧ (∀ r ∈ Ls, r.ws.length ≤ r.c) ∧ Below w.heap.size w w' := by
  obtain ⟨i0, hi, hz0, hz1, hz2⟩ := info_parts info_row
  go_enter Try.func6, Try.ntmps6
  go_wp2_with fail
  go_loopg [5, 6] (L.length + 1) (fun gh v f wr => ∃ (fr : Nat) (Ls : List Rw), f = .int .i64 fr ∧ fr ≤ L.length ∧ OwnL wr w.heap.size v Ls ∧ Ls.length ≤ 1000 ∧ (∀ r ∈ Ls, r.ws.length ≤ r.c) ∧ linesOf L = linesGo (Rw.all Ls) (pcs 10 (L.drop fr)) ∧ Below w.heap.size w wr ∧ gh + fr = L.length + 1)
  case atStart => exact ⟨0, [], rfl, by omega, OwnL.nil w _, by simp, by simp, rfl, Below.refl _ _, rfl⟩
  case round =>
    obtain ⟨fr, Ls, rfl, hfr, hown, hn, hws, hlin, hB, hg⟩ := hrel
    have hlr : RdV wr wr.heap.size A (bcells L) := (hL.below hB).mono hB.size
    obtain ⟨q, cap, rfl, hcap, hq, hrd⟩ := hown.rd
    by_cases h0 : fr = L.length
    · have hdr : L.drop fr = [] := by rw [h0]; simp
      rw [hdr, linesGo_end] at hlin
      have HL := Lib.hid (And.intro hlin (And.intro hrd (And.intro hB hws)))
      clear hlin hrd hB hown hlr hws hdr
      go_wp2_with fail
      go_ret3
      exact ⟨q, cap, Ls, 0, 0, rfl, HL.out.1, HL.out.2.1, hcap, hq, HL.out.2.2.2, HL.out.2.2.1⟩
    · obtain ⟨bk, o, rfl, hbk⟩ : ∃ b o, A = some ⟨b, o, none⟩ ∧ b < wr.heap.size := by
        obtain ⟨b, o, e, hb, _⟩ := hlr (by rw [bcells_length]; omega)
        exact ⟨b, o, e, hb⟩
      have hdne : L.drop fr ≠ [] := fun e => by
        have := congrArg List.length e
        simp at this
        omega
      have hby : ∀ j (h : j < L.length), wr.cell? ⟨bk, o + j, none⟩ = some (.int .u8 (L[j].toNat : Int)) := fun j h => by
        obtain ⟨b', o', e, _, hcj⟩ := hlr.byte h
        cases e
        exact hcj
      have HL := Lib.hid (And.intro hlin (And.intro hrd (And.intro hB hws)))
      have HO := Lib.hid hown
      have HY := Lib.hid hby
      have HD := Lib.hid hdne
      have HR := Lib.hid hlr
      clear hlin hrd hB hown hlr hws hL hby hdne
      go_wp2_with fail
      go_loopg [8] (L.length - fr + 1) (fun gh t wq => ∃ j : Nat, t = .int .i64 j ∧ gh + j = L.length + 1 ∧ fr ≤ j ∧ j ≤ L.length ∧ (10 : UInt8) ∉ (L.take j).drop fr ∧ wq = wr)
      case atStart => exact ⟨fr, rfl, by omega, Nat.le_refl _, hfr, by simp, rfl⟩
      case round =>
        obtain ⟨j, rfl, hgj, hfj, hjl, hno, rfl⟩ := hrel
        by_cases hlt : j < L.length
        · obtain ⟨u, hu⟩ : ∃ u, L[j] = u := ⟨_, rfl⟩
          have hcj := HY.out j hlt
          rw [hu] at hcj
          by_cases h10 : u = 10
          · have hcn : (u.toNat : Int) = 10 := by rw [h10]; rfl
            have hcb : ((u.toNat : Int) != 10) = false := by simp [hcn]
            have hsp : L.drop fr = (L.take j).drop fr ++ 10 :: L.drop (j + 1) := by rw [← h10, ← hu]; exact seg_split hfj hlt
            obtain ⟨a, ha⟩ : ∃ a, a = (L.take j).drop fr := ⟨_, rfl⟩
            have hal : a.length = j - fr := by rw [ha]; simp; omega
            rw [← ha] at hno hsp
            by_cases hmany : 1000 < Ls.length + 1
            · have hlm := linesGo_many (Rw.all Ls) HD.out (by rw [Rw.all_length]; exact hmany)
              rw [← HL.out.1, Rw.all_length] at hlm
              have HM := Lib.hid hlm
              clear hlm hno hsp ha
              go_wp2_with fail
              go_ret3
              exact ⟨none, 0, [], Ls.length + 1, 7, by simp, HM.out, RdL.nil _ _ _, Nat.le_refl _, fun _ => rfl, by simp, HL.out.2.2.1⟩
            · have hk1 : Ls.length + 1 ≤ 1000 := by omega
              have hjn : ((j : Int) == (L.length : Int)) = false := by simp; omega
              have hlin := HL.out.1
              rw [hsp] at hlin
              by_cases h4 : 4096 < j - fr
              · have hlm := linesGo_rest (Rw.all Ls) (r := L.drop (j + 1)) (by rw [Rw.all_length]; exact hk1) hno (by omega)
                rw [← hlin, Rw.all_length] at hlm
                have HM := Lib.hid hlm
                clear hlm hno hsp ha hlin
                go_wp2_with fail
                go_ret3
                exact ⟨none, 0, [], Ls.length + 1, 14, by simp, HM.out, RdL.nil _ _ _, Nat.le_refl _, fun _ => rfl, by simp, HL.out.2.2.1⟩
              · have hra : RdV wr wr.heap.size (some ⟨bk, o + fr, none⟩) (bcells a) := by
                  have h1 := HR.out.drop (n := fr) (cap := c) (by rw [bcells_length]; exact hc)
                  rw [bcells_drop, if_neg (by omega)] at h1
                  have h2 := h1.take (j - fr)
                  rw [bcells_take] at h2
                  rw [ha, List.drop_take]
                  simpa [addr_add] using h2
                have hcv := conv_rd hra (c - fr)
                rw [hal] at hcv
                have has : (str a).size ≤ 1073741824 := by rw [str_size]; omega
                have hwords := fun W => ref6_words (str a) has W
                rw [str_toList] at hwords
                cases hw : wordsOk a with
                | false =>
                  have hwords' : ∀ W, Calls Try.prog 12 #[.string (str a)] W fun e w' => e = .returned (.tuple #[.slice none 0 0, .bool false]) ∧ Below W.heap.size W w' := fun W => (hwords W).mono fun e w' ⟨hb, h⟩ => by
                    rcases h with ⟨h, _⟩ | ⟨_, h⟩
                    · rw [hw] at h; cases h
                    · exact ⟨h, hb⟩
                  have hlm := linesGo_form (Rw.all Ls) (r := L.drop (j + 1)) (by rw [Rw.all_length]; exact hk1) hno (by omega) hw
                  rw [← hlin, Rw.all_length] at hlm
                  have HM := Lib.hid hlm
                  have HW := Lib.hid hwords'
                  clear hlm hno hsp ha hlin hwords hwords' hra hw
                  go_wp2_with (go_at_call 12; with_reducible refine Calls.mono (HW.out _) ?_; rintro e w1 ⟨rfl, hb1⟩)
                  go_ret3
                  exact ⟨none, 0, [], Ls.length + 1, 3, by simp, HM.out, RdL.nil _ _ _, Nat.le_refl _, fun _ => rfl, by simp, HL.out.2.2.1.trans (hb1.mono HL.out.2.2.1.size)⟩
                | true =>
                  have hwords' : ∀ W, w.heap.size ≤ W.heap.size → Calls Try.prog 12 #[.string (str a)] W fun e w' => ∃ (q : Option Addr) (cq : Nat), e = .returned (.tuple #[.slice q (pcs 32 a).length cq, .bool true]) ∧ (pcs 32 a).length ≤ cq ∧ w'.ownsRow w.heap.size 9 1 (.slice q (pcs 32 a).length cq) (pcs 32 a).length (scells (pcs 32 a)) ∧ Below W.heap.size W w' := fun W hW => (hwords W).mono fun e w' ⟨hb, h⟩ => by
                    rcases h with ⟨_, v, h, ho⟩ | ⟨h, _⟩
                    · obtain ⟨q, cq, rfl, _, hcq, _, _⟩ := RdV.ofOwn ho
                      exact ⟨q, cq, h, hcq, owns_mono ho hW, hb⟩
                    · rw [hw] at h; cases h
                  have hlm := linesGo_step (Rw.all Ls) (r := L.drop (j + 1)) (by rw [Rw.all_length]; exact hk1) hno (by omega) hw
                  rw [← hlin] at hlm
                  have HM := Lib.hid hlm
                  have HW := Lib.hid hwords'
                  clear hlm hno hsp ha hlin hwords hwords' hra hw
                  go_wp2_with first
                    | (go_at_call 12; with_reducible refine Calls.mono (HW.out _ HL.out.2.2.1.size) ?_; rintro e w2 ⟨q2, cq, rfl, hcq, hoq, hb2⟩; replace hb2 := Lib.hid hb2; replace hoq := Lib.hid hoq)
                    | (at_builtin; refine wpList_append_own _ rfl _ _ 23 rfl w.heap.size 37 i0 (.slice none 0 0) 1 24 Try.underlying23 hi hz0 hz1 hz2 rfl (by decide) _ _ _ rfl ((HO.out.kept hb2.out).1.alloc _) ⟨w2.heap.size, 0, none⟩ 1 1 [.slice q2 (pcs 32 a).length cq] rfl rfl (cell_one_new _ _ _) (by simp [Value.oneCell']) (by simp [maxLen]; omega) (by omega) (by have h1 := HL.out.2.2.1.size; have h3 := hb2.out.size; simp; omega) ?_; intro v' w3 hown' hgrow _; replace hown' := Lib.hid hown'; replace hgrow := Lib.hid hgrow)
                  have hs1 := HL.out.2.2.1.size
                  have hs3 := hb2.out.size
                  have ho2 := (HO.out.kept hb2.out).kept ((Below.refl w2.heap.size w2).alloc (Nat.le_refl _) (.cells #[.slice q2 (pcs 32 a).length cq] 37))
                  have hb3 : Below w.heap.size w (w2.alloc (.cells #[.slice q2 (pcs 32 a).length cq] 37)) := (HL.out.2.2.1.trans (hb2.out.mono hs1)).alloc (by omega) _
                  go_roundg (L.length - j)
                  case measure => omega
                  case rel => exact ⟨j + 1, Ls ++ [⟨q2, cq, pcs 32 a⟩], by simp, by omega, ho2.snoc (r := ⟨q2, cq, pcs 32 a⟩) (hoq.out.alloc _) hgrow.out hown'.out, by simp; omega, fun x hx => (List.mem_append.1 hx).elim (HL.out.2.2.2 x) (fun e => by simp at e; subst e; exact hcq), by rw [HM.out]; simp [Rw.all], hb3.grown hgrow.out (Nat.le_trans hb3.size (Nat.le_refl _)) (fun k e => (ho2.lt k e).1), by omega⟩
          · have hcn : ¬ (u.toNat : Int) = 10 := fun e => h10 (by apply UInt8.toNat_inj.1; simp; omega)
            have hcb : ((u.toNat : Int) == 10) = false := by simp [hcn]
            have HN := Lib.hid hno
            clear hno
            go_wp2_with fail
            go_roundg (L.length - j)
            case measure => omega
            case rel =>
              refine ⟨j + 1, by simp, by omega, by omega, by omega, ?_, rfl⟩
              rw [seg_next hfj hlt, List.mem_append]
              rintro (h | h)
              · exact HN.out h
              · simp only [List.mem_singleton] at h
                exact h10 (by rw [← hu, ← h])
        · obtain rfl : j = L.length := by omega
          rw [seg_end rfl] at hno
          by_cases hmany : 1000 < Ls.length + 1
          · have hlm := linesGo_many (Rw.all Ls) HD.out (by rw [Rw.all_length]; exact hmany)
            rw [← HL.out.1, Rw.all_length] at hlm
            have HM := Lib.hid hlm
            clear hlm hno
            go_wp2_with fail
            go_ret3
            exact ⟨none, 0, [], Ls.length + 1, 7, by simp, HM.out, RdL.nil _ _ _, Nat.le_refl _, fun _ => rfl, by simp, HL.out.2.2.1⟩
          · have hlm := linesGo_open (Rw.all Ls) HD.out (by rw [Rw.all_length]; omega) hno
            rw [← HL.out.1, Rw.all_length] at hlm
            have HM := Lib.hid hlm
            clear hlm hno
            go_wp2_with fail
            go_ret3
            exact ⟨none, 0, [], Ls.length + 1, 11, by simp, HM.out, RdL.nil _ _ _, Nat.le_refl _, fun _ => rfl, by simp, HL.out.2.2.1⟩
end Go.Proofs.Ytmbafdnickeikaa
