/- The first line of a text; a text's lines: the program's. -/
import Derived.Test.YtmbafdnickeikaaLxD
namespace Go.Proofs.Ytmbafdnickeikaa
open Go.RowKit Go.Shelf

theorem cell10 : ∀ (u : World) (s : Nat), u.heap.size = s → (u.alloc (.cells #[.int .u8 10] 5)).cell? ⟨s, 0, none⟩ = some (.int .u8 ((10 : UInt8).toNat : Int)) := fun u s e => by subst e; exact (Boxed.new u 5 (.int .u8 10)).cell
set_option maxRecDepth 10000 in
set_option maxHeartbeats 1600000 in
theorem first_many (p : Option Addr) (c n : Nat) (k : Int) (hk : 1000 < k) (w : World) :
    Calls Try.prog 10 #[.slice p n c, .int .i64 k] w fun e w' => e = .returned (.tuple #[.slice none 0 0, .slice none 0 0, .int .i64 7]) ∧ Below w.heap.size w w' := by
  go_enter Try.func10, Try.ntmps10
  go_wp2_with fail
  go_ret3
  exact ⟨rfl, Below.refl _ _⟩
set_option maxRecDepth 10000 in
set_option maxHeartbeats 1600000 in
theorem first_open (p : Option Addr) (c : Nat) (l : By) (k : Int) (hk : k ≤ 1000) (w : World) (hr : RdV w w.heap.size p (bcells l)) (hc : l.length ≤ c) (hp : p = none → c = 0) (hn : l.length ≤ 4611686018427387904) (hno : (10 : UInt8) ∉ l) :
    Calls Try.prog 10 #[.slice p l.length c, .int .i64 k] w fun e w' => e = .returned (.tuple #[.slice none 0 0, .slice none 0 0, .int .i64 11]) ∧ Below w.heap.size w w' := by
  have hb := (Below.refl w.heap.size w).alloc (Nat.le_refl _) (.cells #[.int .u8 10] 5)
  have hcut := cut_none w.heap.size p c l w.heap.size 1 10 _ (hr.below hb) hc hp hn (cell10 w _ rfl) hno
  have HC := Lib.hid hcut
  have HB := Lib.hid hb
  clear hcut hb
  go_enter Try.func10, Try.ntmps10
  go_wp2_with (go_at_call 16; with_reducible refine Calls.mono HC.out ?_; rintro e w' ⟨rfl, q, rfl⟩)
  go_ret3
  exact ⟨rfl, below_drewN HB.out q⟩
set_option maxRecDepth 10000 in
set_option maxHeartbeats 1600000 in
theorem first_some (p : Option Addr) (c : Nat) (l a r : By) (k : Int) (hk : k ≤ 1000) (w : World) (hr : RdV w w.heap.size p (bcells l)) (hl : l = a ++ 10 :: r) (hc : l.length ≤ c) (hp : p = none → c = 0) (hn : l.length ≤ 4611686018427387904) (ha : (10 : UInt8) ∉ a) :
    Calls Try.prog 10 #[.slice p l.length c, .int .i64 k] w fun e w' => Below w.heap.size w w' ∧ ((4096 < a.length ∧ e = .returned (.tuple #[.slice none 0 0, .slice none 0 0, .int .i64 14])) ∨
      (a.length ≤ 4096 ∧ e = .returned (.tuple #[.slice p a.length c, .slice (if c = a.length + 1 then p else p.map (fun x => x.add (a.length + 1))) r.length (c - (a.length + 1)), .int .i64 0]))) := by
  have hb := (Below.refl w.heap.size w).alloc (Nat.le_refl _) (.cells #[.int .u8 10] 5)
  have hcut := cut_some w.heap.size p c l a r w.heap.size 1 10 _ (hr.below hb) hl hc hp hn (cell10 w _ rfl) ha
  have hal : a.length + r.length + 1 = l.length := by rw [hl]; simp; omega
  obtain ⟨pr, hpr⟩ : ∃ x, x = (if c = a.length + 1 then p else p.map (fun x => x.add (a.length + 1))) := ⟨_, rfl⟩
  rw [← hpr] at hcut ⊢
  have HC := Lib.hid hcut
  have HB := Lib.hid hb
  clear hcut hb hl hpr ha hr
  by_cases h4 : 4096 < a.length
  · go_enter Try.func10, Try.ntmps10
    go_wp2_with (go_at_call 16; with_reducible refine Calls.mono HC.out ?_; rintro e w' ⟨rfl, q, rfl⟩)
    go_ret3
    exact ⟨below_drewN HB.out q, .inl ⟨h4, rfl⟩⟩
  · go_enter Try.func10, Try.ntmps10
    go_wp2_with (go_at_call 16; with_reducible refine Calls.mono HC.out ?_; rintro e w' ⟨rfl, q, rfl⟩)
    go_ret3
    exact ⟨below_drewN HB.out q, .inr ⟨by omega, rfl⟩⟩

theorem owns_mono {w : World} {base base' : Nat} {e : TypeId} {v : Value} {n : Nat} {xs : List Value} (h : w.ownsRow base e 1 v n xs) (hb : base' ≤ base) : w.ownsRow base' e 1 v n xs := by
  refine ⟨h.1, ?_⟩
  rcases h.2 with hn | ⟨g, cap, cur, rfl, hbg, rest⟩
  · exact .inl hn
  · exact .inr ⟨g, cap, cur, rfl, by omega, rest⟩
theorem info_row : (Try.prog.info? 37).map (fun i => (i.zero, i.size, i.bytes)) = some (some (.slice none 0 0), 1, 24) := by kernel_rfl

set_option maxRecDepth 10000 in
set_option maxHeartbeats 4000000 in
theorem lex_Lines (A : Option Addr) (c : Nat) (L : By) (w : World) (hL : RdV w w.heap.size A (bcells L)) (hc : L.length ≤ c) (hA : A = none → c = 0) (hm : L.length ≤ 2305843009213693952) :
    Calls Try.prog 5 #[.slice A L.length c] w fun e w' => ∃ (p : Option Addr) (cap : Nat) (Ls : List Rw) (n k : Nat), e = .returned (.tuple #[.slice p Ls.length cap, .int .i64 n, .int .i64 k]) ∧ linesOf L = (Rw.all Ls, n, k) ∧ RdL w' w'.heap.size p Ls ∧ Ls.length ≤ cap ∧ (p = none → cap = 0) ∧ (∀ r ∈ Ls, r.ws.length ≤ r.c) ∧ Below w.heap.size w w' := by
  obtain ⟨i0, hi, hz0, hz1, hz2⟩ := info_parts info_row
  go_enter Try.func5, Try.ntmps5
  go_wp2_with fail
  go_loopg [0, 5, 6] (L.length + 1) (fun gh b v t wr => ∃ (p : Option Addr) (c' : Nat) (l : By) (Ls : List Rw), b = .slice p l.length c' ∧ RdV w w.heap.size p (bcells l) ∧ l.length ≤ c' ∧ (p = none → c' = 0) ∧ l.length ≤ L.length ∧ OwnL wr w.heap.size v Ls ∧ t = .int .i64 ((Ls.length : Int) + 1) ∧ Ls.length ≤ 1000 ∧ (∀ r ∈ Ls, r.ws.length ≤ r.c) ∧ linesOf L = linesGo (Rw.all Ls) (pcs 10 l) ∧ Below w.heap.size w wr ∧ gh = l.length + 1)
  case atStart => exact ⟨A, c, L, [], rfl, hL, hc, hA, Nat.le_refl _, OwnL.nil w _, rfl, by simp, by simp, rfl, Below.refl _ _, rfl⟩
  case round =>
    obtain ⟨p, c', l, Ls, rfl, hl, hc', hp', hle, hown, rfl, hn, hws, hlin, hB, rfl⟩ := hrel
    have hlr : RdV wr wr.heap.size p (bcells l) := (hl.below hB).mono hB.size
    by_cases h0 : l.length = 0
    · obtain rfl : l = [] := List.eq_nil_of_length_eq_zero h0
      rw [linesGo_end] at hlin
      obtain ⟨q, cap, rfl, hcap, hq, hrd⟩ := hown.rd
      have HL := Lib.hid (And.intro hlin (And.intro hrd (And.intro hB hws)))
      clear hlin hrd hB hown hlr hl hws
      go_wp2_with fail
      go_ret3
      exact ⟨q, Ls.length, Ls, 0, 0, rfl, HL.out.1, HL.out.2.1.on (Below.refl _ _), Nat.le_refl _, fun e => by have := hq e; omega, HL.out.2.2.2, HL.out.2.2.1⟩
    · have hne : l ≠ [] := fun e => h0 (by rw [e]; rfl)
      have hpos : (0 : Int) < l.length := by omega
      by_cases hmany : 1000 < Ls.length + 1
      · have hf := first_many p c' l.length ((Ls.length : Int) + 1) (by omega) wr
        have hlm := linesGo_many (Rw.all Ls) hne (by rw [Rw.all_length]; exact hmany)
        rw [← hlin, Rw.all_length] at hlm
        have HL := Lib.hid (And.intro hlm hB)
        have HF := Lib.hid hf
        clear hlm hlin hB hown hlr hl hws hf hmany hne
        go_wp2_with (go_at_call 10; with_reducible refine Calls.mono HF.out ?_; rintro e w1 ⟨rfl, hb1⟩)
        go_ret3
        exact ⟨none, 0, [], Ls.length + 1, 7, by simp, HL.out.1, RdL.nil _ _ _, Nat.le_refl _, fun _ => rfl, by simp, HL.out.2.trans (hb1.mono HL.out.2.size)⟩
      · have hk1 : Ls.length + 1 ≤ 1000 := by omega
        rcases index_one l 10 with ⟨_, hno⟩ | ⟨a, r, hla, ha, _⟩
        · have hf := first_open p c' l ((Ls.length : Int) + 1) (by omega) wr hlr hc' hp' (by omega) hno
          have hlm := linesGo_open (Rw.all Ls) hne (by rw [Rw.all_length]; exact hk1) hno
          rw [← hlin, Rw.all_length] at hlm
          have HL := Lib.hid (And.intro hlm hB)
          have HF := Lib.hid hf
          clear hlm hlin hB hown hlr hl hws hf hmany hne hno
          go_wp2_with (go_at_call 10; with_reducible refine Calls.mono HF.out ?_; rintro e w1 ⟨rfl, hb1⟩)
          go_ret3
          exact ⟨none, 0, [], Ls.length + 1, 11, by simp, HL.out.1, RdL.nil _ _ _, Nat.le_refl _, fun _ => rfl, by simp, HL.out.2.trans (hb1.mono HL.out.2.size)⟩
        · have hf := first_some p c' l a r ((Ls.length : Int) + 1) (by omega) wr hlr hla hc' hp' (by omega) ha
          have hal : a.length + r.length + 1 = l.length := by rw [hla]; simp; omega
          obtain ⟨pr, hpr⟩ : ∃ x, x = (if c' = a.length + 1 then p else p.map (fun x => x.add (a.length + 1))) := ⟨_, rfl⟩
          rw [← hpr] at hf
          rw [hla] at hlin
          by_cases h4 : 4096 < a.length
          · have hf' : Calls Try.prog 10 #[.slice p l.length c', .int .i64 ((Ls.length : Int) + 1)] wr fun e w' => e = .returned (.tuple #[.slice none 0 0, .slice none 0 0, .int .i64 14]) ∧ Below wr.heap.size wr w' := hf.mono fun e w' ⟨hb, h⟩ => by
              rcases h with ⟨_, h⟩ | ⟨h, _⟩
              · exact ⟨h, hb⟩
              · omega
            have hlm := linesGo_rest (Rw.all Ls) (r := r) (by rw [Rw.all_length]; exact hk1) ha h4
            rw [← hlin, Rw.all_length] at hlm
            have HL := Lib.hid (And.intro hlm hB)
            have HF := Lib.hid hf'
            clear hlm hlin hB hown hlr hl hws hf hf' hmany hne hla ha hpr
            go_wp2_with (go_at_call 10; with_reducible refine Calls.mono HF.out ?_; rintro e w1 ⟨rfl, hb1⟩)
            go_ret3
            exact ⟨none, 0, [], Ls.length + 1, 14, by simp, HL.out.1, RdL.nil _ _ _, Nat.le_refl _, fun _ => rfl, by simp, HL.out.2.trans (hb1.mono HL.out.2.size)⟩
          · have hf' : Calls Try.prog 10 #[.slice p l.length c', .int .i64 ((Ls.length : Int) + 1)] wr fun e w' => e = .returned (.tuple #[.slice p a.length c', .slice pr r.length (c' - (a.length + 1)), .int .i64 0]) ∧ Below wr.heap.size wr w' := hf.mono fun e w' ⟨hb, h⟩ => by
              rcases h with ⟨h, _⟩ | ⟨_, h⟩
              · omega
              · exact ⟨h, hb⟩
            have hra : RdV w w.heap.size p (bcells a) := by
              have := hl.take a.length
              rw [bcells_take, hla] at this
              simpa using this
            have hrr : RdV w w.heap.size pr (bcells r) := by
              have := hl.drop (n := a.length + 1) (cap := c') (by rw [bcells_length]; exact hc')
              rw [bcells_drop] at this
              have e : l.drop (a.length + 1) = r := by rw [hla]; simp [List.drop_append]
              rw [hpr]
              rwa [e] at this
            have hprn : pr = none → c' - (a.length + 1) = 0 := by
              intro e
              rw [e] at hpr
              by_cases h : c' = a.length + 1
              · omega
              · rw [if_neg h] at hpr
                cases p with
                | none => have := hp' rfl; omega
                | some x => simp at hpr
            have hread : ∀ w1, Below wr.heap.size wr w1 → Calls Try.prog 11 #[.slice p a.length c'] w1 fun e w' => Below w1.heap.size w1 w' ∧
                ((wordsOk a = true ∧ ∃ v, e = .returned (.tuple #[v, .int .i64 0]) ∧ w'.ownsRow w1.heap.size 9 1 v (pcs 32 a).length (scells (pcs 32 a))) ∨
                 (wordsOk a = false ∧ e = .returned (.tuple #[.slice none 0 0, .int .i64 3]))) := fun w1 h1 =>
              lex_read p c' a w1 ((hra.below (hB.trans (h1.mono hB.size))).mono (Nat.le_trans hB.size h1.size)) (by omega) hp' (by omega)
            cases hw : wordsOk a with
            | false =>
              have hlm := linesGo_form (Rw.all Ls) (r := r) (by rw [Rw.all_length]; exact hk1) ha (by omega) hw
              rw [← hlin, Rw.all_length] at hlm
              have hread' : ∀ w1, Below wr.heap.size wr w1 → Calls Try.prog 11 #[.slice p a.length c'] w1 fun e w' => e = .returned (.tuple #[.slice none 0 0, .int .i64 3]) ∧ Below w1.heap.size w1 w' := fun w1 h1 => (hread w1 h1).mono fun e w' ⟨hb, h⟩ => by
                rcases h with ⟨h, _⟩ | ⟨_, h⟩
                · rw [hw] at h; cases h
                · exact ⟨h, hb⟩
              have HL := Lib.hid (And.intro hlm hB)
              have HF := Lib.hid hf'
              have HR := Lib.hid hread'
              clear hlm hlin hB hown hlr hl hws hf hf' hmany hne hla ha hpr hra hrr hread hread' hw
              go_wp2_with first
                | (go_at_call 10; with_reducible refine Calls.mono HF.out ?_; rintro e w1 ⟨rfl, hb1⟩)
                | (go_at_call 11; with_reducible refine Calls.mono (HR.out _ hb1) ?_; rintro e w2 ⟨rfl, hb2⟩)
              go_ret3
              exact ⟨none, 0, [], Ls.length + 1, 3, by simp, HL.out.1, RdL.nil _ _ _, Nat.le_refl _, fun _ => rfl, by simp, (HL.out.2.trans (hb1.mono HL.out.2.size)).trans (hb2.mono (Nat.le_trans HL.out.2.size hb1.size))⟩
            | true =>
              have hlm := linesGo_step (Rw.all Ls) (r := r) (by rw [Rw.all_length]; exact hk1) ha (by omega) hw
              rw [← hlin] at hlm
              have hread' : ∀ w1, Below wr.heap.size wr w1 → Calls Try.prog 11 #[.slice p a.length c'] w1 fun e w' => ∃ (q : Option Addr) (cq : Nat), e = .returned (.tuple #[.slice q (pcs 32 a).length cq, .int .i64 0]) ∧ (pcs 32 a).length ≤ cq ∧ w'.ownsRow w.heap.size 9 1 (.slice q (pcs 32 a).length cq) (pcs 32 a).length (scells (pcs 32 a)) ∧ Below w1.heap.size w1 w' := fun w1 h1 => (hread w1 h1).mono fun e w' ⟨hb, h⟩ => by
                rcases h with ⟨_, v, h, ho⟩ | ⟨h, _⟩
                · obtain ⟨q, cq, rfl, _, hcq, _, _⟩ := RdV.ofOwn ho
                  exact ⟨q, cq, h, hcq, owns_mono ho (Nat.le_trans hB.size h1.size), hb⟩
                · rw [hw] at h; cases h
              have HL := Lib.hid (And.intro hlm (And.intro hB (And.intro hrr hws)))
              have HO := Lib.hid hown
              have HF := Lib.hid hf'
              have HR := Lib.hid hread'
              clear hlm hlin hB hown hlr hl hws hf hf' hmany hne hla ha hpr hra hrr hread hread' hw
              go_wp2_with first
                | (go_at_call 10; with_reducible refine Calls.mono HF.out ?_; rintro e w1 ⟨rfl, hb1⟩; replace hb1 := Lib.hid hb1)
                | (go_at_call 11; with_reducible refine Calls.mono (HR.out _ hb1.out) ?_; rintro e w2 ⟨q, cq, rfl, hcq, hoq, hb2⟩; replace hb2 := Lib.hid hb2; replace hoq := Lib.hid hoq)
                | (at_builtin; refine wpList_append_own _ rfl _ _ 23 rfl w.heap.size 37 i0 (.slice none 0 0) 1 24 Try.underlying23 hi hz0 hz1 hz2 rfl (by decide) _ _ _ rfl (((HO.out.kept hb1.out).kept hb2.out).1.alloc _) ⟨w2.heap.size, 0, none⟩ 1 1 [.slice q (pcs 32 a).length cq] rfl rfl (cell_one_new _ _ _) (by simp [Value.oneCell']) (by simp [maxLen]; omega) (by omega) (by have h1 := HL.out.2.1.size; have h2 := hb1.out.size; have h3 := hb2.out.size; simp; omega) ?_; intro v' w3 hown' hgrow _; replace hown' := Lib.hid hown'; replace hgrow := Lib.hid hgrow)
              have hs1 := HL.out.2.1.size
              have hs2 := hb1.out.size
              have hs3 := hb2.out.size
              have ho2 := ((HO.out.kept hb1.out).kept hb2.out).kept ((Below.refl w2.heap.size w2).alloc (Nat.le_refl _) (.cells #[.slice q (pcs 32 a).length cq] 37))
              have hb3 : Below w.heap.size w (w2.alloc (.cells #[.slice q (pcs 32 a).length cq] 37)) := ((HL.out.2.1.trans (hb1.out.mono hs1)).trans (hb2.out.mono (Nat.le_trans hs1 hs2))).alloc (by omega) _
              go_roundg (r.length + 1)
              case measure => omega
              case rel => exact ⟨pr, c' - (a.length + 1), r, Ls ++ [⟨q, cq, pcs 32 a⟩], rfl, HL.out.2.2.1, by omega, hprn, by omega, ho2.snoc (r := ⟨q, cq, pcs 32 a⟩) (hoq.out.alloc _) hgrow.out hown'.out, by simp, by simp; omega, fun x hx => (List.mem_append.1 hx).elim (HL.out.2.2.2 x) (fun e => by simp at e; subst e; exact hcq), by rw [HL.out.1]; simp [Rw.all], hb3.grown hgrow.out (Nat.le_trans hb3.size (Nat.le_refl _)) (fun k e => (ho2.lt k e).1), rfl⟩
end Go.Proofs.Ytmbafdnickeikaa
