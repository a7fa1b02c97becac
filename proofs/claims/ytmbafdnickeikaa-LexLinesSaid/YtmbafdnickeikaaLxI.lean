/- The law LexLines: its walk. -/
import Derived.Test.YtmbafdnickeikaaLxG
import Derived.Test.YtmbafdnickeikaaLxH
namespace Go.Proofs.Ytmbafdnickeikaa
open Go.RowKit Go.Shelf

theorem pcs_part {c : UInt8} : ∀ (l p : By), p ∈ pcs c l → p.length ≤ l.length := by
  intro l
  induction l with
  | nil => intro p hp; simp [pcs] at hp; subst hp; simp
  | cons x r ih =>
    intro p hp
    unfold pcs at hp
    split at hp
    · rcases List.mem_cons.1 hp with rfl | h
      · simp
      · have := ih p h; simp; omega
    · rcases List.mem_cons.1 hp with rfl | h
      · cases hr : pcs c r with
        | nil => exact absurd hr (pcs_ne c r)
        | cons q qs => have := ih q (by rw [hr]; simp); simp; omega
      · have := ih p (List.mem_of_mem_tail h); simp; omega
theorem linesGo_small (N : Nat) : ∀ (ps : List By) (acc : List (List By)), acc.length ≤ 1000 → (∀ r ∈ acc, r.length ≤ N) → (∀ p ∈ ps, p.length + 1 ≤ N) → (linesGo acc ps).1.length ≤ 1000 ∧ ∀ r ∈ (linesGo acc ps).1, r.length ≤ N := by
  intro ps
  induction ps with
  | nil => intro acc h1 h2 _; exact ⟨h1, h2⟩
  | cons p ps ih =>
    intro acc h1 h2 h3
    cases ps with
    | nil =>
      simp only [linesGo]
      split
      · exact ⟨h1, h2⟩
      · split
        · simp
        · simp
    | cons q r =>
      simp only [linesGo]
      split
      · simp
      · split
        · simp
        · split
          · refine ih _ (by simp; omega) ?_ (fun x hx => h3 x (List.mem_cons_of_mem _ hx))
            intro x hx
            rcases List.mem_append.1 hx with h | h
            · exact h2 x h
            · simp at h
              subst h
              have := pcs_length 32 p
              have := h3 p (by simp)
              omega
          · simp
theorem linesOf_small (L : By) : (linesOf L).1.length ≤ 1000 ∧ ∀ r ∈ (linesOf L).1, r.length ≤ L.length + 1 :=
  linesGo_small _ _ [] (by simp) (by simp) fun p hp => by have := pcs_part L p hp; omega

/-- what Lines answers where a text's lines are known -/
def LinesTo (f : FuncId) : Prop := ∀ (A : Option Addr) (c : Nat) (L : By) (R : List (List By)) (n k : Nat) (w : World), linesOf L = (R, n, k) → RdV w w.heap.size A (bcells L) → L.length ≤ c → (A = none → c = 0) → L.length ≤ 2305843009213693952 →
  Calls Try.prog f #[.slice A L.length c] w fun e w' => ∃ (p : Option Addr) (cap : Nat) (Ls : List Rw), e = .returned (.tuple #[.slice p Ls.length cap, .int .i64 n, .int .i64 k]) ∧ Rw.all Ls = R ∧ RdL w' w'.heap.size p Ls ∧ Ls.length ≤ cap ∧ (p = none → cap = 0) ∧ (∀ r ∈ Ls, r.ws.length ≤ r.c) ∧ Below w.heap.size w w'
theorem lex_LinesTo : LinesTo 5 := fun A c L R n k w hR hL hc hA hm => (lex_Lines A c L w hL hc hA hm).mono fun e w' ⟨p, cap, Ls, n', k', he, hl, hr⟩ => by
  rw [hR] at hl
  cases hl
  exact ⟨p, cap, Ls, he, rfl, hr⟩
theorem ref6_LinesTo : LinesTo 6 := fun A c L R n k w hR hL hc hA hm => (ref6_Lines A c L w hL hc hA hm).mono fun e w' ⟨p, cap, Ls, n', k', he, hl, hr⟩ => by
  rw [hR] at hl
  cases hl
  exact ⟨p, cap, Ls, he, rfl, hr⟩

set_option maxRecDepth 10000 in
set_option maxHeartbeats 4000000 in
theorem lives6 (w : World) : Calls Try.prog 8 #[] w fun e w' => e = .returned (.bool true) ∧ Below w.heap.size w w' := by
  have hlit : RdV (w.alloc (.cells #[.int .u8 97, .int .u8 32, .int .u8 98, .int .u8 99, .int .u8 10] 5)) (w.heap.size + 1) (some ⟨w.heap.size, 0, none⟩) (bcells [97, 32, 98, 99, 10]) := fun _ => ⟨w.heap.size, 0, rfl, by omega, fun j hj => by
    have h := World.alloc_heap_new w (.cells #[.int .u8 97, .int .u8 32, .int .u8 98, .int .u8 99, .int .u8 10] 5)
    simp only [World.cell?, h]
    have hj' : j < 5 := by simpa [bcells] using hj
    match j, hj' with
    | 0, _ => rfl
    | 1, _ => rfl
    | 2, _ => rfl
    | 3, _ => rfl
    | 4, _ => rfl⟩
  have hb := (Below.refl w.heap.size w).alloc (Nat.le_refl _) (.cells #[.int .u8 97, .int .u8 32, .int .u8 98, .int .u8 99, .int .u8 10] 5)
  have hlines := lex_LinesTo (some ⟨w.heap.size, 0, none⟩) 5 [97, 32, 98, 99, 10] [[[97], [98, 99]]] 0 0 (w.alloc (.cells #[.int .u8 97, .int .u8 32, .int .u8 98, .int .u8 99, .int .u8 10] 5)) (by decide) (by simpa using hlit) (by simp) (fun h => by cases h) (by simp)
  have hlines' : Calls Try.prog 5 #[.slice (some ⟨w.heap.size, 0, none⟩) 5 5] (w.alloc (.cells #[.int .u8 97, .int .u8 32, .int .u8 98, .int .u8 99, .int .u8 10] 5)) fun e w' => ∃ (b o cap b' o' cap' : Nat), e = .returned (.tuple #[.slice (some ⟨b, o, none⟩) 1 cap, .int .i64 0, .int .i64 0]) ∧ 1 ≤ cap ∧ w'.cell? ⟨b, o, none⟩ = some (.slice (some ⟨b', o', none⟩) 2 cap') ∧ 2 ≤ cap' ∧ w'.cell? ⟨b', o' + 1, none⟩ = some (.string ⟨#[98, 99]⟩) ∧ Below w.heap.size w w' := hlines.mono fun e w' ⟨p, cap, Ls, he, hR, hr, hc, _, hrc, hbl⟩ => by
    cases Ls with
    | nil => simp [Rw.all] at hR
    | cons r rs =>
      simp only [Rw.all, List.map_cons, List.cons.injEq, List.map_eq_nil_iff] at hR
      obtain ⟨h1, rfl⟩ := hR
      obtain ⟨b, o, rfl, _, hcell, hrw⟩ := hr.row (i := 0) (by simp)
      simp only [List.getElem_cons_zero, Nat.add_zero, h1] at hcell hrw
      obtain ⟨b', o', e', _, hc2⟩ := hrw.word (i := 1) (by simp)
      rw [e'] at hcell
      refine ⟨b, o, cap, b', o', r.c, he, by simpa using hc, hcell, ?_, hc2, hb.trans (hbl.mono hb.size)⟩
      have := hrc r (by simp)
      rw [h1] at this
      exact this
  have hword := fun W => (lex_Word ⟨#[126]⟩ (by simp [ByteArray.size]) W).mono (R' := fun e w' => e = .returned (.bool true) ∧ W = w') fun e w' ⟨h1, h2⟩ => ⟨by rw [h1]; rfl, h2.symm⟩
  have HL := Lib.hid hlines'
  have HW := Lib.hid hword
  clear hlines hlines' hlit hword hb
  go_enter Try.func8, Try.ntmps8
  go_wp2_with first
    | (go_at_call 5; with_reducible refine Calls.mono HL.out ?_; rintro e w1 ⟨b, o, cap, b', o', cap', rfl, hcap, hc1, hcap', hc2, hb1⟩; replace hb1 := Lib.hid hb1)
    | (go_at_call 13; with_reducible refine Calls.mono (HW.out _) ?_; rintro e w2 ⟨rfl, rfl⟩)
  go_ret
  exact ⟨rfl, hb1.out⟩
end Go.Proofs.Ytmbafdnickeikaa
