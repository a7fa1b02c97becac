/- Rasters: the lines ahead of a file are told: the program's own split. Written by gen/genpbj.py. -/
import Derived.Test.YtchfbpgbojnakaaDoorZPzG
import Derived.Test.YtchfbpgbojnakaaDoorZPzC
import Derived.Test.YtchfbpgbojnakaaDoorZPzE
import Derived.Test.YtchfbpgbojnakaaDoorZPzD
import Derived.StillTailTactics
import Derived.Deep.QuietTactic
import Derived.BigQuiet
namespace Go.Proofs.YtchfbpgbojnakaaDoor
open Go.RowKit Go.Shelf

theorem conv_rd (w2 : World) (s : ByteArray) (hs : s.size ≤ 200) : RdV (w2.alloc (.cells (bytesRow s (grownCap w2 s.size 0 5)) 5 ((bytesRow s (grownCap w2 s.size 0 5)).size, (bytesRow s (grownCap w2 s.size 0 5)).size + 1))).drew (w2.heap.size + 1) (some ⟨w2.heap.size, 0, none⟩) (bcells s.data.toList) ∧
    Below w2.heap.size w2 (w2.alloc (.cells (bytesRow s (grownCap w2 s.size 0 5)) 5 ((bytesRow s (grownCap w2 s.size 0 5)).size, (bytesRow s (grownCap w2 s.size 0 5)).size + 1))).drew := by
  have h := own_made w2 w2.heap.size 5 s (Nat.le_refl _) (by unfold maxLen; omega)
  obtain ⟨p, cap, e, hr⟩ := h.rd
  have e2 : p = some ⟨w2.heap.size, 0, none⟩ := by
    have := e
    simp only [Value.slice.injEq] at this
    exact this.1.symm
  subst e2
  have e3 : (w2.drew.alloc (.cells (bytesRow s (grownCap w2 s.size 0 5)) 5 ((bytesRow s (grownCap w2 s.size 0 5)).size, (bytesRow s (grownCap w2 s.size 0 5)).size + 1))).heap.size = w2.heap.size + 1 := by simp
  rw [e3] at hr
  exact ⟨hr, ((Below.refl _ _).alloc (Nat.le_refl _) _).drew⟩
theorem prefix_any (B : Nat) (p : Option Addr) (c n m : Nat) (l a : By) (p2 : Option Addr) (c2 : Nat) (w : World) (h1 : RdV w B p (bcells l)) (hn : l.length = n) (hc : n ≤ c) (B2 : Nat) (h2 : RdV w B2 p2 (bcells a)) (hm : a.length = m) :
    Calls Tryd.prog 32 #[.slice p n c, .slice p2 m c2] w fun e w' => (∃ v t, e = .returned (.tuple #[v, .bool t])) ∧ w = w' := by
  subst hn hm
  exact (Tryd.bytes_CutPrefix_all p p2 l.length c a.length c2 (ofB l) (ofB a) w (ofB_length _) (ofB_length _) hc (bytesIn_of h1) (bytesIn_of h2)).mono fun e w' ⟨he, hw⟩ => ⟨⟨_, _, he⟩, hw.symm⟩
theorem prefix_noN (B : Nat) (p : Option Addr) (c n m : Nat) (l a : By) (p2 : Option Addr) (c2 : Nat) (w : World) (h1 : RdV w B p (bcells l)) (hn : l.length = n) (hc : n ≤ c) (B2 : Nat) (h2 : RdV w B2 p2 (bcells a)) (hm : a.length = m) (ha : ¬ a <+: l) :
    Calls Tryd.prog 32 #[.slice p n c, .slice p2 m c2] w fun e w' => (∃ v, e = .returned (.tuple #[v, .bool false])) ∧ w = w' := by
  subst hn hm
  exact prefix_no B p c a l p2 c2 w h1 hc B2 h2 ha
theorem prefix_yesN (B : Nat) (p : Option Addr) (c n m k : Nat) (l a b : By) (p2 : Option Addr) (c2 : Nat) (w : World) (h1 : RdV w B p (bcells l)) (hl : l = a ++ b) (hn : l.length = n) (hc : n ≤ c) (B2 : Nat) (h2 : RdV w B2 p2 (bcells a)) (hm : a.length = m) (hk : b.length = k) (ha : 0 < a.length) :
    Calls Tryd.prog 32 #[.slice p n c, .slice p2 m c2] w fun e w' => (∃ p' c', e = .returned (.tuple #[.slice p' k c', .bool true]) ∧ RdV w B p' (bcells b)) ∧ w = w' := by
  subst hl hn hm hk
  exact prefix_yes B p c a b p2 c2 w h1 hc B2 h2 ha
theorem cut_no (B : Nat) (p : Option Addr) (c L : Nat) (l : By) (b2 c2 : Nat) (w : World) (h : RdV w B p (bcells l)) (hL : l.length = L) (hc : L ≤ c) (hp : p = none → c = 0) (hl : L ≤ 140737488355328) (h2 : w.cell? ⟨b2, 0, none⟩ = some (.int .u8 10)) (hn : (10 : UInt8) ∉ l) :
    Calls Tryd.prog 31 #[.slice p L c, .slice (some ⟨b2, 0, none⟩) 1 c2] w fun e w' => e = .returned (.tuple #[.slice p L c, .slice none 0 0, .bool false]) ∧ Below w.heap.size w w' := by
  subst hL
  exact (cut_none B p c l b2 c2 10 w h hc hp (by omega) h2 hn).mono fun e w' ⟨he, q, hq⟩ => ⟨he, by rw [hq]; exact below_drewN (Below.refl _ _) q⟩
theorem cut_yes (B : Nat) (p : Option Addr) (c L A R : Nat) (l a r : By) (b2 c2 : Nat) (w : World) (h : RdV w B p (bcells l)) (hl : l = a ++ 10 :: r) (hL : l.length = L) (hA : a.length = A) (hR : r.length = R) (hc : L ≤ c) (hp : p = none → c = 0) (hl2 : L ≤ 140737488355328) (h2 : w.cell? ⟨b2, 0, none⟩ = some (.int .u8 10)) (hn : (10 : UInt8) ∉ a) :
    Calls Tryd.prog 31 #[.slice p L c, .slice (some ⟨b2, 0, none⟩) 1 c2] w fun e w' => (∃ p' c', e = .returned (.tuple #[.slice p A c, .slice p' R c', .bool true]) ∧ RdV w B p' (bcells r) ∧ R ≤ c' ∧ (p' = none → c' = 0)) ∧ Below w.heap.size w w' := by
  subst hL hA hR
  refine (cut_some B p c l a r b2 c2 10 w h hl hc hp (by omega) h2 hn).mono fun e w' ⟨he, q, hq⟩ => ⟨⟨_, _, he, ?_, ?_, ?_⟩, by rw [hq]; exact below_drewN (Below.refl _ _) q⟩
  · have hd := h.drop (n := a.length + 1) (cap := c) (by rw [bcells_length]; exact hc)
    have e : (bcells l).drop (a.length + 1) = bcells r := by
      rw [hl]
      simp [bcells, List.drop_append]
    rw [e] at hd
    exact hd
  · have := congrArg List.length hl
    simp at this
    omega
  · intro hnone
    exfalso
    have hlen := congrArg List.length hl
    simp at hlen
    cases p with
    | none => have := hp rfl; omega
    | some x => split at hnone <;> simp at hnone
theorem first_ten (l : By) : (10 : UInt8) ∉ l ∨ ∃ a r, l = a ++ 10 :: r ∧ (10 : UInt8) ∉ a := by
  induction l with
  | nil => exact .inl (by simp)
  | cons x l ih =>
    by_cases hx : x = 10
    · subst hx
      exact .inr ⟨[], l, rfl, by simp⟩
    · rcases ih with h | ⟨a, r, rfl, h⟩
      · exact .inl (by simp; exact ⟨fun e => hx e.symm, h⟩)
      · exact .inr ⟨x :: a, r, rfl, by simp; exact ⟨fun e => hx e.symm, h⟩⟩
theorem no_ten {a : By} (h : (10 : UInt8) ∉ a) : ∀ c ∈ a, c ≠ 10 := fun _ hc e => h (e ▸ hc)
theorem headAt_pos {k : Nat} (hk : k < 7) : 0 < (headAt k).length := by
  match k, hk with
  | 0, _ | 1, _ | 2, _ | 3, _ | 4, _ | 5, _ | 6, _ => decide

theorem rd_back {w w' : World} {B : Nat} {p : Option Addr} {xs : List Value} (h : RdV w' B p xs) (hB : Below B w w') : RdV w B p xs := fun hn => by
  obtain ⟨b, o, e, hb, hc⟩ := h hn
  exact ⟨b, o, e, hb, fun j hj => (hB.cell (p := ⟨b, o + j, none⟩) hb).symm.trans (hc j hj)⟩
theorem read_is (t : By) (lo hi : Int) : ∃ n k, IsRead t lo hi n k := by
  by_cases h1 : IsSig t
  · by_cases h2 : lo ≤ sigVal t ∧ sigVal t ≤ hi
    · exact ⟨_, 0, .inr (.inr ⟨h1, h2, rfl, rfl⟩)⟩
    · exact ⟨0, 4, .inr (.inl ⟨h1, h2, rfl, rfl⟩)⟩
  · exact ⟨0, 3, .inl ⟨h1, rfl, rfl⟩⟩
theorem pam_sideN {t : By} {n : Int} {er : Nat} (hr : IsRead t 1 64 n er) (B : Nat) (p : Option Addr) (c D : Nat) (hD : t.length = D) (ht : D ≤ 281474976710656) (w : World) (h : RdV w B p (bcells t)) (hR : Rng w) :
    Calls Tryd.prog 33 #[.slice p D c] w fun e w' => e = .returned (.int .i64 n) ∧ Below w.heap.size w w' := by
  subst hD
  refine (pam_side B p c t ht w h hR).mono ?_
  rintro e w' ⟨⟨n', k', rfl, hr'⟩, hb⟩
  obtain ⟨rfl, -⟩ := hr.unique hr'
  exact ⟨rfl, hb⟩

def Splits (bs : By) (w : World) (e : Ending) (w' : World) : Prop :=
  ((∃ x y rest p' c', ((1 ≤ x ∧ x ≤ 64) ∧ (1 ≤ y ∧ y ≤ 64)) ∧ bs = headOf x y ++ rest ∧ e = .returned (.tuple #[.int .i64 x, .int .i64 y, .slice p' rest.length c', .bool true]) ∧ rest.length ≤ c' ∧ RdV w' w'.heap.size p' (bcells rest)) ∨
    (NoFile bs ∧ e = .returned (.tuple #[.int .i64 0, .int .i64 0, .slice none 0 0, .bool false]))) ∧ Below w.heap.size w w'

set_option maxRecDepth 10000 in
set_option maxHeartbeats 12800000 in
theorem pam_split (bs : By) (p : Option Addr) (c : Nat) (hl : bs.length ≤ 140737488355328) (hc : bs.length ≤ c) (hp : p = none → c = 0) (w : World) (hq : RdV w w.heap.size p (bcells bs)) (hH : Heads w) (hR : Rng w) :
    Calls Tryd.prog 25 #[.slice p bs.length c] w (Splits bs w) := by
  have hcv := fun w s => run_bytes_of_string (P := Tryd.prog) w 9 25 5 s Tryd.underlying9 Tryd.underlying25 Tryd.underlying5
  replace hR := Lib.hid hR
  obtain ⟨L0, hL0⟩ : ∃ L0, bs.length = L0 := ⟨_, rfl⟩
  rw [hL0] at hl hc ⊢
  have H0 := Lib.hid (And.intro hL0 (And.intro hc (And.intro hp hq)))
  replace hl := Lib.hid hl
  replace hH := Lib.hid hH
  clear hL0 hc hp hq
  go_enter Tryd.func25, Tryd.ntmps25
  go_wp2_with fail
  go_step3
  go_wp2_with fail
  go_step3
  go_wp2_with fail
  go_loopg [0, 2, 3, 6, 13] 7 (fun gh vb vw vh vk it wr => ∃ (k L : Nat) (x y : Int) (l : By) (pp : Option Addr) (cc : Nat), it = .int .i64 (k : Int) ∧ vk = .int .i64 (k : Int) ∧ gh + k = 7 ∧ vb = .slice pp L cc ∧ vw = .int .i64 x ∧ vh = .int .i64 y ∧ Hid (Told bs k x y l ∧ l.length = L ∧ L ≤ cc ∧ (pp = none → cc = 0) ∧ L ≤ L0 ∧ RdV w w.heap.size pp (bcells l) ∧ Below w.heap.size w wr))
  case atStart => exact ⟨0, L0, 0, 0, bs, p, c, rfl, rfl, rfl, rfl, rfl, rfl, Lib.hid ⟨Told.first bs, H0.out.1, H0.out.2.1, H0.out.2.2.1, Nat.le_refl _, H0.out.2.2.2, Below.refl _ _⟩⟩
  case round =>
    obtain ⟨k, L, x, y, l, pp, cc, rfl, rfl, hg, rfl, rfl, rfl, HI⟩ := hrel
    by_cases hk : k < 7
    · have hki : (k : Int) < 7 := by omega
      have hk0 : (0 : Int) ≤ (k : Int) := by omega
      have hW1 := (Below.refl wr.heap.size wr).alloc (Nat.le_refl _) (.cells #[.int .u8 10] 5)
      have hten : (wr.alloc (.cells #[.int .u8 10] 5)).cell? ⟨wr.heap.size, 0, none⟩ = some (.int .u8 10) := (Box.new wr 5 [.int .u8 10]).cell 0 rfl
      have HW1 := Lib.hid (And.intro (HI.out.2.2.2.2.2.2.trans (hW1.mono HI.out.2.2.2.2.2.2.size)) hten)
      clear hW1 hten
      rcases first_ten l with hno | ⟨a, r, hla, hna⟩
      · have hcut := Lib.hid (cut_no w.heap.size pp cc L l wr.heap.size 1 (wr.alloc (.cells #[.int .u8 10] 5)) (HI.out.2.2.2.2.2.1.below HW1.out.1) HI.out.2.1 HI.out.2.2.1 HI.out.2.2.2.1 (by have := HI.out.2.2.2.2.1; have := hl.out; omega) HW1.out.2 hno)
        have HN := Lib.hid (HI.out.1.no_end hk hno)
        clear hno
        obtain ⟨s, hs⟩ : ∃ s, str (headAt k) = s := ⟨_, rfl⟩
        have hsl := Lib.hid (show (headAt k).length = s.size by rw [← hs, str_size])
        have hss := Lib.hid (show s.data.toList = headAt k by rw [← hs]; simp [str])
        have hsz := Lib.hid (show s.size ≤ 200 by have := headAt_len k; have := hsl.out; omega)
        replace hs := Lib.hid hs
        go_wp2_with first
          | (go_at_call 31; with_reducible refine Calls.mono hcut.out ?_; rintro e w2 ⟨rfl, b2⟩
             have HB2 := Lib.hid (HW1.out.1.trans (b2.mono HW1.out.1.size))
             have hcell := heads_cell (hH.out.on HB2.out) hk
             rw [hs.out] at hcell
             have H3 := Lib.hid (conv_rd w2 s hsz.out)
             have HB3 := Lib.hid (HB2.out.trans (H3.out.2.mono HB2.out.size))
             have h3 := H3.out.1
             rw [hss.out] at h3
             replace h3 := Lib.hid h3
             clear b2)
          | (go_at_call 32; with_reducible refine Calls.mono (prefix_any w.heap.size pp cc L s.size l (headAt k) _ _ _ (HI.out.2.2.2.2.2.1.below HB3.out) HI.out.2.1 HI.out.2.2.1 _ h3.out hsl.out) ?_; rintro e w3 ⟨⟨v3, t3, rfl⟩, rfl⟩)
        rw [Exit.noGoto_ret]
        exact bodyPost_ret (by simp [results, Tryd.results25, go_sem]) rfl ⟨.inr ⟨HN.out, rfl⟩, HB3.out⟩
      · obtain ⟨s, hs⟩ : ∃ s, str (headAt k) = s := ⟨_, rfl⟩
        have hsl := Lib.hid (show (headAt k).length = s.size by rw [← hs, str_size])
        have hss := Lib.hid (show s.data.toList = headAt k by rw [← hs]; simp [str])
        have hsz := Lib.hid (show s.size ≤ 200 by have := headAt_len k; have := hsl.out; omega)
        replace hs := Lib.hid hs
        obtain ⟨A, hA⟩ : ∃ A, a.length = A := ⟨_, rfl⟩
        obtain ⟨R, hR⟩ : ∃ R, r.length = R := ⟨_, rfl⟩
        have hAL : A + 1 + R = L := by
          have h1 := congrArg List.length hla
          have h2 := HI.out.2.1
          simp at h1
          omega
        have hcut := Lib.hid (cut_yes w.heap.size pp cc L A R l a r wr.heap.size 1 (wr.alloc (.cells #[.int .u8 10] 5)) (HI.out.2.2.2.2.2.1.below HW1.out.1) hla HI.out.2.1 hA hR HI.out.2.2.1 HI.out.2.2.2.1 (by have := HI.out.2.2.2.2.1; have := hl.out; omega) HW1.out.2 hna)
        have hra : RdV w w.heap.size pp (bcells a) := by
          have h := HI.out.2.2.2.2.2.1.take a.length
          rw [bcells_take, hla, List.take_left] at h
          exact h
        have hAcc : A ≤ cc := by have := HI.out.2.2.1; omega
        have HA := Lib.hid (And.intro hra (And.intro hA (And.intro hAcc (no_ten hna))))
        clear hra hA hAcc hna
        by_cases hpre : headAt k <+: a
        · obtain ⟨b, hb0⟩ := hpre
          have hb := Lib.hid hb0.symm
          obtain ⟨D, hD0⟩ : ∃ D, b.length = D := ⟨_, rfl⟩
          have hDA := Lib.hid (show (headAt k).length + D = A by rw [← HA.out.2.1, ← hb0, List.length_append, hD0])
          have hD := Lib.hid hD0
          have hpos := Lib.hid (headAt_pos hk)
          have hna2 := Lib.hid (show ∀ c ∈ headAt k ++ b, c ≠ 10 by rw [hb0]; exact HA.out.2.2.2)
          have hla2 := hla
          rw [← hb0] at hla2
          have hALL := Lib.hid hAL
          have hRl := Lib.hid hR
          replace hla := hla2
          clear hb0 hD0 hla2 hAL hR
          by_cases k1 : k = 1
          · skip
            subst k1
            obtain ⟨n, er, hrd⟩ := read_is b 1 64
            replace hrd := Lib.hid hrd
            by_cases hn : n = 0
            · have HN := Lib.hid (HI.out.1.no_w hla hna2.out hrd.out hn)
              subst hn
              clear hla
              go_wp2_with first
                | (go_at_call 31; with_reducible refine Calls.mono hcut.out ?_; rintro e w2 ⟨⟨p', c', rfl, hr2, hc2, hp2⟩, b2⟩
                   have HB2 := Lib.hid (HW1.out.1.trans (b2.mono HW1.out.1.size))
                   have hcell := heads_cell (hH.out.on HB2.out) (by omega)
                   rw [hs.out] at hcell
                   have H3 := Lib.hid (conv_rd w2 s hsz.out)
                   have HB3 := Lib.hid (HB2.out.trans (H3.out.2.mono HB2.out.size))
                   have h3 := H3.out.1
                   rw [hss.out] at h3
                   replace h3 := Lib.hid h3
                   have HR2 := Lib.hid (And.intro hc2 (And.intro hp2 (rd_back hr2 HW1.out.1)))
                   clear b2 hr2 hc2 hp2)
                | (go_at_call 32; with_reducible refine Calls.mono (prefix_yesN w.heap.size pp cc A s.size D a (headAt 1) b _ _ _ (HA.out.1.below HB3.out) hb.out HA.out.2.1 HA.out.2.2.1 _ h3.out hsl.out hD.out hpos.out) ?_; rintro e w3 ⟨⟨p4, c4, rfl, hr4⟩, rfl⟩
                   replace hr4 := Lib.hid hr4)
                | (go_at_call 33; with_reducible refine Calls.mono (pam_sideN hrd.out w.heap.size p4 c4 D hD.out (by have := hDA.out; have := HA.out.2.1; have := hl.out; have := HI.out.2.2.2.2.1; have := hALL.out; omega) _ hr4.out (hR.out.on HB3.out)) ?_; rintro e w5 ⟨rfl, b5⟩
                   have HB5 := Lib.hid (HB3.out.trans (b5.mono HB3.out.size))
                   clear b5)
              rw [Exit.noGoto_ret]
              exact bodyPost_ret (by simp [results, Tryd.results25, go_sem]) rfl ⟨.inr ⟨HN.out, rfl⟩, HB5.out⟩
            · have HN := Lib.hid (HI.out.1.next_w hla hrd.out hn)
              clear hla
              go_wp2_with first
                | (go_at_call 31; with_reducible refine Calls.mono hcut.out ?_; rintro e w2 ⟨⟨p', c', rfl, hr2, hc2, hp2⟩, b2⟩
                   have HB2 := Lib.hid (HW1.out.1.trans (b2.mono HW1.out.1.size))
                   have hcell := heads_cell (hH.out.on HB2.out) (by omega)
                   rw [hs.out] at hcell
                   have H3 := Lib.hid (conv_rd w2 s hsz.out)
                   have HB3 := Lib.hid (HB2.out.trans (H3.out.2.mono HB2.out.size))
                   have h3 := H3.out.1
                   rw [hss.out] at h3
                   replace h3 := Lib.hid h3
                   have HR2 := Lib.hid (And.intro hc2 (And.intro hp2 (rd_back hr2 HW1.out.1)))
                   clear b2 hr2 hc2 hp2)
                | (go_at_call 32; with_reducible refine Calls.mono (prefix_yesN w.heap.size pp cc A s.size D a (headAt 1) b _ _ _ (HA.out.1.below HB3.out) hb.out HA.out.2.1 HA.out.2.2.1 _ h3.out hsl.out hD.out hpos.out) ?_; rintro e w3 ⟨⟨p4, c4, rfl, hr4⟩, rfl⟩
                   replace hr4 := Lib.hid hr4)
                | (go_at_call 33; with_reducible refine Calls.mono (pam_sideN hrd.out w.heap.size p4 c4 D hD.out (by have := hDA.out; have := HA.out.2.1; have := hl.out; have := HI.out.2.2.2.2.1; have := hALL.out; omega) _ hr4.out (hR.out.on HB3.out)) ?_; rintro e w5 ⟨rfl, b5⟩
                   have HB5 := Lib.hid (HB3.out.trans (b5.mono HB3.out.size))
                   clear b5)
              go_roundg (7 - (1 + 1))
              case measure => omega
              case rel => exact ⟨1 + 1, R, n, y, r, p', c', by first | rfl | simp, by first | rfl | simp, by omega, rfl, rfl, rfl, Lib.hid ⟨HN.out, hRl.out, HR2.out.1, HR2.out.2.1, by have := HI.out.2.2.2.2.1; have := hALL.out; omega, HR2.out.2.2, HB5.out⟩⟩
          · by_cases k2 : k = 2
            · skip
              subst k2
              obtain ⟨n, er, hrd⟩ := read_is b 1 64
              replace hrd := Lib.hid hrd
              by_cases hn : n = 0
              · have HN := Lib.hid (HI.out.1.no_h hla hna2.out hrd.out hn)
                subst hn
                clear hla
                go_wp2_with first
                  | (go_at_call 31; with_reducible refine Calls.mono hcut.out ?_; rintro e w2 ⟨⟨p', c', rfl, hr2, hc2, hp2⟩, b2⟩
                     have HB2 := Lib.hid (HW1.out.1.trans (b2.mono HW1.out.1.size))
                     have hcell := heads_cell (hH.out.on HB2.out) (by omega)
                     rw [hs.out] at hcell
                     have H3 := Lib.hid (conv_rd w2 s hsz.out)
                     have HB3 := Lib.hid (HB2.out.trans (H3.out.2.mono HB2.out.size))
                     have h3 := H3.out.1
                     rw [hss.out] at h3
                     replace h3 := Lib.hid h3
                     have HR2 := Lib.hid (And.intro hc2 (And.intro hp2 (rd_back hr2 HW1.out.1)))
                     clear b2 hr2 hc2 hp2)
                  | (go_at_call 32; with_reducible refine Calls.mono (prefix_yesN w.heap.size pp cc A s.size D a (headAt 2) b _ _ _ (HA.out.1.below HB3.out) hb.out HA.out.2.1 HA.out.2.2.1 _ h3.out hsl.out hD.out hpos.out) ?_; rintro e w3 ⟨⟨p4, c4, rfl, hr4⟩, rfl⟩
                     replace hr4 := Lib.hid hr4)
                  | (go_at_call 33; with_reducible refine Calls.mono (pam_sideN hrd.out w.heap.size p4 c4 D hD.out (by have := hDA.out; have := HA.out.2.1; have := hl.out; have := HI.out.2.2.2.2.1; have := hALL.out; omega) _ hr4.out (hR.out.on HB3.out)) ?_; rintro e w5 ⟨rfl, b5⟩
                     have HB5 := Lib.hid (HB3.out.trans (b5.mono HB3.out.size))
                     clear b5)
                rw [Exit.noGoto_ret]
                exact bodyPost_ret (by simp [results, Tryd.results25, go_sem]) rfl ⟨.inr ⟨HN.out, rfl⟩, HB5.out⟩
              · have HN := Lib.hid (HI.out.1.next_h hla hrd.out hn)
                clear hla
                go_wp2_with first
                  | (go_at_call 31; with_reducible refine Calls.mono hcut.out ?_; rintro e w2 ⟨⟨p', c', rfl, hr2, hc2, hp2⟩, b2⟩
                     have HB2 := Lib.hid (HW1.out.1.trans (b2.mono HW1.out.1.size))
                     have hcell := heads_cell (hH.out.on HB2.out) (by omega)
                     rw [hs.out] at hcell
                     have H3 := Lib.hid (conv_rd w2 s hsz.out)
                     have HB3 := Lib.hid (HB2.out.trans (H3.out.2.mono HB2.out.size))
                     have h3 := H3.out.1
                     rw [hss.out] at h3
                     replace h3 := Lib.hid h3
                     have HR2 := Lib.hid (And.intro hc2 (And.intro hp2 (rd_back hr2 HW1.out.1)))
                     clear b2 hr2 hc2 hp2)
                  | (go_at_call 32; with_reducible refine Calls.mono (prefix_yesN w.heap.size pp cc A s.size D a (headAt 2) b _ _ _ (HA.out.1.below HB3.out) hb.out HA.out.2.1 HA.out.2.2.1 _ h3.out hsl.out hD.out hpos.out) ?_; rintro e w3 ⟨⟨p4, c4, rfl, hr4⟩, rfl⟩
                     replace hr4 := Lib.hid hr4)
                  | (go_at_call 33; with_reducible refine Calls.mono (pam_sideN hrd.out w.heap.size p4 c4 D hD.out (by have := hDA.out; have := HA.out.2.1; have := hl.out; have := HI.out.2.2.2.2.1; have := hALL.out; omega) _ hr4.out (hR.out.on HB3.out)) ?_; rintro e w5 ⟨rfl, b5⟩
                     have HB5 := Lib.hid (HB3.out.trans (b5.mono HB3.out.size))
                     clear b5)
                go_roundg (7 - (2 + 1))
                case measure => omega
                case rel => exact ⟨2 + 1, R, x, n, r, p', c', by first | rfl | simp, by first | rfl | simp, by omega, rfl, rfl, rfl, Lib.hid ⟨HN.out, hRl.out, HR2.out.1, HR2.out.2.1, by have := HI.out.2.2.2.2.1; have := hALL.out; omega, HR2.out.2.2, HB5.out⟩⟩
            · have k1i : ((k : Int) == 1) = false := by simpa using (show ¬ (k : Int) = 1 by omega)
              have k2i : ((k : Int) == 2) = false := by simpa using (show ¬ (k : Int) = 2 by omega)
              by_cases hDz : D = 0
              · have HN := Lib.hid (HI.out.1.next k1 k2 hla (List.eq_nil_of_length_eq_zero (by rw [hD.out]; exact hDz)))
                subst hDz
                clear hla k1 k2
                go_wp2_with first
                  | (go_at_call 31; with_reducible refine Calls.mono hcut.out ?_; rintro e w2 ⟨⟨p', c', rfl, hr2, hc2, hp2⟩, b2⟩
                     have HB2 := Lib.hid (HW1.out.1.trans (b2.mono HW1.out.1.size))
                     have hcell := heads_cell (hH.out.on HB2.out) hk
                     rw [hs.out] at hcell
                     have H3 := Lib.hid (conv_rd w2 s hsz.out)
                     have HB3 := Lib.hid (HB2.out.trans (H3.out.2.mono HB2.out.size))
                     have h3 := H3.out.1
                     rw [hss.out] at h3
                     replace h3 := Lib.hid h3
                     have HR2 := Lib.hid (And.intro hc2 (And.intro hp2 (rd_back hr2 HW1.out.1)))
                     clear b2 hr2 hc2 hp2)
                  | (go_at_call 32; with_reducible refine Calls.mono (prefix_yesN w.heap.size pp cc A s.size 0 a (headAt k) b _ _ _ (HA.out.1.below HB3.out) hb.out HA.out.2.1 HA.out.2.2.1 _ h3.out hsl.out hD.out hpos.out) ?_; rintro e w3 ⟨⟨p4, c4, rfl, hr4⟩, rfl⟩
                     replace hr4 := Lib.hid hr4)
                go_roundg (7 - (k + 1))
                case measure => omega
                case rel => exact ⟨k + 1, R, x, y, r, p', c', by first | rfl | simp, by first | rfl | simp, by omega, rfl, rfl, rfl, Lib.hid ⟨HN.out, hRl.out, HR2.out.1, HR2.out.2.1, by have := HI.out.2.2.2.2.1; have := hALL.out; omega, HR2.out.2.2, HB3.out⟩⟩
              · have HN := Lib.hid (HI.out.1.no_more hk k1 k2 hla hna2.out (fun e => hDz (by rw [← hD.out, e]; rfl)))
                have hDi : (0 : Int) < (D : Int) := by omega
                clear hla k1 k2
                go_wp2_with first
                  | (go_at_call 31; with_reducible refine Calls.mono hcut.out ?_; rintro e w2 ⟨⟨p', c', rfl, hr2, hc2, hp2⟩, b2⟩
                     have HB2 := Lib.hid (HW1.out.1.trans (b2.mono HW1.out.1.size))
                     have hcell := heads_cell (hH.out.on HB2.out) hk
                     rw [hs.out] at hcell
                     have H3 := Lib.hid (conv_rd w2 s hsz.out)
                     have HB3 := Lib.hid (HB2.out.trans (H3.out.2.mono HB2.out.size))
                     have h3 := H3.out.1
                     rw [hss.out] at h3
                     replace h3 := Lib.hid h3
                     have HR2 := Lib.hid (And.intro hc2 (And.intro hp2 (rd_back hr2 HW1.out.1)))
                     clear b2 hr2 hc2 hp2)
                  | (go_at_call 32; with_reducible refine Calls.mono (prefix_yesN w.heap.size pp cc A s.size D a (headAt k) b _ _ _ (HA.out.1.below HB3.out) hb.out HA.out.2.1 HA.out.2.2.1 _ h3.out hsl.out hD.out hpos.out) ?_; rintro e w3 ⟨⟨p4, c4, rfl, hr4⟩, rfl⟩
                     replace hr4 := Lib.hid hr4)
                rw [Exit.noGoto_ret]
                exact bodyPost_ret (by simp [results, Tryd.results25, go_sem]) rfl ⟨.inr ⟨HN.out, rfl⟩, HB3.out⟩
        · have HN := Lib.hid (HI.out.1.no_head hk hla HA.out.2.2.2 hpre)
          replace hpre := Lib.hid hpre
          clear hla hR hAL
          go_wp2_with first
            | (go_at_call 31; with_reducible refine Calls.mono hcut.out ?_; rintro e w2 ⟨⟨p', c', rfl, hr2, hc2, hp2⟩, b2⟩
               have HB2 := Lib.hid (HW1.out.1.trans (b2.mono HW1.out.1.size))
               have hcell := heads_cell (hH.out.on HB2.out) hk
               rw [hs.out] at hcell
               have H3 := Lib.hid (conv_rd w2 s hsz.out)
               have HB3 := Lib.hid (HB2.out.trans (H3.out.2.mono HB2.out.size))
               have h3 := H3.out.1
               rw [hss.out] at h3
               replace h3 := Lib.hid h3
               clear b2)
            | (go_at_call 32; with_reducible refine Calls.mono (prefix_noN w.heap.size pp cc A s.size a (headAt k) _ _ _ (HA.out.1.below HB3.out) HA.out.2.1 HA.out.2.2.1 _ h3.out hsl.out hpre.out) ?_; rintro e w3 ⟨⟨v3, rfl⟩, rfl⟩)
          rw [Exit.noGoto_ret]
          exact bodyPost_ret (by simp [results, Tryd.results25, go_sem]) rfl ⟨.inr ⟨HN.out, rfl⟩, HB3.out⟩
    · obtain rfl : k = 7 := by omega
      obtain ⟨h1, h2, h3⟩ := HI.out.1.all
      have HE := Lib.hid (And.intro h1 (And.intro h2 h3))
      clear h1 h2 h3
      go_wp2_with fail
      rw [Exit.noGoto_ret]
      exact bodyPost_ret (by simp [results, Tryd.results25, go_sem]; rfl) rfl ⟨.inl ⟨x, y, l, pp, cc, HE.out.2, HE.out.1, by rw [HI.out.2.1], by rw [HI.out.2.1]; exact HI.out.2.2.1, (HI.out.2.2.2.2.2.1.below HI.out.2.2.2.2.2.2).mono HI.out.2.2.2.2.2.2.size⟩, HI.out.2.2.2.2.2.2⟩
end Go.Proofs.YtchfbpgbojnakaaDoor
/- Rasters: a file is read, the program's own Read. Written by gen/genpbk.py. -/

namespace Go.Proofs.YtchfbpgbojnakaaDoor
open Go.RowKit

theorem split_yes (bs : By) (p : Option Addr) (c : Nat) (hl : bs.length ≤ 140737488355328) (hc : bs.length ≤ c) (hp : p = none → c = 0) {x y : Int} {rest : By} (hs : (1 ≤ x ∧ x ≤ 64) ∧ (1 ≤ y ∧ y ≤ 64)) (hb : bs = headOf x y ++ rest) (w : World) (hq : RdV w w.heap.size p (bcells bs)) (hH : Heads w) (hR : Rng w) :
    Calls Tryd.prog 25 #[.slice p bs.length c] w fun e w' => (∃ p' c', e = .returned (.tuple #[.int .i64 x, .int .i64 y, .slice p' rest.length c', .bool true]) ∧ rest.length ≤ c' ∧ RdV w' w'.heap.size p' (bcells rest)) ∧ Below w.heap.size w w' := by
  refine (pam_split bs p c hl hc hp w hq hH hR).mono ?_
  rintro e w' ⟨⟨x', y', rest', p', c', hs', hb', rfl, h1, h2⟩ | ⟨hn, -⟩, hB⟩
  · obtain ⟨rfl, rfl, rfl⟩ := head_inj (by omega) (by omega) (by omega) (by omega) (hb.symm.trans hb')
    exact ⟨⟨p', c', rfl, h1, h2⟩, hB⟩
  · exact absurd hb (hn x y rest hs)
theorem split_no (bs : By) (p : Option Addr) (c : Nat) (hl : bs.length ≤ 140737488355328) (hc : bs.length ≤ c) (hp : p = none → c = 0) (hn : NoFile bs) (w : World) (hq : RdV w w.heap.size p (bcells bs)) (hH : Heads w) (hR : Rng w) :
    Calls Tryd.prog 25 #[.slice p bs.length c] w fun e w' => e = .returned (.tuple #[.int .i64 0, .int .i64 0, .slice none 0 0, .bool false]) ∧ Below w.heap.size w w' := by
  refine (pam_split bs p c hl hc hp w hq hH hR).mono ?_
  rintro e w' ⟨⟨x', y', rest', p', c', hs', hb', rfl, h1, h2⟩ | ⟨-, rfl⟩, hB⟩
  · exact absurd hb' (hn _ _ _ hs')
  · exact ⟨rfl, hB⟩
/-- one colour more of a row that was made -/
theorem fill_one (cc : Col) (S : List Col) : ∀ (P : List Col) (i : Nat), P.length = i →
    ((((rowCells (P ++ col0 :: S)).set (i * 4) (.int .u8 (cc.r.toNat : Int))).set (i * 4 + 1) (.int .u8 (cc.g.toNat : Int))).set (i * 4 + 2) (.int .u8 (cc.b.toNat : Int))).set (i * 4 + 3) (.int .u8 (cc.a.toNat : Int)) = rowCells (P ++ cc :: S)
  | [], i, h => by
    subst h
    simp [rowCells, colCells]
  | q :: P, i, h => by
    subst h
    have ih := fill_one cc S P P.length rfl
    simp only [List.cons_append, rowCells_cons, List.length_cons]
    have e : (colCells q).length = 4 := rfl
    have hh : ∀ (R : List Value) (k : Nat) (v : Value), (colCells q ++ R).set ((P.length + 1) * 4 + k) v = colCells q ++ R.set (P.length * 4 + k) v := fun R k v => by
      rw [List.set_append_right _ _ (by rw [e]; omega), e, show (P.length + 1) * 4 + k - 4 = P.length * 4 + k by omega]
    have h0 := hh (rowCells (P ++ col0 :: S)) 0 (.int .u8 (cc.r.toNat : Int))
    simp only [Nat.add_zero] at h0
    rw [h0, hh, hh, hh, ih]
/-- so far filled -/
def filled (l : List Col) (n i : Nat) : List Col := l.take i ++ List.replicate (n - i) col0
theorem filled_zero (l : List Col) (n : Nat) : filled l n 0 = List.replicate n col0 := by simp [filled]
theorem filled_all {l : List Col} {n : Nat} (h : l.length = n) : filled l n n = l := by simp [filled, ← h]
theorem filled_len {l : List Col} {n i : Nat} (h : l.length = n) (hi : i ≤ n) : (filled l n i).length = n := by simp [filled]; omega
theorem filled_next {l : List Col} {n i : Nat} (h : l.length = n) (hi : i < n) : rowCells (filled l n (i + 1)) = ((((rowCells (filled l n i)).set (i * 4) (.int .u8 ((l[i]'(by omega)).r.toNat : Int))).set (i * 4 + 1) (.int .u8 ((l[i]'(by omega)).g.toNat : Int))).set (i * 4 + 2) (.int .u8 ((l[i]'(by omega)).b.toNat : Int))).set (i * 4 + 3) (.int .u8 ((l[i]'(by omega)).a.toNat : Int)) := by
  unfold filled
  rw [show n - i = (n - (i + 1)) + 1 by omega, List.replicate_succ, fill_one (l[i]'(by omega)) _ (l.take i) i (by simp; omega), List.take_succ_eq_append_getElem (by omega), List.append_assoc]
  rfl
theorem Arr.four {w : World} {g : Nat} {t : TypeId} {l : List Col} (h : Arr w g t (rowCells l)) {i : Nat} (hi : i < l.length) : (∃ a b c d, w.cell? ⟨g, i * 4, none⟩ = some a ∧ w.cell? ⟨g, i * 4 + 1, none⟩ = some b ∧ w.cell? ⟨g, i * 4 + 2, none⟩ = some c ∧ w.cell? ⟨g, i * 4 + 3, none⟩ = some d) := by
  obtain ⟨h0, h1, h2, h3⟩ := rowCells_get l i hi
  exact ⟨_, _, _, _, h.cell _ h0, h.cell _ h1, h.cell _ h2, h.cell _ h3⟩
theorem Arr.put {w : World} {g : Nat} {t : TypeId} {l : List Col} {n i : Nat} (hl : l.length = n) (hi : i < n) (h : Arr w g t (rowCells (filled l n i))) :
    Arr ((((w.setCell ⟨g, i * 4, none⟩ (.int .u8 ((l[i]'(by omega)).r.toNat : Int))).setCell ⟨g, i * 4 + 1, none⟩ (.int .u8 ((l[i]'(by omega)).g.toNat : Int))).setCell ⟨g, i * 4 + 2, none⟩ (.int .u8 ((l[i]'(by omega)).b.toNat : Int))).setCell ⟨g, i * 4 + 3, none⟩ (.int .u8 ((l[i]'(by omega)).a.toNat : Int))) g t (rowCells (filled l n (i + 1))) := by
  rw [filled_next hl hi]
  exact (((h.set _ _).set _ _).set _ _).set _ _
theorem four_below {w : World} {g j : Nat} (B : Nat) (hB : B ≤ g) (a b c d : Value) : Below B w ((((w.setCell ⟨g, j, none⟩ a).setCell ⟨g, j + 1, none⟩ b).setCell ⟨g, j + 2, none⟩ c).setCell ⟨g, j + 3, none⟩ d) :=
  ((((Below.refl B w).setCell (p := ⟨g, j, none⟩) hB a).setCell (p := ⟨g, j + 1, none⟩) hB b).setCell (p := ⟨g, j + 2, none⟩) hB c).setCell (p := ⟨g, j + 3, none⟩) hB d
theorem Box.four_far {w : World} {g j : Nat} {B : Nat} {t : TypeId} {vs : List Value} (h : Box w B t vs) (hB : B ≠ g) (a b c d : Value) : Box ((((w.setCell ⟨g, j, none⟩ a).setCell ⟨g, j + 1, none⟩ b).setCell ⟨g, j + 2, none⟩ c).setCell ⟨g, j + 3, none⟩ d) B t vs :=
  (((h.far (p := ⟨g, j, none⟩) hB a).far (p := ⟨g, j + 1, none⟩) hB b).far (p := ⟨g, j + 2, none⟩) hB c).far (p := ⟨g, j + 3, none⟩) hB d
theorem Arr.three_far {w : World} {R : Nat} {g : Nat} {t : TypeId} {vs : List Value} (h : Arr w g t vs) (hR : g ≠ R) (a b c : Value) : Arr (((w.setCell ⟨R, 0, none⟩ a).setCell ⟨R, 1, none⟩ b).setCell ⟨R, 2, none⟩ c) g t vs :=
  have k1 : Arr (w.setCell ⟨R, 0, none⟩ a) g t vs := (Below.heap_setCell w ⟨R, 0, none⟩ a g hR).trans h
  have k2 : Arr ((w.setCell ⟨R, 0, none⟩ a).setCell ⟨R, 1, none⟩ b) g t vs := (Below.heap_setCell _ ⟨R, 1, none⟩ b g hR).trans k1
  (Below.heap_setCell _ ⟨R, 2, none⟩ c g hR).trans k2

/-- what is left of a reading's world: the result's box -/
theorem zero_box (w : World) : ∃ W, w.alloc (.cells #[.int .i64 0, .int .i64 0, .slice none 0 0] 24) = W ∧ Box W w.heap.size 24 [.int .i64 0, .int .i64 0, .slice none 0 0] ∧ Below w.heap.size w W ∧ W.heap.size = w.heap.size + 1 :=
  ⟨_, rfl, Box.new w _ [.int .i64 0, .int .i64 0, .slice none 0 0], (Below.refl _ _).alloc (Nat.le_refl _) _, by simp⟩

set_option maxRecDepth 10000 in
set_option maxHeartbeats 3200000 in
theorem pam_ReadNo (bs : By) (p : Option Addr) (c : Nat) (hl : bs.length ≤ 140737488355328) (hc : bs.length ≤ c) (hp : p = none → c = 0) (hn : NoFile bs) (w : World) (hq : RdV w w.heap.size p (bcells bs)) (hH : Heads w) (hR : Rng w) :
    Calls Tryd.prog 9 #[.slice p bs.length c] w fun e w' => e = .returned (.tuple #[rasV ras0 none 0, .int .i64 3]) ∧ Below w.heap.size w w' := by
  obtain ⟨W, hW, hz, hB, hsz⟩ := zero_box w
  have cS := Lib.hid (split_no bs p c hl hc hp hn W (hq.on hB) (hH.on hB) (hR.on hB))
  have HW := Lib.hid hW
  have HZ := Lib.hid (And.intro hz (And.intro hB hsz))
  obtain ⟨L, hL⟩ : ∃ L, bs.length = L := ⟨_, rfl⟩
  rw [hL] at cS ⊢
  unfold rasV ras0
  clear hz hB hW hq hH hR hl hc hp hn hL hsz
  go_enter Tryd.func9, Tryd.ntmps9
  go_wp2_with (rw [HW.out]; go_at_call 25; with_reducible refine Calls.mono cS.out ?_; rintro e w1 ⟨rfl, b1⟩
               have hk := HZ.out.1.below b1 HZ.out.1.lt
               obtain ⟨q0, q1, q2⟩ := Box.three hk
               have f0 := hk.frozen 0
               have f1 := hk.frozen 1
               have f2 := hk.frozen 2)
  obtain ⟨U, hU, ⟨u0, u1, u2⟩, bU, kU⟩ := ras_stored hk (.int .i64 0) (.int .i64 0) (.slice none 0 0)
  rw [hU]
  exact bodyPost_ret (by simp [results, Tryd.results9, go_sem, u0, u1, u2]) rfl ⟨rfl, HZ.out.2.1.trans ((b1.mono (by rw [HZ.out.2.2]; omega)).trans (bU _ (Nat.le_refl _)))⟩
/-- a raster's box, laid behind a call -/
theorem ras_new (w2 : World) (x y : Int) (p : Option Addr) (n : Nat) : ∃ W4, w2.alloc (.cells #[.int .i64 x, .int .i64 y, .slice p n n] 24) = W4 ∧ Box W4 w2.heap.size 24 [.int .i64 x, .int .i64 y, .slice p n n] ∧ Below w2.heap.size w2 W4 ∧ W4.heap.size = w2.heap.size + 1 :=
  ⟨_, rfl, Box.new w2 _ [.int .i64 x, .int .i64 y, .slice p n n], (Below.refl _ _).alloc (Nat.le_refl _) _, by simp⟩

set_option maxRecDepth 10000 in
set_option maxHeartbeats 6400000 in
theorem pam_ReadFew (bs : By) (p : Option Addr) (c : Nat) (hl : bs.length ≤ 140737488355328) (hc : bs.length ≤ c) (hp : p = none → c = 0) {x y : Int} {rest : By} (hs : (1 ≤ x ∧ x ≤ 64) ∧ (1 ≤ y ∧ y ≤ 64)) (hb : bs = headOf x y ++ rest) {n : Nat} (hn : x * y = (n : Int)) (hk : rest.length < 4 * n) (w : World) (hq : RdV w w.heap.size p (bcells bs)) (hH : Heads w) (hR : Rng w) :
    Calls Tryd.prog 9 #[.slice p bs.length c] w fun e w' => e = .returned (.tuple #[rasV ras0 none 0, .int .i64 13]) ∧ Below w.heap.size w w' := by
  have hnp := side_mul hs.1 hs.2
  rw [hn] at hnp
  have hrl : rest.length ≤ 140737488355328 := by
    have := congrArg List.length hb
    rw [List.length_append] at this
    omega
  obtain ⟨W, hW, hz, hB, hsz⟩ := zero_box w
  have cS := Lib.hid (split_yes bs p c hl hc hp hs hb W (hq.on hB) (hH.on hB) (hR.on hB))
  have cB := Lib.hid (fun V => pam_BlankOk x y hs n hn V)
  have HW := Lib.hid hW
  have HZ := Lib.hid (And.intro hz (And.intro hB hsz))
  obtain ⟨L, hL⟩ : ∃ L, bs.length = L := ⟨_, rfl⟩
  obtain ⟨M, hM⟩ : ∃ M, rest.length = M := ⟨_, rfl⟩
  rw [hL, hM] at cS
  rw [hL]
  rw [hM] at hrl hk
  have HMM := Lib.hid hM
  have hw4 : IntKind.i64.wrap (4 * (n : Int)) = ((4 * n : Nat) : Int) := by rw [IntWalk.i64_in _ (by omega)]; omega
  obtain ⟨Q, hQ⟩ : ∃ Q, 4 * n = Q := ⟨_, rfl⟩
  rw [hQ] at hw4 hk
  unfold rasV ras0
  clear hz hB hW hq hH hR hl hc hp hL hM
  have hki : (M : Int) < (Q : Int) := by omega
  go_enter Tryd.func9, Tryd.ntmps9
  go_wp2_with first
    | (rw [HW.out]; go_at_call 25; with_reducible refine Calls.mono cS.out ?_; rintro e w1 ⟨⟨p', c', rfl, hc2, hr2⟩, b1⟩
       have hk1 := Lib.hid (HZ.out.1.below b1 HZ.out.1.lt)
       have hB1 := Lib.hid (HZ.out.2.1.trans (b1.mono (by rw [HZ.out.2.2]; omega)))
       have hs1 := Lib.hid (And.intro b1.size (And.intro hc2 hr2))
       clear b1 hc2 hr2)
    | (go_at_call 19; with_reducible refine Calls.mono (cB.out _) ?_; rintro e w2 ⟨⟨rfl, ha⟩, b2⟩
       have hk2 := Lib.hid (hk1.out.below b2 (by have := hs1.out.1; have := HZ.out.2.2; omega))
       have hB2 := Lib.hid (hB1.out.trans (b2.mono hB1.out.size))
       replace ha := Lib.hid (And.intro ha (And.intro b2.size (hs1.out.2.2.on b2)))
       clear b2
       obtain ⟨W4, hW4, k4, b4, s4⟩ := ras_new w2 x y (some ⟨w1.heap.size + 1, 0, none⟩) n
       obtain ⟨z0, z1, z2⟩ := Box.three k4
       have hk4 := hk2.out.below b4 (by have := ha.out.2.1; have := hs1.out.1; have := HZ.out.2.2; omega)
       obtain ⟨q0, q1, q2⟩ := Box.three hk4
       have f0 := hk4.frozen 0
       have f1 := hk4.frozen 1
       have f2 := hk4.frozen 2
       have H4 := Lib.hid (And.intro k4 (And.intro b4 (And.intro s4 hk4)))
       clear k4 b4 s4 hk4)
  obtain ⟨U, hU, ⟨u0, u1, u2⟩, bU, kU⟩ := ras_stored H4.out.2.2.2 (.int .i64 0) (.int .i64 0) (.slice none 0 0)
  rw [hU]
  exact bodyPost_ret (by simp [results, Tryd.results9, go_sem, u0, u1, u2]) rfl ⟨rfl, hB2.out.trans ((H4.out.2.1.mono hB2.out.size).trans (bU _ (Nat.le_refl _)))⟩

set_option maxRecDepth 10000 in
set_option maxHeartbeats 6400000 in
theorem pam_ReadMany (bs : By) (p : Option Addr) (c : Nat) (hl : bs.length ≤ 140737488355328) (hc : bs.length ≤ c) (hp : p = none → c = 0) {x y : Int} {rest : By} (hs : (1 ≤ x ∧ x ≤ 64) ∧ (1 ≤ y ∧ y ≤ 64)) (hb : bs = headOf x y ++ rest) {n : Nat} (hn : x * y = (n : Int)) (hk : 4 * n < rest.length) (w : World) (hq : RdV w w.heap.size p (bcells bs)) (hH : Heads w) (hR : Rng w) :
    Calls Tryd.prog 9 #[.slice p bs.length c] w fun e w' => e = .returned (.tuple #[rasV ras0 none 0, .int .i64 14]) ∧ Below w.heap.size w w' := by
  have hnp := side_mul hs.1 hs.2
  rw [hn] at hnp
  have hrl : rest.length ≤ 140737488355328 := by
    have := congrArg List.length hb
    rw [List.length_append] at this
    omega
  obtain ⟨W, hW, hz, hB, hsz⟩ := zero_box w
  have cS := Lib.hid (split_yes bs p c hl hc hp hs hb W (hq.on hB) (hH.on hB) (hR.on hB))
  have cB := Lib.hid (fun V => pam_BlankOk x y hs n hn V)
  have HW := Lib.hid hW
  have HZ := Lib.hid (And.intro hz (And.intro hB hsz))
  obtain ⟨L, hL⟩ : ∃ L, bs.length = L := ⟨_, rfl⟩
  obtain ⟨M, hM⟩ : ∃ M, rest.length = M := ⟨_, rfl⟩
  rw [hL, hM] at cS
  rw [hL]
  rw [hM] at hrl hk
  have HMM := Lib.hid hM
  have hw4 : IntKind.i64.wrap (4 * (n : Int)) = ((4 * n : Nat) : Int) := by rw [IntWalk.i64_in _ (by omega)]; omega
  obtain ⟨Q, hQ⟩ : ∃ Q, 4 * n = Q := ⟨_, rfl⟩
  rw [hQ] at hw4 hk
  unfold rasV ras0
  clear hz hB hW hq hH hR hl hc hp hL hM
  have hki : ¬ (M : Int) < (Q : Int) := by omega
  have hkj : (Q : Int) < (M : Int) := by omega
  go_enter Tryd.func9, Tryd.ntmps9
  go_wp2_with first
    | (rw [HW.out]; go_at_call 25; with_reducible refine Calls.mono cS.out ?_; rintro e w1 ⟨⟨p', c', rfl, hc2, hr2⟩, b1⟩
       have hk1 := Lib.hid (HZ.out.1.below b1 HZ.out.1.lt)
       have hB1 := Lib.hid (HZ.out.2.1.trans (b1.mono (by rw [HZ.out.2.2]; omega)))
       have hs1 := Lib.hid (And.intro b1.size (And.intro hc2 hr2))
       clear b1 hc2 hr2)
    | (go_at_call 19; with_reducible refine Calls.mono (cB.out _) ?_; rintro e w2 ⟨⟨rfl, ha⟩, b2⟩
       have hk2 := Lib.hid (hk1.out.below b2 (by have := hs1.out.1; have := HZ.out.2.2; omega))
       have hB2 := Lib.hid (hB1.out.trans (b2.mono hB1.out.size))
       replace ha := Lib.hid (And.intro ha (And.intro b2.size (hs1.out.2.2.on b2)))
       clear b2
       obtain ⟨W4, hW4, k4, b4, s4⟩ := ras_new w2 x y (some ⟨w1.heap.size + 1, 0, none⟩) n
       obtain ⟨z0, z1, z2⟩ := Box.three k4
       have hk4 := hk2.out.below b4 (by have := ha.out.2.1; have := hs1.out.1; have := HZ.out.2.2; omega)
       obtain ⟨q0, q1, q2⟩ := Box.three hk4
       have f0 := hk4.frozen 0
       have f1 := hk4.frozen 1
       have f2 := hk4.frozen 2
       have H4 := Lib.hid (And.intro k4 (And.intro b4 (And.intro s4 hk4)))
       clear k4 b4 s4 hk4)
  obtain ⟨U, hU, ⟨u0, u1, u2⟩, bU, kU⟩ := ras_stored H4.out.2.2.2 (.int .i64 0) (.int .i64 0) (.slice none 0 0)
  rw [hU]
  exact bodyPost_ret (by simp [results, Tryd.results9, go_sem, u0, u1, u2]) rfl ⟨rfl, hB2.out.trans ((H4.out.2.1.mono hB2.out.size).trans (bU _ (Nat.le_refl _)))⟩
end Go.Proofs.YtchfbpgbojnakaaDoor
/- Rasters: a whole file is read, the program's own Read. Written by gen/genpbk2.py. -/

namespace Go.Proofs.YtchfbpgbojnakaaDoor
open Go.RowKit

theorem body_cells {w : World} {B g o : Nat} {l : List Col} (h : RdV w B (some ⟨g, o, none⟩) (bcells (bodyOf l))) {i : Nat} (hi : i < l.length) :
    w.cell? ⟨g, o + 4 * i, none⟩ = some (.int .u8 (l[i].r.toNat : Int)) ∧ w.cell? ⟨g, o + 4 * i + 1, none⟩ = some (.int .u8 (l[i].g.toNat : Int)) ∧ w.cell? ⟨g, o + 4 * i + 2, none⟩ = some (.int .u8 (l[i].b.toNat : Int)) ∧ w.cell? ⟨g, o + 4 * i + 3, none⟩ = some (.int .u8 (l[i].a.toNat : Int)) := by
  obtain ⟨h0, h1, h2, h3⟩ := bodyOf_cell l i hi
  have get : ∀ j u, (bodyOf l)[j]? = some u → w.cell? ⟨g, o + j, none⟩ = some (.int .u8 (u.toNat : Int)) := fun j u hu => by
    obtain ⟨hj, he⟩ := List.getElem?_eq_some_iff.1 hu
    obtain ⟨b, o', e, -, hc⟩ := h.byte hj
    cases e
    rw [hc, he]
  exact ⟨get _ _ h0, by rw [Nat.add_assoc]; exact get _ _ h1, by rw [Nat.add_assoc]; exact get _ _ h2, by rw [Nat.add_assoc]; exact get _ _ h3⟩

set_option maxRecDepth 10000 in
set_option maxHeartbeats 12800000 in
theorem pam_ReadAll (bs : By) (p : Option Addr) (c : Nat) (hl : bs.length ≤ 140737488355328) (hc : bs.length ≤ c) (hp : p = none → c = 0) {x y : Int} {l : List Col} (hs : (1 ≤ x ∧ x ≤ 64) ∧ (1 ≤ y ∧ y ≤ 64)) (hb : bs = headOf x y ++ bodyOf l) {n : Nat} (hn : x * y = (n : Int)) (hln : l.length = n) (w : World) (hq : RdV w w.heap.size p (bcells bs)) (hH : Heads w) (hR : Rng w) :
    Calls Tryd.prog 9 #[.slice p bs.length c] w fun e w' => (∃ p c, e = .returned (.tuple #[rasV ⟨x, y, l⟩ p c, .int .i64 0]) ∧ RdV w' w'.heap.size p (rowCells l)) ∧ Below w.heap.size w w' := by
  have hnp := side_mul hs.1 hs.2
  rw [hn] at hnp
  obtain ⟨W, hW, hz, hB, hsz⟩ := zero_box w
  have cS := Lib.hid (split_yes bs p c hl hc hp hs hb W (hq.on hB) (hH.on hB) (hR.on hB))
  have cB := Lib.hid (fun V => pam_BlankOk x y hs n hn V)
  have HW := Lib.hid hW
  have HZ := Lib.hid (And.intro hz (And.intro hB hsz))
  obtain ⟨L, hL⟩ : ∃ L, bs.length = L := ⟨_, rfl⟩
  obtain ⟨M, hM⟩ : ∃ M, (bodyOf l).length = M := ⟨_, rfl⟩
  rw [hL, hM] at cS
  rw [hL]
  have hM4 : 4 * n = M := by rw [← hM, bodyOf_length, hln]
  have hw4 : IntKind.i64.wrap (4 * (n : Int)) = (M : Int) := by rw [IntWalk.i64_in _ (by omega)]; omega
  have hki : ¬ (M : Int) < (M : Int) := by omega
  have HM := Lib.hid (And.intro hM (And.intro hM4 hln))
  unfold rasV
  clear hz hB hW hq hH hR hl hc hp hL hM hM4 hb hs hn hsz
  go_enter Tryd.func9, Tryd.ntmps9
  go_wp2_with first
    | (rw [HW.out]; go_at_call 25; with_reducible refine Calls.mono cS.out ?_; rintro e w1 ⟨⟨p', c', rfl, hc2, hr2⟩, b1⟩
       have hk1 := Lib.hid (HZ.out.1.below b1 HZ.out.1.lt)
       have hB1 := Lib.hid (HZ.out.2.1.trans (b1.mono (by rw [HZ.out.2.2]; omega)))
       have hs1 := Lib.hid (And.intro b1.size (And.intro hc2 hr2))
       clear b1 hc2 hr2)
    | (go_at_call 19; with_reducible refine Calls.mono (cB.out _) ?_; rintro e w2 ⟨⟨rfl, ha⟩, b2⟩
       have hk2 := Lib.hid (hk1.out.below b2 (by have := hs1.out.1; have := HZ.out.2.2; omega))
       have hB2 := Lib.hid (hB1.out.trans (b2.mono hB1.out.size))
       replace ha := Lib.hid (And.intro ha (And.intro b2.size (And.intro (hs1.out.2.2.below b2) b2)))
       clear b2
       obtain ⟨W4, hW4, k4, b4, s4⟩ := ras_new w2 x y (some ⟨w1.heap.size + 1, 0, none⟩) n
       obtain ⟨z0, z1, z2⟩ := Box.three k4
       have hk4 := hk2.out.below b4 (by have := ha.out.2.1; have := hs1.out.1; have := HZ.out.2.2; omega)
       have H4 := Lib.hid (And.intro k4 (And.intro b4 (And.intro s4 hk4)))
       clear k4 b4 s4 hk4)
  obtain ⟨g, hg⟩ : ∃ g, w1.heap.size + 1 = g := ⟨_, rfl⟩
  obtain ⟨B, hB⟩ : ∃ B, w2.heap.size = B := ⟨_, rfl⟩
  obtain ⟨R0, hR0⟩ : ∃ R0, w.heap.size = R0 := ⟨_, rfl⟩
  have hgB : g < B := by have := ha.out.1.lt; omega
  have hRg : R0 < g := by have := hs1.out.1; have := HZ.out.2.2; omega
  have HS := Lib.hid (show Arr W4 g 41 (rowCells (filled l n 0)) ∧ Box W4 B 24 [.int .i64 x, .int .i64 y, .slice (some ⟨g, 0, none⟩) n n] ∧ Below w1.heap.size w1 W4 from by
    rw [filled_zero, ← hg, ← hB]
    exact ⟨ha.out.1.asArr.below H4.out.2.1 ha.out.1.lt, H4.out.1, ha.out.2.2.2.trans (H4.out.2.1.mono ha.out.2.1)⟩)
  have HRR := Lib.hid (show RdV w1 w1.heap.size p' (bcells (bodyOf l)) from hs1.out.2.2)
  have hc3 := hs1.out.2.1
  have hM4 := HM.out.2.1
  rw [hg, hB, hR0]
  clear z0 z1 z2 hW4 cS cB
  go_loopg [10, 11, 44] n (fun gh _ _ it wr => ∃ i : Nat, it = .int .i64 (i : Int) ∧ gh + i = n ∧ Hid (Arr wr g 41 (rowCells (filled l n i)) ∧ Box wr B 24 [.int .i64 x, .int .i64 y, .slice (some ⟨g, 0, none⟩) n n] ∧ Below w1.heap.size w1 wr))
  case atStart => exact ⟨0, rfl, by omega, HS⟩
  case round =>
    obtain ⟨i, rfl, hgi, HI⟩ := hrel
    obtain ⟨z0, z1, z2⟩ := Box.three HI.out.2.1
    by_cases hlt : i < n
    · have hil : (i : Int) < (n : Int) := by omega
      have hi0 : (0 : Int) ≤ (i : Int) := by omega
      have hlen := filled_len HM.out.2.2 (show i ≤ n by omega)
      obtain ⟨a0, a1, a2, a3, e0, e1, e2, e3⟩ := HI.out.1.four (i := i) (by rw [hlen]; exact hlt)
      have f0 := HI.out.1.frozen (i * 4)
      have f1 := HI.out.1.frozen (i * 4 + 1)
      have f2 := HI.out.1.frozen (i * 4 + 2)
      have f3 := HI.out.1.frozen (i * 4 + 3)
      obtain ⟨g', o, rfl, hgl, -⟩ := HRR.out (by rw [bcells_length, HM.out.1]; omega)
      obtain ⟨r0, r1, r2, r3⟩ := body_cells (HRR.out.below HI.out.2.2) (i := i) (by rw [HM.out.2.2]; exact hlt)
      have HP := Lib.hid (fun (V : World) (h : Arr V g 41 (rowCells (filled l n i))) => Arr.put HM.out.2.2 hlt h)
      generalize l[i]'(by rw [HM.out.2.2]; exact hlt) = cc at r0 r1 r2 r3 HP
      have v0 : IntKind.i64.wrap (4 * (i : Int)) = 4 * (i : Int) := IntWalk.i64_in _ (by omega)
      have t0 : (4 * (i : Int)).toNat = 4 * i := by omega
      have ta : (0 : Int) ≤ 4 * (i : Int) ∧ 4 * (i : Int) ≤ (M : Int) := by omega
      have tn : 4 * i ≤ M := by omega
      have tc : ¬ c' = 4 * i := by omega
      obtain ⟨D, hD⟩ : ∃ D, M - 4 * i = D := ⟨_, rfl⟩
      have b0 : (0 : Int) < (D : Int) := by omega
      have b1 : (1 : Int) < (D : Int) := by omega
      have b2 : (2 : Int) < (D : Int) := by omega
      have b3 : (3 : Int) < (D : Int) := by omega
      have d0 : 0 < D := by omega
      have d1 : 1 < D := by omega
      have d2 : 2 < D := by omega
      have d3 : 3 < D := by omega
      clear hlen
      go_wp2_with fail
      go_still_tail 17, (by kernel_rfl)
      change wpList _ _ _ _ _ wr.drew
      clear r0 r1 r2 r3 b0 b1 b2 b3 d0 d1 d2 d3 z0 z1 z2 ta t0 tn tc v0
      replace e0 : wr.drew.cell? ⟨g, i * 4, none⟩ = some a0 := e0
      replace e1 : wr.drew.cell? ⟨g, i * 4 + 1, none⟩ = some a1 := e1
      replace e2 : wr.drew.cell? ⟨g, i * 4 + 2, none⟩ = some a2 := e2
      replace e3 : wr.drew.cell? ⟨g, i * 4 + 3, none⟩ = some a3 := e3
      replace f0 : wr.drew.frozen? ⟨g, i * 4, none⟩ = false := f0
      replace f1 : wr.drew.frozen? ⟨g, i * 4 + 1, none⟩ = false := f1
      replace f2 : wr.drew.frozen? ⟨g, i * 4 + 2, none⟩ = false := f2
      replace f3 : wr.drew.frozen? ⟨g, i * 4 + 3, none⟩ = false := f3
      have HJ := Lib.hid (show Arr wr.drew g 41 (rowCells (filled l n i)) ∧ Box wr.drew B 24 [.int .i64 x, .int .i64 y, .slice (some ⟨g, 0, none⟩) n n] ∧ Below w1.heap.size w1 wr.drew from ⟨HI.out.1, HI.out.2.1, below_drewN HI.out.2.2 1⟩)
      clear HI
      generalize wr.drew = w5 at e0 e1 e2 e3 f0 f1 f2 f3 HJ ⊢
      go_wp2_with fail
      go_roundg (n - (i + 1))
      case measure => omega
      case rel => exact ⟨i + 1, by simp, by omega, Lib.hid ⟨HP.out w5 HJ.out.1, HJ.out.2.1.four_far (by omega) _ _ _ _, HJ.out.2.2.trans (four_below _ (by omega) _ _ _ _)⟩⟩
    · obtain rfl : i = n := by omega
      have hfull := HI.out.1
      rw [filled_all HM.out.2.2] at hfull
      have hk5 := hk1.out.below HI.out.2.2 (by have := hs1.out.1; have := HZ.out.2.2; omega)
      rw [hR0] at hk5
      obtain ⟨q0, q1, q2⟩ := Box.three hk5
      have f0 := hk5.frozen 0
      have f1 := hk5.frozen 1
      have f2 := hk5.frozen 2
      have HF := Lib.hid (And.intro hfull hk5)
      clear hfull hk5
      go_wp2_with fail
      obtain ⟨U, hU, ⟨u0, u1, u2⟩, bU, kU⟩ := ras_stored HF.out.2 (.int .i64 x) (.int .i64 y) (.slice (some ⟨g, 0, none⟩) i i)
      have ha5 := HF.out.1.three_far (R := R0) (by omega) (.int .i64 x) (.int .i64 y) (.slice (some ⟨g, 0, none⟩) i i)
      rw [hU] at ha5 ⊢
      refine bodyPost_ret (by simp [results, Tryd.results9, go_sem, u0, u1, u2]; rfl) rfl ⟨⟨some ⟨g, 0, none⟩, i, ?_, ha5.rd⟩, ?_⟩
      · rw [hln]
      · exact hB1.out.trans ((HI.out.2.2.mono hB1.out.size).trans (bU _ (by omega)))
theorem pam_Read (bs : By) (p : Option Addr) (c : Nat) (hl : bs.length ≤ 140737488355328) (hc : bs.length ≤ c) (hp : p = none → c = 0) (w : World) (hq : RdV w w.heap.size p (bcells bs)) (hH : Heads w) (hR : Rng w) :
    Calls Tryd.prog 9 #[.slice p bs.length c] w fun e w' => (∃ p c r k, e = .returned (.tuple #[rasV r p c, .int .i64 ((k : Nat) : Int)]) ∧ IsFile bs r k ∧ RdV w' w'.heap.size p (rowCells r.pix)) ∧ Below w.heap.size w w' := by
  by_cases h : ∃ x y rest, ((1 ≤ x ∧ x ≤ 64) ∧ (1 ≤ y ∧ y ≤ 64)) ∧ bs = headOf x y ++ rest
  · obtain ⟨x, y, rest, hs, hb⟩ := h
    have hp2 := side_mul hs.1 hs.2
    obtain ⟨n, hn⟩ : ∃ n : Nat, x * y = n := ⟨(x * y).toNat, by omega⟩
    by_cases h1 : rest.length < 4 * n
    · refine (pam_ReadFew bs p c hl hc hp hs hb hn h1 w hq hH hR).mono ?_
      rintro e w' ⟨rfl, hB⟩
      exact ⟨⟨none, 0, ras0, 13, rfl, .inl ⟨x, y, rest, hs, hb, .inl ⟨by rw [hn]; omega, rfl, rfl⟩⟩, RdV.nil _ _ _⟩, hB⟩
    · by_cases h2 : 4 * n < rest.length
      · refine (pam_ReadMany bs p c hl hc hp hs hb hn h2 w hq hH hR).mono ?_
        rintro e w' ⟨rfl, hB⟩
        exact ⟨⟨none, 0, ras0, 14, rfl, .inl ⟨x, y, rest, hs, hb, .inr (.inl ⟨by rw [hn]; omega, rfl, rfl⟩)⟩, RdV.nil _ _ _⟩, hB⟩
      · obtain ⟨l, l1, rfl⟩ := bodyOf_of n rest (by omega)
        refine (pam_ReadAll bs p c hl hc hp hs hb hn l1 w hq hH hR).mono ?_
        rintro e w' ⟨⟨p', c', rfl, hr⟩, hB⟩
        exact ⟨⟨p', c', ⟨x, y, l⟩, 0, rfl, .inl ⟨x, y, bodyOf l, hs, hb, .inr (.inr ⟨l, rfl, by rw [hn, l1], rfl, rfl⟩)⟩, hr⟩, hB⟩
  · refine (pam_ReadNo bs p c hl hc hp (fun x y rest hs hb => h ⟨x, y, rest, hs, hb⟩) w hq hH hR).mono ?_
    rintro e w' ⟨rfl, hB⟩
    exact ⟨⟨none, 0, ras0, 3, rfl, .inr ⟨fun x y rest hs hb => h ⟨x, y, rest, hs, hb⟩, rfl, rfl⟩, RdV.nil _ _ _⟩, hB⟩
end Go.Proofs.YtchfbpgbojnakaaDoor
