/- Rows of numbers' texts, there and back: the program's own. -/
import Derived.Test.YtkeglcfndjpblaaDoorZFhX
import Derived.Test.YtkeglcfndjpblaaDoorZFhY
import Derived.Test.YtkeglcfndjpblaaDoorZFgZ
namespace Go.Proofs.YtkeglcfndjpblaaDoor
open Go.RowKit Num

theorem info_strF : (Tryd.prog.info? 9).map (fun i => (i.zero, i.size, i.bytes)) = some (some (.string ⟨#[]⟩), 1, 16) := by kernel_rfl
theorem icells_snoc (l : List Int) (n : Int) : icells (l ++ [n]) = icells l ++ [.int .i64 n] := by simp [icells]
theorem scells_snocF (l : List By) (b : By) : scells (l ++ [b]) = scells l ++ [.string (str b)] := by simp [scells]

set_option maxRecDepth 10000 in
set_option maxHeartbeats 3200000 in
theorem fig_Nums (A : Option Addr) (c : Nat) (l : List By) (lo hi : Int) (hlo : -9223372036854775808 ≤ lo) (hhi : hi ≤ 9223372036854775807) (w : World) (hr : RdV w w.heap.size A (scells l)) (hm : l.length ≤ 8796093022208) (hs : ∀ s ∈ l, s.length ≤ 281474976710656) (hR : Rng w) :
    Calls Tryd.prog 11 #[.slice A l.length c, .int .i64 lo, .int .i64 hi] w fun e w' => (∃ (p : Option Addr) (cap : Nat) (ns : List Int) (i k : Nat), e = .returned (.tuple #[.slice p ns.length cap, .int .i64 (i : Int), .int .i64 (k : Int)]) ∧ IsReads l lo hi ns i k ∧ RdV w' w'.heap.size p (icells ns)) ∧ Below w.heap.size w w' := by
  have hmk := fun u => run_make_one (P := Tryd.prog) 32 3 (.int .i64 0) 8 rfl Tryd.underlying32 info_num l.length (by omega) (by omega) u
  have hArr := Lib.hid (Arr.new w 3 (List.replicate l.length (.int .i64 0)))
  have hBel := Lib.hid ((Below.refl w.heap.size w).alloc (Nat.le_refl _) (.cells (List.replicate l.length (.int .i64 0)).toArray 3))
  have HR := Lib.hid hr
  have HS := Lib.hid hs
  have HG := Lib.hid hR
  clear hr hs hR
  have C1 := Lib.hid (fun (V : World) (t : ByteArray) (h : t.size ≤ 281474976710656) (hV : Rng V) => fig_Read t h lo hi hlo hhi V hV)
  go_enter Tryd.func11, Tryd.ntmps11
  go_wp2_with fail
  go_loopg [10, 11, 12, 13, 19] l.length (fun gh _ _ _ _ it wr => ∃ (i : Nat) (ns : List Int), it = .int .i64 (i : Int) ∧ gh + i = l.length ∧ ns.length = i ∧ Arr wr w.heap.size 3 (fills (icells ns) (.int .i64 0) l.length) ∧ (∀ j (h1 : j < l.length) (h2 : j < ns.length), IsRead l[j] lo hi ns[j] 0) ∧ Below w.heap.size w wr)
  case atStart => exact ⟨0, [], rfl, by omega, rfl, by simpa [icells, fills] using hArr.out, fun j h1 h2 => absurd h2 (by simp), hBel.out⟩
  case round =>
    obtain ⟨i, ns, rfl, hg, hn, hown, hall, hB⟩ := hrel
    have HA := Lib.hid hall
    have HB := Lib.hid hB
    have HN := Lib.hid hn
    have HO := Lib.hid hown
    by_cases hlt : i < l.length
    · obtain ⟨g, o, rfl, hgb, hcell⟩ := (HR.out.below hB).word hlt
      have hsz : (str l[i]).size ≤ 281474976710656 := by
        have := HS.out l[i] (List.getElem_mem hlt)
        rw [← str_len, str_back]; exact this
      have c1 := C1.out wr (str l[i]) hsz (HG.out.on hB)
      rw [str_back] at c1
      obtain ⟨x, hx⟩ : ∃ x, l[i] = x := ⟨_, rfl⟩
      rw [hx] at c1 hcell
      have HX := Lib.hid hx
      clear hall hB hn hown hsz hx C1
      have CR := Lib.hid c1
      clear c1
      go_upto_region 6 with (go_at_call 6; with_reducible refine Calls.mono CR.out ?_; rintro e w1 ⟨⟨n, k, rfl, hrd⟩, b1⟩; replace hrd := Lib.hid hrd)
      by_cases hk : k = 0
      · subst hk
        have ho1 := Lib.hid (HO.out.below b1 HO.out.lt)
        have hb1 := Lib.hid (HB.out.trans (b1.mono HB.out.size))
        have hnx := Lib.hid (reads_step HN.out HA.out hlt (n := n) (by rw [HX.out]; exact hrd.out))
        have hil : (icells ns).length = i := by rw [icells_length, HN.out]
        have hc0 := ho1.out.cell i (v := .int .i64 0) (by
          have := fills_at (vs := icells ns) (z := .int .i64 0) (n := l.length) (by rw [hil]; exact hlt)
          rwa [hil] at this)
        have hf := ho1.out.frozen i
        have hst := Lib.hid (show Arr (w1.setCell ⟨w.heap.size, i, none⟩ (.int .i64 n)) w.heap.size 3 (fills (icells (ns ++ [n])) (.int .i64 0) l.length) by
          have h1 := ho1.out.set i (.int .i64 n)
          have h2 := fills_set (vs := icells ns) (z := .int .i64 0) (v := .int .i64 n) (n := l.length) (by rw [hil]; exact hlt)
          rw [hil] at h2
          rw [h2, ← icells_snoc] at h1
          exact h1)
        have hBs := Lib.hid (hb1.out.setCell (p := ⟨w.heap.size, i, none⟩) (Nat.le_refl _) (.int .i64 n))
        clear hrd b1 CR hcell hil
        go_wp2_with fail
        go_roundg (l.length - (i + 1))
        case measure => omega
        case rel => exact ⟨i + 1, ns ++ [n], by simp, by omega, by simp [HN.out], hst.out, hnx.out, hBs.out⟩
      · have HF := Lib.hid (hrd.out.fail hk)
        have hk' : ¬ (k : Int) = 0 := by omega
        go_wp2_with fail
        go_ret3
        refine ⟨⟨none, 0, [], i, k, rfl, .inr ⟨hk, rfl, ⟨hlt, ?_⟩, fun j hj h => ⟨_, HA.out j h (by rw [HN.out]; exact hj)⟩⟩, RdV.nil _ _ _⟩, HB.out.trans (b1.mono HB.out.size)⟩
        have := hrd.out
        rw [HF.out] at this
        rw [HX.out]; exact this
    · obtain rfl : i = l.length := by omega
      have HE := Lib.hid (show IsReads l lo hi ns 0 0 from .inl ⟨rfl, rfl, hn, hall⟩)
      have hrd : RdV wr wr.heap.size (some ⟨w.heap.size, 0, none⟩) (icells ns) := by
        have := hown.rd
        rwa [fills_all (by rw [icells_length, hn])] at this
      have HQ := Lib.hid (And.intro hrd hB)
      clear hall hB hown hrd
      go_wp2_with fail
      go_ret3
      exact ⟨⟨some ⟨w.heap.size, 0, none⟩, l.length, ns, 0, 0, by rw [HN.out]; rfl, HE.out, HQ.out.1⟩, HQ.out.2⟩

set_option maxRecDepth 10000 in
set_option maxHeartbeats 3200000 in
theorem fig_Words (A : Option Addr) (c : Nat) (l : List Int) (hl : ∀ n ∈ l, -9223372036854775808 ≤ n ∧ n ≤ 9223372036854775807) (w : World) (hr : RdV w w.heap.size A (icells l)) (hm : l.length ≤ 17592186044416) (hT : Tab w) :
    Calls Tryd.prog 13 #[.slice A l.length c] w fun e w' => (∃ (p : Option Addr) (cap : Nat), e = .returned (.slice p l.length cap) ∧ RdV w' w'.heap.size p (scells (l.map wtext))) ∧ Below w.heap.size w w' := by
  have hmk := fun u => run_make_one (P := Tryd.prog) 31 9 (.string ⟨#[]⟩) 16 rfl Tryd.underlying31 info_strF l.length (by omega) (by omega) u
  have hArr := Lib.hid (Arr.new w 9 (List.replicate l.length (.string ⟨#[]⟩)))
  have hBel := Lib.hid ((Below.refl w.heap.size w).alloc (Nat.le_refl _) (.cells (List.replicate l.length (.string ⟨#[]⟩)).toArray 9))
  have HR := Lib.hid hr
  have HL := Lib.hid hl
  have HT := Lib.hid hT
  clear hr hl hT
  go_enter Tryd.func13, Tryd.ntmps13
  go_wp2_with fail
  go_loopg [4, 5, 11] l.length (fun gh _ _ it wr => ∃ (i : Nat), it = .int .i64 (i : Int) ∧ gh + i = l.length ∧ Arr wr w.heap.size 9 (fills (scells ((l.take i).map wtext)) (.string ⟨#[]⟩) l.length) ∧ Below w.heap.size w wr)
  case atStart => exact ⟨0, rfl, by omega, by simpa [scells, fills] using hArr.out, hBel.out⟩
  case round =>
    obtain ⟨i, rfl, hg, hown, hB⟩ := hrel
    have HB := Lib.hid hB
    have HO := Lib.hid hown
    by_cases hlt : i < l.length
    · obtain ⟨g, o, rfl, hgb, hcell⟩ := (HR.out.below hB).num hlt
      have hb := HL.out l[i] (List.getElem_mem hlt)
      have htk : l.take (i + 1) = l.take i ++ [l[i]] := List.take_succ_eq_append_getElem hlt
      obtain ⟨x, hx⟩ : ∃ x, l[i] = x := ⟨_, rfl⟩
      rw [hx] at hcell hb htk
      have HK := Lib.hid htk
      have CR := Lib.hid (fig_Num x hb.1 hb.2 wr (HT.out.on hB))
      clear hB hown hx htk
      have hil : (scells ((l.take i).map wtext)).length = i := by rw [scells_length, List.length_map, List.length_take]; omega
      have HC0 := Lib.hid (show (fills (scells ((l.take i).map wtext)) (.string ⟨#[]⟩) l.length)[i]? = some (.string ⟨#[]⟩) by
        have := fills_at (vs := scells ((l.take i).map wtext)) (z := .string ⟨#[]⟩) (n := l.length) (by rw [hil]; exact hlt)
        rwa [hil] at this)
      have HST := Lib.hid (show (fills (scells ((l.take i).map wtext)) (.string ⟨#[]⟩) l.length).set i (.string ⟨(wtext x).toArray⟩) = fills (scells ((l.take (i + 1)).map wtext)) (.string ⟨#[]⟩) l.length by
        have h2 := fills_set (vs := scells ((l.take i).map wtext)) (z := .string ⟨#[]⟩) (v := .string ⟨(wtext x).toArray⟩) (n := l.length) (by rw [hil]; exact hlt)
        rw [hil] at h2
        rw [h2, HK.out, List.map_append, List.map_cons, List.map_nil, scells_snocF]
        rfl)
      clear hil
      obtain ⟨t, ht⟩ : ∃ t : ByteArray, ⟨(wtext x).toArray⟩ = t := ⟨_, rfl⟩
      rw [ht] at CR HST
      go_wp2_with (go_at_call 8; with_reducible refine Calls.mono CR.out ?_; rintro e w1 ⟨rfl, b1⟩
                   have ho1 := Lib.hid (HO.out.below b1 HO.out.lt)
                   have hc0 := ho1.out.cell i HC0.out
                   have hf := ho1.out.frozen i)
      have hst := ho1.out.set i (.string t)
      rw [HST.out] at hst
      have hBs := (HB.out.trans (b1.mono HB.out.size)).setCell (p := ⟨w.heap.size, i, none⟩) (Nat.le_refl _) (.string t)
      go_roundg (l.length - (i + 1))
      case measure => omega
      case rel => exact ⟨i + 1, by simp, by omega, hst, hBs⟩
    · obtain rfl : i = l.length := by omega
      have hrd : RdV wr wr.heap.size (some ⟨w.heap.size, 0, none⟩) (scells (l.map wtext)) := by
        have := hown.rd
        rw [List.take_length] at this
        rwa [fills_all (by rw [scells_length, List.length_map])] at this
      have HQ := Lib.hid (And.intro hrd hB)
      clear hB hown hrd
      go_wp2_with fail
      go_ret
      exact ⟨⟨some ⟨w.heap.size, 0, none⟩, l.length, rfl, HQ.out.1⟩, HQ.out.2⟩
end Go.Proofs.YtkeglcfndjpblaaDoor
/- The seventh layer's law: a number is read, and bytes are told. -/

namespace Go.Proofs.YtkeglcfndjpblaaDoor
open Go.RowKit Num

theorem read_min12 : IsRead [45, 49, 50] (-20) 20 (-12) 0 := by
  refine .inr (.inr ⟨(isSig_minus (by decide) rfl).2 ⟨by decide, by decide, ?_⟩, by decide, by decide, rfl⟩)
  intro c hc
  have h : c = 49 ∨ c = 50 := by simpa using hc
  rcases h with rfl | rfl <;> decide
theorem hex_lives : str (hexOf [0, 171]) = ⟨#[48, 48, 97, 98]⟩ := by decide

set_option maxRecDepth 10000 in
set_option maxHeartbeats 1600000 in
/-- a number is read, and bytes are told -/
theorem law7_lives (w : World) (hR : Rng w) (hF : Figs w) : Calls Tryd.prog 10 #[] w fun e w' => e = .returned (.bool true) ∧ Below w.heap.size w w' := by
  have cR : Calls Tryd.prog 6 #[.string ⟨#[45, 49, 50]⟩, .int .i64 (-20), .int .i64 20] w fun e w' => e = .returned (.tuple #[.int .i64 (-12), .int .i64 0]) ∧ Below w.heap.size w w' :=
    (fig_Read ⟨#[45, 49, 50]⟩ (by decide) (-20) 20 (by omega) (by omega) w hR).mono fun e w' ⟨⟨n, k, h1, h2⟩, h3⟩ => ⟨by
      obtain ⟨rfl, rfl⟩ := h2.unique read_min12
      exact h1, h3⟩
  have CR := Lib.hid cR
  have HF := Lib.hid hF
  clear cR hR hF
  go_enter Tryd.func10, Tryd.ntmps10
  go_wp2_with first
    | (go_at_call 6; with_reducible refine Calls.mono CR.out ?_; rintro e w1 ⟨rfl, b1⟩
       have CH := Lib.hid (show Calls Tryd.prog 17 #[.slice (some ⟨w1.heap.size, 0, none⟩) 2 2] (w1.alloc (.cells #[.int .u8 0, .int .u8 171] 5)) (fun e w' => e = .returned (.string ⟨#[48, 48, 97, 98]⟩) ∧ Below w1.heap.size w1 w') from by
         have ha : Arr (w1.alloc (.cells #[.int .u8 0, .int .u8 171] 5)) w1.heap.size 5 (bcells [0, 171]) := Arr.new w1 5 (bcells [0, 171])
         have hb := (Below.refl w1.heap.size w1).alloc (Nat.le_refl _) (.cells #[.int .u8 0, .int .u8 171] 5)
         have h := fig_Hex (some ⟨w1.heap.size, 0, none⟩) 2 [0, 171] _ ha.rd (by decide) ((HF.out.on b1).on hb)
         rw [hex_lives] at h
         exact h.mono fun e w' ⟨h1, h2⟩ => ⟨h1, hb.trans (h2.mono hb.size)⟩))
    | (go_at_call 17; with_reducible refine Calls.mono CH.out ?_; rintro e w2 ⟨rfl, b2⟩)
  go_ret
  exact ⟨rfl, b1.trans (b2.mono b1.size)⟩
end Go.Proofs.YtkeglcfndjpblaaDoor
