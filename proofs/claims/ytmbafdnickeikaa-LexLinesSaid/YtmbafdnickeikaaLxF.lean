/- A line's words, a text's lines: the document's own. -/
import Derived.Test.YtmbafdnickeikaaLxE
namespace Go.Proofs.Ytmbafdnickeikaa
open Go.RowKit Go.Shelf

theorem str_ext (s : ByteArray) (a b : Nat) : s.extract a b = str ((s.data.toList.take b).drop a) := by
  rw [← str_of (s.extract a b)]
  congr 1
  rw [ByteArray.data_extract, Array.toList_extract]
  simp [List.drop_take]
theorem seg_next {L : By} {f i : Nat} (hf : f ≤ i) (hi : i < L.length) : (L.take (i + 1)).drop f = (L.take i).drop f ++ [L[i]] := by
  rw [List.take_succ_eq_append_getElem hi, List.drop_append]
  have : f - (L.take i).length = 0 := by simp; omega
  rw [this]
  rfl
theorem seg_split {L : By} {f i : Nat} (hf : f ≤ i) (hi : i < L.length) : L.drop f = (L.take i).drop f ++ L[i] :: L.drop (i + 1) := by
  conv => lhs; rw [← List.take_append_drop i L]
  rw [List.drop_append, ← List.drop_eq_getElem_cons hi]
  have : f - (L.take i).length = 0 := by simp; omega
  rw [this]
  rfl
theorem seg_end {L : By} {f i : Nat} (hi : i = L.length) : (L.take i).drop f = L.drop f := by subst hi; simp

set_option maxRecDepth 10000 in
set_option maxHeartbeats 4000000 in
theorem ref6_words (s : ByteArray) (hs : s.size ≤ 1073741824) (w : World) :
    Calls Try.prog 12 #[.string s] w fun e w' => Below w.heap.size w w' ∧
      ((wordsOk s.data.toList = true ∧ ∃ v, e = .returned (.tuple #[v, .bool true]) ∧ w'.ownsRow w.heap.size 9 1 v (pcs 32 s.data.toList).length (scells (pcs 32 s.data.toList))) ∨
       (wordsOk s.data.toList = false ∧ e = .returned (.tuple #[.slice none 0 0, .bool false]))) := by
  obtain ⟨i0, hi0, hz0, hz1, hz2⟩ := info_parts info_str
  obtain ⟨L, hL⟩ : ∃ L, L = s.data.toList := ⟨_, rfl⟩
  have hLs : L.length = s.size := by rw [hL, str_len]
  rw [← hL]
  have hpl := pcs_length 32 L
  have HS := Lib.hid hL
  have HP := Lib.hid hpl
  clear hL hpl
  go_enter Try.func12, Try.ntmps12
  go_wp2_with fail
  go_loopg [4, 5, 6] (s.size + 1) (fun gh v f t wr => ∃ (i fr : Nat) (D : List By), t = .int .i64 i ∧ f = .int .i64 fr ∧ gh + i = s.size + 1 ∧ wr.ownsRow w.heap.size 9 1 v D.length (scells D) ∧ D.all isW = true ∧ Below w.heap.size w wr ∧
    ((i ≤ s.size ∧ fr ≤ i ∧ (32 : UInt8) ∉ (L.take i).drop fr ∧ pcs 32 L = D ++ pcs 32 (L.drop fr)) ∨ (i = s.size + 1 ∧ pcs 32 L = D)))
  case atStart => exact ⟨0, 0, [], rfl, rfl, rfl, World.ownsRow_nil _ _ _ _, rfl, Below.refl _ _, .inl ⟨by omega, by omega, by simp, by simp⟩⟩
  case round =>
    obtain ⟨i, fr, D, rfl, rfl, hg, hown, hall, hB, hor⟩ := hrel
    rcases hor with ⟨hi, hfr, hno, hp⟩ | ⟨rfl, hp⟩
    · by_cases hlt : i < s.size
      · obtain ⟨c, hc⟩ : ∃ c, (s[i]'hlt) = c := ⟨_, rfl⟩
        have hcl : L[i]'(by omega) = c := by rw [← hc]; exact (by have := HS.out; subst this; exact str_get s i hlt)
        by_cases h32 : c = 32
        · have hcn : (c.toNat : Int) = 32 := by rw [h32]; rfl
          have hsp : L.drop fr = (L.take i).drop fr ++ 32 :: L.drop (i + 1) := by rw [← h32, ← hcl]; exact seg_split hfr (by omega)
          have hpc : pcs 32 (L.drop fr) = (L.take i).drop fr :: pcs 32 (L.drop (i + 1)) := by rw [hsp, pcs_at _ _ _ hno]
          rw [hpc] at hp
          have hD : D.length + 1 ≤ s.size + 1 := by
            have h1 := HP.out
            have h2 := List.length_pos_iff.2 (pcs_ne 32 (L.drop (i + 1)))
            rw [hp] at h1
            simp at h1
            omega
          have hstr : s.extract fr i = str ((L.take i).drop fr) := by rw [HS.out]; exact str_ext s fr i
          have hxs : (s.extract fr i).size ≤ 4611686018427387904 := by rw [ByteArray.size_extract]; omega
          have hwd := fun W => ref6_Word (s.extract fr i) hxs W
          have hxl : (s.extract fr i).data.toList = (L.take i).drop fr := by rw [hstr]; rfl
          rw [hxl] at hwd
          cases hw : isW ((L.take i).drop fr) with
          | true =>
            have hwd' : ∀ W, Calls Try.prog 19 #[.string (s.extract fr i)] W fun e w' => e = .returned (.bool true) ∧ W = w' := fun W => (hwd W).mono fun e w' ⟨h1, h2⟩ => ⟨by rw [h1, hw], h2.symm⟩
            have HF := Lib.hid (And.intro hown (And.intro hall (And.intro hB hp)))
            have HW := Lib.hid hwd'
            have HX := Lib.hid (And.intro hw hstr)
            clear hown hall hB hno hp hsp hpc hwd hwd' hw hxl hstr
            go_wp2_with first
              | (go_at_call 19; with_reducible refine Calls.mono (HW.out _) ?_; rintro e w1 ⟨rfl, rfl⟩)
              | (at_builtin; refine wpList_append_own _ rfl _ _ 37 rfl w.heap.size 9 i0 (.string ⟨#[]⟩) 1 16 Try.underlying37 hi0 hz0 hz1 hz2 rfl (by decide) _ _ _ rfl (HF.out.1.alloc _) ⟨wr.heap.size, 0, none⟩ 1 1 [.string (s.extract fr i)] rfl rfl (cell_one_new _ _ _) (by simp [Value.oneCell']) (by simp [maxLen]; omega) (by omega) (by have := HF.out.2.2.1.size; simp; omega) ?_; intro v' w3 hown' hgrow _; replace hown' := Lib.hid hown'; replace hgrow := Lib.hid hgrow)
            have hb3 : Below w.heap.size w (wr.alloc (.cells #[.string (s.extract fr i)] 9)) := HF.out.2.2.1.alloc HF.out.2.2.1.size _
            go_roundg (s.size - i)
            case measure => omega
            case rel =>
              refine ⟨i + 1, i + 1, D ++ [(L.take i).drop fr], by simp, by simp, by omega, ?_, ?_, hb3.grown hgrow.out hb3.size (fun k e => (HF.out.1.lt k e).1), .inl ⟨by omega, by omega, ?_, ?_⟩⟩
              · have := hown'.out
                rw [List.length_append, scells_append, List.length_singleton]
                rw [HX.out.2] at this
                exact this
              · simp [HF.out.2.1, HX.out.1]
              · rw [List.drop_take]
                simp
              · rw [HF.out.2.2.2]
                simp
          | false =>
            have hwd' : ∀ W, Calls Try.prog 19 #[.string (s.extract fr i)] W fun e w' => e = .returned (.bool false) ∧ W = w' := fun W => (hwd W).mono fun e w' ⟨h1, h2⟩ => ⟨by rw [h1, hw], h2.symm⟩
            have hbad : wordsOk L = false := by
              unfold wordsOk
              rw [hp, List.all_eq_false]
              exact ⟨(L.take i).drop fr, by simp, by simp [hw]⟩
            have HF := Lib.hid (And.intro hbad hB)
            have HW := Lib.hid hwd'
            clear hown hall hB hno hp hsp hpc hwd hwd' hw hxl hstr hbad
            go_wp2_with (go_at_call 19; with_reducible refine Calls.mono (HW.out _) ?_; rintro e w1 ⟨rfl, rfl⟩)
            go_ret2
            exact ⟨HF.out.2, .inr ⟨HF.out.1, rfl⟩⟩
        · have hcn : ¬ (c.toNat : Int) = 32 := fun e => h32 (by apply UInt8.toNat_inj.1; simp; omega)
          have hcb : ((c.toNat : Int) == 32) = false := by simp [hcn]
          have HF := Lib.hid (And.intro hown (And.intro hall (And.intro hB (And.intro hno hp))))
          clear hown hall hB hno hp
          go_wp2_with fail
          go_roundg (s.size - i)
          case measure => omega
          case rel =>
            refine ⟨i + 1, fr, D, by simp, rfl, by omega, HF.out.1, HF.out.2.1, HF.out.2.2.1, .inl ⟨by omega, by omega, ?_, HF.out.2.2.2.2⟩⟩
            rw [seg_next hfr (by omega), List.mem_append]
            rintro (h | h)
            · exact HF.out.2.2.2.1 h
            · simp only [List.mem_singleton] at h
              exact h32 (by rw [← hcl, ← h])
      · obtain rfl : i = s.size := by omega
        have hse : (L.take s.size).drop fr = L.drop fr := seg_end hLs.symm
        rw [hse] at hno
        have hpc : pcs 32 (L.drop fr) = [L.drop fr] := pcs_none _ _ hno
        rw [hpc] at hp
        have hD : D.length + 1 ≤ s.size + 1 := by
          have h1 := HP.out
          rw [hp] at h1
          simp at h1
          omega
        have hstr : s.extract fr s.size = str (L.drop fr) := by rw [← hse, HS.out]; exact str_ext s fr s.size
        have hxs : (s.extract fr s.size).size ≤ 4611686018427387904 := by rw [ByteArray.size_extract]; omega
        have hwd := fun W => ref6_Word (s.extract fr s.size) hxs W
        have hxl : (s.extract fr s.size).data.toList = L.drop fr := by rw [hstr]; rfl
        rw [hxl] at hwd
        cases hw : isW (L.drop fr) with
        | true =>
          have hwd' : ∀ W, Calls Try.prog 19 #[.string (s.extract fr s.size)] W fun e w' => e = .returned (.bool true) ∧ W = w' := fun W => (hwd W).mono fun e w' ⟨h1, h2⟩ => ⟨by rw [h1, hw], h2.symm⟩
          have HF := Lib.hid (And.intro hown (And.intro hall (And.intro hB hp)))
          have HW := Lib.hid hwd'
          have HX := Lib.hid (And.intro hw hstr)
          clear hown hall hB hno hp hse hpc hwd hwd' hw hxl hstr
          go_wp2_with first
            | (go_at_call 19; with_reducible refine Calls.mono (HW.out _) ?_; rintro e w1 ⟨rfl, rfl⟩)
            | (at_builtin; refine wpList_append_own _ rfl _ _ 37 rfl w.heap.size 9 i0 (.string ⟨#[]⟩) 1 16 Try.underlying37 hi0 hz0 hz1 hz2 rfl (by decide) _ _ _ rfl (HF.out.1.alloc _) ⟨wr.heap.size, 0, none⟩ 1 1 [.string (s.extract fr s.size)] rfl rfl (cell_one_new _ _ _) (by simp [Value.oneCell']) (by simp [maxLen]; omega) (by omega) (by have := HF.out.2.2.1.size; simp; omega) ?_; intro v' w3 hown' hgrow _; replace hown' := Lib.hid hown'; replace hgrow := Lib.hid hgrow)
          have hb3 : Below w.heap.size w (wr.alloc (.cells #[.string (s.extract fr s.size)] 9)) := HF.out.2.2.1.alloc HF.out.2.2.1.size _
          go_roundg 0
          case measure => omega
          case rel =>
            refine ⟨s.size + 1, s.size + 1, D ++ [L.drop fr], by simp, by simp, by omega, ?_, ?_, hb3.grown hgrow.out hb3.size (fun k e => (HF.out.1.lt k e).1), .inr ⟨rfl, HF.out.2.2.2⟩⟩
            · have := hown'.out
              rw [List.length_append, scells_append, List.length_singleton]
              rw [HX.out.2] at this
              exact this
            · simp [HF.out.2.1, HX.out.1]
        | false =>
          have hwd' : ∀ W, Calls Try.prog 19 #[.string (s.extract fr s.size)] W fun e w' => e = .returned (.bool false) ∧ W = w' := fun W => (hwd W).mono fun e w' ⟨h1, h2⟩ => ⟨by rw [h1, hw], h2.symm⟩
          have hbad : wordsOk L = false := by
            unfold wordsOk
            rw [hp, List.all_eq_false]
            exact ⟨L.drop fr, by simp, by simp [hw]⟩
          have HF := Lib.hid (And.intro hbad hB)
          have HW := Lib.hid hwd'
          clear hown hall hB hno hp hse hpc hwd hwd' hw hxl hstr hbad
          go_wp2_with (go_at_call 19; with_reducible refine Calls.mono (HW.out _) ?_; rintro e w1 ⟨rfl, rfl⟩)
          go_ret2
          exact ⟨HF.out.2, .inr ⟨HF.out.1, rfl⟩⟩
    · have HF := Lib.hid (And.intro hown (And.intro hall (And.intro hB hp)))
      clear hown hall hB hp
      go_wp2_with fail
      go_ret2
      exact ⟨HF.out.2.2.1, .inl ⟨by unfold wordsOk; rw [HF.out.2.2.2]; exact HF.out.2.1, _, rfl, by rw [HF.out.2.2.2]; exact HF.out.1⟩⟩
end Go.Proofs.Ytmbafdnickeikaa
