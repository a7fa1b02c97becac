/- A text with a line more; lines put together: the program's. -/
import Derived.Test.YtmbafdnickeikaaLxP
namespace Go.Proofs.Ytmbafdnickeikaa
open Go.RowKit Go.Shelf

theorem info_byte : (Try.prog.info? 5).map (fun i => (i.zero, i.size, i.bytes)) = some (some (.int .u8 0), 1, 1) := by kernel_rfl
theorem strCells_str (l : By) : Lib.strCells (str l) = bcells l := by simp [Lib.strCells, bcells, str]

set_option maxRecDepth 10000 in
set_option maxHeartbeats 1600000 in
theorem lex_laid (base : Nat) (v : Value) (xs : By) (p : Option Addr) (c : Nat) (r : List By) (w : World) (hown : w.ownsRow base 5 1 v xs.length (bcells xs)) (hr : RdV w base p (scells r)) (hb : base ≤ w.heap.size) (h1 : r.length ≤ 1073741824) (h2 : xs.length + longOf r + 1 ≤ 1073741824) :
    Calls Try.prog 15 #[v, .slice p r.length c] w fun e w' => ∃ v', e = .returned v' ∧ w'.ownsRow base 5 1 v' (xs ++ (glue r ++ [10])).length (bcells (xs ++ (glue r ++ [10]))) ∧ Below base w w' := by
  obtain ⟨i0, hi0, hz0, hz1, hz2⟩ := info_parts info_byte
  have hle : ∀ i (h : i < r.length), (glue (r.take i)).length + 1 + r[i].length ≤ longOf r + 1 := fun i h => by
    have h3 := sumOf_take r h
    have h4 := sumOf_le r (i + 1)
    rw [glue_length]
    unfold longOf
    rw [List.length_take]
    omega
  have hw : ∀ i (h : i < r.length), ∃ b o, p = some ⟨b, o, none⟩ ∧ b < base ∧ w.cell? ⟨b, o + i, none⟩ = some (.string (str r[i])) := fun i h => hr.word h
  have HW := Lib.hid hw
  have HE := Lib.hid hle
  have HO := Lib.hid hown
  clear hw hle hr hown
  go_enter Try.func15, Try.ntmps15
  go_wp2_with fail
  go_loopg [0, 9] r.length (fun gh s t wr => ∃ i : Nat, t = .int .i64 i ∧ gh + i = r.length ∧ wr.ownsRow base 5 1 s (xs ++ glue (r.take i)).length (bcells (xs ++ glue (r.take i))) ∧ Below base w wr)
  case atStart => exact ⟨0, rfl, rfl, by simpa [glue] using HO.out, Below.refl _ _⟩
  case round =>
    obtain ⟨i, rfl, hg, hown, hB⟩ := hrel
    by_cases hi : i < r.length
    · obtain ⟨b, o, rfl, hbb, hc⟩ := HW.out i hi
      have hc' : wr.cell? ⟨b, o + i, none⟩ = some (.string (str r[i])) := (hB.cell (p := ⟨b, o + i, none⟩) hbb).trans hc
      have hel := HE.out i hi
      obtain ⟨x, hx⟩ : ∃ x, str r[i] = x := ⟨_, rfl⟩
      have hxs : x.size = r[i].length := by rw [← hx, str_size]
      rw [hx] at hc'
      by_cases h0 : i = 0
      · subst h0
        have hc0 : wr.cell? ⟨b, o, none⟩ = some (.string x) := by simpa using hc'
        have hgt := glue_take r hi
        rw [if_pos rfl] at hgt
        have HF := Lib.hid (And.intro hown (And.intro hB (And.intro hx hgt)))
        have hlen : (xs ++ glue (r.take 0)).length = xs.length := by simp [glue]
        rw [hlen] at hown HF
        clear hown hB hx hgt hc hlen
        go_wp2_with (at_builtin; refine Lib.wpList_append_own_string _ rfl _ _ 22 9 rfl base 5 i0 Try.underlying22 Try.underlying9 hi0 hz0 hz1 hz2 _ xs.length _ rfl HF.out.1 x rfl (by simp [maxLen]; omega) (by omega) (Nat.le_trans hb HF.out.2.1.size) ?_; intro v' w3 hown' hgrow _; replace hown' := Lib.hid hown'; replace hgrow := Lib.hid hgrow)
        go_roundg (r.length - 1)
        case measure => omega
        case rel =>
          refine ⟨1, by simp, by omega, ?_, HF.out.2.1.grown hgrow.out (Nat.le_trans hb HF.out.2.1.size) (fun k e => (HF.out.1.lt k e).1)⟩
          have := hown'.out
          rw [← HF.out.2.2.1, strCells_str] at this
          rw [HF.out.2.2.2, List.length_append, bcells_append, ← str_size r[0]]
          simpa [glue] using this
      · have hgt := glue_take r hi
        rw [if_neg h0] at hgt
        have hpos : (0 : Int) < i := by omega
        obtain ⟨n, hn⟩ : ∃ n, n = (xs ++ glue (r.take i)).length := ⟨_, rfl⟩
        have hnl : n + 1 + r[i].length ≤ xs.length + longOf r + 1 := by rw [hn, List.length_append]; omega
        rw [← hn] at hown
        have HF := Lib.hid (And.intro hown (And.intro hB (And.intro hx (And.intro hgt hn))))
        clear hown hB hx hgt hc hn
        go_wp2_with first
          | (at_builtin; refine wpList_append_own _ rfl _ _ 22 rfl base 5 i0 (.int .u8 0) 1 1 Try.underlying22 hi0 hz0 hz1 hz2 rfl (by decide) _ n (bcells (xs ++ glue (r.take i))) rfl (HF.out.1.alloc _) ⟨wr.heap.size, 0, none⟩ 1 1 [.int .u8 32] rfl rfl (cell_one_new _ _ _) (by simp [Value.oneCell']) (by simp [maxLen]; omega) (by omega) (by have := HF.out.2.1.size; simp; omega) ?_; intro v' w3 hown' hgrow _; replace hown' := Lib.hid hown'; replace hgrow := Lib.hid hgrow; have hb3 := Lib.hid ((HF.out.2.1.alloc (Nat.le_trans hb HF.out.2.1.size) _).grown hgrow.out (by have := HF.out.2.1.size; simp; omega) (fun k e => (HF.out.1.lt k e).1)))
          | (at_builtin; refine Lib.wpList_append_own_string _ rfl _ _ 22 9 rfl base 5 i0 Try.underlying22 Try.underlying9 hi0 hz0 hz1 hz2 _ (n + 1) _ rfl hown'.out x rfl (by simp [maxLen]; omega) (by omega) (Nat.le_trans hb hb3.out.size) ?_; intro v5 w5 hown5 hgrow5 _; replace hown5 := Lib.hid hown5; replace hgrow5 := Lib.hid hgrow5)
        go_roundg (r.length - (i + 1))
        case measure => omega
        case rel =>
          refine ⟨i + 1, by simp, by omega, ?_, hb3.out.grown hgrow5.out (Nat.le_trans hb hb3.out.size) (fun k e => (hown'.out.lt k e).1)⟩
          have := hown5.out
          rw [← HF.out.2.2.1, strCells_str] at this
          have hl : (xs ++ glue (r.take (i + 1))).length = n + 1 + (str r[i]).size := by
            rw [HF.out.2.2.2.1, HF.out.2.2.2.2, str_size]
            simp
            omega
          have hcl : bcells (xs ++ glue (r.take (i + 1))) = bcells (xs ++ glue (r.take i)) ++ [.int .u8 32] ++ bcells r[i] := by
            rw [HF.out.2.2.2.1]
            simp [bcells]
          rw [hl, hcl]
          exact this
    · obtain rfl : i = r.length := by omega
      rw [List.take_length] at hown
      have hgl : (xs ++ glue r).length = xs.length + longOf r := by rw [List.length_append, glue_length]
      rw [hgl] at hown
      have HF := Lib.hid (And.intro hown hB)
      clear hown hB
      go_wp2_with (at_builtin; refine wpList_append_own _ rfl _ _ 22 rfl base 5 i0 (.int .u8 0) 1 1 Try.underlying22 hi0 hz0 hz1 hz2 rfl (by decide) _ _ _ rfl (HF.out.1.alloc _) ⟨wr.heap.size, 0, none⟩ 1 1 [.int .u8 10] rfl rfl (cell_one_new _ _ _) (by simp [Value.oneCell']) (by simp [maxLen]; omega) (by omega) (by have := HF.out.2.size; simp; omega) ?_; intro v' w3 hown' hgrow _; replace hown' := Lib.hid hown'; replace hgrow := Lib.hid hgrow)
      go_ret
      refine ⟨_, rfl, ?_, (HF.out.2.alloc (Nat.le_trans hb HF.out.2.size) _).grown hgrow.out (by have := HF.out.2.size; simp; omega) (fun k e => (HF.out.1.lt k e).1)⟩
      have := hown'.out
      rw [← List.append_assoc, List.length_append, bcells_append, hgl]
      exact this
end Go.Proofs.Ytmbafdnickeikaa
