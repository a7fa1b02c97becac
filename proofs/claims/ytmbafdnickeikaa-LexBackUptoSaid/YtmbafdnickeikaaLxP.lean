/- A line's length, whether it may be one, a text with a line more, lines put together: the program's. -/
import Derived.Test.YtmbafdnickeikaaLxK
import Derived.Test.YtmbafdnickeikaaLxE
import Derived.Lib.AppendStr
namespace Go.Proofs.Ytmbafdnickeikaa
open Go.RowKit Go.Shelf

set_option maxRecDepth 10000 in
set_option maxHeartbeats 1600000 in
theorem lex_Long (B : Nat) (p : Option Addr) (c : Nat) (r : List By) (w : World) (hr : RdV w B p (scells r)) (h1 : r.length ≤ 1073741824) (h2 : sumOf r ≤ 1073741824) :
    Calls Try.prog 20 #[.slice p r.length c] w fun e w' => e = .returned (.int .i64 (longOf r : Nat)) ∧ w' = w := by
  have hw : ∀ i (h : i < r.length), ∃ b o, p = some ⟨b, o, none⟩ ∧ w.cell? ⟨b, o + i, none⟩ = some (.string (str r[i])) := fun i h => by
    obtain ⟨b, o, e, _, hc⟩ := hr.word h
    exact ⟨b, o, e, hc⟩
  have hsl := fun i => sumOf_le r i
  have HW := Lib.hid hw
  have HS := Lib.hid hsl
  have HT := Lib.hid (fun i h => sumOf_take r (i := i) h)
  clear hw hsl hr
  go_enter Try.func20, Try.ntmps20
  go_wp2_with fail
  go_loopg [3, 12] r.length (fun gh s t wr => ∃ i : Nat, t = .int .i64 i ∧ s = .int .i64 ((r.length - 1 + sumOf (r.take i) : Nat) : Int) ∧ gh + i = r.length ∧ wr = w)
  case atStart => exact ⟨0, rfl, by congr 1; simp [sumOf]; omega, rfl, rfl⟩
  case round =>
    obtain ⟨i, rfl, rfl, hg, rfl⟩ := hrel
    by_cases hi : i < r.length
    · obtain ⟨b, o, rfl, hc⟩ := HW.out i hi
      obtain ⟨x, hx⟩ : ∃ x, str r[i] = x := ⟨_, rfl⟩
      have hxs : x.size = r[i].length := by rw [← hx, str_size]
      have ht := HT.out i hi
      have h3 := HS.out (i + 1)
      rw [hx] at hc
      obtain ⟨s0, hs0⟩ : ∃ s0, s0 = r.length - 1 + sumOf (r.take i) := ⟨_, rfl⟩
      rw [← hs0]
      clear hx
      go_wp2_with fail
      go_roundg (r.length - (i + 1))
      case measure => omega
      case rel => exact ⟨i + 1, by simp, by congr 1; omega, by omega, rfl⟩
    · obtain rfl : i = r.length := by omega
      have ht : r.take r.length = r := List.take_length
      rw [ht]
      go_wp2_with fail
      go_ret
      exact ⟨rfl, rfl⟩

/-- may it be the line of this number -/
def fitsR (k : Int) (r : List By) : Bool := decide (k ≤ 1000) && rowOk r
theorem fitsR_yes {k : Int} {r : List By} (h1 : k ≤ 1000) (h2 : rowOk r = true) : fitsR k r = true := by unfold fitsR; simp [h1, h2]
theorem fitsR_no1 {k : Int} {r : List By} (h1 : ¬ k ≤ 1000) : fitsR k r = false := by unfold fitsR; simp [h1]
theorem fitsR_no2 {k : Int} {r : List By} (h1 : ¬ rowOk r = true) : fitsR k r = false := by unfold fitsR; simp [h1]
theorem fitsR_of {k : Int} {r : List By} (h : fitsR k r = true) : k ≤ 1000 ∧ rowOk r = true := by unfold fitsR at h; simpa using h
set_option maxRecDepth 10000 in
set_option maxHeartbeats 1600000 in
theorem lex_fits (B : Nat) (p : Option Addr) (c : Nat) (r : List By) (k : Int) (w : World) (hr : RdV w B p (scells r)) (h1 : r.length ≤ 1073741824) (h2 : sumOf r ≤ 1073741824) :
    Calls Try.prog 14 #[.slice p r.length c, .int .i64 k] w fun e w' => w' = w ∧ ((fitsR k r = true ∧ e = .returned (.int .i64 0)) ∨ (fitsR k r = false ∧ ∃ m : Int, m ≠ 0 ∧ e = .returned (.int .i64 m))) := by
  have hw : ∀ i (h : i < r.length), ∃ b o, p = some ⟨b, o, none⟩ ∧ w.cell? ⟨b, o + i, none⟩ = some (.string (str r[i])) := fun i h => by
    obtain ⟨b, o, e, _, hc⟩ := hr.word h
    exact ⟨b, o, e, hc⟩
  have hlong := lex_Long B p c r w hr h1 h2
  have hsz : ∀ i (h : i < r.length), r[i].length ≤ 1073741824 := fun i h => by
    have := sumOf_take r h
    have := sumOf_le r (i + 1)
    omega
  have hword : ∀ i (h : i < r.length), Calls Try.prog 13 #[.string (str r[i])] w fun e w' => e = .returned (.bool (isW r[i])) ∧ w = w' := fun i h => (lex_Word (str r[i]) (by rw [str_size]; have := hsz i h; omega) w).mono fun e w' ⟨h1, h2⟩ => ⟨h1, h2.symm⟩
  have HW := Lib.hid hw
  have HL := Lib.hid hlong
  have HO := Lib.hid hword
  clear hw hlong hword hr hsz
  by_cases hk : k ≤ 1000
  · obtain ⟨n, hn⟩ : ∃ n, n = longOf r := ⟨_, rfl⟩
    have hnb : n ≤ 2147483648 := by rw [hn]; unfold longOf; omega
    rw [← hn] at HL
    by_cases h4 : 4096 < n
    · have hbad : fitsR k r = false := fitsR_no2 fun h => by have := (rowOk_iff.1 h).1; omega
      have HB := Lib.hid hbad
      clear hbad hn
      go_enter Try.func14, Try.ntmps14
      go_wp2_with (go_at_call 20; with_reducible refine Calls.mono HL.out ?_; rintro e w' ⟨rfl, rfl⟩)
      go_ret
      exact ⟨rfl, .inr ⟨HB.out, 14, by decide, rfl⟩⟩
    · by_cases h0 : r.length = 0
      · obtain rfl : r = [] := List.eq_nil_of_length_eq_zero h0
        have hbad : fitsR k [] = false := fitsR_no2 fun h => (rowOk_iff.1 h).2.1 rfl
        have HB := Lib.hid hbad
        clear hbad hn
        go_enter Try.func14, Try.ntmps14
        go_wp2_with (go_at_call 20; with_reducible refine Calls.mono HL.out ?_; rintro e w' ⟨rfl, rfl⟩)
        go_ret
        exact ⟨rfl, .inr ⟨HB.out, 3, by decide, rfl⟩⟩
      · have hln : longOf r ≤ 4096 := by omega
        clear hn
        obtain ⟨b, o, rfl, -⟩ := HW.out 0 (by omega)
        have hb0 : ((r.length : Int) == 0) = false := by rw [beq_eq_false_iff_ne]; omega
        go_enter Try.func14, Try.ntmps14
        go_wp2_with (go_at_call 20; with_reducible refine Calls.mono HL.out ?_; rintro e w' ⟨rfl, rfl⟩)
        go_loopg [20] r.length (fun gh t wr => ∃ i : Nat, t = .int .i64 i ∧ gh + i = r.length ∧ (r.take i).all isW = true ∧ wr = w')
        case atStart => exact ⟨0, rfl, rfl, rfl, rfl⟩
        case round =>
          obtain ⟨i, rfl, hg, hall, rfl⟩ := hrel
          have HA := Lib.hid hall
          clear hall
          by_cases hi : i < r.length
          · have hc : wr.cell? ⟨b, o + i, none⟩ = some (.string (str r[i])) := by
              obtain ⟨b', o', e, hc⟩ := HW.out i hi
              cases e
              exact hc
            have hcw := HO.out i hi
            obtain ⟨x, hx⟩ : ∃ x, str r[i] = x := ⟨_, rfl⟩
            rw [hx] at hc hcw
            clear hx
            cases hw : isW r[i] with
            | true =>
              rw [hw] at hcw
              have HC := Lib.hid hcw
              have HX := Lib.hid hw
              clear hcw hw
              go_wp2_with (go_at_call 13; with_reducible refine Calls.mono HC.out ?_; rintro e w2 ⟨rfl, rfl⟩)
              go_roundg (r.length - (i + 1))
              case measure => omega
              case rel =>
                refine ⟨i + 1, by simp, by omega, ?_, rfl⟩
                rw [List.take_succ_eq_append_getElem hi, List.all_append, HA.out]
                simp [HX.out]
            | false =>
              have hbad : fitsR k r = false := fitsR_no2 fun h => by
                have := List.all_eq_true.1 (rowOk_iff.1 h).2.2 _ (List.getElem_mem hi)
                rw [hw] at this
                cases this
              rw [hw] at hcw
              have HC := Lib.hid hcw
              have HB := Lib.hid hbad
              clear hcw hw hbad
              go_wp2_with (go_at_call 13; with_reducible refine Calls.mono HC.out ?_; rintro e w2 ⟨rfl, rfl⟩)
              go_ret
              exact ⟨rfl, .inr ⟨HB.out, 3, by decide, rfl⟩⟩
          · obtain rfl : i = r.length := by omega
            have hok : fitsR k r = true := fitsR_yes hk (rowOk_iff.2 ⟨hln, fun e => by rw [e] at h0; exact h0 rfl, by have := HA.out; rwa [List.take_length] at this⟩)
            have HK := Lib.hid hok
            clear hok
            go_wp2_with fail
            go_ret
            exact ⟨rfl, .inl ⟨HK.out, rfl⟩⟩
  · have hbad : fitsR k r = false := fitsR_no1 hk
    have HB := Lib.hid hbad
    clear hbad
    go_enter Try.func14, Try.ntmps14
    go_wp2_with fail
    go_ret
    exact ⟨rfl, .inr ⟨HB.out, 7, by decide, rfl⟩⟩
end Go.Proofs.Ytmbafdnickeikaa
