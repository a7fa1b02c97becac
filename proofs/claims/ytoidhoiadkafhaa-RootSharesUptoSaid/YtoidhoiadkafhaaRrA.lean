/- What the document's own copied, zero and below answer. -/
import Derived.Test.YtoidhoiadkafhaaRtI
import Derived.Test.YtoidhoiadkafhaaRefP
import Derived.Test.YtoidhoiadkafhaaRefG
namespace Go.Proofs.Ytoidhoiadkafhaa
open Go.RowKit Num

set_option maxHeartbeats 800000 in
/-- a number's words, in memory of their own -/
theorem r3_copied (a : List Nat) (A : Option Addr) (ca : Nat) (w : World) (h : Rd w (fun g => g < w.heap.size) .u32 A a) (hl : a.length ≤ 1073741824) (ha : Dg 4294967296 a) :
    Calls Try.prog 31 #[.slice A a.length ca] w fun e w' => ∃ A3 c3, e = .returned (.slice A3 a.length c3) ∧ a.length ≤ c3 ∧ Rd w' (fun b => b < w'.heap.size) .u64 A3 a ∧ Below w.heap.size w w' := by
  go_enter Try.func31, Try.ntmps31
  go_wp2_with fail
  go_loopg [3, 4] a.length (fun g v i wr => ∃ (k : Nat) (ys : List Nat), g + k = a.length ∧ i = .int .i64 k ∧ Own wr w.heap.size 30 .u64 v ys ∧ ys.length = k ∧ ys = a.take k ∧ Below w.heap.size w wr)
  case atStart => exact ⟨0, [], by omega, rfl, Own.nil _ _ _ _, rfl, rfl, Below.refl _ _⟩
  case round =>
    obtain ⟨k, ys, hg, rfl, hown, rfl, hyv, hbel⟩ := hrel
    have HG := Lib.hid hg
    have HV := Lib.hid hyv
    clear hg hyv
    by_cases hlt : ys.length < a.length
    · obtain ⟨b, o, rfl, hb, hcell⟩ := (h.on hbel).at_ hlt
      have hp1 := ha.get hlt
      have hts := take_succ_get hlt
      obtain ⟨p, hp⟩ : ∃ p, a[ys.length] = p := ⟨_, rfl⟩
      rw [hp] at hcell hp1 hts
      have HT := Lib.hid hts
      clear hp hts
      go_wp2_with (at_builtin; refine wpList_app rfl _ _ _ rfl w.heap.size 30 .u64 8 Try.underlying38 info_u64 u3 ys rfl (hown.alloc _) wr.heap.size 1 1 [p] rfl rfl (by unfold Row; rw [heap_alloc_new]; simp [cells]) (by omega) (by omega) (by omega) (by have := hbel.size; simp; omega) ?_; intro v1 w3 hown1 hgrow)
      have hb3 := below_app (hbel.alloc hbel.size _) hgrow (hown.alloc _) (by have := hbel.size; simp; omega) (Nat.le_refl _)
      go_roundg (gk - 1)
      case measure => have := HG.out; omega
      case rel => exact ⟨ys.length + 1, ys ++ [p], by have := HG.out; omega, by go_num, hown1, by simp, by rw [HT.out, ← HV.out], hb3⟩
    · obtain ⟨A3, c3, rfl, hc3, _, hrd⟩ := hown.form
      have hk : ys.length = a.length := by have := HG.out; omega
      obtain rfl : ys = a := by have := HV.out; rw [hk, List.take_length] at this; exact this
      clear HG HV
      go_wp2_with fail
      go_ret
      exact ⟨A3, c3, rfl, hc3, hrd.imp (fun g hg => hg.2), hbel⟩

set_option maxHeartbeats 400000 in
/-- is a number 0? -/
theorem r3_zero (x : List Nat) (A : Option Addr) (c : Nat) (w : World) (h : Rd w (fun g => g < w.heap.size) .u64 A x) (hl : x.length ≤ 2147483648) (hx : Top x) :
    Calls Try.prog 32 #[.slice A x.length c] w fun e w' => e = .returned (.bool (decide (x.length = 0))) ∧ ∃ m, w' = w.drewN m := by
  go_enter Try.func32, Try.ntmps32
  go_wp2_with fail
  go_loopg [3] x.length (fun g i wr => ∃ k m : Nat, g + k = x.length ∧ i = .int .i64 k ∧ (∀ j, j < k → ∀ hj : j < x.length, x[j] = 0) ∧ wr = w.drewN m)
  case atStart => exact ⟨0, 0, by omega, rfl, fun j hj => by omega, rfl⟩
  case round =>
    obtain ⟨k, m, hk, rfl, hz, rfl⟩ := hrel
    have HK := Lib.hid hk
    have HZ := Lib.hid hz
    clear hk hz
    by_cases hlt : k < x.length
    · obtain ⟨b, o, rfl, hb, hc1⟩ := h.at_ hlt
      obtain ⟨p, hp⟩ : ∃ p, x[k] = p := ⟨_, rfl⟩
      rw [hp] at hc1
      have HP := Lib.hid hp
      clear hp
      by_cases hp0 : p = 0
      · subst hp0
        go_wp2_with fail
        go_roundg (gk - 1)
        case measure => have := HK.out; omega
        case rel => exact ⟨k + 1, m, by have := HK.out; omega, by go_num, fun j hj hjl => by
          by_cases e : j = k
          · subst e; exact HP.out
          · exact HZ.out j (by omega) hjl, rfl⟩
      · have hne : ¬ x.length = 0 := by omega
        go_wp2_with fail
        go_ret
        exact ⟨by rw [decide_eq_false hne]; rfl, m, rfl⟩
    · have h0 : x.length = 0 := by
        rcases Nat.eq_zero_or_pos x.length with h0 | h0
        · exact h0
        · have := HZ.out (x.length - 1) (by omega) (by omega)
          unfold Top at hx
          rw [List.getLast?_eq_getElem?, List.getElem?_eq_getElem (by omega), this] at hx
          exact absurd rfl hx
      have H0 := Lib.hid h0
      clear h0
      go_wp2_with fail
      go_ret
      exact ⟨by rw [decide_eq_true H0.out]; rfl, m, rfl⟩

set_option maxHeartbeats 800000 in
/-- is a number below another one? -/
theorem r3_below (x y : List Nat) (A A' : Option Addr) (c c' : Nat) (w : World) (h : Rd w (fun g => g < w.heap.size) .u64 A x) (h' : Rd w (fun g => g < w.heap.size) .u64 A' y) (hl : x.length ≤ 2147483648) (hx : Norm 4294967296 x) (hy : Norm 4294967296 y) :
    Calls Try.prog 35 #[.slice A x.length c, .slice A' y.length c'] w fun e w' => e = .returned (.bool (decide (val 4294967296 x < val 4294967296 y))) ∧ ∃ m, w' = w.drewN m := by
  by_cases hne : x.length = y.length
  · have he1 : x.length ≤ y.length := by omega
    have he2 : y.length ≤ x.length := by omega
    have hdne : ¬ (x.length : Int) ≠ (y.length : Int) := by omega
    obtain ⟨t, ht⟩ : ∃ t, decide (val 4294967296 x < val 4294967296 y) = t := ⟨_, rfl⟩
    rw [ht]
    have HT := Lib.hid ht
    clear ht hne
    go_enter Try.func35, Try.ntmps35
    go_wp2_with fail
    go_loopg [5] x.length (fun g i wr => ((∃ k : Nat, g = k + 1 ∧ i = .int .i64 k) ∨ (g = 0 ∧ i = .int .i64 (-1))) ∧ g ≤ x.length ∧ (∃ m, wr = w.drewN m) ∧ x.drop g = y.drop g)
    case atStart =>
      refine ⟨?_, Nat.le_refl _, ⟨0, rfl⟩, by rw [List.drop_of_length_le (by omega), List.drop_of_length_le (by omega)]⟩
      by_cases h0 : x.length = 0
      · refine .inr ⟨h0, ?_⟩; congr 1; omega
      · refine .inl ⟨x.length - 1, by omega, ?_⟩; congr 1; omega
    case round =>
      obtain ⟨⟨k, rfl, rfl⟩ | ⟨rfl, rfl⟩, hg, ⟨m, rfl⟩, hab⟩ := hrel
      · have hka : k < x.length := by omega
        have hkb : k < y.length := by omega
        obtain ⟨ba, oa, rfl, _, ca⟩ := h.at_ hka
        obtain ⟨bb, ob, rfl, _, cb⟩ := h'.at_ hkb
        have HAB := Lib.hid hab
        clear hab
        obtain ⟨p, hp⟩ : ∃ p, x[k] = p := ⟨_, rfl⟩
        obtain ⟨q, hq⟩ : ∃ q, y[k] = q := ⟨_, rfl⟩
        rw [hp] at ca
        rw [hq] at cb
        have HP := Lib.hid hp
        have HQ := Lib.hid hq
        clear hp hq
        by_cases hpq : p = q
        · subst hpq
          go_wp2_with fail
          go_quiet (fail)
          go_wp2_with fail
          go_roundg k
          case measure => omega
          case rel =>
            refine ⟨?_, by omega, ⟨m + nq, by simp⟩, ?_⟩
            · by_cases h0 : k = 0
              · subst h0; exact .inr ⟨rfl, by go_num⟩
              · exact .inl ⟨k - 1, by omega, by go_num⟩
            · rw [List.drop_eq_getElem_cons hka, List.drop_eq_getElem_cons hkb, HP.out, HQ.out, HAB.out]
        · have hpq1 : ¬ ((p : Int) = (q : Int)) := by omega
          go_wp2_with fail
          go_quiet (fail)
          go_wp2_with fail
          go_quiet (fail)
          go_wp2_with fail
          go_ret
          refine ⟨?_, ⟨_, by rw [World.drewN_drewN, World.drewN_drewN]⟩⟩
          show Ending.returned (.bool (decide (p < q))) = _
          rw [← HT.out]
          congr 2
          rcases Nat.lt_or_ge p q with hlt | hge
          · rw [decide_eq_true hlt, decide_eq_true (val_lt_of_digit hx.1 hka hkb HAB.out (by rw [HP.out, HQ.out]; exact hlt))]
          · have := val_lt_of_digit hy.1 hkb hka HAB.out.symm (by rw [HP.out, HQ.out]; omega)
            rw [decide_eq_false (by omega), decide_eq_false (by omega)]
      · go_wp2_with fail
        go_ret
        have e : x = y := by simpa using hab
        refine ⟨?_, m, rfl⟩
        rw [← HT.out, e]
        simp
  · have hd : decide (val 4294967296 x < val 4294967296 y) = decide (x.length < y.length) := by
      rcases Nat.lt_or_ge x.length y.length with hlt | hge
      · rw [decide_eq_true hlt, decide_eq_true (val_lt_of_length (by omega) hx.1 hy.2 hlt)]
      · have := val_lt_of_length (b := 4294967296) (by omega) hy.1 hx.2 (show y.length < x.length by omega)
        rw [decide_eq_false (by omega), decide_eq_false (by omega)]
    rw [hd]
    clear hd
    go_enter Try.func35, Try.ntmps35
    go_wp2_with fail
    go_ret
    exact ⟨by simp, 0, rfl⟩
end Go.Proofs.Ytoidhoiadkafhaa
