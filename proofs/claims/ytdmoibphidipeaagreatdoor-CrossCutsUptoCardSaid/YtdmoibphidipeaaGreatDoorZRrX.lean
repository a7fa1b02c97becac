/- What the document's own copied, zero and below answer. -/
import Derived.Test.YtdmoibphidipeaaGreatDoorZOaC
import Derived.Test.YtdmoibphidipeaaGreatDoorZRefY
namespace Go.Proofs.YtdmoibphidipeaaGreatDoor
open Go.RowKit Num

set_option maxHeartbeats 800000 in
/-- a number's words, in memory of their own -/
theorem r3_copied (a : List Nat) (A : Option Addr) (ca : Nat) (w : World) (h : Rd w (fun g => g < w.heap.size) .u32 A a) (hl : a.length ≤ 1073741824) (ha : Dg 4294967296 a) :
    Calls Tryz.prog 223 #[.slice A a.length ca] w fun e w' => ∃ A3 c3, e = .returned (.slice A3 a.length c3) ∧ a.length ≤ c3 ∧ Rd w' (fun b => b < w'.heap.size) .u64 A3 a ∧ Below w.heap.size w w' := by
  go_enter Tryz.func223, Tryz.ntmps223
  go_wp2_with fail
  go_loopg [3, 4] a.length (fun g v i wr => ∃ (k : Nat) (ys : List Nat), g + k = a.length ∧ i = .int .i64 k ∧ Own wr w.heap.size 138 .u64 v ys ∧ ys.length = k ∧ ys = a.take k ∧ Below w.heap.size w wr)
  case atStart => exact ⟨0, [], by omega, rfl, Own.nil _ _ _ _, rfl, rfl, Below.refl _ _⟩
  case round =>
    obtain ⟨k, ys, hg, rfl, hown, rfl, hyv, hbel⟩ := hrel
    have HG := Lib.hid hg
    have HV := Lib.hid hyv
    clear hg hyv
    by_cases hlt : ys.length < a.length
    · obtain ⟨b, o, rfl, hb, hcell⟩ := (h.on hbel).at_ hlt
      have hp1 := ha.get hlt
      have hts := take_succ_get hlt
      obtain ⟨p, hp⟩ : ∃ p, a[ys.length] = p := ⟨_, rfl⟩
      rw [hp] at hcell hp1 hts
      have HT := Lib.hid hts
      clear hp hts
      go_wp2_with (at_builtin; refine wpList_app rfl _ _ _ rfl w.heap.size 138 .u64 8 Tryz.underlying159 info_u64 u3 ys rfl (hown.alloc _) wr.heap.size 1 1 [p] rfl rfl (by unfold Row; rw [heap_alloc_new]; simp [cells]) (by omega) (by omega) (by omega) (by have := hbel.size; simp; omega) ?_; intro v1 w3 hown1 hgrow)
      have hb3 := below_app (hbel.alloc hbel.size _) hgrow (hown.alloc _) (by have := hbel.size; simp; omega) (Nat.le_refl _)
      go_roundg (gk - 1)
      case measure => have := HG.out; omega
      case rel => exact ⟨ys.length + 1, ys ++ [p], by have := HG.out; omega, by go_num, hown1, by simp, by rw [HT.out, ← HV.out], hb3⟩
    · obtain ⟨A3, c3, rfl, hc3, _, hrd⟩ := hown.form
      have hk : ys.length = a.length := by have := HG.out; omega
      obtain rfl : ys = a := by have := HV.out; rw [hk, List.take_length] at this; exact this
      clear HG HV
      go_wp2_with fail
      go_ret
      exact ⟨A3, c3, rfl, hc3, hrd.imp (fun g hg => hg.2), hbel⟩

set_option maxHeartbeats 400000 in
/-- is a number 0? -/
theorem r3_zero (x : List Nat) (A : Option Addr) (c : Nat) (w : World) (h : Rd w (fun g => g < w.heap.size) .u64 A x) (hl : x.length ≤ 2147483648) (hx : Top x) :
    Calls Tryz.prog 224 #[.slice A x.length c] w fun e w' => e = .returned (.bool (decide (x.length = 0))) ∧ ∃ m, w' = w.drewN m := by
  go_enter Tryz.func224, Tryz.ntmps224
  go_wp2_with fail
  go_loopg [3] x.length (fun g i wr => ∃ k m : Nat, g + k = x.length ∧ i = .int .i64 k ∧ (∀ j, j < k → ∀ hj : j < x.length, x[j] = 0) ∧ wr = w.drewN m)
  case atStart => exact ⟨0, 0, by omega, rfl, fun j hj => by omega, rfl⟩
  case round =>
    obtain ⟨k, m, hk, rfl, hz, rfl⟩ := hrel
    have HK := Lib.hid hk
    have HZ := Lib.hid hz
    clear hk hz
    by_cases hlt : k < x.length
    · obtain ⟨b, o, rfl, hb, hc1⟩ := h.at_ hlt
      obtain ⟨p, hp⟩ : ∃ p, x[k] = p := ⟨_, rfl⟩
      rw [hp] at hc1
      have HP := Lib.hid hp
      clear hp
      by_cases hp0 : p = 0
      · subst hp0
        go_wp2_with fail
        go_roundg (gk - 1)
        case measure => have := HK.out; omega
        case rel => exact ⟨k + 1, m, by have := HK.out; omega, by go_num, fun j hj hjl => by
          by_cases e : j = k
          · subst e; exact HP.out
          · exact HZ.out j (by omega) hjl, rfl⟩
      · have hne : ¬ x.length = 0 := by omega
        go_wp2_with fail
        go_ret
        exact ⟨by rw [decide_eq_false hne]; rfl, m, rfl⟩
    · have h0 : x.length = 0 := by
        rcases Nat.eq_zero_or_pos x.length with h0 | h0
        · exact h0
        · have := HZ.out (x.length - 1) (by omega) (by omega)
          unfold Top at hx
          rw [List.getLast?_eq_getElem?, List.getElem?_eq_getElem (by omega), this] at hx
          exact absurd rfl hx
      have H0 := Lib.hid h0
      clear h0
      go_wp2_with fail
      go_ret
      exact ⟨by rw [decide_eq_true H0.out]; rfl, m, rfl⟩

set_option maxHeartbeats 800000 in
/-- is a number below another one? -/
theorem r3_below (x y : List Nat) (A A' : Option Addr) (c c' : Nat) (w : World) (h : Rd w (fun g => g < w.heap.size) .u64 A x) (h' : Rd w (fun g => g < w.heap.size) .u64 A' y) (hl : x.length ≤ 2147483648) (hx : Norm 4294967296 x) (hy : Norm 4294967296 y) :
    Calls Tryz.prog 226 #[.slice A x.length c, .slice A' y.length c'] w fun e w' => e = .returned (.bool (decide (val 4294967296 x < val 4294967296 y))) ∧ ∃ m, w' = w.drewN m := by
  by_cases hne : x.length = y.length
  · have he1 : x.length ≤ y.length := by omega
    have he2 : y.length ≤ x.length := by omega
    have hdne : ¬ (x.length : Int) ≠ (y.length : Int) := by omega
    obtain ⟨t, ht⟩ : ∃ t, decide (val 4294967296 x < val 4294967296 y) = t := ⟨_, rfl⟩
    rw [ht]
    have HT := Lib.hid ht
    clear ht hne
    go_enter Tryz.func226, Tryz.ntmps226
    go_wp2_with fail
    go_loopg [5] x.length (fun g i wr => ((∃ k : Nat, g = k + 1 ∧ i = .int .i64 k) ∨ (g = 0 ∧ i = .int .i64 (-1))) ∧ g ≤ x.length ∧ (∃ m, wr = w.drewN m) ∧ x.drop g = y.drop g)
    case atStart =>
      refine ⟨?_, Nat.le_refl _, ⟨0, rfl⟩, by rw [List.drop_of_length_le (by omega), List.drop_of_length_le (by omega)]⟩
      by_cases h0 : x.length = 0
      · refine .inr ⟨h0, ?_⟩; congr 1; omega
      · refine .inl ⟨x.length - 1, by omega, ?_⟩; congr 1; omega
    case round =>
      obtain ⟨⟨k, rfl, rfl⟩ | ⟨rfl, rfl⟩, hg, ⟨m, rfl⟩, hab⟩ := hrel
      · have hka : k < x.length := by omega
        have hkb : k < y.length := by omega
        obtain ⟨ba, oa, rfl, _, ca⟩ := h.at_ hka
        obtain ⟨bb, ob, rfl, _, cb⟩ := h'.at_ hkb
        have HAB := Lib.hid hab
        clear hab
        obtain ⟨p, hp⟩ : ∃ p, x[k] = p := ⟨_, rfl⟩
        obtain ⟨q, hq⟩ : ∃ q, y[k] = q := ⟨_, rfl⟩
        rw [hp] at ca
        rw [hq] at cb
        have HP := Lib.hid hp
        have HQ := Lib.hid hq
        clear hp hq
        by_cases hpq : p = q
        · subst hpq
          go_wp2_with fail
          go_quiet (fail)
          go_wp2_with fail
          go_roundg k
          case measure => omega
          case rel =>
            refine ⟨?_, by omega, ⟨m + nq, by simp⟩, ?_⟩
            · by_cases h0 : k = 0
              · subst h0; exact .inr ⟨rfl, by go_num⟩
              · exact .inl ⟨k - 1, by omega, by go_num⟩
            · rw [List.drop_eq_getElem_cons hka, List.drop_eq_getElem_cons hkb, HP.out, HQ.out, HAB.out]
        · have hpq1 : ¬ ((p : Int) = (q : Int)) := by omega
          go_wp2_with fail
          go_quiet (fail)
          go_wp2_with fail
          go_quiet (fail)
          go_wp2_with fail
          go_ret
          refine ⟨?_, ⟨_, by rw [World.drewN_drewN, World.drewN_drewN]⟩⟩
          show Ending.returned (.bool (decide (p < q))) = _
          rw [← HT.out]
          congr 2
          rcases Nat.lt_or_ge p q with hlt | hge
          · rw [decide_eq_true hlt, decide_eq_true (val_lt_of_digit hx.1 hka hkb HAB.out (by rw [HP.out, HQ.out]; exact hlt))]
          · have := val_lt_of_digit hy.1 hkb hka HAB.out.symm (by rw [HP.out, HQ.out]; omega)
            rw [decide_eq_false (by omega), decide_eq_false (by omega)]
      · go_wp2_with fail
        go_ret
        have e : x = y := by simpa using hab
        refine ⟨?_, m, rfl⟩
        rw [← HT.out, e]
        simp
  · have hd : decide (val 4294967296 x < val 4294967296 y) = decide (x.length < y.length) := by
      rcases Nat.lt_or_ge x.length y.length with hlt | hge
      · rw [decide_eq_true hlt, decide_eq_true (val_lt_of_length (by omega) hx.1 hy.2 hlt)]
      · have := val_lt_of_length (b := 4294967296) (by omega) hy.1 hx.2 (show y.length < x.length by omega)
        rw [decide_eq_false (by omega), decide_eq_false (by omega)]
    rw [hd]
    clear hd
    go_enter Tryz.func226, Tryz.ntmps226
    go_wp2_with fail
    go_ret
    exact ⟨by simp, 0, rfl⟩
end Go.Proofs.YtdmoibphidipeaaGreatDoor
/- What the document's own halved and less answer. -/

namespace Go.Proofs.YtdmoibphidipeaaGreatDoor
open Go.RowKit Num

theorem half_step {V T K x0 xk xk1 : Nat} (h : 2 * V + x0 % 2 = T + K * (xk % 2)) : 2 * (V + K * (xk / 2 + xk1 % 2 * 2147483648)) + x0 % 2 = T + K * xk + K * 4294967296 * (xk1 % 2) := by
  have e := Nat.div_add_mod xk 2
  have e2 : K * xk = K * (2 * (xk / 2)) + K * (xk % 2) := by rw [← Nat.mul_add, e]
  have e3 : K * 4294967296 * (xk1 % 2) = K * (xk1 % 2 * 4294967296) := by rw [Nat.mul_assoc, Nat.mul_comm 4294967296]
  rw [e2, e3]
  simp only [Nat.mul_add, Nat.mul_left_comm 2 K]
  have e4 : K * (2 * (xk1 % 2 * 2147483648)) = K * (xk1 % 2 * 4294967296) := by congr 1; omega
  omega

set_option maxHeartbeats 1600000 in
/-- half of a number -/
theorem r3_halved (x : List Nat) (A : Option Addr) (c : Nat) (w : World) (h : Rd w (fun g => g < w.heap.size) .u64 A x) (hl : x.length ≤ 1073741824) (hx : Dg 4294967296 x) :
    Calls Tryz.prog 225 #[.slice A x.length c] w fun e w' => ∃ A3 zs c3, e = .returned (.slice A3 zs.length c3) ∧ zs.length ≤ c3 ∧ Norm 4294967296 zs ∧ val 4294967296 zs = val 4294967296 x / 2 ∧ val 4294967296 x % 2 = x.getD 0 0 % 2 ∧
      Rd w' (fun b => b < w'.heap.size) .u64 A3 zs ∧ Below w.heap.size w w' := by
  go_enter Tryz.func225, Tryz.ntmps225
  go_wp2_with fail
  go_loopg [3, 4, 5] x.length (fun g v i _ wr => ∃ (k : Nat) (ys : List Nat), g + k = x.length ∧ i = .int .i64 k ∧ Own wr w.heap.size 138 .u64 v ys ∧ ys.length = k ∧ Dg 4294967296 ys ∧ 2 * val 4294967296 ys + x.getD 0 0 % 2 = val 4294967296 (x.take k) + 4294967296 ^ k * (x.getD k 0 % 2) ∧ Below w.heap.size w wr)
  case atStart => exact ⟨0, [], by omega, rfl, Own.nil _ _ _ _, rfl, Dg.nil _, by simp [val], Below.refl _ _⟩
  case round =>
    obtain ⟨k, ys, hg, rfl, hown, rfl, hyd, hyv, hbel⟩ := hrel
    have HG := Lib.hid hg
    have HV := Lib.hid hyv
    clear hg hyv
    by_cases hlt : ys.length < x.length
    · obtain ⟨b, o, rfl, hb, hcells⟩ := (h.on hbel) (by omega)
      have hcell := hcells ys.length hlt
      have hp1 := hx.get hlt
      have hts := val_take_succ (b := 4294967296) hlt
      have hpd : x.getD ys.length 0 = x[ys.length] := by rw [List.getD_eq_getElem?_getD, List.getElem?_eq_getElem hlt, Option.getD_some]
      obtain ⟨p, hp⟩ : ∃ p, x[ys.length] = p := ⟨_, rfl⟩
      rw [hp] at hcell hp1 hts hpd
      have HT := Lib.hid hts
      have HPD := Lib.hid hpd
      clear hp hts hpd
      by_cases hlt2 : ys.length + 1 < x.length
      · have hcell2 := hcells (ys.length + 1) hlt2
        have hq1 := hx.get hlt2
        have hqd : x.getD (ys.length + 1) 0 = x[ys.length + 1] := by rw [List.getD_eq_getElem?_getD, List.getElem?_eq_getElem hlt2, Option.getD_some]
        obtain ⟨q, hq⟩ : ∃ p, x[ys.length + 1] = p := ⟨_, rfl⟩
        rw [hq] at hcell2 hq1 hqd
        have HQD := Lib.hid hqd
        have hi1 : (ys.length : Int) + 1 < (x.length : Int) := by omega
        rw [show o + (ys.length + 1) = o + (ys.length + 1) from rfl] at hcell2
        clear hq hqd hcells
        go_wp2_with (at_builtin; refine wpList_app rfl _ _ _ rfl w.heap.size 138 .u64 8 Tryz.underlying159 info_u64 u3 ys rfl (hown.alloc _) wr.heap.size 1 1 [p / 2 + q % 2 * 2147483648] rfl rfl (by unfold Row; rw [heap_alloc_new]; simp [cells]) (by omega) (by omega) (by omega) (by have := hbel.size; simp; omega) ?_; intro v1 w3 hown1 hgrow)
        have hb3 := below_app (hbel.alloc hbel.size _) hgrow (hown.alloc _) (by have := hbel.size; simp; omega) (Nat.le_refl _)
        go_roundg (gk - 1)
        case measure => have := HG.out; omega
        case rel =>
          refine ⟨ys.length + 1, ys ++ [p / 2 + q % 2 * 2147483648], by have := HG.out; omega, by go_num, hown1, by simp, hyd.snoc (by omega), ?_, hb3⟩
          have hv := HV.out
          rw [HPD.out] at hv
          rw [val_snoc, HT.out, HQD.out, Nat.pow_succ]
          exact half_step (xk1 := q) hv
      · have hqd : x.getD (ys.length + 1) 0 = 0 := getD_ge (by omega)
        have HQD := Lib.hid hqd
        have hi1 : ¬ (ys.length : Int) + 1 < (x.length : Int) := by omega
        clear hqd hcells
        go_wp2_with (at_builtin; refine wpList_app rfl _ _ _ rfl w.heap.size 138 .u64 8 Tryz.underlying159 info_u64 u3 ys rfl (hown.alloc _) wr.heap.size 1 1 [p / 2] rfl rfl (by unfold Row; rw [heap_alloc_new]; simp [cells]) (by omega) (by omega) (by omega) (by have := hbel.size; simp; omega) ?_; intro v1 w3 hown1 hgrow)
        have hb3 := below_app (hbel.alloc hbel.size _) hgrow (hown.alloc _) (by have := hbel.size; simp; omega) (Nat.le_refl _)
        go_roundg (gk - 1)
        case measure => have := HG.out; omega
        case rel =>
          refine ⟨ys.length + 1, ys ++ [p / 2], by have := HG.out; omega, by go_num, hown1, by simp, hyd.snoc (by omega), ?_, hb3⟩
          have hv := HV.out
          rw [HPD.out] at hv
          rw [val_snoc, HT.out, HQD.out, Nat.pow_succ]
          have := half_step (xk1 := 0) hv
          rw [Nat.zero_mod, Nat.zero_mul, Nat.add_zero] at this
          exact this
    · have hk : ys.length = x.length := by have := HG.out; omega
      have hw : val 4294967296 ys = val 4294967296 x / 2 ∧ val 4294967296 x % 2 = x.getD 0 0 % 2 := by
        have hv := HV.out
        rw [hk, List.take_length, getD_ge (Nat.le_refl _), Nat.zero_mod, Nat.mul_zero, Nat.add_zero] at hv
        have := Nat.mod_lt (x.getD 0 0) (show 0 < 2 by omega)
        omega
      have HW := Lib.hid hw
      clear hw
      obtain ⟨A3, c3, rfl, hc3, _, hrd⟩ := hown.form
      have hlen : ys.length ≤ 1073741824 := by have := HG.out; omega
      go_wp2_with fail
      go_loopg [3] ys.length (fun gh v w2 => ∃ n : Nat, n = gh ∧ v = .slice A3 n c3 ∧ n ≤ ys.length ∧ (∀ j, n ≤ j → ∀ hj : j < ys.length, ys[j] = 0) ∧ w2 = wr)
      case atStart => exact ⟨ys.length, rfl, rfl, Nat.le_refl _, fun j h1 h2 => by omega, rfl⟩
      case round =>
        obtain ⟨n, rfl, rfl, hn, hz, rfl⟩ := hrel
        have HZ := Lib.hid hz
        clear hz
        by_cases h0 : 0 < n
        · obtain ⟨b, o, rfl, hb, hcell⟩ := hrd.at_ (j := n - 1) (by omega)
          obtain ⟨p, hp⟩ : ∃ p, ys[n - 1] = p := ⟨_, rfl⟩
          rw [hp] at hcell
          have HP := Lib.hid hp
          clear hp
          have hn0 : (0 : Int) < (n : Int) := by omega
          by_cases hp0 : p = 0
          · subst hp0
            go_wp2_with fail
            go_roundg (n - 1)
            case measure => omega
            case rel => exact ⟨n - 1, rfl, rfl, by omega, fun j h1 h2 => by
              by_cases e : j = n - 1
              · subst e; exact HP.out
              · exact HZ.out j (by omega) h2, rfl⟩
          · have hpi : ¬ ((p : Int) = 0) := by omega
            go_wp2_with fail
            go_ret
            have hnz : n - 1 < ys.length := by omega
            have hN := Norm.take hyd hn (.inr ⟨hnz, by rw [HP.out]; exact hp0⟩)
            have hl2 : (ys.take n).length = n := by rw [List.length_take]; omega
            exact ⟨_, ys.take n, c3, by rw [hl2]; rfl, by omega, hN, by rw [val_take_of_zero HZ.out]; exact HW.out.1, HW.out.2, (hrd.take n).imp (fun g hg => hg.2), hbel⟩
        · obtain rfl : n = 0 := by omega
          go_wp2_with fail
          go_ret
          have hN := Norm.take hyd hn (.inl rfl)
          have hl2 : (ys.take 0).length = 0 := by simp
          exact ⟨_, ys.take 0, c3, by rw [hl2]; rfl, by omega, hN, by rw [val_take_of_zero HZ.out]; exact HW.out.1, HW.out.2, (hrd.take 0).imp (fun g hg => hg.2), hbel⟩

set_option maxHeartbeats 1600000 in
/-- a number without another one, which isn't above it -/
theorem r3_less (x y : List Nat) (A A' : Option Addr) (c c' : Nat) (w : World) (h : Rd w (fun g => g < w.heap.size) .u64 A x) (h' : Rd w (fun g => g < w.heap.size) .u64 A' y) (hl : x.length ≤ 1073741824) (hyl : y.length ≤ x.length) (hx : Dg 4294967296 x) (hy : Dg 4294967296 y) (hle : val 4294967296 y ≤ val 4294967296 x) :
    Calls Tryz.prog 227 #[.slice A x.length c, .slice A' y.length c'] w fun e w' => ∃ A3 zs c3, e = .returned (.slice A3 zs.length c3) ∧ zs.length ≤ c3 ∧ Norm 4294967296 zs ∧ val 4294967296 zs = val 4294967296 x - val 4294967296 y ∧
      Rd w' (fun b => b < w'.heap.size) .u64 A3 zs ∧ Below w.heap.size w w' := by
  have HLE := Lib.hid hle
  clear hle
  go_enter Tryz.func227, Tryz.ntmps227
  go_wp2_with fail
  go_loopg [5, 6, 7, 8] x.length (fun g v cc i _ wr => ∃ (k cy : Nat) (ys : List Nat), g + k = x.length ∧ i = .int .i64 k ∧ cc = .int .u64 cy ∧ cy ≤ 1 ∧ Own wr w.heap.size 138 .u64 v ys ∧ ys.length = k ∧ Dg 4294967296 ys ∧ val 4294967296 ys + val 4294967296 (ext y k) = val 4294967296 (ext x k) + 4294967296 ^ k * cy ∧ Below w.heap.size w wr)
  case atStart => exact ⟨0, 0, [], by omega, rfl, rfl, by omega, Own.nil _ _ _ _, rfl, Dg.nil _, rfl, Below.refl _ _⟩
  case round =>
    obtain ⟨k, cy, ys, hg, rfl, rfl, hcy, hown, rfl, hyd, hyv, hbel⟩ := hrel
    have HG := Lib.hid hg
    have HV := Lib.hid hyv
    clear hg hyv
    by_cases hlt : ys.length < x.length
    · obtain ⟨b, o, rfl, hb, hcell⟩ := (h.on hbel).at_ hlt
      have hp1 := hx.get hlt
      have hpd : x.getD ys.length 0 = x[ys.length] := by rw [List.getD_eq_getElem?_getD, List.getElem?_eq_getElem hlt, Option.getD_some]
      obtain ⟨p, hp⟩ : ∃ p, x[ys.length] = p := ⟨_, rfl⟩
      rw [hp] at hcell hp1 hpd
      have HPD := Lib.hid hpd
      clear hp hpd
      by_cases hlt2 : ys.length < y.length
      · obtain ⟨b', o', rfl, hb', hcell2⟩ := (h'.on hbel).at_ hlt2
        have hq1 := hy.get hlt2
        have hqd : y.getD ys.length 0 = y[ys.length] := by rw [List.getD_eq_getElem?_getD, List.getElem?_eq_getElem hlt2, Option.getD_some]
        obtain ⟨q, hq⟩ : ∃ p, y[ys.length] = p := ⟨_, rfl⟩
        rw [hq] at hcell2 hq1 hqd
        have HQD := Lib.hid hqd
        clear hq hqd
        go_wp2_with (at_builtin; refine wpList_app rfl _ _ _ rfl w.heap.size 138 .u64 8 Tryz.underlying159 info_u64 u5 ys rfl (hown.alloc _) wr.heap.size 1 1 [(4294967296 + p - q - cy) % 4294967296] rfl rfl (by unfold Row; rw [heap_alloc_new]; simp [cells]; omega) (by omega) (by omega) (by omega) (by have := hbel.size; simp; omega) ?_; intro v1 w3 hown1 hgrow)
        have hb3 := below_app (hbel.alloc hbel.size _) hgrow (hown.alloc _) (by have := hbel.size; simp; omega) (Nat.le_refl _)
        go_roundg (gk - 1)
        case measure => have := HG.out; omega
        case rel =>
          have hv := sub_step (b := 4294967296) (x := p) (y := q) (v := 4294967296 + p - q - cy) rfl HV.out (by omega) (by omega)
          refine ⟨ys.length + 1, 1 - (4294967296 + p - q - cy) / 4294967296, ys ++ [(4294967296 + p - q - cy) % 4294967296], by have := HG.out; omega, by go_num, by congr 1; omega, by omega, hown1, by simp, hyd.snoc (by omega), ?_, hb3⟩
          rw [val_ext_succ, val_ext_succ, HPD.out, HQD.out, hv]
      · have hqd : y.getD ys.length 0 = 0 := getD_ge (by omega)
        have HQD := Lib.hid hqd
        clear hqd
        go_wp2_with (at_builtin; refine wpList_app rfl _ _ _ rfl w.heap.size 138 .u64 8 Tryz.underlying159 info_u64 u5 ys rfl (hown.alloc _) wr.heap.size 1 1 [(4294967296 + p - 0 - cy) % 4294967296] rfl rfl (by unfold Row; rw [heap_alloc_new]; simp [cells]; omega) (by omega) (by omega) (by omega) (by have := hbel.size; simp; omega) ?_; intro v1 w3 hown1 hgrow)
        have hb3 := below_app (hbel.alloc hbel.size _) hgrow (hown.alloc _) (by have := hbel.size; simp; omega) (Nat.le_refl _)
        go_roundg (gk - 1)
        case measure => have := HG.out; omega
        case rel =>
          have hv := sub_step (b := 4294967296) (x := p) (y := 0) (v := 4294967296 + p - 0 - cy) rfl HV.out (by omega) (by omega)
          refine ⟨ys.length + 1, 1 - (4294967296 + p - 0 - cy) / 4294967296, ys ++ [(4294967296 + p - 0 - cy) % 4294967296], by have := HG.out; omega, by go_num, by congr 1; omega, by omega, hown1, by simp, hyd.snoc (by omega), ?_, hb3⟩
          rw [val_ext_succ, val_ext_succ, HPD.out, HQD.out, hv]
    · have hk : ys.length = x.length := by have := HG.out; omega
      have hw : val 4294967296 ys = val 4294967296 x - val 4294967296 y := by
        have hv := HV.out
        rw [hk, val_ext hyl, val_ext (Nat.le_refl _)] at hv
        have h0 := borrow_zero hcy (by have := val_lt hyd; rwa [hk] at this) HLE.out hv
        rw [h0, Nat.mul_zero, Nat.add_zero] at hv
        omega
      have HW := Lib.hid hw
      clear hw
      obtain ⟨A3, c3, rfl, hc3, _, hrd⟩ := hown.form
      have hlen : ys.length ≤ 1073741824 := by have := HG.out; omega
      go_wp2_with fail
      go_loopg [5] ys.length (fun gh v w2 => ∃ n : Nat, n = gh ∧ v = .slice A3 n c3 ∧ n ≤ ys.length ∧ (∀ j, n ≤ j → ∀ hj : j < ys.length, ys[j] = 0) ∧ w2 = wr)
      case atStart => exact ⟨ys.length, rfl, rfl, Nat.le_refl _, fun j h1 h2 => by omega, rfl⟩
      case round =>
        obtain ⟨n, rfl, rfl, hn, hz, rfl⟩ := hrel
        have HZ := Lib.hid hz
        clear hz
        by_cases h0 : 0 < n
        · obtain ⟨b, o, rfl, hb, hcell⟩ := hrd.at_ (j := n - 1) (by omega)
          obtain ⟨p, hp⟩ : ∃ p, ys[n - 1] = p := ⟨_, rfl⟩
          rw [hp] at hcell
          have HP := Lib.hid hp
          clear hp
          have hn0 : (0 : Int) < (n : Int) := by omega
          by_cases hp0 : p = 0
          · subst hp0
            go_wp2_with fail
            go_roundg (n - 1)
            case measure => omega
            case rel => exact ⟨n - 1, rfl, rfl, by omega, fun j h1 h2 => by
              by_cases e : j = n - 1
              · subst e; exact HP.out
              · exact HZ.out j (by omega) h2, rfl⟩
          · have hpi : ¬ ((p : Int) = 0) := by omega
            go_wp2_with fail
            go_ret
            have hnz : n - 1 < ys.length := by omega
            have hN := Norm.take hyd hn (.inr ⟨hnz, by rw [HP.out]; exact hp0⟩)
            have hl2 : (ys.take n).length = n := by rw [List.length_take]; omega
            exact ⟨_, ys.take n, c3, by rw [hl2]; rfl, by omega, hN, by rw [val_take_of_zero HZ.out]; exact HW.out, (hrd.take n).imp (fun g hg => hg.2), hbel⟩
        · obtain rfl : n = 0 := by omega
          go_wp2_with fail
          go_ret
          have hN := Norm.take hyd hn (.inl rfl)
          have hl2 : (ys.take 0).length = 0 := by simp
          exact ⟨_, ys.take 0, c3, by rw [hl2]; rfl, by omega, hN, by rw [val_take_of_zero HZ.out]; exact HW.out, (hrd.take 0).imp (fun g hg => hg.2), hbel⟩
end Go.Proofs.YtdmoibphidipeaaGreatDoor
/- What the document's own Gcd answers: twos are taken out, and the lesser one from the greater one. -/

namespace Go.Proofs.YtdmoibphidipeaaGreatDoor
open Go.RowKit Num

/-- the words of a number's own digits -/
theorem ref_words_half (a : List Nat) (A : Option Addr) (ca : Nat) (w : World) (h : Rd w (fun g => g < w.heap.size) .u32 A a) (hl : a.length ≤ 4194304) (ha : Dg 4294967296 a) :
    Calls Tryz.prog 166 #[.slice A a.length ca] w fun e w' => ∃ A' ys c', e = .returned (.slice A' ys.length c') ∧ ys.length ≤ c' ∧ ys.length ≤ 8388608 ∧ Norm 65536 ys ∧ val 65536 ys = val 4294967296 a ∧ Rd w' (fun b => b < w'.heap.size) .u64 A' ys ∧ Below w.heap.size w w' := by
  refine (ref_half a A ca _ w h (fun g hg => hg) (by omega) ha).mono ?_
  rintro e w' ⟨A', ys, c', rfl, h1, h2, h3, h4, h5, h6⟩
  exact ⟨A', ys, c', rfl, h1, by omega, h3, h4, h5.imp (fun g hg => hg.2), h6⟩

theorem gcd_even_even {x y : Nat} (hx : x % 2 = 0) (hy : y % 2 = 0) : Nat.gcd x y = Nat.gcd (x / 2) (y / 2) * 2 := by
  have h := Nat.gcd_mul_left 2 (x / 2) (y / 2)
  rw [Nat.mul_comm, ← h]
  congr 1 <;> omega
theorem odd_coprime {y : Nat} (hy : y % 2 = 1) : Nat.Coprime 2 y := by
  show Nat.gcd 2 y = 1
  rw [Nat.gcd_rec, hy]
  rfl
theorem gcd_even_odd {x y : Nat} (hx : x % 2 = 0) (hy : y % 2 = 1) : Nat.gcd (x / 2) y = Nat.gcd x y := by
  have h := (odd_coprime hy).gcd_mul_left_cancel (x / 2)
  rw [← h]
  congr 1
  omega
theorem pos_of {x : List Nat} (h : Norm 4294967296 x) (h0 : ¬ x.length = 0) : 0 < val 4294967296 x := by
  rcases Nat.eq_zero_or_pos (val 4294967296 x) with e | e
  · have := (h.2.nil_iff (b := 4294967296) (by omega)).2 e
    subst this; simp at h0
  · exact e
theorem twos_le {a : List Nat} {N G d t : Nat} (ha : Dg 4294967296 a) (hl : a.length ≤ 4194304) (hG : Nat.gcd (val 4294967296 a) N = G) (hpos : 0 < val 4294967296 a) (he : d * 2 ^ t = G) (hd : 0 < d) : t ≤ 134217728 := by
  obtain ⟨m, hm, hm32⟩ : ∃ m, a.length ≤ m ∧ 32 * m ≤ 134217728 := ⟨a.length, Nat.le_refl _, by omega⟩
  have h1 : G ≤ val 4294967296 a := by rw [← hG]; exact Nat.gcd_le_left _ hpos
  have h2 := val_lt_pow ha (by omega) hm
  have h3 : 2 ^ t ≤ d * 2 ^ t := Nat.le_mul_of_pos_left _ hd
  have h4 : 2 ^ t < 2 ^ (32 * m) := by
    rw [Nat.pow_mul]
    exact Nat.lt_of_le_of_lt (by omega) h2
  have := (Nat.pow_lt_pow_iff_right (show 1 < 2 by omega)).1 h4
  omega

theorem pow_len {xs : List Nat} {t : Nat} (ht : Top xs) (h : val 4294967296 xs = 2 ^ t) (hl : t ≤ 134217728) : xs.length ≤ 4194305 := by
  obtain ⟨m, hm, hm2⟩ : ∃ m, t < 32 * m ∧ m ≤ 4194305 := ⟨t / 32 + 1, by omega, by omega⟩
  refine Nat.le_trans (ht.length_le (b := 4294967296) (n := m) (by omega) ?_) hm2
  rw [h, show (4294967296 : Nat) = 2 ^ 32 from rfl, ← Nat.pow_mul]
  exact Nat.pow_lt_pow_right (by omega) hm

/-- the lowest word of a number above 0, and whether the number is even -/
theorem first_digit {w : World} {S : Nat → Prop} {A : Option Addr} {x : List Nat} (h : Rd w S .u64 A x) (hn : Norm 4294967296 x) (hp : 0 < val 4294967296 x) :
    ∃ b o p, A = some ⟨b, o, none⟩ ∧ S b ∧ w.cell? ⟨b, o, none⟩ = some (.int .u64 ((p : Nat) : Int)) ∧ p < 4294967296 ∧ p % 2 = val 4294967296 x % 2 ∧ 0 < x.length := by
  cases x with
  | nil => simp [val] at hp
  | cons p r =>
    obtain ⟨b, o, rfl, hb, hc⟩ := h.at_ (j := 0) (by simp)
    refine ⟨b, o, p, rfl, hb, by simpa using hc, (Dg.cons.1 hn.1).1, ?_, by simp⟩
    rw [val_cons]
    omega

set_option maxHeartbeats 1600000 in
theorem r3_Gcd (a b : List Nat) (A A' : Option Addr) (ca cb : Nat) (w : World) (h : Rd w (fun g => g < w.heap.size) .u32 A a) (h' : Rd w (fun g => g < w.heap.size) .u32 A' b) (hl : a.length ≤ 4194304) (hl' : b.length ≤ 4194304) (ha : Dg 4294967296 a) (hb : Dg 4294967296 b) :
    Calls Tryz.prog 189 #[.slice A a.length ca, .slice A' b.length cb] w (Gives .u32 4294967296 (Nat.gcd (val 4294967296 a) (val 4294967296 b)) w) := by
  have cH := ref_words_half a A ca w h hl ha
  go_enter Tryz.func189, Tryz.ntmps189
  go_wp2_with fail
  refine cH.mono ?_
  rintro e w1 ⟨A1, x1, c1, rfl, hc1, hl1, hn1, hv1, hr1, b1⟩
  have cW := ref_words x1 A1 c1 _ w1 hr1 (fun g hg => hg) (by omega) hc1 hn1.1
  rw [hv1] at cW
  clear cH hv1
  go_wp2_with fail
  refine cW.mono ?_
  rintro e w2 ⟨A2, x2, c2, rfl, hc2, hn2, hv2, hr2, b2⟩
  have B2 := b1.trans (b2.mono b1.size)
  have l2 := len_le (b := 4294967296) (by omega) hn2.2 ha (Nat.le_of_eq hv2)
  have cC := r3_copied x2 A2 c2 w2 (hr2.imp (fun g hg => hg.2)) (by omega) hn2.1
  clear cW
  go_wp2_with fail
  refine cC.mono ?_
  rintro e w3 ⟨A3, c3, rfl, hc3, hr3, b3⟩
  have B3 := B2.trans (b3.mono B2.size)
  have cH := ref_words_half b A' cb w3 (h'.on B3) hl' hb
  clear cC
  go_wp2_with fail
  refine cH.mono ?_
  rintro e w4 ⟨A4, y1, c4, rfl, hc4, hl4, hn4, hv4, hr4, b4⟩
  have B4 := B3.trans (b4.mono B3.size)
  have cW := ref_words y1 A4 c4 _ w4 hr4 (fun g hg => hg) (by omega) hc4 hn4.1
  rw [hv4] at cW
  clear cH hv4
  go_wp2_with fail
  refine cW.mono ?_
  rintro e w5 ⟨A5, y2, c5, rfl, hc5, hn5, hv5, hr5, b5⟩
  have B5 := B4.trans (b5.mono B4.size)
  have l5 := len_le (b := 4294967296) (by omega) hn5.2 hb (Nat.le_of_eq hv5)
  have cC := r3_copied y2 A5 c5 w5 (hr5.imp (fun g hg => hg.2)) (by omega) hn5.1
  clear cW
  go_wp2_with fail
  refine cC.mono ?_
  rintro e w6 ⟨A6, c6, rfl, hc6, hr6, b6⟩
  have B6 := B5.trans (b6.mono B5.size)
  have hx := hr3.on (b4.trans ((b5.trans (b6.mono b5.size)).mono b4.size))
  have cZ := r3_zero x2 A3 c3 w6 hx (by omega) hn2.2
  have B6' := B6
  clear cC hn1 hr1 hn4 hr4 hr2 hr5 hr3 hc1 hl1 hc2 hc4 hl4 hc5 b1 b2 b3 b4 b5 b6 B2 B3 B4 B5
  go_wp2_with fail
  refine cZ.mono ?_
  rintro e w7 ⟨rfl, m7, hw7⟩
  have b7 : Below w6.heap.size w6 w7 := by rw [hw7]; exact below_drewN (Below.refl _ _) m7
  have B7 := B6.trans (b7.mono B6.size)
  have cY := r3_zero y2 A6 c6 w7 (hr6.on b7) (by omega) hn5.2
  have hx7 := hx.on b7
  have hy7 := hr6.on b7
  clear hw7 cZ
  by_cases hx0 : x2.length = 0
  · rw [decide_eq_true hx0]
    have cA := ref_add a b A A' ca cb _ _ w7 (h.on B7) (h'.on B7) (fun g hg => hg) (fun g hg => hg) (by omega) (by omega) ha hb
    have hva : val 4294967296 a = 0 := by rw [← hv2, List.eq_nil_of_length_eq_zero hx0]; rfl
    rw [hva, Nat.zero_add] at cA
    go_wp2_with fail
    refine cA.mono ?_
    rintro e w8 ⟨A8, zs, c8, rfl, hc8, hn8, hv8, hr8, b8⟩
    have HV := Lib.hid hv8
    clear hv8 cA
    go_wp2_with fail
    go_ret
    exact ⟨A8, zs, c8, rfl, hc8, hn8, by rw [HV.out, hva, Nat.gcd_zero_left], hr8, B7.trans (b8.mono B7.size)⟩
  · rw [decide_eq_false hx0]
    go_wp2_with fail
    refine cY.mono ?_
    rintro e w8 ⟨rfl, m8, hw8⟩
    have b8 : Below w7.heap.size w7 w8 := by rw [hw8]; exact below_drewN (Below.refl _ _) m8
    have B8 := B7.trans (b8.mono B7.size)
    have hx8 := hx7.on b8
    have hy8 := hy7.on b8
    clear hw8 cY
    by_cases hy0 : y2.length = 0
    · rw [decide_eq_true hy0]
      have cA := ref_add a b A A' ca cb _ _ w8 (h.on B8) (h'.on B8) (fun g hg => hg) (fun g hg => hg) (by omega) (by omega) ha hb
      have hva : val 4294967296 b = 0 := by rw [← hv5, List.eq_nil_of_length_eq_zero hy0]; rfl
      rw [hva, Nat.add_zero] at cA
      go_wp2_with fail
      refine cA.mono ?_
      rintro e w8 ⟨A8, zs, c8, rfl, hc8, hn8, hv8, hr8, b8⟩
      have HV := Lib.hid hv8
      clear hv8 cA
      go_wp2_with fail
      go_ret
      exact ⟨A8, zs, c8, rfl, hc8, hn8, by rw [HV.out, hva, Nat.gcd_zero_right], hr8, B8.trans (b8.mono B8.size)⟩
    · rw [decide_eq_false hy0]
      have hxp : 0 < val 4294967296 x2 := pos_of hn2 hx0
      have hyp : 0 < val 4294967296 y2 := pos_of hn5 hy0
      obtain ⟨G, hG⟩ : ∃ G, Nat.gcd (val 4294967296 a) (val 4294967296 b) = G := ⟨_, rfl⟩
      have hg2 : Nat.gcd (val 4294967296 x2) (val 4294967296 y2) * 2 ^ 0 = G := by rw [hv2, hv5, hG]; simp
      have hGb : ∀ d t, d * 2 ^ t = G → 0 < d → t ≤ 134217728 := fun d t he hd => twos_le ha hl hG (by rw [← hv2]; exact hxp) he hd
      have HGG := Lib.hid hG
      have HGB := Lib.hid hGb
      have hxl : x2.length ≤ 4194304 := by omega
      have hyl : y2.length ≤ 4194304 := by omega
      clear hGb hG hv2 hv5 hx hx7 hy7 hr6 B6 B7 B6' b7 b8 hx0 hy0 ha hb h h' l2 l5 hl hl'
      go_wp2_with fail
      go_loopg [5, 6, 7] (val 4294967296 x2) (fun gh vx vy vt wr => ∃ (X Y : Option Addr) (x y : List Nat) (dx dy t : Nat), val 4294967296 x = gh ∧ vx = .slice X x.length dx ∧ vy = .slice Y y.length dy ∧ vt = .int .i64 t ∧ x.length ≤ dx ∧ y.length ≤ dy ∧ x.length ≤ 4194304 ∧ y.length ≤ 4194304 ∧ Norm 4294967296 x ∧ Norm 4294967296 y ∧ 0 < val 4294967296 x ∧ 0 < val 4294967296 y ∧
        Nat.gcd (val 4294967296 x) (val 4294967296 y) * 2 ^ t = G ∧ Rd wr (fun g => g < wr.heap.size) .u64 X x ∧ Rd wr (fun g => g < wr.heap.size) .u64 Y y ∧ Below w.heap.size w wr)
      case atStart => exact ⟨A3, A6, x2, y2, c3, c6, 0, rfl, rfl, rfl, rfl, hc3, hc6, hxl, hyl, hn2, hn5, hxp, hyp, hg2, hx8, hy8, B8⟩
      case round =>
        clear hc3 hc6 hxl hyl hn2 hn5 hxp hyp hg2 hx8 hy8 B8
        obtain ⟨X, Y, x, y, dx, dy, t, hgh, rfl, rfl, rfl, hdx, hdy, hxl, hyl, hxn, hyn, hxp, hyp, hg, hrx, hry, hB⟩ := hrel
        have ht := HGB.out _ _ hg (Nat.gcd_pos_of_pos_left _ hxp)
        obtain ⟨bx, ox, p, rfl, hbx, hcx, hp1, hpm, hxlen⟩ := first_digit hrx hxn hxp
        obtain ⟨by', oy, q, rfl, hby, hcy, hq1, hqm, hylen⟩ := first_digit hry hyn hyp
        have HH := Lib.hid hgh
        have HG := Lib.hid hg
        have HPM := Lib.hid hpm
        have HQM := Lib.hid hqm
        have hs := hB.size
        clear hgh hg hpm hqm
        by_cases hboth : p % 2 = 0 ∧ q % 2 = 0
        · obtain ⟨hpe, hqe⟩ := hboth
          have hpi : (p : Int) % 2 = 0 := by omega
          have hqi : (q : Int) % 2 = 0 := by omega
          have cX := r3_halved x _ dx wr hrx (by omega) hxn.1
          go_wp2_with fail
          refine cX.mono ?_
          rintro e w9 ⟨A9, zs, c9, rfl, hc9, hn9, hv9, -, hr9, b9⟩
          have cY := r3_halved y _ dy w9 (hry.on b9) (by omega) hyn.1
          have B9 := hB.trans (b9.mono hs)
          have HV9 := Lib.hid hv9
          clear cX hv9
          go_wp2_with fail
          refine cY.mono ?_
          rintro e w10 ⟨A10, us, c10, rfl, hc10, hn10, hv10, -, hr10, b10⟩
          have HV10 := Lib.hid hv10
          clear cY hv10
          go_wp2_with fail
          have hx2 : val 4294967296 x % 2 = 0 := by rw [← HPM.out]; exact hpe
          have hy2 : val 4294967296 y % 2 = 0 := by rw [← HQM.out]; exact hqe
          go_roundg (val 4294967296 zs)
          case measure => rw [HV9.out, ← HH.out]; omega
          case rel =>
            refine ⟨A9, A10, zs, us, c9, c10, t + 1, rfl, rfl, rfl, by go_num, hc9, hc10, Nat.le_trans (len_le (b := 4294967296) (by omega) hn9.2 hxn.1 (by rw [HV9.out]; exact Nat.div_le_self _ _)) hxl, Nat.le_trans (len_le (b := 4294967296) (by omega) hn10.2 hyn.1 (by rw [HV10.out]; exact Nat.div_le_self _ _)) hyl, hn9, hn10, by rw [HV9.out]; omega, by rw [HV10.out]; omega, ?_, hr9.on b10, hr10, B9.trans (b10.mono B9.size)⟩
            rw [HV9.out, HV10.out, ← HG.out, gcd_even_even hx2 hy2, Nat.pow_succ, Nat.mul_assoc, Nat.mul_comm 2]
        · have hcase : p % 2 = 1 ∨ (p % 2 = 0 ∧ q % 2 = 1) := by omega
          have hodd : val 4294967296 x % 2 = 1 ∨ val 4294967296 y % 2 = 1 := by rw [← HPM.out, ← HQM.out]; omega
          rcases hcase with hp | ⟨hp, hq⟩
          all_goals
            first
              | have hpi : (p : Int) % 2 = 0 := by omega
                have hqi : (((q : Nat) : Int) % 2 == 0) = false := by simp; omega
              | have hpi : (((p : Nat) : Int) % 2 == 0) = false := by simp; omega
            go_wp2_with fail
            clear hpi hcx hcy hbx hby hp1 hq1 hxlen hylen
            go_loopg [5, 6] (val 4294967296 x + val 4294967296 y) (fun gh vx vy wr => ∃ (X Y : Option Addr) (x y : List Nat) (dx dy : Nat), val 4294967296 x + val 4294967296 y = gh ∧ vx = .slice X x.length dx ∧ vy = .slice Y y.length dy ∧ x.length ≤ dx ∧ y.length ≤ dy ∧ x.length ≤ 4194304 ∧ y.length ≤ 4194304 ∧ Norm 4294967296 x ∧ Norm 4294967296 y ∧ 0 < val 4294967296 y ∧
              Nat.gcd (val 4294967296 x) (val 4294967296 y) * 2 ^ t = G ∧ (val 4294967296 x % 2 = 1 ∨ val 4294967296 y % 2 = 1) ∧ Rd wr (fun g => g < wr.heap.size) .u64 X x ∧ Rd wr (fun g => g < wr.heap.size) .u64 Y y ∧ Below w.heap.size w wr)
            case atStart => exact ⟨_, _, x, y, dx, dy, rfl, rfl, rfl, hdx, hdy, hxl, hyl, hxn, hyn, hyp, HG.out, hodd, hrx, hry, hB⟩
            case round =>
              clear hxl hyl hxn hyn hxp hyp HG HH HPM HQM hrx hry hB hs hodd hdx hdy
              obtain ⟨X, Y, x, y, dx, dy, hgh, rfl, rfl, hdx, hdy, hxl, hyl, hxn, hyn, hyp, hg, hodd, hrx, hry, hB⟩ := hrel
              have HH := Lib.hid hgh
              have HG := Lib.hid hg
              have HO := Lib.hid hodd
              have hs := hB.size
              have cZ := r3_zero x X dx wr hrx (by omega) hxn.2
              clear hgh hg hodd
              by_cases hx0 : x.length = 0
              · rw [decide_eq_true hx0] at cZ
                obtain rfl : x = [] := List.eq_nil_of_length_eq_zero hx0
                have hD : val 4294967296 y * 2 ^ t = G := by have := HG.out; simpa [val] using this
                have HD := Lib.hid hD
                clear hD hx0
                go_wp2_with fail
                refine cZ.mono ?_
                rintro e w9 ⟨rfl, m9, hw9⟩
                have b9 : Below wr.heap.size wr w9 := by rw [hw9]; exact below_drewN (Below.refl _ _) m9
                have B9 := hB.trans (b9.mono hs)
                have hy9 := hry.on b9
                clear hw9 cZ hry hrx
                go_wp2_with fail
                go_loopg [8, 9] y.length (fun g v i wr => ∃ (k : Nat) (ys : List Nat), g + k = y.length ∧ i = .int .i64 k ∧ Own wr w9.heap.size 102 .u32 v ys ∧ ys.length = k ∧ ys = y.take k ∧ Below w9.heap.size w9 wr)
                case atStart => exact ⟨0, [], by omega, rfl, Own.nil _ _ _ _, rfl, rfl, Below.refl _ _⟩
                case round =>
                  obtain ⟨k, ys, hg, rfl, hown, rfl, hyv, hbel⟩ := hrel
                  have HK := Lib.hid hg
                  have HV := Lib.hid hyv
                  clear hg hyv
                  by_cases hlt : ys.length < y.length
                  · obtain ⟨b3, o3, rfl, hb3, hcell⟩ := (hy9.on hbel).at_ hlt
                    have hp1 := hyn.1.get hlt
                    have hts := take_succ_get hlt
                    obtain ⟨p3, hp3⟩ : ∃ p, y[ys.length] = p := ⟨_, rfl⟩
                    rw [hp3] at hcell hp1 hts
                    have HT := Lib.hid hts
                    clear hp3 hts
                    go_wp2_with (at_builtin; refine wpList_app rfl _ _ _ rfl w9.heap.size 102 .u32 4 Tryz.underlying35 info_u32 u8 ys rfl (hown.alloc _) wr.heap.size 1 1 [p3] rfl rfl (by unfold Row; rw [heap_alloc_new]; simp [cells]) (by omega) (by omega) (by omega) (by have := hbel.size; simp; omega) ?_; intro v1 w3 hown1 hgrow)
                    have hb3 := below_app (hbel.alloc hbel.size _) hgrow (hown.alloc _) (by have := hbel.size; simp; omega) (Nat.le_refl _)
                    go_roundg (gk - 1)
                    case measure => have := HK.out; omega
                    case rel => exact ⟨ys.length + 1, ys ++ [p3], by have := HK.out; omega, by go_num, hown1, by simp, by rw [HT.out, ← HV.out], hb3⟩
                  · obtain ⟨A7, c7, rfl, hc7, _, hrd⟩ := hown.form
                    have hk : ys.length = y.length := by have := HK.out; omega
                    obtain rfl : ys = y := by have := HV.out; rw [hk, List.take_length] at this; exact this
                    have ht := HGB.out _ _ HD.out hyp
                    have cP := ref_Power t (by omega) wr
                    have Bw := B9.trans (hbel.mono B9.size)
                    have hrw := hrd.imp (S' := fun g => g < wr.heap.size) (fun g hg => hg.2)
                    clear HK HV hk hrd hown
                    go_wp2_with fail
                    refine cP.mono ?_
                    rintro e w10 ⟨A8, zs, c8, rfl, hc8, hn8, hv8, hr8, b10⟩
                    have B10 := Bw.trans (b10.mono Bw.size)
                    have l8 := pow_len hn8.2 hv8 ht
                    have cM := ref_Mul ys zs A7 A8 c7 c8 _ _ w10 (hrw.on b10) hr8 (fun g hg => hg) (fun g hg => hg) (by omega) (by omega) hyn.1 hn8.1
                    rw [hv8, HD.out] at cM
                    clear cP hv8
                    go_wp2_with fail
                    refine cM.mono ?_
                    rintro e w11 ⟨A9, us, c9, rfl, hc9, hn9, hv9, hr9, b11⟩
                    have HV9 := Lib.hid hv9
                    clear cM hv9
                    go_wp2_with fail
                    go_ret
                    exact ⟨A9, us, c9, rfl, hc9, hn9, by rw [HV9.out, HGG.out], hr9, B10.trans (b11.mono B10.size)⟩
              · rw [decide_eq_false hx0] at cZ
                have hxp := pos_of hxn hx0
                go_wp2_with fail
                refine cZ.mono ?_
                rintro e w9 ⟨rfl, m9, hw9⟩
                have b9 : Below wr.heap.size wr w9 := by rw [hw9]; exact below_drewN (Below.refl _ _) m9
                have B9 := hB.trans (b9.mono hs)
                have hy9 := hry.on b9
                have hx9 := hrx.on b9
                clear hw9 cZ hry hrx
                go_wp2_with fail
                go_loopg [5] (val 4294967296 x) (fun gh vx wa => ∃ (X' : Option Addr) (x' : List Nat) (dx' : Nat), val 4294967296 x' = gh ∧ vx = .slice X' x'.length dx' ∧ x'.length ≤ dx' ∧ x'.length ≤ 4194304 ∧ Norm 4294967296 x' ∧ 0 < val 4294967296 x' ∧ val 4294967296 x' ≤ val 4294967296 x ∧
                  Nat.gcd (val 4294967296 x') (val 4294967296 y) * 2 ^ t = G ∧ (val 4294967296 x' % 2 = 1 ∨ val 4294967296 y % 2 = 1) ∧ Rd wa (fun g => g < wa.heap.size) .u64 X' x' ∧ Below w9.heap.size w9 wa)
                case atStart => exact ⟨X, x, dx, rfl, rfl, hdx, hxl, hxn, hxp, Nat.le_refl _, HG.out, HO.out, hx9, Below.refl _ _⟩
                case round =>
                  obtain ⟨X', x', dx', hgh, rfl, hdx', hxl', hxn', hxp', hxle, hg', hodd', hrx', hB'⟩ := hrel
                  obtain ⟨b3, o3, p3, rfl, hb3, hcx, hp3, hpm, hxlen⟩ := first_digit hrx' hxn' hxp'
                  have HH2 := Lib.hid hgh
                  have HG2 := Lib.hid hg'
                  have HO2 := Lib.hid hodd'
                  have HPM := Lib.hid hpm
                  have HXL := Lib.hid hxle
                  clear hgh hg' hodd' hpm hxle
                  by_cases hpe : p3 % 2 = 0
                  · have hpi : (p3 : Int) % 2 = 0 := by omega
                    have cX := r3_halved x' _ dx' wr hrx' (by omega) hxn'.1
                    go_wp2_with fail
                    refine cX.mono ?_
                    rintro e w10 ⟨A9, zs, c9, rfl, hc9, hn9, hv9, -, hr9, b10⟩
                    have HV9 := Lib.hid hv9
                    clear cX hv9
                    go_wp2_with fail
                    have hx2 : val 4294967296 x' % 2 = 0 := by rw [← HPM.out]; exact hpe
                    have hy2 : val 4294967296 y % 2 = 1 := by rcases HO2.out with h | h; omega; exact h
                    go_roundg (val 4294967296 zs)
                    case measure => rw [HV9.out, ← HH2.out]; omega
                    case rel => exact ⟨A9, zs, c9, rfl, rfl, hc9, Nat.le_trans (len_le (b := 4294967296) (by omega) hn9.2 hxn'.1 (by rw [HV9.out]; exact Nat.div_le_self _ _)) hxl', hn9, by rw [HV9.out]; omega, by rw [HV9.out]; have := HXL.out; omega, by rw [HV9.out, gcd_even_odd hx2 hy2]; exact HG2.out, .inr hy2, hr9, hB'.trans (b10.mono hB'.size)⟩
                  · have hpi : (((p3 : Nat) : Int) % 2 == 0) = false := by simp; omega
                    have hxo : val 4294967296 x' % 2 = 1 := by rw [← HPM.out]; omega
                    have HXO := Lib.hid hxo
                    have B10 := B9.trans (hB'.mono B9.size)
                    have hy10 := hy9.on hB'
                    have HGX := HG2
                    have HHX := HXL
                    clear hxo HO2 HG2 HPM HXL
                    go_wp2_with fail
                    clear hpi hcx hp3 hpe
                    go_loopg [6] (val 4294967296 y) (fun gh vy wb => ∃ (Y' : Option Addr) (y' : List Nat) (dy' : Nat), val 4294967296 y' = gh ∧ vy = .slice Y' y'.length dy' ∧ y'.length ≤ dy' ∧ y'.length ≤ 4194304 ∧ Norm 4294967296 y' ∧ 0 < val 4294967296 y' ∧ val 4294967296 y' ≤ val 4294967296 y ∧
                      Nat.gcd (val 4294967296 x') (val 4294967296 y') * 2 ^ t = G ∧ Rd wb (fun g => g < wb.heap.size) .u64 Y' y' ∧ Rd wb (fun g => g < wb.heap.size) .u64 (some ⟨b3, o3, none⟩) x' ∧ Below w.heap.size w wb)
                    case atStart => exact ⟨Y, y, dy, rfl, rfl, hdy, hyl, hyn, hyp, Nat.le_refl _, HGX.out, hy10, hrx', B10⟩
                    case round =>
                      clear hrx' hy10 B10 hb3 HGX
                      obtain ⟨Y', y', dy', hgh, rfl, hdy', hyl', hyn', hyp', hyle, hg', hry', hrx', hB'⟩ := hrel
                      obtain ⟨b4, o4, p4, rfl, hb4, hcy, hp4, hpm, hylen⟩ := first_digit hry' hyn' hyp'
                      have HH3 := Lib.hid hgh
                      have HG3 := Lib.hid hg'
                      have HPM := Lib.hid hpm
                      have HYL := Lib.hid hyle
                      have hs' := hB'.size
                      clear hgh hg' hpm hyle
                      by_cases hpe : p4 % 2 = 0
                      · have hpi : (p4 : Int) % 2 = 0 := by omega
                        have cX := r3_halved y' _ dy' wr hry' (by omega) hyn'.1
                        go_wp2_with fail
                        refine cX.mono ?_
                        rintro e w10 ⟨A9, zs, c9, rfl, hc9, hn9, hv9, -, hr9, b10⟩
                        have HV9 := Lib.hid hv9
                        clear cX hv9
                        go_wp2_with fail
                        have hy2 : val 4294967296 y' % 2 = 0 := by rw [← HPM.out]; exact hpe
                        go_roundg (val 4294967296 zs)
                        case measure => rw [HV9.out, ← HH3.out]; omega
                        case rel => exact ⟨A9, zs, c9, rfl, rfl, hc9, Nat.le_trans (len_le (b := 4294967296) (by omega) hn9.2 hyn'.1 (by rw [HV9.out]; exact Nat.div_le_self _ _)) hyl', hn9, by rw [HV9.out]; omega, by rw [HV9.out]; have := HYL.out; omega, by rw [HV9.out, Nat.gcd_comm, gcd_even_odd hy2 HXO.out, Nat.gcd_comm]; exact HG3.out, hr9, hrx'.on b10, hB'.trans (b10.mono hs')⟩
                      · have hpi : (((p4 : Nat) : Int) % 2 == 0) = false := by simp; omega
                        have hyo : val 4294967296 y' % 2 = 1 := by rw [← HPM.out]; omega
                        have HYO := Lib.hid hyo
                        have cB := r3_below x' y' _ _ dx' dy' wr hrx' hry' (by omega) hxn' hyn'
                        obtain ⟨tt, htt⟩ : ∃ tt, decide (val 4294967296 x' < val 4294967296 y') = tt := ⟨_, rfl⟩
                        rw [htt] at cB
                        have HTT := Lib.hid htt
                        clear hyo htt HPM
                        go_wp2_with fail
                        refine cB.mono ?_
                        rintro e w10 ⟨rfl, m10, hw10⟩
                        have b10 : Below wr.heap.size wr w10 := by rw [hw10]; exact below_drewN (Below.refl _ _) m10
                        have B10 := hB'.trans (b10.mono hs')
                        have hx10 := hrx'.on b10
                        have hy10 := hry'.on b10
                        clear hw10 cB hpi hcy
                        cases tt with
                        | true =>
                          have hlt := of_decide_eq_true HTT.out
                          have cL := r3_less y' x' _ _ dy' dx' w10 hy10 hx10 (by omega) (len_le (b := 4294967296) (by omega) hxn'.2 hyn'.1 (by omega)) hyn'.1 hxn'.1 (by omega)
                          have HLT := Lib.hid hlt
                          clear hlt
                          go_wp2_with fail
                          refine cL.mono ?_
                          rintro e w11 ⟨A9, zs, c9, rfl, hc9, hn9, hv9, hr9, b11⟩
                          have HV9 := Lib.hid hv9
                          clear cL hv9
                          go_wp2_with fail
                          go_roundg (val 4294967296 x' + val 4294967296 zs)
                          case measure => rw [HV9.out, ← HH.out]; have := HLT.out; have := HYL.out; have := HHX.out; omega
                          case rel => exact ⟨_, A9, x', zs, dx', c9, rfl, rfl, rfl, hdx', hc9, hxl', Nat.le_trans (len_le (b := 4294967296) (by omega) hn9.2 hyn'.1 (by rw [HV9.out]; exact Nat.sub_le _ _)) hyl', hxn', hn9, by rw [HV9.out]; have := HLT.out; omega, by rw [HV9.out, Nat.gcd_comm, Nat.gcd_sub_self_left (Nat.le_of_lt HLT.out), Nat.gcd_comm]; exact HG3.out, .inl HXO.out, hx10.on b11, hr9, B10.trans (b11.mono B10.size)⟩
                        | false =>
                          have hlt := of_decide_eq_false HTT.out
                          have cL := r3_less x' y' _ _ dx' dy' w10 hx10 hy10 (by omega) (len_le (b := 4294967296) (by omega) hyn'.2 hxn'.1 (by omega)) hxn'.1 hyn'.1 (by omega)
                          have HLT := Lib.hid hlt
                          clear hlt
                          go_wp2_with fail
                          refine cL.mono ?_
                          rintro e w11 ⟨A9, zs, c9, rfl, hc9, hn9, hv9, hr9, b11⟩
                          have HV9 := Lib.hid hv9
                          clear cL hv9
                          go_wp2_with fail
                          go_roundg (val 4294967296 zs + val 4294967296 y')
                          case measure => rw [HV9.out, ← HH.out]; have := HLT.out; have := HYL.out; have := HHX.out; omega
                          case rel => exact ⟨A9, _, zs, y', c9, dy', rfl, rfl, rfl, hc9, hdy', Nat.le_trans (len_le (b := 4294967296) (by omega) hn9.2 hxn'.1 (by rw [HV9.out]; exact Nat.sub_le _ _)) hxl', hyl', hn9, hyn', hyp', by rw [HV9.out, Nat.gcd_sub_self_left (by have := HLT.out; omega)]; exact HG3.out, .inr HYO.out, hr9, hy10.on b11, B10.trans (b11.mono B10.size)⟩
end Go.Proofs.YtdmoibphidipeaaGreatDoor
/- What the document's own Lcm, Reduce and Sqrt answer. -/

namespace Go.Proofs.YtdmoibphidipeaaGreatDoor
open Go.RowKit Num

set_option maxHeartbeats 800000 in
theorem r3_Reduce (a b : List Nat) (A A' : Option Addr) (ca cb : Nat) (w : World) (h : Rd w (fun g => g < w.heap.size) .u32 A a) (h' : Rd w (fun g => g < w.heap.size) .u32 A' b) (hl : a.length ≤ 4194304) (hl' : b.length ≤ 4194304) (ha : Dg 4294967296 a) (hb : Dg 4294967296 b) :
    Calls Tryz.prog 142 #[.slice A a.length ca, .slice A' b.length cb] w (GivesTwo (val 4294967296 a / Nat.gcd (val 4294967296 a) (val 4294967296 b)) (val 4294967296 b / Nat.gcd (val 4294967296 a) (val 4294967296 b)) w) := by
  have cG := r3_Gcd a b A A' ca cb w h h' hl hl' ha hb
  go_enter Tryz.func142, Tryz.ntmps142
  go_wp2_with fail
  refine cG.mono ?_
  rintro e w1 ⟨A1, g, c1, rfl, hc1, hn1, hv1, hr1, b1⟩
  have hgl := gcd_len hn1 ha hb hv1 (n := 4194304) (by omega) (by omega)
  by_cases hg0 : g.length = 0
  · obtain rfl : g = [] := List.eq_nil_of_length_eq_zero hg0
    have hz : Nat.gcd (val 4294967296 a) (val 4294967296 b) = 0 := by rw [← hv1]; rfl
    have HZ := Lib.hid hz
    clear hz hv1 hg0 cG
    go_wp2_with fail
    go_ret2
    exact ⟨none, [], 0, none, [], 0, rfl, by simp, by simp, norm_nil _, norm_nil _, by rw [HZ.out, Nat.div_zero]; rfl, by rw [HZ.out, Nat.div_zero]; rfl, Rd.nil, Rd.nil, b1⟩
  · have cD := ref_Div a g A A1 ca c1 _ _ w1 (h.on b1) hr1 (fun g hg => hg) (fun g hg => hg) (by omega) (by omega) ha hn1.1
    have cE := fun (V : World) (hV : Below w1.heap.size w1 V) => ref_Div b g A' A1 cb c1 _ _ V ((h'.on b1).on hV) (hr1.on hV) (fun g hg => hg) (fun g hg => hg) (by omega) (by omega) hb hn1.1
    rw [hv1] at cD
    simp only [hv1] at cE
    clear cG hv1
    go_wp2_with fail
    refine cD.mono ?_
    rintro e w2 ⟨A2, q, c2, A3, r, c3, rfl, hc2, -, hn2, -, hv2, -, hr2, -, b2⟩
    have B2 := b1.trans (b2.mono b1.size)
    have HV := Lib.hid hv2
    have c5 := cE w2 b2
    clear cD hv2 cE
    go_wp2_with fail
    refine c5.mono ?_
    rintro e w3 ⟨A4, q4, c4, A5, r5, c5, rfl, hc4, -, hn4, -, hv4, -, hr4, -, b4⟩
    have HW := Lib.hid hv4
    clear hv4
    go_wp2_with fail
    go_ret2
    exact ⟨A2, q, c2, A4, q4, c4, rfl, hc2, hc4, hn2, hn4, HV.out, HW.out, hr2.on b4, hr4, B2.trans (b4.mono B2.size)⟩

end Go.Proofs.YtdmoibphidipeaaGreatDoor
/- The third layer's laws: 6 is in 12 and 18. -/

namespace Go.Proofs.YtdmoibphidipeaaGreatDoor
open Go.RowKit Num

/-- one word that the text writes out -/
theorem one_word (w : World) (v : Nat) (z : Int) (hz : z = (v : Int)) : ∃ W, w.alloc (.cells #[.int .u32 z] 102) = W ∧ Rd W (fun g => g < W.heap.size) .u32 (some ⟨w.heap.size, 0, none⟩) [v] ∧ Below w.heap.size w W ∧ W.heap.size = w.heap.size + 1 := by
  subst hz
  have hr : Row (w.alloc (.cells #[.int .u32 (v : Int)] 102)) w.heap.size 102 .u32 [v] := Row.new w 102 .u32 [v]
  exact ⟨_, rfl, hr.rd_all hr.lt, below_one _ _, by simp⟩
theorem dg_one {v : Nat} (h : v < 4294967296) : Dg 4294967296 [v] := by simpa [Dg] using h
theorem norm_one {v : Nat} (h : v < 4294967296) (h0 : 0 < v) : Norm 4294967296 [v] := ⟨dg_one h, by simp [Top]; omega⟩

end Go.Proofs.YtdmoibphidipeaaGreatDoor
