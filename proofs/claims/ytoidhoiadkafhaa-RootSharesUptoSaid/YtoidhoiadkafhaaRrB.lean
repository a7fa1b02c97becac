/- What the document's own halved and less answer. -/
import Derived.Test.YtoidhoiadkafhaaRrA
namespace Go.Proofs.Ytoidhoiadkafhaa
open Go.RowKit Num

theorem half_step {V T K x0 xk xk1 : Nat} (h : 2 * V + x0 % 2 = T + K * (xk % 2)) : 2 * (V + K * (xk / 2 + xk1 % 2 * 2147483648)) + x0 % 2 = T + K * xk + K * 4294967296 * (xk1 % 2) := by
  have e := Nat.div_add_mod xk 2
  have e2 : K * xk = K * (2 * (xk / 2)) + K * (xk % 2) := by rw [← Nat.mul_add, e]
  have e3 : K * 4294967296 * (xk1 % 2) = K * (xk1 % 2 * 4294967296) := by rw [Nat.mul_assoc, Nat.mul_comm 4294967296]
  rw [e2, e3]
  simp only [Nat.mul_add, Nat.mul_left_comm 2 K]
  have e4 : K * (2 * (xk1 % 2 * 2147483648)) = K * (xk1 % 2 * 4294967296) := by congr 1; omega
  omega

set_option maxHeartbeats 1600000 in
/-- half of a number -/
theorem r3_halved (x : List Nat) (A : Option Addr) (c : Nat) (w : World) (h : Rd w (fun g => g < w.heap.size) .u64 A x) (hl : x.length ≤ 1073741824) (hx : Dg 4294967296 x) :
    Calls Try.prog 34 #[.slice A x.length c] w fun e w' => ∃ A3 zs c3, e = .returned (.slice A3 zs.length c3) ∧ zs.length ≤ c3 ∧ Norm 4294967296 zs ∧ val 4294967296 zs = val 4294967296 x / 2 ∧ val 4294967296 x % 2 = x.getD 0 0 % 2 ∧
      Rd w' (fun b => b < w'.heap.size) .u64 A3 zs ∧ Below w.heap.size w w' := by
  go_enter Try.func34, Try.ntmps34
  go_wp2_with fail
  go_loopg [3, 4, 5] x.length (fun g v i _ wr => ∃ (k : Nat) (ys : List Nat), g + k = x.length ∧ i = .int .i64 k ∧ Own wr w.heap.size 30 .u64 v ys ∧ ys.length = k ∧ Dg 4294967296 ys ∧ 2 * val 4294967296 ys + x.getD 0 0 % 2 = val 4294967296 (x.take k) + 4294967296 ^ k * (x.getD k 0 % 2) ∧ Below w.heap.size w wr)
  case atStart => exact ⟨0, [], by omega, rfl, Own.nil _ _ _ _, rfl, Dg.nil _, by simp [val], Below.refl _ _⟩
  case round =>
    obtain ⟨k, ys, hg, rfl, hown, rfl, hyd, hyv, hbel⟩ := hrel
    have HG := Lib.hid hg
    have HV := Lib.hid hyv
    clear hg hyv
    by_cases hlt : ys.length < x.length
    · obtain ⟨b, o, rfl, hb, hcells⟩ := (h.on hbel) (by omega)
      have hcell := hcells ys.length hlt
      have hp1 := hx.get hlt
      have hts := val_take_succ (b := 4294967296) hlt
      have hpd : x.getD ys.length 0 = x[ys.length] := by rw [List.getD_eq_getElem?_getD, List.getElem?_eq_getElem hlt, Option.getD_some]
      obtain ⟨p, hp⟩ : ∃ p, x[ys.length] = p := ⟨_, rfl⟩
      rw [hp] at hcell hp1 hts hpd
      have HT := Lib.hid hts
      have HPD := Lib.hid hpd
      clear hp hts hpd
      by_cases hlt2 : ys.length + 1 < x.length
      · have hcell2 := hcells (ys.length + 1) hlt2
        have hq1 := hx.get hlt2
        have hqd : x.getD (ys.length + 1) 0 = x[ys.length + 1] := by rw [List.getD_eq_getElem?_getD, List.getElem?_eq_getElem hlt2, Option.getD_some]
        obtain ⟨q, hq⟩ : ∃ p, x[ys.length + 1] = p := ⟨_, rfl⟩
        rw [hq] at hcell2 hq1 hqd
        have HQD := Lib.hid hqd
        have hi1 : (ys.length : Int) + 1 < (x.length : Int) := by omega
        rw [show o + (ys.length + 1) = o + (ys.length + 1) from rfl] at hcell2
        clear hq hqd hcells
        go_wp2_with (at_builtin; refine wpList_app rfl _ _ _ rfl w.heap.size 30 .u64 8 Try.underlying38 info_u64 u3 ys rfl (hown.alloc _) wr.heap.size 1 1 [p / 2 + q % 2 * 2147483648] rfl rfl (by unfold Row; rw [heap_alloc_new]; simp [cells]) (by omega) (by omega) (by omega) (by have := hbel.size; simp; omega) ?_; intro v1 w3 hown1 hgrow)
        have hb3 := below_app (hbel.alloc hbel.size _) hgrow (hown.alloc _) (by have := hbel.size; simp; omega) (Nat.le_refl _)
        go_roundg (gk - 1)
        case measure => have := HG.out; omega
        case rel =>
          refine ⟨ys.length + 1, ys ++ [p / 2 + q % 2 * 2147483648], by have := HG.out; omega, by go_num, hown1, by simp, hyd.snoc (by omega), ?_, hb3⟩
          have hv := HV.out
          rw [HPD.out] at hv
          rw [val_snoc, HT.out, HQD.out, Nat.pow_succ]
          exact half_step (xk1 := q) hv
      · have hqd : x.getD (ys.length + 1) 0 = 0 := getD_ge (by omega)
        have HQD := Lib.hid hqd
        have hi1 : ¬ (ys.length : Int) + 1 < (x.length : Int) := by omega
        clear hqd hcells
        go_wp2_with (at_builtin; refine wpList_app rfl _ _ _ rfl w.heap.size 30 .u64 8 Try.underlying38 info_u64 u3 ys rfl (hown.alloc _) wr.heap.size 1 1 [p / 2] rfl rfl (by unfold Row; rw [heap_alloc_new]; simp [cells]) (by omega) (by omega) (by omega) (by have := hbel.size; simp; omega) ?_; intro v1 w3 hown1 hgrow)
        have hb3 := below_app (hbel.alloc hbel.size _) hgrow (hown.alloc _) (by have := hbel.size; simp; omega) (Nat.le_refl _)
        go_roundg (gk - 1)
        case measure => have := HG.out; omega
        case rel =>
          refine ⟨ys.length + 1, ys ++ [p / 2], by have := HG.out; omega, by go_num, hown1, by simp, hyd.snoc (by omega), ?_, hb3⟩
          have hv := HV.out
          rw [HPD.out] at hv
          rw [val_snoc, HT.out, HQD.out, Nat.pow_succ]
          have := half_step (xk1 := 0) hv
          rw [Nat.zero_mod, Nat.zero_mul, Nat.add_zero] at this
          exact this
    · have hk : ys.length = x.length := by have := HG.out; omega
      have hw : val 4294967296 ys = val 4294967296 x / 2 ∧ val 4294967296 x % 2 = x.getD 0 0 % 2 := by
        have hv := HV.out
        rw [hk, List.take_length, getD_ge (Nat.le_refl _), Nat.zero_mod, Nat.mul_zero, Nat.add_zero] at hv
        have := Nat.mod_lt (x.getD 0 0) (show 0 < 2 by omega)
        omega
      have HW := Lib.hid hw
      clear hw
      obtain ⟨A3, c3, rfl, hc3, _, hrd⟩ := hown.form
      have hlen : ys.length ≤ 1073741824 := by have := HG.out; omega
      go_wp2_with fail
      go_loopg [3] ys.length (fun gh v w2 => ∃ n : Nat, n = gh ∧ v = .slice A3 n c3 ∧ n ≤ ys.length ∧ (∀ j, n ≤ j → ∀ hj : j < ys.length, ys[j] = 0) ∧ w2 = wr)
      case atStart => exact ⟨ys.length, rfl, rfl, Nat.le_refl _, fun j h1 h2 => by omega, rfl⟩
      case round =>
        obtain ⟨n, rfl, rfl, hn, hz, rfl⟩ := hrel
        have HZ := Lib.hid hz
        clear hz
        by_cases h0 : 0 < n
        · obtain ⟨b, o, rfl, hb, hcell⟩ := hrd.at_ (j := n - 1) (by omega)
          obtain ⟨p, hp⟩ : ∃ p, ys[n - 1] = p := ⟨_, rfl⟩
          rw [hp] at hcell
          have HP := Lib.hid hp
          clear hp
          have hn0 : (0 : Int) < (n : Int) := by omega
          by_cases hp0 : p = 0
          · subst hp0
            go_wp2_with fail
            go_roundg (n - 1)
            case measure => omega
            case rel => exact ⟨n - 1, rfl, rfl, by omega, fun j h1 h2 => by
              by_cases e : j = n - 1
              · subst e; exact HP.out
              · exact HZ.out j (by omega) h2, rfl⟩
          · have hpi : ¬ ((p : Int) = 0) := by omega
            go_wp2_with fail
            go_ret
            have hnz : n - 1 < ys.length := by omega
            have hN := Norm.take hyd hn (.inr ⟨hnz, by rw [HP.out]; exact hp0⟩)
            have hl2 : (ys.take n).length = n := by rw [List.length_take]; omega
            exact ⟨_, ys.take n, c3, by rw [hl2]; rfl, by omega, hN, by rw [val_take_of_zero HZ.out]; exact HW.out.1, HW.out.2, (hrd.take n).imp (fun g hg => hg.2), hbel⟩
        · obtain rfl : n = 0 := by omega
          go_wp2_with fail
          go_ret
          have hN := Norm.take hyd hn (.inl rfl)
          have hl2 : (ys.take 0).length = 0 := by simp
          exact ⟨_, ys.take 0, c3, by rw [hl2]; rfl, by omega, hN, by rw [val_take_of_zero HZ.out]; exact HW.out.1, HW.out.2, (hrd.take 0).imp (fun g hg => hg.2), hbel⟩

set_option maxHeartbeats 1600000 in
/-- a number without another one, which isn't above it -/
theorem r3_less (x y : List Nat) (A A' : Option Addr) (c c' : Nat) (w : World) (h : Rd w (fun g => g < w.heap.size) .u64 A x) (h' : Rd w (fun g => g < w.heap.size) .u64 A' y) (hl : x.length ≤ 1073741824) (hyl : y.length ≤ x.length) (hx : Dg 4294967296 x) (hy : Dg 4294967296 y) (hle : val 4294967296 y ≤ val 4294967296 x) :
    Calls Try.prog 36 #[.slice A x.length c, .slice A' y.length c'] w fun e w' => ∃ A3 zs c3, e = .returned (.slice A3 zs.length c3) ∧ zs.length ≤ c3 ∧ Norm 4294967296 zs ∧ val 4294967296 zs = val 4294967296 x - val 4294967296 y ∧
      Rd w' (fun b => b < w'.heap.size) .u64 A3 zs ∧ Below w.heap.size w w' := by
  have HLE := Lib.hid hle
  clear hle
  go_enter Try.func36, Try.ntmps36
  go_wp2_with fail
  go_loopg [5, 6, 7, 8] x.length (fun g v cc i _ wr => ∃ (k cy : Nat) (ys : List Nat), g + k = x.length ∧ i = .int .i64 k ∧ cc = .int .u64 cy ∧ cy ≤ 1 ∧ Own wr w.heap.size 30 .u64 v ys ∧ ys.length = k ∧ Dg 4294967296 ys ∧ val 4294967296 ys + val 4294967296 (ext y k) = val 4294967296 (ext x k) + 4294967296 ^ k * cy ∧ Below w.heap.size w wr)
  case atStart => exact ⟨0, 0, [], by omega, rfl, rfl, by omega, Own.nil _ _ _ _, rfl, Dg.nil _, rfl, Below.refl _ _⟩
  case round =>
    obtain ⟨k, cy, ys, hg, rfl, rfl, hcy, hown, rfl, hyd, hyv, hbel⟩ := hrel
    have HG := Lib.hid hg
    have HV := Lib.hid hyv
    clear hg hyv
    by_cases hlt : ys.length < x.length
    · obtain ⟨b, o, rfl, hb, hcell⟩ := (h.on hbel).at_ hlt
      have hp1 := hx.get hlt
      have hpd : x.getD ys.length 0 = x[ys.length] := by rw [List.getD_eq_getElem?_getD, List.getElem?_eq_getElem hlt, Option.getD_some]
      obtain ⟨p, hp⟩ : ∃ p, x[ys.length] = p := ⟨_, rfl⟩
      rw [hp] at hcell hp1 hpd
      have HPD := Lib.hid hpd
      clear hp hpd
      by_cases hlt2 : ys.length < y.length
      · obtain ⟨b', o', rfl, hb', hcell2⟩ := (h'.on hbel).at_ hlt2
        have hq1 := hy.get hlt2
        have hqd : y.getD ys.length 0 = y[ys.length] := by rw [List.getD_eq_getElem?_getD, List.getElem?_eq_getElem hlt2, Option.getD_some]
        obtain ⟨q, hq⟩ : ∃ p, y[ys.length] = p := ⟨_, rfl⟩
        rw [hq] at hcell2 hq1 hqd
        have HQD := Lib.hid hqd
        clear hq hqd
        go_wp2_with (at_builtin; refine wpList_app rfl _ _ _ rfl w.heap.size 30 .u64 8 Try.underlying38 info_u64 u5 ys rfl (hown.alloc _) wr.heap.size 1 1 [(4294967296 + p - q - cy) % 4294967296] rfl rfl (by unfold Row; rw [heap_alloc_new]; simp [cells]; omega) (by omega) (by omega) (by omega) (by have := hbel.size; simp; omega) ?_; intro v1 w3 hown1 hgrow)
        have hb3 := below_app (hbel.alloc hbel.size _) hgrow (hown.alloc _) (by have := hbel.size; simp; omega) (Nat.le_refl _)
        go_roundg (gk - 1)
        case measure => have := HG.out; omega
        case rel =>
          have hv := sub_step (b := 4294967296) (x := p) (y := q) (v := 4294967296 + p - q - cy) rfl HV.out (by omega) (by omega)
          refine ⟨ys.length + 1, 1 - (4294967296 + p - q - cy) / 4294967296, ys ++ [(4294967296 + p - q - cy) % 4294967296], by have := HG.out; omega, by go_num, by congr 1; omega, by omega, hown1, by simp, hyd.snoc (by omega), ?_, hb3⟩
          rw [val_ext_succ, val_ext_succ, HPD.out, HQD.out, hv]
      · have hqd : y.getD ys.length 0 = 0 := getD_ge (by omega)
        have HQD := Lib.hid hqd
        clear hqd
        go_wp2_with (at_builtin; refine wpList_app rfl _ _ _ rfl w.heap.size 30 .u64 8 Try.underlying38 info_u64 u5 ys rfl (hown.alloc _) wr.heap.size 1 1 [(4294967296 + p - 0 - cy) % 4294967296] rfl rfl (by unfold Row; rw [heap_alloc_new]; simp [cells]; omega) (by omega) (by omega) (by omega) (by have := hbel.size; simp; omega) ?_; intro v1 w3 hown1 hgrow)
        have hb3 := below_app (hbel.alloc hbel.size _) hgrow (hown.alloc _) (by have := hbel.size; simp; omega) (Nat.le_refl _)
        go_roundg (gk - 1)
        case measure => have := HG.out; omega
        case rel =>
          have hv := sub_step (b := 4294967296) (x := p) (y := 0) (v := 4294967296 + p - 0 - cy) rfl HV.out (by omega) (by omega)
          refine ⟨ys.length + 1, 1 - (4294967296 + p - 0 - cy) / 4294967296, ys ++ [(4294967296 + p - 0 - cy) % 4294967296], by have := HG.out; omega, by go_num, by congr 1; omega, by omega, hown1, by simp, hyd.snoc (by omega), ?_, hb3⟩
          rw [val_ext_succ, val_ext_succ, HPD.out, HQD.out, hv]
    · have hk : ys.length = x.length := by have := HG.out; omega
      have hw : val 4294967296 ys = val 4294967296 x - val 4294967296 y := by
        have hv := HV.out
        rw [hk, val_ext hyl, val_ext (Nat.le_refl _)] at hv
        have h0 := borrow_zero hcy (by have := val_lt hyd; rwa [hk] at this) HLE.out hv
        rw [h0, Nat.mul_zero, Nat.add_zero] at hv
        omega
      have HW := Lib.hid hw
      clear hw
      obtain ⟨A3, c3, rfl, hc3, _, hrd⟩ := hown.form
      have hlen : ys.length ≤ 1073741824 := by have := HG.out; omega
      go_wp2_with fail
      go_loopg [5] ys.length (fun gh v w2 => ∃ n : Nat, n = gh ∧ v = .slice A3 n c3 ∧ n ≤ ys.length ∧ (∀ j, n ≤ j → ∀ hj : j < ys.length, ys[j] = 0) ∧ w2 = wr)
      case atStart => exact ⟨ys.length, rfl, rfl, Nat.le_refl _, fun j h1 h2 => by omega, rfl⟩
      case round =>
        obtain ⟨n, rfl, rfl, hn, hz, rfl⟩ := hrel
        have HZ := Lib.hid hz
        clear hz
        by_cases h0 : 0 < n
        · obtain ⟨b, o, rfl, hb, hcell⟩ := hrd.at_ (j := n - 1) (by omega)
          obtain ⟨p, hp⟩ : ∃ p, ys[n - 1] = p := ⟨_, rfl⟩
          rw [hp] at hcell
          have HP := Lib.hid hp
          clear hp
          have hn0 : (0 : Int) < (n : Int) := by omega
          by_cases hp0 : p = 0
          · subst hp0
            go_wp2_with fail
            go_roundg (n - 1)
            case measure => omega
            case rel => exact ⟨n - 1, rfl, rfl, by omega, fun j h1 h2 => by
              by_cases e : j = n - 1
              · subst e; exact HP.out
              · exact HZ.out j (by omega) h2, rfl⟩
          · have hpi : ¬ ((p : Int) = 0) := by omega
            go_wp2_with fail
            go_ret
            have hnz : n - 1 < ys.length := by omega
            have hN := Norm.take hyd hn (.inr ⟨hnz, by rw [HP.out]; exact hp0⟩)
            have hl2 : (ys.take n).length = n := by rw [List.length_take]; omega
            exact ⟨_, ys.take n, c3, by rw [hl2]; rfl, by omega, hN, by rw [val_take_of_zero HZ.out]; exact HW.out, (hrd.take n).imp (fun g hg => hg.2), hbel⟩
        · obtain rfl : n = 0 := by omega
          go_wp2_with fail
          go_ret
          have hN := Norm.take hyd hn (.inl rfl)
          have hl2 : (ys.take 0).length = 0 := by simp
          exact ⟨_, ys.take 0, c3, by rw [hl2]; rfl, by omega, hN, by rw [val_take_of_zero HZ.out]; exact HW.out, (hrd.take 0).imp (fun g hg => hg.2), hbel⟩
end Go.Proofs.Ytoidhoiadkafhaa
