/- What the program's own calls on numbers answer: cut, order, Cmp, Bits, Trim. -/
import Derived.Test.YtoidhoiadkafhaaRefA
import Derived.Test.YtoidhoiadkafhaaShelf
import Derived.Laws.CopyOwn
namespace Go.Proofs.Ytoidhoiadkafhaa
open Go.RowKit Num

set_option maxHeartbeats 400000 in
theorem nat_cut' (d : List Nat) (A : Option Addr) (c : Nat) (S : Nat → Prop) (w : World) (h : Rd w S .u32 A d) (hl : d.length ≤ 4611686018427387904) (hc : d.length ≤ c) :
    Calls Try.prog 48 #[.slice A d.length c] w fun e w' => ∃ n, n ≤ d.length ∧ (∀ j, n ≤ j → ∀ hj : j < d.length, d[j] = 0) ∧ (n = 0 ∨ ∃ h : n - 1 < d.length, d[n - 1] ≠ 0) ∧
      ((n = 0 ∧ e = .returned (.slice none 0 0)) ∨ (0 < n ∧ e = .returned (.slice A n c))) ∧ w = w' := by
  go_enter Try.func48, Try.ntmps48
  go_wp2
  go_loopg [3] d.length (fun g n wr => g ≤ d.length ∧ n = .int .i64 g ∧ w = wr ∧ ∀ j, g ≤ j → ∀ hj : j < d.length, d[j] = 0)
  case atStart => exact ⟨Nat.le_refl _, rfl, rfl, fun j h1 h2 => by omega⟩
  case round =>
    obtain ⟨hg, rfl, rfl, hz⟩ := hrel
    have HZ := Lib.hid hz
    clear hz
    by_cases h0 : 0 < gk
    · obtain ⟨b, o, rfl, hb, hcell⟩ := h.at_ (j := gk - 1) (by omega)
      obtain ⟨x, hx⟩ : ∃ x, d[gk - 1] = x := ⟨_, rfl⟩
      rw [hx] at hcell
      have HX := Lib.hid hx
      clear hx
      by_cases hx0 : x = 0
      · subst hx0
        go_wp2
        go_roundg (gk - 1)
        case measure => omega
        case rel =>
          refine ⟨by omega, by go_num, rfl, fun j h1 h2 => ?_⟩
          by_cases hj : j = gk - 1
          · subst hj; exact HX.out
          · exact HZ.out j (by omega) h2
      · go_wp2
        go_ret
        exact ⟨gk, hg, HZ.out, .inr ⟨by omega, by rw [HX.out]; exact hx0⟩, .inr ⟨h0, rfl⟩, rfl⟩
    · obtain rfl : gk = 0 := by omega
      go_wp2
      go_ret
      exact ⟨0, hg, fun j h1 h2 => HZ.out j (by omega) h2, .inl rfl, .inl ⟨rfl, rfl⟩, rfl⟩

/-- a number's own words without those of 0 at its end -/
def CutOf (b : Nat) (d : List Nat) (A : Option Addr) (c : Nat) (ys : List Nat) (A' : Option Addr) (c' : Nat) : Prop :=
  ys.length ≤ c' ∧ ys.length ≤ d.length ∧ ys = d.take ys.length ∧ Norm b ys ∧ val b ys = val b d ∧ ((ys = [] ∧ A' = none ∧ c' = 0) ∨ (ys ≠ [] ∧ A' = A ∧ c' = c))
theorem nat_cut (d : List Nat) (A : Option Addr) (c : Nat) (S : Nat → Prop) (w : World) (h : Rd w S .u32 A d) (hl : d.length ≤ 4611686018427387904) (hc : d.length ≤ c) (hd : Dg 4294967296 d) :
    Calls Try.prog 48 #[.slice A d.length c] w fun e w' => ∃ ys A' c', e = .returned (.slice A' ys.length c') ∧ CutOf 4294967296 d A c ys A' c' ∧ Rd w S .u32 A' ys ∧ w = w' := by
  refine (nat_cut' d A c S w h hl hc).mono ?_
  rintro e w' ⟨n, h1, h2, h3, h4, rfl⟩
  have hv : val 4294967296 (d.take n) = val 4294967296 d := val_take_of_zero h2
  have hn := Norm.take hd h1 h3
  have hl2 : (d.take n).length = n := by rw [List.length_take]; omega
  rcases h4 with ⟨rfl, rfl⟩ | ⟨h0, rfl⟩
  · exact ⟨[], none, 0, rfl, ⟨by simp, by simp, by simp, norm_nil _, by rw [← hv]; rfl, .inl ⟨rfl, rfl, rfl⟩⟩, Rd.nil, rfl⟩
  · refine ⟨d.take n, A, c, by rw [hl2], ⟨by omega, by omega, by rw [hl2], hn, hv, .inr ⟨?_, rfl, rfl⟩⟩, h.take n, rfl⟩
    intro e
    rw [e] at hl2
    simp at hl2
    omega

theorem nat_order (b : Bool) (w : World) : Calls Try.prog 53 #[.bool b] w fun e w' => e = .returned (.int .i64 (if b then -1 else 1)) ∧ w = w' := by
  cases b
  · go_enter Try.func53, Try.ntmps53
    go_wp2
    go_ret
    exact ⟨rfl, rfl⟩
  · go_enter Try.func53, Try.ntmps53
    go_wp2
    go_ret
    exact ⟨rfl, rfl⟩

theorem val_lt_of_length {b : Nat} {x y : List Nat} (hb : 1 < b) (hx : Dg b x) (hy : Top y) (h : x.length < y.length) : val b x < val b y := by
  have h1 := val_lt hx
  have h2 := top_le (b := b) hy (by rintro rfl; simp at h)
  exact Nat.lt_of_lt_of_le h1 (Nat.le_trans (Nat.pow_le_pow_right (by omega) (by omega)) h2)

set_option maxHeartbeats 1600000 in
/-- how two numbers stand -/
theorem nat_Cmp (x y : List Nat) (A A' : Option Addr) (c c' : Nat) (S S' : Nat → Prop) (w : World) (h : Rd w S .u32 A x) (h' : Rd w S' .u32 A' y) (hl : x.length ≤ 1073741824) (hl' : y.length ≤ 1073741824) (hc : x.length ≤ c) (hc' : y.length ≤ c') (hx : Dg 4294967296 x) (hy : Dg 4294967296 y) :
    Calls Try.prog 26 #[.slice A x.length c, .slice A' y.length c'] w fun e w' => e = .returned (.int .i64 (cmpI (val 4294967296 x) (val 4294967296 y))) ∧ ∃ m, w' = w.drewN m := by
  go_enter Try.func26, Try.ntmps26
  go_wp2_with fail
  refine (nat_cut x A c S w h (by omega) hc hx).mono ?_
  rintro e w1 ⟨a, A1, c1, rfl, hcut1, hr1, rfl⟩
  obtain ⟨hc1, hl1, -, hn1, hv1, -⟩ := hcut1
  have HN1 := Lib.hid hn1
  have HV1 := Lib.hid hv1
  clear hn1 hv1
  go_wp2_with fail
  refine (nat_cut y A' c' S' w h' (by omega) hc' hy).mono ?_
  rintro e w1 ⟨b, A2, c2, rfl, hcut2, hr2, rfl⟩
  obtain ⟨hc2, hl2, -, hn2, hv2, -⟩ := hcut2
  have hv3 : cmpI (val 4294967296 x) (val 4294967296 y) = cmpI (val 4294967296 a) (val 4294967296 b) := by rw [HV1.out, hv2]
  have HV := Lib.hid hv3
  have HN2 := Lib.hid hn2
  clear hv2 hn2 h h' hv3
  rcases Nat.lt_trichotomy a.length b.length with hlt | heq | hgt
  · go_wp2_with (go_at_call 53; refine (nat_order _ _).mono ?_; rintro e w' ⟨rfl, rfl⟩)
    go_ret
    refine ⟨?_, 0, rfl⟩
    rw [HV.out, cmpI_lt (val_lt_of_length (by omega) HN1.out.1 HN2.out.2 hlt)]
    rfl
  · have he1 : a.length ≤ b.length := by omega
    have he2 : b.length ≤ a.length := by omega
    clear heq
    go_wp2_with fail
    go_loopg [5] a.length (fun g i wr => ((∃ k : Nat, g = k + 1 ∧ i = .int .i64 k) ∨ (g = 0 ∧ i = .int .i64 (-1))) ∧ g ≤ a.length ∧ (∃ m, wr = w.drewN m) ∧ a.drop g = b.drop g)
    case atStart =>
      refine ⟨?_, Nat.le_refl _, ⟨0, rfl⟩, by rw [List.drop_of_length_le (by omega), List.drop_of_length_le (by omega)]⟩
      by_cases h0 : a.length = 0
      · refine .inr ⟨h0, ?_⟩; congr 1; omega
      · refine .inl ⟨a.length - 1, by omega, ?_⟩; congr 1; omega
    case round =>
      obtain ⟨⟨k, rfl, rfl⟩ | ⟨rfl, rfl⟩, hg, ⟨m, rfl⟩, hab⟩ := hrel
      · have hka : k < a.length := by omega
        have hkb : k < b.length := by omega
        obtain ⟨ba, oa, rfl, _, ca⟩ := hr1.at_ hka
        obtain ⟨bb, ob, rfl, _, cb⟩ := hr2.at_ hkb
        have HAB := Lib.hid hab
        clear hab
        obtain ⟨p, hp⟩ : ∃ p, a[k] = p := ⟨_, rfl⟩
        obtain ⟨q, hq⟩ : ∃ q, b[k] = q := ⟨_, rfl⟩
        rw [hp] at ca
        rw [hq] at cb
        have HP := Lib.hid hp
        have HQ := Lib.hid hq
        clear hp hq
        rcases Nat.lt_trichotomy p q with hlt | heq | hgt
        · go_wp2_with fail
          go_quiet (fail)
          go_wp2_with fail
          go_quiet ((go_at_call 53; exact quiet_two (nat_order _ _)))
          go_wp2
          go_ret
          refine ⟨?_, ⟨_, by rw [World.drewN_drewN, World.drewN_drewN]⟩⟩
          rw [HV.out, cmpI_lt (val_lt_of_digit HN1.out.1 hka hkb HAB.out (by rw [HP.out, HQ.out]; exact hlt))]
          rfl
        · subst heq
          go_wp2_with fail
          go_quiet (fail)
          go_wp2_with fail
          go_roundg k
          case measure => omega
          case rel =>
            refine ⟨?_, by omega, ⟨m + nq, by simp⟩, ?_⟩
            · by_cases h0 : k = 0
              · subst h0; exact .inr ⟨rfl, by go_num⟩
              · exact .inl ⟨k - 1, by omega, by go_num⟩
            · rw [List.drop_eq_getElem_cons hka, List.drop_eq_getElem_cons hkb, HP.out, HQ.out, HAB.out]
        · have hd : decide (p < q) = false := by simp; omega
          go_wp2_with fail
          go_quiet (fail)
          go_wp2_with fail
          go_quiet ((go_at_call 53; exact quiet_two (nat_order _ _)))
          go_wp2
          go_ret
          refine ⟨?_, ⟨_, by first | rfl | (rw [World.drewN_drewN, World.drewN_drewN])⟩⟩
          rw [HV.out, cmpI_gt (val_lt_of_digit HN2.out.1 hkb hka HAB.out.symm (by rw [HP.out, HQ.out]; exact hgt))]
          rfl
      · go_wp2
        go_ret
        refine ⟨?_, m, rfl⟩
        rw [HV.out, cmpI_eq (by rw [show a = b by simpa using hab])]
        rfl
  · go_wp2_with (go_at_call 53; refine (nat_order _ _).mono ?_; rintro e w' ⟨rfl, rfl⟩)
    go_ret
    refine ⟨?_, 0, rfl⟩
    rw [HV.out, cmpI_gt (val_lt_of_length (by omega) HN2.out.1 HN1.out.2 hgt)]
    rfl

theorem isBits_bitLenAux (f x : Nat) (h : x < 2 ^ f) : IsBits x (Lib.bitLenAux f x) := by
  induction f generalizing x with
  | zero => simp at h; subst h; exact ⟨by simp [Lib.bitLenAux], .inl (by simp [Lib.bitLenAux])⟩
  | succ f ih =>
    unfold Lib.bitLenAux
    by_cases h0 : x = 0
    · subst h0; exact ⟨by simp, .inl (by simp)⟩
    · rw [if_neg h0]
      obtain ⟨h1, h2⟩ := ih (x / 2) (by rw [Nat.pow_succ] at h; omega)
      generalize Lib.bitLenAux f (x / 2) = m at *
      refine ⟨by rw [Nat.add_comm, Nat.pow_succ]; omega, .inr ?_⟩
      rw [Nat.add_sub_cancel_left]
      rcases h2 with rfl | h2
      · simp; omega
      · by_cases hm : m = 0
        · subst hm; simp; omega
        · rw [show m = m - 1 + 1 by omega, Nat.pow_succ]; omega
theorem isBits_bitLen (x : Nat) (h : x < 18446744073709551616) : IsBits x (Lib.bitLen x) := isBits_bitLenAux 64 x h

set_option maxHeartbeats 400000 in
/-- how many bits -/
theorem nat_Bits (d : List Nat) (A : Option Addr) (c : Nat) (S : Nat → Prop) (w : World) (h : Rd w S .u32 A d) (hl : d.length ≤ 1073741824) (hc : d.length ≤ c) (hd : Dg 4294967296 d) :
    Calls Try.prog 54 #[.slice A d.length c] w fun e w' => ∃ n : Nat, e = .returned (.int .i64 n) ∧ IsBits (val 4294967296 d) n ∧ n ≤ 32 * d.length ∧ w = w' := by
  go_enter Try.func54, Try.ntmps54
  go_wp2_with fail
  refine (nat_cut d A c S w h (by omega) hc hd).mono ?_
  rintro e w1 ⟨ys, A1, c1, rfl, hcut, hr, rfl⟩
  obtain ⟨hc1, hl1, -, hn, hv, -⟩ := hcut
  have HN := Lib.hid hn
  have HV := Lib.hid hv
  clear hn hv h
  by_cases h0 : ys.length = 0
  · obtain rfl : ys = [] := List.eq_nil_of_length_eq_zero h0
    go_wp2
    go_ret
    exact ⟨0, rfl, by rw [← HV.out]; exact ⟨by simp [val], .inl rfl⟩, by omega, rfl⟩
  · have hk : ys.length - 1 < ys.length := by omega
    obtain ⟨b, o, rfl, _, hcell0⟩ := hr.at_ hk
    obtain ⟨x, hcell, hx, hbits⟩ : ∃ x : Nat, w.cell? ⟨b, o + (ys.length - 1), none⟩ = some (.int .u32 (x : Int)) ∧ x < 4294967296 ∧ IsBits (val 4294967296 d) (32 * (ys.length - 1) + Lib.bitLen x) :=
      ⟨_, hcell0, HN.out.1.get hk, by rw [← HV.out]; exact bits_words HN.out (by rintro rfl; simp at h0) (isBits_bitLen _ (by have := HN.out.1.get hk; omega))⟩
    clear hcell0
    have hb32 : Lib.bitLen x ≤ 32 := by
      have h1 := (isBits_bitLen x (by omega)).2
      rcases h1 with h1 | h1
      · omega
      · have h2 := Nat.lt_of_le_of_lt h1 (show x < 2 ^ 32 by omega)
        have := (Nat.pow_lt_pow_iff_right (show 1 < 2 by omega)).1 h2
        omega
    have HB := Lib.hid hbits
    clear hbits
    have cl := Try.bits_Len32 (x : Int) w (by omega) (by omega)
    rw [Int.toNat_natCast] at cl
    obtain ⟨z, hz⟩ : ∃ z, Lib.bitLen x = z := ⟨_, rfl⟩
    rw [hz] at cl hb32
    have HZ := Lib.hid hz
    clear hz
    go_wp2_with (go_at_call 68; refine cl.mono ?_; rintro e w' ⟨rfl, rfl⟩)
    go_ret
    refine ⟨32 * (ys.length - 1) + z, ?_, by rw [← HZ.out]; exact HB.out, by omega, rfl⟩
    congr 1
    show Value.int .i64 _ = _
    congr 1
    omega
end Go.Proofs.Ytoidhoiadkafhaa
