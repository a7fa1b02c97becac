/- What the program's own calls on numbers answer: cut, order, Cmp, Bits, Trim. -/
import Derived.Test.YtdmoibphidipeaaGreatDoorZRefX
import Derived.Test.YtdmoibphidipeaaGreatDoorZBase
import Derived.Laws.CopyOwn
import Derived.Lib.BitFns
import Derived.Deep.DeepFit
import Derived.Lib.ItoaNum
import Derived.Laws.RangeString
import Derived.Laws.RangeAny
import Derived.Laws.Strings
import Derived.BigQuiet
import Derived.Laws.OwnMore
import Derived.Test.YtdmoibphidipeaaGreatDoorZOaA
import Derived.Lib.Hide
import Derived.Deep.LoopGhost
namespace Go.Proofs.YtdmoibphidipeaaGreatDoor
open Go.RowKit Num

set_option maxHeartbeats 400000 in
theorem nat_cut' (d : List Nat) (A : Option Addr) (c : Nat) (S : Nat → Prop) (w : World) (h : Rd w S .u32 A d) (hl : d.length ≤ 4611686018427387904) (hc : d.length ≤ c) :
    Calls Tryz.prog 145 #[.slice A d.length c] w fun e w' => ∃ n, n ≤ d.length ∧ (∀ j, n ≤ j → ∀ hj : j < d.length, d[j] = 0) ∧ (n = 0 ∨ ∃ h : n - 1 < d.length, d[n - 1] ≠ 0) ∧
      ((n = 0 ∧ e = .returned (.slice none 0 0)) ∨ (0 < n ∧ e = .returned (.slice A n c))) ∧ w = w' := by
  go_enter Tryz.func145, Tryz.ntmps145
  go_wp2
  go_loopg [3] d.length (fun g n wr => g ≤ d.length ∧ n = .int .i64 g ∧ w = wr ∧ ∀ j, g ≤ j → ∀ hj : j < d.length, d[j] = 0)
  case atStart => exact ⟨Nat.le_refl _, rfl, rfl, fun j h1 h2 => by omega⟩
  case round =>
    obtain ⟨hg, rfl, rfl, hz⟩ := hrel
    have HZ := Lib.hid hz
    clear hz
    by_cases h0 : 0 < gk
    · obtain ⟨b, o, rfl, hb, hcell⟩ := h.at_ (j := gk - 1) (by omega)
      obtain ⟨x, hx⟩ : ∃ x, d[gk - 1] = x := ⟨_, rfl⟩
      rw [hx] at hcell
      have HX := Lib.hid hx
      clear hx
      by_cases hx0 : x = 0
      · subst hx0
        go_wp2
        go_roundg (gk - 1)
        case measure => omega
        case rel =>
          refine ⟨by omega, by go_num, rfl, fun j h1 h2 => ?_⟩
          by_cases hj : j = gk - 1
          · subst hj; exact HX.out
          · exact HZ.out j (by omega) h2
      · go_wp2
        go_ret
        exact ⟨gk, hg, HZ.out, .inr ⟨by omega, by rw [HX.out]; exact hx0⟩, .inr ⟨h0, rfl⟩, rfl⟩
    · obtain rfl : gk = 0 := by omega
      go_wp2
      go_ret
      exact ⟨0, hg, fun j h1 h2 => HZ.out j (by omega) h2, .inl rfl, .inl ⟨rfl, rfl⟩, rfl⟩

/-- a number's own words without those of 0 at its end -/
def CutOf (b : Nat) (d : List Nat) (A : Option Addr) (c : Nat) (ys : List Nat) (A' : Option Addr) (c' : Nat) : Prop :=
  ys.length ≤ c' ∧ ys.length ≤ d.length ∧ ys = d.take ys.length ∧ Norm b ys ∧ val b ys = val b d ∧ ((ys = [] ∧ A' = none ∧ c' = 0) ∨ (ys ≠ [] ∧ A' = A ∧ c' = c))
theorem nat_cut (d : List Nat) (A : Option Addr) (c : Nat) (S : Nat → Prop) (w : World) (h : Rd w S .u32 A d) (hl : d.length ≤ 4611686018427387904) (hc : d.length ≤ c) (hd : Dg 4294967296 d) :
    Calls Tryz.prog 145 #[.slice A d.length c] w fun e w' => ∃ ys A' c', e = .returned (.slice A' ys.length c') ∧ CutOf 4294967296 d A c ys A' c' ∧ Rd w S .u32 A' ys ∧ w = w' := by
  refine (nat_cut' d A c S w h hl hc).mono ?_
  rintro e w' ⟨n, h1, h2, h3, h4, rfl⟩
  have hv : val 4294967296 (d.take n) = val 4294967296 d := val_take_of_zero h2
  have hn := Norm.take hd h1 h3
  have hl2 : (d.take n).length = n := by rw [List.length_take]; omega
  rcases h4 with ⟨rfl, rfl⟩ | ⟨h0, rfl⟩
  · exact ⟨[], none, 0, rfl, ⟨by simp, by simp, by simp, norm_nil _, by rw [← hv]; rfl, .inl ⟨rfl, rfl, rfl⟩⟩, Rd.nil, rfl⟩
  · refine ⟨d.take n, A, c, by rw [hl2], ⟨by omega, by omega, by rw [hl2], hn, hv, .inr ⟨?_, rfl, rfl⟩⟩, h.take n, rfl⟩
    intro e
    rw [e] at hl2
    simp at hl2
    omega

theorem nat_order (b : Bool) (w : World) : Calls Tryz.prog 146 #[.bool b] w fun e w' => e = .returned (.int .i64 (if b then -1 else 1)) ∧ w = w' := by
  cases b
  · go_enter Tryz.func146, Tryz.ntmps146
    go_wp2
    go_ret
    exact ⟨rfl, rfl⟩
  · go_enter Tryz.func146, Tryz.ntmps146
    go_wp2
    go_ret
    exact ⟨rfl, rfl⟩

theorem val_lt_of_length {b : Nat} {x y : List Nat} (hb : 1 < b) (hx : Dg b x) (hy : Top y) (h : x.length < y.length) : val b x < val b y := by
  have h1 := val_lt hx
  have h2 := top_le (b := b) hy (by rintro rfl; simp at h)
  exact Nat.lt_of_lt_of_le h1 (Nat.le_trans (Nat.pow_le_pow_right (by omega) (by omega)) h2)

set_option maxHeartbeats 1600000 in
/-- how two numbers stand -/
theorem nat_Cmp (x y : List Nat) (A A' : Option Addr) (c c' : Nat) (S S' : Nat → Prop) (w : World) (h : Rd w S .u32 A x) (h' : Rd w S' .u32 A' y) (hl : x.length ≤ 1073741824) (hl' : y.length ≤ 1073741824) (hc : x.length ≤ c) (hc' : y.length ≤ c') (hx : Dg 4294967296 x) (hy : Dg 4294967296 y) :
    Calls Tryz.prog 109 #[.slice A x.length c, .slice A' y.length c'] w fun e w' => e = .returned (.int .i64 (cmpI (val 4294967296 x) (val 4294967296 y))) ∧ ∃ m, w' = w.drewN m := by
  go_enter Tryz.func109, Tryz.ntmps109
  go_wp2_with fail
  refine (nat_cut x A c S w h (by omega) hc hx).mono ?_
  rintro e w1 ⟨a, A1, c1, rfl, hcut1, hr1, rfl⟩
  obtain ⟨hc1, hl1, -, hn1, hv1, -⟩ := hcut1
  have HN1 := Lib.hid hn1
  have HV1 := Lib.hid hv1
  clear hn1 hv1
  go_wp2_with fail
  refine (nat_cut y A' c' S' w h' (by omega) hc' hy).mono ?_
  rintro e w1 ⟨b, A2, c2, rfl, hcut2, hr2, rfl⟩
  obtain ⟨hc2, hl2, -, hn2, hv2, -⟩ := hcut2
  have hv3 : cmpI (val 4294967296 x) (val 4294967296 y) = cmpI (val 4294967296 a) (val 4294967296 b) := by rw [HV1.out, hv2]
  have HV := Lib.hid hv3
  have HN2 := Lib.hid hn2
  clear hv2 hn2 h h' hv3
  rcases Nat.lt_trichotomy a.length b.length with hlt | heq | hgt
  · go_wp2_with (go_at_call 146; refine (nat_order _ _).mono ?_; rintro e w' ⟨rfl, rfl⟩)
    go_ret
    refine ⟨?_, 0, rfl⟩
    rw [HV.out, cmpI_lt (val_lt_of_length (by omega) HN1.out.1 HN2.out.2 hlt)]
    rfl
  · have he1 : a.length ≤ b.length := by omega
    have he2 : b.length ≤ a.length := by omega
    clear heq
    go_wp2_with fail
    go_loopg [5] a.length (fun g i wr => ((∃ k : Nat, g = k + 1 ∧ i = .int .i64 k) ∨ (g = 0 ∧ i = .int .i64 (-1))) ∧ g ≤ a.length ∧ (∃ m, wr = w.drewN m) ∧ a.drop g = b.drop g)
    case atStart =>
      refine ⟨?_, Nat.le_refl _, ⟨0, rfl⟩, by rw [List.drop_of_length_le (by omega), List.drop_of_length_le (by omega)]⟩
      by_cases h0 : a.length = 0
      · refine .inr ⟨h0, ?_⟩; congr 1; omega
      · refine .inl ⟨a.length - 1, by omega, ?_⟩; congr 1; omega
    case round =>
      obtain ⟨⟨k, rfl, rfl⟩ | ⟨rfl, rfl⟩, hg, ⟨m, rfl⟩, hab⟩ := hrel
      · have hka : k < a.length := by omega
        have hkb : k < b.length := by omega
        obtain ⟨ba, oa, rfl, _, ca⟩ := hr1.at_ hka
        obtain ⟨bb, ob, rfl, _, cb⟩ := hr2.at_ hkb
        have HAB := Lib.hid hab
        clear hab
        obtain ⟨p, hp⟩ : ∃ p, a[k] = p := ⟨_, rfl⟩
        obtain ⟨q, hq⟩ : ∃ q, b[k] = q := ⟨_, rfl⟩
        rw [hp] at ca
        rw [hq] at cb
        have HP := Lib.hid hp
        have HQ := Lib.hid hq
        clear hp hq
        rcases Nat.lt_trichotomy p q with hlt | heq | hgt
        · go_wp2_with fail
          go_quiet (fail)
          go_wp2_with fail
          go_quiet ((go_at_call 146; exact quiet_two (nat_order _ _)))
          go_wp2
          go_ret
          refine ⟨?_, ⟨_, by rw [World.drewN_drewN, World.drewN_drewN]⟩⟩
          rw [HV.out, cmpI_lt (val_lt_of_digit HN1.out.1 hka hkb HAB.out (by rw [HP.out, HQ.out]; exact hlt))]
          rfl
        · subst heq
          go_wp2_with fail
          go_quiet (fail)
          go_wp2_with fail
          go_roundg k
          case measure => omega
          case rel =>
            refine ⟨?_, by omega, ⟨m + nq, by simp⟩, ?_⟩
            · by_cases h0 : k = 0
              · subst h0; exact .inr ⟨rfl, by go_num⟩
              · exact .inl ⟨k - 1, by omega, by go_num⟩
            · rw [List.drop_eq_getElem_cons hka, List.drop_eq_getElem_cons hkb, HP.out, HQ.out, HAB.out]
        · have hd : decide (p < q) = false := by simp; omega
          go_wp2_with fail
          go_quiet (fail)
          go_wp2_with fail
          go_quiet ((go_at_call 146; exact quiet_two (nat_order _ _)))
          go_wp2
          go_ret
          refine ⟨?_, ⟨_, by first | rfl | (rw [World.drewN_drewN, World.drewN_drewN])⟩⟩
          rw [HV.out, cmpI_gt (val_lt_of_digit HN2.out.1 hkb hka HAB.out.symm (by rw [HP.out, HQ.out]; exact hgt))]
          rfl
      · go_wp2
        go_ret
        refine ⟨?_, m, rfl⟩
        rw [HV.out, cmpI_eq (by rw [show a = b by simpa using hab])]
        rfl
  · go_wp2_with (go_at_call 146; refine (nat_order _ _).mono ?_; rintro e w' ⟨rfl, rfl⟩)
    go_ret
    refine ⟨?_, 0, rfl⟩
    rw [HV.out, cmpI_gt (val_lt_of_length (by omega) HN2.out.1 HN1.out.2 hgt)]
    rfl

theorem isBits_bitLenAux (f x : Nat) (h : x < 2 ^ f) : IsBits x (Lib.bitLenAux f x) := by
  induction f generalizing x with
  | zero => simp at h; subst h; exact ⟨by simp [Lib.bitLenAux], .inl (by simp [Lib.bitLenAux])⟩
  | succ f ih =>
    unfold Lib.bitLenAux
    by_cases h0 : x = 0
    · subst h0; exact ⟨by simp, .inl (by simp)⟩
    · rw [if_neg h0]
      obtain ⟨h1, h2⟩ := ih (x / 2) (by rw [Nat.pow_succ] at h; omega)
      generalize Lib.bitLenAux f (x / 2) = m at *
      refine ⟨by rw [Nat.add_comm, Nat.pow_succ]; omega, .inr ?_⟩
      rw [Nat.add_sub_cancel_left]
      rcases h2 with rfl | h2
      · simp; omega
      · by_cases hm : m = 0
        · subst hm; simp; omega
        · rw [show m = m - 1 + 1 by omega, Nat.pow_succ]; omega
theorem isBits_bitLen (x : Nat) (h : x < 18446744073709551616) : IsBits x (Lib.bitLen x) := isBits_bitLenAux 64 x h

set_option maxHeartbeats 400000 in
/-- how many bits -/
theorem nat_Bits (d : List Nat) (A : Option Addr) (c : Nat) (S : Nat → Prop) (w : World) (h : Rd w S .u32 A d) (hl : d.length ≤ 1073741824) (hc : d.length ≤ c) (hd : Dg 4294967296 d) :
    Calls Tryz.prog 144 #[.slice A d.length c] w fun e w' => ∃ n : Nat, e = .returned (.int .i64 n) ∧ IsBits (val 4294967296 d) n ∧ n ≤ 32 * d.length ∧ w = w' := by
  go_enter Tryz.func144, Tryz.ntmps144
  go_wp2_with fail
  refine (nat_cut d A c S w h (by omega) hc hd).mono ?_
  rintro e w1 ⟨ys, A1, c1, rfl, hcut, hr, rfl⟩
  obtain ⟨hc1, hl1, -, hn, hv, -⟩ := hcut
  have HN := Lib.hid hn
  have HV := Lib.hid hv
  clear hn hv h
  by_cases h0 : ys.length = 0
  · obtain rfl : ys = [] := List.eq_nil_of_length_eq_zero h0
    go_wp2
    go_ret
    exact ⟨0, rfl, by rw [← HV.out]; exact ⟨by simp [val], .inl rfl⟩, by omega, rfl⟩
  · have hk : ys.length - 1 < ys.length := by omega
    obtain ⟨b, o, rfl, _, hcell0⟩ := hr.at_ hk
    obtain ⟨x, hcell, hx, hbits⟩ : ∃ x : Nat, w.cell? ⟨b, o + (ys.length - 1), none⟩ = some (.int .u32 (x : Int)) ∧ x < 4294967296 ∧ IsBits (val 4294967296 d) (32 * (ys.length - 1) + Lib.bitLen x) :=
      ⟨_, hcell0, HN.out.1.get hk, by rw [← HV.out]; exact bits_words HN.out (by rintro rfl; simp at h0) (isBits_bitLen _ (by have := HN.out.1.get hk; omega))⟩
    clear hcell0
    have hb32 : Lib.bitLen x ≤ 32 := by
      have h1 := (isBits_bitLen x (by omega)).2
      rcases h1 with h1 | h1
      · omega
      · have h2 := Nat.lt_of_le_of_lt h1 (show x < 2 ^ 32 by omega)
        have := (Nat.pow_lt_pow_iff_right (show 1 < 2 by omega)).1 h2
        omega
    have HB := Lib.hid hbits
    clear hbits
    have cl := Tryz.bits_Len32 (x : Int) w (by omega) (by omega)
    rw [Int.toNat_natCast] at cl
    obtain ⟨z, hz⟩ : ∃ z, Lib.bitLen x = z := ⟨_, rfl⟩
    rw [hz] at cl hb32
    have HZ := Lib.hid hz
    clear hz
    go_wp2_with (go_at_call 162; refine cl.mono ?_; rintro e w' ⟨rfl, rfl⟩)
    go_ret
    refine ⟨32 * (ys.length - 1) + z, ?_, by rw [← HZ.out]; exact HB.out, by omega, rfl⟩
    congr 1
    show Value.int .i64 _ = _
    congr 1
    omega
end Go.Proofs.YtdmoibphidipeaaGreatDoor
/- What the program's own calls on numbers answer: a word's sum and difference; adding into, taking off; Trim, Add, Sub. -/

namespace Go.Proofs.YtdmoibphidipeaaGreatDoor
open Go.RowKit Num

theorem bit31 (x : Nat) (h : x < 4294967296) : x.testBit 31 = decide (2147483648 ≤ x) := by
  rw [Nat.testBit_eq_decide_div_mod_eq]
  have e : (2 : Nat) ^ 31 = 2147483648 := rfl
  rw [e]
  by_cases h1 : 2147483648 ≤ x
  · rw [decide_eq_true h1, decide_eq_true]; omega
  · rw [decide_eq_false h1, decide_eq_false]; omega
/-- what is borrowed, by bits -/
theorem borrow_bits (x y c d : Nat) (hx : x < 4294967296) (hy : y < 4294967296) (hc : c ≤ 1) (hd : d = (4294967296 + x - y - c) % 4294967296) :
    (((4294967295 ^^^ x) &&& y) ||| ((4294967295 ^^^ (x ^^^ y)) &&& d)) / 2147483648 = 1 - (4294967296 + x - y - c) / 4294967296 := by
  have hd' : d < 4294967296 := by omega
  have hv : (((4294967295 ^^^ x) &&& y) ||| ((4294967295 ^^^ (x ^^^ y)) &&& d)) < 4294967296 := by
    have h1 : ((4294967295 ^^^ x) &&& y) < 2 ^ 32 := Nat.and_lt_two_pow _ (by omega)
    have h2 : ((4294967295 ^^^ (x ^^^ y)) &&& d) < 2 ^ 32 := Nat.and_lt_two_pow _ (by omega)
    have := Nat.or_lt_two_pow h1 h2
    omega
  have hb := bit31 _ hv
  rw [Nat.testBit_or, Nat.testBit_and, Nat.testBit_and, Nat.testBit_xor, Nat.testBit_xor, Nat.testBit_xor, bit31 4294967295 (by omega), bit31 x hx, bit31 y hy, bit31 d hd'] at hb
  generalize (((4294967295 ^^^ x) &&& y) ||| ((4294967295 ^^^ (x ^^^ y)) &&& d)) = v at *
  by_cases h1 : 2147483648 ≤ x <;> by_cases h2 : 2147483648 ≤ y <;> by_cases h3 : 2147483648 ≤ d <;> simp [h1, h2, h3] at hb <;> omega

theorem add32 (x y c : Nat) (w : World) (hx : x < 4294967296) (hy : y < 4294967296) (hc : c ≤ 1) :
    Calls Tryz.prog 254 #[.int .u32 x, .int .u32 y, .int .u32 c] w fun e w' => e = .returned (.tuple #[.int .u32 ((x + y + c) % 4294967296 : Nat), .int .u32 ((x + y + c) / 4294967296 : Nat)]) ∧ w = w' := by
  go_enter Tryz.func254, Tryz.ntmps254
  go_wp2
  go_ret2
  refine ⟨?_, rfl⟩
  show Ending.returned (.tuple #[.int .u32 _, .int .u32 _]) = _
  congr 4 <;> omega
theorem sub32 (x y c : Nat) (w : World) (hx : x < 4294967296) (hy : y < 4294967296) (hc : c ≤ 1) :
    Calls Tryz.prog 255 #[.int .u32 x, .int .u32 y, .int .u32 c] w fun e w' => e = .returned (.tuple #[.int .u32 ((4294967296 + x - y - c) % 4294967296 : Nat), .int .u32 (1 - (4294967296 + x - y - c) / 4294967296 : Nat)]) ∧ w = w' := by
  have hb := borrow_bits x y c _ hx hy hc rfl
  have e1 : ((x : Int) - y - c) % 4294967296 = (((4294967296 + x - y - c) % 4294967296 : Nat) : Int) := by omega
  have hd : (4294967296 + x - y - c) % 4294967296 < 4294967296 := by omega
  have HB := Lib.hid hb
  have HE := Lib.hid e1
  clear hb e1
  go_enter Tryz.func255, Tryz.ntmps255
  go_wp2
  all_goals go_ret2
  refine ⟨?_, rfl⟩
  show Ending.returned (.tuple #[.int .u32 (((x : Int) - y - c) % 4294967296), .int .u32 (bits .or .u32 (bits .and .u32 (bits .xor .u32 ((4294967295 : Nat) : Int) x) y) (bits .and .u32 (bits .xor .u32 ((4294967295 : Nat) : Int) (bits .xor .u32 x y)) (((x : Int) - y - c) % 4294967296)) / 2147483648)]) = _
  rw [HE.out, u32_xor_nat _ x (by omega) hx, u32_xor_nat x y hx hy]
  have hxy : x ^^^ y < 4294967296 := Nat.xor_lt_two_pow (n := 32) hx hy
  have hnx : 4294967295 ^^^ x < 4294967296 := Nat.xor_lt_two_pow (n := 32) (by omega) hx
  have hnxy : 4294967295 ^^^ (x ^^^ y) < 4294967296 := Nat.xor_lt_two_pow (n := 32) (by omega) hxy
  rw [u32_xor_nat _ (x ^^^ y) (by omega) hxy, u32_and_nat _ y hnx hy, u32_and_nat _ _ hnxy hd, u32_or_nat _ _ (Nat.and_lt_two_pow (n := 32) _ hy) (Nat.and_lt_two_pow (n := 32) _ hd)]
  rw [← HB.out, Int.natCast_ediv]
  rfl

/-- a block's digits, those from off on laid anew -/
def laid (zs : List Nat) (off : Nat) (cs : List Nat) : List Nat := splice zs off cs
theorem length_splice' {zs cs : List Nat} {off : Nat} (h : off + cs.length ≤ zs.length) : (splice zs off cs).length = zs.length := length_splice zs off cs h
theorem splice_nil {zs : List Nat} {off : Nat} : splice zs off [] = zs := by simp [splice]
theorem get_splice_ge {zs cs : List Nat} {off j : Nat} (h : off + cs.length ≤ zs.length) (hj : off + cs.length ≤ j) (h' : j < (splice zs off cs).length) : (splice zs off cs)[j] = zs[j]'(by rw [length_splice' h] at h'; exact h') := by
  simp only [splice]
  have hl : (zs.take off).length = off := by rw [List.length_take]; omega
  rw [List.getElem_append_right (by omega), List.getElem_append_right (by omega), List.getElem_drop]
  congr 1
  omega
theorem splice_snoc {zs cs : List Nat} {off v : Nat} (h : off + cs.length < zs.length) : (splice zs off cs).set (off + cs.length) v = splice zs off (cs ++ [v]) := by
  have hl : (zs.take off).length = off := by rw [List.length_take]; omega
  simp only [splice]
  rw [List.set_append_right _ _ (by omega), hl, Nat.add_sub_cancel_left, List.set_append_right _ _ (by omega), Nat.sub_self]
  rw [List.drop_eq_getElem_cons h]
  simp [Nat.add_assoc]

theorem splice_snoc0 {zs cs : List Nat} {v : Nat} (h : cs.length < zs.length) : (splice zs 0 cs).set cs.length v = splice zs 0 (cs ++ [v]) := by
  have := splice_snoc (zs := zs) (cs := cs) (off := 0) (v := v) (by omega)
  rwa [Nat.zero_add] at this
theorem splice_rest {zs cs : List Nat} {off n : Nat} (h : off + n ≤ zs.length) (hc : cs.length ≤ n) : splice zs off (cs ++ (zs.drop (off + cs.length)).take (n - cs.length)) = splice zs off cs := by
  simp only [splice]
  congr 1
  rw [List.append_assoc]
  congr 1
  have hl : ((zs.drop (off + cs.length)).take (n - cs.length)).length = n - cs.length := by rw [List.length_take, List.length_drop]; omega
  rw [List.length_append, hl]
  have e : zs.drop (off + (cs.length + (n - cs.length))) = (zs.drop (off + cs.length)).drop (n - cs.length) := by rw [List.drop_drop]; congr 1; omega
  rw [e, List.take_append_drop]
theorem take_drop_succ {zs : List Nat} {off k : Nat} (h : off + k < zs.length) (b : Nat) : val b ((zs.drop off).take (k + 1)) = val b ((zs.drop off).take k) + b ^ k * zs[off + k] := by
  rw [val_take_succ (by rw [List.length_drop]; omega), List.getElem_drop]

set_option maxHeartbeats 800000 in
/-- adding b into the n words of block g from off on: what goes beyond them is lost. -/
theorem nat_addIn (zs b : List Nat) (g off n c : Nat) (A : Option Addr) (cb : Nat) (t : TypeId) (w : World) (hrow : Row w g t .u32 zs) (hb : Rd w (fun x => x ≠ g) .u32 A b) (hn : off + n ≤ zs.length) (hbn : b.length ≤ n) (hl : n ≤ 2147483648) (hz : Dg 4294967296 zs) (hbd : Dg 4294967296 b) :
    Calls Tryz.prog 240 #[.slice (some ⟨g, off, none⟩) n c, .slice A b.length cb] w fun e w' => e = .returned (.tuple #[]) ∧ ∃ cs k, cs.length = n ∧ Dg 4294967296 cs ∧ val 4294967296 cs + 4294967296 ^ n * k = val 4294967296 ((zs.drop off).take n) + val 4294967296 b ∧ Row w' g t .u32 (splice zs off cs) ∧ w.grownBy w' (some g) := by
  have hbl := hb.below_size
  go_enter Tryz.func240, Tryz.ntmps240
  go_wp2_with fail
  go_loopg [4, 5, 6, 10] b.length (fun gh c' _ _ i wr => ∃ (k cy : Nat) (cs : List Nat), gh + k = b.length ∧ i = .int .i64 k ∧ c' = .int .u32 cy ∧ cy ≤ 1 ∧ cs.length = k ∧ Dg 4294967296 cs ∧ Row wr g t .u32 (splice zs off cs) ∧ w.grownBy wr (some g) ∧
    val 4294967296 cs + 4294967296 ^ k * cy = val 4294967296 ((zs.drop off).take k) + val 4294967296 (b.take k))
  case atStart => exact ⟨0, 0, [], by omega, rfl, rfl, by omega, rfl, Dg.nil _, by rw [splice_nil]; exact hrow, World.grownBy.refl _ _, rfl⟩
  case round =>
    obtain ⟨k, cy, cs, hg, rfl, rfl, hcy, rfl, hcd, hr, hgr, hv⟩ := hrel
    have HG := Lib.hid hg
    have HV := Lib.hid hv
    clear hg hv
    have hlen : (splice zs off cs).length = zs.length := length_splice' (by have := HG.out; omega)
    have HL := Lib.hid hlen
    clear hlen
    by_cases hlt : cs.length < b.length
    · have hR := hbl.grown hgr (fun x hx => ⟨hx.2, fun e => hx.1 (by injection e)⟩)
      obtain ⟨bb, ob, rfl, _, cb0⟩ := hR.at_ hlt
      have ca := hr.cell (i := off + cs.length) (by rw [HL.out]; omega)
      rw [get_splice_ge (by omega) (Nat.le_refl _)] at ca
      have hf := hr.frozen (off + cs.length)
      have hp1 := hz.get (j := off + cs.length) (by omega)
      have hq1 := hbd.get hlt
      have hs1 := take_drop_succ (zs := zs) (off := off) (k := cs.length) (by omega) 4294967296
      have hs2 := val_take_succ (b := 4294967296) hlt
      obtain ⟨p, hp⟩ : ∃ p, zs[off + cs.length]'(by omega) = p := ⟨_, rfl⟩
      obtain ⟨q, hq⟩ : ∃ q, b[cs.length] = q := ⟨_, rfl⟩
      rw [hp] at ca hp1 hs1
      rw [hq] at cb0 hq1 hs2
      have HS1 := Lib.hid hs1
      have HS2 := Lib.hid hs2
      clear hp hq hs1 hs2
      go_wp2_with (go_at_call 254; refine (add32 p q cy wr hp1 hq1 hcy).mono ?_; rintro e w' ⟨rfl, rfl⟩)
      go_roundg (gk - 1)
      case measure => have := HG.out; omega
      case rel =>
        have hr2 := hr.set (off + cs.length) ((p + q + cy) % 4294967296)
        rw [splice_snoc (by omega)] at hr2
        refine ⟨cs.length + 1, (p + q + cy) / 4294967296, cs ++ [(p + q + cy) % 4294967296], by have := HG.out; omega, by go_num, by go_num, by omega, by simp, hcd.snoc (by omega), hr2, grown_setCell hgr _ _, ?_⟩
        rw [add_step (x := p) (y := q) rfl HV.out, HS1.out, HS2.out]
    · have hk : cs.length = b.length := by have := HG.out; omega
      have HK := Lib.hid hk
      clear hk
      go_wp2_with fail
      go_loopg [4, 7] (n - b.length) (fun gh c' i wr => ∃ (k cy : Nat) (cs : List Nat), gh + k = n ∧ b.length ≤ k ∧ i = .int .i64 k ∧ c' = .int .u32 cy ∧ cy ≤ 1 ∧ cs.length = k ∧ Dg 4294967296 cs ∧ Row wr g t .u32 (splice zs off cs) ∧ w.grownBy wr (some g) ∧
        val 4294967296 cs + 4294967296 ^ k * cy = val 4294967296 ((zs.drop off).take k) + val 4294967296 b)
      case atStart =>
        have hk := HK.out
        refine ⟨b.length, cy, cs, by omega, by omega, rfl, rfl, hcy, hk, hcd, hr, hgr, ?_⟩
        have := HV.out
        rw [hk, List.take_length] at this
        exact this
      case round =>
        clear HG HV HL hcd hr hgr HK hlt hcy
        obtain ⟨k, cy, cs, hg, hkb, rfl, rfl, hcy, rfl, hcd, hr, hgr, hv⟩ := hrel
        have HG := Lib.hid hg
        have HV := Lib.hid hv
        clear hg hv
        have hlen : (splice zs off cs).length = zs.length := length_splice' (by have := HG.out; omega)
        have HL := Lib.hid hlen
        clear hlen
        by_cases hlt : cs.length < n
        · by_cases h0 : cy = 0
          · subst h0
            go_wp2
            go_end0
            refine ⟨rfl, cs ++ (zs.drop (off + cs.length)).take (n - cs.length), 0, ?_, ?_, ?_, ?_, hgr⟩
            · rw [List.length_append, List.length_take, List.length_drop]; omega
            · exact Dg.append.2 ⟨hcd, hz.drop.take⟩
            · have hv := HV.out
              rw [Nat.mul_zero, Nat.add_zero] at hv ⊢
              rw [val_append, hv]
              have e := val_split (b := 4294967296) (k := cs.length) (xs := (zs.drop off).take n) (by rw [List.length_take, List.length_drop]; omega)
              rw [List.take_take, Nat.min_eq_left (by omega), List.drop_take, List.drop_drop] at e
              rw [e]; omega
            · rw [splice_rest hn (by omega)]; exact hr
          · have ca := hr.cell (i := off + cs.length) (by rw [HL.out]; omega)
            rw [get_splice_ge (by omega) (Nat.le_refl _)] at ca
            have hf := hr.frozen (off + cs.length)
            have hp1 := hz.get (j := off + cs.length) (by omega)
            have hs1 := take_drop_succ (zs := zs) (off := off) (k := cs.length) (by omega) 4294967296
            obtain ⟨p, hp⟩ : ∃ p, zs[off + cs.length]'(by omega) = p := ⟨_, rfl⟩
            rw [hp] at ca hp1 hs1
            have HS1 := Lib.hid hs1
            clear hp hs1
            have cadd := add32 p 0 cy wr hp1 (by omega) hcy
            go_wp2_with (go_at_call 254; refine cadd.mono ?_; rintro e w' ⟨rfl, rfl⟩)
            go_roundg (gk - 1)
            case measure => have := HG.out; omega
            case rel =>
              have hr2 := hr.set (off + cs.length) ((p + 0 + cy) % 4294967296)
              rw [splice_snoc (by omega)] at hr2
              refine ⟨cs.length + 1, (p + 0 + cy) / 4294967296, cs ++ [(p + 0 + cy) % 4294967296], by have := HG.out; omega, by omega, by go_num, by go_num, by omega, by simp, hcd.snoc (by omega), hr2, grown_setCell hgr _ _, ?_⟩
              rw [add_step (x := p) (y := 0) rfl HV.out, HS1.out, Nat.mul_zero, Nat.add_zero]
        · have hk : cs.length = n := by have := HG.out; omega
          have HK := Lib.hid hk
          clear hk
          go_wp2
          go_end0
          refine ⟨rfl, cs, cy, HK.out, hcd, ?_, hr, hgr⟩
          have := HV.out
          rw [HK.out] at this
          exact this

end Go.Proofs.YtdmoibphidipeaaGreatDoor
/- What the program's own takeOff answers. -/

namespace Go.Proofs.YtdmoibphidipeaaGreatDoor
open Go.RowKit Num

set_option maxHeartbeats 800000 in
/-- taking b off the n words of block g from off on, which aren't below it. -/
theorem nat_takeOff (zs b : List Nat) (g off n c : Nat) (A : Option Addr) (cb : Nat) (t : TypeId) (w : World) (hrow : Row w g t .u32 zs) (hb : Rd w (fun x => x ≠ g) .u32 A b) (hn : off + n ≤ zs.length) (hbn : b.length ≤ n) (hl : n ≤ 2147483648) (hz : Dg 4294967296 zs) (hbd : Dg 4294967296 b) (hle : val 4294967296 b ≤ val 4294967296 ((zs.drop off).take n)) :
    Calls Tryz.prog 241 #[.slice (some ⟨g, off, none⟩) n c, .slice A b.length cb] w fun e w' => e = .returned (.tuple #[]) ∧ ∃ cs, cs.length = n ∧ Dg 4294967296 cs ∧ val 4294967296 cs + val 4294967296 b = val 4294967296 ((zs.drop off).take n) ∧ Row w' g t .u32 (splice zs off cs) ∧ w.grownBy w' (some g) := by
  have hbl := hb.below_size
  have HLE := Lib.hid hle
  clear hle
  go_enter Tryz.func241, Tryz.ntmps241
  go_wp2_with fail
  go_loopg [4, 5, 6, 10] b.length (fun gh c' _ _ i wr => ∃ (k cy : Nat) (cs : List Nat), gh + k = b.length ∧ i = .int .i64 k ∧ c' = .int .u32 cy ∧ cy ≤ 1 ∧ cs.length = k ∧ Dg 4294967296 cs ∧ Row wr g t .u32 (splice zs off cs) ∧ w.grownBy wr (some g) ∧
    val 4294967296 cs + val 4294967296 (b.take k) = val 4294967296 ((zs.drop off).take k) + 4294967296 ^ k * cy)
  case atStart => exact ⟨0, 0, [], by omega, rfl, rfl, by omega, rfl, Dg.nil _, by rw [splice_nil]; exact hrow, World.grownBy.refl _ _, rfl⟩
  case round =>
    obtain ⟨k, cy, cs, hg, rfl, rfl, hcy, rfl, hcd, hr, hgr, hv⟩ := hrel
    have HG := Lib.hid hg
    have HV := Lib.hid hv
    clear hg hv
    have hlen : (splice zs off cs).length = zs.length := length_splice' (by have := HG.out; omega)
    have HL := Lib.hid hlen
    clear hlen
    by_cases hlt : cs.length < b.length
    · have hR := hbl.grown hgr (fun x hx => ⟨hx.2, fun e => hx.1 (by injection e)⟩)
      obtain ⟨bb, ob, rfl, _, cb0⟩ := hR.at_ hlt
      have ca := hr.cell (i := off + cs.length) (by rw [HL.out]; omega)
      rw [get_splice_ge (by omega) (Nat.le_refl _)] at ca
      have hf := hr.frozen (off + cs.length)
      have hp1 := hz.get (j := off + cs.length) (by omega)
      have hq1 := hbd.get hlt
      have hs1 := take_drop_succ (zs := zs) (off := off) (k := cs.length) (by omega) 4294967296
      have hs2 := val_take_succ (b := 4294967296) hlt
      obtain ⟨p, hp⟩ : ∃ p, zs[off + cs.length]'(by omega) = p := ⟨_, rfl⟩
      obtain ⟨q, hq⟩ : ∃ q, b[cs.length] = q := ⟨_, rfl⟩
      rw [hp] at ca hp1 hs1
      rw [hq] at cb0 hq1 hs2
      have HS1 := Lib.hid hs1
      have HS2 := Lib.hid hs2
      clear hp hq hs1 hs2
      go_wp2_with (go_at_call 255; refine (sub32 p q cy wr hp1 hq1 hcy).mono ?_; rintro e w' ⟨rfl, rfl⟩)
      go_roundg (gk - 1)
      case measure => have := HG.out; omega
      case rel =>
        have hr2 := hr.set (off + cs.length) ((4294967296 + p - q - cy) % 4294967296)
        rw [splice_snoc (by omega)] at hr2
        refine ⟨cs.length + 1, 1 - (4294967296 + p - q - cy) / 4294967296, cs ++ [(4294967296 + p - q - cy) % 4294967296], by have := HG.out; omega, by go_num, by go_num, by omega, by simp, hcd.snoc (by omega), hr2, grown_setCell hgr _ _, ?_⟩
        rw [HS2.out, sub_step (x := p) (y := q) (v := 4294967296 + p - q - cy) rfl HV.out (by omega) (by omega), HS1.out]
    · have hk : cs.length = b.length := by have := HG.out; omega
      have HK := Lib.hid hk
      clear hk
      go_wp2_with fail
      go_loopg [4, 7] (n - b.length) (fun gh c' i wr => ∃ (k cy : Nat) (cs : List Nat), gh + k = n ∧ b.length ≤ k ∧ i = .int .i64 k ∧ c' = .int .u32 cy ∧ cy ≤ 1 ∧ cs.length = k ∧ Dg 4294967296 cs ∧ Row wr g t .u32 (splice zs off cs) ∧ w.grownBy wr (some g) ∧
        val 4294967296 cs + val 4294967296 b = val 4294967296 ((zs.drop off).take k) + 4294967296 ^ k * cy)
      case atStart =>
        have hk := HK.out
        refine ⟨b.length, cy, cs, by omega, by omega, rfl, rfl, hcy, hk, hcd, hr, hgr, ?_⟩
        have := HV.out
        rw [hk, List.take_length] at this
        exact this
      case round =>
        clear HG HV HL hcd hr hgr HK hlt hcy
        obtain ⟨k, cy, cs, hg, hkb, rfl, rfl, hcy, rfl, hcd, hr, hgr, hv⟩ := hrel
        have HG := Lib.hid hg
        have HV := Lib.hid hv
        clear hg hv
        have hlen : (splice zs off cs).length = zs.length := length_splice' (by have := HG.out; omega)
        have HL := Lib.hid hlen
        clear hlen
        by_cases hlt : cs.length < n
        · by_cases h0 : cy = 0
          · subst h0
            go_wp2
            go_end0
            refine ⟨rfl, cs ++ (zs.drop (off + cs.length)).take (n - cs.length), ?_, ?_, ?_, ?_, hgr⟩
            · rw [List.length_append, List.length_take, List.length_drop]; omega
            · exact Dg.append.2 ⟨hcd, hz.drop.take⟩
            · have hv := HV.out
              rw [Nat.mul_zero, Nat.add_zero] at hv
              rw [val_append]
              have e := val_split (b := 4294967296) (k := cs.length) (xs := (zs.drop off).take n) (by rw [List.length_take, List.length_drop]; omega)
              rw [List.take_take, Nat.min_eq_left (by omega), List.drop_take, List.drop_drop] at e
              rw [e]; omega
            · rw [splice_rest hn (by omega)]; exact hr
          · have ca := hr.cell (i := off + cs.length) (by rw [HL.out]; omega)
            rw [get_splice_ge (by omega) (Nat.le_refl _)] at ca
            have hf := hr.frozen (off + cs.length)
            have hp1 := hz.get (j := off + cs.length) (by omega)
            have hs1 := take_drop_succ (zs := zs) (off := off) (k := cs.length) (by omega) 4294967296
            obtain ⟨p, hp⟩ : ∃ p, zs[off + cs.length]'(by omega) = p := ⟨_, rfl⟩
            rw [hp] at ca hp1 hs1
            have HS1 := Lib.hid hs1
            clear hp hs1
            have csub := sub32 p 0 cy wr hp1 (by omega) hcy
            go_wp2_with (go_at_call 255; refine csub.mono ?_; rintro e w' ⟨rfl, rfl⟩)
            go_roundg (gk - 1)
            case measure => have := HG.out; omega
            case rel =>
              have hr2 := hr.set (off + cs.length) ((4294967296 + p - 0 - cy) % 4294967296)
              rw [splice_snoc (by omega)] at hr2
              refine ⟨cs.length + 1, 1 - (4294967296 + p - 0 - cy) / 4294967296, cs ++ [(4294967296 + p - 0 - cy) % 4294967296], by have := HG.out; omega, by omega, by go_num, by go_num, by omega, by simp, hcd.snoc (by omega), hr2, grown_setCell hgr _ _, ?_⟩
              have hss := sub_step (x := p) (y := 0) (v := 4294967296 + p - 0 - cy) rfl HV.out (by omega) (by omega)
              rw [Nat.mul_zero, Nat.add_zero] at hss
              rw [hss, HS1.out]
        · have hk : cs.length = n := by have := HG.out; omega
          have HK := Lib.hid hk
          clear hk
          have hv := HV.out
          rw [HK.out] at hv
          have h0 := borrow_zero hcy (by have := val_lt hcd; rwa [HK.out] at this) HLE.out hv
          subst h0
          have HV2 := Lib.hid hv
          clear hv
          go_wp2
          go_end0
          refine ⟨rfl, cs, HK.out, hcd, ?_, hr, hgr⟩
          have := HV2.out
          rw [Nat.mul_zero, Nat.add_zero] at this
          exact this
end Go.Proofs.YtdmoibphidipeaaGreatDoor
/- What the program's own calls on numbers answer: Trim, Add, Sub. -/

namespace Go.Proofs.YtdmoibphidipeaaGreatDoor
open Go.RowKit Num

theorem size_u32 : (Tryz.prog.info? 102).map (·.size) = some 1 := by kernel_rfl
theorem make_words (n : Nat) (hn : n ≤ 34359738368) (u : World) : (Instr.makeSlice 35 (.int .i64 (n : Int)) (.int .i64 (n : Int))).run Tryz.prog u =
    .ok (.slice (some ⟨u.heap.size, 0, none⟩) n n) (u.alloc (.cells (cells .u32 (List.replicate n 0)).toArray 102)) :=
  run_make_digits 35 102 .u32 4 Tryz.underlying35 info_u32 (by omega) n hn u
theorem make_words1 (n : Nat) (hn : n + 1 ≤ 34359738368) (u : World) : (Instr.makeSlice 35 (.int .i64 ((n : Int) + 1)) (.int .i64 ((n : Int) + 1))).run Tryz.prog u =
    .ok (.slice (some ⟨u.heap.size, 0, none⟩) (n + 1) (n + 1)) (u.alloc (.cells (cells .u32 (List.replicate (n + 1) 0)).toArray 102)) := make_words (n + 1) hn u
theorem splice_full {zs cs : List Nat} (h : cs.length = zs.length) : splice zs 0 cs = cs := by simp [splice, h]
theorem splice_zero {zs cs : List Nat} : splice zs 0 cs = cs ++ zs.drop cs.length := by simp [splice]
theorem below_alloc_grown {B : Nat} {w w' : World} {o : Obj} {g : Nat} (hB : B ≤ w.heap.size) (h : (w.alloc o).grownBy w' (some g)) (hg : B ≤ g) : Below B w w' :=
  ((Below.refl B w).alloc hB o).grown h (by simp; omega) (fun k e => by injection e with e; omega)

set_option maxHeartbeats 400000 in
/-- a number laid anew: in a block of its own, without words of 0 at its end -/
theorem nat_Trim (d : List Nat) (A : Option Addr) (c : Nat) (S : Nat → Prop) (w : World) (h : Rd w S .u32 A d) (hS : ∀ b, S b → b < w.heap.size) (hl : d.length ≤ 2147483648) (hc : d.length ≤ c) (hd : Dg 4294967296 d) :
    Calls Tryz.prog 173 #[.slice A d.length c] w fun e w' => ∃ ys, Norm 4294967296 ys ∧ val 4294967296 ys = val 4294967296 d ∧ ys.length ≤ d.length ∧ Below w.heap.size w w' ∧
      ((ys = [] ∧ e = .returned (.slice none 0 0)) ∨ (ys ≠ [] ∧ ∃ g, e = .returned (.slice (some ⟨g, 0, none⟩) ys.length ys.length) ∧ w.heap.size ≤ g ∧ Row w' g 102 .u32 ys)) := by
  go_enter Tryz.func173, Tryz.ntmps173
  go_wp2_with fail
  refine (nat_cut d A c S w h (by omega) hc hd).mono ?_
  rintro e w1 ⟨ys, A1, c1, rfl, hcut, hr, rfl⟩
  obtain ⟨hc1, hl1, -, hn, hv, -⟩ := hcut
  have HN := Lib.hid hn
  have HV := Lib.hid hv
  clear hn hv h
  by_cases h0 : ys.length = 0
  · obtain rfl : ys = [] := List.eq_nil_of_length_eq_zero h0
    go_wp2
    go_ret
    exact ⟨[], HN.out, HV.out, by simp, Below.refl _ _, .inl ⟨rfl, rfl⟩⟩
  · have hmk := fun u => make_words ys.length (by omega) u
    have hr1 : Rd (w.alloc (.cells (cells .u32 (List.replicate ys.length 0)).toArray 102)) S .u32 A1 ys := hr.keep fun p hp => World.cell?_alloc_lt w _ p (hS _ hp)
    go_wp2_with (with_reducible refine wpList_copy_digits rfl _ _ 35 rfl 102 .u32 Tryz.underlying35 size_u32 _ _ _ _ _ _ rfl rfl w.heap.size 0 (List.replicate ys.length 0) (Row.new w _ _ _) ys (by simp) (fun _ => rfl) S hr1 (by simp) ?_; intro w2 hrow2 hgr2)
    go_ret
    rw [splice_full (by simp)] at hrow2
    refine ⟨ys, HN.out, HV.out, hl1, below_alloc_grown (Nat.le_refl _) hgr2 (Nat.le_refl _), .inr ⟨by rintro rfl; simp at h0, w.heap.size, rfl, Nat.le_refl _, hrow2⟩⟩

set_option maxHeartbeats 800000 in
/-- a sum -/
theorem nat_Add (a b : List Nat) (A A' : Option Addr) (ca cb : Nat) (S S' : Nat → Prop) (w : World) (h : Rd w S .u32 A a) (h' : Rd w S' .u32 A' b) (hS : ∀ g, S g → g < w.heap.size) (hS' : ∀ g, S' g → g < w.heap.size) (hl : a.length ≤ 2147483647) (hl' : b.length ≤ 2147483647) (hc : a.length ≤ ca) (hc' : b.length ≤ cb) (ha : Dg 4294967296 a) (hb : Dg 4294967296 b) :
    Calls Tryz.prog 216 #[.slice A a.length ca, .slice A' b.length cb] w (Gives .u32 4294967296 (val 4294967296 a + val 4294967296 b) w) := by
  go_enter Tryz.func216, Tryz.ntmps216
  go_wp2_with fail
  refine (nat_cut a A ca S w h (by omega) hc ha).mono ?_
  rintro e w1 ⟨x, A1, c1, rfl, hcut1, hr1, rfl⟩
  obtain ⟨hc1, hl1, -, hn1, hv1, -⟩ := hcut1
  have HN1 := Lib.hid hn1
  have HV1 := Lib.hid hv1
  clear hn1 hv1 h
  go_wp2_with fail
  refine (nat_cut b A' cb S' w h' (by omega) hc' hb).mono ?_
  rintro e w1 ⟨y, A2, c2, rfl, hcut2, hr2, rfl⟩
  obtain ⟨hc2, hl2, -, hn2, hv2, -⟩ := hcut2
  have HN2 := Lib.hid hn2
  have HV2 := Lib.hid hv2
  clear hn2 hv2 h'
  have hr1' : Rd w (fun g => g < w.heap.size) .u32 A1 x := hr1.imp hS
  have hr2' : Rd w (fun g => g < w.heap.size) .u32 A2 y := hr2.imp hS'
  clear hr1 hr2
  by_cases hlt : x.length < y.length
  · skip
    have hmk := fun u => make_words1 y.length (by omega) u
    have hrX : Rd (w.alloc (.cells (cells .u32 (List.replicate (y.length + 1) 0)).toArray 102)) (fun g => g < w.heap.size) .u32 A2 y := hr2'.keep fun p hp => World.cell?_alloc_lt w _ p hp
    have hrY : Rd (w.alloc (.cells (cells .u32 (List.replicate (y.length + 1) 0)).toArray 102)) (fun g => g < w.heap.size) .u32 A1 x := hr1'.keep fun p hp => World.cell?_alloc_lt w _ p hp
    go_wp2_with (with_reducible refine wpList_copy_digits rfl _ _ 35 rfl 102 .u32 Tryz.underlying35 size_u32 _ _ _ _ _ _ rfl rfl w.heap.size 0 (List.replicate (y.length + 1) 0) (Row.new w _ _ _) y (by simp) (fun _ => rfl) _ hrX (by simp) ?_; intro w2 hrow2 hgr2)
    rw [splice_zero] at hrow2
    have ez : (List.replicate (y.length + 1) 0).drop y.length = [0] := by rw [List.drop_replicate]; simp
    rw [ez] at hrow2
    have hrY2 : Rd w2 (fun g => g ≠ w.heap.size) .u32 A1 x := (hrY.grown hgr2 (fun g hg => ⟨by simp; omega, fun e => by injection e; omega⟩)).imp (fun g hg => by omega)
    clear ez hrX hrY
    refine (nat_addIn (y ++ [0]) x w.heap.size 0 (y.length + 1) (y.length + 1) A1 c1 _ w2 hrow2 hrY2 (by simp) (by omega) (by omega) (HN2.out.1.snoc (by omega)) HN1.out.1).mono ?_
    rintro e w3 ⟨rfl, cs, k, hcl, hcd, hcv, hrow3, hgr3⟩
    rw [splice_full (by simp; omega)] at hrow3
    have HCV := Lib.hid hcv
    clear hcv
    have hrd3 : Rd w3 (fun g => g < w3.heap.size) .u32 (some ⟨w.heap.size, 0, none⟩) cs := hrow3.rd_all hrow3.lt
    go_wp2_with fail
    have hcut := nat_cut cs (some ⟨w.heap.size, 0, none⟩) (y.length + 1) _ w3 hrd3 (by omega) (by omega) hcd
    rw [hcl] at hcut
    refine hcut.mono ?_
    rintro e w4 ⟨us, A4, c4, rfl, hcut4, hr4, rfl⟩
    obtain ⟨hc4, hl4, -, hn4, hv4, -⟩ := hcut4
    have HN4 := Lib.hid hn4
    have HV4 := Lib.hid hv4
    clear hn4 hv4 hcut
    go_wp2
    go_ret
    refine ⟨A4, us, c4, rfl, hc4, HN4.out, ?_, hr4, below_alloc_grown (Nat.le_refl _) (grown_trans hgr2 hgr3) (Nat.le_refl _)⟩
    have hv := HCV.out
    simp only [List.drop_zero] at hv
    rw [List.take_of_length_le (by simp), val_snoc, Nat.mul_zero, Nat.add_zero] at hv
    have h0 := carry_zero (by omega) (val_lt_pow HN2.out.1 (by omega) (Nat.le_refl _)) (val_lt_pow HN1.out.1 (by omega) (by omega)) hv
    rw [h0, Nat.mul_zero, Nat.add_zero, HV1.out, HV2.out] at hv
    rw [HV4.out, hv]; omega
  · skip
    have hmk := fun u => make_words1 x.length (by omega) u
    have hrX : Rd (w.alloc (.cells (cells .u32 (List.replicate (x.length + 1) 0)).toArray 102)) (fun g => g < w.heap.size) .u32 A1 x := hr1'.keep fun p hp => World.cell?_alloc_lt w _ p hp
    have hrY : Rd (w.alloc (.cells (cells .u32 (List.replicate (x.length + 1) 0)).toArray 102)) (fun g => g < w.heap.size) .u32 A2 y := hr2'.keep fun p hp => World.cell?_alloc_lt w _ p hp
    go_wp2_with (with_reducible refine wpList_copy_digits rfl _ _ 35 rfl 102 .u32 Tryz.underlying35 size_u32 _ _ _ _ _ _ rfl rfl w.heap.size 0 (List.replicate (x.length + 1) 0) (Row.new w _ _ _) x (by simp) (fun _ => rfl) _ hrX (by simp) ?_; intro w2 hrow2 hgr2)
    rw [splice_zero] at hrow2
    have ez : (List.replicate (x.length + 1) 0).drop x.length = [0] := by rw [List.drop_replicate]; simp
    rw [ez] at hrow2
    have hrY2 : Rd w2 (fun g => g ≠ w.heap.size) .u32 A2 y := (hrY.grown hgr2 (fun g hg => ⟨by simp; omega, fun e => by injection e; omega⟩)).imp (fun g hg => by omega)
    clear ez hrX hrY
    refine (nat_addIn (x ++ [0]) y w.heap.size 0 (x.length + 1) (x.length + 1) A2 c2 _ w2 hrow2 hrY2 (by simp) (by omega) (by omega) (HN1.out.1.snoc (by omega)) HN2.out.1).mono ?_
    rintro e w3 ⟨rfl, cs, k, hcl, hcd, hcv, hrow3, hgr3⟩
    rw [splice_full (by simp; omega)] at hrow3
    have HCV := Lib.hid hcv
    clear hcv
    have hrd3 : Rd w3 (fun g => g < w3.heap.size) .u32 (some ⟨w.heap.size, 0, none⟩) cs := hrow3.rd_all hrow3.lt
    go_wp2_with fail
    have hcut := nat_cut cs (some ⟨w.heap.size, 0, none⟩) (x.length + 1) _ w3 hrd3 (by omega) (by omega) hcd
    rw [hcl] at hcut
    refine hcut.mono ?_
    rintro e w4 ⟨us, A4, c4, rfl, hcut4, hr4, rfl⟩
    obtain ⟨hc4, hl4, -, hn4, hv4, -⟩ := hcut4
    have HN4 := Lib.hid hn4
    have HV4 := Lib.hid hv4
    clear hn4 hv4 hcut
    go_wp2
    go_ret
    refine ⟨A4, us, c4, rfl, hc4, HN4.out, ?_, hr4, below_alloc_grown (Nat.le_refl _) (grown_trans hgr2 hgr3) (Nat.le_refl _)⟩
    have hv := HCV.out
    simp only [List.drop_zero] at hv
    rw [List.take_of_length_le (by simp), val_snoc, Nat.mul_zero, Nat.add_zero] at hv
    have h0 := carry_zero (by omega) (val_lt_pow HN1.out.1 (by omega) (Nat.le_refl _)) (val_lt_pow HN2.out.1 (by omega) (by omega)) hv
    rw [h0, Nat.mul_zero, Nat.add_zero, HV1.out, HV2.out] at hv
    rw [HV4.out, hv]; omega

end Go.Proofs.YtdmoibphidipeaaGreatDoor
/- What the program's own Sub answers. -/

namespace Go.Proofs.YtdmoibphidipeaaGreatDoor
open Go.RowKit Num

theorem nat_takeOff_nil (A A' : Option Addr) (c c' : Nat) (w : World) :
    Calls Tryz.prog 241 #[.slice A 0 c, .slice A' 0 c'] w fun e w' => e = .returned (.tuple #[]) ∧ w = w' := by
  go_enter Tryz.func241, Tryz.ntmps241
  go_wp2_with fail
  go_loopg [4, 5, 6, 10] 0 (fun gh c' _ _ i wr => i = .int .i64 0 ∧ c' = .int .u32 0 ∧ w = wr)
  case atStart => exact ⟨rfl, rfl, rfl⟩
  case round =>
    obtain ⟨rfl, rfl, rfl⟩ := hrel
    go_wp2_with fail
    go_loopg [4, 7] 0 (fun gh c' i wr => c' = .int .u32 0 ∧ w = wr)
    case atStart => exact ⟨rfl, rfl⟩
    case round =>
      obtain ⟨rfl, rfl⟩ := hrel
      go_wp2
      go_end0
      exact ⟨rfl, rfl⟩

set_option maxHeartbeats 800000 in
/-- what is left -/
theorem nat_Sub (a b : List Nat) (A A' : Option Addr) (ca cb : Nat) (S S' : Nat → Prop) (w : World) (h : Rd w S .u32 A a) (h' : Rd w S' .u32 A' b) (hS : ∀ g, S g → g < w.heap.size) (hS' : ∀ g, S' g → g < w.heap.size) (hl : a.length ≤ 1073741824) (hl' : b.length ≤ 1073741824) (hc : a.length ≤ ca) (hc' : b.length ≤ cb) (ha : Dg 4294967296 a) (hb : Dg 4294967296 b) :
    Calls Tryz.prog 217 #[.slice A a.length ca, .slice A' b.length cb] w (GivesB .u32 4294967296 (val 4294967296 a - val 4294967296 b) (decide (val 4294967296 b ≤ val 4294967296 a)) w) := by
  go_enter Tryz.func217, Tryz.ntmps217
  go_wp2_with fail
  refine (nat_Cmp a b A A' ca cb S S' w h h' hl hl' hc hc' ha hb).mono ?_
  rintro e w0 ⟨rfl, m, hw0⟩
  have hb0 : Below w.heap.size w w0 := by rw [hw0]; exact below_drewN (Below.refl _ _) m
  have hs0 : w0.heap.size = w.heap.size := by rw [hw0]; rfl
  have h1 : Rd w0 S .u32 A a := by rw [hw0]; exact h.drewN m
  have h1' : Rd w0 S' .u32 A' b := by rw [hw0]; exact h'.drewN m
  clear hw0 h h'
  have hneg := cmpI_neg (val 4294967296 a) (val 4294967296 b)
  have hSa : ∀ g, S g → g < w0.heap.size := fun g hg => by have := hS g hg; omega
  have hSb : ∀ g, S' g → g < w0.heap.size := fun g hg => by have := hS' g hg; omega
  have HS0 := Lib.hid hs0
  clear hs0
  by_cases hlt : val 4294967296 a < val 4294967296 b
  · rw [cmpI_lt hlt]
    have H := Lib.hid hlt
    clear hlt hneg
    go_wp2_with fail
    go_ret2
    have hlt := H.out
    refine ⟨none, [], 0, ?_, by simp, norm_nil _, ?_, Rd.nil, hb0⟩
    · rw [decide_eq_false (by omega)]; rfl
    · rw [val_nil]; omega
  · obtain ⟨z, hz⟩ : ∃ z, cmpI (val 4294967296 a) (val 4294967296 b) = z := ⟨_, rfl⟩
    rw [hz] at hneg ⊢
    have hz0 : 0 ≤ z := by omega
    have H := Lib.hid hlt
    clear hlt hneg hz
    go_wp2_with fail
    refine (nat_Trim a A ca S w0 h1 hSa (by omega) hc ha).mono ?_
    rintro e w1 ⟨x, hn1, hv1, hl1, hb1, hcase⟩
    have HN1 := Lib.hid hn1
    have HV1 := Lib.hid hv1
    clear hn1 hv1
    have hs1 := hb1.size
    have h2' : Rd w1 S' .u32 A' b := h1'.below hb1 hSb
    clear h1 h1'
    have hble : val 4294967296 b ≤ val 4294967296 a := Nat.le_of_not_lt H.out
    rcases hcase with ⟨hx, rfl⟩ | ⟨hx, g, rfl, hg, hrow⟩
    · have hva : val 4294967296 a = 0 := by rw [← HV1.out, hx]; rfl
      have HVA := Lib.hid hva
      have HBL := Lib.hid hble
      have HX := Lib.hid hx
      clear hva hble hx
      go_wp2_with fail
      refine (nat_cut b A' cb S' w1 h2' (by omega) hc' hb).mono ?_
      rintro e w2 ⟨y, A2, c2, rfl, hcut2, hr2, rfl⟩
      obtain ⟨hc2, hl2, -, hn2, hv2, -⟩ := hcut2
      have hy : y = [] := (hn2.2.nil_iff (b := 4294967296) (by omega)).2 (by rw [hv2]; have := HBL.out; have := HVA.out; omega)
      subst hy
      clear hn2 hv2 hc2 hl2 hr2
      go_wp2_with (first
        | (go_at_call 241; refine (nat_takeOff_nil _ _ _ _ _).mono ?_; rintro e w' ⟨rfl, rfl⟩)
        | (go_at_call 145; refine (nat_cut [] none 0 S _ Rd.nil (by simp) (by simp) (Dg.nil _)).mono ?_; rintro e w' ⟨us, A4, c4, rfl, hcut4, hr4, rfl⟩))
      go_ret2
      obtain ⟨hc4, hl4, -, hn4, hv4, -⟩ := hcut4
      refine ⟨A4, us, c4, ?_, hc4, hn4, ?_, hr4.below_size.imp (fun g hg => hg.2), hb0.trans (hb1.mono (by have := HS0.out; omega))⟩
      · rw [decide_eq_true (HBL.out)]; rfl
      · rw [hv4, HVA.out]; simp [val]
    · have HBL := Lib.hid hble
      clear hble
      go_wp2_with fail
      refine (nat_cut b A' cb S' w1 h2' (by omega) hc' hb).mono ?_
      rintro e w2 ⟨y, A2, c2, rfl, hcut2, hr2, rfl⟩
      obtain ⟨hc2, hl2, -, hn2, hv2, -⟩ := hcut2
      have HN2 := Lib.hid hn2
      have HV2 := Lib.hid hv2
      clear hn2 hv2
      have hle : val 4294967296 y ≤ val 4294967296 x := by rw [HV2.out, HV1.out]; exact HBL.out
      have hyx : y.length ≤ x.length := HN2.out.2.length_le (by omega) (Nat.lt_of_le_of_lt hle (val_lt HN1.out.1))
      have HLE := Lib.hid hle
      clear hle
      have hrY : Rd w1 (fun b => b ≠ g) .u32 A2 y := hr2.imp (fun q hq => by have := hSb q hq; omega)
      go_wp2_with fail
      refine (nat_takeOff x y g 0 x.length x.length A2 c2 _ w1 hrow hrY (by omega) hyx (by omega) HN1.out.1 HN2.out.1 (by simpa using HLE.out)).mono ?_
      rintro e w3 ⟨rfl, cs, hcl, hcd, hcv, hrow3, hgr3⟩
      rw [splice_full hcl] at hrow3
      have HCV := Lib.hid hcv
      clear hcv
      have hrd3 : Rd w3 (fun g => g < w3.heap.size) .u32 (some ⟨g, 0, none⟩) cs := hrow3.rd_all hrow3.lt
      have hcut := nat_cut cs (some ⟨g, 0, none⟩) x.length _ w3 hrd3 (by omega) (by omega) hcd
      rw [hcl] at hcut
      go_wp2_with fail
      refine hcut.mono ?_
      rintro e w4 ⟨us, A4, c4, rfl, hcut4, hr4, rfl⟩
      obtain ⟨hc4, hl4, -, hn4, hv4, -⟩ := hcut4
      have HN4 := Lib.hid hn4
      have HV4 := Lib.hid hv4
      clear hn4 hv4 hcut
      go_wp2
      go_ret2
      refine ⟨A4, us, c4, ?_, hc4, HN4.out, ?_, hr4, hb0.trans (((hb1.mono (by have := HS0.out; omega)).grown hgr3 (by have := HS0.out; omega) (fun q e => by injection e with e; have := HS0.out; omega)))⟩
      · rw [decide_eq_true (HBL.out)]; rfl
      · have hv := HCV.out
        simp only [List.drop_zero, List.take_length] at hv
        rw [HV2.out, HV1.out] at hv
        rw [HV4.out]; omega
end Go.Proofs.YtdmoibphidipeaaGreatDoor
/- What the program's own calls on numbers answer: addTimes, Mul, Uint. -/

namespace Go.Proofs.YtdmoibphidipeaaGreatDoor
open Go.RowKit Num

set_option maxHeartbeats 800000 in
/-- adding b times x into the words of block g from off on; what goes beyond b's length is answered -/
theorem nat_addTimes (zs b : List Nat) (g off n c x : Nat) (A : Option Addr) (cb : Nat) (t : TypeId) (w : World) (hrow : Row w g t .u32 zs) (hb : Rd w (fun x => x ≠ g) .u32 A b) (hn : off + n ≤ zs.length) (hbn : b.length ≤ n) (hl : n ≤ 4294967296) (hz : Dg 4294967296 zs) (hbd : Dg 4294967296 b) (hx : x < 4294967296) :
    Calls Tryz.prog 199 #[.slice (some ⟨g, off, none⟩) n c, .slice A b.length cb, .int .u32 x] w fun e w' => ∃ cs cy, e = .returned (.int .u32 (cy : Nat)) ∧ cy < 4294967296 ∧ cs.length = b.length ∧ Dg 4294967296 cs ∧ val 4294967296 cs + 4294967296 ^ b.length * cy = val 4294967296 ((zs.drop off).take b.length) + val 4294967296 b * x ∧ Row w' g t .u32 (splice zs off cs) ∧ w.grownBy w' (some g) := by
  have hbl := hb.below_size
  go_enter Tryz.func199, Tryz.ntmps199
  go_wp2_with fail
  go_loopg [7, 8, 9, 12] b.length (fun gh c' _ _ i wr => ∃ (k cy : Nat) (cs : List Nat), gh + k = b.length ∧ i = .int .i64 k ∧ c' = .int .u64 cy ∧ cy < 4294967296 ∧ cs.length = k ∧ Dg 4294967296 cs ∧ Row wr g t .u32 (splice zs off cs) ∧ w.grownBy wr (some g) ∧
    val 4294967296 cs + 4294967296 ^ k * cy = val 4294967296 ((zs.drop off).take k) + val 4294967296 (b.take k) * x)
  case atStart => exact ⟨0, 0, [], by omega, rfl, rfl, by omega, rfl, Dg.nil _, by rw [splice_nil]; exact hrow, World.grownBy.refl _ _, by simp [val]⟩
  case round =>
    obtain ⟨k, cy, cs, hg, rfl, rfl, hcy, rfl, hcd, hr, hgr, hv⟩ := hrel
    have HG := Lib.hid hg
    have HV := Lib.hid hv
    clear hg hv
    have hlen : (splice zs off cs).length = zs.length := length_splice' (by have := HG.out; omega)
    have HL := Lib.hid hlen
    clear hlen
    by_cases hlt : cs.length < b.length
    · have hR := hbl.grown hgr (fun x hx => ⟨hx.2, fun e => hx.1 (by injection e)⟩)
      obtain ⟨bb, ob, rfl, _, cb0⟩ := hR.at_ hlt
      have ca := hr.cell (i := off + cs.length) (by rw [HL.out]; omega)
      rw [get_splice_ge (by omega) (Nat.le_refl _)] at ca
      have hf := hr.frozen (off + cs.length)
      have hp1 := hz.get (j := off + cs.length) (by omega)
      have hq1 := hbd.get hlt
      have hs1 := take_drop_succ (zs := zs) (off := off) (k := cs.length) (by omega) 4294967296
      have hs2 := val_take_succ (b := 4294967296) hlt
      obtain ⟨p, hp⟩ : ∃ p, zs[off + cs.length]'(by omega) = p := ⟨_, rfl⟩
      obtain ⟨q, hq⟩ : ∃ q, b[cs.length] = q := ⟨_, rfl⟩
      rw [hp] at ca hp1 hs1
      rw [hq] at cb0 hq1 hs2
      have HS1 := Lib.hid hs1
      have HS2 := Lib.hid hs2
      clear hp hq hs1 hs2
      have hxq : x * q ≤ 4294967295 * 4294967295 := Nat.mul_le_mul (by omega) (by omega)
      have hxq1 : (x : Int) * (q : Int) ≤ 18446744065119617025 := by rw [← Int.natCast_mul]; omega
      have hxq0 : 0 ≤ (x : Int) * (q : Int) := by rw [← Int.natCast_mul]; omega
      go_wp2
      go_roundg (gk - 1)
      case measure => have := HG.out; omega
      case rel =>
        have hr2 := hr.set (off + cs.length) ((cy + (x * q + p)) % 4294967296)
        rw [splice_snoc (by omega)] at hr2
        have e1 : ((cy : Int) + ((x : Int) * (q : Int) + (p : Int))) = ((cy + (x * q + p) : Nat) : Int) := by rw [Int.natCast_add, Int.natCast_add, Int.natCast_mul]
        rw [e1]
        refine ⟨cs.length + 1, (cy + (x * q + p)) / 4294967296, cs ++ [(cy + (x * q + p)) % 4294967296], by have := HG.out; omega, by go_num, by go_num, by omega, by simp, hcd.snoc (by omega), hr2, grown_setCell hgr _ _, ?_⟩
        rw [mul_step (x := x) (p := p) (q := q) rfl HV.out, HS1.out, HS2.out]
    · have hk : cs.length = b.length := by have := HG.out; omega
      have HK := Lib.hid hk
      clear hk
      go_wp2
      go_ret
      refine ⟨cs, cy, rfl, hcy, HK.out, hcd, ?_, hr, hgr⟩
      have := HV.out
      rw [HK.out, List.take_length] at this
      exact this

theorem mul_splice {cs ds zs : List Nat} {k : Nat} (h : cs.length = k + ds.length) : splice (cs ++ zs) k ds = (cs.take k ++ ds) ++ zs := by
  simp only [splice]
  rw [List.take_append_of_le_length (by omega), List.drop_append, List.drop_of_length_le (by omega), show k + ds.length - cs.length = 0 by omega]
  simp
theorem set_next {P Z : List Nat} {m v : Nat} (h : P.length = m) : (P ++ (0 :: Z)).set m v = (P ++ [v]) ++ Z := by
  rw [List.set_append_right _ _ (by omega), h, Nat.sub_self]; simp

set_option maxHeartbeats 1600000 in
/-- a product -/
theorem nat_Mul (a b : List Nat) (A A' : Option Addr) (ca cb : Nat) (S S' : Nat → Prop) (w : World) (h : Rd w S .u32 A a) (h' : Rd w S' .u32 A' b) (hS : ∀ g, S g → g < w.heap.size) (hS' : ∀ g, S' g → g < w.heap.size) (hl : a.length ≤ 1073741824) (hl' : b.length ≤ 1073741824) (hc : a.length ≤ ca) (hc' : b.length ≤ cb) (ha : Dg 4294967296 a) (hb : Dg 4294967296 b) :
    Calls Tryz.prog 148 #[.slice A a.length ca, .slice A' b.length cb] w (Gives .u32 4294967296 (val 4294967296 a * val 4294967296 b) w) := by
  go_enter Tryz.func148, Tryz.ntmps148
  go_wp2_with fail
  refine (nat_cut a A ca S w h (by omega) hc ha).mono ?_
  rintro e w1 ⟨x, A1, c1, rfl, hcut1, hr1, rfl⟩
  obtain ⟨hc1, hl1, -, hn1, hv1, -⟩ := hcut1
  have HN1 := Lib.hid hn1
  have HV1 := Lib.hid hv1
  clear hn1 hv1 h
  go_wp2_with fail
  refine (nat_cut b A' cb S' w h' (by omega) hc' hb).mono ?_
  rintro e w1 ⟨y, A2, c2, rfl, hcut2, hr2, rfl⟩
  obtain ⟨hc2, hl2, -, hn2, hv2, -⟩ := hcut2
  have HN2 := Lib.hid hn2
  have HV2 := Lib.hid hv2
  clear hn2 hv2 h'
  have hmk : ∀ u : World, (Instr.makeSlice 35 (.int .i64 ((x.length : Int) + (y.length : Int))) (.int .i64 ((x.length : Int) + (y.length : Int)))).run Tryz.prog u =
    .ok (.slice (some ⟨u.heap.size, 0, none⟩) (x.length + y.length) (x.length + y.length)) (u.alloc (.cells (cells .u32 (List.replicate (x.length + y.length) 0)).toArray 102)) := fun u => make_words (x.length + y.length) (by omega) u
  have hrx : Rd (w.alloc (.cells (cells .u32 (List.replicate (x.length + y.length) 0)).toArray 102)) (fun g => g < w.heap.size) .u32 A1 x := (hr1.imp hS).keep fun p hp => World.cell?_alloc_lt w _ p hp
  have hry : Rd (w.alloc (.cells (cells .u32 (List.replicate (x.length + y.length) 0)).toArray 102)) (fun g => g < w.heap.size) .u32 A2 y := (hr2.imp hS').keep fun p hp => World.cell?_alloc_lt w _ p hp
  have hrow0 := Row.new w 102 .u32 (List.replicate (x.length + y.length) 0)
  clear hr1 hr2
  go_wp2_with fail
  obtain ⟨W0, hW0⟩ : ∃ W0, w.alloc (.cells (cells .u32 (List.replicate (x.length + y.length) 0)).toArray 102) = W0 := ⟨_, rfl⟩
  have hsz0 : W0.heap.size = w.heap.size + 1 := by rw [← hW0]; simp
  have hbel0 : Below w.heap.size w W0 := by rw [← hW0]; exact (Below.refl _ _).alloc (Nat.le_refl _) _
  rw [hW0] at hrx hry hrow0 ⊢
  have HSZ := Lib.hid hsz0
  clear hW0 hsz0
  go_loopg [6, 7, 20] y.length (fun gh _ _ i wr => ∃ (k : Nat) (cs : List Nat), gh + k = y.length ∧ i = .int .i64 k ∧ cs.length = x.length + k ∧ Dg 4294967296 cs ∧ val 4294967296 cs = val 4294967296 x * val 4294967296 (y.take k) ∧ Row wr w.heap.size 102 .u32 (cs ++ List.replicate (y.length - k) 0) ∧ W0.grownBy wr (some w.heap.size))
  case atStart => exact ⟨0, List.replicate x.length 0, by omega, rfl, by simp, Dg.zeros (by omega), by rw [val_zeros]; simp [val], by rw [List.replicate_append_replicate]; exact hrow0, World.grownBy.refl _ _⟩
  case round =>
    obtain ⟨k, cs, hg, rfl, hcl, hcd, hcv, hrow, hgr⟩ := hrel
    have HG := Lib.hid hg
    have HCL := Lib.hid hcl
    have HCV := Lib.hid hcv
    clear hg hcl hcv
    by_cases hlt : k < y.length
    · have hrx1 : Rd wr (fun g => g ≠ w.heap.size) .u32 A1 x := (hrx.grown hgr (fun g hg => ⟨by have := HSZ.out; omega, fun e => by injection e; omega⟩)).imp (fun g hg => by omega)
      have hry1 : Rd wr (fun g => g < w.heap.size) .u32 A2 y := hry.grown hgr (fun g hg => ⟨by have := HSZ.out; omega, fun e => by injection e; omega⟩)
      obtain ⟨bb, ob, rfl, _, cb0⟩ := hry1.at_ hlt
      have hq1 := HN2.out.1.get hlt
      have hs2 := val_take_succ (b := 4294967296) hlt
      obtain ⟨q, hq⟩ : ∃ q, y[k] = q := ⟨_, rfl⟩
      rw [hq] at cb0 hq1 hs2
      have HS2 := Lib.hid hs2
      clear hq hs2
      have hne : ¬ (x.length + y.length = k) := by omega
      have hzl : (cs ++ List.replicate (y.length - k) 0).length = x.length + y.length := by rw [List.length_append, List.length_replicate, HCL.out]; omega
      have HZL := Lib.hid hzl
      clear hzl
      have cad := nat_addTimes (cs ++ List.replicate (y.length - k) 0) x w.heap.size k (x.length + y.length - k) (x.length + y.length - k) q A1 c1 _ wr hrow hrx1 (by rw [HZL.out]; omega) (by omega) (by omega) (Dg.append.2 ⟨hcd, Dg.zeros (by omega)⟩) HN1.out.1 hq1
      go_wp2_with fail
      refine cad.mono ?_
      rintro e w2 ⟨ds, cy, rfl, hcy, hdl, hdd, hdv, hrow2, hgr2⟩
      have hcs : cs.length = k + ds.length := by rw [HCL.out, hdl]; omega
      rw [mul_splice hcs, show y.length - k = (y.length - (k + 1)) + 1 by omega, List.replicate_succ] at hrow2
      have hPl : (cs.take k ++ ds).length = k + x.length := by rw [List.length_append, List.length_take, hdl]; omega
      have hc2 := hrow2.cell (i := k + x.length) (by rw [List.length_append, hPl]; simp)
      have e0 : (cs.take k ++ ds ++ 0 :: List.replicate (y.length - (k + 1)) 0)[k + x.length]'(by rw [List.length_append, hPl]; simp) = 0 := by
        rw [List.getElem_append_right (by omega)]; simp [hPl]
      rw [e0] at hc2
      have hf2 := hrow2.frozen (k + x.length)
      have hset := hrow2.set (k + x.length) cy
      rw [set_next hPl] at hset
      have hseg : ((cs ++ List.replicate (y.length - k) 0).drop k).take x.length = cs.drop k := by
        rw [List.drop_append_of_le_length (by omega), List.take_append_of_le_length (by rw [List.length_drop]; omega), List.take_of_length_le (by rw [List.length_drop]; omega)]
      rw [hseg, ← hdl] at hdv
      have hrow3 := mul_row (cs := cs) (by omega) HCV.out hdv
      rw [← HS2.out] at hrow3
      have HR := Lib.hid hrow3
      have HP := Lib.hid hPl
      clear e0 hseg hdv hrow3 hPl hcs hdl cad
      go_wp2
      go_roundg (gk - 1)
      case measure => have := HG.out; omega
      case rel =>
        refine ⟨k + 1, cs.take k ++ ds ++ [cy], by have := HG.out; omega, by go_num, by rw [List.length_append, HP.out]; simp; omega, (Dg.append.2 ⟨hcd.take, hdd⟩).snoc hcy, HR.out, hset, grown_setCell (grown_trans hgr hgr2) _ _⟩
    · have hk : k = y.length := by have := HG.out; omega
      subst hk
      rw [Nat.sub_self, List.replicate_zero, List.append_nil] at hrow
      have hrd3 : Rd wr (fun g => g < wr.heap.size) .u32 (some ⟨w.heap.size, 0, none⟩) cs := hrow.rd_all hrow.lt
      have hcut := nat_cut cs (some ⟨w.heap.size, 0, none⟩) (x.length + y.length) _ wr hrd3 (by rw [HCL.out]; omega) (by rw [HCL.out]; omega) hcd
      rw [HCL.out] at hcut
      go_wp2_with fail
      refine hcut.mono ?_
      rintro e w4 ⟨us, A4, c4, rfl, hcut4, hr4, rfl⟩
      obtain ⟨hc4, hl4, -, hn4, hv4, -⟩ := hcut4
      have HN4 := Lib.hid hn4
      have HV4 := Lib.hid hv4
      clear hn4 hv4 hcut
      go_wp2
      go_ret
      refine ⟨A4, us, c4, rfl, hc4, HN4.out, ?_, hr4, hbel0.grown hgr (by have := HSZ.out; omega) (fun q e => by injection e with e; omega)⟩
      have hv := HCV.out
      rw [List.take_length] at hv
      rw [HV4.out, hv, HV1.out, HV2.out]
end Go.Proofs.YtdmoibphidipeaaGreatDoor
/- Plain facts about decimal texts: a number's digits, the number of digits, pieces of nine. -/

namespace Go.Proofs.YtdmoibphidipeaaGreatDoor.Num
open Go.Lib (decDigits decDigits_length decDigits_one nDigits)

theorem dec_small {u : Nat} (h : u < 10) : decDigits u = [UInt8.ofNat (48 + u % 10)] := by rw [decDigits_one h, Nat.mod_eq_of_lt h]
theorem dec_big {u : Nat} (h : ¬ u < 10) : decDigits u = decDigits (u / 10) ++ [UInt8.ofNat (48 + u % 10)] := by
  rw [decDigits, dif_neg h]
theorem dec_len_pos (u : Nat) : 1 ≤ (decDigits u).length := by rw [decDigits_length]; exact Lib.nDigits_pos u
theorem dec_len_le : ∀ (k u : Nat), u < 10 ^ (k + 1) → (decDigits u).length ≤ k + 1
  | 0, u, h => by rw [dec_small (by simpa using h)]; simp
  | k + 1, u, h => by
    by_cases h10 : u < 10
    · rw [dec_small h10]; simp
    · rw [dec_big h10, List.length_append]
      have := dec_len_le k (u / 10) (by rw [Nat.pow_succ] at h; omega)
      simp; omega
/-- the k lowest digits of r, with noughts ahead -/
def pad : Nat → Nat → List UInt8
  | 0, _ => []
  | k + 1, r => pad k (r / 10) ++ [UInt8.ofNat (48 + r % 10)]
theorem pad_zero (k : Nat) : pad k 0 = List.replicate k 48 := by
  induction k with
  | zero => rfl
  | succ k ih => rw [pad, Nat.zero_div, ih, List.replicate_succ']; rfl
theorem pad_eq : ∀ (k r : Nat), r < 10 ^ k → 1 ≤ k → pad k r = List.replicate (k - (decDigits r).length) 48 ++ decDigits r
  | 0, _, _, h => absurd h (by omega)
  | k + 1, r, h, _ => by
    rw [pad]
    by_cases h10 : r < 10
    · rw [Nat.div_eq_of_lt h10, pad_zero, dec_small h10]; simp
    · have hk : 1 ≤ k := by
        rcases Nat.eq_zero_or_pos k with h0 | h0
        · subst h0; rw [Nat.zero_add, Nat.pow_one] at h; omega
        · exact h0
      rw [pad_eq k (r / 10) (by rw [Nat.pow_succ] at h; omega) hk, dec_big h10, List.length_append, List.append_assoc]
      congr 2
      simp
/-- a number's digits, the k lowest of them apart -/
theorem dec_split : ∀ (k M r : Nat), 0 < M → r < 10 ^ k → decDigits (M * 10 ^ k + r) = decDigits M ++ pad k r
  | 0, M, r, _, h => by
    rw [Nat.pow_zero] at h
    obtain rfl : r = 0 := by omega
    simp [pad]
  | k + 1, M, r, hM, h => by
    have hp : 1 ≤ 10 ^ k := Nat.one_le_pow _ _ (by omega)
    have hM1 : 10 ^ k ≤ M * 10 ^ k := Nat.le_mul_of_pos_left _ hM
    have e : M * 10 ^ (k + 1) = 10 * (M * 10 ^ k) := by rw [Nat.pow_succ]; grind
    have e1 : (M * 10 ^ (k + 1) + r) / 10 = M * 10 ^ k + r / 10 := by rw [e, Nat.mul_add_div (by omega)]
    have e2 : (M * 10 ^ (k + 1) + r) % 10 = r % 10 := by rw [e, Nat.mul_add_mod]
    rw [dec_big (by omega), e1, e2, dec_split k M (r / 10) hM (by rw [Nat.pow_succ] at h; omega), pad, List.append_assoc]

/-- a number of so many words has so many digits -/
theorem dec_len_words {n u : Nat} (h : u < 4294967296 ^ n) : (decDigits u).length ≤ 10 * n + 1 := by
  refine dec_len_le (10 * n) u (Nat.lt_of_lt_of_le h ?_)
  have h1 : (4294967296 : Nat) ^ n ≤ (10 ^ 10) ^ n := Nat.pow_le_pow_left (by decide) n
  rw [← Nat.pow_mul] at h1
  exact Nat.le_trans h1 (Nat.pow_le_pow_right (by omega) (by omega))
end Go.Proofs.YtdmoibphidipeaaGreatDoor.Num
/- What the program's own Parse is made of: decimal, chunk, timesAnd. -/

namespace Go.Proofs.YtdmoibphidipeaaGreatDoor
open Go.RowKit Num

theorem data_size (t : ByteArray) : t.data.toList.length = t.size := by rw [Array.length_toList]; rfl
end Go.Proofs.YtdmoibphidipeaaGreatDoor
/- What the program's own Parse is made of: chunk, timesAnd. -/

namespace Go.Proofs.YtdmoibphidipeaaGreatDoor
open Go.RowKit Num

theorem top_snoc {xs : List Nat} {c : Nat} (h : c ≠ 0) : Top (xs ++ [c]) := by
  unfold Top; rw [List.getLast?_concat]; intro e; exact h (Option.some.inj e)
end Go.Proofs.YtdmoibphidipeaaGreatDoor
/- What the program's own Parse answers. -/

namespace Go.Proofs.YtdmoibphidipeaaGreatDoor
open Go.RowKit Num

theorem extract_data (t : ByteArray) (a b : Nat) : (t.extract a b).data.toList = (t.data.toList.drop a).take (b - a) := by
  rw [ByteArray.data_extract, Array.toList_extract]
theorem extract_size (t : ByteArray) {a b : Nat} (h : b ≤ t.size) : (t.extract a b).size = b - a := by
  rw [← data_size, extract_data, List.length_take, List.length_drop, data_size]; omega
end Go.Proofs.YtdmoibphidipeaaGreatDoor
/- What a number's text looks like: the document's own. Written by gen/genfgd.py. -/

namespace Go.Proofs.YtdmoibphidipeaaGreatDoor
open Go.RowKit Num

end Go.Proofs.YtdmoibphidipeaaGreatDoor
/- Two rows of numbers: are they the same? The document's own. -/

namespace Go.Proofs.YtdmoibphidipeaaGreatDoor
open Go.RowKit Num

def icells (l : List Int) : List Value := l.map (.int .i64 ·)
theorem icells_length (l : List Int) : (icells l).length = l.length := by simp [icells]
theorem RdV.num {w : World} {B : Nat} {p : Option Addr} {l : List Int} (h : RdV w B p (icells l)) {i : Nat} (hi : i < l.length) : ∃ b o, p = some ⟨b, o, none⟩ ∧ b < B ∧ w.cell? ⟨b, o + i, none⟩ = some (.int .i64 l[i]) := by
  obtain ⟨b, o, h1, h2, h3⟩ := h (by rw [icells_length]; omega)
  exact ⟨b, o, h1, h2, by rw [h3 i (by rw [icells_length]; exact hi)]; simp [icells]⟩
end Go.Proofs.YtdmoibphidipeaaGreatDoor
/- Curves as mathematics: how much a row of points bends, how many pieces it is, and the points by neighbours. No program is named here. -/

namespace Go.Proofs.YtdmoibphidipeaaGreatDoor

def FitL (l : List Pt) : Prop := ∀ p ∈ l, FitP p
instance (l : List Pt) : Decidable (FitL l) := by unfold FitL; exact inferInstance
end Go.Proofs.YtdmoibphidipeaaGreatDoor
/- Maps of the plane: the program's own within, May, Fits, near. -/

namespace Go.Proofs.YtdmoibphidipeaaGreatDoor
open Go.RowKit

def inB (m : Int) (l : List Int) : Bool := l.all fun n => decide (-m ≤ n ∧ n ≤ m)
theorem inB_step {m : Int} {l : List Int} {i : Nat} (hi : i < l.length) (h : inB m (l.take i) = true) (hx : -m ≤ l[i] ∧ l[i] ≤ m) : inB m (l.take (i + 1)) = true := by
  rw [List.take_succ_eq_append_getElem hi]
  unfold inB at *
  rw [List.all_append, h]
  simp [hx]
theorem inB_not {m : Int} {l : List Int} {i : Nat} (hi : i < l.length) (hx : ¬ (-m ≤ l[i] ∧ l[i] ≤ m)) : inB m l = false := by
  unfold inB
  rw [List.all_eq_false]
  exact ⟨l[i], List.getElem_mem hi, by simpa using hx⟩
theorem Box.rd {w : World} {g : Nat} {t : TypeId} {vs : List Value} (h : Box w g t vs) : RdV w w.heap.size (some ⟨g, 0, none⟩) vs := fun _ => ⟨g, 0, rfl, h.lt, fun j hj => by rw [Nat.zero_add]; exact h.cell j (List.getElem?_eq_getElem hj)⟩

set_option maxRecDepth 10000 in
set_option maxHeartbeats 1600000 in
theorem aff_within (m : Int) (hm : 0 ≤ m ∧ m ≤ 4611686018427387904) (A : Option Addr) (c : Nat) (a : List Int) (w : World) (ha : RdV w w.heap.size A (icells a)) (hl : a.length ≤ 4611686018427387904) :
    Calls Tryz.prog 131 #[.int .i64 m, .slice A a.length c] w fun e w' => e = .returned (.bool (inB m a)) ∧ w = w' := by
  obtain ⟨n, hn⟩ : ∃ n, a.length = n := ⟨_, rfl⟩
  obtain ⟨d, hd⟩ : ∃ d, inB m a = d := ⟨_, rfl⟩
  have HA := Lib.hid hn
  have HD := Lib.hid hd
  rw [hd, hn]
  rw [hn] at hl
  clear hd hn
  obtain ⟨hm1, hm2⟩ := hm
  have hneg : IntKind.i64.wrap (-m) = -m := IntWalk.i64_in _ (by omega)
  go_enter Tryz.func131, Tryz.ntmps131
  go_wp2_with fail
  go_loopg [6, 9] n (fun gh nv it wr => ∃ i : Nat, it = .int .i64 (i : Int) ∧ gh + i = n ∧ inB m (a.take i) = true ∧ wr = w)
  case atStart => exact ⟨0, rfl, by omega, rfl, rfl⟩
  case round =>
    obtain ⟨i, rfl, hg, hs, rfl⟩ := hrel
    by_cases hlt : i < n
    · have hlt' : i < a.length := by rw [HA.out]; exact hlt
      obtain ⟨g, o, rfl, _, hc⟩ := ha.num (i := i) hlt'
      have HNX := Lib.hid (inB_step hlt' hs)
      have HNO := Lib.hid (inB_not (m := m) hlt')
      obtain ⟨x, hx⟩ : ∃ x, a[i] = x := ⟨_, rfl⟩
      rw [hx] at hc HNX HNO
      clear hs hx hlt'
      by_cases h1 : x < -m
      · have HX := Lib.hid (HNO.out (by omega))
        clear HNX HNO
        go_wp2_with fail
        go_ret
        exact ⟨by rw [← HD.out, HX.out]; rfl, rfl⟩
      · by_cases h2 : m < x
        · have HX := Lib.hid (HNO.out (by omega))
          clear HNX HNO
          go_wp2_with fail
          go_ret
          exact ⟨by rw [← HD.out, HX.out]; rfl, rfl⟩
        · have HX := Lib.hid (HNX.out (by omega))
          clear HNX HNO
          go_wp2_with fail
          go_roundg (n - (i + 1))
          case measure => omega
          case rel => exact ⟨i + 1, by simp, by omega, HX.out, rfl⟩
    · obtain rfl : i = n := by omega
      have HE := Lib.hid (show d = true by rw [← HD.out]; rw [← HA.out, List.take_length] at hs; exact hs)
      clear hs
      go_wp2_with fail
      go_ret
      exact ⟨by rw [HE.out]; rfl, rfl⟩

end Go.Proofs.YtdmoibphidipeaaGreatDoor
/- Maps of the plane: the program's own Fits, May. -/

namespace Go.Proofs.YtdmoibphidipeaaGreatDoor
open Go.RowKit

theorem inB_fit (x y : Int) : inB 8388607 [x, y] = decide (FitP ⟨x, y⟩) := by
  unfold inB FitP
  simp only [List.all_cons, List.all_nil, Bool.and_true]
  by_cases h1 : -8388607 ≤ x ∧ x ≤ 8388607 <;> by_cases h2 : -8388607 ≤ y ∧ y ≤ 8388607 <;> simp [h1, h2]
theorem aff_two (m x y : Int) (hm : 0 ≤ m ∧ m ≤ 4611686018427387904) (g : Nat) (V : World) (h : Box V g 3 [.int .i64 x, .int .i64 y]) :
    Calls Tryz.prog 131 #[.int .i64 m, .slice (some ⟨g, 0, none⟩) 2 2] V fun e w' => e = .returned (.bool (inB m [x, y])) ∧ V = w' :=
  aff_within m hm _ 2 [x, y] V h.rd (by simp)
set_option maxRecDepth 10000 in
theorem aff_Fits (p : Pt) (w : World) :
    Calls Tryz.prog 86 #[ptV p] w fun e w' => e = .returned (.bool (decide (FitP p))) ∧ Below w.heap.size w w' := by
  obtain ⟨x, y⟩ := p
  rw [← inB_fit]
  unfold ptV
  dsimp only
  obtain ⟨W, hW, k, B0⟩ : ∃ W, w.alloc (.cells #[.int .i64 x, .int .i64 y] 23) = W ∧ Box W w.heap.size 23 [.int .i64 x, .int .i64 y] ∧ Below w.heap.size w W := ⟨_, rfl, Box.new w _ [.int .i64 x, .int .i64 y], (Below.refl _ _).alloc (Nat.le_refl _) _⟩
  obtain ⟨⟨p0, p1⟩, -⟩ := Box.pair k
  have HB := Lib.hid (B0.alloc B0.size (.cells #[.int .i64 x, .int .i64 y] 3))
  have HC := Lib.hid (fun g V h => aff_two 8388607 x y (by omega) g V h)
  clear B0 k
  go_enter Tryz.func86, Tryz.ntmps86
  go_wp2_with first
    | (go_at_call 131; refine Calls.mono (HC.out _ _ (by first | rw [hW]; exact Box.new _ _ _ | exact Box.new _ _ _)) ?_; rintro e w1 ⟨rfl, rfl⟩)
    | (rw [hW])
  go_ret
  exact ⟨rfl, HB.out⟩

end Go.Proofs.YtdmoibphidipeaaGreatDoor
