/- What the program's own gcdSmall and nearer answer. -/
import Derived.Test.YtoidhoiadkafhaaRtD
import Derived.Test.YtoidhoiadkafhaaDivD
import Derived.Test.YtoidhoiadkafhaaNatG
namespace Go.Proofs.Ytoidhoiadkafhaa
open Go.RowKit Num

theorem gcd_step (x y : Nat) : Nat.gcd y (x % y) = Nat.gcd x y := by
  rw [Nat.gcd_comm y, ← Nat.gcd_rec, Nat.gcd_comm]
theorem getD_pad {d : List Nat} {n j : Nat} : (d ++ List.replicate n 0).getD j 0 = d.getD j 0 := by
  simp only [List.getD_eq_getElem?_getD]
  by_cases h : j < d.length
  · rw [List.getElem?_append_left h]
  · rw [List.getElem?_append_right (by omega), List.getElem?_eq_none (l := d) (by omega)]
    by_cases h2 : j - d.length < n
    · rw [List.getElem?_eq_getElem (by simpa using h2)]; simp
    · rw [List.getElem?_eq_none (by simp; omega)]
/-- the higher three of n words, without some bits, are the whole number by a power of two -/
theorem head_div {d : List Nat} {n s : Nat} (hd : Dg 4294967296 d) (hl : d.length ≤ n) (h3 : 3 ≤ n) :
    val 4294967296 d / (4294967296 ^ (n - 3) * 2 ^ (32 - s)) = (d.getD (n - 3) 0 + 4294967296 * (d.getD (n - 2) 0 + 4294967296 * d.getD (n - 1) 0)) / 2 ^ (32 - s) := by
  obtain ⟨k, rfl⟩ : ∃ k, n = k + 3 := ⟨n - 3, by omega⟩
  have hlen : (d ++ List.replicate (k + 3 - d.length) 0).length = k + 3 := by simp; omega
  have hv : val 4294967296 (d ++ List.replicate (k + 3 - d.length) 0) = val 4294967296 d := by rw [val_append, val_zeros]; simp
  have h := val_three (b := 4294967296) hlen
  have hdd : Dg 4294967296 (d ++ List.replicate (k + 3 - d.length) 0) := Dg.append.2 ⟨hd, Dg.zeros (by omega)⟩
  have g0 : ∀ j (hj : j < (d ++ List.replicate (k + 3 - d.length) 0).length), (d ++ List.replicate (k + 3 - d.length) 0)[j] = d.getD j 0 := fun j hj => by
    rw [← getD_pad (n := k + 3 - d.length), List.getD_eq_getElem?_getD, List.getElem?_eq_getElem hj, Option.getD_some]
  have hlo := val_lt (hdd.take (n := k))
  rw [List.length_take, Nat.min_eq_left (by omega)] at hlo
  rw [g0, g0, g0, hv] at h
  rw [show k + 3 - 3 = k by omega, show k + 3 - 2 = k + 1 by omega, show k + 3 - 1 = k + 2 by omega, ← Nat.div_div_eq_div_mul, h, Nat.add_mul_div_left _ _ (Nat.pow_pos (by omega)), Nat.div_eq_of_lt hlo, Nat.zero_add]
theorem head_lt {p q r s : Nat} (hq : q < 4294967296) (hr : r < 4294967296) (hs : s < 32) (hp : p * 2 ^ s < 4294967296) : (r + 4294967296 * (q + 4294967296 * p)) / 2 ^ (32 - s) < 18446744073709551616 := by
  have e : (4294967296 : Nat) = 2 ^ (32 - s) * 2 ^ s := by rw [← Nat.pow_add, show 32 - s + s = 32 by omega]
  rw [Nat.div_lt_iff_lt_mul (Nat.pow_pos (by omega))]
  have hpp : p + 1 ≤ 2 ^ (32 - s) := by
    rw [e] at hp
    exact Nat.lt_of_mul_lt_mul_right hp
  have := Nat.mul_le_mul_left 18446744073709551616 hpp
  omega
theorem top_word {a b : List Nat} {x : Nat} (ha : Norm 4294967296 a) (hb : Norm 4294967296 b) (hle : val 4294967296 b ≤ val 4294967296 a) (h3 : 3 ≤ a.length) (hx : a.getD (a.length - 1) 0 = x) : b.getD (a.length - 1) 0 ≤ x := by
  have hl := len_le (b := 4294967296) (by omega) hb.2 ha.1 hle
  by_cases h : b.length < a.length
  · rw [getD_ge (by omega)]; omega
  · rcases Nat.lt_or_ge x (b.getD (a.length - 1) 0) with hlt | hge
    · have h1 : a.length - 1 < a.length := by omega
      have h2 : a.length - 1 < b.length := by omega
      rw [List.getD_eq_getElem?_getD, List.getElem?_eq_getElem h1, Option.getD_some] at hx
      rw [List.getD_eq_getElem?_getD, List.getElem?_eq_getElem h2, Option.getD_some] at hlt
      have := val_lt_of_digit (b := 4294967296) (xs := a) (ys := b) (i := a.length - 1) ha.1 h1 h2 (by rw [List.drop_of_length_le (by omega), List.drop_of_length_le (by omega)]) (by omega)
      omega
    · exact hge

set_option maxHeartbeats 800000 in
/-- the greatest common factor of two numbers of 64 bits -/
theorem root_gcdSmall (a b : List Nat) (A A' : Option Addr) (ca cb : Nat) (w : World) (h : Rd w (fun g => g < w.heap.size) .u32 A a) (h' : Rd w (fun g => g < w.heap.size) .u32 A' b) (hl : a.length ≤ 1073741824) (hl' : b.length ≤ 1073741824) (hc : a.length ≤ ca) (hc' : b.length ≤ cb) (ha : Dg 4294967296 a) (hb : Dg 4294967296 b)
    (h1 : val 4294967296 a < 18446744073709551616) (h2 : val 4294967296 b < 18446744073709551616) :
    Calls Try.prog 29 #[.slice A a.length ca, .slice A' b.length cb] w (Gives .u32 4294967296 (Nat.gcd (val 4294967296 a) (val 4294967296 b)) w) := by
  have cu := nat_Uint a A ca _ w h (by omega) hc ha
  have cv := nat_Uint b A' cb _ w h' (by omega) hc' hb
  obtain ⟨N, hN⟩ : ∃ N, val 4294967296 a = N := ⟨_, rfl⟩
  obtain ⟨M, hM⟩ : ∃ N, val 4294967296 b = N := ⟨_, rfl⟩
  rw [hN] at cu h1 ⊢
  rw [hM] at cv h2 ⊢
  clear hN hM
  go_enter Try.func29, Try.ntmps29
  go_wp2_with fail
  refine cu.mono ?_
  rintro e w1 ⟨rfl, ⟨_, rfl⟩ | ⟨hn, rfl⟩⟩
  · go_wp2_with fail
    refine cv.mono ?_
    rintro e w1 ⟨rfl, ⟨_, rfl⟩ | ⟨hn, rfl⟩⟩
    · go_wp2_with fail
      go_loopg [5, 7] M (fun gh x y wr => ∃ n m k : Nat, m = gh ∧ x = .int .u64 n ∧ y = .int .u64 m ∧ wr = w.drewN k ∧ n < 18446744073709551616 ∧ m < 18446744073709551616 ∧ Nat.gcd n m = Nat.gcd N M)
      case atStart => exact ⟨N, M, 0, rfl, rfl, rfl, rfl, h1, h2, rfl⟩
      case round =>
        obtain ⟨n, m, k, rfl, rfl, rfl, rfl, hn, hm, hg⟩ := hrel
        by_cases h0 : m = 0
        · subst h0
          rw [Nat.gcd_zero_right] at hg
          have co := nat_Of n hn (w.drewN k)
          have HG := Lib.hid hg
          clear hg cu cv
          go_wp2_with fail
          refine co.mono ?_
          rintro e w1 ⟨A1, xs, c1, rfl, hc1, hn1, hv1, hr1, hb1⟩
          go_wp2_with fail
          go_ret
          exact ⟨A1, xs, c1, rfl, hc1, hn1, hv1.trans HG.out, hr1, (below_drewN (Below.refl w.heap.size w) k).trans hb1⟩
        · have hrem := tmod_nat n m
          have hlt : n % m < m := Nat.mod_lt _ (by omega)
          have hs := gcd_step n m
          obtain ⟨r, hr⟩ : ∃ r, n % m = r := ⟨_, rfl⟩
          rw [hr] at hrem hlt hs
          have HG := Lib.hid (hs.trans hg)
          clear hg hs hr cu cv
          go_wp2_with fail
          go_quiet (fail)
          go_wp2_with fail
          go_roundg r
          case measure => exact hlt
          case rel => exact ⟨m, r, k + nq, rfl, rfl, rfl, World.drewN_drewN _ _ _, hm, by omega, HG.out⟩
    · exact absurd h2 hn
  · exact absurd h1 hn

/-- two numbers nearer to a common factor -/
def GivesNearer (N M : Nat) (w : World) (e : Ending) (w' : World) : Prop := ∃ X Y, GivesTwo X Y w e w' ∧ Y ≤ X ∧ X ≤ M ∧ Nat.gcd X Y = Nat.gcd N M ∧ X + Y < N + M

set_option maxHeartbeats 1600000 in
theorem root_nearer (a b : List Nat) (A A' : Option Addr) (ca cb : Nat) (w : World) (h : Rd w (fun g => g < w.heap.size) .u32 A a) (h' : Rd w (fun g => g < w.heap.size) .u32 A' b) (hl : a.length ≤ 1073741824) (hc : a.length ≤ ca) (hc' : b.length ≤ cb) (ha : Norm 4294967296 a) (hb : Norm 4294967296 b)
    (h3 : 3 ≤ a.length) (h0 : 0 < val 4294967296 b) (hle : val 4294967296 b ≤ val 4294967296 a) :
    Calls Try.prog 30 #[.slice A a.length ca, .slice A' b.length cb] w (GivesNearer (val 4294967296 a) (val 4294967296 b) w) := by
  have hlb := len_le (b := 4294967296) (by omega) hb.2 ha.1 hle
  obtain ⟨x, hx⟩ : ∃ x, a.getD (a.length - 1) 0 = x := ⟨_, rfl⟩
  have hbx := top_word ha hb hle h3 hx
  have hx0 : 0 < x := by
    have h1 : a.length - 1 < a.length := by omega
    have ht := ha.2
    unfold Top at ht
    rw [List.getLast?_eq_getElem?, List.getElem?_eq_getElem h1] at ht
    rw [List.getD_eq_getElem?_getD, List.getElem?_eq_getElem h1, Option.getD_some] at hx
    rcases Nat.eq_zero_or_pos x with h | h
    · subst h; rw [hx] at ht; exact absurd rfl ht
    · exact h
  have hx32 : x < 4294967296 := by rw [← hx]; exact ha.1.getD (by omega) _
  obtain ⟨s, hs, hls, hxs⟩ := lead_zeros hx0 hx32
  have hxs' : x * 2 ^ s < 4294967296 := by
    have : x * 2 ^ s < (x + 1) * 2 ^ s := Nat.mul_lt_mul_of_pos_right (by omega) (Nat.pow_pos (by omega))
    omega
  have cz := Try.bits_LeadingZeros32 (x : Int) w (by omega) (by omega)
  rw [Int.toNat_natCast, hls] at cz
  have cA := fun (V : World) (hV : Below w.heap.size w V) => root_head a A ca a.length s _ V (h.on hV) (by omega) h3 hs ha.1 (by rw [hx]; exact hxs')
  have cB := fun (V : World) (hV : Below w.heap.size w V) => root_head b A' cb a.length s _ V (h'.on hV) (by omega) h3 hs hb.1 (Nat.lt_of_le_of_lt (Nat.mul_le_mul_right _ hbx) hxs')
  have dA := head_div (s := s) ha.1 (Nat.le_refl _) h3
  have dB := head_div (s := s) hb.1 hlb h3
  have hAlt := head_lt (p := a.getD (a.length - 1) 0) (ha.1.getD (by omega) (a.length - 2)) (ha.1.getD (by omega) (a.length - 3)) hs (by rw [hx]; exact hxs')
  have hK : 0 < 4294967296 ^ (a.length - 3) * 2 ^ (32 - s) := Nat.mul_pos (Nat.pow_pos (by omega)) (Nat.pow_pos (by omega))
  obtain ⟨K, hKK⟩ : ∃ K, 4294967296 ^ (a.length - 3) * 2 ^ (32 - s) = K := ⟨_, rfl⟩
  rw [hKK] at dA dB hK
  simp only [← dA] at cA
  simp only [← dB] at cB
  rw [← dA] at hAlt
  have hBA : val 4294967296 b / K ≤ val 4294967296 a / K := Nat.div_le_div_right hle
  obtain ⟨P, hP⟩ : ∃ P, val 4294967296 a / K = P := ⟨_, rfl⟩
  obtain ⟨Q, hQ⟩ : ∃ P, val 4294967296 b / K = P := ⟨_, rfl⟩
  simp only [hP] at cA
  simp only [hQ] at cB
  rw [hP] at hAlt hBA
  rw [hQ] at hBA
  obtain ⟨ba, oa, rfl, _, hcell⟩ := h.at_ (j := a.length - 1) (by omega)
  have hxx : a[a.length - 1]'(by omega) = x := by
    rw [List.getD_eq_getElem?_getD, List.getElem?_eq_getElem (by omega), Option.getD_some] at hx; exact hx
  rw [hxx] at hcell
  clear hxx hx dA dB hKK hxs hxs' hbx hls
  have HP := Lib.hid hP
  have HQ := Lib.hid hQ
  have HK := Lib.hid hK
  clear hP hQ hK
  go_enter Try.func30, Try.ntmps30
  go_wp2_with fail
  refine cz.mono ?_
  rintro e w1 ⟨rfl, rfl⟩
  clear cz hcell
  go_wp2_with fail
  refine (cA _ (Below.refl _ _)).mono ?_
  rintro e w2 ⟨rfl, k, rfl⟩
  go_wp2_with fail
  refine (cB _ (below_drewN (Below.refl _ _) k)).mono ?_
  rintro e w2 ⟨rfl, k2, rfl⟩
  obtain ⟨w2, hw2, b2⟩ : ∃ W, (w1.drewN k).drewN k2 = W ∧ Below w1.heap.size w1 W := ⟨_, rfl, below_drewN (below_drewN (Below.refl _ _) k) k2⟩
  rw [hw2]
  clear hw2 cA cB
  go_wp2_with fail
  refine (root_foresee P Q hAlt hBA w2).mono ?_
  rintro e w3 ⟨f0, f1, s0, s1, ev, rfl, hS, b3⟩
  have B3 := b2.trans (b3.mono b2.size)
  have k0 := Blk.new w3 60 (lie f0 f1 s0 s1 ev)
  have BN := below_one w3 (.cells (lie f0 f1 s0 s1 ev).toArray 60)
  have B4 := B3.trans (BN.mono B3.size)
  have z0 := k0.cell 0 rfl
  have z1 := k0.cell 1 rfl
  have z2 := k0.cell 2 rfl
  have z3 := k0.cell 3 rfl
  have z4 := k0.cell 4 rfl
  by_cases hf : f1 = 0
  · subst hf
    go_wp2_with fail
    have cD := nat_Div a b _ A' ca cb _ _ _ (h.on B4) (h'.on B4) (fun g hg => hg) (fun g hg => hg) (by omega) (by omega) hc hc' ha.1 hb.1
    refine Calls.mono cD ?_
    rintro e w5 ⟨A5, q, c5, A6, r, c6, rfl, -, hc6, -, hn6, -, hv6, -, hr6, b6⟩
    rw [if_neg (by omega)] at hv6
    have B6 := B4.trans (b6.mono B4.size)
    have HV := Lib.hid hv6
    have HN := Lib.hid hn6
    clear hv6 hn6 cD z0 z1 z2 z3 z4 k0
    go_wp2_with fail
    go_ret2
    have hlt := Nat.mod_lt (val 4294967296 a) h0
    exact ⟨_, _, ⟨A', b, cb, A6, r, c6, rfl, hc', hc6, hb, HN.out, rfl, HV.out, h'.on B6, hr6, B6⟩, by omega, Nat.le_refl _, gcd_step _ _, by omega⟩
  · rcases hS with hS | ⟨x1, x2, hI, hx2, hx1⟩
    · exact absurd hS hf
    · obtain ⟨X1, X2, hXX, eA, eB, hE, hO⟩ := hI.whole hx2 hx1 HK.out HP.out HQ.out
      have hsm := hI.small hAlt hx2
      have i1 := hI.uv
      have i2 := hI.vv
      have i3 := hI.u1v
      have i4 := hI.pos
      have i5 := hI.nz (by omega)
      have hXb : X1 ≤ val 4294967296 b := by
        have := Nat.le_mul_of_pos_left X1 (show 0 < s0 from i5)
        omega
      have hXa : X1 + X2 ≤ val 4294967296 a := by
        have := Nat.le_mul_of_pos_left X1 (show 0 < s1 from i4)
        have := Nat.le_mul_of_pos_left X2 (show 0 < f1 by omega)
        omega
      have hpow : val 4294967296 b < 4294967296 ^ (min a.length b.length) := by
        rw [Nat.min_eq_right hlb]; exact val_lt hb.1
      have hX : if ev then X1 + val 4294967296 b * f1 = val 4294967296 a * f0 ∧ X2 + val 4294967296 a * s0 = val 4294967296 b * s1 else X1 + val 4294967296 a * f0 = val 4294967296 b * f1 ∧ X2 + val 4294967296 b * s1 = val 4294967296 a * s0 := by
        cases ev with
        | true => have := hE rfl; simp only [if_true]; rw [Nat.mul_comm _ f1, Nat.mul_comm _ f0, Nat.mul_comm _ s0, Nat.mul_comm _ s1]; exact this
        | false => have := hO rfl; simp only [Bool.false_eq_true, if_false]; rw [Nat.mul_comm _ f1, Nat.mul_comm _ f0, Nat.mul_comm _ s0, Nat.mul_comm _ s1]; exact this
      have hg : Nat.gcd X1 X2 = Nat.gcd (val 4294967296 a) (val 4294967296 b) := by
        refine gcd_of_both (q' := f1) (p' := f0) (s' := s0) (r' := s1) eA eB ?_ ?_
        · cases ev with
          | true => exact .inl (hE rfl).1
          | false => exact .inr (hO rfl).1
        · cases ev with
          | true => exact .inl (hE rfl).2
          | false => exact .inr (hO rfl).2
      have cT := root_take a b _ A' ca cb f0 f1 s0 s1 X1 X2 ev _ (h.on B4) (h'.on B4) hl (by omega) ha.1 hb.1 (by omega) (by omega) (by omega) hsm hX (by omega) (by omega)
      have HG := Lib.hid hg
      clear hE hO hX eA eB hI hg hpow
      have hfi : ((f1 : Int) == 0) = false := by simp; omega
      go_wp2_with fail
      refine cT.mono ?_
      rintro e w5 ⟨A5, p, c5, A6, q, c6, rfl, hc5, hc6, hn5, hn6, hv5, hv6, hr5, hr6, b6⟩
      have B6 := B4.trans (b6.mono B4.size)
      have HV := Lib.hid hv5
      have HW := Lib.hid hv6
      clear hv5 hv6 cT z0 z1 z2 z3 z4 k0
      go_wp2_with fail
      go_ret2
      exact ⟨X1, X2, ⟨A5, p, c5, A6, q, c6, rfl, hc5, hc6, hn5, hn6, HV.out, HW.out, hr5, hr6, B6⟩, hXX, hXb, HG.out, by omega⟩
end Go.Proofs.Ytoidhoiadkafhaa
