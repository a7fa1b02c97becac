/- What the program's own Div answers. -/
import Derived.Test.YtoidhoiadkafhaaDivC
namespace Go.Proofs.Ytoidhoiadkafhaa
open Go.RowKit Num

theorem nat_Trim_g (d : List Nat) (A : Option Addr) (c : Nat) (S : Nat → Prop) (w : World) (h : Rd w S .u32 A d) (hS : ∀ b, S b → b < w.heap.size) (hl : d.length ≤ 2147483648) (hc : d.length ≤ c) (hd : Dg 4294967296 d) :
    Calls Try.prog 28 #[.slice A d.length c] w (Gives .u32 4294967296 (val 4294967296 d) w) := by
  refine (nat_Trim d A c S w h hS hl hc hd).mono ?_
  rintro e w' ⟨ys, hn, hv, -, hb, ⟨rfl, rfl⟩ | ⟨-, g, rfl, -, hr⟩⟩
  · exact ⟨none, [], 0, rfl, by simp, hn, hv, Rd.nil, hb⟩
  · exact ⟨_, ys, _, rfl, Nat.le_refl _, hn, hv, hr.rd_all hr.lt, hb⟩

set_option maxHeartbeats 3200000 in
theorem nat_Div (a b : List Nat) (A A' : Option Addr) (ca cb : Nat) (S S' : Nat → Prop) (w : World) (h : Rd w S .u32 A a) (h' : Rd w S' .u32 A' b) (hS : ∀ g, S g → g < w.heap.size) (hS' : ∀ g, S' g → g < w.heap.size) (hl : a.length ≤ 1073741824) (hl' : b.length ≤ 1073741824) (hc : a.length ≤ ca) (hc' : b.length ≤ cb) (ha : Dg 4294967296 a) (hb : Dg 4294967296 b) :
    Calls Try.prog 24 #[.slice A a.length ca, .slice A' b.length cb] w (GivesQR .u32 4294967296 (val 4294967296 a) (val 4294967296 b) w) := by
  obtain ⟨N, hN⟩ : ∃ N, val 4294967296 a = N := ⟨_, rfl⟩
  obtain ⟨D, hD⟩ : ∃ D, val 4294967296 b = D := ⟨_, rfl⟩
  rw [hN, hD]
  go_enter Try.func24, Try.ntmps24
  go_wp2_with fail
  refine (nat_cut a A ca S w h (by omega) hc ha).mono ?_
  rintro e w1 ⟨x, A1, c1, rfl, hcut1, hr1, rfl⟩
  obtain ⟨hc1, hl1, -, hn1, hv1, -⟩ := hcut1
  rw [hN] at hv1
  have HN1 := Lib.hid hn1
  have HV1 := Lib.hid hv1
  clear hn1 hv1 h
  go_wp2_with fail
  refine (nat_cut b A' cb S' w h' (by omega) hc' hb).mono ?_
  rintro e w1 ⟨y, A2, c2, rfl, hcut2, hr2, rfl⟩
  obtain ⟨hc2, hl2, -, hn2, hv2, -⟩ := hcut2
  rw [hD] at hv2
  have HN2 := Lib.hid hn2
  have HV2 := Lib.hid hv2
  clear hn2 hv2 h'
  clear ha hb hN hD
  by_cases hy0 : y.length = 0
  · obtain rfl : y = [] := List.eq_nil_of_length_eq_zero hy0
    go_wp2_with fail
    go_ret3
    have hD0 : D = 0 := HV2.out.symm
    subst hD0
    exact ⟨none, [], 0, none, [], 0, by rfl, by simp, by simp, norm_nil _, norm_nil _, by simp [val], by simp [val], Rd.nil, Rd.nil, Below.refl _ _⟩
  · have hDp : 0 < D := by
      rw [← HV2.out]
      rcases Nat.eq_zero_or_pos (val 4294967296 y) with h0 | h0
      · have := (HN2.out.2.nil_iff (b := 4294967296) (by omega)).2 h0
        subst this; simp at hy0
      · exact h0
    have cc := nat_Cmp x y A1 A2 c1 c2 S S' w hr1 hr2 (by omega) (by omega) hc1 hc2 HN1.out.1 HN2.out.1
    rw [HV1.out, HV2.out] at cc
    have hneg := cmpI_neg N D
    by_cases hlt : N < D
    · rw [cmpI_lt hlt] at cc
      clear hneg
      go_wp2_with fail
      refine cc.mono ?_
      rintro e w3 ⟨rfl, m, rfl⟩
      have ct := nat_Trim_g x A1 c1 S (w.drewN m) (hr1.drewN m) hS (by omega) hc1 HN1.out.1
      rw [HV1.out] at ct
      have HLT := Lib.hid hlt
      clear cc hlt
      go_wp2_with fail
      refine ct.mono ?_
      rintro e w4 ⟨A4, r4, c4, rfl, hc4, hn4, hv4, hr4, hb4⟩
      have HN4 := Lib.hid hn4
      have HV4 := Lib.hid hv4
      clear hn4 hv4 ct
      go_wp2_with fail
      go_ret3
      refine ⟨none, [], 0, A4, r4, c4, ?_, by simp, hc4, norm_nil _, HN4.out, ?_, ?_, Rd.nil, hr4, (below_drewN (Below.refl _ _) m).trans hb4⟩
      · rw [decide_eq_true hDp]; rfl
      · rw [Nat.div_eq_of_lt HLT.out]; rfl
      · rw [if_neg (by omega), HV4.out, Nat.mod_eq_of_lt HLT.out]
    · obtain ⟨z, hz⟩ : ∃ z, cmpI N D = z := ⟨_, rfl⟩
      rw [hz] at cc hneg
      have hz0 : 0 ≤ z := by omega
      have HGE := Lib.hid hlt
      clear hlt hneg hz
      go_wp2_with fail
      refine cc.mono ?_
      rintro e w3 ⟨rfl, m, rfl⟩
      clear cc
      by_cases hx2 : x.length ≤ 2
      · have hN64 : N < 18446744073709551616 := by rw [← HV1.out]; exact val_lt_pow (n := 2) HN1.out.1 (by omega) hx2
        have hD64 : D < 18446744073709551616 := by have := HGE.out; omega
        have cU1 := nat_Uint x A1 c1 S (w.drewN m) (hr1.drewN m) (by omega) hc1 HN1.out.1
        have cU2 := nat_Uint y A2 c2 S' (w.drewN m) (hr2.drewN m) (by omega) hc2 HN2.out.1
        rw [HV1.out] at cU1
        rw [HV2.out] at cU2
        have hD0 : ¬ D = 0 := by omega
        have hquo := u64_quo N D hN64
        have hrem := tmod_nat N D
        have hq1 : N / D < 18446744073709551616 := Nat.lt_of_le_of_lt (Nat.div_le_self _ _) hN64
        have hq2 : N % D < 18446744073709551616 := Nat.lt_of_le_of_lt (Nat.mod_le _ _) hN64
        have cQ : ∀ W, Calls Try.prog 41 #[.int .u64 ((N : Int) / (D : Int))] W (Gives .u32 4294967296 (N / D) W) := fun W => by
          have := nat_Of (N / D) hq1 W
          rwa [Int.natCast_ediv] at this
        have cR : ∀ W, Calls Try.prog 41 #[.int .u64 ((N : Int) % (D : Int))] W (Gives .u32 4294967296 (N % D) W) := fun W => by
          have := nat_Of (N % D) hq2 W
          rwa [Int.natCast_emod] at this
        go_wp2_with fail
        refine cU1.mono ?_
        rintro e w4 ⟨rfl, ⟨-, rfl⟩ | ⟨hno, -⟩⟩
        rotate_left
        · exact absurd hN64 hno
        go_wp2_with fail
        refine cU2.mono ?_
        rintro e w4 ⟨rfl, ⟨-, rfl⟩ | ⟨hno, -⟩⟩
        rotate_left
        · exact absurd hD64 hno
        clear cU1 cU2
        go_wp2_with fail
        go_region_held3 (fun _ => True) (trivial) ((first | (go_at_call 41; (with_reducible refine (cQ _).mono ?_); rintro e w4 ⟨A4, q4, c4, rfl, hc4, hn4, hv4, hr4, hb4⟩) | (go_at_call 41; (with_reducible refine (cR _).mono ?_); rintro e w5 ⟨A5, q5, c5, rfl, hc5, hn5, hv5, hr5, hb5⟩)))
        have HQ := Lib.hid hv4
        have HR := Lib.hid hv5
        have HN4 := Lib.hid hn4
        have HN5 := Lib.hid hn5
        have B4 : Below w.heap.size w w4 := (below_drewN (below_drewN (Below.refl _ _) m) 1).trans hb4
        clear hv4 hv5 hn4 hn5 hquo hrem cQ cR
        go_wp2_with fail
        go_ret3
        have hs4 := B4.size
        refine ⟨A4, q4, c4, A5, q5, c5, ?_, hc4, hc5, HN4.out, HN5.out, HQ.out, ?_, (hr4.below hb5 (fun g hg => hg)).imp (fun g hg => by have := hb5.size; omega), hr5, B4.trans (hb5.mono hs4)⟩
        · rw [decide_eq_true hDp]; rfl
        · rw [if_neg (by omega), HR.out]
      · by_cases hy1 : y.length = 1
        · obtain ⟨d, rfl⟩ : ∃ d, y = [d] := List.length_eq_one_iff.1 hy1
          obtain ⟨b2, o2, rfl, hS2, hcell⟩ := hr2.at_ (j := 0) (by simp)
          have hd1 := HN2.out.1.get (j := 0) (by simp)
          simp only [List.getElem_cons_zero, Nat.add_zero] at hcell hd1
          have hdD : d = D := by rw [← HV2.out]; simp [val]
          subst hdD
          have ct := nat_Trim x A1 c1 S (w.drewN m) (hr1.drewN m) hS (by omega) hc1 HN1.out.1
          go_wp2_with fail
          refine ct.mono ?_
          rintro e w4 ⟨xs, hn4, hv4, hl4, hb4, ⟨rfl, rfl⟩ | ⟨-, g, rfl, hg4, hr4⟩⟩
          · exfalso
            rw [HV1.out] at hv4
            have := HGE.out
            have e0 : val 4294967296 ([] : List Nat) = 0 := rfl
            omega
          rw [HV1.out] at hv4
          have HV4 := Lib.hid hv4
          have cd := nat_divWord xs [] g xs.length d 36 w4 (by rw [List.append_nil]; exact hr4) (by omega) hn4.1 hDp hd1
          rw [hv4] at cd
          have hcell4 := (hb4.cell (p := ⟨b2, o2, none⟩) (hS' _ hS2)).trans hcell
          have hg4' : w.heap.size ≤ g := hg4
          have HL4 := Lib.hid hl4
          clear hv4 hn4 ct hcell hg4 hl4
          have hl4 : xs.length ≤ 1073741824 := by have := HL4.out; omega
          go_wp2_with fail
          refine cd.mono ?_
          rintro e w5 ⟨rfl, qs, hql, hqd, hqv, hrow5, hgr5⟩
          rw [List.append_nil] at hrow5
          have hb5 : Below w.heap.size w w5 := ((below_drewN (Below.refl _ _) m).trans hb4).grown hgr5 (by have := hb4.size; simpa using this) (fun q e => by injection e with e; subst e; exact hg4')
          have hlt : N % d < 18446744073709551616 := by have := Nat.mod_lt N hDp; omega
          have cA := nat_cut qs (some ⟨g, 0, none⟩) xs.length _ w5 (hrow5.rd_all (S := fun g => g < w5.heap.size) hrow5.lt) (by rw [hql]; omega) (by rw [hql]; omega) hqd
          rw [hql] at cA
          have cB : ∀ W, Calls Try.prog 41 #[.int .u64 ((N : Int) % (d : Int))] W (Gives .u32 4294967296 (N % d) W) := fun W => by
            have := nat_Of (N % d) hlt W
            rwa [Int.natCast_emod] at this
          have HQV := Lib.hid hqv
          have HQL := Lib.hid hql
          clear hqv hql cd
          go_wp2_with fail
          refine cA.mono ?_
          rintro e w6 ⟨us, A4, c4, rfl, hcut4, hr4, rfl⟩
          obtain ⟨hc4, -, -, hn4, hv4, -⟩ := hcut4
          have HN4 := Lib.hid hn4
          have HV4 := Lib.hid hv4
          clear hn4 hv4 cA
          go_wp2_with fail
          refine (cB _).mono ?_
          rintro e w6 ⟨A5, q5, c5, rfl, hc5, hn5, hv5, hr5, hb6⟩
          have HN5 := Lib.hid hn5
          have HV5 := Lib.hid hv5
          clear hn5 hv5 cB
          go_wp2_with fail
          go_ret3
          refine ⟨A4, us, c4, A5, q5, c5, ?_, hc4, hc5, HN4.out, HN5.out, by rw [HV4.out, HQV.out], ?_, (hr4.below hb6 (fun g hg => hg)).imp (fun g hg => by have := hb6.size; omega), hr5, hb5.trans (hb6.mono hb5.size)⟩
          · rw [decide_eq_true hDp]; rfl
          · rw [if_neg (by omega), HV5.out]
        · have hyx : y.length ≤ x.length := HN2.out.2.length_le (b := 4294967296) (by omega) (by
            rw [HV2.out]
            refine Nat.lt_of_le_of_lt (Nat.le_of_not_lt HGE.out) ?_
            rw [← HV1.out]
            exact val_lt HN1.out.1)
          obtain ⟨k, hk⟩ : ∃ k, y.length = k + 2 := ⟨y.length - 2, by omega⟩
          have cd := nat_divWords x y k A1 A2 c1 c2 S S' (w.drewN m) (hr1.drewN m) (hr2.drewN m) hS hS' (by omega) hk hyx HN1.out.1 HN2.out
          rw [HV1.out, HV2.out] at cd
          have hyp : 2 ≤ y.length := by omega
          clear hk
          go_wp2_with fail
          refine cd.mono ?_
          rintro e w4 ⟨A4, q4, c4, A5, r5, c5, rfl, hc4, hc5, hn4, hn5, hv4, hv5, hr4, hr5, hb4⟩
          have HN4 := Lib.hid hn4
          have HV4 := Lib.hid hv4
          have HN5 := Lib.hid hn5
          have HV5 := Lib.hid hv5
          clear hn4 hv4 hn5 hv5 cd
          go_wp2_with fail
          go_ret3
          refine ⟨A4, q4, c4, A5, r5, c5, ?_, hc4, hc5, HN4.out, HN5.out, HV4.out, ?_, hr4, hr5, (below_drewN (Below.refl _ _) m).trans hb4⟩
          · rw [decide_eq_true hDp]; rfl
          · rw [if_neg (by omega), HV5.out]
end Go.Proofs.Ytoidhoiadkafhaa
