/- What the document's own calls answer: sub, Sub, bit, Bits. -/
import Derived.Test.YtkmgmppmhgoadaaDoorRefC
namespace Go.Proofs.YtkmgmppmhgoadaaDoor
open Go.RowKit Num

set_option maxHeartbeats 800000 in
/-- digits without those of a number that isn't above -/
theorem ref_sub (x y : List Nat) (A A' : Option Addr) (c1 c2 : Nat) (S S' : Nat → Prop) (w : World) (h : Rd w S .u64 A x) (h' : Rd w S' .u64 A' y) (hS : ∀ g, S g → g < w.heap.size) (hS' : ∀ g, S' g → g < w.heap.size) (hl : x.length ≤ 1073741824) (hyl : y.length ≤ x.length) (hx : Dg 65536 x) (hy : Dg 65536 y) (hle : val 65536 y ≤ val 65536 x) :
    Calls Tryd.prog 66 #[.slice A x.length c1, .slice A' y.length c2] w fun e w' => ∃ A3 zs c3, e = .returned (.slice A3 zs.length c3) ∧ zs.length ≤ c3 ∧ zs.length ≤ x.length ∧ Norm 65536 zs ∧ val 65536 zs + val 65536 y = val 65536 x ∧
      Rd w' (fun b => w.heap.size ≤ b ∧ b < w'.heap.size) .u64 A3 zs ∧ Below w.heap.size w w' := by
  have HLE := Lib.hid hle
  clear hle
  go_enter Tryd.func66, Tryd.ntmps66
  go_wp2_with fail
  go_loopg [5, 6, 7, 8] x.length (fun g v c i _ wr => ∃ (k cy : Nat) (ys : List Nat), g + k = x.length ∧ i = .int .i64 k ∧ c = .int .u64 cy ∧ cy ≤ 1 ∧ Own wr w.heap.size 59 .u64 v ys ∧ ys.length = k ∧ Dg 65536 ys ∧ val 65536 ys + val 65536 (ext y k) = val 65536 (ext x k) + 65536 ^ k * cy ∧ Below w.heap.size w wr)
  case atStart => exact ⟨0, 0, [], by omega, rfl, rfl, by omega, Own.nil _ _ _ _, rfl, Dg.nil _, rfl, Below.refl _ _⟩
  case round =>
    obtain ⟨k, cy, ys, hg, rfl, rfl, hcy, hown, rfl, hyd, hyv, hbel⟩ := hrel
    have HG := Lib.hid hg
    have HV := Lib.hid hyv
    clear hg hyv
    by_cases hlt : ys.length < x.length
    · have cx := ref_at x A c1 ys.length _ wr (h.below hbel hS) (by omega)
      have cz := ref_at y A' c2 ys.length _ wr (h'.below hbel hS') (by omega)
      have hxd := hx.getD (by omega) ys.length
      have hyd' := hy.getD (by omega) ys.length
      obtain ⟨p, hp⟩ : ∃ p, x.getD ys.length 0 = p := ⟨_, rfl⟩
      obtain ⟨q, hq⟩ : ∃ q, y.getD ys.length 0 = q := ⟨_, rfl⟩
      rw [hp] at cx hxd
      rw [hq] at cz hyd'
      have HP := Lib.hid hp
      have HQ := Lib.hid hq
      clear hp hq
      go_wp2_with (first
        | (go_at_call 64; (first | (with_reducible refine cx.mono ?_) | (with_reducible refine cz.mono ?_)); rintro e w' ⟨rfl, rfl⟩)
        | (at_builtin; refine wpList_app rfl _ _ _ rfl w.heap.size 59 .u64 8 Tryd.underlying64 info_u64 u5 ys rfl (hown.alloc _) wr.heap.size 1 1 [(65536 + p - q - cy) % 65536] rfl rfl (by unfold Row; rw [heap_alloc_new]; simp [cells]; omega) (by omega) (by omega) (by omega) (by have := hbel.size; simp; omega) ?_; intro v1 w3 hown1 hgrow))
      have hb3 := below_app (hbel.alloc hbel.size _) hgrow (hown.alloc _) (by have := hbel.size; simp; omega) (Nat.le_refl _)
      go_roundg (gk - 1)
      case measure => have := HG.out; omega
      case rel =>
        have hv := sub_step (x := p) (y := q) (v := 65536 + p - q - cy) rfl HV.out (by omega) (by omega)
        refine ⟨ys.length + 1, 1 - (65536 + p - q - cy) / 65536, ys ++ [(65536 + p - q - cy) % 65536], by have := HG.out; omega, by go_num, by congr 1; omega, by omega, hown1, by simp, hyd.snoc (by omega), ?_, hb3⟩
        rw [val_ext_succ, val_ext_succ, HP.out, HQ.out, hv]
    · obtain ⟨A3, c3, rfl, hc3, _, hrd⟩ := hown.form
      have hs3 := hbel.size
      have hlen : ys.length ≤ 2147483648 := by have := HG.out; omega
      go_wp2_with (go_at_call 79; refine (ref_cut _ _ _ _ _ hrd (by omega) hc3).mono ?_; rintro e w' ⟨n, h1, h2, h3, rfl, rfl⟩)
      go_ret
      have hl2 : (ys.take n).length = n := by rw [List.length_take]; omega
      have hk : ys.length = x.length := by have := HG.out; omega
      refine ⟨A3, ys.take n, c3, by rw [hl2]; rfl, by omega, by omega, Norm.take hyd h1 h3, ?_, hrd.take n, hbel⟩
      have hv := HV.out
      rw [hk, val_ext hyl, val_ext (Nat.le_refl _)] at hv
      have h0 := borrow_zero hcy (by have := val_lt hyd; rwa [hk] at this) HLE.out hv
      rw [h0] at hv
      rw [val_take_of_zero h2, hv]; simp

set_option maxHeartbeats 800000 in
/-- what is left -/
theorem ref_Sub (a b : List Nat) (A A' : Option Addr) (ca cb : Nat) (S S' : Nat → Prop) (w : World) (h : Rd w S .u32 A a) (h' : Rd w S' .u32 A' b) (hS : ∀ g, S g → g < w.heap.size) (hS' : ∀ g, S' g → g < w.heap.size) (hl : a.length ≤ 536870912) (hl' : b.length ≤ 536870912) (ha : Dg 4294967296 a) (hb : Dg 4294967296 b) :
    Calls Tryd.prog 39 #[.slice A a.length ca, .slice A' b.length cb] w (GivesB .u32 4294967296 (val 4294967296 a - val 4294967296 b) (decide (val 4294967296 b ≤ val 4294967296 a)) w) := by
  go_enter Tryd.func39, Tryd.ntmps39
  go_wp2_with fail
  refine (ref_Cmp a b A A' ca cb S S' w h h' hS hS' (by omega) (by omega) ha hb).mono ?_
  rintro e w0 ⟨rfl, hb0⟩
  have hs0 := hb0.size
  have hneg := cmpI_neg (val 4294967296 a) (val 4294967296 b)
  by_cases hlt : val 4294967296 a < val 4294967296 b
  · rw [cmpI_lt hlt]
    have H := Lib.hid hlt
    clear hlt hneg
    go_wp2_with fail
    go_ret2
    have hlt := H.out
    refine ⟨none, [], 0, ?_, by simp, norm_nil _, ?_, Rd.nil, hb0⟩
    · rw [decide_eq_false (by omega)]; rfl
    · rw [val_nil]; omega
  · obtain ⟨z, hz⟩ : ∃ z, cmpI (val 4294967296 a) (val 4294967296 b) = z := ⟨_, rfl⟩
    rw [hz] at hneg ⊢
    have hz0 : 0 ≤ z := by omega
    have H := Lib.hid hlt
    clear hlt hneg hz
    go_wp2_with fail
    refine (ref_half a A ca S w0 (h.below hb0 hS) (fun g hg => by have := hS g hg; omega) (by omega) ha).mono ?_
    rintro e w1 ⟨A1, x, c1, rfl, hc1, hl1, hn1, hv1, hr1, hb1⟩
    have hs1 := hb1.size
    have HN1 := Lib.hid hn1
    have HV1 := Lib.hid hv1
    clear hn1 hv1
    go_wp2_with fail
    refine (ref_half b A' cb S' w1 ((h'.below hb0 hS').below (hb1.mono hs0) hS') (fun g hg => by have := hS' g hg; omega) (by omega) hb).mono ?_
    rintro e w2 ⟨A2, y, c2, rfl, hc2, hl2, hn2, hv2, hr2, hb2⟩
    have hs2 := hb2.size
    have HN2 := Lib.hid hn2
    have HV2 := Lib.hid hv2
    clear hn2 hv2
    have hle : val 65536 y ≤ val 65536 x := by rw [HV1.out, HV2.out]; exact Nat.le_of_not_lt H.out
    have hyx : y.length ≤ x.length := HN2.out.2.length_le (by omega) (Nat.lt_of_le_of_lt hle (val_lt HN1.out.1))
    have HLE := Lib.hid hle
    clear hle
    have hr1' : Rd w2 (fun g => g < w2.heap.size) .u64 A1 x := (hr1.below hb2 (fun g hg => hg.2)).imp (fun g hg => by omega)
    go_wp2_with fail
    refine (ref_sub x y A1 A2 c1 c2 _ _ w2 hr1' hr2 (fun g hg => hg) (fun g hg => hg.2) (by omega) hyx HN1.out.1 HN2.out.1 HLE.out).mono ?_
    rintro e w3 ⟨A3, zs, c3, rfl, hc3, hl3, hn3, hv3, hr3, hb3⟩
    have hs3 := hb3.size
    have HN3 := Lib.hid hn3
    have HV3 := Lib.hid hv3
    clear hn3 hv3
    go_wp2_with fail
    refine (ref_words zs A3 c3 _ w3 hr3 (fun g hg => hg.2) (by omega) hc3 HN3.out.1).mono ?_
    rintro e w4 ⟨A4, us, c4, rfl, hc4, hn4, hv4, hr4, hb4⟩
    have HV4 := Lib.hid hv4
    clear hv4
    go_wp2
    go_ret2
    refine ⟨A4, us, c4, ?_, hc4, hn4, ?_, hr4.imp (fun g hg => hg.2), hb0.trans ((hb1.mono hs0).trans ((hb2.mono (by omega)).trans ((hb3.mono (by omega)).trans (hb4.mono (by omega)))))⟩
    · rw [decide_eq_true (Nat.le_of_not_lt H.out)]; rfl
    · have := HV3.out
      rw [HV1.out, HV2.out] at this
      rw [HV4.out]; omega

set_option maxHeartbeats 400000 in
theorem ref_bit (x : List Nat) (A : Option Addr) (c i : Nat) (S : Nat → Prop) (w : World) (h : Rd w S .u64 A x) (hl : x.length ≤ 1073741824) (hi : i ≤ 1099511627776) (hx : Dg 65536 x) :
    Calls Tryd.prog 71 #[.slice A x.length c, .int .i64 i] w fun e w' => e = .returned (.int .u64 (((val 65536 x).testBit i).toNat : Int)) ∧ w = w' := by
  have hb := bit_of (i := i) hx
  have hd := hx.getD (by omega) (i / 16)
  have ca := ref_at x A c (i / 16) S w h (by omega)
  obtain ⟨p, hp⟩ : ∃ p, x.getD (i / 16) 0 = p := ⟨_, rfl⟩
  obtain ⟨r, hr⟩ : ∃ r, ((val 65536 x).testBit i).toNat = r := ⟨_, rfl⟩
  rw [hp] at ca hd hb
  rw [hr] at hb ⊢
  have HB := Lib.hid hb
  clear hp hr hb
  go_enter Tryd.func71, Tryd.ntmps71
  go_wp2_with (go_at_call 64; refine ca.mono ?_; rintro e w' ⟨rfl, rfl⟩)
  go_ret
  refine ⟨?_, rfl⟩
  show Ending.returned (.int .u64 (((p : Int) / 2 ^ (i % 16)).tmod ((2 : Nat) : Int))) = _
  rw [show ((p : Int) / 2 ^ (i % 16)) = ((p / 2 ^ (i % 16) : Nat) : Int) by simp, tmod_nat, HB.out]

set_option maxHeartbeats 800000 in
/-- how many bits -/
theorem ref_Bits (a : List Nat) (A : Option Addr) (ca : Nat) (S : Nat → Prop) (w : World) (h : Rd w S .u32 A a) (hS : ∀ g, S g → g < w.heap.size) (hl : a.length ≤ 536870912) (ha : Dg 4294967296 a) :
    Calls Tryd.prog 46 #[.slice A a.length ca] w fun e w' => ∃ n : Nat, e = .returned (.int .i64 n) ∧ IsBits (val 4294967296 a) n ∧ Below w.heap.size w w' := by
  go_enter Tryd.func46, Tryd.ntmps46
  go_wp2_with fail
  refine (ref_half a A ca S w h hS (by omega) ha).mono ?_
  rintro e w1 ⟨A1, x, c1, rfl, hc1, hl1, hn1, hv1, hr1, hb1⟩
  have hs1 := hb1.size
  have hlt := val_lt hn1.1
  rw [hv1] at hlt
  have h16 : val 4294967296 a < 2 ^ (16 * x.length) := by rw [Nat.pow_mul]; exact hlt
  have hz : ∀ j, 16 * x.length ≤ j → (val 4294967296 a).testBit j = false := fun j hj => Nat.testBit_lt_two_pow (Nat.lt_of_lt_of_le h16 (Nat.pow_le_pow_right (by omega) hj))
  have HN1 := Lib.hid hn1
  have HV1 := Lib.hid hv1
  have HZ := Lib.hid hz
  clear hn1 hv1 hz hlt h16
  go_wp2_with fail
  go_loopg [4] (16 * x.length) (fun g i wr => ((∃ k : Nat, g = k + 1 ∧ i = .int .i64 k) ∨ (g = 0 ∧ i = .int .i64 (-1))) ∧ g ≤ 16 * x.length ∧ w1 = wr ∧ ∀ j, g ≤ j → (val 4294967296 a).testBit j = false)
  case atStart =>
    refine ⟨?_, Nat.le_refl _, rfl, HZ.out⟩
    by_cases h0 : x.length = 0
    · refine .inr ⟨by omega, ?_⟩; congr 1; omega
    · refine .inl ⟨16 * x.length - 1, by omega, ?_⟩; congr 1; omega
  case round =>
    obtain ⟨⟨k, rfl, rfl⟩ | ⟨rfl, rfl⟩, hg, rfl, hab⟩ := hrel
    · have HAB := Lib.hid hab
      clear hab
      have cb := ref_bit x A1 c1 k _ w1 hr1 (by omega) (by omega) HN1.out.1
      rw [HV1.out] at cb
      obtain ⟨r, hr⟩ : ∃ r, (val 4294967296 a).testBit k = r := ⟨_, rfl⟩
      rw [hr] at cb
      have HR := Lib.hid hr
      clear hr
      cases r with
      | true =>
        go_wp2_with (go_at_call 71; refine cb.mono ?_; rintro e w' ⟨rfl, rfl⟩)
        go_ret
        refine ⟨k + 1, rfl, ⟨?_, .inr ?_⟩, hb1⟩
        · exact Nat.lt_pow_two_of_testBit _ (fun j hj => HAB.out j hj)
        · exact Nat.ge_two_pow_of_testBit HR.out
      | false =>
        go_wp2_with (go_at_call 71; refine cb.mono ?_; rintro e w' ⟨rfl, rfl⟩)
        go_roundg k
        case measure => omega
        case rel =>
          refine ⟨?_, by omega, rfl, fun j hj => ?_⟩
          · by_cases h0 : k = 0
            · subst h0; exact .inr ⟨rfl, by go_num⟩
            · exact .inl ⟨k - 1, by omega, by go_num⟩
          · by_cases e : j = k
            · subst e; exact HR.out
            · exact HAB.out j (by omega)
    · go_wp2
      go_ret
      refine ⟨0, rfl, ⟨?_, .inl rfl⟩, hb1⟩
      exact Nat.lt_pow_two_of_testBit _ (fun j hj => hab j hj)
end Go.Proofs.YtkmgmppmhgoadaaDoor
