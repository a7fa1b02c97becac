/- What the program's own Gcd, Lcm and Reduce answer. -/
import Derived.Test.YtoidhoiadkafhaaRtE
import Derived.WalkMore
namespace Go.Proofs.Ytoidhoiadkafhaa
open Go.RowKit Num

set_option maxHeartbeats 1600000 in
/-- the greatest common factor -/
theorem root_Gcd (a b : List Nat) (A A' : Option Addr) (ca cb : Nat) (w : World) (h : Rd w (fun g => g < w.heap.size) .u32 A a) (h' : Rd w (fun g => g < w.heap.size) .u32 A' b) (hl : a.length ≤ 1073741824) (hl' : b.length ≤ 1073741824) (hc : a.length ≤ ca) (hc' : b.length ≤ cb) (ha : Dg 4294967296 a) (hb : Dg 4294967296 b) :
    Calls Try.prog 9 #[.slice A a.length ca, .slice A' b.length cb] w (Gives .u32 4294967296 (Nat.gcd (val 4294967296 a) (val 4294967296 b)) w) := by
  have cC := nat_Cmp a b A A' ca cb _ _ w h h' hl hl' hc hc' ha hb
  go_enter Try.func9, Try.ntmps9
  go_wp2_with fail
  go_step3
  go_wp2_with fail
  refine cC.mono ?_
  rintro e w1 ⟨rfl, k, rfl⟩
  have BK : Below w.heap.size w (w.drewN k) := below_drewN (Below.refl _ _) k
  by_cases hlt : val 4294967296 a < val 4294967296 b
  · rw [cmpI_lt hlt]
    have cc := root_cut b A' cb _ _ (h'.on BK) hl' hc' hb
    go_wp2_with fail
    refine cc.mono ?_
    rintro e w2 ⟨p, P1, d1, rfl, hd1, hl1, hn1, hv1, hr1, rfl⟩
    have cc2 := root_cut a A ca _ _ (h.on BK) hl hc ha
    go_wp2_with fail
    refine cc2.mono ?_
    rintro e w2 ⟨q, P2, d2, rfl, hd2, hl2, hn2, hv2, hr2, rfl⟩
    go_wp2_with fail
    go_step3
    have hle : val 4294967296 q ≤ val 4294967296 p := by rw [hv1, hv2]; omega
    have hG : Nat.gcd (val 4294967296 p) (val 4294967296 q) = Nat.gcd (val 4294967296 a) (val 4294967296 b) := by rw [hv1, hv2]; exact Nat.gcd_comm _ _
    have hpl : p.length ≤ 1073741824 := by omega
    have hql : q.length ≤ 1073741824 := by omega
    obtain ⟨G, hGG⟩ : ∃ G, Nat.gcd (val 4294967296 a) (val 4294967296 b) = G := ⟨_, rfl⟩
    obtain ⟨wk, hwk⟩ : ∃ W, w.drewN k = W := ⟨_, rfl⟩
    rw [hGG] at hG
    have HGG := Lib.hid hGG
    rw [hwk] at hr1 hr2 BK ⊢
    clear hGG hwk cC cc cc2 hv1 hv2 hlt ha hb hl hl' hc hc' h h' hl1 hl2
    go_wp2_with fail
    go_loopg [5, 6] (val 4294967296 p + val 4294967296 q) (fun gh vx vy wr => ∃ (X Y : Option Addr) (x y : List Nat) (dx dy : Nat), val 4294967296 x + val 4294967296 y = gh ∧ vx = .slice X x.length dx ∧ vy = .slice Y y.length dy ∧ x.length ≤ dx ∧ y.length ≤ dy ∧ x.length ≤ 1073741824 ∧ y.length ≤ 1073741824 ∧ Norm 4294967296 x ∧ Norm 4294967296 y ∧ val 4294967296 y ≤ val 4294967296 x ∧
      Nat.gcd (val 4294967296 x) (val 4294967296 y) = G ∧ Rd wr (fun g => g < wr.heap.size) .u32 X x ∧ Rd wr (fun g => g < wr.heap.size) .u32 Y y ∧ Below w.heap.size w wr)
    case atStart => exact ⟨P1, P2, p, q, d1, d2, rfl, rfl, rfl, hd1, hd2, hpl, hql, hn1, hn2, hle, hG, hr1, hr2, BK⟩
    case round =>
      clear hle hG hpl hql hn1 hn2 hr1 hr2 BK hd1 hd2
      obtain ⟨X, Y, x, y, dx, dy, hgh, rfl, rfl, hdx, hdy, hxl, hyl, hxn, hyn, hle, hG, hrx, hry, hB⟩ := hrel
      have HG := Lib.hid hG
      have HH := Lib.hid hgh
      clear hG hgh
      have hs := hB.size
      by_cases h0 : y.length = 0
      · obtain rfl : y = [] := List.eq_nil_of_length_eq_zero h0
        have cT := nat_Trim_g x X dx _ wr hrx (fun g hg => hg) (by omega) hdx hxn.1
        go_wp2_with fail
        refine cT.mono ?_
        rintro e w2 ⟨A1, xs, c1, rfl, hc1, hn1, hv1, hr1, hb1⟩
        have HV := Lib.hid hv1
        clear hv1 cT
        go_wp2_with fail
        rw [Exit.noGoto_ret]
        go_ret
        refine ⟨A1, xs, c1, rfl, hc1, hn1, ?_, hr1, hB.trans (hb1.mono hs)⟩
        rw [HV.out, HGG.out, ← HG.out]
        simp [val]
      · have hypos : 0 < val 4294967296 y := by
          rcases Nat.eq_zero_or_pos (val 4294967296 y) with h | h
          · have := (hyn.2.nil_iff (b := 4294967296) (by omega)).2 h
            subst this; simp at h0
          · exact h
        by_cases h2 : x.length ≤ 2
        · have hx64 : val 4294967296 x < 18446744073709551616 := val_lt_pow (n := 2) hxn.1 (by omega) h2
          have cS := root_gcdSmall x y X Y dx dy wr hrx hry hxl hyl hdx hdy hxn.1 hyn.1 hx64 (by omega)
          go_wp2_with fail
          refine cS.mono ?_
          rintro e w2 ⟨A1, xs, c1, rfl, hc1, hn1, hv1, hr1, hb1⟩
          have HV := Lib.hid hv1
          clear hv1 cS
          go_wp2_with fail
          rw [Exit.noGoto_ret]
          go_ret
          refine ⟨A1, xs, c1, rfl, hc1, hn1, ?_, hr1, hB.trans (hb1.mono hs)⟩
          rw [HV.out, HGG.out, ← HG.out]
        · have cN := root_nearer x y X Y dx dy wr hrx hry hxl hdx hdy hxn hyn (by omega) hypos hle
          go_wp2_with fail
          refine cN.mono ?_
          rintro e w2 ⟨N, M, ⟨A1, xs, c1, A2, ys, c2, rfl, hc1, hc2, hn1, hn2, hv1, hv2, hr1, hr2, hb1⟩, hMN, hNy, hg, hlt⟩
          have l1 := len_le (b := 4294967296) (xs := xs) (a := y) (by omega) hn1.2 hyn.1 (by rw [hv1]; exact hNy)
          have l2 := len_le (b := 4294967296) (xs := ys) (a := y) (by omega) hn2.2 hyn.1 (by rw [hv2]; omega)
          have HV := Lib.hid hv1
          have HW := Lib.hid hv2
          have HGN := Lib.hid hg
          clear hv1 hv2 hg cN
          go_wp2_with fail
          go_roundg (N + M)
          case measure => rw [← HH.out]; exact hlt
          case rel => exact ⟨A1, A2, xs, ys, c1, c2, by rw [HV.out, HW.out], rfl, rfl, hc1, hc2, by omega, by omega, hn1, hn2, by rw [HV.out, HW.out]; exact hMN, by rw [HV.out, HW.out, HGN.out, HG.out], hr1, hr2, hB.trans (hb1.mono hs)⟩
  · obtain ⟨z, hz, hz0⟩ : ∃ z : Int, cmpI (val 4294967296 a) (val 4294967296 b) = z ∧ ¬ z < 0 := ⟨_, rfl, fun h => hlt ((cmpI_neg _ _).1 h)⟩
    rw [hz]
    clear hz
    have cc := root_cut a A ca _ _ (h.on BK) hl hc ha
    go_wp2_with fail
    refine cc.mono ?_
    rintro e w2 ⟨p, P1, d1, rfl, hd1, hl1, hn1, hv1, hr1, rfl⟩
    have cc2 := root_cut b A' cb _ _ (h'.on BK) hl' hc' hb
    go_wp2_with fail
    refine cc2.mono ?_
    rintro e w2 ⟨q, P2, d2, rfl, hd2, hl2, hn2, hv2, hr2, rfl⟩
    go_wp2_with fail
    go_step3
    have hle : val 4294967296 q ≤ val 4294967296 p := by rw [hv1, hv2]; omega
    have hG : Nat.gcd (val 4294967296 p) (val 4294967296 q) = Nat.gcd (val 4294967296 a) (val 4294967296 b) := by rw [hv1, hv2]
    have hpl : p.length ≤ 1073741824 := by omega
    have hql : q.length ≤ 1073741824 := by omega
    obtain ⟨G, hGG⟩ : ∃ G, Nat.gcd (val 4294967296 a) (val 4294967296 b) = G := ⟨_, rfl⟩
    obtain ⟨wk, hwk⟩ : ∃ W, w.drewN k = W := ⟨_, rfl⟩
    rw [hGG] at hG
    have HGG := Lib.hid hGG
    rw [hwk] at hr1 hr2 BK ⊢
    clear hGG hwk cC cc cc2 hv1 hv2 hlt ha hb hl hl' hc hc' h h' hl1 hl2
    go_wp2_with fail
    go_loopg [5, 6] (val 4294967296 p + val 4294967296 q) (fun gh vx vy wr => ∃ (X Y : Option Addr) (x y : List Nat) (dx dy : Nat), val 4294967296 x + val 4294967296 y = gh ∧ vx = .slice X x.length dx ∧ vy = .slice Y y.length dy ∧ x.length ≤ dx ∧ y.length ≤ dy ∧ x.length ≤ 1073741824 ∧ y.length ≤ 1073741824 ∧ Norm 4294967296 x ∧ Norm 4294967296 y ∧ val 4294967296 y ≤ val 4294967296 x ∧
      Nat.gcd (val 4294967296 x) (val 4294967296 y) = G ∧ Rd wr (fun g => g < wr.heap.size) .u32 X x ∧ Rd wr (fun g => g < wr.heap.size) .u32 Y y ∧ Below w.heap.size w wr)
    case atStart => exact ⟨P1, P2, p, q, d1, d2, rfl, rfl, rfl, hd1, hd2, hpl, hql, hn1, hn2, hle, hG, hr1, hr2, BK⟩
    case round =>
      clear hle hG hpl hql hn1 hn2 hr1 hr2 BK hd1 hd2
      obtain ⟨X, Y, x, y, dx, dy, hgh, rfl, rfl, hdx, hdy, hxl, hyl, hxn, hyn, hle, hG, hrx, hry, hB⟩ := hrel
      have HG := Lib.hid hG
      have HH := Lib.hid hgh
      clear hG hgh
      have hs := hB.size
      by_cases h0 : y.length = 0
      · obtain rfl : y = [] := List.eq_nil_of_length_eq_zero h0
        have cT := nat_Trim_g x X dx _ wr hrx (fun g hg => hg) (by omega) hdx hxn.1
        go_wp2_with fail
        refine cT.mono ?_
        rintro e w2 ⟨A1, xs, c1, rfl, hc1, hn1, hv1, hr1, hb1⟩
        have HV := Lib.hid hv1
        clear hv1 cT
        go_wp2_with fail
        rw [Exit.noGoto_ret]
        go_ret
        refine ⟨A1, xs, c1, rfl, hc1, hn1, ?_, hr1, hB.trans (hb1.mono hs)⟩
        rw [HV.out, HGG.out, ← HG.out]
        simp [val]
      · have hypos : 0 < val 4294967296 y := by
          rcases Nat.eq_zero_or_pos (val 4294967296 y) with h | h
          · have := (hyn.2.nil_iff (b := 4294967296) (by omega)).2 h
            subst this; simp at h0
          · exact h
        by_cases h2 : x.length ≤ 2
        · have hx64 : val 4294967296 x < 18446744073709551616 := val_lt_pow (n := 2) hxn.1 (by omega) h2
          have cS := root_gcdSmall x y X Y dx dy wr hrx hry hxl hyl hdx hdy hxn.1 hyn.1 hx64 (by omega)
          go_wp2_with fail
          refine cS.mono ?_
          rintro e w2 ⟨A1, xs, c1, rfl, hc1, hn1, hv1, hr1, hb1⟩
          have HV := Lib.hid hv1
          clear hv1 cS
          go_wp2_with fail
          rw [Exit.noGoto_ret]
          go_ret
          refine ⟨A1, xs, c1, rfl, hc1, hn1, ?_, hr1, hB.trans (hb1.mono hs)⟩
          rw [HV.out, HGG.out, ← HG.out]
        · have cN := root_nearer x y X Y dx dy wr hrx hry hxl hdx hdy hxn hyn (by omega) hypos hle
          go_wp2_with fail
          refine cN.mono ?_
          rintro e w2 ⟨N, M, ⟨A1, xs, c1, A2, ys, c2, rfl, hc1, hc2, hn1, hn2, hv1, hv2, hr1, hr2, hb1⟩, hMN, hNy, hg, hlt⟩
          have l1 := len_le (b := 4294967296) (xs := xs) (a := y) (by omega) hn1.2 hyn.1 (by rw [hv1]; exact hNy)
          have l2 := len_le (b := 4294967296) (xs := ys) (a := y) (by omega) hn2.2 hyn.1 (by rw [hv2]; omega)
          have HV := Lib.hid hv1
          have HW := Lib.hid hv2
          have HGN := Lib.hid hg
          clear hv1 hv2 hg cN
          go_wp2_with fail
          go_roundg (N + M)
          case measure => rw [← HH.out]; exact hlt
          case rel => exact ⟨A1, A2, xs, ys, c1, c2, by rw [HV.out, HW.out], rfl, rfl, hc1, hc2, by omega, by omega, hn1, hn2, by rw [HV.out, HW.out]; exact hMN, by rw [HV.out, HW.out, HGN.out, HG.out], hr1, hr2, hB.trans (hb1.mono hs)⟩

theorem gcd_len {xs a b : List Nat} {n : Nat} (hx : Norm 4294967296 xs) (ha : Dg 4294967296 a) (hb : Dg 4294967296 b) (h : val 4294967296 xs = Nat.gcd (val 4294967296 a) (val 4294967296 b)) (h1 : a.length ≤ n) (h2 : b.length ≤ n) : xs.length ≤ n := by
  rcases Nat.eq_zero_or_pos (val 4294967296 a) with h0 | h0
  · rw [h0, Nat.gcd_zero_left] at h
    exact Nat.le_trans (len_le (b := 4294967296) (by omega) hx.2 hb (by omega)) h2
  · have := Nat.gcd_le_left (val 4294967296 b) h0
    exact Nat.le_trans (len_le (b := 4294967296) (by omega) hx.2 ha (by omega)) h1

set_option maxHeartbeats 800000 in
/-- the least common multiple -/
theorem root_Lcm (a b : List Nat) (A A' : Option Addr) (ca cb : Nat) (w : World) (h : Rd w (fun g => g < w.heap.size) .u32 A a) (h' : Rd w (fun g => g < w.heap.size) .u32 A' b) (hl : a.length ≤ 1073741824) (hl' : b.length ≤ 1073741824) (hc : a.length ≤ ca) (hc' : b.length ≤ cb) (ha : Dg 4294967296 a) (hb : Dg 4294967296 b) :
    Calls Try.prog 11 #[.slice A a.length ca, .slice A' b.length cb] w (Gives .u32 4294967296 (val 4294967296 a / Nat.gcd (val 4294967296 a) (val 4294967296 b) * val 4294967296 b) w) := by
  have cG := root_Gcd a b A A' ca cb w h h' hl hl' hc hc' ha hb
  go_enter Try.func11, Try.ntmps11
  go_wp2_with fail
  refine cG.mono ?_
  rintro e w1 ⟨A1, g, c1, rfl, hc1, hn1, hv1, hr1, b1⟩
  have hgl := gcd_len hn1 ha hb hv1 hl hl'
  have cD := nat_Div a g A A1 ca c1 _ _ w1 (h.on b1) hr1 (fun g hg => hg) (fun g hg => hg) hl hgl hc hc1 ha hn1.1
  rw [hv1] at cD
  clear cG hv1
  go_wp2_with fail
  refine cD.mono ?_
  rintro e w2 ⟨A2, q, c2, A3, r, c3, rfl, hc2, -, hn2, -, hv2, -, hr2, -, b2⟩
  have B2 := b1.trans (b2.mono b1.size)
  have hql := len_le (b := 4294967296) (by omega) hn2.2 ha (by rw [hv2]; exact Nat.div_le_self _ _)
  have cM := nat_Mul q b A2 A' c2 cb _ _ w2 hr2 (h'.on B2) (fun g hg => hg) (fun g hg => hg) (by omega) hl' hc2 hc' hn2.1 hb
  rw [hv2] at cM
  clear cD hv2
  go_wp2_with fail
  refine cM.mono ?_
  rintro e w3 ⟨A4, x, c4, rfl, hc4, hn4, hv4, hr4, b4⟩
  have HV := Lib.hid hv4
  clear cM hv4
  go_wp2_with fail
  go_ret
  exact ⟨A4, x, c4, rfl, hc4, hn4, HV.out, hr4, B2.trans (b4.mono B2.size)⟩

set_option maxHeartbeats 800000 in
/-- two numbers without their common factors -/
theorem root_Reduce (a b : List Nat) (A A' : Option Addr) (ca cb : Nat) (w : World) (h : Rd w (fun g => g < w.heap.size) .u32 A a) (h' : Rd w (fun g => g < w.heap.size) .u32 A' b) (hl : a.length ≤ 1073741824) (hl' : b.length ≤ 1073741824) (hc : a.length ≤ ca) (hc' : b.length ≤ cb) (ha : Dg 4294967296 a) (hb : Dg 4294967296 b) :
    Calls Try.prog 6 #[.slice A a.length ca, .slice A' b.length cb] w (GivesTwo (val 4294967296 a / Nat.gcd (val 4294967296 a) (val 4294967296 b)) (val 4294967296 b / Nat.gcd (val 4294967296 a) (val 4294967296 b)) w) := by
  have cG := root_Gcd a b A A' ca cb w h h' hl hl' hc hc' ha hb
  go_enter Try.func6, Try.ntmps6
  go_wp2_with fail
  refine cG.mono ?_
  rintro e w1 ⟨A1, g, c1, rfl, hc1, hn1, hv1, hr1, b1⟩
  have hgl := gcd_len hn1 ha hb hv1 hl hl'
  have cD := nat_Div a g A A1 ca c1 _ _ w1 (h.on b1) hr1 (fun g hg => hg) (fun g hg => hg) hl hgl hc hc1 ha hn1.1
  have cE := fun (V : World) (hV : Below w1.heap.size w1 V) => nat_Div b g A' A1 cb c1 _ _ V ((h'.on b1).on hV) (hr1.on hV) (fun g hg => hg) (fun g hg => hg) hl' hgl hc' hc1 hb hn1.1
  rw [hv1] at cD
  simp only [hv1] at cE
  clear cG hv1
  go_wp2_with fail
  refine cD.mono ?_
  rintro e w2 ⟨A2, q, c2, A3, r, c3, rfl, hc2, -, hn2, -, hv2, -, hr2, -, b2⟩
  have B2 := b1.trans (b2.mono b1.size)
  have HV := Lib.hid hv2
  have c5 := cE w2 b2
  clear cD hv2 cE
  go_wp2_with fail
  refine c5.mono ?_
  rintro e w3 ⟨A4, q4, c4, A5, r5, c5, rfl, hc4, -, hn4, -, hv4, -, hr4, -, b4⟩
  have HW := Lib.hid hv4
  clear hv4
  go_wp2_with fail
  go_ret2
  exact ⟨A2, q, c2, A4, q4, c4, rfl, hc2, hc4, hn2, hn4, HV.out, HW.out, hr2.on b4, hr4, B2.trans (b4.mono B2.size)⟩
end Go.Proofs.Ytoidhoiadkafhaa
