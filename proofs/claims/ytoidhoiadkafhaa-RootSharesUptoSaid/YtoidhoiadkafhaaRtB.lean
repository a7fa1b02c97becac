/- What the program's own less answers: a number times another one without a third one times a fourth one, word by word. -/
import Derived.Test.YtoidhoiadkafhaaRtA
import Derived.Test.YtoidhoiadkafhaaDivD
namespace Go.Proofs.Ytoidhoiadkafhaa
open Go.RowKit Num

theorem below_alloc_grown' {w W0 wr : World} (h : Below w.heap.size w W0) (hg : W0.grownBy wr (some w.heap.size)) : Below w.heap.size w wr :=
  h.grown hg h.size (fun g e => by injection e with e; omega)
/-- one word of it -/
theorem less_step {B K V Pa Pb n m up dn br p q x y t s : Nat} {d v : Nat} (h : V + Pb * m + K * up = Pa * n + K * (dn + br)) (ht : t = up + p * n) (hs : s = dn + q * m)
    (hx : x + B * (t / B) = t) (hy : y + B * (s / B) = s) (hd : d + y + br = B + x) (hv : v + B * (d / B) = d) (hd2 : d / B ≤ 1) :
    (V + K * v) + (Pb + K * q) * m + K * B * (t / B) = (Pa + K * p) * n + K * B * (s / B + (1 - d / B)) := by
  obtain ⟨z, hz⟩ : ∃ z, d / B = z := ⟨_, rfl⟩
  obtain ⟨z', hz'⟩ : ∃ z', 1 - d / B = z' := ⟨_, rfl⟩
  have hzz : z + z' = 1 := by omega
  rw [hz'] 
  rw [hz] at hv
  generalize t / B = t' at *
  generalize s / B = s' at *
  clear hz hz' hd2
  have hB : B * z + B * z' = B := by rw [← Nat.mul_add, hzz, Nat.mul_one]
  have e : v + q * m + B * t' + dn + br = p * n + B * s' + B * z' + up := by omega
  have e2 : K * v + K * (q * m) + K * (B * t') + K * dn + K * br = K * (p * n) + K * (B * s') + K * (B * z') + K * up := by
    simp only [← Nat.mul_add]; rw [e]
  simp only [Nat.add_mul, Nat.mul_add, Nat.mul_assoc] at h e2 ⊢
  omega

set_option maxHeartbeats 1600000 in
theorem root_less (a b : List Nat) (A A' : Option Addr) (ca cb n m X : Nat) (w : World) (h : Rd w (fun g => g < w.heap.size) .u32 A a) (h' : Rd w (fun g => g < w.heap.size) .u32 A' b) (hl : a.length ≤ 1073741824) (ha : Dg 4294967296 a) (hb : Dg 4294967296 b)
    (hn : n < 4294967296) (hm : m < 4294967296) (hX : X + val 4294967296 b * m = val 4294967296 a * n) (hXl : X < 4294967296 ^ (min a.length b.length)) :
    Calls Try.prog 70 #[.slice A a.length ca, .int .u64 n, .slice A' b.length cb, .int .u64 m] w fun e w' => ∃ A1 xs c, e = .returned (.slice A1 xs.length c) ∧ xs.length ≤ c ∧ xs.length ≤ min a.length b.length ∧ Norm 4294967296 xs ∧ val 4294967296 xs = X ∧ Rd w' (fun g => g < w'.heap.size) .u32 A1 xs ∧ Below w.heap.size w w' := by
  have HX := Lib.hid hX
  have HXL := Lib.hid hXl
  clear hX hXl
  obtain ⟨L, hL⟩ : ∃ L, min a.length b.length = L := ⟨_, rfl⟩
  have hLa : L ≤ a.length := by omega
  have hLb : L ≤ b.length := by omega
  have hmk := fun u : World => make_words L (by omega) u
  have hmi : (min (a.length : Int) (b.length : Int)) = (L : Int) := by omega
  go_enter Try.func70, Try.ntmps70
  go_wp2_with fail
  have hB0 := below_one w (.cells (cells .u32 (List.replicate L 0)).toArray 36)
  have hRow := Row.new w 36 .u32 (List.replicate L 0)
  obtain ⟨W0, hW0⟩ : ∃ W0, w.alloc (.cells (cells .u32 (List.replicate L 0)).toArray 36) = W0 := ⟨_, rfl⟩
  have hsz : W0.heap.size = w.heap.size + 1 := by rw [← hW0]; simp
  rw [hW0] at hB0 hRow ⊢
  have hAA : Rd W0 (fun g => g < w.heap.size) .u32 A a := h.below hB0 (fun _ hg => hg)
  have hBB : Rd W0 (fun g => g < w.heap.size) .u32 A' b := h'.below hB0 (fun _ hg => hg)
  clear h h' hW0 hmk
  go_loopg [10, 11, 12, 13, 22] L (fun gh up dn br _ i wr => ∃ (k u v y : Nat) (cs : List Nat), gh + k = L ∧ i = .int .i64 k ∧ up = .int .u64 u ∧ dn = .int .u64 v ∧ br = .int .u32 y ∧ u < 4294967296 ∧ v < 4294967296 ∧ y ≤ 1 ∧ cs.length = k ∧ Dg 4294967296 cs ∧ Row wr w.heap.size 36 .u32 (splice (List.replicate L 0) 0 cs) ∧ W0.grownBy wr (some w.heap.size) ∧
    val 4294967296 cs + val 4294967296 (b.take k) * m + 4294967296 ^ k * u = val 4294967296 (a.take k) * n + 4294967296 ^ k * (v + y))
  case atStart => exact ⟨0, 0, 0, 0, [], by omega, rfl, rfl, rfl, rfl, by omega, by omega, by omega, rfl, Dg.nil _, by rw [splice_nil]; exact hRow, World.grownBy.refl _ _, by simp [val]⟩
  case round =>
    clear hRow
    obtain ⟨k, u, v, y, cs, hg, rfl, rfl, rfl, rfl, hu, hv, hy, rfl, hcd, hr, hgr, hV⟩ := hrel
    have HG := Lib.hid hg
    have HV := Lib.hid hV
    clear hg hV
    have hlen : (splice (List.replicate L 0) 0 cs).length = L := by rw [length_splice' (by have := HG.out; simp; omega)]; simp
    have HL := Lib.hid hlen
    clear hlen
    by_cases hlt : cs.length < L
    · have hRa := hAA.grown hgr (fun x hx => ⟨by omega, by simp; omega⟩)
      have hRb := hBB.grown hgr (fun x hx => ⟨by omega, by simp; omega⟩)
      obtain ⟨ba, oa, rfl, _, ca0⟩ := hRa.at_ (j := cs.length) (by omega)
      obtain ⟨bb, ob, rfl, _, cb0⟩ := hRb.at_ (j := cs.length) (by omega)
      have hf := hr.frozen cs.length
      have cz := hr.cell (i := cs.length) (by rw [HL.out]; omega)
      have hp1 := ha.get (j := cs.length) (by omega)
      have hq1 := hb.get (j := cs.length) (by omega)
      have hs1 := val_take_succ (b := 4294967296) (xs := a) (k := cs.length) (by omega)
      have hs2 := val_take_succ (b := 4294967296) (xs := b) (k := cs.length) (by omega)
      obtain ⟨p, hp⟩ : ∃ p, a[cs.length]'(by omega) = p := ⟨_, rfl⟩
      obtain ⟨q, hq⟩ : ∃ q, b[cs.length]'(by omega) = q := ⟨_, rfl⟩
      rw [hp] at ca0 hp1 hs1
      rw [hq] at cb0 hq1 hs2
      have HS1 := Lib.hid hs1
      have HS2 := Lib.hid hs2
      clear hp hq hs1 hs2
      have hpn : p * n ≤ 4294967295 * 4294967295 := Nat.mul_le_mul (by omega) (by omega)
      have hpn1 : (p : Int) * (n : Int) ≤ 18446744065119617025 := by rw [← Int.natCast_mul]; omega
      have hpn0 : 0 ≤ (p : Int) * (n : Int) := by rw [← Int.natCast_mul]; omega
      have hqm : q * m ≤ 4294967295 * 4294967295 := Nat.mul_le_mul (by omega) (by omega)
      have hqm1 : (q : Int) * (m : Int) ≤ 18446744065119617025 := by rw [← Int.natCast_mul]; omega
      have hqm0 : 0 ≤ (q : Int) * (m : Int) := by rw [← Int.natCast_mul]; omega
      obtain ⟨t, ht⟩ : ∃ t, t = u + p * n := ⟨_, rfl⟩
      obtain ⟨s, hs⟩ : ∃ s, s = v + q * m := ⟨_, rfl⟩
      have eT : (u : Int) + (p : Int) * (n : Int) = (t : Int) := by rw [ht, Int.natCast_add, Int.natCast_mul]
      have eS : (v : Int) + (q : Int) * (m : Int) = (s : Int) := by rw [hs, Int.natCast_add, Int.natCast_mul]
      have ht64 : t < 18446744073709551616 := by omega
      have hs64 : s < 18446744073709551616 := by omega
      have csub := sub32 (t % 4294967296) (s % 4294967296) y wr (by omega) (by omega) hy
      rw [Int.natCast_emod, Int.natCast_emod] at csub
      have HT := Lib.hid ht
      have HSS := Lib.hid hs
      clear ht hs
      go_wp2_with fail
      try rw [eT, eS]
      clear eT eS hpn hpn1 hpn0 hqm hqm1 hqm0
      obtain ⟨d, hd⟩ : ∃ d, d = 4294967296 + t % 4294967296 - s % 4294967296 - y := ⟨_, rfl⟩
      rw [← hd] at csub
      have HD := Lib.hid hd
      clear hd
      refine csub.mono ?_
      rintro e w' ⟨rfl, rfl⟩
      clear csub
      go_wp2_with fail
      go_roundg (gk - 1)
      case measure => have := HG.out; omega
      case rel =>
        have hd := HD.out
        have hr2 := hr.set cs.length (d % 4294967296)
        rw [splice_snoc0 (by simp; omega)] at hr2
        refine ⟨cs.length + 1, t / 4294967296, s / 4294967296, 1 - d / 4294967296, cs ++ [d % 4294967296], by have := HG.out; omega, by go_num, by go_num, by go_num, by go_num, by omega, by omega, by omega, by simp, hcd.snoc (by omega), hr2, grown_setCell hgr _ _, ?_⟩
        rw [HS1.out, HS2.out, val_snoc, Nat.pow_succ]
        exact less_step (x := t % 4294967296) (y := s % 4294967296) HV.out HT.out HSS.out (by omega) (by omega) (by omega) (by omega) (by omega)
    · have hk : cs.length = L := by have := HG.out; omega
      have hsp : splice (List.replicate L 0) 0 cs = cs := splice_full (by simp; omega)
      rw [hsp] at hr
      have hv := HV.out
      have hvX : val 4294967296 cs = X := by
        have e1 := val_split (b := 4294967296) (k := L) (xs := a) hLa
        have e2 := val_split (b := 4294967296) (k := L) (xs := b) hLb
        have hX := HX.out
        rw [e1, e2] at hX
        rw [hk] at hv
        have hlt1 := val_lt hcd
        have hlt2 := HXL.out
        rw [hk] at hlt1
        rw [hL] at hlt2
        refine mod_one (p := 4294967296 ^ L) (c := u + val 4294967296 (a.drop L) * n) (d := v + y + val 4294967296 (b.drop L) * m) ?_ hlt1 hlt2
        simp only [Nat.add_mul, Nat.mul_add, Nat.mul_assoc] at hX hv ⊢
        omega
      have hrd := hr.rd_all (S := fun g => g < wr.heap.size) hr.lt
      have hB := below_alloc_grown' hB0 hgr
      have cc := root_cut cs _ L _ wr hrd (by omega) (by omega) hcd
      rw [hk] at cc
      have HVX := Lib.hid hvX
      clear hvX hv
      go_wp2_with fail
      refine cc.mono ?_
      rintro e w' ⟨ys, A1, c1, rfl, hc1, hl1, hn1, hv1, hr1, rfl⟩
      go_wp2_with fail
      go_ret
      exact ⟨A1, ys, c1, rfl, hc1, by omega, hn1, hv1.trans HVX.out, hr1, hB⟩
end Go.Proofs.Ytoidhoiadkafhaa
