/- What the program's own long division answers: takeTimes, takeAll. -/
import Derived.Test.YtoidhoiadkafhaaDivA
namespace Go.Proofs.Ytoidhoiadkafhaa
open Go.RowKit Num

theorem dg_splice {b off : Nat} {zs cs : List Nat} (hz : Dg b zs) (hc : Dg b cs) : Dg b (splice zs off cs) := by
  simp only [splice]
  exact Dg.append.2 ⟨hz.take, Dg.append.2 ⟨hc, hz.drop⟩⟩

set_option maxHeartbeats 1600000 in
/-- taking b q times off the words of block g from off on, one more than b's; true: that was too much -/
theorem nat_takeTimes (zs b : List Nat) (g off n c q : Nat) (A : Option Addr) (cb : Nat) (t : TypeId) (w : World) (hrow : Row w g t .u32 zs) (hb : Rd w (fun x => x ≠ g) .u32 A b) (hbn : b.length = n) (hn : off + (n + 1) ≤ zs.length) (hl : n ≤ 2147483648) (hz : Dg 4294967296 zs) (hbd : Dg 4294967296 b) (hq : q < 4294967296) :
    Calls Try.prog 73 #[.slice (some ⟨g, off, none⟩) (n + 1) c, .slice A n cb, .int .u32 q] w fun e w' => ∃ (cs : List Nat) (cy : Nat), e = .returned (.bool (decide (0 < cy))) ∧ cy ≤ 1 ∧ cs.length = n + 1 ∧ Dg 4294967296 cs ∧ val 4294967296 cs + val 4294967296 b * q = val 4294967296 ((zs.drop off).take (n + 1)) + 4294967296 ^ (n + 1) * cy ∧ Row w' g t .u32 (splice zs off cs) ∧ w.grownBy w' (some g) := by
  have hbl := hb.below_size
  have HBN := Lib.hid hbn
  clear hbn hb
  go_enter Try.func73, Try.ntmps73
  go_wp2_with fail
  go_loopg [7, 8, 9, 10, 11, 15] n (fun gh c' _ _ _ _ i wr => ∃ (k cy : Nat) (cs : List Nat), gh + k = n ∧ i = .int .i64 k ∧ c' = .int .u64 cy ∧ cy < 4294967296 ∧ cs.length = k ∧ Dg 4294967296 cs ∧ Row wr g t .u32 (splice zs off cs) ∧ w.grownBy wr (some g) ∧
    val 4294967296 cs + val 4294967296 (b.take k) * q = val 4294967296 ((zs.drop off).take k) + 4294967296 ^ k * cy)
  case atStart => exact ⟨0, 0, [], by omega, rfl, rfl, by omega, rfl, Dg.nil _, by rw [splice_nil]; exact hrow, World.grownBy.refl _ _, by simp [val]⟩
  case round =>
    obtain ⟨k, cy, cs, hg, rfl, rfl, hcy, rfl, hcd, hr, hgr, hv⟩ := hrel
    have HG := Lib.hid hg
    have HV := Lib.hid hv
    clear hg hv
    have hlen : (splice zs off cs).length = zs.length := length_splice' (by have := HG.out; omega)
    have HL := Lib.hid hlen
    clear hlen
    have ca := hr.cell (i := off + cs.length) (by have := HG.out; rw [HL.out]; omega)
    rw [get_splice_ge (by have := HG.out; omega) (Nat.le_refl _)] at ca
    have hf := hr.frozen (off + cs.length)
    have hp1 := hz.get (j := off + cs.length) (by have := HG.out; omega)
    have hs1 := take_drop_succ (zs := zs) (off := off) (k := cs.length) (by have := HG.out; omega) 4294967296
    obtain ⟨p, hp⟩ : ∃ p, zs[off + cs.length]'(by have := HG.out; omega) = p := ⟨_, rfl⟩
    rw [hp] at ca hp1 hs1
    have HS1 := Lib.hid hs1
    clear hp hs1
    by_cases hlt : cs.length < n
    · have hR := hbl.grown hgr (fun x hx => ⟨hx.2, fun e => hx.1 (by injection e)⟩)
      have hlb : cs.length < b.length := by have := HBN.out; omega
      obtain ⟨bb, ob, rfl, _, cb0⟩ := hR.at_ hlb
      have hq1 := hbd.get hlb
      have hs2 := val_take_succ (b := 4294967296) hlb
      obtain ⟨y, hy⟩ : ∃ y, b[cs.length] = y := ⟨_, rfl⟩
      rw [hy] at cb0 hq1 hs2
      have HS2 := Lib.hid hs2
      clear hy hs2 hlb
      have hxq : y * q ≤ 4294967295 * 4294967295 := Nat.mul_le_mul (by omega) (by omega)
      have hxq1 : (y : Int) * (q : Int) ≤ 18446744065119617025 := by rw [← Int.natCast_mul]; omega
      have hxq0 : 0 ≤ (y : Int) * (q : Int) := by rw [← Int.natCast_mul]; omega
      have hcar := times_carry (x := p) hcy hq1 hq
      have hst := fun v hv => times_step (v := v) (x := p) (y := y) rfl HV.out (by omega) hv hp1
      obtain ⟨v, hvv⟩ : ∃ v, cy + y * q = v := ⟨_, rfl⟩
      have hvI : (cy : Int) + (y : Int) * (q : Int) = (v : Int) := by rw [← Int.natCast_mul]; omega
      rw [hvv] at hcar
      have hst2 := hst v hvv.symm
      have cS := sub32 p (v % 4294967296) 0 wr hp1 (Nat.mod_lt _ (by omega)) (by omega)
      rw [Nat.sub_zero] at cS
      have hlo1 : (4294967296 + p - v % 4294967296) % 4294967296 < 4294967296 := Nat.mod_lt _ (by omega)
      have hbo1 : 1 - (4294967296 + p - v % 4294967296) / 4294967296 ≤ 1 := by omega
      obtain ⟨lo, hlo⟩ : ∃ lo, (4294967296 + p - v % 4294967296) % 4294967296 = lo := ⟨_, rfl⟩
      obtain ⟨bo, hbo⟩ : ∃ bo, 1 - (4294967296 + p - v % 4294967296) / 4294967296 = bo := ⟨_, rfl⟩
      rw [hlo] at cS hst2 hlo1
      rw [hbo] at cS hst2 hbo1 hcar
      have hv64 : v < 18446744073709551616 := by omega
      have HST := Lib.hid hst2
      clear hlo hbo hst hst2 hvv hxq
      have cS' : Calls Try.prog 74 #[.int .u32 p, .int .u32 ((v : Int) % 4294967296), .int .u32 0] wr fun e w' => e = .returned (.tuple #[.int .u32 (lo : Int), .int .u32 (bo : Int)]) ∧ wr = w' := cS
      clear cS
      go_wp2_with (go_at_call 74; refine cS'.mono ?_; rintro e w' ⟨rfl, rfl⟩)
      go_roundg (gk - 1)
      case measure => have := HG.out; omega
      case rel =>
        have hr2 := hr.set (off + cs.length) lo
        rw [splice_snoc (by omega)] at hr2
        refine ⟨cs.length + 1, v / 4294967296 + bo, cs ++ [lo], by have := HG.out; omega, by go_num, by go_num, hcar, by simp, hcd.snoc hlo1, hr2, grown_setCell hgr _ _, ?_⟩
        rw [HS1.out, HS2.out]
        exact HST.out
    · have hk : cs.length = n := by have := HG.out; omega
      have HK := Lib.hid hk
      have hnn := HK.out
      clear hlt
      subst hnn
      have hst := times_step (v := cy) (x := p) (y := 0) (q := q) rfl HV.out (by omega) (by omega) hp1
      rw [Nat.mod_eq_of_lt hcy, Nat.div_eq_of_lt hcy, Nat.zero_add, Nat.mul_zero, Nat.add_zero, ← HS1.out, List.take_of_length_le (by have := HBN.out; omega)] at hst
      have HST := Lib.hid hst
      clear hst
      go_wp2
      go_ret
      have hr2 := hr.set (off + cs.length) ((4294967296 + p - cy) % 4294967296)
      rw [splice_snoc (by omega)] at hr2
      rw [show ((p : Int) - (cy : Int)) % 4294967296 = (((4294967296 + p - cy) % 4294967296 : Nat) : Int) by omega]
      refine ⟨cs ++ [(4294967296 + p - cy) % 4294967296], 1 - (4294967296 + p - cy) / 4294967296, ?_, by omega, by simp, hcd.snoc (Nat.mod_lt _ (by omega)), HST.out, hr2, grown_setCell hgr _ _⟩
      have e : decide (0 < 1 - (4294967296 + p - cy) / 4294967296) = decide (p < cy) := by
        by_cases h : p < cy
        · rw [decide_eq_true h, decide_eq_true (by omega)]
        · rw [decide_eq_false h, decide_eq_false (by omega)]
      rw [e]
      rfl

set_option maxHeartbeats 1600000 in
/-- taking d off the words of block g from off on as often as it is in them: how often that is; what is left stays there -/
theorem nat_takeAll (zs d : List Nat) (g off k c : Nat) (A : Option Addr) (cb : Nat) (t : TypeId) (w : World) (hrow : Row w g t .u32 zs) (hb : Rd w (fun x => x ≠ g) .u32 A d) (hdl : d.length = k + 2) (hn : off + (k + 3) ≤ zs.length) (hl : k ≤ 1073741824) (hz : Dg 4294967296 zs) (hbd : Dg 4294967296 d) (htop : 0 < d[k + 1]) (hlt : val 4294967296 ((zs.drop off).take (k + 3)) < 4294967296 * val 4294967296 d) :
    Calls Try.prog 66 #[.slice (some ⟨g, off, none⟩) (k + 3) c, .slice A (k + 2) cb] w fun e w' => ∃ cs, e = .returned (.int .u32 ((val 4294967296 ((zs.drop off).take (k + 3)) / val 4294967296 d : Nat) : Int)) ∧ val 4294967296 ((zs.drop off).take (k + 3)) / val 4294967296 d < 4294967296 ∧ cs.length = k + 3 ∧ Dg 4294967296 cs ∧ val 4294967296 cs = val 4294967296 ((zs.drop off).take (k + 3)) % val 4294967296 d ∧ Row w' g t .u32 (splice zs off cs) ∧ w.grownBy w' (some g) := by
  have hxl : ((zs.drop off).take (k + 3)).length = k + 3 := by rw [List.length_take, List.length_drop]; omega
  have hdp : 0 < val 4294967296 d := by
    rcases Nat.eq_zero_or_pos (val 4294967296 d) with h0 | h0
    · rw [h0] at hlt; omega
    · exact h0
  have cg := nat_guess ((zs.drop off).take (k + 3)) d k (some ⟨g, off, none⟩) A c cb (fun _ => True) _ w (hrow.rd trivial hn) hb hxl hdl hl hz.drop.take hbd htop hlt
  have hdlt := val_lt (b := 4294967296) hbd
  rw [hdl] at hdlt
  clear hxl hlt htop
  go_enter Try.func66, Try.ntmps66
  go_wp2_with fail
  refine cg.mono ?_
  rintro e w1 ⟨q, rfl, hq, hq1, hq2, m, rfl⟩
  have ct := nat_takeTimes zs d g off (k + 2) c q A cb t (w.drewN m) hrow (hb.drewN m) hdl hn (by omega) hz hbd hq
  rw [show k + 2 + 1 = k + 3 from rfl] at ct
  have HQ1 := Lib.hid hq1
  have HQ2 := Lib.hid hq2
  have HDL := Lib.hid hdl
  have HDLT := Lib.hid hdlt
  clear hq1 hq2 hdl hdlt cg
  go_wp2_with fail
  refine ct.mono ?_
  rintro e w2 ⟨cs, cy, rfl, hcy, hcl, hcd, hcv, hrow2, hgr2⟩
  have HCL := Lib.hid hcl
  have HCV := Lib.hid hcv
  clear hcl hcv ct
  by_cases h0 : cy = 0
  · subst h0
    go_wp2_with fail
    go_ret
    rw [Nat.mul_zero, Nat.add_zero] at HCV
    obtain ⟨h1, h2⟩ := take_fine HCV.out HQ1.out hdp
    exact ⟨cs, by rw [← h1]; rfl, by rw [← h1]; exact hq, HCL.out, hcd, h2, hrow2, grown_trans (grown_drewN (World.grownBy.refl _ _) m) hgr2⟩
  · have h1 : cy = 1 := by omega
    subst h1
    rw [Nat.mul_one] at HCV
    have hrd : Rd w2 (fun x => x ≠ g) .u32 A d := by
      have := hb.below_size
      exact ((this.drewN m).grown hgr2 (fun x hx => ⟨hx.2, fun e => hx.1 (by injection e)⟩)).imp (fun x hx => hx.1)
    have hsl : (splice zs off cs).length = zs.length := length_splice' (by rw [HCL.out]; exact hn)
    have hsd : Dg 4294967296 (splice zs off cs) := dg_splice hz hcd
    have ca := nat_addIn (splice zs off cs) d g off (k + 3) c A cb t w2 hrow2 hrd (by rw [hsl]; exact hn) (by rw [HDL.out]; omega) (by omega) hsd hbd
    rw [seg_splice HCL.out (by omega), HDL.out] at ca
    clear hsl hsd
    go_wp2_with fail
    refine ca.mono ?_
    rintro e w3 ⟨rfl, es, cc, hel, hed, hev, hrow3, hgr3⟩
    have h5 := val_lt (b := 4294967296) hed
    have h6 := val_lt (b := 4294967296) hcd
    rw [hel] at h5
    rw [HCL.out] at h6
    have h7 : val 4294967296 d ≤ 4294967296 ^ (k + 3) := Nat.le_trans (Nat.le_of_lt HDLT.out) (Nat.pow_le_pow_right (by omega) (by omega))
    obtain ⟨h8, h9, h10⟩ := take_back h5 h7 h6 HCV.out hev HQ2.out
    obtain ⟨h11, h12⟩ := take_fine h10 (quot_le rfl h9) hdp
    rw [splice_again (by rw [hel, HCL.out]) (by omega)] at hrow3
    have H11 := Lib.hid h11
    have H12 := Lib.hid h12
    have HEL := Lib.hid hel
    clear h5 h6 h7 h9 h10 h11 h12 hel hev ca
    go_wp2_with fail
    go_ret
    rw [← H11.out]
    refine ⟨es, ?_, by omega, HEL.out, hed, H12.out, hrow3, grown_trans (grown_trans (grown_drewN (World.grownBy.refl _ _) m) hgr2) hgr3⟩
    rw [show ((q - 1 : Nat) : Int) = (q : Int) - 1 by omega]
    rfl
end Go.Proofs.Ytoidhoiadkafhaa
