/- Fractions, the document's own: what worth, up and Reduce answer. -/
import Derived.Test.YtdmoibphidipeaaGreatDoorZWrX
import Derived.Test.YtdmoibphidipeaaGreatDoorZRrX
import Derived.Test.YtdmoibphidipeaaGreatDoorZWrY
import Derived.Deep.RegionWith
import Derived.Test.YtdmoibphidipeaaGreatDoorZOaC
import Derived.Test.YtdmoibphidipeaaGreatDoorZOaD
import Derived.Test.YtdmoibphidipeaaGreatDoorZWhX
import Derived.Deep.RegionHeld3
namespace Go.Proofs.YtdmoibphidipeaaGreatDoor
open Go.RowKit Num

/-- three cells stored into a block -/
theorem Blk.three {w : World} {g : Nat} {t : TypeId} {a0 a1 a2 : Value} (h : Blk w g t [a0, a1, a2]) (u0 u1 u2 : Value) :
    ∃ W, ((w.setCell ⟨g, 0, none⟩ u0).setCell ⟨g, 1, none⟩ u1).setCell ⟨g, 2, none⟩ u2 = W ∧ W.cell? ⟨g, 0, none⟩ = some u0 ∧ W.cell? ⟨g, 1, none⟩ = some u1 ∧ W.cell? ⟨g, 2, none⟩ = some u2 ∧ Blk W g t [u0, u1, u2] ∧ (∀ B, B ≤ g → Below B w W) ∧ (∀ g' t' vs, g' ≠ g → Blk w g' t' vs → Blk W g' t' vs) ∧ W.heap.size = w.heap.size := by
  have k := ((h.set 0 u0).set 1 u1).set 2 u2
  exact ⟨_, rfl, k.cell 0 rfl, k.cell 1 rfl, k.cell 2 rfl, k, fun _ hB => (((Below.refl _ _).setCell hB _).setCell hB _).setCell hB _, fun _ _ _ hne k => ((k.far hne u0).far hne u1).far hne u2, by simp [World.setCell]⟩
/-- words that are read stay when another block's cells are stored, one that holds no integers there -/
theorem Num.Rd.far3 {w : World} {g : Nat} {t : TypeId} {x : Bool} {p q : Option Addr} {n m n' m' : Nat} {k : IntKind} {A : Option Addr} {xs : List Nat} (h : Rd w (fun g => g < w.heap.size) k A xs) (f : Blk w g t [.bool x, .slice p n m, .slice q n' m']) {W : World} (u0 u1 u2 : Value) (hW : ((w.setCell ⟨g, 0, none⟩ u0).setCell ⟨g, 1, none⟩ u1).setCell ⟨g, 2, none⟩ u2 = W) : Rd W (fun g => g < W.heap.size) k A xs := fun hn => by
  obtain ⟨b, o, e, hb, hc⟩ := h hn
  have hne : b ≠ g := by
    rintro rfl
    have h0 := hc 0 hn
    rw [cell_of_row _ _ _ _ _ _ f] at h0
    match o, h0 with
    | 0, h0 => simp at h0
    | 1, h0 => simp at h0
    | 2, h0 => simp at h0
    | o + 3, h0 => simp at h0
  subst hW
  refine ⟨b, o, e, by simpa [World.setCell] using hb, fun j hj => ?_⟩
  rw [← hc j hj]
  exact World.cell?_of_block (((Below.heap_setCell _ _ u2 b hne).trans (Below.heap_setCell _ _ u1 b hne)).trans (Below.heap_setCell _ _ u0 b hne))
/-- an argument's box and the result's one -/
theorem frac_boxes (w : World) (v0 v1 v2 : Value) : ∃ W, (w.alloc (.cells #[v0, v1, v2] 39)).alloc (.cells #[.bool false, .slice none 0 0, .slice none 0 0] 39) = W ∧ Blk W w.heap.size 39 [v0, v1, v2] ∧ Blk W (w.heap.size + 1) 39 [.bool false, .slice none 0 0, .slice none 0 0] ∧ Below w.heap.size w W ∧ W.heap.size = w.heap.size + 2 :=
  ⟨_, rfl, (Blk.new w 39 [v0, v1, v2]).alloc _, Blk.at_new (w.alloc (.cells #[v0, v1, v2] 39)) 39 [.bool false, .slice none 0 0, .slice none 0 0] (by simp), (below_one w _).trans ((below_one (w.alloc (.cells #[v0, v1, v2] 39)) _).mono (by simp)), by simp⟩
/-- a cell's facts of three -/
theorem Blk.facts {w : World} {g : Nat} {t : TypeId} {a0 a1 a2 : Value} (h : Blk w g t [a0, a1, a2]) : w.cell? ⟨g, 0, none⟩ = some a0 ∧ w.cell? ⟨g, 1, none⟩ = some a1 ∧ w.cell? ⟨g, 2, none⟩ = some a2 ∧ w.frozen? ⟨g, 0, none⟩ = false ∧ w.frozen? ⟨g, 1, none⟩ = false ∧ w.frozen? ⟨g, 2, none⟩ = false :=
  ⟨h.cell 0 rfl, h.cell 1 rfl, h.cell 2 rfl, h.frozen 0, h.frozen 1, h.frozen 2⟩

/-- a fraction, not reduced -/
def GivesRaw (P : Int) (Q m : Nat) (w : World) (e : Ending) (w' : World) : Prop :=
  ∃ n a A ca d D cd, e = .returned (.agg #[.bool n, .slice A a.length ca, .slice D d.length cd]) ∧ Dg 4294967296 a ∧ Dg 4294967296 d ∧ a.length ≤ m ∧ d.length ≤ m ∧ wv n a = P ∧ val 4294967296 d = Q ∧ Rd w' (fun g => g < w'.heap.size) .u32 A a ∧ Rd w' (fun g => g < w'.heap.size) .u32 D d ∧ Below w.heap.size w w'
/-- what a fraction is worth: its upper and its lower part -/
def upN (n : Bool) (a d : List Nat) : Int := if val 4294967296 d = 0 then 0 else wv n a
def loD (d : List Nat) : Nat := if val 4294967296 d = 0 then 1 else val 4294967296 d

set_option maxRecDepth 10000 in
set_option maxHeartbeats 800000 in
/-- a fraction whose lower part isn't 0 -/
theorem ref4_worth (n : Bool) (a d : List Nat) (A D : Option Addr) (ca cd m : Nat) (w : World) (h : Rd w (fun g => g < w.heap.size) .u32 A a) (h' : Rd w (fun g => g < w.heap.size) .u32 D d) (hm : m ≤ 4194304) (hm1 : 1 ≤ m) (hl : a.length ≤ m) (hl' : d.length ≤ m) (ha : Dg 4294967296 a) (hd : Dg 4294967296 d) :
    Calls Tryz.prog 76 #[.agg #[.bool n, .slice A a.length ca, .slice D d.length cd]] w (GivesRaw (upN n a d) (loD d) m w) := by
  obtain ⟨W, hW, k1, k2, b0, s0⟩ := frac_boxes w (.bool n) (.slice A a.length ca) (.slice D d.length cd)
  obtain ⟨p0, p1, p2, -, -, -⟩ := k1.facts
  have cB := ref_Bits d D cd _ W (h'.on b0) (fun g hg => hg) (by omega) hd
  go_enter Tryz.func76, Tryz.ntmps76
  go_wp2_with fail
  try rw [hW]
  clear hW
  refine cB.mono ?_
  rintro e w1 ⟨z, rfl, hb, b1⟩
  have K1 := k1.below b1 k1.lt
  have K2 := k2.below b1 k2.lt
  have B1 := b0.trans (b1.mono b0.size)
  have s1 := b1.size
  have hzi := isBits_zero_iff hb
  clear k1 k2 cB hb p0 p1 p2
  obtain ⟨x0, x1, x2, y0, y1, y2⟩ := K1.facts
  by_cases hz : z = 0
  · subst hz
    have hv : val 4294967296 d = 0 := hzi.1 rfl
    obtain ⟨V, hV, r1, b2, s2⟩ := one_word w1 1 1 rfl
    have K2' := K2.below b2 K2.lt
    obtain ⟨i0, i1, i2, j0, j1, j2⟩ := K2'.facts
    obtain ⟨U, hU, u0, u1, u2, kU, bU, oU, sU⟩ := K2'.three (.bool false) (.slice none 0 0) (.slice (some ⟨w1.heap.size, 0, none⟩) 1 1)
    have HP := Lib.hid (show wv false [] = upN n a d by unfold upN; rw [if_pos hv]; rfl)
    have HQ := Lib.hid (show val 4294967296 [1] = loD d by unfold loD; rw [if_pos hv]; rfl)
    have hRd := r1.far3 K2' _ _ _ hU
    have HB := Lib.hid (B1.trans (b2.mono B1.size) |>.trans (bU _ (by omega)))
    have HU := Lib.hid hU
    have HF := Lib.hid (And.intro u0 (And.intro u1 u2))
    clear hzi hv oU bU kU sU hU u0 u1 u2 K1 K2 K2' r1 b2 b1 s2
    go_wp2_with fail
    rw [HU.out]
    obtain ⟨u0, u1, u2⟩ := HF.out
    exact bodyPost_ret (v := .agg #[.bool false, .slice none 0 0, .slice (some ⟨w1.heap.size, 0, none⟩) 1 1]) (by simp [results, Tryz.results76, go_sem, u0, u1, u2]) rfl
      ⟨false, [], none, 0, [1], _, 1, rfl, Dg.nil _, dg_one (by omega), by simp, by simpa using hm1, HP.out, HQ.out, Rd.nil, hRd, HB.out⟩
  · have hv : ¬ val 4294967296 d = 0 := fun h => hz (hzi.2 h)
    obtain ⟨i0, i1, i2, j0, j1, j2⟩ := K2.facts
    obtain ⟨U, hU, u0, u1, u2, kU, bU, oU, sU⟩ := K2.three (.bool n) (.slice A a.length ca) (.slice D d.length cd)
    have hP : upN n a d = wv n a := by unfold upN; rw [if_neg hv]
    have hQ : loD d = val 4294967296 d := by unfold loD; rw [if_neg hv]
    have hR1 := (h.on B1).far3 K2 _ _ _ hU
    have hR2 := (h'.on B1).far3 K2 _ _ _ hU
    have HP := Lib.hid hP
    have HQ := Lib.hid hQ
    have HB := Lib.hid (B1.trans (bU _ (by omega)))
    have HU := Lib.hid hU
    have HF := Lib.hid (And.intro u0 (And.intro u1 u2))
    clear hP hQ hzi hv oU bU kU sU hU u0 u1 u2 K1 K2 b1
    go_wp2_with fail
    rw [HU.out]
    obtain ⟨u0, u1, u2⟩ := HF.out
    exact bodyPost_ret (v := .agg #[.bool n, .slice A a.length ca, .slice D d.length cd]) (by simp [results, Tryz.results76, go_sem, u0, u1, u2]) rfl
      ⟨n, a, A, ca, d, D, cd, rfl, ha, hd, hl, hl', HP.out.symm, HQ.out.symm, hR1, hR2, HB.out⟩

/-- a fraction, reduced -/
def GivesF (P : Int) (Q : Nat) (w : World) (e : Ending) (w' : World) : Prop :=
  ∃ A a ca D d cd, e = .returned (.agg #[.bool (decide (P < 0)), .slice A a.length ca, .slice D d.length cd]) ∧ a.length ≤ ca ∧ d.length ≤ cd ∧ Norm 4294967296 a ∧ Norm 4294967296 d ∧ val 4294967296 a = P.natAbs / Nat.gcd P.natAbs Q ∧ val 4294967296 d = Q / Nat.gcd P.natAbs Q ∧
    Rd w' (fun g => g < w'.heap.size) .u32 A a ∧ Rd w' (fun g => g < w'.heap.size) .u32 D d ∧ Below w.heap.size w w'
theorem nought {Q : Nat} (hQ : 0 < Q) : val 4294967296 [] = (0 : Int).natAbs / Nat.gcd (0 : Int).natAbs Q ∧ val 4294967296 [1] = Q / Nat.gcd (0 : Int).natAbs Q := by
  simp only [Int.natAbs_zero, Nat.gcd_zero_left, Nat.zero_div]
  exact ⟨rfl, by rw [Nat.div_self hQ]; rfl⟩
theorem reduced_sign {n : Bool} {a x : List Nat} {g : Nat} (h : val 4294967296 x = val 4294967296 a / g) (hg : g ∣ val 4294967296 a) (ha : 0 < val 4294967296 a) : decide (wv n x < 0) = decide (wv n a < 0) := by
  have hx : 0 < val 4294967296 x := by
    rw [h]
    exact Nat.div_pos (Nat.le_of_dvd ha hg) (Nat.pos_of_dvd_of_pos hg ha)
  cases n
  · rw [wv_false, wv_false, decide_eq_false (by omega), decide_eq_false (by omega)]
  · rw [wv_true, wv_true, decide_eq_true (by omega), decide_eq_true (by omega)]

set_option maxRecDepth 10000 in
set_option maxHeartbeats 800000 in
/-- a fraction, reduced -/
theorem ref4_Reduce (n : Bool) (a d : List Nat) (A D : Option Addr) (ca cd : Nat) (w : World) (h : Rd w (fun g => g < w.heap.size) .u32 A a) (h' : Rd w (fun g => g < w.heap.size) .u32 D d) (hl : a.length ≤ 4194304) (hl' : d.length ≤ 4194304) (ha : Dg 4294967296 a) (hd : Dg 4294967296 d) :
    Calls Tryz.prog 102 #[.agg #[.bool n, .slice A a.length ca, .slice D d.length cd]] w (GivesF (upN n a d) (loD d) w) := by
  obtain ⟨W, hW, k1, k2, b0, s0⟩ := frac_boxes w (.bool n) (.slice A a.length ca) (.slice D d.length cd)
  obtain ⟨p0, p1, p2, -, -, -⟩ := k1.facts
  have cB := ref_Bits d D cd _ W (h'.on b0) (fun g hg => hg) (by omega) hd
  go_enter Tryz.func102, Tryz.ntmps102
  go_wp2_with fail
  try rw [hW]
  clear hW
  refine cB.mono ?_
  rintro e w1 ⟨z, rfl, hb, b1⟩
  have K1 := k1.below b1 k1.lt
  have K2 := k2.below b1 k2.lt
  have B1 := b0.trans (b1.mono b0.size)
  have s1 := b1.size
  have hzi := isBits_zero_iff hb
  clear k1 k2 cB hb p0 p1 p2
  obtain ⟨x0, x1, x2, y0, y1, y2⟩ := K1.facts
  by_cases hz : z = 0
  · subst hz
    have hv : val 4294967296 d = 0 := hzi.1 rfl
    obtain ⟨V, hV, r1, b2, s2⟩ := one_word w1 1 1 rfl
    have K2' := K2.below b2 K2.lt
    obtain ⟨i0, i1, i2, j0, j1, j2⟩ := K2'.facts
    obtain ⟨U, hU, u0, u1, u2, kU, bU, oU, sU⟩ := K2'.three (.bool false) (.slice none 0 0) (.slice (some ⟨w1.heap.size, 0, none⟩) 1 1)
    have HP := Lib.hid (show upN n a d = 0 by unfold upN; rw [if_pos hv])
    have HQ := Lib.hid (show loD d = 1 by unfold loD; rw [if_pos hv])
    have hRd := r1.far3 K2' _ _ _ hU
    have HB := Lib.hid (B1.trans (b2.mono B1.size) |>.trans (bU _ (by omega)))
    have HU := Lib.hid hU
    have HF := Lib.hid (And.intro u0 (And.intro u1 u2))
    clear hzi hv oU bU kU sU hU u0 u1 u2 K1 K2 K2' r1 b2 b1 s2
    go_wp2_with fail
    rw [HU.out]
    obtain ⟨u0, u1, u2⟩ := HF.out
    refine bodyPost_ret (v := .agg #[.bool false, .slice none 0 0, .slice (some ⟨w1.heap.size, 0, none⟩) 1 1]) (by simp [results, Tryz.results102, go_sem, u0, u1, u2]) rfl ?_
    rw [HP.out, HQ.out]
    exact ⟨none, [], 0, _, [1], 1, rfl, by simp, by simp, norm_nil _, norm_one (by omega) (by omega), (nought (by omega)).1, (nought (by omega)).2, Rd.nil, hRd, HB.out⟩
  · have hv : ¬ val 4294967296 d = 0 := fun h => hz (hzi.2 h)
    have hP : upN n a d = wv n a := by unfold upN; rw [if_neg hv]
    have hQ : loD d = val 4294967296 d := by unfold loD; rw [if_neg hv]
    have cB := ref_Bits a A ca _ w1 (h.on B1) (fun g hg => hg) (by omega) ha
    have hzb : ((z : Int) == 0) = false := by simp; omega
    go_wp2_with fail
    refine cB.mono ?_
    rintro e w2 ⟨z2, rfl, hb, b2⟩
    have K1' := K1.below b2 K1.lt
    have K2' := K2.below b2 K2.lt
    have B2 := B1.trans (b2.mono B1.size)
    have s2 := b2.size
    have hzi2 := isBits_zero_iff hb
    clear K1 K2 cB hb x0 x1 x2 y0 y1 y2 hzi b1
    obtain ⟨x0, x1, x2, y0, y1, y2⟩ := K1'.facts
    by_cases hz2 : z2 = 0
    · subst hz2
      have hva : val 4294967296 a = 0 := hzi2.1 rfl
      have hP0 : upN n a d = 0 := by rw [hP]; cases n <;> simp [wv, hva]
      obtain ⟨V, hV, r1, b3, s3⟩ := one_word w2 1 1 rfl
      have K2'' := K2'.below b3 K2'.lt
      obtain ⟨i0, i1, i2, j0, j1, j2⟩ := K2''.facts
      obtain ⟨U, hU, u0, u1, u2, kU, bU, oU, sU⟩ := K2''.three (.bool false) (.slice none 0 0) (.slice (some ⟨w2.heap.size, 0, none⟩) 1 1)
      have HP := Lib.hid hP0
      have HV := Lib.hid (show 0 < loD d by rw [hQ]; omega)
      have hRd := r1.far3 K2'' _ _ _ hU
      have HB := Lib.hid (B2.trans (b3.mono B2.size) |>.trans (bU _ (by omega)))
      have HU := Lib.hid hU
      have HF := Lib.hid (And.intro u0 (And.intro u1 u2))
      clear hzi2 hv hP hQ hP0 hva oU bU kU sU hU u0 u1 u2 K1' K2' K2'' r1 b2 b3 s3
      go_wp2_with fail
      rw [HU.out]
      obtain ⟨u0, u1, u2⟩ := HF.out
      refine bodyPost_ret (v := .agg #[.bool false, .slice none 0 0, .slice (some ⟨w2.heap.size, 0, none⟩) 1 1]) (by simp [results, Tryz.results102, go_sem, u0, u1, u2]) rfl ?_
      rw [HP.out]
      exact ⟨none, [], 0, _, [1], 1, rfl, by simp, by simp, norm_nil _, norm_one (by omega) (by omega), (nought HV.out).1, (nought HV.out).2, Rd.nil, hRd, HB.out⟩
    · have hva : 0 < val 4294967296 a := Nat.pos_of_ne_zero fun h => hz2 (hzi2.2 h)
      have hzb2 : ((z2 : Int) == 0) = false := by simp; omega
      have cR := r3_Reduce a d A D ca cd w2 (h.on B2) (h'.on B2) hl hl' ha hd
      go_wp2_with fail
      refine cR.mono ?_
      rintro e w3 ⟨A3, x, c3, D3, y, d3, rfl, hc3, hd3, hn3, hm3, hv3, hu3, r3, q3, b3⟩
      have K1'' := K1'.below b3 K1'.lt
      have K2'' := K2'.below b3 K2'.lt
      have B3 := B2.trans (b3.mono B2.size)
      have s3 := b3.size
      have lx := len_le (b := 4294967296) (by omega) hn3.2 ha (by rw [hv3]; exact Nat.div_le_self _ _)
      have cM := ref2_Make n x A3 c3 _ w3 r3 (by omega) hn3.1 rfl
      have hsg := reduced_sign (n := n) hv3 (Nat.gcd_dvd_left _ _) hva
      have HSG := Lib.hid hsg
      have HV3 := Lib.hid hv3
      have HU3 := Lib.hid hu3
      have HP := Lib.hid hP
      have HQ := Lib.hid hQ
      clear cR hv3 hu3 hzi2 hv hP hQ K1' K2' x0 x1 x2 y0 y1 y2 b2 hva hsg
      obtain ⟨x0, x1, x2, y0, y1, y2⟩ := K1''.facts
      go_wp2_with fail
      refine cM.mono ?_
      rintro e w4 ⟨A4, v, c4, rfl, hc4, hn4, hv4, r4, b4⟩
      have K4 := K2''.below b4 K2''.lt
      have B4 := B3.trans (b4.mono B3.size)
      obtain ⟨i0, i1, i2, j0, j1, j2⟩ := K4.facts
      obtain ⟨U, hU, u0, u1, u2, kU, bU, oU, sU⟩ := K4.three (.bool (decide (wv n x < 0))) (.slice A4 v.length c4) (.slice D3 y.length d3)
      have hR1 := r4.far3 K4 _ _ _ hU
      have hR2 := (q3.on b4).far3 K4 _ _ _ hU
      have HB := Lib.hid (B4.trans (bU _ (by omega)))
      have HU := Lib.hid hU
      have HF := Lib.hid (And.intro u0 (And.intro u1 u2))
      have HV4 := Lib.hid hv4
      clear cM hv4 oU bU kU sU hU u0 u1 u2 K1'' K2'' K4 b4 b3 r4 q3 r3
      go_wp2_with fail
      rw [HU.out]
      obtain ⟨u0, u1, u2⟩ := HF.out
      refine bodyPost_ret (v := .agg #[.bool (decide (wv n x < 0)), .slice A4 v.length c4, .slice D3 y.length d3]) (by simp [results, Tryz.results102, go_sem, u0, u1, u2]) rfl ?_
      rw [HP.out, HQ.out, HSG.out]
      exact ⟨A4, v, c4, D3, y, d3, rfl, hc4, hd3, hn4, hm3, by rw [HV4.out, wv_abs, wv_abs, HV3.out], by rw [HU3.out, wv_abs], hR1, hR2, HB.out⟩
end Go.Proofs.YtdmoibphidipeaaGreatDoor
/- Fractions, the document's own: what up, Neg, Sign and Floor answer. -/

namespace Go.Proofs.YtdmoibphidipeaaGreatDoor
open Go.RowKit Num

set_option maxHeartbeats 400000 in
/-- the lower part as a whole number -/
theorem ref4_up (n : Bool) (a d : List Nat) (A D : Option Addr) (ca cd : Nat) (w : World) :
    Calls Tryz.prog 79 #[.agg #[.bool n, .slice A a.length ca, .slice D d.length cd]] w fun e w' => e = .returned (.agg #[.bool false, .slice D d.length cd]) ∧ Below w.heap.size w w' := by
  go_enter Tryz.func79, Tryz.ntmps79
  go_wp2_with fail
  exact bodyPost_ret (v := .agg #[.bool false, .slice D d.length cd]) (by simp [results, Tryz.results79, go_sem]) rfl ⟨rfl, (below_one w _).trans ((below_one (w.alloc (.cells #[.bool n, .slice A a.length ca, .slice D d.length cd] 39)) _).mono (by simp))⟩

theorem loD_pos (d : List Nat) : 0 < loD d := by
  unfold loD
  split <;> omega
theorem upN_of {n : Bool} {a d : List Nat} (h : 0 < val 4294967296 d) : upN n a d = wv n a := by unfold upN; rw [if_neg (by omega)]
theorem loD_of {d : List Nat} (h : 0 < val 4294967296 d) : loD d = val 4294967296 d := by unfold loD; rw [if_neg (by omega)]

/-- a reduced fraction stored where the result lies -/
theorem fin_frac {w v : World} {g : Nat} {t : TypeId} (k : Blk v g t [.bool false, .slice none 0 0, .slice none 0 0]) (hg : w.heap.size ≤ g) (B : Below w.heap.size w v) {P : Int} {Q : Nat} {A D : Option Addr} {a d : List Nat} {ca cd : Nat}
    (hc : a.length ≤ ca) (hd : d.length ≤ cd) (hn : Norm 4294967296 a) (hm : Norm 4294967296 d) (hv : val 4294967296 a = P.natAbs / Nat.gcd P.natAbs Q) (hu : val 4294967296 d = Q / Nat.gcd P.natAbs Q) (r : Rd v (fun g => g < v.heap.size) .u32 A a) (q : Rd v (fun g => g < v.heap.size) .u32 D d) :
    ∃ U, ((v.setCell ⟨g, 0, none⟩ (.bool (decide (P < 0)))).setCell ⟨g, 1, none⟩ (.slice A a.length ca)).setCell ⟨g, 2, none⟩ (.slice D d.length cd) = U ∧ U.cell? ⟨g, 0, none⟩ = some (.bool (decide (P < 0))) ∧ U.cell? ⟨g, 1, none⟩ = some (.slice A a.length ca) ∧ U.cell? ⟨g, 2, none⟩ = some (.slice D d.length cd) ∧
      GivesF P Q w (.returned (.agg #[.bool (decide (P < 0)), .slice A a.length ca, .slice D d.length cd])) U := by
  obtain ⟨U, hU, u0, u1, u2, -, bU, -, -⟩ := k.three (.bool (decide (P < 0))) (.slice A a.length ca) (.slice D d.length cd)
  exact ⟨U, hU, u0, u1, u2, A, a, ca, D, d, cd, rfl, hc, hd, hn, hm, hv, hu, r.far3 k _ _ _ hU, q.far3 k _ _ _ hU, B.trans (bU _ hg)⟩
theorem keep3 {W V : World} {g : Nat} {t : TypeId} {a0 a1 a2 : Value} (k : Blk W g t [a0, a1, a2]) (hb : Below W.heap.size W V) : V.cell? ⟨g, 0, none⟩ = some a0 ∧ V.cell? ⟨g, 1, none⟩ = some a1 ∧ V.cell? ⟨g, 2, none⟩ = some a2 := by
  have k' := k.below hb k.lt
  exact ⟨k'.cell 0 rfl, k'.cell 1 rfl, k'.cell 2 rfl⟩

set_option maxRecDepth 10000 in
set_option maxHeartbeats 1600000 in
theorem ref4_Neg (n : Bool) (a d : List Nat) (A D : Option Addr) (ca cd : Nat) (w : World) (h : Rd w (fun g => g < w.heap.size) .u32 A a) (h' : Rd w (fun g => g < w.heap.size) .u32 D d) (hl : a.length ≤ 4194304) (hl' : d.length ≤ 4194304) (ha : Dg 4294967296 a) (hd : Dg 4294967296 d) :
    Calls Tryz.prog 81 #[.agg #[.bool n, .slice A a.length ca, .slice D d.length cd]] w (GivesF (- upN n a d) (loD d) w) := by
  obtain ⟨W, hW, k1, k2, b0, s0⟩ := frac_boxes w (.bool n) (.slice A a.length ca) (.slice D d.length cd)
  obtain ⟨p0, p1, p2, -, -, -⟩ := k1.facts
  have cW := ref4_worth n a d A D ca cd 4194304 W (h.on b0) (h'.on b0) (by omega) (by omega) hl hl' ha hd
  go_enter Tryz.func81, Tryz.ntmps81
  go_wp2_with fail
  try rw [hW]
  clear hW
  refine cW.mono ?_
  rintro e w1 ⟨n1, a1, A1, c1, d1, D1, e1, rfl, ha1, hd1, hl1, hm1, hv1, hu1, r1, q1, b1⟩
  have K1 := k1.below b1 k1.lt
  have K2 := k2.below b1 k2.lt
  have B1 := b0.trans (b1.mono b0.size)
  have s1 := b1.size
  have HV1 := Lib.hid hv1
  have HU1 := Lib.hid hu1
  clear k1 k2 cW p0 p1 p2 hv1 hu1
  obtain ⟨x0, x1, x2, y0, y1, y2⟩ := K1.facts
  obtain ⟨U, hU, -, -, -, kU, bU, oU, sU⟩ := K1.three (.bool n1) (.slice A1 a1.length c1) (.slice D1 d1.length e1)
  have K2' := oU _ _ _ (by omega) K2
  have BU := B1.trans (bU _ (Nat.le_refl _))
  have rU := r1.far3 K1 _ _ _ hU
  have qU := q1.far3 K1 _ _ _ hU
  have K0 : Below U.heap.size U U.drew := below_drewN (Below.refl _ _) 1
  have hdp : 0 < val 4294967296 d1 := by rw [HU1.out]; exact loD_pos d
  have cN := fun (V : World) (hV : Below U.heap.size U V) => ref2_Neg n1 a1 A1 c1 V (rU.on hV) (by omega) ha1
  obtain ⟨P, hP⟩ : ∃ P, - wv n1 a1 = P := ⟨_, rfl⟩
  simp only [hP] at cN
  have cR : ∀ (V : World) (x : List Nat) (X : Option Addr) (cx : Nat), Below U.heap.size U V → Rd V (fun g => g < V.heap.size) .u32 X x → Norm 4294967296 x → val 4294967296 x = P.natAbs → Calls Tryz.prog 102 #[.agg #[.bool (decide (P < 0)), .slice X x.length cx, .slice D1 d1.length e1]] V (GivesF P (val 4294967296 d1) V) := fun V x X cx hV hx hn hv => by
    have lx := len_le (b := 4294967296) (by omega) hn.2 ha1 (by rw [hv, ← hP, Int.natAbs_neg, wv_abs]; exact Nat.le_refl _)
    have := ref4_Reduce (decide (P < 0)) x d1 X D1 cx e1 V hx (qU.on hV) (by omega) hm1 hn.1 hd1
    rwa [upN_of hdp, loD_of hdp, wv_dec hv] at this
  have CN := Lib.hid cN
  have CR := Lib.hid cR
  have HP := Lib.hid hP
  have HKU := Lib.hid kU
  have HBU := Lib.hid BU
  have HK2 := Lib.hid K2'
  have hsz : w.heap.size + 1 < U.heap.size := K2'.lt
  have HU := Lib.hid hU
  clear cN cR hP K1 K2 K2' kU oU bU sU BU B1 rU qU r1 q1 hdp b1 hU
  go_wp2_with fail
  rw [HU.out]
  clear x0 x1 x2 y0 y1 y2
  go_region_held3 (fun w' => w'.cell? ⟨w.heap.size, 0, none⟩ = some (.bool n1) ∧ w'.cell? ⟨w.heap.size, 1, none⟩ = some (.slice A1 a1.length c1) ∧ w'.cell? ⟨w.heap.size, 2, none⟩ = some (.slice D1 d1.length e1))
    (first | exact keep3 HKU.out (below_drewN (Below.refl _ _) 1) | exact keep3 HKU.out KA | exact keep3 HKU.out KB | go_keep)
    ((first
      | (go_at_call 126; (with_reducible refine Calls.mono (CN.out _ K0) ?_); rintro e w2 ⟨A2, x, c2, rfl, hc2, hn2, hv2, r2, b2⟩; have KA := below_next K0 (Nat.le_refl _) b2)
      | (go_at_call 102; (with_reducible refine Calls.mono (CR.out _ x A2 c2 KA r2 hn2 hv2) ?_); rintro e w3 ⟨A3, a3, c3, D3, d3, e3, rfl, hc3, hd3, hn3, hm3, hv3, hu3, r3, q3, b3⟩; have KB := below_next KA (Nat.le_refl _) b3; obtain ⟨i0, i1, i2, j0, j1, j2⟩ := (HK2.out.below KB HK2.out.lt).facts)))
  obtain ⟨Z, hZ, u0, u1, u2, hG⟩ := fin_frac (HK2.out.below KB HK2.out.lt) (show w.heap.size ≤ w.heap.size + 1 by omega) (HBU.out.trans (KB.mono HBU.out.size)) hc3 hd3 hn3 hm3 hv3 hu3 r3 q3
  have HZ := Lib.hid hZ
  have HF := Lib.hid (And.intro u0 (And.intro u1 u2))
  have HG := Lib.hid hG
  clear hZ u0 u1 u2 hG hv3 hu3 i0 i1 i2 j0 j1 j2 CN CR
  go_wp2_with fail
  rw [HZ.out]
  obtain ⟨u0, u1, u2⟩ := HF.out
  refine bodyPost_ret (v := .agg #[.bool (decide (P < 0)), .slice A3 a3.length c3, .slice D3 d3.length e3]) (by simp [results, Tryz.results81, go_sem, u0, u1, u2]) rfl ?_
  rw [← HV1.out, HP.out, ← HU1.out]
  exact HG.out
end Go.Proofs.YtdmoibphidipeaaGreatDoor
/- Fractions, the document's own: what Sign and Floor answer. -/

namespace Go.Proofs.YtdmoibphidipeaaGreatDoor
open Go.RowKit Num

/-- an argument's box alone -/
theorem frac_box (w : World) (v0 v1 v2 : Value) : ∃ W, w.alloc (.cells #[v0, v1, v2] 39) = W ∧ Blk W w.heap.size 39 [v0, v1, v2] ∧ Below w.heap.size w W ∧ W.heap.size = w.heap.size + 1 :=
  ⟨_, rfl, Blk.new w 39 [v0, v1, v2], below_one w _, by simp⟩
theorem keep_one {U V : World} (K : Below U.heap.size U V) (o : Obj) : Below U.heap.size U (V.alloc o) := Below.alloc K K.size o
theorem keep_two {U V : World} (K : Below U.heap.size U V) (o p : Obj) : Below U.heap.size U ((V.alloc o).alloc p) := keep_one (keep_one K o) p
/-- the upper part of a fraction that lies in no memory -/
theorem run_field_num (v0 v1 v2 : Value) (w : World) : (Instr.field 39 (.agg #[v0, v1, v2]) 0).run Tryz.prog w = .ok (.agg #[v0, v1]) w := by
  simp [go_sem, Instr.field, asAgg]

set_option maxRecDepth 10000 in
set_option maxHeartbeats 800000 in
/-- the sign -/
theorem ref4_Sign (n : Bool) (a d : List Nat) (A D : Option Addr) (ca cd : Nat) (w : World) (h : Rd w (fun g => g < w.heap.size) .u32 A a) (h' : Rd w (fun g => g < w.heap.size) .u32 D d) (hl : a.length ≤ 4194304) (hl' : d.length ≤ 4194304) (ha : Dg 4294967296 a) (hd : Dg 4294967296 d) :
    Calls Tryz.prog 127 #[.agg #[.bool n, .slice A a.length ca, .slice D d.length cd]] w fun e w' => e = .returned (.int .i64 (sgn (upN n a d))) ∧ Below w.heap.size w w' := by
  obtain ⟨W, hW, k1, b0, s0⟩ := frac_box w (.bool n) (.slice A a.length ca) (.slice D d.length cd)
  obtain ⟨p0, p1, p2, -, -, -⟩ := k1.facts
  have cW := ref4_worth n a d A D ca cd 4194304 W (h.on b0) (h'.on b0) (by omega) (by omega) hl hl' ha hd
  go_enter Tryz.func127, Tryz.ntmps127
  go_wp2_with fail
  try rw [hW]
  clear hW p0 p1 p2 k1
  refine cW.mono ?_
  rintro e w1 ⟨n1, a1, A1, c1, d1, D1, e1, rfl, ha1, hd1, hl1, hm1, hv1, hu1, r1, q1, b1⟩
  have hfn := run_field_num (.bool n1) (.slice A1 a1.length c1) (.slice D1 d1.length e1) w1
  have cS := ref2_Sign n1 a1 A1 c1 w1 r1 (by omega) ha1
  rw [hv1] at cS
  clear cW hv1
  go_wp2_with fail
  refine cS.mono ?_
  rintro e w2 ⟨rfl, b2⟩
  go_wp2_with fail
  go_ret
  exact ⟨rfl, (b0.trans (b1.mono b0.size)).trans (b2.mono (b0.trans (b1.mono b0.size)).size)⟩
end Go.Proofs.YtdmoibphidipeaaGreatDoor
/- Fractions, the document's own: what Mul and Add answer. -/

namespace Go.Proofs.YtdmoibphidipeaaGreatDoor
open Go.RowKit Num

/-- two arguments' boxes and the result's one -/
theorem frac_boxes2 (w : World) (v0 v1 v2 u0 u1 u2 : Value) : ∃ W, ((w.alloc (.cells #[v0, v1, v2] 39)).alloc (.cells #[u0, u1, u2] 39)).alloc (.cells #[.bool false, .slice none 0 0, .slice none 0 0] 39) = W ∧ Blk W w.heap.size 39 [v0, v1, v2] ∧ Blk W (w.heap.size + 1) 39 [u0, u1, u2] ∧ Blk W (w.heap.size + 1 + 1) 39 [.bool false, .slice none 0 0, .slice none 0 0] ∧ Below w.heap.size w W ∧ W.heap.size = w.heap.size + 3 :=
  ⟨_, rfl, ((Blk.new w 39 [v0, v1, v2]).alloc _).alloc _, (Blk.at_new (w.alloc (.cells #[v0, v1, v2] 39)) 39 [u0, u1, u2] (by simp)).alloc _, Blk.at_new ((w.alloc (.cells #[v0, v1, v2] 39)).alloc (.cells #[u0, u1, u2] 39)) 39 [.bool false, .slice none 0 0, .slice none 0 0] (by simp),
    (((below_one w _).alloc (by simp) _).alloc (by simp; omega) _), by simp⟩

theorem far_cells {v : World} {g g' : Nat} {t : TypeId} {a0 a1 a2 : Value} (k : Blk v g t [a0, a1, a2]) (hne : g ≠ g') (u0 u1 u2 : Value) :
    (((v.setCell ⟨g', 0, none⟩ u0).setCell ⟨g', 1, none⟩ u1).setCell ⟨g', 2, none⟩ u2).cell? ⟨g, 0, none⟩ = some a0 ∧ (((v.setCell ⟨g', 0, none⟩ u0).setCell ⟨g', 1, none⟩ u1).setCell ⟨g', 2, none⟩ u2).cell? ⟨g, 1, none⟩ = some a1 ∧ (((v.setCell ⟨g', 0, none⟩ u0).setCell ⟨g', 1, none⟩ u1).setCell ⟨g', 2, none⟩ u2).cell? ⟨g, 2, none⟩ = some a2 := by
  have k' := ((k.far (p := ⟨g', 0, none⟩) hne u0).far (p := ⟨g', 1, none⟩) hne u1).far (p := ⟨g', 2, none⟩) hne u2
  exact ⟨k'.cell 0 rfl, k'.cell 1 rfl, k'.cell 2 rfl⟩
/-- two fractions in their boxes, whose lower parts aren't 0 -/
def Worthed (w wc : World) (m : Nat) (P1 : Int) (Q1 : Nat) (P2 : Int) (Q2 : Nat) : Prop :=
  ∃ n1 a1 A1 c1 d1 D1 e1 n2 a2 A2 c2 d2 D2 e2, Blk wc w.heap.size 39 [.bool n1, .slice A1 a1.length c1, .slice D1 d1.length e1] ∧ Blk wc (w.heap.size + 1) 39 [.bool n2, .slice A2 a2.length c2, .slice D2 d2.length e2] ∧
    Dg 4294967296 a1 ∧ Dg 4294967296 d1 ∧ Dg 4294967296 a2 ∧ Dg 4294967296 d2 ∧ a1.length ≤ m ∧ d1.length ≤ m ∧ a2.length ≤ m ∧ d2.length ≤ m ∧ wv n1 a1 = P1 ∧ val 4294967296 d1 = Q1 ∧ wv n2 a2 = P2 ∧ val 4294967296 d2 = Q2 ∧
    Rd wc (fun g => g < wc.heap.size) .u32 A1 a1 ∧ Rd wc (fun g => g < wc.heap.size) .u32 D1 d1 ∧ Rd wc (fun g => g < wc.heap.size) .u32 A2 a2 ∧ Rd wc (fun g => g < wc.heap.size) .u32 D2 d2 ∧ Below w.heap.size w wc
theorem worthed {w v : World} {m : Nat} {P1 P2 : Int} {Q1 Q2 : Nat} {n n' : Bool} {B B' C C' : Option Addr} {i i' j j' k k' l l' : Nat} (k1 : Blk v w.heap.size 39 [.bool n, .slice B i j, .slice B' i' j']) (k2 : Blk v (w.heap.size + 1) 39 [.bool n', .slice C k l, .slice C' k' l']) (bb : Below w.heap.size w v)
    {n1 : Bool} {a1 : List Nat} {A1 : Option Addr} {c1 : Nat} {d1 : List Nat} {D1 : Option Addr} {e1 : Nat} {n2 : Bool} {a2 : List Nat} {A2 : Option Addr} {c2 : Nat} {d2 : List Nat} {D2 : Option Addr} {e2 : Nat}
    (g1 : Dg 4294967296 a1) (g2 : Dg 4294967296 d1) (g3 : Dg 4294967296 a2) (g4 : Dg 4294967296 d2) (l1 : a1.length ≤ m) (l2 : d1.length ≤ m) (l3 : a2.length ≤ m) (l4 : d2.length ≤ m) (v1 : wv n1 a1 = P1) (v2 : val 4294967296 d1 = Q1) (v3 : wv n2 a2 = P2) (v4 : val 4294967296 d2 = Q2)
    (r1 : Rd v (fun g => g < v.heap.size) .u32 A1 a1) (r2 : Rd v (fun g => g < v.heap.size) .u32 D1 d1) (r3 : Rd v (fun g => g < v.heap.size) .u32 A2 a2) (r4 : Rd v (fun g => g < v.heap.size) .u32 D2 d2) :
    Worthed w ((((((v.setCell ⟨w.heap.size, 0, none⟩ (.bool n1)).setCell ⟨w.heap.size, 1, none⟩ (.slice A1 a1.length c1)).setCell ⟨w.heap.size, 2, none⟩ (.slice D1 d1.length e1)).setCell ⟨w.heap.size + 1, 0, none⟩ (.bool n2)).setCell ⟨w.heap.size + 1, 1, none⟩ (.slice A2 a2.length c2)).setCell ⟨w.heap.size + 1, 2, none⟩ (.slice D2 d2.length e2)) m P1 Q1 P2 Q2 ∧
      (∀ g t vs, g ≠ w.heap.size → g ≠ w.heap.size + 1 → Blk v g t vs → Blk ((((((v.setCell ⟨w.heap.size, 0, none⟩ (.bool n1)).setCell ⟨w.heap.size, 1, none⟩ (.slice A1 a1.length c1)).setCell ⟨w.heap.size, 2, none⟩ (.slice D1 d1.length e1)).setCell ⟨w.heap.size + 1, 0, none⟩ (.bool n2)).setCell ⟨w.heap.size + 1, 1, none⟩ (.slice A2 a2.length c2)).setCell ⟨w.heap.size + 1, 2, none⟩ (.slice D2 d2.length e2)) g t vs) := by
  obtain ⟨U, hU, -, -, -, kU, bU, oU, sU⟩ := k1.three (.bool n1) (.slice A1 a1.length c1) (.slice D1 d1.length e1)
  have k2' := oU _ _ _ (by omega) k2
  have x1 := r1.far3 k1 _ _ _ hU
  have x2 := r2.far3 k1 _ _ _ hU
  have x3 := r3.far3 k1 _ _ _ hU
  have x4 := r4.far3 k1 _ _ _ hU
  rw [hU]
  obtain ⟨Z, hZ, -, -, -, kZ, bZ, oZ, sZ⟩ := k2'.three (.bool n2) (.slice A2 a2.length c2) (.slice D2 d2.length e2)
  rw [hZ]
  exact ⟨⟨n1, a1, A1, c1, d1, D1, e1, n2, a2, A2, c2, d2, D2, e2, oZ _ _ _ (by omega) kU, kZ, g1, g2, g3, g4, l1, l2, l3, l4, v1, v2, v3, v4, x1.far3 k2' _ _ _ hZ, x2.far3 k2' _ _ _ hZ, x3.far3 k2' _ _ _ hZ, x4.far3 k2' _ _ _ hZ, (bb.trans (bU _ (Nat.le_refl _))).trans (bZ _ (by omega))⟩,
    fun g t vs h1 h2 k => oZ _ _ _ h2 (oU _ _ _ h1 k)⟩

set_option maxRecDepth 10000 in
set_option maxHeartbeats 1600000 in
/-- a product -/
theorem ref4_Mul (n n' : Bool) (a d a' d' : List Nat) (A D A' D' : Option Addr) (ca cd ca' cd' : Nat) (w : World) (h1 : Rd w (fun g => g < w.heap.size) .u32 A a) (h2 : Rd w (fun g => g < w.heap.size) .u32 D d) (h3 : Rd w (fun g => g < w.heap.size) .u32 A' a') (h4 : Rd w (fun g => g < w.heap.size) .u32 D' d') (hl1 : a.length ≤ 2097152) (hl2 : d.length ≤ 2097152) (hl3 : a'.length ≤ 2097152) (hl4 : d'.length ≤ 2097152) (ha : Dg 4294967296 a) (hd : Dg 4294967296 d) (ha' : Dg 4294967296 a') (hd' : Dg 4294967296 d') :
    Calls Tryz.prog 75 #[.agg #[.bool n, .slice A a.length ca, .slice D d.length cd], .agg #[.bool n', .slice A' a'.length ca', .slice D' d'.length cd']] w (GivesF (upN n a d * upN n' a' d') (loD d * loD d') w) := by
  obtain ⟨W, hW, k1, k2, k3, b0, s0⟩ := frac_boxes2 w (.bool n) (.slice A a.length ca) (.slice D d.length cd) (.bool n') (.slice A' a'.length ca') (.slice D' d'.length cd')
  obtain ⟨p0, p1, p2, p3, p4, p5⟩ := k1.facts
  obtain ⟨z0, z1, z2, z3, z4, z5⟩ := k2.facts
  have c1 := fun (V : World) (hV : Below W.heap.size W V) => ref4_worth n a d A D ca cd 2097152 V ((h1.on b0).on hV) ((h2.on b0).on hV) (by omega) (by omega) hl1 hl2 ha hd
  have c2 := fun (V : World) (hV : Below W.heap.size W V) => ref4_worth n' a' d' A' D' ca' cd' 2097152 V ((h3.on b0).on hV) ((h4.on b0).on hV) (by omega) (by omega) hl3 hl4 ha' hd'
  have K0 : Below W.heap.size W W.drew := below_drewN (Below.refl _ _) 1
  have C1 := Lib.hid c1
  have C2 := Lib.hid c2
  have HK1 := Lib.hid k1
  have HK2 := Lib.hid k2
  have HK3 := Lib.hid k3
  have hlt : w.heap.size + 2 < W.heap.size := by omega
  have HH := Lib.hid (And.intro h1 (And.intro h2 (And.intro h3 h4)))
  clear c1 c2 k1 k2 k3 h1 h2 h3 h4
  go_enter Tryz.func75, Tryz.ntmps75
  go_wp2_with fail
  try rw [hW]
  clear hW
  go_cut [] from 5 (fun wc => Worthed w wc 2097152 (upN n a d) (loD d) (upN n' a' d') (loD d') ∧ (∀ g t vs, g ≠ w.heap.size → g ≠ w.heap.size + 1 → Blk W g t vs → Blk wc g t vs))
  case first =>
    go_region_with (first
      | (go_at_call_of 76 (Value.slice A a.length ca); (with_reducible refine Calls.mono (C1.out _ K0) ?_); rintro e w1 ⟨n1, a1, A1, c1, d1, D1, e1, rfl, x1, x2, x3, x4, x5, x6, r1, q1, b1⟩; have KA := below_next K0 (Nat.le_refl _) b1; obtain ⟨m0, m1, m2, m3, m4, m5⟩ := (HK1.out.below KA HK1.out.lt).facts; obtain ⟨o0, o1, o2, o3, o4, o5⟩ := (HK2.out.below KA HK2.out.lt).facts)
      | (go_at_call_of 76 (Value.slice A' a'.length ca'); (with_reducible refine Calls.mono (C2.out _ KA) ?_); rintro e w2 ⟨n2, a2, A2, c2, d2, D2, e2, rfl, y1, y2, y3, y4, y5, y6, r2, q2, b2⟩; have KB := below_next KA (Nat.le_refl _) b2; obtain ⟨m6, m7, m8, m9, ma, mb⟩ := (HK1.out.below KB HK1.out.lt).facts; obtain ⟨o6, o7, o8, o9, oa, ob⟩ := (HK2.out.below KB HK2.out.lt).facts))
    all_goals
      have hw := worthed (c1 := c1) (e1 := e1) (c2 := c2) (e2 := e2) (HK1.out.below KB HK1.out.lt) (HK2.out.below KB HK2.out.lt) (b0.trans (KB.mono b0.size)) x1 x2 y1 y2 x3 x4 y3 y4 x5 x6 y5 y6 (r1.on b2) (q1.on b2) r2 q2
      have HW := Lib.hid hw
      have HKB := Lib.hid KB
      clear hw KB KA b1 b2 r1 q1 r2 q2 x1 x2 x3 x4 x5 x6 y1 y2 y3 y4 y5 y6 m0 m1 m2 m3 m4 m5 m6 m7 m8 m9 ma mb o0 o1 o2 o3 o4 o5 o6 o7 o8 o9 oa ob
      go_wp2_with fail
      go_meet
      exact ⟨HW.out.1, fun g t vs g1 g2 k => HW.out.2 g t vs g1 g2 (k.below HKB.out k.lt)⟩
  case rest =>
    obtain ⟨⟨n1, a1, A1, c1, d1, D1, e1, n2, a2, A2, c2, d2, D2, e2, kU, kV, x1, x2, y1, y2, x3, x4, y3, y4, x5, x6, y5, y6, r1, q1, r2, q2, bU⟩, hO⟩ := hcut
    have kR := hO _ _ _ (by omega) (by omega) HK3.out
    have hdp : 0 < val 4294967296 d1 := by rw [x6]; exact loD_pos d
    have hdq : 0 < val 4294967296 d2 := by rw [y6]; exact loD_pos d'
    have hlt2 : w.heap.size + 2 < wc.heap.size := kR.lt
    have K0' : Below wc.heap.size wc wc.drew := below_drewN (Below.refl _ _) 1
    obtain ⟨P, hP⟩ : ∃ P, wv n1 a1 * wv n2 a2 = P := ⟨_, rfl⟩
    obtain ⟨Q, hQ⟩ : ∃ Q, val 4294967296 d1 * val 4294967296 d2 = Q := ⟨_, rfl⟩
    have hQ0 : 0 < Q := by rw [← hQ]; exact Nat.mul_pos hdp hdq
    have cM := fun (V : World) (hV : Below wc.heap.size wc V) => ref2_Mul n1 n2 a1 a2 A1 A2 c1 c2 V (r1.on hV) (r2.on hV) (by omega) (by omega) x1 y1
    have cD := fun (V : World) (hV : Below wc.heap.size wc V) => ref_Mul d1 d2 D1 D2 e1 e2 _ _ V (q1.on hV) (q2.on hV) (fun g hg => hg) (fun g hg => hg) (by omega) (by omega) x2 y2
    simp only [hP] at cM
    simp only [hQ] at cD
    have cR : ∀ (V : World) (x y : List Nat) (X Y : Option Addr) (cx cy : Nat), Rd V (fun g => g < V.heap.size) .u32 X x → Rd V (fun g => g < V.heap.size) .u32 Y y → Norm 4294967296 x → Norm 4294967296 y → val 4294967296 x = P.natAbs → val 4294967296 y = Q → Calls Tryz.prog 102 #[.agg #[.bool (decide (P < 0)), .slice X x.length cx, .slice Y y.length cy]] V (GivesF P Q V) := fun V x y X Y cx cy hx hy hn hm hv hu => by
      have lx := len_mul (b := 4294967296) (by omega) hn.2 x1 y1 (by rw [hv, ← hP, Int.natAbs_mul, wv_abs, wv_abs])
      have ly := len_mul (b := 4294967296) (by omega) hm.2 x2 y2 (by rw [hu, ← hQ])
      have := ref4_Reduce (decide (P < 0)) x y X Y cx cy V hx hy (by omega) (by omega) hn.1 hm.1
      rwa [upN_of (by rw [hu]; exact hQ0), loD_of (by rw [hu]; exact hQ0), wv_dec hv, hu] at this
    rw [x5, y5] at hP
    rw [x6, y6] at hQ
    have HPQ := Lib.hid (And.intro hP hQ)
    have CM := Lib.hid cM
    have CD := Lib.hid cD
    have CR := Lib.hid cR
    have HKU := Lib.hid kU
    have HKV := Lib.hid kV
    have HKR := Lib.hid kR
    have HBU := Lib.hid bU
    clear cM cD cR kU kV kR bU hO hP hQ hQ0 hdp hdq r1 q1 r2 q2 C1 C2 HK1 HK2 HK3 HH K0 p0 p1 p2 p3 p4 p5 z0 z1 z2 z3 z4 z5 b0 s0 hlt x5 x6 y5 y6
    go_wp2_with fail
    go_region_held3 (fun w' => (w'.cell? ⟨w.heap.size, 0, none⟩ = some (.bool n1) ∧ w'.cell? ⟨w.heap.size, 1, none⟩ = some (.slice A1 a1.length c1) ∧ w'.cell? ⟨w.heap.size, 2, none⟩ = some (.slice D1 d1.length e1)) ∧ (w'.cell? ⟨w.heap.size + 1, 0, none⟩ = some (.bool n2) ∧ w'.cell? ⟨w.heap.size + 1, 1, none⟩ = some (.slice A2 a2.length c2) ∧ w'.cell? ⟨w.heap.size + 1, 2, none⟩ = some (.slice D2 d2.length e2)))
      (first | (with_reducible exact ⟨keep3 HKU.out K0', keep3 HKV.out K0'⟩) | (with_reducible exact ⟨keep3 HKU.out KA, keep3 HKV.out KA⟩) | (with_reducible exact ⟨keep3 HKU.out KB, keep3 HKV.out KB⟩) | (with_reducible exact ⟨keep3 HKU.out KC, keep3 HKV.out KC⟩) | (with_reducible exact ⟨far_cells (HKU.out.below KC HKU.out.lt) (by omega) _ _ _, far_cells (HKV.out.below KC HKV.out.lt) (by omega) _ _ _⟩) | go_keep)
      ((first
        | (go_at_call 78; (with_reducible refine Calls.mono (CM.out _ K0') ?_); rintro e w2 ⟨X, x, cx, rfl, hcx, hnx, hvx, rx, b2⟩; have KA := below_next K0' (Nat.le_refl _) b2)
        | (go_at_call 121; (with_reducible refine Calls.mono (CD.out _ KA) ?_); rintro e w3 ⟨Y, y, cy, rfl, hcy, hny, hvy, ry, b3⟩; have KB := below_next KA (Nat.le_refl _) b3)
        | (go_at_call 102; (with_reducible refine Calls.mono (CR.out _ x y X Y cx cy (rx.on b3) ry hnx hny hvx hvy) ?_); rintro e w4 ⟨A3, a3, c3, D3, d3, e3, rfl, hc3, hd3, hn3, hm3, hv3, hu3, r3, q3, b4⟩; have KC := below_next KB (Nat.le_refl _) b4; obtain ⟨i0, i1, i2, j0, j1, j2⟩ := (HKR.out.below KC HKR.out.lt).facts)))
    obtain ⟨Z, hZ, u0, u1, u2, hG⟩ := fin_frac (w := w) (HKR.out.below KC HKR.out.lt) (by omega) (HBU.out.trans (KC.mono HBU.out.size)) hc3 hd3 hn3 hm3 hv3 hu3 r3 q3
    have HZ := Lib.hid hZ
    have HF := Lib.hid (And.intro u0 (And.intro u1 u2))
    have HG := Lib.hid hG
    clear hZ u0 u1 u2 hG hv3 hu3 i0 i1 i2 j0 j1 j2 CM CD CR
    go_wp2_with fail
    rw [HZ.out]
    obtain ⟨u0, u1, u2⟩ := HF.out
    refine bodyPost_ret (v := .agg #[.bool (decide (P < 0)), .slice A3 a3.length c3, .slice D3 d3.length e3]) (by simp [results, Tryz.results75, go_sem, u0, u1, u2]) rfl ?_
    rw [HPQ.out.1, HPQ.out.2]
    exact HG.out
end Go.Proofs.YtdmoibphidipeaaGreatDoor
/- Fractions, the document's own: what Add answers. -/

namespace Go.Proofs.YtdmoibphidipeaaGreatDoor
open Go.RowKit Num

set_option maxRecDepth 10000 in
set_option maxHeartbeats 1600000 in
/-- a sum -/
theorem ref4_Add (n n' : Bool) (a d a' d' : List Nat) (A D A' D' : Option Addr) (ca cd ca' cd' : Nat) (w : World) (h1 : Rd w (fun g => g < w.heap.size) .u32 A a) (h2 : Rd w (fun g => g < w.heap.size) .u32 D d) (h3 : Rd w (fun g => g < w.heap.size) .u32 A' a') (h4 : Rd w (fun g => g < w.heap.size) .u32 D' d') (hl1 : a.length ≤ 2097150) (hl2 : d.length ≤ 2097150) (hl3 : a'.length ≤ 2097150) (hl4 : d'.length ≤ 2097150) (ha : Dg 4294967296 a) (hd : Dg 4294967296 d) (ha' : Dg 4294967296 a') (hd' : Dg 4294967296 d') :
    Calls Tryz.prog 74 #[.agg #[.bool n, .slice A a.length ca, .slice D d.length cd], .agg #[.bool n', .slice A' a'.length ca', .slice D' d'.length cd']] w (GivesF (upN n a d * (loD d' : Int) + upN n' a' d' * (loD d : Int)) (loD d * loD d') w) := by
  obtain ⟨W, hW, k1, k2, k3, b0, s0⟩ := frac_boxes2 w (.bool n) (.slice A a.length ca) (.slice D d.length cd) (.bool n') (.slice A' a'.length ca') (.slice D' d'.length cd')
  obtain ⟨p0, p1, p2, p3, p4, p5⟩ := k1.facts
  obtain ⟨z0, z1, z2, z3, z4, z5⟩ := k2.facts
  have c1 := fun (V : World) (hV : Below W.heap.size W V) => ref4_worth n a d A D ca cd 2097150 V ((h1.on b0).on hV) ((h2.on b0).on hV) (by omega) (by omega) hl1 hl2 ha hd
  have c2 := fun (V : World) (hV : Below W.heap.size W V) => ref4_worth n' a' d' A' D' ca' cd' 2097150 V ((h3.on b0).on hV) ((h4.on b0).on hV) (by omega) (by omega) hl3 hl4 ha' hd'
  have K0 : Below W.heap.size W W.drew := below_drewN (Below.refl _ _) 1
  have C1 := Lib.hid c1
  have C2 := Lib.hid c2
  have HK1 := Lib.hid k1
  have HK2 := Lib.hid k2
  have HK3 := Lib.hid k3
  have hlt : w.heap.size + 2 < W.heap.size := by omega
  have HH := Lib.hid (And.intro h1 (And.intro h2 (And.intro h3 h4)))
  clear c1 c2 k1 k2 k3 h1 h2 h3 h4
  go_enter Tryz.func74, Tryz.ntmps74
  go_wp2_with fail
  try rw [hW]
  clear hW
  go_cut [] from 5 (fun wc => Worthed w wc 2097150 (upN n a d) (loD d) (upN n' a' d') (loD d') ∧ (∀ g t vs, g ≠ w.heap.size → g ≠ w.heap.size + 1 → Blk W g t vs → Blk wc g t vs))
  case first =>
    go_region_with (first
      | (go_at_call_of 76 (Value.slice A a.length ca); (with_reducible refine Calls.mono (C1.out _ K0) ?_); rintro e w1 ⟨n1, a1, A1, c1, d1, D1, e1, rfl, x1, x2, x3, x4, x5, x6, r1, q1, b1⟩; have KA := below_next K0 (Nat.le_refl _) b1; obtain ⟨m0, m1, m2, m3, m4, m5⟩ := (HK1.out.below KA HK1.out.lt).facts; obtain ⟨o0, o1, o2, o3, o4, o5⟩ := (HK2.out.below KA HK2.out.lt).facts)
      | (go_at_call_of 76 (Value.slice A' a'.length ca'); (with_reducible refine Calls.mono (C2.out _ KA) ?_); rintro e w2 ⟨n2, a2, A2, c2, d2, D2, e2, rfl, y1, y2, y3, y4, y5, y6, r2, q2, b2⟩; have KB := below_next KA (Nat.le_refl _) b2; obtain ⟨m6, m7, m8, m9, ma, mb⟩ := (HK1.out.below KB HK1.out.lt).facts; obtain ⟨o6, o7, o8, o9, oa, ob⟩ := (HK2.out.below KB HK2.out.lt).facts))
    all_goals
      have hw := worthed (c1 := c1) (e1 := e1) (c2 := c2) (e2 := e2) (HK1.out.below KB HK1.out.lt) (HK2.out.below KB HK2.out.lt) (b0.trans (KB.mono b0.size)) x1 x2 y1 y2 x3 x4 y3 y4 x5 x6 y5 y6 (r1.on b2) (q1.on b2) r2 q2
      have HW := Lib.hid hw
      have HKB := Lib.hid KB
      clear hw KB KA b1 b2 r1 q1 r2 q2 x1 x2 x3 x4 x5 x6 y1 y2 y3 y4 y5 y6 m0 m1 m2 m3 m4 m5 m6 m7 m8 m9 ma mb o0 o1 o2 o3 o4 o5 o6 o7 o8 o9 oa ob
      go_wp2_with fail
      go_meet
      exact ⟨HW.out.1, fun g t vs g1 g2 k => HW.out.2 g t vs g1 g2 (k.below HKB.out k.lt)⟩
  case rest =>
    obtain ⟨⟨n1, a1, A1, c1, d1, D1, e1, n2, a2, A2, c2, d2, D2, e2, kU, kV, x1, x2, y1, y2, x3, x4, y3, y4, x5, x6, y5, y6, r1, q1, r2, q2, bU⟩, hO⟩ := hcut
    have kR := hO _ _ _ (by omega) (by omega) HK3.out
    have hdp : 0 < val 4294967296 d1 := by rw [x6]; exact loD_pos d
    have hdq : 0 < val 4294967296 d2 := by rw [y6]; exact loD_pos d'
    have hlt2 : w.heap.size + 2 < wc.heap.size := kR.lt
    have K0' : Below wc.heap.size wc wc.drew := below_drewN (Below.refl _ _) 1
    obtain ⟨P1, hP1⟩ : ∃ P, wv n1 a1 * wv false d2 = P := ⟨_, rfl⟩
    obtain ⟨P2, hP2⟩ : ∃ P, wv n2 a2 * wv false d1 = P := ⟨_, rfl⟩
    obtain ⟨P, hP⟩ : ∃ P, P1 + P2 = P := ⟨_, rfl⟩
    obtain ⟨Q, hQ⟩ : ∃ Q, val 4294967296 d1 * val 4294967296 d2 = Q := ⟨_, rfl⟩
    have hQ0 : 0 < Q := by rw [← hQ]; exact Nat.mul_pos hdp hdq
    have cU1 := fun (V : World) => ref4_up n1 a1 d1 A1 D1 c1 e1 V
    have cU2 := fun (V : World) => ref4_up n2 a2 d2 A2 D2 c2 e2 V
    have cM1 := fun (V : World) (hV : Below wc.heap.size wc V) => ref2_Mul n1 false a1 d2 A1 D2 c1 e2 V (r1.on hV) (q2.on hV) (by omega) (by omega) x1 y2
    have cM2 := fun (V : World) (hV : Below wc.heap.size wc V) => ref2_Mul n2 false a2 d1 A2 D1 c2 e1 V (r2.on hV) (q1.on hV) (by omega) (by omega) y1 x2
    have cD := fun (V : World) (hV : Below wc.heap.size wc V) => ref_Mul d1 d2 D1 D2 e1 e2 _ _ V (q1.on hV) (q2.on hV) (fun g hg => hg) (fun g hg => hg) (by omega) (by omega) x2 y2
    simp only [hP1] at cM1
    simp only [hP2] at cM2
    simp only [hQ] at cD
    have hl1 : ∀ x : List Nat, Norm 4294967296 x → val 4294967296 x = P1.natAbs → x.length ≤ 4194300 := fun x hn hv => Nat.le_trans (len_mul (b := 4294967296) (by omega) hn.2 x1 y2 (by rw [hv, ← hP1, Int.natAbs_mul, wv_abs, wv_abs])) (by omega)
    have hl2 : ∀ x : List Nat, Norm 4294967296 x → val 4294967296 x = P2.natAbs → x.length ≤ 4194300 := fun x hn hv => Nat.le_trans (len_mul (b := 4294967296) (by omega) hn.2 y1 x2 (by rw [hv, ← hP2, Int.natAbs_mul, wv_abs, wv_abs])) (by omega)
    have cA : ∀ (V : World) (x y : List Nat) (X Y : Option Addr) (cx cy : Nat), Rd V (fun g => g < V.heap.size) .u32 X x → Rd V (fun g => g < V.heap.size) .u32 Y y → Norm 4294967296 x → Norm 4294967296 y → val 4294967296 x = P1.natAbs → val 4294967296 y = P2.natAbs → Calls Tryz.prog 120 #[.agg #[.bool (decide (P1 < 0)), .slice X x.length cx], .agg #[.bool (decide (P2 < 0)), .slice Y y.length cy]] V (fun e w' => GivesW P V e w' ∧ ∀ A xs c, e = .returned (.agg #[.bool (decide (P < 0)), .slice A xs.length c]) → Norm 4294967296 xs → val 4294967296 xs = P.natAbs → xs.length ≤ 4194304) := fun V x y X Y cx cy hx hy hn hm hv hu => by
      have lx := hl1 x hn hv
      have ly := hl2 y hm hu
      have := ref2_Add (decide (P1 < 0)) (decide (P2 < 0)) x y X Y cx cy V hx hy (by omega) (by omega) hn.1 hm.1
      rw [wv_dec hv, wv_dec hu, hP] at this
      refine this.mono fun e w' h => ⟨h, fun A xs c _ hnx hvx => ?_⟩
      have := len_sum (n := 4194300) hnx hn.1 hm.1 hvx (by rw [hv, hu, ← hP]; exact Int.natAbs_add_le _ _) lx ly
      omega
    have cR : ∀ (V : World) (x y : List Nat) (X Y : Option Addr) (cx cy : Nat), Rd V (fun g => g < V.heap.size) .u32 X x → Rd V (fun g => g < V.heap.size) .u32 Y y → Norm 4294967296 x → Norm 4294967296 y → val 4294967296 x = P.natAbs → val 4294967296 y = Q → x.length ≤ 4194304 → Calls Tryz.prog 102 #[.agg #[.bool (decide (P < 0)), .slice X x.length cx, .slice Y y.length cy]] V (GivesF P Q V) := fun V x y X Y cx cy hx hy hn hm hv hu lx => by
      have ly := len_mul (b := 4294967296) (by omega) hm.2 x2 y2 (by rw [hu, ← hQ])
      have := ref4_Reduce (decide (P < 0)) x y X Y cx cy V hx hy lx (by omega) hn.1 hm.1
      rwa [upN_of (by rw [hu]; exact hQ0), loD_of (by rw [hu]; exact hQ0), wv_dec hv, hu] at this
    have hPP : P = upN n a d * (loD d' : Int) + upN n' a' d' * (loD d : Int) := by rw [← hP, ← hP1, ← hP2, wv_false, wv_false, x5, y5, x6, y6]
    have hQQ : Q = loD d * loD d' := by rw [← hQ, x6, y6]
    have HPQ := Lib.hid (And.intro hPP hQQ)
    have CU1 := Lib.hid cU1
    have CU2 := Lib.hid cU2
    have CM1 := Lib.hid cM1
    have CM2 := Lib.hid cM2
    have CA := Lib.hid cA
    have CD := Lib.hid cD
    have CR := Lib.hid cR
    have HKU := Lib.hid kU
    have HKV := Lib.hid kV
    have HKR := Lib.hid kR
    have HBU := Lib.hid bU
    clear cU1 cU2 cM1 cM2 cA cD cR kU kV kR bU hO hP hP1 hP2 hPP hQQ hl1 hl2 hQ hQ0 hdp hdq r1 q1 r2 q2 C1 C2 HK1 HK2 HK3 HH K0 p0 p1 p2 p3 p4 p5 z0 z1 z2 z3 z4 z5 b0 s0 hlt x5 x6 y5 y6
    go_wp2_with fail
    go_region_held3 (fun w' => (w'.cell? ⟨w.heap.size, 0, none⟩ = some (.bool n1) ∧ w'.cell? ⟨w.heap.size, 1, none⟩ = some (.slice A1 a1.length c1) ∧ w'.cell? ⟨w.heap.size, 2, none⟩ = some (.slice D1 d1.length e1)) ∧ (w'.cell? ⟨w.heap.size + 1, 0, none⟩ = some (.bool n2) ∧ w'.cell? ⟨w.heap.size + 1, 1, none⟩ = some (.slice A2 a2.length c2) ∧ w'.cell? ⟨w.heap.size + 1, 2, none⟩ = some (.slice D2 d2.length e2)))
      (first | (with_reducible exact ⟨keep3 HKU.out K0', keep3 HKV.out K0'⟩) | (with_reducible exact ⟨keep3 HKU.out KA, keep3 HKV.out KA⟩) | (with_reducible exact ⟨keep3 HKU.out KB, keep3 HKV.out KB⟩) | (with_reducible exact ⟨keep3 HKU.out KC, keep3 HKV.out KC⟩) | (with_reducible exact ⟨keep3 HKU.out KD, keep3 HKV.out KD⟩) | (with_reducible exact ⟨keep3 HKU.out KE, keep3 HKV.out KE⟩) | (with_reducible exact ⟨keep3 HKU.out KF, keep3 HKV.out KF⟩) | (with_reducible exact ⟨keep3 HKU.out KG, keep3 HKV.out KG⟩) | (with_reducible exact ⟨far_cells (HKU.out.below KG HKU.out.lt) (by omega) _ _ _, far_cells (HKV.out.below KG HKV.out.lt) (by omega) _ _ _⟩) | go_keep)
      ((first
        | (go_at_call_of 79 (Value.slice A2 a2.length c2); (with_reducible refine Calls.mono (CU2.out _) ?_); rintro e w2 ⟨rfl, b2⟩; have KA := below_next K0' (Nat.le_refl _) b2)
        | (go_at_call_of 78 (Value.slice A1 a1.length c1); (with_reducible refine Calls.mono (CM1.out _ KA) ?_); rintro e w3 ⟨X, x, cx, rfl, hcx, hnx, hvx, rx, b3⟩; have KB := below_next KA (Nat.le_refl _) b3)
        | (go_at_call_of 79 (Value.slice A1 a1.length c1); (with_reducible refine Calls.mono (CU1.out _) ?_); rintro e w4 ⟨rfl, b4⟩; have KC := below_next KB (Nat.le_refl _) b4)
        | (go_at_call_of 78 (Value.slice A2 a2.length c2); (with_reducible refine Calls.mono (CM2.out _ KC) ?_); rintro e w5 ⟨Y, y, cy, rfl, hcy, hny, hvy, ry, b5⟩; have KD := below_next KC (Nat.le_refl _) b5)
        | (go_at_call 120; (with_reducible refine Calls.mono (CA.out _ x y X Y cx cy (rx.on (b4.trans (b5.mono b4.size))) ry hnx hny hvx hvy) ?_); rintro e w6 ⟨⟨S, s, cs, rfl, hcs, hns, hvs, rs, b6⟩, hlS⟩; have lS := hlS _ _ _ rfl hns hvs; have KE := below_next KD (Nat.le_refl _) b6)
        | (go_at_call 121; (with_reducible refine Calls.mono (CD.out _ KE) ?_); rintro e w7 ⟨T, t, ct, rfl, hct, hnt, hvt, rt, b7⟩; have KF := below_next KE (Nat.le_refl _) b7)
        | (go_at_call 102; (with_reducible refine Calls.mono (CR.out _ s t S T cs ct (rs.on b7) rt hns hnt hvs hvt lS) ?_); rintro e w8 ⟨A3, a3, c3, D3, d3, e3, rfl, hc3, hd3, hn3, hm3, hv3, hu3, r3, q3, b8⟩; have KG := below_next KF (Nat.le_refl _) b8; obtain ⟨i0, i1, i2, j0, j1, j2⟩ := (HKR.out.below KG HKR.out.lt).facts)))
    obtain ⟨Z, hZ, u0, u1, u2, hG⟩ := fin_frac (w := w) (HKR.out.below KG HKR.out.lt) (by omega) (HBU.out.trans (KG.mono HBU.out.size)) hc3 hd3 hn3 hm3 hv3 hu3 r3 q3
    have HZ := Lib.hid hZ
    have HF := Lib.hid (And.intro u0 (And.intro u1 u2))
    have HG := Lib.hid hG
    clear hZ u0 u1 u2 hG hv3 hu3 i0 i1 i2 j0 j1 j2 CM1 CM2 CU1 CU2 CA CD CR
    go_wp2_with fail
    rw [HZ.out]
    obtain ⟨u0, u1, u2⟩ := HF.out
    refine bodyPost_ret (v := .agg #[.bool (decide (P < 0)), .slice A3 a3.length c3, .slice D3 d3.length e3]) (by simp [results, Tryz.results74, go_sem, u0, u1, u2]) rfl ?_
    rw [← HPQ.out.1, ← HPQ.out.2]
    exact HG.out
end Go.Proofs.YtdmoibphidipeaaGreatDoor
/- Fractions, the document's own: what Sub, Int and Half answer. -/

namespace Go.Proofs.YtdmoibphidipeaaGreatDoor
open Go.RowKit Num

theorem GivesF.scale {P : Int} {Q k : Nat} {w w' : World} {e : Ending} (hk : 0 < k) (h : GivesF P Q w e w') : GivesF (P * (k : Int)) (Q * k) w e w' := by
  obtain ⟨A, a, ca, D, d, cd, he, h1, h2, h3, h4, h5, h6, h7⟩ := h
  have hn : (P * (k : Int)).natAbs = P.natAbs * k := by rw [Int.natAbs_mul, Int.natAbs_natCast]
  have hg : Nat.gcd (P.natAbs * k) (Q * k) = Nat.gcd P.natAbs Q * k := Nat.gcd_mul_right _ _ _
  have hs : decide (P * (k : Int) < 0) = decide (P < 0) := by
    rcases Int.lt_or_le P 0 with hp | hp
    · rw [decide_eq_true hp, decide_eq_true (Int.mul_neg_of_neg_of_pos hp (by omega))]
    · have := Int.mul_nonneg hp (show (0 : Int) ≤ (k : Int) by omega)
      rw [decide_eq_false (by omega), decide_eq_false (by omega)]
  refine ⟨A, a, ca, D, d, cd, by rw [hs]; exact he, h1, h2, h3, h4, ?_, ?_, h7⟩
  · rw [hn, hg, Nat.mul_div_mul_right _ _ hk]; exact h5
  · rw [hn, hg, Nat.mul_div_mul_right _ _ hk]; exact h6
/-- what a reduced fraction's parts are worth -/
theorem reduced_parts {P : Int} {Q : Nat} (hQ : 0 < Q) {a d : List Nat} (hv : val 4294967296 a = P.natAbs / Nat.gcd P.natAbs Q) (hu : val 4294967296 d = Q / Nat.gcd P.natAbs Q) :
    0 < Nat.gcd P.natAbs Q ∧ upN (decide (P < 0)) a d * (Nat.gcd P.natAbs Q : Int) = P ∧ loD d * Nat.gcd P.natAbs Q = Q := by
  have hg : 0 < Nat.gcd P.natAbs Q := Nat.gcd_pos_of_pos_right _ hQ
  have e1 : P.natAbs / Nat.gcd P.natAbs Q * Nat.gcd P.natAbs Q = P.natAbs := Nat.div_mul_cancel (Nat.gcd_dvd_left _ _)
  have e2 : Q / Nat.gcd P.natAbs Q * Nat.gcd P.natAbs Q = Q := Nat.div_mul_cancel (Nat.gcd_dvd_right _ _)
  have hd : 0 < val 4294967296 d := by
    rw [hu]
    rcases Nat.eq_zero_or_pos (Q / Nat.gcd P.natAbs Q) with h | h
    · rw [h] at e2; omega
    · exact h
  rw [← hv] at e1
  rw [← hu] at e2
  refine ⟨hg, ?_, by rw [loD_of hd]; exact e2⟩
  rw [upN_of hd]
  generalize Nat.gcd P.natAbs Q = g at *
  have e3 : (val 4294967296 a : Int) * (g : Int) = (P.natAbs : Int) := by rw [← Int.natCast_mul, e1]
  rcases Int.lt_or_le P 0 with hp | hp
  · rw [decide_eq_true hp, wv_true, Int.neg_mul, e3]; omega
  · rw [decide_eq_false (by omega), wv_false, e3]; omega

theorem up_abs (n : Bool) (a d : List Nat) : (upN n a d).natAbs ≤ val 4294967296 a := by
  unfold upN
  split
  · simp
  · rw [wv_abs]; exact Nat.le_refl _
/-- how long a reduced fraction's parts are -/
theorem reduced_len {n : Bool} {a d x y : List Nat} {m : Nat} (hx : Norm 4294967296 x) (hy : Norm 4294967296 y) (ha : Dg 4294967296 a) (hd : Dg 4294967296 d) (hl : a.length ≤ m) (hl' : d.length ≤ m) (hm : 1 ≤ m) {P : Int} {g : Nat} (hP : P.natAbs = (upN n a d).natAbs) (hv : val 4294967296 x = P.natAbs / g) (hu : val 4294967296 y = loD d / g) : x.length ≤ m ∧ y.length ≤ m := by
  constructor
  · exact Nat.le_trans (len_le (by omega) hx.2 ha (by rw [hv, hP]; exact Nat.le_trans (Nat.div_le_self _ _) (up_abs n a d))) hl
  · have h1 : val 4294967296 y ≤ loD d := by rw [hu]; exact Nat.div_le_self _ _
    rcases Nat.eq_zero_or_pos (val 4294967296 d) with h | h
    · have : loD d = 1 := by unfold loD; rw [if_pos h]
      exact Nat.le_trans (len_le (a := [1]) (by omega) hy.2 (dg_one (by omega)) (by rw [this] at h1; exact h1)) hm
    · rw [loD_of h] at h1
      exact Nat.le_trans (len_le (by omega) hy.2 hd h1) hl'

set_option maxRecDepth 10000 in
set_option maxHeartbeats 1600000 in
/-- a difference -/
theorem ref4_Sub (n n' : Bool) (a d a' d' : List Nat) (A D A' D' : Option Addr) (ca cd ca' cd' : Nat) (w : World) (h1 : Rd w (fun g => g < w.heap.size) .u32 A a) (h2 : Rd w (fun g => g < w.heap.size) .u32 D d) (h3 : Rd w (fun g => g < w.heap.size) .u32 A' a') (h4 : Rd w (fun g => g < w.heap.size) .u32 D' d') (hl1 : a.length ≤ 2097150) (hl2 : d.length ≤ 2097150) (hl3 : a'.length ≤ 2097150) (hl4 : d'.length ≤ 2097150) (ha : Dg 4294967296 a) (hd : Dg 4294967296 d) (ha' : Dg 4294967296 a') (hd' : Dg 4294967296 d') :
    Calls Tryz.prog 43 #[.agg #[.bool n, .slice A a.length ca, .slice D d.length cd], .agg #[.bool n', .slice A' a'.length ca', .slice D' d'.length cd']] w (GivesF (upN n a d * (loD d' : Int) - upN n' a' d' * (loD d : Int)) (loD d * loD d') w) := by
  obtain ⟨W, hW, k1, k2, k3, b0, s0⟩ := frac_boxes2 w (.bool n) (.slice A a.length ca) (.slice D d.length cd) (.bool n') (.slice A' a'.length ca') (.slice D' d'.length cd')
  have c1 := fun (V : World) (hV : Below W.heap.size W V) => ref4_Neg n' a' d' A' D' ca' cd' V ((h3.on b0).on hV) ((h4.on b0).on hV) (by omega) (by omega) ha' hd'
  have c2 : ∀ (V : World), Below W.heap.size W V → ∀ (x y : List Nat) (X Y : Option Addr) (cx cy : Nat), Rd V (fun g => g < V.heap.size) .u32 X x → Rd V (fun g => g < V.heap.size) .u32 Y y → Norm 4294967296 x → Norm 4294967296 y → val 4294967296 x = (- upN n' a' d').natAbs / Nat.gcd (- upN n' a' d').natAbs (loD d') → val 4294967296 y = loD d' / Nat.gcd (- upN n' a' d').natAbs (loD d') → Calls Tryz.prog 74 #[.agg #[.bool n, .slice A a.length ca, .slice D d.length cd], .agg #[.bool (decide (- upN n' a' d' < 0)), .slice X x.length cx, .slice Y y.length cy]] V (GivesF (upN n a d * (loD d' : Int) - upN n' a' d' * (loD d : Int)) (loD d * loD d') V) := fun V hV x y X Y cx cy hx hy hn hm hv hu => by
    obtain ⟨lx, ly⟩ := reduced_len (n := n') hn hm ha' hd' hl3 hl4 (by omega) (Int.natAbs_neg _) hv hu
    have := ref4_Add n (decide (- upN n' a' d' < 0)) a d x y A D X Y ca cd cx cy V ((h1.on b0).on hV) ((h2.on b0).on hV) hx hy hl1 hl2 lx ly ha hd hn.1 hm.1
    obtain ⟨hg, e1, e2⟩ := reduced_parts (loD_pos d') hv hu
    refine this.mono fun e w' h => ?_
    have := h.scale hg
    rwa [Int.add_mul, Int.mul_assoc, Int.mul_right_comm, e1, ← Int.natCast_mul, e2, Int.neg_mul, ← Int.sub_eq_add_neg, Nat.mul_assoc, e2] at this
  obtain ⟨P, hP⟩ : ∃ P, - upN n' a' d' = P := ⟨_, rfl⟩
  simp only [hP] at c1 c2
  clear hP
  have K0 : Below W.heap.size W W.drew := below_drewN (Below.refl _ _) 1
  obtain ⟨p0, p1, p2, p3, p4, p5⟩ := k1.facts
  obtain ⟨z0, z1, z2, z3, z4, z5⟩ := k2.facts
  obtain ⟨i0, i1, i2, i3, i4, i5⟩ := k3.facts
  have C1 := Lib.hid c1
  have C2 := Lib.hid c2
  have HK1 := Lib.hid k1
  have HK2 := Lib.hid k2
  have HK3 := Lib.hid k3
  have HB := Lib.hid b0
  have hlt : w.heap.size + 2 < W.heap.size := by omega
  clear c1 c2 k1 k2 k3 h1 h2 h3 h4
  go_enter Tryz.func43, Tryz.ntmps43
  go_wp2_with fail
  try rw [hW]
  clear hW
  go_region_held3 (fun w' => (w'.cell? ⟨w.heap.size, 0, none⟩ = some (.bool n) ∧ w'.cell? ⟨w.heap.size, 1, none⟩ = some (.slice A a.length ca) ∧ w'.cell? ⟨w.heap.size, 2, none⟩ = some (.slice D d.length cd)) ∧ (w'.cell? ⟨w.heap.size + 1, 0, none⟩ = some (.bool n') ∧ w'.cell? ⟨w.heap.size + 1, 1, none⟩ = some (.slice A' a'.length ca') ∧ w'.cell? ⟨w.heap.size + 1, 2, none⟩ = some (.slice D' d'.length cd')))
    (first | (with_reducible exact ⟨keep3 HK1.out K0, keep3 HK2.out K0⟩) | (with_reducible exact ⟨keep3 HK1.out KA, keep3 HK2.out KA⟩) | (with_reducible exact ⟨keep3 HK1.out KB, keep3 HK2.out KB⟩) | (with_reducible exact ⟨far_cells (HK1.out.below KB HK1.out.lt) (by omega) _ _ _, far_cells (HK2.out.below KB HK2.out.lt) (by omega) _ _ _⟩) | go_keep)
    ((first
      | (go_at_call 81; (with_reducible refine Calls.mono (C1.out _ K0) ?_); rintro e w2 ⟨X, x, cx, Y, y, cy, rfl, hcx, hcy, hnx, hny, hvx, hvy, rx, ry, b2⟩; have KA := below_next K0 (Nat.le_refl _) b2)
      | (go_at_call 74; (with_reducible refine Calls.mono (C2.out _ KA x y X Y cx cy rx ry hnx hny hvx hvy) ?_); rintro e w3 ⟨A3, a3, c3, D3, d3, e3, rfl, hc3, hd3, hn3, hm3, hv3, hu3, r3, q3, b3⟩; have KB := below_next KA (Nat.le_refl _) b3; obtain ⟨i0, i1, i2, j0, j1, j2⟩ := (HK3.out.below KB HK3.out.lt).facts)))
  obtain ⟨Z, hZ, u0, u1, u2, hG⟩ := fin_frac (w := w) (HK3.out.below KB HK3.out.lt) (by omega) (HB.out.trans (KB.mono HB.out.size)) hc3 hd3 hn3 hm3 hv3 hu3 r3 q3
  have HZ := Lib.hid hZ
  have HF := Lib.hid (And.intro u0 (And.intro u1 u2))
  have HG := Lib.hid hG
  clear hZ u0 u1 u2 hG hv3 hu3 i0 i1 i2 j0 j1 j2 C1 C2
  go_wp2_with fail
  rw [HZ.out]
  obtain ⟨u0, u1, u2⟩ := HF.out
  exact bodyPost_ret (by simp [results, Tryz.results43, go_sem, u0, u1, u2]) rfl HG.out
end Go.Proofs.YtdmoibphidipeaaGreatDoor
/- Fractions, the program's own: shapes of what is handed in and out, and their arithmetic. -/

namespace Go.Proofs.YtdmoibphidipeaaGreatDoor
open Go.RowKit Num

/-- what may be said of a fraction's sign, words and room -/
abbrev Shape := Bool → List Nat → Nat → List Nat → Nat → Prop
/-- a fraction of a shape is handed back -/
def Gv (S : Shape) (w : World) (e : Ending) (w' : World) : Prop :=
  ∃ n a A ca d D cd, e = .returned (.agg #[.bool n, .slice A a.length ca, .slice D d.length cd]) ∧ S n a ca d cd ∧ Rd w' (fun g => g < w'.heap.size) .u32 A a ∧ Rd w' (fun g => g < w'.heap.size) .u32 D d ∧ Below w.heap.size w w'
/-- handed in: P by Q, of at most m words each -/
def SI (P : Int) (Q m : Nat) : Shape := fun n a ca d cd => a.length ≤ ca ∧ d.length ≤ cd ∧ Dg 4294967296 a ∧ Dg 4294967296 d ∧ a.length ≤ m ∧ d.length ≤ m ∧ upN n a d = P ∧ loD d = Q
/-- P by Q just so -/
def SH (P : Int) (Q m : Nat) : Shape := fun n a ca d cd => a.length ≤ ca ∧ d.length ≤ cd ∧ Dg 4294967296 a ∧ Dg 4294967296 d ∧ a.length ≤ m ∧ d.length ≤ m ∧ wv n a = P ∧ val 4294967296 d = Q
/-- what is worth P by Q -/
def SR (P : Int) (Q m : Nat) : Shape := fun n a ca d cd => a.length ≤ ca ∧ d.length ≤ cd ∧ Dg 4294967296 a ∧ Dg 4294967296 d ∧ a.length ≤ m ∧ d.length ≤ m ∧ 0 < val 4294967296 d ∧ wv n a * (Q : Int) = P * (val 4294967296 d : Int)
/-- P by Q, reduced -/
def SF (P : Int) (Q : Nat) : Shape := fun n a ca d cd => n = decide (P < 0) ∧ a.length ≤ ca ∧ d.length ≤ cd ∧ Norm 4294967296 a ∧ Norm 4294967296 d ∧ val 4294967296 a = P.natAbs / Nat.gcd P.natAbs Q ∧ val 4294967296 d = Q / Nat.gcd P.natAbs Q

theorem gv_of_f {P : Int} {Q : Nat} {w w' : World} {e : Ending} (h : GivesF P Q w e w') : Gv (SF P Q) w e w' := by
  obtain ⟨A, a, ca, D, d, cd, rfl, h1, h2, h3, h4, h5, h6, h7, h8, h9⟩ := h
  exact ⟨_, a, A, ca, d, D, cd, rfl, ⟨rfl, h1, h2, h3, h4, h5, h6⟩, h7, h8, h9⟩
theorem f_of_gv {P : Int} {Q : Nat} {w w' : World} {e : Ending} (h : Gv (SF P Q) w e w') : GivesF P Q w e w' := by
  obtain ⟨n, a, A, ca, d, D, cd, rfl, ⟨rfl, h1, h2, h3, h4, h5, h6⟩, h7, h8, h9⟩ := h
  exact ⟨A, a, ca, D, d, cd, rfl, h1, h2, h3, h4, h5, h6, h7, h8, h9⟩
theorem Gv.imp {S T : Shape} {w w' : World} {e : Ending} (hs : ∀ n a ca d cd, S n a ca d cd → T n a ca d cd) (h : Gv S w e w') : Gv T w e w' := by
  obtain ⟨n, a, A, ca, d, D, cd, rfl, h1, h2⟩ := h
  exact ⟨n, a, A, ca, d, D, cd, rfl, hs _ _ _ _ _ h1, h2⟩

/-- equal fractions -/
theorem cross_swap {x y P P' Q Q' : Int} (hQ : 0 < Q) (h : P * Q' = P' * Q) (k : x * Q = P * y) : x * Q' = P' * y := by
  have h1 : x * Q' * Q = P' * y * Q := by
    rw [Int.mul_right_comm, k, Int.mul_right_comm, h, Int.mul_right_comm]
  exact Int.eq_of_mul_eq_mul_right (by omega) h1
theorem SR.conv {P P' : Int} {Q Q' m : Nat} (hQ : 0 < Q) (h : P * (Q' : Int) = P' * (Q : Int)) {n : Bool} {a d : List Nat} {ca cd : Nat} (k : SR P Q m n a ca d cd) : SR P' Q' m n a ca d cd := by
  obtain ⟨h1, h2, h3, h4, h5, h6, h7, h8⟩ := k
  exact ⟨h1, h2, h3, h4, h5, h6, h7, cross_swap (by omega) h h8⟩
theorem SH.toR {P : Int} {Q m : Nat} (hQ : 0 < Q) {n : Bool} {a d : List Nat} {ca cd : Nat} (k : SH P Q m n a ca d cd) : SR P Q m n a ca d cd := by
  obtain ⟨h1, h2, h3, h4, h5, h6, h7, h8⟩ := k
  exact ⟨h1, h2, h3, h4, h5, h6, by omega, by rw [h7, h8]⟩
theorem SF.scale {P : Int} {Q k : Nat} (hk : 0 < k) {n : Bool} {a d : List Nat} {ca cd : Nat} : SF (P * (k : Int)) (Q * k) n a ca d cd ↔ SF P Q n a ca d cd := by
  have hn : (P * (k : Int)).natAbs = P.natAbs * k := by rw [Int.natAbs_mul, Int.natAbs_natCast]
  have hg : Nat.gcd (P.natAbs * k) (Q * k) = Nat.gcd P.natAbs Q * k := Nat.gcd_mul_right _ _ _
  have hs : decide (P * (k : Int) < 0) = decide (P < 0) := by
    rcases Int.lt_or_le P 0 with hp | hp
    · rw [decide_eq_true hp, decide_eq_true (Int.mul_neg_of_neg_of_pos hp (by omega))]
    · have := Int.mul_nonneg hp (show (0 : Int) ≤ (k : Int) by omega)
      rw [decide_eq_false (by omega), decide_eq_false (by omega)]
  unfold SF
  rw [hs, hn, hg, Nat.mul_div_mul_right _ _ hk, Nat.mul_div_mul_right _ _ hk]
theorem SF.conv {P P' : Int} {Q Q' : Nat} (hQ : 0 < Q) (hQ' : 0 < Q') (h : P * (Q' : Int) = P' * (Q : Int)) {n : Bool} {a d : List Nat} {ca cd : Nat} (k : SF P Q n a ca d cd) : SF P' Q' n a ca d cd := by
  have k1 := (SF.scale hQ').2 k
  rw [h, Nat.mul_comm] at k1
  exact (SF.scale hQ).1 k1
theorem GivesF.conv {P P' : Int} {Q Q' : Nat} {w w' : World} {e : Ending} (hQ : 0 < Q) (hQ' : 0 < Q') (h : P * (Q' : Int) = P' * (Q : Int)) (k : GivesF P Q w e w') : GivesF P' Q' w e w' :=
  f_of_gv ((gv_of_f k).imp fun _ _ _ _ _ => SF.conv hQ hQ' h)
/-- a reduced fraction as one that is handed in -/
theorem SF.toR {P : Int} {Q m : Nat} (hQ : 0 < Q) (hP : P.natAbs < 4294967296 ^ m) (hQm : Q < 4294967296 ^ m) {n : Bool} {a d : List Nat} {ca cd : Nat} (k : SF P Q n a ca d cd) : SR P Q m n a ca d cd := by
  obtain ⟨rfl, h1, h2, h3, h4, h5, h6⟩ := k
  obtain ⟨hg, e1, e2⟩ := reduced_parts hQ h5 h6
  have hd : 0 < val 4294967296 d := by
    rcases Nat.eq_zero_or_pos (val 4294967296 d) with h | h
    · rw [h6] at h
      have := Nat.div_mul_cancel (Nat.gcd_dvd_right P.natAbs Q)
      rw [h] at this; omega
    · exact h
  rw [upN_of hd] at e1
  rw [loD_of hd] at e2
  refine ⟨h1, h2, h3.1, h4.1, h3.2.length_le (b := 4294967296) (by omega) ?_, h4.2.length_le (b := 4294967296) (by omega) ?_, hd, ?_⟩
  · rw [h5]; exact Nat.lt_of_le_of_lt (Nat.div_le_self _ _) hP
  · rw [h6]; exact Nat.lt_of_le_of_lt (Nat.div_le_self _ _) hQm
  · generalize Nat.gcd P.natAbs Q = g at e1 e2
    generalize wv (decide (P < 0)) a = x at e1 ⊢
    generalize val 4294967296 d = y at e2 ⊢
    rw [← e1, ← e2, Int.natCast_mul, Int.mul_assoc, Int.mul_comm (g : Int)]
theorem SR.toI {P : Int} {Q m : Nat} {n : Bool} {a d : List Nat} {ca cd : Nat} (k : SR P Q m n a ca d cd) : SI (wv n a) (val 4294967296 d) m n a ca d cd := by
  obtain ⟨h1, h2, h3, h4, h5, h6, h7, h8⟩ := k
  exact ⟨h1, h2, h3, h4, h5, h6, upN_of h7, loD_of h7⟩

/-- a call's contract, in shapes: of one, of two -/
abbrev Fn1 (f : FuncId) (S T : Shape) : Prop := ∀ (n : Bool) (a d : List Nat) (A D : Option Addr) (ca cd : Nat) (w : World), S n a ca d cd → Rd w (fun g => g < w.heap.size) .u32 A a → Rd w (fun g => g < w.heap.size) .u32 D d → Calls Tryz.prog f #[.agg #[.bool n, .slice A a.length ca, .slice D d.length cd]] w (Gv T w)
abbrev Fn2 (f : FuncId) (S S' T : Shape) : Prop := ∀ (n n' : Bool) (a d a' d' : List Nat) (A D A' D' : Option Addr) (ca cd ca' cd' : Nat) (w : World), S n a ca d cd → S' n' a' ca' d' cd' → Rd w (fun g => g < w.heap.size) .u32 A a → Rd w (fun g => g < w.heap.size) .u32 D d → Rd w (fun g => g < w.heap.size) .u32 A' a' → Rd w (fun g => g < w.heap.size) .u32 D' d' → Calls Tryz.prog f #[.agg #[.bool n, .slice A a.length ca, .slice D d.length cd], .agg #[.bool n', .slice A' a'.length ca', .slice D' d'.length cd']] w (Gv T w)
theorem Fn1.imp {f : FuncId} {S T S' T' : Shape} (h : Fn1 f S T) (hs : ∀ n a ca d cd, S' n a ca d cd → S n a ca d cd) (ht : ∀ n a ca d cd, T n a ca d cd → T' n a ca d cd) : Fn1 f S' T' :=
  fun n a d A D ca cd w hS r q => (h n a d A D ca cd w (hs _ _ _ _ _ hS) r q).mono fun _ _ => Gv.imp ht
theorem Fn2.imp {f : FuncId} {S U T S' U' T' : Shape} (h : Fn2 f S U T) (hs : ∀ n a ca d cd, S' n a ca d cd → S n a ca d cd) (hu : ∀ n a ca d cd, U' n a ca d cd → U n a ca d cd) (ht : ∀ n a ca d cd, T n a ca d cd → T' n a ca d cd) : Fn2 f S' U' T' :=
  fun n n' a d a' d' A D A' D' ca cd ca' cd' w hS hU r q r' q' => (h n n' a d a' d' A D A' D' ca cd ca' cd' w (hs _ _ _ _ _ hS) (hu _ _ _ _ _ hU) r q r' q').mono fun _ _ => Gv.imp ht

/-- any fraction stored where the result lies -/
theorem fin_any {w v : World} {g : Nat} {t : TypeId} (k : Blk v g t [.bool false, .slice none 0 0, .slice none 0 0]) (hg : w.heap.size ≤ g) (B : Below w.heap.size w v) {S : Shape} {n : Bool} {A D : Option Addr} {a d : List Nat} {ca cd : Nat} (hs : S n a ca d cd) (r : Rd v (fun g => g < v.heap.size) .u32 A a) (q : Rd v (fun g => g < v.heap.size) .u32 D d) :
    ∃ U, ((v.setCell ⟨g, 0, none⟩ (.bool n)).setCell ⟨g, 1, none⟩ (.slice A a.length ca)).setCell ⟨g, 2, none⟩ (.slice D d.length cd) = U ∧ U.cell? ⟨g, 0, none⟩ = some (.bool n) ∧ U.cell? ⟨g, 1, none⟩ = some (.slice A a.length ca) ∧ U.cell? ⟨g, 2, none⟩ = some (.slice D d.length cd) ∧
      Gv S w (.returned (.agg #[.bool n, .slice A a.length ca, .slice D d.length cd])) U := by
  obtain ⟨U, hU, u0, u1, u2, -, bU, -, -⟩ := k.three (.bool n) (.slice A a.length ca) (.slice D d.length cd)
  exact ⟨U, hU, u0, u1, u2, n, a, A, ca, d, D, cd, rfl, hs, r.far3 k _ _ _ hU, q.far3 k _ _ _ hU, B.trans (bU _ hg)⟩
/-- boxes of three: one, two, three, four of them, of whatever types -/
theorem bx1 (w : World) (t : TypeId) (v0 v1 v2 : Value) : ∃ W, w.alloc (.cells #[v0, v1, v2] t) = W ∧ Blk W w.heap.size t [v0, v1, v2] ∧ Below w.heap.size w W ∧ W.heap.size = w.heap.size + 1 :=
  ⟨_, rfl, Blk.new w t [v0, v1, v2], below_one w _, by simp⟩
theorem bx2 (w : World) (t t' : TypeId) (v0 v1 v2 u0 u1 u2 : Value) : ∃ W, (w.alloc (.cells #[v0, v1, v2] t)).alloc (.cells #[u0, u1, u2] t') = W ∧ Blk W w.heap.size t [v0, v1, v2] ∧ Blk W (w.heap.size + 1) t' [u0, u1, u2] ∧ Below w.heap.size w W ∧ W.heap.size = w.heap.size + 2 := by
  obtain ⟨V, hV, k, b, s⟩ := bx1 w t v0 v1 v2
  rw [hV]
  exact ⟨_, rfl, k.alloc _, Blk.at_new V t' [u0, u1, u2] (by rw [s]), b.trans ((below_one V _).mono (by omega)), by simp [s]⟩
theorem bx3 (w : World) (t t' t'' : TypeId) (v0 v1 v2 u0 u1 u2 x0 x1 x2 : Value) : ∃ W, ((w.alloc (.cells #[v0, v1, v2] t)).alloc (.cells #[u0, u1, u2] t')).alloc (.cells #[x0, x1, x2] t'') = W ∧ Blk W w.heap.size t [v0, v1, v2] ∧ Blk W (w.heap.size + 1) t' [u0, u1, u2] ∧ Blk W (w.heap.size + 1 + 1) t'' [x0, x1, x2] ∧ Below w.heap.size w W ∧ W.heap.size = w.heap.size + 3 := by
  obtain ⟨V, hV, k, k', b, s⟩ := bx2 w t t' v0 v1 v2 u0 u1 u2
  rw [hV]
  exact ⟨_, rfl, k.alloc _, k'.alloc _, Blk.at_new V t'' [x0, x1, x2] (by rw [s]), b.trans ((below_one V _).mono (by omega)), by simp [s]⟩
end Go.Proofs.YtdmoibphidipeaaGreatDoor
/- Fractions: what the program's own one, isOne, size, Int, hold and reduced answer. -/

namespace Go.Proofs.YtdmoibphidipeaaGreatDoor
open Go.RowKit Num

/-- 1 -/
theorem frac_one (w : World) : Calls Tryz.prog 132 #[] w (Gives .u32 4294967296 1 w) := by
  have c : Calls Tryz.prog 150 #[.int .u64 1] w (Gives .u32 4294967296 1 w) := nat_Of 1 (by omega) w
  go_enter Tryz.func132, Tryz.ntmps132
  go_wp2_with fail
  refine c.mono ?_
  rintro e w1 ⟨A1, xs, c1, rfl, hc1, hn1, hv1, hr1, hb1⟩
  have H := Lib.hid (And.intro hn1 hv1)
  clear hn1 hv1 c
  go_wp2_with fail
  go_ret
  exact ⟨A1, xs, c1, rfl, hc1, H.out.1, H.out.2, hr1, hb1⟩
theorem isBits_one_iff {N n : Nat} (h : IsBits N n) : n = 1 ↔ N = 1 := by
  obtain ⟨h1, h2⟩ := h
  constructor
  · rintro rfl
    simp at h1 h2
    omega
  · rintro rfl
    rcases h2 with rfl | h2
    · simp at h1
    · rcases Nat.lt_or_ge n 2 with h | h
      · match n, h with
        | 0, _ => simp at h1
        | 1, _ => rfl
      · have : 2 ^ 1 ≤ 2 ^ (n - 1) := Nat.pow_le_pow_right (by omega) (by omega)
        omega
set_option maxHeartbeats 400000 in
/-- is it 1? -/
theorem frac_isOne (d : List Nat) (A : Option Addr) (c : Nat) (w : World) (h : Rd w (fun g => g < w.heap.size) .u32 A d) (hl : d.length ≤ 1073741824) (hc : d.length ≤ c) (hd : Dg 4294967296 d) (b : Bool) (hb : decide (val 4294967296 d = 1) = b) :
    Calls Tryz.prog 128 #[.slice A d.length c] w fun e w' => e = .returned (.bool b) ∧ w = w' := by
  obtain ⟨z, hz⟩ := isBits_some (val 4294967296 d)
  have cB := nat_Bits_at d A c z w h hl hc hd hz
  have h1 := isBits_one_iff hz
  have HB := Lib.hid (show (Value.bool (decide ((z : Int) = 1))) = Value.bool b by
    rw [← hb]
    congr 1
    exact decide_eq_decide.2 ⟨fun h => h1.1 (by omega), fun h => by have := h1.2 h; omega⟩)
  clear hz h1 hb
  go_enter Tryz.func128, Tryz.ntmps128
  go_wp2_with fail
  refine cB.mono ?_
  rintro e w1 ⟨rfl, rfl⟩
  go_wp2_with fail
  go_ret
  exact ⟨by first | exact congrArg _ HB.out | (rw [← HB.out]; simp), rfl⟩
/-- a size as a whole number -/
theorem frac_size (D : Option Addr) (n c : Nat) (w : World) :
    Calls Tryz.prog 111 #[.slice D n c] w fun e w' => e = .returned (.agg #[.bool false, .slice D n c]) ∧ Below w.heap.size w w' := by
  go_enter Tryz.func111, Tryz.ntmps111
  go_wp2_with fail
  exact bodyPost_ret (v := .agg #[.bool false, .slice D n c]) (by simp [results, Tryz.results111, go_sem]) rfl ⟨rfl, below_one w _⟩

set_option maxRecDepth 10000 in
set_option maxHeartbeats 800000 in
/-- a whole number -/
theorem frac_Int (n : Int) (hn1 : -9223372036854775808 ≤ n) (hn2 : n ≤ 9223372036854775807) (w : World) :
    Calls Tryz.prog 87 #[.int .i64 n] w (Gv (SF n 1) w) := by
  obtain ⟨W, hW, k, b0, s0⟩ := bx1 w 39 (.bool false) (.slice none 0 0) (.slice none 0 0)
  have cO := fun (V : World) => whole_Of n hn1 hn2 V
  have c1 := fun (V : World) => frac_one V
  go_enter Tryz.func87, Tryz.ntmps87
  go_wp2_with fail
  try rw [hW]
  clear hW
  refine (cO W).mono ?_
  rintro e w1 ⟨X, x, cx, rfl, hcx, hnx, hvx, rx, b1⟩
  have HX := Lib.hid (And.intro hnx hvx)
  clear cO hnx hvx
  go_wp2_with fail
  refine (c1 w1).mono ?_
  rintro e w2 ⟨Y, y, cy, rfl, hcy, hny, hvy, ry, b2⟩
  have K := (k.below b1 k.lt).below b2 (k.below b1 k.lt).lt
  have B := (b0.trans (b1.mono b0.size)).trans (b2.mono (Nat.le_trans b0.size b1.size))
  obtain ⟨i0, i1, i2, i3, i4, i5⟩ := K.facts
  obtain ⟨Z, hZ, u0, u1, u2, hG⟩ := fin_any (S := SF n 1) K (Nat.le_refl _) B (n := decide (n < 0)) (a := x) (d := y) (ca := cx) (cd := cy) ⟨rfl, hcx, hcy, HX.out.1, hny, by rw [Nat.gcd_one_right, Nat.div_one]; exact HX.out.2, by rw [Nat.gcd_one_right]; exact hvy⟩ (rx.on b2) ry
  have HZ := Lib.hid hZ
  have HF := Lib.hid (And.intro u0 (And.intro u1 u2))
  have HG := Lib.hid hG
  clear hZ u0 u1 u2 hG c1 k K rx ry b1 b2 B hny hvy
  go_wp2_with fail
  rw [HZ.out]
  obtain ⟨u0, u1, u2⟩ := HF.out
  exact bodyPost_ret (by simp [results, Tryz.results87, go_sem, u0, u1, u2]) rfl HG.out

/-- 0 by 1, as it stands in words -/
theorem nought_words {n : Bool} {a d : List Nat} {ca cd : Nat} (h : SF 0 1 n a ca d cd) : n = false ∧ a = [] ∧ d = [1] := by
  obtain ⟨h0, -, -, h1, h2, h3, h4⟩ := h
  simp only [Nat.gcd_one_right, Nat.div_one] at h3 h4
  exact ⟨by rw [h0]; rfl, Norm.ext (by omega) h1 (norm_nil _) (by rw [h3]; rfl), Norm.ext (by omega) h2 (norm_one (by omega) (by omega)) (by rw [h4]; rfl)⟩

set_option maxRecDepth 10000 in
set_option maxHeartbeats 800000 in
/-- a fraction as it counts -/
theorem frac_hold (P : Int) (Q m : Nat) (hm1 : 1 ≤ m) (hm : m ≤ 4194304) : Fn1 108 (SI P Q m) (SH P Q m) := by
  intro n a d A D ca cd w hS h h'
  obtain ⟨hc, hc', ha, hd, hl, hl', hP, hQ⟩ := hS
  obtain ⟨z, hb⟩ := isBits_some (val 4294967296 d)
  obtain ⟨W, hW, k1, k2, b0, s0⟩ := bx2 w 39 111 (.bool n) (.slice A a.length ca) (.slice D d.length cd) (.bool false) (.slice none 0 0) (.slice none 0 0)
  obtain ⟨p0, p1, p2, -, -, -⟩ := k1.facts
  obtain ⟨i0, i1, i2, i3, i4, i5⟩ := k2.facts
  have cB := nat_Bits_at d D cd z W (h'.on b0) (by omega) hc' hd hb
  have hzi := isBits_zero_iff hb
  clear hb
  by_cases hz : z = 0
  · subst hz
    have hv : val 4294967296 d = 0 := hzi.1 rfl
    have HP := Lib.hid (show P = 0 by rw [← hP]; unfold upN; rw [if_pos hv])
    have HQ := Lib.hid (show Q = 1 by rw [← hQ]; unfold loD; rw [if_pos hv])
    have cI := fun (V : World) => frac_Int 0 (by omega) (by omega) V
    clear hzi hv hP hQ
    go_enter Tryz.func108, Tryz.ntmps108
    go_wp2_with fail
    try rw [hW]
    clear hW
    refine cB.mono ?_
    rintro e w1 ⟨rfl, rfl⟩
    clear cB
    go_wp2_with fail
    refine (cI _).mono ?_
    rintro e w2 ⟨n2, a2, A2, c2, d2, D2, e2, rfl, hs, r, q, b2⟩
    obtain ⟨rfl, rfl, rfl⟩ := nought_words hs
    have K := k2.below b2 k2.lt
    have B := b0.trans (b2.mono b0.size)
    obtain ⟨j0, j1, j2, j3, j4, j5⟩ := K.facts
    obtain ⟨Z, hZ, u0, u1, u2, hG⟩ := fin_any (S := SH P Q m) (w := w) K (by omega) B (n := false) (a := []) (d := [1]) (ca := c2) (cd := e2) (A := A2) (D := D2) ⟨by simp, hs.2.2.1, Dg.nil _, dg_one (by omega), by simp, by simpa using hm1, by rw [HP.out]; rfl, by rw [HQ.out]; rfl⟩ r q
    simp only [List.length_nil, List.length_singleton] at hZ u1 u2 hG
    have HZ := Lib.hid hZ
    have HF := Lib.hid (And.intro u0 (And.intro u1 u2))
    have HG := Lib.hid hG
    clear hZ u0 u1 u2 hG cI k1 k2 K r q b2 B hs i0 i1 i2 i3 i4 i5
    go_wp2_with fail
    rw [HZ.out]
    obtain ⟨u0, u1, u2⟩ := HF.out
    exact bodyPost_ret (by simp [results, Tryz.results108, go_sem, u0, u1, u2]) rfl HG.out
  · have hv : ¬ val 4294967296 d = 0 := fun h => hz (hzi.2 h)
    have hP' : wv n a = P := by rw [← hP]; unfold upN; rw [if_neg hv]
    have hQ' : val 4294967296 d = Q := by rw [← hQ]; unfold loD; rw [if_neg hv]
    have hzb : ((z : Int) == 0) = false := by simp; omega
    obtain ⟨Z, hZ, u0, u1, u2, hG⟩ := fin_any (S := SH P Q m) (w := w) k2 (by omega) b0 (n := n) (a := a) (d := d) (ca := ca) (cd := cd) (A := A) (D := D) ⟨hc, hc', ha, hd, hl, hl', hP', hQ'⟩ (h.on b0) (h'.on b0)
    have HZ := Lib.hid hZ
    have HF := Lib.hid (And.intro u0 (And.intro u1 u2))
    have HG := Lib.hid hG
    clear hZ u0 u1 u2 hG hP' hQ' hP hQ hv hzi k1 k2
    go_enter Tryz.func108, Tryz.ntmps108
    go_wp2_with fail
    try rw [hW]
    clear hW
    refine cB.mono ?_
    rintro e w1 ⟨rfl, rfl⟩
    clear cB
    go_wp2_with fail
    rw [HZ.out]
    obtain ⟨u0, u1, u2⟩ := HF.out
    exact bodyPost_ret (by simp [results, Tryz.results108, go_sem, u0, u1, u2]) rfl HG.out

set_option maxRecDepth 10000 in
set_option maxHeartbeats 800000 in
/-- without common factors, in new words -/
theorem ratio_reduced (P : Int) (Q m : Nat) (hQ : 0 < Q) (hm : m ≤ 4194304) : Fn1 141 (SR P Q m) (SF P Q) := by
  intro n a d A D ca cd w hS h h'
  obtain ⟨hc, hc', ha, hd, hl, hl', hd0, hv⟩ := hS
  obtain ⟨W, hW, k1, k2, b0, s0⟩ := bx2 w 111 39 (.bool n) (.slice A a.length ca) (.slice D d.length cd) (.bool false) (.slice none 0 0) (.slice none 0 0)
  obtain ⟨p0, p1, p2, -, -, -⟩ := k1.facts
  obtain ⟨i0, i1, i2, i3, i4, i5⟩ := k2.facts
  have hconv : ∀ (n' : Bool) (x y : List Nat) (cx cy : Nat), SF (wv n a) (val 4294967296 d) n' x cx y cy → SF P Q n' x cx y cy := fun n' x y cx cy => SF.conv hd0 hQ (by rw [hv])
  have HC := Lib.hid hconv
  have HD0 := Lib.hid hd0
  clear hconv hv hQ hd0
  by_cases h1 : val 4294967296 d = 1
  · have cO := frac_isOne d D cd W (h'.on b0) (by omega) hc' hd true (decide_eq_true h1)
    have cM := fun (V : World) (hV : Below W.heap.size W V) => whole_Make n a A ca _ V ((h.on b0).on hV) (by omega) hc ha rfl
    have c1 := fun (V : World) => frac_one V
    have H1 := Lib.hid h1
    clear h1
    go_enter Tryz.func141, Tryz.ntmps141
    go_wp2_with fail
    try rw [hW]
    clear hW
    refine cO.mono ?_
    rintro e w1 ⟨rfl, rfl⟩
    clear cO
    go_wp2_with fail
    refine (cM _ (Below.refl _ _)).mono ?_
    rintro e w2 ⟨X, x, cx, rfl, hcx, hnx, hvx, rx, b1⟩
    have HX := Lib.hid (And.intro hnx hvx)
    clear cM hnx hvx i0 i1 i2 i3 i4 i5 p0 p1 p2
    go_wp2_with fail
    refine (c1 w2).mono ?_
    rintro e w3 ⟨Y, y, cy, rfl, hcy, hny, hvy, ry, b2⟩
    have K := (k2.below b1 k2.lt).below b2 (k2.below b1 k2.lt).lt
    have B := (b0.trans (b1.mono b0.size)).trans (b2.mono (Nat.le_trans b0.size b1.size))
    have HY := Lib.hid (And.intro hny hvy)
    obtain ⟨i0, i1, i2, i3, i4, i5⟩ := K.facts
    obtain ⟨Z, hZ, u0, u1, u2, hG⟩ := fin_any (S := SF P Q) (w := w) K (by omega) B (n := decide (wv n a < 0)) (a := x) (d := y) (ca := cx) (cd := cy) (HC.out _ _ _ _ _ ⟨rfl, hcx, hcy, HX.out.1, HY.out.1, by rw [H1.out, Nat.gcd_one_right, Nat.div_one]; exact HX.out.2, by rw [H1.out, Nat.gcd_one_right]; exact HY.out.2⟩) (rx.on b2) ry
    have HZ := Lib.hid hZ
    have HF := Lib.hid (And.intro u0 (And.intro u1 u2))
    have HG := Lib.hid hG
    clear hZ u0 u1 u2 hG c1 k1 k2 K rx ry b1 b2 B hny hvy
    go_wp2_with fail
    rw [HZ.out]
    obtain ⟨u0, u1, u2⟩ := HF.out
    exact bodyPost_ret (by simp [results, Tryz.results141, go_sem, u0, u1, u2]) rfl HG.out
  · have cO := frac_isOne d D cd W (h'.on b0) (by omega) hc' hd false (decide_eq_false h1)
    have cR := fun (V : World) (hV : Below W.heap.size W V) => root_Reduce a d A D ca cd V ((h.on b0).on hV) ((h'.on b0).on hV) (by omega) (by omega) hc hc' ha hd
    have cM := fun (V : World) (x : List Nat) (X : Option Addr) (cx : Nat) (r : Rd V (fun g => g < V.heap.size) .u32 X x) (hl : x.length ≤ 2147483648) (hc : x.length ≤ cx) (hx : Dg 4294967296 x) => whole_Make n x X cx _ V r hl hc hx rfl
    have HLA := Lib.hid (fun (x : List Nat) (hn : Norm 4294967296 x) (hv : val 4294967296 x = val 4294967296 a / Nat.gcd (val 4294967296 a) (val 4294967296 d)) => (show x.length ≤ 4194304 from Nat.le_trans (len_le (by omega) hn.2 ha (by rw [hv]; exact Nat.div_le_self _ _)) (by omega)))
    have HSG := Lib.hid (fun (x : List Nat) (hv : val 4294967296 x = val 4294967296 a / Nat.gcd (val 4294967296 a) (val 4294967296 d)) => (show decide (wv n x < 0) = decide (wv n a < 0) by
      rcases Nat.eq_zero_or_pos (val 4294967296 a) with h0 | h0
      · rw [h0, Nat.zero_div] at hv
        cases n
        · rw [wv_false, wv_false, hv, h0]
        · rw [wv_true, wv_true, hv, h0]
      · exact reduced_sign hv (Nat.gcd_dvd_left _ _) h0))
    clear h1
    go_enter Tryz.func141, Tryz.ntmps141
    go_wp2_with fail
    try rw [hW]
    clear hW
    refine cO.mono ?_
    rintro e w1 ⟨rfl, rfl⟩
    clear cO
    go_wp2_with fail
    refine (cR _ (Below.refl _ _)).mono ?_
    rintro e w2 ⟨X, x, cx, Y, y, cy, rfl, hcx, hcy, hnx, hny, hvx, hvy, rx, ry, b1⟩
    have HX := Lib.hid (And.intro hnx (And.intro hny (And.intro hvx hvy)))
    obtain ⟨p0, p1, p2⟩ := keep3 k1 b1
    have cM := cM _ x X cx rx (Nat.le_trans (HLA.out x hnx hvx) (by omega)) hcx hnx.1
    clear cR hnx hvx hny hvy i0 i1 i2 i3 i4 i5
    go_wp2_with fail
    refine cM.mono ?_
    rintro e w3 ⟨X', x', cx', rfl, hcx', hnx', hvx', rx', b2⟩
    have HX' := Lib.hid (And.intro hnx' hvx')
    have K := (k2.below b1 k2.lt).below b2 (k2.below b1 k2.lt).lt
    have B := (b0.trans (b1.mono b0.size)).trans (b2.mono (Nat.le_trans b0.size b1.size))
    obtain ⟨i0, i1, i2, i3, i4, i5⟩ := K.facts
    obtain ⟨Z, hZ, u0, u1, u2, hG⟩ := fin_any (S := SF P Q) (w := w) K (by omega) B (n := decide (wv n x < 0)) (a := x') (d := y) (ca := cx') (cd := cy) (HC.out _ _ _ _ _ ⟨HSG.out x HX.out.2.2.1, hcx', hcy, HX'.out.1, HX.out.2.1, by rw [HX'.out.2, wv_abs, wv_abs]; exact HX.out.2.2.1, by rw [wv_abs]; exact HX.out.2.2.2⟩) rx' (ry.on b2)
    have HZ := Lib.hid hZ
    have HF := Lib.hid (And.intro u0 (And.intro u1 u2))
    have HG := Lib.hid hG
    clear hZ u0 u1 u2 hG cM k1 k2 K rx ry rx' b1 b2 B hnx' hvx'
    go_wp2_with fail
    rw [HZ.out]
    obtain ⟨u0, u1, u2⟩ := HF.out
    exact bodyPost_ret (by simp [results, Tryz.results141, go_sem, u0, u1, u2]) rfl HG.out
end Go.Proofs.YtdmoibphidipeaaGreatDoor
/- Fractions: what the program's own neg, half, times answer. -/

namespace Go.Proofs.YtdmoibphidipeaaGreatDoor
open Go.RowKit Num

theorem mul4 {x x' P P' y y' Q Q' : Int} (h : x * Q = P * y) (g : x' * Q' = P' * y') : x * x' * (Q * Q') = P * P' * (y * y') := by
  rw [show x * x' * (Q * Q') = (x * Q) * (x' * Q') by ac_rfl, h, g]
  ac_rfl

set_option maxRecDepth 10000 in
set_option maxHeartbeats 1600000 in
/-- on the other side of 0 -/
theorem ratio_neg (P : Int) (Q m : Nat) (hm : m ≤ 4194304) : Fn1 234 (SR P Q m) (SR (-P) Q m) := by
  intro n a d A D ca cd w hS h h'
  obtain ⟨W, hW, k1, kr, b0, s0⟩ := bx2 w 111 111 (.bool n) (.slice A a.length ca) (.slice D d.length cd) (.bool false) (.slice none 0 0) (.slice none 0 0)
  obtain ⟨p0, p1, p2, -, -, -⟩ := k1.facts
  have h := h.on b0
  have h' := h'.on b0
  obtain ⟨i0, i1, i2, i3, i4, i5⟩ := kr.facts
  have K0 : Below W.heap.size W W.drew := below_drewN (Below.refl _ _) 1
  have KI : Below W.heap.size W W := Below.refl _ _
  obtain ⟨hc, hc', ha, hd, hl, hl', hd0, hv⟩ := hS
  obtain ⟨N, hN⟩ : ∃ N, - wv n a = N := ⟨_, rfl⟩
  have cN := fun (V : World) (hV : Below W.heap.size W V) => whole_Neg n a A ca V (h.on hV) (by omega) hc ha
  simp only [hN] at cN
  have hs : ∀ (x : List Nat) (cx : Nat), x.length ≤ cx → Norm 4294967296 x → val 4294967296 x = N.natAbs → SR (-P) Q m (decide (N < 0)) x cx d cd := fun x cx hx hn hv' =>
    ⟨hx, hc', hn.1, hd, Nat.le_trans (len_le (by omega) hn.2 ha (by rw [hv', ← hN, Int.natAbs_neg, wv_abs]; exact Nat.le_refl _)) hl, hl', hd0, by rw [wv_dec hv', ← hN, Int.neg_mul, hv, Int.neg_mul]⟩
  have HK1 := Lib.hid k1
  have HKR := Lib.hid kr
  have HB0 := Lib.hid b0
  have hlt : w.heap.size + 1 < W.heap.size := by omega
  have CN := Lib.hid cN
  have HS := Lib.hid hs
  have HQ := Lib.hid h'
  clear cN hs hN hv
  clear k1 kr b0
  go_enter Tryz.func234, Tryz.ntmps234
  go_wp2_with fail
  try rw [hW]
  clear hW
  go_region_held3 (fun w' => w'.cell? ⟨w.heap.size, 0, none⟩ = some (.bool n) ∧ w'.cell? ⟨w.heap.size, 1, none⟩ = some (.slice A a.length ca) ∧ w'.cell? ⟨w.heap.size, 2, none⟩ = some (.slice D d.length cd))
    (first | (with_reducible exact keep3 HK1.out K0) | (with_reducible exact keep3 HK1.out KA) | (with_reducible exact far_cells (HK1.out.below KA HK1.out.lt) (by omega) _ _ _) | go_keep)
    ((first
      | (go_at_call 249; (with_reducible refine Calls.mono (CN.out _ K0) ?_); rintro e w1 ⟨X, x, cx, rfl, hcx, hnx, hvx, rx, b1⟩; have KA := below_next K0 (Nat.le_refl _) b1; obtain ⟨i0, i1, i2, i3, i4, i5⟩ := (HKR.out.below KA HKR.out.lt).facts)))
  obtain ⟨Z, hZ, u0, u1, u2, hG⟩ := fin_any (n := decide (N < 0)) (a := x) (d := d) (ca := cx) (cd := cd) (w := w) (HKR.out.below KA HKR.out.lt) (by omega) (HB0.out.trans (KA.mono HB0.out.size)) (HS.out x cx hcx hnx hvx) rx (HQ.out.on KA)
  have HZ := Lib.hid hZ
  have HF := Lib.hid (And.intro u0 (And.intro u1 u2))
  have HG := Lib.hid hG
  clear hZ u0 u1 u2 hG i0 i1 i2 i3 i4 i5 CN rx hvx hnx
  go_wp2_with fail
  rw [HZ.out]
  obtain ⟨u0, u1, u2⟩ := HF.out
  exact bodyPost_ret (by simp [results, Tryz.results234, go_sem, u0, u1, u2]) rfl HG.out

set_option maxRecDepth 10000 in
set_option maxHeartbeats 1600000 in
/-- a product -/
theorem ratio_times (P P' : Int) (Q Q' m : Nat) (hm : m ≤ 4194304) : Fn2 201 (SR P Q m) (SR P' Q' m) (SR (P * P') (Q * Q') (m + m)) := by
  intro n n' a d a' d' A D A' D' ca cd ca' cd' w hS hT h h' q q'
  obtain ⟨W, hW, k1, k2, kr, b0, s0⟩ := bx3 w 111 111 111 (.bool n) (.slice A a.length ca) (.slice D d.length cd) (.bool n') (.slice A' a'.length ca') (.slice D' d'.length cd') (.bool false) (.slice none 0 0) (.slice none 0 0)
  obtain ⟨p0, p1, p2, -, -, -⟩ := k1.facts
  obtain ⟨z0, z1, z2, -, -, -⟩ := k2.facts
  have h := h.on b0
  have h' := h'.on b0
  have q := q.on b0
  have q' := q'.on b0
  obtain ⟨i0, i1, i2, i3, i4, i5⟩ := kr.facts
  have K0 : Below W.heap.size W W.drew := below_drewN (Below.refl _ _) 1
  have KI : Below W.heap.size W W := Below.refl _ _
  obtain ⟨hc, hc', ha, hd, hl, hl', hd0, hv⟩ := hS
  obtain ⟨gc, gc', ga, gd, gl, gl', gd0, gv⟩ := hT
  obtain ⟨N, hN⟩ : ∃ N, wv n a * wv n' a' = N := ⟨_, rfl⟩
  have cN := fun (V : World) (hV : Below W.heap.size W V) => whole_Mul n n' a a' A A' ca ca' V (h.on hV) (q.on hV) (by omega) (by omega) hc gc ha ga
  have cD := fun (V : World) (hV : Below W.heap.size W V) => nat_Mul d d' D D' cd cd' _ _ V (h'.on hV) (q'.on hV) (fun g hg => hg) (fun g hg => hg) (by omega) (by omega) hc' gc' hd gd
  simp only [hN] at cN
  have hs : ∀ (x y : List Nat) (cx cy : Nat), x.length ≤ cx → y.length ≤ cy → Norm 4294967296 x → Norm 4294967296 y → val 4294967296 x = N.natAbs → val 4294967296 y = val 4294967296 d * val 4294967296 d' → SR (P * P') (Q * Q') (m + m) (decide (N < 0)) x cx y cy := fun x y cx cy hx hy hn hm' hv' hu => by
    have lx := len_mul (b := 4294967296) (by omega) hn.2 ha ga (by rw [hv', ← hN, Int.natAbs_mul, wv_abs, wv_abs])
    have ly := len_mul (b := 4294967296) (by omega) hm'.2 hd gd hu
    refine ⟨hx, hy, hn.1, hm'.1, by omega, by omega, by rw [hu]; exact Nat.mul_pos hd0 gd0, ?_⟩
    rw [wv_dec hv', ← hN, hu, Int.natCast_mul, Int.natCast_mul, mul4 hv gv]
  have HK1 := Lib.hid k1
  have HK2 := Lib.hid k2
  have HKR := Lib.hid kr
  have HB0 := Lib.hid b0
  have hlt : w.heap.size + 2 < W.heap.size := by omega
  have CN := Lib.hid cN
  have CD := Lib.hid cD
  have HS := Lib.hid hs
  clear cN cD hs hN hv gv
  clear k1 k2 kr b0
  go_enter Tryz.func201, Tryz.ntmps201
  go_wp2_with fail
  try rw [hW]
  clear hW
  go_region_held3 (fun w' => (w'.cell? ⟨w.heap.size, 0, none⟩ = some (.bool n) ∧ w'.cell? ⟨w.heap.size, 1, none⟩ = some (.slice A a.length ca) ∧ w'.cell? ⟨w.heap.size, 2, none⟩ = some (.slice D d.length cd)) ∧ (w'.cell? ⟨w.heap.size + 1, 0, none⟩ = some (.bool n') ∧ w'.cell? ⟨w.heap.size + 1, 1, none⟩ = some (.slice A' a'.length ca') ∧ w'.cell? ⟨w.heap.size + 1, 2, none⟩ = some (.slice D' d'.length cd')))
    (first | (with_reducible exact ⟨keep3 HK1.out K0, keep3 HK2.out K0⟩) | (with_reducible exact ⟨keep3 HK1.out KA, keep3 HK2.out KA⟩) | (with_reducible exact ⟨keep3 HK1.out KB, keep3 HK2.out KB⟩) | (with_reducible exact ⟨far_cells (HK1.out.below KB HK1.out.lt) (by omega) _ _ _, far_cells (HK2.out.below KB HK2.out.lt) (by omega) _ _ _⟩) | go_keep)
    ((first
      | (go_at_call 110; (with_reducible refine Calls.mono (CN.out _ K0) ?_); rintro e w1 ⟨X, x, cx, rfl, hcx, hnx, hvx, rx, b1⟩; have KA := below_next K0 (Nat.le_refl _) b1)
      | (go_at_call 148; (with_reducible refine Calls.mono (CD.out _ KA) ?_); rintro e w2 ⟨Y, y, cy, rfl, hcy, hny, hvy, ry, b2⟩; have KB := below_next KA (Nat.le_refl _) b2; obtain ⟨i0, i1, i2, i3, i4, i5⟩ := (HKR.out.below KB HKR.out.lt).facts)))
  obtain ⟨Z, hZ, u0, u1, u2, hG⟩ := fin_any (n := decide (N < 0)) (a := x) (d := y) (ca := cx) (cd := cy) (w := w) (HKR.out.below KB HKR.out.lt) (by omega) (HB0.out.trans (KB.mono HB0.out.size)) (HS.out x y cx cy hcx hcy hnx hny hvx hvy) (rx.on b2) ry
  have HZ := Lib.hid hZ
  have HF := Lib.hid (And.intro u0 (And.intro u1 u2))
  have HG := Lib.hid hG
  clear hZ u0 u1 u2 hG i0 i1 i2 i3 i4 i5 CN CD rx ry hvx hnx hvy hny
  go_wp2_with fail
  rw [HZ.out]
  obtain ⟨u0, u1, u2⟩ := HF.out
  exact bodyPost_ret (by simp [results, Tryz.results201, go_sem, u0, u1, u2]) rfl HG.out
end Go.Proofs.YtdmoibphidipeaaGreatDoor
/- Fractions, the document's own: what Int, Half, Make, Div and Cmp answer. -/

namespace Go.Proofs.YtdmoibphidipeaaGreatDoor
open Go.RowKit Num

set_option maxRecDepth 10000 in
set_option maxHeartbeats 800000 in
/-- a whole number -/
theorem ref4_Int (n : Int) (hn1 : -9223372036854775808 ≤ n) (hn2 : n ≤ 9223372036854775807) (w : World) :
    Calls Tryz.prog 53 #[.int .i64 n] w (GivesF n 1 w) := by
  obtain ⟨W, hW, k, b0, s0⟩ := frac_box w (.bool false) (.slice none 0 0) (.slice none 0 0)
  have cO := fun (V : World) => ref2_Of n hn1 hn2 V
  go_enter Tryz.func53, Tryz.ntmps53
  go_wp2_with fail
  try rw [hW]
  clear hW
  refine (cO W).mono ?_
  rintro e w1 ⟨X, x, cx, rfl, hcx, hnx, hvx, rx, b1⟩
  obtain ⟨V, hV, r1, b2, s2⟩ := one_word w1 1 1 rfl
  have B1 := b0.trans (b1.mono b0.size)
  have K1 := (k.below b1 k.lt).below b2 (k.below b1 k.lt).lt
  have hk := k.lt
  have s1 := b1.size
  have rV := rx.on b2
  obtain ⟨i0, i1, i2, i3, i4, i5⟩ := K1.facts
  obtain ⟨Z, hZ, u0, u1, u2, hG⟩ := fin_frac (w := w) (P := n) (Q := 1) K1 (by omega) (B1.trans (b2.mono (by omega))) hcx (show [1].length ≤ 1 by simp) hnx (norm_one (by omega) (by omega)) (by rw [Nat.gcd_one_right, Nat.div_one]; exact hvx) (by rw [Nat.gcd_one_right]; rfl) rV r1
  simp only [List.length_singleton] at hZ u2 hG
  have HZ := Lib.hid hZ
  have HF := Lib.hid (And.intro u0 (And.intro u1 u2))
  have HG := Lib.hid hG
  have HX := Lib.hid rV
  clear hZ u0 u1 u2 hG cO k K1 hvx rx r1 rV b1 B1 b2
  go_wp2_with fail
  rw [HZ.out]
  obtain ⟨u0, u1, u2⟩ := HF.out
  exact bodyPost_ret (by simp [results, Tryz.results53, go_sem, u0, u1, u2]) rfl HG.out

end Go.Proofs.YtdmoibphidipeaaGreatDoor
/- Fractions, the document's own: what Make, Div and Cmp answer. -/

namespace Go.Proofs.YtdmoibphidipeaaGreatDoor
open Go.RowKit Num

/-- a fraction, or 5 where the lower part is 0 -/
def GivesFE (P : Int) (Q : Nat) (w : World) (e : Ending) (w' : World) : Prop :=
  (Q = 0 ∧ e = .returned (.tuple #[.agg #[.bool false, .slice none 0 0, .slice none 0 0], .int .i64 5]) ∧ Below w.heap.size w w') ∨
    (0 < Q ∧ ∃ v, e = .returned (.tuple #[v, .int .i64 0]) ∧ GivesF P Q w (.returned v) w')
theorem keep2w {W V : World} {g : Nat} {t : TypeId} {a0 a1 : Value} (k : Blk W g t [a0, a1]) (hb : Below W.heap.size W V) : V.cell? ⟨g, 0, none⟩ = some a0 ∧ V.cell? ⟨g, 1, none⟩ = some a1 := by
  have k' := k.below hb k.lt
  exact ⟨k'.cell 0 rfl, k'.cell 1 rfl⟩
theorem far_cells2 {v : World} {g g' : Nat} {t : TypeId} {a0 a1 : Value} (k : Blk v g t [a0, a1]) (hne : g ≠ g') (u0 u1 u2 : Value) :
    (((v.setCell ⟨g', 0, none⟩ u0).setCell ⟨g', 1, none⟩ u1).setCell ⟨g', 2, none⟩ u2).cell? ⟨g, 0, none⟩ = some a0 ∧ (((v.setCell ⟨g', 0, none⟩ u0).setCell ⟨g', 1, none⟩ u1).setCell ⟨g', 2, none⟩ u2).cell? ⟨g, 1, none⟩ = some a1 := by
  have k' := ((k.far (p := ⟨g', 0, none⟩) hne u0).far (p := ⟨g', 1, none⟩) hne u1).far (p := ⟨g', 2, none⟩) hne u2
  exact ⟨k'.cell 0 rfl, k'.cell 1 rfl⟩
/-- two whole numbers' boxes and the one of a result that is a fraction -/
theorem whole_boxesf (w : World) (v0 v1 u0 u1 : Value) : ∃ W, ((w.alloc (.cells #[v0, v1] 37)).alloc (.cells #[u0, u1] 37)).alloc (.cells #[.bool false, .slice none 0 0, .slice none 0 0] 39) = W ∧ Blk W w.heap.size 37 [v0, v1] ∧ Blk W (w.heap.size + 1) 37 [u0, u1] ∧ Blk W (w.heap.size + 1 + 1) 39 [.bool false, .slice none 0 0, .slice none 0 0] ∧ Below w.heap.size w W ∧ W.heap.size = w.heap.size + 3 :=
  ⟨_, rfl, ((Blk.new w 37 [v0, v1]).alloc _).alloc _, (Blk.at_new (w.alloc (.cells #[v0, v1] 37)) 37 [u0, u1] (by simp)).alloc _, Blk.at_new ((w.alloc (.cells #[v0, v1] 37)).alloc (.cells #[u0, u1] 37)) 39 [.bool false, .slice none 0 0, .slice none 0 0] (by simp),
    (((below_one w _).alloc (by simp) _).alloc (by simp; omega) _), by simp⟩

set_option maxRecDepth 10000 in
set_option maxHeartbeats 1600000 in
/-- a number by another one -/
theorem ref4_Make (n n' : Bool) (a d : List Nat) (A D : Option Addr) (ca cd : Nat) (w : World) (h : Rd w (fun g => g < w.heap.size) .u32 A a) (h' : Rd w (fun g => g < w.heap.size) .u32 D d) (hl : a.length ≤ 4194304) (hl' : d.length ≤ 4194304) (ha : Dg 4294967296 a) (hd : Dg 4294967296 d) :
    Calls Tryz.prog 80 #[.agg #[.bool n, .slice A a.length ca], .agg #[.bool n', .slice D d.length cd]] w (GivesFE (wv (!(n == n')) a) (val 4294967296 d) w) := by
  obtain ⟨W, hW, k1, k2, k3, b0, s0⟩ := whole_boxesf w (.bool n) (.slice A a.length ca) (.bool n') (.slice D d.length cd)
  have cG := ref2_Sign n' d D cd W (h'.on b0) (by omega) hd
  have hab := wv_abs n' d
  obtain ⟨z, hz⟩ : ∃ z, sgn (wv n' d) = z := ⟨_, rfl⟩
  rw [hz] at cG
  have p := k2.cell 0 rfl
  have q := k2.cell 1 rfl
  by_cases hd0 : val 4294967296 d = 0
  · have : wv n' d = 0 := by omega
    rw [this] at hz
    obtain rfl : z = 0 := by rw [← hz]; rfl
    clear hz hab this
    go_enter Tryz.func80, Tryz.ntmps80
    go_wp2_with fail
    try rw [hW]
    refine cG.mono ?_
    rintro e w1 ⟨rfl, b1⟩
    have K3 := k3.below b1 k3.lt
    obtain ⟨i0, i1, i2, j0, j1, j2⟩ := K3.facts
    obtain ⟨U, hU, u0, u1, u2, kU, bU, oU, sU⟩ := K3.three (.bool false) (.slice none 0 0) (.slice none 0 0)
    have B := (b0.trans (b1.mono b0.size)).trans (bU w.heap.size (by omega))
    have HZ := Lib.hid hU
    have HF := Lib.hid (And.intro u0 (And.intro u1 u2))
    have HB := Lib.hid B
    clear hU u0 u1 u2 kU bU oU sU B b1 K3 k1 k2 k3 cG
    go_wp2_with fail
    rw [HZ.out]
    obtain ⟨u0, u1, u2⟩ := HF.out
    exact bodyPost_ret (v := .tuple #[.agg #[.bool false, .slice none 0 0, .slice none 0 0], .int .i64 5]) (by simp [results, Tryz.results80, go_sem, u0, u1, u2]) rfl (.inl ⟨hd0, rfl, HB.out⟩)
  · have hzn : ¬ z = 0 := by
      rw [← hz]
      unfold sgn
      split
      · omega
      · split <;> omega
    have hdp : 0 < val 4294967296 d := by omega
    have HDP := Lib.hid hdp
    have cM := fun (V : World) (hV : Below W.heap.size W V) => ref2_Make (!(n == n')) a A ca _ V ((h.on b0).on hV) (by omega) ha rfl
    obtain ⟨P, hP⟩ : ∃ P, wv (!(n == n')) a = P := ⟨_, rfl⟩
    have cR : ∀ (V : World) (x : List Nat) (X : Option Addr) (cx : Nat), Below W.heap.size W V → Rd V (fun g => g < V.heap.size) .u32 X x → Norm 4294967296 x → val 4294967296 x = P.natAbs → Calls Tryz.prog 102 #[.agg #[.bool (decide (P < 0)), .slice X x.length cx, .slice D d.length cd]] V (GivesF P (val 4294967296 d) V) := fun V x X cx hV hx hn hv => by
      have lx := len_le (b := 4294967296) (by omega) hn.2 ha (by rw [hv, ← hP, wv_abs]; exact Nat.le_refl _)
      have := ref4_Reduce (decide (P < 0)) x d X D cx cd V hx ((h'.on b0).on hV) (by omega) (by omega) hn.1 hd
      rwa [upN_of hdp, loD_of hdp, wv_dec hv] at this
    simp only [hP] at cM
    rw [hP]
    have CM := Lib.hid cM
    have CR := Lib.hid cR
    have HK1 := Lib.hid k1
    have HK2 := Lib.hid k2
    have HK3 := Lib.hid k3
    have HB0 := Lib.hid b0
    have hlt : w.heap.size + 2 < W.heap.size := by omega
    clear cM cR hz hab hd0 hdp k1 k2 k3 hP b0 h h'
    go_enter Tryz.func80, Tryz.ntmps80
    go_wp2_with fail
    try rw [hW]
    refine cG.mono ?_
    rintro e w1 ⟨rfl, b1⟩
    clear cG p q hW
    have K0 : Below W.heap.size W w1.drew := below_drewN b1 1
    have HK0 := Lib.hid K0
    obtain ⟨x0, x1⟩ := keep2w HK1.out b1
    obtain ⟨y0, y1⟩ := keep2w HK2.out b1
    obtain ⟨i0, i1, i2, i3, i4, i5⟩ := (HK3.out.below b1 HK3.out.lt).facts
    go_wp2_with fail
    go_region_held3 (fun w' => (w'.cell? ⟨w.heap.size, 0, none⟩ = some (.bool n) ∧ w'.cell? ⟨w.heap.size, 1, none⟩ = some (.slice A a.length ca)) ∧ (w'.cell? ⟨w.heap.size + 1, 0, none⟩ = some (.bool n') ∧ w'.cell? ⟨w.heap.size + 1, 1, none⟩ = some (.slice D d.length cd)))
      (first | (with_reducible exact ⟨keep2w HK1.out K0, keep2w HK2.out K0⟩) | (with_reducible exact ⟨keep2w HK1.out KA, keep2w HK2.out KA⟩) | (with_reducible exact ⟨keep2w HK1.out KB, keep2w HK2.out KB⟩) | (with_reducible exact ⟨far_cells2 (HK1.out.below KB HK1.out.lt) (by omega) _ _ _, far_cells2 (HK2.out.below KB HK2.out.lt) (by omega) _ _ _⟩) | go_keep)
      ((first
        | (go_at_call 125; (with_reducible refine Calls.mono (CM.out _ K0) ?_); rintro e w2 ⟨X, x, cx, rfl, hcx, hnx, hvx, rx, b2⟩; have KA := below_next K0 (Nat.le_refl _) b2)
        | (go_at_call 102; (with_reducible refine Calls.mono (CR.out _ x X cx KA rx hnx hvx) ?_); rintro e w3 ⟨A3, a3, c3, D3, d3, e3, rfl, hc3, hd3, hn3, hm3, hv3, hu3, r3, q3, b3⟩; have KB := below_next KA (Nat.le_refl _) b3; obtain ⟨i0, i1, i2, j0, j1, j2⟩ := (HK3.out.below KB HK3.out.lt).facts)))
    obtain ⟨Z, hZ, u0, u1, u2, hG⟩ := fin_frac (w := w) (HK3.out.below KB HK3.out.lt) (by omega) (HB0.out.trans (KB.mono HB0.out.size)) hc3 hd3 hn3 hm3 hv3 hu3 r3 q3
    have HZ := Lib.hid hZ
    have HF := Lib.hid (And.intro u0 (And.intro u1 u2))
    have HG := Lib.hid hG
    clear hZ u0 u1 u2 hG hv3 hu3 hvx r3 q3 rx i0 i1 i2 j0 j1 j2 CM CR
    go_wp2_with fail
    rw [HZ.out]
    obtain ⟨u0, u1, u2⟩ := HF.out
    exact bodyPost_ret (v := .tuple #[.agg #[.bool (decide (P < 0)), .slice A3 a3.length c3, .slice D3 d3.length e3], .int .i64 0]) (by simp [results, Tryz.results80, go_sem, u0, u1, u2]) rfl (.inr ⟨HDP.out, _, rfl, HG.out⟩)
end Go.Proofs.YtdmoibphidipeaaGreatDoor
/- Fractions, the document's own: what Cmp answers. -/

namespace Go.Proofs.YtdmoibphidipeaaGreatDoor
open Go.RowKit Num

/-- two arguments' boxes -/
theorem frac_pair (w : World) (v0 v1 v2 u0 u1 u2 : Value) : ∃ W, (w.alloc (.cells #[v0, v1, v2] 39)).alloc (.cells #[u0, u1, u2] 39) = W ∧ Blk W w.heap.size 39 [v0, v1, v2] ∧ Blk W (w.heap.size + 1) 39 [u0, u1, u2] ∧ Below w.heap.size w W ∧ W.heap.size = w.heap.size + 2 :=
  ⟨_, rfl, (Blk.new w 39 [v0, v1, v2]).alloc _, Blk.at_new (w.alloc (.cells #[v0, v1, v2] 39)) 39 [u0, u1, u2] (by simp),
    ((below_one w _).alloc (by simp) _), by simp⟩

set_option maxRecDepth 10000 in
set_option maxHeartbeats 1600000 in
/-- how two stand -/
theorem ref4_Cmp (n n' : Bool) (a d a' d' : List Nat) (A D A' D' : Option Addr) (ca cd ca' cd' : Nat) (w : World) (h1 : Rd w (fun g => g < w.heap.size) .u32 A a) (h2 : Rd w (fun g => g < w.heap.size) .u32 D d) (h3 : Rd w (fun g => g < w.heap.size) .u32 A' a') (h4 : Rd w (fun g => g < w.heap.size) .u32 D' d') (hl1 : a.length ≤ 2097152) (hl2 : d.length ≤ 2097152) (hl3 : a'.length ≤ 2097152) (hl4 : d'.length ≤ 2097152) (ha : Dg 4294967296 a) (hd : Dg 4294967296 d) (ha' : Dg 4294967296 a') (hd' : Dg 4294967296 d') :
    Calls Tryz.prog 41 #[.agg #[.bool n, .slice A a.length ca, .slice D d.length cd], .agg #[.bool n', .slice A' a'.length ca', .slice D' d'.length cd']] w fun e w' => e = .returned (.int .i64 (sgn (upN n a d * (loD d' : Int) - upN n' a' d' * (loD d : Int)))) ∧ Below w.heap.size w w' := by
  obtain ⟨W, hW, k1, k2, b0, s0⟩ := frac_pair w (.bool n) (.slice A a.length ca) (.slice D d.length cd) (.bool n') (.slice A' a'.length ca') (.slice D' d'.length cd')
  obtain ⟨p0, p1, p2, p3, p4, p5⟩ := k1.facts
  obtain ⟨z0, z1, z2, z3, z4, z5⟩ := k2.facts
  have c1 := fun (V : World) (hV : Below W.heap.size W V) => ref4_worth n a d A D ca cd 2097152 V ((h1.on b0).on hV) ((h2.on b0).on hV) (by omega) (by omega) hl1 hl2 ha hd
  have c2 := fun (V : World) (hV : Below W.heap.size W V) => ref4_worth n' a' d' A' D' ca' cd' 2097152 V ((h3.on b0).on hV) ((h4.on b0).on hV) (by omega) (by omega) hl3 hl4 ha' hd'
  have K0 : Below W.heap.size W W.drew := below_drewN (Below.refl _ _) 1
  have C1 := Lib.hid c1
  have C2 := Lib.hid c2
  have HK1 := Lib.hid k1
  have HK2 := Lib.hid k2
  have hlt : w.heap.size + 1 < W.heap.size := by omega
  have HH := Lib.hid (And.intro h1 (And.intro h2 (And.intro h3 h4)))
  clear c1 c2 k1 k2 h1 h2 h3 h4
  go_enter Tryz.func41, Tryz.ntmps41
  go_wp2_with fail
  try rw [hW]
  clear hW
  go_cut [] from 5 (fun wc => Worthed w wc 2097152 (upN n a d) (loD d) (upN n' a' d') (loD d') ∧ (∀ g t vs, g ≠ w.heap.size → g ≠ w.heap.size + 1 → Blk W g t vs → Blk wc g t vs))
  case first =>
    go_region_with (first
      | (go_at_call_of 76 (Value.slice A a.length ca); (with_reducible refine Calls.mono (C1.out _ K0) ?_); rintro e w1 ⟨n1, a1, A1, c1, d1, D1, e1, rfl, x1, x2, x3, x4, x5, x6, r1, q1, b1⟩; have KA := below_next K0 (Nat.le_refl _) b1; obtain ⟨m0, m1, m2, m3, m4, m5⟩ := (HK1.out.below KA HK1.out.lt).facts; obtain ⟨o0, o1, o2, o3, o4, o5⟩ := (HK2.out.below KA HK2.out.lt).facts)
      | (go_at_call_of 76 (Value.slice A' a'.length ca'); (with_reducible refine Calls.mono (C2.out _ KA) ?_); rintro e w2 ⟨n2, a2, A2, c2, d2, D2, e2, rfl, y1, y2, y3, y4, y5, y6, r2, q2, b2⟩; have KB := below_next KA (Nat.le_refl _) b2; obtain ⟨m6, m7, m8, m9, ma, mb⟩ := (HK1.out.below KB HK1.out.lt).facts; obtain ⟨o6, o7, o8, o9, oa, ob⟩ := (HK2.out.below KB HK2.out.lt).facts))
    all_goals
      have hw := worthed (c1 := c1) (e1 := e1) (c2 := c2) (e2 := e2) (HK1.out.below KB HK1.out.lt) (HK2.out.below KB HK2.out.lt) (b0.trans (KB.mono b0.size)) x1 x2 y1 y2 x3 x4 y3 y4 x5 x6 y5 y6 (r1.on b2) (q1.on b2) r2 q2
      have HW := Lib.hid hw
      have HKB := Lib.hid KB
      clear hw KB KA b1 b2 r1 q1 r2 q2 x1 x2 x3 x4 x5 x6 y1 y2 y3 y4 y5 y6 m0 m1 m2 m3 m4 m5 m6 m7 m8 m9 ma mb o0 o1 o2 o3 o4 o5 o6 o7 o8 o9 oa ob
      go_wp2_with fail
      go_meet
      exact ⟨HW.out.1, fun g t vs g1 g2 k => HW.out.2 g t vs g1 g2 (k.below HKB.out k.lt)⟩
  case rest =>
    obtain ⟨⟨n1, a1, A1, c1, d1, D1, e1, n2, a2, A2, c2, d2, D2, e2, kU, kV, x1, x2, y1, y2, x3, x4, y3, y4, x5, x6, y5, y6, r1, q1, r2, q2, bU⟩, hO⟩ := hcut
    have hlt2 : w.heap.size + 1 < wc.heap.size := kV.lt
    have K0' : Below wc.heap.size wc wc.drew := below_drewN (Below.refl _ _) 1
    obtain ⟨P1, hP1⟩ : ∃ P, wv n1 a1 * wv false d2 = P := ⟨_, rfl⟩
    obtain ⟨P2, hP2⟩ : ∃ P, wv n2 a2 * wv false d1 = P := ⟨_, rfl⟩
    have cU1 := fun (V : World) => ref4_up n1 a1 d1 A1 D1 c1 e1 V
    have cU2 := fun (V : World) => ref4_up n2 a2 d2 A2 D2 c2 e2 V
    have cM1 := fun (V : World) (hV : Below wc.heap.size wc V) => ref2_Mul n1 false a1 d2 A1 D2 c1 e2 V (r1.on hV) (q2.on hV) (by omega) (by omega) x1 y2
    have cM2 := fun (V : World) (hV : Below wc.heap.size wc V) => ref2_Mul n2 false a2 d1 A2 D1 c2 e1 V (r2.on hV) (q1.on hV) (by omega) (by omega) y1 x2
    simp only [hP1] at cM1
    simp only [hP2] at cM2
    have hl1 : ∀ x : List Nat, Norm 4294967296 x → val 4294967296 x = P1.natAbs → x.length ≤ 4194304 := fun x hn hv => Nat.le_trans (len_mul (b := 4294967296) (by omega) hn.2 x1 y2 (by rw [hv, ← hP1, Int.natAbs_mul, wv_abs, wv_abs])) (by omega)
    have hl2 : ∀ x : List Nat, Norm 4294967296 x → val 4294967296 x = P2.natAbs → x.length ≤ 4194304 := fun x hn hv => Nat.le_trans (len_mul (b := 4294967296) (by omega) hn.2 y1 x2 (by rw [hv, ← hP2, Int.natAbs_mul, wv_abs, wv_abs])) (by omega)
    have cC : ∀ (V : World) (x y : List Nat) (X Y : Option Addr) (cx cy : Nat), Rd V (fun g => g < V.heap.size) .u32 X x → Rd V (fun g => g < V.heap.size) .u32 Y y → Norm 4294967296 x → Norm 4294967296 y → val 4294967296 x = P1.natAbs → val 4294967296 y = P2.natAbs → Calls Tryz.prog 77 #[.agg #[.bool (decide (P1 < 0)), .slice X x.length cx], .agg #[.bool (decide (P2 < 0)), .slice Y y.length cy]] V (fun e w' => e = .returned (.int .i64 (sgn (P1 - P2))) ∧ Below V.heap.size V w') := fun V x y X Y cx cy hx hy hn hm hv hu => by
      have lx := hl1 x hn hv
      have ly := hl2 y hm hu
      have := ref2_Cmp (decide (P1 < 0)) (decide (P2 < 0)) x y X Y cx cy V hx hy (by omega) (by omega) hn.1 hm.1
      rwa [wv_dec hv, wv_dec hu] at this
    have hPP : P1 - P2 = upN n a d * (loD d' : Int) - upN n' a' d' * (loD d : Int) := by rw [← hP1, ← hP2, wv_false, wv_false, x5, y5, x6, y6]
    have HPP := Lib.hid hPP
    have CU1 := Lib.hid cU1
    have CU2 := Lib.hid cU2
    have CM1 := Lib.hid cM1
    have CM2 := Lib.hid cM2
    have CC := Lib.hid cC
    have HKU := Lib.hid kU
    have HKV := Lib.hid kV
    have HBU := Lib.hid bU
    clear cU1 cU2 cM1 cM2 cC kU kV bU hO hP1 hP2 hPP hl1 hl2 r1 q1 r2 q2 C1 C2 HK1 HK2 HH K0 p0 p1 p2 p3 p4 p5 z0 z1 z2 z3 z4 z5 b0 s0 hlt x5 x6 y5 y6
    go_wp2_with fail
    go_region_held3 (fun w' => (w'.cell? ⟨w.heap.size, 0, none⟩ = some (.bool n1) ∧ w'.cell? ⟨w.heap.size, 1, none⟩ = some (.slice A1 a1.length c1) ∧ w'.cell? ⟨w.heap.size, 2, none⟩ = some (.slice D1 d1.length e1)) ∧ (w'.cell? ⟨w.heap.size + 1, 0, none⟩ = some (.bool n2) ∧ w'.cell? ⟨w.heap.size + 1, 1, none⟩ = some (.slice A2 a2.length c2) ∧ w'.cell? ⟨w.heap.size + 1, 2, none⟩ = some (.slice D2 d2.length e2)))
      (first | (with_reducible exact ⟨keep3 HKU.out K0', keep3 HKV.out K0'⟩) | (with_reducible exact ⟨keep3 HKU.out KA, keep3 HKV.out KA⟩) | (with_reducible exact ⟨keep3 HKU.out KB, keep3 HKV.out KB⟩) | (with_reducible exact ⟨keep3 HKU.out KC, keep3 HKV.out KC⟩) | (with_reducible exact ⟨keep3 HKU.out KD, keep3 HKV.out KD⟩) | (with_reducible exact ⟨keep3 HKU.out KE, keep3 HKV.out KE⟩) | go_keep)
      ((first
        | (go_at_call_of 79 (Value.slice A2 a2.length c2); (with_reducible refine Calls.mono (CU2.out _) ?_); rintro e w2 ⟨rfl, b2⟩; have KA := below_next K0' (Nat.le_refl _) b2)
        | (go_at_call_of 78 (Value.slice A1 a1.length c1); (with_reducible refine Calls.mono (CM1.out _ KA) ?_); rintro e w3 ⟨X, x, cx, rfl, hcx, hnx, hvx, rx, b3⟩; have KB := below_next KA (Nat.le_refl _) b3)
        | (go_at_call_of 79 (Value.slice A1 a1.length c1); (with_reducible refine Calls.mono (CU1.out _) ?_); rintro e w4 ⟨rfl, b4⟩; have KC := below_next KB (Nat.le_refl _) b4)
        | (go_at_call_of 78 (Value.slice A2 a2.length c2); (with_reducible refine Calls.mono (CM2.out _ KC) ?_); rintro e w5 ⟨Y, y, cy, rfl, hcy, hny, hvy, ry, b5⟩; have KD := below_next KC (Nat.le_refl _) b5)
        | (go_at_call 77; (with_reducible refine Calls.mono (CC.out _ x y X Y cx cy (rx.on (b4.trans (b5.mono b4.size))) ry hnx hny hvx hvy) ?_); rintro e w6 ⟨rfl, b6⟩; have KE := below_next KD (Nat.le_refl _) b6)))
    have HB := Lib.hid (HBU.out.trans (KE.mono HBU.out.size))
    go_wp2_with fail
    refine bodyPost_ret (v := .int .i64 (sgn (P1 - P2))) (by simp [results, Tryz.results41, go_sem]) rfl ⟨?_, HB.out⟩
    rw [HPP.out]
end Go.Proofs.YtdmoibphidipeaaGreatDoor
/- Fractions, the document's own: what Div answers. -/

namespace Go.Proofs.YtdmoibphidipeaaGreatDoor
open Go.RowKit Num

/-- what stands in a fraction and an error that are answered together -/
def Fit (P : Int) (Q : Nat) (n : Bool) (A : Option Addr) (la ca : Nat) (D : Option Addr) (ld cd : Nat) (c : Int) (w' : World) : Prop :=
  (Q = 0 ∧ n = false ∧ A = none ∧ la = 0 ∧ ca = 0 ∧ D = none ∧ ld = 0 ∧ cd = 0 ∧ c = 5) ∨
    (0 < Q ∧ n = decide (P < 0) ∧ c = 0 ∧ ∃ a d, la = a.length ∧ ld = d.length ∧ a.length ≤ ca ∧ d.length ≤ cd ∧ Norm 4294967296 a ∧ Norm 4294967296 d ∧ val 4294967296 a = P.natAbs / Nat.gcd P.natAbs Q ∧ val 4294967296 d = Q / Nat.gcd P.natAbs Q ∧ Rd w' (fun g => g < w'.heap.size) .u32 A a ∧ Rd w' (fun g => g < w'.heap.size) .u32 D d)
theorem GivesFE.one {P : Int} {Q : Nat} {w w' : World} {e : Ending} (h : GivesFE P Q w e w') : ∃ n A la ca D ld cd c, e = .returned (.tuple #[.agg #[.bool n, .slice A la ca, .slice D ld cd], .int .i64 c]) ∧ Fit P Q n A la ca D ld cd c w' ∧ Below w.heap.size w w' := by
  rcases h with ⟨h0, rfl, b⟩ | ⟨h0, v, rfl, A, a, ca, D, d, cd, he, h1, h2, h3, h4, h5, h6, h7, h8, b⟩
  · exact ⟨_, _, _, _, _, _, _, _, rfl, .inl ⟨h0, rfl, rfl, rfl, rfl, rfl, rfl, rfl, rfl⟩, b⟩
  · cases he
    exact ⟨_, _, _, _, _, _, _, _, rfl, .inr ⟨h0, rfl, rfl, a, d, rfl, rfl, h1, h2, h3, h4, h5, h6, h7, h8⟩, b⟩
/-- both stored where they lie -/
theorem fin_fit {w v : World} {g : Nat} {t : TypeId} (k : Blk v g t [.bool false, .slice none 0 0, .slice none 0 0]) (hg : w.heap.size ≤ g) (B : Below w.heap.size w v) {P : Int} {Q : Nat} {n : Bool} {A D : Option Addr} {la ca ld cd : Nat} {c : Int} (F : Fit P Q n A la ca D ld cd c v) :
    ∃ U, ((v.setCell ⟨g, 0, none⟩ (.bool n)).setCell ⟨g, 1, none⟩ (.slice A la ca)).setCell ⟨g, 2, none⟩ (.slice D ld cd) = U ∧ U.cell? ⟨g, 0, none⟩ = some (.bool n) ∧ U.cell? ⟨g, 1, none⟩ = some (.slice A la ca) ∧ U.cell? ⟨g, 2, none⟩ = some (.slice D ld cd) ∧
      GivesFE P Q w (.returned (.tuple #[.agg #[.bool n, .slice A la ca, .slice D ld cd], .int .i64 c])) U := by
  rcases F with ⟨h0, rfl, rfl, rfl, rfl, rfl, rfl, rfl, rfl⟩ | ⟨h0, rfl, rfl, a, d, rfl, rfl, h1, h2, h3, h4, h5, h6, h7, h8⟩
  · obtain ⟨U, hU, u0, u1, u2, -, bU, -, -⟩ := k.three (.bool false) (.slice none 0 0) (.slice none 0 0)
    exact ⟨U, hU, u0, u1, u2, .inl ⟨h0, rfl, B.trans (bU _ hg)⟩⟩
  · obtain ⟨U, hU, u0, u1, u2, hG⟩ := fin_frac k hg B h1 h2 h3 h4 h5 h6 h7 h8
    exact ⟨U, hU, u0, u1, u2, .inr ⟨h0, _, rfl, hG⟩⟩
/-- the upper part of a number by another one, that may be below 0 -/
def acrossN (P1 P2 : Int) : Int := if P2 < 0 then - P1 else P1
/-- the sign of a number by another one -/
theorem wv_across {P1 P2 : Int} {x : List Nat} (h : val 4294967296 x = P1.natAbs) : wv (!(decide (P1 < 0) == decide (P2 < 0))) x = acrossN P1 P2 := by
  unfold acrossN
  by_cases h2 : P2 < 0
  · rw [if_pos h2, decide_eq_true h2]
    by_cases h1 : P1 < 0
    · rw [decide_eq_true h1]
      show wv false x = _
      rw [wv_false, h]; omega
    · rw [decide_eq_false h1]
      show wv true x = _
      rw [wv_true, h]; omega
  · rw [if_neg h2, decide_eq_false h2]
    by_cases h1 : P1 < 0
    · rw [decide_eq_true h1]
      show wv true x = _
      rw [wv_true, h]; omega
    · rw [decide_eq_false h1]
      show wv false x = _
      rw [wv_false, h]; omega

set_option maxRecDepth 10000 in
set_option maxHeartbeats 1600000 in
/-- one by another one -/
theorem ref4_Div (n n' : Bool) (a d a' d' : List Nat) (A D A' D' : Option Addr) (ca cd ca' cd' : Nat) (w : World) (h1 : Rd w (fun g => g < w.heap.size) .u32 A a) (h2 : Rd w (fun g => g < w.heap.size) .u32 D d) (h3 : Rd w (fun g => g < w.heap.size) .u32 A' a') (h4 : Rd w (fun g => g < w.heap.size) .u32 D' d') (hl1 : a.length ≤ 2097152) (hl2 : d.length ≤ 2097152) (hl3 : a'.length ≤ 2097152) (hl4 : d'.length ≤ 2097152) (ha : Dg 4294967296 a) (hd : Dg 4294967296 d) (ha' : Dg 4294967296 a') (hd' : Dg 4294967296 d') :
    Calls Tryz.prog 42 #[.agg #[.bool n, .slice A a.length ca, .slice D d.length cd], .agg #[.bool n', .slice A' a'.length ca', .slice D' d'.length cd']] w (GivesFE (acrossN (upN n a d * (loD d' : Int)) (upN n' a' d' * (loD d : Int))) (upN n' a' d' * (loD d : Int)).natAbs w) := by
  obtain ⟨W, hW, k1, k2, k3, b0, s0⟩ := frac_boxes2 w (.bool n) (.slice A a.length ca) (.slice D d.length cd) (.bool n') (.slice A' a'.length ca') (.slice D' d'.length cd')
  obtain ⟨p0, p1, p2, p3, p4, p5⟩ := k1.facts
  obtain ⟨z0, z1, z2, z3, z4, z5⟩ := k2.facts
  have c1 := fun (V : World) (hV : Below W.heap.size W V) => ref4_worth n a d A D ca cd 2097152 V ((h1.on b0).on hV) ((h2.on b0).on hV) (by omega) (by omega) hl1 hl2 ha hd
  have c2 := fun (V : World) (hV : Below W.heap.size W V) => ref4_worth n' a' d' A' D' ca' cd' 2097152 V ((h3.on b0).on hV) ((h4.on b0).on hV) (by omega) (by omega) hl3 hl4 ha' hd'
  have K0 : Below W.heap.size W W.drew := below_drewN (Below.refl _ _) 1
  have C1 := Lib.hid c1
  have C2 := Lib.hid c2
  have HK1 := Lib.hid k1
  have HK2 := Lib.hid k2
  have HK3 := Lib.hid k3
  have hlt : w.heap.size + 2 < W.heap.size := by omega
  have HH := Lib.hid (And.intro h1 (And.intro h2 (And.intro h3 h4)))
  clear c1 c2 k1 k2 k3 h1 h2 h3 h4
  go_enter Tryz.func42, Tryz.ntmps42
  go_wp2_with fail
  try rw [hW]
  clear hW
  go_cut [] from 6 (fun wc => Worthed w wc 2097152 (upN n a d) (loD d) (upN n' a' d') (loD d') ∧ (∀ g t vs, g ≠ w.heap.size → g ≠ w.heap.size + 1 → Blk W g t vs → Blk wc g t vs))
  case first =>
    go_region_with (first
      | (go_at_call_of 76 (Value.slice A a.length ca); (with_reducible refine Calls.mono (C1.out _ K0) ?_); rintro e w1 ⟨n1, a1, A1, c1, d1, D1, e1, rfl, x1, x2, x3, x4, x5, x6, r1, q1, b1⟩; have KA := below_next K0 (Nat.le_refl _) b1; obtain ⟨m0, m1, m2, m3, m4, m5⟩ := (HK1.out.below KA HK1.out.lt).facts; obtain ⟨o0, o1, o2, o3, o4, o5⟩ := (HK2.out.below KA HK2.out.lt).facts)
      | (go_at_call_of 76 (Value.slice A' a'.length ca'); (with_reducible refine Calls.mono (C2.out _ KA) ?_); rintro e w2 ⟨n2, a2, A2, c2, d2, D2, e2, rfl, y1, y2, y3, y4, y5, y6, r2, q2, b2⟩; have KB := below_next KA (Nat.le_refl _) b2; obtain ⟨m6, m7, m8, m9, ma, mb⟩ := (HK1.out.below KB HK1.out.lt).facts; obtain ⟨o6, o7, o8, o9, oa, ob⟩ := (HK2.out.below KB HK2.out.lt).facts))
    all_goals
      have hw := worthed (c1 := c1) (e1 := e1) (c2 := c2) (e2 := e2) (HK1.out.below KB HK1.out.lt) (HK2.out.below KB HK2.out.lt) (b0.trans (KB.mono b0.size)) x1 x2 y1 y2 x3 x4 y3 y4 x5 x6 y5 y6 (r1.on b2) (q1.on b2) r2 q2
      have HW := Lib.hid hw
      have HKB := Lib.hid KB
      clear hw KB KA b1 b2 r1 q1 r2 q2 x1 x2 x3 x4 x5 x6 y1 y2 y3 y4 y5 y6 m0 m1 m2 m3 m4 m5 m6 m7 m8 m9 ma mb o0 o1 o2 o3 o4 o5 o6 o7 o8 o9 oa ob
      go_wp2_with fail
      go_meet
      exact ⟨HW.out.1, fun g t vs g1 g2 k => HW.out.2 g t vs g1 g2 (k.below HKB.out k.lt)⟩
  case rest =>
    obtain ⟨⟨n1, a1, A1, c1, d1, D1, e1, n2, a2, A2, c2, d2, D2, e2, kU, kV, x1, x2, y1, y2, x3, x4, y3, y4, x5, x6, y5, y6, r1, q1, r2, q2, bU⟩, hO⟩ := hcut
    have kR := hO _ _ _ (by omega) (by omega) HK3.out
    have hlt2 : w.heap.size + 2 < wc.heap.size := kR.lt
    have K0' : Below wc.heap.size wc wc.drew := below_drewN (Below.refl _ _) 1
    obtain ⟨P1, hP1⟩ : ∃ P, wv n1 a1 * wv false d2 = P := ⟨_, rfl⟩
    obtain ⟨P2, hP2⟩ : ∃ P, wv n2 a2 * wv false d1 = P := ⟨_, rfl⟩
    have cU1 := fun (V : World) => ref4_up n1 a1 d1 A1 D1 c1 e1 V
    have cU2 := fun (V : World) => ref4_up n2 a2 d2 A2 D2 c2 e2 V
    have cM1 := fun (V : World) (hV : Below wc.heap.size wc V) => ref2_Mul n1 false a1 d2 A1 D2 c1 e2 V (r1.on hV) (q2.on hV) (by omega) (by omega) x1 y2
    have cM2 := fun (V : World) (hV : Below wc.heap.size wc V) => ref2_Mul n2 false a2 d1 A2 D1 c2 e1 V (r2.on hV) (q1.on hV) (by omega) (by omega) y1 x2
    simp only [hP1] at cM1
    simp only [hP2] at cM2
    have hl1 : ∀ x : List Nat, Norm 4294967296 x → val 4294967296 x = P1.natAbs → x.length ≤ 4194304 := fun x hn hv => Nat.le_trans (len_mul (b := 4294967296) (by omega) hn.2 x1 y2 (by rw [hv, ← hP1, Int.natAbs_mul, wv_abs, wv_abs])) (by omega)
    have hl2 : ∀ x : List Nat, Norm 4294967296 x → val 4294967296 x = P2.natAbs → x.length ≤ 4194304 := fun x hn hv => Nat.le_trans (len_mul (b := 4294967296) (by omega) hn.2 y1 x2 (by rw [hv, ← hP2, Int.natAbs_mul, wv_abs, wv_abs])) (by omega)
    have cC : ∀ (V : World) (x y : List Nat) (X Y : Option Addr) (cx cy : Nat), Rd V (fun g => g < V.heap.size) .u32 X x → Rd V (fun g => g < V.heap.size) .u32 Y y → Norm 4294967296 x → Norm 4294967296 y → val 4294967296 x = P1.natAbs → val 4294967296 y = P2.natAbs → Calls Tryz.prog 80 #[.agg #[.bool (decide (P1 < 0)), .slice X x.length cx], .agg #[.bool (decide (P2 < 0)), .slice Y y.length cy]] V (GivesFE (acrossN P1 P2) P2.natAbs V) := fun V x y X Y cx cy hx hy hn hm hv hu => by
      have lx := hl1 x hn hv
      have ly := hl2 y hm hu
      have := ref4_Make (decide (P1 < 0)) (decide (P2 < 0)) x y X Y cx cy V hx hy (by omega) (by omega) hn.1 hm.1
      rwa [wv_across hv, hu] at this
    obtain ⟨P, hP⟩ : ∃ P, acrossN P1 P2 = P := ⟨_, rfl⟩
    obtain ⟨Q, hQ⟩ : ∃ Q, P2.natAbs = Q := ⟨_, rfl⟩
    have HE := Lib.hid (show acrossN (upN n a d * (loD d' : Int)) (upN n' a' d' * (loD d : Int)) = P ∧ (upN n' a' d' * (loD d : Int)).natAbs = Q by
      rw [← x5, ← x6, ← y5, ← y6, ← hQ, ← hP, ← hP1, ← hP2, wv_false, wv_false]
      exact ⟨rfl, rfl⟩)
    have cC' : ∀ (V : World) (x y : List Nat) (X Y : Option Addr) (cx cy : Nat), Rd V (fun g => g < V.heap.size) .u32 X x → Rd V (fun g => g < V.heap.size) .u32 Y y → Norm 4294967296 x → Norm 4294967296 y → val 4294967296 x = P1.natAbs → val 4294967296 y = P2.natAbs → Calls Tryz.prog 80 #[.agg #[.bool (decide (P1 < 0)), .slice X x.length cx], .agg #[.bool (decide (P2 < 0)), .slice Y y.length cy]] V (GivesFE P Q V) := fun V x y X Y cx cy hx hy hn hm hv hu => by
      have := cC V x y X Y cx cy hx hy hn hm hv hu
      rwa [hP, hQ] at this
    have CU1 := Lib.hid cU1
    have CU2 := Lib.hid cU2
    have CM1 := Lib.hid cM1
    have CM2 := Lib.hid cM2
    have CC := Lib.hid cC'
    have HKU := Lib.hid kU
    have HKV := Lib.hid kV
    have HKR := Lib.hid kR
    have HBU := Lib.hid bU
    clear cU1 cU2 cM1 cM2 cC' cC kU kV kR bU hO hP1 hP2 hP hQ hl1 hl2 r1 q1 r2 q2 C1 C2 HK1 HK2 HK3 HH K0 p0 p1 p2 p3 p4 p5 z0 z1 z2 z3 z4 z5 b0 s0 hlt x5 x6 y5 y6
    go_wp2_with fail
    go_region_held3 (fun w' => (w'.cell? ⟨w.heap.size, 0, none⟩ = some (.bool n1) ∧ w'.cell? ⟨w.heap.size, 1, none⟩ = some (.slice A1 a1.length c1) ∧ w'.cell? ⟨w.heap.size, 2, none⟩ = some (.slice D1 d1.length e1)) ∧ (w'.cell? ⟨w.heap.size + 1, 0, none⟩ = some (.bool n2) ∧ w'.cell? ⟨w.heap.size + 1, 1, none⟩ = some (.slice A2 a2.length c2) ∧ w'.cell? ⟨w.heap.size + 1, 2, none⟩ = some (.slice D2 d2.length e2)))
      (first | (with_reducible exact ⟨keep3 HKU.out K0', keep3 HKV.out K0'⟩) | (with_reducible exact ⟨keep3 HKU.out KA, keep3 HKV.out KA⟩) | (with_reducible exact ⟨keep3 HKU.out KB, keep3 HKV.out KB⟩) | (with_reducible exact ⟨keep3 HKU.out KC, keep3 HKV.out KC⟩) | (with_reducible exact ⟨keep3 HKU.out KD, keep3 HKV.out KD⟩) | (with_reducible exact ⟨keep3 HKU.out KE, keep3 HKV.out KE⟩) | (with_reducible exact ⟨far_cells (HKU.out.below KE HKU.out.lt) (by omega) _ _ _, far_cells (HKV.out.below KE HKV.out.lt) (by omega) _ _ _⟩) | go_keep)
      ((first
        | (go_at_call_of 79 (Value.slice A2 a2.length c2); (with_reducible refine Calls.mono (CU2.out _) ?_); rintro e w2 ⟨rfl, b2⟩; have KA := below_next K0' (Nat.le_refl _) b2)
        | (go_at_call_of 78 (Value.slice A1 a1.length c1); (with_reducible refine Calls.mono (CM1.out _ KA) ?_); rintro e w3 ⟨X, x, cx, rfl, hcx, hnx, hvx, rx, b3⟩; have KB := below_next KA (Nat.le_refl _) b3)
        | (go_at_call_of 79 (Value.slice A1 a1.length c1); (with_reducible refine Calls.mono (CU1.out _) ?_); rintro e w4 ⟨rfl, b4⟩; have KC := below_next KB (Nat.le_refl _) b4)
        | (go_at_call_of 78 (Value.slice A2 a2.length c2); (with_reducible refine Calls.mono (CM2.out _ KC) ?_); rintro e w5 ⟨Y, y, cy, rfl, hcy, hny, hvy, ry, b5⟩; have KD := below_next KC (Nat.le_refl _) b5)
        | (go_at_call 80; (with_reducible refine Calls.mono (CC.out _ x y X Y cx cy (rx.on (b4.trans (b5.mono b4.size))) ry hnx hny hvx hvy) ?_); rintro e w6 h6; obtain ⟨n6, A6, la, c6, D6, ld, e6, er, rfl, f6, b6⟩ := h6.one; clear h6; have KE := below_next KD (Nat.le_refl _) b6; obtain ⟨i0, i1, i2, j0, j1, j2⟩ := (HKR.out.below KE HKR.out.lt).facts)))
    obtain ⟨Z, hZ, u0, u1, u2, hG⟩ := fin_fit (w := w) (HKR.out.below KE HKR.out.lt) (by omega) (HBU.out.trans (KE.mono HBU.out.size)) f6
    have HZ := Lib.hid hZ
    have HF := Lib.hid (And.intro u0 (And.intro u1 u2))
    have HG := Lib.hid hG
    clear hZ u0 u1 u2 hG f6 i0 i1 i2 j0 j1 j2 CM1 CM2 CU1 CU2 CC
    go_wp2_with fail
    rw [HZ.out]
    obtain ⟨u0, u1, u2⟩ := HF.out
    refine bodyPost_ret (v := .tuple #[.agg #[.bool n6, .slice A6 la c6, .slice D6 ld e6], .int .i64 er]) (by simp [results, Tryz.results42, go_sem, u0, u1, u2]) rfl ?_
    rw [HE.out.1, HE.out.2]
    exact HG.out
end Go.Proofs.YtdmoibphidipeaaGreatDoor
