/- Fractions, the document's own: what worth, up and Reduce answer. -/
import Derived.Test.YtbhahddgajkchaaZWrX
import Derived.Test.YtbhahddgajkchaaZRrX
import Derived.Test.YtbhahddgajkchaaZWrY
namespace Go.Proofs.Ytbhahddgajkchaa
open Go.RowKit Num

/-- three cells stored into a block -/
theorem Blk.three {w : World} {g : Nat} {t : TypeId} {a0 a1 a2 : Value} (h : Blk w g t [a0, a1, a2]) (u0 u1 u2 : Value) :
    ∃ W, ((w.setCell ⟨g, 0, none⟩ u0).setCell ⟨g, 1, none⟩ u1).setCell ⟨g, 2, none⟩ u2 = W ∧ W.cell? ⟨g, 0, none⟩ = some u0 ∧ W.cell? ⟨g, 1, none⟩ = some u1 ∧ W.cell? ⟨g, 2, none⟩ = some u2 ∧ Blk W g t [u0, u1, u2] ∧ (∀ B, B ≤ g → Below B w W) ∧ (∀ g' t' vs, g' ≠ g → Blk w g' t' vs → Blk W g' t' vs) ∧ W.heap.size = w.heap.size := by
  have k := ((h.set 0 u0).set 1 u1).set 2 u2
  exact ⟨_, rfl, k.cell 0 rfl, k.cell 1 rfl, k.cell 2 rfl, k, fun _ hB => (((Below.refl _ _).setCell hB _).setCell hB _).setCell hB _, fun _ _ _ hne k => ((k.far hne u0).far hne u1).far hne u2, by simp [World.setCell]⟩
/-- words that are read stay when another block's cells are stored, one that holds no integers there -/
theorem Num.Rd.far3 {w : World} {g : Nat} {t : TypeId} {x : Bool} {p q : Option Addr} {n m n' m' : Nat} {k : IntKind} {A : Option Addr} {xs : List Nat} (h : Rd w (fun g => g < w.heap.size) k A xs) (f : Blk w g t [.bool x, .slice p n m, .slice q n' m']) {W : World} (u0 u1 u2 : Value) (hW : ((w.setCell ⟨g, 0, none⟩ u0).setCell ⟨g, 1, none⟩ u1).setCell ⟨g, 2, none⟩ u2 = W) : Rd W (fun g => g < W.heap.size) k A xs := fun hn => by
  obtain ⟨b, o, e, hb, hc⟩ := h hn
  have hne : b ≠ g := by
    rintro rfl
    have h0 := hc 0 hn
    rw [cell_of_row _ _ _ _ _ _ f] at h0
    match o, h0 with
    | 0, h0 => simp at h0
    | 1, h0 => simp at h0
    | 2, h0 => simp at h0
    | o + 3, h0 => simp at h0
  subst hW
  refine ⟨b, o, e, by simpa [World.setCell] using hb, fun j hj => ?_⟩
  rw [← hc j hj]
  exact World.cell?_of_block (((Below.heap_setCell _ _ u2 b hne).trans (Below.heap_setCell _ _ u1 b hne)).trans (Below.heap_setCell _ _ u0 b hne))
/-- an argument's box and the result's one -/
theorem frac_boxes (w : World) (v0 v1 v2 : Value) : ∃ W, (w.alloc (.cells #[v0, v1, v2] 50)).alloc (.cells #[.bool false, .slice none 0 0, .slice none 0 0] 50) = W ∧ Blk W w.heap.size 50 [v0, v1, v2] ∧ Blk W (w.heap.size + 1) 50 [.bool false, .slice none 0 0, .slice none 0 0] ∧ Below w.heap.size w W ∧ W.heap.size = w.heap.size + 2 :=
  ⟨_, rfl, (Blk.new w 50 [v0, v1, v2]).alloc _, Blk.at_new (w.alloc (.cells #[v0, v1, v2] 50)) 50 [.bool false, .slice none 0 0, .slice none 0 0] (by simp), (below_one w _).trans ((below_one (w.alloc (.cells #[v0, v1, v2] 50)) _).mono (by simp)), by simp⟩
/-- a cell's facts of three -/
theorem Blk.facts {w : World} {g : Nat} {t : TypeId} {a0 a1 a2 : Value} (h : Blk w g t [a0, a1, a2]) : w.cell? ⟨g, 0, none⟩ = some a0 ∧ w.cell? ⟨g, 1, none⟩ = some a1 ∧ w.cell? ⟨g, 2, none⟩ = some a2 ∧ w.frozen? ⟨g, 0, none⟩ = false ∧ w.frozen? ⟨g, 1, none⟩ = false ∧ w.frozen? ⟨g, 2, none⟩ = false :=
  ⟨h.cell 0 rfl, h.cell 1 rfl, h.cell 2 rfl, h.frozen 0, h.frozen 1, h.frozen 2⟩

/-- a fraction, not reduced -/
def GivesRaw (P : Int) (Q m : Nat) (w : World) (e : Ending) (w' : World) : Prop :=
  ∃ n a A ca d D cd, e = .returned (.agg #[.bool n, .slice A a.length ca, .slice D d.length cd]) ∧ Dg 4294967296 a ∧ Dg 4294967296 d ∧ a.length ≤ m ∧ d.length ≤ m ∧ wv n a = P ∧ val 4294967296 d = Q ∧ Rd w' (fun g => g < w'.heap.size) .u32 A a ∧ Rd w' (fun g => g < w'.heap.size) .u32 D d ∧ Below w.heap.size w w'
/-- what a fraction is worth: its upper and its lower part -/
def upN (n : Bool) (a d : List Nat) : Int := if val 4294967296 d = 0 then 0 else wv n a
def loD (d : List Nat) : Nat := if val 4294967296 d = 0 then 1 else val 4294967296 d

set_option maxRecDepth 10000 in
set_option maxHeartbeats 800000 in
/-- a fraction whose lower part isn't 0 -/
theorem ref4_worth (n : Bool) (a d : List Nat) (A D : Option Addr) (ca cd m : Nat) (w : World) (h : Rd w (fun g => g < w.heap.size) .u32 A a) (h' : Rd w (fun g => g < w.heap.size) .u32 D d) (hm : m ≤ 4194304) (hm1 : 1 ≤ m) (hl : a.length ≤ m) (hl' : d.length ≤ m) (ha : Dg 4294967296 a) (hd : Dg 4294967296 d) :
    Calls Try.prog 42 #[.agg #[.bool n, .slice A a.length ca, .slice D d.length cd]] w (GivesRaw (upN n a d) (loD d) m w) := by
  obtain ⟨W, hW, k1, k2, b0, s0⟩ := frac_boxes w (.bool n) (.slice A a.length ca) (.slice D d.length cd)
  obtain ⟨p0, p1, p2, -, -, -⟩ := k1.facts
  have cB := ref_Bits d D cd _ W (h'.on b0) (fun g hg => hg) (by omega) hd
  go_enter Try.func42, Try.ntmps42
  go_wp2_with fail
  try rw [hW]
  clear hW
  refine cB.mono ?_
  rintro e w1 ⟨z, rfl, hb, b1⟩
  have K1 := k1.below b1 k1.lt
  have K2 := k2.below b1 k2.lt
  have B1 := b0.trans (b1.mono b0.size)
  have s1 := b1.size
  have hzi := isBits_zero_iff hb
  clear k1 k2 cB hb p0 p1 p2
  obtain ⟨x0, x1, x2, y0, y1, y2⟩ := K1.facts
  by_cases hz : z = 0
  · subst hz
    have hv : val 4294967296 d = 0 := hzi.1 rfl
    obtain ⟨V, hV, r1, b2, s2⟩ := one_word w1 1 1 rfl
    have K2' := K2.below b2 K2.lt
    obtain ⟨i0, i1, i2, j0, j1, j2⟩ := K2'.facts
    obtain ⟨U, hU, u0, u1, u2, kU, bU, oU, sU⟩ := K2'.three (.bool false) (.slice none 0 0) (.slice (some ⟨w1.heap.size, 0, none⟩) 1 1)
    have HP := Lib.hid (show wv false [] = upN n a d by unfold upN; rw [if_pos hv]; rfl)
    have HQ := Lib.hid (show val 4294967296 [1] = loD d by unfold loD; rw [if_pos hv]; rfl)
    have hRd := r1.far3 K2' _ _ _ hU
    have HB := Lib.hid (B1.trans (b2.mono B1.size) |>.trans (bU _ (by omega)))
    have HU := Lib.hid hU
    have HF := Lib.hid (And.intro u0 (And.intro u1 u2))
    clear hzi hv oU bU kU sU hU u0 u1 u2 K1 K2 K2' r1 b2 b1 s2
    go_wp2_with fail
    rw [HU.out]
    obtain ⟨u0, u1, u2⟩ := HF.out
    exact bodyPost_ret (v := .agg #[.bool false, .slice none 0 0, .slice (some ⟨w1.heap.size, 0, none⟩) 1 1]) (by simp [results, Try.results42, go_sem, u0, u1, u2]) rfl
      ⟨false, [], none, 0, [1], _, 1, rfl, Dg.nil _, dg_one (by omega), by simp, by simpa using hm1, HP.out, HQ.out, Rd.nil, hRd, HB.out⟩
  · have hv : ¬ val 4294967296 d = 0 := fun h => hz (hzi.2 h)
    obtain ⟨i0, i1, i2, j0, j1, j2⟩ := K2.facts
    obtain ⟨U, hU, u0, u1, u2, kU, bU, oU, sU⟩ := K2.three (.bool n) (.slice A a.length ca) (.slice D d.length cd)
    have hP : upN n a d = wv n a := by unfold upN; rw [if_neg hv]
    have hQ : loD d = val 4294967296 d := by unfold loD; rw [if_neg hv]
    have hR1 := (h.on B1).far3 K2 _ _ _ hU
    have hR2 := (h'.on B1).far3 K2 _ _ _ hU
    have HP := Lib.hid hP
    have HQ := Lib.hid hQ
    have HB := Lib.hid (B1.trans (bU _ (by omega)))
    have HU := Lib.hid hU
    have HF := Lib.hid (And.intro u0 (And.intro u1 u2))
    clear hP hQ hzi hv oU bU kU sU hU u0 u1 u2 K1 K2 b1
    go_wp2_with fail
    rw [HU.out]
    obtain ⟨u0, u1, u2⟩ := HF.out
    exact bodyPost_ret (v := .agg #[.bool n, .slice A a.length ca, .slice D d.length cd]) (by simp [results, Try.results42, go_sem, u0, u1, u2]) rfl
      ⟨n, a, A, ca, d, D, cd, rfl, ha, hd, hl, hl', HP.out.symm, HQ.out.symm, hR1, hR2, HB.out⟩

/-- a fraction, reduced -/
def GivesF (P : Int) (Q : Nat) (w : World) (e : Ending) (w' : World) : Prop :=
  ∃ A a ca D d cd, e = .returned (.agg #[.bool (decide (P < 0)), .slice A a.length ca, .slice D d.length cd]) ∧ a.length ≤ ca ∧ d.length ≤ cd ∧ Norm 4294967296 a ∧ Norm 4294967296 d ∧ val 4294967296 a = P.natAbs / Nat.gcd P.natAbs Q ∧ val 4294967296 d = Q / Nat.gcd P.natAbs Q ∧
    Rd w' (fun g => g < w'.heap.size) .u32 A a ∧ Rd w' (fun g => g < w'.heap.size) .u32 D d ∧ Below w.heap.size w w'
theorem nought {Q : Nat} (hQ : 0 < Q) : val 4294967296 [] = (0 : Int).natAbs / Nat.gcd (0 : Int).natAbs Q ∧ val 4294967296 [1] = Q / Nat.gcd (0 : Int).natAbs Q := by
  simp only [Int.natAbs_zero, Nat.gcd_zero_left, Nat.zero_div]
  exact ⟨rfl, by rw [Nat.div_self hQ]; rfl⟩
theorem reduced_sign {n : Bool} {a x : List Nat} {g : Nat} (h : val 4294967296 x = val 4294967296 a / g) (hg : g ∣ val 4294967296 a) (ha : 0 < val 4294967296 a) : decide (wv n x < 0) = decide (wv n a < 0) := by
  have hx : 0 < val 4294967296 x := by
    rw [h]
    exact Nat.div_pos (Nat.le_of_dvd ha hg) (Nat.pos_of_dvd_of_pos hg ha)
  cases n
  · rw [wv_false, wv_false, decide_eq_false (by omega), decide_eq_false (by omega)]
  · rw [wv_true, wv_true, decide_eq_true (by omega), decide_eq_true (by omega)]

set_option maxRecDepth 10000 in
set_option maxHeartbeats 800000 in
/-- a fraction, reduced -/
theorem ref4_Reduce (n : Bool) (a d : List Nat) (A D : Option Addr) (ca cd : Nat) (w : World) (h : Rd w (fun g => g < w.heap.size) .u32 A a) (h' : Rd w (fun g => g < w.heap.size) .u32 D d) (hl : a.length ≤ 4194304) (hl' : d.length ≤ 4194304) (ha : Dg 4294967296 a) (hd : Dg 4294967296 d) :
    Calls Try.prog 60 #[.agg #[.bool n, .slice A a.length ca, .slice D d.length cd]] w (GivesF (upN n a d) (loD d) w) := by
  obtain ⟨W, hW, k1, k2, b0, s0⟩ := frac_boxes w (.bool n) (.slice A a.length ca) (.slice D d.length cd)
  obtain ⟨p0, p1, p2, -, -, -⟩ := k1.facts
  have cB := ref_Bits d D cd _ W (h'.on b0) (fun g hg => hg) (by omega) hd
  go_enter Try.func60, Try.ntmps60
  go_wp2_with fail
  try rw [hW]
  clear hW
  refine cB.mono ?_
  rintro e w1 ⟨z, rfl, hb, b1⟩
  have K1 := k1.below b1 k1.lt
  have K2 := k2.below b1 k2.lt
  have B1 := b0.trans (b1.mono b0.size)
  have s1 := b1.size
  have hzi := isBits_zero_iff hb
  clear k1 k2 cB hb p0 p1 p2
  obtain ⟨x0, x1, x2, y0, y1, y2⟩ := K1.facts
  by_cases hz : z = 0
  · subst hz
    have hv : val 4294967296 d = 0 := hzi.1 rfl
    obtain ⟨V, hV, r1, b2, s2⟩ := one_word w1 1 1 rfl
    have K2' := K2.below b2 K2.lt
    obtain ⟨i0, i1, i2, j0, j1, j2⟩ := K2'.facts
    obtain ⟨U, hU, u0, u1, u2, kU, bU, oU, sU⟩ := K2'.three (.bool false) (.slice none 0 0) (.slice (some ⟨w1.heap.size, 0, none⟩) 1 1)
    have HP := Lib.hid (show upN n a d = 0 by unfold upN; rw [if_pos hv])
    have HQ := Lib.hid (show loD d = 1 by unfold loD; rw [if_pos hv])
    have hRd := r1.far3 K2' _ _ _ hU
    have HB := Lib.hid (B1.trans (b2.mono B1.size) |>.trans (bU _ (by omega)))
    have HU := Lib.hid hU
    have HF := Lib.hid (And.intro u0 (And.intro u1 u2))
    clear hzi hv oU bU kU sU hU u0 u1 u2 K1 K2 K2' r1 b2 b1 s2
    go_wp2_with fail
    rw [HU.out]
    obtain ⟨u0, u1, u2⟩ := HF.out
    refine bodyPost_ret (v := .agg #[.bool false, .slice none 0 0, .slice (some ⟨w1.heap.size, 0, none⟩) 1 1]) (by simp [results, Try.results60, go_sem, u0, u1, u2]) rfl ?_
    rw [HP.out, HQ.out]
    exact ⟨none, [], 0, _, [1], 1, rfl, by simp, by simp, norm_nil _, norm_one (by omega) (by omega), (nought (by omega)).1, (nought (by omega)).2, Rd.nil, hRd, HB.out⟩
  · have hv : ¬ val 4294967296 d = 0 := fun h => hz (hzi.2 h)
    have hP : upN n a d = wv n a := by unfold upN; rw [if_neg hv]
    have hQ : loD d = val 4294967296 d := by unfold loD; rw [if_neg hv]
    have cB := ref_Bits a A ca _ w1 (h.on B1) (fun g hg => hg) (by omega) ha
    have hzb : ((z : Int) == 0) = false := by simp; omega
    go_wp2_with fail
    refine cB.mono ?_
    rintro e w2 ⟨z2, rfl, hb, b2⟩
    have K1' := K1.below b2 K1.lt
    have K2' := K2.below b2 K2.lt
    have B2 := B1.trans (b2.mono B1.size)
    have s2 := b2.size
    have hzi2 := isBits_zero_iff hb
    clear K1 K2 cB hb x0 x1 x2 y0 y1 y2 hzi b1
    obtain ⟨x0, x1, x2, y0, y1, y2⟩ := K1'.facts
    by_cases hz2 : z2 = 0
    · subst hz2
      have hva : val 4294967296 a = 0 := hzi2.1 rfl
      have hP0 : upN n a d = 0 := by rw [hP]; cases n <;> simp [wv, hva]
      obtain ⟨V, hV, r1, b3, s3⟩ := one_word w2 1 1 rfl
      have K2'' := K2'.below b3 K2'.lt
      obtain ⟨i0, i1, i2, j0, j1, j2⟩ := K2''.facts
      obtain ⟨U, hU, u0, u1, u2, kU, bU, oU, sU⟩ := K2''.three (.bool false) (.slice none 0 0) (.slice (some ⟨w2.heap.size, 0, none⟩) 1 1)
      have HP := Lib.hid hP0
      have HV := Lib.hid (show 0 < loD d by rw [hQ]; omega)
      have hRd := r1.far3 K2'' _ _ _ hU
      have HB := Lib.hid (B2.trans (b3.mono B2.size) |>.trans (bU _ (by omega)))
      have HU := Lib.hid hU
      have HF := Lib.hid (And.intro u0 (And.intro u1 u2))
      clear hzi2 hv hP hQ hP0 hva oU bU kU sU hU u0 u1 u2 K1' K2' K2'' r1 b2 b3 s3
      go_wp2_with fail
      rw [HU.out]
      obtain ⟨u0, u1, u2⟩ := HF.out
      refine bodyPost_ret (v := .agg #[.bool false, .slice none 0 0, .slice (some ⟨w2.heap.size, 0, none⟩) 1 1]) (by simp [results, Try.results60, go_sem, u0, u1, u2]) rfl ?_
      rw [HP.out]
      exact ⟨none, [], 0, _, [1], 1, rfl, by simp, by simp, norm_nil _, norm_one (by omega) (by omega), (nought HV.out).1, (nought HV.out).2, Rd.nil, hRd, HB.out⟩
    · have hva : 0 < val 4294967296 a := Nat.pos_of_ne_zero fun h => hz2 (hzi2.2 h)
      have hzb2 : ((z2 : Int) == 0) = false := by simp; omega
      have cR := r3_Reduce a d A D ca cd w2 (h.on B2) (h'.on B2) hl hl' ha hd
      go_wp2_with fail
      refine cR.mono ?_
      rintro e w3 ⟨A3, x, c3, D3, y, d3, rfl, hc3, hd3, hn3, hm3, hv3, hu3, r3, q3, b3⟩
      have K1'' := K1'.below b3 K1'.lt
      have K2'' := K2'.below b3 K2'.lt
      have B3 := B2.trans (b3.mono B2.size)
      have s3 := b3.size
      have lx := len_le (b := 4294967296) (by omega) hn3.2 ha (by rw [hv3]; exact Nat.div_le_self _ _)
      have cM := ref2_Make n x A3 c3 _ w3 r3 (by omega) hn3.1 rfl
      have hsg := reduced_sign (n := n) hv3 (Nat.gcd_dvd_left _ _) hva
      have HSG := Lib.hid hsg
      have HV3 := Lib.hid hv3
      have HU3 := Lib.hid hu3
      have HP := Lib.hid hP
      have HQ := Lib.hid hQ
      clear cR hv3 hu3 hzi2 hv hP hQ K1' K2' x0 x1 x2 y0 y1 y2 b2 hva hsg
      obtain ⟨x0, x1, x2, y0, y1, y2⟩ := K1''.facts
      go_wp2_with fail
      refine cM.mono ?_
      rintro e w4 ⟨A4, v, c4, rfl, hc4, hn4, hv4, r4, b4⟩
      have K4 := K2''.below b4 K2''.lt
      have B4 := B3.trans (b4.mono B3.size)
      obtain ⟨i0, i1, i2, j0, j1, j2⟩ := K4.facts
      obtain ⟨U, hU, u0, u1, u2, kU, bU, oU, sU⟩ := K4.three (.bool (decide (wv n x < 0))) (.slice A4 v.length c4) (.slice D3 y.length d3)
      have hR1 := r4.far3 K4 _ _ _ hU
      have hR2 := (q3.on b4).far3 K4 _ _ _ hU
      have HB := Lib.hid (B4.trans (bU _ (by omega)))
      have HU := Lib.hid hU
      have HF := Lib.hid (And.intro u0 (And.intro u1 u2))
      have HV4 := Lib.hid hv4
      clear cM hv4 oU bU kU sU hU u0 u1 u2 K1'' K2'' K4 b4 b3 r4 q3 r3
      go_wp2_with fail
      rw [HU.out]
      obtain ⟨u0, u1, u2⟩ := HF.out
      refine bodyPost_ret (v := .agg #[.bool (decide (wv n x < 0)), .slice A4 v.length c4, .slice D3 y.length d3]) (by simp [results, Try.results60, go_sem, u0, u1, u2]) rfl ?_
      rw [HP.out, HQ.out, HSG.out]
      exact ⟨A4, v, c4, D3, y, d3, rfl, hc4, hd3, hn4, hm3, by rw [HV4.out, wv_abs, wv_abs, HV3.out], by rw [HU3.out, wv_abs], hR1, hR2, HB.out⟩
end Go.Proofs.Ytbhahddgajkchaa
/- Fractions, the document's own: what up, Neg, Sign and Floor answer. -/

namespace Go.Proofs.Ytbhahddgajkchaa
open Go.RowKit Num

set_option maxHeartbeats 400000 in
/-- the lower part as a whole number -/
theorem ref4_up (n : Bool) (a d : List Nat) (A D : Option Addr) (ca cd : Nat) (w : World) :
    Calls Try.prog 45 #[.agg #[.bool n, .slice A a.length ca, .slice D d.length cd]] w fun e w' => e = .returned (.agg #[.bool false, .slice D d.length cd]) ∧ Below w.heap.size w w' := by
  go_enter Try.func45, Try.ntmps45
  go_wp2_with fail
  exact bodyPost_ret (v := .agg #[.bool false, .slice D d.length cd]) (by simp [results, Try.results45, go_sem]) rfl ⟨rfl, (below_one w _).trans ((below_one (w.alloc (.cells #[.bool n, .slice A a.length ca, .slice D d.length cd] 50)) _).mono (by simp))⟩

theorem loD_pos (d : List Nat) : 0 < loD d := by
  unfold loD
  split <;> omega
theorem upN_of {n : Bool} {a d : List Nat} (h : 0 < val 4294967296 d) : upN n a d = wv n a := by unfold upN; rw [if_neg (by omega)]
theorem loD_of {d : List Nat} (h : 0 < val 4294967296 d) : loD d = val 4294967296 d := by unfold loD; rw [if_neg (by omega)]

/-- a reduced fraction stored where the result lies -/
theorem fin_frac {w v : World} {g : Nat} {t : TypeId} (k : Blk v g t [.bool false, .slice none 0 0, .slice none 0 0]) (hg : w.heap.size ≤ g) (B : Below w.heap.size w v) {P : Int} {Q : Nat} {A D : Option Addr} {a d : List Nat} {ca cd : Nat}
    (hc : a.length ≤ ca) (hd : d.length ≤ cd) (hn : Norm 4294967296 a) (hm : Norm 4294967296 d) (hv : val 4294967296 a = P.natAbs / Nat.gcd P.natAbs Q) (hu : val 4294967296 d = Q / Nat.gcd P.natAbs Q) (r : Rd v (fun g => g < v.heap.size) .u32 A a) (q : Rd v (fun g => g < v.heap.size) .u32 D d) :
    ∃ U, ((v.setCell ⟨g, 0, none⟩ (.bool (decide (P < 0)))).setCell ⟨g, 1, none⟩ (.slice A a.length ca)).setCell ⟨g, 2, none⟩ (.slice D d.length cd) = U ∧ U.cell? ⟨g, 0, none⟩ = some (.bool (decide (P < 0))) ∧ U.cell? ⟨g, 1, none⟩ = some (.slice A a.length ca) ∧ U.cell? ⟨g, 2, none⟩ = some (.slice D d.length cd) ∧
      GivesF P Q w (.returned (.agg #[.bool (decide (P < 0)), .slice A a.length ca, .slice D d.length cd])) U := by
  obtain ⟨U, hU, u0, u1, u2, -, bU, -, -⟩ := k.three (.bool (decide (P < 0))) (.slice A a.length ca) (.slice D d.length cd)
  exact ⟨U, hU, u0, u1, u2, A, a, ca, D, d, cd, rfl, hc, hd, hn, hm, hv, hu, r.far3 k _ _ _ hU, q.far3 k _ _ _ hU, B.trans (bU _ hg)⟩
theorem keep3 {W V : World} {g : Nat} {t : TypeId} {a0 a1 a2 : Value} (k : Blk W g t [a0, a1, a2]) (hb : Below W.heap.size W V) : V.cell? ⟨g, 0, none⟩ = some a0 ∧ V.cell? ⟨g, 1, none⟩ = some a1 ∧ V.cell? ⟨g, 2, none⟩ = some a2 := by
  have k' := k.below hb k.lt
  exact ⟨k'.cell 0 rfl, k'.cell 1 rfl, k'.cell 2 rfl⟩

end Go.Proofs.Ytbhahddgajkchaa
/- Fractions, the document's own: what Sign and Floor answer. -/

namespace Go.Proofs.Ytbhahddgajkchaa
open Go.RowKit Num

/-- an argument's box alone -/
theorem frac_box (w : World) (v0 v1 v2 : Value) : ∃ W, w.alloc (.cells #[v0, v1, v2] 50) = W ∧ Blk W w.heap.size 50 [v0, v1, v2] ∧ Below w.heap.size w W ∧ W.heap.size = w.heap.size + 1 :=
  ⟨_, rfl, Blk.new w 50 [v0, v1, v2], below_one w _, by simp⟩
/-- an argument's box, and that of a result that is a whole number -/
theorem frac_boxw (w : World) (v0 v1 v2 : Value) : ∃ W, (w.alloc (.cells #[v0, v1, v2] 50)).alloc (.cells #[.bool false, .slice none 0 0] 48) = W ∧ Blk W w.heap.size 50 [v0, v1, v2] ∧ Blk W (w.heap.size + 1) 48 [.bool false, .slice none 0 0] ∧ Below w.heap.size w W ∧ W.heap.size = w.heap.size + 2 :=
  ⟨_, rfl, (Blk.new w 50 [v0, v1, v2]).alloc _, Blk.at_new (w.alloc (.cells #[v0, v1, v2] 50)) 48 [.bool false, .slice none 0 0] (by simp), (below_one w _).trans ((below_one (w.alloc (.cells #[v0, v1, v2] 50)) _).mono (by simp)), by simp⟩

theorem keep_one {U V : World} (K : Below U.heap.size U V) (o : Obj) : Below U.heap.size U (V.alloc o) := Below.alloc K K.size o
theorem keep_two {U V : World} (K : Below U.heap.size U V) (o p : Obj) : Below U.heap.size U ((V.alloc o).alloc p) := keep_one (keep_one K o) p
/-- the upper part of a fraction that lies in no memory -/
theorem run_field_num (v0 v1 v2 : Value) (w : World) : (Instr.field 50 (.agg #[v0, v1, v2]) 0).run Try.prog w = .ok (.agg #[v0, v1]) w := by
  simp [go_sem, Instr.field, asAgg]

end Go.Proofs.Ytbhahddgajkchaa
