/- What the program's own long division answers: divWords. -/
import Derived.Test.YtoidhoiadkafhaaDivB
namespace Go.Proofs.Ytoidhoiadkafhaa
open Go.RowKit Num

/-- moving up by as many bits as are free at the top loses none -/
theorem lead_zeros {x : Nat} (h0 : 0 < x) (hx : x < 4294967296) : ∃ s : Nat, s < 32 ∧ (32 - (Lib.bitLen x : Int)) = (s : Int) ∧ (x + 1) * 2 ^ s ≤ 4294967296 := by
  have hb := isBits_bitLen x (by omega)
  obtain ⟨z, hz⟩ : ∃ z, Lib.bitLen x = z := ⟨_, rfl⟩
  rw [hz] at hb ⊢
  have hz1 : 1 ≤ z := by
    rcases Nat.eq_zero_or_pos z with h | h
    · subst h; have := hb.1; simp at this; omega
    · exact h
  have hz32 : z ≤ 32 := by
    rcases hb.2 with h1 | h1
    · omega
    · have h2 := Nat.lt_of_le_of_lt h1 (show x < 2 ^ 32 by omega)
      have := (Nat.pow_lt_pow_iff_right (show 1 < 2 by omega)).1 h2
      omega
  refine ⟨32 - z, by omega, by omega, ?_⟩
  have h1 : (x + 1) * 2 ^ (32 - z) ≤ 2 ^ z * 2 ^ (32 - z) := Nat.mul_le_mul_right _ hb.1
  rw [← Nat.pow_add, show z + (32 - z) = 32 by omega] at h1
  exact h1
theorem val_le_top {k : Nat} {b : List Nat} (hb : Dg 4294967296 b) (hl : b.length = k + 2) : 4294967296 ^ (k + 1) * b[k + 1] ≤ val 4294967296 b ∧ val 4294967296 b < 4294967296 ^ (k + 1) * (b[k + 1] + 1) := by
  have h1 := val_take_succ (b := 4294967296) (xs := b) (k := k + 1) (by omega)
  rw [List.take_of_length_le (by omega)] at h1
  have h2 := val_lt (b := 4294967296) (xs := b.take (k + 1)) hb.take
  rw [List.length_take, Nat.min_eq_left (by omega)] at h2
  rw [h1, Nat.mul_add, Nat.mul_one]
  omega

/-- a number below b^n has nothing behind its n lowest words -/
theorem low_words {B D n p : Nat} {rs : List Nat} (h : Dg B (p :: rs)) (hr : val B rs < D) (hD : D * B ≤ B ^ n) : val B ((p :: rs).take n) = p + B * val B rs ∧ val B ((p :: rs).drop n) = 0 := by
  have hp := (Dg.cons.1 h).1
  have e0 : val B (p :: rs) = p + B * val B rs := rfl
  have h2 : p + B * val B rs < B ^ n := by
    have : B * (val B rs + 1) ≤ B * D := Nat.mul_le_mul_left _ hr
    rw [Nat.mul_add, Nat.mul_one, Nat.mul_comm B D] at this
    omega
  rcases Nat.le_total n (p :: rs).length with hn | hn
  · have h1 := val_split (b := B) (k := n) (xs := p :: rs) hn
    have h3 : val B ((p :: rs).drop n) = 0 := by
      rcases Nat.eq_zero_or_pos (val B ((p :: rs).drop n)) with h0 | h0
      · exact h0
      · have : B ^ n * 1 ≤ B ^ n * val B ((p :: rs).drop n) := Nat.mul_le_mul_left _ h0
        omega
    rw [h3, Nat.mul_zero, Nat.add_zero] at h1
    exact ⟨by rw [← h1]; rfl, h3⟩
  · rw [List.take_of_length_le hn, List.drop_of_length_le hn]
    exact ⟨rfl, rfl⟩
theorem set_zero {i v : Nat} {qs : List Nat} : (List.replicate (i + 1) 0 ++ qs).set i v = List.replicate i 0 ++ (v :: qs) := by
  rw [List.replicate_succ', List.append_assoc, List.set_append_right _ _ (by simp)]
  simp
theorem splice_tail {Z Y cs : List Nat} {i : Nat} (h : Z.length = i) : splice (Z ++ Y) i cs = Z ++ (cs ++ Y.drop cs.length) := by
  simp only [splice]
  rw [List.take_left' h, ← List.drop_drop, List.drop_left' h]
theorem low_lt {B p V D : Nat} (hp : p < B) (h : V < D) : p + B * V < B * D := by
  have : B * (V + 1) ≤ B * D := Nat.mul_le_mul_left _ h
  rw [Nat.mul_add, Nat.mul_one] at this
  omega

set_option maxHeartbeats 3200000 in
/-- a divided by b, of two words or more and not above a -/
theorem nat_divWords (a b : List Nat) (k : Nat) (A A' : Option Addr) (ca cb : Nat) (S S' : Nat → Prop) (w : World) (h : Rd w S .u32 A a) (h' : Rd w S' .u32 A' b) (hS : ∀ g, S g → g < w.heap.size) (hS' : ∀ g, S' g → g < w.heap.size) (hl : a.length ≤ 1073741824) (hbl : b.length = k + 2) (hle : b.length ≤ a.length) (ha : Dg 4294967296 a) (hb : Norm 4294967296 b) :
    Calls Try.prog 50 #[.slice A a.length ca, .slice A' b.length cb] w fun e w' => ∃ A1 q c1 A2 r c2, e = .returned (.tuple #[.slice A1 q.length c1, .slice A2 r.length c2]) ∧ q.length ≤ c1 ∧ r.length ≤ c2 ∧ Norm 4294967296 q ∧ Norm 4294967296 r ∧ val 4294967296 q = val 4294967296 a / val 4294967296 b ∧ val 4294967296 r = val 4294967296 a % val 4294967296 b ∧
      Rd w' (fun g => g < w'.heap.size) .u32 A1 q ∧ Rd w' (fun g => g < w'.heap.size) .u32 A2 r ∧ Below w.heap.size w w' := by
  obtain ⟨hbd, hbt⟩ := hb
  obtain ⟨b0, o0, rfl, _, hcb⟩ := h' (by omega)
  have cx := hcb (k + 1) (by omega)
  have hx1 := hbd.get (j := k + 1) (by omega)
  have hx0 : 0 < b[k + 1] := by
    unfold Top at hbt
    rw [List.getLast?_eq_getElem?, hbl, show k + 2 - 1 = k + 1 from rfl, List.getElem?_eq_getElem (by omega)] at hbt
    have : b[k + 1] ≠ 0 := fun e => hbt (by rw [e])
    omega
  obtain ⟨hbv1, hbv2⟩ := val_le_top hbd hbl
  obtain ⟨x, hx⟩ : ∃ x, b[k + 1] = x := ⟨_, rfl⟩
  rw [hx] at cx hx1 hx0 hbv1 hbv2
  obtain ⟨s, hs, hsI, hs2⟩ := lead_zeros hx0 hx1
  have clz := Try.bits_LeadingZeros32 (x : Int) w (by omega) (by omega)
  rw [Int.toNat_natCast, hsI] at clz
  have clz' := clz.mono (R' := fun e w' => e = .returned (.int .i64 (s : Int)) ∧ w = w') fun _ _ hh => ⟨hh.1, hh.2.symm⟩
  clear hx hcb hsI
  rw [hbl]
  have hmk : ∀ u : World, (Instr.makeSlice 22 (.int .i64 ((a.length : Int) + 1)) (.int .i64 ((a.length : Int) + 1))).run Try.prog u =
    .ok (.slice (some ⟨u.heap.size, 0, none⟩) (a.length + 1) (a.length + 1)) (u.alloc (.cells (cells .u32 (List.replicate (a.length + 1) 0)).toArray 36)) := fun u => make_words1 a.length (by omega) u
  have hra : Rd (w.alloc (.cells (cells .u32 (List.replicate (a.length + 1) 0)).toArray 36)) S .u32 A a := h.keep fun p hp => World.cell?_alloc_lt w _ p (hS _ hp)
  have hmin : a.length = Nat.min a.length (a.length + 1) := by show _ = min _ _; omega
  have HMIN := Lib.hid hmin
  have HBL := Lib.hid hbl
  rw [hbl] at hle
  clear hmin hbl
  go_enter Try.func50, Try.ntmps50
  go_wp2_with (first
    | (go_at_call 55; refine clz'.mono ?_; rintro e w' ⟨rfl, rfl⟩)
    | (with_reducible refine wpList_copy_digits rfl _ _ 22 rfl 36 .u32 Try.underlying22 size_u32 _ _ _ _ _ _ rfl rfl w.heap.size 0 (List.replicate (a.length + 1) 0) (Row.new w _ _ _) a HMIN.out (fun _ => rfl) S hra (by rw [List.length_replicate]; omega) ?_; intro w2 hrow2 hgr2))
  rw [splice_zero] at hrow2
  have hal : (a ++ (List.replicate (a.length + 1) 0).drop a.length) = a ++ [0] := by rw [List.drop_replicate, Nat.add_sub_cancel_left]; rfl
  rw [hal] at hrow2
  have hzl : (a ++ [0]).length = a.length + 1 := by simp
  have hseg : (((a ++ [0]).drop 0).take (a.length + 1)) = a ++ [0] := by rw [List.drop_zero, List.take_of_length_le (by omega)]
  have cm := nat_moveUp (a ++ [0]) w.heap.size 0 (a.length + 1) (a.length + 1) s _ w2 hrow2 (by omega) (by omega) (ha.snoc (by omega)) hs
  rw [hseg] at cm
  clear hzl hseg hra hmk hal clz clz'
  go_wp2_with fail
  refine cm.mono ?_
  rintro e w3 ⟨rfl, xs, cy, hxl, hxd, hxv, hrow3, hgr3⟩
  rw [splice_full (by simp; omega)] at hrow3
  have hpow : val 4294967296 a * 2 ^ s < 4294967296 ^ (a.length + 1) := by
    rw [Nat.pow_succ]
    refine Nat.mul_lt_mul'' (val_lt ha) ?_
    exact Nat.lt_of_lt_of_le (Nat.pow_lt_pow_right (by omega) hs) (Nat.le_refl _)
  rw [val_snoc, Nat.mul_zero] at hxv
  simp only [Nat.add_zero] at hxv
  have hcy := over_zero hpow hxv
  rw [hcy, Nat.mul_zero, Nat.add_zero] at hxv
  have HXL := Lib.hid hxl
  have HXV := Lib.hid hxv
  have hb3 : Below w.heap.size w w3 := below_alloc_grown (Nat.le_refl _) (grown_trans hgr2 hgr3) (Nat.le_refl _)
  have hs3 := hrow3.lt
  clear hpow hcy hxl hxv cm hrow2 hgr2 hgr3
  have hmk : ∀ u : World, (Instr.makeSlice 22 (.int .i64 ((k : Int) + 2)) (.int .i64 ((k : Int) + 2))).run Try.prog u =
    .ok (.slice (some ⟨u.heap.size, 0, none⟩) (k + 2) (k + 2)) (u.alloc (.cells (cells .u32 (List.replicate (k + 2) 0)).toArray 36)) := fun u => make_words (k + 2) (by omega) u
  have hrb : Rd (w3.alloc (.cells (cells .u32 (List.replicate (k + 2) 0)).toArray 36)) S' .u32 (some ⟨b0, o0, none⟩) b := (h'.below hb3 hS').keep fun p hp => World.cell?_alloc_lt w3 _ p (by have := hS' _ hp; have := hb3.size; omega)
  have hmin2 : b.length = Nat.min (k + 2) (k + 2) := by rw [HBL.out]; show _ = min _ _; omega
  have HMIN2 := Lib.hid hmin2
  clear hmin2
  go_wp2_with (with_reducible refine wpList_copy_digits rfl _ _ 22 rfl 36 .u32 Try.underlying22 size_u32 _ _ _ _ _ _ rfl rfl w3.heap.size 0 (List.replicate (k + 2) 0) (Row.new w3 _ _ _) b HMIN2.out (fun _ => rfl) S' hrb (by rw [List.length_replicate, HBL.out]; omega) ?_; intro w4 hrow4 hgr4)
  rw [splice_full (by rw [List.length_replicate, HBL.out])] at hrow4
  have hseg : ((b.drop 0).take (k + 2)) = b := by rw [List.drop_zero, List.take_of_length_le (by rw [HBL.out]; omega)]
  have cm := nat_moveUp b w3.heap.size 0 (k + 2) (k + 2) s _ w4 hrow4 (by rw [HBL.out]; omega) (by omega) hbd hs
  rw [hseg] at cm
  clear hseg hrb hmk
  go_wp2_with fail
  refine cm.mono ?_
  rintro e w5 ⟨rfl, ds, cy, hdl, hdd, hdv, hrow5, hgr5⟩
  rw [splice_full (by rw [HBL.out]; exact hdl)] at hrow5
  have hpow : val 4294967296 b * 2 ^ s < 4294967296 ^ (k + 2) := by
    have h1 : val 4294967296 b * 2 ^ s < 4294967296 ^ (k + 1) * (x + 1) * 2 ^ s := (Nat.mul_lt_mul_right (Nat.pow_pos (by omega))).2 hbv2
    have h2 : 4294967296 ^ (k + 1) * ((x + 1) * 2 ^ s) ≤ 4294967296 ^ (k + 1) * 4294967296 := Nat.mul_le_mul_left _ hs2
    rw [Nat.mul_assoc] at h1
    exact Nat.lt_of_lt_of_le h1 h2
  have hcy := over_zero hpow hdv
  rw [hcy, Nat.mul_zero, Nat.add_zero] at hdv
  have hlow : 4294967296 ^ (k + 1) * 2 ^ s ≤ val 4294967296 ds := by
    rw [hdv]
    refine Nat.mul_le_mul_right _ (Nat.le_trans ?_ hbv1)
    exact Nat.le_mul_of_pos_right _ hx0
  have hdtop : 0 < ds[k + 1] := by
    rcases Nat.eq_zero_or_pos ds[k + 1] with h0 | h0
    · exfalso
      have h1 := (val_le_top hdd hdl).2
      rw [h0, Nat.zero_add, Nat.mul_one] at h1
      have h2 : 4294967296 ^ (k + 1) * 1 ≤ 4294967296 ^ (k + 1) * 2 ^ s := Nat.mul_le_mul_left _ (Nat.pow_pos (by omega))
      omega
    · exact h0
  have hdlt := val_lt (b := 4294967296) hdd
  rw [hdl] at hdlt
  have hgr35 := grown_trans hgr4 hgr5
  have hrow3' : Row w5 w.heap.size 36 .u32 xs := (hrow3.alloc _).grown hgr35 (fun e => by injection e; omega)
  have hb5 : Below w.heap.size w w5 := hb3.trans (below_alloc_grown hb3.size hgr35 hb3.size)
  have hs5 := hrow5.lt
  obtain ⟨D, hDe⟩ : ∃ D, val 4294967296 ds = D := ⟨_, rfl⟩
  rw [hDe] at hdv hlow hdlt
  obtain ⟨t, ht⟩ : ∃ t, a.length = t + k + 1 := ⟨a.length - k - 1, by omega⟩
  have ht1 : 1 ≤ t := by omega
  have htk : t + k + 1 ≤ a.length := by omega
  have hts : (a.length : Int) - ((k : Int) + 2) + 1 = (t : Int) := by omega
  have hmk : ∀ u : World, (Instr.makeSlice 22 (.int .i64 ((a.length : Int) - ((k : Int) + 2) + 1)) (.int .i64 ((a.length : Int) - ((k : Int) + 2) + 1))).run Try.prog u =
    .ok (.slice (some ⟨u.heap.size, 0, none⟩) t t) (u.alloc (.cells (cells .u32 (List.replicate t 0)).toArray 36)) := fun u => by rw [hts]; exact make_words t (by omega) u
  have htop' : ∃ h : k + 1 < ds.length, 0 < ds[k + 1]'h := ⟨by omega, hdtop⟩
  have HTOP := Lib.hid htop'
  clear htop' hdtop
  have HDE := Lib.hid hDe
  have HDV := Lib.hid hdv
  have HDL := Lib.hid hdl
  have HT := Lib.hid ht
  clear hDe hdv hdl hcy hpow cm hts hrow4 hgr4 hgr5 hgr35 hrow3 ht
  go_wp2_with fail
  obtain ⟨w6, hw6⟩ : ∃ w6, w5.alloc (.cells (cells .u32 (List.replicate t 0)).toArray 36) = w6 := ⟨_, rfl⟩
  have hs6 : w6.heap.size = w5.heap.size + 1 := by rw [← hw6]; simp
  have hb6 : Below w.heap.size w w6 := by rw [← hw6]; exact hb5.alloc hb5.size _
  have hr6x : Row w6 w.heap.size 36 .u32 xs := by rw [← hw6]; exact hrow3'.alloc _
  have hr6d : Row w6 w3.heap.size 36 .u32 ds := by rw [← hw6]; exact hrow5.alloc _
  have hr6o : Row w6 w5.heap.size 36 .u32 (List.replicate t 0) := by rw [← hw6]; exact Row.new w5 _ _ _
  have HS6 := Lib.hid hs6
  rw [hw6]
  clear hw6 hb5 hrow3' hrow5 hs6 hmk
  have hstart : val 4294967296 (xs.drop t) < D := by
    have h1 := val_split (b := 4294967296) (k := t) (xs := xs) (by rw [HXL.out, HT.out]; omega)
    have h2 := val_lt (b := 4294967296) ha
    rw [HXV.out] at h1
    have h3 : val 4294967296 a * 2 ^ s < 4294967296 ^ a.length * 2 ^ s := (Nat.mul_lt_mul_right (Nat.pow_pos (by omega))).2 h2
    rw [h1, HT.out, Nat.add_assoc, Nat.pow_add, Nat.mul_assoc] at h3
    have h4 : 4294967296 ^ t * val 4294967296 (xs.drop t) < 4294967296 ^ t * (4294967296 ^ (k + 1) * 2 ^ s) := Nat.lt_of_le_of_lt (Nat.le_add_left _ _) h3
    exact Nat.lt_of_lt_of_le (Nat.lt_of_mul_lt_mul_left h4) hlow
  have hDp : 0 < D := by omega
  have HST := Lib.hid hstart
  clear hstart hlow
  go_loopg [10] t (fun gh i wr => ((∃ k : Nat, gh = k + 1 ∧ i = .int .i64 k) ∨ (gh = 0 ∧ i = .int .i64 (-1))) ∧ gh ≤ t ∧ ∃ (rs qs : List Nat), rs.length + gh = a.length + 1 ∧ qs.length + gh = t ∧ Dg 4294967296 rs ∧ Dg 4294967296 qs ∧ Row wr w.heap.size 36 .u32 (xs.take gh ++ rs) ∧ Row wr w3.heap.size 36 .u32 ds ∧ Row wr w5.heap.size 36 .u32 (List.replicate gh 0 ++ qs) ∧ Below w.heap.size w wr ∧
    val 4294967296 rs = val 4294967296 (xs.drop gh) % D ∧ val 4294967296 qs = val 4294967296 (xs.drop gh) / D)
  case atStart =>
    refine ⟨?_, Nat.le_refl _, xs.drop t, [], by rw [List.length_drop, HXL.out]; omega, by simp, hxd.drop, Dg.nil _, by rw [List.take_append_drop]; exact hr6x, hr6d, by rw [List.append_nil]; exact hr6o, hb6, (Nat.mod_eq_of_lt HST.out).symm, by rw [Nat.div_eq_of_lt HST.out]; rfl⟩
    refine .inl ⟨t - 1, by omega, ?_⟩; congr 1; omega
  case round =>
    clear hr6x hr6d hr6o hb6
    obtain ⟨⟨i, rfl, rfl⟩ | ⟨rfl, rfl⟩, hg, rs, qs, hrl, hql, hrd, hqd, hrx, hrD, hrq, hbel, hrv, hqv⟩ := hrel
    · have hix : i < xs.length := by have := HXL.out; omega
      have hxtl : (xs.take i).length = i := by rw [List.length_take]; omega
      have hp1 := hxd.get hix
      have hs1 := val_drop_succ (b := 4294967296) hix
      obtain ⟨p, hp⟩ : ∃ p, xs[i] = p := ⟨_, rfl⟩
      rw [hp] at hp1 hs1
      have hsplit : xs.take (i + 1) ++ rs = xs.take i ++ (p :: rs) := by rw [take_succ_get hix, hp]; simp
      rw [hsplit] at hrx
      have hzl : (xs.take i ++ (p :: rs)).length = a.length + 1 := by rw [List.length_append, hxtl, List.length_cons]; omega
      have hseg : ((xs.take i ++ (p :: rs)).drop i).take (k + 3) = (p :: rs).take (k + 3) := by rw [List.drop_left' hxtl]
      have hpr : Dg 4294967296 (p :: rs) := Dg.cons.2 ⟨hp1, hrd⟩
      have hrvD : val 4294967296 rs < D := by rw [hrv]; exact Nat.mod_lt _ hDp
      obtain ⟨hw1, hw2⟩ := low_words (n := k + 3) hpr hrvD (by rw [Nat.pow_succ]; exact Nat.mul_le_mul_right _ (Nat.le_of_lt hdlt))
      obtain ⟨_, hdtop⟩ := HTOP.out
      have ct := nat_takeAll (xs.take i ++ (p :: rs)) ds w.heap.size i k (a.length + 1 - i) (some ⟨w3.heap.size, 0, none⟩) (k + 2) 36 wr hrx (hrD.rd_all (by omega)) HDL.out (by rw [hzl]; omega) (by omega) (Dg.append.2 ⟨hxd.take, hpr⟩) hdd hdtop (by rw [hseg, hw1, HDE.out]; exact low_lt hp1 hrvD)
      rw [hseg, hw1, HDE.out] at ct
      obtain ⟨e1, e2⟩ := div_word_step (p := p) (d := D) (V := val 4294967296 (xs.drop (i + 1))) hDp hrv.symm hqv.symm
      rw [← hs1] at e1 e2
      have HRL := Lib.hid hrl
      have HQL := Lib.hid hql
      have HXT := Lib.hid hxtl
      have HW2 := Lib.hid hw2
      have HE1 := Lib.hid e1
      have HE2 := Lib.hid e2
      have hrlk : k + 1 < rs.length := by omega
      clear hrl hql hxtl hw1 hw2 e1 e2 hs1 hp hsplit hseg hrv hqv hzl hdtop
      go_wp2_with fail
      rw [show i + (k + 2) + 1 - i = k + 3 by omega]
      refine ct.mono ?_
      rintro e w7 ⟨cs, rfl, hq1, hcl, hcd, hcv, hrow7, hgr7⟩
      have hrq7 : Row w7 w5.heap.size 36 .u32 (List.replicate (i + 1) 0 ++ qs) := hrq.grown hgr7 (fun e => by injection e; omega)
      have hrd7 : Row w7 w3.heap.size 36 .u32 ds := hrD.grown hgr7 (fun e => by injection e; omega)
      have hf7 := hrq7.frozen i
      have hc7 := hrq7.cell (i := i) (by rw [List.length_append, List.length_replicate]; omega)
      have hb7 : Below w.heap.size w w7 := hbel.grown hgr7 hbel.size (fun q e => by injection e with e; omega)
      obtain ⟨Qd, hQd⟩ : ∃ Qd, (p + 4294967296 * val 4294967296 rs) / D = Qd := ⟨_, rfl⟩
      have hset := hrq7.set i Qd
      rw [set_zero] at hset
      rw [hQd] at hq1 ⊢
      have HQd := Lib.hid hQd
      have HCL := Lib.hid hcl
      have HCV := Lib.hid hcv
      clear hQd hcl hcv ct hrq hrD hrx
      go_wp2_with fail
      go_roundg i
      case measure => omega
      case rel =>
        have hrow8 := hrow7.far (p := ⟨w5.heap.size, i, none⟩) (by simp; omega) (.int .u32 (Qd : Int))
        rw [splice_tail HXT.out] at hrow8
        have hrl := HRL.out
        refine ⟨?_, by omega, cs ++ (p :: rs).drop cs.length, Qd :: qs, ?_, by have := HQL.out; simp; omega, Dg.append.2 ⟨hcd, hpr.drop⟩, Dg.cons.2 ⟨hq1, hqd⟩, hrow8, hrd7.far (by simp; omega) _, hset, hb7.setCell (by simp; omega) _, ?_, ?_⟩
        · by_cases h0 : i = 0
          · subst h0; exact .inr ⟨rfl, by go_num⟩
          · exact .inl ⟨i - 1, by omega, by go_num⟩
        · rw [List.length_append, List.length_drop, List.length_cons, HCL.out]; omega
        · rw [val_append, HCL.out, HW2.out, Nat.mul_zero, Nat.add_zero, HCV.out, HE2.out]
        · rw [val_cons, HE1.out, HQd.out]
    · rw [List.drop_zero, HXV.out, HDV.out] at hrv hqv
      rw [List.take_zero, List.nil_append] at hrx
      rw [List.replicate_zero, List.nil_append] at hrq
      rw [Nat.mul_mod_mul_right] at hrv
      rw [Nat.mul_div_mul_right _ _ (Nat.pow_pos (by omega))] at hqv
      have hrl : rs.length = a.length + 1 := by omega
      have hql : qs.length = t := by omega
      have cm := nat_moveDown rs w.heap.size (a.length + 1) s 36 wr hrx (by omega) hrd hs
      rw [hrl] at cm
      have HRV := Lib.hid hrv
      have HQV := Lib.hid hqv
      have HQL := Lib.hid hql
      clear hrv hqv hrl hql
      go_wp2_with fail
      refine cm.mono ?_
      rintro e w7 ⟨rfl, cs, hcl, hcd, hcv, hrow7, hgr7⟩
      have hrq7 : Row w7 w5.heap.size 36 .u32 qs := hrq.grown hgr7 (fun e => by injection e; omega)
      have hb7 : Below w.heap.size w w7 := hbel.grown hgr7 hbel.size (fun q e => by injection e with e; omega)
      rw [HRV.out, Nat.mul_div_cancel _ (Nat.pow_pos (by omega))] at hcv
      have HCL := Lib.hid hcl
      have HCV := Lib.hid hcv
      have cA := nat_cut qs (some ⟨w5.heap.size, 0, none⟩) t _ w7 (hrq7.rd_all (S := fun g => g < w7.heap.size) hrq7.lt) (by rw [HQL.out]; omega) (by rw [HQL.out]; omega) hqd
      have cB := nat_cut cs (some ⟨w.heap.size, 0, none⟩) (a.length + 1) _ w7 (hrow7.rd_all (S := fun g => g < w7.heap.size) hrow7.lt) (by rw [HCL.out]; omega) (by rw [HCL.out]; omega) hcd
      rw [HQL.out] at cA
      rw [HCL.out] at cB
      clear hcl hcv cm
      go_wp2_with fail
      refine cA.mono ?_
      rintro e w8 ⟨us, A4, c4, rfl, hcut4, hr4, rfl⟩
      obtain ⟨hc4, -, -, hn4, hv4, -⟩ := hcut4
      have HN4 := Lib.hid hn4
      have HV4 := Lib.hid hv4
      clear hn4 hv4 cA
      go_wp2_with fail
      refine cB.mono ?_
      rintro e w8 ⟨vs, A5, c5, rfl, hcut5, hr5, rfl⟩
      obtain ⟨hc5, -, -, hn5, hv5, -⟩ := hcut5
      have HN5 := Lib.hid hn5
      have HV5 := Lib.hid hv5
      clear hn5 hv5 cB
      go_wp2_with fail
      go_ret2
      exact ⟨A4, us, c4, A5, vs, c5, rfl, hc4, hc5, HN4.out, HN5.out, by rw [HV4.out, HQV.out], by rw [HV5.out, HCV.out], hr4, hr5, hb7⟩
end Go.Proofs.Ytoidhoiadkafhaa
