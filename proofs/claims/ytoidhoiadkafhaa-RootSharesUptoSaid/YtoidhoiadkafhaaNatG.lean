/- What the program's Shift answers. -/
import Derived.Test.YtoidhoiadkafhaaNatF
namespace Go.Proofs.Ytoidhoiadkafhaa
open Go.RowKit Num

/-- a number times a power of 2 -/
theorem up_value {n words s N V : Nat} (h : n = 32 * words + s) (hV : V = 4294967296 ^ words * (N * 2 ^ s)) : V = N * 2 ^ n := by
  rw [hV, h, Nat.pow_add, Nat.pow_mul]
  grind

set_option maxHeartbeats 800000 in
theorem nat_shiftUp (a : List Nat) (A : Option Addr) (ca n : Nat) (S : Nat → Prop) (w : World) (h : Rd w S .u32 A a) (hS : ∀ g, S g → g < w.heap.size) (hl : a.length ≤ 1073741824) (ha : Dg 4294967296 a) (hn : n ≤ 4096) :
    Calls Try.prog 63 #[.slice A a.length ca, .int .i64 n] w (Gives .u32 4294967296 (val 4294967296 a * 2 ^ n) w) := by
  obtain ⟨k, hk⟩ : ∃ k, n / 32 = k := ⟨_, rfl⟩
  obtain ⟨s, hs⟩ : ∃ s, n % 32 = s := ⟨_, rfl⟩
  have hns : n = 32 * k + s := by omega
  have hs32 : s < 32 := by omega
  have ek : (n : Int) / 32 = (k : Int) := by omega
  have es : (n : Int) % 32 = (s : Int) := by omega
  have hk128 : k ≤ 128 := by omega
  have hmk : ∀ u : World, (Instr.makeSlice 22 (.int .i64 ((k : Int) + (a.length : Int) + 1)) (.int .i64 ((k : Int) + (a.length : Int) + 1))).run Try.prog u =
    .ok (.slice (some ⟨u.heap.size, 0, none⟩) (k + a.length + 1) (k + a.length + 1)) (u.alloc (.cells (cells .u32 (List.replicate (k + a.length + 1) 0)).toArray 36)) := fun u => make_words (k + a.length + 1) (by omega) u
  have hra : Rd (w.alloc (.cells (cells .u32 (List.replicate (k + a.length + 1) 0)).toArray 36)) S .u32 A a := h.keep fun p hp => World.cell?_alloc_lt w _ p (hS _ hp)
  have hne : ¬ k + a.length + 1 = k := by omega
  have hmin : a.length = Nat.min a.length (k + a.length + 1 - k) := by show _ = min _ _; omega
  have HMIN := Lib.hid hmin
  clear hmin
  have HNS := Lib.hid hns
  clear hk hs hns h
  go_enter Try.func63, Try.ntmps63
  go_wp2_with (with_reducible refine wpList_copy_digits rfl _ _ 22 rfl 36 .u32 Try.underlying22 size_u32 _ _ _ _ _ _ rfl rfl w.heap.size k (List.replicate (k + a.length + 1) 0) (Row.new w _ _ _) a HMIN.out (fun _ => rfl) S hra (by rw [List.length_replicate]; omega) ?_; intro w2 hrow2 hgr2)
  rw [splice_zeros rfl] at hrow2
  have hzl : (List.replicate k 0 ++ (a ++ [0])).length = k + a.length + 1 := by simp; omega
  have hseg : (((List.replicate k 0 ++ (a ++ [0])).drop k).take (k + a.length + 1 - k)) = a ++ [0] := by
    rw [List.drop_left' (by simp), List.take_of_length_le (by simp; omega)]
  have cm := nat_moveUp (List.replicate k 0 ++ (a ++ [0])) w.heap.size k (k + a.length + 1 - k) (k + a.length + 1 - k) s _ w2 hrow2 (by rw [hzl]; omega) (by omega) (Dg.append.2 ⟨Dg.zeros (by omega), ha.snoc (by omega)⟩) hs32
  rw [hseg] at cm
  clear hzl hseg hra hmk hne
  refine cm.mono ?_
  rintro e w3 ⟨rfl, cs, cy, hcl, hcd, hcv, hrow3, hgr3⟩
  have hcl2 : cs.length = a.length + 1 := by omega
  rw [splice_behind (by simp) (by simp; omega)] at hrow3
  have hpow : val 4294967296 a * 2 ^ s < 4294967296 ^ (k + a.length + 1 - k) := by
    rw [show k + a.length + 1 - k = a.length + 1 by omega, Nat.pow_succ]
    refine Nat.mul_lt_mul'' (val_lt ha) ?_
    exact Nat.lt_of_lt_of_le (Nat.pow_lt_pow_right (by omega) hs32) (Nat.le_refl _)
  rw [val_snoc, Nat.mul_zero, Nat.add_zero] at hcv
  have hcy := over_zero hpow hcv
  rw [hcy, Nat.mul_zero, Nat.add_zero] at hcv
  have hval : val 4294967296 (List.replicate k 0 ++ cs) = val 4294967296 a * 2 ^ n := by
    rw [val_append, val_zeros, Nat.zero_add, List.length_replicate]
    exact up_value HNS.out (by rw [hcv, Nat.add_zero])
  have hlen : (List.replicate k 0 ++ cs).length = k + a.length + 1 := by rw [List.length_append, List.length_replicate]; omega
  have hrd3 : Rd w3 (fun g => g < w3.heap.size) .u32 (some ⟨w.heap.size, 0, none⟩) (List.replicate k 0 ++ cs) := hrow3.rd_all hrow3.lt
  have hcut := nat_cut (List.replicate k 0 ++ cs) (some ⟨w.heap.size, 0, none⟩) (k + a.length + 1) _ w3 hrd3 (by omega) (by omega) (Dg.append.2 ⟨Dg.zeros (by omega), hcd⟩)
  rw [hlen] at hcut
  have HV := Lib.hid hval
  clear hval hlen hcv hcy hpow hcl hcl2 cm ek es
  go_wp2_with fail
  refine hcut.mono ?_
  rintro e w4 ⟨us, A4, c4, rfl, hcut4, hr4, rfl⟩
  obtain ⟨hc4, hl4, -, hn4, hv4, -⟩ := hcut4
  have HN4 := Lib.hid hn4
  have HV4 := Lib.hid hv4
  clear hn4 hv4 hcut
  go_wp2
  go_ret
  exact ⟨A4, us, c4, rfl, hc4, HN4.out, by rw [HV4.out, HV.out], hr4, below_alloc_grown (Nat.le_refl _) (grown_trans hgr2 hgr3) (Nat.le_refl _)⟩

set_option maxHeartbeats 800000 in
theorem nat_shiftDown (a : List Nat) (A : Option Addr) (ca n : Nat) (S : Nat → Prop) (w : World) (h : Rd w S .u32 A a) (hS : ∀ g, S g → g < w.heap.size) (hl : a.length ≤ 1073741824) (hc : a.length ≤ ca) (ha : Dg 4294967296 a) (hn : n ≤ 4096) :
    Calls Try.prog 62 #[.slice A a.length ca, .int .i64 n] w (Gives .u32 4294967296 (val 4294967296 a / 2 ^ n) w) := by
  obtain ⟨k, hk⟩ : ∃ k, n / 32 = k := ⟨_, rfl⟩
  obtain ⟨s, hs⟩ : ∃ s, n % 32 = s := ⟨_, rfl⟩
  have hns : n = 32 * k + s := by omega
  have hs32 : s < 32 := by omega
  have ek : (n : Int) / 32 = (k : Int) := by omega
  have es : (n : Int) % 32 = (s : Int) := by omega
  have hk128 : k ≤ 128 := by omega
  have hpw : (2 : Nat) ^ n = 4294967296 ^ k * 2 ^ s := by rw [hns, Nat.pow_add, Nat.pow_mul]
  have HPW := Lib.hid hpw
  clear hk hs hns hpw
  by_cases hlt : a.length ≤ k
  · go_enter Try.func62, Try.ntmps62
    go_wp2
    go_ret
    refine ⟨none, [], 0, rfl, by simp, norm_nil _, ?_, Rd.nil, Below.refl _ _⟩
    have h1 := val_lt_pow (n := k) ha (by omega) hlt
    have h2 : 4294967296 ^ k * 1 ≤ 4294967296 ^ k * 2 ^ s := Nat.mul_le_mul_left _ (Nat.pow_pos (by omega))
    rw [Nat.div_eq_of_lt (by rw [HPW.out]; omega)]
    rfl
  · have hmk : ∀ u : World, (Instr.makeSlice 22 (.int .i64 ((a.length : Int) - (k : Int))) (.int .i64 ((a.length : Int) - (k : Int)))).run Try.prog u =
      .ok (.slice (some ⟨u.heap.size, 0, none⟩) (a.length - k) (a.length - k)) (u.alloc (.cells (cells .u32 (List.replicate (a.length - k) 0)).toArray 36)) := fun u => by
        rw [show (a.length : Int) - (k : Int) = ((a.length - k : Nat) : Int) by omega]; exact make_words (a.length - k) (by omega) u
    have hne : ¬ ca = k := by omega
    have hra : Rd (w.alloc (.cells (cells .u32 (List.replicate (a.length - k) 0)).toArray 36)) S .u32 (A.map (·.add k)) (a.drop k) := by
      have := (h.drop (n := k) hc).keep (w' := w.alloc (.cells (cells .u32 (List.replicate (a.length - k) 0)).toArray 36)) fun p hp => World.cell?_alloc_lt w _ p (hS _ hp)
      rwa [if_neg hne] at this
    obtain ⟨b, o, rfl, _, _⟩ := h.at_ (j := 0) (by omega)
    simp only [Option.map_some, add_mk] at hra
    have hmin : (a.drop k).length = Nat.min (a.length - k) (a.length - k) := by rw [List.length_drop]; show _ = min _ _; omega
    have HMIN := Lib.hid hmin
    clear hmin
    go_enter Try.func62, Try.ntmps62
    go_wp2_with (with_reducible refine wpList_copy_digits rfl _ _ 22 rfl 36 .u32 Try.underlying22 size_u32 _ _ _ _ _ _ rfl rfl w.heap.size 0 (List.replicate (a.length - k) 0) (Row.new w _ _ _) (a.drop k) HMIN.out (fun _ => rfl) S hra (by rw [List.length_replicate, List.length_drop]; omega) ?_; intro w2 hrow2 hgr2)
    rw [splice_full (by rw [List.length_replicate, List.length_drop])] at hrow2
    have hdl : (a.drop k).length = a.length - k := List.length_drop
    have cm := nat_moveDown (a.drop k) w.heap.size (a.length - k) s _ w2 hrow2 (by omega) ha.drop hs32
    rw [hdl] at cm
    refine cm.mono ?_
    rintro e w3 ⟨rfl, cs, hcl, hcd, hcv, hrow3, hgr3⟩
    have hval : val 4294967296 cs = val 4294967296 a / 2 ^ n := by
      have h1 := val_split (b := 4294967296) (k := k) (xs := a) (by omega)
      have h2 := val_lt (b := 4294967296) (xs := a.take k) ha.take
      rw [List.length_take, Nat.min_eq_left (by omega)] at h2
      rw [hcv, HPW.out, ← Nat.div_div_eq_div_mul, h1, Nat.add_mul_div_left _ _ (Nat.pow_pos (by omega)), Nat.div_eq_of_lt h2, Nat.zero_add]
    have hrd3 : Rd w3 (fun g => g < w3.heap.size) .u32 (some ⟨w.heap.size, 0, none⟩) cs := hrow3.rd_all hrow3.lt
    have hcut := nat_cut cs (some ⟨w.heap.size, 0, none⟩) (a.length - k) _ w3 hrd3 (by omega) (by omega) hcd
    rw [hcl] at hcut
    have HV := Lib.hid hval
    clear hval hcl hcv cm hdl hmk
    go_wp2_with fail
    refine hcut.mono ?_
    rintro e w4 ⟨us, A4, c4, rfl, hcut4, hr4, rfl⟩
    obtain ⟨hc4, hl4, -, hn4, hv4, -⟩ := hcut4
    have HN4 := Lib.hid hn4
    have HV4 := Lib.hid hv4
    clear hn4 hv4 hcut
    go_wp2
    go_ret
    exact ⟨A4, us, c4, rfl, hc4, HN4.out, by rw [HV4.out, HV.out], hr4, below_alloc_grown (Nat.le_refl _) (grown_trans hgr2 hgr3) (Nat.le_refl _)⟩

/-- a number times a power of 2, or by one; of others 0 -/
def shiftVal (N : Nat) (n : Int) : Nat := if n < -4096 ∨ 4096 < n then 0 else if n < 0 then N / 2 ^ (-n).toNat else N * 2 ^ n.toNat
set_option maxHeartbeats 800000 in
theorem nat_Shift (a : List Nat) (A : Option Addr) (ca : Nat) (n : Int) (S : Nat → Prop) (w : World) (h : Rd w S .u32 A a) (hS : ∀ g, S g → g < w.heap.size) (hl : a.length ≤ 1073741824) (hc : a.length ≤ ca) (ha : Dg 4294967296 a) (hn1 : -9223372036854775808 ≤ n) (hn2 : n ≤ 9223372036854775807) :
    Calls Try.prog 43 #[.slice A a.length ca, .int .i64 n] w (Gives .u32 4294967296 (shiftVal (val 4294967296 a) n) w) := by
  by_cases h1 : n < -4096
  · have hv : shiftVal (val 4294967296 a) n = 0 := by unfold shiftVal; rw [if_pos (.inl h1)]
    rw [hv]
    clear hv
    go_enter Try.func43, Try.ntmps43
    go_wp2
    go_ret
    exact ⟨none, [], 0, rfl, by simp, norm_nil _, rfl, Rd.nil, Below.refl _ _⟩
  · by_cases h2 : 4096 < n
    · have hv : shiftVal (val 4294967296 a) n = 0 := by unfold shiftVal; rw [if_pos (.inr h2)]
      rw [hv]
      clear hv
      go_enter Try.func43, Try.ntmps43
      go_wp2
      go_ret
      exact ⟨none, [], 0, rfl, by simp, norm_nil _, rfl, Rd.nil, Below.refl _ _⟩
    · by_cases h3 : n < 0
      · obtain ⟨m, hm⟩ : ∃ m : Nat, n = -(m : Int) := ⟨(-n).toNat, by omega⟩
        subst hm
        have hv : shiftVal (val 4294967296 a) (-(m : Int)) = val 4294967296 a / 2 ^ m := by unfold shiftVal; rw [if_neg (by omega), if_pos h3]; congr 2; omega
        rw [hv]
        clear hv
        have hm1 : 1 ≤ (m : Int) := by omega
        have hm2 : (m : Int) ≤ 4096 := by omega
        go_enter Try.func43, Try.ntmps43
        go_wp2_with fail
        refine (nat_cut a A ca S w h (by omega) hc ha).mono ?_
        rintro e w1 ⟨x, A1, c1, rfl, hcut1, hr1, rfl⟩
        obtain ⟨hc1, hl1, -, hn, hv1, -⟩ := hcut1
        have cs := nat_shiftDown x A1 c1 m S w hr1 hS (by omega) hc1 hn.1 (by omega)
        rw [hv1] at cs
        clear hn hv1 h
        go_wp2_with fail
        go_fit cs
        rintro e w2 ⟨A2, us, c2, rfl, h5⟩
        have H5 := Lib.hid h5
        clear h5 cs
        go_wp2
        go_ret
        exact ⟨A2, us, c2, rfl, H5.out⟩
      · obtain ⟨m, hm⟩ : ∃ m : Nat, n = (m : Int) := ⟨n.toNat, by omega⟩
        subst hm
        have hv : shiftVal (val 4294967296 a) (m : Int) = val 4294967296 a * 2 ^ m := by unfold shiftVal; rw [if_neg (by omega), if_neg h3]; congr 2
        rw [hv]
        clear hv
        have hm2 : (m : Int) ≤ 4096 := by omega
        go_enter Try.func43, Try.ntmps43
        go_wp2_with fail
        refine (nat_cut a A ca S w h (by omega) hc ha).mono ?_
        rintro e w1 ⟨x, A1, c1, rfl, hcut1, hr1, rfl⟩
        obtain ⟨hc1, hl1, -, hn, hv1, -⟩ := hcut1
        have cs := nat_shiftUp x A1 c1 m S w hr1 hS (by omega) hn.1 (by omega)
        rw [hv1] at cs
        clear hn hv1 h
        go_wp2_with fail
        go_fit cs
        rintro e w2 ⟨A2, us, c2, rfl, h5⟩
        have H5 := Lib.hid h5
        clear h5 cs
        go_wp2
        go_ret
        exact ⟨A2, us, c2, rfl, H5.out⟩
end Go.Proofs.Ytoidhoiadkafhaa
