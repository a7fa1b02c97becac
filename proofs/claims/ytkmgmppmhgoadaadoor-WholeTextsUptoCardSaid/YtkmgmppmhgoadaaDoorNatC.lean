/- What the program's own calls on numbers answer: Trim, Add, Sub. -/
import Derived.Test.YtkmgmppmhgoadaaDoorNatB
namespace Go.Proofs.YtkmgmppmhgoadaaDoor
open Go.RowKit Num

theorem size_u32 : (Tryd.prog.info? 60).map (·.size) = some 1 := by kernel_rfl
theorem make_words (n : Nat) (hn : n ≤ 34359738368) (u : World) : (Instr.makeSlice 22 (.int .i64 (n : Int)) (.int .i64 (n : Int))).run Tryd.prog u =
    .ok (.slice (some ⟨u.heap.size, 0, none⟩) n n) (u.alloc (.cells (cells .u32 (List.replicate n 0)).toArray 60)) :=
  run_make_digits 22 60 .u32 4 Tryd.underlying22 info_u32 (by omega) n hn u
theorem make_words1 (n : Nat) (hn : n + 1 ≤ 34359738368) (u : World) : (Instr.makeSlice 22 (.int .i64 ((n : Int) + 1)) (.int .i64 ((n : Int) + 1))).run Tryd.prog u =
    .ok (.slice (some ⟨u.heap.size, 0, none⟩) (n + 1) (n + 1)) (u.alloc (.cells (cells .u32 (List.replicate (n + 1) 0)).toArray 60)) := make_words (n + 1) hn u
theorem splice_full {zs cs : List Nat} (h : cs.length = zs.length) : splice zs 0 cs = cs := by simp [splice, h]
theorem splice_zero {zs cs : List Nat} : splice zs 0 cs = cs ++ zs.drop cs.length := by simp [splice]
theorem below_alloc_grown {B : Nat} {w w' : World} {o : Obj} {g : Nat} (hB : B ≤ w.heap.size) (h : (w.alloc o).grownBy w' (some g)) (hg : B ≤ g) : Below B w w' :=
  ((Below.refl B w).alloc hB o).grown h (by simp; omega) (fun k e => by injection e with e; omega)

set_option maxHeartbeats 400000 in
/-- a number laid anew: in a block of its own, without words of 0 at its end -/
theorem nat_Trim (d : List Nat) (A : Option Addr) (c : Nat) (S : Nat → Prop) (w : World) (h : Rd w S .u32 A d) (hS : ∀ b, S b → b < w.heap.size) (hl : d.length ≤ 2147483648) (hc : d.length ≤ c) (hd : Dg 4294967296 d) :
    Calls Tryd.prog 55 #[.slice A d.length c] w fun e w' => ∃ ys, Norm 4294967296 ys ∧ val 4294967296 ys = val 4294967296 d ∧ ys.length ≤ d.length ∧ Below w.heap.size w w' ∧
      ((ys = [] ∧ e = .returned (.slice none 0 0)) ∨ (ys ≠ [] ∧ ∃ g, e = .returned (.slice (some ⟨g, 0, none⟩) ys.length ys.length) ∧ w.heap.size ≤ g ∧ Row w' g 60 .u32 ys)) := by
  go_enter Tryd.func55, Tryd.ntmps55
  go_wp2_with fail
  refine (nat_cut d A c S w h (by omega) hc hd).mono ?_
  rintro e w1 ⟨ys, A1, c1, rfl, hcut, hr, rfl⟩
  obtain ⟨hc1, hl1, -, hn, hv, -⟩ := hcut
  have HN := Lib.hid hn
  have HV := Lib.hid hv
  clear hn hv h
  by_cases h0 : ys.length = 0
  · obtain rfl : ys = [] := List.eq_nil_of_length_eq_zero h0
    go_wp2
    go_ret
    exact ⟨[], HN.out, HV.out, by simp, Below.refl _ _, .inl ⟨rfl, rfl⟩⟩
  · have hmk := fun u => make_words ys.length (by omega) u
    have hr1 : Rd (w.alloc (.cells (cells .u32 (List.replicate ys.length 0)).toArray 60)) S .u32 A1 ys := hr.keep fun p hp => World.cell?_alloc_lt w _ p (hS _ hp)
    go_wp2_with (with_reducible refine wpList_copy_digits rfl _ _ 22 rfl 60 .u32 Tryd.underlying22 size_u32 _ _ _ _ _ _ rfl rfl w.heap.size 0 (List.replicate ys.length 0) (Row.new w _ _ _) ys (by simp) (fun _ => rfl) S hr1 (by simp) ?_; intro w2 hrow2 hgr2)
    go_ret
    rw [splice_full (by simp)] at hrow2
    refine ⟨ys, HN.out, HV.out, hl1, below_alloc_grown (Nat.le_refl _) hgr2 (Nat.le_refl _), .inr ⟨by rintro rfl; simp at h0, w.heap.size, rfl, Nat.le_refl _, hrow2⟩⟩

set_option maxHeartbeats 800000 in
/-- a sum -/
theorem nat_Add (a b : List Nat) (A A' : Option Addr) (ca cb : Nat) (S S' : Nat → Prop) (w : World) (h : Rd w S .u32 A a) (h' : Rd w S' .u32 A' b) (hS : ∀ g, S g → g < w.heap.size) (hS' : ∀ g, S' g → g < w.heap.size) (hl : a.length ≤ 2147483647) (hl' : b.length ≤ 2147483647) (hc : a.length ≤ ca) (hc' : b.length ≤ cb) (ha : Dg 4294967296 a) (hb : Dg 4294967296 b) :
    Calls Tryd.prog 48 #[.slice A a.length ca, .slice A' b.length cb] w (Gives .u32 4294967296 (val 4294967296 a + val 4294967296 b) w) := by
  go_enter Tryd.func48, Tryd.ntmps48
  go_wp2_with fail
  refine (nat_cut a A ca S w h (by omega) hc ha).mono ?_
  rintro e w1 ⟨x, A1, c1, rfl, hcut1, hr1, rfl⟩
  obtain ⟨hc1, hl1, -, hn1, hv1, -⟩ := hcut1
  have HN1 := Lib.hid hn1
  have HV1 := Lib.hid hv1
  clear hn1 hv1 h
  go_wp2_with fail
  refine (nat_cut b A' cb S' w h' (by omega) hc' hb).mono ?_
  rintro e w1 ⟨y, A2, c2, rfl, hcut2, hr2, rfl⟩
  obtain ⟨hc2, hl2, -, hn2, hv2, -⟩ := hcut2
  have HN2 := Lib.hid hn2
  have HV2 := Lib.hid hv2
  clear hn2 hv2 h'
  have hr1' : Rd w (fun g => g < w.heap.size) .u32 A1 x := hr1.imp hS
  have hr2' : Rd w (fun g => g < w.heap.size) .u32 A2 y := hr2.imp hS'
  clear hr1 hr2
  by_cases hlt : x.length < y.length
  · skip
    have hmk := fun u => make_words1 y.length (by omega) u
    have hrX : Rd (w.alloc (.cells (cells .u32 (List.replicate (y.length + 1) 0)).toArray 60)) (fun g => g < w.heap.size) .u32 A2 y := hr2'.keep fun p hp => World.cell?_alloc_lt w _ p hp
    have hrY : Rd (w.alloc (.cells (cells .u32 (List.replicate (y.length + 1) 0)).toArray 60)) (fun g => g < w.heap.size) .u32 A1 x := hr1'.keep fun p hp => World.cell?_alloc_lt w _ p hp
    go_wp2_with (with_reducible refine wpList_copy_digits rfl _ _ 22 rfl 60 .u32 Tryd.underlying22 size_u32 _ _ _ _ _ _ rfl rfl w.heap.size 0 (List.replicate (y.length + 1) 0) (Row.new w _ _ _) y (by simp) (fun _ => rfl) _ hrX (by simp) ?_; intro w2 hrow2 hgr2)
    rw [splice_zero] at hrow2
    have ez : (List.replicate (y.length + 1) 0).drop y.length = [0] := by rw [List.drop_replicate]; simp
    rw [ez] at hrow2
    have hrY2 : Rd w2 (fun g => g ≠ w.heap.size) .u32 A1 x := (hrY.grown hgr2 (fun g hg => ⟨by simp; omega, fun e => by injection e; omega⟩)).imp (fun g hg => by omega)
    clear ez hrX hrY
    refine (nat_addIn (y ++ [0]) x w.heap.size 0 (y.length + 1) (y.length + 1) A1 c1 _ w2 hrow2 hrY2 (by simp) (by omega) (by omega) (HN2.out.1.snoc (by omega)) HN1.out.1).mono ?_
    rintro e w3 ⟨rfl, cs, k, hcl, hcd, hcv, hrow3, hgr3⟩
    rw [splice_full (by simp; omega)] at hrow3
    have HCV := Lib.hid hcv
    clear hcv
    have hrd3 : Rd w3 (fun g => g < w3.heap.size) .u32 (some ⟨w.heap.size, 0, none⟩) cs := hrow3.rd_all hrow3.lt
    go_wp2_with fail
    have hcut := nat_cut cs (some ⟨w.heap.size, 0, none⟩) (y.length + 1) _ w3 hrd3 (by omega) (by omega) hcd
    rw [hcl] at hcut
    refine hcut.mono ?_
    rintro e w4 ⟨us, A4, c4, rfl, hcut4, hr4, rfl⟩
    obtain ⟨hc4, hl4, -, hn4, hv4, -⟩ := hcut4
    have HN4 := Lib.hid hn4
    have HV4 := Lib.hid hv4
    clear hn4 hv4 hcut
    go_wp2
    go_ret
    refine ⟨A4, us, c4, rfl, hc4, HN4.out, ?_, hr4, below_alloc_grown (Nat.le_refl _) (grown_trans hgr2 hgr3) (Nat.le_refl _)⟩
    have hv := HCV.out
    simp only [List.drop_zero] at hv
    rw [List.take_of_length_le (by simp), val_snoc, Nat.mul_zero, Nat.add_zero] at hv
    have h0 := carry_zero (by omega) (val_lt_pow HN2.out.1 (by omega) (Nat.le_refl _)) (val_lt_pow HN1.out.1 (by omega) (by omega)) hv
    rw [h0, Nat.mul_zero, Nat.add_zero, HV1.out, HV2.out] at hv
    rw [HV4.out, hv]; omega
  · skip
    have hmk := fun u => make_words1 x.length (by omega) u
    have hrX : Rd (w.alloc (.cells (cells .u32 (List.replicate (x.length + 1) 0)).toArray 60)) (fun g => g < w.heap.size) .u32 A1 x := hr1'.keep fun p hp => World.cell?_alloc_lt w _ p hp
    have hrY : Rd (w.alloc (.cells (cells .u32 (List.replicate (x.length + 1) 0)).toArray 60)) (fun g => g < w.heap.size) .u32 A2 y := hr2'.keep fun p hp => World.cell?_alloc_lt w _ p hp
    go_wp2_with (with_reducible refine wpList_copy_digits rfl _ _ 22 rfl 60 .u32 Tryd.underlying22 size_u32 _ _ _ _ _ _ rfl rfl w.heap.size 0 (List.replicate (x.length + 1) 0) (Row.new w _ _ _) x (by simp) (fun _ => rfl) _ hrX (by simp) ?_; intro w2 hrow2 hgr2)
    rw [splice_zero] at hrow2
    have ez : (List.replicate (x.length + 1) 0).drop x.length = [0] := by rw [List.drop_replicate]; simp
    rw [ez] at hrow2
    have hrY2 : Rd w2 (fun g => g ≠ w.heap.size) .u32 A2 y := (hrY.grown hgr2 (fun g hg => ⟨by simp; omega, fun e => by injection e; omega⟩)).imp (fun g hg => by omega)
    clear ez hrX hrY
    refine (nat_addIn (x ++ [0]) y w.heap.size 0 (x.length + 1) (x.length + 1) A2 c2 _ w2 hrow2 hrY2 (by simp) (by omega) (by omega) (HN1.out.1.snoc (by omega)) HN2.out.1).mono ?_
    rintro e w3 ⟨rfl, cs, k, hcl, hcd, hcv, hrow3, hgr3⟩
    rw [splice_full (by simp; omega)] at hrow3
    have HCV := Lib.hid hcv
    clear hcv
    have hrd3 : Rd w3 (fun g => g < w3.heap.size) .u32 (some ⟨w.heap.size, 0, none⟩) cs := hrow3.rd_all hrow3.lt
    go_wp2_with fail
    have hcut := nat_cut cs (some ⟨w.heap.size, 0, none⟩) (x.length + 1) _ w3 hrd3 (by omega) (by omega) hcd
    rw [hcl] at hcut
    refine hcut.mono ?_
    rintro e w4 ⟨us, A4, c4, rfl, hcut4, hr4, rfl⟩
    obtain ⟨hc4, hl4, -, hn4, hv4, -⟩ := hcut4
    have HN4 := Lib.hid hn4
    have HV4 := Lib.hid hv4
    clear hn4 hv4 hcut
    go_wp2
    go_ret
    refine ⟨A4, us, c4, rfl, hc4, HN4.out, ?_, hr4, below_alloc_grown (Nat.le_refl _) (grown_trans hgr2 hgr3) (Nat.le_refl _)⟩
    have hv := HCV.out
    simp only [List.drop_zero] at hv
    rw [List.take_of_length_le (by simp), val_snoc, Nat.mul_zero, Nat.add_zero] at hv
    have h0 := carry_zero (by omega) (val_lt_pow HN1.out.1 (by omega) (Nat.le_refl _)) (val_lt_pow HN2.out.1 (by omega) (by omega)) hv
    rw [h0, Nat.mul_zero, Nat.add_zero, HV1.out, HV2.out] at hv
    rw [HV4.out, hv]; omega

theorem nat_takeOff_nil (A A' : Option Addr) (c c' : Nat) (w : World) :
    Calls Tryd.prog 77 #[.slice A 0 c, .slice A' 0 c'] w fun e w' => e = .returned (.tuple #[]) ∧ w = w' := by
  go_enter Tryd.func77, Tryd.ntmps77
  go_wp2_with fail
  go_loopg [4, 5, 6, 10] 0 (fun gh c' _ _ i wr => i = .int .i64 0 ∧ c' = .int .u32 0 ∧ w = wr)
  case atStart => exact ⟨rfl, rfl, rfl⟩
  case round =>
    obtain ⟨rfl, rfl, rfl⟩ := hrel
    go_wp2_with fail
    go_loopg [4, 7] 0 (fun gh c' i wr => c' = .int .u32 0 ∧ w = wr)
    case atStart => exact ⟨rfl, rfl⟩
    case round =>
      obtain ⟨rfl, rfl⟩ := hrel
      go_wp2
      go_end0
      exact ⟨rfl, rfl⟩

set_option maxHeartbeats 800000 in
/-- what is left -/
theorem nat_Sub (a b : List Nat) (A A' : Option Addr) (ca cb : Nat) (S S' : Nat → Prop) (w : World) (h : Rd w S .u32 A a) (h' : Rd w S' .u32 A' b) (hS : ∀ g, S g → g < w.heap.size) (hS' : ∀ g, S' g → g < w.heap.size) (hl : a.length ≤ 1073741824) (hl' : b.length ≤ 1073741824) (hc : a.length ≤ ca) (hc' : b.length ≤ cb) (ha : Dg 4294967296 a) (hb : Dg 4294967296 b) :
    Calls Tryd.prog 50 #[.slice A a.length ca, .slice A' b.length cb] w (GivesB .u32 4294967296 (val 4294967296 a - val 4294967296 b) (decide (val 4294967296 b ≤ val 4294967296 a)) w) := by
  go_enter Tryd.func50, Tryd.ntmps50
  go_wp2_with fail
  refine (nat_Cmp a b A A' ca cb S S' w h h' hl hl' hc hc' ha hb).mono ?_
  rintro e w0 ⟨rfl, m, hw0⟩
  have hb0 : Below w.heap.size w w0 := by rw [hw0]; exact below_drewN (Below.refl _ _) m
  have hs0 : w0.heap.size = w.heap.size := by rw [hw0]; rfl
  have h1 : Rd w0 S .u32 A a := by rw [hw0]; exact h.drewN m
  have h1' : Rd w0 S' .u32 A' b := by rw [hw0]; exact h'.drewN m
  clear hw0 h h'
  have hneg := cmpI_neg (val 4294967296 a) (val 4294967296 b)
  have hSa : ∀ g, S g → g < w0.heap.size := fun g hg => by have := hS g hg; omega
  have hSb : ∀ g, S' g → g < w0.heap.size := fun g hg => by have := hS' g hg; omega
  have HS0 := Lib.hid hs0
  clear hs0
  by_cases hlt : val 4294967296 a < val 4294967296 b
  · rw [cmpI_lt hlt]
    have H := Lib.hid hlt
    clear hlt hneg
    go_wp2_with fail
    go_ret2
    have hlt := H.out
    refine ⟨none, [], 0, ?_, by simp, norm_nil _, ?_, Rd.nil, hb0⟩
    · rw [decide_eq_false (by omega)]; rfl
    · rw [val_nil]; omega
  · obtain ⟨z, hz⟩ : ∃ z, cmpI (val 4294967296 a) (val 4294967296 b) = z := ⟨_, rfl⟩
    rw [hz] at hneg ⊢
    have hz0 : 0 ≤ z := by omega
    have H := Lib.hid hlt
    clear hlt hneg hz
    go_wp2_with fail
    refine (nat_Trim a A ca S w0 h1 hSa (by omega) hc ha).mono ?_
    rintro e w1 ⟨x, hn1, hv1, hl1, hb1, hcase⟩
    have HN1 := Lib.hid hn1
    have HV1 := Lib.hid hv1
    clear hn1 hv1
    have hs1 := hb1.size
    have h2' : Rd w1 S' .u32 A' b := h1'.below hb1 hSb
    clear h1 h1'
    have hble : val 4294967296 b ≤ val 4294967296 a := Nat.le_of_not_lt H.out
    rcases hcase with ⟨hx, rfl⟩ | ⟨hx, g, rfl, hg, hrow⟩
    · have hva : val 4294967296 a = 0 := by rw [← HV1.out, hx]; rfl
      have HVA := Lib.hid hva
      have HBL := Lib.hid hble
      have HX := Lib.hid hx
      clear hva hble hx
      go_wp2_with fail
      refine (nat_cut b A' cb S' w1 h2' (by omega) hc' hb).mono ?_
      rintro e w2 ⟨y, A2, c2, rfl, hcut2, hr2, rfl⟩
      obtain ⟨hc2, hl2, -, hn2, hv2, -⟩ := hcut2
      have hy : y = [] := (hn2.2.nil_iff (b := 4294967296) (by omega)).2 (by rw [hv2]; have := HBL.out; have := HVA.out; omega)
      subst hy
      clear hn2 hv2 hc2 hl2 hr2
      go_wp2_with (first
        | (go_at_call 77; refine (nat_takeOff_nil _ _ _ _ _).mono ?_; rintro e w' ⟨rfl, rfl⟩)
        | (go_at_call 67; refine (nat_cut [] none 0 S _ Rd.nil (by simp) (by simp) (Dg.nil _)).mono ?_; rintro e w' ⟨us, A4, c4, rfl, hcut4, hr4, rfl⟩))
      go_ret2
      obtain ⟨hc4, hl4, -, hn4, hv4, -⟩ := hcut4
      refine ⟨A4, us, c4, ?_, hc4, hn4, ?_, hr4.below_size.imp (fun g hg => hg.2), hb0.trans (hb1.mono (by have := HS0.out; omega))⟩
      · rw [decide_eq_true (HBL.out)]; rfl
      · rw [hv4, HVA.out]; simp [val]
    · have HBL := Lib.hid hble
      clear hble
      go_wp2_with fail
      refine (nat_cut b A' cb S' w1 h2' (by omega) hc' hb).mono ?_
      rintro e w2 ⟨y, A2, c2, rfl, hcut2, hr2, rfl⟩
      obtain ⟨hc2, hl2, -, hn2, hv2, -⟩ := hcut2
      have HN2 := Lib.hid hn2
      have HV2 := Lib.hid hv2
      clear hn2 hv2
      have hle : val 4294967296 y ≤ val 4294967296 x := by rw [HV2.out, HV1.out]; exact HBL.out
      have hyx : y.length ≤ x.length := HN2.out.2.length_le (by omega) (Nat.lt_of_le_of_lt hle (val_lt HN1.out.1))
      have HLE := Lib.hid hle
      clear hle
      have hrY : Rd w1 (fun b => b ≠ g) .u32 A2 y := hr2.imp (fun q hq => by have := hSb q hq; omega)
      go_wp2_with fail
      refine (nat_takeOff x y g 0 x.length x.length A2 c2 _ w1 hrow hrY (by omega) hyx (by omega) HN1.out.1 HN2.out.1 (by simpa using HLE.out)).mono ?_
      rintro e w3 ⟨rfl, cs, hcl, hcd, hcv, hrow3, hgr3⟩
      rw [splice_full hcl] at hrow3
      have HCV := Lib.hid hcv
      clear hcv
      have hrd3 : Rd w3 (fun g => g < w3.heap.size) .u32 (some ⟨g, 0, none⟩) cs := hrow3.rd_all hrow3.lt
      have hcut := nat_cut cs (some ⟨g, 0, none⟩) x.length _ w3 hrd3 (by omega) (by omega) hcd
      rw [hcl] at hcut
      go_wp2_with fail
      refine hcut.mono ?_
      rintro e w4 ⟨us, A4, c4, rfl, hcut4, hr4, rfl⟩
      obtain ⟨hc4, hl4, -, hn4, hv4, -⟩ := hcut4
      have HN4 := Lib.hid hn4
      have HV4 := Lib.hid hv4
      clear hn4 hv4 hcut
      go_wp2
      go_ret2
      refine ⟨A4, us, c4, ?_, hc4, HN4.out, ?_, hr4, hb0.trans (((hb1.mono (by have := HS0.out; omega)).grown hgr3 (by have := HS0.out; omega) (fun q e => by injection e with e; have := HS0.out; omega)))⟩
      · rw [decide_eq_true (HBL.out)]; rfl
      · have hv := HCV.out
        simp only [List.drop_zero, List.take_length] at hv
        rw [HV2.out, HV1.out] at hv
        rw [HV4.out]; omega
end Go.Proofs.YtkmgmppmhgoadaaDoor
