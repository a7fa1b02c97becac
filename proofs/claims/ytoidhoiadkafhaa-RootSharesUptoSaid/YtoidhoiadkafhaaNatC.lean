/- What the program's own calls on numbers answer: Trim, Add, Sub. -/
import Derived.Test.YtoidhoiadkafhaaNatB
namespace Go.Proofs.Ytoidhoiadkafhaa
open Go.RowKit Num

theorem size_u32 : (Try.prog.info? 36).map (·.size) = some 1 := by kernel_rfl
theorem make_words (n : Nat) (hn : n ≤ 34359738368) (u : World) : (Instr.makeSlice 22 (.int .i64 (n : Int)) (.int .i64 (n : Int))).run Try.prog u =
    .ok (.slice (some ⟨u.heap.size, 0, none⟩) n n) (u.alloc (.cells (cells .u32 (List.replicate n 0)).toArray 36)) :=
  run_make_digits 22 36 .u32 4 Try.underlying22 info_u32 (by omega) n hn u
theorem make_words1 (n : Nat) (hn : n + 1 ≤ 34359738368) (u : World) : (Instr.makeSlice 22 (.int .i64 ((n : Int) + 1)) (.int .i64 ((n : Int) + 1))).run Try.prog u =
    .ok (.slice (some ⟨u.heap.size, 0, none⟩) (n + 1) (n + 1)) (u.alloc (.cells (cells .u32 (List.replicate (n + 1) 0)).toArray 36)) := make_words (n + 1) hn u
theorem splice_full {zs cs : List Nat} (h : cs.length = zs.length) : splice zs 0 cs = cs := by simp [splice, h]
theorem splice_zero {zs cs : List Nat} : splice zs 0 cs = cs ++ zs.drop cs.length := by simp [splice]
theorem below_alloc_grown {B : Nat} {w w' : World} {o : Obj} {g : Nat} (hB : B ≤ w.heap.size) (h : (w.alloc o).grownBy w' (some g)) (hg : B ≤ g) : Below B w w' :=
  ((Below.refl B w).alloc hB o).grown h (by simp; omega) (fun k e => by injection e with e; omega)

set_option maxHeartbeats 400000 in
/-- a number laid anew: in a block of its own, without words of 0 at its end -/
theorem nat_Trim (d : List Nat) (A : Option Addr) (c : Nat) (S : Nat → Prop) (w : World) (h : Rd w S .u32 A d) (hS : ∀ b, S b → b < w.heap.size) (hl : d.length ≤ 2147483648) (hc : d.length ≤ c) (hd : Dg 4294967296 d) :
    Calls Try.prog 28 #[.slice A d.length c] w fun e w' => ∃ ys, Norm 4294967296 ys ∧ val 4294967296 ys = val 4294967296 d ∧ ys.length ≤ d.length ∧ Below w.heap.size w w' ∧
      ((ys = [] ∧ e = .returned (.slice none 0 0)) ∨ (ys ≠ [] ∧ ∃ g, e = .returned (.slice (some ⟨g, 0, none⟩) ys.length ys.length) ∧ w.heap.size ≤ g ∧ Row w' g 36 .u32 ys)) := by
  go_enter Try.func28, Try.ntmps28
  go_wp2_with fail
  refine (nat_cut d A c S w h (by omega) hc hd).mono ?_
  rintro e w1 ⟨ys, A1, c1, rfl, hcut, hr, rfl⟩
  obtain ⟨hc1, hl1, -, hn, hv, -⟩ := hcut
  have HN := Lib.hid hn
  have HV := Lib.hid hv
  clear hn hv h
  by_cases h0 : ys.length = 0
  · obtain rfl : ys = [] := List.eq_nil_of_length_eq_zero h0
    go_wp2
    go_ret
    exact ⟨[], HN.out, HV.out, by simp, Below.refl _ _, .inl ⟨rfl, rfl⟩⟩
  · have hmk := fun u => make_words ys.length (by omega) u
    have hr1 : Rd (w.alloc (.cells (cells .u32 (List.replicate ys.length 0)).toArray 36)) S .u32 A1 ys := hr.keep fun p hp => World.cell?_alloc_lt w _ p (hS _ hp)
    go_wp2_with (with_reducible refine wpList_copy_digits rfl _ _ 22 rfl 36 .u32 Try.underlying22 size_u32 _ _ _ _ _ _ rfl rfl w.heap.size 0 (List.replicate ys.length 0) (Row.new w _ _ _) ys (by simp) (fun _ => rfl) S hr1 (by simp) ?_; intro w2 hrow2 hgr2)
    go_ret
    rw [splice_full (by simp)] at hrow2
    refine ⟨ys, HN.out, HV.out, hl1, below_alloc_grown (Nat.le_refl _) hgr2 (Nat.le_refl _), .inr ⟨by rintro rfl; simp at h0, w.heap.size, rfl, Nat.le_refl _, hrow2⟩⟩

set_option maxHeartbeats 800000 in
/-- a sum -/
theorem nat_Add (a b : List Nat) (A A' : Option Addr) (ca cb : Nat) (S S' : Nat → Prop) (w : World) (h : Rd w S .u32 A a) (h' : Rd w S' .u32 A' b) (hS : ∀ g, S g → g < w.heap.size) (hS' : ∀ g, S' g → g < w.heap.size) (hl : a.length ≤ 2147483647) (hl' : b.length ≤ 2147483647) (hc : a.length ≤ ca) (hc' : b.length ≤ cb) (ha : Dg 4294967296 a) (hb : Dg 4294967296 b) :
    Calls Try.prog 44 #[.slice A a.length ca, .slice A' b.length cb] w (Gives .u32 4294967296 (val 4294967296 a + val 4294967296 b) w) := by
  go_enter Try.func44, Try.ntmps44
  go_wp2_with fail
  refine (nat_cut a A ca S w h (by omega) hc ha).mono ?_
  rintro e w1 ⟨x, A1, c1, rfl, hcut1, hr1, rfl⟩
  obtain ⟨hc1, hl1, -, hn1, hv1, -⟩ := hcut1
  have HN1 := Lib.hid hn1
  have HV1 := Lib.hid hv1
  clear hn1 hv1 h
  go_wp2_with fail
  refine (nat_cut b A' cb S' w h' (by omega) hc' hb).mono ?_
  rintro e w1 ⟨y, A2, c2, rfl, hcut2, hr2, rfl⟩
  obtain ⟨hc2, hl2, -, hn2, hv2, -⟩ := hcut2
  have HN2 := Lib.hid hn2
  have HV2 := Lib.hid hv2
  clear hn2 hv2 h'
  have hr1' : Rd w (fun g => g < w.heap.size) .u32 A1 x := hr1.imp hS
  have hr2' : Rd w (fun g => g < w.heap.size) .u32 A2 y := hr2.imp hS'
  clear hr1 hr2
  by_cases hlt : x.length < y.length
  · skip
    have hmk := fun u => make_words1 y.length (by omega) u
    have hrX : Rd (w.alloc (.cells (cells .u32 (List.replicate (y.length + 1) 0)).toArray 36)) (fun g => g < w.heap.size) .u32 A2 y := hr2'.keep fun p hp => World.cell?_alloc_lt w _ p hp
    have hrY : Rd (w.alloc (.cells (cells .u32 (List.replicate (y.length + 1) 0)).toArray 36)) (fun g => g < w.heap.size) .u32 A1 x := hr1'.keep fun p hp => World.cell?_alloc_lt w _ p hp
    go_wp2_with (with_reducible refine wpList_copy_digits rfl _ _ 22 rfl 36 .u32 Try.underlying22 size_u32 _ _ _ _ _ _ rfl rfl w.heap.size 0 (List.replicate (y.length + 1) 0) (Row.new w _ _ _) y (by simp) (fun _ => rfl) _ hrX (by simp) ?_; intro w2 hrow2 hgr2)
    rw [splice_zero] at hrow2
    have ez : (List.replicate (y.length + 1) 0).drop y.length = [0] := by rw [List.drop_replicate]; simp
    rw [ez] at hrow2
    have hrY2 : Rd w2 (fun g => g ≠ w.heap.size) .u32 A1 x := (hrY.grown hgr2 (fun g hg => ⟨by simp; omega, fun e => by injection e; omega⟩)).imp (fun g hg => by omega)
    clear ez hrX hrY
    refine (nat_addIn (y ++ [0]) x w.heap.size 0 (y.length + 1) (y.length + 1) A1 c1 _ w2 hrow2 hrY2 (by simp) (by omega) (by omega) (HN2.out.1.snoc (by omega)) HN1.out.1).mono ?_
    rintro e w3 ⟨rfl, cs, k, hcl, hcd, hcv, hrow3, hgr3⟩
    rw [splice_full (by simp; omega)] at hrow3
    have HCV := Lib.hid hcv
    clear hcv
    have hrd3 : Rd w3 (fun g => g < w3.heap.size) .u32 (some ⟨w.heap.size, 0, none⟩) cs := hrow3.rd_all hrow3.lt
    go_wp2_with fail
    have hcut := nat_cut cs (some ⟨w.heap.size, 0, none⟩) (y.length + 1) _ w3 hrd3 (by omega) (by omega) hcd
    rw [hcl] at hcut
    refine hcut.mono ?_
    rintro e w4 ⟨us, A4, c4, rfl, hcut4, hr4, rfl⟩
    obtain ⟨hc4, hl4, -, hn4, hv4, -⟩ := hcut4
    have HN4 := Lib.hid hn4
    have HV4 := Lib.hid hv4
    clear hn4 hv4 hcut
    go_wp2
    go_ret
    refine ⟨A4, us, c4, rfl, hc4, HN4.out, ?_, hr4, below_alloc_grown (Nat.le_refl _) (grown_trans hgr2 hgr3) (Nat.le_refl _)⟩
    have hv := HCV.out
    simp only [List.drop_zero] at hv
    rw [List.take_of_length_le (by simp), val_snoc, Nat.mul_zero, Nat.add_zero] at hv
    have h0 := carry_zero (by omega) (val_lt_pow HN2.out.1 (by omega) (Nat.le_refl _)) (val_lt_pow HN1.out.1 (by omega) (by omega)) hv
    rw [h0, Nat.mul_zero, Nat.add_zero, HV1.out, HV2.out] at hv
    rw [HV4.out, hv]; omega
  · skip
    have hmk := fun u => make_words1 x.length (by omega) u
    have hrX : Rd (w.alloc (.cells (cells .u32 (List.replicate (x.length + 1) 0)).toArray 36)) (fun g => g < w.heap.size) .u32 A1 x := hr1'.keep fun p hp => World.cell?_alloc_lt w _ p hp
    have hrY : Rd (w.alloc (.cells (cells .u32 (List.replicate (x.length + 1) 0)).toArray 36)) (fun g => g < w.heap.size) .u32 A2 y := hr2'.keep fun p hp => World.cell?_alloc_lt w _ p hp
    go_wp2_with (with_reducible refine wpList_copy_digits rfl _ _ 22 rfl 36 .u32 Try.underlying22 size_u32 _ _ _ _ _ _ rfl rfl w.heap.size 0 (List.replicate (x.length + 1) 0) (Row.new w _ _ _) x (by simp) (fun _ => rfl) _ hrX (by simp) ?_; intro w2 hrow2 hgr2)
    rw [splice_zero] at hrow2
    have ez : (List.replicate (x.length + 1) 0).drop x.length = [0] := by rw [List.drop_replicate]; simp
    rw [ez] at hrow2
    have hrY2 : Rd w2 (fun g => g ≠ w.heap.size) .u32 A2 y := (hrY.grown hgr2 (fun g hg => ⟨by simp; omega, fun e => by injection e; omega⟩)).imp (fun g hg => by omega)
    clear ez hrX hrY
    refine (nat_addIn (x ++ [0]) y w.heap.size 0 (x.length + 1) (x.length + 1) A2 c2 _ w2 hrow2 hrY2 (by simp) (by omega) (by omega) (HN1.out.1.snoc (by omega)) HN2.out.1).mono ?_
    rintro e w3 ⟨rfl, cs, k, hcl, hcd, hcv, hrow3, hgr3⟩
    rw [splice_full (by simp; omega)] at hrow3
    have HCV := Lib.hid hcv
    clear hcv
    have hrd3 : Rd w3 (fun g => g < w3.heap.size) .u32 (some ⟨w.heap.size, 0, none⟩) cs := hrow3.rd_all hrow3.lt
    go_wp2_with fail
    have hcut := nat_cut cs (some ⟨w.heap.size, 0, none⟩) (x.length + 1) _ w3 hrd3 (by omega) (by omega) hcd
    rw [hcl] at hcut
    refine hcut.mono ?_
    rintro e w4 ⟨us, A4, c4, rfl, hcut4, hr4, rfl⟩
    obtain ⟨hc4, hl4, -, hn4, hv4, -⟩ := hcut4
    have HN4 := Lib.hid hn4
    have HV4 := Lib.hid hv4
    clear hn4 hv4 hcut
    go_wp2
    go_ret
    refine ⟨A4, us, c4, rfl, hc4, HN4.out, ?_, hr4, below_alloc_grown (Nat.le_refl _) (grown_trans hgr2 hgr3) (Nat.le_refl _)⟩
    have hv := HCV.out
    simp only [List.drop_zero] at hv
    rw [List.take_of_length_le (by simp), val_snoc, Nat.mul_zero, Nat.add_zero] at hv
    have h0 := carry_zero (by omega) (val_lt_pow HN1.out.1 (by omega) (Nat.le_refl _)) (val_lt_pow HN2.out.1 (by omega) (by omega)) hv
    rw [h0, Nat.mul_zero, Nat.add_zero, HV1.out, HV2.out] at hv
    rw [HV4.out, hv]; omega

end Go.Proofs.Ytoidhoiadkafhaa
