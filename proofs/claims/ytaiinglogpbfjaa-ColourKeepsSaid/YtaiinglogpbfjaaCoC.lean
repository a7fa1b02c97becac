/- Colours: the document's own over, mix, Over, Fade, Mix, May. Written by gen/genco.py. -/
import Derived.Test.YtaiinglogpbfjaaCoB
namespace Go.Proofs.Ytaiinglogpbfjaa
open Go.RowKit

set_option maxRecDepth 10000 in
theorem ref8_over (a b n : UInt8) (w : World) :
    Calls Try.prog 24 #[.int .u8 (a.toNat : Int), .int .u8 (b.toNat : Int), .int .u8 (n.toNat : Int)] w fun e w' => e = .returned (.int .u8 ((overU a b n).toNat : Int)) ∧ w = w' := by
  have hn := n.toNat_lt
  have c := fun W => ref8_Times b (255 - n) W
  have hov := overU_nat a b n
  have ht := (timesU b (255 - n)).toNat_lt
  have ha := a.toNat_lt
  rw [not255] at c
  have hw0 : IntKind.u8.wrap (255 - (n.toNat : Int)) = ((255 - n.toNat : Nat) : Int) := by rw [IntWalk.u8_in _ (by omega)]; omega
  have hw1 : (255 : Int) - (n.toNat : Int) = ((255 - n.toNat : Nat) : Int) := by omega
  obtain ⟨x, hx⟩ : ∃ x, (timesU b (255 - n)).toNat = x := ⟨_, rfl⟩
  obtain ⟨y, hy⟩ : ∃ x, (overU a b n).toNat = x := ⟨_, rfl⟩
  obtain ⟨z, hz⟩ : ∃ x, a.toNat = x := ⟨_, rfl⟩
  rw [hx, hy, hz] at hov
  rw [hx] at c ht
  rw [hz] at ha ⊢
  rw [hy]
  have C := Lib.hid c
  have hs1 : IntKind.i64.wrap (z : Int) = (z : Int) := IntWalk.i64_in _ (by omega)
  have hs2 : IntKind.i64.wrap (x : Int) = (x : Int) := IntWalk.i64_in _ (by omega)
  have hs3 : IntKind.i64.wrap ((z : Int) + (x : Int)) = (z : Int) + (x : Int) := IntWalk.i64_in _ (by omega)
  clear c hx hy hz
  by_cases hc : (255 : Int) < (z : Int) + (x : Int)
  · obtain rfl : y = 255 := by omega
    clear hov
    go_enter Try.func24, Try.ntmps24
    go_wp2_with (go_at_call 9; (try rw [hw0]); (try rw [hw1]); with_reducible refine Calls.mono (C.out _) ?_; rintro e w1 ⟨rfl, rfl⟩)
    go_ret
    exact ⟨rfl, rfl⟩
  · obtain rfl : y = z + x := by omega
    clear hov
    have hs4 : IntKind.u8.wrap ((z : Int) + (x : Int)) = (z : Int) + (x : Int) := IntWalk.u8_in _ (by omega)
    go_enter Try.func24, Try.ntmps24
    go_wp2_with (go_at_call 9; (try rw [hw0]); (try rw [hw1]); with_reducible refine Calls.mono (C.out _) ?_; rintro e w1 ⟨rfl, rfl⟩)
    go_ret
    exact ⟨by simp, rfl⟩

theorem mix_bounds (a b n : UInt8) : 0 ≤ (a.toNat : Int) * (255 - (n.toNat : Int)) ∧ (a.toNat : Int) * (255 - (n.toNat : Int)) ≤ 65025 ∧ 0 ≤ (b.toNat : Int) * (n.toNat : Int) ∧ (b.toNat : Int) * (n.toNat : Int) ≤ 65025 := by
  have h1 := mul_parts a (255 - n)
  rw [not255] at h1
  have hn := n.toNat_lt
  have e : ((255 - n.toNat : Nat) : Int) = 255 - (n.toNat : Int) := by omega
  rw [e] at h1
  exact ⟨h1.1, h1.2, mul_parts b n⟩
set_option maxRecDepth 10000 in
theorem ref8_mix (a b n : UInt8) (w : World) :
    Calls Try.prog 23 #[.int .u8 (a.toNat : Int), .int .u8 (b.toNat : Int), .int .u8 (n.toNat : Int)] w fun e w' => e = .returned (.int .u8 ((mixU a b n).toNat : Int)) ∧ w = w' := by
  obtain ⟨m1, m2, m3, m4⟩ := mix_bounds a b n
  have ha := a.toNat_lt
  have hb := b.toNat_lt
  have hn := n.toNat_lt
  unfold mixU
  obtain ⟨x, hx⟩ : ∃ x, a.toNat = x := ⟨_, rfl⟩
  obtain ⟨y, hy⟩ : ∃ x, b.toNat = x := ⟨_, rfl⟩
  obtain ⟨z, hz⟩ : ∃ x, n.toNat = x := ⟨_, rfl⟩
  rw [hx, hz] at m1 m2
  rw [hy, hz] at m3 m4
  rw [hx, hy, hz]
  obtain ⟨p, hp⟩ : ∃ p, (x : Int) * (255 - (z : Int)) = p := ⟨_, rfl⟩
  obtain ⟨q, hq⟩ : ∃ p, (y : Int) * (z : Int) = p := ⟨_, rfl⟩
  rw [hp] at m1 m2
  rw [hq] at m3 m4
  rw [hp, hq]
  have C := Lib.hid (fun W => ref8_Part (p + q) (by omega) (by omega) W)
  have s1 : IntKind.i64.wrap (x : Int) = (x : Int) := IntWalk.i64_in _ (by omega)
  have s2 : IntKind.i64.wrap (y : Int) = (y : Int) := IntWalk.i64_in _ (by omega)
  have s3 : IntKind.i64.wrap (z : Int) = (z : Int) := IntWalk.i64_in _ (by omega)
  have s4 : IntKind.i64.wrap (255 - (z : Int)) = 255 - (z : Int) := IntWalk.i64_in _ (by omega)
  have s5 : IntKind.i64.wrap p = p := IntWalk.i64_in _ (by omega)
  have s6 : IntKind.i64.wrap q = q := IntWalk.i64_in _ (by omega)
  have s7 : IntKind.i64.wrap (p + q) = p + q := IntWalk.i64_in _ (by omega)
  obtain ⟨u, hu⟩ : ∃ u, partU (p + q) = u := ⟨_, rfl⟩
  rw [hu] at C ⊢
  clear hx hy hz hu
  go_enter Try.func23, Try.ntmps23
  go_wp2_with (go_at_call 7; (try rw [hp]); (try rw [s5]); (try rw [hq]); (try rw [s6]); (try rw [s7]); with_reducible refine Calls.mono (C.out _) ?_; rintro e w1 ⟨rfl, rfl⟩)
  go_ret
  exact ⟨rfl, rfl⟩

set_option maxRecDepth 10000 in
theorem ref8_May (c : Col) (w : World) :
    Calls Try.prog 13 #[colV c] w fun e w' => e = .returned (.bool (mayC c)) ∧ Below w.heap.size w w' := by
  have k1 : Box (w.alloc (.cells (colCells c).toArray 23)) w.heap.size 23 (colCells c) := Box.new w _ _
  have B0 : Below w.heap.size w (w.alloc (.cells (colCells c).toArray 23)) := (Below.refl _ _).alloc (Nat.le_refl _) _
  obtain ⟨⟨p0, p1, p2, p3⟩, -⟩ := Box.four k1
  obtain ⟨W, hW⟩ : ∃ W, w.alloc (.cells (colCells c).toArray 23) = W := ⟨_, rfl⟩
  rw [hW] at p0 p1 p2 p3 B0
  unfold colV colCells mayC at *
  clear k1
  obtain ⟨x, hx⟩ : ∃ x, c.r.toNat = x := ⟨_, rfl⟩
  obtain ⟨y, hy⟩ : ∃ x, c.g.toNat = x := ⟨_, rfl⟩
  obtain ⟨z, hz⟩ : ∃ x, c.b.toNat = x := ⟨_, rfl⟩
  obtain ⟨a, ha⟩ : ∃ x, c.a.toNat = x := ⟨_, rfl⟩
  rw [hx] at p0
  rw [hy] at p1
  rw [hz] at p2
  rw [ha] at p3
  rw [hx, hy, hz, ha] at hW ⊢
  obtain ⟨d, hd⟩ : ∃ d : Bool, (decide (x ≤ a) && decide (y ≤ a) && decide (z ≤ a)) = d := ⟨_, rfl⟩
  have HD := Lib.hid hd
  rw [hd]
  clear hd hx hy hz ha
  by_cases h1 : (x : Int) ≤ (a : Int)
  · by_cases h2 : (y : Int) ≤ (a : Int)
    · by_cases h3 : (z : Int) ≤ (a : Int)
      · have HR := Lib.hid (show d = true by rw [← HD.out]; simp; omega)
        go_enter Try.func13, Try.ntmps13
        go_wp2_with fail
        go_ret
        exact ⟨by rw [HR.out]; first | rfl | simp, B0⟩
      · have HR := Lib.hid (show d = false by rw [← HD.out]; simp; omega)
        go_enter Try.func13, Try.ntmps13
        go_wp2_with fail
        go_ret
        exact ⟨by rw [HR.out]; first | rfl | simp, B0⟩
    · have HR := Lib.hid (show d = false by rw [← HD.out]; simp; omega)
      go_enter Try.func13, Try.ntmps13
      go_wp2_with fail
      go_ret
      exact ⟨by rw [HR.out]; first | rfl | simp, B0⟩
  · have HR := Lib.hid (show d = false by rw [← HD.out]; simp; omega)
    go_enter Try.func13, Try.ntmps13
    go_wp2_with fail
    go_ret
    exact ⟨by rw [HR.out]; first | rfl | simp, B0⟩

set_option maxRecDepth 10000 in
set_option maxHeartbeats 3200000 in
theorem ref8_Over (c : Col) (d : Col) (w : World) :
    Calls Try.prog 20 #[colV c, colV d] w fun e w' => e = .returned (colV (overC c d)) ∧ Below w.heap.size w w' := by
  obtain ⟨W, hW⟩ : ∃ W, ((w.alloc (.cells (colCells c).toArray 23)).alloc (.cells (colCells d).toArray 23)).alloc (.cells zero4.toArray 23) = W := ⟨_, rfl⟩
  have k0 : Box W (w.heap.size) 23 (colCells c) := by rw [← hW]; exact (((Box.new w _ _).alloc _).alloc _)
  have k1 : Box W (w.heap.size + 1) 23 (colCells d) := by rw [← hW]; exact ((Box.at_new _ _ _ (by simp)).alloc _)
  have kr : Box W (w.heap.size + 1 + 1) 23 zero4 := by rw [← hW]; exact Box.at_new _ _ _ (by simp)
  have B0 : Below w.heap.size w W := by rw [← hW]; exact (((Below.refl _ _).alloc (Nat.le_refl _) _).alloc (by simp; try omega) _).alloc (by simp; try omega) _
  obtain ⟨⟨p00, p01, p02, p03⟩, -⟩ := Box.four k0
  obtain ⟨⟨p10, p11, p12, p13⟩, -⟩ := Box.four k1
  obtain ⟨⟨q0, q1, q2, q3⟩, f0, f1, f2, f3⟩ := Box.four kr
  have c0 := fun V => ref8_over c.r d.r c.a V
  have c1 := fun V => ref8_over c.g d.g c.a V
  have c2 := fun V => ref8_over c.b d.b c.a V
  have c3 := fun V => ref8_over c.a d.a c.a V
  obtain ⟨U, hU, kU, bU⟩ := kr.stored (.int .u8 ((overU c.r d.r c.a).toNat : Int)) (.int .u8 ((overU c.g d.g c.a).toNat : Int)) (.int .u8 ((overU c.b d.b c.a).toNat : Int)) (.int .u8 ((overU c.a d.a c.a).toNat : Int))
  unfold colV colCells overC zero4 at *
  dsimp only at *
  have C0 := Lib.hid c0
  have C1 := Lib.hid c1
  have C2 := Lib.hid c2
  have C3 := Lib.hid c3
  clear c0 c1 c2 c3
  have HW := Lib.hid hW
  have HK := Lib.hid (And.intro B0 (And.intro hU (And.intro kU bU)))
  have n0 : w.heap.size ≠ w.heap.size + 1 + 1 := by omega
  have m0 : w.heap.size + 1 + 1 ≠ w.heap.size := by omega
  have n1 : w.heap.size + 1 ≠ w.heap.size + 1 + 1 := by omega
  have m1 : w.heap.size + 1 + 1 ≠ w.heap.size + 1 := by omega
  clear k0 k1 kr B0 hU kU bU hW
  go_enter Try.func20, Try.ntmps20
  go_wp2_with fail
  rw [HW.out]
  go_region_held3 (fun w' => w'.cell? ⟨w.heap.size, 0, none⟩ = some (.int .u8 (c.r.toNat : Int)) ∧ w'.cell? ⟨w.heap.size, 1, none⟩ = some (.int .u8 (c.g.toNat : Int)) ∧ w'.cell? ⟨w.heap.size, 2, none⟩ = some (.int .u8 (c.b.toNat : Int)) ∧ w'.cell? ⟨w.heap.size, 3, none⟩ = some (.int .u8 (c.a.toNat : Int)) ∧ w'.cell? ⟨w.heap.size + 1, 0, none⟩ = some (.int .u8 (d.r.toNat : Int)) ∧ w'.cell? ⟨w.heap.size + 1, 1, none⟩ = some (.int .u8 (d.g.toNat : Int)) ∧ w'.cell? ⟨w.heap.size + 1, 2, none⟩ = some (.int .u8 (d.b.toNat : Int)) ∧ w'.cell? ⟨w.heap.size + 1, 3, none⟩ = some (.int .u8 (d.a.toNat : Int)))
    (first | (with_reducible exact ⟨p00, p01, p02, p03, p10, p11, p12, p13⟩) | go_keep)
    ((first
      | (go_at_call 24; (with_reducible refine Calls.mono (C0.out _) ?_); rintro e w1 ⟨rfl, rfl⟩)
      | (go_at_call 24; (with_reducible refine Calls.mono (C1.out _) ?_); rintro e w1 ⟨rfl, rfl⟩)
      | (go_at_call 24; (with_reducible refine Calls.mono (C2.out _) ?_); rintro e w1 ⟨rfl, rfl⟩)
      | (go_at_call 24; (with_reducible refine Calls.mono (C3.out _) ?_); rintro e w1 ⟨rfl, rfl⟩)))
  all_goals
    obtain ⟨b0, hU, kU, bU⟩ := HK.out
    have kd : Box U.drew (w.heap.size + 1 + 1) 23 _ := kU
    obtain ⟨⟨u0, u1, u2, u3⟩, -⟩ := Box.four kd
    have hB := (b0.trans (bU w.heap.size (by omega))).drew
    clear kU kd bU b0
    go_wp2_with fail
    rw [hU]
    generalize U.drew = V at *
    exact bodyPost_ret (by simp [results, Try.results20, go_sem, u0, u1, u2, u3]) rfl ⟨rfl, hB⟩

set_option maxRecDepth 10000 in
set_option maxHeartbeats 3200000 in
theorem ref8_Fade (c : Col) (n : UInt8) (w : World) :
    Calls Try.prog 15 #[colV c, .int .u8 (n.toNat : Int)] w fun e w' => e = .returned (colV (fadeC c n)) ∧ Below w.heap.size w w' := by
  obtain ⟨W, hW⟩ : ∃ W, (w.alloc (.cells (colCells c).toArray 23)).alloc (.cells zero4.toArray 23) = W := ⟨_, rfl⟩
  have k0 : Box W (w.heap.size) 23 (colCells c) := by rw [← hW]; exact ((Box.new w _ _).alloc _)
  have kr : Box W (w.heap.size + 1) 23 zero4 := by rw [← hW]; exact Box.at_new _ _ _ (by simp)
  have B0 : Below w.heap.size w W := by rw [← hW]; exact ((Below.refl _ _).alloc (Nat.le_refl _) _).alloc (by simp; try omega) _
  obtain ⟨⟨p00, p01, p02, p03⟩, -⟩ := Box.four k0
  obtain ⟨⟨q0, q1, q2, q3⟩, f0, f1, f2, f3⟩ := Box.four kr
  have c0 := fun V => ref8_Times c.r n V
  have c1 := fun V => ref8_Times c.g n V
  have c2 := fun V => ref8_Times c.b n V
  have c3 := fun V => ref8_Times c.a n V
  obtain ⟨U, hU, kU, bU⟩ := kr.stored (.int .u8 ((timesU c.r n).toNat : Int)) (.int .u8 ((timesU c.g n).toNat : Int)) (.int .u8 ((timesU c.b n).toNat : Int)) (.int .u8 ((timesU c.a n).toNat : Int))
  unfold colV colCells fadeC zero4 at *
  dsimp only at *
  have C0 := Lib.hid c0
  have C1 := Lib.hid c1
  have C2 := Lib.hid c2
  have C3 := Lib.hid c3
  clear c0 c1 c2 c3
  have HW := Lib.hid hW
  have HK := Lib.hid (And.intro B0 (And.intro hU (And.intro kU bU)))
  have n0 : w.heap.size ≠ w.heap.size + 1 := by omega
  have m0 : w.heap.size + 1 ≠ w.heap.size := by omega
  clear k0 kr B0 hU kU bU hW
  go_enter Try.func15, Try.ntmps15
  go_wp2_with fail
  rw [HW.out]
  go_region_held3 (fun w' => w'.cell? ⟨w.heap.size, 0, none⟩ = some (.int .u8 (c.r.toNat : Int)) ∧ w'.cell? ⟨w.heap.size, 1, none⟩ = some (.int .u8 (c.g.toNat : Int)) ∧ w'.cell? ⟨w.heap.size, 2, none⟩ = some (.int .u8 (c.b.toNat : Int)) ∧ w'.cell? ⟨w.heap.size, 3, none⟩ = some (.int .u8 (c.a.toNat : Int)))
    (first | (with_reducible exact ⟨p00, p01, p02, p03⟩) | go_keep)
    ((first
      | (go_at_call 9; (with_reducible refine Calls.mono (C0.out _) ?_); rintro e w1 ⟨rfl, rfl⟩)
      | (go_at_call 9; (with_reducible refine Calls.mono (C1.out _) ?_); rintro e w1 ⟨rfl, rfl⟩)
      | (go_at_call 9; (with_reducible refine Calls.mono (C2.out _) ?_); rintro e w1 ⟨rfl, rfl⟩)
      | (go_at_call 9; (with_reducible refine Calls.mono (C3.out _) ?_); rintro e w1 ⟨rfl, rfl⟩)))
  all_goals
    obtain ⟨b0, hU, kU, bU⟩ := HK.out
    have kd : Box U.drew (w.heap.size + 1) 23 _ := kU
    obtain ⟨⟨u0, u1, u2, u3⟩, -⟩ := Box.four kd
    have hB := (b0.trans (bU w.heap.size (by omega))).drew
    clear kU kd bU b0
    go_wp2_with fail
    rw [hU]
    generalize U.drew = V at *
    exact bodyPost_ret (by simp [results, Try.results15, go_sem, u0, u1, u2, u3]) rfl ⟨rfl, hB⟩

set_option maxRecDepth 10000 in
set_option maxHeartbeats 3200000 in
theorem ref8_Mix (c : Col) (d : Col) (n : UInt8) (w : World) :
    Calls Try.prog 17 #[colV c, colV d, .int .u8 (n.toNat : Int)] w fun e w' => e = .returned (colV (mixC c d n)) ∧ Below w.heap.size w w' := by
  obtain ⟨W, hW⟩ : ∃ W, ((w.alloc (.cells (colCells c).toArray 23)).alloc (.cells (colCells d).toArray 23)).alloc (.cells zero4.toArray 23) = W := ⟨_, rfl⟩
  have k0 : Box W (w.heap.size) 23 (colCells c) := by rw [← hW]; exact (((Box.new w _ _).alloc _).alloc _)
  have k1 : Box W (w.heap.size + 1) 23 (colCells d) := by rw [← hW]; exact ((Box.at_new _ _ _ (by simp)).alloc _)
  have kr : Box W (w.heap.size + 1 + 1) 23 zero4 := by rw [← hW]; exact Box.at_new _ _ _ (by simp)
  have B0 : Below w.heap.size w W := by rw [← hW]; exact (((Below.refl _ _).alloc (Nat.le_refl _) _).alloc (by simp; try omega) _).alloc (by simp; try omega) _
  obtain ⟨⟨p00, p01, p02, p03⟩, -⟩ := Box.four k0
  obtain ⟨⟨p10, p11, p12, p13⟩, -⟩ := Box.four k1
  obtain ⟨⟨q0, q1, q2, q3⟩, f0, f1, f2, f3⟩ := Box.four kr
  have c0 := fun V => ref8_mix c.r d.r n V
  have c1 := fun V => ref8_mix c.g d.g n V
  have c2 := fun V => ref8_mix c.b d.b n V
  have c3 := fun V => ref8_mix c.a d.a n V
  obtain ⟨U, hU, kU, bU⟩ := kr.stored (.int .u8 ((mixU c.r d.r n).toNat : Int)) (.int .u8 ((mixU c.g d.g n).toNat : Int)) (.int .u8 ((mixU c.b d.b n).toNat : Int)) (.int .u8 ((mixU c.a d.a n).toNat : Int))
  unfold colV colCells mixC zero4 at *
  dsimp only at *
  have C0 := Lib.hid c0
  have C1 := Lib.hid c1
  have C2 := Lib.hid c2
  have C3 := Lib.hid c3
  clear c0 c1 c2 c3
  have HW := Lib.hid hW
  have HK := Lib.hid (And.intro B0 (And.intro hU (And.intro kU bU)))
  have n0 : w.heap.size ≠ w.heap.size + 1 + 1 := by omega
  have m0 : w.heap.size + 1 + 1 ≠ w.heap.size := by omega
  have n1 : w.heap.size + 1 ≠ w.heap.size + 1 + 1 := by omega
  have m1 : w.heap.size + 1 + 1 ≠ w.heap.size + 1 := by omega
  clear k0 k1 kr B0 hU kU bU hW
  go_enter Try.func17, Try.ntmps17
  go_wp2_with fail
  rw [HW.out]
  go_region_held3 (fun w' => w'.cell? ⟨w.heap.size, 0, none⟩ = some (.int .u8 (c.r.toNat : Int)) ∧ w'.cell? ⟨w.heap.size, 1, none⟩ = some (.int .u8 (c.g.toNat : Int)) ∧ w'.cell? ⟨w.heap.size, 2, none⟩ = some (.int .u8 (c.b.toNat : Int)) ∧ w'.cell? ⟨w.heap.size, 3, none⟩ = some (.int .u8 (c.a.toNat : Int)) ∧ w'.cell? ⟨w.heap.size + 1, 0, none⟩ = some (.int .u8 (d.r.toNat : Int)) ∧ w'.cell? ⟨w.heap.size + 1, 1, none⟩ = some (.int .u8 (d.g.toNat : Int)) ∧ w'.cell? ⟨w.heap.size + 1, 2, none⟩ = some (.int .u8 (d.b.toNat : Int)) ∧ w'.cell? ⟨w.heap.size + 1, 3, none⟩ = some (.int .u8 (d.a.toNat : Int)))
    (first | (with_reducible exact ⟨p00, p01, p02, p03, p10, p11, p12, p13⟩) | go_keep)
    ((first
      | (go_at_call 23; (with_reducible refine Calls.mono (C0.out _) ?_); rintro e w1 ⟨rfl, rfl⟩)
      | (go_at_call 23; (with_reducible refine Calls.mono (C1.out _) ?_); rintro e w1 ⟨rfl, rfl⟩)
      | (go_at_call 23; (with_reducible refine Calls.mono (C2.out _) ?_); rintro e w1 ⟨rfl, rfl⟩)
      | (go_at_call 23; (with_reducible refine Calls.mono (C3.out _) ?_); rintro e w1 ⟨rfl, rfl⟩)))
  all_goals
    obtain ⟨b0, hU, kU, bU⟩ := HK.out
    have kd : Box U.drew (w.heap.size + 1 + 1) 23 _ := kU
    obtain ⟨⟨u0, u1, u2, u3⟩, -⟩ := Box.four kd
    have hB := (b0.trans (bU w.heap.size (by omega))).drew
    clear kU kd bU b0
    go_wp2_with fail
    rw [hU]
    generalize U.drew = V at *
    exact bodyPost_ret (by simp [results, Try.results17, go_sem, u0, u1, u2, u3]) rfl ⟨rfl, hB⟩

end Go.Proofs.Ytaiinglogpbfjaa
