/- Colours: the program's own partsOf, colour, Part, Times. -/
import Derived.Test.YtaiinglogpbfjaaDoorCoB
namespace Go.Proofs.YtaiinglogpbfjaaDoor
open Go.RowKit

/-- two boxes allotted, the second one the answer's -/
theorem box_two (w : World) (t1 t2 : TypeId) (vs : List Value) (a b c d : Value) : ∃ V, (w.alloc (.cells vs.toArray t1)).alloc (.cells #[a, b, c, d] t2) = V ∧ (V.cell? ⟨w.heap.size + 1, 0, none⟩ = some a ∧ V.cell? ⟨w.heap.size + 1, 1, none⟩ = some b ∧ V.cell? ⟨w.heap.size + 1, 2, none⟩ = some c ∧ V.cell? ⟨w.heap.size + 1, 3, none⟩ = some d) ∧ Below w.heap.size w V :=
  ⟨_, rfl, (Box.four (Box.at_new (w.alloc (.cells vs.toArray t1)) t2 [a, b, c, d] (by simp))).1, ((Below.refl _ _).alloc (Nat.le_refl _) _).alloc (by simp) _⟩

set_option maxRecDepth 10000 in
set_option maxHeartbeats 1600000 in
theorem col_partsOf (c : Col) (w : World) :
    Calls Tryd.prog 12 #[colV c] w fun e w' => e = .returned (colV c) ∧ Below w.heap.size w w' := by
  obtain ⟨V, hV, ⟨u0, u1, u2, u3⟩, hB⟩ := box_two w 23 33 (colCells c) (.int .u8 (c.r.toNat : Int)) (.int .u8 (c.g.toNat : Int)) (.int .u8 (c.b.toNat : Int)) (.int .u8 (c.a.toNat : Int))
  unfold colCells at hV
  have HV := Lib.hid hV
  have HB := Lib.hid hB
  clear hV hB
  unfold colV
  go_enter Tryd.func12, Tryd.ntmps12
  go_wp2_with fail
  rw [HV.out]
  exact bodyPost_ret (by simp [results, Tryd.results12, go_sem, u0, u1, u2, u3]) rfl ⟨rfl, HB.out⟩

set_option maxRecDepth 10000 in
set_option maxHeartbeats 1600000 in
theorem col_colour (c : Col) (w : World) :
    Calls Tryd.prog 10 #[colV c] w fun e w' => e = .returned (colV c) ∧ Below w.heap.size w w' := by
  obtain ⟨V, hV, ⟨u0, u1, u2, u3⟩, hB⟩ := box_two w 33 23 (colCells c) (.int .u8 (c.r.toNat : Int)) (.int .u8 (c.g.toNat : Int)) (.int .u8 (c.b.toNat : Int)) (.int .u8 (c.a.toNat : Int))
  unfold colCells at hV
  have HV := Lib.hid hV
  have HB := Lib.hid hB
  clear hV hB
  unfold colV
  go_enter Tryd.func10, Tryd.ntmps10
  go_wp2_with fail
  rw [HV.out]
  exact bodyPost_ret (by simp [results, Tryd.results10, go_sem, u0, u1, u2, u3]) rfl ⟨rfl, HB.out⟩

theorem partU_zero {n : Int} (h : n ≤ 0) : partU n = 0 := by
  by_cases h0 : n < 0
  · exact partU_low h0
  · exact partU_is (by omega) (by omega) (by have : n = 0 := by omega
                                             subst this; rfl)
theorem partU_full {n : Int} (h : 65025 ≤ n) : partU n = 255 := by
  by_cases h0 : 65025 < n
  · exact partU_high h0
  · exact partU_is (by omega) (by omega) (by have : n = 65025 := by omega
                                             subst this; rfl)

set_option maxRecDepth 10000 in
theorem col_Part0 (n : Int) (h1 : -9223372036854775808 ≤ n) (h2 : n ≤ 9223372036854775807) (w : World) :
    Calls Tryd.prog 21 #[.int .i64 n] w fun e w' => e = .returned (.int .u8 ((partU n).toNat : Int)) ∧ w = w' := by
  obtain ⟨u, hu⟩ : ∃ u, ((partU n).toNat : Int) = u := ⟨_, rfl⟩
  rw [hu]
  by_cases hlo : n ≤ 0
  · obtain rfl : u = 0 := by rw [← hu, partU_zero hlo]; rfl
    clear hu
    go_enter Tryd.func21, Tryd.ntmps21
    go_wp2_with fail
    go_ret
    exact ⟨rfl, rfl⟩
  · by_cases hhi : 65025 ≤ n
    · obtain rfl : u = 255 := by rw [← hu, partU_full hhi]; rfl
      clear hu
      go_enter Tryd.func21, Tryd.ntmps21
      go_wp2_with fail
      go_ret
      exact ⟨rfl, rfl⟩
    · have hm := partU_mid (n := n) (by omega) (by omega)
      rw [hu] at hm
      have hw1 : IntKind.i64.wrap (n + 127) = n + 127 := IntWalk.i64_in _ (by omega)
      have hd : (n + 127).tdiv 255 = u := by rw [Int.tdiv_eq_ediv_of_nonneg (by omega), hm]
      have hu2 : 0 ≤ u ∧ u < 256 := by omega
      have hd2 : (n + 127) / 255 = u := hm.symm
      have hw2 : IntKind.u8.wrap u = u := IntWalk.u8_in _ (by omega)
      clear hu hm
      go_enter Tryd.func21, Tryd.ntmps21
      go_wp2_with fail
      go_ret
      refine ⟨?_, rfl⟩
      simp

theorem col_Times0 (a b : UInt8) (w : World) :
    Calls Tryd.prog 20 #[.int .u8 (a.toNat : Int), .int .u8 (b.toNat : Int)] w fun e w' => e = .returned (.int .u8 ((timesU a b).toNat : Int)) ∧ w = w' := by
  obtain ⟨h0, h1⟩ := mul_parts a b
  have c := fun (W : World) => col_Part0 ((a.toNat : Int) * (b.toNat : Int)) (by omega) (by omega) W
  have hw : IntKind.i64.wrap ((a.toNat : Int) * (b.toNat : Int)) = (a.toNat : Int) * (b.toNat : Int) := IntWalk.i64_in _ (by omega)
  have ha := a.toNat_lt
  have hb := b.toNat_lt
  obtain ⟨x, hx⟩ : ∃ x, a.toNat = x := ⟨_, rfl⟩
  obtain ⟨y, hy⟩ : ∃ x, b.toNat = x := ⟨_, rfl⟩
  have hwx : IntKind.i64.wrap (x : Int) = (x : Int) := IntWalk.i64_in _ (by omega)
  have hwy : IntKind.i64.wrap (y : Int) = (y : Int) := IntWalk.i64_in _ (by omega)
  unfold timesU
  rw [hx, hy] at c hw ⊢
  obtain ⟨u, hu⟩ : ∃ u, partU ((x : Int) * (y : Int)) = u := ⟨_, rfl⟩
  rw [hu] at c ⊢
  obtain ⟨p, hp⟩ : ∃ p, (x : Int) * (y : Int) = p := ⟨_, rfl⟩
  rw [hp] at c hw
  have C := Lib.hid c
  clear c hu h0 h1 hx hy
  go_enter Tryd.func20, Tryd.ntmps20
  go_wp2_with (go_at_call 21; (try rw [hp]); (try rw [hw]); with_reducible refine Calls.mono (C.out w) ?_; rintro e w1 ⟨rfl, rfl⟩)
  go_ret
  exact ⟨rfl, rfl⟩
theorem col_Part (n : Int) (h1 : -9223372036854775808 ≤ n) (h2 : n ≤ 9223372036854775807) (w : World) : Calls Tryd.prog 21 #[.int .i64 n] w fun e w' => e = .returned (.int .u8 ((partU n).toNat : Int)) ∧ Below w.heap.size w w' :=
  (col_Part0 n h1 h2 w).mono fun _ _ ⟨h, h'⟩ => ⟨h, h' ▸ Below.refl _ _⟩
theorem col_Times (a b : UInt8) (w : World) : Calls Tryd.prog 20 #[.int .u8 (a.toNat : Int), .int .u8 (b.toNat : Int)] w fun e w' => e = .returned (.int .u8 ((timesU a b).toNat : Int)) ∧ Below w.heap.size w w' :=
  (col_Times0 a b w).mono fun _ _ ⟨h, h'⟩ => ⟨h, h' ▸ Below.refl _ _⟩
end Go.Proofs.YtaiinglogpbfjaaDoor
