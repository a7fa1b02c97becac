/- Colours: the document's own parts by 255. -/
import Derived.Test.YtaiinglogpbfjaaCoN
import Derived.Test.YtaiinglogpbfjaaChecked
import Derived.Lib.Hide
import Derived.WalkLawsBesides
namespace Go.Proofs.Ytaiinglogpbfjaa
open Go.RowKit

set_option maxRecDepth 10000 in
theorem ref8_Part (n : Int) (h1 : -9223372036854775808 ≤ n) (h2 : n ≤ 9223372036854775807) (w : World) :
    Calls Try.prog 7 #[.int .i64 n] w fun e w' => e = .returned (.int .u8 ((partU n).toNat : Int)) ∧ w = w' := by
  obtain ⟨u, hu⟩ : ∃ u, ((partU n).toNat : Int) = u := ⟨_, rfl⟩
  rw [hu]
  by_cases hlo : n < 0
  · obtain rfl : u = 0 := by rw [← hu, partU_low hlo]; rfl
    clear hu
    go_enter Try.func7, Try.ntmps7
    go_wp2_with fail
    go_ret
    exact ⟨rfl, rfl⟩
  · by_cases hhi : 65025 < n
    · obtain rfl : u = 255 := by rw [← hu, partU_high hhi]; rfl
      clear hu
      go_enter Try.func7, Try.ntmps7
      go_wp2_with fail
      go_ret
      exact ⟨rfl, rfl⟩
    · have hm := partU_mid (n := n) (by omega) (by omega)
      rw [hu] at hm
      obtain ⟨k, hk⟩ : ∃ k, n / 255 = k := ⟨_, rfl⟩
      have hk1 : 255 * k ≤ n ∧ n < 255 * k + 255 ∧ 0 ≤ k ∧ k ≤ 255 := by omega
      have hd : n.tdiv 255 = k := by rw [Int.tdiv_eq_ediv_of_nonneg (by omega), hk]
      have hw1 : IntKind.i64.wrap (255 * k) = 255 * k := IntWalk.i64_in _ (by omega)
      have hw2 : IntKind.i64.wrap (n - 255 * k) = n - 255 * k := IntWalk.i64_in _ (by omega)
      have hw3 : IntKind.i64.wrap (2 * (n - 255 * k)) = 2 * (n - 255 * k) := IntWalk.i64_in _ (by omega)
      have hw4 : IntKind.i64.wrap (k + 1) = k + 1 := IntWalk.i64_in _ (by omega)
      by_cases hc : 255 < 2 * (n - 255 * k)
      · obtain rfl : u = k + 1 := by omega
        have hw5 : IntKind.u8.wrap (k + 1) = k + 1 := IntWalk.u8_in _ (by omega)
        clear hu hm
        go_enter Try.func7, Try.ntmps7
        go_wp2_with fail
        go_ret
        exact ⟨rfl, rfl⟩
      · obtain rfl : u = k := by omega
        have hw5 : IntKind.u8.wrap u = u := IntWalk.u8_in _ (by omega)
        clear hu hm
        go_enter Try.func7, Try.ntmps7
        go_wp2_with fail
        go_ret
        exact ⟨rfl, rfl⟩

theorem ref8_Times (a b : UInt8) (w : World) :
    Calls Try.prog 9 #[.int .u8 (a.toNat : Int), .int .u8 (b.toNat : Int)] w fun e w' => e = .returned (.int .u8 ((timesU a b).toNat : Int)) ∧ w = w' := by
  obtain ⟨h0, h1⟩ := mul_parts a b
  have c := fun (W : World) => ref8_Part ((a.toNat : Int) * (b.toNat : Int)) (by omega) (by omega) W
  have hw : IntKind.i64.wrap ((a.toNat : Int) * (b.toNat : Int)) = (a.toNat : Int) * (b.toNat : Int) := IntWalk.i64_in _ (by omega)
  have ha := a.toNat_lt
  have hb := b.toNat_lt
  obtain ⟨x, hx⟩ : ∃ x, a.toNat = x := ⟨_, rfl⟩
  obtain ⟨y, hy⟩ : ∃ x, b.toNat = x := ⟨_, rfl⟩
  have hwx : IntKind.i64.wrap (x : Int) = (x : Int) := IntWalk.i64_in _ (by omega)
  have hwy : IntKind.i64.wrap (y : Int) = (y : Int) := IntWalk.i64_in _ (by omega)
  unfold timesU
  rw [hx, hy] at c hw ⊢
  obtain ⟨u, hu⟩ : ∃ u, partU ((x : Int) * (y : Int)) = u := ⟨_, rfl⟩
  rw [hu] at c ⊢
  obtain ⟨p, hp⟩ : ∃ p, (x : Int) * (y : Int) = p := ⟨_, rfl⟩
  rw [hp] at c hw
  have C := Lib.hid c
  clear c hu h0 h1 hx hy
  go_enter Try.func9, Try.ntmps9
  go_wp2_with (go_at_call 7; (try rw [hp]); (try rw [hw]); with_reducible refine Calls.mono (C.out w) ?_; rintro e w1 ⟨rfl, rfl⟩)
  go_ret
  exact ⟨rfl, rfl⟩
end Go.Proofs.Ytaiinglogpbfjaa
