/- What the document's own calls on digits answer: one contract for each (cut, at, Half, Words, Same, cmp, Cmp). -/
import Derived.Test.YtoidhoiadkafhaaRows
import Derived.Test.YtoidhoiadkafhaaMem
import Derived.Lib.Hide
import Derived.WalkLawsBesides
import Derived.Deep.QuietTactic
import Derived.BigQuiet
import Derived.Deep.RegionHeld3
import Derived.IntWalk
import Derived.Deep.LoopGhost
import Derived.Outline
namespace Go.Proofs.Ytoidhoiadkafhaa
open Go.RowKit Num

theorem info_u64 : (Try.prog.info? 30).map (fun i => (i.zero, i.size, i.bytes)) = some (some (.int .u64 0), 1, 8) := by kernel_rfl
theorem info_u32 : (Try.prog.info? 36).map (fun i => (i.zero, i.size, i.bytes)) = some (some (.int .u32 0), 1, 4) := by kernel_rfl

theorem ref_at_in (d : List Nat) (A : Option Addr) (c : Nat) (i : Nat) (S : Nat → Prop) (w : World) (h : Rd w S .u64 A d) (hi : i < d.length) (_hl : d.length ≤ 4611686018427387904) :
    Calls Try.prog 52 #[.slice A d.length c, .int .i64 i] w fun e w' => e = .returned (.int .u64 (d[i] : Int)) ∧ w = w' := by
  obtain ⟨b, o, rfl, hb, hc⟩ := h.at_ hi
  go_enter Try.func52, Try.ntmps52
  go_wp2
  go_ret
  exact ⟨rfl, rfl⟩
theorem ref_at_out (n : Nat) (A : Option Addr) (c : Nat) (i : Nat) (w : World) (hi : n ≤ i) :
    Calls Try.prog 52 #[.slice A n c, .int .i64 i] w fun e w' => e = .returned (.int .u64 0) ∧ w = w' := by
  go_enter Try.func52, Try.ntmps52
  go_wp2
  go_ret
  exact ⟨rfl, rfl⟩
/-- a digit; 0 behind the last one -/
theorem ref_at (d : List Nat) (A : Option Addr) (c : Nat) (i : Nat) (S : Nat → Prop) (w : World) (h : Rd w S .u64 A d) (hl : d.length ≤ 4611686018427387904) :
    Calls Try.prog 52 #[.slice A d.length c, .int .i64 i] w fun e w' => e = .returned (.int .u64 (d.getD i 0 : Int)) ∧ w = w' := by
  by_cases hi : i < d.length
  · refine (ref_at_in d A c i S w h hi hl).mono ?_
    rintro e w' ⟨rfl, rfl⟩
    simp [List.getD_eq_getElem?_getD, hi]
  · refine (ref_at_out d.length A c i w (by omega)).mono ?_
    rintro e w' ⟨rfl, rfl⟩
    simp [List.getD_eq_getElem?_getD, hi]

set_option maxHeartbeats 400000 in
theorem ref_cut (d : List Nat) (A : Option Addr) (c : Nat) (S : Nat → Prop) (w : World) (h : Rd w S .u64 A d) (hl : d.length ≤ 4611686018427387904) (hc : d.length ≤ c) :
    Calls Try.prog 47 #[.slice A d.length c] w fun e w' => ∃ n, n ≤ d.length ∧ (∀ j, n ≤ j → ∀ hj : j < d.length, d[j] = 0) ∧ (n = 0 ∨ ∃ h : n - 1 < d.length, d[n - 1] ≠ 0) ∧ e = .returned (.slice A n c) ∧ w = w' := by
  go_enter Try.func47, Try.ntmps47
  go_wp2
  go_loopg [3] d.length (fun g n wr => g ≤ d.length ∧ n = .int .i64 g ∧ w = wr ∧ ∀ j, g ≤ j → ∀ hj : j < d.length, d[j] = 0)
  case atStart => exact ⟨Nat.le_refl _, rfl, rfl, fun j h1 h2 => by omega⟩
  case round =>
    obtain ⟨hg, rfl, rfl, hz⟩ := hrel
    have HZ := Lib.hid hz
    clear hz
    by_cases h0 : 0 < gk
    · obtain ⟨b, o, rfl, hb, hcell⟩ := h.at_ (j := gk - 1) (by omega)
      obtain ⟨x, hx⟩ : ∃ x, d[gk - 1] = x := ⟨_, rfl⟩
      rw [hx] at hcell
      have HX := Lib.hid hx
      clear hx
      by_cases hx0 : x = 0
      · subst hx0
        go_wp2
        go_roundg (gk - 1)
        case measure => omega
        case rel =>
          refine ⟨by omega, by go_num, rfl, fun j h1 h2 => ?_⟩
          by_cases hj : j = gk - 1
          · subst hj; exact HX.out
          · exact HZ.out j (by omega) h2
      · go_wp2
        go_ret
        exact ⟨gk, hg, HZ.out, .inr ⟨by omega, by rw [HX.out]; exact hx0⟩, rfl, rfl⟩
    · go_wp2
      go_ret
      exact ⟨gk, by omega, fun j h1 h2 => HZ.out j (by omega) h2, .inl (by omega), rfl, rfl⟩

def halves (xs : List Nat) : List Nat := xs.flatMap fun x => [x % 65536, x / 65536]
theorem length_halves (xs : List Nat) : (halves xs).length = 2 * xs.length := by
  induction xs with
  | nil => rfl
  | cons x r ih => simp only [halves, List.flatMap_cons, List.length_append, List.length_cons] at ih ⊢; rw [ih]; simp; omega
theorem halves_snoc (xs : List Nat) (x : Nat) : halves (xs ++ [x]) = halves xs ++ [x % 65536, x / 65536] := by simp [halves]
theorem dg_halves {xs : List Nat} (h : Dg 4294967296 xs) : Dg 65536 (halves xs) := by
  intro y hy
  simp only [halves, List.mem_flatMap] at hy
  obtain ⟨x, hx, hy⟩ := hy
  have := h x hx
  simp at hy
  omega
theorem val_halves (xs : List Nat) : val 65536 (halves xs) = val 4294967296 xs := by
  induction xs with
  | nil => rfl
  | cons x r ih =>
    have e : halves (x :: r) = x % 65536 :: x / 65536 :: halves r := rfl
    rw [e, val_cons, val_cons, val_cons, ih]; omega

/-- the digits of 16 bits of a number of words -/
theorem ref_half (xs : List Nat) (A : Option Addr) (c : Nat) (S : Nat → Prop) (w : World) (h : Rd w S .u32 A xs) (hS : ∀ b, S b → b < w.heap.size) (hl : xs.length ≤ 1073741824) (hd : Dg 4294967296 xs) :
    Calls Try.prog 23 #[.slice A xs.length c] w fun e w' => ∃ A' ys c', e = .returned (.slice A' ys.length c') ∧ ys.length ≤ c' ∧ ys.length ≤ 2 * xs.length ∧ Norm 65536 ys ∧ val 65536 ys = val 4294967296 xs ∧
      Rd w' (fun b => w.heap.size ≤ b ∧ b < w'.heap.size) .u64 A' ys ∧ Below w.heap.size w w' := by
  go_enter Try.func23, Try.ntmps23
  go_wp2
  go_loopg [3, 4] xs.length (fun g v i wr => ∃ k, g + k = xs.length ∧ i = .int .i64 k ∧ Own wr w.heap.size 30 .u64 v (halves (xs.take k)) ∧ Below w.heap.size w wr)
  case atStart => exact ⟨0, by omega, rfl, Own.nil _ _ _ _, Below.refl _ _⟩
  case round =>
    obtain ⟨k, hk, rfl, hown, hbel⟩ := hrel
    have hlen : (halves (xs.take k)).length = 2 * k := by rw [length_halves, List.length_take]; omega
    by_cases hlt : k < xs.length
    · have hR := h.below hbel hS
      obtain ⟨b, o, rfl, hb, hcell⟩ := hR.at_ (j := k) hlt
      have hx32 := hd.get hlt
      have hsn : halves (xs.take (k + 1)) = halves (xs.take k) ++ [xs[k] % 65536, xs[k] / 65536] := by rw [take_succ_get hlt, halves_snoc]
      obtain ⟨x, hx⟩ : ∃ x, xs[k] = x := ⟨_, rfl⟩
      rw [hx] at hcell hx32 hsn
      have HK := Lib.hid hk
      have HL := Lib.hid hlen
      have HS := Lib.hid hsn
      clear hx hk hlen hsn
      have q1 : IntKind.u64.wrap ((x : Int).tmod 65536) = ((x % 65536 : Nat) : Int) := by rw [Int.tmod_eq_emod_of_nonneg (by omega), IntWalk.u64_in _ (by omega)]; omega
      have q2 : IntKind.u64.wrap (IntKind.u32.wrap ((x : Int) / 65536)) = ((x / 65536 : Nat) : Int) := by rw [IntWalk.u32_in _ (by omega), IntWalk.u64_in _ (by omega)]; omega
      have hadb := hS _ hb
      go_wp2
      go_region_held3 (fun w' => w'.cell? ⟨b, o + k, none⟩ = some (.int .u32 x))
        (first | go_keep | (rw [far_app hgrow hown (by exact hadb) (by have := hbel.size; simp; omega)]; assumption))
        ((refine step_app (by rfl) _ _ _ (by rfl) w.heap.size 30 .u64 8 Try.underlying38 info_u64 u3 _ (by rfl) ((hown.alloc _).drew) wr.heap.size 2 2 [x % 65536, x / 65536] (by rfl) (by rfl) (by exact heap_alloc_new wr _) (by omega) (by rw [HL.out]; omega) (by omega) (by have := hbel.size; simp; omega) ?_; intro v1 w1 hown1 hgrow))
      have hb2 := below_app ((hbel.alloc hbel.size _).drew) hgrow ((hown.alloc _).drew) (by have := hbel.size; simp; omega) (Nat.le_refl _)
      go_wp2
      go_roundg (gk - 1)
      case measure => have := HK.out; omega
      case rel => exact ⟨k + 1, by have := HK.out; omega, by go_num, by rw [HS.out]; exact hown1, hb2⟩
    · have hk2 : xs.take k = xs := List.take_of_length_le (by omega)
      rw [hk2] at hown hlen
      obtain ⟨A', c', rfl, hc', _, hrd⟩ := hown.form
      have hl3 : (halves xs).length ≤ 2147483648 := by omega
      have HK := Lib.hid hk
      have HL := Lib.hid hlen
      clear hk hlen hk2
      go_wp2_with (go_at_call 47; refine (ref_cut _ _ _ _ _ hrd (by omega) hc').mono ?_; rintro e w' ⟨n, h1, h2, h3, rfl, rfl⟩)
      go_ret
      have hl2 : ((halves xs).take n).length = n := by rw [List.length_take]; omega
      refine ⟨A', (halves xs).take n, c', by rw [hl2]; rfl, by omega, by have := HL.out; have := HK.out; omega, Norm.take (dg_halves hd) h1 h3, ?_, hrd.take n, hbel⟩
      rw [val_take_of_zero h2, val_halves]
end Go.Proofs.Ytoidhoiadkafhaa
