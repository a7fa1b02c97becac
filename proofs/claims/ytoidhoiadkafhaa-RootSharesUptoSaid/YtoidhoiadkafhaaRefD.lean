/- What the document's own calls answer: sub, Sub, bit, Bits. -/
import Derived.Test.YtoidhoiadkafhaaRefC
namespace Go.Proofs.Ytoidhoiadkafhaa
open Go.RowKit Num

set_option maxHeartbeats 400000 in
theorem ref_bit (x : List Nat) (A : Option Addr) (c i : Nat) (S : Nat → Prop) (w : World) (h : Rd w S .u64 A x) (hl : x.length ≤ 1073741824) (hi : i ≤ 1099511627776) (hx : Dg 65536 x) :
    Calls Try.prog 46 #[.slice A x.length c, .int .i64 i] w fun e w' => e = .returned (.int .u64 (((val 65536 x).testBit i).toNat : Int)) ∧ w = w' := by
  have hb := bit_of (i := i) hx
  have hd := hx.getD (by omega) (i / 16)
  have ca := ref_at x A c (i / 16) S w h (by omega)
  obtain ⟨p, hp⟩ : ∃ p, x.getD (i / 16) 0 = p := ⟨_, rfl⟩
  obtain ⟨r, hr⟩ : ∃ r, ((val 65536 x).testBit i).toNat = r := ⟨_, rfl⟩
  rw [hp] at ca hd hb
  rw [hr] at hb ⊢
  have HB := Lib.hid hb
  clear hp hr hb
  go_enter Try.func46, Try.ntmps46
  go_wp2_with (go_at_call 52; refine ca.mono ?_; rintro e w' ⟨rfl, rfl⟩)
  go_ret
  refine ⟨?_, rfl⟩
  show Ending.returned (.int .u64 (((p : Int) / 2 ^ (i % 16)).tmod ((2 : Nat) : Int))) = _
  rw [show ((p : Int) / 2 ^ (i % 16)) = ((p / 2 ^ (i % 16) : Nat) : Int) by simp, tmod_nat, HB.out]

set_option maxHeartbeats 800000 in
/-- how many bits -/
theorem ref_Bits (a : List Nat) (A : Option Addr) (ca : Nat) (S : Nat → Prop) (w : World) (h : Rd w S .u32 A a) (hS : ∀ g, S g → g < w.heap.size) (hl : a.length ≤ 536870912) (ha : Dg 4294967296 a) :
    Calls Try.prog 21 #[.slice A a.length ca] w fun e w' => ∃ n : Nat, e = .returned (.int .i64 n) ∧ IsBits (val 4294967296 a) n ∧ Below w.heap.size w w' := by
  go_enter Try.func21, Try.ntmps21
  go_wp2_with fail
  refine (ref_half a A ca S w h hS (by omega) ha).mono ?_
  rintro e w1 ⟨A1, x, c1, rfl, hc1, hl1, hn1, hv1, hr1, hb1⟩
  have hs1 := hb1.size
  have hlt := val_lt hn1.1
  rw [hv1] at hlt
  have h16 : val 4294967296 a < 2 ^ (16 * x.length) := by rw [Nat.pow_mul]; exact hlt
  have hz : ∀ j, 16 * x.length ≤ j → (val 4294967296 a).testBit j = false := fun j hj => Nat.testBit_lt_two_pow (Nat.lt_of_lt_of_le h16 (Nat.pow_le_pow_right (by omega) hj))
  have HN1 := Lib.hid hn1
  have HV1 := Lib.hid hv1
  have HZ := Lib.hid hz
  clear hn1 hv1 hz hlt h16
  go_wp2_with fail
  go_loopg [4] (16 * x.length) (fun g i wr => ((∃ k : Nat, g = k + 1 ∧ i = .int .i64 k) ∨ (g = 0 ∧ i = .int .i64 (-1))) ∧ g ≤ 16 * x.length ∧ w1 = wr ∧ ∀ j, g ≤ j → (val 4294967296 a).testBit j = false)
  case atStart =>
    refine ⟨?_, Nat.le_refl _, rfl, HZ.out⟩
    by_cases h0 : x.length = 0
    · refine .inr ⟨by omega, ?_⟩; congr 1; omega
    · refine .inl ⟨16 * x.length - 1, by omega, ?_⟩; congr 1; omega
  case round =>
    obtain ⟨⟨k, rfl, rfl⟩ | ⟨rfl, rfl⟩, hg, rfl, hab⟩ := hrel
    · have HAB := Lib.hid hab
      clear hab
      have cb := ref_bit x A1 c1 k _ w1 hr1 (by omega) (by omega) HN1.out.1
      rw [HV1.out] at cb
      obtain ⟨r, hr⟩ : ∃ r, (val 4294967296 a).testBit k = r := ⟨_, rfl⟩
      rw [hr] at cb
      have HR := Lib.hid hr
      clear hr
      cases r with
      | true =>
        go_wp2_with (go_at_call 46; refine cb.mono ?_; rintro e w' ⟨rfl, rfl⟩)
        go_ret
        refine ⟨k + 1, rfl, ⟨?_, .inr ?_⟩, hb1⟩
        · exact Nat.lt_pow_two_of_testBit _ (fun j hj => HAB.out j hj)
        · exact Nat.ge_two_pow_of_testBit HR.out
      | false =>
        go_wp2_with (go_at_call 46; refine cb.mono ?_; rintro e w' ⟨rfl, rfl⟩)
        go_roundg k
        case measure => omega
        case rel =>
          refine ⟨?_, by omega, rfl, fun j hj => ?_⟩
          · by_cases h0 : k = 0
            · subst h0; exact .inr ⟨rfl, by go_num⟩
            · exact .inl ⟨k - 1, by omega, by go_num⟩
          · by_cases e : j = k
            · subst e; exact HR.out
            · exact HAB.out j (by omega)
    · go_wp2
      go_ret
      refine ⟨0, rfl, ⟨?_, .inl rfl⟩, hb1⟩
      exact Nat.lt_pow_two_of_testBit _ (fun j hj => hab j hj)
end Go.Proofs.Ytoidhoiadkafhaa
