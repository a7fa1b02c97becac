/- What the program's own calls answer: Uint; Text of a number of 64 bits; lives. -/
import Derived.Test.YtoidhoiadkafhaaNatD
import Derived.Test.YtoidhoiadkafhaaRefB
namespace Go.Proofs.Ytoidhoiadkafhaa
open Go.RowKit Num

theorem or_words (p q : Nat) (hp : p < 4294967296) (hq : q < 4294967296) : bits .or .u64 ((q * 4294967296 : Nat) : Int) (p : Int) = ((p + 4294967296 * q : Nat) : Int) := by
  rw [u64_or_nat _ _ (by omega) (by omega)]
  have h := Nat.shiftLeft_add_eq_or_of_lt (a := q) (b := p) (i := 32) (by omega)
  rw [Nat.shiftLeft_eq] at h
  rw [show q * 4294967296 = q * 2 ^ 32 from rfl, ← h]
  congr 1
  omega
set_option maxHeartbeats 800000 in
/-- a number of 64 bits -/
theorem nat_Uint (d : List Nat) (A : Option Addr) (c : Nat) (S : Nat → Prop) (w : World) (h : Rd w S .u32 A d) (hl : d.length ≤ 2147483648) (hc : d.length ≤ c) (hd : Dg 4294967296 d) :
    Calls Try.prog 40 #[.slice A d.length c] w fun e w' => w = w' ∧ ((val 4294967296 d < 18446744073709551616 ∧ e = .returned (.tuple #[.int .u64 (val 4294967296 d : Nat), .bool true])) ∨ (¬ val 4294967296 d < 18446744073709551616 ∧ e = .returned (.tuple #[.int .u64 0, .bool false]))) := by
  go_enter Try.func40, Try.ntmps40
  go_wp2_with fail
  refine (nat_cut d A c S w h (by omega) hc hd).mono ?_
  rintro e w1 ⟨ys, A1, c1, rfl, hcut, hr, rfl⟩
  obtain ⟨hc1, hl1, -, hn, hv, -⟩ := hcut
  have HN := Lib.hid hn
  have HV := Lib.hid hv
  clear hn hv h
  rcases (show ys.length = 0 ∨ ys.length = 1 ∨ ys.length = 2 ∨ 3 ≤ ys.length by omega) with h0 | h0 | h0 | h0
  · obtain rfl : ys = [] := List.eq_nil_of_length_eq_zero h0
    go_wp2
    go_ret2
    refine ⟨rfl, .inl ?_⟩
    rw [← HV.out]
    exact ⟨by simp [val], rfl⟩
  · obtain ⟨p, rfl⟩ : ∃ p, ys = [p] := List.length_eq_one_iff.1 h0
    obtain ⟨b, o, rfl, _, hcell⟩ := hr.at_ (j := 0) (by simp)
    have hp := HN.out.1.get (j := 0) (by simp)
    simp only [List.getElem_cons_zero, Nat.add_zero] at hcell hp
    have e1 : val 4294967296 d = p := by rw [← HV.out]; simp [val]
    have HE := Lib.hid e1
    clear e1
    go_wp2
    go_ret2
    refine ⟨rfl, .inl ?_⟩
    rw [HE.out]
    refine ⟨by omega, ?_⟩
    show Ending.returned (.tuple #[.int .u64 (bits .or .u64 ((0 * 4294967296 : Nat) : Int) (p : Int)), .bool true]) = _
    rw [or_words p 0 hp (by omega)]
    rfl
  · obtain ⟨p, q, rfl⟩ : ∃ p q, ys = [p, q] := by
      match ys, h0 with
      | [p, q], _ => exact ⟨p, q, rfl⟩
    obtain ⟨b, o, rfl, _, hcell⟩ := hr (by simp)
    have hp := HN.out.1.get (j := 0) (by simp)
    have hq := HN.out.1.get (j := 1) (by simp)
    have h1 := hcell 0 (by simp)
    have h2 := hcell 1 (by simp)
    clear hcell
    simp only [List.getElem_cons_zero, List.getElem_cons_succ, Nat.add_zero] at h1 h2 hp hq
    have e1 : val 4294967296 d = p + 4294967296 * q := by rw [← HV.out]; simp [val]
    have HE := Lib.hid e1
    clear e1
    go_wp2
    go_ret2
    refine ⟨rfl, .inl ?_⟩
    rw [HE.out]
    refine ⟨by omega, ?_⟩
    show Ending.returned (.tuple #[.int .u64 (bits .or .u64 ((q : Int) * 4294967296) (p : Int)), .bool true]) = _
    rw [show (q : Int) * 4294967296 = ((q * 4294967296 : Nat) : Int) by omega, or_words p q hp hq]
  · have hbig : ¬ val 4294967296 d < 18446744073709551616 := by
      rw [← HV.out]
      intro hlt
      have := HN.out.2.length_le (b := 4294967296) (n := 2) (by omega) hlt
      omega
    have HB := Lib.hid hbig
    clear hbig
    go_wp2
    go_ret2
    exact ⟨rfl, .inr ⟨HB.out, rfl⟩⟩

theorem row_u32 {w : World} {g : Nat} {vs : Array Value} (xs : List Nat) (h : w.heap[g]? = some (.cells vs 36 (0, 0))) (e : vs = (cells .u32 xs).toArray) : Row w g 36 .u32 xs := by
  unfold Row; rw [h, e]

end Go.Proofs.Ytoidhoiadkafhaa
