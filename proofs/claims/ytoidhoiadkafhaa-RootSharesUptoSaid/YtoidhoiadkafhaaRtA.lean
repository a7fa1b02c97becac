/- What the program's own small calls on words answer: cut, at, head. -/
import Derived.Test.YtoidhoiadkafhaaRtN
import Derived.Test.YtoidhoiadkafhaaNatE
namespace Go.Proofs.Ytoidhoiadkafhaa
open Go.RowKit Num

theorem below_one (w : World) (o : Obj) : Below w.heap.size w (w.alloc o) := (Below.refl _ _).alloc (Nat.le_refl _) _
theorem take_bits {d : List Nat} {n : Nat} (hd : Dg 4294967296 d) (hb : IsBits (val 4294967296 d) n) :
    Norm 4294967296 (d.take ((n + 31) / 32)) ∧ val 4294967296 (d.take ((n + 31) / 32)) = val 4294967296 d ∧ (d.take ((n + 31) / 32)).length ≤ (n + 31) / 32 := by
  have hk : val 4294967296 d < 4294967296 ^ ((n + 31) / 32) := by
    refine Nat.lt_of_lt_of_le hb.1 ?_
    rw [show (4294967296 : Nat) = 2 ^ 32 from rfl, ← Nat.pow_mul]
    exact Nat.pow_le_pow_right (by omega) (by omega)
  have hl : (d.take ((n + 31) / 32)).length ≤ (n + 31) / 32 := by rw [List.length_take]; omega
  have hv : val 4294967296 (d.take ((n + 31) / 32)) = val 4294967296 d := by
    by_cases h : (n + 31) / 32 ≤ d.length
    · have e := val_split (b := 4294967296) h
      rcases Nat.eq_zero_or_pos (val 4294967296 (d.drop ((n + 31) / 32))) with h0 | h0
      · rw [e, h0]; simp
      · have := Nat.mul_le_mul_left (4294967296 ^ ((n + 31) / 32)) h0
        omega
    · rw [List.take_of_length_le (by omega)]
  refine ⟨?_, hv, hl⟩
  rcases hb.2 with h0 | h0
  · subst h0
    exact norm_nil _
  · refine ⟨hd.take, top_of_le hd.take ?_⟩
    rw [hv]
    refine Nat.le_trans ?_ h0
    rw [show (4294967296 : Nat) = 2 ^ 32 from rfl, ← Nat.pow_mul]
    exact Nat.pow_le_pow_right (by omega) (by omega)

set_option maxHeartbeats 400000 in
theorem root_cut (d : List Nat) (A : Option Addr) (c : Nat) (S : Nat → Prop) (w : World) (h : Rd w S .u32 A d) (hl : d.length ≤ 1073741824) (hc : d.length ≤ c) (hd : Dg 4294967296 d) :
    Calls Try.prog 27 #[.slice A d.length c] w fun e w' => ∃ ys A' c', e = .returned (.slice A' ys.length c') ∧ ys.length ≤ c' ∧ ys.length ≤ d.length ∧ Norm 4294967296 ys ∧ val 4294967296 ys = val 4294967296 d ∧ Rd w S .u32 A' ys ∧ w = w' := by
  have cb := nat_Bits d A c S w h hl hc hd
  go_enter Try.func27, Try.ntmps27
  go_wp2_with fail
  refine cb.mono ?_
  rintro e w1 ⟨n, rfl, hb, hn, rfl⟩
  obtain ⟨t1, t2, t3⟩ := take_bits hd hb
  go_wp2_with fail
  go_ret
  have hk : (n + 31) / 32 ≤ d.length := by omega
  have hlen : (d.take ((n + 31) / 32)).length = (n + 31) / 32 := by rw [List.length_take]; omega
  exact ⟨d.take ((n + 31) / 32), A, c, by rw [hlen]; congr 2, by omega, by omega, t1, t2, h.take _, rfl⟩

set_option maxHeartbeats 400000 in
/-- a word; 0 behind the last one -/
theorem root_at (d : List Nat) (A : Option Addr) (c : Nat) (i : Nat) (S : Nat → Prop) (w : World) (h : Rd w S .u32 A d) :
    Calls Try.prog 69 #[.slice A d.length c, .int .i64 i] w fun e w' => e = .returned (.int .u32 (d.getD i 0 : Nat)) ∧ w = w' := by
  by_cases hlt : i < d.length
  · obtain ⟨b, o, rfl, _, hcell⟩ := h.at_ hlt
    obtain ⟨x, hx⟩ : ∃ x, d[i] = x := ⟨_, rfl⟩
    rw [List.getD_eq_getElem?_getD, List.getElem?_eq_getElem hlt, Option.getD_some]
    rw [hx] at hcell ⊢
    clear hx
    go_enter Try.func69, Try.ntmps69
    go_wp2_with fail
    go_ret
    exact ⟨rfl, rfl⟩
  · rw [List.getD_eq_getElem?_getD, List.getElem?_eq_none (by omega), Option.getD_none]
    go_enter Try.func69, Try.ntmps69
    go_wp2_with fail
    go_ret
    exact ⟨rfl, rfl⟩

/-- two words and the higher bits of a third one -/
theorem head_val {m r s : Nat} (hr : r < 4294967296) (hs : s < 32) (hm : m * 2 ^ s < 18446744073709551616) :
    bits .or .u64 ((m * 2 ^ s : Nat) : Int) ((r / 2 ^ (32 - s) : Nat) : Int) = (((r + 4294967296 * m) / 2 ^ (32 - s) : Nat) : Int) := by
  have e : (4294967296 : Nat) = 2 ^ (32 - s) * 2 ^ s := by rw [← Nat.pow_add, show 32 - s + s = 32 by omega]
  have ht : 0 < 2 ^ (32 - s) := Nat.pow_pos (by omega)
  have hc : r / 2 ^ (32 - s) < 2 ^ s := by
    rw [Nat.div_lt_iff_lt_mul ht, Nat.mul_comm, ← e]; exact hr
  have hr2 : r / 2 ^ (32 - s) < 18446744073709551616 := by
    have := Nat.div_le_self r (2 ^ (32 - s)); omega
  rw [u64_or_nat _ _ hm hr2]
  congr 1
  rw [Nat.mul_comm m, ← Nat.two_pow_add_eq_or_of_lt hc, e, Nat.mul_assoc, Nat.add_mul_div_left _ _ ht, Nat.add_comm]
theorem head_fit {p q s : Nat} (hq : q < 4294967296) (hs : s < 32) (h : p * 2 ^ s < 4294967296) : (q + 4294967296 * p) * 2 ^ s < 18446744073709551616 := by
  have e : (4294967296 : Nat) = 2 ^ (32 - s) * 2 ^ s := by rw [← Nat.pow_add, show 32 - s + s = 32 by omega]
  have hp : p < 2 ^ (32 - s) := by
    rw [e] at h
    exact Nat.lt_of_mul_lt_mul_right h
  have h1 : q + 4294967296 * p < 4294967296 * 2 ^ (32 - s) := by
    have := Nat.mul_le_mul_left 4294967296 (show p + 1 ≤ 2 ^ (32 - s) from hp)
    omega
  have h2 := Nat.mul_lt_mul_of_pos_right h1 (show 0 < 2 ^ s from Nat.pow_pos (by omega))
  rw [Nat.mul_assoc, ← e] at h2
  omega

set_option maxHeartbeats 1600000 in
/-- 64 bits of the three words that end at n -/
theorem root_head (d : List Nat) (A : Option Addr) (c n s : Nat) (S : Nat → Prop) (w : World) (h : Rd w S .u32 A d) (hn : n ≤ 1073741824) (h3 : 3 ≤ n) (hs : s < 32) (hd : Dg 4294967296 d)
    (htop : d.getD (n - 1) 0 * 2 ^ s < 4294967296) :
    Calls Try.prog 57 #[.slice A d.length c, .int .i64 n, .int .i64 s] w fun e w' => e = .returned (.int .u64 ((d.getD (n - 3) 0 + 4294967296 * (d.getD (n - 2) 0 + 4294967296 * d.getD (n - 1) 0)) / 2 ^ (32 - s) : Nat)) ∧ ∃ k, w' = w.drewN k := by
  have c1 := fun m => root_at d A c (n - 1) S (w.drewN m) (h.drewN m)
  have c2 := fun m => root_at d A c (n - 2) S (w.drewN m) (h.drewN m)
  have c3 := fun m => root_at d A c (n - 3) S (w.drewN m) (h.drewN m)
  have b1 := hd.getD (by omega) (n - 1)
  have b2 := hd.getD (by omega) (n - 2)
  have b3 := hd.getD (by omega) (n - 3)
  obtain ⟨p, hp⟩ : ∃ p, d.getD (n - 1) 0 = p := ⟨_, rfl⟩
  obtain ⟨q, hq⟩ : ∃ p, d.getD (n - 2) 0 = p := ⟨_, rfl⟩
  obtain ⟨r, hr⟩ : ∃ p, d.getD (n - 3) 0 = p := ⟨_, rfl⟩
  rw [hp] at b1 htop ⊢
  rw [hq] at b2 ⊢
  rw [hr] at b3 ⊢
  simp only [hp] at c1
  simp only [hq] at c2
  simp only [hr] at c3
  clear hp hq hr
  have e1 : ((n - 1 : Nat) : Int) = (n : Int) - 1 := by omega
  have e2 : ((n - 2 : Nat) : Int) = (n : Int) - 2 := by omega
  have e3 : ((n - 3 : Nat) : Int) = (n : Int) - 3 := by omega
  simp only [e1] at c1
  simp only [e2] at c2
  simp only [e3] at c3
  have HT := Lib.hid htop
  clear htop e1 e2 e3
  go_enter Try.func57, Try.ntmps57
  go_wp2_with fail
  refine (c1 0).mono ?_
  rintro e w1 ⟨rfl, rfl⟩
  go_wp2_with fail
  refine (c2 0).mono ?_
  rintro e w1 ⟨rfl, rfl⟩
  go_wp2_with fail
  have e1 : bits BinOp.or IntKind.u64 ((p : Int) * 4294967296) (q : Int) = ((q + 4294967296 * p : Nat) : Int) := by
    rw [show (p : Int) * 4294967296 = ((p * 4294967296 : Nat) : Int) by omega, or_words q p b2 b1]
  rw [e1]
  have hm := head_fit b2 hs HT.out
  obtain ⟨m, hmm⟩ : ∃ m, q + 4294967296 * p = m := ⟨_, rfl⟩
  rw [hmm] at hm ⊢
  have HM := Lib.hid hm
  have hs0 : (0 : Int) ≤ (s : Int) := by omega
  have hs32 : (s : Int) < 32 := by omega
  have hm64 : m < 18446744073709551616 := by omega
  have HMM := Lib.hid hmm
  clear hm e1 hmm
  go_quiet ((go_at_call 69; exact quiet_one (c3 _)))
  go_wp2_with fail
  go_ret
  refine ⟨?_, ⟨0 + nq, World.drewN_drewN _ _ _⟩⟩
  have e2 : IntKind.u64.wrap ((m : Int) * 2 ^ s) = ((m * 2 ^ s : Nat) : Int) := by
    rw [show (m : Int) * 2 ^ s = ((m * 2 ^ s : Nat) : Int) by simp]
    have := HM.out
    generalize m * 2 ^ s = z at *
    exact IntWalk.u64_in _ (by omega)
  rw [HMM.out, ← head_val b3 hs HM.out, ← e2]
  simp
end Go.Proofs.Ytoidhoiadkafhaa
