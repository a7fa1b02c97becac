/- Fractions: what the program's own tells answers. -/
import Derived.Test.YtidbpkibjficnaaGreatDoorZFpU
import Derived.Test.YtidbpkibjficnaaGreatDoorZFpX
import Derived.Test.YtidbpkibjficnaaGreatDoorZFrZ
import Derived.Test.YtidbpkibjficnaaGreatDoorZFrL
import Derived.Test.YtidbpkibjficnaaGreatDoorZRtX
namespace Go.Proofs.YtidbpkibjficnaaGreatDoor
open Go.RowKit Num

theorem isBits_two_iff {N n : Nat} (h : IsBits N n) : 1 < n ↔ 2 ≤ N := by
  obtain ⟨h1, h2⟩ := h
  constructor
  · intro hn
    rcases h2 with rfl | h2
    · omega
    · have : 2 ^ 1 ≤ 2 ^ (n - 1) := Nat.pow_le_pow_right (by omega) (by omega)
      omega
  · intro hN
    rcases Nat.lt_or_ge 1 n with h3 | h3
    · exact h3
    · have : 2 ^ n ≤ 2 ^ 1 := Nat.pow_le_pow_right (by omega) h3
      omega
set_option maxRecDepth 10000 in
set_option maxHeartbeats 1600000 in
/-- are they what stands on both sides of a stroke? -/
theorem frac_tells (n : Bool) (a d : List Nat) (A D : Option Addr) (ca cd : Nat) (w : World) (h : Rd w (fun g => g < w.heap.size) .u32 A a) (h' : Rd w (fun g => g < w.heap.size) .u32 D d) (hl : a.length ≤ 1073741824) (hl' : d.length ≤ 1073741824) (hc : a.length ≤ ca) (hc' : d.length ≤ cd) (ha : Dg 4294967296 a) (hd : Dg 4294967296 d) (b : Bool) (hb : decide (2 ≤ val 4294967296 d ∧ Nat.gcd (val 4294967296 a) (val 4294967296 d) = 1) = b) :
    Calls Tryz.prog 83 #[.agg #[.bool n, .slice A a.length ca], .slice D d.length cd] w fun e w' => e = .returned (.bool b) ∧ Below w.heap.size w w' := by
  obtain ⟨W, hW⟩ : ∃ W, w.alloc (.cells #[.bool n, .slice A a.length ca] 24) = W := ⟨_, rfl⟩
  have k : Blk W w.heap.size 24 [.bool n, .slice A a.length ca] := by rw [← hW]; exact Blk.new w _ _
  have b0 : Below w.heap.size w W := by rw [← hW]; exact below_one w _
  obtain ⟨p0, p1, -, -⟩ := k.facts2
  obtain ⟨z, hz⟩ := isBits_some (val 4294967296 d)
  have cB := nat_Bits_at d D cd z W (h'.on b0) hl' hc' hd hz
  have h2 := isBits_two_iff hz
  by_cases hv : 2 ≤ val 4294967296 d
  · have h1z : (1 : Int) < (z : Int) := by have := h2.2 hv; omega
    have cG := root_Gcd a d A D ca cd W (h.on b0) (h'.on b0) hl hl' hc hc' ha hd
    have cO : ∀ (V : World) (x : List Nat) (X : Option Addr) (cx : Nat), Rd V (fun g => g < V.heap.size) .u32 X x → x.length ≤ cx → Norm 4294967296 x → val 4294967296 x = Nat.gcd (val 4294967296 a) (val 4294967296 d) → Calls Tryz.prog 86 #[.slice X x.length cx] V fun e w' => e = .returned (.bool b) ∧ V = w' := fun V x X cx rx hcx hnx hvx => by
      have lx := len_le (b := 4294967296) (by omega) hnx.2 hd (by rw [hvx]; exact Nat.le_of_dvd (by omega) (Nat.gcd_dvd_right _ _))
      refine frac_isOne x X cx V rx (by omega) hcx hnx.1 b ?_
      rw [← hb, hvx]
      exact decide_eq_decide.2 ⟨fun e => ⟨hv, e⟩, fun e => e.2⟩
    have CO := Lib.hid cO
    have CG := Lib.hid cG
    clear cO cG hb hv h2 hz h h' k
    go_enter Tryz.func83, Tryz.ntmps83
    go_wp2_with fail
    try rw [hW]
    clear hW
    refine cB.mono ?_
    rintro e w1 ⟨rfl, rfl⟩
    go_wp2_with fail
    refine CG.out.mono ?_
    rintro e w2 ⟨X, x, cx, rfl, hcx, hnx, hvx, rx, b2⟩
    have cO := CO.out w2 x X cx rx hcx hnx hvx
    have B2 := b0.trans (b2.mono b0.size)
    clear hnx hvx rx
    go_wp2_with fail
    refine cO.mono ?_
    rintro e w3 ⟨rfl, rfl⟩
    go_wp2_with fail
    go_ret
    exact ⟨rfl, B2⟩
  · have h1z : ¬ (1 : Int) < (z : Int) := by intro e; exact hv (h2.1 (by omega))
    have HB := Lib.hid (show false = b by rw [← hb]; exact (decide_eq_false fun e => hv e.1).symm)
    clear hb hv h2 hz h h' k
    go_enter Tryz.func83, Tryz.ntmps83
    go_wp2_with fail
    try rw [hW]
    clear hW
    refine cB.mono ?_
    rintro e w1 ⟨rfl, rfl⟩
    go_wp2_with fail
    go_ret
    exact ⟨(rfl : _ = Ending.returned (.bool false)).trans (by rw [HB.out]), b0⟩
end Go.Proofs.YtidbpkibjficnaaGreatDoor
