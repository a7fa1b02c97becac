/- What the program's own calls answer: Uint; Text of a number of 64 bits; lives. -/
import Derived.Test.YtkmpdnilhfmlnaaDoorNatD
import Derived.Test.YtkmpdnilhfmlnaaDoorStr
import Derived.Test.YtkmpdnilhfmlnaaDoorRefB
namespace Go.Proofs.YtkmpdnilhfmlnaaDoor
open Go.RowKit Num

theorem or_words (p q : Nat) (hp : p < 4294967296) (hq : q < 4294967296) : bits .or .u64 ((q * 4294967296 : Nat) : Int) (p : Int) = ((p + 4294967296 * q : Nat) : Int) := by
  rw [u64_or_nat _ _ (by omega) (by omega)]
  have h := Nat.shiftLeft_add_eq_or_of_lt (a := q) (b := p) (i := 32) (by omega)
  rw [Nat.shiftLeft_eq] at h
  rw [show q * 4294967296 = q * 2 ^ 32 from rfl, ← h]
  congr 1
  omega
set_option maxHeartbeats 800000 in
/-- a number of 64 bits -/
theorem nat_Uint (d : List Nat) (A : Option Addr) (c : Nat) (S : Nat → Prop) (w : World) (h : Rd w S .u32 A d) (hl : d.length ≤ 2147483648) (hc : d.length ≤ c) (hd : Dg 4294967296 d) :
    Calls Tryd.prog 22 #[.slice A d.length c] w fun e w' => w = w' ∧ ((val 4294967296 d < 18446744073709551616 ∧ e = .returned (.tuple #[.int .u64 (val 4294967296 d : Nat), .bool true])) ∨ (¬ val 4294967296 d < 18446744073709551616 ∧ e = .returned (.tuple #[.int .u64 0, .bool false]))) := by
  go_enter Tryd.func22, Tryd.ntmps22
  go_wp2_with fail
  refine (nat_cut d A c S w h (by omega) hc hd).mono ?_
  rintro e w1 ⟨ys, A1, c1, rfl, hcut, hr, rfl⟩
  obtain ⟨hc1, hl1, -, hn, hv, -⟩ := hcut
  have HN := Lib.hid hn
  have HV := Lib.hid hv
  clear hn hv h
  rcases (show ys.length = 0 ∨ ys.length = 1 ∨ ys.length = 2 ∨ 3 ≤ ys.length by omega) with h0 | h0 | h0 | h0
  · obtain rfl : ys = [] := List.eq_nil_of_length_eq_zero h0
    go_wp2
    go_ret2
    refine ⟨rfl, .inl ?_⟩
    rw [← HV.out]
    exact ⟨by simp [val], rfl⟩
  · obtain ⟨p, rfl⟩ : ∃ p, ys = [p] := List.length_eq_one_iff.1 h0
    obtain ⟨b, o, rfl, _, hcell⟩ := hr.at_ (j := 0) (by simp)
    have hp := HN.out.1.get (j := 0) (by simp)
    simp only [List.getElem_cons_zero, Nat.add_zero] at hcell hp
    have e1 : val 4294967296 d = p := by rw [← HV.out]; simp [val]
    have HE := Lib.hid e1
    clear e1
    go_wp2
    go_ret2
    refine ⟨rfl, .inl ?_⟩
    rw [HE.out]
    refine ⟨by omega, ?_⟩
    show Ending.returned (.tuple #[.int .u64 (bits .or .u64 ((0 * 4294967296 : Nat) : Int) (p : Int)), .bool true]) = _
    rw [or_words p 0 hp (by omega)]
    rfl
  · obtain ⟨p, q, rfl⟩ : ∃ p q, ys = [p, q] := by
      match ys, h0 with
      | [p, q], _ => exact ⟨p, q, rfl⟩
    obtain ⟨b, o, rfl, _, hcell⟩ := hr (by simp)
    have hp := HN.out.1.get (j := 0) (by simp)
    have hq := HN.out.1.get (j := 1) (by simp)
    have h1 := hcell 0 (by simp)
    have h2 := hcell 1 (by simp)
    clear hcell
    simp only [List.getElem_cons_zero, List.getElem_cons_succ, Nat.add_zero] at h1 h2 hp hq
    have e1 : val 4294967296 d = p + 4294967296 * q := by rw [← HV.out]; simp [val]
    have HE := Lib.hid e1
    clear e1
    go_wp2
    go_ret2
    refine ⟨rfl, .inl ?_⟩
    rw [HE.out]
    refine ⟨by omega, ?_⟩
    show Ending.returned (.tuple #[.int .u64 (bits .or .u64 ((q : Int) * 4294967296) (p : Int)), .bool true]) = _
    rw [show (q : Int) * 4294967296 = ((q * 4294967296 : Nat) : Int) by omega, or_words p q hp hq]
  · have hbig : ¬ val 4294967296 d < 18446744073709551616 := by
      rw [← HV.out]
      intro hlt
      have := HN.out.2.length_le (b := 4294967296) (n := 2) (by omega) hlt
      omega
    have HB := Lib.hid hbig
    clear hbig
    go_wp2
    go_ret2
    exact ⟨rfl, .inr ⟨HB.out, rfl⟩⟩

/-- the text of a number of 64 bits -/
theorem nat_Text_small (d : List Nat) (A : Option Addr) (c : Nat) (S : Nat → Prop) (w : World) (h : Rd w S .u32 A d) (hl : d.length ≤ 2147483648) (hc : d.length ≤ c) (hd : Dg 4294967296 d) (hlt : val 4294967296 d < 18446744073709551616) (htab : Tab w) :
    Calls Tryd.prog 32 #[.slice A d.length c] w fun e w' => e = .returned (.string ⟨(Lib.decDigits (val 4294967296 d)).toArray⟩) ∧ Below w.heap.size w w' := by
  have cu := nat_Uint d A c S w h hl hc hd
  obtain ⟨N, hN⟩ : ∃ N, val 4294967296 d = N := ⟨_, rfl⟩
  rw [hN] at cu hlt ⊢
  have cf := lib_FormatUint N hlt w htab
  have HL := Lib.hid hlt
  clear hlt hN
  go_enter Tryd.func32, Tryd.ntmps32
  go_wp2_with fail
  refine cu.mono ?_
  rintro e w1 ⟨rfl, ⟨_, rfl⟩ | ⟨hn, rfl⟩⟩
  · go_wp2_with fail
    refine cf.mono ?_
    rintro e w1 ⟨rfl, hb⟩
    go_wp2
    go_ret
    exact ⟨rfl, hb⟩
  · exact absurd HL.out hn

theorem row_u32 {w : World} {g : Nat} {vs : Array Value} (xs : List Nat) (h : w.heap[g]? = some (.cells vs 53 (0, 0))) (e : vs = (cells .u32 xs).toArray) : Row w g 53 .u32 xs := by
  unfold Row; rw [h, e]

set_option maxHeartbeats 800000 in
/-- a great product is right -/
theorem law_lives (w : World) (htab : Tab w) : Calls Tryd.prog 17 #[] w fun e w' => e = .returned (.bool true) ∧ Below w.heap.size w w' := by
  go_enter Tryd.func17, Tryd.ntmps17
  go_wp2_with fail
  have hA : Row ((w.alloc (Obj.cells #[Value.int IntKind.u32 4294967295] 53)).alloc (Obj.cells #[Value.int IntKind.u32 4294967295] 53)) w.heap.size 53 .u32 [4294967295] := (Row.new w 53 .u32 [4294967295]).alloc _
  have hB : Row ((w.alloc (Obj.cells #[Value.int IntKind.u32 4294967295] 53)).alloc (Obj.cells #[Value.int IntKind.u32 4294967295] 53)) (w.heap.size + 1) 53 .u32 [4294967295] := by
    have h : Row ((w.alloc (Obj.cells #[Value.int IntKind.u32 4294967295] 53)).alloc (Obj.cells #[Value.int IntKind.u32 4294967295] 53)) (w.alloc (Obj.cells #[Value.int IntKind.u32 4294967295] 53)).heap.size 53 .u32 [4294967295] := Row.new (w.alloc (Obj.cells #[Value.int IntKind.u32 4294967295] 53)) 53 .u32 [4294967295]
    simpa using h
  have hbel : Below w.heap.size w ((w.alloc (Obj.cells #[Value.int IntKind.u32 4294967295] 53)).alloc (Obj.cells #[Value.int IntKind.u32 4294967295] 53)) := ((Below.refl _ _).alloc (Nat.le_refl _) _).alloc (by simp) _
  obtain ⟨W, hW⟩ : ∃ W, ((w.alloc (Obj.cells #[Value.int IntKind.u32 4294967295] 53)).alloc (Obj.cells #[Value.int IntKind.u32 4294967295] 53)) = W := ⟨_, rfl⟩
  rw [hW] at hA hB hbel ⊢
  clear hW
  have hsz := hbel.size
  have hm := nat_Mul [4294967295] [4294967295] _ _ 1 1 _ _ W (hA.rd_all (S := fun g => g < W.heap.size) hA.lt) (hB.rd_all (S := fun g => g < W.heap.size) hB.lt) (fun g hg => hg) (fun g hg => hg) (by simp) (by simp) (by simp) (by simp) (by simp [Dg]) (by simp [Dg])
  refine hm.mono ?_
  rintro e w3 ⟨A3, xs, c3, rfl, hc3, hn3, hv3, hr3, hb3⟩
  have hs3 := hb3.size
  obtain rfl : xs = [1, 4294967294] := Norm.ext (b := 4294967296) (by omega) hn3 ⟨by simp [Dg], by simp [Top]⟩ (by rw [hv3]; rfl)
  have htab3 : Tab w3 := htab.on (hbel.trans (hb3.mono hsz))
  have hbel3 : Below w.heap.size w w3 := hbel.trans (hb3.mono hsz)
  have hC : Row (w3.alloc (Obj.cells #[Value.int IntKind.u32 1, Value.int IntKind.u32 4294967294] 53)) w3.heap.size 53 .u32 [1, 4294967294] := Row.new w3 53 .u32 [1, 4294967294]
  have hr4 : Rd (w3.alloc (Obj.cells #[Value.int IntKind.u32 1, Value.int IntKind.u32 4294967294] 53)) (fun g => g < w3.heap.size) .u32 A3 [1, 4294967294] := hr3.keep fun p hp => World.cell?_alloc_lt w3 _ p hp
  have hsame := ref_same [1, 4294967294] A3 _ c3 2 _ _ _ hr4 (hC.rd_all (S := fun _ => True) trivial) (by simp)
  clear hm hA hB hbel hn3 hv3 hr3 hb3 htab
  go_wp2_with fail
  refine hsame.mono ?_
  rintro e w4 ⟨rfl, m, hw4⟩
  have hbel4 : Below w.heap.size w w4 := by rw [hw4]; exact below_drewN (hbel3.alloc hbel3.size _) m
  have hb34 : Below w3.heap.size w3 w4 := by rw [hw4]; exact below_drewN ((Below.refl _ _).alloc (Nat.le_refl _) _) m
  have htab4 : Tab w4 := htab3.on hb34
  have hs4 := hb34.size
  clear hw4 hsame hC hr4
  have hD : Row (w4.alloc (Obj.cells #[Value.int IntKind.u32 0, Value.int IntKind.u32 1] 53)) w4.heap.size 53 .u32 [0, 1] := Row.new w4 53 .u32 [0, 1]
  have ht := nat_Text_small [0, 1] _ 2 _ _ (hD.rd_all (S := fun _ => True) trivial) (by simp) (by simp) (by simp [Dg]) (by decide) (htab4.on ((Below.refl _ _).alloc (Nat.le_refl _) _))
  have hdec : Lib.decDigits (val 4294967296 [0, 1]) = [52, 50, 57, 52, 57, 54, 55, 50, 57, 54] := by decide +kernel
  rw [hdec] at ht
  clear hdec hD
  go_wp2_with fail
  refine ht.mono ?_
  rintro e w5 ⟨rfl, hb5⟩
  have hbel5 : Below w.heap.size w w5 := (hbel4.alloc hbel4.size _).trans (hb5.mono (by have := hbel4.size; simp; omega))
  clear ht hb5
  go_wp2
  go_ret
  exact ⟨rfl, hbel5⟩
end Go.Proofs.YtkmpdnilhfmlnaaDoor
