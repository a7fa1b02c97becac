/- What the program's own calls on numbers answer: cut, order, Cmp, Bits, Trim. -/
import Derived.Test.YtbhahddgajkchaaZRefX
import Derived.Test.YtbhahddgajkchaaZBase
import Derived.Laws.CopyOwn
import Derived.Lib.BitFns
import Derived.Deep.DeepFit
namespace Go.Proofs.Ytbhahddgajkchaa
open Go.RowKit Num

/-- a number's own words without those of 0 at its end -/
def CutOf (b : Nat) (d : List Nat) (A : Option Addr) (c : Nat) (ys : List Nat) (A' : Option Addr) (c' : Nat) : Prop :=
  ys.length ≤ c' ∧ ys.length ≤ d.length ∧ ys = d.take ys.length ∧ Norm b ys ∧ val b ys = val b d ∧ ((ys = [] ∧ A' = none ∧ c' = 0) ∨ (ys ≠ [] ∧ A' = A ∧ c' = c))
theorem val_lt_of_length {b : Nat} {x y : List Nat} (hb : 1 < b) (hx : Dg b x) (hy : Top y) (h : x.length < y.length) : val b x < val b y := by
  have h1 := val_lt hx
  have h2 := top_le (b := b) hy (by rintro rfl; simp at h)
  exact Nat.lt_of_lt_of_le h1 (Nat.le_trans (Nat.pow_le_pow_right (by omega) (by omega)) h2)

theorem isBits_bitLenAux (f x : Nat) (h : x < 2 ^ f) : IsBits x (Lib.bitLenAux f x) := by
  induction f generalizing x with
  | zero => simp at h; subst h; exact ⟨by simp [Lib.bitLenAux], .inl (by simp [Lib.bitLenAux])⟩
  | succ f ih =>
    unfold Lib.bitLenAux
    by_cases h0 : x = 0
    · subst h0; exact ⟨by simp, .inl (by simp)⟩
    · rw [if_neg h0]
      obtain ⟨h1, h2⟩ := ih (x / 2) (by rw [Nat.pow_succ] at h; omega)
      generalize Lib.bitLenAux f (x / 2) = m at *
      refine ⟨by rw [Nat.add_comm, Nat.pow_succ]; omega, .inr ?_⟩
      rw [Nat.add_sub_cancel_left]
      rcases h2 with rfl | h2
      · simp; omega
      · by_cases hm : m = 0
        · subst hm; simp; omega
        · rw [show m = m - 1 + 1 by omega, Nat.pow_succ]; omega
theorem isBits_bitLen (x : Nat) (h : x < 18446744073709551616) : IsBits x (Lib.bitLen x) := isBits_bitLenAux 64 x h

end Go.Proofs.Ytbhahddgajkchaa
/- What the program's own calls on numbers answer: a word's sum and difference; adding into, taking off; Trim, Add, Sub. -/

namespace Go.Proofs.Ytbhahddgajkchaa
open Go.RowKit Num

theorem bit31 (x : Nat) (h : x < 4294967296) : x.testBit 31 = decide (2147483648 ≤ x) := by
  rw [Nat.testBit_eq_decide_div_mod_eq]
  have e : (2 : Nat) ^ 31 = 2147483648 := rfl
  rw [e]
  by_cases h1 : 2147483648 ≤ x
  · rw [decide_eq_true h1, decide_eq_true]; omega
  · rw [decide_eq_false h1, decide_eq_false]; omega
/-- what is borrowed, by bits -/
theorem borrow_bits (x y c d : Nat) (hx : x < 4294967296) (hy : y < 4294967296) (hc : c ≤ 1) (hd : d = (4294967296 + x - y - c) % 4294967296) :
    (((4294967295 ^^^ x) &&& y) ||| ((4294967295 ^^^ (x ^^^ y)) &&& d)) / 2147483648 = 1 - (4294967296 + x - y - c) / 4294967296 := by
  have hd' : d < 4294967296 := by omega
  have hv : (((4294967295 ^^^ x) &&& y) ||| ((4294967295 ^^^ (x ^^^ y)) &&& d)) < 4294967296 := by
    have h1 : ((4294967295 ^^^ x) &&& y) < 2 ^ 32 := Nat.and_lt_two_pow _ (by omega)
    have h2 : ((4294967295 ^^^ (x ^^^ y)) &&& d) < 2 ^ 32 := Nat.and_lt_two_pow _ (by omega)
    have := Nat.or_lt_two_pow h1 h2
    omega
  have hb := bit31 _ hv
  rw [Nat.testBit_or, Nat.testBit_and, Nat.testBit_and, Nat.testBit_xor, Nat.testBit_xor, Nat.testBit_xor, bit31 4294967295 (by omega), bit31 x hx, bit31 y hy, bit31 d hd'] at hb
  generalize (((4294967295 ^^^ x) &&& y) ||| ((4294967295 ^^^ (x ^^^ y)) &&& d)) = v at *
  by_cases h1 : 2147483648 ≤ x <;> by_cases h2 : 2147483648 ≤ y <;> by_cases h3 : 2147483648 ≤ d <;> simp [h1, h2, h3] at hb <;> omega

/-- a block's digits, those from off on laid anew -/
def laid (zs : List Nat) (off : Nat) (cs : List Nat) : List Nat := splice zs off cs
theorem length_splice' {zs cs : List Nat} {off : Nat} (h : off + cs.length ≤ zs.length) : (splice zs off cs).length = zs.length := length_splice zs off cs h
theorem splice_nil {zs : List Nat} {off : Nat} : splice zs off [] = zs := by simp [splice]
theorem get_splice_lt {zs cs : List Nat} {off j : Nat} (h : off + cs.length ≤ zs.length) (hj : j < off) (h' : j < (splice zs off cs).length) : (splice zs off cs)[j] = zs[j]'(by omega) := by
  simp only [splice]
  rw [List.getElem_append_left (by rw [List.length_take]; omega), List.getElem_take]
theorem get_splice_in {zs cs : List Nat} {off j : Nat} (h : off + cs.length ≤ zs.length) (hj : j < cs.length) (h' : off + j < (splice zs off cs).length) : (splice zs off cs)[off + j] = cs[j] := by
  simp only [splice]
  have hl : (zs.take off).length = off := by rw [List.length_take]; omega
  rw [List.getElem_append_right (by omega), List.getElem_append_left (by omega)]
  simp [hl]
theorem get_splice_ge {zs cs : List Nat} {off j : Nat} (h : off + cs.length ≤ zs.length) (hj : off + cs.length ≤ j) (h' : j < (splice zs off cs).length) : (splice zs off cs)[j] = zs[j]'(by rw [length_splice' h] at h'; exact h') := by
  simp only [splice]
  have hl : (zs.take off).length = off := by rw [List.length_take]; omega
  rw [List.getElem_append_right (by omega), List.getElem_append_right (by omega), List.getElem_drop]
  congr 1
  omega
theorem splice_snoc {zs cs : List Nat} {off v : Nat} (h : off + cs.length < zs.length) : (splice zs off cs).set (off + cs.length) v = splice zs off (cs ++ [v]) := by
  have hl : (zs.take off).length = off := by rw [List.length_take]; omega
  simp only [splice]
  rw [List.set_append_right _ _ (by omega), hl, Nat.add_sub_cancel_left, List.set_append_right _ _ (by omega), Nat.sub_self]
  rw [List.drop_eq_getElem_cons h]
  simp [Nat.add_assoc]

theorem splice_snoc0 {zs cs : List Nat} {v : Nat} (h : cs.length < zs.length) : (splice zs 0 cs).set cs.length v = splice zs 0 (cs ++ [v]) := by
  have := splice_snoc (zs := zs) (cs := cs) (off := 0) (v := v) (by omega)
  rwa [Nat.zero_add] at this
theorem splice_rest {zs cs : List Nat} {off n : Nat} (h : off + n ≤ zs.length) (hc : cs.length ≤ n) : splice zs off (cs ++ (zs.drop (off + cs.length)).take (n - cs.length)) = splice zs off cs := by
  simp only [splice]
  congr 1
  rw [List.append_assoc]
  congr 1
  have hl : ((zs.drop (off + cs.length)).take (n - cs.length)).length = n - cs.length := by rw [List.length_take, List.length_drop]; omega
  rw [List.length_append, hl]
  have e : zs.drop (off + (cs.length + (n - cs.length))) = (zs.drop (off + cs.length)).drop (n - cs.length) := by rw [List.drop_drop]; congr 1; omega
  rw [e, List.take_append_drop]
theorem take_drop_succ {zs : List Nat} {off k : Nat} (h : off + k < zs.length) (b : Nat) : val b ((zs.drop off).take (k + 1)) = val b ((zs.drop off).take k) + b ^ k * zs[off + k] := by
  rw [val_take_succ (by rw [List.length_drop]; omega), List.getElem_drop]

end Go.Proofs.Ytbhahddgajkchaa
/- What the program's own takeOff answers. -/

namespace Go.Proofs.Ytbhahddgajkchaa
open Go.RowKit Num

end Go.Proofs.Ytbhahddgajkchaa
/- What the program's own calls on numbers answer: Trim, Add, Sub. -/

namespace Go.Proofs.Ytbhahddgajkchaa
open Go.RowKit Num

theorem size_u32 : (Try.prog.info? 60).map (·.size) = some 1 := by kernel_rfl
theorem make_words (n : Nat) (hn : n ≤ 34359738368) (u : World) : (Instr.makeSlice 46 (.int .i64 (n : Int)) (.int .i64 (n : Int))).run Try.prog u =
    .ok (.slice (some ⟨u.heap.size, 0, none⟩) n n) (u.alloc (.cells (cells .u32 (List.replicate n 0)).toArray 60)) :=
  run_make_digits 46 60 .u32 4 Try.underlying46 info_u32 (by omega) n hn u
theorem make_words1 (n : Nat) (hn : n + 1 ≤ 34359738368) (u : World) : (Instr.makeSlice 46 (.int .i64 ((n : Int) + 1)) (.int .i64 ((n : Int) + 1))).run Try.prog u =
    .ok (.slice (some ⟨u.heap.size, 0, none⟩) (n + 1) (n + 1)) (u.alloc (.cells (cells .u32 (List.replicate (n + 1) 0)).toArray 60)) := make_words (n + 1) hn u
theorem splice_full {zs cs : List Nat} (h : cs.length = zs.length) : splice zs 0 cs = cs := by simp [splice, h]
theorem splice_zero {zs cs : List Nat} : splice zs 0 cs = cs ++ zs.drop cs.length := by simp [splice]
theorem below_alloc_grown {B : Nat} {w w' : World} {o : Obj} {g : Nat} (hB : B ≤ w.heap.size) (h : (w.alloc o).grownBy w' (some g)) (hg : B ≤ g) : Below B w w' :=
  ((Below.refl B w).alloc hB o).grown h (by simp; omega) (fun k e => by injection e with e; omega)

end Go.Proofs.Ytbhahddgajkchaa
/- What the program's own Sub answers. -/

namespace Go.Proofs.Ytbhahddgajkchaa
open Go.RowKit Num

end Go.Proofs.Ytbhahddgajkchaa
/- What the program's own calls on numbers answer: addTimes, Mul, Uint. -/

namespace Go.Proofs.Ytbhahddgajkchaa
open Go.RowKit Num

theorem mul_splice {cs ds zs : List Nat} {k : Nat} (h : cs.length = k + ds.length) : splice (cs ++ zs) k ds = (cs.take k ++ ds) ++ zs := by
  simp only [splice]
  rw [List.take_append_of_le_length (by omega), List.drop_append, List.drop_of_length_le (by omega), show k + ds.length - cs.length = 0 by omega]
  simp
theorem set_next {P Z : List Nat} {m v : Nat} (h : P.length = m) : (P ++ (0 :: Z)).set m v = (P ++ [v]) ++ Z := by
  rw [List.set_append_right _ _ (by omega), h, Nat.sub_self]; simp

end Go.Proofs.Ytbhahddgajkchaa
