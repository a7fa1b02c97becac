/- What the program's own calls answer: Uint; Text of a number of 64 bits; lives. -/
import Derived.Test.YtngnclibeccplaaDoorZOaB
import Derived.Test.YtngnclibeccplaaDoorZRefX
import Derived.Test.YtngnclibeccplaaDoorZBase
import Derived.Lib.Hide
import Derived.WalkLawsBesides
import Derived.Lib.ItoaMem
import Derived.Lib.AppendIntMem
import Derived.Deep.RegionWith
import Derived.BigQuiet
import Derived.Deep.CutRange
import Derived.Deep.RegionHeld3
import Derived.WalkMore
import Derived.ScopeJumps
namespace Go.Proofs.YtngnclibeccplaaDoor
open Go.RowKit Num

theorem or_words (p q : Nat) (hp : p < 4294967296) (hq : q < 4294967296) : bits .or .u64 ((q * 4294967296 : Nat) : Int) (p : Int) = ((p + 4294967296 * q : Nat) : Int) := by
  rw [u64_or_nat _ _ (by omega) (by omega)]
  have h := Nat.shiftLeft_add_eq_or_of_lt (a := q) (b := p) (i := 32) (by omega)
  rw [Nat.shiftLeft_eq] at h
  rw [show q * 4294967296 = q * 2 ^ 32 from rfl, ← h]
  congr 1
  omega
theorem row_u32 {w : World} {g : Nat} {vs : Array Value} (xs : List Nat) (h : w.heap[g]? = some (.cells vs 103 (0, 0))) (e : vs = (cells .u32 xs).toArray) : Row w g 103 .u32 xs := by
  unfold Row; rw [h, e]

end Go.Proofs.YtngnclibeccplaaDoor
/- What the library answers for a number's decimal digits: strconv.FormatUint, strconv.AppendUint at base 10. -/

namespace Go.Proofs.YtngnclibeccplaaDoor
open Go.RowKit Num

/-- the table of powers of 10, as the program's text lays it -/
def Tab (w : World) : Prop := Lib.TabIs Tryd.prog w "internal/strconv.uint64pow10" .u64 Lib.pow10Tab

/-- the table stays as it is laid -/
theorem Tab.on {w w' : World} (h : Tab w) (hb : Below w.heap.size w w') : Tab w' := Lib.tabBelow_of_tabIs h w' hb
end Go.Proofs.YtngnclibeccplaaDoor
/- What the program's own Text answers for a number of 64 bits. -/

namespace Go.Proofs.YtngnclibeccplaaDoor
open Go.RowKit Num

end Go.Proofs.YtngnclibeccplaaDoor
/- What the program's own calls on numbers answer: Of, moveUp, moveDown, shiftUp, shiftDown, Shift. -/

namespace Go.Proofs.YtngnclibeccplaaDoor
open Go.RowKit Num

set_option maxHeartbeats 400000 in
/-- a number of 64 bits -/
theorem nat_Of (v : Nat) (hv : v < 18446744073709551616) (w : World) :
    Calls Tryd.prog 70 #[.int .u64 v] w (Gives .u32 4294967296 v w) := by
  by_cases h0 : v = 0
  · subst h0
    go_enter Tryd.func70, Tryd.ntmps70
    go_wp2
    go_ret
    exact ⟨none, [], 0, rfl, by simp, norm_nil _, rfl, Rd.nil, Below.refl _ _⟩
  · have hbits := isBits_bitLen v hv
    have cl := Tryd.bits_Len64 (v : Int) w (by omega) (by omega)
    rw [Int.toNat_natCast] at cl
    obtain ⟨z, hz⟩ : ∃ z, Lib.bitLen v = z := ⟨_, rfl⟩
    rw [hz] at cl hbits
    have hvp : 1 ≤ v := by omega
    have hz64 : z ≤ 64 := by
      rcases hbits.2 with h1 | h1
      · omega
      · have h2 := Nat.lt_of_le_of_lt h1 (show v < 2 ^ 64 by omega)
        have := (Nat.pow_lt_pow_iff_right (show 1 < 2 by omega)).1 h2
        omega
    by_cases h32 : v < 4294967296
    · have hz1 : 1 ≤ z ∧ z ≤ 32 := by
        refine ⟨?_, ?_⟩
        · rcases Nat.eq_zero_or_pos z with h | h
          · subst h; have := hbits.1; simp at this; omega
          · exact h
        · rcases hbits.2 with h1 | h1
          · omega
          · have h2 := Nat.lt_of_le_of_lt h1 (show v < 2 ^ 32 by omega)
            have := (Nat.pow_lt_pow_iff_right (show 1 < 2 by omega)).1 h2
            omega
      have e : ((z : Int) + 32 - 1) / 32 = ((1 : Nat) : Int) := by omega
      have hmk : ∀ u : World, (Instr.makeSlice 70 (.int .i64 (((z : Int) + 32 - 1) / 32)) (.int .i64 (((z : Int) + 32 - 1) / 32))).run Tryd.prog u =
        .ok (.slice (some ⟨u.heap.size, 0, none⟩) 1 1) (u.alloc (.cells #[.int .u32 0] 103)) := fun u => by rw [e]; exact make_words 1 (by omega) u
      clear hz hbits e
      go_enter Tryd.func70, Tryd.ntmps70
      go_wp2_with (go_at_call 63; refine cl.mono ?_; rintro e w' ⟨rfl, rfl⟩)
      go_ret
      exact ⟨_, [v], 1, rfl, by simp, ⟨by simpa [Dg] using h32, by simpa [Top] using h0⟩, by simp [val], (Row.new _ 103 .u32 [v]).rd_all (Row.new _ 103 .u32 [v]).lt, (Below.refl _ _).alloc (Nat.le_refl _) _⟩
    · have hz1 : 33 ≤ z := by
        rcases Nat.lt_or_ge z 33 with h | h
        · have h1 : (2 : Nat) ^ z ≤ 2 ^ 32 := Nat.pow_le_pow_right (by omega) (by omega)
          have := hbits.1
          omega
        · exact h
      have e : ((z : Int) + 32 - 1) / 32 = ((2 : Nat) : Int) := by omega
      have hmk : ∀ u : World, (Instr.makeSlice 70 (.int .i64 (((z : Int) + 32 - 1) / 32)) (.int .i64 (((z : Int) + 32 - 1) / 32))).run Tryd.prog u =
        .ok (.slice (some ⟨u.heap.size, 0, none⟩) 2 2) (u.alloc (.cells #[.int .u32 0, .int .u32 0] 103)) := fun u => by rw [e]; exact make_words 2 (by omega) u
      clear hz hbits e
      go_enter Tryd.func70, Tryd.ntmps70
      go_wp2_with (go_at_call 63; refine cl.mono ?_; rintro e w' ⟨rfl, rfl⟩)
      go_ret
      have ho : Row (w'.alloc (Obj.cells #[Value.int IntKind.u32 ((v : Int) % 4294967296), Value.int IntKind.u32 ((v : Int) / 4294967296)] 103)) w'.heap.size 103 .u32 [v % 4294967296, v / 4294967296] := Row.new w' 103 .u32 [v % 4294967296, v / 4294967296]
      exact ⟨_, [v % 4294967296, v / 4294967296], 2, rfl, by simp, ⟨by simp [Dg]; omega, by simp [Top]; omega⟩, by simp [val]; omega, ho.rd_all ho.lt, (Below.refl _ _).alloc (Nat.le_refl _) _⟩

theorem splice_zeros {k m : Nat} {a : List Nat} (h : a.length = m) : splice (List.replicate (k + m + 1) 0) k a = List.replicate k 0 ++ (a ++ [0]) := by
  simp only [splice, h]
  rw [List.take_replicate, List.drop_replicate, Nat.min_eq_left (by omega), show k + m + 1 - (k + m) = 1 by omega]
  rfl
theorem splice_behind {Z Y cs : List Nat} {k : Nat} (hk : Z.length = k) (h : cs.length = Y.length) : splice (Z ++ Y) k cs = Z ++ cs := by
  simp only [splice]
  rw [List.take_left' hk, List.drop_of_length_le (by rw [List.length_append]; omega), List.append_nil]
theorem over_zero {q V X c : Nat} (hX : X < q) (h : V + q * c = X) : c = 0 := by
  rcases Nat.eq_zero_or_pos c with h0 | h0
  · exact h0
  · have h1 : q * 1 ≤ q * c := Nat.mul_le_mul_left _ h0
    omega

end Go.Proofs.YtngnclibeccplaaDoor
/- What the program's Shift answers. -/

namespace Go.Proofs.YtngnclibeccplaaDoor
open Go.RowKit Num

/-- a number times a power of 2 -/
theorem up_value {n words s N V : Nat} (h : n = 32 * words + s) (hV : V = 4294967296 ^ words * (N * 2 ^ s)) : V = N * 2 ^ n := by
  rw [hV, h, Nat.pow_add, Nat.pow_mul]
  grind

/-- a number times a power of 2, or by one; of others 0 -/
def shiftVal (N : Nat) (n : Int) : Nat := if n < -4096 ∨ 4096 < n then 0 else if n < 0 then N / 2 ^ (-n).toNat else N * 2 ^ n.toNat
end Go.Proofs.YtngnclibeccplaaDoor
/- Plain facts about long division: what the highest words say about how often one number is in another one. -/

namespace Go.Proofs.YtngnclibeccplaaDoor.Num

theorem guess_first {P D0 V0 d2 l2 top head Q B : Nat} (hV0 : V0 < P) (hl2 : l2 < B) (htop : 0 < top) (h : Q * (D0 + P * (d2 + B * top)) ≤ V0 + P * (l2 + B * head)) : Q ≤ head / top := by
  rw [Nat.le_div_iff_mul_le htop]
  rcases Nat.lt_or_ge head (Q * top) with hlt | hge
  · exfalso
    have h1 : P * (B * (head + 1)) ≤ P * (B * (Q * top)) := Nat.mul_le_mul_left _ (Nat.mul_le_mul_left _ hlt)
    have h2 : P * (l2 + 1) ≤ P * B := Nat.mul_le_mul_left _ hl2
    have e1 : Q * (D0 + P * (d2 + B * top)) = Q * D0 + P * (Q * d2) + P * (B * (Q * top)) := by grind
    have e2 : P * (l2 + B * head) = P * l2 + P * (B * head) := by grind
    have e3 : P * (B * (head + 1)) = P * (B * head) + P * B := by grind
    have e4 : P * (l2 + 1) = P * l2 + P := by grind
    omega
  · exact hge

theorem guess_over {q P D0 V0 d2 l2 top head rest B : Nat} (hV0 : V0 < P) (hh : q * top + rest = head) (h : rest * B + l2 < q * d2) : V0 + P * (l2 + B * head) < q * (D0 + P * (d2 + B * top)) := by
  have h1 : P * (l2 + B * head + 1) ≤ P * (q * d2 + B * (q * top)) := Nat.mul_le_mul_left _ (by
    rw [← hh]
    have e : B * (q * top + rest) = B * (q * top) + rest * B := by grind
    omega)
  have e1 : q * (D0 + P * (d2 + B * top)) = q * D0 + P * (q * d2 + B * (q * top)) := by grind
  have e2 : P * (l2 + B * head + 1) = P * (l2 + B * head) + P := by grind
  omega

theorem guess_fits {q d2 l2 top head rest B : Nat} (hh : q * top + rest = head) (h : q * d2 ≤ rest * B + l2) : q * (d2 + B * top) ≤ l2 + B * head := by
  rw [← hh]
  have e : B * (q * top + rest) = B * (q * top) + rest * B := by grind
  have e1 : q * (d2 + B * top) = q * d2 + B * (q * top) := by grind
  omega
theorem guess_break {q d2 l2 top head rest B : Nat} (hh : q * top + rest = head) (hr : B ≤ rest) (hq : q < B) (hd : d2 < B) : q * (d2 + B * top) ≤ l2 + B * head := by
  refine guess_fits hh ?_
  have h1 : q * d2 ≤ B * B := Nat.mul_le_mul (by omega) (by omega)
  have h2 : B * B ≤ rest * B := Nat.mul_le_mul_right _ hr
  omega
theorem guess_close {q P D0 V0 d2 l2 top head B : Nat} (hq : q ≤ B) (hD0 : D0 < P) (htop : 0 < top) (h : q * (d2 + B * top) ≤ l2 + B * head) : (q - 1) * (D0 + P * (d2 + B * top)) ≤ V0 + P * (l2 + B * head) := by
  match q with
  | 0 => simp
  | m + 1 =>
    rw [Nat.add_sub_cancel]
    have h1 : m * D0 ≤ B * P := Nat.mul_le_mul (by omega) (by omega)
    have h2 : P * (B * 1) ≤ P * (d2 + B * top) := Nat.mul_le_mul_left _ (Nat.le_trans (Nat.mul_le_mul_left _ htop) (Nat.le_add_left _ _))
    have h3 : P * ((m + 1) * (d2 + B * top)) ≤ P * (l2 + B * head) := Nat.mul_le_mul_left _ h
    have e1 : m * (D0 + P * (d2 + B * top)) = m * D0 + P * (m * (d2 + B * top)) := by grind
    have e2 : P * ((m + 1) * (d2 + B * top)) = P * (m * (d2 + B * top)) + P * (d2 + B * top) := by grind
    have e3 : P * (B * 1) = B * P := by grind
    omega
/-- the highest word of what is divided isn't above the divisor's -/
theorem guess_top {P D0 V0 d2 l0 l1 l2 top B : Nat} (hD0 : D0 < P) (hd2 : d2 < B) (h : V0 + P * (l2 + B * (l1 + B * l0)) < B * (D0 + P * (d2 + B * top))) : l0 ≤ top := by
  rcases Nat.lt_or_ge top l0 with hlt | hge
  · exfalso
    have h1 : P * (B * (B * (top + 1))) ≤ P * (B * (B * l0)) := Nat.mul_le_mul_left _ (Nat.mul_le_mul_left _ (Nat.mul_le_mul_left _ hlt))
    have e1 : P * (l2 + B * (l1 + B * l0)) = P * l2 + P * (B * l1) + P * (B * (B * l0)) := by grind
    have e2 : B * (D0 + P * (d2 + B * top)) = B * (D0 + P * d2) + P * (B * (B * top)) := by grind
    have h3 : P * (d2 + 1) ≤ P * B := Nat.mul_le_mul_left _ hd2
    have e3 : P * (d2 + 1) = P * d2 + P := by grind
    have h2 : B * (D0 + P * d2) ≤ B * (P * B) := Nat.mul_le_mul_left _ (by omega)
    have e4 : P * (B * (B * (top + 1))) = P * (B * (B * top)) + B * (P * B) := by grind
    omega
  · exact hge
theorem guess_word {q top rest head l0 l1 B : Nat} (hh : q * top + rest = head) (hr : B ≤ rest) (hl0 : l0 ≤ top) (hl1 : l1 < B) (e : head = l1 + B * l0) : q < B := by
  rcases Nat.lt_or_ge q B with hlt | hge
  · exact hlt
  · have h1 : B * l0 ≤ q * top := Nat.mul_le_mul hge hl0
    omega
theorem guess_next {q top rest head : Nat} (hh : q * top + rest = head) (hq : 1 ≤ q) : (q - 1) * top + (rest + top) = head := by
  rw [← hh]
  match q with
  | m + 1 => rw [Nat.add_sub_cancel]; grind
theorem quot_le {Q q D V : Nat} (hQ : Q = V / D) (h : V < q * D) : Q ≤ q - 1 := by
  have h1 : Q < q := by rw [hQ]; exact Nat.div_lt_of_lt_mul (by rw [Nat.mul_comm]; exact h)
  omega
theorem quot_ge {q D V : Nat} (hD : 0 < D) (h : (q - 1) * D ≤ V) : q ≤ V / D + 1 := by
  have := (Nat.le_div_iff_mul_le hD).2 h
  omega
theorem val_three {b k : Nat} {x : List Nat} (h : x.length = k + 3) : val b x = val b (x.take k) + b ^ k * (x[k] + b * (x[k + 1] + b * x[k + 2])) := by
  have h1 := val_take_succ (b := b) (xs := x) (k := k) (by omega)
  have h2 := val_take_succ (b := b) (xs := x) (k := k + 1) (by omega)
  have h3 := val_take_succ (b := b) (xs := x) (k := k + 2) (by omega)
  rw [List.take_of_length_le (by omega)] at h3
  rw [h3, h2, h1, Nat.pow_succ, Nat.pow_succ]
  grind
theorem val_two {b k : Nat} {x : List Nat} (h : x.length = k + 2) : val b x = val b (x.take k) + b ^ k * (x[k] + b * x[k + 1]) := by
  have h1 := val_take_succ (b := b) (xs := x) (k := k) (by omega)
  have h2 := val_take_succ (b := b) (xs := x) (k := k + 1) (by omega)
  rw [List.take_of_length_le (by omega)] at h2
  rw [h2, h1, Nat.pow_succ]
  grind
/-- taking q times d off, word by word -/
theorem times_step {b X Y c x y q v k : Nat} {ys : List Nat} (hk : ys.length = k) (h : val b ys + Y * q = X + b ^ k * c) (hb : 0 < b) (hv : v = c + y * q) (hw : x < b) :
    val b (ys ++ [(b + x - v % b) % b]) + (Y + b ^ k * y) * q = X + b ^ k * x + b ^ (k + 1) * (v / b + (1 - (b + x - v % b) / b)) := by
  rw [val_snoc, hk]
  have h1 : (b + x - v % b) % b + v = x + b * (v / b + (1 - (b + x - v % b) / b)) := by
    have hm := Nat.mod_lt v hb
    have hd := Nat.div_add_mod v b
    rcases Nat.lt_or_ge x (v % b) with hlt | hge
    · have e1 : (b + x - v % b) / b = 0 := Nat.div_eq_of_lt (by omega)
      rw [e1, Nat.mod_eq_of_lt (by omega), Nat.mul_add, Nat.sub_zero, Nat.mul_one]
      omega
    · have e0 : b + x - v % b = (x - v % b) + b := by omega
      have e1 : (b + x - v % b) / b = 1 := by rw [e0, Nat.add_div_right _ hb, Nat.div_eq_of_lt (by omega)]
      have e2 : (b + x - v % b) % b = x - v % b := by rw [e0, Nat.add_mod_right, Nat.mod_eq_of_lt (by omega)]
      rw [e1, e2, Nat.sub_self, Nat.add_zero]
      omega
  have h2 : b ^ k * ((b + x - v % b) % b) + b ^ k * v = b ^ k * x + b ^ (k + 1) * (v / b + (1 - (b + x - v % b) / b)) := by
    rw [← Nat.mul_add, h1, Nat.mul_add, Nat.pow_succ, Nat.mul_assoc]
  have e3 : (Y + b ^ k * y) * q = Y * q + b ^ k * (y * q) := by grind
  have e4 : b ^ k * v = b ^ k * c + b ^ k * (y * q) := by rw [hv, Nat.mul_add]
  rw [e3]
  omega
/-- what is carried stays a word -/
theorem times_carry {c x y q : Nat} (hc : c < 4294967296) (hy : y < 4294967296) (hq : q < 4294967296) :
    (c + y * q) / 4294967296 + (1 - (4294967296 + x - (c + y * q) % 4294967296) / 4294967296) < 4294967296 := by
  have h1 : y * q ≤ 4294967295 * 4294967295 := Nat.mul_le_mul (by omega) (by omega)
  generalize y * q = z at h1
  omega
/-- the words that are left, and how often -/
theorem take_fine {V D q E : Nat} (h : E + D * q = V) (h1 : V / D ≤ q) (hD : 0 < D) : q = V / D ∧ E = V % D := by
  have h2 : q ≤ V / D := by
    rw [Nat.le_div_iff_mul_le hD, Nat.mul_comm]; omega
  have e : q = V / D := by omega
  refine ⟨e, ?_⟩
  have := Nat.div_add_mod V D
  rw [← e] at this
  omega
/-- too much was taken, and is given back once -/
theorem take_back {E C V D q P cc : Nat} (hE : E < P) (hD : D ≤ P) (hC : C < P) (h1 : C + D * q = V + P) (h2 : E + P * cc = C + D) (h3 : (q - 1) * D ≤ V) : 1 ≤ q ∧ V < q * D ∧ E + D * (q - 1) = V := by
  match q with
  | 0 => rw [Nat.mul_zero] at h1; omega
  | m + 1 =>
    rw [Nat.add_sub_cancel] at h3 ⊢
    have e1 : D * (m + 1) = D * m + D := Nat.mul_succ D m
    have e2 : (m + 1) * D = D * m + D := by rw [Nat.mul_comm]; exact e1
    rw [Nat.mul_comm] at h3
    refine ⟨by omega, by omega, ?_⟩
    rcases (show cc = 0 ∨ cc = 1 ∨ 2 ≤ cc by omega) with h | h | h
    · subst h; rw [Nat.mul_zero] at h2; omega
    · subst h; rw [Nat.mul_one] at h2; omega
    · have : P * 2 ≤ P * cc := Nat.mul_le_mul_left _ h
      omega
theorem seg_splice {zs cs : List Nat} {off n : Nat} (hc : cs.length = n) (ho : off ≤ zs.length) : ((splice zs off cs).drop off).take n = cs := by
  simp only [splice]
  rw [List.drop_left' (by rw [List.length_take]; omega), List.take_left' hc]
theorem splice_again {zs cs es : List Nat} {off : Nat} (h : es.length = cs.length) (ho : off ≤ zs.length) : splice (splice zs off cs) off es = splice zs off es := by
  simp only [splice]
  rw [List.take_left' (by rw [List.length_take]; omega), h, ← List.drop_drop, List.drop_left' (by rw [List.length_take]; omega), List.drop_left' rfl]
end Go.Proofs.YtngnclibeccplaaDoor.Num
/- What the program's own long division answers: divWord, guess. -/

namespace Go.Proofs.YtngnclibeccplaaDoor
open Go.RowKit Num

theorem div_word_step {V p d q r : Nat} (hd : 0 < d) (hr : V % d = r) (hq : V / d = q) : (p + 4294967296 * V) / d = (p + 4294967296 * r) / d + 4294967296 * q ∧ (p + 4294967296 * V) % d = (p + 4294967296 * r) % d := by
  have h := Nat.div_add_mod V d
  rw [hr, hq] at h
  have e : p + 4294967296 * V = (p + 4294967296 * r) + d * (4294967296 * q) := by rw [← h]; grind
  rw [e, Nat.add_mul_div_left _ _ hd, Nat.add_mul_mod_self_left]
  exact ⟨rfl, rfl⟩

theorem u64_quo (N D : Nat) (hN : N < 18446744073709551616) : IntKind.u64.wrap ((N : Int) / (D : Int)) = ((N / D : Nat) : Int) := by
  have h2 : N / D < 18446744073709551616 := Nat.lt_of_le_of_lt (Nat.div_le_self _ _) hN
  rw [← Int.natCast_ediv]
  generalize N / D = q at h2
  exact IntWalk.u64_in _ (by omega)

end Go.Proofs.YtngnclibeccplaaDoor
/- What the program's own long division answers: takeTimes, takeAll. -/

namespace Go.Proofs.YtngnclibeccplaaDoor
open Go.RowKit Num

theorem dg_splice {b off : Nat} {zs cs : List Nat} (hz : Dg b zs) (hc : Dg b cs) : Dg b (splice zs off cs) := by
  simp only [splice]
  exact Dg.append.2 ⟨hz.take, Dg.append.2 ⟨hc, hz.drop⟩⟩

end Go.Proofs.YtngnclibeccplaaDoor
/- What the program's own long division answers: divWords. -/

namespace Go.Proofs.YtngnclibeccplaaDoor
open Go.RowKit Num

/-- moving up by as many bits as are free at the top loses none -/
theorem lead_zeros {x : Nat} (h0 : 0 < x) (hx : x < 4294967296) : ∃ s : Nat, s < 32 ∧ (32 - (Lib.bitLen x : Int)) = (s : Int) ∧ (x + 1) * 2 ^ s ≤ 4294967296 := by
  have hb := isBits_bitLen x (by omega)
  obtain ⟨z, hz⟩ : ∃ z, Lib.bitLen x = z := ⟨_, rfl⟩
  rw [hz] at hb ⊢
  have hz1 : 1 ≤ z := by
    rcases Nat.eq_zero_or_pos z with h | h
    · subst h; have := hb.1; simp at this; omega
    · exact h
  have hz32 : z ≤ 32 := by
    rcases hb.2 with h1 | h1
    · omega
    · have h2 := Nat.lt_of_le_of_lt h1 (show x < 2 ^ 32 by omega)
      have := (Nat.pow_lt_pow_iff_right (show 1 < 2 by omega)).1 h2
      omega
  refine ⟨32 - z, by omega, by omega, ?_⟩
  have h1 : (x + 1) * 2 ^ (32 - z) ≤ 2 ^ z * 2 ^ (32 - z) := Nat.mul_le_mul_right _ hb.1
  rw [← Nat.pow_add, show z + (32 - z) = 32 by omega] at h1
  exact h1
theorem val_le_top {k : Nat} {b : List Nat} (hb : Dg 4294967296 b) (hl : b.length = k + 2) : 4294967296 ^ (k + 1) * b[k + 1] ≤ val 4294967296 b ∧ val 4294967296 b < 4294967296 ^ (k + 1) * (b[k + 1] + 1) := by
  have h1 := val_take_succ (b := 4294967296) (xs := b) (k := k + 1) (by omega)
  rw [List.take_of_length_le (by omega)] at h1
  have h2 := val_lt (b := 4294967296) (xs := b.take (k + 1)) hb.take
  rw [List.length_take, Nat.min_eq_left (by omega)] at h2
  rw [h1, Nat.mul_add, Nat.mul_one]
  omega

/-- a number below b^n has nothing behind its n lowest words -/
theorem low_words {B D n p : Nat} {rs : List Nat} (h : Dg B (p :: rs)) (hr : val B rs < D) (hD : D * B ≤ B ^ n) : val B ((p :: rs).take n) = p + B * val B rs ∧ val B ((p :: rs).drop n) = 0 := by
  have hp := (Dg.cons.1 h).1
  have e0 : val B (p :: rs) = p + B * val B rs := rfl
  have h2 : p + B * val B rs < B ^ n := by
    have : B * (val B rs + 1) ≤ B * D := Nat.mul_le_mul_left _ hr
    rw [Nat.mul_add, Nat.mul_one, Nat.mul_comm B D] at this
    omega
  rcases Nat.le_total n (p :: rs).length with hn | hn
  · have h1 := val_split (b := B) (k := n) (xs := p :: rs) hn
    have h3 : val B ((p :: rs).drop n) = 0 := by
      rcases Nat.eq_zero_or_pos (val B ((p :: rs).drop n)) with h0 | h0
      · exact h0
      · have : B ^ n * 1 ≤ B ^ n * val B ((p :: rs).drop n) := Nat.mul_le_mul_left _ h0
        omega
    rw [h3, Nat.mul_zero, Nat.add_zero] at h1
    exact ⟨by rw [← h1]; rfl, h3⟩
  · rw [List.take_of_length_le hn, List.drop_of_length_le hn]
    exact ⟨rfl, rfl⟩
theorem set_zero {i v : Nat} {qs : List Nat} : (List.replicate (i + 1) 0 ++ qs).set i v = List.replicate i 0 ++ (v :: qs) := by
  rw [List.replicate_succ', List.append_assoc, List.set_append_right _ _ (by simp)]
  simp
theorem splice_tail {Z Y cs : List Nat} {i : Nat} (h : Z.length = i) : splice (Z ++ Y) i cs = Z ++ (cs ++ Y.drop cs.length) := by
  simp only [splice]
  rw [List.take_left' h, ← List.drop_drop, List.drop_left' h]
theorem low_lt {B p V D : Nat} (hp : p < B) (h : V < D) : p + B * V < B * D := by
  have : B * (V + 1) ≤ B * D := Nat.mul_le_mul_left _ h
  rw [Nat.mul_add, Nat.mul_one] at this
  omega

end Go.Proofs.YtngnclibeccplaaDoor
/- What the program's own Div answers. -/

namespace Go.Proofs.YtngnclibeccplaaDoor
open Go.RowKit Num

theorem nat_Trim_g (d : List Nat) (A : Option Addr) (c : Nat) (S : Nat → Prop) (w : World) (h : Rd w S .u32 A d) (hS : ∀ b, S b → b < w.heap.size) (hl : d.length ≤ 2147483648) (hc : d.length ≤ c) (hd : Dg 4294967296 d) :
    Calls Tryd.prog 76 #[.slice A d.length c] w (Gives .u32 4294967296 (val 4294967296 d) w) := by
  refine (nat_Trim d A c S w h hS hl hc hd).mono ?_
  rintro e w' ⟨ys, hn, hv, -, hb, ⟨rfl, rfl⟩ | ⟨-, g, rfl, -, hr⟩⟩
  · exact ⟨none, [], 0, rfl, by simp, hn, hv, Rd.nil, hb⟩
  · exact ⟨_, ys, _, rfl, Nat.le_refl _, hn, hv, hr.rd_all hr.lt, hb⟩

end Go.Proofs.YtngnclibeccplaaDoor
/- Plain mathematics of common factors and square roots: what one step of each leaves. No program is named here. -/

namespace Go.Proofs.YtngnclibeccplaaDoor.Num

/-- r is the greatest number whose square isn't above N -/
def IsRoot (N r : Nat) : Prop := r * r ≤ N ∧ N < (r + 1) * (r + 1)
theorem sq_le {x y : Nat} (h : x * x ≤ y * y) : x ≤ y := by
  rcases Nat.lt_or_ge y x with hlt | hge
  · have := Nat.mul_lt_mul'' hlt hlt; omega
  · exact hge
theorem sq_lt {x y : Nat} (h : x * x < y * y) : x < y := by
  rcases Nat.lt_or_ge x y with hlt | hge
  · exact hlt
  · have := Nat.mul_le_mul hge hge; omega
theorem IsRoot.unique {N r s : Nat} (h : IsRoot N r) (k : IsRoot N s) : r = s := by
  have h1 := sq_lt (Nat.lt_of_le_of_lt h.1 k.2)
  have h2 := sq_lt (Nat.lt_of_le_of_lt k.1 h.2)
  omega
theorem IsRoot.le {N r m : Nat} (h : IsRoot N r) (k : m * m ≤ N) : m ≤ r := by
  have := sq_lt (Nat.lt_of_le_of_lt k h.2); omega
theorem IsRoot.sq {N r : Nat} (h : IsRoot N r) : r * r = N ↔ ∃ m, m * m = N := by
  constructor
  · intro e; exact ⟨r, e⟩
  · rintro ⟨m, e⟩
    have h1 := h.le (Nat.le_of_eq e)
    have h2 := Nat.mul_le_mul h1 h1
    have := h.1
    omega
theorem IsRoot.self (m : Nat) : IsRoot (m * m) m := ⟨Nat.le_refl _, by rw [Nat.add_mul, Nat.mul_add]; omega⟩
theorem IsRoot.zero : IsRoot 0 0 := ⟨by omega, by omega⟩
theorem IsRoot.zero_iff {N r : Nat} (h : IsRoot N r) : r = 0 ↔ N = 0 := by
  constructor
  · rintro rfl; have := h.2; omega
  · rintro rfl; have h1 := h.1; 
    rcases Nat.eq_zero_or_pos r with h2 | h2
    · exact h2
    · have := Nat.mul_le_mul h2 h2; omega

/-- a step from above stays above -/
theorem newton_above {N m r : Nat} (hm : m * m ≤ N) (hr : 0 < r) : m ≤ (r + N / r) / 2 := by
  have h1 : 2 * m ≤ r + N / r := by
    rcases Nat.lt_or_ge (2 * m) r with hlt | hge
    · exact Nat.le_trans (Nat.le_of_lt hlt) (Nat.le_add_right _ _)
    · have h2 : (2 * m - r) * r ≤ N := by
        refine Nat.le_trans ?_ hm
        obtain ⟨d, rfl⟩ | ⟨d, rfl⟩ : (∃ d, r = m + d) ∨ (∃ d, m = r + d) := by
          rcases Nat.le_total m r with h | h
          · exact .inl ⟨r - m, by omega⟩
          · exact .inr ⟨m - r, by omega⟩
        · obtain ⟨e, rfl⟩ : ∃ e, m = d + e := ⟨m - d, by omega⟩
          rw [show 2 * (d + e) - (d + e + d) = e by omega]
          simp only [Nat.add_mul, Nat.mul_add, Nat.mul_comm e d]
          omega
        · rw [show 2 * (r + d) - r = r + 2 * d by omega]
          simp only [Nat.add_mul, Nat.mul_add, Nat.mul_comm d r, Nat.mul_assoc]
          omega
      have h3 := (Nat.le_div_iff_mul_le hr).2 h2
      omega
  omega
/-- where a step goes no further down, the root is found -/
theorem newton_end {N r : Nat} (ha : N < (r + 1) * (r + 1)) (hr : 0 < r) (h : r ≤ (r + N / r) / 2) : IsRoot N r := by
  have h1 : r ≤ N / r := by omega
  exact ⟨(Nat.le_div_iff_mul_le hr).1 h1, ha⟩
/-- what lies above the root, by its square -/
theorem above_iff {N r : Nat} : N < (r + 1) * (r + 1) ↔ ∀ m, m * m ≤ N → m ≤ r := by
  constructor
  · intro h m hm
    have := sq_lt (Nat.lt_of_le_of_lt hm h); omega
  · intro h
    rcases Nat.lt_or_ge N ((r + 1) * (r + 1)) with hlt | hge
    · exact hlt
    · have := h _ hge; omega
theorem newton_next {N r : Nat} (hr : 0 < r) : N < ((r + N / r) / 2 + 1) * ((r + N / r) / 2 + 1) :=
  above_iff.2 fun _ hm => newton_above hm hr
/-- the root of the higher bits, and one, moved back up, lies above the root -/
theorem root_up {N s k : Nat} (h : IsRoot (N / (2 ^ k * 2 ^ k)) s) : N < ((s + 1) * 2 ^ k) * ((s + 1) * 2 ^ k) := by
  have hp : 0 < 2 ^ k * 2 ^ k := Nat.mul_pos (Nat.two_pow_pos _) (Nat.two_pow_pos _)
  have h1 := (Nat.div_lt_iff_lt_mul hp).1 h.2
  calc N < (s + 1) * (s + 1) * (2 ^ k * 2 ^ k) := h1
    _ = _ := by ac_rfl

/-- TWO NUMBERS THAT TWO OTHERS ARE MADE OF BOTH WAYS have the same common factors. -/
theorem gcd_of_both {a b x y p q r s p' q' r' s' : Nat} (ha : a = p * x + q * y) (hb : b = r * x + s * y) (hx : x + q' * b = p' * a ∨ x + p' * a = q' * b) (hy : y + s' * a = r' * b ∨ y + r' * b = s' * a) : Nat.gcd x y = Nat.gcd a b := by
  refine Nat.dvd_antisymm (Nat.dvd_gcd ?_ ?_) (Nat.dvd_gcd ?_ ?_)
  · rw [ha]; exact Nat.dvd_add (Nat.dvd_mul_left_of_dvd (Nat.gcd_dvd_left _ _) _) (Nat.dvd_mul_left_of_dvd (Nat.gcd_dvd_right _ _) _)
  · rw [hb]; exact Nat.dvd_add (Nat.dvd_mul_left_of_dvd (Nat.gcd_dvd_left _ _) _) (Nat.dvd_mul_left_of_dvd (Nat.gcd_dvd_right _ _) _)
  · have da := Nat.gcd_dvd_left a b
    have db := Nat.gcd_dvd_right a b
    rcases hx with h | h
    · exact (Nat.dvd_add_left (Nat.dvd_mul_left_of_dvd db _)).1 (h ▸ Nat.dvd_mul_left_of_dvd da _)
    · exact (Nat.dvd_add_left (Nat.dvd_mul_left_of_dvd da _)).1 (h ▸ Nat.dvd_mul_left_of_dvd db _)
  · have da := Nat.gcd_dvd_left a b
    have db := Nat.gcd_dvd_right a b
    rcases hy with h | h
    · exact (Nat.dvd_add_left (Nat.dvd_mul_left_of_dvd da _)).1 (h ▸ Nat.dvd_mul_left_of_dvd db _)
    · exact (Nat.dvd_add_left (Nat.dvd_mul_left_of_dvd db _)).1 (h ▸ Nat.dvd_mul_left_of_dvd da _)

/-- HOW THE FORESEEN DIVISIONS STAND: x1 and x2 are what is left of A and B; u and v how often each was taken. -/
structure Inv (A B x1 x2 u1 v1 u2 v2 : Nat) (e : Bool) : Prop where
  top : A = v2 * x1 + v1 * x2
  low : B = u2 * x1 + u1 * x2
  even : e = false → x1 + v1 * B = u1 * A ∧ x2 + u2 * A = v2 * B ∧ u1 * v2 = u2 * v1 + 1
  odd : e = true → x1 + u1 * A = v1 * B ∧ x2 + v2 * B = u2 * A ∧ u2 * v1 = u1 * v2 + 1
  le : x2 ≤ x1
  uv : u2 ≤ v2
  uuvv : u1 + u2 ≤ v1 + v2
  vv : v1 ≤ v2
  u1v : u1 ≤ v2
  pos : 1 ≤ v2
  nz : 1 ≤ v1 → 1 ≤ u2
theorem Inv.start {A B : Nat} (h : B ≤ A) : Inv A B A B 1 0 0 1 false :=
  ⟨by omega, by omega, fun _ => by omega, fun h => by simp at h, h, by omega, by omega, by omega, by omega, by omega, by omega⟩
theorem Inv.next {A B x1 x2 u1 v1 u2 v2 q r : Nat} {e : Bool} (h : Inv A B x1 x2 u1 v1 u2 v2 e) (hx : x1 = x2 * q + r) (hr : r < x2) : Inv A B x2 r u2 v2 (u1 + q * u2) (v1 + q * v2) (!e) := by
  have hq : 1 ≤ q := by
    rcases Nat.eq_zero_or_pos q with h0 | h0
    · subst h0; have := h.le; omega
    · exact h0
  have hu : q * u2 ≤ q * v2 := Nat.mul_le_mul_left _ h.uv
  have hu1 : u2 ≤ q * u2 := Nat.le_mul_of_pos_left _ hq
  have hv1 : v2 ≤ q * v2 := Nat.le_mul_of_pos_left _ hq
  have h1 := h.uuvv
  have h2 := h.uv
  have h3 := h.vv
  have h4 := h.pos
  have hq2 : (q - 1) * u2 ≤ (q - 1) * v2 := Nat.mul_le_mul_left _ h.uv
  have e1 : q * u2 = (q - 1) * u2 + u2 := by obtain ⟨p, rfl⟩ : ∃ p, q = p + 1 := ⟨q - 1, by omega⟩; simp [Nat.add_mul]
  have e2 : q * v2 = (q - 1) * v2 + v2 := by obtain ⟨p, rfl⟩ : ∃ p, q = p + 1 := ⟨q - 1, by omega⟩; simp [Nat.add_mul]
  have t := h.top
  have l := h.low
  subst hx
  refine ⟨by rw [t]; grind, by rw [l]; grind, ?_, ?_, by omega, by omega, by omega, by omega, by omega, by omega, ?_⟩
  · intro he
    have he' : e = true := by simpa using he
    obtain ⟨o1, o2, o3⟩ := h.odd he'
    exact ⟨by grind, by grind, by grind⟩
  · intro he
    have he' : e = false := by simpa using he
    obtain ⟨o1, o2, o3⟩ := h.even he'
    exact ⟨by grind, by grind, by grind⟩
  · intro _
    cases e with
    | false =>
      obtain ⟨-, -, o3⟩ := h.even rfl
      rcases Nat.eq_zero_or_pos u1 with h0 | h0
      · subst h0; omega
      · omega
    | true =>
      obtain ⟨-, -, o3⟩ := h.odd rfl
      rcases Nat.eq_zero_or_pos u2 with h0 | h0
      · subst h0; omega
      · omega
/-- the bounds of what is reckoned -/
theorem Inv.small {A B x1 x2 u1 v1 u2 v2 : Nat} {e : Bool} (h : Inv A B x1 x2 u1 v1 u2 v2 e) (hA : A < 18446744073709551616) (hc : v2 ≤ x2) : v2 < 4294967296 := by
  have h1 : v2 * v2 ≤ v2 * x1 := Nat.mul_le_mul_left _ (Nat.le_trans hc h.le)
  have h2 := h.top
  exact sq_lt (Nat.lt_of_le_of_lt (show v2 * v2 ≤ A by omega) (Nat.lt_of_lt_of_le hA (by omega)))
theorem Inv.great {A B x1 x2 u1 v1 u2 v2 : Nat} {e : Bool} (h : Inv A B x1 x2 u1 v1 u2 v2 e) (hp : 0 < x1) : v2 ≤ A := by
  have h1 : v2 ≤ v2 * x1 := Nat.le_mul_of_pos_right _ hp
  have h2 := h.top
  omega

/-- COLLINS: where what is left of the heads is great enough, the divisions of the whole numbers come out alike. -/
theorem Inv.whole {A B x1 x2 u1 v1 u2 v2 : Nat} {e : Bool} (h : Inv A B x1 x2 u1 v1 u2 v2 e) (h2 : v2 ≤ x2) (h1 : v1 + v2 ≤ x1 - x2) {a b K : Nat} (hK : 0 < K) (ha : a / K = A) (hb : b / K = B) :
    ∃ X1 X2, X2 ≤ X1 ∧ a = v2 * X1 + v1 * X2 ∧ b = u2 * X1 + u1 * X2 ∧ (e = false → X1 + v1 * b = u1 * a ∧ X2 + u2 * a = v2 * b) ∧ (e = true → X1 + u1 * a = v1 * b ∧ X2 + v2 * b = u2 * a) := by
  obtain ⟨la, hla, ea⟩ : ∃ la, la < K ∧ a = K * A + la := ⟨a % K, Nat.mod_lt _ hK, by rw [← ha]; exact (Nat.div_add_mod _ _).symm⟩
  obtain ⟨lb, hlb, eb⟩ : ∃ lb, lb < K ∧ b = K * B + lb := ⟨b % K, Nat.mod_lt _ hK, by rw [← hb]; exact (Nat.div_add_mod _ _).symm⟩
  have f : ∀ n l : Nat, l < K → n * l ≤ K * n := fun n l hl => by rw [Nat.mul_comm]; exact Nat.mul_le_mul_right _ (Nat.le_of_lt hl)
  have ha' : ∀ n, n * a = K * (n * A) + n * la := fun n => by rw [ea, Nat.mul_add, Nat.mul_left_comm]
  have hb' : ∀ n, n * b = K * (n * B) + n * lb := fun n => by rw [eb, Nat.mul_add, Nat.mul_left_comm]
  have hu := h.uuvv
  have hle := h.le
  have huv := h.uv
  have hu1 := h.u1v
  have k1 : K * (v1 + v2 + x2) ≤ K * x1 := Nat.mul_le_mul_left _ (by omega)
  have k2 : K * v2 ≤ K * x2 := Nat.mul_le_mul_left _ h2
  have k3 : K * u2 ≤ K * v2 := Nat.mul_le_mul_left _ huv
  have k4 : K * u1 ≤ K * v2 := Nat.mul_le_mul_left _ hu1
  have k5 : K * (u1 + u2) ≤ K * (v1 + v2) := Nat.mul_le_mul_left _ hu
  simp only [Nat.mul_add] at k1 k5
  have a1 := ha' u1
  have a2 := ha' u2
  have b1 := hb' v1
  have b2 := hb' v2
  have m1 := f v1 lb hlb
  have m2 := f v2 lb hlb
  have m3 := f u1 la hla
  have m4 := f u2 la hla
  cases e with
  | false =>
    obtain ⟨i1, i2, i3⟩ := h.even rfl
    have j1 : K * x1 + K * (v1 * B) = K * (u1 * A) := by rw [← Nat.mul_add, i1]
    have j2 : K * x2 + K * (u2 * A) = K * (v2 * B) := by rw [← Nat.mul_add, i2]
    obtain ⟨X1, hX1⟩ : ∃ X1, X1 + v1 * b = u1 * a := ⟨u1 * a - v1 * b, by omega⟩
    obtain ⟨X2, hX2⟩ : ∃ X2, X2 + u2 * a = v2 * b := ⟨v2 * b - u2 * a, by omega⟩
    refine ⟨X1, X2, by omega, ?_, ?_, fun _ => ⟨hX1, hX2⟩, fun h => by simp at h⟩
    · clear a1 a2 b1 b2 m1 m2 m3 m4 j1 j2 ha' hb' f ea eb k1 k2 k3 k4 k5; grind
    · clear a1 a2 b1 b2 m1 m2 m3 m4 j1 j2 ha' hb' f ea eb k1 k2 k3 k4 k5; grind
  | true =>
    obtain ⟨i1, i2, i3⟩ := h.odd rfl
    have j1 : K * x1 + K * (u1 * A) = K * (v1 * B) := by rw [← Nat.mul_add, i1]
    have j2 : K * x2 + K * (v2 * B) = K * (u2 * A) := by rw [← Nat.mul_add, i2]
    obtain ⟨X1, hX1⟩ : ∃ X1, X1 + u1 * a = v1 * b := ⟨v1 * b - u1 * a, by omega⟩
    obtain ⟨X2, hX2⟩ : ∃ X2, X2 + v2 * b = u2 * a := ⟨u2 * a - v2 * b, by omega⟩
    refine ⟨X1, X2, by omega, ?_, ?_, fun h => by simp at h, fun _ => ⟨hX1, hX2⟩⟩
    · clear a1 a2 b1 b2 m1 m2 m3 m4 j1 j2 ha' hb' f ea eb k1 k2 k3 k4 k5; grind
    · clear a1 a2 b1 b2 m1 m2 m3 m4 j1 j2 ha' hb' f ea eb k1 k2 k3 k4 k5; grind

/-- what the foreseen divisions say: none, or that they come out alike whatever follows -/
def Seen (A B f0 f1 s0 s1 : Nat) (ev : Bool) : Prop := f1 = 0 ∨ ∃ x1 x2, Inv A B x1 x2 f0 f1 s0 s1 (!ev) ∧ s1 ≤ x2 ∧ f1 + s1 ≤ x1 - x2

/-- two numbers below p that differ by whole p's are one -/
theorem mod_one {p x y c d : Nat} (h : x + p * c = y + p * d) (hx : x < p) (hy : y < p) : x = y := by
  have h1 : (x + p * c) % p = (y + p * d) % p := by rw [h]
  rwa [Nat.add_mul_mod_self_left, Nat.add_mul_mod_self_left, Nat.mod_eq_of_lt hx, Nat.mod_eq_of_lt hy] at h1

end Go.Proofs.YtngnclibeccplaaDoor.Num
/- What the program's own small calls on words answer: cut, at, head. -/

namespace Go.Proofs.YtngnclibeccplaaDoor
open Go.RowKit Num

theorem below_one (w : World) (o : Obj) : Below w.heap.size w (w.alloc o) := (Below.refl _ _).alloc (Nat.le_refl _) _
theorem take_bits {d : List Nat} {n : Nat} (hd : Dg 4294967296 d) (hb : IsBits (val 4294967296 d) n) :
    Norm 4294967296 (d.take ((n + 31) / 32)) ∧ val 4294967296 (d.take ((n + 31) / 32)) = val 4294967296 d ∧ (d.take ((n + 31) / 32)).length ≤ (n + 31) / 32 := by
  have hk : val 4294967296 d < 4294967296 ^ ((n + 31) / 32) := by
    refine Nat.lt_of_lt_of_le hb.1 ?_
    rw [show (4294967296 : Nat) = 2 ^ 32 from rfl, ← Nat.pow_mul]
    exact Nat.pow_le_pow_right (by omega) (by omega)
  have hl : (d.take ((n + 31) / 32)).length ≤ (n + 31) / 32 := by rw [List.length_take]; omega
  have hv : val 4294967296 (d.take ((n + 31) / 32)) = val 4294967296 d := by
    by_cases h : (n + 31) / 32 ≤ d.length
    · have e := val_split (b := 4294967296) h
      rcases Nat.eq_zero_or_pos (val 4294967296 (d.drop ((n + 31) / 32))) with h0 | h0
      · rw [e, h0]; simp
      · have := Nat.mul_le_mul_left (4294967296 ^ ((n + 31) / 32)) h0
        omega
    · rw [List.take_of_length_le (by omega)]
  refine ⟨?_, hv, hl⟩
  rcases hb.2 with h0 | h0
  · subst h0
    exact norm_nil _
  · refine ⟨hd.take, top_of_le hd.take ?_⟩
    rw [hv]
    refine Nat.le_trans ?_ h0
    rw [show (4294967296 : Nat) = 2 ^ 32 from rfl, ← Nat.pow_mul]
    exact Nat.pow_le_pow_right (by omega) (by omega)

/-- two words and the higher bits of a third one -/
theorem head_val {m r s : Nat} (hr : r < 4294967296) (hs : s < 32) (hm : m * 2 ^ s < 18446744073709551616) :
    bits .or .u64 ((m * 2 ^ s : Nat) : Int) ((r / 2 ^ (32 - s) : Nat) : Int) = (((r + 4294967296 * m) / 2 ^ (32 - s) : Nat) : Int) := by
  have e : (4294967296 : Nat) = 2 ^ (32 - s) * 2 ^ s := by rw [← Nat.pow_add, show 32 - s + s = 32 by omega]
  have ht : 0 < 2 ^ (32 - s) := Nat.pow_pos (by omega)
  have hc : r / 2 ^ (32 - s) < 2 ^ s := by
    rw [Nat.div_lt_iff_lt_mul ht, Nat.mul_comm, ← e]; exact hr
  have hr2 : r / 2 ^ (32 - s) < 18446744073709551616 := by
    have := Nat.div_le_self r (2 ^ (32 - s)); omega
  rw [u64_or_nat _ _ hm hr2]
  congr 1
  rw [Nat.mul_comm m, ← Nat.two_pow_add_eq_or_of_lt hc, e, Nat.mul_assoc, Nat.add_mul_div_left _ _ ht, Nat.add_comm]
theorem head_fit {p q s : Nat} (hq : q < 4294967296) (hs : s < 32) (h : p * 2 ^ s < 4294967296) : (q + 4294967296 * p) * 2 ^ s < 18446744073709551616 := by
  have e : (4294967296 : Nat) = 2 ^ (32 - s) * 2 ^ s := by rw [← Nat.pow_add, show 32 - s + s = 32 by omega]
  have hp : p < 2 ^ (32 - s) := by
    rw [e] at h
    exact Nat.lt_of_mul_lt_mul_right h
  have h1 : q + 4294967296 * p < 4294967296 * 2 ^ (32 - s) := by
    have := Nat.mul_le_mul_left 4294967296 (show p + 1 ≤ 2 ^ (32 - s) from hp)
    omega
  have h2 := Nat.mul_lt_mul_of_pos_right h1 (show 0 < 2 ^ s from Nat.pow_pos (by omega))
  rw [Nat.mul_assoc, ← e] at h2
  omega

end Go.Proofs.YtngnclibeccplaaDoor
/- What the program's own less answers: a number times another one without a third one times a fourth one, word by word. -/

namespace Go.Proofs.YtngnclibeccplaaDoor
open Go.RowKit Num

theorem below_alloc_grown' {w W0 wr : World} (h : Below w.heap.size w W0) (hg : W0.grownBy wr (some w.heap.size)) : Below w.heap.size w wr :=
  h.grown hg h.size (fun g e => by injection e with e; omega)
/-- one word of it -/
theorem less_step {B K V Pa Pb n m up dn br p q x y t s : Nat} {d v : Nat} (h : V + Pb * m + K * up = Pa * n + K * (dn + br)) (ht : t = up + p * n) (hs : s = dn + q * m)
    (hx : x + B * (t / B) = t) (hy : y + B * (s / B) = s) (hd : d + y + br = B + x) (hv : v + B * (d / B) = d) (hd2 : d / B ≤ 1) :
    (V + K * v) + (Pb + K * q) * m + K * B * (t / B) = (Pa + K * p) * n + K * B * (s / B + (1 - d / B)) := by
  obtain ⟨z, hz⟩ : ∃ z, d / B = z := ⟨_, rfl⟩
  obtain ⟨z', hz'⟩ : ∃ z', 1 - d / B = z' := ⟨_, rfl⟩
  have hzz : z + z' = 1 := by omega
  rw [hz'] 
  rw [hz] at hv
  generalize t / B = t' at *
  generalize s / B = s' at *
  clear hz hz' hd2
  have hB : B * z + B * z' = B := by rw [← Nat.mul_add, hzz, Nat.mul_one]
  have e : v + q * m + B * t' + dn + br = p * n + B * s' + B * z' + up := by omega
  have e2 : K * v + K * (q * m) + K * (B * t') + K * dn + K * br = K * (p * n) + K * (B * s') + K * (B * z') + K * up := by
    simp only [← Nat.mul_add]; rw [e]
  simp only [Nat.add_mul, Nat.mul_add, Nat.mul_assoc] at h e2 ⊢
  omega

end Go.Proofs.YtngnclibeccplaaDoor
/- What the program's own foresee answers: the divisions that come out alike. -/

namespace Go.Proofs.YtngnclibeccplaaDoor
open Go.RowKit Num

/-- BLOCK g IS JUST THE CELLS vs. -/
def Blk (w : World) (g : Nat) (t : TypeId) (vs : List Value) : Prop := w.heap[g]? = some (.cells vs.toArray t (0, 0))
section
variable {w w' : World} {g : Nat} {t : TypeId} {vs : List Value}
theorem Blk.lt (h : Blk w g t vs) : g < w.heap.size := by
  rcases Nat.lt_or_ge g w.heap.size with hlt | hge
  · exact hlt
  · unfold Blk at h; rw [Array.getElem?_eq_none hge] at h; cases h
theorem Blk.cell (h : Blk w g t vs) (i : Nat) {v : Value} (hv : vs[i]? = some v) : w.cell? ⟨g, i, none⟩ = some v := by
  rw [cell_of_row w g i _ t (0, 0) h]
  simpa using hv
theorem Blk.frozen (h : Blk w g t vs) (i : Nat) : w.frozen? ⟨g, i, none⟩ = false := frozen_of_row w g i _ t h
theorem Blk.set (h : Blk w g t vs) (i : Nat) (v : Value) : Blk (w.setCell ⟨g, i, none⟩ v) g t (vs.set i v) := by
  have := heap_setCell_same w g i _ t v h
  unfold Blk
  rw [this]
  simp
theorem Blk.far (h : Blk w g t vs) {p : Addr} (hp : g ≠ p.block) (u : Value) : Blk (w.setCell p u) g t vs := (Below.heap_setCell w p u g hp).trans h
theorem Blk.alloc (h : Blk w g t vs) (o : Obj) : Blk (w.alloc o) g t vs := (Below.heap_alloc w o g h.lt).trans h
theorem Blk.drewN (h : Blk w g t vs) (n : Nat) : Blk (w.drewN n) g t vs := h
theorem Blk.new (w : World) (t : TypeId) (vs : List Value) : Blk (w.alloc (.cells vs.toArray t)) w.heap.size t vs := heap_alloc_new w _
theorem Blk.at_new (w : World) (t : TypeId) (vs : List Value) {g : Nat} (hg : g = w.heap.size) : Blk (w.alloc (.cells vs.toArray t)) g t vs := by rw [hg]; exact Blk.new w t vs
theorem Blk.below {B : Nat} (h : Blk w g t vs) (hb : Below B w w') (hg : g < B) : Blk w' g t vs := (hb.block g hg).trans h
end

/-- steps, as they lie -/
def lie (f0 f1 s0 s1 : Nat) (ev : Bool) : List Value := [.int .u64 f0, .int .u64 f1, .int .u64 s0, .int .u64 s1, .bool ev]
def pair (x y : Nat) : List Value := [.int .u64 x, .int .u64 y]

theorem Blk.five {w : World} {g : Nat} {t : TypeId} {a0 a1 a2 a3 a4 : Value} (h : Blk w g t [a0, a1, a2, a3, a4]) (u0 u1 u2 u3 u4 : Value) :
    ∃ W, ((((w.setCell ⟨g, 0, none⟩ u0).setCell ⟨g, 1, none⟩ u1).setCell ⟨g, 2, none⟩ u2).setCell ⟨g, 3, none⟩ u3).setCell ⟨g, 4, none⟩ u4 = W ∧ Blk W g t [u0, u1, u2, u3, u4] ∧ (∀ B, B ≤ g → Below B w W) ∧ (∀ g' t' vs, g' ≠ g → Blk w g' t' vs → Blk W g' t' vs) ∧ w.heap.size ≤ W.heap.size :=
  ⟨_, rfl, ((((h.set 0 u0).set 1 u1).set 2 u2).set 3 u3).set 4 u4, fun _ hB => (((((Below.refl _ _).setCell hB _).setCell hB _).setCell hB _).setCell hB _).setCell hB _,
    fun _ _ _ hne k => ((((k.far hne u0).far hne u1).far hne u2).far hne u3).far hne u4, by simp [World.setCell]⟩
theorem Blk.two {w : World} {g : Nat} {t : TypeId} {a0 a1 : Value} (h : Blk w g t [a0, a1]) (u0 u1 : Value) :
    ∃ W, (w.setCell ⟨g, 0, none⟩ u0).setCell ⟨g, 1, none⟩ u1 = W ∧ Blk W g t [u0, u1] ∧ (∀ B, B ≤ g → Below B w W) ∧ (∀ g' t' vs, g' ≠ g → Blk w g' t' vs → Blk W g' t' vs) ∧ w.heap.size ≤ W.heap.size :=
  ⟨_, rfl, (h.set 0 u0).set 1 u1, fun _ hB => ((Below.refl _ _).setCell hB _).setCell hB _, fun _ _ _ hne k => (k.far hne u0).far hne u1, by simp [World.setCell]⟩

/-- what foresee answers -/
def GivesSteps (A B : Nat) (w : World) (e : Ending) (w' : World) : Prop :=
  ∃ (f0 f1 s0 s1 : Nat) (ev : Bool), e = .returned (.agg #[.int .u64 f0, .int .u64 f1, .int .u64 s0, .int .u64 s1, .bool ev]) ∧ Seen A B f0 f1 s0 s1 ev ∧ Below w.heap.size w w'
theorem gives_steps {A B f0 f1 s0 s1 : Nat} {ev : Bool} {w wr : World} {z0 z1 z2 z3 z4 : Value} {t : TypeId} (k0 : Blk wr w.heap.size t [z0, z1, z2, z3, z4]) (kb : Below w.heap.size w wr) (hS : Seen A B f0 f1 s0 s1 ev) :
    ∃ W, ((((wr.setCell ⟨w.heap.size, 0, none⟩ (.int .u64 f0)).setCell ⟨w.heap.size, 1, none⟩ (.int .u64 f1)).setCell ⟨w.heap.size, 2, none⟩ (.int .u64 s0)).setCell ⟨w.heap.size, 3, none⟩ (.int .u64 s1)).setCell ⟨w.heap.size, 4, none⟩ (.bool ev) = W ∧
      W.cell? ⟨w.heap.size, 0, none⟩ = some (.int .u64 f0) ∧ W.cell? ⟨w.heap.size, 1, none⟩ = some (.int .u64 f1) ∧ W.cell? ⟨w.heap.size, 2, none⟩ = some (.int .u64 s0) ∧ W.cell? ⟨w.heap.size, 3, none⟩ = some (.int .u64 s1) ∧ W.cell? ⟨w.heap.size, 4, none⟩ = some (.bool ev) ∧
      GivesSteps A B w (.returned (.agg #[.int .u64 f0, .int .u64 f1, .int .u64 s0, .int .u64 s1, .bool ev])) W := by
  obtain ⟨W, hW, k, hb, -, -⟩ := k0.five (.int .u64 f0) (.int .u64 f1) (.int .u64 s0) (.int .u64 s1) (.bool ev)
  exact ⟨W, hW, k.cell 0 rfl, k.cell 1 rfl, k.cell 2 rfl, k.cell 3 rfl, k.cell 4 rfl, f0, f1, s0, s1, ev, rfl, hS, kb.trans (hb _ (Nat.le_refl _))⟩

end Go.Proofs.YtngnclibeccplaaDoor
/- What the program's own take answers: what the foreseen divisions leave. -/

namespace Go.Proofs.YtngnclibeccplaaDoor
open Go.RowKit Num

/-- two numbers -/
def GivesTwo (N M : Nat) (w : World) (e : Ending) (w' : World) : Prop :=
  ∃ A x c A' y c', e = .returned (.tuple #[.slice A x.length c, .slice A' y.length c']) ∧ x.length ≤ c ∧ y.length ≤ c' ∧ Norm 4294967296 x ∧ Norm 4294967296 y ∧ val 4294967296 x = N ∧ val 4294967296 y = M ∧
    Rd w' (fun g => g < w'.heap.size) .u32 A x ∧ Rd w' (fun g => g < w'.heap.size) .u32 A' y ∧ Below w.heap.size w w'

theorem below_next {B : Nat} {W V w' : World} (K : Below B W V) (hB : B ≤ W.heap.size) (b : Below V.heap.size V w') : Below B W w' := K.trans (b.mono (Nat.le_trans hB K.size))
theorem cells4u {W V : World} {g : Nat} {t : TypeId} {a0 a1 a2 a3 a4 : Value} (k : Blk W g t [a0, a1, a2, a3, a4]) (hb : Below W.heap.size W V) :
    V.cell? ⟨g, 0, none⟩ = some a0 ∧ V.cell? ⟨g, 1, none⟩ = some a1 ∧ V.cell? ⟨g, 2, none⟩ = some a2 ∧ V.cell? ⟨g, 3, none⟩ = some a3 := by
  have k' := k.below hb k.lt
  exact ⟨k'.cell 0 rfl, k'.cell 1 rfl, k'.cell 2 rfl, k'.cell 3 rfl⟩

end Go.Proofs.YtngnclibeccplaaDoor
/- What the program's own gcdSmall and nearer answer. -/

namespace Go.Proofs.YtngnclibeccplaaDoor
open Go.RowKit Num

theorem gcd_step (x y : Nat) : Nat.gcd y (x % y) = Nat.gcd x y := by
  rw [Nat.gcd_comm y, ← Nat.gcd_rec, Nat.gcd_comm]
theorem getD_pad {d : List Nat} {n j : Nat} : (d ++ List.replicate n 0).getD j 0 = d.getD j 0 := by
  simp only [List.getD_eq_getElem?_getD]
  by_cases h : j < d.length
  · rw [List.getElem?_append_left h]
  · rw [List.getElem?_append_right (by omega), List.getElem?_eq_none (l := d) (by omega)]
    by_cases h2 : j - d.length < n
    · rw [List.getElem?_eq_getElem (by simpa using h2)]; simp
    · rw [List.getElem?_eq_none (by simp; omega)]
/-- the higher three of n words, without some bits, are the whole number by a power of two -/
theorem head_div {d : List Nat} {n s : Nat} (hd : Dg 4294967296 d) (hl : d.length ≤ n) (h3 : 3 ≤ n) :
    val 4294967296 d / (4294967296 ^ (n - 3) * 2 ^ (32 - s)) = (d.getD (n - 3) 0 + 4294967296 * (d.getD (n - 2) 0 + 4294967296 * d.getD (n - 1) 0)) / 2 ^ (32 - s) := by
  obtain ⟨k, rfl⟩ : ∃ k, n = k + 3 := ⟨n - 3, by omega⟩
  have hlen : (d ++ List.replicate (k + 3 - d.length) 0).length = k + 3 := by simp; omega
  have hv : val 4294967296 (d ++ List.replicate (k + 3 - d.length) 0) = val 4294967296 d := by rw [val_append, val_zeros]; simp
  have h := val_three (b := 4294967296) hlen
  have hdd : Dg 4294967296 (d ++ List.replicate (k + 3 - d.length) 0) := Dg.append.2 ⟨hd, Dg.zeros (by omega)⟩
  have g0 : ∀ j (hj : j < (d ++ List.replicate (k + 3 - d.length) 0).length), (d ++ List.replicate (k + 3 - d.length) 0)[j] = d.getD j 0 := fun j hj => by
    rw [← getD_pad (n := k + 3 - d.length), List.getD_eq_getElem?_getD, List.getElem?_eq_getElem hj, Option.getD_some]
  have hlo := val_lt (hdd.take (n := k))
  rw [List.length_take, Nat.min_eq_left (by omega)] at hlo
  rw [g0, g0, g0, hv] at h
  rw [show k + 3 - 3 = k by omega, show k + 3 - 2 = k + 1 by omega, show k + 3 - 1 = k + 2 by omega, ← Nat.div_div_eq_div_mul, h, Nat.add_mul_div_left _ _ (Nat.pow_pos (by omega)), Nat.div_eq_of_lt hlo, Nat.zero_add]
theorem head_lt {p q r s : Nat} (hq : q < 4294967296) (hr : r < 4294967296) (hs : s < 32) (hp : p * 2 ^ s < 4294967296) : (r + 4294967296 * (q + 4294967296 * p)) / 2 ^ (32 - s) < 18446744073709551616 := by
  have e : (4294967296 : Nat) = 2 ^ (32 - s) * 2 ^ s := by rw [← Nat.pow_add, show 32 - s + s = 32 by omega]
  rw [Nat.div_lt_iff_lt_mul (Nat.pow_pos (by omega))]
  have hpp : p + 1 ≤ 2 ^ (32 - s) := by
    rw [e] at hp
    exact Nat.lt_of_mul_lt_mul_right hp
  have := Nat.mul_le_mul_left 18446744073709551616 hpp
  omega
theorem top_word {a b : List Nat} {x : Nat} (ha : Norm 4294967296 a) (hb : Norm 4294967296 b) (hle : val 4294967296 b ≤ val 4294967296 a) (h3 : 3 ≤ a.length) (hx : a.getD (a.length - 1) 0 = x) : b.getD (a.length - 1) 0 ≤ x := by
  have hl := len_le (b := 4294967296) (by omega) hb.2 ha.1 hle
  by_cases h : b.length < a.length
  · rw [getD_ge (by omega)]; omega
  · rcases Nat.lt_or_ge x (b.getD (a.length - 1) 0) with hlt | hge
    · have h1 : a.length - 1 < a.length := by omega
      have h2 : a.length - 1 < b.length := by omega
      rw [List.getD_eq_getElem?_getD, List.getElem?_eq_getElem h1, Option.getD_some] at hx
      rw [List.getD_eq_getElem?_getD, List.getElem?_eq_getElem h2, Option.getD_some] at hlt
      have := val_lt_of_digit (b := 4294967296) (xs := a) (ys := b) (i := a.length - 1) ha.1 h1 h2 (by rw [List.drop_of_length_le (by omega), List.drop_of_length_le (by omega)]) (by omega)
      omega
    · exact hge

/-- two numbers nearer to a common factor -/
def GivesNearer (N M : Nat) (w : World) (e : Ending) (w' : World) : Prop := ∃ X Y, GivesTwo X Y w e w' ∧ Y ≤ X ∧ X ≤ M ∧ Nat.gcd X Y = Nat.gcd N M ∧ X + Y < N + M

end Go.Proofs.YtngnclibeccplaaDoor
/- What the program's own Gcd, Lcm and Reduce answer. -/

namespace Go.Proofs.YtngnclibeccplaaDoor
open Go.RowKit Num

theorem gcd_len {xs a b : List Nat} {n : Nat} (hx : Norm 4294967296 xs) (ha : Dg 4294967296 a) (hb : Dg 4294967296 b) (h : val 4294967296 xs = Nat.gcd (val 4294967296 a) (val 4294967296 b)) (h1 : a.length ≤ n) (h2 : b.length ≤ n) : xs.length ≤ n := by
  rcases Nat.eq_zero_or_pos (val 4294967296 a) with h0 | h0
  · rw [h0, Nat.gcd_zero_left] at h
    exact Nat.le_trans (len_le (b := 4294967296) (by omega) hx.2 hb (by omega)) h2
  · have := Nat.gcd_le_left (val 4294967296 b) h0
    exact Nat.le_trans (len_le (b := 4294967296) (by omega) hx.2 ha (by omega)) h1

end Go.Proofs.YtngnclibeccplaaDoor
/- What the program's own sqrtSmall and SqrtInt answer. -/

namespace Go.Proofs.YtngnclibeccplaaDoor
open Go.RowKit Num

def natOf : Value → Nat | .int _ q => q.toNat | _ => 0
theorem newton_quo {N R : Nat} (h : N < (R + 1) * (R + 1)) (h0 : 0 < R) : N / R ≤ R + 2 := by
  have h1 : N / R < R + 3 := by
    rw [Nat.div_lt_iff_lt_mul h0]
    simp only [Nat.add_mul, Nat.mul_add] at h ⊢
    omega
  omega

theorem newton_pos {N R : Nat} (h : N < (R + 1) * (R + 1)) (hN : ¬ N = 0) (h0 : 0 < R) : 0 < (R + N / R) / 2 := by
  by_cases h1 : R = 1
  · subst h1
    have : N / 1 = N := Nat.div_one N
    omega
  · have := Nat.zero_le (N / R)
    generalize N / R = q at *
    omega

set_option maxHeartbeats 1600000 in
/-- the root of a number of 64 bits -/
theorem root_sqrtSmall (N : Nat) (hN : N < 18446744073709551616) (w : World) :
    Calls Tryd.prog 54 #[.int .u64 N] w fun e w' => ∃ r : Nat, e = .returned (.int .u64 r) ∧ IsRoot N r ∧ r < 4294967296 ∧ ∃ k, w' = w.drewN k := by
  by_cases h0 : N = 0
  · subst h0
    go_enter Tryd.func54, Tryd.ntmps54
    go_wp2_with fail
    go_step3
    go_wp2_with fail
    rw [Exit.noGoto_ret]
    go_ret
    exact ⟨0, rfl, IsRoot.zero, by omega, 0, rfl⟩
  · have cl := Tryd.bits_Len64 (N : Int) w (by omega) (by omega)
    rw [Int.toNat_natCast] at cl
    have hb := isBits_bitLen N hN
    obtain ⟨z, hz⟩ : ∃ z, Lib.bitLen N = z := ⟨_, rfl⟩
    rw [hz] at cl hb
    clear hz
    go_enter Tryd.func54, Tryd.ntmps54
    have hz64 : z ≤ 64 := by
      rcases hb.2 with h1 | h1
      · omega
      · have h2 := Nat.lt_of_le_of_lt h1 (show N < 2 ^ 64 from hN)
        have := (Nat.pow_lt_pow_iff_right (show 1 < 2 by omega)).1 h2
        omega
    have hR : N < (2 ^ ((z + 1) / 2) + 1) * (2 ^ ((z + 1) / 2) + 1) := by
      have h1 : N < 2 ^ ((z + 1) / 2) * 2 ^ ((z + 1) / 2) := by
        rw [← Nat.pow_add]
        exact Nat.lt_of_lt_of_le hb.1 (Nat.pow_le_pow_right (by omega) (by omega))
      exact Nat.lt_of_lt_of_le h1 (Nat.mul_le_mul (by omega) (by omega))
    have hR2 : 2 ^ ((z + 1) / 2) ≤ 4294967296 := Nat.pow_le_pow_right (n := 2) (by omega) (show (z + 1) / 2 ≤ 32 by omega)
    have hR0' : 0 < 2 ^ ((z + 1) / 2) := Nat.pow_pos (by omega)
    have hsh0 : (0 : Int) ≤ ((z : Int) + 1) / 2 := by omega
    have hsh1 : ((z : Int) + 1) / 2 < 64 := by omega
    go_wp2_with fail
    refine wp_scope_jumps 0 (fun a' w' => ∃ (R k : Nat) (u4 u5 u6 u7 u8 u9 u10 u11 u12 u13 u14 u15 u16 u17 u18 u19 u20 u21 u22 : Value), a' = { tmps := #[.int .u64 N, undef, .int .u64 0, .int .u64 R, u4, u5, u6, u7, u8, u9, u10, u11, u12, u13, u14, u15, u16, u17, u18, u19, u20, u21, u22], defers := [] } ∧ w' = w.drewN k ∧ 0 < R ∧ R ≤ 4294967296 ∧ N < (R + 1) * (R + 1)) (fun a' _ => (natOf (a'.tmps.getD 3 undef))) rfl ?_ ?_
    · go_wp2_with fail
      refine cl.mono ?_
      rintro e w1 ⟨rfl, rfl⟩
      go_wp2_with fail
      obtain ⟨R, hRR⟩ : ∃ R, 2 ^ ((z + 1) / 2) = R := ⟨_, rfl⟩
      have eR : IntKind.u64.wrap ((2 : Int) ^ ((z + 1) / 2)) = (R : Int) := by
        rw [show ((2 : Int) ^ ((z + 1) / 2)) = ((2 ^ ((z + 1) / 2) : Nat) : Int) by simp, hRR]
        rw [hRR] at hR2
        exact IntWalk.u64_in _ (by omega)
      rw [eR]
      rw [hRR] at hR hR2 hR0'
      have hR0 := hR0'
      have hR1 := hR
      clear hRR eR hR hR0' cl hb hsh0 hsh1
      go_step3
      have hnx := newton_next (N := N) (r := R) hR0
      have hne : R ≤ (R + N / R) / 2 → IsRoot N R := newton_end hR1 hR0
      have hquo := u64_quo N R hN
      have hqle : N / R < 18446744073709551616 := Nat.lt_of_le_of_lt (Nat.div_le_self _ _) hN
      have hqR : N / R ≤ R + 2 := newton_quo hR1 hR0
      have hgt : 0 < (R + N / R) / 2 := newton_pos hR1 h0 hR0
      obtain ⟨q, hq⟩ : ∃ q, N / R = q := ⟨_, rfl⟩
      rw [hq] at hnx hne hquo hqle hqR hgt
      have hR00 : ¬ R = 0 := by omega
      have HX := Lib.hid hnx
      have HE := Lib.hid hne
      clear hnx hne hq
      by_cases hlt : (R + q) / 2 < R
      · have hlt' : ((R : Int) + (q : Int)) / 2 < (R : Int) := by omega
        go_wp2_with fail
        go_step3
        refine ⟨rfl, (R + q) / 2, 0, _, _, _, _, _, _, _, _, _, _, _, _, _, _, _, _, _, _, _, rfl, rfl, hgt, by omega, HX.out⟩
      · have hlt' : ¬ ((R : Int) + (q : Int)) / 2 < (R : Int) := by omega
        go_wp2_with fail
        simp only [Exit.jump]
        go_ret
        have hroot := HE.out (by omega)
        refine ⟨R, rfl, hroot, ?_, 0, rfl⟩
        exact sq_lt (Nat.lt_of_le_of_lt hroot.1 (Nat.lt_of_lt_of_le hN (by omega)))
    · rintro a' w' ⟨R, k, u4, u5, u6, u7, u8, u9, u10, u11, u12, u13, u14, u15, u16, u17, u18, u19, u20, u21, u22, rfl, rfl, hR0, hR2, hR1⟩
      clear cl hb hR hR0' hsh0 hsh1
      have hnx := newton_next (N := N) (r := R) hR0
      have hne : R ≤ (R + N / R) / 2 → IsRoot N R := newton_end hR1 hR0
      have hquo := u64_quo N R hN
      have hqle : N / R < 18446744073709551616 := Nat.lt_of_le_of_lt (Nat.div_le_self _ _) hN
      have hqR : N / R ≤ R + 2 := newton_quo hR1 hR0
      have hgt : 0 < (R + N / R) / 2 := newton_pos hR1 h0 hR0
      obtain ⟨q, hq⟩ : ∃ q, N / R = q := ⟨_, rfl⟩
      rw [hq] at hnx hne hquo hqle hqR hgt
      have hR00 : ¬ R = 0 := by omega
      have HX := Lib.hid hnx
      have HE := Lib.hid hne
      clear hnx hne hq
      by_cases hlt : (R + q) / 2 < R
      · have hlt' : ((R : Int) + (q : Int)) / 2 < (R : Int) := by omega
        go_wp2_with fail
        go_step3
        refine ⟨rfl, ⟨(R + q) / 2, k, _, _, _, _, _, _, _, _, _, _, _, _, _, _, _, _, _, _, _, rfl, rfl, hgt, by omega, HX.out⟩, ?_⟩
        show ((((R : Int) + (q : Int)) / 2).toNat) < ((R : Int)).toNat
        omega
      · have hlt' : ¬ ((R : Int) + (q : Int)) / 2 < (R : Int) := by omega
        go_wp2_with fail
        simp only [Exit.jump]
        go_ret
        have hroot := HE.out (by omega)
        refine ⟨R, rfl, hroot, ?_, k, rfl⟩
        exact sq_lt (Nat.lt_of_le_of_lt hroot.1 (Nat.lt_of_lt_of_le hN (by omega)))

set_option maxHeartbeats 400000 in
theorem root_SqrtInt (n : Int) (h1 : -9223372036854775808 ≤ n) (h2 : n ≤ 9223372036854775807) (w : World) :
    Calls Tryd.prog 47 #[.int .i64 n] w fun e w' => ∃ r : Nat, e = .returned (.int .i64 r) ∧ IsRoot n.toNat r ∧ r < 4294967296 ∧ ∃ k, w' = w.drewN k := by
  by_cases h0 : n < 0
  · go_enter Tryd.func47, Tryd.ntmps47
    go_wp2_with fail
    go_ret
    refine ⟨0, rfl, ?_, by omega, 0, rfl⟩
    rw [show n.toNat = 0 by omega]
    exact IsRoot.zero
  · obtain ⟨m, rfl⟩ : ∃ m : Nat, n = m := ⟨n.toNat, by omega⟩
    have cs := root_sqrtSmall m (by omega) w
    rw [Int.toNat_natCast]
    go_enter Tryd.func47, Tryd.ntmps47
    go_wp2_with fail
    refine cs.mono ?_
    rintro e w1 ⟨r, rfl, hr, hr2, k, rfl⟩
    go_wp2_with fail
    go_ret
    exact ⟨r, rfl, hr, hr2, k, rfl⟩
end Go.Proofs.YtngnclibeccplaaDoor
/- What the program's own above and Sqrt answer: each calls the other. -/

namespace Go.Proofs.YtngnclibeccplaaDoor
open Go.RowKit Num

theorem least_of {p : Nat → Prop} (h : ∃ n, p n) : ∃ n, p n ∧ ∀ m, p m → n ≤ m := by
  obtain ⟨n, hn⟩ := h
  induction n using Nat.strongRecOn with
  | _ n ih =>
    by_cases h : ∃ m, m < n ∧ p m
    · obtain ⟨m, hm, hp⟩ := h
      exact ih m hm hp
    · exact ⟨n, hn, fun m hm => Nat.le_of_not_lt fun hlt => h ⟨m, hlt, hm⟩⟩
/-- a scope in which the run jumps back to one label, with a measure that no frame shows -/
theorem wp_scope_ghost {P : Program} {a : Act} {w : World} {Q : Exit → Act → World → Prop} {c rest : Code} (l : Nat) (J : Nat → Act → World → Prop) (hf : findLabel c l = some rest)
    (first : c.wp P (Exit.jump l (fun a' w' => ∃ n, J n a' w') Q) a w)
    (pass : ∀ n a w, J n a w → rest.wp P (Exit.jump l (fun a' w' => ∃ m, m < n ∧ J m a' w') Q) a w) : (Code.scope c).wp P Q a w := by
  refine wp_scope_jumps l (fun a' w' => ∃ n, J n a' w') (fun a' w' => Classical.epsilon fun n => J n a' w' ∧ ∀ m, J m a' w' → n ≤ m) hf first ?_
  intro a w hJ
  obtain ⟨h1, h2⟩ := Classical.epsilon_spec (least_of hJ)
  refine wp_mono (pass _ a w h1) ?_
  intro e a' w' he
  cases e with
  | goto l' =>
    obtain ⟨hl, m, hm, hJm⟩ := he
    refine ⟨hl, ⟨m, hJm⟩, ?_⟩
    obtain ⟨-, k2⟩ := Classical.epsilon_spec (least_of (p := fun n => J n a' w') ⟨m, hJm⟩)
    exact Nat.lt_of_le_of_lt (k2 m hJm) hm
  | normal => exact he
  | exit id => exact he
  | ret => exact he
  | panic ch => exact he
  | outgrown => exact he

/-- a root -/
def GivesRoot (N : Nat) (w : World) (e : Ending) (w' : World) : Prop :=
  ∃ A xs c, e = .returned (.slice A xs.length c) ∧ xs.length ≤ c ∧ Norm 4294967296 xs ∧ IsRoot N (val 4294967296 xs) ∧ Rd w' (fun g => g < w'.heap.size) .u32 A xs ∧ Below w.heap.size w w'
/-- a number above the root -/
def GivesAbove (N la : Nat) (w : World) (e : Ending) (w' : World) : Prop :=
  ∃ A xs c, e = .returned (.slice A xs.length c) ∧ xs.length ≤ c ∧ xs.length ≤ 2 * la + 4 ∧ Norm 4294967296 xs ∧ 0 < val 4294967296 xs ∧ N < val 4294967296 xs * val 4294967296 xs ∧ Rd w' (fun g => g < w'.heap.size) .u32 A xs ∧ Below w.heap.size w w'

theorem val_drop {b k : Nat} {xs : List Nat} (hd : Dg b xs) (hb : 0 < b) (h : k ≤ xs.length) : val b (xs.drop k) = val b xs / b ^ k := by
  have e := val_split (b := b) h
  have hlt := val_lt (hd.take (n := k))
  rw [List.length_take, Nat.min_eq_left h] at hlt
  rw [e, Nat.add_mul_div_left _ _ (Nat.pow_pos hb), Nat.div_eq_of_lt hlt, Nat.zero_add]
theorem shift_down (N r : Nat) (hr : r < 32) : shiftVal N (-2 * (r : Int)) = N / 2 ^ (2 * r) := by
  unfold shiftVal
  rw [if_neg (by omega)]
  by_cases h : r = 0
  · subst h; simp
  · rw [if_pos (by omega)]
    congr 2
    omega
theorem shift_up (N r : Nat) (hr : r < 32) : shiftVal N (r : Int) = N * 2 ^ r := by
  unfold shiftVal
  rw [if_neg (by omega), if_neg (by omega), Int.toNat_natCast]
theorem shift_half (N : Nat) : shiftVal N (-1) = N / 2 := by
  unfold shiftVal
  rw [if_neg (by omega), if_pos (by omega)]
  show N / 2 ^ 1 = N / 2
  rw [Nat.pow_one]
theorem high_val (N low : Nat) : N / 4294967296 ^ (2 * (low / 32)) / 2 ^ (2 * (low % 32)) = N / (2 ^ low * 2 ^ low) := by
  rw [Nat.div_div_eq_div_mul]
  congr 1
  rw [show (4294967296 : Nat) = 2 ^ 32 from rfl, ← Nat.pow_mul, ← Nat.pow_add, ← Nat.pow_add]
  congr 1
  omega

theorem Num.Own.made (w : World) (t : TypeId) (k : IntKind) (n : Nat) (hn : n ≤ maxLen) : Own (w.alloc (.cells (cells k (List.replicate n 0)).toArray t)) w.heap.size t k (.slice (some ⟨w.heap.size, 0, none⟩) n n) (List.replicate n 0) := by
  unfold Own World.ownsRow
  refine ⟨by rw [length_cells, Nat.mul_one], .inr ⟨w.heap.size, n, _, by rw [List.length_replicate], Nat.le_refl _, heap_alloc_new w _, by rw [List.length_replicate]; exact Nat.le_refl _, hn, by simp [length_cells], ?_⟩⟩
  rw [List.length_replicate, Nat.mul_one]
  exact List.take_of_length_le (by rw [length_cells, List.length_replicate]; exact Nat.le_refl _)
theorem top_append {xs ys : List Nat} (h : Top ys) (hne : ys ≠ []) : Top (xs ++ ys) := by
  unfold Top at *
  rw [List.getLast?_append]
  cases e : ys.getLast? with
  | none => exact absurd (List.getLast?_eq_none_iff.1 e) hne
  | some x => rw [e] at h; simpa using h
theorem up_val (s low : Nat) : 4294967296 ^ (low / 32) * ((s + 1) * 2 ^ (low % 32)) = (s + 1) * 2 ^ low := by
  rw [show (4294967296 : Nat) = 2 ^ 32 from rfl, ← Nat.pow_mul, Nat.mul_left_comm, ← Nat.pow_add]
  congr 2
  omega

end Go.Proofs.YtngnclibeccplaaDoor
/- What the program's own Square answers. -/

namespace Go.Proofs.YtngnclibeccplaaDoor
open Go.RowKit Num

theorem cmpI_zero (a b : Nat) : (cmpI a b == 0) = decide (a = b) := by
  rcases Nat.lt_trichotomy a b with h | h | h
  · rw [cmpI_lt h, decide_eq_false (by omega)]; rfl
  · rw [cmpI_eq h, decide_eq_true h]; rfl
  · rw [cmpI_gt h, decide_eq_false (by omega)]; rfl

end Go.Proofs.YtngnclibeccplaaDoor
