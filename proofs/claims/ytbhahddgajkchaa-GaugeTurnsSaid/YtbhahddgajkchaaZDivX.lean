/- Plain facts about long division: what the highest words say about how often one number is in another one. -/
import Derived.Test.YtbhahddgajkchaaZNatX
import Derived.Test.YtbhahddgajkchaaZNatY
import Derived.BigQuiet
namespace Go.Proofs.Ytbhahddgajkchaa.Num

theorem guess_first {P D0 V0 d2 l2 top head Q B : Nat} (hV0 : V0 < P) (hl2 : l2 < B) (htop : 0 < top) (h : Q * (D0 + P * (d2 + B * top)) ≤ V0 + P * (l2 + B * head)) : Q ≤ head / top := by
  rw [Nat.le_div_iff_mul_le htop]
  rcases Nat.lt_or_ge head (Q * top) with hlt | hge
  · exfalso
    have h1 : P * (B * (head + 1)) ≤ P * (B * (Q * top)) := Nat.mul_le_mul_left _ (Nat.mul_le_mul_left _ hlt)
    have h2 : P * (l2 + 1) ≤ P * B := Nat.mul_le_mul_left _ hl2
    have e1 : Q * (D0 + P * (d2 + B * top)) = Q * D0 + P * (Q * d2) + P * (B * (Q * top)) := by grind
    have e2 : P * (l2 + B * head) = P * l2 + P * (B * head) := by grind
    have e3 : P * (B * (head + 1)) = P * (B * head) + P * B := by grind
    have e4 : P * (l2 + 1) = P * l2 + P := by grind
    omega
  · exact hge

theorem guess_over {q P D0 V0 d2 l2 top head rest B : Nat} (hV0 : V0 < P) (hh : q * top + rest = head) (h : rest * B + l2 < q * d2) : V0 + P * (l2 + B * head) < q * (D0 + P * (d2 + B * top)) := by
  have h1 : P * (l2 + B * head + 1) ≤ P * (q * d2 + B * (q * top)) := Nat.mul_le_mul_left _ (by
    rw [← hh]
    have e : B * (q * top + rest) = B * (q * top) + rest * B := by grind
    omega)
  have e1 : q * (D0 + P * (d2 + B * top)) = q * D0 + P * (q * d2 + B * (q * top)) := by grind
  have e2 : P * (l2 + B * head + 1) = P * (l2 + B * head) + P := by grind
  omega

theorem guess_fits {q d2 l2 top head rest B : Nat} (hh : q * top + rest = head) (h : q * d2 ≤ rest * B + l2) : q * (d2 + B * top) ≤ l2 + B * head := by
  rw [← hh]
  have e : B * (q * top + rest) = B * (q * top) + rest * B := by grind
  have e1 : q * (d2 + B * top) = q * d2 + B * (q * top) := by grind
  omega
theorem guess_break {q d2 l2 top head rest B : Nat} (hh : q * top + rest = head) (hr : B ≤ rest) (hq : q < B) (hd : d2 < B) : q * (d2 + B * top) ≤ l2 + B * head := by
  refine guess_fits hh ?_
  have h1 : q * d2 ≤ B * B := Nat.mul_le_mul (by omega) (by omega)
  have h2 : B * B ≤ rest * B := Nat.mul_le_mul_right _ hr
  omega
theorem guess_close {q P D0 V0 d2 l2 top head B : Nat} (hq : q ≤ B) (hD0 : D0 < P) (htop : 0 < top) (h : q * (d2 + B * top) ≤ l2 + B * head) : (q - 1) * (D0 + P * (d2 + B * top)) ≤ V0 + P * (l2 + B * head) := by
  match q with
  | 0 => simp
  | m + 1 =>
    rw [Nat.add_sub_cancel]
    have h1 : m * D0 ≤ B * P := Nat.mul_le_mul (by omega) (by omega)
    have h2 : P * (B * 1) ≤ P * (d2 + B * top) := Nat.mul_le_mul_left _ (Nat.le_trans (Nat.mul_le_mul_left _ htop) (Nat.le_add_left _ _))
    have h3 : P * ((m + 1) * (d2 + B * top)) ≤ P * (l2 + B * head) := Nat.mul_le_mul_left _ h
    have e1 : m * (D0 + P * (d2 + B * top)) = m * D0 + P * (m * (d2 + B * top)) := by grind
    have e2 : P * ((m + 1) * (d2 + B * top)) = P * (m * (d2 + B * top)) + P * (d2 + B * top) := by grind
    have e3 : P * (B * 1) = B * P := by grind
    omega
/-- the highest word of what is divided isn't above the divisor's -/
theorem guess_top {P D0 V0 d2 l0 l1 l2 top B : Nat} (hD0 : D0 < P) (hd2 : d2 < B) (h : V0 + P * (l2 + B * (l1 + B * l0)) < B * (D0 + P * (d2 + B * top))) : l0 ≤ top := by
  rcases Nat.lt_or_ge top l0 with hlt | hge
  · exfalso
    have h1 : P * (B * (B * (top + 1))) ≤ P * (B * (B * l0)) := Nat.mul_le_mul_left _ (Nat.mul_le_mul_left _ (Nat.mul_le_mul_left _ hlt))
    have e1 : P * (l2 + B * (l1 + B * l0)) = P * l2 + P * (B * l1) + P * (B * (B * l0)) := by grind
    have e2 : B * (D0 + P * (d2 + B * top)) = B * (D0 + P * d2) + P * (B * (B * top)) := by grind
    have h3 : P * (d2 + 1) ≤ P * B := Nat.mul_le_mul_left _ hd2
    have e3 : P * (d2 + 1) = P * d2 + P := by grind
    have h2 : B * (D0 + P * d2) ≤ B * (P * B) := Nat.mul_le_mul_left _ (by omega)
    have e4 : P * (B * (B * (top + 1))) = P * (B * (B * top)) + B * (P * B) := by grind
    omega
  · exact hge
theorem guess_word {q top rest head l0 l1 B : Nat} (hh : q * top + rest = head) (hr : B ≤ rest) (hl0 : l0 ≤ top) (hl1 : l1 < B) (e : head = l1 + B * l0) : q < B := by
  rcases Nat.lt_or_ge q B with hlt | hge
  · exact hlt
  · have h1 : B * l0 ≤ q * top := Nat.mul_le_mul hge hl0
    omega
theorem guess_next {q top rest head : Nat} (hh : q * top + rest = head) (hq : 1 ≤ q) : (q - 1) * top + (rest + top) = head := by
  rw [← hh]
  match q with
  | m + 1 => rw [Nat.add_sub_cancel]; grind
theorem quot_le {Q q D V : Nat} (hQ : Q = V / D) (h : V < q * D) : Q ≤ q - 1 := by
  have h1 : Q < q := by rw [hQ]; exact Nat.div_lt_of_lt_mul (by rw [Nat.mul_comm]; exact h)
  omega
theorem quot_ge {q D V : Nat} (hD : 0 < D) (h : (q - 1) * D ≤ V) : q ≤ V / D + 1 := by
  have := (Nat.le_div_iff_mul_le hD).2 h
  omega
theorem val_three {b k : Nat} {x : List Nat} (h : x.length = k + 3) : val b x = val b (x.take k) + b ^ k * (x[k] + b * (x[k + 1] + b * x[k + 2])) := by
  have h1 := val_take_succ (b := b) (xs := x) (k := k) (by omega)
  have h2 := val_take_succ (b := b) (xs := x) (k := k + 1) (by omega)
  have h3 := val_take_succ (b := b) (xs := x) (k := k + 2) (by omega)
  rw [List.take_of_length_le (by omega)] at h3
  rw [h3, h2, h1, Nat.pow_succ, Nat.pow_succ]
  grind
theorem val_two {b k : Nat} {x : List Nat} (h : x.length = k + 2) : val b x = val b (x.take k) + b ^ k * (x[k] + b * x[k + 1]) := by
  have h1 := val_take_succ (b := b) (xs := x) (k := k) (by omega)
  have h2 := val_take_succ (b := b) (xs := x) (k := k + 1) (by omega)
  rw [List.take_of_length_le (by omega)] at h2
  rw [h2, h1, Nat.pow_succ]
  grind
/-- taking q times d off, word by word -/
theorem times_step {b X Y c x y q v k : Nat} {ys : List Nat} (hk : ys.length = k) (h : val b ys + Y * q = X + b ^ k * c) (hb : 0 < b) (hv : v = c + y * q) (hw : x < b) :
    val b (ys ++ [(b + x - v % b) % b]) + (Y + b ^ k * y) * q = X + b ^ k * x + b ^ (k + 1) * (v / b + (1 - (b + x - v % b) / b)) := by
  rw [val_snoc, hk]
  have h1 : (b + x - v % b) % b + v = x + b * (v / b + (1 - (b + x - v % b) / b)) := by
    have hm := Nat.mod_lt v hb
    have hd := Nat.div_add_mod v b
    rcases Nat.lt_or_ge x (v % b) with hlt | hge
    · have e1 : (b + x - v % b) / b = 0 := Nat.div_eq_of_lt (by omega)
      rw [e1, Nat.mod_eq_of_lt (by omega), Nat.mul_add, Nat.sub_zero, Nat.mul_one]
      omega
    · have e0 : b + x - v % b = (x - v % b) + b := by omega
      have e1 : (b + x - v % b) / b = 1 := by rw [e0, Nat.add_div_right _ hb, Nat.div_eq_of_lt (by omega)]
      have e2 : (b + x - v % b) % b = x - v % b := by rw [e0, Nat.add_mod_right, Nat.mod_eq_of_lt (by omega)]
      rw [e1, e2, Nat.sub_self, Nat.add_zero]
      omega
  have h2 : b ^ k * ((b + x - v % b) % b) + b ^ k * v = b ^ k * x + b ^ (k + 1) * (v / b + (1 - (b + x - v % b) / b)) := by
    rw [← Nat.mul_add, h1, Nat.mul_add, Nat.pow_succ, Nat.mul_assoc]
  have e3 : (Y + b ^ k * y) * q = Y * q + b ^ k * (y * q) := by grind
  have e4 : b ^ k * v = b ^ k * c + b ^ k * (y * q) := by rw [hv, Nat.mul_add]
  rw [e3]
  omega
/-- what is carried stays a word -/
theorem times_carry {c x y q : Nat} (hc : c < 4294967296) (hy : y < 4294967296) (hq : q < 4294967296) :
    (c + y * q) / 4294967296 + (1 - (4294967296 + x - (c + y * q) % 4294967296) / 4294967296) < 4294967296 := by
  have h1 : y * q ≤ 4294967295 * 4294967295 := Nat.mul_le_mul (by omega) (by omega)
  generalize y * q = z at h1
  omega
/-- the words that are left, and how often -/
theorem take_fine {V D q E : Nat} (h : E + D * q = V) (h1 : V / D ≤ q) (hD : 0 < D) : q = V / D ∧ E = V % D := by
  have h2 : q ≤ V / D := by
    rw [Nat.le_div_iff_mul_le hD, Nat.mul_comm]; omega
  have e : q = V / D := by omega
  refine ⟨e, ?_⟩
  have := Nat.div_add_mod V D
  rw [← e] at this
  omega
/-- too much was taken, and is given back once -/
theorem take_back {E C V D q P cc : Nat} (hE : E < P) (hD : D ≤ P) (hC : C < P) (h1 : C + D * q = V + P) (h2 : E + P * cc = C + D) (h3 : (q - 1) * D ≤ V) : 1 ≤ q ∧ V < q * D ∧ E + D * (q - 1) = V := by
  match q with
  | 0 => rw [Nat.mul_zero] at h1; omega
  | m + 1 =>
    rw [Nat.add_sub_cancel] at h3 ⊢
    have e1 : D * (m + 1) = D * m + D := Nat.mul_succ D m
    have e2 : (m + 1) * D = D * m + D := by rw [Nat.mul_comm]; exact e1
    rw [Nat.mul_comm] at h3
    refine ⟨by omega, by omega, ?_⟩
    rcases (show cc = 0 ∨ cc = 1 ∨ 2 ≤ cc by omega) with h | h | h
    · subst h; rw [Nat.mul_zero] at h2; omega
    · subst h; rw [Nat.mul_one] at h2; omega
    · have : P * 2 ≤ P * cc := Nat.mul_le_mul_left _ h
      omega
theorem seg_splice {zs cs : List Nat} {off n : Nat} (hc : cs.length = n) (ho : off ≤ zs.length) : ((splice zs off cs).drop off).take n = cs := by
  simp only [splice]
  rw [List.drop_left' (by rw [List.length_take]; omega), List.take_left' hc]
theorem splice_again {zs cs es : List Nat} {off : Nat} (h : es.length = cs.length) (ho : off ≤ zs.length) : splice (splice zs off cs) off es = splice zs off es := by
  simp only [splice]
  rw [List.take_left' (by rw [List.length_take]; omega), h, ← List.drop_drop, List.drop_left' (by rw [List.length_take]; omega), List.drop_left' rfl]
end Go.Proofs.Ytbhahddgajkchaa.Num
/- What the program's own long division answers: divWord, guess. -/

namespace Go.Proofs.Ytbhahddgajkchaa
open Go.RowKit Num

theorem div_word_step {V p d q r : Nat} (hd : 0 < d) (hr : V % d = r) (hq : V / d = q) : (p + 4294967296 * V) / d = (p + 4294967296 * r) / d + 4294967296 * q ∧ (p + 4294967296 * V) % d = (p + 4294967296 * r) % d := by
  have h := Nat.div_add_mod V d
  rw [hr, hq] at h
  have e : p + 4294967296 * V = (p + 4294967296 * r) + d * (4294967296 * q) := by rw [← h]; grind
  rw [e, Nat.add_mul_div_left _ _ hd, Nat.add_mul_mod_self_left]
  exact ⟨rfl, rfl⟩

theorem u64_quo (N D : Nat) (hN : N < 18446744073709551616) : IntKind.u64.wrap ((N : Int) / (D : Int)) = ((N / D : Nat) : Int) := by
  have h2 : N / D < 18446744073709551616 := Nat.lt_of_le_of_lt (Nat.div_le_self _ _) hN
  rw [← Int.natCast_ediv]
  generalize N / D = q at h2
  exact IntWalk.u64_in _ (by omega)

end Go.Proofs.Ytbhahddgajkchaa
/- What the program's own long division answers: takeTimes, takeAll. -/

namespace Go.Proofs.Ytbhahddgajkchaa
open Go.RowKit Num

theorem dg_splice {b off : Nat} {zs cs : List Nat} (hz : Dg b zs) (hc : Dg b cs) : Dg b (splice zs off cs) := by
  simp only [splice]
  exact Dg.append.2 ⟨hz.take, Dg.append.2 ⟨hc, hz.drop⟩⟩

end Go.Proofs.Ytbhahddgajkchaa
/- What the program's own long division answers: divWords. -/

namespace Go.Proofs.Ytbhahddgajkchaa
open Go.RowKit Num

/-- moving up by as many bits as are free at the top loses none -/
theorem lead_zeros {x : Nat} (h0 : 0 < x) (hx : x < 4294967296) : ∃ s : Nat, s < 32 ∧ (32 - (Lib.bitLen x : Int)) = (s : Int) ∧ (x + 1) * 2 ^ s ≤ 4294967296 := by
  have hb := isBits_bitLen x (by omega)
  obtain ⟨z, hz⟩ : ∃ z, Lib.bitLen x = z := ⟨_, rfl⟩
  rw [hz] at hb ⊢
  have hz1 : 1 ≤ z := by
    rcases Nat.eq_zero_or_pos z with h | h
    · subst h; have := hb.1; simp at this; omega
    · exact h
  have hz32 : z ≤ 32 := by
    rcases hb.2 with h1 | h1
    · omega
    · have h2 := Nat.lt_of_le_of_lt h1 (show x < 2 ^ 32 by omega)
      have := (Nat.pow_lt_pow_iff_right (show 1 < 2 by omega)).1 h2
      omega
  refine ⟨32 - z, by omega, by omega, ?_⟩
  have h1 : (x + 1) * 2 ^ (32 - z) ≤ 2 ^ z * 2 ^ (32 - z) := Nat.mul_le_mul_right _ hb.1
  rw [← Nat.pow_add, show z + (32 - z) = 32 by omega] at h1
  exact h1
theorem val_le_top {k : Nat} {b : List Nat} (hb : Dg 4294967296 b) (hl : b.length = k + 2) : 4294967296 ^ (k + 1) * b[k + 1] ≤ val 4294967296 b ∧ val 4294967296 b < 4294967296 ^ (k + 1) * (b[k + 1] + 1) := by
  have h1 := val_take_succ (b := 4294967296) (xs := b) (k := k + 1) (by omega)
  rw [List.take_of_length_le (by omega)] at h1
  have h2 := val_lt (b := 4294967296) (xs := b.take (k + 1)) hb.take
  rw [List.length_take, Nat.min_eq_left (by omega)] at h2
  rw [h1, Nat.mul_add, Nat.mul_one]
  omega

/-- a number below b^n has nothing behind its n lowest words -/
theorem low_words {B D n p : Nat} {rs : List Nat} (h : Dg B (p :: rs)) (hr : val B rs < D) (hD : D * B ≤ B ^ n) : val B ((p :: rs).take n) = p + B * val B rs ∧ val B ((p :: rs).drop n) = 0 := by
  have hp := (Dg.cons.1 h).1
  have e0 : val B (p :: rs) = p + B * val B rs := rfl
  have h2 : p + B * val B rs < B ^ n := by
    have : B * (val B rs + 1) ≤ B * D := Nat.mul_le_mul_left _ hr
    rw [Nat.mul_add, Nat.mul_one, Nat.mul_comm B D] at this
    omega
  rcases Nat.le_total n (p :: rs).length with hn | hn
  · have h1 := val_split (b := B) (k := n) (xs := p :: rs) hn
    have h3 : val B ((p :: rs).drop n) = 0 := by
      rcases Nat.eq_zero_or_pos (val B ((p :: rs).drop n)) with h0 | h0
      · exact h0
      · have : B ^ n * 1 ≤ B ^ n * val B ((p :: rs).drop n) := Nat.mul_le_mul_left _ h0
        omega
    rw [h3, Nat.mul_zero, Nat.add_zero] at h1
    exact ⟨by rw [← h1]; rfl, h3⟩
  · rw [List.take_of_length_le hn, List.drop_of_length_le hn]
    exact ⟨rfl, rfl⟩
theorem set_zero {i v : Nat} {qs : List Nat} : (List.replicate (i + 1) 0 ++ qs).set i v = List.replicate i 0 ++ (v :: qs) := by
  rw [List.replicate_succ', List.append_assoc, List.set_append_right _ _ (by simp)]
  simp
theorem splice_tail {Z Y cs : List Nat} {i : Nat} (h : Z.length = i) : splice (Z ++ Y) i cs = Z ++ (cs ++ Y.drop cs.length) := by
  simp only [splice]
  rw [List.take_left' h, ← List.drop_drop, List.drop_left' h]
theorem low_lt {B p V D : Nat} (hp : p < B) (h : V < D) : p + B * V < B * D := by
  have : B * (V + 1) ≤ B * D := Nat.mul_le_mul_left _ h
  rw [Nat.mul_add, Nat.mul_one] at this
  omega

end Go.Proofs.Ytbhahddgajkchaa
/- What the program's own Div answers. -/

namespace Go.Proofs.Ytbhahddgajkchaa
open Go.RowKit Num

end Go.Proofs.Ytbhahddgajkchaa
