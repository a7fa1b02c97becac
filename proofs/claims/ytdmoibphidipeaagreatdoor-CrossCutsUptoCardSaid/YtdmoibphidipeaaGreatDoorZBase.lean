/- Plain mathematics of numbers as lists of digits, the lowest first: values, digits, no noughts at the top. No program is named here. -/
import Derived.WalkKit
import Derived.WalkSpells
import Derived.Deep.Draws
import Derived.Laws.Rows
import Derived.Deep.AppendLies
import Derived.Laws.CopyOwn
import Derived.Shelf.Small.Bits
import Derived.Shelf.Small.Wraps
import Derived.Shelf.Strconv.Itoa0
import Derived.Shelf.Strconv.Itoa1
import Derived.Shelf.LaysM
import Derived.Shelf.Strconv.Itoa2
import Derived.Shelf.Strconv.AppendUint10
import Derived.Shelf.Strconv.AppendInt10
import Derived.Ground.SlsfProg
import Derived.Shelf.SlSortCmp.Insertion
import Derived.Shelf.SlSortCmp.SiftDown1
import Derived.Shelf.SlSortCmp.HeapSort1
import Derived.Shelf.SlSortCmp.Insertion1
import Derived.Shelf.SlSortCmp.Median1
import Derived.Shelf.SlSortCmp.Pivot1
import Derived.Shelf.SlSortCmp.ReverseRange1
import Derived.Shelf.SlSortCmp.PartialInsertion1
import Derived.Shelf.SlSortCmp.PartitionEqual1
import Derived.Shelf.SlSortCmp.Partition1
import Derived.Shelf.SlSortCmp.Pdq1
import Derived.Shelf.SlSortCmp.Whole1
import Derived.Shelf.SlSortCmp.NoneTotal
import Derived.Test.YtdmoibphidipeaaGreatDoorProg
namespace Go.Proofs.YtdmoibphidipeaaGreatDoor.Num

def val (b : Nat) : List Nat → Nat
  | [] => 0
  | x :: r => x + b * val b r
def Dg (b : Nat) (xs : List Nat) : Prop := ∀ x ∈ xs, x < b
def Top (xs : List Nat) : Prop := xs.getLast? ≠ some 0
def Norm (b : Nat) (xs : List Nat) : Prop := Dg b xs ∧ Top xs

theorem val_nil (b : Nat) : val b [] = 0 := rfl
theorem val_cons (b x : Nat) (r : List Nat) : val b (x :: r) = x + b * val b r := rfl
theorem val_append (b : Nat) (xs ys : List Nat) : val b (xs ++ ys) = val b xs + b ^ xs.length * val b ys := by
  induction xs with
  | nil => simp [val]
  | cons x r ih => simp only [List.cons_append, val_cons, ih, List.length_cons, Nat.pow_succ]; grind
theorem val_snoc (b x : Nat) (xs : List Nat) : val b (xs ++ [x]) = val b xs + b ^ xs.length * x := by
  rw [val_append]; simp [val]
theorem val_zeros (b n : Nat) : val b (List.replicate n 0) = 0 := by
  induction n with
  | zero => rfl
  | succ n ih => simp [List.replicate_succ, val_cons, ih]
theorem val_all_zero (b : Nat) (xs : List Nat) (h : ∀ x ∈ xs, x = 0) : val b xs = 0 := by
  induction xs with
  | nil => rfl
  | cons x r ih => rw [val_cons, ih (fun y hy => h y (by simp [hy])), h x (by simp)]; simp

theorem Dg.nil (b : Nat) : Dg b [] := fun _ h => by cases h
theorem Dg.cons {b x : Nat} {r : List Nat} : Dg b (x :: r) ↔ x < b ∧ Dg b r := by simp [Dg]
theorem Dg.append {b : Nat} {xs ys : List Nat} : Dg b (xs ++ ys) ↔ Dg b xs ∧ Dg b ys := by
  constructor
  · intro h; exact ⟨fun x hx => h x (by simp [hx]), fun x hx => h x (by simp [hx])⟩
  · rintro ⟨h1, h2⟩ x hx
    rcases List.mem_append.1 hx with h | h
    · exact h1 x h
    · exact h2 x h
theorem Dg.snoc {b x : Nat} {xs : List Nat} (h : Dg b xs) (hx : x < b) : Dg b (xs ++ [x]) := Dg.append.2 ⟨h, by simpa [Dg] using hx⟩
theorem Dg.take {b n : Nat} {xs : List Nat} (h : Dg b xs) : Dg b (xs.take n) := fun x hx => h x (List.mem_of_mem_take hx)
theorem Dg.drop {b n : Nat} {xs : List Nat} (h : Dg b xs) : Dg b (xs.drop n) := fun x hx => h x (List.mem_of_mem_drop hx)
theorem Dg.get {b : Nat} {xs : List Nat} (h : Dg b xs) {j : Nat} (hj : j < xs.length) : xs[j] < b := h _ (List.getElem_mem hj)
theorem Dg.zeros {b n : Nat} (hb : 0 < b) : Dg b (List.replicate n 0) := fun x hx => by have := List.eq_of_mem_replicate hx; omega
theorem Dg.getD {b : Nat} {xs : List Nat} (h : Dg b xs) (hb : 0 < b) (j : Nat) : xs.getD j 0 < b := by
  by_cases hj : j < xs.length
  · rw [List.getD_eq_getElem?_getD, List.getElem?_eq_getElem hj]; exact h.get hj
  · rw [List.getD_eq_getElem?_getD, List.getElem?_eq_none (by omega)]; exact hb

theorem val_lt {b : Nat} {xs : List Nat} (h : Dg b xs) : val b xs < b ^ xs.length := by
  induction xs with
  | nil => simp [val]
  | cons x r ih =>
    have h1 := (Dg.cons.1 h).1
    have h2 := ih (Dg.cons.1 h).2
    rw [val_cons, List.length_cons, Nat.pow_succ]
    have h3 : b * (val b r + 1) ≤ b * b ^ r.length := Nat.mul_le_mul_left _ h2
    rw [Nat.mul_comm (b ^ r.length) b]
    rw [Nat.mul_add] at h3; omega

theorem val_lt_pow {b n : Nat} {xs : List Nat} (h : Dg b xs) (hb : 0 < b) (hn : xs.length ≤ n) : val b xs < b ^ n :=
  Nat.lt_of_lt_of_le (val_lt h) (Nat.pow_le_pow_right hb hn)

theorem Top.cons {x : Nat} {r : List Nat} (h : Top (x :: r)) : Top r := by
  unfold Top at *
  cases r with
  | nil => simp
  | cons y r => simpa using h

theorem top_of_zero {x : Nat} {r : List Nat} {b : Nat} (h : Top (x :: r)) (h0 : val b (x :: r) = 0) (hb : 0 < b) : False := by
  induction r generalizing x with
  | nil => simp [val, Top] at *; exact h h0
  | cons y r ih =>
    have h1 : val b (y :: r) = 0 := by
      rw [val_cons] at h0
      have h2 : b * val b (y :: r) = 0 := by omega
      rcases Nat.mul_eq_zero.1 h2 with h | h <;> omega
    exact ih h.cons h1

/-- TWO LISTS WITHOUT NOUGHTS AT THE TOP THAT HAVE ONE VALUE ARE ONE. -/
theorem Norm.ext {b : Nat} {xs ys : List Nat} (hb : 1 < b) (hx : Norm b xs) (hy : Norm b ys) (h : val b xs = val b ys) : xs = ys := by
  induction xs generalizing ys with
  | nil =>
    cases ys with
    | nil => rfl
    | cons y r => exact (top_of_zero hy.2 (by rw [← h]; rfl) (by omega)).elim
  | cons x r ih =>
    cases ys with
    | nil => exact (top_of_zero hx.2 (by rw [h]; rfl) (by omega)).elim
    | cons y s =>
      obtain ⟨hx1, hx2⟩ := Dg.cons.1 hx.1
      obtain ⟨hy1, hy2⟩ := Dg.cons.1 hy.1
      rw [val_cons, val_cons] at h
      have e1 : x = y := by
        have h1 : (x + b * val b r) % b = (y + b * val b s) % b := by rw [h]
        rw [Nat.add_mul_mod_self_left, Nat.add_mul_mod_self_left, Nat.mod_eq_of_lt hx1, Nat.mod_eq_of_lt hy1] at h1
        exact h1
      subst e1
      have e2 : val b r = val b s := by
        have h2 : b * val b r = b * val b s := by omega
        exact Nat.eq_of_mul_eq_mul_left (by omega) h2
      rw [ih ⟨hx2, hx.2.cons⟩ ⟨hy2, hy.2.cons⟩ e2]

theorem top_le {b : Nat} {xs : List Nat} (ht : Top xs) (hne : xs ≠ []) : b ^ (xs.length - 1) ≤ val b xs := by
  induction xs with
  | nil => exact absurd rfl hne
  | cons x r ih =>
    cases r with
    | nil =>
      have : x ≠ 0 := by intro e; subst e; simp [Top] at ht
      simp [val]; omega
    | cons y s =>
      have h := ih ht.cons (by simp)
      rw [val_cons]
      simp only [List.length_cons, Nat.add_sub_cancel] at h ⊢
      rw [Nat.pow_succ, Nat.mul_comm]
      have := Nat.mul_le_mul_left b h
      omega
theorem Top.length_le {b n : Nat} {xs : List Nat} (ht : Top xs) (hb : 1 < b) (h : val b xs < b ^ n) : xs.length ≤ n := by
  by_cases hne : xs = []
  · subst hne; simp
  · have h1 := Nat.lt_of_le_of_lt (top_le ht hne) h
    have h2 := (Nat.pow_lt_pow_iff_right hb).1 h1
    have : 0 < xs.length := List.length_pos_iff.2 hne
    omega
theorem Top.nil_iff {b : Nat} {xs : List Nat} (ht : Top xs) (hb : 0 < b) : xs = [] ↔ val b xs = 0 := by
  constructor
  · rintro rfl; rfl
  · intro h
    cases xs with
    | nil => rfl
    | cons x r => exact (top_of_zero ht h hb).elim

/-- what stands behind place n is nought: it counts for nothing. -/
theorem val_take_of_zero {b n : Nat} {xs : List Nat} (h : ∀ j, n ≤ j → ∀ hj : j < xs.length, xs[j] = 0) : val b (xs.take n) = val b xs := by
  have h1 : val b xs = val b (xs.take n ++ xs.drop n) := by rw [List.take_append_drop]
  rw [h1, val_append, val_all_zero b (xs.drop n)]
  · simp
  · intro x hx
    obtain ⟨j, hj, rfl⟩ := List.getElem_of_mem hx
    rw [List.getElem_drop]
    exact h _ (by omega) _
theorem top_take {n : Nat} {xs : List Nat} (hn : n ≤ xs.length) (h : n = 0 ∨ ∃ h : n - 1 < xs.length, xs[n - 1] ≠ 0) : Top (xs.take n) := by
  unfold Top
  by_cases h0 : n = 0
  · subst h0; simp
  · obtain h | ⟨h1, h2⟩ := h
    · exact absurd h h0
    · rw [List.getLast?_eq_getElem?, List.length_take, Nat.min_eq_left hn, List.getElem?_take, if_pos (by omega), List.getElem?_eq_getElem h1]
      simpa using h2
theorem Norm.take {b n : Nat} {xs : List Nat} (hd : Dg b xs) (hn : n ≤ xs.length) (h : n = 0 ∨ ∃ h : n - 1 < xs.length, xs[n - 1] ≠ 0) : Norm b (xs.take n) := ⟨hd.take, top_take hn h⟩

theorem take_succ_get {xs : List Nat} {k : Nat} (h : k < xs.length) : xs.take (k + 1) = xs.take k ++ [xs[k]] := by
  rw [List.take_succ_eq_append_getElem h]
theorem val_take_succ {b k : Nat} {xs : List Nat} (h : k < xs.length) : val b (xs.take (k + 1)) = val b (xs.take k) + b ^ k * xs[k] := by
  rw [take_succ_get h, val_snoc, List.length_take, Nat.min_eq_left (by omega)]
theorem val_split {b k : Nat} {xs : List Nat} (h : k ≤ xs.length) : val b xs = val b (xs.take k) + b ^ k * val b (xs.drop k) := by
  have := val_append b (xs.take k) (xs.drop k)
  rw [List.take_append_drop, List.length_take, Nat.min_eq_left h] at this
  exact this
theorem val_drop_succ {b k : Nat} {xs : List Nat} (h : k < xs.length) : val b (xs.drop k) = xs[k] + b * val b (xs.drop (k + 1)) := by
  rw [List.drop_eq_getElem_cons h, val_cons]

theorem top_of_le {b : Nat} {xs : List Nat} (hd : Dg b xs) (h : b ^ (xs.length - 1) ≤ val b xs) : Top xs := by
  intro hl
  obtain ⟨ys, rfl⟩ : ∃ ys, xs = ys ++ [0] := by
    rcases List.eq_nil_or_concat xs with rfl | ⟨ys, y, rfl⟩
    · simp at hl
    · simp at hl; exact ⟨ys, by simp [hl]⟩
  rw [val_snoc] at h
  have := val_lt (Dg.append.1 hd).1
  simp at h
  omega
theorem val_lt_of_digit {b i : Nat} {xs ys : List Nat} (hx : Dg b xs) (hi : i < xs.length) (hj : i < ys.length) (hd : xs.drop (i + 1) = ys.drop (i + 1)) (hlt : xs[i] < ys[i]) : val b xs < val b ys := by
  rw [val_split (b := b) (k := i) (xs := xs) (by omega), val_split (b := b) (k := i) (xs := ys) (by omega), val_drop_succ hi, val_drop_succ hj, hd]
  have h1 := val_lt (b := b) (xs := xs.take i) hx.take
  rw [List.length_take, Nat.min_eq_left (by omega)] at h1
  have h2 : b ^ i * (xs[i] + 1) ≤ b ^ i * ys[i] := Nat.mul_le_mul_left _ hlt
  rw [Nat.mul_add] at h2
  rw [Nat.mul_add, Nat.mul_add]
  omega

/-- digits with getD: 0 behind the last one. -/
def ext (xs : List Nat) (n : Nat) : List Nat := (List.range n).map fun j => xs.getD j 0
theorem length_ext (xs : List Nat) (n : Nat) : (ext xs n).length = n := by simp [ext]
theorem ext_succ (xs : List Nat) (n : Nat) : ext xs (n + 1) = ext xs n ++ [xs.getD n 0] := by simp [ext, List.range_succ]
theorem val_ext {b n : Nat} {xs : List Nat} (h : xs.length ≤ n) : val b (ext xs n) = val b xs := by
  have e : ext xs n = xs ++ List.replicate (n - xs.length) 0 := by
    apply List.ext_getElem
    · simp [ext]; omega
    · intro i h1 h2
      simp only [ext, List.getElem_map, List.getElem_range, List.getD_eq_getElem?_getD, List.getElem_append]
      by_cases hi : i < xs.length
      · simp [hi]
      · simp [hi]
  rw [e, val_append, val_zeros]; simp
theorem Dg.ext {b n : Nat} {xs : List Nat} (h : Dg b xs) (hb : 0 < b) : Dg b (ext xs n) := by
  intro x hx
  simp only [Num.ext, List.mem_map] at hx
  obtain ⟨j, _, rfl⟩ := hx
  exact h.getD hb j

theorem get_ext {xs : List Nat} {n j : Nat} (h : j < (ext xs n).length) : (ext xs n)[j] = xs.getD j 0 := by simp [ext]
/-- the first digit from the top that differs tells. -/
theorem val_lt_of_getD {b i : Nat} {xs ys : List Nat} (hx : Dg b xs) (hb : 0 < b) (hab : ∀ j, i < j → xs.getD j 0 = ys.getD j 0) (hlt : xs.getD i 0 < ys.getD i 0) : val b xs < val b ys := by
  obtain ⟨n, hn⟩ : ∃ n, n = max (i + 1) (max xs.length ys.length) := ⟨_, rfl⟩
  rw [← val_ext (b := b) (n := n) (xs := xs) (by omega), ← val_ext (b := b) (n := n) (xs := ys) (by omega)]
  have l1 := length_ext xs n
  have l2 := length_ext ys n
  refine val_lt_of_digit (i := i) (hx.ext hb) (by omega) (by omega) ?_ (by rw [get_ext, get_ext]; exact hlt)
  apply List.ext_getElem
  · simp [l1, l2]
  · intro j h1 h2
    rw [List.getElem_drop, List.getElem_drop, get_ext, get_ext]
    exact hab _ (by omega)
theorem val_eq_of_getD {b : Nat} {xs ys : List Nat} (hab : ∀ j, xs.getD j 0 = ys.getD j 0) : val b xs = val b ys := by
  obtain ⟨n, hn⟩ : ∃ n, n = max xs.length ys.length := ⟨_, rfl⟩
  rw [← val_ext (b := b) (n := n) (xs := xs) (by omega), ← val_ext (b := b) (n := n) (xs := ys) (by omega)]
  congr 1
  apply List.ext_getElem
  · simp [length_ext]
  · intro j h1 h2
    rw [get_ext, get_ext, hab]
theorem getD_ge {xs : List Nat} {j : Nat} (h : xs.length ≤ j) : xs.getD j 0 = 0 := by simp [List.getD_eq_getElem?_getD, h]

/-- two digits of 16 bits are one word -/
theorem pow_two_halves (k : Nat) : 4294967296 ^ k = 65536 ^ (2 * k) := by
  rw [Nat.pow_mul]
theorem words_two {ys D : List Nat} (hv : val 4294967296 ys = val 65536 (D.take (2 * ys.length))) (h : 2 * ys.length + 1 < D.length) :
    val 4294967296 (ys ++ [D[2 * ys.length] + D[2 * ys.length + 1] * 65536]) = val 65536 (D.take (2 * (ys.length + 1))) := by
  rw [val_snoc, hv, show 2 * (ys.length + 1) = 2 * ys.length + 1 + 1 from rfl, val_take_succ h, val_take_succ (show 2 * ys.length < D.length by omega), pow_two_halves, Nat.pow_succ]
  grind
theorem words_one {ys D : List Nat} (hv : val 4294967296 ys = val 65536 (D.take (2 * ys.length))) (h : 2 * ys.length + 1 = D.length) :
    val 4294967296 (ys ++ [D[2 * ys.length]]) = val 65536 (D.take (2 * (ys.length + 1))) := by
  have e : D.take (2 * (ys.length + 1)) = D.take (2 * ys.length + 1) := by rw [List.take_of_length_le (by omega), List.take_of_length_le (by omega)]
  rw [val_snoc, hv, e, val_take_succ (show 2 * ys.length < D.length by omega), pow_two_halves]
theorem words_top {ys D : List Nat} (hv : val 4294967296 ys = val 65536 D) (hd : Dg 4294967296 ys) (ht : Top D) (h : 2 * ys.length ≤ D.length + 1) : Top ys := by
  by_cases h0 : ys = []
  · subst h0; simp [Top]
  · have hp := List.length_pos_iff.2 h0
    refine top_of_le hd ?_
    rw [hv, pow_two_halves]
    refine Nat.le_trans ?_ (top_le ht (by rintro rfl; simp at h; omega))
    exact Nat.pow_le_pow_right (by omega) (by omega)

/-- one digit of a sum -/
theorem add_step {b X Y c x y k : Nat} {ys : List Nat} (hk : ys.length = k) (h : val b ys + b ^ k * c = X + Y) :
    val b (ys ++ [(x + y + c) % b]) + b ^ (k + 1) * ((x + y + c) / b) = (X + b ^ k * x) + (Y + b ^ k * y) := by
  have h1 := Nat.mod_add_div (x + y + c) b
  have h2 : b ^ k * ((x + y + c) % b) + b ^ k * (b * ((x + y + c) / b)) = b ^ k * (x + y + c) := by rw [← Nat.mul_add, h1]
  rw [val_snoc, hk, Nat.pow_succ, Nat.mul_assoc]
  grind
/-- one digit of a difference: c is what was borrowed -/
theorem sub_step {b X Y c x y k v : Nat} {ys : List Nat} (hk : ys.length = k) (h : val b ys + Y = X + b ^ k * c) (hv : v + y + c = b + x) (hb : v < 2 * b) :
    val b (ys ++ [v % b]) + (Y + b ^ k * y) = (X + b ^ k * x) + b ^ (k + 1) * (1 - v / b) := by
  have hb0 : 0 < b := by omega
  have h1 := Nat.mod_add_div v b
  rw [val_snoc, hk, Nat.pow_succ, Nat.mul_assoc]
  have hq : v / b < 2 := (Nat.div_lt_iff_lt_mul hb0).2 hb
  obtain ⟨q, hqe⟩ : ∃ q, v / b = q := ⟨_, rfl⟩
  obtain ⟨r, hre⟩ : ∃ r, v % b = r := ⟨_, rfl⟩
  rw [hqe] at hq h1 ⊢
  rw [hre] at h1 ⊢
  rcases (show q = 0 ∨ q = 1 by omega) with rfl | rfl
  · have h2 : r + y + c = b + x := by omega
    have h3 := congrArg (b ^ k * ·) h2
    simp only [Nat.mul_add] at h3
    simp only [Nat.sub_zero, Nat.mul_one]
    omega
  · have h2 : r + y + c = x := by omega
    have h3 := congrArg (b ^ k * ·) h2
    simp only [Nat.mul_add] at h3
    simp only [Nat.sub_self, Nat.mul_zero]
    omega
theorem val_ext_succ (b : Nat) (xs : List Nat) (k : Nat) : val b (ext xs (k + 1)) = val b (ext xs k) + b ^ k * xs.getD k 0 := by
  rw [ext_succ, val_snoc, length_ext]
theorem val_ext_zero (b : Nat) (xs : List Nat) : val b (ext xs 0) = 0 := rfl

theorem carry_zero {b n V X Y c : Nat} (hb : 2 ≤ b) (hx : X < b ^ n) (hy : Y < b ^ n) (h : V + b ^ (n + 1) * c = X + Y) : c = 0 := by
  rcases Nat.eq_zero_or_pos c with h0 | h0
  · exact h0
  · have h1 : b ^ (n + 1) * 1 ≤ b ^ (n + 1) * c := Nat.mul_le_mul_left _ h0
    have h2 : b ^ n * 2 ≤ b ^ n * b := Nat.mul_le_mul_left _ hb
    rw [Nat.pow_succ] at h h1
    omega

theorem borrow_zero {b n V X Y c : Nat} (hc : c ≤ 1) (hV : V < b ^ n) (hle : Y ≤ X) (h : V + Y = X + b ^ n * c) : c = 0 := by
  rcases (show c = 0 ∨ c = 1 by omega) with rfl | rfl
  · rfl
  · rw [Nat.mul_one] at h; omega

/-- a digit of a number -/
theorem digit {b q : Nat} {xs : List Nat} (h : Dg b xs) (hb : 0 < b) : val b xs / b ^ q % b = xs.getD q 0 := by
  have hp : 0 < b ^ q := Nat.pow_pos hb
  by_cases hq : q < xs.length
  · have h1 := val_lt (b := b) (xs := xs.take q) h.take
    rw [List.length_take, Nat.min_eq_left (by omega)] at h1
    rw [val_split (b := b) (k := q) (xs := xs) (by omega), Nat.add_mul_div_left _ _ hp, Nat.div_eq_of_lt h1, Nat.zero_add, val_drop_succ hq, Nat.add_mul_mod_self_left, Nat.mod_eq_of_lt (h.get hq)]
    simp [List.getD_eq_getElem?_getD, hq]
  · rw [getD_ge (by omega), Nat.div_eq_of_lt (val_lt_pow h hb (by omega)), Nat.zero_mod]
/-- a bit of a number of digits of 16 bits -/
theorem bit_of {i : Nat} {xs : List Nat} (h : Dg 65536 xs) : xs.getD (i / 16) 0 / 2 ^ (i % 16) % 2 = ((val 65536 xs).testBit i).toNat := by
  have hd := digit (q := i / 16) h (by omega)
  have e : (65536 : Nat) ^ (i / 16) = 2 ^ (16 * (i / 16)) := by rw [Nat.pow_mul]
  have e2 : (2 : Nat) ^ i = 2 ^ (16 * (i / 16)) * 2 ^ (i % 16) := by rw [← Nat.pow_add]; congr 1; omega
  rw [Nat.testBit_eq_decide_div_mod_eq, e2, ← Nat.div_div_eq_div_mul, ← e, ← hd]
  generalize val 65536 xs / 65536 ^ (i / 16) = M
  have hr : i % 16 < 16 := Nat.mod_lt _ (by omega)
  generalize i % 16 = r at hr
  have e3 : (65536 : Nat) = 2 ^ r * (2 ^ (15 - r) * 2) := by
    rw [← Nat.pow_succ, ← Nat.pow_add, show r + (15 - r).succ = 16 by omega]
  have h1 : M / 2 ^ r % 2 = M % 65536 / 2 ^ r % 2 := by
    rw [e3, Nat.mod_mul_right_div_self, Nat.mod_mul_left_mod]
  rw [← h1]
  have h2 := Nat.mod_two_eq_zero_or_one (M / 2 ^ r)
  rcases h2 with h2 | h2 <;> simp [h2]

/-- how many bits a number has -/
def IsBits (N n : Nat) : Prop := N < 2 ^ n ∧ (n = 0 ∨ 2 ^ (n - 1) ≤ N)
theorem IsBits.unique {N m n : Nat} (h : IsBits N m) (k : IsBits N n) : m = n := by
  have aux : ∀ {m n : Nat}, IsBits N m → IsBits N n → ¬ m < n := by
    intro m n h k hlt
    rcases k.2 with h0 | h1
    · omega
    · have h2 : 2 ^ m ≤ 2 ^ (n - 1) := Nat.pow_le_pow_right (by omega) (by omega)
      have := h.1
      omega
  have h1 := aux h k
  have h2 := aux k h
  omega

/-- the bits of a number of words -/
theorem bits_words {ys : List Nat} {m : Nat} (hn : Norm 4294967296 ys) (hne : ys ≠ []) (hm : IsBits (ys[ys.length - 1]'(by have := List.length_pos_iff.2 hne; omega)) m) : IsBits (val 4294967296 ys) (32 * (ys.length - 1) + m) := by
  have hp := List.length_pos_iff.2 hne
  have h1 := val_lt (b := 4294967296) (xs := ys.take (ys.length - 1)) hn.1.take
  rw [List.length_take, Nat.min_eq_left (by omega)] at h1
  have h2 := val_take_succ (b := 4294967296) (xs := ys) (k := ys.length - 1) (by omega)
  rw [Nat.sub_add_cancel hp, List.take_length] at h2
  have e : (4294967296 : Nat) ^ (ys.length - 1) = 2 ^ (32 * (ys.length - 1)) := by rw [Nat.pow_mul]
  rw [e] at h1 h2
  have ht : ys[ys.length - 1]'(by omega) ≠ 0 := by
    intro h0
    refine hn.2 ?_
    rw [List.getLast?_eq_getElem?, List.getElem?_eq_getElem (by omega), h0]
  obtain ⟨hm1, hm2⟩ := hm
  generalize ys[ys.length - 1]'(by omega) = x at *
  have hm0 : m ≠ 0 := by rintro rfl; simp at hm1; exact ht hm1
  refine ⟨?_, .inr ?_⟩
  · rw [h2, Nat.pow_add]
    have := Nat.mul_le_mul_left (2 ^ (32 * (ys.length - 1))) (show x + 1 ≤ 2 ^ m from hm1)
    rw [Nat.mul_add] at this
    omega
  · rw [h2, show 32 * (ys.length - 1) + m - 1 = 32 * (ys.length - 1) + (m - 1) by omega, Nat.pow_add]
    have := Nat.mul_le_mul_left (2 ^ (32 * (ys.length - 1))) (hm2.resolve_left hm0)
    omega

/-- one digit of a product by a digit, added -/
theorem mul_step {b X Y c x p q k : Nat} {ys : List Nat} (hk : ys.length = k) (h : val b ys + b ^ k * c = X + Y * x) :
    val b (ys ++ [(c + (x * q + p)) % b]) + b ^ (k + 1) * ((c + (x * q + p)) / b) = (X + b ^ k * p) + (Y + b ^ k * q) * x := by
  have h1 := Nat.mod_add_div (c + (x * q + p)) b
  have h2 : b ^ k * ((c + (x * q + p)) % b) + b ^ k * (b * ((c + (x * q + p)) / b)) = b ^ k * (c + (x * q + p)) := by rw [← Nat.mul_add, h1]
  rw [val_snoc, hk, Nat.pow_succ, Nat.mul_assoc]
  grind

/-- one word of a product, laid behind those that stand -/
theorem mul_row {b A B x k cy : Nat} {cs ds : List Nat} (hk : k ≤ cs.length) (hv : val b cs = A * B) (hd : val b ds + b ^ ds.length * cy = val b (cs.drop k) + A * x) :
    val b (cs.take k ++ ds ++ [cy]) = A * (B + b ^ k * x) := by
  have h1 := val_split (b := b) hk
  have hl : (cs.take k).length = k := by rw [List.length_take]; omega
  rw [List.append_assoc, val_append, hl, val_snoc, hd, Nat.mul_add, ← Nat.add_assoc, ← h1, hv]
  grind

theorem len_le {b : Nat} {xs a : List Nat} (hb : 1 < b) (ht : Top xs) (ha : Dg b a) (h : val b xs ≤ val b a) : xs.length ≤ a.length :=
  ht.length_le hb (Nat.lt_of_le_of_lt h (val_lt ha))
theorem len_add {b n : Nat} {xs x y : List Nat} (hb : 1 < b) (ht : Top xs) (hx : Dg b x) (hy : Dg b y) (h : val b xs = val b x + val b y) (h1 : x.length ≤ n) (h2 : y.length ≤ n) : xs.length ≤ n + 1 := by
  refine ht.length_le hb ?_
  have h3 := val_lt_pow hx (by omega) h1
  have h4 := val_lt_pow hy (by omega) h2
  have h5 : b ^ n * 2 ≤ b ^ n * b := Nat.mul_le_mul_left _ hb
  rw [h, Nat.pow_succ]
  omega
theorem len_mul {b : Nat} {xs x y : List Nat} (hb : 1 < b) (ht : Top xs) (hx : Dg b x) (hy : Dg b y) (h : val b xs = val b x * val b y) : xs.length ≤ x.length + y.length := by
  refine ht.length_le hb ?_
  rw [h, Nat.pow_add]
  exact Nat.mul_lt_mul'' (val_lt hx) (val_lt hy)

/-- division bit by bit -/
theorem div_step_lt {D P c : Nat} (hD : 0 < D) (h : 2 * (P % D) + c < D) : (2 * P + c) / D = 2 * (P / D) ∧ (2 * P + c) % D = 2 * (P % D) + c := by
  have e : 2 * P + c = (2 * (P % D) + c) + D * (2 * (P / D)) := by
    have := Nat.div_add_mod P D
    grind
  rw [e, Nat.add_mul_div_left _ _ hD, Nat.add_mul_mod_self_left, Nat.div_eq_of_lt h, Nat.mod_eq_of_lt h]
  exact ⟨by omega, rfl⟩
theorem div_step_ge {D P c : Nat} (hD : 0 < D) (hc : c ≤ 1) (h : D ≤ 2 * (P % D) + c) : (2 * P + c) / D = 2 * (P / D) + 1 ∧ (2 * P + c) % D = 2 * (P % D) + c - D := by
  have hm := Nat.mod_lt P hD
  have hl : 2 * (P % D) + c - D < D := by omega
  have e : 2 * P + c = (2 * (P % D) + c - D) + D * (2 * (P / D) + 1) := by
    have := Nat.div_add_mod P D
    have h2 : D * (2 * (P / D) + 1) = 2 * (D * (P / D)) + D := by grind
    rw [h2]; omega
  rw [e, Nat.add_mul_div_left _ _ hD, Nat.add_mul_mod_self_left, Nat.div_eq_of_lt hl, Nat.mod_eq_of_lt hl]
  exact ⟨by omega, rfl⟩
theorem prefix_step (N i : Nat) : N / 2 ^ i = 2 * (N / 2 ^ (i + 1)) + (N.testBit i).toNat := by
  have h : (N.testBit i).toNat = N / 2 ^ i % 2 := by
    rw [Nat.testBit_eq_decide_div_mod_eq]
    rcases Nat.mod_two_eq_zero_or_one (N / 2 ^ i) with h | h <;> simp [h]
  rw [h, Nat.pow_succ, ← Nat.div_div_eq_div_mul]
  omega
theorem val_set {b j v : Nat} {xs : List Nat} (h : j < xs.length) : val b (xs.set j v) + b ^ j * xs[j] = val b xs + b ^ j * v := by
  induction xs generalizing j with
  | nil => simp at h
  | cons x r ih =>
    cases j with
    | zero => simp [val_cons]; omega
    | succ j =>
      have := ih (j := j) (by simpa using h)
      simp only [List.set_cons_succ, val_cons, List.getElem_cons_succ, Nat.pow_succ]
      grind
theorem Dg.set {b j v : Nat} {xs : List Nat} (h : Dg b xs) (hv : v < b) : Dg b (xs.set j v) := fun x hx => by
  rcases List.mem_or_eq_of_mem_set hx with h1 | h1
  · exact h x h1
  · omega

theorem dbl_carry {b n V R D c c0 : Nat} (hb : 2 ≤ b) (hR : R < D) (hD : D < b ^ n) (h0 : c0 ≤ 1) (h : V + b ^ (n + 1) * c = c0 + R * 2) : c = 0 := by
  rcases Nat.eq_zero_or_pos c with h1 | h1
  · exact h1
  · have h2 : b ^ (n + 1) * 1 ≤ b ^ (n + 1) * c := Nat.mul_le_mul_left _ h1
    have h3 : b ^ n * 2 ≤ b ^ n * b := Nat.mul_le_mul_left _ hb
    rw [Nat.pow_succ] at h h2
    omega
/-- a bit more of a quotient -/
theorem digit_room {xs : List Nat} {k m : Nat} (hx : Dg 65536 xs) (h : val 65536 xs = 2 ^ (k + 1) * m) : xs.getD (k / 16) 0 + 2 ^ (k % 16) < 65536 := by
  have hd := digit (q := k / 16) hx (by omega)
  have e : (65536 : Nat) ^ (k / 16) = 2 ^ (16 * (k / 16)) := by rw [Nat.pow_mul]
  have e2 : (2 : Nat) ^ (k + 1) = 2 ^ (16 * (k / 16)) * 2 ^ (k % 16 + 1) := by rw [← Nat.pow_add]; congr 1; omega
  have hp : 0 < (2 : Nat) ^ (16 * (k / 16)) := Nat.pow_pos (by omega)
  rw [h, e, e2, Nat.mul_assoc, Nat.mul_div_cancel_left _ hp] at hd
  have hr : k % 16 < 16 := Nat.mod_lt _ (by omega)
  generalize k % 16 = r at hd hr ⊢
  have e3 : (65536 : Nat) = 2 ^ (r + 1) * 2 ^ (15 - r) := by
    rw [← Nat.pow_add, show r + 1 + (15 - r) = 16 by omega]
  have h2 : 2 ^ (r + 1) * m % 65536 = 2 ^ (r + 1) * (m % 2 ^ (15 - r)) := by rw [e3, Nat.mul_mod_mul_left]
  have h3 : m % 2 ^ (15 - r) + 1 ≤ 2 ^ (15 - r) := Nat.mod_lt _ (Nat.pow_pos (by omega))
  have h4 := Nat.mul_le_mul_left (2 ^ (r + 1)) h3
  rw [Nat.mul_add, ← h2, hd, ← e3] at h4
  have h5 : (2 : Nat) ^ r < 2 ^ (r + 1) := Nat.pow_lt_pow_right (by omega) (by omega)
  omega
theorem pow_split16 (k : Nat) : (2 : Nat) ^ k = 65536 ^ (k / 16) * 2 ^ (k % 16) := by
  have e : (65536 : Nat) ^ (k / 16) = 2 ^ (16 * (k / 16)) := by rw [Nat.pow_mul]
  rw [e, ← Nat.pow_add]; congr 1; omega

/-- a word moved up by s bits, over what was moved out of the one below -/
theorem or_up {p b s : Nat} (hb : b < 4294967296) (hs : s < 32) :
    (p * 2 ^ s % 4294967296) ||| (b / 2 ^ (32 - s)) = (b / 2 ^ (32 - s) + (2 ^ s * p + 0)) % 4294967296 ∧ (b / 2 ^ (32 - s) + (2 ^ s * p + 0)) / 4294967296 = p / 2 ^ (32 - s) := by
  have e : (4294967296 : Nat) = 2 ^ s * 2 ^ (32 - s) := by rw [← Nat.pow_add, show s + (32 - s) = 32 by omega]
  have ht : 0 < 2 ^ (32 - s) := Nat.pow_pos (by omega)
  have hr : 0 < 2 ^ s := Nat.pow_pos (by omega)
  have hc : b / 2 ^ (32 - s) < 2 ^ s := by
    rw [Nat.div_lt_iff_lt_mul ht, ← e]; exact hb
  have h1 := Nat.div_add_mod p (2 ^ (32 - s))
  have h2 := Nat.mod_lt p ht
  generalize hcc : b / 2 ^ (32 - s) = c at *
  have h3 : 2 ^ s * p = 4294967296 * (p / 2 ^ (32 - s)) + 2 ^ s * (p % 2 ^ (32 - s)) := by
    rw [e, Nat.mul_assoc, ← Nat.mul_add, h1]
  have h4 : 2 ^ s * (p % 2 ^ (32 - s)) + c < 4294967296 := by
    have h5 := Nat.mul_le_mul_left (2 ^ s) (show p % 2 ^ (32 - s) + 1 ≤ 2 ^ (32 - s) from h2)
    rw [Nat.mul_add, ← e] at h5
    omega
  have h6 : p * 2 ^ s % 4294967296 = 2 ^ s * (p % 2 ^ (32 - s)) := by
    rw [Nat.mul_comm p, h3, Nat.mul_add_mod_self_left, Nat.mod_eq_of_lt (by omega)]
  have h7 : c + (2 ^ s * p + 0) = (2 ^ s * (p % 2 ^ (32 - s)) + c) + 4294967296 * (p / 2 ^ (32 - s)) := by rw [h3]; omega
  rw [h6, h7, Nat.add_mul_mod_self_left, Nat.add_mul_div_left _ _ (by omega), Nat.mod_eq_of_lt h4, Nat.div_eq_of_lt h4, Nat.zero_add]
  exact ⟨(Nat.two_pow_add_eq_or_of_lt hc _).symm, rfl⟩
/-- a word moved down by s bits, under what was moved out of the one above -/
theorem or_down {p b s : Nat} (hp : p < 4294967296) (hs : s < 32) :
    (p / 2 ^ s) ||| (b * 2 ^ (32 - s) % 4294967296) = p / 2 ^ s + 2 ^ (32 - s) * (b % 2 ^ s) := by
  have e : (4294967296 : Nat) = 2 ^ (32 - s) * 2 ^ s := by rw [← Nat.pow_add, show 32 - s + s = 32 by omega]
  have hr : 0 < 2 ^ s := Nat.pow_pos (by omega)
  have hc : p / 2 ^ s < 2 ^ (32 - s) := by
    rw [Nat.div_lt_iff_lt_mul hr, ← e]; exact hp
  have h6 : b * 2 ^ (32 - s) % 4294967296 = 2 ^ (32 - s) * (b % 2 ^ s) := by
    rw [Nat.mul_comm b, e, Nat.mul_mod_mul_left]
  rw [h6, Nat.or_comm, ← Nat.two_pow_add_eq_or_of_lt hc, Nat.add_comm]
theorem down_step {x V a s : Nat} (hs : s < 32) (ha : V % 4294967296 = a) : (x + 4294967296 * V) / 2 ^ s = (x / 2 ^ s + 2 ^ (32 - s) * (a % 2 ^ s)) + 4294967296 * (V / 2 ^ s) := by
  have e : (4294967296 : Nat) = 2 ^ s * 2 ^ (32 - s) := by rw [← Nat.pow_add, show s + (32 - s) = 32 by omega]
  have hr : 0 < 2 ^ s := Nat.pow_pos (by omega)
  have h1 : a % 2 ^ s = V % 2 ^ s := by rw [← ha, e, Nat.mod_mul_right_mod]
  have h2 := Nat.div_add_mod V (2 ^ s)
  rw [h1, show x + 4294967296 * V = x + 2 ^ s * (2 ^ (32 - s) * V) by rw [← Nat.mul_assoc, ← e], Nat.add_mul_div_left _ _ hr]
  have h3 : 2 ^ (32 - s) * V = 4294967296 * (V / 2 ^ s) + 2 ^ (32 - s) * (V % 2 ^ s) := by
    rw [e, Nat.mul_comm (2 ^ s), Nat.mul_assoc, ← Nat.mul_add, h2]
  omega

/-- how two numbers stand -/
def cmpI (a b : Nat) : Int := if a < b then -1 else if b < a then 1 else 0

theorem cmpI_lt {a b : Nat} (h : a < b) : cmpI a b = -1 := by simp [cmpI, h]
theorem cmpI_gt {a b : Nat} (h : b < a) : cmpI a b = 1 := by unfold cmpI; rw [if_neg (by omega), if_pos h]
theorem cmpI_eq {a b : Nat} (h : a = b) : cmpI a b = 0 := by subst h; simp [cmpI]

theorem cmpI_neg (a b : Nat) : cmpI a b < 0 ↔ a < b := by
  unfold cmpI
  split
  · simp_all
  · split <;> simp_all

end Go.Proofs.YtdmoibphidipeaaGreatDoor.Num
/- Words on memory: a slice of integers that reads as a list of digits; a block that is known whole; what a call leaves as it was. -/

namespace Go.Proofs.YtdmoibphidipeaaGreatDoor.Num
open Go.RowKit

theorem add_mk (g o j : Nat) : (⟨g, o, none⟩ : Addr).add j = ⟨g, o + j, none⟩ := by unfold Addr.add; split <;> simp_all

/-- the cells of digits -/
def cells (k : IntKind) (xs : List Nat) : List Value := xs.map fun n : Nat => Value.int k (n : Int)
theorem length_cells (k : IntKind) (xs : List Nat) : (cells k xs).length = xs.length := by simp [cells]
theorem get_cells {k : IntKind} {xs : List Nat} {j : Nat} (h : j < xs.length) : (cells k xs)[j]? = some (.int k (xs[j] : Int)) := by simp [cells, h]
theorem one_cells (k : IntKind) (xs : List Nat) : ∀ u ∈ cells k xs, u.oneCell' = true := by
  intro u hu
  obtain ⟨_, _, rfl⟩ := List.mem_map.1 hu
  rfl
theorem cells_append (k : IntKind) (xs ys : List Nat) : cells k (xs ++ ys) = cells k xs ++ cells k ys := by simp [cells]
theorem cells_zeros (k : IntKind) (n : Nat) : (madeCells #[.int k 0] n).toList = cells k (List.replicate n 0) := by
  rw [toList_madeCells_one]; simp [cells]

/-- THE SLICE WITH ADDRESS A READS AS xs, and lies in a block of which S holds. -/
def Rd (w : World) (S : Nat → Prop) (k : IntKind) (A : Option Addr) (xs : List Nat) : Prop :=
  0 < xs.length → ∃ b o, A = some ⟨b, o, none⟩ ∧ S b ∧ ∀ (j : Nat) (h : j < xs.length), w.cell? ⟨b, o + j, none⟩ = some (.int k (xs[j] : Int))

section
variable {w w' : World} {S S' : Nat → Prop} {k : IntKind} {A : Option Addr} {xs : List Nat}
theorem Rd.nil : Rd w S k A [] := fun h => absurd h (by simp)
theorem Rd.at_ (h : Rd w S k A xs) {j : Nat} (hj : j < xs.length) : ∃ b o, A = some ⟨b, o, none⟩ ∧ S b ∧ w.cell? ⟨b, o + j, none⟩ = some (.int k (xs[j] : Int)) := by
  obtain ⟨b, o, rfl, hb, hc⟩ := h (by omega)
  exact ⟨b, o, rfl, hb, hc j hj⟩
theorem Rd.keep (h : Rd w S k A xs) (hk : ∀ p : Addr, S p.block → w'.cell? p = w.cell? p) : Rd w' S k A xs := fun hn => by
  obtain ⟨b, o, e, hb, hc⟩ := h hn
  exact ⟨b, o, e, hb, fun j hj => (hk _ hb).trans (hc j hj)⟩
theorem Rd.imp (h : Rd w S k A xs) (hS : ∀ b, S b → S' b) : Rd w S' k A xs := fun hn => by
  obtain ⟨b, o, e, hb, hc⟩ := h hn
  exact ⟨b, o, e, hS _ hb, hc⟩
theorem Rd.below {B : Nat} (h : Rd w S k A xs) (hb : Below B w w') (hS : ∀ b, S b → b < B) : Rd w' S k A xs := h.keep fun _ hp => hb.cell (hS _ hp)
theorem Rd.grown {row : Option Nat} (h : Rd w S k A xs) (hg : w.grownBy w' row) (hS : ∀ b, S b → b < w.heap.size ∧ some b ≠ row) : Rd w' S k A xs :=
  h.keep fun p hp => World.cell?_of_block (hg.block p.block (hS _ hp).1 (hS _ hp).2)
theorem Rd.drewN (h : Rd w S k A xs) (n : Nat) : Rd (w.drewN n) S k A xs := h
theorem Rd.take (h : Rd w S k A xs) (n : Nat) : Rd w S k A (xs.take n) := fun hn => by
  have hl : (xs.take n).length ≤ xs.length := by simp; omega
  obtain ⟨b, o, e, hb, hc⟩ := h (by omega)
  exact ⟨b, o, e, hb, fun j hj => by rw [hc j (by omega), List.getElem_take]⟩
theorem Rd.below_size (h : Rd w S k A xs) : Rd w (fun b => S b ∧ b < w.heap.size) k A xs := fun hn => by
  obtain ⟨b, o, e, hb, hc⟩ := h hn
  refine ⟨b, o, e, ⟨hb, ?_⟩, hc⟩
  have h0 := hc 0 hn
  rcases Nat.lt_or_ge b w.heap.size with hlt | hge
  · exact hlt
  · have : w.cell? ⟨b, o + 0, none⟩ = none := by
      simp only [World.cell?, Array.getElem?_eq_none hge]
    rw [this] at h0; cases h0
theorem Rd.on (h : Rd w (fun g => g < w.heap.size) k A xs) (hb : Below w.heap.size w w') : Rd w' (fun g => g < w'.heap.size) k A xs :=
  (h.below hb (fun _ hg => hg)).imp fun _ hg => Nat.lt_of_lt_of_le hg hb.size
end

/-- BLOCK g IS JUST THE CELLS OF cs. -/
def Row (w : World) (g : Nat) (t : TypeId) (k : IntKind) (cs : List Nat) : Prop := w.heap[g]? = some (.cells (cells k cs).toArray t (0, 0))
section
variable {w w' : World} {g : Nat} {t : TypeId} {k : IntKind} {cs : List Nat}
theorem Row.lt (h : Row w g t k cs) : g < w.heap.size := by
  rcases Nat.lt_or_ge g w.heap.size with hlt | hge
  · exact hlt
  · unfold Row at h; rw [Array.getElem?_eq_none hge] at h; cases h
theorem Row.cell (h : Row w g t k cs) {i : Nat} (hi : i < cs.length) : w.cell? ⟨g, i, none⟩ = some (.int k (cs[i] : Int)) := by
  rw [cell_of_row w g i _ t (0, 0) h]
  simpa using get_cells hi
theorem Row.frozen (h : Row w g t k cs) (i : Nat) : w.frozen? ⟨g, i, none⟩ = false := frozen_of_row w g i _ t h
theorem Row.rd (h : Row w g t k cs) {S : Nat → Prop} (hS : S g) {off n : Nat} (hn : off + n ≤ cs.length) : Rd w S k (some ⟨g, off, none⟩) ((cs.drop off).take n) := fun _ =>
  ⟨_, _, rfl, hS, fun j hj => by
    have hj' : j < min n (cs.length - off) := by simpa using hj
    rw [h.cell (i := off + j) (by omega), List.getElem_take, List.getElem_drop]⟩
theorem Row.rd_all (h : Row w g t k cs) {S : Nat → Prop} (hS : S g) : Rd w S k (some ⟨g, 0, none⟩) cs := by
  have := h.rd hS (off := 0) (n := cs.length) (by omega)
  simpa using this
theorem Row.new (w : World) (t : TypeId) (k : IntKind) (cs : List Nat) : Row (w.alloc (.cells (cells k cs).toArray t)) w.heap.size t k cs := heap_alloc_new w _
theorem Row.at_new (w : World) (t : TypeId) (k : IntKind) (cs : List Nat) {g : Nat} (hg : g = w.heap.size) : Row (w.alloc (.cells (cells k cs).toArray t)) g t k cs := by rw [hg]; exact Row.new w t k cs
theorem Row.drewN (h : Row w g t k cs) (n : Nat) : Row (w.drewN n) g t k cs := h
theorem Row.set (h : Row w g t k cs) (i v : Nat) : Row (w.setCell ⟨g, i, none⟩ (.int k (v : Int))) g t k (cs.set i v) := by
  have := heap_setCell_same w g i _ t (.int k (v : Int)) h
  unfold Row
  rw [this]
  congr 2
  simp [cells, List.map_set]
theorem Row.below {B : Nat} (h : Row w g t k cs) (hb : Below B w w') (hg : g < B) : Row w' g t k cs := (hb.block g hg).trans h
theorem Row.grown {row : Option Nat} (h : Row w g t k cs) (hb : w.grownBy w' row) (hg : some g ≠ row) : Row w' g t k cs := (hb.block g h.lt hg).trans h
theorem Row.alloc (h : Row w g t k cs) (o : Obj) : Row (w.alloc o) g t k cs := (Below.heap_alloc w o g h.lt).trans h
theorem Row.far (h : Row w g t k cs) {p : Addr} (hp : g ≠ p.block) (u : Value) : Row (w.setCell p u) g t k cs := (Below.heap_setCell w p u g hp).trans h
end

theorem grown_setCell {w0 w : World} {g : Nat} (h : w0.grownBy w (some g)) (i : Nat) (u : Value) : w0.grownBy (w.setCell ⟨g, i, none⟩ u) (some g) :=
  ⟨h.os, h.tape, h.output, by simpa [World.setCell] using h.size, fun i hi hne => (Below.heap_setCell w _ u i (by rintro rfl; exact hne rfl)).trans (h.block i hi hne)⟩
theorem grown_drewN {a w : World} {row : Option Nat} (h : a.grownBy w row) (n : Nat) : a.grownBy (w.drewN n) row := ⟨h.os, h.tape, h.output, h.size, h.block⟩
theorem grown_trans {a b c : World} {row : Option Nat} (h : a.grownBy b row) (k : b.grownBy c row) : a.grownBy c row :=
  ⟨k.os.trans h.os, k.tape.trans h.tape, k.output.trans h.output, Nat.le_trans h.size k.size, fun i hi hne => (k.block i (Nat.lt_of_lt_of_le hi h.size) hne).trans (h.block i hi hne)⟩
theorem below_drewN {B : Nat} {a w : World} (h : Below B a w) (n : Nat) : Below B a (w.drewN n) := ⟨h.os, h.tape, h.output, h.size, h.block⟩
theorem below_grown {B g : Nat} {a b c : World} (h : Below B a b) (k : b.grownBy c (some g)) (hB : B ≤ b.heap.size) (hg : B ≤ g) : Below B a c := h.grown k hB (fun _ e => by injection e with e; omega)

/-- owned by append: it reads as xs. -/
theorem Rd.of_own {w : World} {base : Nat} {e : TypeId} {k : IntKind} {A : Option Addr} {c : Nat} {xs : List Nat} (h : w.ownsRow base e 1 (.slice A xs.length c) xs.length (cells k xs)) : Rd w (fun b => base ≤ b ∧ b < w.heap.size) k A xs := by
  intro hn
  obtain ⟨g, cap, hv, hb, hlt⟩ := h.form hn
  have hA : A = some ⟨g, 0, none⟩ := by injection hv
  subst hA
  refine ⟨_, _, rfl, ⟨hb, hlt⟩, fun j hj => ?_⟩
  have := h.cells (g := g) rfl j _ (get_cells hj)
  rwa [add_mk] at this

/-- DIGITS THAT THE CALL OWNS: gathered by append. -/
def Own (w : World) (base : Nat) (t : TypeId) (k : IntKind) (v : Value) (xs : List Nat) : Prop := w.ownsRow base t 1 v xs.length (cells k xs)
section
variable {w w' : World} {base : Nat} {t : TypeId} {k : IntKind} {v : Value} {xs : List Nat}
theorem Own.nil (w : World) (base : Nat) (t : TypeId) (k : IntKind) : Own w base t k (.slice none 0 0) [] := World.ownsRow_nil w base t 1
theorem Own.alloc (h : Own w base t k v xs) (o : Obj) : Own (w.alloc o) base t k v xs := World.ownsRow.alloc h o
theorem Own.drew (h : Own w base t k v xs) : Own w.drew base t k v xs := h
theorem Own.drewN (h : Own w base t k v xs) (n : Nat) : Own (w.drewN n) base t k v xs := h
theorem Own.form (h : Own w base t k v xs) : ∃ A c, v = .slice A xs.length c ∧ xs.length ≤ c ∧ (A = none → c = 0) ∧ Rd w (fun b => base ≤ b ∧ b < w.heap.size) k A xs := by
  rcases h.2 with ⟨rfl, h0⟩ | ⟨g, cap, cur, rfl, hb, hg, hnc, _⟩
  · have e : xs = [] := List.eq_nil_of_length_eq_zero h0
    subst e
    exact ⟨none, 0, rfl, by simp, fun _ => rfl, Rd.nil⟩
  · exact ⟨_, _, rfl, hnc, (fun h => by cases h), Rd.of_own h⟩
theorem Own.below {B : Nat} (h : Own w base t k v xs) (hb : Below B w w') (hB : w.heap.size ≤ B) : Own w' base t k v xs := by
  refine ⟨h.1, ?_⟩
  rcases h.2 with h2 | ⟨g, cap, cur, hv, hg, hh, r⟩
  · exact .inl h2
  · refine .inr ⟨g, cap, cur, hv, hg, ?_, r⟩
    have hlt : g < w.heap.size := by
      rcases Nat.lt_or_ge g w.heap.size with hlt | hge
      · exact hlt
      · rw [Array.getElem?_eq_none hge] at hh; cases hh
    rw [hb.block g (by omega)]; exact hh
theorem Own.block_ge (h : Own w base t k v xs) : ∀ g, v.ownBlock = some g → base ≤ g := by
  intro g hg
  rcases h.2 with ⟨rfl, _⟩ | ⟨g', cap, cur, rfl, hb, _⟩
  · cases hg
  · simp [Value.ownBlock] at hg; omega
end

section
variable {P : Program} {w : World} {ops : Array Oper} {o : Oper} {a : Act}
/-- 'append(v, x..)', the digits x in a block that was just made: at a step of a region that draws its order. -/
theorem step_app {K : Act → World → Prop} {Q : Exit → Act → World → Prop} {E : Prop} (hgd : o.guard = none) (s x : Operand) (t : TypeId)
    (ho : o.op = .call { callee := .builtin .append, args := #[s, x], argTypes := #[t, t] })
    (base : Nat) (e : TypeId) (k : IntKind) (bytes : Nat) (ht : P.underlying t = some (.slice e)) (hi : (P.info? e).map (fun i => (i.zero, i.size, i.bytes)) = some (some (.int k 0), 1, bytes))
    (v : Value) (xs : List Nat) (hs : a.eval s = v) (hown : Own w base e k v xs)
    (g0 m c : Nat) (news : List Nat) (hx : a.eval x = .slice (some ⟨g0, 0, none⟩) m c) (hm : news.length = m) (hblk : Row w g0 e k news)
    (hpos : 0 < m) (hlen : xs.length + m ≤ 4294967296) (h8 : bytes ≤ 8) (hbase : base ≤ w.heap.size)
    (h : ∀ v' w', Own w' base e k v' (xs ++ news) → w.grownBy w' v.ownBlock → K (a.put o.dst v') w') :
    if Region.wanted o (yielded ops a.tmps) = true then Oper.wp P o a w K Q else E := by
  obtain ⟨i, hi, hz0, hz1, hz2⟩ := info_parts hi
  refine step_append_lies w hgd s x t ho base e i _ 1 bytes ht hi hz0 hz1 hz2 rfl (by omega) v xs.length _ hs hown ⟨g0, 0, none⟩ m c (cells k news) hx (by rw [length_cells]; omega)
    (fun j u hu => ?_) (one_cells _ _) hpos (by unfold maxLen; omega) ?_ hbase w.heap.size rfl ?_
  · rw [add_mk]
    have hj : j < news.length := by have := (List.getElem?_eq_some_iff.1 hu).1; rwa [length_cells] at this
    rw [get_cells hj] at hu
    rw [Nat.zero_add, hblk.cell hj, hu]
  · have : (xs.length + m) * bytes ≤ 4294967296 * 8 := Nat.mul_le_mul hlen h8
    omega
  · intro g cap w' h1 h2 _ _
    refine h _ w' ?_ h2
    unfold Own
    rw [List.length_append, hm, cells_append]
    exact h1
theorem wpList_app {rest : List Oper} {Q : Exit → Act → World → Prop} (hgd : o.guard = none) (s x : Operand) (t : TypeId)
    (ho : o.op = .call { callee := .builtin .append, args := #[s, x], argTypes := #[t, t] })
    (base : Nat) (e : TypeId) (k : IntKind) (bytes : Nat) (ht : P.underlying t = some (.slice e)) (hi : (P.info? e).map (fun i => (i.zero, i.size, i.bytes)) = some (some (.int k 0), 1, bytes))
    (v : Value) (xs : List Nat) (hs : a.eval s = v) (hown : Own w base e k v xs)
    (g0 m c : Nat) (news : List Nat) (hx : a.eval x = .slice (some ⟨g0, 0, none⟩) m c) (hm : news.length = m) (hblk : Row w g0 e k news)
    (hpos : 0 < m) (hlen : xs.length + m ≤ 4294967296) (h8 : bytes ≤ 8) (hbase : base ≤ w.heap.size)
    (h : ∀ v' w', Own w' base e k v' (xs ++ news) → w.grownBy w' v.ownBlock → wpList P ops Q rest (a.put o.dst v') w') : wpList P ops Q (o :: rest) a w := by
  obtain ⟨i, hi, hz0, hz1, hz2⟩ := info_parts hi
  refine wpList_append_lies w hgd s x t ho base e i _ 1 bytes ht hi hz0 hz1 hz2 rfl (by omega) v xs.length _ hs hown ⟨g0, 0, none⟩ m c (cells k news) hx (by rw [length_cells]; omega)
    (fun j u hu => ?_) (one_cells _ _) hpos (by unfold maxLen; omega) ?_ hbase w.heap.size rfl ?_
  · rw [add_mk]
    have hj : j < news.length := by have := (List.getElem?_eq_some_iff.1 hu).1; rwa [length_cells] at this
    rw [get_cells hj] at hu
    rw [Nat.zero_add, hblk.cell hj, hu]
  · have : (xs.length + m) * bytes ≤ 4294967296 * 8 := Nat.mul_le_mul hlen h8
    omega
  · intro g cap w' h1 h2 _ _
    refine h _ w' ?_ h2
    unfold Own
    rw [List.length_append, hm, cells_append]
    exact h1
end

theorem tmod_nat (x b : Nat) : ((x : Int)).tmod (b : Int) = ((x % b : Nat) : Int) := by
  rw [Int.tmod_eq_emod_of_nonneg (by omega)]; omega
/-- only the own row and new blocks have changed -/
theorem below_app {B : Nat} {a b c : World} {base : Nat} {t : TypeId} {k : IntKind} {v : Value} {xs : List Nat} (h : Below B a b) (hg : b.grownBy c v.ownBlock) (ho : Own b base t k v xs) (hB : B ≤ b.heap.size) (hb : B ≤ base) : Below B a c :=
  h.grown hg hB (fun g e => Nat.le_trans hb (ho.block_ge g e))

/-- a cell below the own blocks is as it was behind an append -/
theorem far_app {b c : World} {b' : World} {base : Nat} {t : TypeId} {k : IntKind} {v : Value} {xs : List Nat} (hg : b.grownBy c v.ownBlock) (ho : Own b' base t k v xs) {p : Addr} (hp : p.block < base) (hB : base ≤ b.heap.size) : c.cell? p = b.cell? p :=
  hg.cell_far p (by omega) (fun e => by have := ho.block_ge _ e.symm; omega)

section
variable {P : Program}
/-- 'make([]T, n)' -/
theorem run_make_digits (t e : TypeId) (k : IntKind) (bytes : Nat) (ht : P.underlying t = some (.slice e)) (hi : (P.info? e).map (fun i => (i.zero, i.size, i.bytes)) = some (some (.int k 0), 1, bytes)) (h8 : bytes ≤ 8) (n : Nat) (hn : n ≤ 34359738368) (u : World) :
    (Instr.makeSlice t (.int .i64 (n : Int)) (.int .i64 (n : Int))).run P u = .ok (.slice (some ⟨u.heap.size, 0, none⟩) n n) (u.alloc (.cells (cells k (List.replicate n 0)).toArray e)) := by
  obtain ⟨i, hi, hz0, hz1, hz2⟩ := info_parts hi
  have hb : (i.bytes : Int) * (n : Int) ≤ 281474976710656 := by
    have h : i.bytes * n ≤ 8 * 34359738368 := Nat.mul_le_mul (by omega) hn
    have h' : ((i.bytes * n : Nat) : Int) ≤ 281474976710656 := by omega
    rwa [Int.natCast_mul] at h'
  have h := run_make (P := P) u t e i (.int k 0) ht hi hz0 .i64 .i64 n n (by omega) (Int.le_refl _) hb (by omega)
  rw [Int.toNat_natCast] at h
  rw [h, hz1, ← cells_zeros]
  simp [Value.cells]

/-- 'copy' of digits into a row that is known whole -/
theorem wpList_copy_digits {w : World} {ops : Array Oper} {rest : List Oper} {o : Oper} {a : Act} {Q : Exit → Act → World → Prop} (hgd : o.guard = none) (d s : Operand) (T : TypeId)
    (ho : o.op = .call { callee := .builtin .copy, args := #[d, s], argTypes := #[T, T] }) (e : TypeId) (k : IntKind) (hu : P.underlying T = some (.slice e)) (hsz : (P.info? e).map (·.size) = some 1)
    (dp sp : Option Addr) (dLen dCap sLen sCap : Nat) (hd : a.eval d = .slice dp dLen dCap) (hs : a.eval s = .slice sp sLen sCap)
    (g off : Nat) (zs : List Nat) (hrow : Row w g e k zs) (xs : List Nat) (hx : xs.length = Nat.min sLen dLen) (hdp : 0 < xs.length → dp = some ⟨g, off, none⟩) (S : Nat → Prop) (hrd : Rd w S k sp xs) (hfit : off + xs.length ≤ zs.length)
    (h : ∀ w', Row w' g e k (splice zs off xs) → w.grownBy w' (some g) → wpList P ops Q rest (a.put o.dst (goInt xs.length)) w') : wpList P ops Q (o :: rest) a w := by
  by_cases h0 : xs.length = 0
  · obtain rfl : xs = [] := List.eq_nil_of_length_eq_zero h0
    refine wpList_copy_nothing hgd d s T T ho e hu hsz dp sp dLen dCap sLen sCap hd hs (by simpa using hx.symm) ?_
    exact h w (by simpa [splice] using hrow) (World.grownBy.refl w _)
  · obtain ⟨b, o', rfl, _, hc⟩ := hrd (by omega)
    obtain rfl := hdp (by omega)
    have hcl : (cells k xs).length = xs.length := length_cells k xs
    refine wpList_copy_own hgd d s T T ho e hu hsz g off dLen dCap ⟨b, o', none⟩ sLen sCap hd hs (cells k zs).toArray e hrow (cells k xs) (by rw [hcl]; exact hx) (fun j v hv => ?_) (by rw [hcl]; simpa [cells] using hfit) (one_cells k xs) ?_
    · have hj : j < xs.length := by have := (List.getElem?_eq_some_iff.1 hv).1; omega
      rw [get_cells hj] at hv
      rw [add_mk, hc j hj, hv]
    · rw [hcl]
      refine h _ ?_ ⟨rfl, rfl, rfl, by simp [World.setRow], fun i _ hi => setRow_other w g i _ (fun e => hi (by rw [e]))⟩
      have := setRow_heap w g (cells k zs).toArray ((cells k zs).take off ++ (cells k xs ++ (cells k zs).drop (off + xs.length))).toArray e (0, 0) hrow
      unfold Row
      rw [this]
      simp [splice, cells, List.map_take, List.map_drop]
end

/-- a call that leaves the world as it was, inside a region that only reads: the first such region, and one behind draws. -/
theorem quiet_one {P : Program} {f : FuncId} {args : Array Value} {w : World} {n : Nat} {v : Value} (h : Calls P f args (w.drewN n) fun e w' => e = .returned v ∧ w.drewN n = w') :
    Calls P f args (w.drewN n) fun e w' => e = .returned v ∧ ∃ k, w' = w.drewN k := h.mono fun _ _ hh => ⟨hh.1, n, hh.2.symm⟩
theorem quiet_two {P : Program} {f : FuncId} {args : Array Value} {w : World} {a n : Nat} {v : Value} (h : Calls P f args (w.drewN (a + n)) fun e w' => e = .returned v ∧ w.drewN (a + n) = w') :
    Calls P f args (w.drewN (a + n)) fun e w' => e = .returned v ∧ ∃ k, w' = w.drewN (a + k) := h.mono fun _ _ hh => ⟨hh.1, n, hh.2.symm⟩

/-- A NUMBER THAT A CALL HANDS BACK: a slice of digits below b, without noughts at the top, of value N; nothing that was there has changed. -/
def Gives (k : IntKind) (b N : Nat) (w : World) (e : Ending) (w' : World) : Prop :=
  ∃ A xs c, e = .returned (.slice A xs.length c) ∧ xs.length ≤ c ∧ Norm b xs ∧ val b xs = N ∧ Rd w' (fun g => g < w'.heap.size) k A xs ∧ Below w.heap.size w w'

/-- the same with a word on whether there is one; where there is none: 0. -/
def GivesB (k : IntKind) (b N : Nat) (ok : Bool) (w : World) (e : Ending) (w' : World) : Prop :=
  ∃ A xs c, e = .returned (.tuple #[.slice A xs.length c, .bool ok]) ∧ xs.length ≤ c ∧ Norm b xs ∧ val b xs = N ∧ Rd w' (fun g => g < w'.heap.size) k A xs ∧ Below w.heap.size w w'
/-- a quotient and what is left; where there is nothing to divide by: zeros and false. -/
def GivesQR (k : IntKind) (b N D : Nat) (w : World) (e : Ending) (w' : World) : Prop :=
  ∃ A q c A' r c', e = .returned (.tuple #[.slice A q.length c, .slice A' r.length c', .bool (decide (0 < D))]) ∧ q.length ≤ c ∧ r.length ≤ c' ∧ Norm b q ∧ Norm b r ∧ val b q = N / D ∧ val b r = (if D = 0 then 0 else N % D) ∧
    Rd w' (fun g => g < w'.heap.size) k A q ∧ Rd w' (fun g => g < w'.heap.size) k A' r ∧ Below w.heap.size w w'
theorem norm_nil (b : Nat) : Norm b [] := ⟨Dg.nil b, by simp [Top]⟩

end Go.Proofs.YtdmoibphidipeaaGreatDoor.Num
/-
  DERIVED: THE SHELF's CONTRACTS AT THIS DUMP, IN PLAIN WORDS (tools/lay-plain.mjs out of 'TryzShelf.lean', which tools/lay-shelf.mjs wrote): THE SAME DECLARATIONS UNDER THE SAME NAMES: 'import', 'namespace', 'open', 'def', 'theorem' AND NOTHING ELSE: no command of the shelf's: FOR A HAND-IN. Each laying: the table of numbers ('.._ren') and one theorem, a field a fact of the dump's own or the kernel's comparison; each contract: ONE APPLICATION.
-/

namespace Go.Proofs
open Go.Shelf
def Tryz.lays128_ren : Go.Shelf.Ren := ⟨fun | 128 => 162 | n => n, fun | 51 => 102 | 3 => 3 | 4 => 4 | 46 => 121 | 5 => 5 | 9 => 9 | n => n, fun | n => n⟩
theorem Tryz.lays128 : Go.Proofs.Lays.n128 Tryz.prog Tryz.lays128_ren := {
  mixed := by kernel_rfl
  f128 := Tryz.func162.trans (congrArg some (by kernel_rfl))
  t3 := Tryz.underlying3
  a3 := Tryz.isAgg3
  z3 := Tryz.sizeOf3
  v3 := Tryz.zeroValue3
  t4 := Tryz.underlying4
  a4 := Tryz.isAgg4
  z4 := Tryz.sizeOf4
  v4 := Tryz.zeroValue4
  t5 := Tryz.underlying5
  a5 := Tryz.isAgg5
  z5 := Tryz.sizeOf5
  v5 := Tryz.zeroValue5
  t9 := Tryz.underlying9
  a9 := Tryz.isAgg9
  z9 := Tryz.sizeOf9
  v9 := Tryz.zeroValue9
  t46 := Tryz.underlying121
  a46 := Tryz.isAgg121
  z46 := Tryz.sizeOf121
  v46 := Tryz.zeroValue121
  t51 := Tryz.underlying102
  a51 := Tryz.isAgg102
  z51 := Tryz.sizeOf102
  v51 := Tryz.zeroValue102 }
/-- bits.Len32: "Len32 returns the minimum number of bits required to represent x; the result is 0 for x == 0.": IT RETURNS 'Lib.bitLen x'; the world is as it was. ('h0', 'h1': x is a uint32.) (LAID: no walk: one application.) -/
theorem Tryz.bits_Len32 (x : Int) (w : World) (h0 : 0 ≤ x) (h1 : x ≤ 4294967295) :
    Calls Tryz.prog 162 #[.int .u32 x] w fun e w' => e = .returned (.int .i64 (Lib.bitLen x.toNat)) ∧ w' = w := Any.bits_Len32 Tryz.lays128 x w h0 h1
def Tryz.lays133_ren : Go.Shelf.Ren := ⟨fun | 133 => 256 | 128 => 162 | n => n, fun | 51 => 102 | 3 => 3 | 4 => 4 | 46 => 121 | 5 => 5 | 9 => 9 | n => n, fun | n => n⟩
theorem Tryz.lays133 : Go.Proofs.Lays.n133 Tryz.prog Tryz.lays133_ren := {
  mixed := by kernel_rfl
  f128 := Tryz.func162.trans (congrArg some (by kernel_rfl))
  f133 := Tryz.func256.trans (congrArg some (by kernel_rfl))
  t3 := Tryz.underlying3
  a3 := Tryz.isAgg3
  z3 := Tryz.sizeOf3
  v3 := Tryz.zeroValue3
  t4 := Tryz.underlying4
  a4 := Tryz.isAgg4
  z4 := Tryz.sizeOf4
  v4 := Tryz.zeroValue4
  t5 := Tryz.underlying5
  a5 := Tryz.isAgg5
  z5 := Tryz.sizeOf5
  v5 := Tryz.zeroValue5
  t9 := Tryz.underlying9
  a9 := Tryz.isAgg9
  z9 := Tryz.sizeOf9
  v9 := Tryz.zeroValue9
  t46 := Tryz.underlying121
  a46 := Tryz.isAgg121
  z46 := Tryz.sizeOf121
  v46 := Tryz.zeroValue121
  t51 := Tryz.underlying102
  a51 := Tryz.isAgg102
  z51 := Tryz.sizeOf102
  v51 := Tryz.zeroValue102 }
/-- bits.LeadingZeros32: "LeadingZeros32 returns the number of leading zero bits in x; the result is 32 for x == 0.": IT RETURNS '32 - Lib.bitLen x'; the world is as it was. ITS CALLEE bits.Len32 IS MET BY ITS OWN CONTRACT OFF THE SHELF (lay that first): entered in place it sends the kernel out of memory. (LAID: no walk: one application.) -/
theorem Tryz.bits_LeadingZeros32 (x : Int) (w : World) (h0 : 0 ≤ x) (h1 : x ≤ 4294967295) :
    Calls Tryz.prog 256 #[.int .u32 x] w fun e w' => e = .returned (.int .i64 (32 - (Lib.bitLen x.toNat : Int))) ∧ w' = w := Any.bits_LeadingZeros32 Tryz.lays133 x w h0 h1
def Tryz.lays129_ren : Go.Shelf.Ren := ⟨fun | 129 => 163 | n => n, fun | 53 => 138 | 3 => 3 | 4 => 4 | 46 => 121 | 5 => 5 | 9 => 9 | n => n, fun | n => n⟩
theorem Tryz.lays129 : Go.Proofs.Lays.n129 Tryz.prog Tryz.lays129_ren := {
  mixed := by kernel_rfl
  f129 := Tryz.func163.trans (congrArg some (by kernel_rfl))
  t3 := Tryz.underlying3
  a3 := Tryz.isAgg3
  z3 := Tryz.sizeOf3
  v3 := Tryz.zeroValue3
  t4 := Tryz.underlying4
  a4 := Tryz.isAgg4
  z4 := Tryz.sizeOf4
  v4 := Tryz.zeroValue4
  t5 := Tryz.underlying5
  a5 := Tryz.isAgg5
  z5 := Tryz.sizeOf5
  v5 := Tryz.zeroValue5
  t9 := Tryz.underlying9
  a9 := Tryz.isAgg9
  z9 := Tryz.sizeOf9
  v9 := Tryz.zeroValue9
  t46 := Tryz.underlying121
  a46 := Tryz.isAgg121
  z46 := Tryz.sizeOf121
  v46 := Tryz.zeroValue121
  t53 := Tryz.underlying138
  a53 := Tryz.isAgg138
  z53 := Tryz.sizeOf138
  v53 := Tryz.zeroValue138 }
/-- bits.Len64: "Len64 returns the minimum number of bits required to represent x; the result is 0 for x == 0.": IT RETURNS 'Lib.bitLen x'; the world is as it was. ('h0', 'h1': x is a uint64.) (LAID: no walk: one application.) -/
theorem Tryz.bits_Len64 (x : Int) (w : World) (h0 : 0 ≤ x) (h1 : x ≤ 18446744073709551615) :
    Calls Tryz.prog 163 #[.int .u64 x] w fun e w' => e = .returned (.int .i64 (Lib.bitLen x.toNat)) ∧ w' = w := Any.bits_Len64 Tryz.lays129 x w h0 h1
def Tryz.lays283_ren : Go.Shelf.Ren := ⟨fun | 283 => 236 | n => n, fun | 3 => 3 | 9 => 9 | 4 => 4 | n => n, fun | n => n⟩
theorem Tryz.lays283 : Go.Proofs.Lays.n283 Tryz.prog Tryz.lays283_ren := {
  mixed := by kernel_rfl
  f283 := Tryz.func236.trans (congrArg some (by kernel_rfl))
  t3 := Tryz.underlying3
  a3 := Tryz.isAgg3
  z3 := Tryz.sizeOf3
  v3 := Tryz.zeroValue3
  t4 := Tryz.underlying4
  a4 := Tryz.isAgg4
  z4 := Tryz.sizeOf4
  v4 := Tryz.zeroValue4
  t9 := Tryz.underlying9
  a9 := Tryz.isAgg9
  z9 := Tryz.sizeOf9
  v9 := Tryz.zeroValue9 }
open Go.Lib in
/-- internal/strconv.small: "small returns the string for an i with 0 <= i < nSmalls.": i's decimal numeral. The world is as it was. (LAID: no walk: one application.) -/
theorem Tryz.internal_strconv_small (i : Nat) (h : i < 100) (w : World) :
    Calls Tryz.prog 236 #[.int .i64 i] w fun e w' => e = .returned (.string ⟨(Lib.decDigits i).toArray⟩) ∧ w' = w := Any.internal_strconv_small Tryz.lays283 i h w
def Tryz.laysM284_ren : Go.Shelf.Ren := ⟨fun | 284 => 237 | 129 => 163 | 317 => 250 | 318 => 251 | n => n, fun | 53 => 138 | 3 => 3 | 212 => 219 | 0 => 0 | 4 => 4 | 46 => 121 | 5 => 5 | 9 => 9 | n => n, fun | 17 => 0 | n => n⟩
theorem Tryz.laysM284 : Go.Proofs.LaysM.n284 Tryz.prog Tryz.laysM284_ren := {
  mixed := by kernel_rfl
  f129 := Tryz.func163.trans (congrArg some (by kernel_rfl))
  f284 := Tryz.func237.trans (congrArg some (by kernel_rfl))
  f317 := Tryz.func250.trans (congrArg some (by kernel_rfl))
  f318 := Tryz.func251.trans (congrArg some (by kernel_rfl))
  t0 := Tryz.underlying0
  a0 := Tryz.isAgg0
  z0 := Tryz.sizeOf0
  v0 := Tryz.zeroValue0
  t3 := Tryz.underlying3
  a3 := Tryz.isAgg3
  z3 := Tryz.sizeOf3
  v3 := Tryz.zeroValue3
  t4 := Tryz.underlying4
  a4 := Tryz.isAgg4
  z4 := Tryz.sizeOf4
  v4 := Tryz.zeroValue4
  t5 := Tryz.underlying5
  a5 := Tryz.isAgg5
  z5 := Tryz.sizeOf5
  v5 := Tryz.zeroValue5
  t9 := Tryz.underlying9
  a9 := Tryz.isAgg9
  z9 := Tryz.sizeOf9
  v9 := Tryz.zeroValue9
  t46 := Tryz.underlying121
  a46 := Tryz.isAgg121
  z46 := Tryz.sizeOf121
  v46 := Tryz.zeroValue121
  t53 := Tryz.underlying138
  a53 := Tryz.isAgg138
  z53 := Tryz.sizeOf138
  v53 := Tryz.zeroValue138
  t212 := Tryz.underlying219
  a212 := Tryz.isAgg219
  z212 := Tryz.sizeOf219
  v212 := Tryz.zeroValue219
  g17 := by kernel_rfl
  i0 := by kernel_rfl
  i3 := by kernel_rfl
  i4 := by kernel_rfl
  i5 := by kernel_rfl
  i9 := by kernel_rfl
  i46 := by kernel_rfl
  i53 := by kernel_rfl
  i212 := by kernel_rfl
  m17 := by kernel_rfl }
open Go.Lib in
/-- internal/strconv.numDigits, at a d that is not 0: THE NUMBER OF d's DECIMAL DIGITS. The world is as it was. (LAID: no walk: one application.) -/
theorem Tryz.internal_strconv_numDigits (u : Nat) (h1 : 1 ≤ u) (h2 : u < 18446744073709551616) (w : World) (htab : Lib.TabIs Tryz.prog w "internal/strconv.uint64pow10" .u64 Lib.pow10Tab) :
    Calls Tryz.prog 237 #[.int .u64 u] w fun e w' => e = .returned (.int .i64 (Lib.nDigits u)) ∧ w' = w := Any.internal_strconv_numDigits Tryz.laysM284 u h1 h2 w htab
def Tryz.lays285_ren : Go.Shelf.Ren := ⟨fun | 285 => 238 | n => n, fun | 37 => 168 | 53 => 138 | 3 => 3 | 4 => 4 | 51 => 102 | 9 => 9 | 5 => 5 | 0 => 0 | n => n, fun | n => n⟩
theorem Tryz.lays285 : Go.Proofs.Lays.n285 Tryz.prog Tryz.lays285_ren := {
  mixed := by kernel_rfl
  f285 := Tryz.func238.trans (congrArg some (by kernel_rfl))
  t0 := Tryz.underlying0
  a0 := Tryz.isAgg0
  z0 := Tryz.sizeOf0
  v0 := Tryz.zeroValue0
  t3 := Tryz.underlying3
  a3 := Tryz.isAgg3
  z3 := Tryz.sizeOf3
  v3 := Tryz.zeroValue3
  t4 := Tryz.underlying4
  a4 := Tryz.isAgg4
  z4 := Tryz.sizeOf4
  v4 := Tryz.zeroValue4
  t5 := Tryz.underlying5
  a5 := Tryz.isAgg5
  z5 := Tryz.sizeOf5
  v5 := Tryz.zeroValue5
  t9 := Tryz.underlying9
  a9 := Tryz.isAgg9
  z9 := Tryz.sizeOf9
  v9 := Tryz.zeroValue9
  t37 := Tryz.underlying168
  a37 := Tryz.isAgg168
  z37 := Tryz.sizeOf168
  v37 := Tryz.zeroValue168
  t51 := Tryz.underlying102
  a51 := Tryz.isAgg102
  z51 := Tryz.sizeOf102
  v51 := Tryz.zeroValue102
  t53 := Tryz.underlying138
  a53 := Tryz.isAgg138
  z53 := Tryz.sizeOf138
  v53 := Tryz.zeroValue138 }
open Go.RowKit Go.Sort Go.Lib in
/-- internal/strconv.formatBase10: "formatBase10 formats the decimal representation of u into a. The caller is responsible for ensuring that a is big enough to hold u. If a is too big, leading zeros will be filled in as needed.": THE ROW HOLDS u's DIGITS ('FmtInv .. 0 ..': every place t holds 'dg u (len - 1 - t)'); all else is as it was but for the count of draws. (LAID: no walk: one application.) -/
theorem Tryz.internal_strconv_formatBase10 (blk off cap : Nat) (u : Nat) (d : Array UInt8) (w : World) (hH : Holds (fun (b : UInt8) => Value.int .u8 (b.toNat : Int)) w blk off d) (hu : u < 10 ^ d.size) (hu64 : u < 18446744073709551616) (hsz : d.size < 4611686018427387904) :
    Calls Tryz.prog 238 #[.slice (some ⟨blk, off, none⟩) d.size cap, .int .u64 u] w fun e w' =>
      e = .returned (.tuple #[]) ∧ ∃ (n v' : Nat) (dk : Array UInt8), w' = (putRow (fun (b : UInt8) => Value.int .u8 (b.toNat : Int)) w blk off dk).drewN n ∧ FmtInv d.size u 0 v' dk := Any.internal_strconv_formatBase10 Tryz.lays285 blk off cap u d w hH hu hu64 hsz
def Tryz.laysM288_ren : Go.Shelf.Ren := ⟨fun | 288 => 215 | 283 => 236 | 284 => 237 | 285 => 238 | 286 => 239 | 129 => 163 | 317 => 250 | 318 => 251 | 319 => 252 | 320 => 253 | 337 => 263 | 338 => 264 | n => n, fun | 37 => 168 | 53 => 138 | 3 => 3 | 4 => 4 | 9 => 9 | 171 => 210 | 0 => 0 | 173 => 212 | 212 => 219 | 51 => 102 | 5 => 5 | 20 => 20 | 213 => 220 | 46 => 121 | 232 => 233 | 233 => 234 | n => n, fun | 17 => 0 | 18 => 1 | 19 => 2 | n => n⟩
theorem Tryz.laysM288 : Go.Proofs.LaysM.n288 Tryz.prog Tryz.laysM288_ren := {
  mixed := by kernel_rfl
  f129 := Tryz.func163.trans (congrArg some (by kernel_rfl))
  f283 := Tryz.func236.trans (congrArg some (by kernel_rfl))
  f284 := Tryz.func237.trans (congrArg some (by kernel_rfl))
  f285 := Tryz.func238.trans (congrArg some (by kernel_rfl))
  f286 := Tryz.func239.trans (congrArg some (by kernel_rfl))
  f288 := Tryz.func215.trans (congrArg some (by kernel_rfl))
  f317 := Tryz.func250.trans (congrArg some (by kernel_rfl))
  f318 := Tryz.func251.trans (congrArg some (by kernel_rfl))
  f319 := Tryz.func252.trans (congrArg some (by kernel_rfl))
  f320 := Tryz.func253.trans (congrArg some (by kernel_rfl))
  f337 := Tryz.func263.trans (congrArg some (by kernel_rfl))
  f338 := Tryz.func264.trans (congrArg some (by kernel_rfl))
  t0 := Tryz.underlying0
  a0 := Tryz.isAgg0
  z0 := Tryz.sizeOf0
  v0 := Tryz.zeroValue0
  t3 := Tryz.underlying3
  a3 := Tryz.isAgg3
  z3 := Tryz.sizeOf3
  v3 := Tryz.zeroValue3
  t4 := Tryz.underlying4
  a4 := Tryz.isAgg4
  z4 := Tryz.sizeOf4
  v4 := Tryz.zeroValue4
  t5 := Tryz.underlying5
  a5 := Tryz.isAgg5
  z5 := Tryz.sizeOf5
  v5 := Tryz.zeroValue5
  t9 := Tryz.underlying9
  a9 := Tryz.isAgg9
  z9 := Tryz.sizeOf9
  v9 := Tryz.zeroValue9
  t20 := Tryz.underlying20
  a20 := Tryz.isAgg20
  z20 := Tryz.sizeOf20
  v20 := Tryz.zeroValue20
  t37 := Tryz.underlying168
  a37 := Tryz.isAgg168
  z37 := Tryz.sizeOf168
  v37 := Tryz.zeroValue168
  t46 := Tryz.underlying121
  a46 := Tryz.isAgg121
  z46 := Tryz.sizeOf121
  v46 := Tryz.zeroValue121
  t51 := Tryz.underlying102
  a51 := Tryz.isAgg102
  z51 := Tryz.sizeOf102
  v51 := Tryz.zeroValue102
  t53 := Tryz.underlying138
  a53 := Tryz.isAgg138
  z53 := Tryz.sizeOf138
  v53 := Tryz.zeroValue138
  t171 := Tryz.underlying210
  a171 := Tryz.isAgg210
  z171 := Tryz.sizeOf210
  v171 := Tryz.zeroValue210
  t173 := Tryz.underlying212
  a173 := Tryz.isAgg212
  z173 := Tryz.sizeOf212
  v173 := Tryz.zeroValue212
  t212 := Tryz.underlying219
  a212 := Tryz.isAgg219
  z212 := Tryz.sizeOf219
  v212 := Tryz.zeroValue219
  t213 := Tryz.underlying220
  a213 := Tryz.isAgg220
  z213 := Tryz.sizeOf220
  t232 := Tryz.underlying233
  a232 := Tryz.isAgg233
  z232 := Tryz.sizeOf233
  v232 := Tryz.zeroValue233
  t233 := Tryz.underlying234
  a233 := Tryz.isAgg234
  z233 := Tryz.sizeOf234
  v233 := Tryz.zeroValue234
  g17 := by kernel_rfl
  g18 := by kernel_rfl
  g19 := by kernel_rfl
  i0 := by kernel_rfl
  i3 := by kernel_rfl
  i4 := by kernel_rfl
  i5 := by kernel_rfl
  i9 := by kernel_rfl
  i20 := by kernel_rfl
  i37 := by kernel_rfl
  i46 := by kernel_rfl
  i51 := by kernel_rfl
  i53 := by kernel_rfl
  i171 := by kernel_rfl
  i173 := by kernel_rfl
  i212 := by kernel_rfl
  i232 := by kernel_rfl
  i233 := by kernel_rfl
  m17 := by kernel_rfl
  m18 := by kernel_rfl
  m19 := by kernel_rfl }
open Go.RowKit Go.Sort Go.Lib in
/-- internal/strconv.AppendUint(dst, i, 10), i BELOW 100: WHAT COMES BACK OWNS dst's CELLS AND, BEHIND THEM, i's DECIMAL NUMERAL. No table is read. Below the call's own blocks nothing has turned. (LAID: no walk: one application.) -/
theorem Tryz.internal_strconv_AppendUint_10_small (B n u : Nat) (hu : u < 100) (sv : Value) (xs : List Value) (w : World) (hown : w.ownsRow B 5 1 sv n xs) (hBw : B ≤ w.heap.size) (hlim : n + 20 ≤ 140737488355328) :
    Calls Tryz.prog 215 #[sv, .int .u64 u, .int .i64 10] w fun e w' => ∃ v', e = .returned v' ∧ w'.ownsRow B 5 1 v' (n + (Lib.decDigits u).length) (xs ++ Lib.byteCells (Lib.decDigits u)) ∧ Below B w w' ∧ Lib.OthersKept 5 none w w' := Any.internal_strconv_AppendUint_10_small Tryz.laysM288 B n u hu sv xs w hown hBw hlim
open Go.RowKit Go.Sort Go.Lib in
/-- internal/strconv.AppendUint(dst, i, 10), i FROM 100 ON: likewise; the digits are laid in an array of the call's own and appended. (LAID: no walk: one application.) -/
theorem Tryz.internal_strconv_AppendUint_10_big (B n u : Nat) (hu : 100 ≤ u) (hu64 : u < 18446744073709551616) (sv : Value) (xs : List Value) (w : World) (hown : w.ownsRow B 5 1 sv n xs) (hBw : B ≤ w.heap.size) (hlim : n + 20 ≤ 140737488355328) (htab : Lib.TabIs Tryz.prog w "internal/strconv.uint64pow10" .u64 Lib.pow10Tab) :
    Calls Tryz.prog 215 #[sv, .int .u64 u, .int .i64 10] w fun e w' => ∃ v', e = .returned v' ∧ w'.ownsRow B 5 1 v' (n + (Lib.decDigits u).length) (xs ++ Lib.byteCells (Lib.decDigits u)) ∧ Below B w w' ∧ Lib.OthersKept 5 none w w' := Any.internal_strconv_AppendUint_10_big Tryz.laysM288 B n u hu hu64 sv xs w hown hBw hlim htab
def Tryz.laysSlF6_f69_ren : Go.Shelf.Ren := ⟨fun | 6 => 69 | 15 => 118 | 14 => 117 | 28 => 162 | 29 => 163 | 20 => 154 | 21 => 155 | 22 => 156 | 23 => 157 | 24 => 158 | 25 => 159 | 26 => 160 | 27 => 161 | 46 => 206 | 47 => 207 | 48 => 208 | 49 => 209 | 50 => 210 | 57 => 235 | n => n, fun | 22 => 86 | 24 => 3 | 25 => 88 | 3 => 3 | 39 => 121 | 0 => 0 | 53 => 102 | 55 => 138 | 4 => 4 | 46 => 149 | 45 => 148 | 50 => 153 | 5 => 5 | 9 => 9 | 66 => 189 | 70 => 193 | 76 => 206 | 77 => 207 | n => n, fun | n => n⟩
theorem Tryz.laysSlF6_f69 : Go.Proofs.SlLaysF.n6 Tryz.prog Tryz.laysSlF6_f69_ren := {
  mixed := by kernel_rfl
  f6 := ⟨Tryz.f69.name, by decide, Tryz.func69.trans (congrArg some (by kernel_rfl))⟩
  f14 := ⟨Tryz.f117.name, by decide, Tryz.func117.trans (congrArg some (by kernel_rfl))⟩
  f15 := Tryz.func118.trans (congrArg some (by kernel_rfl))
  f20 := ⟨Tryz.f154.name, by decide, Tryz.func154.trans (congrArg some (by kernel_rfl))⟩
  f21 := ⟨Tryz.f155.name, by decide, Tryz.func155.trans (congrArg some (by kernel_rfl))⟩
  f22 := ⟨Tryz.f156.name, by decide, Tryz.func156.trans (congrArg some (by kernel_rfl))⟩
  f23 := ⟨Tryz.f157.name, by decide, Tryz.func157.trans (congrArg some (by kernel_rfl))⟩
  f24 := ⟨Tryz.f158.name, by decide, Tryz.func158.trans (congrArg some (by kernel_rfl))⟩
  f25 := ⟨Tryz.f159.name, by decide, Tryz.func159.trans (congrArg some (by kernel_rfl))⟩
  f26 := ⟨Tryz.f160.name, by decide, Tryz.func160.trans (congrArg some (by kernel_rfl))⟩
  f27 := ⟨Tryz.f161.name, by decide, Tryz.func161.trans (congrArg some (by kernel_rfl))⟩
  f28 := Tryz.func162.trans (congrArg some (by kernel_rfl))
  f29 := Tryz.func163.trans (congrArg some (by kernel_rfl))
  f46 := ⟨Tryz.f206.name, by decide, Tryz.func206.trans (congrArg some (by kernel_rfl))⟩
  f47 := Tryz.func207.trans (congrArg some (by kernel_rfl))
  f48 := Tryz.func208.trans (congrArg some (by kernel_rfl))
  f49 := ⟨Tryz.f209.name, by decide, Tryz.func209.trans (congrArg some (by kernel_rfl))⟩
  f50 := ⟨Tryz.f210.name, by decide, Tryz.func210.trans (congrArg some (by kernel_rfl))⟩
  f57 := ⟨Tryz.f235.name, by decide, Tryz.func235.trans (congrArg some (by kernel_rfl))⟩
  t0 := Tryz.underlying0
  a0 := Tryz.isAgg0
  z0 := Tryz.sizeOf0
  v0 := Tryz.zeroValue0
  t3 := Tryz.underlying3
  a3 := Tryz.isAgg3
  z3 := Tryz.sizeOf3
  v3 := Tryz.zeroValue3
  t4 := Tryz.underlying4
  a4 := Tryz.isAgg4
  z4 := Tryz.sizeOf4
  v4 := Tryz.zeroValue4
  t5 := Tryz.underlying5
  a5 := Tryz.isAgg5
  z5 := Tryz.sizeOf5
  v5 := Tryz.zeroValue5
  t9 := Tryz.underlying9
  a9 := Tryz.isAgg9
  z9 := Tryz.sizeOf9
  v9 := Tryz.zeroValue9
  t22 := Tryz.underlying86
  a22 := Tryz.isAgg86
  z22 := Tryz.sizeOf86
  v22 := Tryz.zeroValue86
  a24 := Tryz.isAgg3
  z24 := Tryz.sizeOf3
  t25 := Tryz.underlying88
  a25 := Tryz.isAgg88
  z25 := Tryz.sizeOf88
  v25 := Tryz.zeroValue88
  t39 := Tryz.underlying121
  a39 := Tryz.isAgg121
  z39 := Tryz.sizeOf121
  v39 := Tryz.zeroValue121
  t45 := Tryz.underlying148
  a45 := Tryz.isAgg148
  z45 := Tryz.sizeOf148
  v45 := Tryz.zeroValue148
  t46 := Tryz.underlying149
  a46 := Tryz.isAgg149
  z46 := Tryz.sizeOf149
  v46 := Tryz.zeroValue149
  t50 := Tryz.underlying153
  a50 := Tryz.isAgg153
  z50 := Tryz.sizeOf153
  v50 := Tryz.zeroValue153
  t53 := Tryz.underlying102
  a53 := Tryz.isAgg102
  z53 := Tryz.sizeOf102
  v53 := Tryz.zeroValue102
  t55 := Tryz.underlying138
  a55 := Tryz.isAgg138
  z55 := Tryz.sizeOf138
  v55 := Tryz.zeroValue138
  t66 := Tryz.underlying189
  a66 := Tryz.isAgg189
  z66 := Tryz.sizeOf189
  v66 := Tryz.zeroValue189
  t70 := Tryz.underlying193
  a70 := Tryz.isAgg193
  z70 := Tryz.sizeOf193
  v70 := Tryz.zeroValue193
  t76 := Tryz.underlying206
  a76 := Tryz.isAgg206
  z76 := Tryz.sizeOf206
  v76 := Tryz.zeroValue206
  t77 := Tryz.underlying207
  a77 := Tryz.isAgg207
  z77 := Tryz.sizeOf207
  v77 := Tryz.zeroValue207 }
open Go.RowKit Go.Lib Go.Sort in
/-- **slices.SortFunc, IN THE DOCUMENTATION's OWN TERMS: A PERMUTATION OF WHAT THE ROW HELD, SORTED BY 'cmp(a, b) < 0'.** Which of two equals comes first is left open ("The sort is not guaranteed to be stable"). (LAID AT THE INSTANCE 'slices.SortFunc[[]int,int]': no walk: one application.) -/
theorem Tryz.slices_SortFunc {α : Type} [Inhabited α] (enc : α → Value) (h1 : OneCell enc) (cf : α → α → Int) (hO : SWO (ltOf cf)) (g : Nat) (cb : Array Value) (blk off cap : Nat) (d : Array α) (w : World) (eg : ∀ args w, (callFunc g args).run Tryz.prog w = .ok (.enter g args) w) (hcmp : CmpLays1 Tryz.prog g cb enc cf blk off d.size w) (hH : Holds enc w blk off d) (hblk : blk < w.heap.size) (hsz : d.size < 4611686018427387904) :
    Calls Tryz.prog 69 #[.slice (some ⟨blk, off, none⟩) d.size cap, .func (.func g) #[] cb] w fun e w' =>
      e = .returned (.tuple #[]) ∧ ∃ d' n os, PermIn 0 d.size d d' ∧ SortedIn (ltOf cf) 0 d.size d' ∧ w' = sortWorld enc w blk off n d' os := Any.slices_SortFunc Tryz.laysSlF6_f69 enc h1 cf hO g cb blk off cap d w eg hcmp hH hblk hsz
def Tryz.laysSlF06_f69_ren : Go.Shelf.Ren := ⟨fun | 6 => 69 | 15 => 118 | 14 => 117 | 28 => 162 | 29 => 163 | 20 => 154 | 21 => 155 | 22 => 156 | 23 => 157 | 24 => 158 | 25 => 159 | 26 => 160 | 27 => 161 | 46 => 206 | 47 => 207 | 48 => 208 | 49 => 209 | 50 => 210 | 57 => 235 | n => n, fun | 22 => 86 | 24 => 3 | 25 => 88 | 3 => 3 | 39 => 121 | 0 => 0 | 53 => 102 | 55 => 138 | 4 => 4 | 46 => 149 | 45 => 148 | 50 => 153 | 5 => 5 | 9 => 9 | 66 => 189 | 70 => 193 | 76 => 206 | 77 => 207 | n => n, fun | n => n⟩
theorem Tryz.laysSlF06_f69 : Go.Proofs.SlLaysF0.n6 Tryz.prog Tryz.laysSlF06_f69_ren := {
  mixed := by kernel_rfl
  f6 := ⟨Tryz.f69.name, by decide, Tryz.func69.trans (congrArg some (by kernel_rfl))⟩
  f14 := ⟨Tryz.f117.name, by decide, Tryz.func117.trans (congrArg some (by kernel_rfl))⟩
  f15 := Tryz.func118.trans (congrArg some (by kernel_rfl))
  f20 := ⟨Tryz.f154.name, by decide, Tryz.func154.trans (congrArg some (by kernel_rfl))⟩
  f21 := ⟨Tryz.f155.name, by decide, Tryz.func155.trans (congrArg some (by kernel_rfl))⟩
  f22 := ⟨Tryz.f156.name, by decide, Tryz.func156.trans (congrArg some (by kernel_rfl))⟩
  f23 := ⟨Tryz.f157.name, by decide, Tryz.func157.trans (congrArg some (by kernel_rfl))⟩
  f24 := ⟨Tryz.f158.name, by decide, Tryz.func158.trans (congrArg some (by kernel_rfl))⟩
  f25 := ⟨Tryz.f159.name, by decide, Tryz.func159.trans (congrArg some (by kernel_rfl))⟩
  f26 := ⟨Tryz.f160.name, by decide, Tryz.func160.trans (congrArg some (by kernel_rfl))⟩
  f27 := ⟨Tryz.f161.name, by decide, Tryz.func161.trans (congrArg some (by kernel_rfl))⟩
  f28 := Tryz.func162.trans (congrArg some (by kernel_rfl))
  f29 := Tryz.func163.trans (congrArg some (by kernel_rfl))
  f46 := ⟨Tryz.f206.name, by decide, Tryz.func206.trans (congrArg some (by kernel_rfl))⟩
  f47 := Tryz.func207.trans (congrArg some (by kernel_rfl))
  f48 := Tryz.func208.trans (congrArg some (by kernel_rfl))
  f49 := ⟨Tryz.f209.name, by decide, Tryz.func209.trans (congrArg some (by kernel_rfl))⟩
  f50 := ⟨Tryz.f210.name, by decide, Tryz.func210.trans (congrArg some (by kernel_rfl))⟩
  f57 := ⟨Tryz.f235.name, by decide, Tryz.func235.trans (congrArg some (by kernel_rfl))⟩
  t0 := Tryz.underlying0
  a0 := Tryz.isAgg0
  z0 := Tryz.sizeOf0
  v0 := Tryz.zeroValue0
  t3 := Tryz.underlying3
  a3 := Tryz.isAgg3
  z3 := Tryz.sizeOf3
  v3 := Tryz.zeroValue3
  t4 := Tryz.underlying4
  a4 := Tryz.isAgg4
  z4 := Tryz.sizeOf4
  v4 := Tryz.zeroValue4
  t5 := Tryz.underlying5
  a5 := Tryz.isAgg5
  z5 := Tryz.sizeOf5
  v5 := Tryz.zeroValue5
  t9 := Tryz.underlying9
  a9 := Tryz.isAgg9
  z9 := Tryz.sizeOf9
  v9 := Tryz.zeroValue9
  t22 := Tryz.underlying86
  a22 := Tryz.isAgg86
  z22 := Tryz.sizeOf86
  v22 := Tryz.zeroValue86
  t25 := Tryz.underlying88
  a25 := Tryz.isAgg88
  z25 := Tryz.sizeOf88
  v25 := Tryz.zeroValue88
  t39 := Tryz.underlying121
  a39 := Tryz.isAgg121
  z39 := Tryz.sizeOf121
  v39 := Tryz.zeroValue121
  t45 := Tryz.underlying148
  a45 := Tryz.isAgg148
  z45 := Tryz.sizeOf148
  v45 := Tryz.zeroValue148
  t46 := Tryz.underlying149
  a46 := Tryz.isAgg149
  z46 := Tryz.sizeOf149
  v46 := Tryz.zeroValue149
  t50 := Tryz.underlying153
  a50 := Tryz.isAgg153
  z50 := Tryz.sizeOf153
  v50 := Tryz.zeroValue153
  t53 := Tryz.underlying102
  a53 := Tryz.isAgg102
  z53 := Tryz.sizeOf102
  v53 := Tryz.zeroValue102
  t55 := Tryz.underlying138
  a55 := Tryz.isAgg138
  z55 := Tryz.sizeOf138
  v55 := Tryz.zeroValue138
  t66 := Tryz.underlying189
  a66 := Tryz.isAgg189
  z66 := Tryz.sizeOf189
  v66 := Tryz.zeroValue189
  t70 := Tryz.underlying193
  a70 := Tryz.isAgg193
  z70 := Tryz.sizeOf193
  v70 := Tryz.zeroValue193
  t76 := Tryz.underlying206
  a76 := Tryz.isAgg206
  z76 := Tryz.sizeOf206
  v76 := Tryz.zeroValue206
  t77 := Tryz.underlying207
  a77 := Tryz.isAgg207
  z77 := Tryz.sizeOf207
  v77 := Tryz.zeroValue207 }
open Go.RowKit Go.Lib Go.Sort in
/-- **slices.SortFunc AT NO ELEMENT, A nil SLICE TOO: nothing turns.** (LAID AT THE INSTANCE 'slices.SortFunc[[]int,int]': no walk: one application.) -/
theorem Tryz.slices_SortFunc_none {α : Type} [Inhabited α] (p : Option Addr) (cap : Nat) (fv : Value) (w : World) :
    Calls Tryz.prog 69 #[.slice p 0 cap, fv] w fun e w' => e = .returned (.tuple #[]) ∧ w' = w := AnyF.slices_SortFunc_none Tryz.laysSlF06_f69 p cap fv w
end Go.Proofs
