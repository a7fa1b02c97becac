/- Plain mathematics of numbers as lists of digits, the lowest first: values, digits, no noughts at the top. No program is named here. -/
import Derived.WalkKit
namespace Go.Proofs.YtaiinglogpbfjaaDoor.Num

def val (b : Nat) : List Nat → Nat
  | [] => 0
  | x :: r => x + b * val b r
def Dg (b : Nat) (xs : List Nat) : Prop := ∀ x ∈ xs, x < b
def Top (xs : List Nat) : Prop := xs.getLast? ≠ some 0
def Norm (b : Nat) (xs : List Nat) : Prop := Dg b xs ∧ Top xs

theorem val_nil (b : Nat) : val b [] = 0 := rfl
theorem val_cons (b x : Nat) (r : List Nat) : val b (x :: r) = x + b * val b r := rfl
theorem val_append (b : Nat) (xs ys : List Nat) : val b (xs ++ ys) = val b xs + b ^ xs.length * val b ys := by
  induction xs with
  | nil => simp [val]
  | cons x r ih => simp only [List.cons_append, val_cons, ih, List.length_cons, Nat.pow_succ]; grind
theorem val_snoc (b x : Nat) (xs : List Nat) : val b (xs ++ [x]) = val b xs + b ^ xs.length * x := by
  rw [val_append]; simp [val]
theorem val_zeros (b n : Nat) : val b (List.replicate n 0) = 0 := by
  induction n with
  | zero => rfl
  | succ n ih => simp [List.replicate_succ, val_cons, ih]
theorem val_all_zero (b : Nat) (xs : List Nat) (h : ∀ x ∈ xs, x = 0) : val b xs = 0 := by
  induction xs with
  | nil => rfl
  | cons x r ih => rw [val_cons, ih (fun y hy => h y (by simp [hy])), h x (by simp)]; simp

theorem Dg.nil (b : Nat) : Dg b [] := fun _ h => by cases h
theorem Dg.cons {b x : Nat} {r : List Nat} : Dg b (x :: r) ↔ x < b ∧ Dg b r := by simp [Dg]
theorem Dg.append {b : Nat} {xs ys : List Nat} : Dg b (xs ++ ys) ↔ Dg b xs ∧ Dg b ys := by
  constructor
  · intro h; exact ⟨fun x hx => h x (by simp [hx]), fun x hx => h x (by simp [hx])⟩
  · rintro ⟨h1, h2⟩ x hx
    rcases List.mem_append.1 hx with h | h
    · exact h1 x h
    · exact h2 x h
theorem Dg.snoc {b x : Nat} {xs : List Nat} (h : Dg b xs) (hx : x < b) : Dg b (xs ++ [x]) := Dg.append.2 ⟨h, by simpa [Dg] using hx⟩
theorem Dg.take {b n : Nat} {xs : List Nat} (h : Dg b xs) : Dg b (xs.take n) := fun x hx => h x (List.mem_of_mem_take hx)
theorem Dg.drop {b n : Nat} {xs : List Nat} (h : Dg b xs) : Dg b (xs.drop n) := fun x hx => h x (List.mem_of_mem_drop hx)
theorem Dg.get {b : Nat} {xs : List Nat} (h : Dg b xs) {j : Nat} (hj : j < xs.length) : xs[j] < b := h _ (List.getElem_mem hj)
theorem Dg.zeros {b n : Nat} (hb : 0 < b) : Dg b (List.replicate n 0) := fun x hx => by have := List.eq_of_mem_replicate hx; omega
theorem Dg.getD {b : Nat} {xs : List Nat} (h : Dg b xs) (hb : 0 < b) (j : Nat) : xs.getD j 0 < b := by
  by_cases hj : j < xs.length
  · rw [List.getD_eq_getElem?_getD, List.getElem?_eq_getElem hj]; exact h.get hj
  · rw [List.getD_eq_getElem?_getD, List.getElem?_eq_none (by omega)]; exact hb

theorem val_lt {b : Nat} {xs : List Nat} (h : Dg b xs) : val b xs < b ^ xs.length := by
  induction xs with
  | nil => simp [val]
  | cons x r ih =>
    have h1 := (Dg.cons.1 h).1
    have h2 := ih (Dg.cons.1 h).2
    rw [val_cons, List.length_cons, Nat.pow_succ]
    have h3 : b * (val b r + 1) ≤ b * b ^ r.length := Nat.mul_le_mul_left _ h2
    rw [Nat.mul_comm (b ^ r.length) b]
    rw [Nat.mul_add] at h3; omega

theorem val_lt_pow {b n : Nat} {xs : List Nat} (h : Dg b xs) (hb : 0 < b) (hn : xs.length ≤ n) : val b xs < b ^ n :=
  Nat.lt_of_lt_of_le (val_lt h) (Nat.pow_le_pow_right hb hn)

theorem Top.cons {x : Nat} {r : List Nat} (h : Top (x :: r)) : Top r := by
  unfold Top at *
  cases r with
  | nil => simp
  | cons y r => simpa using h

theorem top_of_zero {x : Nat} {r : List Nat} {b : Nat} (h : Top (x :: r)) (h0 : val b (x :: r) = 0) (hb : 0 < b) : False := by
  induction r generalizing x with
  | nil => simp [val, Top] at *; exact h h0
  | cons y r ih =>
    have h1 : val b (y :: r) = 0 := by
      rw [val_cons] at h0
      have h2 : b * val b (y :: r) = 0 := by omega
      rcases Nat.mul_eq_zero.1 h2 with h | h <;> omega
    exact ih h.cons h1

/-- TWO LISTS WITHOUT NOUGHTS AT THE TOP THAT HAVE ONE VALUE ARE ONE. -/
theorem Norm.ext {b : Nat} {xs ys : List Nat} (hb : 1 < b) (hx : Norm b xs) (hy : Norm b ys) (h : val b xs = val b ys) : xs = ys := by
  induction xs generalizing ys with
  | nil =>
    cases ys with
    | nil => rfl
    | cons y r => exact (top_of_zero hy.2 (by rw [← h]; rfl) (by omega)).elim
  | cons x r ih =>
    cases ys with
    | nil => exact (top_of_zero hx.2 (by rw [h]; rfl) (by omega)).elim
    | cons y s =>
      obtain ⟨hx1, hx2⟩ := Dg.cons.1 hx.1
      obtain ⟨hy1, hy2⟩ := Dg.cons.1 hy.1
      rw [val_cons, val_cons] at h
      have e1 : x = y := by
        have h1 : (x + b * val b r) % b = (y + b * val b s) % b := by rw [h]
        rw [Nat.add_mul_mod_self_left, Nat.add_mul_mod_self_left, Nat.mod_eq_of_lt hx1, Nat.mod_eq_of_lt hy1] at h1
        exact h1
      subst e1
      have e2 : val b r = val b s := by
        have h2 : b * val b r = b * val b s := by omega
        exact Nat.eq_of_mul_eq_mul_left (by omega) h2
      rw [ih ⟨hx2, hx.2.cons⟩ ⟨hy2, hy.2.cons⟩ e2]

theorem top_le {b : Nat} {xs : List Nat} (ht : Top xs) (hne : xs ≠ []) : b ^ (xs.length - 1) ≤ val b xs := by
  induction xs with
  | nil => exact absurd rfl hne
  | cons x r ih =>
    cases r with
    | nil =>
      have : x ≠ 0 := by intro e; subst e; simp [Top] at ht
      simp [val]; omega
    | cons y s =>
      have h := ih ht.cons (by simp)
      rw [val_cons]
      simp only [List.length_cons, Nat.add_sub_cancel] at h ⊢
      rw [Nat.pow_succ, Nat.mul_comm]
      have := Nat.mul_le_mul_left b h
      omega
theorem Top.length_le {b n : Nat} {xs : List Nat} (ht : Top xs) (hb : 1 < b) (h : val b xs < b ^ n) : xs.length ≤ n := by
  by_cases hne : xs = []
  · subst hne; simp
  · have h1 := Nat.lt_of_le_of_lt (top_le ht hne) h
    have h2 := (Nat.pow_lt_pow_iff_right hb).1 h1
    have : 0 < xs.length := List.length_pos_iff.2 hne
    omega
theorem Top.nil_iff {b : Nat} {xs : List Nat} (ht : Top xs) (hb : 0 < b) : xs = [] ↔ val b xs = 0 := by
  constructor
  · rintro rfl; rfl
  · intro h
    cases xs with
    | nil => rfl
    | cons x r => exact (top_of_zero ht h hb).elim

/-- what stands behind place n is nought: it counts for nothing. -/
theorem val_take_of_zero {b n : Nat} {xs : List Nat} (h : ∀ j, n ≤ j → ∀ hj : j < xs.length, xs[j] = 0) : val b (xs.take n) = val b xs := by
  have h1 : val b xs = val b (xs.take n ++ xs.drop n) := by rw [List.take_append_drop]
  rw [h1, val_append, val_all_zero b (xs.drop n)]
  · simp
  · intro x hx
    obtain ⟨j, hj, rfl⟩ := List.getElem_of_mem hx
    rw [List.getElem_drop]
    exact h _ (by omega) _
theorem top_take {n : Nat} {xs : List Nat} (hn : n ≤ xs.length) (h : n = 0 ∨ ∃ h : n - 1 < xs.length, xs[n - 1] ≠ 0) : Top (xs.take n) := by
  unfold Top
  by_cases h0 : n = 0
  · subst h0; simp
  · obtain h | ⟨h1, h2⟩ := h
    · exact absurd h h0
    · rw [List.getLast?_eq_getElem?, List.length_take, Nat.min_eq_left hn, List.getElem?_take, if_pos (by omega), List.getElem?_eq_getElem h1]
      simpa using h2
theorem Norm.take {b n : Nat} {xs : List Nat} (hd : Dg b xs) (hn : n ≤ xs.length) (h : n = 0 ∨ ∃ h : n - 1 < xs.length, xs[n - 1] ≠ 0) : Norm b (xs.take n) := ⟨hd.take, top_take hn h⟩

theorem take_succ_get {xs : List Nat} {k : Nat} (h : k < xs.length) : xs.take (k + 1) = xs.take k ++ [xs[k]] := by
  rw [List.take_succ_eq_append_getElem h]
theorem val_take_succ {b k : Nat} {xs : List Nat} (h : k < xs.length) : val b (xs.take (k + 1)) = val b (xs.take k) + b ^ k * xs[k] := by
  rw [take_succ_get h, val_snoc, List.length_take, Nat.min_eq_left (by omega)]
theorem val_split {b k : Nat} {xs : List Nat} (h : k ≤ xs.length) : val b xs = val b (xs.take k) + b ^ k * val b (xs.drop k) := by
  have := val_append b (xs.take k) (xs.drop k)
  rw [List.take_append_drop, List.length_take, Nat.min_eq_left h] at this
  exact this
theorem val_drop_succ {b k : Nat} {xs : List Nat} (h : k < xs.length) : val b (xs.drop k) = xs[k] + b * val b (xs.drop (k + 1)) := by
  rw [List.drop_eq_getElem_cons h, val_cons]

theorem top_of_le {b : Nat} {xs : List Nat} (hd : Dg b xs) (h : b ^ (xs.length - 1) ≤ val b xs) : Top xs := by
  intro hl
  obtain ⟨ys, rfl⟩ : ∃ ys, xs = ys ++ [0] := by
    rcases List.eq_nil_or_concat xs with rfl | ⟨ys, y, rfl⟩
    · simp at hl
    · simp at hl; exact ⟨ys, by simp [hl]⟩
  rw [val_snoc] at h
  have := val_lt (Dg.append.1 hd).1
  simp at h
  omega
theorem val_lt_of_digit {b i : Nat} {xs ys : List Nat} (hx : Dg b xs) (hi : i < xs.length) (hj : i < ys.length) (hd : xs.drop (i + 1) = ys.drop (i + 1)) (hlt : xs[i] < ys[i]) : val b xs < val b ys := by
  rw [val_split (b := b) (k := i) (xs := xs) (by omega), val_split (b := b) (k := i) (xs := ys) (by omega), val_drop_succ hi, val_drop_succ hj, hd]
  have h1 := val_lt (b := b) (xs := xs.take i) hx.take
  rw [List.length_take, Nat.min_eq_left (by omega)] at h1
  have h2 : b ^ i * (xs[i] + 1) ≤ b ^ i * ys[i] := Nat.mul_le_mul_left _ hlt
  rw [Nat.mul_add] at h2
  rw [Nat.mul_add, Nat.mul_add]
  omega

/-- digits with getD: 0 behind the last one. -/
def ext (xs : List Nat) (n : Nat) : List Nat := (List.range n).map fun j => xs.getD j 0
theorem length_ext (xs : List Nat) (n : Nat) : (ext xs n).length = n := by simp [ext]
theorem ext_succ (xs : List Nat) (n : Nat) : ext xs (n + 1) = ext xs n ++ [xs.getD n 0] := by simp [ext, List.range_succ]
theorem val_ext {b n : Nat} {xs : List Nat} (h : xs.length ≤ n) : val b (ext xs n) = val b xs := by
  have e : ext xs n = xs ++ List.replicate (n - xs.length) 0 := by
    apply List.ext_getElem
    · simp [ext]; omega
    · intro i h1 h2
      simp only [ext, List.getElem_map, List.getElem_range, List.getD_eq_getElem?_getD, List.getElem_append]
      by_cases hi : i < xs.length
      · simp [hi]
      · simp [hi]
  rw [e, val_append, val_zeros]; simp
theorem Dg.ext {b n : Nat} {xs : List Nat} (h : Dg b xs) (hb : 0 < b) : Dg b (ext xs n) := by
  intro x hx
  simp only [Num.ext, List.mem_map] at hx
  obtain ⟨j, _, rfl⟩ := hx
  exact h.getD hb j

theorem get_ext {xs : List Nat} {n j : Nat} (h : j < (ext xs n).length) : (ext xs n)[j] = xs.getD j 0 := by simp [ext]
/-- the first digit from the top that differs tells. -/
theorem val_lt_of_getD {b i : Nat} {xs ys : List Nat} (hx : Dg b xs) (hb : 0 < b) (hab : ∀ j, i < j → xs.getD j 0 = ys.getD j 0) (hlt : xs.getD i 0 < ys.getD i 0) : val b xs < val b ys := by
  obtain ⟨n, hn⟩ : ∃ n, n = max (i + 1) (max xs.length ys.length) := ⟨_, rfl⟩
  rw [← val_ext (b := b) (n := n) (xs := xs) (by omega), ← val_ext (b := b) (n := n) (xs := ys) (by omega)]
  have l1 := length_ext xs n
  have l2 := length_ext ys n
  refine val_lt_of_digit (i := i) (hx.ext hb) (by omega) (by omega) ?_ (by rw [get_ext, get_ext]; exact hlt)
  apply List.ext_getElem
  · simp [l1, l2]
  · intro j h1 h2
    rw [List.getElem_drop, List.getElem_drop, get_ext, get_ext]
    exact hab _ (by omega)
theorem val_eq_of_getD {b : Nat} {xs ys : List Nat} (hab : ∀ j, xs.getD j 0 = ys.getD j 0) : val b xs = val b ys := by
  obtain ⟨n, hn⟩ : ∃ n, n = max xs.length ys.length := ⟨_, rfl⟩
  rw [← val_ext (b := b) (n := n) (xs := xs) (by omega), ← val_ext (b := b) (n := n) (xs := ys) (by omega)]
  congr 1
  apply List.ext_getElem
  · simp [length_ext]
  · intro j h1 h2
    rw [get_ext, get_ext, hab]
theorem getD_ge {xs : List Nat} {j : Nat} (h : xs.length ≤ j) : xs.getD j 0 = 0 := by simp [List.getD_eq_getElem?_getD, h]

/-- two digits of 16 bits are one word -/
theorem pow_two_halves (k : Nat) : 4294967296 ^ k = 65536 ^ (2 * k) := by
  rw [Nat.pow_mul]
theorem words_two {ys D : List Nat} (hv : val 4294967296 ys = val 65536 (D.take (2 * ys.length))) (h : 2 * ys.length + 1 < D.length) :
    val 4294967296 (ys ++ [D[2 * ys.length] + D[2 * ys.length + 1] * 65536]) = val 65536 (D.take (2 * (ys.length + 1))) := by
  rw [val_snoc, hv, show 2 * (ys.length + 1) = 2 * ys.length + 1 + 1 from rfl, val_take_succ h, val_take_succ (show 2 * ys.length < D.length by omega), pow_two_halves, Nat.pow_succ]
  grind
theorem words_one {ys D : List Nat} (hv : val 4294967296 ys = val 65536 (D.take (2 * ys.length))) (h : 2 * ys.length + 1 = D.length) :
    val 4294967296 (ys ++ [D[2 * ys.length]]) = val 65536 (D.take (2 * (ys.length + 1))) := by
  have e : D.take (2 * (ys.length + 1)) = D.take (2 * ys.length + 1) := by rw [List.take_of_length_le (by omega), List.take_of_length_le (by omega)]
  rw [val_snoc, hv, e, val_take_succ (show 2 * ys.length < D.length by omega), pow_two_halves]
theorem words_top {ys D : List Nat} (hv : val 4294967296 ys = val 65536 D) (hd : Dg 4294967296 ys) (ht : Top D) (h : 2 * ys.length ≤ D.length + 1) : Top ys := by
  by_cases h0 : ys = []
  · subst h0; simp [Top]
  · have hp := List.length_pos_iff.2 h0
    refine top_of_le hd ?_
    rw [hv, pow_two_halves]
    refine Nat.le_trans ?_ (top_le ht (by rintro rfl; simp at h; omega))
    exact Nat.pow_le_pow_right (by omega) (by omega)

/-- one digit of a sum -/
theorem add_step {b X Y c x y k : Nat} {ys : List Nat} (hk : ys.length = k) (h : val b ys + b ^ k * c = X + Y) :
    val b (ys ++ [(x + y + c) % b]) + b ^ (k + 1) * ((x + y + c) / b) = (X + b ^ k * x) + (Y + b ^ k * y) := by
  have h1 := Nat.mod_add_div (x + y + c) b
  have h2 : b ^ k * ((x + y + c) % b) + b ^ k * (b * ((x + y + c) / b)) = b ^ k * (x + y + c) := by rw [← Nat.mul_add, h1]
  rw [val_snoc, hk, Nat.pow_succ, Nat.mul_assoc]
  grind
/-- one digit of a difference: c is what was borrowed -/
theorem sub_step {b X Y c x y k v : Nat} {ys : List Nat} (hk : ys.length = k) (h : val b ys + Y = X + b ^ k * c) (hv : v + y + c = b + x) (hb : v < 2 * b) :
    val b (ys ++ [v % b]) + (Y + b ^ k * y) = (X + b ^ k * x) + b ^ (k + 1) * (1 - v / b) := by
  have hb0 : 0 < b := by omega
  have h1 := Nat.mod_add_div v b
  rw [val_snoc, hk, Nat.pow_succ, Nat.mul_assoc]
  have hq : v / b < 2 := (Nat.div_lt_iff_lt_mul hb0).2 hb
  obtain ⟨q, hqe⟩ : ∃ q, v / b = q := ⟨_, rfl⟩
  obtain ⟨r, hre⟩ : ∃ r, v % b = r := ⟨_, rfl⟩
  rw [hqe] at hq h1 ⊢
  rw [hre] at h1 ⊢
  rcases (show q = 0 ∨ q = 1 by omega) with rfl | rfl
  · have h2 : r + y + c = b + x := by omega
    have h3 := congrArg (b ^ k * ·) h2
    simp only [Nat.mul_add] at h3
    simp only [Nat.sub_zero, Nat.mul_one]
    omega
  · have h2 : r + y + c = x := by omega
    have h3 := congrArg (b ^ k * ·) h2
    simp only [Nat.mul_add] at h3
    simp only [Nat.sub_self, Nat.mul_zero]
    omega
theorem val_ext_succ (b : Nat) (xs : List Nat) (k : Nat) : val b (ext xs (k + 1)) = val b (ext xs k) + b ^ k * xs.getD k 0 := by
  rw [ext_succ, val_snoc, length_ext]
theorem val_ext_zero (b : Nat) (xs : List Nat) : val b (ext xs 0) = 0 := rfl

theorem carry_zero {b n V X Y c : Nat} (hb : 2 ≤ b) (hx : X < b ^ n) (hy : Y < b ^ n) (h : V + b ^ (n + 1) * c = X + Y) : c = 0 := by
  rcases Nat.eq_zero_or_pos c with h0 | h0
  · exact h0
  · have h1 : b ^ (n + 1) * 1 ≤ b ^ (n + 1) * c := Nat.mul_le_mul_left _ h0
    have h2 : b ^ n * 2 ≤ b ^ n * b := Nat.mul_le_mul_left _ hb
    rw [Nat.pow_succ] at h h1
    omega

theorem borrow_zero {b n V X Y c : Nat} (hc : c ≤ 1) (hV : V < b ^ n) (hle : Y ≤ X) (h : V + Y = X + b ^ n * c) : c = 0 := by
  rcases (show c = 0 ∨ c = 1 by omega) with rfl | rfl
  · rfl
  · rw [Nat.mul_one] at h; omega

/-- a digit of a number -/
theorem digit {b q : Nat} {xs : List Nat} (h : Dg b xs) (hb : 0 < b) : val b xs / b ^ q % b = xs.getD q 0 := by
  have hp : 0 < b ^ q := Nat.pow_pos hb
  by_cases hq : q < xs.length
  · have h1 := val_lt (b := b) (xs := xs.take q) h.take
    rw [List.length_take, Nat.min_eq_left (by omega)] at h1
    rw [val_split (b := b) (k := q) (xs := xs) (by omega), Nat.add_mul_div_left _ _ hp, Nat.div_eq_of_lt h1, Nat.zero_add, val_drop_succ hq, Nat.add_mul_mod_self_left, Nat.mod_eq_of_lt (h.get hq)]
    simp [List.getD_eq_getElem?_getD, hq]
  · rw [getD_ge (by omega), Nat.div_eq_of_lt (val_lt_pow h hb (by omega)), Nat.zero_mod]
/-- a bit of a number of digits of 16 bits -/
theorem bit_of {i : Nat} {xs : List Nat} (h : Dg 65536 xs) : xs.getD (i / 16) 0 / 2 ^ (i % 16) % 2 = ((val 65536 xs).testBit i).toNat := by
  have hd := digit (q := i / 16) h (by omega)
  have e : (65536 : Nat) ^ (i / 16) = 2 ^ (16 * (i / 16)) := by rw [Nat.pow_mul]
  have e2 : (2 : Nat) ^ i = 2 ^ (16 * (i / 16)) * 2 ^ (i % 16) := by rw [← Nat.pow_add]; congr 1; omega
  rw [Nat.testBit_eq_decide_div_mod_eq, e2, ← Nat.div_div_eq_div_mul, ← e, ← hd]
  generalize val 65536 xs / 65536 ^ (i / 16) = M
  have hr : i % 16 < 16 := Nat.mod_lt _ (by omega)
  generalize i % 16 = r at hr
  have e3 : (65536 : Nat) = 2 ^ r * (2 ^ (15 - r) * 2) := by
    rw [← Nat.pow_succ, ← Nat.pow_add, show r + (15 - r).succ = 16 by omega]
  have h1 : M / 2 ^ r % 2 = M % 65536 / 2 ^ r % 2 := by
    rw [e3, Nat.mod_mul_right_div_self, Nat.mod_mul_left_mod]
  rw [← h1]
  have h2 := Nat.mod_two_eq_zero_or_one (M / 2 ^ r)
  rcases h2 with h2 | h2 <;> simp [h2]

/-- how many bits a number has -/
def IsBits (N n : Nat) : Prop := N < 2 ^ n ∧ (n = 0 ∨ 2 ^ (n - 1) ≤ N)
theorem IsBits.unique {N m n : Nat} (h : IsBits N m) (k : IsBits N n) : m = n := by
  have aux : ∀ {m n : Nat}, IsBits N m → IsBits N n → ¬ m < n := by
    intro m n h k hlt
    rcases k.2 with h0 | h1
    · omega
    · have h2 : 2 ^ m ≤ 2 ^ (n - 1) := Nat.pow_le_pow_right (by omega) (by omega)
      have := h.1
      omega
  have h1 := aux h k
  have h2 := aux k h
  omega

/-- the bits of a number of words -/
theorem bits_words {ys : List Nat} {m : Nat} (hn : Norm 4294967296 ys) (hne : ys ≠ []) (hm : IsBits (ys[ys.length - 1]'(by have := List.length_pos_iff.2 hne; omega)) m) : IsBits (val 4294967296 ys) (32 * (ys.length - 1) + m) := by
  have hp := List.length_pos_iff.2 hne
  have h1 := val_lt (b := 4294967296) (xs := ys.take (ys.length - 1)) hn.1.take
  rw [List.length_take, Nat.min_eq_left (by omega)] at h1
  have h2 := val_take_succ (b := 4294967296) (xs := ys) (k := ys.length - 1) (by omega)
  rw [Nat.sub_add_cancel hp, List.take_length] at h2
  have e : (4294967296 : Nat) ^ (ys.length - 1) = 2 ^ (32 * (ys.length - 1)) := by rw [Nat.pow_mul]
  rw [e] at h1 h2
  have ht : ys[ys.length - 1]'(by omega) ≠ 0 := by
    intro h0
    refine hn.2 ?_
    rw [List.getLast?_eq_getElem?, List.getElem?_eq_getElem (by omega), h0]
  obtain ⟨hm1, hm2⟩ := hm
  generalize ys[ys.length - 1]'(by omega) = x at *
  have hm0 : m ≠ 0 := by rintro rfl; simp at hm1; exact ht hm1
  refine ⟨?_, .inr ?_⟩
  · rw [h2, Nat.pow_add]
    have := Nat.mul_le_mul_left (2 ^ (32 * (ys.length - 1))) (show x + 1 ≤ 2 ^ m from hm1)
    rw [Nat.mul_add] at this
    omega
  · rw [h2, show 32 * (ys.length - 1) + m - 1 = 32 * (ys.length - 1) + (m - 1) by omega, Nat.pow_add]
    have := Nat.mul_le_mul_left (2 ^ (32 * (ys.length - 1))) (hm2.resolve_left hm0)
    omega

/-- one digit of a product by a digit, added -/
theorem mul_step {b X Y c x p q k : Nat} {ys : List Nat} (hk : ys.length = k) (h : val b ys + b ^ k * c = X + Y * x) :
    val b (ys ++ [(c + (x * q + p)) % b]) + b ^ (k + 1) * ((c + (x * q + p)) / b) = (X + b ^ k * p) + (Y + b ^ k * q) * x := by
  have h1 := Nat.mod_add_div (c + (x * q + p)) b
  have h2 : b ^ k * ((c + (x * q + p)) % b) + b ^ k * (b * ((c + (x * q + p)) / b)) = b ^ k * (c + (x * q + p)) := by rw [← Nat.mul_add, h1]
  rw [val_snoc, hk, Nat.pow_succ, Nat.mul_assoc]
  grind

/-- one word of a product, laid behind those that stand -/
theorem mul_row {b A B x k cy : Nat} {cs ds : List Nat} (hk : k ≤ cs.length) (hv : val b cs = A * B) (hd : val b ds + b ^ ds.length * cy = val b (cs.drop k) + A * x) :
    val b (cs.take k ++ ds ++ [cy]) = A * (B + b ^ k * x) := by
  have h1 := val_split (b := b) hk
  have hl : (cs.take k).length = k := by rw [List.length_take]; omega
  rw [List.append_assoc, val_append, hl, val_snoc, hd, Nat.mul_add, ← Nat.add_assoc, ← h1, hv]
  grind

theorem len_le {b : Nat} {xs a : List Nat} (hb : 1 < b) (ht : Top xs) (ha : Dg b a) (h : val b xs ≤ val b a) : xs.length ≤ a.length :=
  ht.length_le hb (Nat.lt_of_le_of_lt h (val_lt ha))
theorem len_add {b n : Nat} {xs x y : List Nat} (hb : 1 < b) (ht : Top xs) (hx : Dg b x) (hy : Dg b y) (h : val b xs = val b x + val b y) (h1 : x.length ≤ n) (h2 : y.length ≤ n) : xs.length ≤ n + 1 := by
  refine ht.length_le hb ?_
  have h3 := val_lt_pow hx (by omega) h1
  have h4 := val_lt_pow hy (by omega) h2
  have h5 : b ^ n * 2 ≤ b ^ n * b := Nat.mul_le_mul_left _ hb
  rw [h, Nat.pow_succ]
  omega
theorem len_mul {b : Nat} {xs x y : List Nat} (hb : 1 < b) (ht : Top xs) (hx : Dg b x) (hy : Dg b y) (h : val b xs = val b x * val b y) : xs.length ≤ x.length + y.length := by
  refine ht.length_le hb ?_
  rw [h, Nat.pow_add]
  exact Nat.mul_lt_mul'' (val_lt hx) (val_lt hy)

/-- division bit by bit -/
theorem div_step_lt {D P c : Nat} (hD : 0 < D) (h : 2 * (P % D) + c < D) : (2 * P + c) / D = 2 * (P / D) ∧ (2 * P + c) % D = 2 * (P % D) + c := by
  have e : 2 * P + c = (2 * (P % D) + c) + D * (2 * (P / D)) := by
    have := Nat.div_add_mod P D
    grind
  rw [e, Nat.add_mul_div_left _ _ hD, Nat.add_mul_mod_self_left, Nat.div_eq_of_lt h, Nat.mod_eq_of_lt h]
  exact ⟨by omega, rfl⟩
theorem div_step_ge {D P c : Nat} (hD : 0 < D) (hc : c ≤ 1) (h : D ≤ 2 * (P % D) + c) : (2 * P + c) / D = 2 * (P / D) + 1 ∧ (2 * P + c) % D = 2 * (P % D) + c - D := by
  have hm := Nat.mod_lt P hD
  have hl : 2 * (P % D) + c - D < D := by omega
  have e : 2 * P + c = (2 * (P % D) + c - D) + D * (2 * (P / D) + 1) := by
    have := Nat.div_add_mod P D
    have h2 : D * (2 * (P / D) + 1) = 2 * (D * (P / D)) + D := by grind
    rw [h2]; omega
  rw [e, Nat.add_mul_div_left _ _ hD, Nat.add_mul_mod_self_left, Nat.div_eq_of_lt hl, Nat.mod_eq_of_lt hl]
  exact ⟨by omega, rfl⟩
theorem prefix_step (N i : Nat) : N / 2 ^ i = 2 * (N / 2 ^ (i + 1)) + (N.testBit i).toNat := by
  have h : (N.testBit i).toNat = N / 2 ^ i % 2 := by
    rw [Nat.testBit_eq_decide_div_mod_eq]
    rcases Nat.mod_two_eq_zero_or_one (N / 2 ^ i) with h | h <;> simp [h]
  rw [h, Nat.pow_succ, ← Nat.div_div_eq_div_mul]
  omega
theorem val_set {b j v : Nat} {xs : List Nat} (h : j < xs.length) : val b (xs.set j v) + b ^ j * xs[j] = val b xs + b ^ j * v := by
  induction xs generalizing j with
  | nil => simp at h
  | cons x r ih =>
    cases j with
    | zero => simp [val_cons]; omega
    | succ j =>
      have := ih (j := j) (by simpa using h)
      simp only [List.set_cons_succ, val_cons, List.getElem_cons_succ, Nat.pow_succ]
      grind
theorem Dg.set {b j v : Nat} {xs : List Nat} (h : Dg b xs) (hv : v < b) : Dg b (xs.set j v) := fun x hx => by
  rcases List.mem_or_eq_of_mem_set hx with h1 | h1
  · exact h x h1
  · omega

theorem dbl_carry {b n V R D c c0 : Nat} (hb : 2 ≤ b) (hR : R < D) (hD : D < b ^ n) (h0 : c0 ≤ 1) (h : V + b ^ (n + 1) * c = c0 + R * 2) : c = 0 := by
  rcases Nat.eq_zero_or_pos c with h1 | h1
  · exact h1
  · have h2 : b ^ (n + 1) * 1 ≤ b ^ (n + 1) * c := Nat.mul_le_mul_left _ h1
    have h3 : b ^ n * 2 ≤ b ^ n * b := Nat.mul_le_mul_left _ hb
    rw [Nat.pow_succ] at h h2
    omega
/-- a bit more of a quotient -/
theorem digit_room {xs : List Nat} {k m : Nat} (hx : Dg 65536 xs) (h : val 65536 xs = 2 ^ (k + 1) * m) : xs.getD (k / 16) 0 + 2 ^ (k % 16) < 65536 := by
  have hd := digit (q := k / 16) hx (by omega)
  have e : (65536 : Nat) ^ (k / 16) = 2 ^ (16 * (k / 16)) := by rw [Nat.pow_mul]
  have e2 : (2 : Nat) ^ (k + 1) = 2 ^ (16 * (k / 16)) * 2 ^ (k % 16 + 1) := by rw [← Nat.pow_add]; congr 1; omega
  have hp : 0 < (2 : Nat) ^ (16 * (k / 16)) := Nat.pow_pos (by omega)
  rw [h, e, e2, Nat.mul_assoc, Nat.mul_div_cancel_left _ hp] at hd
  have hr : k % 16 < 16 := Nat.mod_lt _ (by omega)
  generalize k % 16 = r at hd hr ⊢
  have e3 : (65536 : Nat) = 2 ^ (r + 1) * 2 ^ (15 - r) := by
    rw [← Nat.pow_add, show r + 1 + (15 - r) = 16 by omega]
  have h2 : 2 ^ (r + 1) * m % 65536 = 2 ^ (r + 1) * (m % 2 ^ (15 - r)) := by rw [e3, Nat.mul_mod_mul_left]
  have h3 : m % 2 ^ (15 - r) + 1 ≤ 2 ^ (15 - r) := Nat.mod_lt _ (Nat.pow_pos (by omega))
  have h4 := Nat.mul_le_mul_left (2 ^ (r + 1)) h3
  rw [Nat.mul_add, ← h2, hd, ← e3] at h4
  have h5 : (2 : Nat) ^ r < 2 ^ (r + 1) := Nat.pow_lt_pow_right (by omega) (by omega)
  omega
theorem pow_split16 (k : Nat) : (2 : Nat) ^ k = 65536 ^ (k / 16) * 2 ^ (k % 16) := by
  have e : (65536 : Nat) ^ (k / 16) = 2 ^ (16 * (k / 16)) := by rw [Nat.pow_mul]
  rw [e, ← Nat.pow_add]; congr 1; omega

/-- a word moved up by s bits, over what was moved out of the one below -/
theorem or_up {p b s : Nat} (hb : b < 4294967296) (hs : s < 32) :
    (p * 2 ^ s % 4294967296) ||| (b / 2 ^ (32 - s)) = (b / 2 ^ (32 - s) + (2 ^ s * p + 0)) % 4294967296 ∧ (b / 2 ^ (32 - s) + (2 ^ s * p + 0)) / 4294967296 = p / 2 ^ (32 - s) := by
  have e : (4294967296 : Nat) = 2 ^ s * 2 ^ (32 - s) := by rw [← Nat.pow_add, show s + (32 - s) = 32 by omega]
  have ht : 0 < 2 ^ (32 - s) := Nat.pow_pos (by omega)
  have hr : 0 < 2 ^ s := Nat.pow_pos (by omega)
  have hc : b / 2 ^ (32 - s) < 2 ^ s := by
    rw [Nat.div_lt_iff_lt_mul ht, ← e]; exact hb
  have h1 := Nat.div_add_mod p (2 ^ (32 - s))
  have h2 := Nat.mod_lt p ht
  generalize hcc : b / 2 ^ (32 - s) = c at *
  have h3 : 2 ^ s * p = 4294967296 * (p / 2 ^ (32 - s)) + 2 ^ s * (p % 2 ^ (32 - s)) := by
    rw [e, Nat.mul_assoc, ← Nat.mul_add, h1]
  have h4 : 2 ^ s * (p % 2 ^ (32 - s)) + c < 4294967296 := by
    have h5 := Nat.mul_le_mul_left (2 ^ s) (show p % 2 ^ (32 - s) + 1 ≤ 2 ^ (32 - s) from h2)
    rw [Nat.mul_add, ← e] at h5
    omega
  have h6 : p * 2 ^ s % 4294967296 = 2 ^ s * (p % 2 ^ (32 - s)) := by
    rw [Nat.mul_comm p, h3, Nat.mul_add_mod_self_left, Nat.mod_eq_of_lt (by omega)]
  have h7 : c + (2 ^ s * p + 0) = (2 ^ s * (p % 2 ^ (32 - s)) + c) + 4294967296 * (p / 2 ^ (32 - s)) := by rw [h3]; omega
  rw [h6, h7, Nat.add_mul_mod_self_left, Nat.add_mul_div_left _ _ (by omega), Nat.mod_eq_of_lt h4, Nat.div_eq_of_lt h4, Nat.zero_add]
  exact ⟨(Nat.two_pow_add_eq_or_of_lt hc _).symm, rfl⟩
/-- a word moved down by s bits, under what was moved out of the one above -/
theorem or_down {p b s : Nat} (hp : p < 4294967296) (hs : s < 32) :
    (p / 2 ^ s) ||| (b * 2 ^ (32 - s) % 4294967296) = p / 2 ^ s + 2 ^ (32 - s) * (b % 2 ^ s) := by
  have e : (4294967296 : Nat) = 2 ^ (32 - s) * 2 ^ s := by rw [← Nat.pow_add, show 32 - s + s = 32 by omega]
  have hr : 0 < 2 ^ s := Nat.pow_pos (by omega)
  have hc : p / 2 ^ s < 2 ^ (32 - s) := by
    rw [Nat.div_lt_iff_lt_mul hr, ← e]; exact hp
  have h6 : b * 2 ^ (32 - s) % 4294967296 = 2 ^ (32 - s) * (b % 2 ^ s) := by
    rw [Nat.mul_comm b, e, Nat.mul_mod_mul_left]
  rw [h6, Nat.or_comm, ← Nat.two_pow_add_eq_or_of_lt hc, Nat.add_comm]
theorem down_step {x V a s : Nat} (hs : s < 32) (ha : V % 4294967296 = a) : (x + 4294967296 * V) / 2 ^ s = (x / 2 ^ s + 2 ^ (32 - s) * (a % 2 ^ s)) + 4294967296 * (V / 2 ^ s) := by
  have e : (4294967296 : Nat) = 2 ^ s * 2 ^ (32 - s) := by rw [← Nat.pow_add, show s + (32 - s) = 32 by omega]
  have hr : 0 < 2 ^ s := Nat.pow_pos (by omega)
  have h1 : a % 2 ^ s = V % 2 ^ s := by rw [← ha, e, Nat.mod_mul_right_mod]
  have h2 := Nat.div_add_mod V (2 ^ s)
  rw [h1, show x + 4294967296 * V = x + 2 ^ s * (2 ^ (32 - s) * V) by rw [← Nat.mul_assoc, ← e], Nat.add_mul_div_left _ _ hr]
  have h3 : 2 ^ (32 - s) * V = 4294967296 * (V / 2 ^ s) + 2 ^ (32 - s) * (V % 2 ^ s) := by
    rw [e, Nat.mul_comm (2 ^ s), Nat.mul_assoc, ← Nat.mul_add, h2]
  omega

/-- how two numbers stand -/
def cmpI (a b : Nat) : Int := if a < b then -1 else if b < a then 1 else 0

theorem cmpI_lt {a b : Nat} (h : a < b) : cmpI a b = -1 := by simp [cmpI, h]
theorem cmpI_gt {a b : Nat} (h : b < a) : cmpI a b = 1 := by unfold cmpI; rw [if_neg (by omega), if_pos h]
theorem cmpI_eq {a b : Nat} (h : a = b) : cmpI a b = 0 := by subst h; simp [cmpI]

theorem cmpI_neg (a b : Nat) : cmpI a b < 0 ↔ a < b := by
  unfold cmpI
  split
  · simp_all
  · split <;> simp_all

end Go.Proofs.YtaiinglogpbfjaaDoor.Num
