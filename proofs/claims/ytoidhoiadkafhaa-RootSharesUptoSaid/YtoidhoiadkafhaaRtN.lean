/- Plain mathematics of common factors and square roots: what one step of each leaves. No program is named here. -/
import Derived.Test.YtoidhoiadkafhaaNum
namespace Go.Proofs.Ytoidhoiadkafhaa.Num

/-- r is the greatest number whose square isn't above N -/
def IsRoot (N r : Nat) : Prop := r * r ≤ N ∧ N < (r + 1) * (r + 1)
theorem sq_le {x y : Nat} (h : x * x ≤ y * y) : x ≤ y := by
  rcases Nat.lt_or_ge y x with hlt | hge
  · have := Nat.mul_lt_mul'' hlt hlt; omega
  · exact hge
theorem sq_lt {x y : Nat} (h : x * x < y * y) : x < y := by
  rcases Nat.lt_or_ge x y with hlt | hge
  · exact hlt
  · have := Nat.mul_le_mul hge hge; omega
theorem IsRoot.unique {N r s : Nat} (h : IsRoot N r) (k : IsRoot N s) : r = s := by
  have h1 := sq_lt (Nat.lt_of_le_of_lt h.1 k.2)
  have h2 := sq_lt (Nat.lt_of_le_of_lt k.1 h.2)
  omega
theorem IsRoot.le {N r m : Nat} (h : IsRoot N r) (k : m * m ≤ N) : m ≤ r := by
  have := sq_lt (Nat.lt_of_le_of_lt k h.2); omega
theorem IsRoot.sq {N r : Nat} (h : IsRoot N r) : r * r = N ↔ ∃ m, m * m = N := by
  constructor
  · intro e; exact ⟨r, e⟩
  · rintro ⟨m, e⟩
    have h1 := h.le (Nat.le_of_eq e)
    have h2 := Nat.mul_le_mul h1 h1
    have := h.1
    omega
theorem IsRoot.self (m : Nat) : IsRoot (m * m) m := ⟨Nat.le_refl _, by rw [Nat.add_mul, Nat.mul_add]; omega⟩
theorem IsRoot.zero : IsRoot 0 0 := ⟨by omega, by omega⟩
theorem IsRoot.zero_iff {N r : Nat} (h : IsRoot N r) : r = 0 ↔ N = 0 := by
  constructor
  · rintro rfl; have := h.2; omega
  · rintro rfl; have h1 := h.1; 
    rcases Nat.eq_zero_or_pos r with h2 | h2
    · exact h2
    · have := Nat.mul_le_mul h2 h2; omega

/-- a step from above stays above -/
theorem newton_above {N m r : Nat} (hm : m * m ≤ N) (hr : 0 < r) : m ≤ (r + N / r) / 2 := by
  have h1 : 2 * m ≤ r + N / r := by
    rcases Nat.lt_or_ge (2 * m) r with hlt | hge
    · exact Nat.le_trans (Nat.le_of_lt hlt) (Nat.le_add_right _ _)
    · have h2 : (2 * m - r) * r ≤ N := by
        refine Nat.le_trans ?_ hm
        obtain ⟨d, rfl⟩ | ⟨d, rfl⟩ : (∃ d, r = m + d) ∨ (∃ d, m = r + d) := by
          rcases Nat.le_total m r with h | h
          · exact .inl ⟨r - m, by omega⟩
          · exact .inr ⟨m - r, by omega⟩
        · obtain ⟨e, rfl⟩ : ∃ e, m = d + e := ⟨m - d, by omega⟩
          rw [show 2 * (d + e) - (d + e + d) = e by omega]
          simp only [Nat.add_mul, Nat.mul_add, Nat.mul_comm e d]
          omega
        · rw [show 2 * (r + d) - r = r + 2 * d by omega]
          simp only [Nat.add_mul, Nat.mul_add, Nat.mul_comm d r, Nat.mul_assoc]
          omega
      have h3 := (Nat.le_div_iff_mul_le hr).2 h2
      omega
  omega
/-- where a step goes no further down, the root is found -/
theorem newton_end {N r : Nat} (ha : N < (r + 1) * (r + 1)) (hr : 0 < r) (h : r ≤ (r + N / r) / 2) : IsRoot N r := by
  have h1 : r ≤ N / r := by omega
  exact ⟨(Nat.le_div_iff_mul_le hr).1 h1, ha⟩
/-- what lies above the root, by its square -/
theorem above_iff {N r : Nat} : N < (r + 1) * (r + 1) ↔ ∀ m, m * m ≤ N → m ≤ r := by
  constructor
  · intro h m hm
    have := sq_lt (Nat.lt_of_le_of_lt hm h); omega
  · intro h
    rcases Nat.lt_or_ge N ((r + 1) * (r + 1)) with hlt | hge
    · exact hlt
    · have := h _ hge; omega
theorem newton_next {N r : Nat} (hr : 0 < r) : N < ((r + N / r) / 2 + 1) * ((r + N / r) / 2 + 1) :=
  above_iff.2 fun _ hm => newton_above hm hr
/-- the root of the higher bits, and one, moved back up, lies above the root -/
theorem root_up {N s k : Nat} (h : IsRoot (N / (2 ^ k * 2 ^ k)) s) : N < ((s + 1) * 2 ^ k) * ((s + 1) * 2 ^ k) := by
  have hp : 0 < 2 ^ k * 2 ^ k := Nat.mul_pos (Nat.two_pow_pos _) (Nat.two_pow_pos _)
  have h1 := (Nat.div_lt_iff_lt_mul hp).1 h.2
  calc N < (s + 1) * (s + 1) * (2 ^ k * 2 ^ k) := h1
    _ = _ := by ac_rfl

/-- TWO NUMBERS THAT TWO OTHERS ARE MADE OF BOTH WAYS have the same common factors. -/
theorem gcd_of_both {a b x y p q r s p' q' r' s' : Nat} (ha : a = p * x + q * y) (hb : b = r * x + s * y) (hx : x + q' * b = p' * a ∨ x + p' * a = q' * b) (hy : y + s' * a = r' * b ∨ y + r' * b = s' * a) : Nat.gcd x y = Nat.gcd a b := by
  refine Nat.dvd_antisymm (Nat.dvd_gcd ?_ ?_) (Nat.dvd_gcd ?_ ?_)
  · rw [ha]; exact Nat.dvd_add (Nat.dvd_mul_left_of_dvd (Nat.gcd_dvd_left _ _) _) (Nat.dvd_mul_left_of_dvd (Nat.gcd_dvd_right _ _) _)
  · rw [hb]; exact Nat.dvd_add (Nat.dvd_mul_left_of_dvd (Nat.gcd_dvd_left _ _) _) (Nat.dvd_mul_left_of_dvd (Nat.gcd_dvd_right _ _) _)
  · have da := Nat.gcd_dvd_left a b
    have db := Nat.gcd_dvd_right a b
    rcases hx with h | h
    · exact (Nat.dvd_add_left (Nat.dvd_mul_left_of_dvd db _)).1 (h ▸ Nat.dvd_mul_left_of_dvd da _)
    · exact (Nat.dvd_add_left (Nat.dvd_mul_left_of_dvd da _)).1 (h ▸ Nat.dvd_mul_left_of_dvd db _)
  · have da := Nat.gcd_dvd_left a b
    have db := Nat.gcd_dvd_right a b
    rcases hy with h | h
    · exact (Nat.dvd_add_left (Nat.dvd_mul_left_of_dvd da _)).1 (h ▸ Nat.dvd_mul_left_of_dvd db _)
    · exact (Nat.dvd_add_left (Nat.dvd_mul_left_of_dvd db _)).1 (h ▸ Nat.dvd_mul_left_of_dvd da _)

/-- HOW THE FORESEEN DIVISIONS STAND: x1 and x2 are what is left of A and B; u and v how often each was taken. -/
structure Inv (A B x1 x2 u1 v1 u2 v2 : Nat) (e : Bool) : Prop where
  top : A = v2 * x1 + v1 * x2
  low : B = u2 * x1 + u1 * x2
  even : e = false → x1 + v1 * B = u1 * A ∧ x2 + u2 * A = v2 * B ∧ u1 * v2 = u2 * v1 + 1
  odd : e = true → x1 + u1 * A = v1 * B ∧ x2 + v2 * B = u2 * A ∧ u2 * v1 = u1 * v2 + 1
  le : x2 ≤ x1
  uv : u2 ≤ v2
  uuvv : u1 + u2 ≤ v1 + v2
  vv : v1 ≤ v2
  u1v : u1 ≤ v2
  pos : 1 ≤ v2
  nz : 1 ≤ v1 → 1 ≤ u2
theorem Inv.start {A B : Nat} (h : B ≤ A) : Inv A B A B 1 0 0 1 false :=
  ⟨by omega, by omega, fun _ => by omega, fun h => by simp at h, h, by omega, by omega, by omega, by omega, by omega, by omega⟩
theorem Inv.next {A B x1 x2 u1 v1 u2 v2 q r : Nat} {e : Bool} (h : Inv A B x1 x2 u1 v1 u2 v2 e) (hx : x1 = x2 * q + r) (hr : r < x2) : Inv A B x2 r u2 v2 (u1 + q * u2) (v1 + q * v2) (!e) := by
  have hq : 1 ≤ q := by
    rcases Nat.eq_zero_or_pos q with h0 | h0
    · subst h0; have := h.le; omega
    · exact h0
  have hu : q * u2 ≤ q * v2 := Nat.mul_le_mul_left _ h.uv
  have hu1 : u2 ≤ q * u2 := Nat.le_mul_of_pos_left _ hq
  have hv1 : v2 ≤ q * v2 := Nat.le_mul_of_pos_left _ hq
  have h1 := h.uuvv
  have h2 := h.uv
  have h3 := h.vv
  have h4 := h.pos
  have hq2 : (q - 1) * u2 ≤ (q - 1) * v2 := Nat.mul_le_mul_left _ h.uv
  have e1 : q * u2 = (q - 1) * u2 + u2 := by obtain ⟨p, rfl⟩ : ∃ p, q = p + 1 := ⟨q - 1, by omega⟩; simp [Nat.add_mul]
  have e2 : q * v2 = (q - 1) * v2 + v2 := by obtain ⟨p, rfl⟩ : ∃ p, q = p + 1 := ⟨q - 1, by omega⟩; simp [Nat.add_mul]
  have t := h.top
  have l := h.low
  subst hx
  refine ⟨by rw [t]; grind, by rw [l]; grind, ?_, ?_, by omega, by omega, by omega, by omega, by omega, by omega, ?_⟩
  · intro he
    have he' : e = true := by simpa using he
    obtain ⟨o1, o2, o3⟩ := h.odd he'
    exact ⟨by grind, by grind, by grind⟩
  · intro he
    have he' : e = false := by simpa using he
    obtain ⟨o1, o2, o3⟩ := h.even he'
    exact ⟨by grind, by grind, by grind⟩
  · intro _
    cases e with
    | false =>
      obtain ⟨-, -, o3⟩ := h.even rfl
      rcases Nat.eq_zero_or_pos u1 with h0 | h0
      · subst h0; omega
      · omega
    | true =>
      obtain ⟨-, -, o3⟩ := h.odd rfl
      rcases Nat.eq_zero_or_pos u2 with h0 | h0
      · subst h0; omega
      · omega
/-- the bounds of what is reckoned -/
theorem Inv.small {A B x1 x2 u1 v1 u2 v2 : Nat} {e : Bool} (h : Inv A B x1 x2 u1 v1 u2 v2 e) (hA : A < 18446744073709551616) (hc : v2 ≤ x2) : v2 < 4294967296 := by
  have h1 : v2 * v2 ≤ v2 * x1 := Nat.mul_le_mul_left _ (Nat.le_trans hc h.le)
  have h2 := h.top
  exact sq_lt (Nat.lt_of_le_of_lt (show v2 * v2 ≤ A by omega) (Nat.lt_of_lt_of_le hA (by omega)))
theorem Inv.great {A B x1 x2 u1 v1 u2 v2 : Nat} {e : Bool} (h : Inv A B x1 x2 u1 v1 u2 v2 e) (hp : 0 < x1) : v2 ≤ A := by
  have h1 : v2 ≤ v2 * x1 := Nat.le_mul_of_pos_right _ hp
  have h2 := h.top
  omega

/-- COLLINS: where what is left of the heads is great enough, the divisions of the whole numbers come out alike. -/
theorem Inv.whole {A B x1 x2 u1 v1 u2 v2 : Nat} {e : Bool} (h : Inv A B x1 x2 u1 v1 u2 v2 e) (h2 : v2 ≤ x2) (h1 : v1 + v2 ≤ x1 - x2) {a b K : Nat} (hK : 0 < K) (ha : a / K = A) (hb : b / K = B) :
    ∃ X1 X2, X2 ≤ X1 ∧ a = v2 * X1 + v1 * X2 ∧ b = u2 * X1 + u1 * X2 ∧ (e = false → X1 + v1 * b = u1 * a ∧ X2 + u2 * a = v2 * b) ∧ (e = true → X1 + u1 * a = v1 * b ∧ X2 + v2 * b = u2 * a) := by
  obtain ⟨la, hla, ea⟩ : ∃ la, la < K ∧ a = K * A + la := ⟨a % K, Nat.mod_lt _ hK, by rw [← ha]; exact (Nat.div_add_mod _ _).symm⟩
  obtain ⟨lb, hlb, eb⟩ : ∃ lb, lb < K ∧ b = K * B + lb := ⟨b % K, Nat.mod_lt _ hK, by rw [← hb]; exact (Nat.div_add_mod _ _).symm⟩
  have f : ∀ n l : Nat, l < K → n * l ≤ K * n := fun n l hl => by rw [Nat.mul_comm]; exact Nat.mul_le_mul_right _ (Nat.le_of_lt hl)
  have ha' : ∀ n, n * a = K * (n * A) + n * la := fun n => by rw [ea, Nat.mul_add, Nat.mul_left_comm]
  have hb' : ∀ n, n * b = K * (n * B) + n * lb := fun n => by rw [eb, Nat.mul_add, Nat.mul_left_comm]
  have hu := h.uuvv
  have hle := h.le
  have huv := h.uv
  have hu1 := h.u1v
  have k1 : K * (v1 + v2 + x2) ≤ K * x1 := Nat.mul_le_mul_left _ (by omega)
  have k2 : K * v2 ≤ K * x2 := Nat.mul_le_mul_left _ h2
  have k3 : K * u2 ≤ K * v2 := Nat.mul_le_mul_left _ huv
  have k4 : K * u1 ≤ K * v2 := Nat.mul_le_mul_left _ hu1
  have k5 : K * (u1 + u2) ≤ K * (v1 + v2) := Nat.mul_le_mul_left _ hu
  simp only [Nat.mul_add] at k1 k5
  have a1 := ha' u1
  have a2 := ha' u2
  have b1 := hb' v1
  have b2 := hb' v2
  have m1 := f v1 lb hlb
  have m2 := f v2 lb hlb
  have m3 := f u1 la hla
  have m4 := f u2 la hla
  cases e with
  | false =>
    obtain ⟨i1, i2, i3⟩ := h.even rfl
    have j1 : K * x1 + K * (v1 * B) = K * (u1 * A) := by rw [← Nat.mul_add, i1]
    have j2 : K * x2 + K * (u2 * A) = K * (v2 * B) := by rw [← Nat.mul_add, i2]
    obtain ⟨X1, hX1⟩ : ∃ X1, X1 + v1 * b = u1 * a := ⟨u1 * a - v1 * b, by omega⟩
    obtain ⟨X2, hX2⟩ : ∃ X2, X2 + u2 * a = v2 * b := ⟨v2 * b - u2 * a, by omega⟩
    refine ⟨X1, X2, by omega, ?_, ?_, fun _ => ⟨hX1, hX2⟩, fun h => by simp at h⟩
    · clear a1 a2 b1 b2 m1 m2 m3 m4 j1 j2 ha' hb' f ea eb k1 k2 k3 k4 k5; grind
    · clear a1 a2 b1 b2 m1 m2 m3 m4 j1 j2 ha' hb' f ea eb k1 k2 k3 k4 k5; grind
  | true =>
    obtain ⟨i1, i2, i3⟩ := h.odd rfl
    have j1 : K * x1 + K * (u1 * A) = K * (v1 * B) := by rw [← Nat.mul_add, i1]
    have j2 : K * x2 + K * (v2 * B) = K * (u2 * A) := by rw [← Nat.mul_add, i2]
    obtain ⟨X1, hX1⟩ : ∃ X1, X1 + u1 * a = v1 * b := ⟨v1 * b - u1 * a, by omega⟩
    obtain ⟨X2, hX2⟩ : ∃ X2, X2 + v2 * b = u2 * a := ⟨u2 * a - v2 * b, by omega⟩
    refine ⟨X1, X2, by omega, ?_, ?_, fun h => by simp at h, fun _ => ⟨hX1, hX2⟩⟩
    · clear a1 a2 b1 b2 m1 m2 m3 m4 j1 j2 ha' hb' f ea eb k1 k2 k3 k4 k5; grind
    · clear a1 a2 b1 b2 m1 m2 m3 m4 j1 j2 ha' hb' f ea eb k1 k2 k3 k4 k5; grind

/-- what the foreseen divisions say: none, or that they come out alike whatever follows -/
def Seen (A B f0 f1 s0 s1 : Nat) (ev : Bool) : Prop := f1 = 0 ∨ ∃ x1 x2, Inv A B x1 x2 f0 f1 s0 s1 (!ev) ∧ s1 ≤ x2 ∧ f1 + s1 ≤ x1 - x2

/-- two numbers below p that differ by whole p's are one -/
theorem mod_one {p x y c d : Nat} (h : x + p * c = y + p * d) (hx : x < p) (hy : y < p) : x = y := by
  have h1 : (x + p * c) % p = (y + p * d) % p := by rw [h]
  rwa [Nat.add_mul_mod_self_left, Nat.add_mul_mod_self_left, Nat.mod_eq_of_lt hx, Nat.mod_eq_of_lt hy] at h1

end Go.Proofs.Ytoidhoiadkafhaa.Num
