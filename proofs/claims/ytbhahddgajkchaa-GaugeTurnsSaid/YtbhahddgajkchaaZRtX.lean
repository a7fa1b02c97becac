/- Plain mathematics of common factors and square roots: what one step of each leaves. No program is named here. -/
import Derived.Test.YtbhahddgajkchaaZBase
import Derived.Test.YtbhahddgajkchaaZNatY
import Derived.Test.YtbhahddgajkchaaZDivX
import Derived.Deep.CutRange
import Derived.Deep.RegionHeld3
import Derived.WalkMore
namespace Go.Proofs.Ytbhahddgajkchaa.Num

/-- r is the greatest number whose square isn't above N -/
def IsRoot (N r : Nat) : Prop := r * r ≤ N ∧ N < (r + 1) * (r + 1)
theorem sq_le {x y : Nat} (h : x * x ≤ y * y) : x ≤ y := by
  rcases Nat.lt_or_ge y x with hlt | hge
  · have := Nat.mul_lt_mul'' hlt hlt; omega
  · exact hge
theorem sq_lt {x y : Nat} (h : x * x < y * y) : x < y := by
  rcases Nat.lt_or_ge x y with hlt | hge
  · exact hlt
  · have := Nat.mul_le_mul hge hge; omega
theorem IsRoot.unique {N r s : Nat} (h : IsRoot N r) (k : IsRoot N s) : r = s := by
  have h1 := sq_lt (Nat.lt_of_le_of_lt h.1 k.2)
  have h2 := sq_lt (Nat.lt_of_le_of_lt k.1 h.2)
  omega
theorem IsRoot.le {N r m : Nat} (h : IsRoot N r) (k : m * m ≤ N) : m ≤ r := by
  have := sq_lt (Nat.lt_of_le_of_lt k h.2); omega
theorem IsRoot.sq {N r : Nat} (h : IsRoot N r) : r * r = N ↔ ∃ m, m * m = N := by
  constructor
  · intro e; exact ⟨r, e⟩
  · rintro ⟨m, e⟩
    have h1 := h.le (Nat.le_of_eq e)
    have h2 := Nat.mul_le_mul h1 h1
    have := h.1
    omega
theorem IsRoot.self (m : Nat) : IsRoot (m * m) m := ⟨Nat.le_refl _, by rw [Nat.add_mul, Nat.mul_add]; omega⟩
theorem IsRoot.zero : IsRoot 0 0 := ⟨by omega, by omega⟩
theorem IsRoot.zero_iff {N r : Nat} (h : IsRoot N r) : r = 0 ↔ N = 0 := by
  constructor
  · rintro rfl; have := h.2; omega
  · rintro rfl; have h1 := h.1; 
    rcases Nat.eq_zero_or_pos r with h2 | h2
    · exact h2
    · have := Nat.mul_le_mul h2 h2; omega

/-- a step from above stays above -/
theorem newton_above {N m r : Nat} (hm : m * m ≤ N) (hr : 0 < r) : m ≤ (r + N / r) / 2 := by
  have h1 : 2 * m ≤ r + N / r := by
    rcases Nat.lt_or_ge (2 * m) r with hlt | hge
    · exact Nat.le_trans (Nat.le_of_lt hlt) (Nat.le_add_right _ _)
    · have h2 : (2 * m - r) * r ≤ N := by
        refine Nat.le_trans ?_ hm
        obtain ⟨d, rfl⟩ | ⟨d, rfl⟩ : (∃ d, r = m + d) ∨ (∃ d, m = r + d) := by
          rcases Nat.le_total m r with h | h
          · exact .inl ⟨r - m, by omega⟩
          · exact .inr ⟨m - r, by omega⟩
        · obtain ⟨e, rfl⟩ : ∃ e, m = d + e := ⟨m - d, by omega⟩
          rw [show 2 * (d + e) - (d + e + d) = e by omega]
          simp only [Nat.add_mul, Nat.mul_add, Nat.mul_comm e d]
          omega
        · rw [show 2 * (r + d) - r = r + 2 * d by omega]
          simp only [Nat.add_mul, Nat.mul_add, Nat.mul_comm d r, Nat.mul_assoc]
          omega
      have h3 := (Nat.le_div_iff_mul_le hr).2 h2
      omega
  omega
/-- where a step goes no further down, the root is found -/
theorem newton_end {N r : Nat} (ha : N < (r + 1) * (r + 1)) (hr : 0 < r) (h : r ≤ (r + N / r) / 2) : IsRoot N r := by
  have h1 : r ≤ N / r := by omega
  exact ⟨(Nat.le_div_iff_mul_le hr).1 h1, ha⟩
/-- what lies above the root, by its square -/
theorem above_iff {N r : Nat} : N < (r + 1) * (r + 1) ↔ ∀ m, m * m ≤ N → m ≤ r := by
  constructor
  · intro h m hm
    have := sq_lt (Nat.lt_of_le_of_lt hm h); omega
  · intro h
    rcases Nat.lt_or_ge N ((r + 1) * (r + 1)) with hlt | hge
    · exact hlt
    · have := h _ hge; omega
theorem newton_next {N r : Nat} (hr : 0 < r) : N < ((r + N / r) / 2 + 1) * ((r + N / r) / 2 + 1) :=
  above_iff.2 fun _ hm => newton_above hm hr
/-- the root of the higher bits, and one, moved back up, lies above the root -/
theorem root_up {N s k : Nat} (h : IsRoot (N / (2 ^ k * 2 ^ k)) s) : N < ((s + 1) * 2 ^ k) * ((s + 1) * 2 ^ k) := by
  have hp : 0 < 2 ^ k * 2 ^ k := Nat.mul_pos (Nat.two_pow_pos _) (Nat.two_pow_pos _)
  have h1 := (Nat.div_lt_iff_lt_mul hp).1 h.2
  calc N < (s + 1) * (s + 1) * (2 ^ k * 2 ^ k) := h1
    _ = _ := by ac_rfl

/-- TWO NUMBERS THAT TWO OTHERS ARE MADE OF BOTH WAYS have the same common factors. -/
theorem gcd_of_both {a b x y p q r s p' q' r' s' : Nat} (ha : a = p * x + q * y) (hb : b = r * x + s * y) (hx : x + q' * b = p' * a ∨ x + p' * a = q' * b) (hy : y + s' * a = r' * b ∨ y + r' * b = s' * a) : Nat.gcd x y = Nat.gcd a b := by
  refine Nat.dvd_antisymm (Nat.dvd_gcd ?_ ?_) (Nat.dvd_gcd ?_ ?_)
  · rw [ha]; exact Nat.dvd_add (Nat.dvd_mul_left_of_dvd (Nat.gcd_dvd_left _ _) _) (Nat.dvd_mul_left_of_dvd (Nat.gcd_dvd_right _ _) _)
  · rw [hb]; exact Nat.dvd_add (Nat.dvd_mul_left_of_dvd (Nat.gcd_dvd_left _ _) _) (Nat.dvd_mul_left_of_dvd (Nat.gcd_dvd_right _ _) _)
  · have da := Nat.gcd_dvd_left a b
    have db := Nat.gcd_dvd_right a b
    rcases hx with h | h
    · exact (Nat.dvd_add_left (Nat.dvd_mul_left_of_dvd db _)).1 (h ▸ Nat.dvd_mul_left_of_dvd da _)
    · exact (Nat.dvd_add_left (Nat.dvd_mul_left_of_dvd da _)).1 (h ▸ Nat.dvd_mul_left_of_dvd db _)
  · have da := Nat.gcd_dvd_left a b
    have db := Nat.gcd_dvd_right a b
    rcases hy with h | h
    · exact (Nat.dvd_add_left (Nat.dvd_mul_left_of_dvd da _)).1 (h ▸ Nat.dvd_mul_left_of_dvd db _)
    · exact (Nat.dvd_add_left (Nat.dvd_mul_left_of_dvd db _)).1 (h ▸ Nat.dvd_mul_left_of_dvd da _)

/-- HOW THE FORESEEN DIVISIONS STAND: x1 and x2 are what is left of A and B; u and v how often each was taken. -/
structure Inv (A B x1 x2 u1 v1 u2 v2 : Nat) (e : Bool) : Prop where
  top : A = v2 * x1 + v1 * x2
  low : B = u2 * x1 + u1 * x2
  even : e = false → x1 + v1 * B = u1 * A ∧ x2 + u2 * A = v2 * B ∧ u1 * v2 = u2 * v1 + 1
  odd : e = true → x1 + u1 * A = v1 * B ∧ x2 + v2 * B = u2 * A ∧ u2 * v1 = u1 * v2 + 1
  le : x2 ≤ x1
  uv : u2 ≤ v2
  uuvv : u1 + u2 ≤ v1 + v2
  vv : v1 ≤ v2
  u1v : u1 ≤ v2
  pos : 1 ≤ v2
  nz : 1 ≤ v1 → 1 ≤ u2
theorem Inv.start {A B : Nat} (h : B ≤ A) : Inv A B A B 1 0 0 1 false :=
  ⟨by omega, by omega, fun _ => by omega, fun h => by simp at h, h, by omega, by omega, by omega, by omega, by omega, by omega⟩
theorem Inv.next {A B x1 x2 u1 v1 u2 v2 q r : Nat} {e : Bool} (h : Inv A B x1 x2 u1 v1 u2 v2 e) (hx : x1 = x2 * q + r) (hr : r < x2) : Inv A B x2 r u2 v2 (u1 + q * u2) (v1 + q * v2) (!e) := by
  have hq : 1 ≤ q := by
    rcases Nat.eq_zero_or_pos q with h0 | h0
    · subst h0; have := h.le; omega
    · exact h0
  have hu : q * u2 ≤ q * v2 := Nat.mul_le_mul_left _ h.uv
  have hu1 : u2 ≤ q * u2 := Nat.le_mul_of_pos_left _ hq
  have hv1 : v2 ≤ q * v2 := Nat.le_mul_of_pos_left _ hq
  have h1 := h.uuvv
  have h2 := h.uv
  have h3 := h.vv
  have h4 := h.pos
  have hq2 : (q - 1) * u2 ≤ (q - 1) * v2 := Nat.mul_le_mul_left _ h.uv
  have e1 : q * u2 = (q - 1) * u2 + u2 := by obtain ⟨p, rfl⟩ : ∃ p, q = p + 1 := ⟨q - 1, by omega⟩; simp [Nat.add_mul]
  have e2 : q * v2 = (q - 1) * v2 + v2 := by obtain ⟨p, rfl⟩ : ∃ p, q = p + 1 := ⟨q - 1, by omega⟩; simp [Nat.add_mul]
  have t := h.top
  have l := h.low
  subst hx
  refine ⟨by rw [t]; grind, by rw [l]; grind, ?_, ?_, by omega, by omega, by omega, by omega, by omega, by omega, ?_⟩
  · intro he
    have he' : e = true := by simpa using he
    obtain ⟨o1, o2, o3⟩ := h.odd he'
    exact ⟨by grind, by grind, by grind⟩
  · intro he
    have he' : e = false := by simpa using he
    obtain ⟨o1, o2, o3⟩ := h.even he'
    exact ⟨by grind, by grind, by grind⟩
  · intro _
    cases e with
    | false =>
      obtain ⟨-, -, o3⟩ := h.even rfl
      rcases Nat.eq_zero_or_pos u1 with h0 | h0
      · subst h0; omega
      · omega
    | true =>
      obtain ⟨-, -, o3⟩ := h.odd rfl
      rcases Nat.eq_zero_or_pos u2 with h0 | h0
      · subst h0; omega
      · omega
/-- the bounds of what is reckoned -/
theorem Inv.small {A B x1 x2 u1 v1 u2 v2 : Nat} {e : Bool} (h : Inv A B x1 x2 u1 v1 u2 v2 e) (hA : A < 18446744073709551616) (hc : v2 ≤ x2) : v2 < 4294967296 := by
  have h1 : v2 * v2 ≤ v2 * x1 := Nat.mul_le_mul_left _ (Nat.le_trans hc h.le)
  have h2 := h.top
  exact sq_lt (Nat.lt_of_le_of_lt (show v2 * v2 ≤ A by omega) (Nat.lt_of_lt_of_le hA (by omega)))
theorem Inv.great {A B x1 x2 u1 v1 u2 v2 : Nat} {e : Bool} (h : Inv A B x1 x2 u1 v1 u2 v2 e) (hp : 0 < x1) : v2 ≤ A := by
  have h1 : v2 ≤ v2 * x1 := Nat.le_mul_of_pos_right _ hp
  have h2 := h.top
  omega

/-- COLLINS: where what is left of the heads is great enough, the divisions of the whole numbers come out alike. -/
theorem Inv.whole {A B x1 x2 u1 v1 u2 v2 : Nat} {e : Bool} (h : Inv A B x1 x2 u1 v1 u2 v2 e) (h2 : v2 ≤ x2) (h1 : v1 + v2 ≤ x1 - x2) {a b K : Nat} (hK : 0 < K) (ha : a / K = A) (hb : b / K = B) :
    ∃ X1 X2, X2 ≤ X1 ∧ a = v2 * X1 + v1 * X2 ∧ b = u2 * X1 + u1 * X2 ∧ (e = false → X1 + v1 * b = u1 * a ∧ X2 + u2 * a = v2 * b) ∧ (e = true → X1 + u1 * a = v1 * b ∧ X2 + v2 * b = u2 * a) := by
  obtain ⟨la, hla, ea⟩ : ∃ la, la < K ∧ a = K * A + la := ⟨a % K, Nat.mod_lt _ hK, by rw [← ha]; exact (Nat.div_add_mod _ _).symm⟩
  obtain ⟨lb, hlb, eb⟩ : ∃ lb, lb < K ∧ b = K * B + lb := ⟨b % K, Nat.mod_lt _ hK, by rw [← hb]; exact (Nat.div_add_mod _ _).symm⟩
  have f : ∀ n l : Nat, l < K → n * l ≤ K * n := fun n l hl => by rw [Nat.mul_comm]; exact Nat.mul_le_mul_right _ (Nat.le_of_lt hl)
  have ha' : ∀ n, n * a = K * (n * A) + n * la := fun n => by rw [ea, Nat.mul_add, Nat.mul_left_comm]
  have hb' : ∀ n, n * b = K * (n * B) + n * lb := fun n => by rw [eb, Nat.mul_add, Nat.mul_left_comm]
  have hu := h.uuvv
  have hle := h.le
  have huv := h.uv
  have hu1 := h.u1v
  have k1 : K * (v1 + v2 + x2) ≤ K * x1 := Nat.mul_le_mul_left _ (by omega)
  have k2 : K * v2 ≤ K * x2 := Nat.mul_le_mul_left _ h2
  have k3 : K * u2 ≤ K * v2 := Nat.mul_le_mul_left _ huv
  have k4 : K * u1 ≤ K * v2 := Nat.mul_le_mul_left _ hu1
  have k5 : K * (u1 + u2) ≤ K * (v1 + v2) := Nat.mul_le_mul_left _ hu
  simp only [Nat.mul_add] at k1 k5
  have a1 := ha' u1
  have a2 := ha' u2
  have b1 := hb' v1
  have b2 := hb' v2
  have m1 := f v1 lb hlb
  have m2 := f v2 lb hlb
  have m3 := f u1 la hla
  have m4 := f u2 la hla
  cases e with
  | false =>
    obtain ⟨i1, i2, i3⟩ := h.even rfl
    have j1 : K * x1 + K * (v1 * B) = K * (u1 * A) := by rw [← Nat.mul_add, i1]
    have j2 : K * x2 + K * (u2 * A) = K * (v2 * B) := by rw [← Nat.mul_add, i2]
    obtain ⟨X1, hX1⟩ : ∃ X1, X1 + v1 * b = u1 * a := ⟨u1 * a - v1 * b, by omega⟩
    obtain ⟨X2, hX2⟩ : ∃ X2, X2 + u2 * a = v2 * b := ⟨v2 * b - u2 * a, by omega⟩
    refine ⟨X1, X2, by omega, ?_, ?_, fun _ => ⟨hX1, hX2⟩, fun h => by simp at h⟩
    · clear a1 a2 b1 b2 m1 m2 m3 m4 j1 j2 ha' hb' f ea eb k1 k2 k3 k4 k5; grind
    · clear a1 a2 b1 b2 m1 m2 m3 m4 j1 j2 ha' hb' f ea eb k1 k2 k3 k4 k5; grind
  | true =>
    obtain ⟨i1, i2, i3⟩ := h.odd rfl
    have j1 : K * x1 + K * (u1 * A) = K * (v1 * B) := by rw [← Nat.mul_add, i1]
    have j2 : K * x2 + K * (v2 * B) = K * (u2 * A) := by rw [← Nat.mul_add, i2]
    obtain ⟨X1, hX1⟩ : ∃ X1, X1 + u1 * a = v1 * b := ⟨v1 * b - u1 * a, by omega⟩
    obtain ⟨X2, hX2⟩ : ∃ X2, X2 + v2 * b = u2 * a := ⟨u2 * a - v2 * b, by omega⟩
    refine ⟨X1, X2, by omega, ?_, ?_, fun h => by simp at h, fun _ => ⟨hX1, hX2⟩⟩
    · clear a1 a2 b1 b2 m1 m2 m3 m4 j1 j2 ha' hb' f ea eb k1 k2 k3 k4 k5; grind
    · clear a1 a2 b1 b2 m1 m2 m3 m4 j1 j2 ha' hb' f ea eb k1 k2 k3 k4 k5; grind

/-- what the foreseen divisions say: none, or that they come out alike whatever follows -/
def Seen (A B f0 f1 s0 s1 : Nat) (ev : Bool) : Prop := f1 = 0 ∨ ∃ x1 x2, Inv A B x1 x2 f0 f1 s0 s1 (!ev) ∧ s1 ≤ x2 ∧ f1 + s1 ≤ x1 - x2

/-- two numbers below p that differ by whole p's are one -/
theorem mod_one {p x y c d : Nat} (h : x + p * c = y + p * d) (hx : x < p) (hy : y < p) : x = y := by
  have h1 : (x + p * c) % p = (y + p * d) % p := by rw [h]
  rwa [Nat.add_mul_mod_self_left, Nat.add_mul_mod_self_left, Nat.mod_eq_of_lt hx, Nat.mod_eq_of_lt hy] at h1

end Go.Proofs.Ytbhahddgajkchaa.Num
/- What the program's own small calls on words answer: cut, at, head. -/

namespace Go.Proofs.Ytbhahddgajkchaa
open Go.RowKit Num

theorem below_one (w : World) (o : Obj) : Below w.heap.size w (w.alloc o) := (Below.refl _ _).alloc (Nat.le_refl _) _
theorem take_bits {d : List Nat} {n : Nat} (hd : Dg 4294967296 d) (hb : IsBits (val 4294967296 d) n) :
    Norm 4294967296 (d.take ((n + 31) / 32)) ∧ val 4294967296 (d.take ((n + 31) / 32)) = val 4294967296 d ∧ (d.take ((n + 31) / 32)).length ≤ (n + 31) / 32 := by
  have hk : val 4294967296 d < 4294967296 ^ ((n + 31) / 32) := by
    refine Nat.lt_of_lt_of_le hb.1 ?_
    rw [show (4294967296 : Nat) = 2 ^ 32 from rfl, ← Nat.pow_mul]
    exact Nat.pow_le_pow_right (by omega) (by omega)
  have hl : (d.take ((n + 31) / 32)).length ≤ (n + 31) / 32 := by rw [List.length_take]; omega
  have hv : val 4294967296 (d.take ((n + 31) / 32)) = val 4294967296 d := by
    by_cases h : (n + 31) / 32 ≤ d.length
    · have e := val_split (b := 4294967296) h
      rcases Nat.eq_zero_or_pos (val 4294967296 (d.drop ((n + 31) / 32))) with h0 | h0
      · rw [e, h0]; simp
      · have := Nat.mul_le_mul_left (4294967296 ^ ((n + 31) / 32)) h0
        omega
    · rw [List.take_of_length_le (by omega)]
  refine ⟨?_, hv, hl⟩
  rcases hb.2 with h0 | h0
  · subst h0
    exact norm_nil _
  · refine ⟨hd.take, top_of_le hd.take ?_⟩
    rw [hv]
    refine Nat.le_trans ?_ h0
    rw [show (4294967296 : Nat) = 2 ^ 32 from rfl, ← Nat.pow_mul]
    exact Nat.pow_le_pow_right (by omega) (by omega)

/-- two words and the higher bits of a third one -/
theorem head_val {m r s : Nat} (hr : r < 4294967296) (hs : s < 32) (hm : m * 2 ^ s < 18446744073709551616) :
    bits .or .u64 ((m * 2 ^ s : Nat) : Int) ((r / 2 ^ (32 - s) : Nat) : Int) = (((r + 4294967296 * m) / 2 ^ (32 - s) : Nat) : Int) := by
  have e : (4294967296 : Nat) = 2 ^ (32 - s) * 2 ^ s := by rw [← Nat.pow_add, show 32 - s + s = 32 by omega]
  have ht : 0 < 2 ^ (32 - s) := Nat.pow_pos (by omega)
  have hc : r / 2 ^ (32 - s) < 2 ^ s := by
    rw [Nat.div_lt_iff_lt_mul ht, Nat.mul_comm, ← e]; exact hr
  have hr2 : r / 2 ^ (32 - s) < 18446744073709551616 := by
    have := Nat.div_le_self r (2 ^ (32 - s)); omega
  rw [u64_or_nat _ _ hm hr2]
  congr 1
  rw [Nat.mul_comm m, ← Nat.two_pow_add_eq_or_of_lt hc, e, Nat.mul_assoc, Nat.add_mul_div_left _ _ ht, Nat.add_comm]
theorem head_fit {p q s : Nat} (hq : q < 4294967296) (hs : s < 32) (h : p * 2 ^ s < 4294967296) : (q + 4294967296 * p) * 2 ^ s < 18446744073709551616 := by
  have e : (4294967296 : Nat) = 2 ^ (32 - s) * 2 ^ s := by rw [← Nat.pow_add, show 32 - s + s = 32 by omega]
  have hp : p < 2 ^ (32 - s) := by
    rw [e] at h
    exact Nat.lt_of_mul_lt_mul_right h
  have h1 : q + 4294967296 * p < 4294967296 * 2 ^ (32 - s) := by
    have := Nat.mul_le_mul_left 4294967296 (show p + 1 ≤ 2 ^ (32 - s) from hp)
    omega
  have h2 := Nat.mul_lt_mul_of_pos_right h1 (show 0 < 2 ^ s from Nat.pow_pos (by omega))
  rw [Nat.mul_assoc, ← e] at h2
  omega

end Go.Proofs.Ytbhahddgajkchaa
/- What the program's own less answers: a number times another one without a third one times a fourth one, word by word. -/

namespace Go.Proofs.Ytbhahddgajkchaa
open Go.RowKit Num

theorem below_alloc_grown' {w W0 wr : World} (h : Below w.heap.size w W0) (hg : W0.grownBy wr (some w.heap.size)) : Below w.heap.size w wr :=
  h.grown hg h.size (fun g e => by injection e with e; omega)
/-- one word of it -/
theorem less_step {B K V Pa Pb n m up dn br p q x y t s : Nat} {d v : Nat} (h : V + Pb * m + K * up = Pa * n + K * (dn + br)) (ht : t = up + p * n) (hs : s = dn + q * m)
    (hx : x + B * (t / B) = t) (hy : y + B * (s / B) = s) (hd : d + y + br = B + x) (hv : v + B * (d / B) = d) (hd2 : d / B ≤ 1) :
    (V + K * v) + (Pb + K * q) * m + K * B * (t / B) = (Pa + K * p) * n + K * B * (s / B + (1 - d / B)) := by
  obtain ⟨z, hz⟩ : ∃ z, d / B = z := ⟨_, rfl⟩
  obtain ⟨z', hz'⟩ : ∃ z', 1 - d / B = z' := ⟨_, rfl⟩
  have hzz : z + z' = 1 := by omega
  rw [hz'] 
  rw [hz] at hv
  generalize t / B = t' at *
  generalize s / B = s' at *
  clear hz hz' hd2
  have hB : B * z + B * z' = B := by rw [← Nat.mul_add, hzz, Nat.mul_one]
  have e : v + q * m + B * t' + dn + br = p * n + B * s' + B * z' + up := by omega
  have e2 : K * v + K * (q * m) + K * (B * t') + K * dn + K * br = K * (p * n) + K * (B * s') + K * (B * z') + K * up := by
    simp only [← Nat.mul_add]; rw [e]
  simp only [Nat.add_mul, Nat.mul_add, Nat.mul_assoc] at h e2 ⊢
  omega

end Go.Proofs.Ytbhahddgajkchaa
/- What the program's own foresee answers: the divisions that come out alike. -/

namespace Go.Proofs.Ytbhahddgajkchaa
open Go.RowKit Num

/-- BLOCK g IS JUST THE CELLS vs. -/
def Blk (w : World) (g : Nat) (t : TypeId) (vs : List Value) : Prop := w.heap[g]? = some (.cells vs.toArray t (0, 0))
section
variable {w w' : World} {g : Nat} {t : TypeId} {vs : List Value}
theorem Blk.lt (h : Blk w g t vs) : g < w.heap.size := by
  rcases Nat.lt_or_ge g w.heap.size with hlt | hge
  · exact hlt
  · unfold Blk at h; rw [Array.getElem?_eq_none hge] at h; cases h
theorem Blk.cell (h : Blk w g t vs) (i : Nat) {v : Value} (hv : vs[i]? = some v) : w.cell? ⟨g, i, none⟩ = some v := by
  rw [cell_of_row w g i _ t (0, 0) h]
  simpa using hv
theorem Blk.frozen (h : Blk w g t vs) (i : Nat) : w.frozen? ⟨g, i, none⟩ = false := frozen_of_row w g i _ t h
theorem Blk.set (h : Blk w g t vs) (i : Nat) (v : Value) : Blk (w.setCell ⟨g, i, none⟩ v) g t (vs.set i v) := by
  have := heap_setCell_same w g i _ t v h
  unfold Blk
  rw [this]
  simp
theorem Blk.far (h : Blk w g t vs) {p : Addr} (hp : g ≠ p.block) (u : Value) : Blk (w.setCell p u) g t vs := (Below.heap_setCell w p u g hp).trans h
theorem Blk.alloc (h : Blk w g t vs) (o : Obj) : Blk (w.alloc o) g t vs := (Below.heap_alloc w o g h.lt).trans h
theorem Blk.drewN (h : Blk w g t vs) (n : Nat) : Blk (w.drewN n) g t vs := h
theorem Blk.new (w : World) (t : TypeId) (vs : List Value) : Blk (w.alloc (.cells vs.toArray t)) w.heap.size t vs := heap_alloc_new w _
theorem Blk.at_new (w : World) (t : TypeId) (vs : List Value) {g : Nat} (hg : g = w.heap.size) : Blk (w.alloc (.cells vs.toArray t)) g t vs := by rw [hg]; exact Blk.new w t vs
theorem Blk.below {B : Nat} (h : Blk w g t vs) (hb : Below B w w') (hg : g < B) : Blk w' g t vs := (hb.block g hg).trans h
end

/-- steps, as they lie -/
def lie (f0 f1 s0 s1 : Nat) (ev : Bool) : List Value := [.int .u64 f0, .int .u64 f1, .int .u64 s0, .int .u64 s1, .bool ev]
def pair (x y : Nat) : List Value := [.int .u64 x, .int .u64 y]

theorem Blk.five {w : World} {g : Nat} {t : TypeId} {a0 a1 a2 a3 a4 : Value} (h : Blk w g t [a0, a1, a2, a3, a4]) (u0 u1 u2 u3 u4 : Value) :
    ∃ W, ((((w.setCell ⟨g, 0, none⟩ u0).setCell ⟨g, 1, none⟩ u1).setCell ⟨g, 2, none⟩ u2).setCell ⟨g, 3, none⟩ u3).setCell ⟨g, 4, none⟩ u4 = W ∧ Blk W g t [u0, u1, u2, u3, u4] ∧ (∀ B, B ≤ g → Below B w W) ∧ (∀ g' t' vs, g' ≠ g → Blk w g' t' vs → Blk W g' t' vs) ∧ w.heap.size ≤ W.heap.size :=
  ⟨_, rfl, ((((h.set 0 u0).set 1 u1).set 2 u2).set 3 u3).set 4 u4, fun _ hB => (((((Below.refl _ _).setCell hB _).setCell hB _).setCell hB _).setCell hB _).setCell hB _,
    fun _ _ _ hne k => ((((k.far hne u0).far hne u1).far hne u2).far hne u3).far hne u4, by simp [World.setCell]⟩
theorem Blk.two {w : World} {g : Nat} {t : TypeId} {a0 a1 : Value} (h : Blk w g t [a0, a1]) (u0 u1 : Value) :
    ∃ W, (w.setCell ⟨g, 0, none⟩ u0).setCell ⟨g, 1, none⟩ u1 = W ∧ Blk W g t [u0, u1] ∧ (∀ B, B ≤ g → Below B w W) ∧ (∀ g' t' vs, g' ≠ g → Blk w g' t' vs → Blk W g' t' vs) ∧ w.heap.size ≤ W.heap.size :=
  ⟨_, rfl, (h.set 0 u0).set 1 u1, fun _ hB => ((Below.refl _ _).setCell hB _).setCell hB _, fun _ _ _ hne k => (k.far hne u0).far hne u1, by simp [World.setCell]⟩

/-- what foresee answers -/
def GivesSteps (A B : Nat) (w : World) (e : Ending) (w' : World) : Prop :=
  ∃ (f0 f1 s0 s1 : Nat) (ev : Bool), e = .returned (.agg #[.int .u64 f0, .int .u64 f1, .int .u64 s0, .int .u64 s1, .bool ev]) ∧ Seen A B f0 f1 s0 s1 ev ∧ Below w.heap.size w w'
theorem gives_steps {A B f0 f1 s0 s1 : Nat} {ev : Bool} {w wr : World} {z0 z1 z2 z3 z4 : Value} {t : TypeId} (k0 : Blk wr w.heap.size t [z0, z1, z2, z3, z4]) (kb : Below w.heap.size w wr) (hS : Seen A B f0 f1 s0 s1 ev) :
    ∃ W, ((((wr.setCell ⟨w.heap.size, 0, none⟩ (.int .u64 f0)).setCell ⟨w.heap.size, 1, none⟩ (.int .u64 f1)).setCell ⟨w.heap.size, 2, none⟩ (.int .u64 s0)).setCell ⟨w.heap.size, 3, none⟩ (.int .u64 s1)).setCell ⟨w.heap.size, 4, none⟩ (.bool ev) = W ∧
      W.cell? ⟨w.heap.size, 0, none⟩ = some (.int .u64 f0) ∧ W.cell? ⟨w.heap.size, 1, none⟩ = some (.int .u64 f1) ∧ W.cell? ⟨w.heap.size, 2, none⟩ = some (.int .u64 s0) ∧ W.cell? ⟨w.heap.size, 3, none⟩ = some (.int .u64 s1) ∧ W.cell? ⟨w.heap.size, 4, none⟩ = some (.bool ev) ∧
      GivesSteps A B w (.returned (.agg #[.int .u64 f0, .int .u64 f1, .int .u64 s0, .int .u64 s1, .bool ev])) W := by
  obtain ⟨W, hW, k, hb, -, -⟩ := k0.five (.int .u64 f0) (.int .u64 f1) (.int .u64 s0) (.int .u64 s1) (.bool ev)
  exact ⟨W, hW, k.cell 0 rfl, k.cell 1 rfl, k.cell 2 rfl, k.cell 3 rfl, k.cell 4 rfl, f0, f1, s0, s1, ev, rfl, hS, kb.trans (hb _ (Nat.le_refl _))⟩

end Go.Proofs.Ytbhahddgajkchaa
/- What the program's own take answers: what the foreseen divisions leave. -/

namespace Go.Proofs.Ytbhahddgajkchaa
open Go.RowKit Num

/-- two numbers -/
def GivesTwo (N M : Nat) (w : World) (e : Ending) (w' : World) : Prop :=
  ∃ A x c A' y c', e = .returned (.tuple #[.slice A x.length c, .slice A' y.length c']) ∧ x.length ≤ c ∧ y.length ≤ c' ∧ Norm 4294967296 x ∧ Norm 4294967296 y ∧ val 4294967296 x = N ∧ val 4294967296 y = M ∧
    Rd w' (fun g => g < w'.heap.size) .u32 A x ∧ Rd w' (fun g => g < w'.heap.size) .u32 A' y ∧ Below w.heap.size w w'

theorem below_next {B : Nat} {W V w' : World} (K : Below B W V) (hB : B ≤ W.heap.size) (b : Below V.heap.size V w') : Below B W w' := K.trans (b.mono (Nat.le_trans hB K.size))
theorem cells4u {W V : World} {g : Nat} {t : TypeId} {a0 a1 a2 a3 a4 : Value} (k : Blk W g t [a0, a1, a2, a3, a4]) (hb : Below W.heap.size W V) :
    V.cell? ⟨g, 0, none⟩ = some a0 ∧ V.cell? ⟨g, 1, none⟩ = some a1 ∧ V.cell? ⟨g, 2, none⟩ = some a2 ∧ V.cell? ⟨g, 3, none⟩ = some a3 := by
  have k' := k.below hb k.lt
  exact ⟨k'.cell 0 rfl, k'.cell 1 rfl, k'.cell 2 rfl, k'.cell 3 rfl⟩

end Go.Proofs.Ytbhahddgajkchaa
/- What the program's own gcdSmall and nearer answer. -/

namespace Go.Proofs.Ytbhahddgajkchaa
open Go.RowKit Num

theorem gcd_step (x y : Nat) : Nat.gcd y (x % y) = Nat.gcd x y := by
  rw [Nat.gcd_comm y, ← Nat.gcd_rec, Nat.gcd_comm]
theorem getD_pad {d : List Nat} {n j : Nat} : (d ++ List.replicate n 0).getD j 0 = d.getD j 0 := by
  simp only [List.getD_eq_getElem?_getD]
  by_cases h : j < d.length
  · rw [List.getElem?_append_left h]
  · rw [List.getElem?_append_right (by omega), List.getElem?_eq_none (l := d) (by omega)]
    by_cases h2 : j - d.length < n
    · rw [List.getElem?_eq_getElem (by simpa using h2)]; simp
    · rw [List.getElem?_eq_none (by simp; omega)]
/-- the higher three of n words, without some bits, are the whole number by a power of two -/
theorem head_div {d : List Nat} {n s : Nat} (hd : Dg 4294967296 d) (hl : d.length ≤ n) (h3 : 3 ≤ n) :
    val 4294967296 d / (4294967296 ^ (n - 3) * 2 ^ (32 - s)) = (d.getD (n - 3) 0 + 4294967296 * (d.getD (n - 2) 0 + 4294967296 * d.getD (n - 1) 0)) / 2 ^ (32 - s) := by
  obtain ⟨k, rfl⟩ : ∃ k, n = k + 3 := ⟨n - 3, by omega⟩
  have hlen : (d ++ List.replicate (k + 3 - d.length) 0).length = k + 3 := by simp; omega
  have hv : val 4294967296 (d ++ List.replicate (k + 3 - d.length) 0) = val 4294967296 d := by rw [val_append, val_zeros]; simp
  have h := val_three (b := 4294967296) hlen
  have hdd : Dg 4294967296 (d ++ List.replicate (k + 3 - d.length) 0) := Dg.append.2 ⟨hd, Dg.zeros (by omega)⟩
  have g0 : ∀ j (hj : j < (d ++ List.replicate (k + 3 - d.length) 0).length), (d ++ List.replicate (k + 3 - d.length) 0)[j] = d.getD j 0 := fun j hj => by
    rw [← getD_pad (n := k + 3 - d.length), List.getD_eq_getElem?_getD, List.getElem?_eq_getElem hj, Option.getD_some]
  have hlo := val_lt (hdd.take (n := k))
  rw [List.length_take, Nat.min_eq_left (by omega)] at hlo
  rw [g0, g0, g0, hv] at h
  rw [show k + 3 - 3 = k by omega, show k + 3 - 2 = k + 1 by omega, show k + 3 - 1 = k + 2 by omega, ← Nat.div_div_eq_div_mul, h, Nat.add_mul_div_left _ _ (Nat.pow_pos (by omega)), Nat.div_eq_of_lt hlo, Nat.zero_add]
theorem head_lt {p q r s : Nat} (hq : q < 4294967296) (hr : r < 4294967296) (hs : s < 32) (hp : p * 2 ^ s < 4294967296) : (r + 4294967296 * (q + 4294967296 * p)) / 2 ^ (32 - s) < 18446744073709551616 := by
  have e : (4294967296 : Nat) = 2 ^ (32 - s) * 2 ^ s := by rw [← Nat.pow_add, show 32 - s + s = 32 by omega]
  rw [Nat.div_lt_iff_lt_mul (Nat.pow_pos (by omega))]
  have hpp : p + 1 ≤ 2 ^ (32 - s) := by
    rw [e] at hp
    exact Nat.lt_of_mul_lt_mul_right hp
  have := Nat.mul_le_mul_left 18446744073709551616 hpp
  omega
theorem top_word {a b : List Nat} {x : Nat} (ha : Norm 4294967296 a) (hb : Norm 4294967296 b) (hle : val 4294967296 b ≤ val 4294967296 a) (h3 : 3 ≤ a.length) (hx : a.getD (a.length - 1) 0 = x) : b.getD (a.length - 1) 0 ≤ x := by
  have hl := len_le (b := 4294967296) (by omega) hb.2 ha.1 hle
  by_cases h : b.length < a.length
  · rw [getD_ge (by omega)]; omega
  · rcases Nat.lt_or_ge x (b.getD (a.length - 1) 0) with hlt | hge
    · have h1 : a.length - 1 < a.length := by omega
      have h2 : a.length - 1 < b.length := by omega
      rw [List.getD_eq_getElem?_getD, List.getElem?_eq_getElem h1, Option.getD_some] at hx
      rw [List.getD_eq_getElem?_getD, List.getElem?_eq_getElem h2, Option.getD_some] at hlt
      have := val_lt_of_digit (b := 4294967296) (xs := a) (ys := b) (i := a.length - 1) ha.1 h1 h2 (by rw [List.drop_of_length_le (by omega), List.drop_of_length_le (by omega)]) (by omega)
      omega
    · exact hge

/-- two numbers nearer to a common factor -/
def GivesNearer (N M : Nat) (w : World) (e : Ending) (w' : World) : Prop := ∃ X Y, GivesTwo X Y w e w' ∧ Y ≤ X ∧ X ≤ M ∧ Nat.gcd X Y = Nat.gcd N M ∧ X + Y < N + M

end Go.Proofs.Ytbhahddgajkchaa
/- What the program's own Gcd, Lcm and Reduce answer. -/

namespace Go.Proofs.Ytbhahddgajkchaa
open Go.RowKit Num

theorem gcd_len {xs a b : List Nat} {n : Nat} (hx : Norm 4294967296 xs) (ha : Dg 4294967296 a) (hb : Dg 4294967296 b) (h : val 4294967296 xs = Nat.gcd (val 4294967296 a) (val 4294967296 b)) (h1 : a.length ≤ n) (h2 : b.length ≤ n) : xs.length ≤ n := by
  rcases Nat.eq_zero_or_pos (val 4294967296 a) with h0 | h0
  · rw [h0, Nat.gcd_zero_left] at h
    exact Nat.le_trans (len_le (b := 4294967296) (by omega) hx.2 hb (by omega)) h2
  · have := Nat.gcd_le_left (val 4294967296 b) h0
    exact Nat.le_trans (len_le (b := 4294967296) (by omega) hx.2 ha (by omega)) h1

end Go.Proofs.Ytbhahddgajkchaa
