/- Plain mathematics of common factors and square roots: what one step of each leaves. No program is named here. -/
import Derived.Test.YtokaapljlpngdaaGreatDoorZBase
import Derived.Test.YtokaapljlpngdaaGreatDoorZNatY
import Derived.Test.YtokaapljlpngdaaGreatDoorZDivX
import Derived.Deep.CutRange
import Derived.Deep.RegionHeld3
import Derived.WalkMore
namespace Go.Proofs.YtokaapljlpngdaaGreatDoor.Num

/-- r is the greatest number whose square isn't above N -/
def IsRoot (N r : Nat) : Prop := r * r ≤ N ∧ N < (r + 1) * (r + 1)
theorem sq_le {x y : Nat} (h : x * x ≤ y * y) : x ≤ y := by
  rcases Nat.lt_or_ge y x with hlt | hge
  · have := Nat.mul_lt_mul'' hlt hlt; omega
  · exact hge
theorem sq_lt {x y : Nat} (h : x * x < y * y) : x < y := by
  rcases Nat.lt_or_ge x y with hlt | hge
  · exact hlt
  · have := Nat.mul_le_mul hge hge; omega
theorem IsRoot.unique {N r s : Nat} (h : IsRoot N r) (k : IsRoot N s) : r = s := by
  have h1 := sq_lt (Nat.lt_of_le_of_lt h.1 k.2)
  have h2 := sq_lt (Nat.lt_of_le_of_lt k.1 h.2)
  omega
theorem IsRoot.le {N r m : Nat} (h : IsRoot N r) (k : m * m ≤ N) : m ≤ r := by
  have := sq_lt (Nat.lt_of_le_of_lt k h.2); omega
theorem IsRoot.sq {N r : Nat} (h : IsRoot N r) : r * r = N ↔ ∃ m, m * m = N := by
  constructor
  · intro e; exact ⟨r, e⟩
  · rintro ⟨m, e⟩
    have h1 := h.le (Nat.le_of_eq e)
    have h2 := Nat.mul_le_mul h1 h1
    have := h.1
    omega
theorem IsRoot.self (m : Nat) : IsRoot (m * m) m := ⟨Nat.le_refl _, by rw [Nat.add_mul, Nat.mul_add]; omega⟩
theorem IsRoot.zero : IsRoot 0 0 := ⟨by omega, by omega⟩
theorem IsRoot.zero_iff {N r : Nat} (h : IsRoot N r) : r = 0 ↔ N = 0 := by
  constructor
  · rintro rfl; have := h.2; omega
  · rintro rfl; have h1 := h.1; 
    rcases Nat.eq_zero_or_pos r with h2 | h2
    · exact h2
    · have := Nat.mul_le_mul h2 h2; omega

/-- a step from above stays above -/
theorem newton_above {N m r : Nat} (hm : m * m ≤ N) (hr : 0 < r) : m ≤ (r + N / r) / 2 := by
  have h1 : 2 * m ≤ r + N / r := by
    rcases Nat.lt_or_ge (2 * m) r with hlt | hge
    · exact Nat.le_trans (Nat.le_of_lt hlt) (Nat.le_add_right _ _)
    · have h2 : (2 * m - r) * r ≤ N := by
        refine Nat.le_trans ?_ hm
        obtain ⟨d, rfl⟩ | ⟨d, rfl⟩ : (∃ d, r = m + d) ∨ (∃ d, m = r + d) := by
          rcases Nat.le_total m r with h | h
          · exact .inl ⟨r - m, by omega⟩
          · exact .inr ⟨m - r, by omega⟩
        · obtain ⟨e, rfl⟩ : ∃ e, m = d + e := ⟨m - d, by omega⟩
          rw [show 2 * (d + e) - (d + e + d) = e by omega]
          simp only [Nat.add_mul, Nat.mul_add, Nat.mul_comm e d]
          omega
        · rw [show 2 * (r + d) - r = r + 2 * d by omega]
          simp only [Nat.add_mul, Nat.mul_add, Nat.mul_comm d r, Nat.mul_assoc]
          omega
      have h3 := (Nat.le_div_iff_mul_le hr).2 h2
      omega
  omega
/-- where a step goes no further down, the root is found -/
theorem newton_end {N r : Nat} (ha : N < (r + 1) * (r + 1)) (hr : 0 < r) (h : r ≤ (r + N / r) / 2) : IsRoot N r := by
  have h1 : r ≤ N / r := by omega
  exact ⟨(Nat.le_div_iff_mul_le hr).1 h1, ha⟩
/-- what lies above the root, by its square -/
theorem above_iff {N r : Nat} : N < (r + 1) * (r + 1) ↔ ∀ m, m * m ≤ N → m ≤ r := by
  constructor
  · intro h m hm
    have := sq_lt (Nat.lt_of_le_of_lt hm h); omega
  · intro h
    rcases Nat.lt_or_ge N ((r + 1) * (r + 1)) with hlt | hge
    · exact hlt
    · have := h _ hge; omega
theorem newton_next {N r : Nat} (hr : 0 < r) : N < ((r + N / r) / 2 + 1) * ((r + N / r) / 2 + 1) :=
  above_iff.2 fun _ hm => newton_above hm hr
/-- the root of the higher bits, and one, moved back up, lies above the root -/
theorem root_up {N s k : Nat} (h : IsRoot (N / (2 ^ k * 2 ^ k)) s) : N < ((s + 1) * 2 ^ k) * ((s + 1) * 2 ^ k) := by
  have hp : 0 < 2 ^ k * 2 ^ k := Nat.mul_pos (Nat.two_pow_pos _) (Nat.two_pow_pos _)
  have h1 := (Nat.div_lt_iff_lt_mul hp).1 h.2
  calc N < (s + 1) * (s + 1) * (2 ^ k * 2 ^ k) := h1
    _ = _ := by ac_rfl

/-- TWO NUMBERS THAT TWO OTHERS ARE MADE OF BOTH WAYS have the same common factors. -/
theorem gcd_of_both {a b x y p q r s p' q' r' s' : Nat} (ha : a = p * x + q * y) (hb : b = r * x + s * y) (hx : x + q' * b = p' * a ∨ x + p' * a = q' * b) (hy : y + s' * a = r' * b ∨ y + r' * b = s' * a) : Nat.gcd x y = Nat.gcd a b := by
  refine Nat.dvd_antisymm (Nat.dvd_gcd ?_ ?_) (Nat.dvd_gcd ?_ ?_)
  · rw [ha]; exact Nat.dvd_add (Nat.dvd_mul_left_of_dvd (Nat.gcd_dvd_left _ _) _) (Nat.dvd_mul_left_of_dvd (Nat.gcd_dvd_right _ _) _)
  · rw [hb]; exact Nat.dvd_add (Nat.dvd_mul_left_of_dvd (Nat.gcd_dvd_left _ _) _) (Nat.dvd_mul_left_of_dvd (Nat.gcd_dvd_right _ _) _)
  · have da := Nat.gcd_dvd_left a b
    have db := Nat.gcd_dvd_right a b
    rcases hx with h | h
    · exact (Nat.dvd_add_left (Nat.dvd_mul_left_of_dvd db _)).1 (h ▸ Nat.dvd_mul_left_of_dvd da _)
    · exact (Nat.dvd_add_left (Nat.dvd_mul_left_of_dvd da _)).1 (h ▸ Nat.dvd_mul_left_of_dvd db _)
  · have da := Nat.gcd_dvd_left a b
    have db := Nat.gcd_dvd_right a b
    rcases hy with h | h
    · exact (Nat.dvd_add_left (Nat.dvd_mul_left_of_dvd da _)).1 (h ▸ Nat.dvd_mul_left_of_dvd db _)
    · exact (Nat.dvd_add_left (Nat.dvd_mul_left_of_dvd db _)).1 (h ▸ Nat.dvd_mul_left_of_dvd da _)

/-- HOW THE FORESEEN DIVISIONS STAND: x1 and x2 are what is left of A and B; u and v how often each was taken. -/
structure Inv (A B x1 x2 u1 v1 u2 v2 : Nat) (e : Bool) : Prop where
  top : A = v2 * x1 + v1 * x2
  low : B = u2 * x1 + u1 * x2
  even : e = false → x1 + v1 * B = u1 * A ∧ x2 + u2 * A = v2 * B ∧ u1 * v2 = u2 * v1 + 1
  odd : e = true → x1 + u1 * A = v1 * B ∧ x2 + v2 * B = u2 * A ∧ u2 * v1 = u1 * v2 + 1
  le : x2 ≤ x1
  uv : u2 ≤ v2
  uuvv : u1 + u2 ≤ v1 + v2
  vv : v1 ≤ v2
  u1v : u1 ≤ v2
  pos : 1 ≤ v2
  nz : 1 ≤ v1 → 1 ≤ u2
theorem Inv.start {A B : Nat} (h : B ≤ A) : Inv A B A B 1 0 0 1 false :=
  ⟨by omega, by omega, fun _ => by omega, fun h => by simp at h, h, by omega, by omega, by omega, by omega, by omega, by omega⟩
theorem Inv.next {A B x1 x2 u1 v1 u2 v2 q r : Nat} {e : Bool} (h : Inv A B x1 x2 u1 v1 u2 v2 e) (hx : x1 = x2 * q + r) (hr : r < x2) : Inv A B x2 r u2 v2 (u1 + q * u2) (v1 + q * v2) (!e) := by
  have hq : 1 ≤ q := by
    rcases Nat.eq_zero_or_pos q with h0 | h0
    · subst h0; have := h.le; omega
    · exact h0
  have hu : q * u2 ≤ q * v2 := Nat.mul_le_mul_left _ h.uv
  have hu1 : u2 ≤ q * u2 := Nat.le_mul_of_pos_left _ hq
  have hv1 : v2 ≤ q * v2 := Nat.le_mul_of_pos_left _ hq
  have h1 := h.uuvv
  have h2 := h.uv
  have h3 := h.vv
  have h4 := h.pos
  have hq2 : (q - 1) * u2 ≤ (q - 1) * v2 := Nat.mul_le_mul_left _ h.uv
  have e1 : q * u2 = (q - 1) * u2 + u2 := by obtain ⟨p, rfl⟩ : ∃ p, q = p + 1 := ⟨q - 1, by omega⟩; simp [Nat.add_mul]
  have e2 : q * v2 = (q - 1) * v2 + v2 := by obtain ⟨p, rfl⟩ : ∃ p, q = p + 1 := ⟨q - 1, by omega⟩; simp [Nat.add_mul]
  have t := h.top
  have l := h.low
  subst hx
  refine ⟨by rw [t]; grind, by rw [l]; grind, ?_, ?_, by omega, by omega, by omega, by omega, by omega, by omega, ?_⟩
  · intro he
    have he' : e = true := by simpa using he
    obtain ⟨o1, o2, o3⟩ := h.odd he'
    exact ⟨by grind, by grind, by grind⟩
  · intro he
    have he' : e = false := by simpa using he
    obtain ⟨o1, o2, o3⟩ := h.even he'
    exact ⟨by grind, by grind, by grind⟩
  · intro _
    cases e with
    | false =>
      obtain ⟨-, -, o3⟩ := h.even rfl
      rcases Nat.eq_zero_or_pos u1 with h0 | h0
      · subst h0; omega
      · omega
    | true =>
      obtain ⟨-, -, o3⟩ := h.odd rfl
      rcases Nat.eq_zero_or_pos u2 with h0 | h0
      · subst h0; omega
      · omega
/-- the bounds of what is reckoned -/
theorem Inv.small {A B x1 x2 u1 v1 u2 v2 : Nat} {e : Bool} (h : Inv A B x1 x2 u1 v1 u2 v2 e) (hA : A < 18446744073709551616) (hc : v2 ≤ x2) : v2 < 4294967296 := by
  have h1 : v2 * v2 ≤ v2 * x1 := Nat.mul_le_mul_left _ (Nat.le_trans hc h.le)
  have h2 := h.top
  exact sq_lt (Nat.lt_of_le_of_lt (show v2 * v2 ≤ A by omega) (Nat.lt_of_lt_of_le hA (by omega)))
theorem Inv.great {A B x1 x2 u1 v1 u2 v2 : Nat} {e : Bool} (h : Inv A B x1 x2 u1 v1 u2 v2 e) (hp : 0 < x1) : v2 ≤ A := by
  have h1 : v2 ≤ v2 * x1 := Nat.le_mul_of_pos_right _ hp
  have h2 := h.top
  omega

/-- COLLINS: where what is left of the heads is great enough, the divisions of the whole numbers come out alike. -/
theorem Inv.whole {A B x1 x2 u1 v1 u2 v2 : Nat} {e : Bool} (h : Inv A B x1 x2 u1 v1 u2 v2 e) (h2 : v2 ≤ x2) (h1 : v1 + v2 ≤ x1 - x2) {a b K : Nat} (hK : 0 < K) (ha : a / K = A) (hb : b / K = B) :
    ∃ X1 X2, X2 ≤ X1 ∧ a = v2 * X1 + v1 * X2 ∧ b = u2 * X1 + u1 * X2 ∧ (e = false → X1 + v1 * b = u1 * a ∧ X2 + u2 * a = v2 * b) ∧ (e = true → X1 + u1 * a = v1 * b ∧ X2 + v2 * b = u2 * a) := by
  obtain ⟨la, hla, ea⟩ : ∃ la, la < K ∧ a = K * A + la := ⟨a % K, Nat.mod_lt _ hK, by rw [← ha]; exact (Nat.div_add_mod _ _).symm⟩
  obtain ⟨lb, hlb, eb⟩ : ∃ lb, lb < K ∧ b = K * B + lb := ⟨b % K, Nat.mod_lt _ hK, by rw [← hb]; exact (Nat.div_add_mod _ _).symm⟩
  have f : ∀ n l : Nat, l < K → n * l ≤ K * n := fun n l hl => by rw [Nat.mul_comm]; exact Nat.mul_le_mul_right _ (Nat.le_of_lt hl)
  have ha' : ∀ n, n * a = K * (n * A) + n * la := fun n => by rw [ea, Nat.mul_add, Nat.mul_left_comm]
  have hb' : ∀ n, n * b = K * (n * B) + n * lb := fun n => by rw [eb, Nat.mul_add, Nat.mul_left_comm]
  have hu := h.uuvv
  have hle := h.le
  have huv := h.uv
  have hu1 := h.u1v
  have k1 : K * (v1 + v2 + x2) ≤ K * x1 := Nat.mul_le_mul_left _ (by omega)
  have k2 : K * v2 ≤ K * x2 := Nat.mul_le_mul_left _ h2
  have k3 : K * u2 ≤ K * v2 := Nat.mul_le_mul_left _ huv
  have k4 : K * u1 ≤ K * v2 := Nat.mul_le_mul_left _ hu1
  have k5 : K * (u1 + u2) ≤ K * (v1 + v2) := Nat.mul_le_mul_left _ hu
  simp only [Nat.mul_add] at k1 k5
  have a1 := ha' u1
  have a2 := ha' u2
  have b1 := hb' v1
  have b2 := hb' v2
  have m1 := f v1 lb hlb
  have m2 := f v2 lb hlb
  have m3 := f u1 la hla
  have m4 := f u2 la hla
  cases e with
  | false =>
    obtain ⟨i1, i2, i3⟩ := h.even rfl
    have j1 : K * x1 + K * (v1 * B) = K * (u1 * A) := by rw [← Nat.mul_add, i1]
    have j2 : K * x2 + K * (u2 * A) = K * (v2 * B) := by rw [← Nat.mul_add, i2]
    obtain ⟨X1, hX1⟩ : ∃ X1, X1 + v1 * b = u1 * a := ⟨u1 * a - v1 * b, by omega⟩
    obtain ⟨X2, hX2⟩ : ∃ X2, X2 + u2 * a = v2 * b := ⟨v2 * b - u2 * a, by omega⟩
    refine ⟨X1, X2, by omega, ?_, ?_, fun _ => ⟨hX1, hX2⟩, fun h => by simp at h⟩
    · clear a1 a2 b1 b2 m1 m2 m3 m4 j1 j2 ha' hb' f ea eb k1 k2 k3 k4 k5; grind
    · clear a1 a2 b1 b2 m1 m2 m3 m4 j1 j2 ha' hb' f ea eb k1 k2 k3 k4 k5; grind
  | true =>
    obtain ⟨i1, i2, i3⟩ := h.odd rfl
    have j1 : K * x1 + K * (u1 * A) = K * (v1 * B) := by rw [← Nat.mul_add, i1]
    have j2 : K * x2 + K * (v2 * B) = K * (u2 * A) := by rw [← Nat.mul_add, i2]
    obtain ⟨X1, hX1⟩ : ∃ X1, X1 + u1 * a = v1 * b := ⟨v1 * b - u1 * a, by omega⟩
    obtain ⟨X2, hX2⟩ : ∃ X2, X2 + v2 * b = u2 * a := ⟨u2 * a - v2 * b, by omega⟩
    refine ⟨X1, X2, by omega, ?_, ?_, fun h => by simp at h, fun _ => ⟨hX1, hX2⟩⟩
    · clear a1 a2 b1 b2 m1 m2 m3 m4 j1 j2 ha' hb' f ea eb k1 k2 k3 k4 k5; grind
    · clear a1 a2 b1 b2 m1 m2 m3 m4 j1 j2 ha' hb' f ea eb k1 k2 k3 k4 k5; grind

/-- what the foreseen divisions say: none, or that they come out alike whatever follows -/
def Seen (A B f0 f1 s0 s1 : Nat) (ev : Bool) : Prop := f1 = 0 ∨ ∃ x1 x2, Inv A B x1 x2 f0 f1 s0 s1 (!ev) ∧ s1 ≤ x2 ∧ f1 + s1 ≤ x1 - x2

/-- two numbers below p that differ by whole p's are one -/
theorem mod_one {p x y c d : Nat} (h : x + p * c = y + p * d) (hx : x < p) (hy : y < p) : x = y := by
  have h1 : (x + p * c) % p = (y + p * d) % p := by rw [h]
  rwa [Nat.add_mul_mod_self_left, Nat.add_mul_mod_self_left, Nat.mod_eq_of_lt hx, Nat.mod_eq_of_lt hy] at h1

end Go.Proofs.YtokaapljlpngdaaGreatDoor.Num
/- What the program's own small calls on words answer: cut, at, head. -/

namespace Go.Proofs.YtokaapljlpngdaaGreatDoor
open Go.RowKit Num

theorem below_one (w : World) (o : Obj) : Below w.heap.size w (w.alloc o) := (Below.refl _ _).alloc (Nat.le_refl _) _
theorem take_bits {d : List Nat} {n : Nat} (hd : Dg 4294967296 d) (hb : IsBits (val 4294967296 d) n) :
    Norm 4294967296 (d.take ((n + 31) / 32)) ∧ val 4294967296 (d.take ((n + 31) / 32)) = val 4294967296 d ∧ (d.take ((n + 31) / 32)).length ≤ (n + 31) / 32 := by
  have hk : val 4294967296 d < 4294967296 ^ ((n + 31) / 32) := by
    refine Nat.lt_of_lt_of_le hb.1 ?_
    rw [show (4294967296 : Nat) = 2 ^ 32 from rfl, ← Nat.pow_mul]
    exact Nat.pow_le_pow_right (by omega) (by omega)
  have hl : (d.take ((n + 31) / 32)).length ≤ (n + 31) / 32 := by rw [List.length_take]; omega
  have hv : val 4294967296 (d.take ((n + 31) / 32)) = val 4294967296 d := by
    by_cases h : (n + 31) / 32 ≤ d.length
    · have e := val_split (b := 4294967296) h
      rcases Nat.eq_zero_or_pos (val 4294967296 (d.drop ((n + 31) / 32))) with h0 | h0
      · rw [e, h0]; simp
      · have := Nat.mul_le_mul_left (4294967296 ^ ((n + 31) / 32)) h0
        omega
    · rw [List.take_of_length_le (by omega)]
  refine ⟨?_, hv, hl⟩
  rcases hb.2 with h0 | h0
  · subst h0
    exact norm_nil _
  · refine ⟨hd.take, top_of_le hd.take ?_⟩
    rw [hv]
    refine Nat.le_trans ?_ h0
    rw [show (4294967296 : Nat) = 2 ^ 32 from rfl, ← Nat.pow_mul]
    exact Nat.pow_le_pow_right (by omega) (by omega)

set_option maxHeartbeats 400000 in
theorem root_cut (d : List Nat) (A : Option Addr) (c : Nat) (S : Nat → Prop) (w : World) (h : Rd w S .u32 A d) (hl : d.length ≤ 1073741824) (hc : d.length ≤ c) (hd : Dg 4294967296 d) :
    Calls Tryz.prog 117 #[.slice A d.length c] w fun e w' => ∃ ys A' c', e = .returned (.slice A' ys.length c') ∧ ys.length ≤ c' ∧ ys.length ≤ d.length ∧ Norm 4294967296 ys ∧ val 4294967296 ys = val 4294967296 d ∧ Rd w S .u32 A' ys ∧ w = w' := by
  have cb := nat_Bits d A c S w h hl hc hd
  go_enter Tryz.func117, Tryz.ntmps117
  go_wp2_with fail
  refine cb.mono ?_
  rintro e w1 ⟨n, rfl, hb, hn, rfl⟩
  obtain ⟨t1, t2, t3⟩ := take_bits hd hb
  go_wp2_with fail
  go_ret
  have hk : (n + 31) / 32 ≤ d.length := by omega
  have hlen : (d.take ((n + 31) / 32)).length = (n + 31) / 32 := by rw [List.length_take]; omega
  exact ⟨d.take ((n + 31) / 32), A, c, by rw [hlen]; congr 2, by omega, by omega, t1, t2, h.take _, rfl⟩

set_option maxHeartbeats 400000 in
/-- a word; 0 behind the last one -/
theorem root_at (d : List Nat) (A : Option Addr) (c : Nat) (i : Nat) (S : Nat → Prop) (w : World) (h : Rd w S .u32 A d) :
    Calls Tryz.prog 144 #[.slice A d.length c, .int .i64 i] w fun e w' => e = .returned (.int .u32 (d.getD i 0 : Nat)) ∧ w = w' := by
  by_cases hlt : i < d.length
  · obtain ⟨b, o, rfl, _, hcell⟩ := h.at_ hlt
    obtain ⟨x, hx⟩ : ∃ x, d[i] = x := ⟨_, rfl⟩
    rw [List.getD_eq_getElem?_getD, List.getElem?_eq_getElem hlt, Option.getD_some]
    rw [hx] at hcell ⊢
    clear hx
    go_enter Tryz.func144, Tryz.ntmps144
    go_wp2_with fail
    go_ret
    exact ⟨rfl, rfl⟩
  · rw [List.getD_eq_getElem?_getD, List.getElem?_eq_none (by omega), Option.getD_none]
    go_enter Tryz.func144, Tryz.ntmps144
    go_wp2_with fail
    go_ret
    exact ⟨rfl, rfl⟩

/-- two words and the higher bits of a third one -/
theorem head_val {m r s : Nat} (hr : r < 4294967296) (hs : s < 32) (hm : m * 2 ^ s < 18446744073709551616) :
    bits .or .u64 ((m * 2 ^ s : Nat) : Int) ((r / 2 ^ (32 - s) : Nat) : Int) = (((r + 4294967296 * m) / 2 ^ (32 - s) : Nat) : Int) := by
  have e : (4294967296 : Nat) = 2 ^ (32 - s) * 2 ^ s := by rw [← Nat.pow_add, show 32 - s + s = 32 by omega]
  have ht : 0 < 2 ^ (32 - s) := Nat.pow_pos (by omega)
  have hc : r / 2 ^ (32 - s) < 2 ^ s := by
    rw [Nat.div_lt_iff_lt_mul ht, Nat.mul_comm, ← e]; exact hr
  have hr2 : r / 2 ^ (32 - s) < 18446744073709551616 := by
    have := Nat.div_le_self r (2 ^ (32 - s)); omega
  rw [u64_or_nat _ _ hm hr2]
  congr 1
  rw [Nat.mul_comm m, ← Nat.two_pow_add_eq_or_of_lt hc, e, Nat.mul_assoc, Nat.add_mul_div_left _ _ ht, Nat.add_comm]
theorem head_fit {p q s : Nat} (hq : q < 4294967296) (hs : s < 32) (h : p * 2 ^ s < 4294967296) : (q + 4294967296 * p) * 2 ^ s < 18446744073709551616 := by
  have e : (4294967296 : Nat) = 2 ^ (32 - s) * 2 ^ s := by rw [← Nat.pow_add, show 32 - s + s = 32 by omega]
  have hp : p < 2 ^ (32 - s) := by
    rw [e] at h
    exact Nat.lt_of_mul_lt_mul_right h
  have h1 : q + 4294967296 * p < 4294967296 * 2 ^ (32 - s) := by
    have := Nat.mul_le_mul_left 4294967296 (show p + 1 ≤ 2 ^ (32 - s) from hp)
    omega
  have h2 := Nat.mul_lt_mul_of_pos_right h1 (show 0 < 2 ^ s from Nat.pow_pos (by omega))
  rw [Nat.mul_assoc, ← e] at h2
  omega

set_option maxHeartbeats 1600000 in
/-- 64 bits of the three words that end at n -/
theorem root_head (d : List Nat) (A : Option Addr) (c n s : Nat) (S : Nat → Prop) (w : World) (h : Rd w S .u32 A d) (hn : n ≤ 1073741824) (h3 : 3 ≤ n) (hs : s < 32) (hd : Dg 4294967296 d)
    (htop : d.getD (n - 1) 0 * 2 ^ s < 4294967296) :
    Calls Tryz.prog 132 #[.slice A d.length c, .int .i64 n, .int .i64 s] w fun e w' => e = .returned (.int .u64 ((d.getD (n - 3) 0 + 4294967296 * (d.getD (n - 2) 0 + 4294967296 * d.getD (n - 1) 0)) / 2 ^ (32 - s) : Nat)) ∧ ∃ k, w' = w.drewN k := by
  have c1 := fun m => root_at d A c (n - 1) S (w.drewN m) (h.drewN m)
  have c2 := fun m => root_at d A c (n - 2) S (w.drewN m) (h.drewN m)
  have c3 := fun m => root_at d A c (n - 3) S (w.drewN m) (h.drewN m)
  have b1 := hd.getD (by omega) (n - 1)
  have b2 := hd.getD (by omega) (n - 2)
  have b3 := hd.getD (by omega) (n - 3)
  obtain ⟨p, hp⟩ : ∃ p, d.getD (n - 1) 0 = p := ⟨_, rfl⟩
  obtain ⟨q, hq⟩ : ∃ p, d.getD (n - 2) 0 = p := ⟨_, rfl⟩
  obtain ⟨r, hr⟩ : ∃ p, d.getD (n - 3) 0 = p := ⟨_, rfl⟩
  rw [hp] at b1 htop ⊢
  rw [hq] at b2 ⊢
  rw [hr] at b3 ⊢
  simp only [hp] at c1
  simp only [hq] at c2
  simp only [hr] at c3
  clear hp hq hr
  have e1 : ((n - 1 : Nat) : Int) = (n : Int) - 1 := by omega
  have e2 : ((n - 2 : Nat) : Int) = (n : Int) - 2 := by omega
  have e3 : ((n - 3 : Nat) : Int) = (n : Int) - 3 := by omega
  simp only [e1] at c1
  simp only [e2] at c2
  simp only [e3] at c3
  have HT := Lib.hid htop
  clear htop e1 e2 e3
  go_enter Tryz.func132, Tryz.ntmps132
  go_wp2_with fail
  refine (c1 0).mono ?_
  rintro e w1 ⟨rfl, rfl⟩
  go_wp2_with fail
  refine (c2 0).mono ?_
  rintro e w1 ⟨rfl, rfl⟩
  go_wp2_with fail
  have e1 : bits BinOp.or IntKind.u64 ((p : Int) * 4294967296) (q : Int) = ((q + 4294967296 * p : Nat) : Int) := by
    rw [show (p : Int) * 4294967296 = ((p * 4294967296 : Nat) : Int) by omega, or_words q p b2 b1]
  rw [e1]
  have hm := head_fit b2 hs HT.out
  obtain ⟨m, hmm⟩ : ∃ m, q + 4294967296 * p = m := ⟨_, rfl⟩
  rw [hmm] at hm ⊢
  have HM := Lib.hid hm
  have hs0 : (0 : Int) ≤ (s : Int) := by omega
  have hs32 : (s : Int) < 32 := by omega
  have hm64 : m < 18446744073709551616 := by omega
  have HMM := Lib.hid hmm
  clear hm e1 hmm
  go_quiet ((go_at_call 144; exact quiet_one (c3 _)))
  go_wp2_with fail
  go_ret
  refine ⟨?_, ⟨0 + nq, World.drewN_drewN _ _ _⟩⟩
  have e2 : IntKind.u64.wrap ((m : Int) * 2 ^ s) = ((m * 2 ^ s : Nat) : Int) := by
    rw [show (m : Int) * 2 ^ s = ((m * 2 ^ s : Nat) : Int) by simp]
    have := HM.out
    generalize m * 2 ^ s = z at *
    exact IntWalk.u64_in _ (by omega)
  rw [HMM.out, ← head_val b3 hs HM.out, ← e2]
  simp
end Go.Proofs.YtokaapljlpngdaaGreatDoor
/- What the program's own less answers: a number times another one without a third one times a fourth one, word by word. -/

namespace Go.Proofs.YtokaapljlpngdaaGreatDoor
open Go.RowKit Num

theorem below_alloc_grown' {w W0 wr : World} (h : Below w.heap.size w W0) (hg : W0.grownBy wr (some w.heap.size)) : Below w.heap.size w wr :=
  h.grown hg h.size (fun g e => by injection e with e; omega)
/-- one word of it -/
theorem less_step {B K V Pa Pb n m up dn br p q x y t s : Nat} {d v : Nat} (h : V + Pb * m + K * up = Pa * n + K * (dn + br)) (ht : t = up + p * n) (hs : s = dn + q * m)
    (hx : x + B * (t / B) = t) (hy : y + B * (s / B) = s) (hd : d + y + br = B + x) (hv : v + B * (d / B) = d) (hd2 : d / B ≤ 1) :
    (V + K * v) + (Pb + K * q) * m + K * B * (t / B) = (Pa + K * p) * n + K * B * (s / B + (1 - d / B)) := by
  obtain ⟨z, hz⟩ : ∃ z, d / B = z := ⟨_, rfl⟩
  obtain ⟨z', hz'⟩ : ∃ z', 1 - d / B = z' := ⟨_, rfl⟩
  have hzz : z + z' = 1 := by omega
  rw [hz'] 
  rw [hz] at hv
  generalize t / B = t' at *
  generalize s / B = s' at *
  clear hz hz' hd2
  have hB : B * z + B * z' = B := by rw [← Nat.mul_add, hzz, Nat.mul_one]
  have e : v + q * m + B * t' + dn + br = p * n + B * s' + B * z' + up := by omega
  have e2 : K * v + K * (q * m) + K * (B * t') + K * dn + K * br = K * (p * n) + K * (B * s') + K * (B * z') + K * up := by
    simp only [← Nat.mul_add]; rw [e]
  simp only [Nat.add_mul, Nat.mul_add, Nat.mul_assoc] at h e2 ⊢
  omega

set_option maxHeartbeats 1600000 in
theorem root_less (a b : List Nat) (A A' : Option Addr) (ca cb n m X : Nat) (w : World) (h : Rd w (fun g => g < w.heap.size) .u32 A a) (h' : Rd w (fun g => g < w.heap.size) .u32 A' b) (hl : a.length ≤ 1073741824) (ha : Dg 4294967296 a) (hb : Dg 4294967296 b)
    (hn : n < 4294967296) (hm : m < 4294967296) (hX : X + val 4294967296 b * m = val 4294967296 a * n) (hXl : X < 4294967296 ^ (min a.length b.length)) :
    Calls Tryz.prog 145 #[.slice A a.length ca, .int .u64 n, .slice A' b.length cb, .int .u64 m] w fun e w' => ∃ A1 xs c, e = .returned (.slice A1 xs.length c) ∧ xs.length ≤ c ∧ xs.length ≤ min a.length b.length ∧ Norm 4294967296 xs ∧ val 4294967296 xs = X ∧ Rd w' (fun g => g < w'.heap.size) .u32 A1 xs ∧ Below w.heap.size w w' := by
  have HX := Lib.hid hX
  have HXL := Lib.hid hXl
  clear hX hXl
  obtain ⟨L, hL⟩ : ∃ L, min a.length b.length = L := ⟨_, rfl⟩
  have hLa : L ≤ a.length := by omega
  have hLb : L ≤ b.length := by omega
  have hmk := fun u : World => make_words L (by omega) u
  have hmi : (min (a.length : Int) (b.length : Int)) = (L : Int) := by omega
  go_enter Tryz.func145, Tryz.ntmps145
  go_wp2_with fail
  have hB0 := below_one w (.cells (cells .u32 (List.replicate L 0)).toArray 66)
  have hRow := Row.new w 66 .u32 (List.replicate L 0)
  obtain ⟨W0, hW0⟩ : ∃ W0, w.alloc (.cells (cells .u32 (List.replicate L 0)).toArray 66) = W0 := ⟨_, rfl⟩
  have hsz : W0.heap.size = w.heap.size + 1 := by rw [← hW0]; simp
  rw [hW0] at hB0 hRow ⊢
  have hAA : Rd W0 (fun g => g < w.heap.size) .u32 A a := h.below hB0 (fun _ hg => hg)
  have hBB : Rd W0 (fun g => g < w.heap.size) .u32 A' b := h'.below hB0 (fun _ hg => hg)
  clear h h' hW0 hmk
  go_loopg [10, 11, 12, 13, 22] L (fun gh up dn br _ i wr => ∃ (k u v y : Nat) (cs : List Nat), gh + k = L ∧ i = .int .i64 k ∧ up = .int .u64 u ∧ dn = .int .u64 v ∧ br = .int .u32 y ∧ u < 4294967296 ∧ v < 4294967296 ∧ y ≤ 1 ∧ cs.length = k ∧ Dg 4294967296 cs ∧ Row wr w.heap.size 66 .u32 (splice (List.replicate L 0) 0 cs) ∧ W0.grownBy wr (some w.heap.size) ∧
    val 4294967296 cs + val 4294967296 (b.take k) * m + 4294967296 ^ k * u = val 4294967296 (a.take k) * n + 4294967296 ^ k * (v + y))
  case atStart => exact ⟨0, 0, 0, 0, [], by omega, rfl, rfl, rfl, rfl, by omega, by omega, by omega, rfl, Dg.nil _, by rw [splice_nil]; exact hRow, World.grownBy.refl _ _, by simp [val]⟩
  case round =>
    clear hRow
    obtain ⟨k, u, v, y, cs, hg, rfl, rfl, rfl, rfl, hu, hv, hy, rfl, hcd, hr, hgr, hV⟩ := hrel
    have HG := Lib.hid hg
    have HV := Lib.hid hV
    clear hg hV
    have hlen : (splice (List.replicate L 0) 0 cs).length = L := by rw [length_splice' (by have := HG.out; simp; omega)]; simp
    have HL := Lib.hid hlen
    clear hlen
    by_cases hlt : cs.length < L
    · have hRa := hAA.grown hgr (fun x hx => ⟨by omega, by simp; omega⟩)
      have hRb := hBB.grown hgr (fun x hx => ⟨by omega, by simp; omega⟩)
      obtain ⟨ba, oa, rfl, _, ca0⟩ := hRa.at_ (j := cs.length) (by omega)
      obtain ⟨bb, ob, rfl, _, cb0⟩ := hRb.at_ (j := cs.length) (by omega)
      have hf := hr.frozen cs.length
      have cz := hr.cell (i := cs.length) (by rw [HL.out]; omega)
      have hp1 := ha.get (j := cs.length) (by omega)
      have hq1 := hb.get (j := cs.length) (by omega)
      have hs1 := val_take_succ (b := 4294967296) (xs := a) (k := cs.length) (by omega)
      have hs2 := val_take_succ (b := 4294967296) (xs := b) (k := cs.length) (by omega)
      obtain ⟨p, hp⟩ : ∃ p, a[cs.length]'(by omega) = p := ⟨_, rfl⟩
      obtain ⟨q, hq⟩ : ∃ q, b[cs.length]'(by omega) = q := ⟨_, rfl⟩
      rw [hp] at ca0 hp1 hs1
      rw [hq] at cb0 hq1 hs2
      have HS1 := Lib.hid hs1
      have HS2 := Lib.hid hs2
      clear hp hq hs1 hs2
      have hpn : p * n ≤ 4294967295 * 4294967295 := Nat.mul_le_mul (by omega) (by omega)
      have hpn1 : (p : Int) * (n : Int) ≤ 18446744065119617025 := by rw [← Int.natCast_mul]; omega
      have hpn0 : 0 ≤ (p : Int) * (n : Int) := by rw [← Int.natCast_mul]; omega
      have hqm : q * m ≤ 4294967295 * 4294967295 := Nat.mul_le_mul (by omega) (by omega)
      have hqm1 : (q : Int) * (m : Int) ≤ 18446744065119617025 := by rw [← Int.natCast_mul]; omega
      have hqm0 : 0 ≤ (q : Int) * (m : Int) := by rw [← Int.natCast_mul]; omega
      obtain ⟨t, ht⟩ : ∃ t, t = u + p * n := ⟨_, rfl⟩
      obtain ⟨s, hs⟩ : ∃ s, s = v + q * m := ⟨_, rfl⟩
      have eT : (u : Int) + (p : Int) * (n : Int) = (t : Int) := by rw [ht, Int.natCast_add, Int.natCast_mul]
      have eS : (v : Int) + (q : Int) * (m : Int) = (s : Int) := by rw [hs, Int.natCast_add, Int.natCast_mul]
      have ht64 : t < 18446744073709551616 := by omega
      have hs64 : s < 18446744073709551616 := by omega
      have csub := sub32 (t % 4294967296) (s % 4294967296) y wr (by omega) (by omega) hy
      rw [Int.natCast_emod, Int.natCast_emod] at csub
      have HT := Lib.hid ht
      have HSS := Lib.hid hs
      clear ht hs
      go_wp2_with fail
      try rw [eT, eS]
      clear eT eS hpn hpn1 hpn0 hqm hqm1 hqm0
      obtain ⟨d, hd⟩ : ∃ d, d = 4294967296 + t % 4294967296 - s % 4294967296 - y := ⟨_, rfl⟩
      rw [← hd] at csub
      have HD := Lib.hid hd
      clear hd
      refine csub.mono ?_
      rintro e w' ⟨rfl, rfl⟩
      clear csub
      go_wp2_with fail
      go_roundg (gk - 1)
      case measure => have := HG.out; omega
      case rel =>
        have hd := HD.out
        have hr2 := hr.set cs.length (d % 4294967296)
        rw [splice_snoc0 (by simp; omega)] at hr2
        refine ⟨cs.length + 1, t / 4294967296, s / 4294967296, 1 - d / 4294967296, cs ++ [d % 4294967296], by have := HG.out; omega, by go_num, by go_num, by go_num, by go_num, by omega, by omega, by omega, by simp, hcd.snoc (by omega), hr2, grown_setCell hgr _ _, ?_⟩
        rw [HS1.out, HS2.out, val_snoc, Nat.pow_succ]
        exact less_step (x := t % 4294967296) (y := s % 4294967296) HV.out HT.out HSS.out (by omega) (by omega) (by omega) (by omega) (by omega)
    · have hk : cs.length = L := by have := HG.out; omega
      have hsp : splice (List.replicate L 0) 0 cs = cs := splice_full (by simp; omega)
      rw [hsp] at hr
      have hv := HV.out
      have hvX : val 4294967296 cs = X := by
        have e1 := val_split (b := 4294967296) (k := L) (xs := a) hLa
        have e2 := val_split (b := 4294967296) (k := L) (xs := b) hLb
        have hX := HX.out
        rw [e1, e2] at hX
        rw [hk] at hv
        have hlt1 := val_lt hcd
        have hlt2 := HXL.out
        rw [hk] at hlt1
        rw [hL] at hlt2
        refine mod_one (p := 4294967296 ^ L) (c := u + val 4294967296 (a.drop L) * n) (d := v + y + val 4294967296 (b.drop L) * m) ?_ hlt1 hlt2
        simp only [Nat.add_mul, Nat.mul_add, Nat.mul_assoc] at hX hv ⊢
        omega
      have hrd := hr.rd_all (S := fun g => g < wr.heap.size) hr.lt
      have hB := below_alloc_grown' hB0 hgr
      have cc := root_cut cs _ L _ wr hrd (by omega) (by omega) hcd
      rw [hk] at cc
      have HVX := Lib.hid hvX
      clear hvX hv
      go_wp2_with fail
      refine cc.mono ?_
      rintro e w' ⟨ys, A1, c1, rfl, hc1, hl1, hn1, hv1, hr1, rfl⟩
      go_wp2_with fail
      go_ret
      exact ⟨A1, ys, c1, rfl, hc1, by omega, hn1, hv1.trans HVX.out, hr1, hB⟩
end Go.Proofs.YtokaapljlpngdaaGreatDoor
/- What the program's own foresee answers: the divisions that come out alike. -/

namespace Go.Proofs.YtokaapljlpngdaaGreatDoor
open Go.RowKit Num

/-- BLOCK g IS JUST THE CELLS vs. -/
def Blk (w : World) (g : Nat) (t : TypeId) (vs : List Value) : Prop := w.heap[g]? = some (.cells vs.toArray t (0, 0))
section
variable {w w' : World} {g : Nat} {t : TypeId} {vs : List Value}
theorem Blk.lt (h : Blk w g t vs) : g < w.heap.size := by
  rcases Nat.lt_or_ge g w.heap.size with hlt | hge
  · exact hlt
  · unfold Blk at h; rw [Array.getElem?_eq_none hge] at h; cases h
theorem Blk.cell (h : Blk w g t vs) (i : Nat) {v : Value} (hv : vs[i]? = some v) : w.cell? ⟨g, i, none⟩ = some v := by
  rw [cell_of_row w g i _ t (0, 0) h]
  simpa using hv
theorem Blk.frozen (h : Blk w g t vs) (i : Nat) : w.frozen? ⟨g, i, none⟩ = false := frozen_of_row w g i _ t h
theorem Blk.set (h : Blk w g t vs) (i : Nat) (v : Value) : Blk (w.setCell ⟨g, i, none⟩ v) g t (vs.set i v) := by
  have := heap_setCell_same w g i _ t v h
  unfold Blk
  rw [this]
  simp
theorem Blk.far (h : Blk w g t vs) {p : Addr} (hp : g ≠ p.block) (u : Value) : Blk (w.setCell p u) g t vs := (Below.heap_setCell w p u g hp).trans h
theorem Blk.alloc (h : Blk w g t vs) (o : Obj) : Blk (w.alloc o) g t vs := (Below.heap_alloc w o g h.lt).trans h
theorem Blk.drewN (h : Blk w g t vs) (n : Nat) : Blk (w.drewN n) g t vs := h
theorem Blk.new (w : World) (t : TypeId) (vs : List Value) : Blk (w.alloc (.cells vs.toArray t)) w.heap.size t vs := heap_alloc_new w _
theorem Blk.at_new (w : World) (t : TypeId) (vs : List Value) {g : Nat} (hg : g = w.heap.size) : Blk (w.alloc (.cells vs.toArray t)) g t vs := by rw [hg]; exact Blk.new w t vs
theorem Blk.below {B : Nat} (h : Blk w g t vs) (hb : Below B w w') (hg : g < B) : Blk w' g t vs := (hb.block g hg).trans h
end

/-- steps, as they lie -/
def lie (f0 f1 s0 s1 : Nat) (ev : Bool) : List Value := [.int .u64 f0, .int .u64 f1, .int .u64 s0, .int .u64 s1, .bool ev]
def pair (x y : Nat) : List Value := [.int .u64 x, .int .u64 y]

theorem Blk.five {w : World} {g : Nat} {t : TypeId} {a0 a1 a2 a3 a4 : Value} (h : Blk w g t [a0, a1, a2, a3, a4]) (u0 u1 u2 u3 u4 : Value) :
    ∃ W, ((((w.setCell ⟨g, 0, none⟩ u0).setCell ⟨g, 1, none⟩ u1).setCell ⟨g, 2, none⟩ u2).setCell ⟨g, 3, none⟩ u3).setCell ⟨g, 4, none⟩ u4 = W ∧ Blk W g t [u0, u1, u2, u3, u4] ∧ (∀ B, B ≤ g → Below B w W) ∧ (∀ g' t' vs, g' ≠ g → Blk w g' t' vs → Blk W g' t' vs) ∧ w.heap.size ≤ W.heap.size :=
  ⟨_, rfl, ((((h.set 0 u0).set 1 u1).set 2 u2).set 3 u3).set 4 u4, fun _ hB => (((((Below.refl _ _).setCell hB _).setCell hB _).setCell hB _).setCell hB _).setCell hB _,
    fun _ _ _ hne k => ((((k.far hne u0).far hne u1).far hne u2).far hne u3).far hne u4, by simp [World.setCell]⟩
theorem Blk.two {w : World} {g : Nat} {t : TypeId} {a0 a1 : Value} (h : Blk w g t [a0, a1]) (u0 u1 : Value) :
    ∃ W, (w.setCell ⟨g, 0, none⟩ u0).setCell ⟨g, 1, none⟩ u1 = W ∧ Blk W g t [u0, u1] ∧ (∀ B, B ≤ g → Below B w W) ∧ (∀ g' t' vs, g' ≠ g → Blk w g' t' vs → Blk W g' t' vs) ∧ w.heap.size ≤ W.heap.size :=
  ⟨_, rfl, (h.set 0 u0).set 1 u1, fun _ hB => ((Below.refl _ _).setCell hB _).setCell hB _, fun _ _ _ hne k => (k.far hne u0).far hne u1, by simp [World.setCell]⟩

/-- what foresee answers -/
def GivesSteps (A B : Nat) (w : World) (e : Ending) (w' : World) : Prop :=
  ∃ (f0 f1 s0 s1 : Nat) (ev : Bool), e = .returned (.agg #[.int .u64 f0, .int .u64 f1, .int .u64 s0, .int .u64 s1, .bool ev]) ∧ Seen A B f0 f1 s0 s1 ev ∧ Below w.heap.size w w'
theorem gives_steps {A B f0 f1 s0 s1 : Nat} {ev : Bool} {w wr : World} {z0 z1 z2 z3 z4 : Value} {t : TypeId} (k0 : Blk wr w.heap.size t [z0, z1, z2, z3, z4]) (kb : Below w.heap.size w wr) (hS : Seen A B f0 f1 s0 s1 ev) :
    ∃ W, ((((wr.setCell ⟨w.heap.size, 0, none⟩ (.int .u64 f0)).setCell ⟨w.heap.size, 1, none⟩ (.int .u64 f1)).setCell ⟨w.heap.size, 2, none⟩ (.int .u64 s0)).setCell ⟨w.heap.size, 3, none⟩ (.int .u64 s1)).setCell ⟨w.heap.size, 4, none⟩ (.bool ev) = W ∧
      W.cell? ⟨w.heap.size, 0, none⟩ = some (.int .u64 f0) ∧ W.cell? ⟨w.heap.size, 1, none⟩ = some (.int .u64 f1) ∧ W.cell? ⟨w.heap.size, 2, none⟩ = some (.int .u64 s0) ∧ W.cell? ⟨w.heap.size, 3, none⟩ = some (.int .u64 s1) ∧ W.cell? ⟨w.heap.size, 4, none⟩ = some (.bool ev) ∧
      GivesSteps A B w (.returned (.agg #[.int .u64 f0, .int .u64 f1, .int .u64 s0, .int .u64 s1, .bool ev])) W := by
  obtain ⟨W, hW, k, hb, -, -⟩ := k0.five (.int .u64 f0) (.int .u64 f1) (.int .u64 s0) (.int .u64 s1) (.bool ev)
  exact ⟨W, hW, k.cell 0 rfl, k.cell 1 rfl, k.cell 2 rfl, k.cell 3 rfl, k.cell 4 rfl, f0, f1, s0, s1, ev, rfl, hS, kb.trans (hb _ (Nat.le_refl _))⟩

set_option maxHeartbeats 1600000 in
theorem root_foresee (A B : Nat) (hA : A < 18446744073709551616) (hB : B ≤ A) (w : World) :
    Calls Tryz.prog 131 #[.int .u64 A, .int .u64 B] w (GivesSteps A B w) := by
  go_enter Tryz.func131, Tryz.ntmps131
  go_wp2_with fail
  have k0 := ((Blk.new w 139 (lie 0 0 0 0 false)).alloc (.cells (lie 0 0 1 0 false).toArray 139)).alloc (.cells (pair 0 1).toArray 137)
  have k1 := (Blk.at_new (w.alloc (.cells (lie 0 0 0 0 false).toArray 139)) 139 (lie 0 0 1 0 false) (g := w.heap.size + 1) (by simp)).alloc (.cells (pair 0 1).toArray 137)
  have k2 := Blk.at_new ((w.alloc (.cells (lie 0 0 0 0 false).toArray 139)).alloc (.cells (lie 0 0 1 0 false).toArray 139)) 137 (pair 0 1) (g := w.heap.size + 1 + 1) (by simp)
  have kb := (((below_one w (.cells (lie 0 0 0 0 false).toArray 139)).alloc (by simp) (.cells (lie 0 0 1 0 false).toArray 139)).alloc (by simp; omega) (.cells (pair 0 1).toArray 137))
  go_loopg [0, 1, 7, 8, 9] B (fun gh a b _ _ _ wr => ∃ (x1 x2 f0 f1 s0 s1 n0 n1 : Nat) (ev : Bool), x2 = gh ∧ a = .int .u64 x1 ∧ b = .int .u64 x2 ∧ Blk wr w.heap.size 139 (lie 0 0 0 0 false) ∧ Blk wr (w.heap.size + 1) 139 (lie f0 f1 s0 s1 ev) ∧ Blk wr (w.heap.size + 1 + 1) 137 (pair n0 n1) ∧ Below w.heap.size w wr ∧ x1 ≤ A ∧ Inv A B x1 x2 s0 s1 n0 n1 ev ∧ Seen A B f0 f1 s0 s1 ev)
  case atStart => exact ⟨A, B, 0, 0, 1, 0, 0, 1, false, rfl, rfl, rfl, k0, k1, k2, kb, Nat.le_refl _, Inv.start hB, .inl rfl⟩
  case round =>
    clear k0 k1 k2 kb
    obtain ⟨x1, x2, f0, f1, s0, s1, n0, n1, ev, rfl, rfl, rfl, k0, k1, k2, kb, hx1, hI, hS⟩ := hrel
    have c20 := k2.cell 0 rfl
    have c21 := k2.cell 1 rfl
    have c10 := k1.cell 0 rfl
    have c11 := k1.cell 1 rfl
    have c12 := k1.cell 2 rfl
    have c13 := k1.cell 3 rfl
    have c14 := k1.cell 4 rfl
    have c00 := k0.cell 0 rfl
    have c01 := k0.cell 1 rfl
    have c02 := k0.cell 2 rfl
    have c03 := k0.cell 3 rfl
    have c04 := k0.cell 4 rfl
    have z0 := k0.frozen 0
    have z1 := k0.frozen 1
    have z2 := k0.frozen 2
    have z3 := k0.frozen 3
    have z4 := k0.frozen 4
    have fin := gives_steps k0 kb hS
    by_cases h1 : n1 ≤ x2
    · have hsm := hI.small hA h1
      have hvv := hI.vv
      have hle := hI.le
      by_cases h2 : s1 + n1 ≤ x1 - x2
      · have hpos := hI.pos
        have hnn := hI.uv
        obtain ⟨q, hq⟩ : ∃ q, x1 / x2 = q := ⟨_, rfl⟩
        obtain ⟨r, hr⟩ : ∃ r, x1 % x2 = r := ⟨_, rfl⟩
        have hqr : x1 = x2 * q + r := by rw [← hq, ← hr]; exact (Nat.div_add_mod _ _).symm
        have hrl : r < x2 := by rw [← hr]; exact Nat.mod_lt _ (by omega)
        have hN := hI.next hqr hrl
        have hgr := hN.great (by omega)
        have huv := hN.uv
        have hS2 : Seen A B s0 s1 n0 n1 (!ev) := .inr ⟨x1, x2, by simpa using hI, h1, h2⟩
        have hquo := u64_quo x1 x2 (by omega)
        have hrem := tmod_nat x1 x2
        rw [hq] at hquo
        rw [hr] at hrem
        obtain ⟨m0, hm0⟩ : ∃ m, s0 + q * n0 = m := ⟨_, rfl⟩
        obtain ⟨m1, hm1⟩ : ∃ m, s1 + q * n1 = m := ⟨_, rfl⟩
        rw [hm0, hm1] at hN huv
        rw [hm1] at hgr
        have e0 : (s0 : Int) + (q : Int) * (n0 : Int) = (m0 : Int) := by rw [← hm0, Int.natCast_add, Int.natCast_mul]
        have e1 : (s1 : Int) + (q : Int) * (n1 : Int) = (m1 : Int) := by rw [← hm1, Int.natCast_add, Int.natCast_mul]
        have p0 : 0 ≤ (q : Int) * (n0 : Int) := by rw [← Int.natCast_mul]; omega
        have p1 : 0 ≤ (q : Int) * (n1 : Int) := by rw [← Int.natCast_mul]; omega
        have hx0 : ¬ x2 = 0 := by omega
        have hm1A : m1 < 18446744073709551616 := by omega
        have hm0A : m0 < 18446744073709551616 := by omega
        have hxx : x1 < 18446744073709551616 := by omega
        have HI := Lib.hid hI
        have HS := Lib.hid hS2
        have HN := Lib.hid hN
        clear hI hS hN hS2 hm0 hm1 hq hr fin hgr huv hqr
        have h2i : (s1 : Int) + (n1 : Int) ≤ (x1 : Int) - (x2 : Int) := by omega
        have y0 := k2.frozen 0
        have y1 := k2.frozen 1
        have v0 := k1.frozen 0
        have v1 := k1.frozen 1
        have v2 := k1.frozen 2
        have v3 := k1.frozen 3
        have v4 := k1.frozen 4
        clear c00 c01 c02 c03 c04 z0 z1 z2 z3 z4
        go_wp2_with fail
        go_quiet (fail)
        have kk := Blk.at_new (wr.drewN nq) 137 (pair 0 0) (g := wr.heap.size) rfl
        have g0 : ((wr.drewN nq).alloc (Obj.cells #[Value.int IntKind.u64 0, Value.int IntKind.u64 0] 137)).cell? ⟨wr.heap.size, 0, none⟩ = some (.int .u64 0) := kk.cell 0 rfl
        have g1 : ((wr.drewN nq).alloc (Obj.cells #[Value.int IntKind.u64 0, Value.int IntKind.u64 0] 137)).cell? ⟨wr.heap.size, 1, none⟩ = some (.int .u64 0) := kk.cell 1 rfl
        have g2 : ((wr.drewN nq).alloc (Obj.cells #[Value.int IntKind.u64 0, Value.int IntKind.u64 0] 137)).frozen? ⟨wr.heap.size, 0, none⟩ = false := kk.frozen 0
        have g3 : ((wr.drewN nq).alloc (Obj.cells #[Value.int IntKind.u64 0, Value.int IntKind.u64 0] 137)).frozen? ⟨wr.heap.size, 1, none⟩ = false := kk.frozen 1
        have i0 := (k0.drewN nq).alloc (.cells (pair 0 0).toArray 137)
        have i1 := (k1.drewN nq).alloc (.cells (pair 0 0).toArray 137)
        have i2 := (k2.drewN nq).alloc (.cells (pair 0 0).toArray 137)
        have ib := (below_drewN kb nq).alloc kb.size (.cells (pair 0 0).toArray 137)
        have hlt2 := k2.lt
        clear y0 y1 v0 v1 v2 v3 v4
        go_upto_region 7 with fail
        obtain ⟨V, hV0, j3, jb, jo, js⟩ := kk.two (.int .u64 m0) (.int .u64 m1)
        have hV : (((wr.drewN nq).alloc (Obj.cells #[Value.int IntKind.u64 0, Value.int IntKind.u64 0] 137)).setCell ⟨wr.heap.size, 0, none⟩ (.int .u64 (m0 : Int))).setCell ⟨wr.heap.size, 1, none⟩ (.int .u64 (m1 : Int)) = V := hV0
        have j0 := jo _ _ _ (by omega) i0
        have j1 := jo _ _ _ (by omega) i1
        have j2 := jo _ _ _ (by omega) i2
        have jb2 := ib.trans (jb _ kb.size)
        rw [hV]
        clear hV hV0 jb jo js kk i0 i1 i2 ib g0 g1 g2 g3 k0 k1 k2 c10 c11 c12 c13 c14 c20 c21 e0 e1 p0 p1 hquo hrem
        have c10 := j1.cell 0 rfl
        have c11 := j1.cell 1 rfl
        have c12 := j1.cell 2 rfl
        have c13 := j1.cell 3 rfl
        have c14 := j1.cell 4 rfl
        have c20 := j2.cell 0 rfl
        have c21 := j2.cell 1 rfl
        have v0 := j1.frozen 0
        have v1 := j1.frozen 1
        have v2 := j1.frozen 2
        have v3 := j1.frozen 3
        have v4 := j1.frozen 4
        go_upto_region 8 with fail
        obtain ⟨U, hU, l1, lb, lo, ls⟩ := j1.five (.int .u64 s0) (.int .u64 s1) (.int .u64 n0) (.int .u64 n1) (.bool (!ev))
        have l0 := lo _ _ _ (by omega) j0
        have l2 := lo _ _ _ (by omega) j2
        have l3 := lo _ _ _ (by omega) j3
        have lb2 := jb2.trans (lb _ (by omega))
        rw [hU]
        clear hU lb lo ls j0 j1 j2 j3 jb2 c10 c11 c12 c13 c14 c20 c21 v0 v1 v2 v3 v4
        have c20 := l2.cell 0 rfl
        have c21 := l2.cell 1 rfl
        have y0 := l2.frozen 0
        have y1 := l2.frozen 1
        have c30 := l3.cell 0 rfl
        have c31 := l3.cell 1 rfl
        go_wp2_with fail
        obtain ⟨T, hT, q2, qb, qo, qs⟩ := l2.two (.int .u64 m0) (.int .u64 m1)
        have q0 := qo _ _ _ (by omega) l0
        have q1 := qo _ _ _ (by omega) l1
        try rw [hT]
        go_roundg r
        case measure => exact hrl
        case rel => exact ⟨x2, r, s0, s1, n0, n1, m0, m1, !ev, rfl, rfl, rfl, q0, q1, q2, lb2.trans (qb _ (by omega)), by omega, HN.out, HS.out⟩
      · have h2i : ¬ ((s1 : Int) + (n1 : Int) ≤ (x1 : Int) - (x2 : Int)) := by omega
        go_wp2_with fail
        obtain ⟨W, hW, r0, r1, r2, r3, r4, hG⟩ := fin
        rw [hW]
        exact bodyPost_ret (v := .agg #[.int .u64 f0, .int .u64 f1, .int .u64 s0, .int .u64 s1, .bool ev]) (by simp [results, Tryz.results131, go_sem, r0, r1, r2, r3, r4]) rfl hG
    · have h1i : ¬ ((n1 : Int) ≤ (x2 : Int)) := by omega
      go_wp2_with fail
      obtain ⟨W, hW, r0, r1, r2, r3, r4, hG⟩ := fin
      rw [hW]
      exact bodyPost_ret (v := .agg #[.int .u64 f0, .int .u64 f1, .int .u64 s0, .int .u64 s1, .bool ev]) (by simp [results, Tryz.results131, go_sem, r0, r1, r2, r3, r4]) rfl hG
end Go.Proofs.YtokaapljlpngdaaGreatDoor
/- What the program's own take answers: what the foreseen divisions leave. -/

namespace Go.Proofs.YtokaapljlpngdaaGreatDoor
open Go.RowKit Num

/-- two numbers -/
def GivesTwo (N M : Nat) (w : World) (e : Ending) (w' : World) : Prop :=
  ∃ A x c A' y c', e = .returned (.tuple #[.slice A x.length c, .slice A' y.length c']) ∧ x.length ≤ c ∧ y.length ≤ c' ∧ Norm 4294967296 x ∧ Norm 4294967296 y ∧ val 4294967296 x = N ∧ val 4294967296 y = M ∧
    Rd w' (fun g => g < w'.heap.size) .u32 A x ∧ Rd w' (fun g => g < w'.heap.size) .u32 A' y ∧ Below w.heap.size w w'

theorem below_next {B : Nat} {W V w' : World} (K : Below B W V) (hB : B ≤ W.heap.size) (b : Below V.heap.size V w') : Below B W w' := K.trans (b.mono (Nat.le_trans hB K.size))
theorem cells4u {W V : World} {g : Nat} {t : TypeId} {a0 a1 a2 a3 a4 : Value} (k : Blk W g t [a0, a1, a2, a3, a4]) (hb : Below W.heap.size W V) :
    V.cell? ⟨g, 0, none⟩ = some a0 ∧ V.cell? ⟨g, 1, none⟩ = some a1 ∧ V.cell? ⟨g, 2, none⟩ = some a2 ∧ V.cell? ⟨g, 3, none⟩ = some a3 := by
  have k' := k.below hb k.lt
  exact ⟨k'.cell 0 rfl, k'.cell 1 rfl, k'.cell 2 rfl, k'.cell 3 rfl⟩

set_option maxHeartbeats 1600000 in
theorem root_take (a b : List Nat) (A A' : Option Addr) (ca cb f0 f1 s0 s1 X1 X2 : Nat) (ev : Bool) (w : World) (h : Rd w (fun g => g < w.heap.size) .u32 A a) (h' : Rd w (fun g => g < w.heap.size) .u32 A' b) (hl : a.length ≤ 1073741824) (hl' : b.length ≤ 1073741824) (ha : Dg 4294967296 a) (hb : Dg 4294967296 b)
    (hf0 : f0 < 4294967296) (hf1 : f1 < 4294967296) (hs0 : s0 < 4294967296) (hs1 : s1 < 4294967296)
    (hX : if ev then X1 + val 4294967296 b * f1 = val 4294967296 a * f0 ∧ X2 + val 4294967296 a * s0 = val 4294967296 b * s1 else X1 + val 4294967296 a * f0 = val 4294967296 b * f1 ∧ X2 + val 4294967296 b * s1 = val 4294967296 a * s0)
    (h1 : X1 < 4294967296 ^ (min a.length b.length)) (h2 : X2 < 4294967296 ^ (min a.length b.length)) :
    Calls Tryz.prog 133 #[.agg #[.int .u64 f0, .int .u64 f1, .int .u64 s0, .int .u64 s1, .bool ev], .slice A a.length ca, .slice A' b.length cb] w (GivesTwo X1 X2 w) := by
  have B0 := below_one w (.cells (lie f0 f1 s0 s1 ev).toArray 139)
  have k0 := Blk.new w 139 (lie f0 f1 s0 s1 ev)
  cases ev with
  | true =>
    obtain ⟨hX1, hX2⟩ := hX
    have c1 := fun (V : World) (hV : Below w.heap.size w V) => root_less a b A A' ca cb f0 f1 X1 V (h.on hV) (h'.on hV) hl ha hb hf0 hf1 hX1 h1
    have c2 := fun (V : World) (hV : Below w.heap.size w V) => root_less b a A' A cb ca s1 s0 X2 V (h'.on hV) (h.on hV) hl' hb ha hs1 hs0 hX2 (by rw [Nat.min_comm]; exact h2)
    have C1 := Lib.hid c1
    have C2 := Lib.hid c2
    clear c1 c2 hX1 hX2 h1 h2
    obtain ⟨W, hW⟩ : ∃ W, w.alloc (.cells (lie f0 f1 s0 s1 true).toArray 139) = W := ⟨_, rfl⟩
    have hW' : w.alloc (Obj.cells #[Value.int IntKind.u64 f0, Value.int IntKind.u64 f1, Value.int IntKind.u64 s0, Value.int IntKind.u64 s1, Value.bool true] 139) = W := hW
    rw [hW] at B0 k0
    have z0 := k0.cell 0 rfl
    have z1 := k0.cell 1 rfl
    have z2 := k0.cell 2 rfl
    have z3 := k0.cell 3 rfl
    have z4 := k0.cell 4 rfl
    have K0 : Below W.heap.size W W.drew := below_drewN (Below.refl _ _) 1
    have HB := Lib.hid (fun (V : World) (hV : Below W.heap.size W V) => (B0.trans (hV.mono B0.size) : Below w.heap.size w V))
    have hlt := k0.lt
    have e4 : (w.alloc (Obj.cells #[Value.int IntKind.u64 f0, Value.int IntKind.u64 f1, Value.int IntKind.u64 s0, Value.int IntKind.u64 s1, Value.bool true] 139)).cell? ⟨w.heap.size, 4, none⟩ = some (.bool true) := by rw [hW']; exact z4
    go_enter Tryz.func133, Tryz.ntmps133
    go_wp2_with fail
    try rw [hW']
    clear hW hW' e4
    go_region_held3 (fun w' => w'.cell? ⟨w.heap.size, 0, none⟩ = some (.int .u64 (f0 : Int)) ∧ w'.cell? ⟨w.heap.size, 1, none⟩ = some (.int .u64 (f1 : Int)) ∧ w'.cell? ⟨w.heap.size, 2, none⟩ = some (.int .u64 (s0 : Int)) ∧ w'.cell? ⟨w.heap.size, 3, none⟩ = some (.int .u64 (s1 : Int)))
      (first | exact cells4u k0 (below_drewN (Below.refl _ _) 1) | exact cells4u k0 K1 | exact cells4u k0 K2 | go_keep)
      ((first
        | (go_at_call 145; (with_reducible refine Calls.mono (C1.out _ (HB.out _ K0)) ?_); rintro e w1 ⟨A1, xs, d1, rfl, hd1, -, hn1, hv1, hr1, b1⟩; have K1 := below_next K0 (Nat.le_refl _) b1)
        | (go_at_call 145; (with_reducible refine Calls.mono (C2.out _ (HB.out _ K1)) ?_); rintro e w2 ⟨A2, ys, d2, rfl, hd2, -, hn2, hv2, hr2, b2⟩; have K2 := below_next K1 (Nat.le_refl _) b2)))
    have HN1 := Lib.hid hn1
    have HN2 := Lib.hid hn2
    have HV1 := Lib.hid hv1
    have HV2 := Lib.hid hv2
    clear hn1 hn2 hv1 hv2 C1 C2
    go_wp2_with fail
    go_ret2
    exact ⟨A1, xs, d1, A2, ys, d2, rfl, hd1, hd2, HN1.out, HN2.out, HV1.out, HV2.out, hr1.on b2, hr2, HB.out _ K2⟩
  | false =>
    obtain ⟨hX1, hX2⟩ := hX
    have c1 := fun (V : World) (hV : Below w.heap.size w V) => root_less b a A' A cb ca f1 f0 X1 V (h'.on hV) (h.on hV) hl' hb ha hf1 hf0 hX1 (by rw [Nat.min_comm]; exact h1)
    have c2 := fun (V : World) (hV : Below w.heap.size w V) => root_less a b A A' ca cb s0 s1 X2 V (h.on hV) (h'.on hV) hl ha hb hs0 hs1 hX2 h2
    have C1 := Lib.hid c1
    have C2 := Lib.hid c2
    clear c1 c2 hX1 hX2 h1 h2
    obtain ⟨W, hW⟩ : ∃ W, w.alloc (.cells (lie f0 f1 s0 s1 false).toArray 139) = W := ⟨_, rfl⟩
    have hW' : w.alloc (Obj.cells #[Value.int IntKind.u64 f0, Value.int IntKind.u64 f1, Value.int IntKind.u64 s0, Value.int IntKind.u64 s1, Value.bool false] 139) = W := hW
    rw [hW] at B0 k0
    have z0 := k0.cell 0 rfl
    have z1 := k0.cell 1 rfl
    have z2 := k0.cell 2 rfl
    have z3 := k0.cell 3 rfl
    have z4 := k0.cell 4 rfl
    have K0 : Below W.heap.size W W.drew := below_drewN (Below.refl _ _) 1
    have HB := Lib.hid (fun (V : World) (hV : Below W.heap.size W V) => (B0.trans (hV.mono B0.size) : Below w.heap.size w V))
    have hlt := k0.lt
    have e4 : (w.alloc (Obj.cells #[Value.int IntKind.u64 f0, Value.int IntKind.u64 f1, Value.int IntKind.u64 s0, Value.int IntKind.u64 s1, Value.bool false] 139)).cell? ⟨w.heap.size, 4, none⟩ = some (.bool false) := by rw [hW']; exact z4
    go_enter Tryz.func133, Tryz.ntmps133
    go_wp2_with fail
    try rw [hW']
    clear hW hW' e4
    go_region_held3 (fun w' => w'.cell? ⟨w.heap.size, 0, none⟩ = some (.int .u64 (f0 : Int)) ∧ w'.cell? ⟨w.heap.size, 1, none⟩ = some (.int .u64 (f1 : Int)) ∧ w'.cell? ⟨w.heap.size, 2, none⟩ = some (.int .u64 (s0 : Int)) ∧ w'.cell? ⟨w.heap.size, 3, none⟩ = some (.int .u64 (s1 : Int)))
      (first | exact cells4u k0 (below_drewN (Below.refl _ _) 1) | exact cells4u k0 K1 | exact cells4u k0 K2 | go_keep)
      ((first
        | (go_at_call 145; (with_reducible refine Calls.mono (C1.out _ (HB.out _ K0)) ?_); rintro e w1 ⟨A1, xs, d1, rfl, hd1, -, hn1, hv1, hr1, b1⟩; have K1 := below_next K0 (Nat.le_refl _) b1)
        | (go_at_call 145; (with_reducible refine Calls.mono (C2.out _ (HB.out _ K1)) ?_); rintro e w2 ⟨A2, ys, d2, rfl, hd2, -, hn2, hv2, hr2, b2⟩; have K2 := below_next K1 (Nat.le_refl _) b2)))
    have HN1 := Lib.hid hn1
    have HN2 := Lib.hid hn2
    have HV1 := Lib.hid hv1
    have HV2 := Lib.hid hv2
    clear hn1 hn2 hv1 hv2 C1 C2
    go_wp2_with fail
    go_ret2
    exact ⟨A1, xs, d1, A2, ys, d2, rfl, hd1, hd2, HN1.out, HN2.out, HV1.out, HV2.out, hr1.on b2, hr2, HB.out _ K2⟩
end Go.Proofs.YtokaapljlpngdaaGreatDoor
/- What the program's own gcdSmall and nearer answer. -/

namespace Go.Proofs.YtokaapljlpngdaaGreatDoor
open Go.RowKit Num

theorem gcd_step (x y : Nat) : Nat.gcd y (x % y) = Nat.gcd x y := by
  rw [Nat.gcd_comm y, ← Nat.gcd_rec, Nat.gcd_comm]
theorem getD_pad {d : List Nat} {n j : Nat} : (d ++ List.replicate n 0).getD j 0 = d.getD j 0 := by
  simp only [List.getD_eq_getElem?_getD]
  by_cases h : j < d.length
  · rw [List.getElem?_append_left h]
  · rw [List.getElem?_append_right (by omega), List.getElem?_eq_none (l := d) (by omega)]
    by_cases h2 : j - d.length < n
    · rw [List.getElem?_eq_getElem (by simpa using h2)]; simp
    · rw [List.getElem?_eq_none (by simp; omega)]
/-- the higher three of n words, without some bits, are the whole number by a power of two -/
theorem head_div {d : List Nat} {n s : Nat} (hd : Dg 4294967296 d) (hl : d.length ≤ n) (h3 : 3 ≤ n) :
    val 4294967296 d / (4294967296 ^ (n - 3) * 2 ^ (32 - s)) = (d.getD (n - 3) 0 + 4294967296 * (d.getD (n - 2) 0 + 4294967296 * d.getD (n - 1) 0)) / 2 ^ (32 - s) := by
  obtain ⟨k, rfl⟩ : ∃ k, n = k + 3 := ⟨n - 3, by omega⟩
  have hlen : (d ++ List.replicate (k + 3 - d.length) 0).length = k + 3 := by simp; omega
  have hv : val 4294967296 (d ++ List.replicate (k + 3 - d.length) 0) = val 4294967296 d := by rw [val_append, val_zeros]; simp
  have h := val_three (b := 4294967296) hlen
  have hdd : Dg 4294967296 (d ++ List.replicate (k + 3 - d.length) 0) := Dg.append.2 ⟨hd, Dg.zeros (by omega)⟩
  have g0 : ∀ j (hj : j < (d ++ List.replicate (k + 3 - d.length) 0).length), (d ++ List.replicate (k + 3 - d.length) 0)[j] = d.getD j 0 := fun j hj => by
    rw [← getD_pad (n := k + 3 - d.length), List.getD_eq_getElem?_getD, List.getElem?_eq_getElem hj, Option.getD_some]
  have hlo := val_lt (hdd.take (n := k))
  rw [List.length_take, Nat.min_eq_left (by omega)] at hlo
  rw [g0, g0, g0, hv] at h
  rw [show k + 3 - 3 = k by omega, show k + 3 - 2 = k + 1 by omega, show k + 3 - 1 = k + 2 by omega, ← Nat.div_div_eq_div_mul, h, Nat.add_mul_div_left _ _ (Nat.pow_pos (by omega)), Nat.div_eq_of_lt hlo, Nat.zero_add]
theorem head_lt {p q r s : Nat} (hq : q < 4294967296) (hr : r < 4294967296) (hs : s < 32) (hp : p * 2 ^ s < 4294967296) : (r + 4294967296 * (q + 4294967296 * p)) / 2 ^ (32 - s) < 18446744073709551616 := by
  have e : (4294967296 : Nat) = 2 ^ (32 - s) * 2 ^ s := by rw [← Nat.pow_add, show 32 - s + s = 32 by omega]
  rw [Nat.div_lt_iff_lt_mul (Nat.pow_pos (by omega))]
  have hpp : p + 1 ≤ 2 ^ (32 - s) := by
    rw [e] at hp
    exact Nat.lt_of_mul_lt_mul_right hp
  have := Nat.mul_le_mul_left 18446744073709551616 hpp
  omega
theorem top_word {a b : List Nat} {x : Nat} (ha : Norm 4294967296 a) (hb : Norm 4294967296 b) (hle : val 4294967296 b ≤ val 4294967296 a) (h3 : 3 ≤ a.length) (hx : a.getD (a.length - 1) 0 = x) : b.getD (a.length - 1) 0 ≤ x := by
  have hl := len_le (b := 4294967296) (by omega) hb.2 ha.1 hle
  by_cases h : b.length < a.length
  · rw [getD_ge (by omega)]; omega
  · rcases Nat.lt_or_ge x (b.getD (a.length - 1) 0) with hlt | hge
    · have h1 : a.length - 1 < a.length := by omega
      have h2 : a.length - 1 < b.length := by omega
      rw [List.getD_eq_getElem?_getD, List.getElem?_eq_getElem h1, Option.getD_some] at hx
      rw [List.getD_eq_getElem?_getD, List.getElem?_eq_getElem h2, Option.getD_some] at hlt
      have := val_lt_of_digit (b := 4294967296) (xs := a) (ys := b) (i := a.length - 1) ha.1 h1 h2 (by rw [List.drop_of_length_le (by omega), List.drop_of_length_le (by omega)]) (by omega)
      omega
    · exact hge

set_option maxHeartbeats 800000 in
/-- the greatest common factor of two numbers of 64 bits -/
theorem root_gcdSmall (a b : List Nat) (A A' : Option Addr) (ca cb : Nat) (w : World) (h : Rd w (fun g => g < w.heap.size) .u32 A a) (h' : Rd w (fun g => g < w.heap.size) .u32 A' b) (hl : a.length ≤ 1073741824) (hl' : b.length ≤ 1073741824) (hc : a.length ≤ ca) (hc' : b.length ≤ cb) (ha : Dg 4294967296 a) (hb : Dg 4294967296 b)
    (h1 : val 4294967296 a < 18446744073709551616) (h2 : val 4294967296 b < 18446744073709551616) :
    Calls Tryz.prog 118 #[.slice A a.length ca, .slice A' b.length cb] w (Gives .u32 4294967296 (Nat.gcd (val 4294967296 a) (val 4294967296 b)) w) := by
  have cu := nat_Uint a A ca _ w h (by omega) hc ha
  have cv := nat_Uint b A' cb _ w h' (by omega) hc' hb
  obtain ⟨N, hN⟩ : ∃ N, val 4294967296 a = N := ⟨_, rfl⟩
  obtain ⟨M, hM⟩ : ∃ N, val 4294967296 b = N := ⟨_, rfl⟩
  rw [hN] at cu h1 ⊢
  rw [hM] at cv h2 ⊢
  clear hN hM
  go_enter Tryz.func118, Tryz.ntmps118
  go_wp2_with fail
  refine cu.mono ?_
  rintro e w1 ⟨rfl, ⟨_, rfl⟩ | ⟨hn, rfl⟩⟩
  · go_wp2_with fail
    refine cv.mono ?_
    rintro e w1 ⟨rfl, ⟨_, rfl⟩ | ⟨hn, rfl⟩⟩
    · go_wp2_with fail
      go_loopg [5, 7] M (fun gh x y wr => ∃ n m k : Nat, m = gh ∧ x = .int .u64 n ∧ y = .int .u64 m ∧ wr = w.drewN k ∧ n < 18446744073709551616 ∧ m < 18446744073709551616 ∧ Nat.gcd n m = Nat.gcd N M)
      case atStart => exact ⟨N, M, 0, rfl, rfl, rfl, rfl, h1, h2, rfl⟩
      case round =>
        obtain ⟨n, m, k, rfl, rfl, rfl, rfl, hn, hm, hg⟩ := hrel
        by_cases h0 : m = 0
        · subst h0
          rw [Nat.gcd_zero_right] at hg
          have co := nat_Of n hn (w.drewN k)
          have HG := Lib.hid hg
          clear hg cu cv
          go_wp2_with fail
          refine co.mono ?_
          rintro e w1 ⟨A1, xs, c1, rfl, hc1, hn1, hv1, hr1, hb1⟩
          go_wp2_with fail
          go_ret
          exact ⟨A1, xs, c1, rfl, hc1, hn1, hv1.trans HG.out, hr1, (below_drewN (Below.refl w.heap.size w) k).trans hb1⟩
        · have hrem := tmod_nat n m
          have hlt : n % m < m := Nat.mod_lt _ (by omega)
          have hs := gcd_step n m
          obtain ⟨r, hr⟩ : ∃ r, n % m = r := ⟨_, rfl⟩
          rw [hr] at hrem hlt hs
          have HG := Lib.hid (hs.trans hg)
          clear hg hs hr cu cv
          go_wp2_with fail
          go_quiet (fail)
          go_wp2_with fail
          go_roundg r
          case measure => exact hlt
          case rel => exact ⟨m, r, k + nq, rfl, rfl, rfl, World.drewN_drewN _ _ _, hm, by omega, HG.out⟩
    · exact absurd h2 hn
  · exact absurd h1 hn

/-- two numbers nearer to a common factor -/
def GivesNearer (N M : Nat) (w : World) (e : Ending) (w' : World) : Prop := ∃ X Y, GivesTwo X Y w e w' ∧ Y ≤ X ∧ X ≤ M ∧ Nat.gcd X Y = Nat.gcd N M ∧ X + Y < N + M

set_option maxHeartbeats 1600000 in
theorem root_nearer (a b : List Nat) (A A' : Option Addr) (ca cb : Nat) (w : World) (h : Rd w (fun g => g < w.heap.size) .u32 A a) (h' : Rd w (fun g => g < w.heap.size) .u32 A' b) (hl : a.length ≤ 1073741824) (hc : a.length ≤ ca) (hc' : b.length ≤ cb) (ha : Norm 4294967296 a) (hb : Norm 4294967296 b)
    (h3 : 3 ≤ a.length) (h0 : 0 < val 4294967296 b) (hle : val 4294967296 b ≤ val 4294967296 a) :
    Calls Tryz.prog 119 #[.slice A a.length ca, .slice A' b.length cb] w (GivesNearer (val 4294967296 a) (val 4294967296 b) w) := by
  have hlb := len_le (b := 4294967296) (by omega) hb.2 ha.1 hle
  obtain ⟨x, hx⟩ : ∃ x, a.getD (a.length - 1) 0 = x := ⟨_, rfl⟩
  have hbx := top_word ha hb hle h3 hx
  have hx0 : 0 < x := by
    have h1 : a.length - 1 < a.length := by omega
    have ht := ha.2
    unfold Top at ht
    rw [List.getLast?_eq_getElem?, List.getElem?_eq_getElem h1] at ht
    rw [List.getD_eq_getElem?_getD, List.getElem?_eq_getElem h1, Option.getD_some] at hx
    rcases Nat.eq_zero_or_pos x with h | h
    · subst h; rw [hx] at ht; exact absurd rfl ht
    · exact h
  have hx32 : x < 4294967296 := by rw [← hx]; exact ha.1.getD (by omega) _
  obtain ⟨s, hs, hls, hxs⟩ := lead_zeros hx0 hx32
  have hxs' : x * 2 ^ s < 4294967296 := by
    have : x * 2 ^ s < (x + 1) * 2 ^ s := Nat.mul_lt_mul_of_pos_right (by omega) (Nat.pow_pos (by omega))
    omega
  have cz := Tryz.bits_LeadingZeros32 (x : Int) w (by omega) (by omega)
  rw [Int.toNat_natCast, hls] at cz
  have cA := fun (V : World) (hV : Below w.heap.size w V) => root_head a A ca a.length s _ V (h.on hV) (by omega) h3 hs ha.1 (by rw [hx]; exact hxs')
  have cB := fun (V : World) (hV : Below w.heap.size w V) => root_head b A' cb a.length s _ V (h'.on hV) (by omega) h3 hs hb.1 (Nat.lt_of_le_of_lt (Nat.mul_le_mul_right _ hbx) hxs')
  have dA := head_div (s := s) ha.1 (Nat.le_refl _) h3
  have dB := head_div (s := s) hb.1 hlb h3
  have hAlt := head_lt (p := a.getD (a.length - 1) 0) (ha.1.getD (by omega) (a.length - 2)) (ha.1.getD (by omega) (a.length - 3)) hs (by rw [hx]; exact hxs')
  have hK : 0 < 4294967296 ^ (a.length - 3) * 2 ^ (32 - s) := Nat.mul_pos (Nat.pow_pos (by omega)) (Nat.pow_pos (by omega))
  obtain ⟨K, hKK⟩ : ∃ K, 4294967296 ^ (a.length - 3) * 2 ^ (32 - s) = K := ⟨_, rfl⟩
  rw [hKK] at dA dB hK
  simp only [← dA] at cA
  simp only [← dB] at cB
  rw [← dA] at hAlt
  have hBA : val 4294967296 b / K ≤ val 4294967296 a / K := Nat.div_le_div_right hle
  obtain ⟨P, hP⟩ : ∃ P, val 4294967296 a / K = P := ⟨_, rfl⟩
  obtain ⟨Q, hQ⟩ : ∃ P, val 4294967296 b / K = P := ⟨_, rfl⟩
  simp only [hP] at cA
  simp only [hQ] at cB
  rw [hP] at hAlt hBA
  rw [hQ] at hBA
  obtain ⟨ba, oa, rfl, _, hcell⟩ := h.at_ (j := a.length - 1) (by omega)
  have hxx : a[a.length - 1]'(by omega) = x := by
    rw [List.getD_eq_getElem?_getD, List.getElem?_eq_getElem (by omega), Option.getD_some] at hx; exact hx
  rw [hxx] at hcell
  clear hxx hx dA dB hKK hxs hxs' hbx hls
  have HP := Lib.hid hP
  have HQ := Lib.hid hQ
  have HK := Lib.hid hK
  clear hP hQ hK
  go_enter Tryz.func119, Tryz.ntmps119
  go_wp2_with fail
  refine cz.mono ?_
  rintro e w1 ⟨rfl, rfl⟩
  clear cz hcell
  go_wp2_with fail
  refine (cA _ (Below.refl _ _)).mono ?_
  rintro e w2 ⟨rfl, k, rfl⟩
  go_wp2_with fail
  refine (cB _ (below_drewN (Below.refl _ _) k)).mono ?_
  rintro e w2 ⟨rfl, k2, rfl⟩
  obtain ⟨w2, hw2, b2⟩ : ∃ W, (w1.drewN k).drewN k2 = W ∧ Below w1.heap.size w1 W := ⟨_, rfl, below_drewN (below_drewN (Below.refl _ _) k) k2⟩
  rw [hw2]
  clear hw2 cA cB
  go_wp2_with fail
  refine (root_foresee P Q hAlt hBA w2).mono ?_
  rintro e w3 ⟨f0, f1, s0, s1, ev, rfl, hS, b3⟩
  have B3 := b2.trans (b3.mono b2.size)
  have k0 := Blk.new w3 139 (lie f0 f1 s0 s1 ev)
  have BN := below_one w3 (.cells (lie f0 f1 s0 s1 ev).toArray 139)
  have B4 := B3.trans (BN.mono B3.size)
  have z0 := k0.cell 0 rfl
  have z1 := k0.cell 1 rfl
  have z2 := k0.cell 2 rfl
  have z3 := k0.cell 3 rfl
  have z4 := k0.cell 4 rfl
  by_cases hf : f1 = 0
  · subst hf
    go_wp2_with fail
    have cD := nat_Div a b _ A' ca cb _ _ _ (h.on B4) (h'.on B4) (fun g hg => hg) (fun g hg => hg) (by omega) (by omega) hc hc' ha.1 hb.1
    refine Calls.mono cD ?_
    rintro e w5 ⟨A5, q, c5, A6, r, c6, rfl, -, hc6, -, hn6, -, hv6, -, hr6, b6⟩
    rw [if_neg (by omega)] at hv6
    have B6 := B4.trans (b6.mono B4.size)
    have HV := Lib.hid hv6
    have HN := Lib.hid hn6
    clear hv6 hn6 cD z0 z1 z2 z3 z4 k0
    go_wp2_with fail
    go_ret2
    have hlt := Nat.mod_lt (val 4294967296 a) h0
    exact ⟨_, _, ⟨A', b, cb, A6, r, c6, rfl, hc', hc6, hb, HN.out, rfl, HV.out, h'.on B6, hr6, B6⟩, by omega, Nat.le_refl _, gcd_step _ _, by omega⟩
  · rcases hS with hS | ⟨x1, x2, hI, hx2, hx1⟩
    · exact absurd hS hf
    · obtain ⟨X1, X2, hXX, eA, eB, hE, hO⟩ := hI.whole hx2 hx1 HK.out HP.out HQ.out
      have hsm := hI.small hAlt hx2
      have i1 := hI.uv
      have i2 := hI.vv
      have i3 := hI.u1v
      have i4 := hI.pos
      have i5 := hI.nz (by omega)
      have hXb : X1 ≤ val 4294967296 b := by
        have := Nat.le_mul_of_pos_left X1 (show 0 < s0 from i5)
        omega
      have hXa : X1 + X2 ≤ val 4294967296 a := by
        have := Nat.le_mul_of_pos_left X1 (show 0 < s1 from i4)
        have := Nat.le_mul_of_pos_left X2 (show 0 < f1 by omega)
        omega
      have hpow : val 4294967296 b < 4294967296 ^ (min a.length b.length) := by
        rw [Nat.min_eq_right hlb]; exact val_lt hb.1
      have hX : if ev then X1 + val 4294967296 b * f1 = val 4294967296 a * f0 ∧ X2 + val 4294967296 a * s0 = val 4294967296 b * s1 else X1 + val 4294967296 a * f0 = val 4294967296 b * f1 ∧ X2 + val 4294967296 b * s1 = val 4294967296 a * s0 := by
        cases ev with
        | true => have := hE rfl; simp only [if_true]; rw [Nat.mul_comm _ f1, Nat.mul_comm _ f0, Nat.mul_comm _ s0, Nat.mul_comm _ s1]; exact this
        | false => have := hO rfl; simp only [Bool.false_eq_true, if_false]; rw [Nat.mul_comm _ f1, Nat.mul_comm _ f0, Nat.mul_comm _ s0, Nat.mul_comm _ s1]; exact this
      have hg : Nat.gcd X1 X2 = Nat.gcd (val 4294967296 a) (val 4294967296 b) := by
        refine gcd_of_both (q' := f1) (p' := f0) (s' := s0) (r' := s1) eA eB ?_ ?_
        · cases ev with
          | true => exact .inl (hE rfl).1
          | false => exact .inr (hO rfl).1
        · cases ev with
          | true => exact .inl (hE rfl).2
          | false => exact .inr (hO rfl).2
      have cT := root_take a b _ A' ca cb f0 f1 s0 s1 X1 X2 ev _ (h.on B4) (h'.on B4) hl (by omega) ha.1 hb.1 (by omega) (by omega) (by omega) hsm hX (by omega) (by omega)
      have HG := Lib.hid hg
      clear hE hO hX eA eB hI hg hpow
      have hfi : ((f1 : Int) == 0) = false := by simp; omega
      go_wp2_with fail
      refine cT.mono ?_
      rintro e w5 ⟨A5, p, c5, A6, q, c6, rfl, hc5, hc6, hn5, hn6, hv5, hv6, hr5, hr6, b6⟩
      have B6 := B4.trans (b6.mono B4.size)
      have HV := Lib.hid hv5
      have HW := Lib.hid hv6
      clear hv5 hv6 cT z0 z1 z2 z3 z4 k0
      go_wp2_with fail
      go_ret2
      exact ⟨X1, X2, ⟨A5, p, c5, A6, q, c6, rfl, hc5, hc6, hn5, hn6, HV.out, HW.out, hr5, hr6, B6⟩, hXX, hXb, HG.out, by omega⟩
end Go.Proofs.YtokaapljlpngdaaGreatDoor
/- What the program's own Gcd, Lcm and Reduce answer. -/

namespace Go.Proofs.YtokaapljlpngdaaGreatDoor
open Go.RowKit Num

set_option maxHeartbeats 1600000 in
/-- the greatest common factor -/
theorem root_Gcd (a b : List Nat) (A A' : Option Addr) (ca cb : Nat) (w : World) (h : Rd w (fun g => g < w.heap.size) .u32 A a) (h' : Rd w (fun g => g < w.heap.size) .u32 A' b) (hl : a.length ≤ 1073741824) (hl' : b.length ≤ 1073741824) (hc : a.length ≤ ca) (hc' : b.length ≤ cb) (ha : Dg 4294967296 a) (hb : Dg 4294967296 b) :
    Calls Tryz.prog 98 #[.slice A a.length ca, .slice A' b.length cb] w (Gives .u32 4294967296 (Nat.gcd (val 4294967296 a) (val 4294967296 b)) w) := by
  have cC := nat_Cmp a b A A' ca cb _ _ w h h' hl hl' hc hc' ha hb
  go_enter Tryz.func98, Tryz.ntmps98
  go_wp2_with fail
  go_step3
  go_wp2_with fail
  refine cC.mono ?_
  rintro e w1 ⟨rfl, k, rfl⟩
  have BK : Below w.heap.size w (w.drewN k) := below_drewN (Below.refl _ _) k
  by_cases hlt : val 4294967296 a < val 4294967296 b
  · rw [cmpI_lt hlt]
    have cc := root_cut b A' cb _ _ (h'.on BK) hl' hc' hb
    go_wp2_with fail
    refine cc.mono ?_
    rintro e w2 ⟨p, P1, d1, rfl, hd1, hl1, hn1, hv1, hr1, rfl⟩
    have cc2 := root_cut a A ca _ _ (h.on BK) hl hc ha
    go_wp2_with fail
    refine cc2.mono ?_
    rintro e w2 ⟨q, P2, d2, rfl, hd2, hl2, hn2, hv2, hr2, rfl⟩
    go_wp2_with fail
    go_step3
    have hle : val 4294967296 q ≤ val 4294967296 p := by rw [hv1, hv2]; omega
    have hG : Nat.gcd (val 4294967296 p) (val 4294967296 q) = Nat.gcd (val 4294967296 a) (val 4294967296 b) := by rw [hv1, hv2]; exact Nat.gcd_comm _ _
    have hpl : p.length ≤ 1073741824 := by omega
    have hql : q.length ≤ 1073741824 := by omega
    obtain ⟨G, hGG⟩ : ∃ G, Nat.gcd (val 4294967296 a) (val 4294967296 b) = G := ⟨_, rfl⟩
    obtain ⟨wk, hwk⟩ : ∃ W, w.drewN k = W := ⟨_, rfl⟩
    rw [hGG] at hG
    have HGG := Lib.hid hGG
    rw [hwk] at hr1 hr2 BK ⊢
    clear hGG hwk cC cc cc2 hv1 hv2 hlt ha hb hl hl' hc hc' h h' hl1 hl2
    go_wp2_with fail
    go_loopg [5, 6] (val 4294967296 p + val 4294967296 q) (fun gh vx vy wr => ∃ (X Y : Option Addr) (x y : List Nat) (dx dy : Nat), val 4294967296 x + val 4294967296 y = gh ∧ vx = .slice X x.length dx ∧ vy = .slice Y y.length dy ∧ x.length ≤ dx ∧ y.length ≤ dy ∧ x.length ≤ 1073741824 ∧ y.length ≤ 1073741824 ∧ Norm 4294967296 x ∧ Norm 4294967296 y ∧ val 4294967296 y ≤ val 4294967296 x ∧
      Nat.gcd (val 4294967296 x) (val 4294967296 y) = G ∧ Rd wr (fun g => g < wr.heap.size) .u32 X x ∧ Rd wr (fun g => g < wr.heap.size) .u32 Y y ∧ Below w.heap.size w wr)
    case atStart => exact ⟨P1, P2, p, q, d1, d2, rfl, rfl, rfl, hd1, hd2, hpl, hql, hn1, hn2, hle, hG, hr1, hr2, BK⟩
    case round =>
      clear hle hG hpl hql hn1 hn2 hr1 hr2 BK hd1 hd2
      obtain ⟨X, Y, x, y, dx, dy, hgh, rfl, rfl, hdx, hdy, hxl, hyl, hxn, hyn, hle, hG, hrx, hry, hB⟩ := hrel
      have HG := Lib.hid hG
      have HH := Lib.hid hgh
      clear hG hgh
      have hs := hB.size
      by_cases h0 : y.length = 0
      · obtain rfl : y = [] := List.eq_nil_of_length_eq_zero h0
        have cT := nat_Trim_g x X dx _ wr hrx (fun g hg => hg) (by omega) hdx hxn.1
        go_wp2_with fail
        refine cT.mono ?_
        rintro e w2 ⟨A1, xs, c1, rfl, hc1, hn1, hv1, hr1, hb1⟩
        have HV := Lib.hid hv1
        clear hv1 cT
        go_wp2_with fail
        rw [Exit.noGoto_ret]
        go_ret
        refine ⟨A1, xs, c1, rfl, hc1, hn1, ?_, hr1, hB.trans (hb1.mono hs)⟩
        rw [HV.out, HGG.out, ← HG.out]
        simp [val]
      · have hypos : 0 < val 4294967296 y := by
          rcases Nat.eq_zero_or_pos (val 4294967296 y) with h | h
          · have := (hyn.2.nil_iff (b := 4294967296) (by omega)).2 h
            subst this; simp at h0
          · exact h
        by_cases h2 : x.length ≤ 2
        · have hx64 : val 4294967296 x < 18446744073709551616 := val_lt_pow (n := 2) hxn.1 (by omega) h2
          have cS := root_gcdSmall x y X Y dx dy wr hrx hry hxl hyl hdx hdy hxn.1 hyn.1 hx64 (by omega)
          go_wp2_with fail
          refine cS.mono ?_
          rintro e w2 ⟨A1, xs, c1, rfl, hc1, hn1, hv1, hr1, hb1⟩
          have HV := Lib.hid hv1
          clear hv1 cS
          go_wp2_with fail
          rw [Exit.noGoto_ret]
          go_ret
          refine ⟨A1, xs, c1, rfl, hc1, hn1, ?_, hr1, hB.trans (hb1.mono hs)⟩
          rw [HV.out, HGG.out, ← HG.out]
        · have cN := root_nearer x y X Y dx dy wr hrx hry hxl hdx hdy hxn hyn (by omega) hypos hle
          go_wp2_with fail
          refine cN.mono ?_
          rintro e w2 ⟨N, M, ⟨A1, xs, c1, A2, ys, c2, rfl, hc1, hc2, hn1, hn2, hv1, hv2, hr1, hr2, hb1⟩, hMN, hNy, hg, hlt⟩
          have l1 := len_le (b := 4294967296) (xs := xs) (a := y) (by omega) hn1.2 hyn.1 (by rw [hv1]; exact hNy)
          have l2 := len_le (b := 4294967296) (xs := ys) (a := y) (by omega) hn2.2 hyn.1 (by rw [hv2]; omega)
          have HV := Lib.hid hv1
          have HW := Lib.hid hv2
          have HGN := Lib.hid hg
          clear hv1 hv2 hg cN
          go_wp2_with fail
          go_roundg (N + M)
          case measure => rw [← HH.out]; exact hlt
          case rel => exact ⟨A1, A2, xs, ys, c1, c2, by rw [HV.out, HW.out], rfl, rfl, hc1, hc2, by omega, by omega, hn1, hn2, by rw [HV.out, HW.out]; exact hMN, by rw [HV.out, HW.out, HGN.out, HG.out], hr1, hr2, hB.trans (hb1.mono hs)⟩
  · obtain ⟨z, hz, hz0⟩ : ∃ z : Int, cmpI (val 4294967296 a) (val 4294967296 b) = z ∧ ¬ z < 0 := ⟨_, rfl, fun h => hlt ((cmpI_neg _ _).1 h)⟩
    rw [hz]
    clear hz
    have cc := root_cut a A ca _ _ (h.on BK) hl hc ha
    go_wp2_with fail
    refine cc.mono ?_
    rintro e w2 ⟨p, P1, d1, rfl, hd1, hl1, hn1, hv1, hr1, rfl⟩
    have cc2 := root_cut b A' cb _ _ (h'.on BK) hl' hc' hb
    go_wp2_with fail
    refine cc2.mono ?_
    rintro e w2 ⟨q, P2, d2, rfl, hd2, hl2, hn2, hv2, hr2, rfl⟩
    go_wp2_with fail
    go_step3
    have hle : val 4294967296 q ≤ val 4294967296 p := by rw [hv1, hv2]; omega
    have hG : Nat.gcd (val 4294967296 p) (val 4294967296 q) = Nat.gcd (val 4294967296 a) (val 4294967296 b) := by rw [hv1, hv2]
    have hpl : p.length ≤ 1073741824 := by omega
    have hql : q.length ≤ 1073741824 := by omega
    obtain ⟨G, hGG⟩ : ∃ G, Nat.gcd (val 4294967296 a) (val 4294967296 b) = G := ⟨_, rfl⟩
    obtain ⟨wk, hwk⟩ : ∃ W, w.drewN k = W := ⟨_, rfl⟩
    rw [hGG] at hG
    have HGG := Lib.hid hGG
    rw [hwk] at hr1 hr2 BK ⊢
    clear hGG hwk cC cc cc2 hv1 hv2 hlt ha hb hl hl' hc hc' h h' hl1 hl2
    go_wp2_with fail
    go_loopg [5, 6] (val 4294967296 p + val 4294967296 q) (fun gh vx vy wr => ∃ (X Y : Option Addr) (x y : List Nat) (dx dy : Nat), val 4294967296 x + val 4294967296 y = gh ∧ vx = .slice X x.length dx ∧ vy = .slice Y y.length dy ∧ x.length ≤ dx ∧ y.length ≤ dy ∧ x.length ≤ 1073741824 ∧ y.length ≤ 1073741824 ∧ Norm 4294967296 x ∧ Norm 4294967296 y ∧ val 4294967296 y ≤ val 4294967296 x ∧
      Nat.gcd (val 4294967296 x) (val 4294967296 y) = G ∧ Rd wr (fun g => g < wr.heap.size) .u32 X x ∧ Rd wr (fun g => g < wr.heap.size) .u32 Y y ∧ Below w.heap.size w wr)
    case atStart => exact ⟨P1, P2, p, q, d1, d2, rfl, rfl, rfl, hd1, hd2, hpl, hql, hn1, hn2, hle, hG, hr1, hr2, BK⟩
    case round =>
      clear hle hG hpl hql hn1 hn2 hr1 hr2 BK hd1 hd2
      obtain ⟨X, Y, x, y, dx, dy, hgh, rfl, rfl, hdx, hdy, hxl, hyl, hxn, hyn, hle, hG, hrx, hry, hB⟩ := hrel
      have HG := Lib.hid hG
      have HH := Lib.hid hgh
      clear hG hgh
      have hs := hB.size
      by_cases h0 : y.length = 0
      · obtain rfl : y = [] := List.eq_nil_of_length_eq_zero h0
        have cT := nat_Trim_g x X dx _ wr hrx (fun g hg => hg) (by omega) hdx hxn.1
        go_wp2_with fail
        refine cT.mono ?_
        rintro e w2 ⟨A1, xs, c1, rfl, hc1, hn1, hv1, hr1, hb1⟩
        have HV := Lib.hid hv1
        clear hv1 cT
        go_wp2_with fail
        rw [Exit.noGoto_ret]
        go_ret
        refine ⟨A1, xs, c1, rfl, hc1, hn1, ?_, hr1, hB.trans (hb1.mono hs)⟩
        rw [HV.out, HGG.out, ← HG.out]
        simp [val]
      · have hypos : 0 < val 4294967296 y := by
          rcases Nat.eq_zero_or_pos (val 4294967296 y) with h | h
          · have := (hyn.2.nil_iff (b := 4294967296) (by omega)).2 h
            subst this; simp at h0
          · exact h
        by_cases h2 : x.length ≤ 2
        · have hx64 : val 4294967296 x < 18446744073709551616 := val_lt_pow (n := 2) hxn.1 (by omega) h2
          have cS := root_gcdSmall x y X Y dx dy wr hrx hry hxl hyl hdx hdy hxn.1 hyn.1 hx64 (by omega)
          go_wp2_with fail
          refine cS.mono ?_
          rintro e w2 ⟨A1, xs, c1, rfl, hc1, hn1, hv1, hr1, hb1⟩
          have HV := Lib.hid hv1
          clear hv1 cS
          go_wp2_with fail
          rw [Exit.noGoto_ret]
          go_ret
          refine ⟨A1, xs, c1, rfl, hc1, hn1, ?_, hr1, hB.trans (hb1.mono hs)⟩
          rw [HV.out, HGG.out, ← HG.out]
        · have cN := root_nearer x y X Y dx dy wr hrx hry hxl hdx hdy hxn hyn (by omega) hypos hle
          go_wp2_with fail
          refine cN.mono ?_
          rintro e w2 ⟨N, M, ⟨A1, xs, c1, A2, ys, c2, rfl, hc1, hc2, hn1, hn2, hv1, hv2, hr1, hr2, hb1⟩, hMN, hNy, hg, hlt⟩
          have l1 := len_le (b := 4294967296) (xs := xs) (a := y) (by omega) hn1.2 hyn.1 (by rw [hv1]; exact hNy)
          have l2 := len_le (b := 4294967296) (xs := ys) (a := y) (by omega) hn2.2 hyn.1 (by rw [hv2]; omega)
          have HV := Lib.hid hv1
          have HW := Lib.hid hv2
          have HGN := Lib.hid hg
          clear hv1 hv2 hg cN
          go_wp2_with fail
          go_roundg (N + M)
          case measure => rw [← HH.out]; exact hlt
          case rel => exact ⟨A1, A2, xs, ys, c1, c2, by rw [HV.out, HW.out], rfl, rfl, hc1, hc2, by omega, by omega, hn1, hn2, by rw [HV.out, HW.out]; exact hMN, by rw [HV.out, HW.out, HGN.out, HG.out], hr1, hr2, hB.trans (hb1.mono hs)⟩

theorem gcd_len {xs a b : List Nat} {n : Nat} (hx : Norm 4294967296 xs) (ha : Dg 4294967296 a) (hb : Dg 4294967296 b) (h : val 4294967296 xs = Nat.gcd (val 4294967296 a) (val 4294967296 b)) (h1 : a.length ≤ n) (h2 : b.length ≤ n) : xs.length ≤ n := by
  rcases Nat.eq_zero_or_pos (val 4294967296 a) with h0 | h0
  · rw [h0, Nat.gcd_zero_left] at h
    exact Nat.le_trans (len_le (b := 4294967296) (by omega) hx.2 hb (by omega)) h2
  · have := Nat.gcd_le_left (val 4294967296 b) h0
    exact Nat.le_trans (len_le (b := 4294967296) (by omega) hx.2 ha (by omega)) h1

set_option maxHeartbeats 800000 in
/-- two numbers without their common factors -/
theorem root_Reduce (a b : List Nat) (A A' : Option Addr) (ca cb : Nat) (w : World) (h : Rd w (fun g => g < w.heap.size) .u32 A a) (h' : Rd w (fun g => g < w.heap.size) .u32 A' b) (hl : a.length ≤ 1073741824) (hl' : b.length ≤ 1073741824) (hc : a.length ≤ ca) (hc' : b.length ≤ cb) (ha : Dg 4294967296 a) (hb : Dg 4294967296 b) :
    Calls Tryz.prog 76 #[.slice A a.length ca, .slice A' b.length cb] w (GivesTwo (val 4294967296 a / Nat.gcd (val 4294967296 a) (val 4294967296 b)) (val 4294967296 b / Nat.gcd (val 4294967296 a) (val 4294967296 b)) w) := by
  have cG := root_Gcd a b A A' ca cb w h h' hl hl' hc hc' ha hb
  go_enter Tryz.func76, Tryz.ntmps76
  go_wp2_with fail
  refine cG.mono ?_
  rintro e w1 ⟨A1, g, c1, rfl, hc1, hn1, hv1, hr1, b1⟩
  have hgl := gcd_len hn1 ha hb hv1 hl hl'
  have cD := nat_Div a g A A1 ca c1 _ _ w1 (h.on b1) hr1 (fun g hg => hg) (fun g hg => hg) hl hgl hc hc1 ha hn1.1
  have cE := fun (V : World) (hV : Below w1.heap.size w1 V) => nat_Div b g A' A1 cb c1 _ _ V ((h'.on b1).on hV) (hr1.on hV) (fun g hg => hg) (fun g hg => hg) hl' hgl hc' hc1 hb hn1.1
  rw [hv1] at cD
  simp only [hv1] at cE
  clear cG hv1
  go_wp2_with fail
  refine cD.mono ?_
  rintro e w2 ⟨A2, q, c2, A3, r, c3, rfl, hc2, -, hn2, -, hv2, -, hr2, -, b2⟩
  have B2 := b1.trans (b2.mono b1.size)
  have HV := Lib.hid hv2
  have c5 := cE w2 b2
  clear cD hv2 cE
  go_wp2_with fail
  refine c5.mono ?_
  rintro e w3 ⟨A4, q4, c4, A5, r5, c5, rfl, hc4, -, hn4, -, hv4, -, hr4, -, b4⟩
  have HW := Lib.hid hv4
  clear hv4
  go_wp2_with fail
  go_ret2
  exact ⟨A2, q, c2, A4, q4, c4, rfl, hc2, hc4, hn2, hn4, HV.out, HW.out, hr2.on b4, hr4, B2.trans (b4.mono B2.size)⟩
end Go.Proofs.YtokaapljlpngdaaGreatDoor
