/- Plain facts about long division: what the highest words say about how often one number is in another one. -/
import Derived.Test.YtokaapljlpngdaaGreatDoorZNatX
import Derived.Test.YtokaapljlpngdaaGreatDoorZNatY
import Derived.BigQuiet
namespace Go.Proofs.YtokaapljlpngdaaGreatDoor.Num

theorem guess_first {P D0 V0 d2 l2 top head Q B : Nat} (hV0 : V0 < P) (hl2 : l2 < B) (htop : 0 < top) (h : Q * (D0 + P * (d2 + B * top)) ≤ V0 + P * (l2 + B * head)) : Q ≤ head / top := by
  rw [Nat.le_div_iff_mul_le htop]
  rcases Nat.lt_or_ge head (Q * top) with hlt | hge
  · exfalso
    have h1 : P * (B * (head + 1)) ≤ P * (B * (Q * top)) := Nat.mul_le_mul_left _ (Nat.mul_le_mul_left _ hlt)
    have h2 : P * (l2 + 1) ≤ P * B := Nat.mul_le_mul_left _ hl2
    have e1 : Q * (D0 + P * (d2 + B * top)) = Q * D0 + P * (Q * d2) + P * (B * (Q * top)) := by grind
    have e2 : P * (l2 + B * head) = P * l2 + P * (B * head) := by grind
    have e3 : P * (B * (head + 1)) = P * (B * head) + P * B := by grind
    have e4 : P * (l2 + 1) = P * l2 + P := by grind
    omega
  · exact hge

theorem guess_over {q P D0 V0 d2 l2 top head rest B : Nat} (hV0 : V0 < P) (hh : q * top + rest = head) (h : rest * B + l2 < q * d2) : V0 + P * (l2 + B * head) < q * (D0 + P * (d2 + B * top)) := by
  have h1 : P * (l2 + B * head + 1) ≤ P * (q * d2 + B * (q * top)) := Nat.mul_le_mul_left _ (by
    rw [← hh]
    have e : B * (q * top + rest) = B * (q * top) + rest * B := by grind
    omega)
  have e1 : q * (D0 + P * (d2 + B * top)) = q * D0 + P * (q * d2 + B * (q * top)) := by grind
  have e2 : P * (l2 + B * head + 1) = P * (l2 + B * head) + P := by grind
  omega

theorem guess_fits {q d2 l2 top head rest B : Nat} (hh : q * top + rest = head) (h : q * d2 ≤ rest * B + l2) : q * (d2 + B * top) ≤ l2 + B * head := by
  rw [← hh]
  have e : B * (q * top + rest) = B * (q * top) + rest * B := by grind
  have e1 : q * (d2 + B * top) = q * d2 + B * (q * top) := by grind
  omega
theorem guess_break {q d2 l2 top head rest B : Nat} (hh : q * top + rest = head) (hr : B ≤ rest) (hq : q < B) (hd : d2 < B) : q * (d2 + B * top) ≤ l2 + B * head := by
  refine guess_fits hh ?_
  have h1 : q * d2 ≤ B * B := Nat.mul_le_mul (by omega) (by omega)
  have h2 : B * B ≤ rest * B := Nat.mul_le_mul_right _ hr
  omega
theorem guess_close {q P D0 V0 d2 l2 top head B : Nat} (hq : q ≤ B) (hD0 : D0 < P) (htop : 0 < top) (h : q * (d2 + B * top) ≤ l2 + B * head) : (q - 1) * (D0 + P * (d2 + B * top)) ≤ V0 + P * (l2 + B * head) := by
  match q with
  | 0 => simp
  | m + 1 =>
    rw [Nat.add_sub_cancel]
    have h1 : m * D0 ≤ B * P := Nat.mul_le_mul (by omega) (by omega)
    have h2 : P * (B * 1) ≤ P * (d2 + B * top) := Nat.mul_le_mul_left _ (Nat.le_trans (Nat.mul_le_mul_left _ htop) (Nat.le_add_left _ _))
    have h3 : P * ((m + 1) * (d2 + B * top)) ≤ P * (l2 + B * head) := Nat.mul_le_mul_left _ h
    have e1 : m * (D0 + P * (d2 + B * top)) = m * D0 + P * (m * (d2 + B * top)) := by grind
    have e2 : P * ((m + 1) * (d2 + B * top)) = P * (m * (d2 + B * top)) + P * (d2 + B * top) := by grind
    have e3 : P * (B * 1) = B * P := by grind
    omega
/-- the highest word of what is divided isn't above the divisor's -/
theorem guess_top {P D0 V0 d2 l0 l1 l2 top B : Nat} (hD0 : D0 < P) (hd2 : d2 < B) (h : V0 + P * (l2 + B * (l1 + B * l0)) < B * (D0 + P * (d2 + B * top))) : l0 ≤ top := by
  rcases Nat.lt_or_ge top l0 with hlt | hge
  · exfalso
    have h1 : P * (B * (B * (top + 1))) ≤ P * (B * (B * l0)) := Nat.mul_le_mul_left _ (Nat.mul_le_mul_left _ (Nat.mul_le_mul_left _ hlt))
    have e1 : P * (l2 + B * (l1 + B * l0)) = P * l2 + P * (B * l1) + P * (B * (B * l0)) := by grind
    have e2 : B * (D0 + P * (d2 + B * top)) = B * (D0 + P * d2) + P * (B * (B * top)) := by grind
    have h3 : P * (d2 + 1) ≤ P * B := Nat.mul_le_mul_left _ hd2
    have e3 : P * (d2 + 1) = P * d2 + P := by grind
    have h2 : B * (D0 + P * d2) ≤ B * (P * B) := Nat.mul_le_mul_left _ (by omega)
    have e4 : P * (B * (B * (top + 1))) = P * (B * (B * top)) + B * (P * B) := by grind
    omega
  · exact hge
theorem guess_word {q top rest head l0 l1 B : Nat} (hh : q * top + rest = head) (hr : B ≤ rest) (hl0 : l0 ≤ top) (hl1 : l1 < B) (e : head = l1 + B * l0) : q < B := by
  rcases Nat.lt_or_ge q B with hlt | hge
  · exact hlt
  · have h1 : B * l0 ≤ q * top := Nat.mul_le_mul hge hl0
    omega
theorem guess_next {q top rest head : Nat} (hh : q * top + rest = head) (hq : 1 ≤ q) : (q - 1) * top + (rest + top) = head := by
  rw [← hh]
  match q with
  | m + 1 => rw [Nat.add_sub_cancel]; grind
theorem quot_le {Q q D V : Nat} (hQ : Q = V / D) (h : V < q * D) : Q ≤ q - 1 := by
  have h1 : Q < q := by rw [hQ]; exact Nat.div_lt_of_lt_mul (by rw [Nat.mul_comm]; exact h)
  omega
theorem quot_ge {q D V : Nat} (hD : 0 < D) (h : (q - 1) * D ≤ V) : q ≤ V / D + 1 := by
  have := (Nat.le_div_iff_mul_le hD).2 h
  omega
theorem val_three {b k : Nat} {x : List Nat} (h : x.length = k + 3) : val b x = val b (x.take k) + b ^ k * (x[k] + b * (x[k + 1] + b * x[k + 2])) := by
  have h1 := val_take_succ (b := b) (xs := x) (k := k) (by omega)
  have h2 := val_take_succ (b := b) (xs := x) (k := k + 1) (by omega)
  have h3 := val_take_succ (b := b) (xs := x) (k := k + 2) (by omega)
  rw [List.take_of_length_le (by omega)] at h3
  rw [h3, h2, h1, Nat.pow_succ, Nat.pow_succ]
  grind
theorem val_two {b k : Nat} {x : List Nat} (h : x.length = k + 2) : val b x = val b (x.take k) + b ^ k * (x[k] + b * x[k + 1]) := by
  have h1 := val_take_succ (b := b) (xs := x) (k := k) (by omega)
  have h2 := val_take_succ (b := b) (xs := x) (k := k + 1) (by omega)
  rw [List.take_of_length_le (by omega)] at h2
  rw [h2, h1, Nat.pow_succ]
  grind
/-- taking q times d off, word by word -/
theorem times_step {b X Y c x y q v k : Nat} {ys : List Nat} (hk : ys.length = k) (h : val b ys + Y * q = X + b ^ k * c) (hb : 0 < b) (hv : v = c + y * q) (hw : x < b) :
    val b (ys ++ [(b + x - v % b) % b]) + (Y + b ^ k * y) * q = X + b ^ k * x + b ^ (k + 1) * (v / b + (1 - (b + x - v % b) / b)) := by
  rw [val_snoc, hk]
  have h1 : (b + x - v % b) % b + v = x + b * (v / b + (1 - (b + x - v % b) / b)) := by
    have hm := Nat.mod_lt v hb
    have hd := Nat.div_add_mod v b
    rcases Nat.lt_or_ge x (v % b) with hlt | hge
    · have e1 : (b + x - v % b) / b = 0 := Nat.div_eq_of_lt (by omega)
      rw [e1, Nat.mod_eq_of_lt (by omega), Nat.mul_add, Nat.sub_zero, Nat.mul_one]
      omega
    · have e0 : b + x - v % b = (x - v % b) + b := by omega
      have e1 : (b + x - v % b) / b = 1 := by rw [e0, Nat.add_div_right _ hb, Nat.div_eq_of_lt (by omega)]
      have e2 : (b + x - v % b) % b = x - v % b := by rw [e0, Nat.add_mod_right, Nat.mod_eq_of_lt (by omega)]
      rw [e1, e2, Nat.sub_self, Nat.add_zero]
      omega
  have h2 : b ^ k * ((b + x - v % b) % b) + b ^ k * v = b ^ k * x + b ^ (k + 1) * (v / b + (1 - (b + x - v % b) / b)) := by
    rw [← Nat.mul_add, h1, Nat.mul_add, Nat.pow_succ, Nat.mul_assoc]
  have e3 : (Y + b ^ k * y) * q = Y * q + b ^ k * (y * q) := by grind
  have e4 : b ^ k * v = b ^ k * c + b ^ k * (y * q) := by rw [hv, Nat.mul_add]
  rw [e3]
  omega
/-- what is carried stays a word -/
theorem times_carry {c x y q : Nat} (hc : c < 4294967296) (hy : y < 4294967296) (hq : q < 4294967296) :
    (c + y * q) / 4294967296 + (1 - (4294967296 + x - (c + y * q) % 4294967296) / 4294967296) < 4294967296 := by
  have h1 : y * q ≤ 4294967295 * 4294967295 := Nat.mul_le_mul (by omega) (by omega)
  generalize y * q = z at h1
  omega
/-- the words that are left, and how often -/
theorem take_fine {V D q E : Nat} (h : E + D * q = V) (h1 : V / D ≤ q) (hD : 0 < D) : q = V / D ∧ E = V % D := by
  have h2 : q ≤ V / D := by
    rw [Nat.le_div_iff_mul_le hD, Nat.mul_comm]; omega
  have e : q = V / D := by omega
  refine ⟨e, ?_⟩
  have := Nat.div_add_mod V D
  rw [← e] at this
  omega
/-- too much was taken, and is given back once -/
theorem take_back {E C V D q P cc : Nat} (hE : E < P) (hD : D ≤ P) (hC : C < P) (h1 : C + D * q = V + P) (h2 : E + P * cc = C + D) (h3 : (q - 1) * D ≤ V) : 1 ≤ q ∧ V < q * D ∧ E + D * (q - 1) = V := by
  match q with
  | 0 => rw [Nat.mul_zero] at h1; omega
  | m + 1 =>
    rw [Nat.add_sub_cancel] at h3 ⊢
    have e1 : D * (m + 1) = D * m + D := Nat.mul_succ D m
    have e2 : (m + 1) * D = D * m + D := by rw [Nat.mul_comm]; exact e1
    rw [Nat.mul_comm] at h3
    refine ⟨by omega, by omega, ?_⟩
    rcases (show cc = 0 ∨ cc = 1 ∨ 2 ≤ cc by omega) with h | h | h
    · subst h; rw [Nat.mul_zero] at h2; omega
    · subst h; rw [Nat.mul_one] at h2; omega
    · have : P * 2 ≤ P * cc := Nat.mul_le_mul_left _ h
      omega
theorem seg_splice {zs cs : List Nat} {off n : Nat} (hc : cs.length = n) (ho : off ≤ zs.length) : ((splice zs off cs).drop off).take n = cs := by
  simp only [splice]
  rw [List.drop_left' (by rw [List.length_take]; omega), List.take_left' hc]
theorem splice_again {zs cs es : List Nat} {off : Nat} (h : es.length = cs.length) (ho : off ≤ zs.length) : splice (splice zs off cs) off es = splice zs off es := by
  simp only [splice]
  rw [List.take_left' (by rw [List.length_take]; omega), h, ← List.drop_drop, List.drop_left' (by rw [List.length_take]; omega), List.drop_left' rfl]
end Go.Proofs.YtokaapljlpngdaaGreatDoor.Num
/- What the program's own long division answers: divWord, guess. -/

namespace Go.Proofs.YtokaapljlpngdaaGreatDoor
open Go.RowKit Num

theorem div_word_step {V p d q r : Nat} (hd : 0 < d) (hr : V % d = r) (hq : V / d = q) : (p + 4294967296 * V) / d = (p + 4294967296 * r) / d + 4294967296 * q ∧ (p + 4294967296 * V) % d = (p + 4294967296 * r) % d := by
  have h := Nat.div_add_mod V d
  rw [hr, hq] at h
  have e : p + 4294967296 * V = (p + 4294967296 * r) + d * (4294967296 * q) := by rw [← h]; grind
  rw [e, Nat.add_mul_div_left _ _ hd, Nat.add_mul_mod_self_left]
  exact ⟨rfl, rfl⟩

theorem u64_quo (N D : Nat) (hN : N < 18446744073709551616) : IntKind.u64.wrap ((N : Int) / (D : Int)) = ((N / D : Nat) : Int) := by
  have h2 : N / D < 18446744073709551616 := Nat.lt_of_le_of_lt (Nat.div_le_self _ _) hN
  rw [← Int.natCast_ediv]
  generalize N / D = q at h2
  exact IntWalk.u64_in _ (by omega)

set_option maxHeartbeats 800000 in
/-- the words of block g become how often d is in them; what is left is answered -/
theorem nat_divWord (zs tl : List Nat) (g c d : Nat) (t : TypeId) (w : World) (hrow : Row w g t .u32 (zs ++ tl)) (hl : zs.length ≤ 4294967296) (hz : Dg 4294967296 zs) (hd0 : 0 < d) (hd : d < 4294967296) :
    Calls Tryz.prog 93 #[.slice (some ⟨g, 0, none⟩) zs.length c, .int .u32 d] w fun e w' => e = .returned (.int .u32 ((val 4294967296 zs % d : Nat) : Int)) ∧ ∃ cs, cs.length = zs.length ∧ Dg 4294967296 cs ∧ val 4294967296 cs = val 4294967296 zs / d ∧ Row w' g t .u32 (cs ++ tl) ∧ w.grownBy w' (some g) := by
  go_enter Tryz.func93, Tryz.ntmps93
  go_wp2_with fail
  go_loopg [5, 6] zs.length (fun gh c' i wr => ((∃ k : Nat, gh = k + 1 ∧ i = .int .i64 k) ∨ (gh = 0 ∧ i = .int .i64 (-1))) ∧ gh ≤ zs.length ∧ ∃ (b : Nat) (es : List Nat), c' = .int .u64 b ∧ b < d ∧ val 4294967296 (zs.drop gh) % d = b ∧ es.length + gh = zs.length ∧ Dg 4294967296 es ∧ Row wr g t .u32 (zs.take gh ++ (es ++ tl)) ∧ w.grownBy wr (some g) ∧
    val 4294967296 (zs.drop gh) / d = val 4294967296 es)
  case atStart =>
    refine ⟨?_, Nat.le_refl _, 0, [], rfl, hd0, by simp [val], by simp, Dg.nil _, by simpa using hrow, World.grownBy.refl _ _, by simp [val]⟩
    by_cases h0 : zs.length = 0
    · refine .inr ⟨h0, ?_⟩; congr 1; omega
    · refine .inl ⟨zs.length - 1, by omega, ?_⟩; congr 1; omega
  case round =>
    obtain ⟨⟨k, rfl, rfl⟩ | ⟨rfl, rfl⟩, hg, b, es, rfl, hb, hbv, hel, hed, hr, hgr, hv⟩ := hrel
    · have hk : k < zs.length := by omega
      have htl : (zs.take (k + 1)).length = k + 1 := by rw [List.length_take]; omega
      have ca := hr.cell (i := k) (by rw [List.length_append, htl]; omega)
      rw [List.getElem_append_left (by rw [htl]; omega), List.getElem_take] at ca
      have hf := hr.frozen k
      have hp1 := hz.get hk
      have hs1 := val_drop_succ (b := 4294967296) hk
      have hse : ∀ v, (zs.take (k + 1) ++ (es ++ tl)).set k v = zs.take k ++ ((v :: es) ++ tl) := fun v => by
        rw [List.set_append_left _ _ (by rw [htl]; omega), take_succ_get hk, List.set_append_right _ _ (by rw [List.length_take]; omega)]
        simp [Nat.min_eq_left (show k ≤ zs.length by omega)]
      obtain ⟨p, hp⟩ : ∃ p, zs[k] = p := ⟨_, rfl⟩
      rw [hp] at ca hp1 hs1
      have HS1 := Lib.hid hs1
      have HBV := Lib.hid hbv
      have HEL := Lib.hid hel
      have HV := Lib.hid hv
      have HSE := Lib.hid hse
      clear hp hs1 hbv hel hv hse htl
      have hb1 : b < 4294967296 := by omega
      have hor1 := or_words p b hp1 hb1
      have hN64 : p + 4294967296 * b < 18446744073709551616 := by omega
      have hNd : p + 4294967296 * b < d * 4294967296 := by omega
      have hst := fun h1 h2 => div_word_step (V := val 4294967296 (zs.drop (k + 1))) (p := p) (d := d) (q := val 4294967296 es) (r := b) hd0 h1 h2
      obtain ⟨N, hN⟩ : ∃ N, p + 4294967296 * b = N := ⟨_, rfl⟩
      rw [hN] at hor1 hN64 hNd hst
      have hor : bits BinOp.or IntKind.u64 ((b : Int) * 4294967296) (p : Int) = (N : Int) := by rw [← hor1]; congr 1
      have hquo := u64_quo N d hN64
      have hrem := tmod_nat N d
      have hq := Nat.div_lt_of_lt_mul hNd
      have HST := Lib.hid hst
      clear hor1 hst hN
      go_wp2_with fail
      go_roundg k
      case measure => omega
      case rel =>
        obtain ⟨e1, e2⟩ := HST.out HBV.out HV.out
        have e0 : ∀ Q : Nat, Q < 4294967296 → (Q : Int) % 4294967296 = Q := fun Q hQ => by omega
        have e3 : (N : Int) / (d : Int) % 4294967296 = ((N / d : Nat) : Int) := by
          rw [← Int.natCast_ediv, e0 _ hq]
        rw [e3]
        have hr2 := hr.set k (N / d)
        rw [HSE.out] at hr2
        refine ⟨?_, by omega, N % d, N / d :: es, by simp, Nat.mod_lt _ hd0, ?_, by have := HEL.out; simp; omega, Dg.cons.2 ⟨hq, hed⟩, hr2, grown_setCell hgr _ _, ?_⟩
        · by_cases h0 : k = 0
          · subst h0; exact .inr ⟨rfl, by go_num⟩
          · exact .inl ⟨k - 1, by omega, by go_num⟩
        · rw [HS1.out, e2]
        · rw [HS1.out, e1, val_cons]
    · rw [List.drop_zero] at hbv hv
      rw [List.take_zero, List.nil_append] at hr
      have HBV := Lib.hid hbv
      have HV := Lib.hid hv
      have HEL := Lib.hid hel
      have hb1 : b < 4294967296 := by omega
      clear hbv hv hel
      go_wp2
      go_ret
      exact ⟨by rw [HBV.out]; rfl, es, HEL.out, hed, HV.out.symm, hr, hgr⟩

set_option maxHeartbeats 1600000 in
/-- a guess at how often d is in left: as often as it is, or once more -/
theorem nat_guess (x d : List Nat) (k : Nat) (A A' : Option Addr) (c c' : Nat) (S S' : Nat → Prop) (w : World) (h : Rd w S .u32 A x) (h' : Rd w S' .u32 A' d) (hxl : x.length = k + 3) (hdl : d.length = k + 2) (hk : k ≤ 1073741824) (hx : Dg 4294967296 x) (hd : Dg 4294967296 d) (htop : 0 < d[k + 1]) (hlt : val 4294967296 x < 4294967296 * val 4294967296 d) :
    Calls Tryz.prog 146 #[.slice A (k + 3) c, .slice A' (k + 2) c'] w fun e w' => ∃ (q : Nat), e = .returned (.int .u32 q) ∧ q < 4294967296 ∧ val 4294967296 x / val 4294967296 d ≤ q ∧ (q - 1) * val 4294967296 d ≤ val 4294967296 x ∧ ∃ m, w' = w.drewN m := by
  obtain ⟨bx, ox, rfl, _, hcx⟩ := h (by omega)
  obtain ⟨bd, od, rfl, _, hcd⟩ := h' (by omega)
  have c0 := hcx k (by omega)
  have c1 := hcx (k + 1) (by omega)
  have c2 := hcx (k + 2) (by omega)
  have t0 := hcd k (by omega)
  have t1 := hcd (k + 1) (by omega)
  have l0 := hx.get (j := k) (by omega)
  have l1 := hx.get (j := k + 1) (by omega)
  have l2 := hx.get (j := k + 2) (by omega)
  have m0 := hd.get (j := k) (by omega)
  have m1 := hd.get (j := k + 1) (by omega)
  have hvx := val_three (b := 4294967296) hxl
  have hvd := val_two (b := 4294967296) hdl
  have hV0 := val_lt (b := 4294967296) (xs := x.take k) hx.take
  have hD0 := val_lt (b := 4294967296) (xs := d.take k) hd.take
  rw [List.length_take, Nat.min_eq_left (by omega)] at hV0 hD0
  have hPp : 0 < 4294967296 ^ k := Nat.pow_pos (by omega)
  obtain ⟨P, hP⟩ : ∃ P, 4294967296 ^ k = P := ⟨_, rfl⟩
  obtain ⟨V0, hV0e⟩ : ∃ V0, val 4294967296 (x.take k) = V0 := ⟨_, rfl⟩
  obtain ⟨D0, hD0e⟩ : ∃ D0, val 4294967296 (d.take k) = D0 := ⟨_, rfl⟩
  obtain ⟨p0, hp0⟩ : ∃ p, x[k] = p := ⟨_, rfl⟩
  obtain ⟨p1, hp1⟩ : ∃ p, x[k + 1] = p := ⟨_, rfl⟩
  obtain ⟨p2, hp2⟩ : ∃ p, x[k + 2] = p := ⟨_, rfl⟩
  obtain ⟨q0, hq0⟩ : ∃ p, d[k] = p := ⟨_, rfl⟩
  obtain ⟨q1, hq1⟩ : ∃ p, d[k + 1] = p := ⟨_, rfl⟩
  rw [hP] at hvx hvd hV0 hD0 hPp
  rw [hV0e] at hvx hV0
  rw [hD0e] at hvd hD0
  rw [hp0] at hvx c0 l0
  rw [hp1] at hvx c1 l1
  rw [hp2] at hvx c2 l2
  rw [hq0] at hvd t0 m0
  rw [hq1] at hvd t1 m1 htop
  rw [hvx, hvd] at hlt ⊢
  clear hP hV0e hD0e hp0 hp1 hp2 hq0 hq1 hcx hcd hvx hvd hx hd h h' hxl hdl
  have hle := guess_top hD0 m0 hlt
  obtain ⟨head, hhead⟩ : ∃ head, p1 + 4294967296 * p2 = head := ⟨_, rfl⟩
  rw [hhead] at hlt ⊢
  have hh64 : head < 18446744073709551616 := by omega
  have HH := Lib.hid hhead
  have HLT := Lib.hid hlt
  have hor1 := or_words p1 p2 l1 l2
  rw [hhead] at hor1
  clear hhead hlt
  have hor : bits BinOp.or IntKind.u64 ((p2 : Int) * 4294967296) (p1 : Int) = (head : Int) := by rw [← hor1]; congr 1
  have hquo := u64_quo head q1 hh64
  have hQ0 : (V0 + P * (p0 + 4294967296 * head)) / (D0 + P * (q0 + 4294967296 * q1)) ≤ head / q1 := guess_first hV0 l0 htop (Nat.div_mul_le_self _ _)
  have hr0 : head % q1 < 4294967296 := Nat.lt_trans (Nat.mod_lt _ htop) m1
  have hhr : head / q1 * q1 + head % q1 = head := by rw [Nat.mul_comm]; exact Nat.div_add_mod head q1
  have hQ64 : head / q1 < 18446744073709551616 := Nat.lt_of_le_of_lt (Nat.div_le_self _ _) hh64
  obtain ⟨Q, hQ⟩ : ∃ Q, (V0 + P * (p0 + 4294967296 * head)) / (D0 + P * (q0 + 4294967296 * q1)) = Q := ⟨_, rfl⟩
  rw [hQ] at hQ0
  have HQ := Lib.hid hQ
  have HQ0 := Lib.hid hQ0
  have HHR := Lib.hid hhr
  have HQ64 := Lib.hid hQ64
  have HR0 := Lib.hid hr0
  clear hor1 hQ hQ0 hhr hQ64 hr0
  go_enter Tryz.func146, Tryz.ntmps146
  go_wp2_with fail
  go_region
  go_wp2_with fail
  go_region
  go_wp2_with fail
  go_loopg [8, 9] (4294967296 - head % q1) (fun gh q' r' wr => ∃ (q r m : Nat), gh + r = 4294967296 ∧ q' = .int .u64 q ∧ r' = .int .u64 r ∧ wr = w.drewN m ∧ r < 4294967296 ∧ q * q1 + r = head ∧ Q ≤ q ∧ q < 18446744073709551616)
  case atStart => exact ⟨head / q1, head % q1, 2, by have := HR0.out; omega, rfl, rfl, rfl, HR0.out, HHR.out, HQ0.out, HQ64.out⟩
  case round =>
    obtain ⟨q, r, m, hg, rfl, rfl, rfl, hr, hqr, hQq, hq64⟩ := hrel
    have HG := Lib.hid hg
    have HQR := Lib.hid hqr
    have HQQ := Lib.hid hQq
    clear hg hqr hQq
    have hstop : ∀ q' : Nat, q' < 4294967296 → q' * (q0 + 4294967296 * q1) ≤ p0 + 4294967296 * head → Q ≤ q' → ∀ n : Nat, ∃ q, (Ending.returned (Value.int IntKind.u32 (q' : Int))) = Ending.returned (Value.int IntKind.u32 (q : Nat)) ∧ q < 4294967296 ∧ (V0 + P * (p0 + 4294967296 * head)) / (D0 + P * (q0 + 4294967296 * q1)) ≤ q ∧ (q - 1) * (D0 + P * (q0 + 4294967296 * q1)) ≤ V0 + P * (p0 + 4294967296 * head) ∧ ∃ m, w.drewN n = w.drewN m := fun q' h1 h2 h3 n =>
      ⟨q', rfl, h1, by rw [HQ.out]; exact h3, guess_close (by omega) hD0 htop h2, n, rfl⟩
    have HSTOP := Lib.hid hstop
    have hbrk : ∀ q' r', q' * q1 + r' = head → 4294967296 ≤ r' → q' < 4294967296 ∧ q' * (q0 + 4294967296 * q1) ≤ p0 + 4294967296 * head := fun q' r' h1 h2 =>
      have h3 := guess_word h1 h2 hle l1 HH.out.symm
      ⟨h3, guess_break h1 h2 h3 m0⟩
    have HBRK := Lib.hid hbrk
    clear hstop hbrk
    by_cases hq : 4294967295 < q
    · have hd1 : decide ((4294967295 : Int) < (q : Int)) = true := by simp; omega
      have hq1 : 1 ≤ (q : Int) := by omega
      have hQ1 : Q ≤ q - 1 := by
        have hlt2 : V0 + P * (p0 + 4294967296 * head) < (D0 + P * (q0 + 4294967296 * q1)) * 4294967296 := by rw [Nat.mul_comm _ 4294967296]; exact HLT.out
        have := Nat.div_lt_of_lt_mul hlt2
        have := HQ.out
        omega
      have HQ1 := Lib.hid hQ1
      have HN := Lib.hid (guess_next HQR.out (by omega))
      clear hQ1
      by_cases hbr : r + q1 < 4294967296
      · go_wp2_with fail
        go_quiet (fail)
        go_wp2_with fail
        go_roundg (4294967296 - (r + q1))
        case measure => have := HG.out; omega
        case rel => exact ⟨q - 1, r + q1, _, by omega, by congr 1; omega, by go_num, rfl, hbr, HN.out, HQ1.out, by omega⟩
      · go_wp2_with fail
        go_quiet (fail)
        go_wp2_with fail
        go_ret
        obtain ⟨h1, h2⟩ := HBRK.out (q - 1) (r + q1) HN.out (by omega)
        have := HSTOP.out (q - 1) h1 h2 HQ1.out (m + nq)
        rw [show ((q : Int) - 1) % 4294967296 = ((q - 1 : Nat) : Int) by omega]
        exact this
    · have hd1 : decide ((4294967295 : Int) < (q : Int)) = false := by simp; omega
      have hor1 := or_words p0 r l0 hr
      have hqq : q * q0 ≤ 4294967295 * 4294967295 := Nat.mul_le_mul (by omega) (by omega)
      have hqq1 : (q : Int) * (q0 : Int) ≤ 18446744065119617025 := by rw [← Int.natCast_mul]; omega
      have hqq0 : 0 ≤ (q : Int) * (q0 : Int) := by rw [← Int.natCast_mul]; omega
      have hor : bits BinOp.or IntKind.u64 ((r : Int) * 4294967296) (p0 : Int) = (p0 : Int) + 4294967296 * (r : Int) := by
        have e : (p0 : Int) + 4294967296 * (r : Int) = ((p0 + 4294967296 * r : Nat) : Int) := by omega
        rw [e, ← hor1]; congr 1
      clear hor1
      by_cases hc : r * 4294967296 + p0 < q * q0
      · have hcI : (p0 : Int) + 4294967296 * (r : Int) < (q : Int) * (q0 : Int) := by rw [← Int.natCast_mul]; omega
        have hq1 : 1 ≤ (q : Int) := by
          rcases Nat.eq_zero_or_pos q with h0 | h0
          · subst h0; rw [Nat.zero_mul] at hc; omega
          · omega
        have hQ1 : Q ≤ q - 1 := quot_le HQ.out.symm (guess_over hV0 HQR.out hc)
        have HQ1 := Lib.hid hQ1
        have HN := Lib.hid (guess_next HQR.out (by omega))
        clear hQ1 hc hqq
        by_cases hbr : r + q1 < 4294967296
        · go_wp2_with fail
          go_quiet (fail)
          go_wp2_with fail
          go_roundg (4294967296 - (r + q1))
          case measure => have := HG.out; omega
          case rel => exact ⟨q - 1, r + q1, _, by omega, by congr 1; omega, by go_num, rfl, hbr, HN.out, HQ1.out, by omega⟩
        · go_wp2_with fail
          go_quiet (fail)
          go_wp2_with fail
          go_ret
          obtain ⟨h1, h2⟩ := HBRK.out (q - 1) (r + q1) HN.out (by omega)
          have := HSTOP.out (q - 1) h1 h2 HQ1.out (m + nq)
          rw [show (q : Int) - 1 = ((q - 1 : Nat) : Int) by omega]
          exact this
      · have hcI : (q : Int) * (q0 : Int) ≤ (p0 : Int) + 4294967296 * (r : Int) := by rw [← Int.natCast_mul]; omega
        have HC := Lib.hid (guess_fits (l2 := p0) HQR.out (Nat.le_of_not_lt hc))
        clear hc hqq
        go_wp2_with fail
        go_quiet (fail)
        go_wp2_with fail
        go_ret
        exact HSTOP.out q (by omega) HC.out HQQ.out _
end Go.Proofs.YtokaapljlpngdaaGreatDoor
/- What the program's own long division answers: takeTimes, takeAll. -/

namespace Go.Proofs.YtokaapljlpngdaaGreatDoor
open Go.RowKit Num

theorem dg_splice {b off : Nat} {zs cs : List Nat} (hz : Dg b zs) (hc : Dg b cs) : Dg b (splice zs off cs) := by
  simp only [splice]
  exact Dg.append.2 ⟨hz.take, Dg.append.2 ⟨hc, hz.drop⟩⟩

set_option maxHeartbeats 1600000 in
/-- taking b q times off the words of block g from off on, one more than b's; true: that was too much -/
theorem nat_takeTimes (zs b : List Nat) (g off n c q : Nat) (A : Option Addr) (cb : Nat) (t : TypeId) (w : World) (hrow : Row w g t .u32 zs) (hb : Rd w (fun x => x ≠ g) .u32 A b) (hbn : b.length = n) (hn : off + (n + 1) ≤ zs.length) (hl : n ≤ 2147483648) (hz : Dg 4294967296 zs) (hbd : Dg 4294967296 b) (hq : q < 4294967296) :
    Calls Tryz.prog 147 #[.slice (some ⟨g, off, none⟩) (n + 1) c, .slice A n cb, .int .u32 q] w fun e w' => ∃ (cs : List Nat) (cy : Nat), e = .returned (.bool (decide (0 < cy))) ∧ cy ≤ 1 ∧ cs.length = n + 1 ∧ Dg 4294967296 cs ∧ val 4294967296 cs + val 4294967296 b * q = val 4294967296 ((zs.drop off).take (n + 1)) + 4294967296 ^ (n + 1) * cy ∧ Row w' g t .u32 (splice zs off cs) ∧ w.grownBy w' (some g) := by
  have hbl := hb.below_size
  have HBN := Lib.hid hbn
  clear hbn hb
  go_enter Tryz.func147, Tryz.ntmps147
  go_wp2_with fail
  go_loopg [7, 8, 9, 10, 11, 15] n (fun gh c' _ _ _ _ i wr => ∃ (k cy : Nat) (cs : List Nat), gh + k = n ∧ i = .int .i64 k ∧ c' = .int .u64 cy ∧ cy < 4294967296 ∧ cs.length = k ∧ Dg 4294967296 cs ∧ Row wr g t .u32 (splice zs off cs) ∧ w.grownBy wr (some g) ∧
    val 4294967296 cs + val 4294967296 (b.take k) * q = val 4294967296 ((zs.drop off).take k) + 4294967296 ^ k * cy)
  case atStart => exact ⟨0, 0, [], by omega, rfl, rfl, by omega, rfl, Dg.nil _, by rw [splice_nil]; exact hrow, World.grownBy.refl _ _, by simp [val]⟩
  case round =>
    obtain ⟨k, cy, cs, hg, rfl, rfl, hcy, rfl, hcd, hr, hgr, hv⟩ := hrel
    have HG := Lib.hid hg
    have HV := Lib.hid hv
    clear hg hv
    have hlen : (splice zs off cs).length = zs.length := length_splice' (by have := HG.out; omega)
    have HL := Lib.hid hlen
    clear hlen
    have ca := hr.cell (i := off + cs.length) (by have := HG.out; rw [HL.out]; omega)
    rw [get_splice_ge (by have := HG.out; omega) (Nat.le_refl _)] at ca
    have hf := hr.frozen (off + cs.length)
    have hp1 := hz.get (j := off + cs.length) (by have := HG.out; omega)
    have hs1 := take_drop_succ (zs := zs) (off := off) (k := cs.length) (by have := HG.out; omega) 4294967296
    obtain ⟨p, hp⟩ : ∃ p, zs[off + cs.length]'(by have := HG.out; omega) = p := ⟨_, rfl⟩
    rw [hp] at ca hp1 hs1
    have HS1 := Lib.hid hs1
    clear hp hs1
    by_cases hlt : cs.length < n
    · have hR := hbl.grown hgr (fun x hx => ⟨hx.2, fun e => hx.1 (by injection e)⟩)
      have hlb : cs.length < b.length := by have := HBN.out; omega
      obtain ⟨bb, ob, rfl, _, cb0⟩ := hR.at_ hlb
      have hq1 := hbd.get hlb
      have hs2 := val_take_succ (b := 4294967296) hlb
      obtain ⟨y, hy⟩ : ∃ y, b[cs.length] = y := ⟨_, rfl⟩
      rw [hy] at cb0 hq1 hs2
      have HS2 := Lib.hid hs2
      clear hy hs2 hlb
      have hxq : y * q ≤ 4294967295 * 4294967295 := Nat.mul_le_mul (by omega) (by omega)
      have hxq1 : (y : Int) * (q : Int) ≤ 18446744065119617025 := by rw [← Int.natCast_mul]; omega
      have hxq0 : 0 ≤ (y : Int) * (q : Int) := by rw [← Int.natCast_mul]; omega
      have hcar := times_carry (x := p) hcy hq1 hq
      have hst := fun v hv => times_step (v := v) (x := p) (y := y) rfl HV.out (by omega) hv hp1
      obtain ⟨v, hvv⟩ : ∃ v, cy + y * q = v := ⟨_, rfl⟩
      have hvI : (cy : Int) + (y : Int) * (q : Int) = (v : Int) := by rw [← Int.natCast_mul]; omega
      rw [hvv] at hcar
      have hst2 := hst v hvv.symm
      have cS := sub32 p (v % 4294967296) 0 wr hp1 (Nat.mod_lt _ (by omega)) (by omega)
      rw [Nat.sub_zero] at cS
      have hlo1 : (4294967296 + p - v % 4294967296) % 4294967296 < 4294967296 := Nat.mod_lt _ (by omega)
      have hbo1 : 1 - (4294967296 + p - v % 4294967296) / 4294967296 ≤ 1 := by omega
      obtain ⟨lo, hlo⟩ : ∃ lo, (4294967296 + p - v % 4294967296) % 4294967296 = lo := ⟨_, rfl⟩
      obtain ⟨bo, hbo⟩ : ∃ bo, 1 - (4294967296 + p - v % 4294967296) / 4294967296 = bo := ⟨_, rfl⟩
      rw [hlo] at cS hst2 hlo1
      rw [hbo] at cS hst2 hbo1 hcar
      have hv64 : v < 18446744073709551616 := by omega
      have HST := Lib.hid hst2
      clear hlo hbo hst hst2 hvv hxq
      have cS' : Calls Tryz.prog 149 #[.int .u32 p, .int .u32 ((v : Int) % 4294967296), .int .u32 0] wr fun e w' => e = .returned (.tuple #[.int .u32 (lo : Int), .int .u32 (bo : Int)]) ∧ wr = w' := cS
      clear cS
      go_wp2_with (go_at_call 149; refine cS'.mono ?_; rintro e w' ⟨rfl, rfl⟩)
      go_roundg (gk - 1)
      case measure => have := HG.out; omega
      case rel =>
        have hr2 := hr.set (off + cs.length) lo
        rw [splice_snoc (by omega)] at hr2
        refine ⟨cs.length + 1, v / 4294967296 + bo, cs ++ [lo], by have := HG.out; omega, by go_num, by go_num, hcar, by simp, hcd.snoc hlo1, hr2, grown_setCell hgr _ _, ?_⟩
        rw [HS1.out, HS2.out]
        exact HST.out
    · have hk : cs.length = n := by have := HG.out; omega
      have HK := Lib.hid hk
      have hnn := HK.out
      clear hlt
      subst hnn
      have hst := times_step (v := cy) (x := p) (y := 0) (q := q) rfl HV.out (by omega) (by omega) hp1
      rw [Nat.mod_eq_of_lt hcy, Nat.div_eq_of_lt hcy, Nat.zero_add, Nat.mul_zero, Nat.add_zero, ← HS1.out, List.take_of_length_le (by have := HBN.out; omega)] at hst
      have HST := Lib.hid hst
      clear hst
      go_wp2
      go_ret
      have hr2 := hr.set (off + cs.length) ((4294967296 + p - cy) % 4294967296)
      rw [splice_snoc (by omega)] at hr2
      rw [show ((p : Int) - (cy : Int)) % 4294967296 = (((4294967296 + p - cy) % 4294967296 : Nat) : Int) by omega]
      refine ⟨cs ++ [(4294967296 + p - cy) % 4294967296], 1 - (4294967296 + p - cy) / 4294967296, ?_, by omega, by simp, hcd.snoc (Nat.mod_lt _ (by omega)), HST.out, hr2, grown_setCell hgr _ _⟩
      have e : decide (0 < 1 - (4294967296 + p - cy) / 4294967296) = decide (p < cy) := by
        by_cases h : p < cy
        · rw [decide_eq_true h, decide_eq_true (by omega)]
        · rw [decide_eq_false h, decide_eq_false (by omega)]
      rw [e]
      rfl

set_option maxHeartbeats 1600000 in
/-- taking d off the words of block g from off on as often as it is in them: how often that is; what is left stays there -/
theorem nat_takeAll (zs d : List Nat) (g off k c : Nat) (A : Option Addr) (cb : Nat) (t : TypeId) (w : World) (hrow : Row w g t .u32 zs) (hb : Rd w (fun x => x ≠ g) .u32 A d) (hdl : d.length = k + 2) (hn : off + (k + 3) ≤ zs.length) (hl : k ≤ 1073741824) (hz : Dg 4294967296 zs) (hbd : Dg 4294967296 d) (htop : 0 < d[k + 1]) (hlt : val 4294967296 ((zs.drop off).take (k + 3)) < 4294967296 * val 4294967296 d) :
    Calls Tryz.prog 135 #[.slice (some ⟨g, off, none⟩) (k + 3) c, .slice A (k + 2) cb] w fun e w' => ∃ cs, e = .returned (.int .u32 ((val 4294967296 ((zs.drop off).take (k + 3)) / val 4294967296 d : Nat) : Int)) ∧ val 4294967296 ((zs.drop off).take (k + 3)) / val 4294967296 d < 4294967296 ∧ cs.length = k + 3 ∧ Dg 4294967296 cs ∧ val 4294967296 cs = val 4294967296 ((zs.drop off).take (k + 3)) % val 4294967296 d ∧ Row w' g t .u32 (splice zs off cs) ∧ w.grownBy w' (some g) := by
  have hxl : ((zs.drop off).take (k + 3)).length = k + 3 := by rw [List.length_take, List.length_drop]; omega
  have hdp : 0 < val 4294967296 d := by
    rcases Nat.eq_zero_or_pos (val 4294967296 d) with h0 | h0
    · rw [h0] at hlt; omega
    · exact h0
  have cg := nat_guess ((zs.drop off).take (k + 3)) d k (some ⟨g, off, none⟩) A c cb (fun _ => True) _ w (hrow.rd trivial hn) hb hxl hdl hl hz.drop.take hbd htop hlt
  have hdlt := val_lt (b := 4294967296) hbd
  rw [hdl] at hdlt
  clear hxl hlt htop
  go_enter Tryz.func135, Tryz.ntmps135
  go_wp2_with fail
  refine cg.mono ?_
  rintro e w1 ⟨q, rfl, hq, hq1, hq2, m, rfl⟩
  have ct := nat_takeTimes zs d g off (k + 2) c q A cb t (w.drewN m) hrow (hb.drewN m) hdl hn (by omega) hz hbd hq
  rw [show k + 2 + 1 = k + 3 from rfl] at ct
  have HQ1 := Lib.hid hq1
  have HQ2 := Lib.hid hq2
  have HDL := Lib.hid hdl
  have HDLT := Lib.hid hdlt
  clear hq1 hq2 hdl hdlt cg
  go_wp2_with fail
  refine ct.mono ?_
  rintro e w2 ⟨cs, cy, rfl, hcy, hcl, hcd, hcv, hrow2, hgr2⟩
  have HCL := Lib.hid hcl
  have HCV := Lib.hid hcv
  clear hcl hcv ct
  by_cases h0 : cy = 0
  · subst h0
    go_wp2_with fail
    go_ret
    rw [Nat.mul_zero, Nat.add_zero] at HCV
    obtain ⟨h1, h2⟩ := take_fine HCV.out HQ1.out hdp
    exact ⟨cs, by rw [← h1]; rfl, by rw [← h1]; exact hq, HCL.out, hcd, h2, hrow2, grown_trans (grown_drewN (World.grownBy.refl _ _) m) hgr2⟩
  · have h1 : cy = 1 := by omega
    subst h1
    rw [Nat.mul_one] at HCV
    have hrd : Rd w2 (fun x => x ≠ g) .u32 A d := by
      have := hb.below_size
      exact ((this.drewN m).grown hgr2 (fun x hx => ⟨hx.2, fun e => hx.1 (by injection e)⟩)).imp (fun x hx => hx.1)
    have hsl : (splice zs off cs).length = zs.length := length_splice' (by rw [HCL.out]; exact hn)
    have hsd : Dg 4294967296 (splice zs off cs) := dg_splice hz hcd
    have ca := nat_addIn (splice zs off cs) d g off (k + 3) c A cb t w2 hrow2 hrd (by rw [hsl]; exact hn) (by rw [HDL.out]; omega) (by omega) hsd hbd
    rw [seg_splice HCL.out (by omega), HDL.out] at ca
    clear hsl hsd
    go_wp2_with fail
    refine ca.mono ?_
    rintro e w3 ⟨rfl, es, cc, hel, hed, hev, hrow3, hgr3⟩
    have h5 := val_lt (b := 4294967296) hed
    have h6 := val_lt (b := 4294967296) hcd
    rw [hel] at h5
    rw [HCL.out] at h6
    have h7 : val 4294967296 d ≤ 4294967296 ^ (k + 3) := Nat.le_trans (Nat.le_of_lt HDLT.out) (Nat.pow_le_pow_right (by omega) (by omega))
    obtain ⟨h8, h9, h10⟩ := take_back h5 h7 h6 HCV.out hev HQ2.out
    obtain ⟨h11, h12⟩ := take_fine h10 (quot_le rfl h9) hdp
    rw [splice_again (by rw [hel, HCL.out]) (by omega)] at hrow3
    have H11 := Lib.hid h11
    have H12 := Lib.hid h12
    have HEL := Lib.hid hel
    clear h5 h6 h7 h9 h10 h11 h12 hel hev ca
    go_wp2_with fail
    go_ret
    rw [← H11.out]
    refine ⟨es, ?_, by omega, HEL.out, hed, H12.out, hrow3, grown_trans (grown_trans (grown_drewN (World.grownBy.refl _ _) m) hgr2) hgr3⟩
    rw [show ((q - 1 : Nat) : Int) = (q : Int) - 1 by omega]
    rfl
end Go.Proofs.YtokaapljlpngdaaGreatDoor
/- What the program's own long division answers: divWords. -/

namespace Go.Proofs.YtokaapljlpngdaaGreatDoor
open Go.RowKit Num

/-- moving up by as many bits as are free at the top loses none -/
theorem lead_zeros {x : Nat} (h0 : 0 < x) (hx : x < 4294967296) : ∃ s : Nat, s < 32 ∧ (32 - (Lib.bitLen x : Int)) = (s : Int) ∧ (x + 1) * 2 ^ s ≤ 4294967296 := by
  have hb := isBits_bitLen x (by omega)
  obtain ⟨z, hz⟩ : ∃ z, Lib.bitLen x = z := ⟨_, rfl⟩
  rw [hz] at hb ⊢
  have hz1 : 1 ≤ z := by
    rcases Nat.eq_zero_or_pos z with h | h
    · subst h; have := hb.1; simp at this; omega
    · exact h
  have hz32 : z ≤ 32 := by
    rcases hb.2 with h1 | h1
    · omega
    · have h2 := Nat.lt_of_le_of_lt h1 (show x < 2 ^ 32 by omega)
      have := (Nat.pow_lt_pow_iff_right (show 1 < 2 by omega)).1 h2
      omega
  refine ⟨32 - z, by omega, by omega, ?_⟩
  have h1 : (x + 1) * 2 ^ (32 - z) ≤ 2 ^ z * 2 ^ (32 - z) := Nat.mul_le_mul_right _ hb.1
  rw [← Nat.pow_add, show z + (32 - z) = 32 by omega] at h1
  exact h1
theorem val_le_top {k : Nat} {b : List Nat} (hb : Dg 4294967296 b) (hl : b.length = k + 2) : 4294967296 ^ (k + 1) * b[k + 1] ≤ val 4294967296 b ∧ val 4294967296 b < 4294967296 ^ (k + 1) * (b[k + 1] + 1) := by
  have h1 := val_take_succ (b := 4294967296) (xs := b) (k := k + 1) (by omega)
  rw [List.take_of_length_le (by omega)] at h1
  have h2 := val_lt (b := 4294967296) (xs := b.take (k + 1)) hb.take
  rw [List.length_take, Nat.min_eq_left (by omega)] at h2
  rw [h1, Nat.mul_add, Nat.mul_one]
  omega

/-- a number below b^n has nothing behind its n lowest words -/
theorem low_words {B D n p : Nat} {rs : List Nat} (h : Dg B (p :: rs)) (hr : val B rs < D) (hD : D * B ≤ B ^ n) : val B ((p :: rs).take n) = p + B * val B rs ∧ val B ((p :: rs).drop n) = 0 := by
  have hp := (Dg.cons.1 h).1
  have e0 : val B (p :: rs) = p + B * val B rs := rfl
  have h2 : p + B * val B rs < B ^ n := by
    have : B * (val B rs + 1) ≤ B * D := Nat.mul_le_mul_left _ hr
    rw [Nat.mul_add, Nat.mul_one, Nat.mul_comm B D] at this
    omega
  rcases Nat.le_total n (p :: rs).length with hn | hn
  · have h1 := val_split (b := B) (k := n) (xs := p :: rs) hn
    have h3 : val B ((p :: rs).drop n) = 0 := by
      rcases Nat.eq_zero_or_pos (val B ((p :: rs).drop n)) with h0 | h0
      · exact h0
      · have : B ^ n * 1 ≤ B ^ n * val B ((p :: rs).drop n) := Nat.mul_le_mul_left _ h0
        omega
    rw [h3, Nat.mul_zero, Nat.add_zero] at h1
    exact ⟨by rw [← h1]; rfl, h3⟩
  · rw [List.take_of_length_le hn, List.drop_of_length_le hn]
    exact ⟨rfl, rfl⟩
theorem set_zero {i v : Nat} {qs : List Nat} : (List.replicate (i + 1) 0 ++ qs).set i v = List.replicate i 0 ++ (v :: qs) := by
  rw [List.replicate_succ', List.append_assoc, List.set_append_right _ _ (by simp)]
  simp
theorem splice_tail {Z Y cs : List Nat} {i : Nat} (h : Z.length = i) : splice (Z ++ Y) i cs = Z ++ (cs ++ Y.drop cs.length) := by
  simp only [splice]
  rw [List.take_left' h, ← List.drop_drop, List.drop_left' h]
theorem low_lt {B p V D : Nat} (hp : p < B) (h : V < D) : p + B * V < B * D := by
  have : B * (V + 1) ≤ B * D := Nat.mul_le_mul_left _ h
  rw [Nat.mul_add, Nat.mul_one] at this
  omega

set_option maxHeartbeats 3200000 in
/-- a divided by b, of two words or more and not above a -/
theorem nat_divWords (a b : List Nat) (k : Nat) (A A' : Option Addr) (ca cb : Nat) (S S' : Nat → Prop) (w : World) (h : Rd w S .u32 A a) (h' : Rd w S' .u32 A' b) (hS : ∀ g, S g → g < w.heap.size) (hS' : ∀ g, S' g → g < w.heap.size) (hl : a.length ≤ 1073741824) (hbl : b.length = k + 2) (hle : b.length ≤ a.length) (ha : Dg 4294967296 a) (hb : Norm 4294967296 b) :
    Calls Tryz.prog 120 #[.slice A a.length ca, .slice A' b.length cb] w fun e w' => ∃ A1 q c1 A2 r c2, e = .returned (.tuple #[.slice A1 q.length c1, .slice A2 r.length c2]) ∧ q.length ≤ c1 ∧ r.length ≤ c2 ∧ Norm 4294967296 q ∧ Norm 4294967296 r ∧ val 4294967296 q = val 4294967296 a / val 4294967296 b ∧ val 4294967296 r = val 4294967296 a % val 4294967296 b ∧
      Rd w' (fun g => g < w'.heap.size) .u32 A1 q ∧ Rd w' (fun g => g < w'.heap.size) .u32 A2 r ∧ Below w.heap.size w w' := by
  obtain ⟨hbd, hbt⟩ := hb
  obtain ⟨b0, o0, rfl, _, hcb⟩ := h' (by omega)
  have cx := hcb (k + 1) (by omega)
  have hx1 := hbd.get (j := k + 1) (by omega)
  have hx0 : 0 < b[k + 1] := by
    unfold Top at hbt
    rw [List.getLast?_eq_getElem?, hbl, show k + 2 - 1 = k + 1 from rfl, List.getElem?_eq_getElem (by omega)] at hbt
    have : b[k + 1] ≠ 0 := fun e => hbt (by rw [e])
    omega
  obtain ⟨hbv1, hbv2⟩ := val_le_top hbd hbl
  obtain ⟨x, hx⟩ : ∃ x, b[k + 1] = x := ⟨_, rfl⟩
  rw [hx] at cx hx1 hx0 hbv1 hbv2
  obtain ⟨s, hs, hsI, hs2⟩ := lead_zeros hx0 hx1
  have clz := Tryz.bits_LeadingZeros32 (x : Int) w (by omega) (by omega)
  rw [Int.toNat_natCast, hsI] at clz
  have clz' := clz.mono (R' := fun e w' => e = .returned (.int .i64 (s : Int)) ∧ w = w') fun _ _ hh => ⟨hh.1, hh.2.symm⟩
  clear hx hcb hsI
  rw [hbl]
  have hmk : ∀ u : World, (Instr.makeSlice 25 (.int .i64 ((a.length : Int) + 1)) (.int .i64 ((a.length : Int) + 1))).run Tryz.prog u =
    .ok (.slice (some ⟨u.heap.size, 0, none⟩) (a.length + 1) (a.length + 1)) (u.alloc (.cells (cells .u32 (List.replicate (a.length + 1) 0)).toArray 66)) := fun u => make_words1 a.length (by omega) u
  have hra : Rd (w.alloc (.cells (cells .u32 (List.replicate (a.length + 1) 0)).toArray 66)) S .u32 A a := h.keep fun p hp => World.cell?_alloc_lt w _ p (hS _ hp)
  have hmin : a.length = Nat.min a.length (a.length + 1) := by show _ = min _ _; omega
  have HMIN := Lib.hid hmin
  have HBL := Lib.hid hbl
  rw [hbl] at hle
  clear hmin hbl
  go_enter Tryz.func120, Tryz.ntmps120
  go_wp2_with (first
    | (go_at_call 130; refine clz'.mono ?_; rintro e w' ⟨rfl, rfl⟩)
    | (with_reducible refine wpList_copy_digits rfl _ _ 25 rfl 66 .u32 Tryz.underlying25 size_u32 _ _ _ _ _ _ rfl rfl w.heap.size 0 (List.replicate (a.length + 1) 0) (Row.new w _ _ _) a HMIN.out (fun _ => rfl) S hra (by rw [List.length_replicate]; omega) ?_; intro w2 hrow2 hgr2))
  rw [splice_zero] at hrow2
  have hal : (a ++ (List.replicate (a.length + 1) 0).drop a.length) = a ++ [0] := by rw [List.drop_replicate, Nat.add_sub_cancel_left]; rfl
  rw [hal] at hrow2
  have hzl : (a ++ [0]).length = a.length + 1 := by simp
  have hseg : (((a ++ [0]).drop 0).take (a.length + 1)) = a ++ [0] := by rw [List.drop_zero, List.take_of_length_le (by omega)]
  have cm := nat_moveUp (a ++ [0]) w.heap.size 0 (a.length + 1) (a.length + 1) s _ w2 hrow2 (by omega) (by omega) (ha.snoc (by omega)) hs
  rw [hseg] at cm
  clear hzl hseg hra hmk hal clz clz'
  go_wp2_with fail
  refine cm.mono ?_
  rintro e w3 ⟨rfl, xs, cy, hxl, hxd, hxv, hrow3, hgr3⟩
  rw [splice_full (by simp; omega)] at hrow3
  have hpow : val 4294967296 a * 2 ^ s < 4294967296 ^ (a.length + 1) := by
    rw [Nat.pow_succ]
    refine Nat.mul_lt_mul'' (val_lt ha) ?_
    exact Nat.lt_of_lt_of_le (Nat.pow_lt_pow_right (by omega) hs) (Nat.le_refl _)
  rw [val_snoc, Nat.mul_zero] at hxv
  simp only [Nat.add_zero] at hxv
  have hcy := over_zero hpow hxv
  rw [hcy, Nat.mul_zero, Nat.add_zero] at hxv
  have HXL := Lib.hid hxl
  have HXV := Lib.hid hxv
  have hb3 : Below w.heap.size w w3 := below_alloc_grown (Nat.le_refl _) (grown_trans hgr2 hgr3) (Nat.le_refl _)
  have hs3 := hrow3.lt
  clear hpow hcy hxl hxv cm hrow2 hgr2 hgr3
  have hmk : ∀ u : World, (Instr.makeSlice 25 (.int .i64 ((k : Int) + 2)) (.int .i64 ((k : Int) + 2))).run Tryz.prog u =
    .ok (.slice (some ⟨u.heap.size, 0, none⟩) (k + 2) (k + 2)) (u.alloc (.cells (cells .u32 (List.replicate (k + 2) 0)).toArray 66)) := fun u => make_words (k + 2) (by omega) u
  have hrb : Rd (w3.alloc (.cells (cells .u32 (List.replicate (k + 2) 0)).toArray 66)) S' .u32 (some ⟨b0, o0, none⟩) b := (h'.below hb3 hS').keep fun p hp => World.cell?_alloc_lt w3 _ p (by have := hS' _ hp; have := hb3.size; omega)
  have hmin2 : b.length = Nat.min (k + 2) (k + 2) := by rw [HBL.out]; show _ = min _ _; omega
  have HMIN2 := Lib.hid hmin2
  clear hmin2
  go_wp2_with (with_reducible refine wpList_copy_digits rfl _ _ 25 rfl 66 .u32 Tryz.underlying25 size_u32 _ _ _ _ _ _ rfl rfl w3.heap.size 0 (List.replicate (k + 2) 0) (Row.new w3 _ _ _) b HMIN2.out (fun _ => rfl) S' hrb (by rw [List.length_replicate, HBL.out]; omega) ?_; intro w4 hrow4 hgr4)
  rw [splice_full (by rw [List.length_replicate, HBL.out])] at hrow4
  have hseg : ((b.drop 0).take (k + 2)) = b := by rw [List.drop_zero, List.take_of_length_le (by rw [HBL.out]; omega)]
  have cm := nat_moveUp b w3.heap.size 0 (k + 2) (k + 2) s _ w4 hrow4 (by rw [HBL.out]; omega) (by omega) hbd hs
  rw [hseg] at cm
  clear hseg hrb hmk
  go_wp2_with fail
  refine cm.mono ?_
  rintro e w5 ⟨rfl, ds, cy, hdl, hdd, hdv, hrow5, hgr5⟩
  rw [splice_full (by rw [HBL.out]; exact hdl)] at hrow5
  have hpow : val 4294967296 b * 2 ^ s < 4294967296 ^ (k + 2) := by
    have h1 : val 4294967296 b * 2 ^ s < 4294967296 ^ (k + 1) * (x + 1) * 2 ^ s := (Nat.mul_lt_mul_right (Nat.pow_pos (by omega))).2 hbv2
    have h2 : 4294967296 ^ (k + 1) * ((x + 1) * 2 ^ s) ≤ 4294967296 ^ (k + 1) * 4294967296 := Nat.mul_le_mul_left _ hs2
    rw [Nat.mul_assoc] at h1
    exact Nat.lt_of_lt_of_le h1 h2
  have hcy := over_zero hpow hdv
  rw [hcy, Nat.mul_zero, Nat.add_zero] at hdv
  have hlow : 4294967296 ^ (k + 1) * 2 ^ s ≤ val 4294967296 ds := by
    rw [hdv]
    refine Nat.mul_le_mul_right _ (Nat.le_trans ?_ hbv1)
    exact Nat.le_mul_of_pos_right _ hx0
  have hdtop : 0 < ds[k + 1] := by
    rcases Nat.eq_zero_or_pos ds[k + 1] with h0 | h0
    · exfalso
      have h1 := (val_le_top hdd hdl).2
      rw [h0, Nat.zero_add, Nat.mul_one] at h1
      have h2 : 4294967296 ^ (k + 1) * 1 ≤ 4294967296 ^ (k + 1) * 2 ^ s := Nat.mul_le_mul_left _ (Nat.pow_pos (by omega))
      omega
    · exact h0
  have hdlt := val_lt (b := 4294967296) hdd
  rw [hdl] at hdlt
  have hgr35 := grown_trans hgr4 hgr5
  have hrow3' : Row w5 w.heap.size 66 .u32 xs := (hrow3.alloc _).grown hgr35 (fun e => by injection e; omega)
  have hb5 : Below w.heap.size w w5 := hb3.trans (below_alloc_grown hb3.size hgr35 hb3.size)
  have hs5 := hrow5.lt
  obtain ⟨D, hDe⟩ : ∃ D, val 4294967296 ds = D := ⟨_, rfl⟩
  rw [hDe] at hdv hlow hdlt
  obtain ⟨t, ht⟩ : ∃ t, a.length = t + k + 1 := ⟨a.length - k - 1, by omega⟩
  have ht1 : 1 ≤ t := by omega
  have htk : t + k + 1 ≤ a.length := by omega
  have hts : (a.length : Int) - ((k : Int) + 2) + 1 = (t : Int) := by omega
  have hmk : ∀ u : World, (Instr.makeSlice 25 (.int .i64 ((a.length : Int) - ((k : Int) + 2) + 1)) (.int .i64 ((a.length : Int) - ((k : Int) + 2) + 1))).run Tryz.prog u =
    .ok (.slice (some ⟨u.heap.size, 0, none⟩) t t) (u.alloc (.cells (cells .u32 (List.replicate t 0)).toArray 66)) := fun u => by rw [hts]; exact make_words t (by omega) u
  have htop' : ∃ h : k + 1 < ds.length, 0 < ds[k + 1]'h := ⟨by omega, hdtop⟩
  have HTOP := Lib.hid htop'
  clear htop' hdtop
  have HDE := Lib.hid hDe
  have HDV := Lib.hid hdv
  have HDL := Lib.hid hdl
  have HT := Lib.hid ht
  clear hDe hdv hdl hcy hpow cm hts hrow4 hgr4 hgr5 hgr35 hrow3 ht
  go_wp2_with fail
  obtain ⟨w6, hw6⟩ : ∃ w6, w5.alloc (.cells (cells .u32 (List.replicate t 0)).toArray 66) = w6 := ⟨_, rfl⟩
  have hs6 : w6.heap.size = w5.heap.size + 1 := by rw [← hw6]; simp
  have hb6 : Below w.heap.size w w6 := by rw [← hw6]; exact hb5.alloc hb5.size _
  have hr6x : Row w6 w.heap.size 66 .u32 xs := by rw [← hw6]; exact hrow3'.alloc _
  have hr6d : Row w6 w3.heap.size 66 .u32 ds := by rw [← hw6]; exact hrow5.alloc _
  have hr6o : Row w6 w5.heap.size 66 .u32 (List.replicate t 0) := by rw [← hw6]; exact Row.new w5 _ _ _
  have HS6 := Lib.hid hs6
  rw [hw6]
  clear hw6 hb5 hrow3' hrow5 hs6 hmk
  have hstart : val 4294967296 (xs.drop t) < D := by
    have h1 := val_split (b := 4294967296) (k := t) (xs := xs) (by rw [HXL.out, HT.out]; omega)
    have h2 := val_lt (b := 4294967296) ha
    rw [HXV.out] at h1
    have h3 : val 4294967296 a * 2 ^ s < 4294967296 ^ a.length * 2 ^ s := (Nat.mul_lt_mul_right (Nat.pow_pos (by omega))).2 h2
    rw [h1, HT.out, Nat.add_assoc, Nat.pow_add, Nat.mul_assoc] at h3
    have h4 : 4294967296 ^ t * val 4294967296 (xs.drop t) < 4294967296 ^ t * (4294967296 ^ (k + 1) * 2 ^ s) := Nat.lt_of_le_of_lt (Nat.le_add_left _ _) h3
    exact Nat.lt_of_lt_of_le (Nat.lt_of_mul_lt_mul_left h4) hlow
  have hDp : 0 < D := by omega
  have HST := Lib.hid hstart
  clear hstart hlow
  go_loopg [10] t (fun gh i wr => ((∃ k : Nat, gh = k + 1 ∧ i = .int .i64 k) ∨ (gh = 0 ∧ i = .int .i64 (-1))) ∧ gh ≤ t ∧ ∃ (rs qs : List Nat), rs.length + gh = a.length + 1 ∧ qs.length + gh = t ∧ Dg 4294967296 rs ∧ Dg 4294967296 qs ∧ Row wr w.heap.size 66 .u32 (xs.take gh ++ rs) ∧ Row wr w3.heap.size 66 .u32 ds ∧ Row wr w5.heap.size 66 .u32 (List.replicate gh 0 ++ qs) ∧ Below w.heap.size w wr ∧
    val 4294967296 rs = val 4294967296 (xs.drop gh) % D ∧ val 4294967296 qs = val 4294967296 (xs.drop gh) / D)
  case atStart =>
    refine ⟨?_, Nat.le_refl _, xs.drop t, [], by rw [List.length_drop, HXL.out]; omega, by simp, hxd.drop, Dg.nil _, by rw [List.take_append_drop]; exact hr6x, hr6d, by rw [List.append_nil]; exact hr6o, hb6, (Nat.mod_eq_of_lt HST.out).symm, by rw [Nat.div_eq_of_lt HST.out]; rfl⟩
    refine .inl ⟨t - 1, by omega, ?_⟩; congr 1; omega
  case round =>
    clear hr6x hr6d hr6o hb6
    obtain ⟨⟨i, rfl, rfl⟩ | ⟨rfl, rfl⟩, hg, rs, qs, hrl, hql, hrd, hqd, hrx, hrD, hrq, hbel, hrv, hqv⟩ := hrel
    · have hix : i < xs.length := by have := HXL.out; omega
      have hxtl : (xs.take i).length = i := by rw [List.length_take]; omega
      have hp1 := hxd.get hix
      have hs1 := val_drop_succ (b := 4294967296) hix
      obtain ⟨p, hp⟩ : ∃ p, xs[i] = p := ⟨_, rfl⟩
      rw [hp] at hp1 hs1
      have hsplit : xs.take (i + 1) ++ rs = xs.take i ++ (p :: rs) := by rw [take_succ_get hix, hp]; simp
      rw [hsplit] at hrx
      have hzl : (xs.take i ++ (p :: rs)).length = a.length + 1 := by rw [List.length_append, hxtl, List.length_cons]; omega
      have hseg : ((xs.take i ++ (p :: rs)).drop i).take (k + 3) = (p :: rs).take (k + 3) := by rw [List.drop_left' hxtl]
      have hpr : Dg 4294967296 (p :: rs) := Dg.cons.2 ⟨hp1, hrd⟩
      have hrvD : val 4294967296 rs < D := by rw [hrv]; exact Nat.mod_lt _ hDp
      obtain ⟨hw1, hw2⟩ := low_words (n := k + 3) hpr hrvD (by rw [Nat.pow_succ]; exact Nat.mul_le_mul_right _ (Nat.le_of_lt hdlt))
      obtain ⟨_, hdtop⟩ := HTOP.out
      have ct := nat_takeAll (xs.take i ++ (p :: rs)) ds w.heap.size i k (a.length + 1 - i) (some ⟨w3.heap.size, 0, none⟩) (k + 2) 66 wr hrx (hrD.rd_all (by omega)) HDL.out (by rw [hzl]; omega) (by omega) (Dg.append.2 ⟨hxd.take, hpr⟩) hdd hdtop (by rw [hseg, hw1, HDE.out]; exact low_lt hp1 hrvD)
      rw [hseg, hw1, HDE.out] at ct
      obtain ⟨e1, e2⟩ := div_word_step (p := p) (d := D) (V := val 4294967296 (xs.drop (i + 1))) hDp hrv.symm hqv.symm
      rw [← hs1] at e1 e2
      have HRL := Lib.hid hrl
      have HQL := Lib.hid hql
      have HXT := Lib.hid hxtl
      have HW2 := Lib.hid hw2
      have HE1 := Lib.hid e1
      have HE2 := Lib.hid e2
      have hrlk : k + 1 < rs.length := by omega
      clear hrl hql hxtl hw1 hw2 e1 e2 hs1 hp hsplit hseg hrv hqv hzl hdtop
      go_wp2_with fail
      rw [show i + (k + 2) + 1 - i = k + 3 by omega]
      refine ct.mono ?_
      rintro e w7 ⟨cs, rfl, hq1, hcl, hcd, hcv, hrow7, hgr7⟩
      have hrq7 : Row w7 w5.heap.size 66 .u32 (List.replicate (i + 1) 0 ++ qs) := hrq.grown hgr7 (fun e => by injection e; omega)
      have hrd7 : Row w7 w3.heap.size 66 .u32 ds := hrD.grown hgr7 (fun e => by injection e; omega)
      have hf7 := hrq7.frozen i
      have hc7 := hrq7.cell (i := i) (by rw [List.length_append, List.length_replicate]; omega)
      have hb7 : Below w.heap.size w w7 := hbel.grown hgr7 hbel.size (fun q e => by injection e with e; omega)
      obtain ⟨Qd, hQd⟩ : ∃ Qd, (p + 4294967296 * val 4294967296 rs) / D = Qd := ⟨_, rfl⟩
      have hset := hrq7.set i Qd
      rw [set_zero] at hset
      rw [hQd] at hq1 ⊢
      have HQd := Lib.hid hQd
      have HCL := Lib.hid hcl
      have HCV := Lib.hid hcv
      clear hQd hcl hcv ct hrq hrD hrx
      go_wp2_with fail
      go_roundg i
      case measure => omega
      case rel =>
        have hrow8 := hrow7.far (p := ⟨w5.heap.size, i, none⟩) (by simp; omega) (.int .u32 (Qd : Int))
        rw [splice_tail HXT.out] at hrow8
        have hrl := HRL.out
        refine ⟨?_, by omega, cs ++ (p :: rs).drop cs.length, Qd :: qs, ?_, by have := HQL.out; simp; omega, Dg.append.2 ⟨hcd, hpr.drop⟩, Dg.cons.2 ⟨hq1, hqd⟩, hrow8, hrd7.far (by simp; omega) _, hset, hb7.setCell (by simp; omega) _, ?_, ?_⟩
        · by_cases h0 : i = 0
          · subst h0; exact .inr ⟨rfl, by go_num⟩
          · exact .inl ⟨i - 1, by omega, by go_num⟩
        · rw [List.length_append, List.length_drop, List.length_cons, HCL.out]; omega
        · rw [val_append, HCL.out, HW2.out, Nat.mul_zero, Nat.add_zero, HCV.out, HE2.out]
        · rw [val_cons, HE1.out, HQd.out]
    · rw [List.drop_zero, HXV.out, HDV.out] at hrv hqv
      rw [List.take_zero, List.nil_append] at hrx
      rw [List.replicate_zero, List.nil_append] at hrq
      rw [Nat.mul_mod_mul_right] at hrv
      rw [Nat.mul_div_mul_right _ _ (Nat.pow_pos (by omega))] at hqv
      have hrl : rs.length = a.length + 1 := by omega
      have hql : qs.length = t := by omega
      have cm := nat_moveDown rs w.heap.size (a.length + 1) s 66 wr hrx (by omega) hrd hs
      rw [hrl] at cm
      have HRV := Lib.hid hrv
      have HQV := Lib.hid hqv
      have HQL := Lib.hid hql
      clear hrv hqv hrl hql
      go_wp2_with fail
      refine cm.mono ?_
      rintro e w7 ⟨rfl, cs, hcl, hcd, hcv, hrow7, hgr7⟩
      have hrq7 : Row w7 w5.heap.size 66 .u32 qs := hrq.grown hgr7 (fun e => by injection e; omega)
      have hb7 : Below w.heap.size w w7 := hbel.grown hgr7 hbel.size (fun q e => by injection e with e; omega)
      rw [HRV.out, Nat.mul_div_cancel _ (Nat.pow_pos (by omega))] at hcv
      have HCL := Lib.hid hcl
      have HCV := Lib.hid hcv
      have cA := nat_cut qs (some ⟨w5.heap.size, 0, none⟩) t _ w7 (hrq7.rd_all (S := fun g => g < w7.heap.size) hrq7.lt) (by rw [HQL.out]; omega) (by rw [HQL.out]; omega) hqd
      have cB := nat_cut cs (some ⟨w.heap.size, 0, none⟩) (a.length + 1) _ w7 (hrow7.rd_all (S := fun g => g < w7.heap.size) hrow7.lt) (by rw [HCL.out]; omega) (by rw [HCL.out]; omega) hcd
      rw [HQL.out] at cA
      rw [HCL.out] at cB
      clear hcl hcv cm
      go_wp2_with fail
      refine cA.mono ?_
      rintro e w8 ⟨us, A4, c4, rfl, hcut4, hr4, rfl⟩
      obtain ⟨hc4, -, -, hn4, hv4, -⟩ := hcut4
      have HN4 := Lib.hid hn4
      have HV4 := Lib.hid hv4
      clear hn4 hv4 cA
      go_wp2_with fail
      refine cB.mono ?_
      rintro e w8 ⟨vs, A5, c5, rfl, hcut5, hr5, rfl⟩
      obtain ⟨hc5, -, -, hn5, hv5, -⟩ := hcut5
      have HN5 := Lib.hid hn5
      have HV5 := Lib.hid hv5
      clear hn5 hv5 cB
      go_wp2_with fail
      go_ret2
      exact ⟨A4, us, c4, A5, vs, c5, rfl, hc4, hc5, HN4.out, HN5.out, by rw [HV4.out, HQV.out], by rw [HV5.out, HCV.out], hr4, hr5, hb7⟩
end Go.Proofs.YtokaapljlpngdaaGreatDoor
/- What the program's own Div answers. -/

namespace Go.Proofs.YtokaapljlpngdaaGreatDoor
open Go.RowKit Num

theorem nat_Trim_g (d : List Nat) (A : Option Addr) (c : Nat) (S : Nat → Prop) (w : World) (h : Rd w S .u32 A d) (hS : ∀ b, S b → b < w.heap.size) (hl : d.length ≤ 2147483648) (hc : d.length ≤ c) (hd : Dg 4294967296 d) :
    Calls Tryz.prog 92 #[.slice A d.length c] w (Gives .u32 4294967296 (val 4294967296 d) w) := by
  refine (nat_Trim d A c S w h hS hl hc hd).mono ?_
  rintro e w' ⟨ys, hn, hv, -, hb, ⟨rfl, rfl⟩ | ⟨-, g, rfl, -, hr⟩⟩
  · exact ⟨none, [], 0, rfl, by simp, hn, hv, Rd.nil, hb⟩
  · exact ⟨_, ys, _, rfl, Nat.le_refl _, hn, hv, hr.rd_all hr.lt, hb⟩

set_option maxHeartbeats 3200000 in
theorem nat_Div (a b : List Nat) (A A' : Option Addr) (ca cb : Nat) (S S' : Nat → Prop) (w : World) (h : Rd w S .u32 A a) (h' : Rd w S' .u32 A' b) (hS : ∀ g, S g → g < w.heap.size) (hS' : ∀ g, S' g → g < w.heap.size) (hl : a.length ≤ 1073741824) (hl' : b.length ≤ 1073741824) (hc : a.length ≤ ca) (hc' : b.length ≤ cb) (ha : Dg 4294967296 a) (hb : Dg 4294967296 b) :
    Calls Tryz.prog 99 #[.slice A a.length ca, .slice A' b.length cb] w (GivesQR .u32 4294967296 (val 4294967296 a) (val 4294967296 b) w) := by
  obtain ⟨N, hN⟩ : ∃ N, val 4294967296 a = N := ⟨_, rfl⟩
  obtain ⟨D, hD⟩ : ∃ D, val 4294967296 b = D := ⟨_, rfl⟩
  rw [hN, hD]
  go_enter Tryz.func99, Tryz.ntmps99
  go_wp2_with fail
  refine (nat_cut a A ca S w h (by omega) hc ha).mono ?_
  rintro e w1 ⟨x, A1, c1, rfl, hcut1, hr1, rfl⟩
  obtain ⟨hc1, hl1, -, hn1, hv1, -⟩ := hcut1
  rw [hN] at hv1
  have HN1 := Lib.hid hn1
  have HV1 := Lib.hid hv1
  clear hn1 hv1 h
  go_wp2_with fail
  refine (nat_cut b A' cb S' w h' (by omega) hc' hb).mono ?_
  rintro e w1 ⟨y, A2, c2, rfl, hcut2, hr2, rfl⟩
  obtain ⟨hc2, hl2, -, hn2, hv2, -⟩ := hcut2
  rw [hD] at hv2
  have HN2 := Lib.hid hn2
  have HV2 := Lib.hid hv2
  clear hn2 hv2 h'
  clear ha hb hN hD
  by_cases hy0 : y.length = 0
  · obtain rfl : y = [] := List.eq_nil_of_length_eq_zero hy0
    go_wp2_with fail
    go_ret3
    have hD0 : D = 0 := HV2.out.symm
    subst hD0
    exact ⟨none, [], 0, none, [], 0, by rfl, by simp, by simp, norm_nil _, norm_nil _, by simp [val], by simp [val], Rd.nil, Rd.nil, Below.refl _ _⟩
  · have hDp : 0 < D := by
      rw [← HV2.out]
      rcases Nat.eq_zero_or_pos (val 4294967296 y) with h0 | h0
      · have := (HN2.out.2.nil_iff (b := 4294967296) (by omega)).2 h0
        subst this; simp at hy0
      · exact h0
    have cc := nat_Cmp x y A1 A2 c1 c2 S S' w hr1 hr2 (by omega) (by omega) hc1 hc2 HN1.out.1 HN2.out.1
    rw [HV1.out, HV2.out] at cc
    have hneg := cmpI_neg N D
    by_cases hlt : N < D
    · rw [cmpI_lt hlt] at cc
      clear hneg
      go_wp2_with fail
      refine cc.mono ?_
      rintro e w3 ⟨rfl, m, rfl⟩
      have ct := nat_Trim_g x A1 c1 S (w.drewN m) (hr1.drewN m) hS (by omega) hc1 HN1.out.1
      rw [HV1.out] at ct
      have HLT := Lib.hid hlt
      clear cc hlt
      go_wp2_with fail
      refine ct.mono ?_
      rintro e w4 ⟨A4, r4, c4, rfl, hc4, hn4, hv4, hr4, hb4⟩
      have HN4 := Lib.hid hn4
      have HV4 := Lib.hid hv4
      clear hn4 hv4 ct
      go_wp2_with fail
      go_ret3
      refine ⟨none, [], 0, A4, r4, c4, ?_, by simp, hc4, norm_nil _, HN4.out, ?_, ?_, Rd.nil, hr4, (below_drewN (Below.refl _ _) m).trans hb4⟩
      · rw [decide_eq_true hDp]; rfl
      · rw [Nat.div_eq_of_lt HLT.out]; rfl
      · rw [if_neg (by omega), HV4.out, Nat.mod_eq_of_lt HLT.out]
    · obtain ⟨z, hz⟩ : ∃ z, cmpI N D = z := ⟨_, rfl⟩
      rw [hz] at cc hneg
      have hz0 : 0 ≤ z := by omega
      have HGE := Lib.hid hlt
      clear hlt hneg hz
      go_wp2_with fail
      refine cc.mono ?_
      rintro e w3 ⟨rfl, m, rfl⟩
      clear cc
      by_cases hx2 : x.length ≤ 2
      · have hN64 : N < 18446744073709551616 := by rw [← HV1.out]; exact val_lt_pow (n := 2) HN1.out.1 (by omega) hx2
        have hD64 : D < 18446744073709551616 := by have := HGE.out; omega
        have cU1 := nat_Uint x A1 c1 S (w.drewN m) (hr1.drewN m) (by omega) hc1 HN1.out.1
        have cU2 := nat_Uint y A2 c2 S' (w.drewN m) (hr2.drewN m) (by omega) hc2 HN2.out.1
        rw [HV1.out] at cU1
        rw [HV2.out] at cU2
        have hD0 : ¬ D = 0 := by omega
        have hquo := u64_quo N D hN64
        have hrem := tmod_nat N D
        have hq1 : N / D < 18446744073709551616 := Nat.lt_of_le_of_lt (Nat.div_le_self _ _) hN64
        have hq2 : N % D < 18446744073709551616 := Nat.lt_of_le_of_lt (Nat.mod_le _ _) hN64
        have cQ : ∀ W, Calls Tryz.prog 95 #[.int .u64 ((N : Int) / (D : Int))] W (Gives .u32 4294967296 (N / D) W) := fun W => by
          have := nat_Of (N / D) hq1 W
          rwa [Int.natCast_ediv] at this
        have cR : ∀ W, Calls Tryz.prog 95 #[.int .u64 ((N : Int) % (D : Int))] W (Gives .u32 4294967296 (N % D) W) := fun W => by
          have := nat_Of (N % D) hq2 W
          rwa [Int.natCast_emod] at this
        go_wp2_with fail
        refine cU1.mono ?_
        rintro e w4 ⟨rfl, ⟨-, rfl⟩ | ⟨hno, -⟩⟩
        rotate_left
        · exact absurd hN64 hno
        go_wp2_with fail
        refine cU2.mono ?_
        rintro e w4 ⟨rfl, ⟨-, rfl⟩ | ⟨hno, -⟩⟩
        rotate_left
        · exact absurd hD64 hno
        clear cU1 cU2
        go_wp2_with fail
        go_region_held3 (fun _ => True) (trivial) ((first | (go_at_call 95; (with_reducible refine (cQ _).mono ?_); rintro e w4 ⟨A4, q4, c4, rfl, hc4, hn4, hv4, hr4, hb4⟩) | (go_at_call 95; (with_reducible refine (cR _).mono ?_); rintro e w5 ⟨A5, q5, c5, rfl, hc5, hn5, hv5, hr5, hb5⟩)))
        have HQ := Lib.hid hv4
        have HR := Lib.hid hv5
        have HN4 := Lib.hid hn4
        have HN5 := Lib.hid hn5
        have B4 : Below w.heap.size w w4 := (below_drewN (below_drewN (Below.refl _ _) m) 1).trans hb4
        clear hv4 hv5 hn4 hn5 hquo hrem cQ cR
        go_wp2_with fail
        go_ret3
        have hs4 := B4.size
        refine ⟨A4, q4, c4, A5, q5, c5, ?_, hc4, hc5, HN4.out, HN5.out, HQ.out, ?_, (hr4.below hb5 (fun g hg => hg)).imp (fun g hg => by have := hb5.size; omega), hr5, B4.trans (hb5.mono hs4)⟩
        · rw [decide_eq_true hDp]; rfl
        · rw [if_neg (by omega), HR.out]
      · by_cases hy1 : y.length = 1
        · obtain ⟨d, rfl⟩ : ∃ d, y = [d] := List.length_eq_one_iff.1 hy1
          obtain ⟨b2, o2, rfl, hS2, hcell⟩ := hr2.at_ (j := 0) (by simp)
          have hd1 := HN2.out.1.get (j := 0) (by simp)
          simp only [List.getElem_cons_zero, Nat.add_zero] at hcell hd1
          have hdD : d = D := by rw [← HV2.out]; simp [val]
          subst hdD
          have ct := nat_Trim x A1 c1 S (w.drewN m) (hr1.drewN m) hS (by omega) hc1 HN1.out.1
          go_wp2_with fail
          refine ct.mono ?_
          rintro e w4 ⟨xs, hn4, hv4, hl4, hb4, ⟨rfl, rfl⟩ | ⟨-, g, rfl, hg4, hr4⟩⟩
          · exfalso
            rw [HV1.out] at hv4
            have := HGE.out
            have e0 : val 4294967296 ([] : List Nat) = 0 := rfl
            omega
          rw [HV1.out] at hv4
          have HV4 := Lib.hid hv4
          have cd := nat_divWord xs [] g xs.length d 66 w4 (by rw [List.append_nil]; exact hr4) (by omega) hn4.1 hDp hd1
          rw [hv4] at cd
          have hcell4 := (hb4.cell (p := ⟨b2, o2, none⟩) (hS' _ hS2)).trans hcell
          have hg4' : w.heap.size ≤ g := hg4
          have HL4 := Lib.hid hl4
          clear hv4 hn4 ct hcell hg4 hl4
          have hl4 : xs.length ≤ 1073741824 := by have := HL4.out; omega
          go_wp2_with fail
          refine cd.mono ?_
          rintro e w5 ⟨rfl, qs, hql, hqd, hqv, hrow5, hgr5⟩
          rw [List.append_nil] at hrow5
          have hb5 : Below w.heap.size w w5 := ((below_drewN (Below.refl _ _) m).trans hb4).grown hgr5 (by have := hb4.size; simpa using this) (fun q e => by injection e with e; subst e; exact hg4')
          have hlt : N % d < 18446744073709551616 := by have := Nat.mod_lt N hDp; omega
          have cA := nat_cut qs (some ⟨g, 0, none⟩) xs.length _ w5 (hrow5.rd_all (S := fun g => g < w5.heap.size) hrow5.lt) (by rw [hql]; omega) (by rw [hql]; omega) hqd
          rw [hql] at cA
          have cB : ∀ W, Calls Tryz.prog 95 #[.int .u64 ((N : Int) % (d : Int))] W (Gives .u32 4294967296 (N % d) W) := fun W => by
            have := nat_Of (N % d) hlt W
            rwa [Int.natCast_emod] at this
          have HQV := Lib.hid hqv
          have HQL := Lib.hid hql
          clear hqv hql cd
          go_wp2_with fail
          refine cA.mono ?_
          rintro e w6 ⟨us, A4, c4, rfl, hcut4, hr4, rfl⟩
          obtain ⟨hc4, -, -, hn4, hv4, -⟩ := hcut4
          have HN4 := Lib.hid hn4
          have HV4 := Lib.hid hv4
          clear hn4 hv4 cA
          go_wp2_with fail
          refine (cB _).mono ?_
          rintro e w6 ⟨A5, q5, c5, rfl, hc5, hn5, hv5, hr5, hb6⟩
          have HN5 := Lib.hid hn5
          have HV5 := Lib.hid hv5
          clear hn5 hv5 cB
          go_wp2_with fail
          go_ret3
          refine ⟨A4, us, c4, A5, q5, c5, ?_, hc4, hc5, HN4.out, HN5.out, by rw [HV4.out, HQV.out], ?_, (hr4.below hb6 (fun g hg => hg)).imp (fun g hg => by have := hb6.size; omega), hr5, hb5.trans (hb6.mono hb5.size)⟩
          · rw [decide_eq_true hDp]; rfl
          · rw [if_neg (by omega), HV5.out]
        · have hyx : y.length ≤ x.length := HN2.out.2.length_le (b := 4294967296) (by omega) (by
            rw [HV2.out]
            refine Nat.lt_of_le_of_lt (Nat.le_of_not_lt HGE.out) ?_
            rw [← HV1.out]
            exact val_lt HN1.out.1)
          obtain ⟨k, hk⟩ : ∃ k, y.length = k + 2 := ⟨y.length - 2, by omega⟩
          have cd := nat_divWords x y k A1 A2 c1 c2 S S' (w.drewN m) (hr1.drewN m) (hr2.drewN m) hS hS' (by omega) hk hyx HN1.out.1 HN2.out
          rw [HV1.out, HV2.out] at cd
          have hyp : 2 ≤ y.length := by omega
          clear hk
          go_wp2_with fail
          refine cd.mono ?_
          rintro e w4 ⟨A4, q4, c4, A5, r5, c5, rfl, hc4, hc5, hn4, hn5, hv4, hv5, hr4, hr5, hb4⟩
          have HN4 := Lib.hid hn4
          have HV4 := Lib.hid hv4
          have HN5 := Lib.hid hn5
          have HV5 := Lib.hid hv5
          clear hn4 hv4 hn5 hv5 cd
          go_wp2_with fail
          go_ret3
          refine ⟨A4, q4, c4, A5, r5, c5, ?_, hc4, hc5, HN4.out, HN5.out, HV4.out, ?_, hr4, hr5, (below_drewN (Below.refl _ _) m).trans hb4⟩
          · rw [decide_eq_true hDp]; rfl
          · rw [if_neg (by omega), HV5.out]
end Go.Proofs.YtokaapljlpngdaaGreatDoor
