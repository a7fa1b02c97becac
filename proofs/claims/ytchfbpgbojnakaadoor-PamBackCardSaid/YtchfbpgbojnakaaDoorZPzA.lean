/- Rasters and their files, as plain mathematics. -/
import Derived.Test.YtchfbpgbojnakaaDoorZCoZ
import Derived.Test.YtchfbpgbojnakaaDoorZWhY
import Derived.Test.YtchfbpgbojnakaaDoorZLxV
import Derived.Test.YtchfbpgbojnakaaDoorZFgY
namespace Go.Proofs.YtchfbpgbojnakaaDoor
open Num

/-- a raster: its sides, its colours row by row -/
structure Ras where
  w : Int
  h : Int
  pix : List Col
theorem Ras.same {a b : Ras} : a = b ↔ a.w = b.w ∧ a.h = b.h ∧ a.pix = b.pix := by
  cases a; cases b; simp
def ras0 : Ras := ⟨0, 0, []⟩
/-- may it be one -/
def RMay (r : Ras) : Prop := (1 ≤ r.w ∧ r.w ≤ 64) ∧ (1 ≤ r.h ∧ r.h ≤ 64) ∧ (r.pix.length : Int) = r.w * r.h
instance (r : Ras) : Decidable (RMay r) := by unfold RMay; infer_instance
def mayR (r : Ras) : Bool := decide (RMay r)
theorem side_mul {a b : Int} (ha : 1 ≤ a ∧ a ≤ 64) (hb : 1 ≤ b ∧ b ≤ 64) : 1 ≤ a * b ∧ a * b ≤ 4096 := by
  obtain ⟨n, rfl⟩ : ∃ n : Nat, a = n := ⟨a.toNat, by omega⟩
  obtain ⟨m, rfl⟩ : ∃ n : Nat, b = n := ⟨b.toNat, by omega⟩
  have h1 : n * m ≤ 64 * 64 := Nat.mul_le_mul (by omega) (by omega)
  have h2 : 1 * 1 ≤ n * m := Nat.mul_le_mul (by omega) (by omega)
  have e : (n : Int) * (m : Int) = ((n * m : Nat) : Int) := by simp
  omega
/-- the place of a colour -/
theorem place_lt {w h x y : Int} (hx : 0 ≤ x ∧ x < w) (hy : 0 ≤ y ∧ y < h) : 0 ≤ x + w * y ∧ x + w * y < w * h := by
  obtain ⟨X, rfl⟩ : ∃ n : Nat, x = n := ⟨x.toNat, by omega⟩
  obtain ⟨Y, rfl⟩ : ∃ n : Nat, y = n := ⟨y.toNat, by omega⟩
  obtain ⟨W, rfl⟩ : ∃ n : Nat, w = n := ⟨w.toNat, by omega⟩
  obtain ⟨H, rfl⟩ : ∃ n : Nat, h = n := ⟨h.toNat, by omega⟩
  have h1 : W * (Y + 1) ≤ W * H := Nat.mul_le_mul_left _ (by omega)
  rw [Nat.mul_add] at h1
  have e1 : (W : Int) * (Y : Int) = ((W * Y : Nat) : Int) := by simp
  have e2 : (W : Int) * (H : Int) = ((W * H : Nat) : Int) := by simp
  omega
/-- the colour at a place, if there is one -/
def atR (r : Ras) (x y : Int) : Option Col := if RMay r ∧ (0 ≤ x ∧ x < r.w) ∧ (0 ≤ y ∧ y < r.h) then r.pix[(x + r.w * y).toNat]? else none
theorem atR_some {r : Ras} {x y : Int} (hm : RMay r) (hx : 0 ≤ x ∧ x < r.w) (hy : 0 ≤ y ∧ y < r.h) : ∃ (h : (x + r.w * y).toNat < r.pix.length), atR r x y = some r.pix[(x + r.w * y).toNat] := by
  have hp := place_lt hx hy
  have hl := hm.2.2
  refine ⟨by omega, ?_⟩
  unfold atR
  rw [if_pos ⟨hm, hx, hy⟩, List.getElem?_eq_getElem (by omega)]
theorem atR_none {r : Ras} {x y : Int} (h : ¬ (RMay r ∧ (0 ≤ x ∧ x < r.w) ∧ (0 ≤ y ∧ y < r.h))) : atR r x y = none := by
  unfold atR
  rw [if_neg h]
/-- one of zero colours -/
def blankR (w h : Int) : Ras := if (1 ≤ w ∧ w ≤ 64) ∧ (1 ≤ h ∧ h ≤ 64) then ⟨w, h, List.replicate (w * h).toNat col0⟩ else ras0

/-! ### files -/
/-- a text's bytes -/
def asc (s : String) : By := s.toUTF8.data.toList
/-- the lines ahead -/
def headOf (w h : Int) : By := [80, 55, 10, 87, 73, 68, 84, 72, 32] ++ (wtext w ++ ([10, 72, 69, 73, 71, 72, 84, 32] ++ (wtext h ++ [10, 68, 69, 80, 84, 72, 32, 52, 10, 77, 65, 88, 86, 65, 76, 32, 50, 53, 53, 10, 84, 85, 80, 76, 84, 89, 80, 69, 32, 82, 71, 66, 95, 65, 76, 80, 72, 65, 10, 69, 78, 68, 72, 68, 82, 10])))
def bodyOf (l : List Col) : By := l.flatMap colBy
def fileOf (r : Ras) : By := headOf r.w r.h ++ bodyOf r.pix
theorem bodyOf_length (l : List Col) : (bodyOf l).length = 4 * l.length := by
  induction l with
  | nil => rfl
  | cons c l ih =>
    have e : bodyOf (c :: l) = colBy c ++ bodyOf l := rfl
    rw [e, List.length_append, ih]
    simp [colBy]
    omega
theorem bodyOf_snoc (l : List Col) (c : Col) : bodyOf (l ++ [c]) = bodyOf l ++ [c.r, c.g, c.b, c.a] := by simp [bodyOf, colBy]
theorem colBy_inj {c d : Col} (h : colBy c = colBy d) : c = d := by
  have e := congrArg colOf h
  rw [colOf_by, colOf_by] at e
  exact Option.some.inj e
theorem bodyOf_inj : ∀ {a b : List Col}, bodyOf a = bodyOf b → a = b
  | [], [], _ => rfl
  | [], d :: b, h => by have := congrArg List.length h; rw [bodyOf_length, bodyOf_length] at this; simp at this
  | c :: a, [], h => by have := congrArg List.length h; rw [bodyOf_length, bodyOf_length] at this; simp at this
  | c :: a, d :: b, h => by
    have e : ∀ (c : Col) (l : List Col), bodyOf (c :: l) = colBy c ++ bodyOf l := fun _ _ => rfl
    rw [e, e] at h
    obtain ⟨h1, h2⟩ := List.append_inj h rfl
    rw [colBy_inj h1, bodyOf_inj h2]
/-- every row of fours is some colours' -/
theorem bodyOf_of : ∀ (n : Nat) (b : By), b.length = 4 * n → ∃ l : List Col, l.length = n ∧ b = bodyOf l
  | 0, b, h => ⟨[], rfl, List.eq_nil_of_length_eq_zero (by omega)⟩
  | n + 1, b, h => by
    match b, h with
    | x :: y :: z :: u :: r, h =>
      obtain ⟨l, hl, hr⟩ := bodyOf_of n r (by simp at h; omega)
      exact ⟨⟨x, y, z, u⟩ :: l, by simp [hl], by rw [hr]; rfl⟩
    | [_, _, _], h => simp at h; omega
    | [_, _], h => simp at h; omega
    | [_], h => simp at h; omega
    | [], h => simp at h
/-- a number's digits end where a byte stands that is none -/
theorem digits_end : ∀ {a b r s : By}, (∀ c ∈ a, c ≠ 10) → (∀ c ∈ b, c ≠ 10) → a ++ 10 :: r = b ++ 10 :: s → a = b ∧ r = s
  | [], [], r, s, _, _, h => ⟨rfl, (List.cons.inj h).2⟩
  | [], y :: b, r, s, _, hb, h => absurd (List.cons.inj h).1.symm (hb y (by simp))
  | x :: a, [], r, s, ha, _, h => absurd (List.cons.inj h).1 (ha x (by simp))
  | x :: a, y :: b, r, s, ha, hb, h => by
    obtain ⟨h1, h2⟩ := List.cons.inj h
    obtain ⟨h3, h4⟩ := digits_end (fun c hc => ha c (by simp [hc])) (fun c hc => hb c (by simp [hc])) h2
    exact ⟨by rw [h1, h3], h4⟩
theorem wtext_no10 (n : Int) : ∀ c ∈ wtext n, c ≠ 10 := by
  intro c hc e
  subst e
  unfold wtext at hc
  have h10 : (10 : UInt8).toNat = 10 := rfl
  split at hc
  · rcases List.mem_cons.1 hc with h | h
    · cases h
    · have := (dec_all n.natAbs) _ h
      omega
  · have := (dec_all n.natAbs) _ hc
    omega
theorem wtext_nat_inj {a b : Int} (ha : 0 ≤ a) (hb : 0 ≤ b) (h : wtext a = wtext b) : a = b := by
  unfold wtext at h
  rw [if_neg (by omega), if_neg (by omega)] at h
  have e := congrArg decVal h
  rw [decVal_dec, decVal_dec] at e
  omega
/-- lines ahead tell the sides -/
theorem head_inj {w h w' h' : Int} {r s : By} (hw : 0 ≤ w) (hh : 0 ≤ h) (hw' : 0 ≤ w') (hh' : 0 ≤ h') (e : headOf w h ++ r = headOf w' h' ++ s) : w = w' ∧ h = h' ∧ r = s := by
  unfold headOf at e
  simp only [List.append_assoc] at e
  have e1 := List.append_cancel_left e
  simp only [List.cons_append] at e1
  obtain ⟨h1, h2⟩ := digits_end (wtext_no10 w) (wtext_no10 w') e1
  simp only [List.cons.injEq, true_and, List.nil_append] at h2
  obtain ⟨h3, h4⟩ := digits_end (wtext_no10 h) (wtext_no10 h') h2
  simp only [List.cons.injEq, true_and] at h4
  exact ⟨wtext_nat_inj hw hw' h1, wtext_nat_inj hh hh' h3, h4⟩
/-- what bytes read as a file come to: a raster and nought, or none and the error's number -/
def IsFile (b : By) (r : Ras) (k : Nat) : Prop :=
  (∃ w h rest, ((1 ≤ w ∧ w ≤ 64) ∧ (1 ≤ h ∧ h ≤ 64)) ∧ b = headOf w h ++ rest ∧
    (((rest.length : Int) < 4 * (w * h) ∧ r = ras0 ∧ k = 13) ∨ (4 * (w * h) < (rest.length : Int) ∧ r = ras0 ∧ k = 14) ∨ (∃ l, rest = bodyOf l ∧ (l.length : Int) = w * h ∧ r = ⟨w, h, l⟩ ∧ k = 0))) ∨
  ((∀ w h rest, (1 ≤ w ∧ w ≤ 64) ∧ (1 ≤ h ∧ h ≤ 64) → b ≠ headOf w h ++ rest) ∧ r = ras0 ∧ k = 3)
theorem IsFile.unique {b : By} {r r' : Ras} {k k' : Nat} (h : IsFile b r k) (h' : IsFile b r' k') : r = r' ∧ k = k' := by
  rcases h with ⟨w, g, rest, hs, hb, hc⟩ | ⟨hn, rfl, rfl⟩ <;> rcases h' with ⟨w', g', rest', hs', hb', hc'⟩ | ⟨hn', rfl, rfl⟩
  · obtain ⟨rfl, rfl, rfl⟩ := head_inj (by omega) (by omega) (by omega) (by omega) (hb.symm.trans hb')
    rcases hc with ⟨c1, rfl, rfl⟩ | ⟨c1, rfl, rfl⟩ | ⟨l, rfl, c1, rfl, rfl⟩ <;> rcases hc' with ⟨d1, rfl, rfl⟩ | ⟨d1, rfl, rfl⟩ | ⟨l', d2, d1, rfl, rfl⟩
    all_goals first
      | exact ⟨rfl, rfl⟩
      | (exfalso; omega)
      | (exfalso; have := bodyOf_length l; omega)
      | (exfalso; have := congrArg List.length d2; rw [bodyOf_length] at this; omega)
      | (rw [bodyOf_inj d2]; exact ⟨rfl, rfl⟩)
  · exact absurd hb (hn' w g rest hs)
  · exact absurd hb' (hn w' g' rest' hs')
  · exact ⟨rfl, rfl⟩
/-- a raster's own file -/
theorem file_back {r : Ras} (h : RMay r) : IsFile (fileOf r) r 0 := .inl ⟨r.w, r.h, bodyOf r.pix, ⟨h.1, h.2.1⟩, rfl, .inr (.inr ⟨r.pix, rfl, h.2.2, rfl, rfl⟩)⟩
/-- what was read is written as it was -/
theorem file_again {b : By} {r : Ras} (h : IsFile b r 0) : RMay r ∧ fileOf r = b := by
  rcases h with ⟨w, g, rest, hs, hb, ⟨_, _, hk⟩ | ⟨_, _, hk⟩ | ⟨l, rfl, c1, rfl, _⟩⟩ | ⟨_, _, hk⟩
  · cases hk
  · cases hk
  · exact ⟨⟨hs.1, hs.2, c1⟩, hb.symm⟩
  · cases hk
end Go.Proofs.YtchfbpgbojnakaaDoor
/- Rows of colours in memory. -/

namespace Go.Proofs.YtchfbpgbojnakaaDoor
open Go.RowKit

/-- a row of colours as it lies -/
def rowCells (l : List Col) : List Value := l.flatMap colCells
theorem rowCells_cons (c : Col) (l : List Col) : rowCells (c :: l) = colCells c ++ rowCells l := rfl
theorem rowCells_append (a b : List Col) : rowCells (a ++ b) = rowCells a ++ rowCells b := by simp [rowCells]
theorem rowCells_length (l : List Col) : (rowCells l).length = 4 * l.length := by
  induction l with
  | nil => rfl
  | cons c l ih => rw [rowCells_cons, List.length_append, ih]; simp [colCells]; omega
theorem rowCells_get : ∀ (l : List Col) (i : Nat) (hi : i < l.length), (rowCells l)[i * 4]? = some (.int .u8 (l[i].r.toNat : Int)) ∧ (rowCells l)[i * 4 + 1]? = some (.int .u8 (l[i].g.toNat : Int)) ∧ (rowCells l)[i * 4 + 2]? = some (.int .u8 (l[i].b.toNat : Int)) ∧ (rowCells l)[i * 4 + 3]? = some (.int .u8 (l[i].a.toNat : Int))
  | [], i, hi => absurd hi (by simp)
  | c :: l, 0, _ => ⟨rfl, rfl, rfl, rfl⟩
  | c :: l, i + 1, hi => by
    have h := rowCells_get l i (by simp at hi; omega)
    have e : ∀ k, (rowCells (c :: l))[(i + 1) * 4 + k]? = (rowCells l)[i * 4 + k]? := fun k => by
      rw [rowCells_cons, List.getElem?_append_right (by simp [colCells]; omega)]
      congr 1
      simp [colCells]
      omega
    have e0 := e 0
    simp only [Nat.add_zero] at e0
    rw [e0, e 1, e 2, e 3]
    exact h
theorem RdV.col {w : World} {B : Nat} {p : Option Addr} {l : List Col} (h : RdV w B p (rowCells l)) {i : Nat} (hi : i < l.length) : ∃ b o, p = some ⟨b, o, none⟩ ∧ b < B ∧
    (w.cell? ⟨b, o + i * 4, none⟩ = some (.int .u8 (l[i].r.toNat : Int)) ∧ w.cell? ⟨b, o + i * 4 + 1, none⟩ = some (.int .u8 (l[i].g.toNat : Int)) ∧ w.cell? ⟨b, o + i * 4 + 2, none⟩ = some (.int .u8 (l[i].b.toNat : Int)) ∧ w.cell? ⟨b, o + i * 4 + 3, none⟩ = some (.int .u8 (l[i].a.toNat : Int))) := by
  obtain ⟨b, o, e, hb, hc⟩ := h (by rw [rowCells_length]; omega)
  obtain ⟨g0, g1, g2, g3⟩ := rowCells_get l i hi
  have get : ∀ k v, (rowCells l)[k]? = some v → w.cell? ⟨b, o + k, none⟩ = some v := fun k v hk => by
    obtain ⟨hk1, hk2⟩ := List.getElem?_eq_some_iff.1 hk
    rw [hc k hk1, hk2]
  exact ⟨b, o, e, hb, get _ _ g0, by rw [Nat.add_assoc]; exact get _ _ g1, by rw [Nat.add_assoc]; exact get _ _ g2, by rw [Nat.add_assoc]; exact get _ _ g3⟩
theorem RdV.ofOwn4 {w : World} {base n : Nat} {e : TypeId} {v : Value} {xs : List Value} (h : w.ownsRow base e 4 v n xs) : ∃ p cap, v = .slice p n cap ∧ n ≤ cap ∧ (p = none → cap = 0) ∧ RdV w w.heap.size p xs := by
  have hl : xs.length = n * 4 := h.1
  rcases h.2 with ⟨rfl, rfl⟩ | ⟨g, cap, cur, rfl, hb, hg, hnc, hcm, hcs, htake⟩
  · exact ⟨none, 0, rfl, Nat.le_refl _, fun _ => rfl, fun hn => by omega⟩
  · refine ⟨some ⟨g, 0, none⟩, cap, rfl, hnc, fun e => (by cases e), fun hn => ⟨g, 0, rfl, (Array.getElem?_eq_some_iff.1 hg).1, fun j hj => ?_⟩⟩
    rw [Nat.zero_add, cell_of_row w g j cur e (0, 0) hg]
    have h2 := congrArg (·[j]?) htake
    simp only [List.getElem?_take] at h2
    rw [List.getElem?_eq_getElem hj] at h2
    rw [if_pos (by omega)] at h2
    simpa using h2
/-- a raster as it is handed over -/
def rasV (r : Ras) (p : Option Addr) (c : Nat) : Value := .agg #[.int .i64 r.w, .int .i64 r.h, .slice p r.pix.length c]
/-- a raster whose sides are ints -/
def RasOk (r : Ras) : Prop := (-9223372036854775808 ≤ r.w ∧ r.w ≤ 9223372036854775807) ∧ (-9223372036854775808 ≤ r.h ∧ r.h ≤ 9223372036854775807) ∧ r.pix.length ≤ 4611686018427387904
end Go.Proofs.YtchfbpgbojnakaaDoor
/- Rasters: the document's own May and At. -/

namespace Go.Proofs.YtchfbpgbojnakaaDoor
open Go.RowKit

theorem no_of {d : Bool} {P : Prop} (h : d = true ↔ P) (hn : ¬ P) : d = false := by
  cases d
  · rfl
  · exact absurd (h.1 rfl) hn
theorem ras_box {w : World} {t : TypeId} (r : Ras) (p : Option Addr) (c : Nat) : ∃ W, w.alloc (.cells #[.int .i64 r.w, .int .i64 r.h, .slice p r.pix.length c] t) = W ∧
    (W.cell? ⟨w.heap.size, 0, none⟩ = some (.int .i64 r.w) ∧ W.cell? ⟨w.heap.size, 1, none⟩ = some (.int .i64 r.h) ∧ W.cell? ⟨w.heap.size, 2, none⟩ = some (.slice p r.pix.length c)) ∧ Below w.heap.size w W ∧ w.heap.size < W.heap.size := by
  have k := Box.new w t [.int .i64 r.w, .int .i64 r.h, .slice p r.pix.length c]
  exact ⟨_, rfl, ⟨k.cell 0 rfl, k.cell 1 rfl, k.cell 2 rfl⟩, (Below.refl _ _).alloc (Nat.le_refl _) _, by simp⟩

set_option maxRecDepth 10000 in
set_option maxHeartbeats 1600000 in
theorem ref9_May (r : Ras) (p : Option Addr) (c : Nat) (hR : RasOk r) (w : World) :
    Calls Tryd.prog 18 #[rasV r p c] w fun e w' => e = .returned (.bool (mayR r)) ∧ Below w.heap.size w w' := by
  obtain ⟨W, hW, ⟨p0, p1, p2⟩, B0, -⟩ := ras_box (w := w) (t := 24) r p c
  obtain ⟨d, hd⟩ : ∃ d, mayR r = d := ⟨_, rfl⟩
  have hdd : d = true ↔ RMay r := by rw [← hd]; simp [mayR]
  unfold rasV
  rw [hd]
  unfold RMay at hdd
  obtain ⟨⟨o1, o2⟩, ⟨o3, o4⟩, o5⟩ := hR
  obtain ⟨x, hx⟩ : ∃ x, r.w = x := ⟨_, rfl⟩
  obtain ⟨y, hy⟩ : ∃ x, r.h = x := ⟨_, rfl⟩
  obtain ⟨n, hn⟩ : ∃ x, r.pix.length = x := ⟨_, rfl⟩
  rw [hx, hy, hn] at hdd hW ⊢
  rw [hx] at p0 o1 o2
  rw [hy] at p1 o3 o4
  rw [hn] at p2 o5
  clear hx hy hn hd
  have HD := Lib.hid hdd
  clear hdd
  by_cases h1 : 1 ≤ x
  · by_cases h2 : x ≤ 64
    · by_cases h3 : 1 ≤ y
      · by_cases h4 : y ≤ 64
        · have hp := side_mul ⟨h1, h2⟩ ⟨h3, h4⟩
          obtain ⟨q, hq⟩ : ∃ q, x * y = q := ⟨_, rfl⟩
          rw [hq] at hp HD
          have hw : IntKind.i64.wrap q = q := IntWalk.i64_in _ (by omega)
          by_cases h5 : (n : Int) = q
          · have HR := Lib.hid (HD.out.2 ⟨⟨h1, h2⟩, ⟨h3, h4⟩, h5⟩)
            go_enter Tryd.func18, Tryd.ntmps18
            go_wp2_with fail
            go_ret
            exact ⟨by rw [HR.out]; first | rfl | (simp; done) | (simp; assumption), B0⟩
          · have HR := Lib.hid (no_of HD.out fun h => h5 h.2.2)
            go_enter Tryd.func18, Tryd.ntmps18
            go_wp2_with fail
            go_ret
            exact ⟨by rw [HR.out]; first | rfl | (simp; done) | (simp; assumption), B0⟩
        · have HR := Lib.hid (no_of HD.out fun h => h4 h.2.1.2)
          go_enter Tryd.func18, Tryd.ntmps18
          go_wp2_with fail
          go_ret
          exact ⟨by rw [HR.out]; first | rfl | (simp; done) | (simp; assumption), B0⟩
      · have HR := Lib.hid (no_of HD.out fun h => h3 h.2.1.1)
        go_enter Tryd.func18, Tryd.ntmps18
        go_wp2_with fail
        go_ret
        exact ⟨by rw [HR.out]; first | rfl | (simp; done) | (simp; assumption), B0⟩
    · have HR := Lib.hid (no_of HD.out fun h => h2 h.1.2)
      go_enter Tryd.func18, Tryd.ntmps18
      go_wp2_with fail
      go_ret
      exact ⟨by rw [HR.out]; first | rfl | (simp; done) | (simp; assumption), B0⟩
  · have HR := Lib.hid (no_of HD.out fun h => h1 h.1.1)
    go_enter Tryd.func18, Tryd.ntmps18
    go_wp2_with fail
    go_ret
    exact ⟨by rw [HR.out]; first | rfl | (simp; done) | (simp; assumption), B0⟩

/-- the boxes of a raster and of a colour to come -/
theorem ras_boxes {w : World} (r : Ras) (p : Option Addr) (c : Nat) : ∃ W, (w.alloc (.cells #[.int .i64 r.w, .int .i64 r.h, .slice p r.pix.length c] 24)).alloc (.cells #[.int .u8 0, .int .u8 0, .int .u8 0, .int .u8 0] 41) = W ∧
    (Box W w.heap.size 24 [.int .i64 r.w, .int .i64 r.h, .slice p r.pix.length c] ∧ Box W (w.heap.size + 1) 41 [.int .u8 0, .int .u8 0, .int .u8 0, .int .u8 0]) ∧ Below w.heap.size w W :=
  ⟨_, rfl, ⟨(Box.new w _ [.int .i64 r.w, .int .i64 r.h, .slice p r.pix.length c]).alloc _, Box.at_new _ _ [.int .u8 0, .int .u8 0, .int .u8 0, .int .u8 0] (by simp)⟩, ((Below.refl _ _).alloc (Nat.le_refl _) _).alloc (by simp) _⟩
theorem Box.three {w : World} {g : Nat} {t : TypeId} {a b c : Value} (h : Box w g t [a, b, c]) : w.cell? ⟨g, 0, none⟩ = some a ∧ w.cell? ⟨g, 1, none⟩ = some b ∧ w.cell? ⟨g, 2, none⟩ = some c := ⟨h.cell 0 rfl, h.cell 1 rfl, h.cell 2 rfl⟩
theorem colV_zeroP : colV col0 = .agg #[.int .u8 0, .int .u8 0, .int .u8 0, .int .u8 0] := rfl

theorem at_no {r : Ras} {x y : Int} (h : ¬ (RMay r ∧ (0 ≤ x ∧ x < r.w) ∧ (0 ≤ y ∧ y < r.h))) : (atR r x y).getD col0 = col0 ∧ (atR r x y).isSome = false := by rw [atR_none h]; exact ⟨rfl, rfl⟩
set_option maxRecDepth 10000 in
set_option maxHeartbeats 3200000 in
theorem ref9_At (r : Ras) (p : Option Addr) (c : Nat) (x y : Int) (hR : RasOk r) (hx : -9223372036854775808 ≤ x ∧ x ≤ 9223372036854775807) (hy : -9223372036854775808 ≤ y ∧ y ≤ 9223372036854775807) (w : World) (hq : RdV w w.heap.size p (rowCells r.pix)) :
    Calls Tryd.prog 14 #[rasV r p c, .int .i64 x, .int .i64 y] w fun e w' => e = .returned (.tuple #[colV ((atR r x y).getD col0), .bool (atR r x y).isSome]) ∧ Below w.heap.size w w' := by
  obtain ⟨W, hW, ⟨k1, k2⟩, B0⟩ := ras_boxes (w := w) r p c
  have cM := ref9_May r p c hR W
  have HQ := Lib.hid (And.intro hq k2.lt)
  have HK := Lib.hid (And.intro k1 (And.intro k2 B0))
  obtain ⟨p0, p1, p2⟩ := Box.three k1
  clear hq k1 k2 B0
  unfold rasV at *
  obtain ⟨⟨o1, o2⟩, ⟨o3, o4⟩, o5⟩ := hR
  obtain ⟨o, ho⟩ : ∃ o, atR r x y = o := ⟨_, rfl⟩
  by_cases hm : RMay r
  · have hmt : mayR r = true := by simp [mayR, hm]
    rw [hmt] at cM
    have CM := Lib.hid cM
    clear cM hmt
    by_cases h1 : x < 0
    · have HN := Lib.hid (at_no (r := r) (x := x) (y := y) fun h => by omega)
      clear ho hm
      obtain ⟨hc1, hc2⟩ := HN.out
      rw [hc1, hc2, colV_zeroP]
      clear hc1 hc2
      go_enter Tryd.func14, Tryd.ntmps14
      go_wp2_with (go_at_call 18; with_reducible refine Calls.mono CM.out ?_; rintro e w1 ⟨rfl, b1⟩
                   have kk := HK.out.2.1.below b1 HK.out.2.1.lt
                   obtain ⟨z0, z1, z2⟩ := Box.three (HK.out.1.below b1 HK.out.1.lt)
                   obtain ⟨⟨q0, q1, q2, q3⟩, f0, f1, f2, f3⟩ := Box.four kk)
      obtain ⟨U, hU, kU, bU⟩ := kk.stored (.int .u8 0) (.int .u8 0) (.int .u8 0) (.int .u8 0)
      obtain ⟨⟨u0, u1, u2, u3⟩, -⟩ := Box.four kU
      have hB := (HK.out.2.2.trans (b1.mono HK.out.2.2.size)).trans (bU w.heap.size (by omega))
      rw [hU]
      exact bodyPost_ret (by simp [results, Tryd.results14, go_sem, u0, u1, u2, u3]) rfl ⟨rfl, hB⟩
    · by_cases h2 : y < 0
      · have HN := Lib.hid (at_no (r := r) (x := x) (y := y) fun h => by omega)
        clear ho hm
        obtain ⟨hc1, hc2⟩ := HN.out
        rw [hc1, hc2, colV_zeroP]
        clear hc1 hc2
        go_enter Tryd.func14, Tryd.ntmps14
        go_wp2_with (go_at_call 18; with_reducible refine Calls.mono CM.out ?_; rintro e w1 ⟨rfl, b1⟩
                     have kk := HK.out.2.1.below b1 HK.out.2.1.lt
                     obtain ⟨z0, z1, z2⟩ := Box.three (HK.out.1.below b1 HK.out.1.lt)
                     obtain ⟨⟨q0, q1, q2, q3⟩, f0, f1, f2, f3⟩ := Box.four kk)
        obtain ⟨U, hU, kU, bU⟩ := kk.stored (.int .u8 0) (.int .u8 0) (.int .u8 0) (.int .u8 0)
        obtain ⟨⟨u0, u1, u2, u3⟩, -⟩ := Box.four kU
        have hB := (HK.out.2.2.trans (b1.mono HK.out.2.2.size)).trans (bU w.heap.size (by omega))
        rw [hU]
        exact bodyPost_ret (by simp [results, Tryd.results14, go_sem, u0, u1, u2, u3]) rfl ⟨rfl, hB⟩
      · by_cases h3 : r.w ≤ x
        · have HN := Lib.hid (at_no (r := r) (x := x) (y := y) fun h => by omega)
          clear ho hm
          obtain ⟨hc1, hc2⟩ := HN.out
          rw [hc1, hc2, colV_zeroP]
          clear hc1 hc2
          go_enter Tryd.func14, Tryd.ntmps14
          go_wp2_with (go_at_call 18; with_reducible refine Calls.mono CM.out ?_; rintro e w1 ⟨rfl, b1⟩
                       have kk := HK.out.2.1.below b1 HK.out.2.1.lt
                       obtain ⟨z0, z1, z2⟩ := Box.three (HK.out.1.below b1 HK.out.1.lt)
                       obtain ⟨⟨q0, q1, q2, q3⟩, f0, f1, f2, f3⟩ := Box.four kk)
          obtain ⟨U, hU, kU, bU⟩ := kk.stored (.int .u8 0) (.int .u8 0) (.int .u8 0) (.int .u8 0)
          obtain ⟨⟨u0, u1, u2, u3⟩, -⟩ := Box.four kU
          have hB := (HK.out.2.2.trans (b1.mono HK.out.2.2.size)).trans (bU w.heap.size (by omega))
          rw [hU]
          exact bodyPost_ret (by simp [results, Tryd.results14, go_sem, u0, u1, u2, u3]) rfl ⟨rfl, hB⟩
        · by_cases h4 : r.h ≤ y
          · have HN := Lib.hid (at_no (r := r) (x := x) (y := y) fun h => by omega)
            clear ho hm
            obtain ⟨hc1, hc2⟩ := HN.out
            rw [hc1, hc2, colV_zeroP]
            clear hc1 hc2
            go_enter Tryd.func14, Tryd.ntmps14
            go_wp2_with (go_at_call 18; with_reducible refine Calls.mono CM.out ?_; rintro e w1 ⟨rfl, b1⟩
                         have kk := HK.out.2.1.below b1 HK.out.2.1.lt
                         obtain ⟨z0, z1, z2⟩ := Box.three (HK.out.1.below b1 HK.out.1.lt)
                         obtain ⟨⟨q0, q1, q2, q3⟩, f0, f1, f2, f3⟩ := Box.four kk)
            obtain ⟨U, hU, kU, bU⟩ := kk.stored (.int .u8 0) (.int .u8 0) (.int .u8 0) (.int .u8 0)
            obtain ⟨⟨u0, u1, u2, u3⟩, -⟩ := Box.four kU
            have hB := (HK.out.2.2.trans (b1.mono HK.out.2.2.size)).trans (bU w.heap.size (by omega))
            rw [hU]
            exact bodyPost_ret (by simp [results, Tryd.results14, go_sem, u0, u1, u2, u3]) rfl ⟨rfl, hB⟩
          · obtain ⟨hi, hat⟩ := atR_some hm ⟨by omega, by omega⟩ ⟨by omega, by omega⟩ (x := x) (y := y)
            have hpl := place_lt (w := r.w) (h := r.h) (x := x) (y := y) ⟨by omega, by omega⟩ ⟨by omega, by omega⟩
            have hpm := side_mul hm.1 hm.2.1
            obtain ⟨i, hii⟩ : ∃ i, (x + r.w * y).toNat = i := ⟨_, rfl⟩
            rw [hat, Option.getD_some, Option.isSome_some]
            simp only [hii] at hi ⊢
            obtain ⟨q, hqq⟩ : ∃ q, r.w * y = q := ⟨_, rfl⟩
            rw [hqq] at hpl hii
            have hwq : IntKind.i64.wrap q = q := IntWalk.i64_in _ (by have := hm.1; have := hm.2.1; omega)
            have hxi : x + q = (i : Int) := by omega
            have hwi : IntKind.i64.wrap (i : Int) = (i : Int) := IntWalk.i64_in _ (by omega)
            obtain ⟨g, a, hp, hg, hc⟩ := HQ.out.1.col hi
            subst hp
            obtain ⟨cc, hcc⟩ : ∃ cc, r.pix[i] = cc := ⟨_, rfl⟩
            rw [hcc] at hc ⊢
            have HC := Lib.hid (And.intro hc hg)
            have hi' : (i : Int) < (r.pix.length : Int) := by omega
            clear hc hg hat hii hpm hpl ho hcc hm
            go_enter Tryd.func14, Tryd.ntmps14
            go_wp2_with (go_at_call 18; with_reducible refine Calls.mono CM.out ?_; rintro e w1 ⟨rfl, b1⟩
                         have kk := HK.out.2.1.below b1 HK.out.2.1.lt
                         have BB := HK.out.2.2.trans (b1.mono HK.out.2.2.size)
                         obtain ⟨z0, z1, z2⟩ := Box.three (HK.out.1.below b1 HK.out.1.lt)
                         obtain ⟨⟨q0, q1, q2, q3⟩, f0, f1, f2, f3⟩ := Box.four kk
                         have e0 : w1.cell? ⟨g, a + i * 4, none⟩ = _ := (BB.cell (p := ⟨g, a + i * 4, none⟩) HC.out.2).trans HC.out.1.1
                         have e1 : w1.cell? ⟨g, a + i * 4 + 1, none⟩ = _ := (BB.cell (p := ⟨g, a + i * 4 + 1, none⟩) HC.out.2).trans HC.out.1.2.1
                         have e2 : w1.cell? ⟨g, a + i * 4 + 2, none⟩ = _ := (BB.cell (p := ⟨g, a + i * 4 + 2, none⟩) HC.out.2).trans HC.out.1.2.2.1
                         have e3 : w1.cell? ⟨g, a + i * 4 + 3, none⟩ = _ := (BB.cell (p := ⟨g, a + i * 4 + 3, none⟩) HC.out.2).trans HC.out.1.2.2.2)
            obtain ⟨U, hU, kU, bU⟩ := kk.stored (.int .u8 (cc.r.toNat : Int)) (.int .u8 (cc.g.toNat : Int)) (.int .u8 (cc.b.toNat : Int)) (.int .u8 (cc.a.toNat : Int))
            obtain ⟨⟨u0, u1, u2, u3⟩, -⟩ := Box.four kU
            have hB := BB.trans (bU w.heap.size (by omega))
            rw [hU]
            exact bodyPost_ret (by simp [results, Tryd.results14, go_sem, u0, u1, u2, u3, colV]) rfl ⟨rfl, hB⟩
  · have hmt : mayR r = false := by simp [mayR, hm]
    rw [hmt] at cM
    have CM := Lib.hid cM
    have HN := Lib.hid (at_no (r := r) (x := x) (y := y) fun h => hm h.1)
    clear cM hmt ho hm
    obtain ⟨hc1, hc2⟩ := HN.out
    rw [hc1, hc2, colV_zeroP]
    clear hc1 hc2
    go_enter Tryd.func14, Tryd.ntmps14
    go_wp2_with (go_at_call 18; with_reducible refine Calls.mono CM.out ?_; rintro e w1 ⟨rfl, b1⟩
                 have kk := HK.out.2.1.below b1 HK.out.2.1.lt
                 obtain ⟨z0, z1, z2⟩ := Box.three (HK.out.1.below b1 HK.out.1.lt)
                 obtain ⟨⟨q0, q1, q2, q3⟩, f0, f1, f2, f3⟩ := Box.four kk)
    obtain ⟨U, hU, kU, bU⟩ := kk.stored (.int .u8 0) (.int .u8 0) (.int .u8 0) (.int .u8 0)
    obtain ⟨⟨u0, u1, u2, u3⟩, -⟩ := Box.four kU
    have hB := (HK.out.2.2.trans (b1.mono HK.out.2.2.size)).trans (bU w.heap.size (by omega))
    rw [hU]
    exact bodyPost_ret (by simp [results, Tryd.results14, go_sem, u0, u1, u2, u3]) rfl ⟨rfl, hB⟩
end Go.Proofs.YtchfbpgbojnakaaDoor
/- Two rasters: are they the same? The document's own. -/

namespace Go.Proofs.YtchfbpgbojnakaaDoor
open Go.RowKit

theorem ras_two {w : World} (a b : Ras) (p q : Option Addr) (c d : Nat) : ∃ W, (w.alloc (.cells #[.int .i64 a.w, .int .i64 a.h, .slice p a.pix.length c] 24)).alloc (.cells #[.int .i64 b.w, .int .i64 b.h, .slice q b.pix.length d] 24) = W ∧
    (Box W w.heap.size 24 [.int .i64 a.w, .int .i64 a.h, .slice p a.pix.length c] ∧ Box W (w.heap.size + 1) 24 [.int .i64 b.w, .int .i64 b.h, .slice q b.pix.length d]) ∧ Below w.heap.size w W :=
  ⟨_, rfl, ⟨(Box.new w _ [.int .i64 a.w, .int .i64 a.h, .slice p a.pix.length c]).alloc _, Box.at_new _ _ [.int .i64 b.w, .int .i64 b.h, .slice q b.pix.length d] (by simp)⟩, ((Below.refl _ _).alloc (Nat.le_refl _) _).alloc (by simp) _⟩
theorem pix_step {a b : List Col} {i : Nat} (h : a.take i = b.take i) (ha : i < a.length) (hb : i < b.length) (he : a[i] = b[i]) : a.take (i + 1) = b.take (i + 1) := by
  rw [List.take_succ_eq_append_getElem ha, List.take_succ_eq_append_getElem hb, h, he]
theorem pix_not {a b : Ras} {i : Nat} (ha : i < a.pix.length) (hb : i < b.pix.length) (he : ¬ a.pix[i] = b.pix[i]) : ¬ a = b := fun e => he (by subst e; rfl)
theorem pix_end {a b : List Col} {n : Nat} (h : a.take n = b.take n) (ha : a.length = n) (hb : b.length = n) : a = b := by
  rw [List.take_of_length_le (by omega), List.take_of_length_le (by omega)] at h; exact h

set_option maxRecDepth 10000 in
set_option maxHeartbeats 3200000 in
theorem ref9_Same (a b : Ras) (p q : Option Addr) (c d : Nat) (w : World) (ha : RdV w w.heap.size p (rowCells a.pix)) (hb : RdV w w.heap.size q (rowCells b.pix)) (hl : a.pix.length ≤ 4611686018427387904) :
    Calls Tryd.prog 11 #[rasV a p c, rasV b q d] w (TellsIt (a = b) w) := by
  obtain ⟨W, hW, ⟨k1, k2⟩, B0⟩ := ras_two (w := w) a b p q c d
  obtain ⟨p0, p1, p2⟩ := Box.three k1
  obtain ⟨q0, q1, q2⟩ := Box.three k2
  have HK := Lib.hid (And.intro k1 (And.intro k2 B0))
  clear B0
  unfold rasV at *
  by_cases h1 : a.w = b.w
  · by_cases h2 : a.h = b.h
    · by_cases h3 : a.pix.length = b.pix.length
      · obtain ⟨n, hn⟩ : ∃ n, a.pix.length = n := ⟨_, rfl⟩
        have HA := Lib.hid hn
        have HB := Lib.hid (h3.symm.trans hn)
        have HE := Lib.hid (And.intro h1 h2)
        rw [← h1, ← h2, ← h3, hn] at hW HK ⊢
        rw [← h1] at q0
        rw [← h2] at q1
        rw [← h3, hn] at q2
        rw [hn] at p2 hl
        have HR := Lib.hid (And.intro ha hb)
        have hlt1 := k1.lt
        have hlt2 := k2.lt
        clear h1 h2 h3 hn k1 k2 ha hb
        go_enter Tryd.func11, Tryd.ntmps11
        go_wp2_with fail
        try rw [hW]
        clear hW p0 p1 p2 q0 q1 q2
        go_loopg [5] n (fun gh it wr => ∃ i : Nat, it = .int .i64 (i : Int) ∧ gh + i = n ∧ a.pix.take i = b.pix.take i ∧ Below W.heap.size W wr ∧ Below w.heap.size w wr)
        case atStart => exact ⟨0, rfl, by omega, rfl, Below.refl _ _, HK.out.2.2⟩
        case round =>
          obtain ⟨i, rfl, hg, hs, hB, hB0⟩ := hrel
          obtain ⟨-, -, p2⟩ := Box.three (HK.out.1.below hB hlt1)
          obtain ⟨-, -, q2⟩ := Box.three (HK.out.2.1.below hB hlt2)
          by_cases hlt : i < n
          · obtain ⟨g, o, hp, hgl, e0, e1, e2, e3⟩ := (HR.out.1.below hB0).col (i := i) (by rw [HA.out]; exact hlt)
            obtain ⟨g', o', hq, hgl', e0', e1', e2', e3'⟩ := (HR.out.2.below hB0).col (i := i) (by rw [HB.out]; exact hlt)
            subst hp hq
            have HS := Lib.hid (And.intro hs (And.intro hB hB0))
            have HNX := Lib.hid (pix_step hs (by rw [HA.out]; exact hlt) (by rw [HB.out]; exact hlt))
            have HNO := Lib.hid (pix_not (a := a) (b := b) (i := i) (by rw [HA.out]; exact hlt) (by rw [HB.out]; exact hlt))
            obtain ⟨x, hx⟩ : ∃ x, a.pix[i]'(by rw [HA.out]; exact hlt) = x := ⟨_, rfl⟩
            obtain ⟨y, hy⟩ : ∃ y, b.pix[i]'(by rw [HB.out]; exact hlt) = y := ⟨_, rfl⟩
            rw [hx] at e0 e1 e2 e3 HNX HNO
            rw [hy] at e0' e1' e2' e3' HNX HNO
            clear hs hB hB0 hx hy
            have hil : (i : Int) < (n : Int) := by omega
            by_cases r0 : x.r = y.r
            · by_cases r1 : x.g = y.g
              · by_cases r2 : x.b = y.b
                · by_cases r3 : x.a = y.a
                  · obtain rfl : x = y := Col.same.2 ⟨r0, r1, r2, r3⟩
                    have HX := Lib.hid (HNX.out rfl)
                    clear HNX HNO r0 r1 r2 r3
                    go_wp2_with fail
                    go_quiet (fail)
                    go_wp2_with fail
                    go_roundg (n - (i + 1))
                    case measure => omega
                    case rel => exact ⟨i + 1, by simp, by omega, HX.out, below_figE HS.out.2.1 nq, below_figE HS.out.2.2 nq⟩
                  · have r3' : ¬ (x.a.toNat : Int) = (y.a.toNat : Int) := fun e => r3 (UInt8.toNat_inj.1 (by omega))
                    rw [r0] at e0
                    rw [r1] at e1
                    rw [r2] at e2
                    go_wp2_with fail
                    go_quiet (fail)
                    go_wp2_with fail
                    go_ret
                    exact ⟨⟨false, rfl, by simp [HNO.out (fun e => r3 (by rw [e]))]⟩, below_figE HS.out.2.2 nq⟩
                · have r2' : ¬ (x.b.toNat : Int) = (y.b.toNat : Int) := fun e => r2 (UInt8.toNat_inj.1 (by omega))
                  rw [r0] at e0
                  rw [r1] at e1
                  go_wp2_with fail
                  go_quiet (fail)
                  go_wp2_with fail
                  go_ret
                  exact ⟨⟨false, rfl, by simp [HNO.out (fun e => r2 (by rw [e]))]⟩, below_figE HS.out.2.2 nq⟩
              · have r1' : ¬ (x.g.toNat : Int) = (y.g.toNat : Int) := fun e => r1 (UInt8.toNat_inj.1 (by omega))
                rw [r0] at e0
                go_wp2_with fail
                go_quiet (fail)
                go_wp2_with fail
                go_ret
                exact ⟨⟨false, rfl, by simp [HNO.out (fun e => r1 (by rw [e]))]⟩, below_figE HS.out.2.2 nq⟩
            · have r0' : ¬ (x.r.toNat : Int) = (y.r.toNat : Int) := fun e => r0 (UInt8.toNat_inj.1 (by omega))
              go_wp2_with fail
              go_quiet (fail)
              go_wp2_with fail
              go_ret
              exact ⟨⟨false, rfl, by simp [HNO.out (fun e => r0 (by rw [e]))]⟩, below_figE HS.out.2.2 nq⟩
          · obtain rfl : i = n := by omega
            have HF := Lib.hid (And.intro (show a = b from Ras.same.2 ⟨HE.out.1, HE.out.2, pix_end hs HA.out HB.out⟩) hB0)
            clear hs hB hB0
            go_wp2_with fail
            go_ret
            exact ⟨⟨true, rfl, by simp [HF.out.1]⟩, HF.out.2⟩
      · have h3' : ¬ (a.pix.length : Int) = (b.pix.length : Int) := by omega
        replace h1 := Lib.hid h1
        replace h2 := Lib.hid h2
        have HN := Lib.hid (show ¬ a = b from fun e => h3 (by rw [e]))
        clear k1 k2 ha hb
        go_enter Tryd.func11, Tryd.ntmps11
        go_wp2_with fail
        go_ret
        exact ⟨⟨false, rfl, by simp [HN.out]⟩, HK.out.2.2⟩
    · replace h1 := Lib.hid h1
      have HN := Lib.hid (show ¬ a = b from fun e => h2 (by rw [e]))
      clear k1 k2 ha hb
      go_enter Tryd.func11, Tryd.ntmps11
      go_wp2_with fail
      go_ret
      exact ⟨⟨false, rfl, by simp [HN.out]⟩, HK.out.2.2⟩
  · skip
    have HN := Lib.hid (show ¬ a = b from fun e => h1 (by rw [e]))
    clear k1 k2 ha hb
    go_enter Tryd.func11, Tryd.ntmps11
    go_wp2_with fail
    go_ret
    exact ⟨⟨false, rfl, by simp [HN.out]⟩, HK.out.2.2⟩
end Go.Proofs.YtchfbpgbojnakaaDoor
