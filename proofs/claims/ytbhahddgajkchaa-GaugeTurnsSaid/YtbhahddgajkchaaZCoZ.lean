/- Colours as plain mathematics: parts by 255, weighing, laying over, fading, mixing, figures. -/
import Derived.Test.YtbhahddgajkchaaZFgX
import Derived.WalkKit
import Derived.Test.YtbhahddgajkchaaChecked
import Derived.Lib.Hide
import Derived.WalkLawsBesides
import Derived.Deep.RegionHeld3
namespace Go.Proofs.Ytbhahddgajkchaa

/-- a colour's four parts -/
structure Col where
  r : UInt8
  g : UInt8
  b : UInt8
  a : UInt8
theorem Col.same {c d : Col} : c = d ↔ c.r = d.r ∧ c.g = d.g ∧ c.b = d.b ∧ c.a = d.a := by
  cases c; cases d; simp
def col0 : Col := ⟨0, 0, 0, 0⟩
/-- a colour as it lies -/
def colCells (c : Col) : List Value := [.int .u8 (c.r.toNat : Int), .int .u8 (c.g.toNat : Int), .int .u8 (c.b.toNat : Int), .int .u8 (c.a.toNat : Int)]
def colV (c : Col) : Value := .agg #[.int .u8 (c.r.toNat : Int), .int .u8 (c.g.toNat : Int), .int .u8 (c.b.toNat : Int), .int .u8 (c.a.toNat : Int)]
/-- a number by 255, to the nearest -/
def partU (n : Int) : UInt8 := if n < 0 then 0 else if 65025 < n then 255 else UInt8.ofNat ((n + 127) / 255).toNat
theorem partU_low {n : Int} (h : n < 0) : partU n = 0 := by unfold partU; rw [if_pos h]
theorem partU_high {n : Int} (h : 65025 < n) : partU n = 255 := by unfold partU; rw [if_neg (by omega), if_pos h]
theorem partU_mid {n : Int} (h0 : 0 ≤ n) (h1 : n ≤ 65025) : ((partU n).toNat : Int) = (n + 127) / 255 := by
  unfold partU
  rw [if_neg (by omega), if_neg (by omega)]
  simp only [UInt8.toNat_ofNat']
  omega
theorem partU_is {n : Int} {u : UInt8} (h0 : 0 ≤ n) (h1 : n ≤ 65025) (h : (u.toNat : Int) = (n + 127) / 255) : partU n = u := by
  have := partU_mid h0 h1
  exact UInt8.toNat_inj.1 (by omega)
def timesU (a b : UInt8) : UInt8 := partU ((a.toNat : Int) * (b.toNat : Int))
theorem mul_parts (a b : UInt8) : 0 ≤ (a.toNat : Int) * (b.toNat : Int) ∧ (a.toNat : Int) * (b.toNat : Int) ≤ 65025 := by
  have ha := a.toNat_lt
  have hb := b.toNat_lt
  have h : a.toNat * b.toNat ≤ 255 * 255 := Nat.mul_le_mul (by omega) (by omega)
  have e : (a.toNat : Int) * (b.toNat : Int) = ((a.toNat * b.toNat : Nat) : Int) := by simp
  omega
theorem timesU_nat (a b : UInt8) : (timesU a b).toNat = (a.toNat * b.toNat + 127) / 255 := by
  obtain ⟨h0, h1⟩ := mul_parts a b
  have h := partU_mid h0 h1
  have e : (a.toNat : Int) * (b.toNat : Int) = ((a.toNat * b.toNat : Nat) : Int) := by simp
  unfold timesU
  omega
def weighC (c : Col) : Col := ⟨timesU c.r c.a, timesU c.g c.a, timesU c.b c.a, c.a⟩
def mayC (c : Col) : Bool := decide (c.r.toNat ≤ c.a.toNat) && decide (c.g.toNat ≤ c.a.toNat) && decide (c.b.toNat ≤ c.a.toNat)
/-- one part over another one -/
def overU (a b cover : UInt8) : UInt8 := UInt8.ofNat (min 255 (a.toNat + (timesU b (255 - cover)).toNat))
theorem not255 (u : UInt8) : (255 - u).toNat = 255 - u.toNat := by
  have h := u.toNat_lt
  rw [UInt8.toNat_sub_of_le _ _ (by rw [UInt8.le_iff_toNat_le]; exact Nat.le_of_lt_succ h)]
  rfl
theorem overU_nat (a b cover : UInt8) : (overU a b cover).toNat = min 255 (a.toNat + (timesU b (255 - cover)).toNat) := by
  unfold overU
  simp only [UInt8.toNat_ofNat']
  omega
def overC (c d : Col) : Col := ⟨overU c.r d.r c.a, overU c.g d.g c.a, overU c.b d.b c.a, overU c.a d.a c.a⟩
def fadeC (c : Col) (n : UInt8) : Col := ⟨timesU c.r n, timesU c.g n, timesU c.b n, timesU c.a n⟩
def mixU (a b n : UInt8) : UInt8 := partU ((a.toNat : Int) * (255 - (n.toNat : Int)) + (b.toNat : Int) * (n.toNat : Int))
def mixC (c d : Col) (n : UInt8) : Col := ⟨mixU c.r d.r n, mixU c.g d.g n, mixU c.b d.b n, mixU c.a d.a n⟩

/-! what follows -/
theorem timesU_le (a b : UInt8) : (timesU a b).toNat ≤ b.toNat := by
  rw [timesU_nat]
  have ha := a.toNat_lt
  have h : a.toNat * b.toNat ≤ 255 * b.toNat := Nat.mul_le_mul_right _ (by omega)
  omega
theorem timesU_mono {a b : UInt8} (h : a.toNat ≤ b.toNat) (n : UInt8) : (timesU a n).toNat ≤ (timesU b n).toNat := by
  rw [timesU_nat, timesU_nat]
  have h : a.toNat * n.toNat ≤ b.toNat * n.toNat := Nat.mul_le_mul_right _ h
  omega
theorem timesU_zero (n : UInt8) : timesU 0 n = 0 := UInt8.toNat_inj.1 (by rw [timesU_nat]; simp)
theorem timesU_none (n : UInt8) : timesU n 0 = 0 := UInt8.toNat_inj.1 (by rw [timesU_nat]; simp)
theorem timesU_all (n : UInt8) : timesU n 255 = n := UInt8.toNat_inj.1 (by
  rw [timesU_nat]
  have : (255 : UInt8).toNat = 255 := rfl
  rw [this]
  omega)
theorem may_weigh (c : Col) : mayC (weighC c) = true := by
  simp [mayC, weighC, timesU_le]
theorem may_iff {c : Col} : mayC c = true ↔ c.r.toNat ≤ c.a.toNat ∧ c.g.toNat ≤ c.a.toNat ∧ c.b.toNat ≤ c.a.toNat := by
  simp [mayC, and_assoc]
theorem overU_mono {a a' b b' : UInt8} (h : a.toNat ≤ a'.toNat) (h' : b.toNat ≤ b'.toNat) (n : UInt8) : (overU a b n).toNat ≤ (overU a' b' n).toNat := by
  rw [overU_nat, overU_nat]
  have := timesU_mono h' (255 - n)
  omega
theorem may_over {c d : Col} (h : mayC c = true) (h' : mayC d = true) : mayC (overC c d) = true := by
  obtain ⟨h1, h2, h3⟩ := may_iff.1 h
  obtain ⟨h1', h2', h3'⟩ := may_iff.1 h'
  exact may_iff.2 ⟨overU_mono h1 h1' _, overU_mono h2 h2' _, overU_mono h3 h3' _⟩
theorem may_fade {c : Col} (h : mayC c = true) (n : UInt8) : mayC (fadeC c n) = true := by
  obtain ⟨h1, h2, h3⟩ := may_iff.1 h
  exact may_iff.2 ⟨timesU_mono h1 n, timesU_mono h2 n, timesU_mono h3 n⟩
theorem overU_full (a b : UInt8) : overU a b 255 = a := UInt8.toNat_inj.1 (by
  rw [overU_nat, show (255 - 255 : UInt8) = 0 from rfl, timesU_none]
  have := a.toNat_lt
  simp
  omega)
theorem overU_none (b : UInt8) : overU 0 b 0 = b := UInt8.toNat_inj.1 (by
  rw [overU_nat, show (255 - 0 : UInt8) = 255 from rfl, timesU_all]
  have := b.toNat_lt
  simp
  omega)
theorem overU_zero (a n : UInt8) : overU a 0 n = a := UInt8.toNat_inj.1 (by
  rw [overU_nat, timesU_zero]
  have := a.toNat_lt
  simp
  omega)
theorem over_all (c d : Col) (h : c.a = 255) : overC c d = c := by
  cases c
  subst h
  simp [overC, overU_full]
theorem over_nothing (d : Col) : overC col0 d = d := by simp [overC, col0, overU_none]
theorem over_blank (c : Col) : overC c col0 = c := by simp [overC, col0, overU_zero]
theorem fade_all (c : Col) : fadeC c 255 = c := by simp [fadeC, timesU_all]
theorem fade_none (c : Col) : fadeC c 0 = col0 := by simp [fadeC, timesU_none, col0]
theorem mixU_zero (a b : UInt8) : mixU a b 0 = a := by
  have := a.toNat_lt
  exact partU_is (by simp; omega) (by simp; omega) (by simp; omega)
theorem mixU_all (a b : UInt8) : mixU a b 255 = b := by
  have := b.toNat_lt
  have e : (255 : UInt8).toNat = 255 := rfl
  exact partU_is (by rw [e]; omega) (by rw [e]; omega) (by rw [e]; omega)
theorem mix_zero (c d : Col) : mixC c d 0 = c := by simp [mixC, mixU_zero]
theorem mix_all (c d : Col) : mixC c d 255 = d := by simp [mixC, mixU_all]
theorem over_covers (c d : Col) : c.a.toNat ≤ (overC c d).a.toNat := by
  show c.a.toNat ≤ (overU c.a d.a c.a).toNat
  rw [overU_nat]
  have := c.a.toNat_lt
  omega
/-- a colour in figures, and the colour of figures -/
def colBy (c : Col) : By := [c.r, c.g, c.b, c.a]
def colOf : By → Option Col
  | [r, g, b, a] => some ⟨r, g, b, a⟩
  | _ => none
theorem colOf_by (c : Col) : colOf (colBy c) = some c := rfl
theorem colOf_long {l : By} (h : l.length ≠ 4) : colOf l = none := by
  match l, h with
  | [], _ => rfl
  | [_], _ => rfl
  | [_, _], _ => rfl
  | [_, _, _], _ => rfl
  | [_, _, _, _], h => exact absurd rfl h
  | _ :: _ :: _ :: _ :: _ :: _, _ => rfl
theorem colOf_four {l : By} (h : l.length = 4) : ∃ c, l = colBy c ∧ colOf l = some c := by
  match l, h with
  | [r, g, b, a], _ => exact ⟨⟨r, g, b, a⟩, rfl, rfl⟩
/-- the colour whose text this is -/
def colRead (s : By) : Option Col := (unhexOf s).bind colOf
theorem colRead_text (c : Col) : colRead (hexOf (colBy c)) = some c := by simp [colRead, unhexOf_hex, colOf_by]
end Go.Proofs.Ytbhahddgajkchaa
/- Colours: the document's own parts by 255. -/

namespace Go.Proofs.Ytbhahddgajkchaa
open Go.RowKit

end Go.Proofs.Ytbhahddgajkchaa
/- Colours: the document's own Weigh, May, Over, Fade, Mix. -/

namespace Go.Proofs.Ytbhahddgajkchaa
open Go.RowKit

/-- block g is a box with just these cells -/
def Box (w : World) (g : Nat) (t : TypeId) (vs : List Value) : Prop := w.heap[g]? = some (.cells vs.toArray t (0, 0))
section
variable {w w' : World} {g : Nat} {t : TypeId} {vs : List Value}
theorem Box.lt (h : Box w g t vs) : g < w.heap.size := by
  rcases Nat.lt_or_ge g w.heap.size with hlt | hge
  · exact hlt
  · unfold Box at h; rw [Array.getElem?_eq_none hge] at h; cases h
theorem Box.cell (h : Box w g t vs) (i : Nat) {v : Value} (hv : vs[i]? = some v) : w.cell? ⟨g, i, none⟩ = some v := by
  rw [cell_of_row w g i _ t (0, 0) h]
  simpa using hv
theorem Box.frozen (h : Box w g t vs) (i : Nat) : w.frozen? ⟨g, i, none⟩ = false := frozen_of_row w g i _ t h
theorem Box.set (h : Box w g t vs) (i : Nat) (v : Value) : Box (w.setCell ⟨g, i, none⟩ v) g t (vs.set i v) := by
  have := heap_setCell_same w g i _ t v h
  unfold Box
  rw [this]
  simp
theorem Box.far (h : Box w g t vs) {p : Addr} (hp : g ≠ p.block) (u : Value) : Box (w.setCell p u) g t vs := (Below.heap_setCell w p u g hp).trans h
theorem Box.alloc (h : Box w g t vs) (o : Obj) : Box (w.alloc o) g t vs := (Below.heap_alloc w o g h.lt).trans h
theorem Box.drewN (h : Box w g t vs) (n : Nat) : Box (w.drewN n) g t vs := h
theorem Box.new (w : World) (t : TypeId) (vs : List Value) : Box (w.alloc (.cells vs.toArray t)) w.heap.size t vs := heap_alloc_new w _
theorem Box.at_new (w : World) (t : TypeId) (vs : List Value) {g : Nat} (hg : g = w.heap.size) : Box (w.alloc (.cells vs.toArray t)) g t vs := by rw [hg]; exact Box.new w t vs
theorem Box.below {B : Nat} (h : Box w g t vs) (hb : Below B w w') (hg : g < B) : Box w' g t vs := (hb.block g hg).trans h
/-- a box of four, as a colour lies -/
theorem Box.four {a b c d : Value} (h : Box w g t [a, b, c, d]) : (w.cell? ⟨g, 0, none⟩ = some a ∧ w.cell? ⟨g, 1, none⟩ = some b ∧ w.cell? ⟨g, 2, none⟩ = some c ∧ w.cell? ⟨g, 3, none⟩ = some d) ∧
    (w.frozen? ⟨g, 0, none⟩ = false ∧ w.frozen? ⟨g, 1, none⟩ = false ∧ w.frozen? ⟨g, 2, none⟩ = false ∧ w.frozen? ⟨g, 3, none⟩ = false) :=
  ⟨⟨h.cell 0 rfl, h.cell 1 rfl, h.cell 2 rfl, h.cell 3 rfl⟩, h.frozen 0, h.frozen 1, h.frozen 2, h.frozen 3⟩
/-- .. and what four stores leave -/
theorem Box.stored {a b c d : Value} (h : Box w g t [a, b, c, d]) (x y z u : Value) : ∃ U, (((w.setCell ⟨g, 0, none⟩ x).setCell ⟨g, 1, none⟩ y).setCell ⟨g, 2, none⟩ z).setCell ⟨g, 3, none⟩ u = U ∧ Box U g t [x, y, z, u] ∧ (∀ B, B ≤ g → Below B w U) := by
  refine ⟨_, rfl, ?_, fun B hB => ((((Below.refl B w).setCell (p := ⟨g, 0, none⟩) hB x).setCell (p := ⟨g, 1, none⟩) hB y).setCell (p := ⟨g, 2, none⟩) hB z).setCell (p := ⟨g, 3, none⟩) hB u⟩
  exact (((h.set 0 x).set 1 y).set 2 z).set 3 u
end

/-- a colour's box, as it is made -/
def zero4 : List Value := [.int .u8 0, .int .u8 0, .int .u8 0, .int .u8 0]

end Go.Proofs.Ytbhahddgajkchaa
