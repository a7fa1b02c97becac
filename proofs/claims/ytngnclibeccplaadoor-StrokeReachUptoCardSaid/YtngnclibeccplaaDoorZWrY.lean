/- The second layer's laws: a quotient below 0 is right. -/
import Derived.Test.YtngnclibeccplaaDoorZOaD
import Derived.Test.YtngnclibeccplaaDoorZWrX
import Derived.Test.YtngnclibeccplaaDoorZWhX
import Derived.Deep.CutRange
import Derived.Deep.RegionWith
import Derived.StillTailTactics
namespace Go.Proofs.YtngnclibeccplaaDoor
open Go.RowKit Num

/-- the number of a size below 2^32 -/
theorem whole_Of_at (n : Int) (m : Nat) (d : Bool) (hd : decide (n < 0) = d) (hm : n.natAbs = m) (h0 : 0 < m) (hs : m < 4294967296) (w : World) :
    Calls Tryd.prog 61 #[.int .i64 n] w fun e w' => ∃ A c, e = .returned (.agg #[.bool d, .slice A 1 c]) ∧ 1 ≤ c ∧ Rd w' (fun g => g < w'.heap.size) .u32 A [m] ∧ Below w.heap.size w w' := by
  refine (whole_Of n (by omega) (by omega) w).mono ?_
  rintro e w' ⟨A, xs, c, rfl, hc, hn, hv, hr, hb⟩
  obtain rfl : xs = [m] := Norm.ext (b := 4294967296) (by omega) hn ⟨by simp [Dg]; omega, by simp [Top]; omega⟩ (by rw [hv, hm]; simp [val])
  exact ⟨A, c, by rw [hd]; rfl, hc, hr, hb⟩

/-- a whole number of at most m words -/
def GivesWL (N : Int) (m : Nat) (w : World) (e : Ending) (w' : World) : Prop :=
  ∃ A xs c, e = .returned (.agg #[.bool (decide (N < 0)), .slice A xs.length c]) ∧ xs.length ≤ c ∧ xs.length ≤ m ∧ Norm 4294967296 xs ∧ val 4294967296 xs = N.natAbs ∧ Rd w' (fun g => g < w'.heap.size) .u32 A xs ∧ Below w.heap.size w w'
theorem lim {N : Int} {m : Nat} {w w' : World} {e : Ending} (hN : N.natAbs < 4294967296 ^ m) (h : GivesW N w e w') : GivesWL N m w e w' := by
  obtain ⟨A, xs, c, h1, h2, h3, h4, h5, h6⟩ := h
  exact ⟨A, xs, c, h1, h2, h3.2.length_le (b := 4294967296) (by omega) (by rw [h4]; exact hN), h3, h4, h5, h6⟩
theorem lim_sum {a b : List Nat} {m n : Nat} {N : Int} (ha : Dg 4294967296 a) (hb : Dg 4294967296 b) (h1 : a.length ≤ n) (h2 : b.length ≤ n) (hm : n + 1 ≤ m) (hN : N.natAbs ≤ val 4294967296 a + val 4294967296 b) : N.natAbs < 4294967296 ^ m := by
  have k1 := val_lt_pow ha (by omega) h1
  have k2 := val_lt_pow hb (by omega) h2
  have k3 : 4294967296 ^ (n + 1) ≤ 4294967296 ^ m := Nat.pow_le_pow_right (by omega) hm
  rw [Nat.pow_succ] at k3
  omega
theorem lim_one {a : List Nat} {m : Nat} {N : Int} (ha : Dg 4294967296 a) (h1 : a.length ≤ m) (hN : N.natAbs ≤ val 4294967296 a) : N.natAbs < 4294967296 ^ m := by
  have k1 := val_lt_pow ha (by omega) h1
  omega
theorem lim_prod {a b : List Nat} {m : Nat} (n1 n2 : Bool) (ha : Dg 4294967296 a) (hb : Dg 4294967296 b) (h1 : a.length + b.length ≤ m) : (wv n1 a * wv n2 b).natAbs < 4294967296 ^ m := by
  rw [Int.natAbs_mul, wv_abs, wv_abs]
  refine Nat.lt_of_lt_of_le (Nat.mul_lt_mul'' (val_lt ha) (val_lt hb)) ?_
  rw [← Nat.pow_add]
  exact Nat.pow_le_pow_right (by omega) h1
theorem next {B : Nat} {W V w' : World} (K : Below B W V) (hB : B ≤ W.heap.size) (b : Below V.heap.size V w') : Below B W w' := K.trans (b.mono (Nat.le_trans hB K.size))
end Go.Proofs.YtngnclibeccplaaDoor
/- Whole numbers, the document's own: what Div answers. -/

namespace Go.Proofs.YtngnclibeccplaaDoor
open Go.RowKit Num

theorem keep6 {V w1 : World} {g g10 B : Nat} {n1 n2 n3 : Bool} {v1 v2 v3 : Value} (k1 : V.cell? ⟨g, 0, none⟩ = some (.bool n1)) (k2 : V.cell? ⟨g, 1, none⟩ = some v1) (k3 : V.cell? ⟨g + 1, 0, none⟩ = some (.bool n2)) (k4 : V.cell? ⟨g + 1, 1, none⟩ = some v2) (k5 : V.cell? ⟨g10, 0, none⟩ = some (.bool n3)) (k6 : V.cell? ⟨g10, 1, none⟩ = some v3)
    (hB : g + 2 ≤ B) (h10 : g10 < B) (hb : Below B V w1) :
    w1.cell? ⟨g, 0, none⟩ = some (.bool n1) ∧ w1.cell? ⟨g, 1, none⟩ = some v1 ∧ w1.cell? ⟨g + 1, 0, none⟩ = some (.bool n2) ∧ w1.cell? ⟨g + 1, 1, none⟩ = some v2 ∧ w1.cell? ⟨g10, 0, none⟩ = some (.bool n3) ∧ w1.cell? ⟨g10, 1, none⟩ = some v3 :=
  ⟨(hb.cell (p := ⟨g, 0, none⟩) (show g < B by omega)).trans k1, (hb.cell (p := ⟨g, 1, none⟩) (show g < B by omega)).trans k2, (hb.cell (p := ⟨g + 1, 0, none⟩) (show g + 1 < B by omega)).trans k3, (hb.cell (p := ⟨g + 1, 1, none⟩) (show g + 1 < B by omega)).trans k4, (hb.cell (p := ⟨g10, 0, none⟩) h10).trans k5, (hb.cell (p := ⟨g10, 1, none⟩) h10).trans k6⟩
theorem four_at {w : World} {g g' : Nat} {x y x' y' : Value} {t t' : TypeId} (h : w.heap[g]? = some (.cells #[x, y] t (0, 0))) (h' : w.heap[g']? = some (.cells #[x', y'] t' (0, 0))) : w.cell? ⟨g, 0, none⟩ = some x ∧ w.cell? ⟨g, 1, none⟩ = some y ∧ w.cell? ⟨g', 0, none⟩ = some x' ∧ w.cell? ⟨g', 1, none⟩ = some y' :=
  ⟨(cells_of h).1, (cells_of h).2.1, (cells_of h').1, (cells_of h').2.1⟩
theorem heap_two {w : World} {k s : Nat} (h : ¬ k = s) (u v : Value) : ((w.setCell ⟨s, 0, none⟩ u).setCell ⟨s, 1, none⟩ v).heap[k]? = w.heap[k]? :=
  (Below.heap_setCell _ _ _ _ h).trans (Below.heap_setCell _ _ _ _ h)
theorem far0 {w : World} {g g' : Nat} {x y x' y' : Value} {t t' : TypeId} (h : w.heap[g]? = some (.cells #[x, y] t (0, 0))) (h' : w.heap[g']? = some (.cells #[x', y'] t' (0, 0))) : w.drew.cell? ⟨g, 0, none⟩ = some x ∧ w.drew.cell? ⟨g, 1, none⟩ = some y ∧ w.drew.cell? ⟨g', 0, none⟩ = some x' ∧ w.drew.cell? ⟨g', 1, none⟩ = some y' := four_at (w := w.drew) h h'
theorem far1 {w : World} {g g' s : Nat} {x y x' y' : Value} {t t' : TypeId} (n1 : ¬ g = s) (n2 : ¬ g' = s) (u v : Value) (h : w.heap[g]? = some (.cells #[x, y] t (0, 0))) (h' : w.heap[g']? = some (.cells #[x', y'] t' (0, 0))) :
    ((w.setCell ⟨s, 0, none⟩ u).setCell ⟨s, 1, none⟩ v).drew.cell? ⟨g, 0, none⟩ = some x ∧ ((w.setCell ⟨s, 0, none⟩ u).setCell ⟨s, 1, none⟩ v).drew.cell? ⟨g, 1, none⟩ = some y ∧ ((w.setCell ⟨s, 0, none⟩ u).setCell ⟨s, 1, none⟩ v).drew.cell? ⟨g', 0, none⟩ = some x' ∧ ((w.setCell ⟨s, 0, none⟩ u).setCell ⟨s, 1, none⟩ v).drew.cell? ⟨g', 1, none⟩ = some y' :=
  far0 ((heap_two n1 u v).trans h) ((heap_two n2 u v).trans h')
theorem far2 {w : World} {g g' s s' : Nat} {x y x' y' : Value} {t t' : TypeId} (n1 : ¬ g = s) (n2 : ¬ g' = s) (n3 : ¬ g = s') (n4 : ¬ g' = s') (u v u' v' : Value) (h : w.heap[g]? = some (.cells #[x, y] t (0, 0))) (h' : w.heap[g']? = some (.cells #[x', y'] t' (0, 0))) :
    ((((w.setCell ⟨s, 0, none⟩ u).setCell ⟨s, 1, none⟩ v).setCell ⟨s', 0, none⟩ u').setCell ⟨s', 1, none⟩ v').drew.cell? ⟨g, 0, none⟩ = some x ∧ ((((w.setCell ⟨s, 0, none⟩ u).setCell ⟨s, 1, none⟩ v).setCell ⟨s', 0, none⟩ u').setCell ⟨s', 1, none⟩ v').drew.cell? ⟨g, 1, none⟩ = some y ∧ ((((w.setCell ⟨s, 0, none⟩ u).setCell ⟨s, 1, none⟩ v).setCell ⟨s', 0, none⟩ u').setCell ⟨s', 1, none⟩ v').drew.cell? ⟨g', 0, none⟩ = some x' ∧ ((((w.setCell ⟨s, 0, none⟩ u).setCell ⟨s, 1, none⟩ v).setCell ⟨s', 0, none⟩ u').setCell ⟨s', 1, none⟩ v').drew.cell? ⟨g', 1, none⟩ = some y' :=
  far1 n3 n4 u' v' ((heap_two n1 u v).trans h) ((heap_two n2 u v).trans h')
theorem keep2 {w w1 : World} {g B : Nat} {x y : Value} (k1 : w.cell? ⟨g, 0, none⟩ = some x) (k3 : w.cell? ⟨g + 1, 0, none⟩ = some y) (hB : g + 2 ≤ B) (hb : Below B w w1) : w1.cell? ⟨g, 0, none⟩ = some x ∧ w1.cell? ⟨g + 1, 0, none⟩ = some y :=
  ⟨(hb.cell (p := ⟨g, 0, none⟩) (show g < B by omega)).trans k1, (hb.cell (p := ⟨g + 1, 0, none⟩) (show g + 1 < B by omega)).trans k3⟩
theorem next_drew {U o w1 : World} {ob : Obj} (ho : o = (U.alloc ob).drew) (hb : Below o.heap.size o w1) : Below U.heap.size U w1 := by
  subst ho
  exact (below_drewN (below_new U ob) 1).trans (hb.mono (by show U.heap.size ≤ (U.alloc ob).heap.size; simp))
/-- what is left, from a quotient that may be one too small -/
theorem rest_flat {n1 n2 : Bool} {N D : Int} {n d p m : Nat} (hN : N = if n1 then -(n : Int) else n) (hD : D = if n2 then -(d : Int) else d) (hk : d * p + m = n) (hm : m < d) (hx : n1 = true → m = 0) : N - (if (n1 != n2) then -(p : Int) else p) * D = m := by
  obtain ⟨h1, h2⟩ := quo_flat n1 n2 hN hD hk hm hx
  rw [← h1, ← h2, Int.mul_comm]
  have := Int.mul_ediv_add_emod N D
  omega
theorem rest_up {n2 : Bool} {N D : Int} {n d p m : Nat} (hN : N = -(n : Int)) (hD : D = if n2 then -(d : Int) else d) (hk : d * p + m = n) : N - (if (true != n2) then -(p : Int) else p) * D = -(m : Int) := by
  have hk' : (d : Int) * p + m = n := by exact_mod_cast hk
  subst hN hD
  cases n2
  · show -(n : Int) - -(p : Int) * (d : Int) = -(m : Int)
    rw [Int.neg_mul, Int.mul_comm (p : Int)]; omega
  · show -(n : Int) - (p : Int) * -(d : Int) = -(m : Int)
    rw [Int.mul_neg, Int.mul_comm (p : Int)]; omega
theorem rest_last {N D : Int} : N - N / D * D = N % D := by
  have := Int.mul_ediv_add_emod N D
  rw [Int.mul_comm] at this
  omega

end Go.Proofs.YtngnclibeccplaaDoor
/- Whole numbers, the document's own: what Of answers. -/

namespace Go.Proofs.YtngnclibeccplaaDoor
open Go.RowKit Num

end Go.Proofs.YtngnclibeccplaaDoor
