/- Paths, the document's own: Segs; rows that are the same. -/
import Derived.Test.YtbhahddgajkchaaZPtX
namespace Go.Proofs.Ytbhahddgajkchaa
open Go.RowKit

def Lv.all (V : List Lv) : List Ln := V.map Lv.ln
/-- the ways around the first lines -/
def segsI (V : List Lv) (i : Nat) : List Sg := segsM (Lv.all (V.take i))
theorem segsI_step {V : List Lv} {i : Nat} (hi : i < V.length) : segsI V (i + 1) = segsI V i ++ segsOf V[i].pts := by
  unfold segsI Lv.all segsM
  rw [List.take_succ_eq_append_getElem hi]
  simp only [List.map_append, List.flatMap_append, List.map_cons, List.map_nil, List.flatMap_cons, List.flatMap_nil, List.append_nil]
  rfl
theorem segsI_all (V : List Lv) : segsI V V.length = segsM (Lv.all V) := by unfold segsI; rw [List.take_length]
def sumP : List Lv → Nat
  | [] => 0
  | x :: r => x.pts.length + sumP r
theorem sumP_append : ∀ a b : List Lv, sumP (a ++ b) = sumP a + sumP b
  | [], b => by simp [sumP]
  | x :: a, b => by
    have h := sumP_append a b
    simp only [List.cons_append, sumP, h]
    omega
theorem segsI_le {V : List Lv} : ∀ {i : Nat}, i ≤ V.length → (segsI V i).length ≤ sumP (V.take i)
  | 0, _ => by simp [segsI, Lv.all, segsM]
  | i + 1, h => by
    have h1 := segsI_le (V := V) (i := i) (by omega)
    have h2 := segTo_le V[i].pts V[i].pts.length
    rw [segsI_step (by omega), List.length_append, List.take_succ_eq_append_getElem (by omega), sumP_append]
    simp only [sumP]
    unfold segsOf
    omega
theorem sumP_take {V : List Lv} {i : Nat} (hi : i < V.length) : sumP (V.take i) + V[i].pts.length ≤ sumP V := by
  have h := List.take_append_drop i V
  have h2 := congrArg sumP h
  rw [sumP_append, List.drop_eq_getElem_cons hi] at h2
  simp only [sumP] at h2
  omega

theorem four_new (w : World) (t : TypeId) (a b c d : Value) : ∀ j u, [a, b, c, d][j]? = some u → (w.alloc (.cells #[a, b, c, d] t)).cell? ((⟨w.heap.size, 0, none⟩ : Addr).add j) = some u := by
  intro j u hj
  rw [addr_add, Nat.zero_add]
  exact (Box.new w t [a, b, c, d]).cell j hj
theorem segTo_old {l : List Pt} {k : Nat} (h : l.getD k pt0 = nextP l k) : segTo l (k + 1) = segTo l k := if_pos h
theorem segTo_new {l : List Pt} {k : Nat} (h : ¬ l.getD k pt0 = nextP l k) : segTo l (k + 1) = segTo l k ++ [⟨l.getD k pt0, nextP l k⟩] := if_neg h

end Go.Proofs.Ytbhahddgajkchaa
