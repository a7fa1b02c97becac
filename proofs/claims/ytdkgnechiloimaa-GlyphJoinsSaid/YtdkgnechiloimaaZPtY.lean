/- Paths, the document's own: Count. -/
import Derived.Test.YtdkgnechiloimaaZPtX
import Derived.StillTailTactics
namespace Go.Proofs.Ytdkgnechiloimaa
open Go.RowKit

theorem FitL.three {a b c : Pt} (ha : FitP a) (hb : FitP b) (hc : FitP c) : FitL [a, b, c] := fun p hp => by
  simp only [List.mem_cons, List.not_mem_nil, or_false] at hp
  rcases hp with rfl | rfl | rfl <;> assumption
theorem FitL.four {a b c d : Pt} (ha : FitP a) (hb : FitP b) (hc : FitP c) (hd : FitP d) : FitL [a, b, c, d] := fun p hp => by
  simp only [List.mem_cons, List.not_mem_nil, or_false] at hp
  rcases hp with rfl | rfl | rfl | rfl <;> assumption
theorem fitL_btw {l : List Pt} (h : Btw (-8388607) 8388607 (-8388607) 8388607 l) : FitL l := h
/-- a right step's points fit, and what it goes by -/
theorem step_fits {prev : Option Int} {s : St} {c : Pt} (h : badM prev s = 0) (hc : FitP c) : (s.op = 3 → FitL [c, s.p0, s.p1]) ∧ (s.op = 4 → FitL [c, s.p0, s.p1, s.p2]) ∧ FitL (pointsM c s) ∧ (pointsM c s = [] ↔ s.op = 5) := by
  obtain ⟨h1, -, h3⟩ := badM_zero h
  have g3 : s.op = 3 → FitL [c, s.p0, s.p1] := fun e => by
    have u : usesM s.op = 2 := by rw [e]; rfl
    rw [u] at h3
    exact FitL.three hc (h3 0 (by decide)) (h3 1 (by decide))
  have g4 : s.op = 4 → FitL [c, s.p0, s.p1, s.p2] := fun e => by
    have u : usesM s.op = 3 := by rw [e]; rfl
    rw [u] at h3
    exact FitL.four hc (h3 0 (by decide)) (h3 1 (by decide)) (h3 2 (by decide))
  refine ⟨g3, g4, ?_, ?_⟩
  · unfold pointsM
    split
    · rename_i h12
      have u : usesM s.op = 1 := by rcases h12 with e | e <;> rw [e] <;> rfl
      rw [u] at h3
      intro p hp
      simp at hp
      subst hp
      exact h3 0 (by decide)
    · split
      · rename_i e
        exact fitL_btw (curveP_in (g3 e).btw (by simp))
      · split
        · rename_i e
          exact fitL_btw (curveP_in (g4 e).btw (by simp))
        · intro p hp; simp at hp
  · constructor
    · intro e
      unfold pointsM at e
      split at e
      · simp at e
      · split at e
        · rename_i e3
          have := piecesM_pos (g3 e3)
          have h5 := congrArg List.length e
          rw [curveP_length] at h5
          simp at h5
          omega
        · split at e
          · rename_i e4
            have := piecesM_pos (g4 e4)
            have h5 := congrArg List.length e
            rw [curveP_length] at h5
            simp at h5
            omega
          · omega
    · intro e
      unfold pointsM
      rw [if_neg (by omega), if_neg (by omega), if_neg (by omega)]
theorem lastP_fit {l : List Pt} (h : FitL l) : FitP (lastP l) := h.getD _
theorem goes_fit {prev : Option Int} {s : St} {c : Pt} (h : badM prev s = 0) (hc : FitP c) : FitP (goesM c s) := by
  unfold goesM
  split
  · exact hc
  · exact lastP_fit (step_fits h hc).2.2.1
theorem countGo_step {l : List St} {i : Nat} (hi : i < l.length) (c : Pt) : countGo c (l.drop i) = costM c l[i] + countGo (goesM c l[i]) (l.drop (i + 1)) := by
  rw [List.drop_eq_getElem_cons hi]
  rfl
theorem max2_run {P : Program} (a b m : Int) (h : max a b = m) (ts : Array TypeId) (t : TypeId) (W : World) : (Builtin.max_ ts t #[.int .i64 a, .int .i64 b]).run P W = .ok (.int .i64 m) W := by
  have e2 : (Builtin.max_ ts t #[.int .i64 a, .int .i64 b]).run P W = .ok (.int .i64 (max a b)) W := by
    simp only [Builtin.max_, Builtin.max2, List.foldlM_cons, List.foldlM_nil]
    simp
    omega
  rw [e2, h]

end Go.Proofs.Ytdkgnechiloimaa
/- Paths, the document's own: Segs; rows that are the same. -/

namespace Go.Proofs.Ytdkgnechiloimaa
open Go.RowKit

def Lv.all (V : List Lv) : List Ln := V.map Lv.ln
/-- the ways around the first lines -/
def segsI (V : List Lv) (i : Nat) : List Sg := segsM (Lv.all (V.take i))
theorem segsI_step {V : List Lv} {i : Nat} (hi : i < V.length) : segsI V (i + 1) = segsI V i ++ segsOf V[i].pts := by
  unfold segsI Lv.all segsM
  rw [List.take_succ_eq_append_getElem hi]
  simp only [List.map_append, List.flatMap_append, List.map_cons, List.map_nil, List.flatMap_cons, List.flatMap_nil, List.append_nil]
  rfl
theorem segsI_all (V : List Lv) : segsI V V.length = segsM (Lv.all V) := by unfold segsI; rw [List.take_length]
def sumP : List Lv → Nat
  | [] => 0
  | x :: r => x.pts.length + sumP r
theorem sumP_append : ∀ a b : List Lv, sumP (a ++ b) = sumP a + sumP b
  | [], b => by simp [sumP]
  | x :: a, b => by
    have h := sumP_append a b
    simp only [List.cons_append, sumP, h]
    omega
theorem segsI_le {V : List Lv} : ∀ {i : Nat}, i ≤ V.length → (segsI V i).length ≤ sumP (V.take i)
  | 0, _ => by simp [segsI, Lv.all, segsM]
  | i + 1, h => by
    have h1 := segsI_le (V := V) (i := i) (by omega)
    have h2 := segTo_le V[i].pts V[i].pts.length
    rw [segsI_step (by omega), List.length_append, List.take_succ_eq_append_getElem (by omega), sumP_append]
    simp only [sumP]
    unfold segsOf
    omega
theorem sumP_take {V : List Lv} {i : Nat} (hi : i < V.length) : sumP (V.take i) + V[i].pts.length ≤ sumP V := by
  have h := List.take_append_drop i V
  have h2 := congrArg sumP h
  rw [sumP_append, List.drop_eq_getElem_cons hi] at h2
  simp only [sumP] at h2
  omega

theorem four_new (w : World) (t : TypeId) (a b c d : Value) : ∀ j u, [a, b, c, d][j]? = some u → (w.alloc (.cells #[a, b, c, d] t)).cell? ((⟨w.heap.size, 0, none⟩ : Addr).add j) = some u := by
  intro j u hj
  rw [addr_add, Nat.zero_add]
  exact (Box.new w t [a, b, c, d]).cell j hj
theorem segTo_old {l : List Pt} {k : Nat} (h : l.getD k pt0 = nextP l k) : segTo l (k + 1) = segTo l k := if_pos h
theorem segTo_new {l : List Pt} {k : Nat} (h : ¬ l.getD k pt0 = nextP l k) : segTo l (k + 1) = segTo l k ++ [⟨l.getD k pt0, nextP l k⟩] := if_neg h

end Go.Proofs.Ytdkgnechiloimaa
