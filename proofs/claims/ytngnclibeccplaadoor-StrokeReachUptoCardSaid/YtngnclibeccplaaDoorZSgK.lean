/- What the closings of layer 10 need: an argument that is a point, a map, two ints, a row of points, of maps, opened. -/
import Derived.Test.YtngnclibeccplaaDoorRows
import Derived.Test.YtngnclibeccplaaDoorZOaA
import Derived.WalkKit
import Derived.ProofKit
import Derived.OpenShut
import Derived.JoinedOf
import Derived.SizedLaws
import Derived.Lib.SmallJoins
import Derived.Deep.Slices
import Derived.Deep.Strs
import Derived.Test.YtngnclibeccplaaDoorZOaJ
import Derived.JoinedCond
namespace Go.Proofs.YtngnclibeccplaaDoor.shut
open Go.Joins Go.ChangeShapes Go.WideShapes Go.ChangeAt Go.RowKit Go.Deep

/-- an int among the cells -/
theorem int_of {H : Type} {enc : TypeId × Value → H} {W : World} {c : Value} {fuel : Nat} {y : DataW H × List MemPlace} (hf : DataW.trod enc Tryd.prog W 0 (fun _ => true) true fuel 3 [c] = some y) : ∃ x : Int, c = .int .i64 x ∧ -9223372036854775808 ≤ x ∧ x ≤ 9223372036854775807 := by
  obtain ⟨x, f, -, w⟩ := DataW.trod_int Tryd.underlying3 hf
  have b := bounds_i64 w
  exact ⟨x, by simpa using f, by omega, by omega⟩
theorem list2 {α : Type} {cs : List α} (h : cs.length = 2) : ∃ c0 c1, cs = [c0, c1] := by
  match cs, h with
  | [c0, c1], _ => exact ⟨c0, c1, rfl⟩
theorem list6 {α : Type} {cs : List α} (h : cs.length = 6) : ∃ c0 c1 c2 c3 c4 c5, cs = [c0, c1, c2, c3, c4, c5] := by
  match cs, h with
  | [c0, c1, c2, c3, c4, c5], _ => exact ⟨c0, c1, c2, c3, c4, c5, rfl⟩
/-- six fields -/
theorem trod_struct6 {H : Type} {enc : TypeId × Value → H} {P : Program} {w : World} {base : Nat} {spare : Nat → Bool} {held : Bool} {t : TypeId} {f0 f1 f2 f3 f4 f5 : Field} {fuel : Nat} {cs : List Value} {x : DataW H × List MemPlace} (ht : P.underlying t = some (.struct #[f0, f1, f2, f3, f4, f5])) (h : DataW.trod enc P w base spare held fuel t cs = some x) :
    ∃ y0 y1 y2 y3 y4 y5 n, DataW.trod enc P w base spare held n f0.type ((cs.drop f0.offset).take (P.cellsOf f0.type)) = some y0 ∧
      DataW.trod enc P w base spare held n f1.type ((cs.drop f1.offset).take (P.cellsOf f1.type)) = some y1 ∧ DataW.trod enc P w base spare held n f2.type ((cs.drop f2.offset).take (P.cellsOf f2.type)) = some y2 ∧
      DataW.trod enc P w base spare held n f3.type ((cs.drop f3.offset).take (P.cellsOf f3.type)) = some y3 ∧ DataW.trod enc P w base spare held n f4.type ((cs.drop f4.offset).take (P.cellsOf f4.type)) = some y4 ∧ DataW.trod enc P w base spare held n f5.type ((cs.drop f5.offset).take (P.cellsOf f5.type)) = some y5 := by
  obtain ⟨xs, n, _, rfl, hl, hlen, hf⟩ := DataW.trod_struct ht h
  match xs, hlen with
  | [y0, y1, y2, y3, y4, y5], _ => exact ⟨y0, y1, y2, y3, y4, y5, n, by simpa using hf 0 f0 rfl, by simpa using hf 1 f1 rfl, by simpa using hf 2 f2 rfl, by simpa using hf 3 f3 rfl, by simpa using hf 4 f4 rfl, by simpa using hf 5 f5 rfl⟩
set_option maxRecDepth 10000 in
/-- a point among the cells -/
theorem point_of {H : Type} {enc : TypeId × Value → H} {W : World} {cs : List Value} {fuel : Nat} {y : DataW H × List MemPlace} (hl : cs.length = 2) (hf : DataW.trod enc Tryd.prog W 0 (fun _ => true) true fuel 34 cs = some y) : ∃ p : Pt, cs = ptCells p := by
  obtain ⟨c0, c1, rfl⟩ := list2 hl
  have e1 : Tryd.prog.cellsOf 3 = 1 := by kernel_rfl
  obtain ⟨y0, y1, m, -, -, h0, h1⟩ := trod_struct2 Tryd.underlying34 hf
  simp only [e1] at h0 h1
  obtain ⟨x0, rfl, -⟩ := int_of (show DataW.trod enc Tryd.prog W 0 (fun _ => true) true m 3 [c0] = some y0 from h0)
  obtain ⟨x1, rfl, -⟩ := int_of (show DataW.trod enc Tryd.prog W 0 (fun _ => true) true m 3 [c1] = some y1 from h1)
  exact ⟨⟨x0, x1⟩, rfl⟩
set_option maxRecDepth 10000 in
/-- AN ARGUMENT THAT IS A POINT. -/
theorem point {H : Type} {enc : TypeId × Value → H} {W : World} {base : Nat} {v : Value} {d : DataW H} {p : List MemPlace} (hv : Value.okWide Tryd.prog W .any base 34 v) (h : DataW.Trod enc Tryd.prog W 0 (fun _ => true) true 34 v d p) :
    ∃ q : Pt, v = ptV q := by
  obtain ⟨cs, rfl, hsz⟩ := okWide_struct Tryd.underlying34 hv
  have hc : Tryd.prog.cellsOf 34 = 2 := by kernel_rfl
  rw [hc] at hsz
  obtain ⟨l⟩ := cs
  obtain ⟨fuel, hf⟩ := h
  obtain ⟨q, hq⟩ := point_of (show l.length = 2 from hsz) (show DataW.trod enc Tryd.prog W 0 (fun _ => true) true fuel 34 l = some (d, p) from hf)
  exact ⟨q, by rw [hq]; rfl⟩
theorem ownA : ownKnob Tryd.prog.godebug = none := by kernel_rfl
theorem laidOutA : laidOutB Tryd.prog = true := by kernel_rfl
end Go.Proofs.YtngnclibeccplaaDoor.shut
/- A row of structs that came in, opened; rows of points, of maps. -/

namespace Go.Proofs.YtngnclibeccplaaDoor.shut
open Go.Joins Go.ChangeShapes Go.WideShapes Go.ChangeAt Go.RowKit Go.Deep

set_option maxRecDepth 10000 in
/-- a row of structs of k cells each, of whatever length -/
theorem rows_of {H : Type} {enc : TypeId × Value → H} {W : World} {α : Type} [Inhabited α] {f : α → List Value} {k b : Nat} (hk : 0 < k) (hf : ∀ a, (f a).length = k) {t e : TypeId} (ht : Tryd.prog.underlying t = some (.slice e)) (hc : Tryd.prog.cellsOf e = k) (hby : Tryd.prog.bytesOf e = b)
    (open1 : ∀ (cs : List Value) (fuel : Nat) (y : DataW H × List MemPlace), cs.length = k → DataW.trod enc Tryd.prog W 0 (fun _ => true) true fuel e cs = some y → ∃ a, cs = f a)
    {cs : List Value} {fuel : Nat} {y : DataW H × List MemPlace} (h : DataW.trod enc Tryd.prog W 0 (fun _ => true) true fuel t cs = some y) (hlt : ∀ x ∈ y.2, x.block < W.heap.size) (hw : (DataW.weights Tryd.prog t y.1).all (· ≤ reachBytes) = true) :
    ∃ A l c, cs = [.slice A (List.length l) c] ∧ l.length * b ≤ 140737488351232 ∧ l.length ≤ c ∧ RdV W W.heap.size A (l.flatMap f) := by
  rcases open_slice ht h with ⟨hcs, -⟩ | ⟨a, len, cap, m, n, D, Pl, hcs, -, hl, hcm, hm, hx, hcell⟩
  · exact ⟨none, [], 0, hcs, by simp, Nat.le_refl _, RdV.nil _ _ _⟩
  · simp only [if_true] at hm
    subst hm
    rw [hc] at hx hcell
    subst hx
    simp only [DataW.weights, ht, hby, List.all_cons, Bool.and_eq_true, decide_eq_true_eq, List.length_map, List.length_range] at hw
    have hw1 : (len + (m - len)) * b ≤ 140737488351232 := hw.1
    have hw2 : len * b ≤ (len + (m - len)) * b := Nat.mul_le_mul_right _ (by omega)
    have each : ∀ i, i < len → ∃ x : α, ∀ j u, (f x)[j]? = some u → W.cell? ((a.add (i * k)).add j) = some u := fun i hi => by
      obtain ⟨cs, h1, h2⟩ := hcell i (by omega)
      obtain ⟨-, h4, h5⟩ := World.cells?_some h1
      obtain ⟨x, rfl⟩ := open1 _ _ _ h4 h2
      exact ⟨x, fun j u hu => (h5 j (by have := (List.getElem?_eq_some_iff.1 hu).1; rwa [hf] at this)).trans hu⟩
    obtain ⟨ss, hs⟩ := choose_lt each
    have hll : ((List.range len).map ss).length = len := by simp
    refine ⟨some a, (List.range len).map ss, _, by rw [hll]; exact hcs, by rw [hll]; omega, by omega, fun hn => ?_⟩
    rw [flat_length hf, hll] at hn
    have hlen : 0 < len := Nat.pos_of_mul_pos_right hn
    obtain ⟨b', off, spot⟩ := a
    have hf0 : 0 < (f (ss 0)).length := by rw [hf]; exact hk
    have h0 := hs 0 (by omega) 0 _ (List.getElem?_eq_getElem hf0)
    have hspot : spot = none := by
      have := World.cell?_spot h0
      simpa [Addr.add] using this
    subst hspot
    refine ⟨b', off, rfl, hlt (.cell b' off) (List.mem_append.2 (.inl (MemPlace.mem_row.2 ⟨0, Nat.mul_pos (by omega) hk, by simp⟩))), fun j hj => ?_⟩
    have hj' := hj
    rw [flat_length hf, hll] at hj'
    have hi : j / k < len := Nat.div_lt_of_lt_mul (by rwa [Nat.mul_comm] at hj')
    have hjm : j % k < k := Nat.mod_lt _ hk
    have hg := flat_get hf ((List.range len).map ss) (j / k) (by rw [hll]; exact hi) (j % k) hjm
    have hsum : j / k * k + j % k = j := by rw [Nat.mul_comm]; exact Nat.div_add_mod j k
    rw [hsum, List.getElem?_eq_getElem hj] at hg
    simp only [List.getElem_map, List.getElem_range] at hg
    have h1 := hs (j / k) hi (j % k) _ hg.symm
    rw [addr_add, addr_add] at h1
    rw [show off + j = off + j / k * k + j % k by omega]
    exact h1
set_option maxRecDepth 10000 in
/-- AN ARGUMENT THAT IS A ROW OF POINTS, of whatever length. -/
theorem points_any {H : Type} {enc : TypeId × Value → H} {W : World} {base : Nat} {v : Value} {d : DataW H} {p : List MemPlace} (hv : Value.okWide Tryd.prog W .any base 22 v) (h : DataW.Trod enc Tryd.prog W 0 (fun _ => true) true 22 v d p)
    (hlt : ∀ x ∈ p, x.block < W.heap.size) (hk : (DataW.weights Tryd.prog 22 d).all (· ≤ reachBytes) = true) :
    ∃ A l c, v = .slice A (List.length l) c ∧ l.length * 16 ≤ 140737488351232 ∧ l.length ≤ c ∧ RdV W W.heap.size A (ptRow l) := by
  obtain ⟨a0, len, cap, rfl⟩ := okWide_slice Tryd.underlying22 hv
  obtain ⟨fuel, hf⟩ := h
  obtain ⟨A, l, c, hcs, h1, h2, h3⟩ := rows_of (f := ptCells) (k := 2) (b := 16) (by omega) ptCells_length Tryd.underlying22 (by kernel_rfl) (by kernel_rfl) (fun cs fuel y hl hf => point_of hl hf) hf hlt hk
  exact ⟨A, l, c, by simpa [Value.cells] using hcs, h1, h2, h3⟩
end Go.Proofs.YtngnclibeccplaaDoor.shut
/- What the closings of layer 12 need: an argument that is a row of steps, opened. -/

namespace Go.Proofs.YtngnclibeccplaaDoor.shut
open Go.Joins Go.ChangeShapes Go.WideShapes Go.ChangeAt Go.RowKit Go.Deep

theorem list7e {α : Type} {cs : List α} (h : cs.length = 7) : ∃ c0 c1 c2 c3 c4 c5 c6, cs = [c0, c1, c2, c3, c4, c5, c6] := by
  match cs, h with
  | [c0, c1, c2, c3, c4, c5, c6], _ => exact ⟨c0, c1, c2, c3, c4, c5, c6, rfl⟩
set_option maxRecDepth 10000 in
/-- AN ARGUMENT THAT IS AN INT. -/
theorem int_any {H : Type} {enc : TypeId × Value → H} {W : World} {base : Nat} {v : Value} {d : DataW H} {p : List MemPlace} (hv : Value.okWide Tryd.prog W .any base 3 v) (h : DataW.Trod enc Tryd.prog W 0 (fun _ => true) true 3 v d p) : ∃ x : Int, v = .int .i64 x := by
  obtain ⟨n, rfl⟩ := okWide_int Tryd.underlying3 hv
  exact ⟨n, rfl⟩
end Go.Proofs.YtngnclibeccplaaDoor.shut
/- What the closing of PathWays needs: an argument that is a row of lines, opened; the bound. -/

namespace Go.Proofs.YtngnclibeccplaaDoor.shut
open Go.Joins Go.ChangeShapes Go.WideShapes Go.ChangeAt Go.RowKit Go.Deep

theorem bulk_pos {H : Type} (d : DataW H) : 1 ≤ Rows.uptoBulk d := by
  cases d with
  | lit l => cases l <;> simp [Rows.uptoBulk]
  | _ => simp [Rows.uptoBulk]
theorem bulk_partO {H : Type} {d : DataW H} {l : List (DataW H)} (h : d ∈ l) : Rows.uptoBulk d ≤ Rows.uptoBulkAll l := by
  induction l with
  | nil => cases h
  | cons x r ih =>
    simp only [Rows.uptoBulkAll]
    rcases List.mem_cons.1 h with rfl | h
    · omega
    · have := ih h; omega
theorem bulk_lenO {H : Type} (l : List (DataW H)) : l.length ≤ Rows.uptoBulkAll l := by
  induction l with
  | nil => exact Nat.zero_le _
  | cons a r ih =>
    have := bulk_pos a
    simp only [Rows.uptoBulkAll, List.length_cons]
    omega
theorem bulk_appendO {H : Type} (a b : List (DataW H)) : Rows.uptoBulkAll (a ++ b) = Rows.uptoBulkAll a + Rows.uptoBulkAll b := by
  induction a with
  | nil => simp [Rows.uptoBulkAll]
  | cons x r ih =>
    simp only [List.cons_append, Rows.uptoBulkAll, ih]
    omega
theorem sum_bulk {H : Type} (D : Nat → DataW H) (f : Nat → Lv) : ∀ n, (∀ i, i < n → (f i).pts.length ≤ Rows.uptoBulk (D i)) → sumP ((List.range n).map f) ≤ Rows.uptoBulkAll ((List.range n).map D)
  | 0, _ => by simp [sumP]
  | n + 1, h => by
    have h1 := sum_bulk D f n (fun i hi => h i (by omega))
    have h2 := h n (by omega)
    rw [List.range_succ, List.map_append, List.map_append, sumP_append, bulk_appendO]
    simp only [List.map_cons, List.map_nil, sumP, Rows.uptoBulkAll]
    omega

set_option maxRecDepth 10000 in
/-- a row of points, and how many they are -/
theorem points_bulk {H : Type} {enc : TypeId × Value → H} {W : World} {cs : List Value} {fuel : Nat} {y : DataW H × List MemPlace} (h : DataW.trod enc Tryd.prog W 0 (fun _ => true) true fuel 22 cs = some y) (hlt : ∀ x ∈ y.2, x.block < W.heap.size) :
    ∃ A l c, cs = [.slice A (List.length l) c] ∧ l.length ≤ Rows.uptoBulk y.1 ∧ RdV W W.heap.size A (ptRow l) := by
  have hc : Tryd.prog.cellsOf 34 = 2 := by kernel_rfl
  rcases open_slice Tryd.underlying22 h with ⟨hcs, -⟩ | ⟨a, len, cap, m, n, D, Pl, hcs, -, hl, hcm, hm, hx, hcell⟩
  · exact ⟨none, [], 0, hcs, by simp, RdV.nil _ _ _⟩
  · simp only [if_true] at hm
    subst hm
    rw [hc] at hx hcell
    subst hx
    have each : ∀ i, i < len → ∃ x : Pt, ∀ j u, (ptCells x)[j]? = some u → W.cell? ((a.add (i * 2)).add j) = some u := fun i hi => by
      obtain ⟨cs, h1, h2⟩ := hcell i (by omega)
      obtain ⟨-, h4, h5⟩ := World.cells?_some h1
      obtain ⟨x, rfl⟩ := point_of h4 h2
      exact ⟨x, fun j u hu => (h5 j (by have := (List.getElem?_eq_some_iff.1 hu).1; rwa [ptCells_length] at this)).trans hu⟩
    obtain ⟨ss, hs⟩ := choose_lt each
    have hll : ((List.range len).map ss).length = len := by simp
    have hbk := bulk_lenO ((List.range len).map D)
    rw [List.length_map, List.length_range] at hbk
    refine ⟨some a, (List.range len).map ss, _, by rw [hll]; exact hcs, by rw [hll]; simp only [Rows.uptoBulk]; omega, fun hn => ?_⟩
    unfold ptRow at hn ⊢
    rw [flat_length ptCells_length, hll] at hn
    have hlen : 0 < len := Nat.pos_of_mul_pos_right hn
    obtain ⟨b', off, spot⟩ := a
    have h0 := hs 0 (by omega) 0 _ rfl
    have hspot : spot = none := by
      have := World.cell?_spot h0
      simpa [Addr.add] using this
    subst hspot
    refine ⟨b', off, rfl, hlt (.cell b' off) (List.mem_append.2 (.inl (MemPlace.mem_row.2 ⟨0, Nat.mul_pos (by omega) (by omega), by simp⟩))), fun j hj => ?_⟩
    have hj' := hj
    rw [flat_length ptCells_length, hll] at hj'
    have hi : j / 2 < len := Nat.div_lt_of_lt_mul (by rwa [Nat.mul_comm] at hj')
    have hjm : j % 2 < 2 := Nat.mod_lt _ (by omega)
    have hg := flat_get ptCells_length ((List.range len).map ss) (j / 2) (by rw [hll]; exact hi) (j % 2) hjm
    have hsum : j / 2 * 2 + j % 2 = j := by rw [Nat.mul_comm]; exact Nat.div_add_mod j 2
    rw [hsum, List.getElem?_eq_getElem hj] at hg
    simp only [List.getElem_map, List.getElem_range] at hg
    have h1 := hs (j / 2) hi (j % 2) _ hg.symm
    rw [addr_add, addr_add] at h1
    rw [show off + j = off + j / 2 * 2 + j % 2 by omega]
    exact h1
set_option maxRecDepth 10000 in
/-- a line among the cells -/
theorem line_of {H : Type} {enc : TypeId × Value → H} {W : World} {cs : List Value} {fuel : Nat} {y : DataW H × List MemPlace} (hl : cs.length = 2) (hf : DataW.trod enc Tryd.prog W 0 (fun _ => true) true fuel 24 cs = some y) (hlt : ∀ x ∈ y.2, x.block < W.heap.size) :
    ∃ x : Lv, cs = lvCells x ∧ RdV W W.heap.size x.A (ptRow x.pts) ∧ x.pts.length ≤ Rows.uptoBulk y.1 := by
  obtain ⟨c0, c1, rfl⟩ := list2 hl
  have e1 : Tryd.prog.cellsOf 22 = 1 := by kernel_rfl
  have e2 : Tryd.prog.cellsOf 4 = 1 := by kernel_rfl
  obtain ⟨y0, y1, m, rfl, -, h0, h1⟩ := trod_struct2 Tryd.underlying24 hf
  simp only [e1, e2] at h0 h1
  obtain ⟨A, l, c, hA, hb, hr⟩ := points_bulk (show DataW.trod enc Tryd.prog W 0 (fun _ => true) true m 22 [c0] = some y0 from h0) (fun x hx => hlt x (List.mem_append.2 (.inl hx)))
  obtain ⟨b, hB, -⟩ := DataW.trod_bool Tryd.underlying4 (show DataW.trod enc Tryd.prog W 0 (fun _ => true) true m 4 [c1] = some y1 from h1)
  simp only [List.cons.injEq, and_true] at hA hB
  subst hA hB
  refine ⟨⟨A, c, l, b⟩, rfl, hr, ?_⟩
  simp only [Rows.uptoBulk, Rows.uptoBulkAll]
  omega
end Go.Proofs.YtngnclibeccplaaDoor.shut
