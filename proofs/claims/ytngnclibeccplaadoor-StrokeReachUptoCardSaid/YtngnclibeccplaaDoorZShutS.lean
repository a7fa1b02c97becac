/- What the bounded closing of layer 16 needs: an argument that is a pen, opened; the bound. -/
import Derived.Test.YtngnclibeccplaaDoorZShutD
import Derived.Test.YtngnclibeccplaaDoorZStM
namespace Go.Proofs.YtngnclibeccplaaDoor.shut
open Go.Joins Go.ChangeShapes Go.WideShapes Go.ChangeAt Go.RowKit Go.Deep

/-- six fields, with what they make up -/
theorem sixFields {H : Type} {enc : TypeId × Value → H} {P : Program} {w : World} {base : Nat} {spare : Nat → Bool} {held : Bool} {t : TypeId} {f0 f1 f2 f3 f4 f5 : Field} {fuel : Nat} {cs : List Value} {x : DataW H × List MemPlace} (ht : P.underlying t = some (.struct #[f0, f1, f2, f3, f4, f5])) (h : DataW.trod enc P w base spare held fuel t cs = some x) :
    ∃ y0 y1 y2 y3 y4 y5 n, (x.1 = .agg [y0.1, y1.1, y2.1, y3.1, y4.1, y5.1] ∧ ∀ z ∈ y4.2, z ∈ x.2) ∧ DataW.trod enc P w base spare held n f0.type ((cs.drop f0.offset).take (P.cellsOf f0.type)) = some y0 ∧
      DataW.trod enc P w base spare held n f1.type ((cs.drop f1.offset).take (P.cellsOf f1.type)) = some y1 ∧ DataW.trod enc P w base spare held n f2.type ((cs.drop f2.offset).take (P.cellsOf f2.type)) = some y2 ∧
      DataW.trod enc P w base spare held n f3.type ((cs.drop f3.offset).take (P.cellsOf f3.type)) = some y3 ∧ DataW.trod enc P w base spare held n f4.type ((cs.drop f4.offset).take (P.cellsOf f4.type)) = some y4 ∧ DataW.trod enc P w base spare held n f5.type ((cs.drop f5.offset).take (P.cellsOf f5.type)) = some y5 := by
  obtain ⟨xs, n, _, rfl, hl, hlen, hf⟩ := DataW.trod_struct ht h
  match xs, hlen with
  | [y0, y1, y2, y3, y4, y5], _ => exact ⟨y0, y1, y2, y3, y4, y5, n, ⟨rfl, fun z hz => by simp [hz]⟩, by simpa using hf 0 f0 rfl, by simpa using hf 1 f1 rfl, by simpa using hf 2 f2 rfl, by simpa using hf 3 f3 rfl, by simpa using hf 4 f4 rfl, by simpa using hf 5 f5 rfl⟩
set_option maxRecDepth 10000 in
/-- a row of ints among the cells, how many they are, and that there is room for them -/
theorem ints_bulkC {H : Type} {enc : TypeId × Value → H} {W : World} {cs : List Value} {fuel : Nat} {y : DataW H × List MemPlace} (h : DataW.trod enc Tryd.prog W 0 (fun _ => true) true fuel 25 cs = some y) (hlt : ∀ x ∈ y.2, x.block < W.heap.size) :
    ∃ A xs c, cs = [.slice A (List.length xs) c] ∧ xs.length ≤ Rows.uptoBulk y.1 ∧ xs.length ≤ c ∧ RdV W W.heap.size A (icells xs) := by
  rcases open_ints Tryd.underlying25 Tryd.underlying3 cellsIntD h with ⟨hcs, _⟩ | ⟨a, len, cap, zs, hcs, _, hl, hm, hz, hx, hcell, hwz⟩
  · exact ⟨none, [], 0, hcs, by simp, Nat.le_refl _, RdV.nil _ _ _⟩
  · subst hx
    simp only [if_true] at hz
    have hlen : (zs.take len).length = len := by rw [List.length_take]; omega
    have hbk := bulk_lenO (H := H) (lits .i64 (zs.take len))
    have hll : (lits (H := H) .i64 (zs.take len)).length = len := by simp only [lits, List.length_map]; exact hlen
    refine ⟨some a, zs.take len, cap, by rw [hlen]; exact hcs, by simp only [Rows.uptoBulk]; omega, by omega, ?_⟩
    intro hn
    rw [icells_length, hlen] at hn
    obtain ⟨b, off, spot⟩ := a
    have hspot : spot = none := by simpa [Addr.add] using World.cell?_spot (hcell 0 (by omega))
    subst hspot
    refine ⟨b, off, rfl, hlt (.cell b off) (MemPlace.mem_row.2 ⟨0, by omega, by simp⟩), fun j hj => ?_⟩
    rw [icells_length, hlen] at hj
    have hj' : j < zs.length := by omega
    have hc := hcell j hj'
    rw [addr_add] at hc
    rw [hc]
    simp only [icells, List.getElem_map, List.getElem_take, List.getD_eq_getElem?_getD, List.getElem?_eq_getElem hj', Option.getD_some]
set_option maxRecDepth 10000 in
/-- AN ARGUMENT THAT IS A PEN. -/
theorem pen_upto {H : Type} {enc : TypeId × Value → H} {W : World} {base : Nat} {v : Value} {d : DataW H} {p : List MemPlace} (hv : Value.okWide Tryd.prog W .any base 27 v) (h : DataW.Trod enc Tryd.prog W 0 (fun _ => true) true 27 v d p)
    (hlt : ∀ x ∈ p, x.block < W.heap.size) (hk : Rows.uptoBulk d ≤ 1048576) :
    ∃ A P c, v = penV P A c ∧ P.dash.length ≤ 1048576 ∧ P.dash.length ≤ c ∧ RdV W W.heap.size A (icells P.dash) ∧ PnIn P := by
  obtain ⟨cs, rfl, hsz⟩ := okWide_struct Tryd.underlying27 hv
  have hc : Tryd.prog.cellsOf 27 = 6 := by kernel_rfl
  rw [hc] at hsz
  obtain ⟨l⟩ := cs
  obtain ⟨fuel, hf⟩ := h
  obtain ⟨c0, c1, c2, c3, c4, c5, rfl⟩ := list6 (show l.length = 6 from hsz)
  have e1 : Tryd.prog.cellsOf 3 = 1 := by kernel_rfl
  have e2 : Tryd.prog.cellsOf 25 = 1 := by kernel_rfl
  obtain ⟨y0, y1, y2, y3, y4, y5, m, ⟨he, hp⟩, h0, h1, h2, h3, h4, h5⟩ := sixFields Tryd.underlying27 (show DataW.trod enc Tryd.prog W 0 (fun _ => true) true fuel 27 [c0, c1, c2, c3, c4, c5] = some (d, p) from hf)
  dsimp only at he hp
  subst he
  simp only [e1, e2] at h0 h1 h2 h3 h4 h5
  obtain ⟨x0, rfl, b0⟩ := int_of (show DataW.trod enc Tryd.prog W 0 (fun _ => true) true m 3 [c0] = some y0 from h0)
  obtain ⟨x1, rfl, b1⟩ := int_of (show DataW.trod enc Tryd.prog W 0 (fun _ => true) true m 3 [c1] = some y1 from h1)
  obtain ⟨x2, rfl, b2⟩ := int_of (show DataW.trod enc Tryd.prog W 0 (fun _ => true) true m 3 [c2] = some y2 from h2)
  obtain ⟨x3, rfl, b3⟩ := int_of (show DataW.trod enc Tryd.prog W 0 (fun _ => true) true m 3 [c3] = some y3 from h3)
  obtain ⟨A, xs, c, hA, hb1, hb2, hr⟩ := ints_bulkC (show DataW.trod enc Tryd.prog W 0 (fun _ => true) true m 25 [c4] = some y4 from h4) (fun x hx => hlt x (hp x hx))
  obtain ⟨x5, rfl, b5⟩ := int_of (show DataW.trod enc Tryd.prog W 0 (fun _ => true) true m 3 [c5] = some y5 from h5)
  simp only [List.cons.injEq, and_true] at hA
  subst hA
  refine ⟨A, ⟨x0, x1, x2, x3, xs, x5⟩, c, rfl, ?_, hb2, hr, b0, b1, b2, b3, b5⟩
  simp only [Rows.uptoBulk, Rows.uptoBulkAll] at hk
  dsimp only
  omega
end Go.Proofs.YtngnclibeccplaaDoor.shut
