/- What the closings of layer 13 need: an argument that is a font, a text to be set, a byte, opened; rows of structs that lead on. -/
import Derived.Test.YtdkgnechiloimaaZSgK
import Derived.Test.YtdkgnechiloimaaZGzR
namespace Go.Proofs.Ytdkgnechiloimaa.shut
open Go.Joins Go.ChangeShapes Go.WideShapes Go.ChangeAt Go.RowKit Go.Deep

theorem list3x {α : Type} {cs : List α} (h : cs.length = 3) : ∃ c0 c1 c2, cs = [c0, c1, c2] := by
  match cs, h with
  | [c0, c1, c2], _ => exact ⟨c0, c1, c2, rfl⟩
theorem list4x {α : Type} {cs : List α} (h : cs.length = 4) : ∃ c0 c1 c2 c3, cs = [c0, c1, c2, c3] := by
  match cs, h with
  | [c0, c1, c2, c3], _ => exact ⟨c0, c1, c2, c3, rfl⟩
theorem weights_memX {H : Type} (P : Program) (e : TypeId) {l : List (DataW H)} {d : DataW H} (h : d ∈ l) {n : Nat} (hn : n ∈ DataW.weights P e d) : n ∈ DataW.weightsAll P e l := by
  induction l with
  | nil => cases h
  | cons x r ih =>
    rw [DataW.weightsAll, List.mem_append]
    rcases List.mem_cons.1 h with rfl | h
    · exact .inl hn
    · exact .inr (ih h)
/-- a text among the cells -/
theorem string_of {H : Type} {enc : TypeId × Value → H} {W : World} {c : Value} {fuel : Nat} {y : DataW H × List MemPlace} (hf : DataW.trod enc Try.prog W 0 (fun _ => true) true fuel 9 [c] = some y) : ∃ s : ByteArray, c = .string s ∧ y.1 = .lit (.string s.data.toList) := by
  cases fuel with
  | zero => simp [DataW.trod] at hf
  | succ m =>
    unfold DataW.trod at hf
    rw [Try.underlying9] at hf
    cases c <;> simp at hf
    obtain ⟨-, rfl⟩ := hf
    exact ⟨_, rfl, rfl⟩
set_option maxRecDepth 10000 in
/-- a row of structs of k cells each, of whatever length, each with what it leads to -/
theorem rows_deep {H : Type} {enc : TypeId × Value → H} {W : World} {α : Type} [Inhabited α] {f : α → List Value} {k b : Nat} (hk : 0 < k) (hf : ∀ a, (f a).length = k) {t e : TypeId} (ht : Try.prog.underlying t = some (.slice e)) (hc : Try.prog.cellsOf e = k) (hby : Try.prog.bytesOf e = b) (Q : α → Prop)
    (open1 : ∀ (cs : List Value) (fuel : Nat) (y : DataW H × List MemPlace), cs.length = k → DataW.trod enc Try.prog W 0 (fun _ => true) true fuel e cs = some y → (∀ x ∈ y.2, x.block < W.heap.size) → (DataW.weights Try.prog e y.1).all (· ≤ reachBytes) = true → ∃ a, cs = f a ∧ Q a)
    {cs : List Value} {fuel : Nat} {y : DataW H × List MemPlace} (h : DataW.trod enc Try.prog W 0 (fun _ => true) true fuel t cs = some y) (hlt : ∀ x ∈ y.2, x.block < W.heap.size) (hw : (DataW.weights Try.prog t y.1).all (· ≤ reachBytes) = true) :
    ∃ A l c, cs = [.slice A (List.length l) c] ∧ l.length * b ≤ 140737488351232 ∧ l.length ≤ c ∧ RdV W W.heap.size A (l.flatMap f) ∧ ∀ a ∈ l, Q a := by
  rcases open_slice ht h with ⟨hcs, -⟩ | ⟨a, len, cap, m, n, D, Pl, hcs, -, hl, hcm, hm, hx, hcell⟩
  · exact ⟨none, [], 0, hcs, by simp, Nat.le_refl _, RdV.nil _ _ _, fun a h => by cases h⟩
  · simp only [if_true] at hm
    subst hm
    rw [hc] at hx hcell
    subst hx
    simp only [DataW.weights, ht, hby, List.all_cons, List.all_append, Bool.and_eq_true, decide_eq_true_eq, List.length_map, List.length_range] at hw
    have hw1 : (len + (m - len)) * b ≤ 140737488351232 := hw.1
    have hw2 : len * b ≤ (len + (m - len)) * b := Nat.mul_le_mul_right _ (by omega)
    have hw3 := hw.2.1
    have each : ∀ i, i < len → ∃ x : α, (∀ j u, (f x)[j]? = some u → W.cell? ((a.add (i * k)).add j) = some u) ∧ Q x := fun i hi => by
      obtain ⟨cs, h1, h2⟩ := hcell i (by omega)
      obtain ⟨-, h4, h5⟩ := World.cells?_some h1
      obtain ⟨x, rfl, hq⟩ := open1 _ _ _ h4 h2 (fun z hz => hlt z (List.mem_append.2 (.inr (List.mem_flatMap.2 ⟨i, List.mem_range.2 (by omega), hz⟩)))) (List.all_eq_true.2 fun w hwm => List.all_eq_true.1 hw3 w (weights_memX Try.prog e (List.mem_map.2 ⟨i, List.mem_range.2 hi, rfl⟩) hwm))
      exact ⟨x, fun j u hu => (h5 j (by have := (List.getElem?_eq_some_iff.1 hu).1; rwa [hf] at this)).trans hu, hq⟩
    obtain ⟨ss, hs⟩ := choose_lt each
    have hll : ((List.range len).map ss).length = len := by simp
    refine ⟨some a, (List.range len).map ss, _, by rw [hll]; exact hcs, by rw [hll]; omega, by omega, fun hn => ?_, fun x hx => ?_⟩
    · rw [flat_length hf, hll] at hn
      have hlen : 0 < len := Nat.pos_of_mul_pos_right hn
      obtain ⟨b', off, spot⟩ := a
      have hf0 : 0 < (f (ss 0)).length := by rw [hf]; exact hk
      have h0 := (hs 0 (by omega)).1 0 _ (List.getElem?_eq_getElem hf0)
      have hspot : spot = none := by
        have := World.cell?_spot h0
        simpa [Addr.add] using this
      subst hspot
      refine ⟨b', off, rfl, hlt (.cell b' off) (List.mem_append.2 (.inl (MemPlace.mem_row.2 ⟨0, Nat.mul_pos (by omega) hk, by simp⟩))), fun j hj => ?_⟩
      have hj' := hj
      rw [flat_length hf, hll] at hj'
      have hi : j / k < len := Nat.div_lt_of_lt_mul (by rwa [Nat.mul_comm] at hj')
      have hjm : j % k < k := Nat.mod_lt _ hk
      have hg := flat_get hf ((List.range len).map ss) (j / k) (by rw [hll]; exact hi) (j % k) hjm
      have hsum : j / k * k + j % k = j := by rw [Nat.mul_comm]; exact Nat.div_add_mod j k
      rw [hsum, List.getElem?_eq_getElem hj] at hg
      simp only [List.getElem_map, List.getElem_range] at hg
      have h1 := (hs (j / k) hi).1 (j % k) _ hg.symm
      rw [addr_add, addr_add] at h1
      rw [show off + j = off + j / k * k + j % k by omega]
      exact h1
    · obtain ⟨i, hi, rfl⟩ := List.mem_map.1 hx
      exact (hs i (List.mem_range.1 hi)).2
set_option maxRecDepth 10000 in
/-- a glyph among the cells -/
theorem glyph_of {H : Type} {enc : TypeId × Value → H} {W : World} {cs : List Value} {fuel : Nat} {y : DataW H × List MemPlace} (hl : cs.length = 3) (hf : DataW.trod enc Try.prog W 0 (fun _ => true) true fuel 43 cs = some y) (hlt : ∀ x ∈ y.2, x.block < W.heap.size) (hw : (DataW.weights Try.prog 43 y.1).all (· ≤ reachBytes) = true) :
    ∃ x : Glv, cs = gvCells x ∧ (RdV W W.heap.size x.A (stRow x.steps) ∧ x.steps.length * 56 ≤ 140737488351232) := by
  obtain ⟨c0, c1, c2, rfl⟩ := list3x hl
  have e1 : Try.prog.cellsOf 3 = 1 := by kernel_rfl
  have e2 : Try.prog.cellsOf 27 = 1 := by kernel_rfl
  obtain ⟨y0, y1, y2, m, rfl, -, h0, h1, h2⟩ := trod_struct3 Try.underlying43 hf
  simp only [e1, e2] at h0 h1 h2
  simp only [DataW.weights, Try.underlying43, List.map_cons, List.map_nil, DataW.weightsEach, List.all_append, Bool.and_eq_true] at hw
  obtain ⟨x0, rfl, -⟩ := int_of (show DataW.trod enc Try.prog W 0 (fun _ => true) true m 3 [c0] = some y0 from h0)
  obtain ⟨x1, rfl, -⟩ := int_of (show DataW.trod enc Try.prog W 0 (fun _ => true) true m 3 [c1] = some y1 from h1)
  obtain ⟨A, l, c, hA, hb, hc, hr⟩ := rows_of (f := stCells) (k := 7) (b := 56) (by omega) stCells_length Try.underlying27 (by kernel_rfl) (by kernel_rfl) (fun cs fuel y hl hf => step_of hl hf) (show DataW.trod enc Try.prog W 0 (fun _ => true) true m 27 [c2] = some y2 from h2) (fun x hx => hlt x (by simp [hx])) hw.2.2.1
  simp only [List.cons.injEq, and_true] at hA
  subst hA
  exact ⟨⟨x0, x1, A, c, l⟩, rfl, hr, hb⟩
set_option maxRecDepth 10000 in
/-- AN ARGUMENT THAT IS A ROW OF GLYPHS, of whatever length. -/
theorem glyphs_any {H : Type} {enc : TypeId × Value → H} {W : World} {base : Nat} {v : Value} {d : DataW H} {p : List MemPlace} (hv : Value.okWide Try.prog W .any base 22 v) (h : DataW.Trod enc Try.prog W 0 (fun _ => true) true 22 v d p)
    (hlt : ∀ x ∈ p, x.block < W.heap.size) (hk : (DataW.weights Try.prog 22 d).all (· ≤ reachBytes) = true) :
    ∃ A l c, v = .slice A (List.length l) c ∧ l.length * 40 ≤ 140737488351232 ∧ l.length ≤ c ∧ RdGlv W W.heap.size A l := by
  obtain ⟨a0, len, cap, rfl⟩ := okWide_slice Try.underlying22 hv
  obtain ⟨fuel, hf⟩ := h
  obtain ⟨A, l, c, hcs, h1, h2, h3, h4⟩ := rows_deep (f := gvCells) (k := 3) (b := 40) (by omega) gvCells_length Try.underlying22 (by kernel_rfl) (by kernel_rfl) (fun x : Glv => RdV W W.heap.size x.A (stRow x.steps) ∧ x.steps.length * 56 ≤ 140737488351232) (fun cs fuel y hl hf ha hb => glyph_of hl hf ha hb) hf hlt hk
  exact ⟨A, l, c, by simpa [Value.cells] using hcs, h1, h2, h3, h4⟩
set_option maxRecDepth 10000 in
/-- AN ARGUMENT THAT IS A TEXT TO BE SET. -/
theorem text_any {H : Type} {enc : TypeId × Value → H} {W : World} {base : Nat} {v : Value} {d : DataW H} {p : List MemPlace} (hv : Value.okWide Try.prog W .any base 26 v) (h : DataW.Trod enc Try.prog W 0 (fun _ => true) true 26 v d p)
    (hk : (DataW.weights Try.prog 26 d).all (· ≤ reachBytes) = true) :
    ∃ (s : ByteArray) (n : Int) (q : Pt), v = .agg #[.string s, .int .i64 n, .int .i64 q.x, .int .i64 q.y] ∧ s.size ≤ 140737488351232 := by
  obtain ⟨cs, rfl, hsz⟩ := okWide_struct Try.underlying26 hv
  have hc : Try.prog.cellsOf 26 = 4 := by kernel_rfl
  rw [hc] at hsz
  obtain ⟨l⟩ := cs
  obtain ⟨fuel, hf⟩ := h
  obtain ⟨c0, c1, c2, c3, rfl⟩ := list4x (show l.length = 4 from hsz)
  have e1 : Try.prog.cellsOf 3 = 1 := by kernel_rfl
  have e2 : Try.prog.cellsOf 9 = 1 := by kernel_rfl
  have e3 : Try.prog.cellsOf 24 = 2 := by kernel_rfl
  obtain ⟨y0, y1, y2, m, he, -, h0, h1, h2⟩ := trod_struct3 Try.underlying26 (show DataW.trod enc Try.prog W 0 (fun _ => true) true fuel 26 [c0, c1, c2, c3] = some (d, p) from hf)
  simp only [Prod.mk.injEq] at he
  obtain ⟨rfl, -⟩ := he
  simp only [e1, e2, e3] at h0 h1 h2
  simp only [DataW.weights, Try.underlying26, List.map_cons, List.map_nil, DataW.weightsEach, List.all_append, Bool.and_eq_true] at hk
  obtain ⟨s, rfl, hy⟩ := string_of (show DataW.trod enc Try.prog W 0 (fun _ => true) true m 9 [c0] = some y0 from h0)
  obtain ⟨x1, rfl, -⟩ := int_of (show DataW.trod enc Try.prog W 0 (fun _ => true) true m 3 [c1] = some y1 from h1)
  obtain ⟨q, hq⟩ := point_of (cs := [c2, c3]) rfl (show DataW.trod enc Try.prog W 0 (fun _ => true) true m 24 [c2, c3] = some y2 from h2)
  simp only [ptCells, List.cons.injEq, and_true] at hq
  obtain ⟨rfl, rfl⟩ := hq
  refine ⟨s, x1, q, rfl, ?_⟩
  have h3 := hk.1
  rw [hy] at h3
  simp only [DataW.weights, List.all_cons, List.all_nil, Bool.and_true, decide_eq_true_eq, Array.length_toList] at h3
  exact h3
set_option maxRecDepth 10000 in
/-- AN ARGUMENT THAT IS A BYTE. -/
theorem byte_any {H : Type} {enc : TypeId × Value → H} {W : World} {base : Nat} {v : Value} {d : DataW H} {p : List MemPlace} (hv : Value.okWide Try.prog W .any base 5 v) (h : DataW.Trod enc Try.prog W 0 (fun _ => true) true 5 v d p) : ∃ u : UInt8, v = .int .u8 (u.toNat : Int) := by
  obtain ⟨n, rfl⟩ := okWide_int Try.underlying5 hv
  obtain ⟨fuel, hf⟩ := h
  obtain ⟨x, hc, -, w⟩ := DataW.trod_int Try.underlying5 hf
  simp [Value.cells] at hc
  subst hc
  have hb := bounds_u8 w
  refine ⟨UInt8.ofNat n.toNat, ?_⟩
  have e : (UInt8.ofNat n.toNat).toNat = n.toNat := by
    rw [UInt8.toNat_ofNat']
    exact Nat.mod_eq_of_lt (by omega)
  rw [e, Int.toNat_of_nonneg (by omega)]
end Go.Proofs.Ytdkgnechiloimaa.shut
