/- What the closings of layer 9 need: an argument that is a raster, a row of colours, opened. -/
import Derived.Test.YtchfbpgbojnakaaDoorRows
import Derived.Test.YtchfbpgbojnakaaDoorZPzA
import Derived.WalkKit
import Derived.ProofKit
import Derived.OpenShut
import Derived.JoinedOf
import Derived.SizedLaws
import Derived.Lib.SmallJoins
import Derived.Deep.Slices
import Derived.Deep.Strs
import Derived.Test.YtchfbpgbojnakaaDoorZShZ
import Derived.Test.YtchfbpgbojnakaaDoorCards
import Derived.Test.YtchfbpgbojnakaaDoorTie
import Derived.Test.YtchfbpgbojnakaaDoorZPzI
import Derived.Deep.DeepHandedRow
import Derived.Lib.LaidTab
import Derived.Stop.LaidErr
namespace Go.Proofs.YtchfbpgbojnakaaDoor.shut
open Go.Joins Go.ChangeShapes Go.WideShapes Go.ChangeAt Go.RowKit Go.Deep

instance : Inhabited Col := ⟨col0⟩
theorem list4 {α : Type} {cs : List α} (h : cs.length = 4) : ∃ c0 c1 c2 c3, cs = [c0, c1, c2, c3] := by
  match cs, h with
  | [c0, c1, c2, c3], _ => exact ⟨c0, c1, c2, c3, rfl⟩
set_option maxRecDepth 10000 in
/-- a colour among the cells -/
theorem colour_of {H : Type} {enc : TypeId × Value → H} {W : World} {cs : List Value} {fuel : Nat} {y : DataW H × List MemPlace} (hl : cs.length = 4) (hf : DataW.trod enc Tryd.prog W 0 (fun _ => true) true fuel 41 cs = some y) : ∃ c : Col, cs = colCells c := by
  obtain ⟨c0, c1, c2, c3, rfl⟩ := list4 hl
  have e1 : Tryd.prog.cellsOf 5 = 1 := by kernel_rfl
  obtain ⟨y0, y1, y2, y3, m, -, -, h0, h1, h2, h3⟩ := trod_struct4 Tryd.underlying41 hf
  simp only [e1] at h0 h1 h2 h3
  obtain ⟨x0, f0, -, w0⟩ := DataW.trod_int Tryd.underlying5 (show DataW.trod enc Tryd.prog W 0 (fun _ => true) true m 5 [c0] = some y0 from h0)
  obtain ⟨x1, f1, -, w1⟩ := DataW.trod_int Tryd.underlying5 (show DataW.trod enc Tryd.prog W 0 (fun _ => true) true m 5 [c1] = some y1 from h1)
  obtain ⟨x2, f2, -, w2⟩ := DataW.trod_int Tryd.underlying5 (show DataW.trod enc Tryd.prog W 0 (fun _ => true) true m 5 [c2] = some y2 from h2)
  obtain ⟨x3, f3, -, w3⟩ := DataW.trod_int Tryd.underlying5 (show DataW.trod enc Tryd.prog W 0 (fun _ => true) true m 5 [c3] = some y3 from h3)
  obtain rfl : c0 = .int .u8 x0 := by simpa using f0
  obtain rfl : c1 = .int .u8 x1 := by simpa using f1
  obtain rfl : c2 = .int .u8 x2 := by simpa using f2
  obtain rfl : c3 = .int .u8 x3 := by simpa using f3
  have b0 := bounds_u8 w0
  have b1 := bounds_u8 w1
  have b2 := bounds_u8 w2
  have b3 := bounds_u8 w3
  refine ⟨⟨UInt8.ofNat x0.toNat, UInt8.ofNat x1.toNat, UInt8.ofNat x2.toNat, UInt8.ofNat x3.toNat⟩, ?_⟩
  have e : ∀ x : Int, 0 ≤ x ∧ x ≤ 255 → ((UInt8.ofNat x.toNat).toNat : Int) = x := fun x h => by simp only [UInt8.toNat_ofNat']; omega
  simp only [colCells, e x0 b0, e x1 b1, e x2 b2, e x3 b3]
theorem rowCells_at (l : List Col) (j : Nat) (hj : j < (rowCells l).length) : ∃ (hi : j / 4 < l.length), (rowCells l)[j]? = (colCells l[j / 4])[j % 4]? := by
  rw [rowCells_length] at hj
  have hi : j / 4 < l.length := by omega
  refine ⟨hi, ?_⟩
  obtain ⟨h0, h1, h2, h3⟩ := rowCells_get l (j / 4) hi
  have hm : j % 4 = 0 ∨ j % 4 = 1 ∨ j % 4 = 2 ∨ j % 4 = 3 := by omega
  have hj2 : j = j / 4 * 4 + j % 4 := by omega
  rcases hm with hm | hm | hm | hm <;> rw [hm] at hj2 ⊢ <;> (conv => lhs; rw [hj2])
  · exact h0
  · exact h1
  · exact h2
  · exact h3

set_option maxRecDepth 10000 in
/-- a row of colours among the cells, of whatever length -/
theorem colours_of {H : Type} {enc : TypeId × Value → H} {W : World} {cs : List Value} {fuel : Nat} {y : DataW H × List MemPlace} (hf : DataW.trod enc Tryd.prog W 0 (fun _ => true) true fuel 22 cs = some y) (hlt : ∀ x ∈ y.2, x.block < W.heap.size) :
    ∃ A l c, cs = [.slice A (List.length l) c] ∧ l.length ≤ c ∧ c ≤ maxLen ∧ RdV W W.heap.size A (rowCells l) := by
  have e4 : Tryd.prog.cellsOf 41 = 4 := by kernel_rfl
  rcases open_slice Tryd.underlying22 hf with ⟨hcs, -⟩ | ⟨a, len, cap, m, n, D, Pl, hcs, -, hl, hcm, hm, hx, hc⟩
  · exact ⟨none, [], 0, hcs, Nat.le_refl _, by simp [maxLen], RdV.nil _ _ _⟩
  · simp only [if_true] at hm
    subst hm
    simp only [e4] at hx hc
    subst hx
    have each : ∀ i, i < len → ∃ c : Col, ∀ j u, (colCells c)[j]? = some u → W.cell? ((a.add (i * 4)).add j) = some u := fun i hi => by
      obtain ⟨cs, h1, h2⟩ := hc i (by omega)
      obtain ⟨-, h4, h5⟩ := World.cells?_some h1
      obtain ⟨c, rfl⟩ := colour_of h4 h2
      exact ⟨c, fun j u hu => (h5 j (List.getElem?_eq_some_iff.1 hu).1).trans hu⟩
    obtain ⟨ss, hs⟩ := choose_lt each
    have hll : ((List.range len).map ss).length = len := by simp
    refine ⟨some a, (List.range len).map ss, _, by rw [hll]; exact hcs, by omega, hcm, fun hn => ?_⟩
    rw [rowCells_length, hll] at hn
    obtain ⟨b, off, spot⟩ := a
    have h0 := hs 0 (by omega) 0 _ rfl
    have hspot : spot = none := by
      have := World.cell?_spot h0
      simpa [Addr.add] using this
    subst hspot
    refine ⟨b, off, rfl, hlt (.cell b off) (List.mem_append.2 (.inl (MemPlace.mem_row.2 ⟨0, by omega, by simp⟩))), fun j hj => ?_⟩
    obtain ⟨hi, he⟩ := rowCells_at _ j hj
    have hi2 : j / 4 < len := by rwa [hll] at hi
    rw [List.getElem?_eq_getElem hj] at he
    have hel : ((List.range len).map ss)[j / 4]'hi = ss (j / 4) := by simp
    rw [hel] at he
    have h1 := hs (j / 4) hi2 (j % 4) _ he.symm
    rw [addr_add, addr_add] at h1
    rw [show off + j = off + j / 4 * 4 + j % 4 by omega]
    exact h1

set_option maxRecDepth 10000 in
/-- AN ARGUMENT THAT IS A RASTER, of whatever length. -/
theorem raster {H : Type} {enc : TypeId × Value → H} {W : World} {base : Nat} {v : Value} {d : DataW H} {p : List MemPlace} (hv : Value.okWide Tryd.prog W .any base 24 v) (h : DataW.Trod enc Tryd.prog W 0 (fun _ => true) true 24 v d p)
    (hlt : ∀ x ∈ p, x.block < W.heap.size) : ∃ r A c, v = rasV r A c ∧ ((-9223372036854775808 ≤ r.w ∧ r.w ≤ 9223372036854775807) ∧ (-9223372036854775808 ≤ r.h ∧ r.h ≤ 9223372036854775807)) ∧ r.pix.length ≤ c ∧ c ≤ maxLen ∧ RdV W W.heap.size A (rowCells r.pix) := by
  obtain ⟨cs, rfl, hsz⟩ := okWide_struct Tryd.underlying24 hv
  have hc : Tryd.prog.cellsOf 24 = 3 := by kernel_rfl
  have e1 : Tryd.prog.cellsOf 3 = 1 := by kernel_rfl
  have e2 : Tryd.prog.cellsOf 22 = 1 := by kernel_rfl
  rw [hc] at hsz
  obtain ⟨l⟩ := cs
  match l, hsz with
  | [c0, c1, c2], _ =>
    obtain ⟨fuel, hf⟩ := h
    obtain ⟨y0, y1, y2, m, hx, -, h0, h1, h2⟩ := trod_struct3 Tryd.underlying24 (show DataW.trod enc Tryd.prog W 0 (fun _ => true) true fuel 24 [c0, c1, c2] = some (d, p) from hf)
    simp only [e1, e2] at h0 h1 h2
    obtain ⟨x0, f0, -, w0⟩ := DataW.trod_int Tryd.underlying3 (show DataW.trod enc Tryd.prog W 0 (fun _ => true) true m 3 [c0] = some y0 from h0)
    obtain ⟨x1, f1, -, w1⟩ := DataW.trod_int Tryd.underlying3 (show DataW.trod enc Tryd.prog W 0 (fun _ => true) true m 3 [c1] = some y1 from h1)
    obtain rfl : c0 = .int .i64 x0 := by simpa using f0
    obtain rfl : c1 = .int .i64 x1 := by simpa using f1
    simp only [Prod.mk.injEq] at hx
    obtain ⟨A, l, c, hcs, hl, hcm, hr⟩ := colours_of (show DataW.trod enc Tryd.prog W 0 (fun _ => true) true m 22 [c2] = some y2 from h2) (fun x hx2 => hlt x (by rw [hx.2]; simp [hx2]))
    obtain rfl : c2 = .slice A l.length c := by simpa using hcs
    have b0 : -9223372036854775808 ≤ x0 ∧ x0 ≤ 9223372036854775807 := by have := bounds_i64 w0; omega
    have b1 : -9223372036854775808 ≤ x1 ∧ x1 ≤ 9223372036854775807 := by have := bounds_i64 w1; omega
    exact ⟨⟨x0, x1, l⟩, A, c, rfl, ⟨b0, b1⟩, hl, hcm, hr⟩
set_option maxRecDepth 10000 in
/-- AN ARGUMENT THAT IS A PART: four ints. -/
theorem part {H : Type} {enc : TypeId × Value → H} {W : World} {base : Nat} {v : Value} {d : DataW H} {p : List MemPlace} (hv : Value.okWide Tryd.prog W .any base 39 v) (h : DataW.Trod enc Tryd.prog W 0 (fun _ => true) true 39 v d p) :
    ∃ x y z u : Int, v = .agg #[.int .i64 x, .int .i64 y, .int .i64 z, .int .i64 u] ∧ ((-9223372036854775808 ≤ x ∧ x ≤ 9223372036854775807) ∧ (-9223372036854775808 ≤ y ∧ y ≤ 9223372036854775807)) ∧ ((-9223372036854775808 ≤ z ∧ z ≤ 9223372036854775807) ∧ (-9223372036854775808 ≤ u ∧ u ≤ 9223372036854775807)) := by
  obtain ⟨cs, rfl, hsz⟩ := okWide_struct Tryd.underlying39 hv
  have hc : Tryd.prog.cellsOf 39 = 4 := by kernel_rfl
  have e1 : Tryd.prog.cellsOf 3 = 1 := by kernel_rfl
  rw [hc] at hsz
  obtain ⟨l⟩ := cs
  obtain ⟨c0, c1, c2, c3, rfl⟩ := list4 (show l.length = 4 from hsz)
  obtain ⟨fuel, hf⟩ := h
  obtain ⟨y0, y1, y2, y3, m, -, -, h0, h1, h2, h3⟩ := trod_struct4 Tryd.underlying39 (show DataW.trod enc Tryd.prog W 0 (fun _ => true) true fuel 39 [c0, c1, c2, c3] = some (d, p) from hf)
  simp only [e1] at h0 h1 h2 h3
  obtain ⟨x0, f0, -, w0⟩ := DataW.trod_int Tryd.underlying3 (show DataW.trod enc Tryd.prog W 0 (fun _ => true) true m 3 [c0] = some y0 from h0)
  obtain ⟨x1, f1, -, w1⟩ := DataW.trod_int Tryd.underlying3 (show DataW.trod enc Tryd.prog W 0 (fun _ => true) true m 3 [c1] = some y1 from h1)
  obtain ⟨x2, f2, -, w2⟩ := DataW.trod_int Tryd.underlying3 (show DataW.trod enc Tryd.prog W 0 (fun _ => true) true m 3 [c2] = some y2 from h2)
  obtain ⟨x3, f3, -, w3⟩ := DataW.trod_int Tryd.underlying3 (show DataW.trod enc Tryd.prog W 0 (fun _ => true) true m 3 [c3] = some y3 from h3)
  obtain rfl : c0 = .int .i64 x0 := by simpa using f0
  obtain rfl : c1 = .int .i64 x1 := by simpa using f1
  obtain rfl : c2 = .int .i64 x2 := by simpa using f2
  obtain rfl : c3 = .int .i64 x3 := by simpa using f3
  have b0 := bounds_i64 w0
  have b1 := bounds_i64 w1
  have b2 := bounds_i64 w2
  have b3 := bounds_i64 w3
  exact ⟨x0, x1, x2, x3, rfl, ⟨by omega, by omega⟩, by omega, by omega⟩
theorem ownP : ownKnob Tryd.prog.godebug = none := by kernel_rfl
theorem laidOutP : laidOutB Tryd.prog = true := by kernel_rfl
end Go.Proofs.YtchfbpgbojnakaaDoor.shut
/- An argument that is bytes, of whatever length, opened. -/

namespace Go.Proofs.YtchfbpgbojnakaaDoor.shut
open Go.ChangeShapes Go.WideShapes Go.ChangeAt Go.RowKit Go.Deep

set_option maxRecDepth 10000 in
/-- AN ARGUMENT THAT IS A SLICE OF BYTES. -/
theorem bytes_any {H : Type} {enc : TypeId × Value → H} {W : World} {base : Nat} {v : Value} {d : DataW H} {p : List MemPlace} (hv : Value.okWide Tryd.prog W .any base 25 v) (h : DataW.Trod enc Tryd.prog W 0 (fun _ => true) true 25 v d p)
    (hlt : ∀ x ∈ p, x.block < W.heap.size) (hk : (DataW.weights Tryd.prog 25 d).all (· ≤ reachBytes) = true) :
    ∃ A xs c, v = .slice A xs.length c ∧ xs.length ≤ c ∧ xs.length ≤ 140737488355328 ∧ (A = none → c = 0) ∧ RdV W W.heap.size A (bcells xs) := by
  obtain ⟨a0, len, cap, rfl⟩ := okWide_slice Tryd.underlying25 hv
  obtain ⟨fuel, hf⟩ := h
  rcases open_ints Tryd.underlying25 Tryd.underlying5 cellsByte hf with ⟨hcs, _⟩ | ⟨a, len', cap', zs, hcs, _, hl, hm, hz, hx, hcell, hwz⟩
  · simp [Value.cells] at hcs
    obtain ⟨rfl, rfl, rfl⟩ := hcs
    exact ⟨none, [], 0, rfl, by simp, by simp, fun _ => rfl, RdV.nil _ _ _⟩
  · simp [Value.cells] at hcs
    obtain ⟨rfl, rfl, rfl⟩ := hcs
    simp only [Prod.mk.injEq] at hx
    obtain ⟨rfl, rfl⟩ := hx
    simp only [if_true] at hz
    have hbd : ∀ n ∈ zs, 0 ≤ n ∧ n ≤ 255 := fun n hn => bounds_u8 (hwz n hn)
    have hby : Tryd.prog.bytesOf 5 = 1 := by kernel_rfl
    have hk0 : zs.length ≤ reachBytes := by
      simp only [DataW.weights, Tryd.underlying25, hby, List.all_cons, Bool.and_eq_true, decide_eq_true_eq, lits, List.length_map, List.length_take, List.length_drop] at hk
      have := hk.1
      omega
    have hk1 : zs.length ≤ 140737488351232 := hk0
    have hlen : ((zs.take len).map fun z => UInt8.ofNat z.toNat).length = len := by rw [List.length_map, List.length_take]; omega
    refine ⟨some a, (zs.take len).map fun z => UInt8.ofNat z.toNat, cap, by rw [hlen], by omega, by omega, fun e => (by cases e), ?_⟩
    intro hn
    rw [bcells_length, hlen] at hn
    obtain ⟨b, off, spot⟩ := a
    have hspot : spot = none := by simpa [Addr.add] using World.cell?_spot (hcell 0 (by omega))
    subst hspot
    refine ⟨b, off, rfl, hlt (.cell b off) (MemPlace.mem_row.2 ⟨0, by omega, by simp⟩), fun j hj => ?_⟩
    rw [bcells_length, hlen] at hj
    have hj' : j < zs.length := by omega
    have hc := hcell j hj'
    rw [addr_add] at hc
    rw [hc]
    have h2 := hbd zs[j] (List.getElem_mem hj')
    simp only [bcells, List.getElem_map, List.getElem_take, List.getD_eq_getElem?_getD, List.getElem?_eq_getElem hj', Option.getD_some]
    congr 2
    simp
    omega
end Go.Proofs.YtchfbpgbojnakaaDoor.shut
/- What the closings of layer 9 need: the listed variables, a world for the witness. -/

namespace Go.Proofs.YtchfbpgbojnakaaDoor.shut
open Go.ChangeShapes Go.WideShapes Go.ChangeAt Go.RowKit Go.Deep Num

/-- what the rows list -/
def list6 : List (String × DataW Unit) := [("math/bits.deBruijn32tab", Rows.laid_math_bits_deBruijn32tab), ("math/bits.deBruijn64tab", Rows.laid_math_bits_deBruijn64tab), ("internal/strconv.uint64pow10", Rows.laid_internal_strconv_uint64pow10), ("strconv.ErrRange", Rows.laid_strconv_ErrRange), ("strconv.ErrSyntax", Rows.laid_strconv_ErrSyntax), ("frisket/pam.heads", Rows.laid_frisket_pam_heads)]
def list4v : List (String × DataW Unit) := [("math/bits.deBruijn32tab", Rows.laid_math_bits_deBruijn32tab), ("math/bits.deBruijn64tab", Rows.laid_math_bits_deBruijn64tab), ("internal/strconv.uint64pow10", Rows.laid_internal_strconv_uint64pow10), ("frisket/pam.heads", Rows.laid_frisket_pam_heads)]
theorem tab_of {W : World} {r : List (String × DataW Unit)} (h : laidMet Tryd.prog (("math/bits.deBruijn32tab", Rows.laid_math_bits_deBruijn32tab) :: ("math/bits.deBruijn64tab", Rows.laid_math_bits_deBruijn64tab) :: ("internal/strconv.uint64pow10", Rows.laid_internal_strconv_uint64pow10) :: r) W) : Tab W :=
  Lib.tabIs_of_head (g := 2) (t := 116) (by kernel_rfl) (by kernel_rfl) Tryd.underlying116 Tryd.underlying79 (by kernel_rfl) (by kernel_rfl) (show laidMet Tryd.prog (("internal/strconv.uint64pow10", Lib.tabData .u64 Lib.pow10Tab) :: _) W from h.tail.tail)
theorem open_str_cell {H : Type} {enc : TypeId × Value → H} {w : World} {base : Nat} {sp : Nat → Bool} {held : Bool} {fuel : Nat} {cs : List Value} {bs : List UInt8} {p : List MemPlace} (h : DataW.trod enc Tryd.prog w base sp held fuel 9 cs = some (.lit (.string bs), p)) : cs = [.string (str bs)] := by
  cases fuel with
  | zero => simp [DataW.trod] at h
  | succ m =>
    simp only [DataW.trod, Tryd.underlying9] at h
    split at h
    all_goals first
      | (rename_i hq; cases hq; done)
      | (split at h
         · simp only [Option.some.injEq, Prod.mk.injEq, DataW.lit.injEq, Lit.string.injEq] at h
           obtain ⟨h, -⟩ := h
           subst h
           simp [str]
         · cases h)
      | (cases h; done)
theorem cellsStrY : Tryd.prog.cellsOf 9 = 1 := by kernel_rfl
set_option maxRecDepth 10000 in
theorem heads_of {W : World} {r : List (String × DataW Unit)} (h : laidMet Tryd.prog (("frisket/pam.heads", Rows.laid_frisket_pam_heads) :: r) W) : Heads W := by
  obtain ⟨ps, ⟨g', t', cs, fuel, p, q, hg', ht', hvar, hd, _, _⟩, _⟩ := h
  obtain rfl := Option.some.inj ((show Tryd.prog.globalNamed "frisket/pam.heads" = some 0 by kernel_rfl).symm.trans hg')
  obtain rfl := Option.some.inj ((show (Tryd.prog.globals[0]?).map (·.type) = some 58 by kernel_rfl).symm.trans ht')
  obtain ⟨xs, m, -, hx, hl, hxl, hc⟩ := DataW.trod_array Tryd.underlying58 hd
  rw [show Tryd.prog.cellsOf 58 = 7 by kernel_rfl] at hl
  simp only [cellsStrY, Nat.mul_one] at hc
  simp only [Prod.mk.injEq] at hx
  have hx1 := hx.1
  unfold Rows.laid_frisket_pam_heads at hx1
  simp only [DataW.agg.injEq] at hx1
  obtain ⟨l⟩ := cs
  have hl2 : l.length = 7 := hl
  have hc2 : ∀ (i : Nat), i < 7 → DataW.trod (fun _ => ()) Tryd.prog W 0 (fun _ => true) false m 9 ((l.drop i).take 1) = xs[i]? := hc
  clear hc hl hd hx
  match l, hl2, xs, hxl, hx1, hc2, hvar with
  | [c0, c1, c2, c3, c4, c5, c6], _, [⟨y0, p0⟩, ⟨y1, p1⟩, ⟨y2, p2⟩, ⟨y3, p3⟩, ⟨y4, p4⟩, ⟨y5, p5⟩, ⟨y6, p6⟩], _, hx1, hc2, hvar =>
    simp only [List.map_cons, List.map_nil, List.cons.injEq, and_true] at hx1
    obtain ⟨rfl, rfl, rfl, rfl, rfl, rfl, rfl⟩ := hx1
    have h0 := open_str_cell (hc2 0 (by omega))
    have h1 := open_str_cell (hc2 1 (by omega))
    have h2 := open_str_cell (hc2 2 (by omega))
    have h3 := open_str_cell (hc2 3 (by omega))
    have h4 := open_str_cell (hc2 4 (by omega))
    have h5 := open_str_cell (hc2 5 (by omega))
    have h6 := open_str_cell (hc2 6 (by omega))
    simp only [List.drop_zero, List.drop_succ_cons, List.take_succ_cons, List.take_zero, List.cons.injEq, and_true] at h0 h1 h2 h3 h4 h5 h6
    subst h0 h1 h2 h3 h4 h5 h6
    unfold Heads
    rw [hvar]
    rfl
theorem starErrY : "*" ++ "errors.errorString" = "*errors.errorString" := by decide
theorem rowErrY (u : TypeId) (h : Tryd.prog.typeName? 3 u = some "*errors.errorString") : u = 130 :=
  typeName_ptr_named (nm := "errors.errorString") (by rw [starErrY]; kernel_rfl) (by kernel_rfl) (by decide) u (by rw [starErrY]; exact h)
theorem env6 {W : World} (h0 : laidMetH Tryd.prog list6 W) : Env9 W := by
  have h : laidMet Tryd.prog list6 W := h0
  exact ⟨heads_of (r := []) h.tail.tail.tail.tail.tail, tab_of h⟩
theorem env4 {W : World} (h0 : laidMetH Tryd.prog list4v W) : Env9 W := by
  have h : laidMet Tryd.prog list4v W := h0
  exact ⟨heads_of (r := []) h.tail.tail.tail, tab_of h⟩
theorem rng6 {W : World} (h0 : laidMetH Tryd.prog list6 W) : Rng W := by
  have h : laidMet Tryd.prog list6 W := h0
  obtain ⟨a, s, hv, -, -, -⟩ := laid_sentinel (te := 132) (ts := 9) (g := 4) (show laidMet Tryd.prog (("strconv.ErrRange", .iface "*errors.errorString" (.ptr (.agg [.lit (.string [118, 97, 108, 117, 101, 32, 111, 117, 116, 32, 111, 102, 32, 114, 97, 110, 103, 101])]))) :: _) W from h.tail.tail.tail) (by kernel_rfl) (by kernel_rfl) Tryd.underlying86 rowErrY Tryd.underlying130 Tryd.underlying132 rfl rfl Tryd.underlying9 (by kernel_rfl) (by kernel_rfl)
  exact ⟨_, _, by have h1 := World.var?_cell (show Tryd.prog.globalNamed "strconv.ErrRange" = some 4 by kernel_rfl) hv 0; simpa using h1⟩

/-- A WORLD FOR THE WITNESS: the settled one, the tables holding what their initialisers lay, the two errors pointing to a text each. -/
def nums (k : IntKind) (l : List Int) : Array Value := (l.map fun z => Value.int k z).toArray
def bruijn32 : List Int := [0, 1, 28, 2, 29, 14, 24, 3, 30, 22, 20, 15, 25, 17, 4, 8, 31, 27, 13, 23, 21, 19, 16, 7, 26, 12, 18, 6, 11, 5, 10, 9]
def bruijn64 : List Int := [0, 1, 56, 2, 57, 49, 28, 3, 61, 58, 42, 50, 38, 29, 17, 4, 62, 47, 59, 36, 45, 43, 51, 22, 53, 39, 33, 30, 24, 18, 12, 5, 63, 55, 48, 27, 60, 41, 37, 16, 46, 35, 44, 21, 52, 32, 23, 11, 54, 26, 40, 15, 34, 20, 31, 10, 25, 14, 19, 9, 13, 8, 7, 6]
def pow10 : List Int := [1, 10, 100, 1000, 10000, 100000, 1000000, 10000000, 100000000, 1000000000, 10000000000, 100000000000, 1000000000000, 10000000000000, 100000000000000, 1000000000000000, 10000000000000000, 100000000000000000, 1000000000000000000, 10000000000000000000]
def lay (cs : Array Value) (o : Obj) : Obj := match o with
  | .cells _ t frozen => .cells cs t frozen
  | o => o
abbrev synS : ByteArray := { data := #[105, 110, 118, 97, 108, 105, 100, 32, 115, 121, 110, 116, 97, 120] }
abbrev rngS : ByteArray := { data := #[118, 97, 108, 117, 101, 32, 111, 117, 116, 32, 111, 102, 32, 114, 97, 110, 103, 101] }
/-- So many blocks has the settled world. -/
noncomputable def low : Nat := (World.holding Tryd.prog default ⟨#[], #[], []⟩).heap.size
noncomputable def laidWorld (os : Os) : World :=
  let w0 := World.holding Tryd.prog os ⟨#[.cells #[.string synS] 132, .cells #[.string rngS] 132], #[], []⟩
  { w0 with heap := (((((w0.heap.modify 2 (lay (nums .u64 pow10))).modify 5 (lay (nums .u8 bruijn32))).modify 6 (lay (nums .u8 bruijn64))).modify 0 (lay headCells)).modify 3 (lay #[.iface 130 (.pointer (some ⟨low, 0, none⟩))])).modify 4 (lay #[.iface 130 (.pointer (some ⟨low + 1, 0, none⟩))]) }
theorem laid_met6 (os : Os) (args : Array Value) : laidMet Tryd.prog list6 ((laidWorld os).forCall (fun _ _ => 0) ⟨#[], args, []⟩).memory :=
  laidMet_of_run' 8 (by kernel_rfl) (by kernel_rfl)
theorem laid_met4 (os : Os) (args : Array Value) : laidMet Tryd.prog list4v ((laidWorld os).forCall (fun _ _ => 0) ⟨#[], args, []⟩).memory :=
  laidMet_of_run' 8 (by kernel_rfl) (by kernel_rfl)
end Go.Proofs.YtchfbpgbojnakaaDoor.shut
/- A raster that came in is no longer than its weight allows. -/

namespace Go.Proofs.YtchfbpgbojnakaaDoor.shut
open Go.ChangeShapes Go.WideShapes Go.ChangeAt Go.RowKit Go.Deep

set_option maxRecDepth 10000 in
theorem raster_small {H : Type} {enc : TypeId × Value → H} {W : World} {v : Value} {d : DataW H} {p : List MemPlace} (h : DataW.Trod enc Tryd.prog W 0 (fun _ => true) true 24 v d p)
    (hk : (DataW.weights Tryd.prog 24 d).all (· ≤ reachBytes) = true) {r : Ras} {A : Option Addr} {c : Nat} (hv : v = rasV r A c) : r.pix.length ≤ 4611686018427387904 := by
  subst hv
  have e1 : Tryd.prog.cellsOf 3 = 1 := by kernel_rfl
  have e2 : Tryd.prog.cellsOf 22 = 1 := by kernel_rfl
  have e4 : Tryd.prog.bytesOf 41 = 4 := by kernel_rfl
  obtain ⟨fuel, hf⟩ := h
  obtain ⟨y0, y1, y2, m, hx, -, h0, h1, h2⟩ := trod_struct3 Tryd.underlying24 (show DataW.trod enc Tryd.prog W 0 (fun _ => true) true fuel 24 [.int .i64 r.w, .int .i64 r.h, .slice A r.pix.length c] = some (d, p) from hf)
  simp only [Prod.mk.injEq] at hx
  obtain ⟨rfl, -⟩ := hx
  simp only [e2] at h2
  rcases open_slice Tryd.underlying22 (show DataW.trod enc Tryd.prog W 0 (fun _ => true) true m 22 [.slice A r.pix.length c] = some y2 from h2) with ⟨hcs, -⟩ | ⟨a, len, cap, m', n, D, Pl, hcs, -, hl, hcm, hm, hy, -⟩
  · simp only [List.cons.injEq, Value.slice.injEq, and_true] at hcs
    omega
  · simp only [List.cons.injEq, Value.slice.injEq, and_true] at hcs
    obtain ⟨-, hlen, -⟩ := hcs
    rw [hy] at hk
    simp only [DataW.weights, Tryd.underlying24, Tryd.underlying22, DataW.weightsEach, e4, List.map_cons, List.map_nil, List.all_cons, List.all_append, Bool.and_eq_true, decide_eq_true_eq, List.length_map, List.length_range] at hk
    have h3 := hk.2.2.1.1
    have h4 : (len + (m' - len)) * 4 ≤ 140737488351232 := h3
    omega
end Go.Proofs.YtchfbpgbojnakaaDoor.shut
