/- What the closings of layer 6 need: arguments that are bytes, or lines of words, opened; the bound. -/
import Derived.Test.YtkeglcfndjpblaaDoorRows
import Derived.Test.YtkeglcfndjpblaaDoorZLxV
import Derived.WalkKit
import Derived.ProofKit
import Derived.OpenShut
import Derived.JoinedCond
import Derived.Deep.Strs
import Derived.Test.YtkeglcfndjpblaaDoorCards
import Derived.Test.YtkeglcfndjpblaaDoorTie
import Derived.Test.YtkeglcfndjpblaaDoorZFhZ
import Derived.SizedLaws
import Derived.Deep.DeepHandedRow
import Derived.Lib.LaidTab
import Derived.Stop.LaidErr
namespace Go.Proofs.YtkeglcfndjpblaaDoor.shut
open Go.ChangeShapes Go.WideShapes Go.ChangeAt Go.RowKit Go.Deep

theorem own : ownKnob Tryd.prog.godebug = none := by kernel_rfl
theorem laidOut : laidOutB Tryd.prog = true := by kernel_rfl
theorem cellsByte : Tryd.prog.cellsOf 5 = 1 := by kernel_rfl
theorem cellsStr : Tryd.prog.cellsOf 9 = 1 := by kernel_rfl
theorem cellsRow : Tryd.prog.cellsOf 31 = 1 := by kernel_rfl

/-- the bound -/
theorem part_le {H : Type} {d : DataW H} {l : List (DataW H)} (h : d ∈ l) : Rows.uptoBulk d ≤ Rows.uptoBulkAll l := by
  induction l with
  | nil => cases h
  | cons x r ih =>
    simp only [Rows.uptoBulkAll]
    rcases List.mem_cons.1 h with rfl | h
    · omega
    · have := ih h; omega
theorem bulk_lits {H : Type} (k : IntKind) (zs : List Int) : Rows.uptoBulkAll (lits (H := H) k zs) = zs.length := by
  induction zs with
  | nil => rfl
  | cons z r ih =>
    have e : lits (H := H) k (z :: r) = .lit (.int k z) :: lits k r := rfl
    rw [e]
    simp only [Rows.uptoBulkAll, ih, List.length_cons, Rows.uptoBulk]
    omega

set_option maxRecDepth 10000 in
/-- AN ARGUMENT THAT IS A SLICE OF BYTES. -/
theorem bytes {H : Type} {enc : TypeId × Value → H} {W : World} {base : Nat} {v : Value} {d : DataW H} {p : List MemPlace} (hv : Value.okWide Tryd.prog W .any base 40 v) (h : DataW.Trod enc Tryd.prog W 0 (fun _ => true) true 40 v d p)
    (hlt : ∀ x ∈ p, x.block < W.heap.size) (hk : Rows.uptoBulk d ≤ 1048576) :
    ∃ A xs c, v = .slice A xs.length c ∧ xs.length ≤ c ∧ xs.length ≤ 1048576 ∧ (A = none → c = 0) ∧ RdV W W.heap.size A (bcells xs) := by
  obtain ⟨a0, len, cap, rfl⟩ := okWide_slice Tryd.underlying40 hv
  obtain ⟨fuel, hf⟩ := h
  rcases open_ints Tryd.underlying40 Tryd.underlying5 cellsByte hf with ⟨hcs, _⟩ | ⟨a, len', cap', zs, hcs, _, hl, hm, hz, hx, hcell, hwz⟩
  · simp [Value.cells] at hcs
    obtain ⟨rfl, rfl, rfl⟩ := hcs
    exact ⟨none, [], 0, rfl, by simp, by simp, fun _ => rfl, RdV.nil _ _ _⟩
  · simp [Value.cells] at hcs
    obtain ⟨rfl, rfl, rfl⟩ := hcs
    simp only [Prod.mk.injEq] at hx
    obtain ⟨rfl, rfl⟩ := hx
    simp only [if_true] at hz
    have hbd : ∀ n ∈ zs, 0 ≤ n ∧ n ≤ 255 := fun n hn => bounds_u8 (hwz n hn)
    simp only [Rows.uptoBulk, bulk_lits, List.length_take, List.length_drop] at hk
    have hlen : ((zs.take len).map fun z => UInt8.ofNat z.toNat).length = len := by rw [List.length_map, List.length_take]; omega
    refine ⟨some a, (zs.take len).map fun z => UInt8.ofNat z.toNat, cap, by rw [hlen], by omega, by omega, fun e => (by cases e), ?_⟩
    intro hn
    rw [bcells_length, hlen] at hn
    obtain ⟨b, off, spot⟩ := a
    have hspot : spot = none := by simpa [Addr.add] using World.cell?_spot (hcell 0 (by omega))
    subst hspot
    refine ⟨b, off, rfl, hlt (.cell b off) (MemPlace.mem_row.2 ⟨0, by omega, by simp⟩), fun j hj => ?_⟩
    rw [bcells_length, hlen] at hj
    have hj' : j < zs.length := by omega
    have hc := hcell j hj'
    rw [addr_add] at hc
    rw [hc]
    have h2 := hbd zs[j] (List.getElem_mem hj')
    simp only [bcells, List.getElem_map, List.getElem_take, List.getD_eq_getElem?_getD, List.getElem?_eq_getElem hj', Option.getD_some]
    congr 2
    simp
    omega
end Go.Proofs.YtkeglcfndjpblaaDoor.shut
/- What the closings of layer 7 need: the listed variables, a world for the witness. -/

namespace Go.Proofs.YtkeglcfndjpblaaDoor.shut
open Go.ChangeShapes Go.WideShapes Go.ChangeAt Go.RowKit Go.Deep Num

/-- what the rows list -/
def list : List (String × DataW Unit) := [("math/bits.deBruijn32tab", Rows.laid_math_bits_deBruijn32tab), ("math/bits.deBruijn64tab", Rows.laid_math_bits_deBruijn64tab), ("internal/strconv.uint64pow10", Rows.laid_internal_strconv_uint64pow10), ("strconv.ErrRange", Rows.laid_strconv_ErrRange), ("strconv.ErrSyntax", Rows.laid_strconv_ErrSyntax), ("frisket/figure.figures", Rows.laid_frisket_figure_figures)]
theorem tab_of_laid {W : World} (h0 : laidMetH Tryd.prog list W) : Tab W := by
  have h : laidMet Tryd.prog list W := h0
  exact Lib.tabIs_of_head (g := 3) (t := 119) (by kernel_rfl) (by kernel_rfl) Tryd.underlying119 Tryd.underlying77 (by kernel_rfl) (by kernel_rfl) (show laidMet Tryd.prog (("internal/strconv.uint64pow10", Lib.tabData .u64 Lib.pow10Tab) :: _) W from h.tail.tail)
theorem figs_of_laid {W : World} (h0 : laidMetH Tryd.prog list W) : Figs W := by
  have h : laidMet Tryd.prog list W := h0
  exact Lib.tabIs_of_head (g := 0) (t := 65) (by kernel_rfl) (by kernel_rfl) Tryd.underlying65 Tryd.underlying5 (by kernel_rfl) (by kernel_rfl) (show laidMet Tryd.prog (("frisket/figure.figures", Lib.tabData .u8 figTab) :: _) W from h.tail.tail.tail.tail.tail)
theorem starErr : "*" ++ "errors.errorString" = "*errors.errorString" := by decide
theorem rowErr (u : TypeId) (h : Tryd.prog.typeName? 3 u = some "*errors.errorString") : u = 111 :=
  typeName_ptr_named (nm := "errors.errorString") (by rw [starErr]; kernel_rfl) (by kernel_rfl) (by decide) u (by rw [starErr]; exact h)
theorem rng_of_laid {W : World} (h0 : laidMetH Tryd.prog list W) : Rng W := by
  have h : laidMet Tryd.prog list W := h0
  obtain ⟨a, s, hv, -, -, -⟩ := laid_sentinel (te := 113) (ts := 9) (g := 2) (show laidMet Tryd.prog (("strconv.ErrRange", .iface "*errors.errorString" (.ptr (.agg [.lit (.string [118, 97, 108, 117, 101, 32, 111, 117, 116, 32, 111, 102, 32, 114, 97, 110, 103, 101])]))) :: _) W from h.tail.tail.tail) (by kernel_rfl) (by kernel_rfl) Tryd.underlying49 rowErr Tryd.underlying111 Tryd.underlying113 rfl rfl Tryd.underlying9 (by kernel_rfl) (by kernel_rfl)
  exact ⟨_, _, by have h1 := World.var?_cell (show Tryd.prog.globalNamed "strconv.ErrRange" = some 2 by kernel_rfl) hv 0; simpa using h1⟩

/-- A WORLD FOR THE WITNESS: the settled one, the tables holding what their initialisers lay, the two errors pointing to a text each. -/
def nums (k : IntKind) (l : List Int) : Array Value := (l.map fun z => Value.int k z).toArray
def bruijn32 : List Int := [0, 1, 28, 2, 29, 14, 24, 3, 30, 22, 20, 15, 25, 17, 4, 8, 31, 27, 13, 23, 21, 19, 16, 7, 26, 12, 18, 6, 11, 5, 10, 9]
def bruijn64 : List Int := [0, 1, 56, 2, 57, 49, 28, 3, 61, 58, 42, 50, 38, 29, 17, 4, 62, 47, 59, 36, 45, 43, 51, 22, 53, 39, 33, 30, 24, 18, 12, 5, 63, 55, 48, 27, 60, 41, 37, 16, 46, 35, 44, 21, 52, 32, 23, 11, 54, 26, 40, 15, 34, 20, 31, 10, 25, 14, 19, 9, 13, 8, 7, 6]
def pow10 : List Int := [1, 10, 100, 1000, 10000, 100000, 1000000, 10000000, 100000000, 1000000000, 10000000000, 100000000000, 1000000000000, 10000000000000, 100000000000000, 1000000000000000, 10000000000000000, 100000000000000000, 1000000000000000000, 10000000000000000000]
def lay (cs : Array Value) (o : Obj) : Obj := match o with
  | .cells _ t frozen => .cells cs t frozen
  | o => o
abbrev synS : ByteArray := { data := #[105, 110, 118, 97, 108, 105, 100, 32, 115, 121, 110, 116, 97, 120] }
abbrev rngS : ByteArray := { data := #[118, 97, 108, 117, 101, 32, 111, 117, 116, 32, 111, 102, 32, 114, 97, 110, 103, 101] }
/-- So many blocks has the settled world. -/
noncomputable def low : Nat := (World.holding Tryd.prog default ⟨#[], #[], []⟩).heap.size
noncomputable def laidWorld (os : Os) : World :=
  let w0 := World.holding Tryd.prog os ⟨#[.cells #[.string synS] 113, .cells #[.string rngS] 113], #[], []⟩
  { w0 with heap := (((((w0.heap.modify 3 (lay (nums .u64 pow10))).modify 4 (lay (nums .u8 bruijn32))).modify 5 (lay (nums .u8 bruijn64))).modify 0 (lay (nums .u8 figTab))).modify 1 (lay #[.iface 111 (.pointer (some ⟨low, 0, none⟩))])).modify 2 (lay #[.iface 111 (.pointer (some ⟨low + 1, 0, none⟩))]) }
theorem laid_met (os : Os) (args : Array Value) : laidMet Tryd.prog list ((laidWorld os).forCall (fun _ _ => 0) ⟨#[], args, []⟩).memory :=
  laidMet_of_run' 8 (by kernel_rfl) (by kernel_rfl)

set_option maxRecDepth 10000 in
/-- AN ARGUMENT THAT IS TWO INTS. -/
theorem pair2 {H : Type} {enc : TypeId × Value → H} {W : World} {base : Nat} {v : Value} {d : DataW H} {p : List MemPlace} (hv : Value.okWide Tryd.prog W .any base 22 v) (h : DataW.Trod enc Tryd.prog W 0 (fun _ => true) true 22 v d p) :
    ∃ x y : Int, v = .agg #[.int .i64 x, .int .i64 y] ∧ (-9223372036854775808 ≤ x ∧ x ≤ 9223372036854775807) ∧ (-9223372036854775808 ≤ y ∧ y ≤ 9223372036854775807) := by
  have hu := Tryd.underlying22
  have hc : Tryd.prog.cellsOf 22 = 2 := by kernel_rfl
  have e1 : Tryd.prog.cellsOf 3 = 1 := by kernel_rfl
  simp only [Value.okWide, hu] at hv
  obtain ⟨cs, rfl, hsz, -⟩ := hv
  rw [hc] at hsz
  obtain ⟨l⟩ := cs
  match l, hsz with
  | [c0, c1], _ =>
    obtain ⟨fuel, hf⟩ := h
    obtain ⟨xs, m, -, hd, -, hxl, hx⟩ := DataW.trod_array hu (show DataW.trod enc Tryd.prog W 0 (fun _ => true) true fuel 22 [c0, c1] = some (d, p) from hf)
    simp only [e1] at hx
    obtain ⟨x, f0, -, wx⟩ := DataW.trod_int (x := xs[0]'(by omega)) Tryd.underlying3 (show DataW.trod enc Tryd.prog W 0 (fun _ => true) true m 3 [c0] = some _ from (hx 0 (by omega)).trans (List.getElem?_eq_getElem (by omega)))
    obtain ⟨y, f1, -, wy⟩ := DataW.trod_int (x := xs[1]'(by omega)) Tryd.underlying3 (show DataW.trod enc Tryd.prog W 0 (fun _ => true) true m 3 [c1] = some _ from (hx 1 (by omega)).trans (List.getElem?_eq_getElem (by omega)))
    obtain rfl : c0 = .int .i64 x := by simpa using f0
    obtain rfl : c1 = .int .i64 y := by simpa using f1
    have b0 := bounds_i64 wx
    have b1 := bounds_i64 wy
    exact ⟨x, y, rfl, by omega, by omega⟩

theorem cellsInt : Tryd.prog.cellsOf 3 = 1 := by kernel_rfl
set_option maxRecDepth 10000 in
/-- AN ARGUMENT THAT IS A SLICE OF INTS, of whatever length. -/
theorem ints_any {H : Type} {enc : TypeId × Value → H} {W : World} {base : Nat} {v : Value} {d : DataW H} {p : List MemPlace} (hv : Value.okWide Tryd.prog W .any base 32 v) (h : DataW.Trod enc Tryd.prog W 0 (fun _ => true) true 32 v d p)
    (hlt : ∀ x ∈ p, x.block < W.heap.size) (hk : (DataW.weights Tryd.prog 32 d).all (· ≤ reachBytes) = true) :
    ∃ A xs c, v = .slice A xs.length c ∧ xs.length ≤ 17592186044416 ∧ (∀ n ∈ xs, -9223372036854775808 ≤ n ∧ n ≤ 9223372036854775807) ∧ RdV W W.heap.size A (icells xs) := by
  obtain ⟨a0, len, cap, rfl⟩ := okWide_slice Tryd.underlying32 hv
  obtain ⟨fuel, hf⟩ := h
  rcases open_ints Tryd.underlying32 Tryd.underlying3 cellsInt hf with ⟨hcs, _⟩ | ⟨a, len', cap', zs, hcs, _, hl, hm, hz, hx, hcell, hwz⟩
  · simp [Value.cells] at hcs
    obtain ⟨rfl, rfl, rfl⟩ := hcs
    exact ⟨none, [], 0, rfl, by simp, by simp, RdV.nil _ _ _⟩
  · simp [Value.cells] at hcs
    obtain ⟨rfl, rfl, rfl⟩ := hcs
    simp only [Prod.mk.injEq] at hx
    obtain ⟨rfl, rfl⟩ := hx
    simp only [if_true] at hz
    have hbd : ∀ n ∈ zs, -9223372036854775808 ≤ n ∧ n ≤ 9223372036854775807 := fun n hn => by have := bounds_i64 (hwz n hn); omega
    have hby : Tryd.prog.bytesOf 3 = 8 := by kernel_rfl
    have hk0 : zs.length * 8 ≤ reachBytes := by
      simp only [DataW.weights, Tryd.underlying32, hby, List.all_cons, Bool.and_eq_true, decide_eq_true_eq, lits, List.length_map, List.length_take, List.length_drop] at hk
      have := hk.1
      omega
    have hk1 : zs.length * 8 ≤ 140737488351232 := hk0
    have hlen : (zs.take len).length = len := by rw [List.length_take]; omega
    refine ⟨some a, zs.take len, cap, by rw [hlen], by omega, fun n hn => hbd n (List.mem_of_mem_take hn), ?_⟩
    intro hn
    rw [icells_length, hlen] at hn
    obtain ⟨b, off, spot⟩ := a
    have hspot : spot = none := by simpa [Addr.add] using World.cell?_spot (hcell 0 (by omega))
    subst hspot
    refine ⟨b, off, rfl, hlt (.cell b off) (MemPlace.mem_row.2 ⟨0, by omega, by simp⟩), fun j hj => ?_⟩
    rw [icells_length, hlen] at hj
    have hj' : j < zs.length := by omega
    have hc := hcell j hj'
    rw [addr_add] at hc
    rw [hc]
    simp only [icells, List.getElem_map, List.getElem_take, List.getD_eq_getElem?_getD, List.getElem?_eq_getElem hj', Option.getD_some]

theorem weights_mem {H : Type} (P : Program) (e : TypeId) {l : List (DataW H)} {d : DataW H} (h : d ∈ l) {n : Nat} (hn : n ∈ DataW.weights P e d) : n ∈ DataW.weightsAll P e l := by
  induction l with
  | nil => cases h
  | cons x r ih =>
    rw [DataW.weightsAll, List.mem_append]
    rcases List.mem_cons.1 h with rfl | h
    · exact .inl hn
    · exact .inr (ih h)
theorem str_of7 (s : ByteArray) : str s.data.toList = s := by cases s; rfl
set_option maxRecDepth 10000 in
/-- AN ARGUMENT THAT IS A SLICE OF TEXTS, of whatever length. -/
theorem texts_any {H : Type} {enc : TypeId × Value → H} {W : World} {base : Nat} {v : Value} {d : DataW H} {p : List MemPlace} (hv : Value.okWide Tryd.prog W .any base 31 v) (h : DataW.Trod enc Tryd.prog W 0 (fun _ => true) true 31 v d p)
    (hlt : ∀ x ∈ p, x.block < W.heap.size) (hk : (DataW.weights Tryd.prog 31 d).all (· ≤ reachBytes) = true) :
    ∃ A xs c, v = .slice A (List.length xs) c ∧ xs.length ≤ 8796093022208 ∧ (∀ s ∈ xs, s.length ≤ 281474976710656) ∧ RdV W W.heap.size A (scells xs) := by
  obtain ⟨a0, len, cap, rfl⟩ := okWide_slice Tryd.underlying31 hv
  obtain ⟨fuel, hf⟩ := h
  rcases open_strs Tryd.underlying31 Tryd.underlying9 cellsStr hf with ⟨hcs, _⟩ | ⟨a, len', cap', m, S, hcs, _, hl, _, hm, hx, hc⟩
  · simp [Value.cells] at hcs
    obtain ⟨rfl, rfl, rfl⟩ := hcs
    exact ⟨none, [], 0, rfl, by simp, by simp, RdV.nil _ _ _⟩
  · simp [Value.cells] at hcs
    obtain ⟨rfl, rfl, rfl⟩ := hcs
    simp only [if_true] at hm
    subst hm
    simp only [Prod.mk.injEq] at hx
    obtain ⟨rfl, rfl⟩ := hx
    have hby : Tryd.prog.bytesOf 9 = 16 := by kernel_rfl
    simp only [DataW.weights, Tryd.underlying31, hby, List.all_cons, List.all_append, Bool.and_eq_true, decide_eq_true_eq, List.length_map, List.length_range] at hk
    obtain ⟨hk0, hk1, -⟩ := hk
    have hk2 : (len + (m - len)) * 16 ≤ 140737488351232 := hk0
    have each : ∀ i, i < len → (S i).size ≤ 281474976710656 := fun i hi => by
      have h1 := List.all_eq_true.1 hk1 ((S i).data.toList.length) (weights_mem Tryd.prog 9 (d := DataW.lit (.string (S i).data.toList)) (List.mem_map.2 ⟨i, List.mem_range.2 hi, rfl⟩) (by simp [DataW.weights]))
      have h2 : (S i).data.toList.length ≤ 140737488351232 := of_decide_eq_true h1
      rw [str_len] at h2
      omega
    have hlen : ((List.range len).map fun i => (S i).data.toList).length = len := by simp
    refine ⟨some a, (List.range len).map fun i => (S i).data.toList, m, by rw [hlen], by rw [hlen]; omega, fun s hs => ?_, ?_⟩
    · obtain ⟨i, hi, rfl⟩ := List.mem_map.1 hs
      rw [str_len]
      exact each i (List.mem_range.1 hi)
    · intro hn
      rw [scells_length, hlen] at hn
      obtain ⟨b, off, spot⟩ := a
      have hspot : spot = none := by simpa [Addr.add] using World.cell?_spot (hc 0 (by omega)).1
      subst hspot
      refine ⟨b, off, rfl, hlt (.cell b off) (MemPlace.mem_row.2 ⟨0, by omega, by simp⟩), fun j hj => ?_⟩
      rw [scells_length, hlen] at hj
      have h1 := (hc j (by omega)).1
      rw [addr_add] at h1
      rw [h1]
      simp [scells, str_of7]
end Go.Proofs.YtkeglcfndjpblaaDoor.shut
