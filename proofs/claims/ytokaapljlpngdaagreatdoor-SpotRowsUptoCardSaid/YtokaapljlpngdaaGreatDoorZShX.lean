/- What all five laws share: the table out of the row's list, a slice of words out of an argument, the witness's world, the bound on what comes in. -/
import Derived.Test.YtokaapljlpngdaaGreatDoorCards
import Derived.Test.YtokaapljlpngdaaGreatDoorTie
import Derived.Test.YtokaapljlpngdaaGreatDoorZNatY
import Derived.ProofKit
import Derived.OpenShut
import Derived.Deep.DeepHandedRow
import Derived.Lib.LaidTab
import Derived.Lib.SmallJoins
namespace Go.Proofs.YtokaapljlpngdaaGreatDoor.shut
open Go.ChangeShapes Go.WideShapes Go.ChangeAt Go.RowKit Num

theorem own : ownKnob Tryz.prog.godebug = none := by kernel_rfl
theorem laidOut : laidOutB Tryz.prog = true := by kernel_rfl
theorem cellsWord : Tryz.prog.cellsOf 66 = 1 := by kernel_rfl

/-- what the rows list -/
def list : List (String × DataW Unit) := [("math/bits.deBruijn32tab", Rows.laid_math_bits_deBruijn32tab), ("math/bits.deBruijn64tab", Rows.laid_math_bits_deBruijn64tab), ("internal/strconv.uint64pow10", Rows.laid_internal_strconv_uint64pow10)]
theorem tab_of_laid {W : World} (h0 : laidMetH Tryz.prog list W) : Tab W := by
  have h : laidMet Tryz.prog list W := h0
  obtain ⟨ps, ⟨_, _, _, _, _, q1, _, _, _, _, h1, _⟩, _⟩ := h
  obtain ⟨_, _, _, _, _, q2, _, _, _, _, h2, _⟩ := h1
  obtain ⟨g', t', cs, fuel, p, q, hg', ht', hvar, hd, _, _⟩ := h2
  obtain rfl : g' = 0 := (Option.some.inj ((show Tryz.prog.globalNamed "internal/strconv.uint64pow10" = some 0 by kernel_rfl).symm.trans hg')).symm
  obtain rfl : t' = 146 := (Option.some.inj ((show (Tryz.prog.globals[0]?).map (·.type) = some 146 by kernel_rfl).symm.trans ht')).symm
  unfold Tab Lib.TabIs
  rw [hvar, ← Lib.cells_of_tab (k := .u64) (zs := Lib.pow10Tab) Tryz.underlying146 Tryz.underlying68 (by kernel_rfl) (by kernel_rfl) hd]

/-- A WORLD FOR THE WITNESS: the settled one, the three tables holding what their initialisers lay. -/
def nums (k : IntKind) (l : List Int) : Array Value := (l.map fun z => Value.int k z).toArray
def bruijn32 : List Int := [0, 1, 28, 2, 29, 14, 24, 3, 30, 22, 20, 15, 25, 17, 4, 8, 31, 27, 13, 23, 21, 19, 16, 7, 26, 12, 18, 6, 11, 5, 10, 9]
def bruijn64 : List Int := [0, 1, 56, 2, 57, 49, 28, 3, 61, 58, 42, 50, 38, 29, 17, 4, 62, 47, 59, 36, 45, 43, 51, 22, 53, 39, 33, 30, 24, 18, 12, 5, 63, 55, 48, 27, 60, 41, 37, 16, 46, 35, 44, 21, 52, 32, 23, 11, 54, 26, 40, 15, 34, 20, 31, 10, 25, 14, 19, 9, 13, 8, 7, 6]
def pow10 : List Int := [1, 10, 100, 1000, 10000, 100000, 1000000, 10000000, 100000000, 1000000000, 10000000000, 100000000000, 1000000000000, 10000000000000, 100000000000000, 1000000000000000, 10000000000000000, 100000000000000000, 1000000000000000000, 10000000000000000000]
def lay (cs : Array Value) (o : Obj) : Obj := match o with
  | .cells _ t frozen => .cells cs t frozen
  | o => o
noncomputable def laidWorld (os : Os) : World :=
  { World.holding Tryz.prog os ⟨#[], #[], []⟩ with heap := (((World.holding Tryz.prog os ⟨#[], #[], []⟩).heap.modify 0 (lay (nums .u64 pow10))).modify 1 (lay (nums .u8 bruijn32))).modify 2 (lay (nums .u8 bruijn64)) }
theorem laid_met (os : Os) (args : Array Value) : laidMet Tryz.prog list ((laidWorld os).forCall (fun _ _ => 0) ⟨#[], args, []⟩).memory :=
  laidMet_of_run' 8 (by kernel_rfl) (by kernel_rfl)

/-- the bound -/
theorem part_le {H : Type} {d : DataW H} {l : List (DataW H)} (h : d ∈ l) : Rows.uptoBulk d ≤ Rows.uptoBulkAll l := by
  induction l with
  | nil => cases h
  | cons x r ih =>
    simp only [Rows.uptoBulkAll]
    rcases List.mem_cons.1 h with rfl | h
    · omega
    · have := ih h; omega
theorem bulk_lits {H : Type} (k : IntKind) (zs : List Int) : Rows.uptoBulkAll (lits (H := H) k zs) = zs.length := by
  induction zs with
  | nil => rfl
  | cons z r ih =>
    have e : lits (H := H) k (z :: r) = .lit (.int k z) :: lits k r := rfl
    rw [e]
    simp only [Rows.uptoBulkAll, ih, List.length_cons, Rows.uptoBulk]
    omega

set_option maxRecDepth 10000 in
/-- AN ARGUMENT THAT IS A SLICE OF WORDS. -/
theorem words {H : Type} {enc : TypeId × Value → H} {W : World} {base : Nat} {v : Value} {d : DataW H} {p : List MemPlace} (hv : Value.okWide Tryz.prog W .any base 25 v) (h : DataW.Trod enc Tryz.prog W 0 (fun _ => true) true 25 v d p)
    (hlt : ∀ x ∈ p, x.block < W.heap.size) (hk : Rows.uptoBulk d ≤ 1048576) :
    ∃ A xs c, v = .slice A xs.length c ∧ xs.length ≤ c ∧ xs.length ≤ 1048576 ∧ Dg 4294967296 xs ∧ Rd W (fun g => g < W.heap.size) .u32 A xs := by
  obtain ⟨a0, len, cap, rfl⟩ := okWide_slice Tryz.underlying25 hv
  obtain ⟨fuel, hf⟩ := h
  rcases open_ints Tryz.underlying25 Tryz.underlying66 cellsWord hf with ⟨hcs, _⟩ | ⟨a, len', cap', zs, hcs, _, hl, hm, hz, hx, hcell, hwz⟩
  · simp [Value.cells] at hcs
    obtain ⟨rfl, rfl, rfl⟩ := hcs
    exact ⟨none, [], 0, rfl, by simp, by simp, Dg.nil _, Rd.nil⟩
  · simp [Value.cells] at hcs
    obtain ⟨rfl, rfl, rfl⟩ := hcs
    simp only [Prod.mk.injEq] at hx
    obtain ⟨rfl, rfl⟩ := hx
    simp only [if_true] at hz
    have hbd : ∀ n ∈ zs, 0 ≤ n ∧ n ≤ 4294967295 := fun n hn => bounds_u32 (hwz n hn)
    simp only [Rows.uptoBulk, bulk_lits, List.length_take, List.length_drop] at hk
    have hlen : ((zs.take len).map Int.toNat).length = len := by rw [List.length_map, List.length_take]; omega
    refine ⟨some a, (zs.take len).map Int.toNat, cap, by rw [hlen], by omega, by omega, ?_, ?_⟩
    · intro x hx
      obtain ⟨n, hn, rfl⟩ := List.mem_map.1 hx
      have := hbd n (List.mem_of_mem_take hn)
      omega
    · intro hn
      obtain ⟨b, off, spot⟩ := a
      have hspot : spot = none := by simpa [Addr.add] using World.cell?_spot (hcell 0 (by omega))
      subst hspot
      refine ⟨b, off, rfl, hlt (.cell b off) (MemPlace.mem_row.2 ⟨0, by omega, by simp⟩), fun j hj => ?_⟩
      have hj' : j < zs.length := by omega
      have hc := hcell j hj'
      rw [add_mk] at hc
      rw [hc]
      have h2 := hbd zs[j] (List.getElem_mem hj')
      simp only [List.getElem_map, List.getElem_take, List.getD_eq_getElem?_getD, List.getElem?_eq_getElem hj', Option.getD_some]
      congr 2
      omega
end Go.Proofs.YtokaapljlpngdaaGreatDoor.shut
/- An argument that is a whole number, opened. -/

namespace Go.Proofs.YtokaapljlpngdaaGreatDoor.shut
open Go.Joins Go.ChangeShapes Go.WideShapes Go.ChangeAt Go.RowKit Go.Deep Num

set_option maxRecDepth 10000 in
/-- a cell that is a slice of words -/
theorem words_cell {H : Type} {enc : TypeId × Value → H} {W : World} {v : Value} {fuel : Nat} {d : DataW H} {p : List MemPlace} (hf : DataW.trod enc Tryz.prog W 0 (fun _ => true) true fuel 25 [v] = some (d, p))
    (hlt : ∀ x ∈ p, x.block < W.heap.size) (hk : Rows.uptoBulk d ≤ 1048576) :
    ∃ A xs c, v = .slice A xs.length c ∧ xs.length ≤ c ∧ xs.length ≤ 1048576 ∧ Dg 4294967296 xs ∧ Rd W (fun g => g < W.heap.size) .u32 A xs := by
  rcases open_ints Tryz.underlying25 Tryz.underlying66 cellsWord hf with ⟨hcs, _⟩ | ⟨a, len', cap', zs, hcs, _, hl, hm, hz, hx, hcell, hwz⟩
  · obtain rfl : v = .slice none 0 0 := by simpa using hcs
    exact ⟨none, [], 0, rfl, by simp, by simp, Dg.nil _, Rd.nil⟩
  · obtain rfl : v = .slice (some a) len' cap' := by simpa using hcs
    simp only [Prod.mk.injEq] at hx
    obtain ⟨rfl, rfl⟩ := hx
    simp only [if_true] at hz
    have hbd : ∀ n ∈ zs, 0 ≤ n ∧ n ≤ 4294967295 := fun n hn => bounds_u32 (hwz n hn)
    simp only [Rows.uptoBulk, bulk_lits, List.length_take, List.length_drop] at hk
    have hlen : ((zs.take len').map Int.toNat).length = len' := by rw [List.length_map, List.length_take]; omega
    refine ⟨some a, (zs.take len').map Int.toNat, cap', by rw [hlen], by omega, by omega, ?_, ?_⟩
    · intro x hx
      obtain ⟨n, hn, rfl⟩ := List.mem_map.1 hx
      have := hbd n (List.mem_of_mem_take hn)
      omega
    · intro hn
      obtain ⟨b, off, spot⟩ := a
      have hspot : spot = none := by simpa [Addr.add] using World.cell?_spot (hcell 0 (by omega))
      subst hspot
      refine ⟨b, off, rfl, hlt (.cell b off) (MemPlace.mem_row.2 ⟨0, by omega, by simp⟩), fun j hj => ?_⟩
      have hj' : j < zs.length := by omega
      have hc := hcell j hj'
      rw [add_mk] at hc
      rw [hc]
      have h2 := hbd zs[j] (List.getElem_mem hj')
      simp only [List.getElem_map, List.getElem_take, List.getD_eq_getElem?_getD, List.getElem?_eq_getElem hj', Option.getD_some]
      congr 2
      omega

set_option maxRecDepth 10000 in
/-- AN ARGUMENT THAT IS A WHOLE NUMBER. -/
theorem whole {H : Type} {enc : TypeId × Value → H} {W : World} {base : Nat} {v : Value} {d : DataW H} {p : List MemPlace} (hv : Value.okWide Tryz.prog W .any base 27 v) (h : DataW.Trod enc Tryz.prog W 0 (fun _ => true) true 27 v d p)
    (hlt : ∀ x ∈ p, x.block < W.heap.size) (hk : Rows.uptoBulk d ≤ 1048576) :
    ∃ n A xs c, v = .agg #[.bool n, .slice A xs.length c] ∧ xs.length ≤ c ∧ xs.length ≤ 1048576 ∧ Dg 4294967296 xs ∧ Rd W (fun g => g < W.heap.size) .u32 A xs := by
  obtain ⟨v0, v1, y0, y1, n, rfl, rfl, rfl, h0, h1⟩ := open_agg2 Tryz.underlying27 (by kernel_rfl) (by kernel_rfl) hv h
  obtain ⟨b, hb, hy⟩ := DataW.trod_bool Tryz.underlying4 h0
  obtain rfl : v0 = .bool b := by simpa using hb
  obtain ⟨A, xs, c, rfl, h2, h3, h4, h5⟩ := words_cell (d := y1.1) (p := y1.2) h1 (fun x hx => hlt x (by simp [hx])) (by simp only [Rows.uptoBulk, Rows.uptoBulkAll] at hk; omega)
  exact ⟨b, A, xs, c, rfl, h2, h3, h4, h5⟩
end Go.Proofs.YtokaapljlpngdaaGreatDoor.shut
/- An argument that is a fraction, opened. -/

namespace Go.Proofs.YtokaapljlpngdaaGreatDoor.shut
open Go.Joins Go.ChangeShapes Go.WideShapes Go.ChangeAt Go.RowKit Go.Deep Num

set_option maxRecDepth 10000 in
/-- a cell that is a slice of words -/
theorem words_len {H : Type} {enc : TypeId × Value → H} {W : World} {v : Value} {fuel : Nat} {d : DataW H} {p : List MemPlace} (hf : DataW.trod enc Tryz.prog W 0 (fun _ => true) true fuel 25 [v] = some (d, p))
    (hlt : ∀ x ∈ p, x.block < W.heap.size) :
    ∃ A xs c, v = .slice A xs.length c ∧ xs.length ≤ c ∧ xs.length ≤ Rows.uptoBulk d ∧ Dg 4294967296 xs ∧ Rd W (fun g => g < W.heap.size) .u32 A xs := by
  rcases open_ints Tryz.underlying25 Tryz.underlying66 cellsWord hf with ⟨hcs, _⟩ | ⟨a, len', cap', zs, hcs, _, hl, hm, hz, hx, hcell, hwz⟩
  · obtain rfl : v = .slice none 0 0 := by simpa using hcs
    exact ⟨none, [], 0, rfl, by simp, by simp, Dg.nil _, Rd.nil⟩
  · obtain rfl : v = .slice (some a) len' cap' := by simpa using hcs
    simp only [Prod.mk.injEq] at hx
    obtain ⟨rfl, rfl⟩ := hx
    simp only [if_true] at hz
    have hbd : ∀ n ∈ zs, 0 ≤ n ∧ n ≤ 4294967295 := fun n hn => bounds_u32 (hwz n hn)
    have hlen : ((zs.take len').map Int.toNat).length = len' := by rw [List.length_map, List.length_take]; omega
    refine ⟨some a, (zs.take len').map Int.toNat, cap', by rw [hlen], by omega, by (rw [hlen]; simp only [Rows.uptoBulk, bulk_lits, List.length_take, List.length_drop]; omega), ?_, ?_⟩
    · intro x hx
      obtain ⟨n, hn, rfl⟩ := List.mem_map.1 hx
      have := hbd n (List.mem_of_mem_take hn)
      omega
    · intro hn
      obtain ⟨b, off, spot⟩ := a
      have hspot : spot = none := by simpa [Addr.add] using World.cell?_spot (hcell 0 (by omega))
      subst hspot
      refine ⟨b, off, rfl, hlt (.cell b off) (MemPlace.mem_row.2 ⟨0, by omega, by simp⟩), fun j hj => ?_⟩
      have hj' : j < zs.length := by omega
      have hc := hcell j hj'
      rw [add_mk] at hc
      rw [hc]
      have h2 := hbd zs[j] (List.getElem_mem hj')
      simp only [List.getElem_map, List.getElem_take, List.getD_eq_getElem?_getD, List.getElem?_eq_getElem hj', Option.getD_some]
      congr 2
      omega

set_option maxRecDepth 10000 in
/-- three cells that are a fraction -/
theorem frac_cells {H : Type} {enc : TypeId × Value → H} {W : World} {v0 v1 v2 : Value} {fuel : Nat} {y : DataW H × List MemPlace} (hf : DataW.trod enc Tryz.prog W 0 (fun _ => true) true fuel 29 [v0, v1, v2] = some y)
    (hlt : ∀ x ∈ y.2, x.block < W.heap.size) :
    ∃ n A a ca D d cd, v0 = .bool n ∧ v1 = .slice A a.length ca ∧ v2 = .slice D d.length cd ∧ a.length ≤ ca ∧ d.length ≤ cd ∧ a.length + d.length ≤ Rows.uptoBulk y.1 ∧ Dg 4294967296 a ∧ Dg 4294967296 d ∧ Rd W (fun g => g < W.heap.size) .u32 A a ∧ Rd W (fun g => g < W.heap.size) .u32 D d := by
  have e1 : Tryz.prog.cellsOf 27 = 2 := by kernel_rfl
  have e2 : Tryz.prog.cellsOf 25 = 1 := by kernel_rfl
  have e3 : Tryz.prog.cellsOf 4 = 1 := by kernel_rfl
  obtain ⟨y0, y1, m, rfl, -, h0, h1⟩ := trod_struct2 Tryz.underlying29 hf
  simp only [e1, e2] at h0 h1
  obtain ⟨x0, x1, k, rfl, -, g0, g1⟩ := trod_struct2 Tryz.underlying27 h0
  simp only [e2, e3] at g0 g1
  obtain ⟨b, hb, -⟩ := DataW.trod_bool Tryz.underlying4 (show DataW.trod enc Tryz.prog W 0 (fun _ => true) true k 4 [v0] = some x0 from g0)
  obtain rfl : v0 = .bool b := by simpa using hb
  obtain ⟨A, a, ca, rfl, q1, q2, q3, q4⟩ := words_len (d := x1.1) (p := x1.2) (show DataW.trod enc Tryz.prog W 0 (fun _ => true) true k 25 [v1] = some (x1.1, x1.2) from g1) (fun x hx => hlt x (by simp [hx]))
  obtain ⟨D, d, cd, rfl, r1, r2, r3, r4⟩ := words_len (d := y1.1) (p := y1.2) (show DataW.trod enc Tryz.prog W 0 (fun _ => true) true m 25 [v2] = some (y1.1, y1.2) from h1) (fun x hx => hlt x (by simp [hx]))
  refine ⟨b, A, a, ca, D, d, cd, rfl, rfl, rfl, q1, r1, ?_, q3, r3, q4, r4⟩
  simp only [Rows.uptoBulk, Rows.uptoBulkAll]
  omega

set_option maxRecDepth 10000 in
/-- AN ARGUMENT THAT IS A FRACTION. -/
theorem frac {H : Type} {enc : TypeId × Value → H} {W : World} {base : Nat} {v : Value} {d : DataW H} {p : List MemPlace} (hv : Value.okWide Tryz.prog W .any base 29 v) (h : DataW.Trod enc Tryz.prog W 0 (fun _ => true) true 29 v d p)
    (hlt : ∀ x ∈ p, x.block < W.heap.size) :
    ∃ n A a ca D e cd, v = .agg #[.bool n, .slice A a.length ca, .slice D e.length cd] ∧ a.length ≤ ca ∧ e.length ≤ cd ∧ a.length + e.length ≤ Rows.uptoBulk d ∧ Dg 4294967296 a ∧ Dg 4294967296 e ∧ Rd W (fun g => g < W.heap.size) .u32 A a ∧ Rd W (fun g => g < W.heap.size) .u32 D e := by
  obtain ⟨cs, rfl, hsz⟩ := okWide_struct Tryz.underlying29 hv
  obtain ⟨c0, c1, c2, rfl⟩ := array3 (hsz.trans (by kernel_rfl : Tryz.prog.cellsOf 29 = 3))
  obtain ⟨fuel, hf⟩ := h
  obtain ⟨n, A, a, ca, D, e, cd, rfl, rfl, rfl, h1⟩ := frac_cells (y := (d, p)) (show DataW.trod enc Tryz.prog W 0 (fun _ => true) true fuel 29 [c0, c1, c2] = some (d, p) from hf) hlt
  exact ⟨n, A, a, ca, D, e, cd, rfl, h1⟩
end Go.Proofs.YtokaapljlpngdaaGreatDoor.shut
