/- An argument that is a whole number, opened. -/
import Derived.Test.YtkmgmppmhgoadaaDoorShut
import Derived.Lib.SmallJoins
namespace Go.Proofs.YtkmgmppmhgoadaaDoor.shut
open Go.Joins Go.ChangeShapes Go.WideShapes Go.ChangeAt Go.RowKit Go.Deep Num

set_option maxRecDepth 10000 in
/-- a cell that is a slice of words -/
theorem words_cell {H : Type} {enc : TypeId × Value → H} {W : World} {v : Value} {fuel : Nat} {d : DataW H} {p : List MemPlace} (hf : DataW.trod enc Tryd.prog W 0 (fun _ => true) true fuel 22 [v] = some (d, p))
    (hlt : ∀ x ∈ p, x.block < W.heap.size) (hk : Rows.uptoBulk d ≤ 1048576) :
    ∃ A xs c, v = .slice A xs.length c ∧ xs.length ≤ c ∧ xs.length ≤ 1048576 ∧ Dg 4294967296 xs ∧ Rd W (fun g => g < W.heap.size) .u32 A xs := by
  rcases open_ints Tryd.underlying22 Tryd.underlying60 cellsWord hf with ⟨hcs, _⟩ | ⟨a, len', cap', zs, hcs, _, hl, hm, hz, hx, hcell, hwz⟩
  · obtain rfl : v = .slice none 0 0 := by simpa using hcs
    exact ⟨none, [], 0, rfl, by simp, by simp, Dg.nil _, Rd.nil⟩
  · obtain rfl : v = .slice (some a) len' cap' := by simpa using hcs
    simp only [Prod.mk.injEq] at hx
    obtain ⟨rfl, rfl⟩ := hx
    simp only [if_true] at hz
    have hbd : ∀ n ∈ zs, 0 ≤ n ∧ n ≤ 4294967295 := fun n hn => bounds_u32 (hwz n hn)
    simp only [Rows.uptoBulk, bulk_lits, List.length_take, List.length_drop] at hk
    have hlen : ((zs.take len').map Int.toNat).length = len' := by rw [List.length_map, List.length_take]; omega
    refine ⟨some a, (zs.take len').map Int.toNat, cap', by rw [hlen], by omega, by omega, ?_, ?_⟩
    · intro x hx
      obtain ⟨n, hn, rfl⟩ := List.mem_map.1 hx
      have := hbd n (List.mem_of_mem_take hn)
      omega
    · intro hn
      obtain ⟨b, off, spot⟩ := a
      have hspot : spot = none := by simpa [Addr.add] using World.cell?_spot (hcell 0 (by omega))
      subst hspot
      refine ⟨b, off, rfl, hlt (.cell b off) (MemPlace.mem_row.2 ⟨0, by omega, by simp⟩), fun j hj => ?_⟩
      have hj' : j < zs.length := by omega
      have hc := hcell j hj'
      rw [add_mk] at hc
      rw [hc]
      have h2 := hbd zs[j] (List.getElem_mem hj')
      simp only [List.getElem_map, List.getElem_take, List.getD_eq_getElem?_getD, List.getElem?_eq_getElem hj', Option.getD_some]
      congr 2
      omega

set_option maxRecDepth 10000 in
/-- AN ARGUMENT THAT IS A WHOLE NUMBER. -/
theorem whole {H : Type} {enc : TypeId × Value → H} {W : World} {base : Nat} {v : Value} {d : DataW H} {p : List MemPlace} (hv : Value.okWide Tryd.prog W .any base 24 v) (h : DataW.Trod enc Tryd.prog W 0 (fun _ => true) true 24 v d p)
    (hlt : ∀ x ∈ p, x.block < W.heap.size) (hk : Rows.uptoBulk d ≤ 1048576) :
    ∃ n A xs c, v = .agg #[.bool n, .slice A xs.length c] ∧ xs.length ≤ c ∧ xs.length ≤ 1048576 ∧ Dg 4294967296 xs ∧ Rd W (fun g => g < W.heap.size) .u32 A xs := by
  obtain ⟨v0, v1, y0, y1, n, rfl, rfl, rfl, h0, h1⟩ := open_agg2 Tryd.underlying24 (by kernel_rfl) (by kernel_rfl) hv h
  obtain ⟨b, hb, hy⟩ := DataW.trod_bool Tryd.underlying4 h0
  obtain rfl : v0 = .bool b := by simpa using hb
  obtain ⟨A, xs, c, rfl, h2, h3, h4, h5⟩ := words_cell (d := y1.1) (p := y1.2) h1 (fun x hx => hlt x (by simp [hx])) (by simp only [Rows.uptoBulk, Rows.uptoBulkAll] at hk; omega)
  exact ⟨b, A, xs, c, rfl, h2, h3, h4, h5⟩
end Go.Proofs.YtkmgmppmhgoadaaDoor.shut
