/- An argument that is a spot, opened. -/
import Derived.Test.YtokaapljlpngdaaGreatDoorZShX
namespace Go.Proofs.YtokaapljlpngdaaGreatDoor.shut
open Go.Joins Go.ChangeShapes Go.WideShapes Go.ChangeAt Go.RowKit Go.Deep Num

set_option maxRecDepth 10000 in
/-- three cells that are a fraction -/
theorem frac_cells1 {H : Type} {enc : TypeId × Value → H} {W : World} {v0 v1 v2 : Value} {fuel : Nat} {y : DataW H × List MemPlace} (hf : DataW.trod enc Tryz.prog W 0 (fun _ => true) true fuel 29 [v0, v1, v2] = some y)
    (hlt : ∀ x ∈ y.2, x.block < W.heap.size) :
    ∃ n A a ca D d cd, v0 = .bool n ∧ v1 = .slice A a.length ca ∧ v2 = .slice D d.length cd ∧ a.length ≤ ca ∧ d.length ≤ cd ∧ a.length + d.length + 1 ≤ Rows.uptoBulk y.1 ∧ Dg 4294967296 a ∧ Dg 4294967296 d ∧ Rd W (fun g => g < W.heap.size) .u32 A a ∧ Rd W (fun g => g < W.heap.size) .u32 D d := by
  have e1 : Tryz.prog.cellsOf 27 = 2 := by kernel_rfl
  have e2 : Tryz.prog.cellsOf 25 = 1 := by kernel_rfl
  have e3 : Tryz.prog.cellsOf 4 = 1 := by kernel_rfl
  obtain ⟨y0, y1, m, rfl, -, h0, h1⟩ := trod_struct2 Tryz.underlying29 hf
  simp only [e1, e2] at h0 h1
  obtain ⟨x0, x1, k, rfl, -, g0, g1⟩ := trod_struct2 Tryz.underlying27 h0
  simp only [e2, e3] at g0 g1
  obtain ⟨b, hb, -⟩ := DataW.trod_bool Tryz.underlying4 (show DataW.trod enc Tryz.prog W 0 (fun _ => true) true k 4 [v0] = some x0 from g0)
  obtain rfl : v0 = .bool b := by simpa using hb
  obtain ⟨A, a, ca, rfl, q1, q2, q3, q4⟩ := words_len (d := x1.1) (p := x1.2) (show DataW.trod enc Tryz.prog W 0 (fun _ => true) true k 25 [v1] = some (x1.1, x1.2) from g1) (fun x hx => hlt x (by simp [hx]))
  obtain ⟨D, d, cd, rfl, r1, r2, r3, r4⟩ := words_len (d := y1.1) (p := y1.2) (show DataW.trod enc Tryz.prog W 0 (fun _ => true) true m 25 [v2] = some (y1.1, y1.2) from h1) (fun x hx => hlt x (by simp [hx]))
  refine ⟨b, A, a, ca, D, d, cd, rfl, rfl, rfl, q1, r1, ?_, q3, r3, q4, r4⟩
  simp only [Rows.uptoBulk, Rows.uptoBulkAll]
  omega

theorem array6 {α : Type} {cs : Array α} (h : cs.size = 6) : ∃ c0 c1 c2 c3 c4 c5, cs = #[c0, c1, c2, c3, c4, c5] := by
  obtain ⟨l⟩ := cs
  match l, h with
  | [c0, c1, c2, c3, c4, c5], _ => exact ⟨c0, c1, c2, c3, c4, c5, rfl⟩

set_option maxRecDepth 10000 in
set_option maxHeartbeats 800000 in
/-- six cells that are a spot -/
theorem spot_cells {H : Type} {enc : TypeId × Value → H} {W : World} {c0 c1 c2 c3 c4 c5 : Value} {fuel : Nat} {y : DataW H × List MemPlace} (hf : DataW.trod enc Tryz.prog W 0 (fun _ => true) true fuel 31 [c0, c1, c2, c3, c4, c5] = some y)
    (hlt : ∀ x ∈ y.2, x.block < W.heap.size) :
    ∃ n A a ca D e cd n' A' a' ca' D' e' cd', (c0 = .bool n ∧ c1 = .slice A a.length ca ∧ c2 = .slice D e.length cd ∧ c3 = .bool n' ∧ c4 = .slice A' a'.length ca' ∧ c5 = .slice D' e'.length cd') ∧ a.length ≤ ca ∧ e.length ≤ cd ∧ a'.length ≤ ca' ∧ e'.length ≤ cd' ∧ a.length + e.length + (a'.length + e'.length) + 2 ≤ Rows.uptoBulk y.1 ∧ Dg 4294967296 a ∧ Dg 4294967296 e ∧ Dg 4294967296 a' ∧ Dg 4294967296 e' ∧
      Rd W (fun g => g < W.heap.size) .u32 A a ∧ Rd W (fun g => g < W.heap.size) .u32 D e ∧ Rd W (fun g => g < W.heap.size) .u32 A' a' ∧ Rd W (fun g => g < W.heap.size) .u32 D' e' := by
  have e1 : Tryz.prog.cellsOf 29 = 3 := by kernel_rfl
  obtain ⟨y0, y1, m, rfl, -, h0, h1⟩ := trod_struct2 Tryz.underlying31 hf
  simp only [e1] at h0 h1
  obtain ⟨n, A, a, ca, D, e, cd, rfl, rfl, rfl, a1, a2, a3, a4, a5, a6, a7⟩ := frac_cells1 (show DataW.trod enc Tryz.prog W 0 (fun _ => true) true m 29 [c0, c1, c2] = some y0 from h0) (fun x hx => hlt x (by simp [hx]))
  obtain ⟨n', A', a', ca', D', e', cd', rfl, rfl, rfl, b1, b2, b3, b4, b5, b6, b7⟩ := frac_cells1 (show DataW.trod enc Tryz.prog W 0 (fun _ => true) true m 29 [c3, c4, c5] = some y1 from h1) (fun x hx => hlt x (by simp [hx]))
  refine ⟨n, A, a, ca, D, e, cd, n', A', a', ca', D', e', cd', ⟨rfl, rfl, rfl, rfl, rfl, rfl⟩, a1, a2, b1, b2, ?_, a4, a5, b4, b5, a6, a7, b6, b7⟩
  simp only [Rows.uptoBulk, Rows.uptoBulkAll]
  omega
set_option maxRecDepth 10000 in
/-- AN ARGUMENT THAT IS A SPOT. -/
theorem spot {H : Type} {enc : TypeId × Value → H} {W : World} {base : Nat} {v : Value} {d : DataW H} {p : List MemPlace} (hv : Value.okWide Tryz.prog W .any base 31 v) (h : DataW.Trod enc Tryz.prog W 0 (fun _ => true) true 31 v d p)
    (hlt : ∀ x ∈ p, x.block < W.heap.size) :
    ∃ n A a ca D e cd n' A' a' ca' D' e' cd', v = .agg #[.bool n, .slice A a.length ca, .slice D e.length cd, .bool n', .slice A' a'.length ca', .slice D' e'.length cd'] ∧ a.length ≤ ca ∧ e.length ≤ cd ∧ a'.length ≤ ca' ∧ e'.length ≤ cd' ∧ a.length + e.length + (a'.length + e'.length) + 2 ≤ Rows.uptoBulk d ∧ Dg 4294967296 a ∧ Dg 4294967296 e ∧ Dg 4294967296 a' ∧ Dg 4294967296 e' ∧
      Rd W (fun g => g < W.heap.size) .u32 A a ∧ Rd W (fun g => g < W.heap.size) .u32 D e ∧ Rd W (fun g => g < W.heap.size) .u32 A' a' ∧ Rd W (fun g => g < W.heap.size) .u32 D' e' := by
  obtain ⟨cs, rfl, hsz⟩ := okWide_struct Tryz.underlying31 hv
  obtain ⟨c0, c1, c2, c3, c4, c5, rfl⟩ := array6 (hsz.trans (by kernel_rfl : Tryz.prog.cellsOf 31 = 6))
  obtain ⟨fuel, hf⟩ := h
  obtain ⟨n, A, a, ca, D, e, cd, n', A', a', ca', D', e', cd', ⟨rfl, rfl, rfl, rfl, rfl, rfl⟩, k⟩ := spot_cells (y := (d, p)) (show DataW.trod enc Tryz.prog W 0 (fun _ => true) true fuel 31 [c0, c1, c2, c3, c4, c5] = some (d, p) from hf) hlt
  exact ⟨n, A, a, ca, D, e, cd, n', A', a', ca', D', e', cd', rfl, k⟩
end Go.Proofs.YtokaapljlpngdaaGreatDoor.shut
