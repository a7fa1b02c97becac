/- An argument that is two fractions and two ints, opened. -/
import Derived.Test.YtidbpkibjficnaaGreatDoorZShX
namespace Go.Proofs.YtidbpkibjficnaaGreatDoor.shut
open Go.Joins Go.ChangeShapes Go.WideShapes Go.ChangeAt Go.RowKit Go.Deep Num

theorem array8 {α : Type} {cs : Array α} (h : cs.size = 8) : ∃ c0 c1 c2 c3 c4 c5 c6 c7, cs = #[c0, c1, c2, c3, c4, c5, c6, c7] := by
  obtain ⟨l⟩ := cs
  match l, h with
  | [c0, c1, c2, c3, c4, c5, c6, c7], _ => exact ⟨c0, c1, c2, c3, c4, c5, c6, c7, rfl⟩

set_option maxRecDepth 10000 in
set_option maxHeartbeats 800000 in
/-- AN ARGUMENT THAT IS TWO FRACTIONS AND TWO INTS. -/
theorem quad {H : Type} {enc : TypeId × Value → H} {W : World} {base : Nat} {v : Value} {d : DataW H} {p : List MemPlace} (hv : Value.okWide Tryz.prog W .any base 35 v) (h : DataW.Trod enc Tryz.prog W 0 (fun _ => true) true 35 v d p)
    (hlt : ∀ x ∈ p, x.block < W.heap.size) :
    ∃ n A a ca D e cd n' A' a' ca' D' e' cd' x y, v = .agg #[.bool n, .slice A a.length ca, .slice D e.length cd, .bool n', .slice A' a'.length ca', .slice D' e'.length cd', .int .i64 x, .int .i64 y] ∧ a.length ≤ ca ∧ e.length ≤ cd ∧ a'.length ≤ ca' ∧ e'.length ≤ cd' ∧ a.length + e.length + a'.length + e'.length ≤ Rows.uptoBulk d ∧ Dg 4294967296 a ∧ Dg 4294967296 e ∧ Dg 4294967296 a' ∧ Dg 4294967296 e' ∧
      Rd W (fun g => g < W.heap.size) .u32 A a ∧ Rd W (fun g => g < W.heap.size) .u32 D e ∧ Rd W (fun g => g < W.heap.size) .u32 A' a' ∧ Rd W (fun g => g < W.heap.size) .u32 D' e' ∧ (-9223372036854775808 ≤ x ∧ x ≤ 9223372036854775807) ∧ (-9223372036854775808 ≤ y ∧ y ≤ 9223372036854775807) := by
  have e1 : Tryz.prog.cellsOf 26 = 3 := by kernel_rfl
  have e2 : Tryz.prog.cellsOf 3 = 1 := by kernel_rfl
  obtain ⟨cs, rfl, hsz⟩ := okWide_struct Tryz.underlying35 hv
  obtain ⟨c0, c1, c2, c3, c4, c5, c6, c7, rfl⟩ := array8 (hsz.trans (by kernel_rfl : Tryz.prog.cellsOf 35 = 8))
  obtain ⟨fuel, hf⟩ := h
  obtain ⟨y0, y1, y2, y3, m, hx, -, h0, h1, h2, h3⟩ := trod_struct4 Tryz.underlying35 (show DataW.trod enc Tryz.prog W 0 (fun _ => true) true fuel 35 [c0, c1, c2, c3, c4, c5, c6, c7] = some (d, p) from hf)
  simp only [e1, e2] at h0 h1 h2 h3
  simp only [Prod.mk.injEq] at hx
  obtain ⟨rfl, rfl⟩ := hx
  obtain ⟨n, A, a, ca, D, e, cd, rfl, rfl, rfl, a1, a2, a3, a4, a5, a6, a7⟩ := frac_cells (show DataW.trod enc Tryz.prog W 0 (fun _ => true) true m 26 [c0, c1, c2] = some y0 from h0) (fun x hx => hlt x (by simp [hx]))
  obtain ⟨n', A', a', ca', D', e', cd', rfl, rfl, rfl, b1, b2, b3, b4, b5, b6, b7⟩ := frac_cells (show DataW.trod enc Tryz.prog W 0 (fun _ => true) true m 26 [c3, c4, c5] = some y1 from h1) (fun x hx => hlt x (by simp [hx]))
  obtain ⟨x, f0, -, wx⟩ := DataW.trod_int Tryz.underlying3 (show DataW.trod enc Tryz.prog W 0 (fun _ => true) true m 3 [c6] = some y2 from h2)
  obtain ⟨y, f1, -, wy⟩ := DataW.trod_int Tryz.underlying3 (show DataW.trod enc Tryz.prog W 0 (fun _ => true) true m 3 [c7] = some y3 from h3)
  obtain rfl : c6 = .int .i64 x := by simpa using f0
  obtain rfl : c7 = .int .i64 y := by simpa using f1
  have hx := bounds_i64 wx
  have hy := bounds_i64 wy
  refine ⟨n, A, a, ca, D, e, cd, n', A', a', ca', D', e', cd', x, y, rfl, a1, a2, b1, b2, ?_, a4, a5, b4, b5, a6, a7, b6, b7, by omega, by omega⟩
  simp only [Rows.uptoBulk, Rows.uptoBulkAll]
  omega
end Go.Proofs.YtidbpkibjficnaaGreatDoor.shut
