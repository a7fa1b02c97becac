/- An argument that is three points of the grid, opened. -/
import Derived.Test.YtkgedgaddpojkaaGreatDoorShutS
import Derived.OpenShut
namespace Go.Proofs.YtkgedgaddpojkaaGreatDoor.shut
open Go.Joins Go.ChangeShapes Go.WideShapes Go.ChangeAt Go.RowKit Go.Deep Num

theorem bulk_pos {H : Type} (d : DataW H) : 1 ≤ Rows.uptoBulk d := by
  cases d with
  | lit l => cases l <;> simp [Rows.uptoBulk]
  | _ => simp [Rows.uptoBulk]
set_option maxRecDepth 10000 in
/-- three cells that are a fraction -/
theorem frac_cells3 {H : Type} {enc : TypeId × Value → H} {W : World} {v0 v1 v2 : Value} {fuel : Nat} {y : DataW H × List MemPlace} (hf : DataW.trod enc Tryz.prog W 0 (fun _ => true) true fuel 26 [v0, v1, v2] = some y)
    (hlt : ∀ x ∈ y.2, x.block < W.heap.size) :
    ∃ n A a ca D d cd, v0 = .bool n ∧ v1 = .slice A a.length ca ∧ v2 = .slice D d.length cd ∧ a.length ≤ ca ∧ d.length ≤ cd ∧ a.length + d.length + 3 ≤ Rows.uptoBulk y.1 ∧ Dg 4294967296 a ∧ Dg 4294967296 d ∧ Rd W (fun g => g < W.heap.size) .u32 A a ∧ Rd W (fun g => g < W.heap.size) .u32 D d := by
  have e1 : Tryz.prog.cellsOf 24 = 2 := by kernel_rfl
  have e2 : Tryz.prog.cellsOf 22 = 1 := by kernel_rfl
  have e3 : Tryz.prog.cellsOf 4 = 1 := by kernel_rfl
  obtain ⟨y0, y1, m, rfl, -, h0, h1⟩ := trod_struct2 Tryz.underlying26 hf
  simp only [e1, e2] at h0 h1
  obtain ⟨x0, x1, k, rfl, -, g0, g1⟩ := trod_struct2 Tryz.underlying24 h0
  simp only [e2, e3] at g0 g1
  obtain ⟨b, hb, -⟩ := DataW.trod_bool Tryz.underlying4 (show DataW.trod enc Tryz.prog W 0 (fun _ => true) true k 4 [v0] = some x0 from g0)
  obtain rfl : v0 = .bool b := by simpa using hb
  obtain ⟨A, a, ca, rfl, q1, q2, q3, q4⟩ := words_len (d := x1.1) (p := x1.2) (show DataW.trod enc Tryz.prog W 0 (fun _ => true) true k 22 [v1] = some (x1.1, x1.2) from g1) (fun x hx => hlt x (by simp [hx]))
  obtain ⟨D, d, cd, rfl, r1, r2, r3, r4⟩ := words_len (d := y1.1) (p := y1.2) (show DataW.trod enc Tryz.prog W 0 (fun _ => true) true m 22 [v2] = some (y1.1, y1.2) from h1) (fun x hx => hlt x (by simp [hx]))
  have o1 := bulk_pos x0.1
  refine ⟨b, A, a, ca, D, d, cd, rfl, rfl, rfl, q1, r1, ?_, q3, r3, q4, r4⟩
  simp only [Rows.uptoBulk, Rows.uptoBulkAll]
  omega

set_option maxRecDepth 10000 in
set_option maxHeartbeats 800000 in
/-- six cells that are a spot -/
theorem spot_cells3 {H : Type} {enc : TypeId × Value → H} {W : World} {c0 c1 c2 c3 c4 c5 : Value} {fuel : Nat} {y : DataW H × List MemPlace} (hf : DataW.trod enc Tryz.prog W 0 (fun _ => true) true fuel 28 [c0, c1, c2, c3, c4, c5] = some y)
    (hlt : ∀ x ∈ y.2, x.block < W.heap.size) :
    ∃ n A a ca D e cd n' A' a' ca' D' e' cd', (c0 = .bool n ∧ c1 = .slice A a.length ca ∧ c2 = .slice D e.length cd ∧ c3 = .bool n' ∧ c4 = .slice A' a'.length ca' ∧ c5 = .slice D' e'.length cd') ∧ a.length ≤ ca ∧ e.length ≤ cd ∧ a'.length ≤ ca' ∧ e'.length ≤ cd' ∧ a.length + e.length + (a'.length + e'.length) + 7 ≤ Rows.uptoBulk y.1 ∧ Dg 4294967296 a ∧ Dg 4294967296 e ∧ Dg 4294967296 a' ∧ Dg 4294967296 e' ∧
      Rd W (fun g => g < W.heap.size) .u32 A a ∧ Rd W (fun g => g < W.heap.size) .u32 D e ∧ Rd W (fun g => g < W.heap.size) .u32 A' a' ∧ Rd W (fun g => g < W.heap.size) .u32 D' e' := by
  have e1 : Tryz.prog.cellsOf 26 = 3 := by kernel_rfl
  obtain ⟨y0, y1, m, rfl, -, h0, h1⟩ := trod_struct2 Tryz.underlying28 hf
  simp only [e1] at h0 h1
  obtain ⟨n, A, a, ca, D, e, cd, rfl, rfl, rfl, a1, a2, a3, a4, a5, a6, a7⟩ := frac_cells3 (show DataW.trod enc Tryz.prog W 0 (fun _ => true) true m 26 [c0, c1, c2] = some y0 from h0) (fun x hx => hlt x (by simp [hx]))
  obtain ⟨n', A', a', ca', D', e', cd', rfl, rfl, rfl, b1, b2, b3, b4, b5, b6, b7⟩ := frac_cells3 (show DataW.trod enc Tryz.prog W 0 (fun _ => true) true m 26 [c3, c4, c5] = some y1 from h1) (fun x hx => hlt x (by simp [hx]))
  refine ⟨n, A, a, ca, D, e, cd, n', A', a', ca', D', e', cd', ⟨rfl, rfl, rfl, rfl, rfl, rfl⟩, a1, a2, b1, b2, ?_, a4, a5, b4, b5, a6, a7, b6, b7⟩
  simp only [Rows.uptoBulk, Rows.uptoBulkAll]
  omega
set_option maxRecDepth 10000 in
/-- AN ARGUMENT THAT IS A SPOT. -/
theorem spot3 {H : Type} {enc : TypeId × Value → H} {W : World} {base : Nat} {v : Value} {d : DataW H} {p : List MemPlace} (hv : Value.okWide Tryz.prog W .any base 28 v) (h : DataW.Trod enc Tryz.prog W 0 (fun _ => true) true 28 v d p)
    (hlt : ∀ x ∈ p, x.block < W.heap.size) :
    ∃ n A a ca D e cd n' A' a' ca' D' e' cd', v = .agg #[.bool n, .slice A a.length ca, .slice D e.length cd, .bool n', .slice A' a'.length ca', .slice D' e'.length cd'] ∧ a.length ≤ ca ∧ e.length ≤ cd ∧ a'.length ≤ ca' ∧ e'.length ≤ cd' ∧ a.length + e.length + (a'.length + e'.length) + 7 ≤ Rows.uptoBulk d ∧ Dg 4294967296 a ∧ Dg 4294967296 e ∧ Dg 4294967296 a' ∧ Dg 4294967296 e' ∧
      Rd W (fun g => g < W.heap.size) .u32 A a ∧ Rd W (fun g => g < W.heap.size) .u32 D e ∧ Rd W (fun g => g < W.heap.size) .u32 A' a' ∧ Rd W (fun g => g < W.heap.size) .u32 D' e' := by
  obtain ⟨cs, rfl, hsz⟩ := okWide_struct Tryz.underlying28 hv
  obtain ⟨c0, c1, c2, c3, c4, c5, rfl⟩ := array6 (hsz.trans (by kernel_rfl : Tryz.prog.cellsOf 28 = 6))
  obtain ⟨fuel, hf⟩ := h
  obtain ⟨n, A, a, ca, D, e, cd, n', A', a', ca', D', e', cd', ⟨rfl, rfl, rfl, rfl, rfl, rfl⟩, k⟩ := spot_cells3 (y := (d, p)) (show DataW.trod enc Tryz.prog W 0 (fun _ => true) true fuel 28 [c0, c1, c2, c3, c4, c5] = some (d, p) from hf) hlt
  exact ⟨n, A, a, ca, D, e, cd, n', A', a', ca', D', e', cd', rfl, k⟩
theorem point_cells {H : Type} {enc : TypeId × Value → H} {W : World} {c0 c1 : Value} {fuel : Nat} {y : DataW H × List MemPlace} (hf : DataW.trod enc Tryz.prog W 0 (fun _ => true) true fuel 33 [c0, c1] = some y) :
    3 ≤ Rows.uptoBulk y.1 ∧ ∃ x0 x1 : Int, c0 = .int .i64 x0 ∧ c1 = .int .i64 x1 ∧ (-9223372036854775808 ≤ x0 ∧ x0 ≤ 9223372036854775807) ∧ (-9223372036854775808 ≤ x1 ∧ x1 ≤ 9223372036854775807) := by
  have e2 : Tryz.prog.cellsOf 3 = 1 := by kernel_rfl
  obtain ⟨y0, y1, m, rfl, -, h0, h1⟩ := trod_struct2 Tryz.underlying33 hf
  simp only [e2] at h0 h1
  obtain ⟨x, f0, -, wx⟩ := DataW.trod_int Tryz.underlying3 (show DataW.trod enc Tryz.prog W 0 (fun _ => true) true m 3 [c0] = some y0 from h0)
  obtain ⟨z, f1, -, wz⟩ := DataW.trod_int Tryz.underlying3 (show DataW.trod enc Tryz.prog W 0 (fun _ => true) true m 3 [c1] = some y1 from h1)
  obtain rfl : c0 = .int .i64 x := by simpa using f0
  obtain rfl : c1 = .int .i64 z := by simpa using f1
  have hx := bounds_i64 wx
  have hz := bounds_i64 wz
  have o1 := bulk_pos y0.1
  have o2 := bulk_pos y1.1
  exact ⟨by simp only [Rows.uptoBulk, Rows.uptoBulkAll]; omega, x, z, rfl, rfl, by omega, by omega⟩
set_option maxRecDepth 10000 in
set_option maxHeartbeats 800000 in
/-- AN ARGUMENT THAT IS THREE POINTS. -/
theorem points {H : Type} {enc : TypeId × Value → H} {W : World} {base : Nat} {v : Value} {d : DataW H} {p : List MemPlace} (hv : Value.okWide Tryz.prog W .any base 34 v) (h : DataW.Trod enc Tryz.prog W 0 (fun _ => true) true 34 v d p) :
    10 ≤ Rows.uptoBulk d ∧ ∃ x1 y1 x2 y2 x3 y3 : Int, v = .agg #[.int .i64 x1, .int .i64 y1, .int .i64 x2, .int .i64 y2, .int .i64 x3, .int .i64 y3] ∧ ((-9223372036854775808 ≤ x1 ∧ x1 ≤ 9223372036854775807) ∧ (-9223372036854775808 ≤ y1 ∧ y1 ≤ 9223372036854775807)) ∧ ((-9223372036854775808 ≤ x2 ∧ x2 ≤ 9223372036854775807) ∧ (-9223372036854775808 ≤ y2 ∧ y2 ≤ 9223372036854775807)) ∧ ((-9223372036854775808 ≤ x3 ∧ x3 ≤ 9223372036854775807) ∧ (-9223372036854775808 ≤ y3 ∧ y3 ≤ 9223372036854775807)) := by
  have hu := Tryz.underlying34
  have hc : Tryz.prog.cellsOf 34 = 6 := by kernel_rfl
  have e1 : Tryz.prog.cellsOf 33 = 2 := by kernel_rfl
  simp only [Value.okWide, hu] at hv
  obtain ⟨cs, rfl, hsz, -⟩ := hv
  obtain ⟨c0, c1, c2, c3, c4, c5, rfl⟩ := array6 (hsz.trans hc)
  obtain ⟨fuel, hf⟩ := h
  obtain ⟨xs, m, -, hd, -, hxl, hx⟩ := DataW.trod_array hu (show DataW.trod enc Tryz.prog W 0 (fun _ => true) true fuel 34 [c0, c1, c2, c3, c4, c5] = some (d, p) from hf)
  simp only [e1] at hx
  have get : ∀ i, i < 3 → ∃ y, xs[i]? = some y := fun i hi => ⟨xs[i]'(by omega), List.getElem?_eq_getElem (by omega)⟩
  obtain ⟨y0, g0⟩ := get 0 (by omega)
  obtain ⟨y1, g1⟩ := get 1 (by omega)
  obtain ⟨y2, g2⟩ := get 2 (by omega)
  obtain ⟨w0, a0, a1, rfl, rfl, b0, b1⟩ := point_cells (show DataW.trod enc Tryz.prog W 0 (fun _ => true) true m 33 [c0, c1] = some y0 from (hx 0 (by omega)).trans g0)
  obtain ⟨w1, a2, a3, rfl, rfl, b2, b3⟩ := point_cells (show DataW.trod enc Tryz.prog W 0 (fun _ => true) true m 33 [c2, c3] = some y1 from (hx 1 (by omega)).trans g1)
  obtain ⟨w2, a4, a5, rfl, rfl, b4, b5⟩ := point_cells (show DataW.trod enc Tryz.prog W 0 (fun _ => true) true m 33 [c4, c5] = some y2 from (hx 2 (by omega)).trans g2)
  have hxs : xs = [y0, y1, y2] := by
    match xs, hxl with
    | [z0, z1, z2], _ =>
      simp only [List.getElem?_cons_zero, List.getElem?_cons_succ, Option.some.injEq] at g0 g1 g2
      rw [g0, g1, g2]
  have hd' := congrArg Prod.fst hd
  simp only at hd'
  refine ⟨?_, a0, a1, a2, a3, a4, a5, rfl, ⟨b0, b1⟩, ⟨b2, b3⟩, ⟨b4, b5⟩⟩
  rw [hd', hxs]
  simp only [List.map, Rows.uptoBulk, Rows.uptoBulkAll]
  omega
end Go.Proofs.YtkgedgaddpojkaaGreatDoor.shut
