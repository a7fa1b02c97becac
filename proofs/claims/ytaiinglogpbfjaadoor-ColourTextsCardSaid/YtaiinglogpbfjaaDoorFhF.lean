/- Bytes in figures: the program's own, there. -/
import Derived.Test.YtaiinglogpbfjaaDoorFhE
import Derived.Deep.AppendLies
namespace Go.Proofs.YtaiinglogpbfjaaDoor
open Go.RowKit

theorem run_make_two {P : Program} (t e : TypeId) (v : Value) (bytes : Nat) (hv : v.cells = #[v]) (ht : P.underlying t = some (.slice e)) (hi : (P.info? e).map (fun i => (i.zero, i.size, i.bytes)) = some (some v, 1, bytes)) (h8 : bytes ≤ 16) (n m : Nat) (hnm : n ≤ m) (hn : m ≤ 4294967296) (u : World) :
    (Instr.makeSlice t (.int .i64 (n : Int)) (.int .i64 (m : Int))).run P u = .ok (.slice (some ⟨u.heap.size, 0, none⟩) n m) (u.alloc (.cells (List.replicate m v).toArray e)) := by
  obtain ⟨i, hi, hz0, hz1, hz2⟩ := info_parts hi
  have hb : (i.bytes : Int) * (m : Int) ≤ 281474976710656 := by
    have h : i.bytes * m ≤ 16 * 4294967296 := Nat.mul_le_mul (by omega) hn
    have h' : ((i.bytes * m : Nat) : Int) ≤ 281474976710656 := by omega
    rwa [Int.natCast_mul] at h'
  have h := run_make (P := P) u t e i v ht hi hz0 .i64 .i64 n m (by omega) (by omega) hb (by omega)
  rw [Int.toNat_natCast] at h
  rw [h, hz1, hv]
  have e2 : (madeCells #[v] m) = (List.replicate m v).toArray := by
    rw [← toList_madeCells_one]
  simp [e2]
theorem low_half : ∀ u : Nat, u < 256 → bits BinOp.and IntKind.u8 (u : Int) 15 = ((u % 16 : Nat) : Int) := by decide +kernel

theorem keep_cells2 {a w' : World} {row : Option Nat} {g i j : Nat} {x y : Option Value} (h : a.cell? ⟨g, i, none⟩ = x ∧ a.cell? ⟨g, j, none⟩ = y) (hg : a.grownBy w' row) (hl : g < a.heap.size) (hne : some g ≠ row) : w'.cell? ⟨g, i, none⟩ = x ∧ w'.cell? ⟨g, j, none⟩ = y :=
  ⟨(hg.cell_far ⟨g, i, none⟩ hl hne).trans h.1, (hg.cell_far ⟨g, j, none⟩ hl hne).trans h.2⟩

set_option maxRecDepth 10000 in
set_option maxHeartbeats 3200000 in
theorem fig_Hex (A : Option Addr) (c : Nat) (b : By) (w : World) (hr : RdV w w.heap.size A (bcells b)) (hm : b.length ≤ 1073741824) (hF : Figs w) :
    Calls Tryd.prog 13 #[.slice A b.length c] w fun e w' => e = .returned (.string (str (hexOf b))) ∧ Below w.heap.size w w' := by
  obtain ⟨i0, hi, hz0, hz1, hz2⟩ := info_parts info_by
  obtain ⟨m, hm2⟩ : ∃ m, 2 * b.length = m := ⟨_, rfl⟩
  have hmk : ∀ u : World, (Instr.makeSlice 34 (.int .i64 0) (.int .i64 (m : Int))).run Tryd.prog u = .ok (.slice (some ⟨u.heap.size, 0, none⟩) 0 m) (u.alloc (.cells (List.replicate m (.int .u8 0)).toArray 5)) := fun u => run_make_two (P := Tryd.prog) 34 5 (.int .u8 0) 1 rfl Tryd.underlying34 info_by (by omega) 0 m (by omega) (by omega) u
  have hmw : IntKind.i64.wrap (2 * (b.length : Int)) = (m : Int) := by rw [IntWalk.i64_in _ (by omega)]; omega
  have hOwn := Lib.hid (show (w.alloc (.cells (List.replicate m (.int .u8 0)).toArray 5)).ownsRow w.heap.size 5 1 (.slice (some ⟨w.heap.size, 0, none⟩) 0 m) 0 [] by
    have := World.ownsRow_made (base := w.heap.size) (e := 5) (size := 1) w (List.replicate m (.int .u8 0)).toArray m (Nat.le_refl _) (by unfold maxLen; omega) (by simp)
    exact this)
  have hBel := Lib.hid ((Below.refl w.heap.size w).alloc (Nat.le_refl _) (.cells (List.replicate m (.int .u8 0)).toArray 5))
  have HF := Lib.hid hF
  have HR := Lib.hid hr
  have HM := Lib.hid hm2
  clear hr hF hm2
  go_enter Tryd.func13, Tryd.ntmps13
  go_wp2_with fail
  go_loopg [3, 5, 12] b.length (fun gh v _ t wr => ∃ i : Nat, t = .int .i64 (i : Int) ∧ gh + i = b.length ∧ wr.ownsRow w.heap.size 5 1 v (2 * i) (bcells (hexOf (b.take i))) ∧ Below w.heap.size w wr)
  case atStart => exact ⟨0, rfl, by omega, hOwn.out, hBel.out⟩
  case round =>
    obtain ⟨i, rfl, hg, hown, hB⟩ := hrel
    have hrr := HR.out.below hB
    by_cases hlt : i < b.length
    · obtain ⟨g, o, rfl, hgb, hcell⟩ := hrr.byte hlt
      have hu := (b[i]).toNat_lt
      obtain ⟨u, hu2⟩ : ∃ u, (b[i]).toNat = u := ⟨_, rfl⟩
      rw [hu2] at hcell hu
      have hF2 := HF.out.on hB
      have ct1 := figs_cell hF2 (i := u / 16) (by omega)
      have ct2 := figs_cell hF2 (i := u % 16) (by omega)
      obtain ⟨x, hx⟩ : ∃ x, (fig (u / 16)) = x := ⟨_, rfl⟩
      obtain ⟨y, hy⟩ : ∃ x, (fig (u % 16)) = x := ⟨_, rfl⟩
      rw [hx] at ct1
      rw [hy] at ct2
      have hlow := low_half u hu
      have hGl := figs_lt hF2
      have HX := Lib.hid (And.intro hx hy)
      have hne : some 0 ≠ u3.ownBlock := fun e => by
        have h1 := (hown.lt 0 e.symm).1
        have h2 := figs_lt HF.out
        omega
      have HO := Lib.hid hown
      have HB := Lib.hid hB
      have HU := Lib.hid hu2
      clear hx hy hF2 hown hB hrr hu2 hmk hmw
      have hb1 : (0 : Int) ≤ (u : Int) / 16 ∧ (u : Int) / 16 < 16 := by omega
      have hb3 : (0 : Int) ≤ (u : Int) % 16 ∧ (u : Int) % 16 < 16 := by omega
      have ht1 : ((u : Int) / 16).toNat = u / 16 := by omega
      have ht3 : ((u : Int) % 16).toNat = u % 16 := by omega
      go_wp2_with fail
      go_region_held3 (fun w' => w'.cell? ⟨0, u / 16, none⟩ = some (.int .u8 (x.toNat : Int)) ∧ w'.cell? ⟨0, u % 16, none⟩ = some (.int .u8 (y.toNat : Int)))
        (first | (with_reducible exact ⟨ct1, ct2⟩) | go_keep | (exact keep_cells2 (by assumption) hgrow (by simp; try omega) hne))
        ((first
          | (refine step_append_lies _ (by rfl) _ _ _ (by rfl) w.heap.size 5 i0 (.int .u8 0) 1 1 Tryd.underlying34 hi hz0 hz1 hz2 rfl (by omega) u3 (2 * i) (bcells (hexOf (b.take i))) (by rfl) ((HO.out.alloc _).drew)
              ⟨wr.heap.size, 0, none⟩ 2 2 [.int .u8 (x.toNat : Int), .int .u8 (y.toNat : Int)] (by rfl) (by rfl) (World.news_of_block (cs := #[.int .u8 (x.toNat : Int), .int .u8 (y.toNat : Int)]) (t := 5) (fr := (0, 0)) (heap_alloc_new wr _)) (by simp [Value.oneCell'])
              (by omega) (by unfold maxLen; omega) (by omega) (by have := HB.out.size; simp; omega) (wr.heap.size + 1) (by simp) ?_; intro gg cap w1 hown1 hgrow _ hlt1)))
      all_goals
        have hB1 := hB2 HB.out (HO.out) (Value.int .u8 (x.toNat : Int)) (Value.int .u8 (y.toNat : Int)) hgrow
        have hown2 := hown1
        rw [← HX.out.1, ← HX.out.2, ← HU.out] at hown2
        have hown3 := hex_step hlt hown2
        go_wp2_with fail
        go_roundg (b.length - (i + 1))
        case measure => omega
        case rel => exact ⟨i + 1, by simp, by omega, hown3, hB1⟩
    · obtain rfl : i = b.length := by omega
      rw [List.take_length] at hown
      obtain ⟨q, cap, rfl, hn, hq⟩ := own_by_rd hown
      have hcv := conv_by hq cap
      rw [← hn] at hcv
      clear hown hrr
      rw [HM.out] at hcv ⊢
      clear hn
      go_wp2_with fail
      go_ret
      exact ⟨rfl, hB⟩
end Go.Proofs.YtaiinglogpbfjaaDoor
