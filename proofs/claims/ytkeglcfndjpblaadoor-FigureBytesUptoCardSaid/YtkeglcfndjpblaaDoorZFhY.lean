/- A row that make made, filled place by place. -/
import Derived.Test.YtkeglcfndjpblaaDoorZFgY
import Derived.Test.YtkeglcfndjpblaaDoorZFgX
import Derived.Lib.LaidTab
import Derived.Lib.AppendIntMem
import Derived.Deep.AppendLies
import Derived.Lib.OthersKept
import Derived.Laws.RangeAny
namespace Go.Proofs.YtkeglcfndjpblaaDoor
open Go.RowKit

/-- BLOCK g IS JUST THE CELLS vs. -/
def Arr (w : World) (g : Nat) (t : TypeId) (vs : List Value) : Prop := w.heap[g]? = some (.cells vs.toArray t (0, 0))
section
variable {w w' : World} {g : Nat} {t : TypeId} {vs : List Value}
theorem Arr.lt (h : Arr w g t vs) : g < w.heap.size := by
  rcases Nat.lt_or_ge g w.heap.size with hlt | hge
  · exact hlt
  · unfold Arr at h; rw [Array.getElem?_eq_none hge] at h; cases h
theorem Arr.cell (h : Arr w g t vs) (i : Nat) {v : Value} (hv : vs[i]? = some v) : w.cell? ⟨g, i, none⟩ = some v := by
  rw [cell_of_row w g i _ t (0, 0) h]
  simpa using hv
theorem Arr.frozen (h : Arr w g t vs) (i : Nat) : w.frozen? ⟨g, i, none⟩ = false := frozen_of_row w g i _ t h
theorem Arr.set (h : Arr w g t vs) (i : Nat) (v : Value) : Arr (w.setCell ⟨g, i, none⟩ v) g t (vs.set i v) := by
  have := heap_setCell_same w g i _ t v h
  unfold Arr
  rw [this]
  simp
theorem Arr.alloc (h : Arr w g t vs) (o : Obj) : Arr (w.alloc o) g t vs := (Below.heap_alloc w o g h.lt).trans h
theorem Arr.drewN (h : Arr w g t vs) (n : Nat) : Arr (w.drewN n) g t vs := h
theorem Arr.new (w : World) (t : TypeId) (vs : List Value) : Arr (w.alloc (.cells vs.toArray t)) w.heap.size t vs := heap_alloc_new w _
theorem Arr.below {B : Nat} (h : Arr w g t vs) (hb : Below B w w') (hg : g < B) : Arr w' g t vs := (hb.block g hg).trans h
theorem Arr.rd (h : Arr w g t vs) : RdV w w.heap.size (some ⟨g, 0, none⟩) vs := fun _ => ⟨g, 0, rfl, h.lt, fun j hj => by rw [Nat.zero_add]; exact h.cell j (List.getElem?_eq_getElem hj)⟩
end
/-- 'make([]T, n)', an element being one cell -/
theorem run_make_one {P : Program} (t e : TypeId) (v : Value) (bytes : Nat) (hv : v.cells = #[v]) (ht : P.underlying t = some (.slice e)) (hi : (P.info? e).map (fun i => (i.zero, i.size, i.bytes)) = some (some v, 1, bytes)) (n : Nat) (hn : bytes * n ≤ 281474976710656) (hn1 : n ≤ 281474976710656) (u : World) :
    (Instr.makeSlice t (.int .i64 (n : Int)) (.int .i64 (n : Int))).run P u = .ok (.slice (some ⟨u.heap.size, 0, none⟩) n n) (u.alloc (.cells (List.replicate n v).toArray e)) := by
  obtain ⟨i, hi, hz0, hz1, hz2⟩ := info_parts hi
  have hb : (i.bytes : Int) * (n : Int) ≤ 281474976710656 := by
    rw [← hz2] at hn
    have h' : ((i.bytes * n : Nat) : Int) ≤ 281474976710656 := by omega
    rwa [Int.natCast_mul] at h'
  have h := run_make (P := P) u t e i v ht hi hz0 .i64 .i64 n n (by omega) (Int.le_refl _) hb (by omega)
  rw [Int.toNat_natCast] at h
  rw [h, hz1, hv]
  have e2 : (madeCells #[v] n) = (List.replicate n v).toArray := by
    rw [← toList_madeCells_one]
  simp [e2]
/-- the first i places filled, the rest as made -/
def fills (vs : List Value) (z : Value) (n : Nat) : List Value := vs ++ List.replicate (n - vs.length) z
theorem fills_none (z : Value) (n : Nat) : fills [] z n = List.replicate n z := by simp [fills]
theorem fills_all {vs : List Value} {z : Value} {n : Nat} (h : vs.length = n) : fills vs z n = vs := by simp [fills, h]
theorem fills_at {vs : List Value} {z : Value} {n : Nat} (h : vs.length < n) : (fills vs z n)[vs.length]? = some z := by
  unfold fills
  rw [List.getElem?_append_right (Nat.le_refl _), Nat.sub_self, List.getElem?_replicate]
  rw [if_pos (by omega)]
theorem fills_set {vs : List Value} {z v : Value} {n : Nat} (h : vs.length < n) : (fills vs z n).set vs.length v = fills (vs ++ [v]) z n := by
  unfold fills
  rw [List.set_append_right _ _ (Nat.le_refl _), Nat.sub_self]
  obtain ⟨k, hk⟩ : ∃ k, n - vs.length = k + 1 := ⟨n - vs.length - 1, by omega⟩
  rw [hk, List.replicate_succ, List.set_cons_zero, List.append_assoc]
  congr 2
  congr 1
  simp
  omega
end Go.Proofs.YtkeglcfndjpblaaDoor
/- The table of figures, and the half that a letter stands for: the program's own. -/

namespace Go.Proofs.YtkeglcfndjpblaaDoor
open Go.RowKit

/-- the table of figures, as the program's text lays it -/
def figTab : List Int := [48, 49, 50, 51, 52, 53, 54, 55, 56, 57, 97, 98, 99, 100, 101, 102]
def figCells : Array Value := (figTab.map fun z => Value.int .u8 z).toArray
def Figs (w : World) : Prop := Lib.TabIs Tryd.prog w "frisket/figure.figures" .u8 figTab
theorem figs_named : Tryd.prog.globalNamed "frisket/figure.figures" = some 0 := by kernel_rfl
theorem figs_row {w : World} (h : Figs w) : ∃ t fr, w.heap[0]? = some (.cells figCells t fr) := by
  unfold Figs Lib.TabIs World.var? at h
  rw [figs_named] at h
  simp only [Option.bind_some] at h
  split at h
  · rename_i cs t fr hc
    exact ⟨t, fr, by rw [hc, Option.some.inj h]; rfl⟩
  · cases h
theorem figs_lt {w : World} (h : Figs w) : 0 < w.heap.size := by
  obtain ⟨t, fr, h⟩ := figs_row h
  exact (Array.getElem?_eq_some_iff.1 h).1
theorem Figs.on {w w' : World} (h : Figs w) (hb : Below w.heap.size w w') : Figs w' := Lib.tabBelow_of_tabIs h w' hb
theorem figs_size : figCells.size = 16 := rfl
theorem figCells_at : ∀ i, i < 16 → figCells[i]? = some (.int .u8 ((fig i).toNat : Int)) := fun i hi => by
  have h : i = 0 ∨ i = 1 ∨ i = 2 ∨ i = 3 ∨ i = 4 ∨ i = 5 ∨ i = 6 ∨ i = 7 ∨ i = 8 ∨ i = 9 ∨ i = 10 ∨ i = 11 ∨ i = 12 ∨ i = 13 ∨ i = 14 ∨ i = 15 := by omega
  rcases h with rfl | rfl | rfl | rfl | rfl | rfl | rfl | rfl | rfl | rfl | rfl | rfl | rfl | rfl | rfl | rfl <;> rfl
theorem figs_cell {w : World} (h : Figs w) {i : Nat} (hi : i < 16) : w.cell? ⟨0, i, none⟩ = some (.int .u8 ((fig i).toNat : Int)) := by
  obtain ⟨t, fr, h⟩ := figs_row h
  rw [cell_of_row w _ i _ t fr h]
  exact figCells_at i hi
theorem size_byF : (Tryd.prog.info? 5).map (·.size) = some 1 := by kernel_rfl
theorem figs_index (k : Nat) (hk : k < 16) (W : World) : (Instr.index 65 (.agg figCells) (.int .i64 (k : Int))).run Tryd.prog W = .ok (.int .u8 ((fig k).toNat : Int)) W := by
  have h := figCells_at k hk
  have hs := size_byF
  cases hq : Tryd.prog.info? 5 with
  | none => simp [hq] at hs
  | some i =>
    have hs1 : i.size = 1 := by simpa [hq] using hs
    simp [Instr.index, run_underlying Tryd.underlying65, asIntOf, go_sem, sizeOf, typeInfo, hq, hs1, h]
    exact fun h9 => by omega
theorem fig_lt (n : Nat) (h : n < 16) : (fig n).toNat < 128 := by
  rw [fig_nat h]
  split <;> omega

set_option maxRecDepth 10000 in
set_option maxHeartbeats 3200000 in
theorem fig_worth (c : Int) (w : World) (hF : Figs w) :
    Calls Tryd.prog 27 #[.int .i32 c] w fun e w' => w = w' ∧ ((∃ n : Nat, n < 16 ∧ ((fig n).toNat : Int) = c ∧ e = .returned (.tuple #[.int .u8 (n : Int), .bool true])) ∨ ((∀ n : Nat, n < 16 → ¬ ((fig n).toNat : Int) = c) ∧ e = .returned (.tuple #[.int .u8 0, .bool false]))) := by
  obtain ⟨T, fr, hg⟩ := figs_row hF
  go_enter Tryd.func27, Tryd.ntmps27
  go_wp2_with (with_reducible refine wpList_load_row rfl 65 _ rfl 0 rfl T figCells fr _ hg Tryd.underlying65 rfl (by kernel_rfl) ?_)
  go_loopg [4, 5, 7] 16 (fun gh _ _ it wr => ∃ k : Nat, it = .int .i64 (k : Int) ∧ gh + k = 16 ∧ (∀ n : Nat, n < k → ¬ ((fig n).toNat : Int) = c) ∧ wr = w)
  case atStart => exact ⟨0, rfl, rfl, fun n h => absurd h (by omega), rfl⟩
  case round =>
    obtain ⟨k, rfl, hgk, hno, rfl⟩ := hrel
    have HN := Lib.hid hno
    clear hno
    by_cases hk : k < 16
    · have hx := figCells_at k hk
      have hfb := fig_lt k hk
      have hix := fun W => figs_index k hk W
      obtain ⟨x, hxx⟩ : ∃ x, (fig k).toNat = x := ⟨_, rfl⟩
      rw [hxx] at hx hfb
      simp only [hxx] at hix
      have HX := Lib.hid hxx
      clear hxx
      by_cases hc : (x : Int) = c
      · have hw8 : IntKind.u8.wrap (k : Int) = (k : Int) := IntWalk.u8_in _ (by omega)
        go_wp2_with fail
        go_ret2
        exact ⟨rfl, .inl ⟨k, hk, by rw [HX.out]; exact hc, by simp⟩⟩
      · go_wp2_with fail
        go_roundg (16 - (k + 1))
        case measure => omega
        case rel =>
          refine ⟨k + 1, by simp, by omega, fun n hn => ?_, rfl⟩
          by_cases e : n = k
          · rw [e, HX.out]; exact hc
          · exact HN.out n (by omega)
    · obtain rfl : k = 16 := by omega
      go_wp2_with fail
      go_ret2
      exact ⟨rfl, .inr ⟨HN.out, rfl⟩⟩
end Go.Proofs.YtkeglcfndjpblaaDoor
/- Bytes in figures: the program's own, there. -/

namespace Go.Proofs.YtkeglcfndjpblaaDoor
open Go.RowKit

theorem run_make_two {P : Program} (t e : TypeId) (v : Value) (bytes : Nat) (hv : v.cells = #[v]) (ht : P.underlying t = some (.slice e)) (hi : (P.info? e).map (fun i => (i.zero, i.size, i.bytes)) = some (some v, 1, bytes)) (h8 : bytes ≤ 16) (n m : Nat) (hnm : n ≤ m) (hn : m ≤ 4294967296) (u : World) :
    (Instr.makeSlice t (.int .i64 (n : Int)) (.int .i64 (m : Int))).run P u = .ok (.slice (some ⟨u.heap.size, 0, none⟩) n m) (u.alloc (.cells (List.replicate m v).toArray e)) := by
  obtain ⟨i, hi, hz0, hz1, hz2⟩ := info_parts hi
  have hb : (i.bytes : Int) * (m : Int) ≤ 281474976710656 := by
    have h : i.bytes * m ≤ 16 * 4294967296 := Nat.mul_le_mul (by omega) hn
    have h' : ((i.bytes * m : Nat) : Int) ≤ 281474976710656 := by omega
    rwa [Int.natCast_mul] at h'
  have h := run_make (P := P) u t e i v ht hi hz0 .i64 .i64 n m (by omega) (by omega) hb (by omega)
  rw [Int.toNat_natCast] at h
  rw [h, hz1, hv]
  have e2 : (madeCells #[v] m) = (List.replicate m v).toArray := by
    rw [← toList_madeCells_one]
  simp [e2]
theorem low_half : ∀ u : Nat, u < 256 → bits BinOp.and IntKind.u8 (u : Int) 15 = ((u % 16 : Nat) : Int) := by decide +kernel

theorem keep_two {a w' : World} {row : Option Nat} {g i j : Nat} {x y : Option Value} (h : a.cell? ⟨g, i, none⟩ = x ∧ a.cell? ⟨g, j, none⟩ = y) (hg : a.grownBy w' row) (hl : g < a.heap.size) (hne : some g ≠ row) : w'.cell? ⟨g, i, none⟩ = x ∧ w'.cell? ⟨g, j, none⟩ = y :=
  ⟨(hg.cell_far ⟨g, i, none⟩ hl hne).trans h.1, (hg.cell_far ⟨g, j, none⟩ hl hne).trans h.2⟩

set_option maxRecDepth 10000 in
set_option maxHeartbeats 3200000 in
theorem fig_Hex (A : Option Addr) (c : Nat) (b : By) (w : World) (hr : RdV w w.heap.size A (bcells b)) (hm : b.length ≤ 1073741824) (hF : Figs w) :
    Calls Tryd.prog 17 #[.slice A b.length c] w fun e w' => e = .returned (.string (str (hexOf b))) ∧ Below w.heap.size w w' := by
  obtain ⟨i0, hi, hz0, hz1, hz2⟩ := info_parts info_by
  obtain ⟨m, hm2⟩ : ∃ m, 2 * b.length = m := ⟨_, rfl⟩
  have hmk : ∀ u : World, (Instr.makeSlice 40 (.int .i64 0) (.int .i64 (m : Int))).run Tryd.prog u = .ok (.slice (some ⟨u.heap.size, 0, none⟩) 0 m) (u.alloc (.cells (List.replicate m (.int .u8 0)).toArray 5)) := fun u => run_make_two (P := Tryd.prog) 40 5 (.int .u8 0) 1 rfl Tryd.underlying40 info_by (by omega) 0 m (by omega) (by omega) u
  have hmw : IntKind.i64.wrap (2 * (b.length : Int)) = (m : Int) := by rw [IntWalk.i64_in _ (by omega)]; omega
  have hOwn := Lib.hid (show (w.alloc (.cells (List.replicate m (.int .u8 0)).toArray 5)).ownsRow w.heap.size 5 1 (.slice (some ⟨w.heap.size, 0, none⟩) 0 m) 0 [] by
    have := World.ownsRow_made (base := w.heap.size) (e := 5) (size := 1) w (List.replicate m (.int .u8 0)).toArray m (Nat.le_refl _) (by unfold maxLen; omega) (by simp)
    exact this)
  have hBel := Lib.hid ((Below.refl w.heap.size w).alloc (Nat.le_refl _) (.cells (List.replicate m (.int .u8 0)).toArray 5))
  have HF := Lib.hid hF
  have HR := Lib.hid hr
  have HM := Lib.hid hm2
  clear hr hF hm2
  go_enter Tryd.func17, Tryd.ntmps17
  go_wp2_with fail
  go_loopg [3, 5, 12] b.length (fun gh v _ t wr => ∃ i : Nat, t = .int .i64 (i : Int) ∧ gh + i = b.length ∧ wr.ownsRow w.heap.size 5 1 v (2 * i) (bcells (hexOf (b.take i))) ∧ Below w.heap.size w wr)
  case atStart => exact ⟨0, rfl, by omega, hOwn.out, hBel.out⟩
  case round =>
    obtain ⟨i, rfl, hg, hown, hB⟩ := hrel
    have hrr := HR.out.below hB
    by_cases hlt : i < b.length
    · obtain ⟨g, o, rfl, hgb, hcell⟩ := hrr.byte hlt
      have hu := (b[i]).toNat_lt
      obtain ⟨u, hu2⟩ : ∃ u, (b[i]).toNat = u := ⟨_, rfl⟩
      rw [hu2] at hcell hu
      have hF2 := HF.out.on hB
      have ct1 := figs_cell hF2 (i := u / 16) (by omega)
      have ct2 := figs_cell hF2 (i := u % 16) (by omega)
      obtain ⟨x, hx⟩ : ∃ x, (fig (u / 16)) = x := ⟨_, rfl⟩
      obtain ⟨y, hy⟩ : ∃ x, (fig (u % 16)) = x := ⟨_, rfl⟩
      rw [hx] at ct1
      rw [hy] at ct2
      have hlow := low_half u hu
      have hGl := figs_lt hF2
      have HX := Lib.hid (And.intro hx hy)
      have hne : some 0 ≠ u3.ownBlock := fun e => by
        have h1 := (hown.lt 0 e.symm).1
        have h2 := figs_lt HF.out
        omega
      have HO := Lib.hid hown
      have HB := Lib.hid hB
      have HU := Lib.hid hu2
      clear hx hy hF2 hown hB hrr hu2 hmk hmw
      have hb1 : (0 : Int) ≤ (u : Int) / 16 ∧ (u : Int) / 16 < 16 := by omega
      have hb3 : (0 : Int) ≤ (u : Int) % 16 ∧ (u : Int) % 16 < 16 := by omega
      have ht1 : ((u : Int) / 16).toNat = u / 16 := by omega
      have ht3 : ((u : Int) % 16).toNat = u % 16 := by omega
      go_wp2_with fail
      go_region_held3 (fun w' => w'.cell? ⟨0, u / 16, none⟩ = some (.int .u8 (x.toNat : Int)) ∧ w'.cell? ⟨0, u % 16, none⟩ = some (.int .u8 (y.toNat : Int)))
        (first | (with_reducible exact ⟨ct1, ct2⟩) | go_keep | (exact keep_two (by assumption) hgrow (by simp; try omega) hne))
        ((first
          | (refine step_append_lies _ (by rfl) _ _ _ (by rfl) w.heap.size 5 i0 (.int .u8 0) 1 1 Tryd.underlying40 hi hz0 hz1 hz2 rfl (by omega) u3 (2 * i) (bcells (hexOf (b.take i))) (by rfl) ((HO.out.alloc _).drew)
              ⟨wr.heap.size, 0, none⟩ 2 2 [.int .u8 (x.toNat : Int), .int .u8 (y.toNat : Int)] (by rfl) (by rfl) (World.news_of_block (cs := #[.int .u8 (x.toNat : Int), .int .u8 (y.toNat : Int)]) (t := 5) (fr := (0, 0)) (heap_alloc_new wr _)) (by simp [Value.oneCell'])
              (by omega) (by unfold maxLen; omega) (by omega) (by have := HB.out.size; simp; omega) (wr.heap.size + 1) (by simp) ?_; intro gg cap w1 hown1 hgrow _ hlt1)))
      all_goals
        have hB1 := hB2 HB.out (HO.out) (Value.int .u8 (x.toNat : Int)) (Value.int .u8 (y.toNat : Int)) hgrow
        have hown2 := hown1
        rw [← HX.out.1, ← HX.out.2, ← HU.out] at hown2
        have hown3 := hex_step hlt hown2
        go_wp2_with fail
        go_roundg (b.length - (i + 1))
        case measure => omega
        case rel => exact ⟨i + 1, by simp, by omega, hown3, hB1⟩
    · obtain rfl : i = b.length := by omega
      rw [List.take_length] at hown
      obtain ⟨q, cap, rfl, hn, hq⟩ := own_by_rd hown
      have hcv := conv_by hq cap
      rw [← hn] at hcv
      clear hown hrr
      rw [HM.out] at hcv ⊢
      clear hn
      go_wp2_with fail
      go_ret
      exact ⟨rfl, hB⟩
end Go.Proofs.YtkeglcfndjpblaaDoor
/- Bytes in figures: the program's own, back. -/

namespace Go.Proofs.YtkeglcfndjpblaaDoor
open Go.RowKit

theorem byteOf_nofig1 {x y : UInt8} (h : ∀ n, n < 16 → ¬ (fig n).toNat = x.toNat) : byteOf x y = none := byteOf_no fun k hk ⟨h1, _⟩ => h (k / 16) (by omega) (by rw [h1])
theorem byteOf_nofig2 {x y : UInt8} (h : ∀ n, n < 16 → ¬ (fig n).toNat = y.toNat) : byteOf x y = none := byteOf_no fun k _ ⟨_, h2⟩ => h (k % 16) (by omega) (by rw [h2])
theorem byteOf_halves {h n : Nat} (hh : h < 16) (hn : n < 16) : byteOf (fig h) (fig n) = some (UInt8.ofNat (16 * h + n)) := by
  have e : (UInt8.ofNat (16 * h + n)).toNat = 16 * h + n := by simp; omega
  have := byteOf_fig (UInt8.ofNat (16 * h + n))
  rw [e, show (16 * h + n) / 16 = h by omega, show (16 * h + n) % 16 = n by omega] at this
  exact this
theorem or_halves : ∀ h : Nat, h < 16 → ∀ n : Nat, n < 16 → bits BinOp.or IntKind.u8 ((h : Int) * 16) (n : Int) = ((16 * h + n : Nat) : Int) := by decide +kernel
theorem or_zero : ∀ n : Nat, n < 16 → bits BinOp.or IntKind.u8 0 (n : Int) = (n : Int) := by decide +kernel
theorem Arr.iterAt {w : World} {g k : Nat} {t : TypeId} {vs : List Value} (h : Arr w g t vs) (hne : g ≠ k) (s : ByteArray) (p : Nat) : Arr (w.iterAt k s p) g t vs := by
  unfold Arr at *
  rw [← h]
  simp only [World.iterAt]
  rw [Array.getElem?_setIfInBounds, if_neg (fun e => hne e.symm)]
/-- the letter at a place is the figure n: what a range over the text hands over there -/
theorem rune_fig {t : ByteArray} {pos n : Nat} (hp : pos < t.size) (hn : n < 16) (h : ((fig n).toNat : Int) = ((Utf8.decode t pos).1 : Int)) : t[pos] = fig n ∧ (Utf8.decode t pos).2 = 1 := by
  have hf := fig_lt n hn
  by_cases ha : (t[pos]'hp).toNat < 128
  · rw [decode_ascii t pos hp ha] at h ⊢
    exact ⟨UInt8.toNat_inj.1 (by dsimp only at h; omega), rfl⟩
  · have := (decode_high t pos hp (by omega)).1
    omega
theorem rune_no {t : ByteArray} {pos : Nat} (hp : pos < t.size) (h : ¬ ∃ n, n < 16 ∧ ((fig n).toNat : Int) = ((Utf8.decode t pos).1 : Int)) : ∀ n, n < 16 → ¬ (fig n).toNat = (t[pos]'hp).toNat := by
  intro n hn e
  have hf := fig_lt n hn
  refine h ⟨n, hn, ?_⟩
  rw [decode_ascii t pos hp (by omega), e]
/-- between the bytes: all that came are bytes; or one figure more has come -/
def Halves (bs : By) (n : Nat) (pos : Nat) (vs : List Value) : Prop :=
  ∃ b : By, bs = hexOf b ++ bs.drop (2 * b.length) ∧ ((pos = 2 * b.length ∧ vs = fills (bcells b) (.int .u8 0) n) ∨
    (∃ h, h < 16 ∧ pos = 2 * b.length + 1 ∧ (bs.drop (2 * b.length)).head? = some (fig h) ∧ vs = fills (bcells (b ++ [UInt8.ofNat h])) (.int .u8 0) n))
theorem halves_start (bs : By) (n : Nat) : Halves bs n 0 (List.replicate n (.int .u8 0)) := ⟨[], rfl, .inl ⟨rfl, by rw [← fills_none]; rfl⟩⟩
/-- a letter that is no figure -/
theorem halves_bad {bs : By} {n pos : Nat} {vs : List Value} (h : Halves bs n pos vs) (hn : bs.length = 2 * n) (hp : pos < bs.length) (hno : ∀ k, k < 16 → ¬ (fig k).toNat = (bs[pos]).toNat) : unhexOf bs = none := by
  obtain ⟨b, hb, ⟨rfl, _⟩ | ⟨k, hk, rfl, hd, _⟩⟩ := h
  · have h2 : 2 * b.length + 1 < bs.length := by omega
    exact unhex_fail (y := bs[2 * b.length + 1]) hb (by rw [List.drop_eq_getElem_cons hp, List.drop_eq_getElem_cons h2]) (byteOf_nofig1 hno)
  · have h2 : 2 * b.length < bs.length := by omega
    exact unhex_fail (x := bs[2 * b.length]) hb (by rw [List.drop_eq_getElem_cons h2, List.drop_eq_getElem_cons hp]) (byteOf_nofig2 hno)
/-- all have come -/
theorem halves_end {bs : By} {n : Nat} {vs : List Value} (h : Halves bs n bs.length vs) (hn : bs.length = 2 * n) : ∃ b, unhexOf bs = some b ∧ b.length = n ∧ vs = bcells b := by
  obtain ⟨b, hb, ⟨h1, h2⟩ | ⟨k, hk, h1, _⟩⟩ := h
  · have hl : b.length = n := by omega
    have : bs.drop (2 * b.length) = [] := List.drop_eq_nil_of_le (by omega)
    rw [this, List.append_nil] at hb
    exact ⟨b, by rw [hb]; exact unhexOf_hex b, hl, by rw [h2, fills_all (by rw [bcells_length, hl])]⟩
  · omega
theorem bcells_ofNat {k : Nat} (h : k < 256) : bcells [UInt8.ofNat k] = [.int .u8 (k : Int)] := by simp [bcells]; omega
/-- what lies at a letter's byte, and what is to lie there -/
theorem halves_step {bs : By} {n pos : Nat} {vs : List Value} (h : Halves bs n pos vs) (hn : bs.length = 2 * n) (hp : pos < bs.length) {k : Nat} (hk : k < 16) (hc : bs[pos] = fig k) :
    ∃ m v : Nat, m = pos / 2 ∧ m < n ∧ vs[m]? = some (.int .u8 (v : Int)) ∧ v < 16 ∧ vs.length = n ∧ Halves bs n (pos + 1) (vs.set m (.int .u8 ((16 * v + k : Nat) : Int))) := by
  obtain ⟨b, hb, ⟨rfl, rfl⟩ | ⟨j, hj, rfl, hd, rfl⟩⟩ := h
  · refine ⟨b.length, 0, by omega, by omega, ?_, by omega, by simp [fills, bcells_length]; omega, b, hb, .inr ⟨k, hk, rfl, ?_, ?_⟩⟩
    · have := fills_at (vs := bcells b) (z := .int .u8 0) (n := n) (by rw [bcells_length]; omega)
      rwa [bcells_length] at this
    · rw [List.drop_eq_getElem_cons hp, hc]; rfl
    · have := fills_set (vs := bcells b) (z := .int .u8 0) (v := .int .u8 (k : Int)) (n := n) (by rw [bcells_length]; omega)
      rw [bcells_length] at this
      rw [bcells_append, bcells_ofNat (by omega), ← this]
      simp
  · have h2 : 2 * b.length < bs.length := by omega
    refine ⟨b.length, j, by omega, by omega, ?_, hj, by simp [fills, bcells_length]; omega, b ++ [UInt8.ofNat (16 * j + k)], ?_, .inl ⟨by simp; omega, ?_⟩⟩
    · rw [bcells_append, bcells_ofNat (by omega)]
      unfold fills
      rw [List.append_assoc, List.getElem?_append_right (by rw [bcells_length]; exact Nat.le_refl _), bcells_length, Nat.sub_self]
      rfl
    · have hx : bs.drop (2 * b.length) = fig j :: fig k :: bs.drop (2 * b.length + 1 + 1) := by
        rw [List.drop_eq_getElem_cons h2, List.head?_cons] at hd
        rw [List.drop_eq_getElem_cons h2, List.drop_eq_getElem_cons hp, hc, Option.some.inj hd]
      have := unhex_next hb hx (byteOf_halves hj hk) rfl
      rw [show 2 * (b ++ [UInt8.ofNat (16 * j + k)]).length = 2 * b.length + 2 by simp; omega]
      exact this
    · rw [bcells_append, bcells_ofNat (by omega), bcells_append, bcells_ofNat (by omega)]
      unfold fills
      rw [List.append_assoc, List.set_append_right _ _ (by rw [bcells_length]; exact Nat.le_refl _), bcells_length, Nat.sub_self, List.append_assoc]
      simp
end Go.Proofs.YtkeglcfndjpblaaDoor
/- Bytes in figures: the walk of the program's own Unhex. -/

namespace Go.Proofs.YtkeglcfndjpblaaDoor
open Go.RowKit

set_option maxRecDepth 10000 in
set_option maxHeartbeats 3200000 in
theorem fig_Unhex (t : ByteArray) (hsz : t.size ≤ 4294967296) (w : World) (hF : Figs w) :
    Calls Tryd.prog 15 #[.string t] w fun e w' => Below w.heap.size w w' ∧
      ((∃ (b : By) (p : Option Addr) (cap : Nat), unhexOf t.data.toList = some b ∧ e = .returned (.tuple #[.slice p b.length cap, .int .i64 0]) ∧ RdV w' w'.heap.size p (bcells b)) ∨
        (unhexOf t.data.toList = none ∧ e = .returned (.tuple #[.slice none 0 0, .int .i64 3]))) := by
  obtain ⟨bs, hbs⟩ : ∃ bs, t.data.toList = bs := ⟨_, rfl⟩
  have hlen : bs.length = t.size := by rw [← hbs]; exact str_len t
  have hget : ∀ j (h : j < t.size), ∃ h' : j < bs.length, bs[j]'h' = t[j] := fun j h => ⟨by rw [hlen]; exact h, by subst hbs; exact str_get t j h⟩
  rw [hbs]
  clear hbs
  by_cases hodd : t.size % 2 = 1
  · have HU := Lib.hid (unhexOf_odd (s := bs) (by rw [hlen]; exact hodd))
    have hz : (t.size : Int).tmod 2 = 1 := by rw [Int.tmod_eq_emod_of_nonneg (by omega)]; omega
    clear hget hlen
    go_enter Tryd.func15, Tryd.ntmps15
    go_wp2_with fail
    go_ret2
    exact ⟨Below.refl _ _, .inr ⟨HU.out, rfl⟩⟩
  · obtain ⟨n, hn⟩ : ∃ n, t.size = 2 * n := ⟨t.size / 2, by omega⟩
    have hz : (t.size : Int).tmod 2 = 0 := by rw [Int.tmod_eq_emod_of_nonneg (by omega)]; omega
    have hz2 : (t.size : Int).tdiv 2 = (n : Int) := by rw [Int.tdiv_eq_ediv_of_nonneg (by omega)]; omega
    have hz3 : (t.size : Int) / 2 = (n : Int) := by omega
    have hmk := fun u => run_make_one (P := Tryd.prog) 40 5 (.int .u8 0) 1 rfl Tryd.underlying40 info_by n (by omega) (by omega) u
    have hArr := Lib.hid ((Arr.new w 5 (List.replicate n (.int .u8 0))))
    have hBel := Lib.hid ((Below.refl w.heap.size w).alloc (Nat.le_refl _) (.cells (List.replicate n (.int .u8 0)).toArray 5))
    have HGET := Lib.hid hget
    have HLEN := Lib.hid (hlen.trans hn)
    have HSZ := Lib.hid hn
    have HF := Lib.hid hF
    clear hget hlen hF hn
    go_enter Tryd.func15, Tryd.ntmps15
    go_wp2_with fail
    go_loopg [5, 6, 7, 8] t.size (fun gh _ _ _ _ wr => ∃ (pos : Nat) (vs : List Value), gh + pos = t.size ∧ wr.heap[w.heap.size + 1]? = some (.stringIter t pos) ∧ Arr wr w.heap.size 5 vs ∧ Halves bs n pos vs ∧ Below w.heap.size w wr)
    case atStart =>
      refine ⟨0, _, rfl, ?_, hArr.out.alloc _, halves_start bs n, hBel.out.alloc (by simp) _⟩
      have := World.iter_heap (w.alloc (.cells (List.replicate n (.int .u8 0)).toArray 5)) t 0
      simpa using this
    case round =>
      obtain ⟨pos, vs, hg, hit, harr, hh, hB⟩ := hrel
      have HH := Lib.hid hh
      have HG := Lib.hid hg
      clear hh hg
      by_cases hp : pos < t.size
      · obtain ⟨hl1, hx⟩ := HGET.out pos hp
        obtain ⟨d, hd⟩ : ∃ d, Utf8.decode t pos = d := ⟨_, rfl⟩
        obtain ⟨d1, hd1⟩ : ∃ k, d.1 = k := ⟨_, rfl⟩
        have hnx : ∀ ty, (Instr.next (.pointer (some ⟨w.heap.size + 1, 0, none⟩)) true ty).run Tryd.prog wr = .ok (.tuple #[.bool true, .int .i64 pos, .int .i32 (d1 : Int)]) (wr.iterAt (w.heap.size + 1) t (pos + d.2)) := fun ty => by
          rw [← hd1, ← hd]; exact Lib.run_next_any_at wr (w.heap.size + 1) t pos ty hit hp
        have hit2 := Lib.iterAt_heap wr (w.heap.size + 1) t pos (pos + d.2) hit
        have hB2 := Lib.below_iterAt hB (k := w.heap.size + 1) (by omega) t (pos + d.2)
        have harr2 := harr.iterAt (k := w.heap.size + 1) (by omega) t (pos + d.2)
        clear hit hB harr
        generalize wr.iterAt (w.heap.size + 1) t (pos + d.2) = W1 at *
        have HW := Lib.hid (fig_worth (d1 : Int) W1 (HF.out.on hB2))
        by_cases hfig : ∃ k, k < 16 ∧ ((fig k).toNat : Int) = ((Utf8.decode t pos).1 : Int)
        · obtain ⟨k, hk, hke⟩ := hfig
          obtain ⟨hr1, hr2⟩ := rune_fig hp hk hke
          rw [hd] at hke hr2
          rw [hd1] at hke
          rw [hr2] at hit2
          obtain ⟨m, v, hm, hmn, hvm, hv16, hvl, hst⟩ := halves_step HH.out HLEN.out hl1 hk (by rw [hx, hr1])
          have CW := Lib.hid (show Calls Tryd.prog 27 #[.int .i32 (d1 : Int)] W1 (fun e w' => e = .returned (.tuple #[.int .u8 (k : Int), .bool true]) ∧ W1 = w') from
            HW.out.mono fun e w' ⟨h0, h1⟩ => ⟨by
              rcases h1 with ⟨k', hk', he', h1⟩ | ⟨hno, _⟩
              · rw [fig_inj hk hk' (UInt8.toNat_inj.1 (by omega)), h1]
              · exact absurd hke (hno k hk), h0⟩)
          have hc0 := harr2.cell m hvm
          have hf := harr2.frozen m
          have hset := Lib.hid (harr2.set m (.int .u8 ((16 * v + k : Nat) : Int)))
          have hBs := Lib.hid (hB2.setCell (p := ⟨w.heap.size, m, none⟩) (Nat.le_refl _) (.int .u8 ((16 * v + k : Nat) : Int)))
          have hit3 := Lib.hid (show (W1.setCell ⟨w.heap.size, m, none⟩ (.int .u8 ((16 * v + k : Nat) : Int))).heap[w.heap.size + 1]? = some (.stringIter t (pos + 1)) from by rw [Below.heap_setCell _ _ _ _ (by simp)]; exact hit2)
          have hor := or_halves v hv16 k hk
          obtain ⟨z, hz4⟩ : ∃ z, 16 * v + k = z := ⟨_, rfl⟩
          rw [hz4] at hset hBs hit3 hor hst
          have HST := Lib.hid hst
          have htd : (pos : Int).tdiv 2 = (m : Int) := by rw [Int.tdiv_eq_ediv_of_nonneg (by omega)]; omega
          have hed : (pos : Int) / 2 = (m : Int) := by omega
          have hsh : IntKind.u8.wrap ((v : Int) * 16) = (v : Int) * 16 := IntWalk.u8_in _ (by omega)
          clear hst hit2 hB2 harr2 hd hd1 hx hr1 hr2 hke hvm HW hm hz4
          go_wp2_with (go_at_call 27; with_reducible refine Calls.mono CW.out ?_; rintro e w1 ⟨rfl, rfl⟩)
          have hg2 := HG.out
          go_roundg (t.size - (pos + 1))
          case measure => omega
          case rel => exact ⟨pos + 1, _, by omega, hit3.out, hset.out, HST.out, hBs.out⟩
        · have hno := rune_no hp hfig
          have HU := Lib.hid (halves_bad HH.out HLEN.out hl1 (fun k hk => by rw [hx]; exact hno k hk))
          have CW := Lib.hid (show Calls Tryd.prog 27 #[.int .i32 (d1 : Int)] W1 (fun e w' => e = .returned (.tuple #[.int .u8 0, .bool false]) ∧ W1 = w') from
            HW.out.mono fun e w' ⟨h0, h1⟩ => ⟨by
              rcases h1 with ⟨k', hk', he', h1⟩ | ⟨_, h1⟩
              · exact absurd ⟨k', hk', by rw [hd, hd1]; exact he'⟩ hfig
              · exact h1, h0⟩)
          clear hit2 harr2 hd hd1 hx HW hno hfig
          go_wp2_with (go_at_call 27; with_reducible refine Calls.mono CW.out ?_; rintro e w1 ⟨rfl, rfl⟩)
          go_ret2
          exact ⟨hB2, .inr ⟨HU.out, rfl⟩⟩
      · obtain rfl : pos = t.size := by have := HG.out; omega
        have hnx : ∀ ty, (Instr.next (.pointer (some ⟨w.heap.size + 1, 0, none⟩)) true ty).run Tryd.prog wr = .ok (.tuple #[.bool false]) wr := fun ty => Lib.run_next_end_at wr (w.heap.size + 1) t t.size ty hit hp
        have he : t.size = bs.length := by rw [HLEN.out, HSZ.out]
        have HH2 := HH.out
        rw [he] at HH2
        obtain ⟨b, hb1, hb2, hb3⟩ := halves_end HH2 HLEN.out
        have hrd := harr.rd
        rw [hb3] at hrd
        have HQ := Lib.hid (And.intro hB (And.intro hb1 (And.intro hb2 hrd)))
        clear hB hb1 hb2 hb3 hrd HH2 he harr
        go_wp2_with fail
        go_ret2
        exact ⟨HQ.out.1, .inl ⟨b, some ⟨w.heap.size, 0, none⟩, n, HQ.out.2.1, by rw [HQ.out.2.2.1]; rfl, HQ.out.2.2.2⟩⟩
end Go.Proofs.YtkeglcfndjpblaaDoor
