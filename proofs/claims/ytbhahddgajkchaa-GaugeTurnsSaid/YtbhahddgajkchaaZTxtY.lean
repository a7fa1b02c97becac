/- What the document's own Parse answers. -/
import Derived.Test.YtbhahddgajkchaaZTxtX
import Derived.Test.YtbhahddgajkchaaZRefY
import Derived.Test.YtbhahddgajkchaaZRefX
import Derived.Deep.RegionHeld3
import Derived.Deep.RegionWith
import Derived.Deep.CutRange
import Derived.Lib.ItoaMem
import Derived.Test.YtbhahddgajkchaaZDivX
import Derived.Test.YtbhahddgajkchaaZNatY
namespace Go.Proofs.Ytbhahddgajkchaa
open Go.RowKit Num

theorem row_ten (w : World) (t : TypeId) : Row (w.alloc (.cells #[.int .u32 10] t)) w.heap.size t .u32 [10] := Row.new w t .u32 [10]
theorem row_one (w : World) (t : TypeId) (n : Nat) : Row (w.alloc (.cells #[.int .u32 (n : Int)] t)) w.heap.size t .u32 [n] := Row.new w t .u32 [n]
theorem row_ten_at (w : World) (t : TypeId) {g : Nat} (hg : g = w.heap.size) : Row (w.alloc (.cells #[.int .u32 10] t)) g t .u32 [10] := by rw [hg]; exact row_ten w t
theorem row_one_at (w : World) (t : TypeId) (n : Nat) {g : Nat} (hg : g = w.heap.size) : Row (w.alloc (.cells #[.int .u32 (n : Int)] t)) g t .u32 [n] := by rw [hg]; exact row_one w t n
theorem rd_alloc {w : World} {k : IntKind} {A : Option Addr} {xs : List Nat} (h : Rd w (fun g => g < w.heap.size) k A xs) (o : Obj) : Rd (w.alloc o) (fun g => g < (w.alloc o).heap.size) k A xs :=
  (h.keep fun p hp => World.cell?_alloc_lt w o p hp).imp (fun g hg => by simp; omega)
theorem len_ten {xs ys : List Nat} (hx : Dg 4294967296 xs) (hy : Norm 4294967296 ys) (h : val 4294967296 ys = val 4294967296 xs * 10) : ys.length ≤ xs.length + 1 := by
  have := len_mul (b := 4294967296) (by omega) hy.2 hx (y := [10]) (by simp [Dg]) (by rw [h]; simp [val])
  simpa using this
theorem len_pos_dec {bs : List UInt8} {ys : List Nat} {pos : Nat} (hy : Norm 4294967296 ys) (h : val 4294967296 ys = decVal (bs.take pos)) (hall : AllDec (bs.take pos)) : ys.length ≤ pos + 1 := by
  refine Nat.le_trans (hy.2.length_le (b := 4294967296) (n := pos) (by omega) ?_) (Nat.le_succ _)
  rw [h]
  refine Nat.lt_of_lt_of_le (decVal_lt hall) (Nat.le_trans (Nat.pow_le_pow_right (by omega) (show (bs.take pos).length ≤ pos by rw [List.length_take]; omega)) (Nat.pow_le_pow_left (by omega) _))
theorem row_drew {w : World} {g : Nat} {t : TypeId} {k : IntKind} {cs : List Nat} (h : Row w g t k cs) : Row w.drew g t k cs := h

end Go.Proofs.Ytbhahddgajkchaa
/- What the document's own Text answers. -/

namespace Go.Proofs.Ytbhahddgajkchaa
open Go.RowKit Num

theorem app_data (b : UInt8) (t : ByteArray) : ((⟨#[b]⟩ : ByteArray) ++ t).data.toList = b :: t.data.toList := by
  rw [ByteArray.data_append, Array.toList_append]; rfl
theorem app_text {b : UInt8} {t : ByteArray} {l : List UInt8} (h : l = b :: t.data.toList) : ((⟨#[b]⟩ : ByteArray) ++ t) = ⟨l.toArray⟩ := by
  apply ByteArray.ext
  rw [ByteArray.data_append, h]
  apply Array.ext'
  simp

end Go.Proofs.Ytbhahddgajkchaa
/- What the program's own Text answers. -/

namespace Go.Proofs.Ytbhahddgajkchaa
open Go.RowKit Num

theorem chunk_step {cs : List Nat} {N X : Nat} (h : N = val 1000000000 cs + 1000000000 ^ cs.length * X) :
    N = val 1000000000 (cs ++ [X % 1000000000]) + 1000000000 ^ (cs ++ [X % 1000000000]).length * (X / 1000000000) := by
  rw [val_snoc, List.length_append, List.length_singleton, Nat.pow_succ]
  have e := Nat.div_add_mod X 1000000000
  generalize X % 1000000000 = r at *
  generalize X / 1000000000 = q at *
  generalize 1000000000 ^ cs.length = P at *
  subst e
  rw [h]
  grind
theorem chunk_len {cs : List Nat} {N X n : Nat} (h : N = val 1000000000 cs + 1000000000 ^ cs.length * X) (hX : 0 < X) (hN : N < 4294967296 ^ n) : cs.length ≤ 2 * n := by
  have h1 : 1000000000 ^ cs.length * 1 ≤ 1000000000 ^ cs.length * X := Nat.mul_le_mul_left _ hX
  have h2 : (4294967296 : Nat) ^ n ≤ (1000000000 ^ 2) ^ n := Nat.pow_le_pow_left (by decide) n
  rw [← Nat.pow_mul] at h2
  have h3 : 1000000000 ^ cs.length < 1000000000 ^ (2 * n) := by omega
  exact Nat.le_of_lt ((Nat.pow_lt_pow_iff_right (show 1 < 1000000000 by omega)).1 h3)
theorem dec_chunk {cs : List Nat} {i : Nat} (hd : Dg 1000000000 cs) (hi : i < cs.length) (hM : 0 < val 1000000000 (cs.drop (i + 1))) :
    Lib.decDigits (val 1000000000 (cs.drop i)) = Lib.decDigits (val 1000000000 (cs.drop (i + 1))) ++ (List.replicate (9 - (Lib.decDigits cs[i]).length) 48 ++ Lib.decDigits cs[i]) := by
  have h := val_drop_succ (b := 1000000000) hi
  have hc := hd.get hi
  rw [h, ← pad_eq 9 cs[i] hc (by omega), ← dec_split 9 _ cs[i] hM hc]
  congr 1
  omega
theorem val_drop_le (b i : Nat) (hb : 0 < b) (cs : List Nat) : val b (cs.drop i) ≤ val b cs := by
  rcases Nat.lt_or_ge i cs.length with h | h
  · rw [val_split (b := b) (k := i) (xs := cs) (by omega)]
    have : 1 * val b (cs.drop i) ≤ b ^ i * val b (cs.drop i) := Nat.mul_le_mul_right _ (Nat.pow_pos hb)
    omega
  · rw [List.drop_eq_nil_of_le h]; exact Nat.zero_le _
theorem own_far {w w' : World} {base : Nat} {t : TypeId} {k : IntKind} {v : Value} {xs : List Nat} {g : Nat} (h : Own w base t k v xs) (hg : w.grownBy w' (some g)) (hlt : g < base) : Own w' base t k v xs := by
  refine ⟨h.1, ?_⟩
  rcases h.2 with h2 | ⟨g', cap, cur, hv, hb, hh, r⟩
  · exact .inl h2
  · refine .inr ⟨g', cap, cur, hv, hb, ?_, r⟩
    have hl : g' < w.heap.size := by
      rcases Nat.lt_or_ge g' w.heap.size with hl | hge
      · exact hl
      · rw [Array.getElem?_eq_none hge] at hh; cases hh
    rw [hg.block g' hl (fun e => by injection e with e; omega)]; exact hh
theorem owns_below {w w' : World} {base B n : Nat} {t : TypeId} {v : Value} {xs : List Value} (h : w.ownsRow base t 1 v n xs) (hb : Below B w w') (hB : w.heap.size ≤ B) : w'.ownsRow base t 1 v n xs := by
  refine ⟨h.1, ?_⟩
  rcases h.2 with h2 | ⟨g', cap, cur, hv, hb', hh, r⟩
  · exact .inl h2
  · refine .inr ⟨g', cap, cur, hv, hb', ?_, r⟩
    have hl : g' < w.heap.size := by
      rcases Nat.lt_or_ge g' w.heap.size with hl | hge
      · exact hl
      · rw [Array.getElem?_eq_none hge] at hh; cases hh
    rw [hb.block g' (by omega)]; exact hh
theorem noughts_cells (k : Nat) : Lib.strCells (ByteArray.extract ⟨#[48, 48, 48, 48, 48, 48, 48, 48, 48]⟩ k 9) = Lib.byteCells (List.replicate (9 - k) 48) := by
  rw [Lib.strCells_eq, extract_data]
  congr 1
  show ((List.replicate 9 (48 : UInt8)).drop k).take (9 - k) = _
  rw [List.drop_replicate, List.take_replicate, Nat.min_self]

theorem info_u8 : (Try.prog.info? 5).map (fun i => (i.zero, i.size, i.bytes)) = some (some (.int .u8 0), 1, 1) := by kernel_rfl
end Go.Proofs.Ytbhahddgajkchaa
