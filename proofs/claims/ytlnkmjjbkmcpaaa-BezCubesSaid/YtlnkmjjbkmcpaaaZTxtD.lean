/- What the document's own Parse answers. -/
import Derived.Test.YtlnkmjjbkmcpaaaZTxtX
import Derived.Test.YtlnkmjjbkmcpaaaZRefY
import Derived.Test.YtlnkmjjbkmcpaaaZRefX
import Derived.Deep.RegionHeld3
import Derived.Deep.RegionWith
import Derived.Deep.CutRange
namespace Go.Proofs.Ytlnkmjjbkmcpaaa
open Go.RowKit Num

theorem row_ten (w : World) (t : TypeId) : Row (w.alloc (.cells #[.int .u32 10] t)) w.heap.size t .u32 [10] := Row.new w t .u32 [10]
theorem row_one (w : World) (t : TypeId) (n : Nat) : Row (w.alloc (.cells #[.int .u32 (n : Int)] t)) w.heap.size t .u32 [n] := Row.new w t .u32 [n]
theorem row_ten_at (w : World) (t : TypeId) {g : Nat} (hg : g = w.heap.size) : Row (w.alloc (.cells #[.int .u32 10] t)) g t .u32 [10] := by rw [hg]; exact row_ten w t
theorem row_one_at (w : World) (t : TypeId) (n : Nat) {g : Nat} (hg : g = w.heap.size) : Row (w.alloc (.cells #[.int .u32 (n : Int)] t)) g t .u32 [n] := by rw [hg]; exact row_one w t n
theorem rd_alloc {w : World} {k : IntKind} {A : Option Addr} {xs : List Nat} (h : Rd w (fun g => g < w.heap.size) k A xs) (o : Obj) : Rd (w.alloc o) (fun g => g < (w.alloc o).heap.size) k A xs :=
  (h.keep fun p hp => World.cell?_alloc_lt w o p hp).imp (fun g hg => by simp; omega)
theorem len_ten {xs ys : List Nat} (hx : Dg 4294967296 xs) (hy : Norm 4294967296 ys) (h : val 4294967296 ys = val 4294967296 xs * 10) : ys.length ≤ xs.length + 1 := by
  have := len_mul (b := 4294967296) (by omega) hy.2 hx (y := [10]) (by simp [Dg]) (by rw [h]; simp [val])
  simpa using this
theorem len_pos_dec {bs : List UInt8} {ys : List Nat} {pos : Nat} (hy : Norm 4294967296 ys) (h : val 4294967296 ys = decVal (bs.take pos)) (hall : AllDec (bs.take pos)) : ys.length ≤ pos + 1 := by
  refine Nat.le_trans (hy.2.length_le (b := 4294967296) (n := pos) (by omega) ?_) (Nat.le_succ _)
  rw [h]
  refine Nat.lt_of_lt_of_le (decVal_lt hall) (Nat.le_trans (Nat.pow_le_pow_right (by omega) (show (bs.take pos).length ≤ pos by rw [List.length_take]; omega)) (Nat.pow_le_pow_left (by omega) _))
theorem row_drew {w : World} {g : Nat} {t : TypeId} {k : IntKind} {cs : List Nat} (h : Row w g t k cs) : Row w.drew g t k cs := h

end Go.Proofs.Ytlnkmjjbkmcpaaa
