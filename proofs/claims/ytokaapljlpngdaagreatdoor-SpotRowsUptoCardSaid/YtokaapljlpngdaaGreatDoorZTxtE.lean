/- What the document's own Text answers. -/
import Derived.Test.YtokaapljlpngdaaGreatDoorZTxtX
import Derived.Test.YtokaapljlpngdaaGreatDoorZTxtD
import Derived.Test.YtokaapljlpngdaaGreatDoorZRefY
import Derived.Lib.ItoaMem
namespace Go.Proofs.YtokaapljlpngdaaGreatDoor
open Go.RowKit Num

theorem byte_text (w : World) (d : Nat) (hd : d < 10) (v : Int) (hv : v = 48 + (d : Int)) : (convert 113 9 (.slice (some ⟨w.heap.size, 0, none⟩) 1 1)).run Tryz.prog (w.alloc (.cells #[.int .u8 v] 5)) = .ok (.string ⟨[UInt8.ofNat (48 + d)].toArray⟩) (w.alloc (.cells #[.int .u8 v] 5)) := by
  subst hv
  refine run_convert_bytes_back (P := Tryz.prog) (w.alloc (.cells #[.int .u8 (48 + (d : Int))] 5)) 113 9 5 ⟨w.heap.size, 0, none⟩ 1 [UInt8.ofNat (48 + d)] Tryz.underlying113 Tryz.underlying5 Tryz.underlying9 (fun j hj => ?_)
  obtain rfl : j = 0 := by simp at hj; omega
  rw [add_mk, Nat.zero_add, cell_of_row _ w.heap.size 0 _ _ (0, 0) (heap_alloc_new w _)]
  simp only [List.getElem_cons_zero, dec_digit hd]
  simp

theorem app_data (b : UInt8) (t : ByteArray) : ((⟨#[b]⟩ : ByteArray) ++ t).data.toList = b :: t.data.toList := by
  rw [ByteArray.data_append, Array.toList_append]; rfl
theorem app_text {b : UInt8} {t : ByteArray} {l : List UInt8} (h : l = b :: t.data.toList) : ((⟨#[b]⟩ : ByteArray) ++ t) = ⟨l.toArray⟩ := by
  apply ByteArray.ext
  rw [ByteArray.data_append, h]
  apply Array.ext'
  simp

end Go.Proofs.YtokaapljlpngdaaGreatDoor
