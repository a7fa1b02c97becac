/- What the document's own Text answers. -/
import Derived.Test.YtlnkmjjbkmcpaaaZTxtX
import Derived.Test.YtlnkmjjbkmcpaaaZTxtD
import Derived.Test.YtlnkmjjbkmcpaaaZRefY
import Derived.Lib.ItoaMem
namespace Go.Proofs.Ytlnkmjjbkmcpaaa
open Go.RowKit Num

theorem app_data (b : UInt8) (t : ByteArray) : ((⟨#[b]⟩ : ByteArray) ++ t).data.toList = b :: t.data.toList := by
  rw [ByteArray.data_append, Array.toList_append]; rfl
theorem app_text {b : UInt8} {t : ByteArray} {l : List UInt8} (h : l = b :: t.data.toList) : ((⟨#[b]⟩ : ByteArray) ++ t) = ⟨l.toArray⟩ := by
  apply ByteArray.ext
  rw [ByteArray.data_append, h]
  apply Array.ext'
  simp

end Go.Proofs.Ytlnkmjjbkmcpaaa
