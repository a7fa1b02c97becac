/- Fractions: what the program's own Sign, floor, Floor and Round answer. -/
import Derived.Test.YtdkgnechiloimaaZFpY
import Derived.Test.YtdkgnechiloimaaZWhI
import Derived.Test.YtdkgnechiloimaaZFrW
import Derived.Test.YtdkgnechiloimaaZWrX
import Derived.Test.YtdkgnechiloimaaZFrZ
namespace Go.Proofs.Ytdkgnechiloimaa
open Go.RowKit Num

theorem cross_div {x y P Q : Int} (hy : 0 < y) (hQ : 0 < Q) (h : x * Q = P * y) : x / y = P / Q := by
  rw [← Int.mul_ediv_mul_of_pos_left x y hQ, h, Int.mul_comm y Q, Int.mul_ediv_mul_of_pos_left P Q hy]
end Go.Proofs.Ytdkgnechiloimaa
/- The same, word by word, or not: the document's own. -/

namespace Go.Proofs.Ytdkgnechiloimaa
open Go.RowKit Num

end Go.Proofs.Ytdkgnechiloimaa
/- Fractions, the document's own: what Same answers. -/

namespace Go.Proofs.Ytdkgnechiloimaa
open Go.RowKit Num

end Go.Proofs.Ytdkgnechiloimaa
