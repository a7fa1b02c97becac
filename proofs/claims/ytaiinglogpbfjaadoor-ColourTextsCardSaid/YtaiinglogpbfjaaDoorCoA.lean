/- Colours: the document's own parts by 255. -/
import Derived.Test.YtaiinglogpbfjaaDoorCoN
import Derived.Test.YtaiinglogpbfjaaDoorChecked
import Derived.Lib.Hide
import Derived.WalkLawsBesides
namespace Go.Proofs.YtaiinglogpbfjaaDoor
open Go.RowKit

end Go.Proofs.YtaiinglogpbfjaaDoor
