/- The small task among units in a row. -/
import Derived.Test.YtbkimpimoclobaaM40
import Derived.Test.YtbkimpimoclobaaM42
namespace Go.Proofs.Ytbkimpimoclobaa
open Go.RowKit

end Go.Proofs.Ytbkimpimoclobaa

