/- The walk of leave. -/
import Derived.Test.YtekjhefmhhcboaaGreatM24
import Derived.Test.YtekjhefmhhcboaaGreatM3
import Derived.Test.YtekjhefmhhcboaaGreatM20
import Derived.Test.YtekjhefmhhcboaaGreatM21
namespace Go.Proofs.YtekjhefmhhcboaaGreat
open Go.RowKit
def HE (er num : Int) (w : World) (e : Ending) (w' : World) : Prop := w.grownBy w' none ∧ e = if er = 0 then .returned (.tuple #[]) else .panicked [fltE er num]
end Go.Proofs.YtekjhefmhhcboaaGreat
