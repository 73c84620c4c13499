/- The walk of reckon: of two types. -/
import Derived.Test.YtekjhefmhhcboaaGreatM3
import Derived.Maps.RangeWalk
import Derived.Test.YtekjhefmhhcboaaGreatM19
namespace Go.Proofs.YtekjhefmhhcboaaGreat
open Go.RowKit
end Go.Proofs.YtekjhefmhhcboaaGreat
