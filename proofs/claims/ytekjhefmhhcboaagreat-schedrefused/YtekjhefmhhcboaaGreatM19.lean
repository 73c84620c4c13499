/- The walk of speak, a kind of instruction each. -/
import Derived.Test.YtekjhefmhhcboaaGreatM3
import Derived.Maps.RangeWalk
namespace Go.Proofs.YtekjhefmhhcboaaGreat
open Go.RowKit
end Go.Proofs.YtekjhefmhhcboaaGreat
