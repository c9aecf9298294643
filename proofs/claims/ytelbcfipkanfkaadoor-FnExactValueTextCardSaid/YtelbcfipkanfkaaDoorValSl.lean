
/- The laws' comparison of slices of values. -/
import Derived.Test.YtelbcfipkanfkaaDoorValSlDef
import Derived.Deep.RegionWith
namespace Go.Proofs.YtelbcfipkanfkaaDoor
open Go.RowKit

end Go.Proofs.YtelbcfipkanfkaaDoor
