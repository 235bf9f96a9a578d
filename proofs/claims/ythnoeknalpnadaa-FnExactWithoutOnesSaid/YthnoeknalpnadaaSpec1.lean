/- The model's helpers over slices of integers, together. -/
import Derived.Test.YthnoeknalpnadaaIntS
import Derived.Test.YthnoeknalpnadaaL1All
import Derived.Test.YthnoeknalpnadaaL1Has
namespace Go.Proofs.Ythnoeknalpnadaa
open Go.RowKit


end Go.Proofs.Ythnoeknalpnadaa
