import Derived.Deep.RegionHeldLaw
import Derived.Test.YtfekelmldebplaaGreatDoorSwa
set_option maxRecDepth 100000
set_option maxHeartbeats 8000000
namespace Go.Proofs.YtfekelmldebplaaGreatDoor
open Go.RowKit
end Go.Proofs.YtfekelmldebplaaGreatDoor
