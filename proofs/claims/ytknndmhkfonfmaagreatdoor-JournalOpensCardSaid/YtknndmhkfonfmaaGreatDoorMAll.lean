/-
  all of it.
-/
import Derived.Test.YtknndmhkfonfmaaGreatDoorM1
import Derived.Test.YtknndmhkfonfmaaGreatDoorM2
import Derived.Test.YtknndmhkfonfmaaGreatDoorM3
import Derived.Test.YtknndmhkfonfmaaGreatDoorM4
import Derived.Test.YtknndmhkfonfmaaGreatDoorM5
import Derived.Test.YtknndmhkfonfmaaGreatDoorM6
import Derived.Test.YtknndmhkfonfmaaGreatDoorM7
import Derived.Test.YtknndmhkfonfmaaGreatDoorM8
import Derived.Test.YtknndmhkfonfmaaGreatDoorM9
import Derived.Test.YtknndmhkfonfmaaGreatDoorM10
namespace Go.Proofs.YtknndmhkfonfmaaGreatDoor
end Go.Proofs.YtknndmhkfonfmaaGreatDoor
