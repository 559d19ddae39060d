/-
  all of it.
-/
import Derived.Test.YthddcaoolaipiaaGreatDoorM1
import Derived.Test.YthddcaoolaipiaaGreatDoorM2
import Derived.Test.YthddcaoolaipiaaGreatDoorM3
import Derived.Test.YthddcaoolaipiaaGreatDoorM4
import Derived.Test.YthddcaoolaipiaaGreatDoorM5
import Derived.Test.YthddcaoolaipiaaGreatDoorM6
namespace Go.Proofs.YthddcaoolaipiaaGreatDoor
end Go.Proofs.YthddcaoolaipiaaGreatDoor
