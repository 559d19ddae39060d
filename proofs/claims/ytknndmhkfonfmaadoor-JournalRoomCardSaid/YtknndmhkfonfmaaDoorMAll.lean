/-
  all of it.
-/
import Derived.Test.YtknndmhkfonfmaaDoorM1
import Derived.Test.YtknndmhkfonfmaaDoorM2
import Derived.Test.YtknndmhkfonfmaaDoorM3
import Derived.Test.YtknndmhkfonfmaaDoorM4
import Derived.Test.YtknndmhkfonfmaaDoorM5
import Derived.Test.YtknndmhkfonfmaaDoorM6
import Derived.Test.YtknndmhkfonfmaaDoorM7
namespace Go.Proofs.YtknndmhkfonfmaaDoor
end Go.Proofs.YtknndmhkfonfmaaDoor
