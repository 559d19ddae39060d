/-
  all of it.
-/
import Derived.Test.YthddcaoolaipiaaDoorM1
import Derived.Test.YthddcaoolaipiaaDoorM2
import Derived.Test.YthddcaoolaipiaaDoorM3
import Derived.Test.YthddcaoolaipiaaDoorM4
import Derived.Test.YthddcaoolaipiaaDoorM5
namespace Go.Proofs.YthddcaoolaipiaaDoor
end Go.Proofs.YthddcaoolaipiaaDoor
