/-
  contracts of cardexref05: worth, Newest, Next.
-/
import Derived.Test.YtiiigbhkbpdciaaDoorSealR2
import Derived.Deep.RegionHeldLaw
namespace Go.Proofs.YtiiigbhkbpdciaaDoor
open Go.RowKit

namespace sl
theorem worth_lt (b : Blk) : worth b < 18446744073709551616 := by
  unfold worth get
  split
  · exact (by omega : 0 < 18446744073709551616)
  split
  · exact (by omega : 0 < 18446744073709551616)
  · exact number_lt b
end sl
end Go.Proofs.YtiiigbhkbpdciaaDoor
