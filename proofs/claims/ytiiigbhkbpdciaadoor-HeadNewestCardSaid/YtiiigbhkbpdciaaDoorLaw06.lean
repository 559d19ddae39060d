/-
  cardexlaw06: the walks in the form that the statements' last step wants.
-/
import Derived.Test.YtiiigbhkbpdciaaDoorLaw06a
import Derived.Test.YtiiigbhkbpdciaaDoorLaw06b
import Derived.Test.YtiiigbhkbpdciaaDoorLaw06c
import Derived.Test.YtiiigbhkbpdciaaDoorLaw06d
import Derived.Test.YtiiigbhkbpdciaaDoorHeadO
import Derived.Test.YtiiigbhkbpdciaaDoorLaid
namespace Go.Proofs.YtiiigbhkbpdciaaDoor
open Go.RowKit
theorem headGets.walk_HeadGets (a b : dk.Blk) (n : Nat) (A : Option Addr) (k c : Nat) (body : List UInt8) (w : World) (ha : a.length = 128) (hb : b.length = 128) (hn : n < 18446744073709551616) (hB : BS w A k c body) (_ : k ≤ 140737488351232) (ht : Tabs w) :
    Calls Tryd.prog 4 #[dk.val a, dk.val b, .int .u64 n, .slice A k c] w fun e w' => e = .returned (.bool true) ∧ Below w.heap.size w w' := Go.Proofs.YtiiigbhkbpdciaaDoor.walk_HeadGets a b n A k c body w ha hb hn hB ht
end Go.Proofs.YtiiigbhkbpdciaaDoor
