/-
  cardexlaw05: the walks in the form that the statements' last step wants.
-/
import Derived.Test.YtbjnmiaplegkcaaDoorLaw05a
import Derived.Test.YtbjnmiaplegkcaaDoorLaw05b
import Derived.Test.YtbjnmiaplegkcaaDoorLaw05d
import Derived.Test.YtbjnmiaplegkcaaDoorLaw05e
import Derived.Test.YtbjnmiaplegkcaaDoorDiskO
import Derived.Test.YtbjnmiaplegkcaaDoorLaid
namespace Go.Proofs.YtbjnmiaplegkcaaDoor
open Go.RowKit
theorem sealKeeps.walk_SealKeeps (n : Nat) (A : Option Addr) (k c : Nat) (body : List UInt8) (x y : UInt8) (w : World) (hn : n < 18446744073709551616) (h : BS w A k c body) (_ : k ≤ 140737488351232) (ht : Tab w) :
    Calls Tryd.prog 4 #[.int .u64 n, .slice A k c, bv x, bv y] w fun e w' => e = .returned (.bool true) ∧ Below w.heap.size w w' := Go.Proofs.YtbjnmiaplegkcaaDoor.walk_SealKeeps n A k c body x y w hn h ht
theorem sealCounts.walk_SealCounts (n : Nat) (z : Bool) (A1 : Option Addr) (k1 c1 : Nat) (la : List UInt8) (A2 : Option Addr) (k2 c2 : Nat) (lb : List UInt8) (A3 : Option Addr) (k3 c3 : Nat) (lc : List UInt8) (at_ : Int) (w : World)
    (hn : n < 18446744073709551616) (h1 : BS w A1 k1 c1 la) (_ : k1 ≤ 140737488351232) (h2 : BS w A2 k2 c2 lb) (_ : k2 ≤ 140737488351232) (h3 : BS w A3 k3 c3 lc) (_ : k3 ≤ 140737488351232) (_ : (Lit.int .i64 at_).wf = true) (ht : Tab w) :
    Calls Tryd.prog 6 #[.int .u64 n, .bool z, .slice A1 k1 c1, .slice A2 k2 c2, .slice A3 k3 c3, .int .i64 at_] w fun e w' => e = .returned (.bool true) ∧ Below w.heap.size w w' :=
  Go.Proofs.YtbjnmiaplegkcaaDoor.walk_SealCounts n z A1 k1 c1 la A2 k2 c2 lb A3 k3 c3 lc at_ w hn h1 h2 h3 ht
theorem sealBegins.walk_SealBegins (n : Nat) (A1 : Option Addr) (k1 c1 : Nat) (ll : List (List UInt8)) (A2 : Option Addr) (k2 c2 : Nat) (l2 : List Int) (w : World)
    (hn : n < 18446744073709551616) (h1 : RS w A1 k1 c1 ll) (_ : k1 ≤ 140737488351232) (_ : ∀ l ∈ ll, l.length ≤ 140737488351232) (h2 : IS w A2 k2 c2 l2) (ht : Tab w) :
    Calls Tryd.prog 5 #[.int .u64 n, .slice A1 k1 c1, .slice A2 k2 c2] w fun e w' => e = .returned (.bool true) ∧ Below w.heap.size w w' :=
  Go.Proofs.YtbjnmiaplegkcaaDoor.walk_SealBegins n A1 k1 c1 ll A2 k2 c2 l2 w hn h1 h2 ht
end Go.Proofs.YtbjnmiaplegkcaaDoor
