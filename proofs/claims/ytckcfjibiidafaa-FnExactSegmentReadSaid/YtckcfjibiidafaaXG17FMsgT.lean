/- The laws' own helpers over a Message. -/
import Derived.Test.YtckcfjibiidafaaXG16FSegS
import Derived.Test.YtckcfjibiidafaaXG13OTree
import Derived.Test.YtckcfjibiidafaaXG14FNestS
namespace Go.Proofs.Ytckcfjibiidafaa
open Go.RowKit
end Go.Proofs.Ytckcfjibiidafaa
/- The laws' own copies of a Field and of a Message, each list in a row of its own. -/
namespace Go.Proofs.Ytckcfjibiidafaa
open Go.RowKit
theorem SameIn.set {lo hi g j : Nat} (w : World) (v : Value) (h : g < lo) : SameIn lo hi w (w.setCell ⟨g, j, none⟩ v) := fun k hk _ _ => Below.heap_setCell w ⟨g, j, none⟩ v k (by show k ≠ g; omega)
end Go.Proofs.Ytckcfjibiidafaa
