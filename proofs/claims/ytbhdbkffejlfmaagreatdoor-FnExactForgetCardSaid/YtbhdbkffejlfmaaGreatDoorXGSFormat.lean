/- The specification's AreaFormat. -/
import Derived.Test.YtbhdbkffejlfmaaGreatDoorXGSCopy
import Derived.Test.YtbhdbkffejlfmaaGreatDoorXGSSeen
import Derived.Deep.RegionHeld3
import Derived.Deep.DeepCutAuto
namespace Go.Proofs.YtbhdbkffejlfmaaGreatDoor
open Go.RowKit

theorem headOf_size (g s z : Int) : (headOf g s z).size ≤ 34 := by
  have h1 := numText_size g
  have h2 := numText_size s
  have h3 := numText_size z
  unfold headOf
  have h4 : ∀ c : Int, (St1.four c).size = 4 := fun c => rfl
  unfold St1.sealOf
  simp only [ByteArray.size_append, h4]
  omega
theorem l03Ill_any (c : Int) (w : World) :
    Calls Tryz.prog 86 #[.int .i64 c] w fun e w' => e = .returned (.agg #[.slice none 0 0, .slice none 0 0, .string ⟨#[]⟩, .int .i64 0, .int .i64 c]) ∧ Below w.heap.size w w' := by
  go_enter Tryz.func86, Tryz.ntmps86
  go_wp2
  exact bodyPost_ret (v := .agg #[.slice none 0 0, .slice none 0 0, .string ⟨#[]⟩, .int .i64 0, .int .i64 c]) (by simp [results, Tryz.results86, go_sem]) rfl ⟨rfl, (Below.refl _ _).alloc (Nat.le_refl _) _⟩

end Go.Proofs.YtbhdbkffejlfmaaGreatDoor
