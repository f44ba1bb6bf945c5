/- Names that begin with Z. -/
import Derived.Test.YtelhgpogfedchaaMem
import Derived.Test.YtelhgpogfedchaaShelfP
import Derived.WalkKit
import Derived.OpenShut
namespace Go.Proofs.Ytelhgpogfedchaa
open Go.RowKit
def ownB (s : ByteArray) : Bool := ([90] : List UInt8).isPrefixOf s.data.toList
theorem isOwn_any (s : ByteArray) (w : World) : Calls Try.prog 18 #[.string s] w fun e w' => e = .returned (.bool (ownB s)) ∧ w' = w := by
  have HP := hide (Try.strings_HasPrefix s ⟨#[90]⟩ w)
  go_enter Try.func18, Try.ntmps18
  go_wp2_with fail
  refine HP.out.mono ?_
  rintro e w1 ⟨rfl, rfl⟩
  go_wp2
  go_ret
  exact ⟨rfl, rfl⟩
theorem own_eq (s : ByteArray) (h : 0 < s.size) : ownB s = ((s[0]'h).toNat == 90) := by
  obtain ⟨⟨l⟩⟩ := s
  match l, h with
  | a :: r, h =>
    show ([90] : List UInt8).isPrefixOf (a :: r) = (a.toNat == 90)
    simp only [List.isPrefixOf, Bool.and_true]
    by_cases e : a = 90
    · subst e; rfl
    · have e2 : ¬ a.toNat = 90 := fun h => e (UInt8.toNat_inj.1 h)
      rw [beq_eq_false_iff_ne.2 e2, beq_eq_false_iff_ne.2 (fun h => e h.symm)]
end Go.Proofs.Ytelhgpogfedchaa
