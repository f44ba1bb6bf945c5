/- Where a byte stands in a text, as the library's IndexByte, IndexRune (at a rune below 128) and ContainsRune tell it; what a mark may be; what is plain. -/
import Derived.Test.YtjebahcmnnmfaaaRows
import Derived.WalkKit
import Derived.WalkSpells
import Derived.Lib.Bytealg
import Derived.Laws.RangeAny
import Derived.OpenShut
namespace Go.Proofs.Ytjebahcmnnmfaaa
open Go.RowKit
theorem hideF {p : Prop} (h : p) : Hid p := h
theorem ret_intF {k : IntKind} {a b : Int} (h : a = b) : Ending.returned (.int k a) = .returned (.int k b) := by rw [h]
theorem ret_boolF {a b : Bool} (h : a = b) : Ending.returned (.bool a) = .returned (.bool b) := by rw [h]

theorem u8_of_rune {r : Int} (h0 : 0 ≤ r) (h1 : r < 128) : IntKind.u8.wrap r = r := by
  simp [IntKind.wrap, IntKind.signed, IntKind.bits]
  omega

def digCapB (r : Int) : Bool := decide (48 ≤ r ∧ r ≤ 57) || decide (65 ≤ r ∧ r ≤ 90)
def plainR (r : Int) : Bool := decide (32 ≤ r ∧ r ≤ 126)
/-- May this byte be a mark? -/
def markR (r : Int) : Bool := decide (33 ≤ r ∧ r ≤ 126) && !digCapB r && !decide (97 ≤ r ∧ r ≤ 122) && !decide (r = 46) && !decide (r = 45)

theorem rune_parts (c : Int) : c < 48 ∨ (48 ≤ c ∧ c ≤ 57) ∨ (58 ≤ c ∧ c ≤ 64) ∨ (65 ≤ c ∧ c ≤ 90) ∨ (91 ≤ c) := by omega
set_option maxHeartbeats 1000000 in
theorem isDigitOrCapital_any (r : Int) (w : World) :
    Calls Try.prog 14 #[.int .i32 r] w fun e w' => e = .returned (.bool (digCapB r)) ∧ w' = w := by
  rcases rune_parts r with h | ⟨h, h'⟩ | ⟨h, h'⟩ | ⟨h, h'⟩ | h
  all_goals
    go_enter Try.func14, Try.ntmps14
    go_wp2
    go_ret
    refine ⟨ret_boolF ?_, rfl⟩
    rw [Bool.eq_iff_iff]
    simp [digCapB] <;> omega
theorem plain_parts (c : Int) : c < 32 ∨ (32 ≤ c ∧ c ≤ 126) ∨ 127 ≤ c := by omega
end Go.Proofs.Ytjebahcmnnmfaaa
