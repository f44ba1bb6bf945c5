/- The text of a Path: of the program. -/
import Derived.Test.YtolgjdnhhbbebaaGreatDoorXGPRight
import Derived.Test.YtolgjdnhhbbebaaGreatDoorXGShelf
import Derived.BigQuiet
import Derived.OrdersHeld
namespace Go.Proofs.YtolgjdnhhbbebaaGreatDoor
open Go.RowKit
theorem decDigits_digs (n : Nat) (h0 : n ≠ 0) (h1 : n < 100) : Lib.decDigits n = digs n := by
  unfold Lib.decDigits
  by_cases h : n < 10
  · simp [h, digs, h0]
  · rw [dif_neg h]
    unfold Lib.decDigits
    rw [dif_pos (show n / 10 < 10 by omega)]
    simp [digs, h, h0]
set_option maxHeartbeats 1000000 in
theorem digitsOf_any (n : Nat) (w : World) (h0 : n ≠ 0) (h1 : n < 100) :
    Calls Tryz.prog 33 #[.int .i64 (n : Int)] w fun e w' => e = .returned (.string ⟨(digs n).toArray⟩) ∧ w' = w := by
  have H := hide (decDigits_digs n h0 h1)
  go_enter Tryz.func33, Tryz.ntmps33
  go_wp2_with fail
  refine (Tryz.strconv_FormatInt_10_small n h1 _).mono ?_
  rintro e w1 ⟨rfl, rfl⟩
  rw [H.out]
  go_wp2
  go_ret
  exact ⟨rfl, rfl⟩
theorem join_none (xs : List (List UInt8)) : Lib.join xs [] = xs.flatten := by
  induction xs with
  | nil => rfl
  | cons x r ih => rw [Lib.join_cons]; simp [Lib.joinTail]
/-- Pieces put together, out of a row of the caller's. -/
theorem together_any (g c : Nat) (xs : List ByteArray) (w : World) (hr : Row w g 9 (xs.map Value.string)) (hN : xs.length ≤ 100) (hcap : xs.length ≤ c) (hlen : ((xs.map (·.data.toList)).flatten).length ≤ 1000) :
    Calls Tryz.prog 18 #[.slice (some ⟨g, 0, none⟩) xs.length c] w fun e w' => e = .returned (.string ⟨((xs.map (·.data.toList)).flatten).toArray⟩) ∧ Below w.heap.size w w' := by
  have H := hide (show Lib.join (xs.map (·.data.toList)) (⟨#[]⟩ : ByteArray).data.toList = (xs.map (·.data.toList)).flatten from join_none _)
  have hc : ∀ (j : Nat) x, xs[j]? = some x → w.cell? ⟨g, 0 + j, none⟩ = some (.string x) := fun j x h => by rw [Nat.zero_add, hr.cell j]; simp [h]
  have HC := hide (Tryz.strings_Join g 0 c xs ⟨#[]⟩ w hc hr.lt (by omega) hcap (by rw [H.out]; omega))
  clear hc hr
  go_enter Tryz.func18, Tryz.ntmps18
  go_wp2_with fail
  refine HC.out.mono ?_
  rintro e w1 ⟨rfl, hb1⟩
  rw [H.out]
  have HB := hide hb1
  clear hb1
  go_wp2
  go_ret
  exact ⟨rfl, HB.out⟩
end Go.Proofs.YtolgjdnhhbbebaaGreatDoor
