/- The program's AreaRoom: 64 times the half of a right disk's sectors, 0 of another disk. -/
import Derived.Test.YtbhdbkffejlfmaaGreatDoorXGIFit
import Derived.Test.YtbhdbkffejlfmaaGreatDoorXGSSeen
namespace Go.Proofs.YtbhdbkffejlfmaaGreatDoor
open Go.RowKit

set_option maxHeartbeats 400000 in
theorem sideSectors_any (vs vp : Value) (xs : List ByteArray) (w : World) (hx : 1 ≤ xs.length) (hn : xs.length ≤ 1048576) (hr : Reads w vs xs) :
    Calls Tryz.prog 125 #[.agg #[vs, vp]] w fun e w' => e = .returned (.int .i64 (half xs.length)) ∧ Below w.heap.size w w' := by
  have hb0 : Below w.heap.size w (w.alloc (.cells #[vs, vp] 29)) := (Below.refl _ _).alloc (Nat.le_refl _) _
  obtain ⟨p1, c1, rfl, hq⟩ := hr
  clear hq
  have h1 : ((xs.length : Int) - 1).tdiv 2 = half xs.length := by unfold half; rw [Int.tdiv_eq_ediv_of_nonneg (by omega)]
  have h0 : IntKind.i64.wrap ((xs.length : Int) - 1) = (xs.length : Int) - 1 := by rw [IntKind.wrap_i64]; omega
  have h2 : IntKind.i64.wrap (half xs.length) = half xs.length := by unfold half; rw [IntKind.wrap_i64]; omega
  go_enter Tryz.func125, Tryz.ntmps125
  go_wp2
  go_ret
  exact ⟨by first | rfl | simp [h1, h2], hb0⟩

set_option maxHeartbeats 400000 in
theorem sideRoom_any (vs vp : Value) (xs : List ByteArray) (w : World) (hx : 1 ≤ xs.length) (hn : xs.length ≤ 1048576) (hr : Reads w vs xs) :
    Calls Tryz.prog 99 #[.agg #[vs, vp]] w fun e w' => e = .returned (.int .i64 (64 * half xs.length)) ∧ Below w.heap.size w w' := by
  have hb0 : Below w.heap.size w (w.alloc (.cells #[vs, vp] 29)) := (Below.refl _ _).alloc (Nat.le_refl _) _
  have HR := hide (hr.below hb0 (Nat.le_refl _))
  have HB0 := hide hb0
  obtain ⟨p1, c1, rfl, hq⟩ := hr
  clear hq hb0
  have hh : 0 ≤ half xs.length ∧ half xs.length ≤ 1048576 := by unfold half; omega
  have hw : IntKind.i64.wrap (half xs.length * 64) = 64 * half xs.length := by rw [IntKind.wrap_i64]; omega
  go_enter Tryz.func99, Tryz.ntmps99
  go_wp2_with fail
  refine (sideSectors_any _ _ xs _ hx hn HR.out).mono ?_
  rintro e w2 ⟨rfl, hb2⟩
  have HB2 := hide (HB0.out.trans (hb2.mono HB0.out.size))
  clear hb2
  go_wp2
  go_ret
  exact ⟨by first | rfl | simp [hw, Int.mul_comm], HB2.out⟩

end Go.Proofs.YtbhdbkffejlfmaaGreatDoor
