/- The program's AreaRoom: 64 times the half of a right disk's sectors, 0 of another disk. -/
import Derived.Test.YtkmehbgepkilkaaGreatDoorXGDraw
import Derived.Test.YtkmehbgepkilkaaGreatDoorXGSSeen
namespace Go.Proofs.YtkmehbgepkilkaaGreatDoor
open Go.RowKit

set_option maxHeartbeats 400000 in
theorem sideSectors_any (vs vp : Value) (xs : List ByteArray) (w : World) (hx : 1 ≤ xs.length) (hn : xs.length ≤ 1048576) (hr : Reads w vs xs) :
    Calls Tryz.prog 64 #[.agg #[vs, vp]] w fun e w' => e = .returned (.int .i64 (half xs.length)) ∧ Below w.heap.size w w' := by
  have hb0 : Below w.heap.size w (w.alloc (.cells #[vs, vp] 26)) := (Below.refl _ _).alloc (Nat.le_refl _) _
  obtain ⟨p1, c1, rfl, hq⟩ := hr
  clear hq
  have h1 : ((xs.length : Int) - 1).tdiv 2 = half xs.length := by unfold half; rw [Int.tdiv_eq_ediv_of_nonneg (by omega)]
  have h0 : IntKind.i64.wrap ((xs.length : Int) - 1) = (xs.length : Int) - 1 := by rw [IntKind.wrap_i64]; omega
  have h2 : IntKind.i64.wrap (half xs.length) = half xs.length := by unfold half; rw [IntKind.wrap_i64]; omega
  go_enter Tryz.func64, Tryz.ntmps64
  go_wp2
  go_ret
  exact ⟨by first | rfl | simp [h1, h2], hb0⟩

set_option maxHeartbeats 400000 in
theorem sideRoom_any (vs vp : Value) (xs : List ByteArray) (w : World) (hx : 1 ≤ xs.length) (hn : xs.length ≤ 1048576) (hr : Reads w vs xs) :
    Calls Tryz.prog 33 #[.agg #[vs, vp]] w fun e w' => e = .returned (.int .i64 (64 * half xs.length)) ∧ Below w.heap.size w w' := by
  have hb0 : Below w.heap.size w (w.alloc (.cells #[vs, vp] 26)) := (Below.refl _ _).alloc (Nat.le_refl _) _
  have HR := hide (hr.below hb0 (Nat.le_refl _))
  have HB0 := hide hb0
  obtain ⟨p1, c1, rfl, hq⟩ := hr
  clear hq hb0
  have hh : 0 ≤ half xs.length ∧ half xs.length ≤ 1048576 := by unfold half; omega
  have hw : IntKind.i64.wrap (half xs.length * 64) = 64 * half xs.length := by rw [IntKind.wrap_i64]; omega
  go_enter Tryz.func33, Tryz.ntmps33
  go_wp2_with fail
  refine (sideSectors_any _ _ xs _ hx hn HR.out).mono ?_
  rintro e w2 ⟨rfl, hb2⟩
  have HB2 := hide (HB0.out.trans (hb2.mono HB0.out.size))
  clear hb2
  go_wp2
  go_ret
  exact ⟨by first | rfl | simp [hw, Int.mul_comm], HB2.out⟩

set_option maxHeartbeats 1000000 in
theorem implRoom_any (vs vp : Value) (xs : List ByteArray) (ps : List (Int × ByteArray)) (tF : TypeId) (uF : Value) (tR : TypeId) (uR : Value) (w : World) (hn : xs.length ≤ 1048576) (hn2 : ps.length ≤ 1048576) (hr : Reads w vs xs) (hp : ReadsP w vp ps)
    (hF : w.cell? ⟨0, 0, none⟩ = some (.iface tF uF)) (hR : w.cell? ⟨1, 0, none⟩ = some (.iface tR uR)) :
    Calls Tryz.prog 15 #[.agg #[vs, vp]] w fun e w' => e = .returned (.int .i64 (room xs ps)) ∧ Below w.heap.size w w' := by
  have hb0 : Below w.heap.size w (w.alloc (.cells #[vs, vp] 26)) := (Below.refl _ _).alloc (Nat.le_refl _) _
  have HR := hide (hr.below hb0 (Nat.le_refl _))
  have HP := hide (hp.below hb0 (Nat.le_refl _))
  have HCF := hide (cell_old hb0 hF)
  have HCR := hide (cell_old hb0 hR)
  have HN := hide (row_new w [vs, vp] 26)
  have HB0 := hide hb0
  obtain ⟨p1, c1, rfl, hq⟩ := hr
  obtain ⟨p2, c2, rfl, hq2⟩ := hp
  clear hb0 hq hq2 hF hR
  go_enter Tryz.func15, Tryz.ntmps15
  go_wp2_with fail
  refine (implRight_any _ _ xs ps tF uF tR uR _ hn hn2 HR.out HP.out HCF.out HCR.out).mono ?_
  rintro e w1 ⟨rfl, hb1⟩
  have HB1 := hide (HB0.out.trans (hb1.mono HB0.out.size))
  have HR1 := hide (HR.out.below hb1 (Nat.le_refl _))
  have HN1 := hide (Row.after hb1 HN.out)
  have a0 : w1.cell? ⟨w.heap.size, 0, none⟩ = some (.slice p1 xs.length c1) := HN1.out.cell 0
  have a1 : w1.cell? ⟨w.heap.size, 1, none⟩ = some (.slice p2 ps.length c2) := HN1.out.cell 1
  clear hb1
  cases hok : right xs ps with
  | false =>
    go_wp2
    go_ret
    exact ⟨by unfold room; simp [hok], HB1.out⟩
  | true =>
    have hg := right_ge hok
    go_wp2_with fail
    refine (sideRoom_any _ _ xs _ hg.1 hn HR1.out).mono ?_
    rintro e w2 ⟨rfl, hb2⟩
    have HB2 := hide (HB1.out.trans (hb2.mono HB1.out.size))
    clear hb2
    go_wp2
    go_ret
    exact ⟨by unfold room; simp [hok], HB2.out⟩
end Go.Proofs.YtkmehbgepkilkaaGreatDoor
