/- The specification's AreaRoom: 64 times the half of a right disk's sectors, 0 of another disk. -/
import Derived.Test.YtjikecebbmepbaaDoorSCopy
import Derived.Test.YtjikecebbmepbaaDoorSArea
namespace Go.Proofs.YtjikecebbmepbaaDoor
open Go.RowKit

def room (xs : List ByteArray) (ps : List (Int × ByteArray)) : Int := if right xs ps = true then 64 * half xs.length else 0
theorem right_ge {xs : List ByteArray} {ps : List (Int × ByteArray)} (h : right xs ps = true) : 1 ≤ xs.length ∧ xs.length ≤ 64 := by
  unfold right at h
  simp only [Bool.and_eq_true, decide_eq_true_eq] at h
  omega

set_option maxHeartbeats 1000000 in
theorem specRoom_any (vs vp : Value) (xs : List ByteArray) (ps : List (Int × ByteArray)) (w : World) (hn : xs.length ≤ 1048576) (hn2 : ps.length ≤ 1048576) (hr : Reads w vs xs) (hp : ReadsP w vp ps) :
    Calls Tryd.prog 6 #[.agg #[vs, vp]] w fun e w' => e = .returned (.int .i64 (room xs ps)) ∧ Below w.heap.size w w' := by
  have hb0 : Below w.heap.size w (w.alloc (.cells #[vs, vp] 30)) := (Below.refl _ _).alloc (Nat.le_refl _) _
  have HR := hide (hr.below hb0 (Nat.le_refl _))
  have HP := hide (hp.below hb0 (Nat.le_refl _))
  have HN := hide (row_new w [vs, vp] 30)
  have HB0 := hide hb0
  obtain ⟨p1, c1, rfl, hq⟩ := hr
  obtain ⟨p2, c2, rfl, hq2⟩ := hp
  clear hb0 hq hq2
  go_enter Tryd.func6, Tryd.ntmps6
  go_wp2_with fail
  refine (specRight_any _ _ xs ps _ hn hn2 HR.out HP.out).mono ?_
  rintro e w1 ⟨rfl, hb1⟩
  have HB1 := hide (HB0.out.trans (hb1.mono HB0.out.size))
  have HR1 := hide (HR.out.below hb1 (Nat.le_refl _))
  have HN1 := hide (Row.after hb1 HN.out)
  have a0 : w1.cell? ⟨w.heap.size, 0, none⟩ = some (.slice p1 xs.length c1) := HN1.out.cell 0
  have a1 : w1.cell? ⟨w.heap.size, 1, none⟩ = some (.slice p2 ps.length c2) := HN1.out.cell 1
  clear hb1
  cases hok : right xs ps with
  | false =>
    go_wp2
    go_ret
    exact ⟨by unfold room; simp [hok], HB1.out⟩
  | true =>
    have hg := right_ge hok
    have hh : 0 ≤ half xs.length ∧ half xs.length ≤ 1048576 := by unfold half; omega
    have hw : IntKind.i64.wrap (64 * half xs.length) = 64 * half xs.length := by rw [IntKind.wrap_i64]; omega
    go_wp2_with fail
    refine (l03Half_any _ _ xs _ hg.1 hn HR1.out).mono ?_
    rintro e w2 ⟨rfl, hb2⟩
    have HB2 := hide (HB1.out.trans (hb2.mono HB1.out.size))
    clear hb2
    go_wp2
    go_ret
    exact ⟨by unfold room; simp [hok], HB2.out⟩
end Go.Proofs.YtjikecebbmepbaaDoor
