/- The specification's l03Seen: what the head of a right disk says. -/
import Derived.Test.YtkmehbgepkilkaaGreatDoorXGSCopy
import Derived.Test.YtkmehbgepkilkaaGreatDoorXGSArea
import Derived.Test.YtkmehbgepkilkaaGreatDoorXGCUnseal
import Derived.Test.YtkmehbgepkilkaaGreatDoorXGGSpecNum
import Derived.BigQuiet
namespace Go.Proofs.YtkmehbgepkilkaaGreatDoor
open Go.RowKit

theorem Tryz.outData (a b c d : Value) (w : World) : (Instr.field 69 (.agg #[a, b, c, d]) 1).run Tryz.prog w = .ok c w := by kernel_rfl
def headText (xs : List ByteArray) (ps : List (Int × ByteArray)) : ByteArray := lastAt 0 ps (xs.getD 0 ⟨#[]⟩)

set_option maxRecDepth 100000 in
set_option maxHeartbeats 1000000 in
theorem specSeen_bad (vs vp : Value) (xs : List ByteArray) (ps : List (Int × ByteArray)) (c : Int) (w : World) (hok : right xs ps = true) (hx : 1 ≤ xs.length) (hn : xs.length ≤ 1048576) (hn2 : ps.length ≤ 1048576) (hr : Reads w vs xs) (hp : ReadsP w vp ps) (hc : c ≠ 0)
    (hU : ∀ W : World, Calls Tryz.prog 72 #[.string (headText xs ps)] W fun e w' => e = .returned (.agg #[.string ⟨#[]⟩, .int .i64 0, .int .i64 c]) ∧ Below W.heap.size W w') :
    Calls Tryz.prog 40 #[.agg #[vs, vp]] w fun e w' => e = .returned (.tuple #[.int .i64 0, .int .i64 0, .int .i64 0, .int .i64 c]) ∧ Below w.heap.size w w' := by
  have hb0 : Below w.heap.size w (w.alloc (.cells #[vs, vp] 26)) := (Below.refl _ _).alloc (Nat.le_refl _) _
  have HR := hide (hr.below hb0 (Nat.le_refl _))
  have HP := hide (hp.below hb0 (Nat.le_refl _))
  have HB0 := hide hb0
  have HU := hide hU
  have HO := hide (show readOut xs ps 0 = ⟨xs, ps, headText xs ps, 0⟩ by unfold readOut headText; rw [if_pos hok, if_pos (by omega)]; rfl)
  obtain ⟨p1, c1, rfl, hq⟩ := hr
  obtain ⟨p2, c2, rfl, hq2⟩ := hp
  clear hb0 hq hq2 hU
  have hfd := Tryz.outData
  go_enter Tryz.func40, Tryz.ntmps40
  go_wp2_with fail
  refine (specRead_any _ _ xs ps 0 _ hn hn2 HR.out HP.out).mono ?_
  rw [HO.out]
  rintro e w1 ⟨⟨us, up, rfl, o1, o2, dd⟩, hb1⟩
  have HB1 := hide (HB0.out.trans (hb1.mono HB0.out.size))
  clear o1 o2 dd hb1
  go_wp2_with fail
  refine (HU.out _).mono ?_
  rintro e w2 ⟨rfl, hb2⟩
  have HB2 := hide hb2
  clear hb2
  go_wp2
  go_region
  go_wp2
  refine bodyPost_ret (v := .tuple #[.int .i64 0, .int .i64 0, .int .i64 0, .int .i64 c]) (by simp [results, Tryz.results40, go_sem]) rfl ⟨rfl, ?_⟩
  have hB := HB1.out.trans (HB2.out.mono HB1.out.size)
  exact (hB.alloc hB.size _).drew
end Go.Proofs.YtkmehbgepkilkaaGreatDoor

/- The specification's AreaRoom: 64 times the half of a right disk's sectors, 0 of another disk. -/
namespace Go.Proofs.YtkmehbgepkilkaaGreatDoor
open Go.RowKit

def room (xs : List ByteArray) (ps : List (Int × ByteArray)) : Int := if right xs ps = true then 64 * half xs.length else 0
theorem right_ge {xs : List ByteArray} {ps : List (Int × ByteArray)} (h : right xs ps = true) : 1 ≤ xs.length ∧ xs.length ≤ 64 := by
  unfold right at h
  simp only [Bool.and_eq_true, decide_eq_true_eq] at h
  omega

set_option maxHeartbeats 1000000 in
theorem specRoom_any (vs vp : Value) (xs : List ByteArray) (ps : List (Int × ByteArray)) (w : World) (hn : xs.length ≤ 1048576) (hn2 : ps.length ≤ 1048576) (hr : Reads w vs xs) (hp : ReadsP w vp ps) :
    Calls Tryz.prog 16 #[.agg #[vs, vp]] w fun e w' => e = .returned (.int .i64 (room xs ps)) ∧ Below w.heap.size w w' := by
  have hb0 : Below w.heap.size w (w.alloc (.cells #[vs, vp] 26)) := (Below.refl _ _).alloc (Nat.le_refl _) _
  have HR := hide (hr.below hb0 (Nat.le_refl _))
  have HP := hide (hp.below hb0 (Nat.le_refl _))
  have HN := hide (row_new w [vs, vp] 26)
  have HB0 := hide hb0
  obtain ⟨p1, c1, rfl, hq⟩ := hr
  obtain ⟨p2, c2, rfl, hq2⟩ := hp
  clear hb0 hq hq2
  go_enter Tryz.func16, Tryz.ntmps16
  go_wp2_with fail
  refine (specRight_any _ _ xs ps _ hn hn2 HR.out HP.out).mono ?_
  rintro e w1 ⟨rfl, hb1⟩
  have HB1 := hide (HB0.out.trans (hb1.mono HB0.out.size))
  have HR1 := hide (HR.out.below hb1 (Nat.le_refl _))
  have HN1 := hide (Row.after hb1 HN.out)
  have a0 : w1.cell? ⟨w.heap.size, 0, none⟩ = some (.slice p1 xs.length c1) := HN1.out.cell 0
  have a1 : w1.cell? ⟨w.heap.size, 1, none⟩ = some (.slice p2 ps.length c2) := HN1.out.cell 1
  clear hb1
  cases hok : right xs ps with
  | false =>
    go_wp2
    go_ret
    exact ⟨by unfold room; simp [hok], HB1.out⟩
  | true =>
    have hg := right_ge hok
    have hh : 0 ≤ half xs.length ∧ half xs.length ≤ 1048576 := by unfold half; omega
    have hw : IntKind.i64.wrap (64 * half xs.length) = 64 * half xs.length := by rw [IntKind.wrap_i64]; omega
    go_wp2_with fail
    refine (l03Half_any _ _ xs _ hg.1 hn HR1.out).mono ?_
    rintro e w2 ⟨rfl, hb2⟩
    have HB2 := hide (HB1.out.trans (hb2.mono HB1.out.size))
    clear hb2
    go_wp2
    go_ret
    exact ⟨by unfold room; simp [hok], HB2.out⟩
end Go.Proofs.YtkmehbgepkilkaaGreatDoor
