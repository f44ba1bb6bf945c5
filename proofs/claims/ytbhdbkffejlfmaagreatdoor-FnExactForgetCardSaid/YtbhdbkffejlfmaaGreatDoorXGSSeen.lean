/- The specification's l03Seen: what the head of a right disk says. -/
import Derived.Test.YtbhdbkffejlfmaaGreatDoorXGSCopy
import Derived.Test.YtbhdbkffejlfmaaGreatDoorXGSArea
import Derived.Test.YtbhdbkffejlfmaaGreatDoorXGCUnseal
import Derived.Test.YtbhdbkffejlfmaaGreatDoorXGGRead
import Derived.BigQuiet
namespace Go.Proofs.YtbhdbkffejlfmaaGreatDoor
open Go.RowKit

theorem Tryz.outData (a b c d : Value) (w : World) : (Instr.field 127 (.agg #[a, b, c, d]) 1).run Tryz.prog w = .ok c w := by kernel_rfl
def headText (xs : List ByteArray) (ps : List (Int × ByteArray)) : ByteArray := lastAt 0 ps (xs.getD 0 ⟨#[]⟩)

set_option maxRecDepth 100000 in
set_option maxHeartbeats 1000000 in
theorem specSeen_bad (vs vp : Value) (xs : List ByteArray) (ps : List (Int × ByteArray)) (c : Int) (w : World) (hok : right xs ps = true) (hx : 1 ≤ xs.length) (hn : xs.length ≤ 1048576) (hn2 : ps.length ≤ 1048576) (hr : Reads w vs xs) (hp : ReadsP w vp ps) (hc : c ≠ 0)
    (hU : ∀ W : World, Calls Tryz.prog 117 #[.string (headText xs ps)] W fun e w' => e = .returned (.agg #[.string ⟨#[]⟩, .int .i64 0, .int .i64 c]) ∧ Below W.heap.size W w') :
    Calls Tryz.prog 87 #[.agg #[vs, vp]] w fun e w' => e = .returned (.tuple #[.int .i64 0, .int .i64 0, .int .i64 0, .int .i64 c]) ∧ Below w.heap.size w w' := by
  have hb0 : Below w.heap.size w (w.alloc (.cells #[vs, vp] 29)) := (Below.refl _ _).alloc (Nat.le_refl _) _
  have HR := hide (hr.below hb0 (Nat.le_refl _))
  have HP := hide (hp.below hb0 (Nat.le_refl _))
  have HB0 := hide hb0
  have HU := hide hU
  have HO := hide (show readOut xs ps 0 = ⟨xs, ps, headText xs ps, 0⟩ by unfold readOut headText; rw [if_pos hok, if_pos (by omega)]; rfl)
  obtain ⟨p1, c1, rfl, hq⟩ := hr
  obtain ⟨p2, c2, rfl, hq2⟩ := hp
  clear hb0 hq hq2 hU
  have hfd := Tryz.outData
  go_enter Tryz.func87, Tryz.ntmps87
  go_wp2_with fail
  refine (specRead_any _ _ xs ps 0 _ hn hn2 HR.out HP.out).mono ?_
  rw [HO.out]
  rintro e w1 ⟨⟨us, up, rfl, o1, o2, dd⟩, hb1⟩
  have HB1 := hide (HB0.out.trans (hb1.mono HB0.out.size))
  clear o1 o2 dd hb1
  go_wp2_with fail
  refine (HU.out _).mono ?_
  rintro e w2 ⟨rfl, hb2⟩
  have HB2 := hide hb2
  clear hb2
  go_wp2
  go_region
  go_wp2
  refine bodyPost_ret (v := .tuple #[.int .i64 0, .int .i64 0, .int .i64 0, .int .i64 c]) (by simp [results, Tryz.results87, go_sem]) rfl ⟨rfl, ?_⟩
  have hB := HB1.out.trans (HB2.out.mono HB1.out.size)
  exact (hB.alloc hB.size _).drew
end Go.Proofs.YtbhdbkffejlfmaaGreatDoor

/- The specification's AreaRoom: 64 times the half of a right disk's sectors, 0 of another disk. -/
namespace Go.Proofs.YtbhdbkffejlfmaaGreatDoor
open Go.RowKit

theorem right_ge {xs : List ByteArray} {ps : List (Int × ByteArray)} (h : right xs ps = true) : 1 ≤ xs.length ∧ xs.length ≤ 64 := by
  unfold right at h
  simp only [Bool.and_eq_true, decide_eq_true_eq] at h
  omega

end Go.Proofs.YtbhdbkffejlfmaaGreatDoor
