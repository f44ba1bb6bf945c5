/- The specification's l03Seen: what the head of a right disk says. -/
import Derived.Test.YtnpbmaajgiapmaaGreatDoorXGSCopy
import Derived.Test.YtnpbmaajgiapmaaGreatDoorXGSArea
import Derived.Test.YtnpbmaajgiapmaaGreatDoorXGCUnseal
import Derived.Test.YtnpbmaajgiapmaaGreatDoorXGGSpecNum
import Derived.BigQuiet
namespace Go.Proofs.YtnpbmaajgiapmaaGreatDoor
open Go.RowKit

theorem Tryz.outDisk (a b c d : Value) (w : World) : (Instr.field 101 (.agg #[a, b, c, d]) 0).run Tryz.prog w = .ok (.agg #[a, b]) w := by kernel_rfl
theorem Tryz.outData (a b c d : Value) (w : World) : (Instr.field 101 (.agg #[a, b, c, d]) 1).run Tryz.prog w = .ok c w := by kernel_rfl
theorem Tryz.outCode (a b c d : Value) (w : World) : (Instr.field 101 (.agg #[a, b, c, d]) 2).run Tryz.prog w = .ok d w := by kernel_rfl

def headText (xs : List ByteArray) (ps : List (Int × ByteArray)) : ByteArray := lastAt 0 ps (xs.getD 0 ⟨#[]⟩)

set_option maxRecDepth 100000 in
set_option maxHeartbeats 1000000 in
theorem specSeen_bad (vs vp : Value) (xs : List ByteArray) (ps : List (Int × ByteArray)) (c : Int) (w : World) (hok : right xs ps = true) (hx : 1 ≤ xs.length) (hn : xs.length ≤ 1048576) (hn2 : ps.length ≤ 1048576) (hr : Reads w vs xs) (hp : ReadsP w vp ps) (hc : c ≠ 0)
    (hU : ∀ W : World, Calls Tryz.prog 95 #[.string (headText xs ps)] W fun e w' => e = .returned (.agg #[.string ⟨#[]⟩, .int .i64 0, .int .i64 c]) ∧ Below W.heap.size W w') :
    Calls Tryz.prog 67 #[.agg #[vs, vp]] w fun e w' => e = .returned (.tuple #[.int .i64 0, .int .i64 0, .int .i64 0, .int .i64 c]) ∧ Below w.heap.size w w' := by
  have hb0 : Below w.heap.size w (w.alloc (.cells #[vs, vp] 30)) := (Below.refl _ _).alloc (Nat.le_refl _) _
  have HR := hide (hr.below hb0 (Nat.le_refl _))
  have HP := hide (hp.below hb0 (Nat.le_refl _))
  have HB0 := hide hb0
  have HU := hide hU
  have HO := hide (show readOut xs ps 0 = ⟨xs, ps, headText xs ps, 0⟩ by unfold readOut headText; rw [if_pos hok, if_pos (by omega)]; rfl)
  obtain ⟨p1, c1, rfl, hq⟩ := hr
  obtain ⟨p2, c2, rfl, hq2⟩ := hp
  clear hb0 hq hq2 hU
  have hfd := Tryz.outData
  go_enter Tryz.func67, Tryz.ntmps67
  go_wp2_with fail
  refine (specRead_any _ _ xs ps 0 _ hn hn2 HR.out HP.out).mono ?_
  rw [HO.out]
  rintro e w1 ⟨⟨us, up, rfl, o1, o2, dd⟩, hb1⟩
  have HB1 := hide (HB0.out.trans (hb1.mono HB0.out.size))
  clear o1 o2 dd hb1
  go_wp2_with fail
  refine (HU.out _).mono ?_
  rintro e w2 ⟨rfl, hb2⟩
  have HB2 := hide hb2
  clear hb2
  go_wp2
  go_region
  go_wp2
  refine bodyPost_ret (v := .tuple #[.int .i64 0, .int .i64 0, .int .i64 0, .int .i64 c]) (by simp [results, Tryz.results67, go_sem]) rfl ⟨rfl, ?_⟩
  have hB := HB1.out.trans (HB2.out.mono HB1.out.size)
  exact (hB.alloc hB.size _).drew
end Go.Proofs.YtnpbmaajgiapmaaGreatDoor
