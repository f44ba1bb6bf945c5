/- SegmentText of the model and of the program; its law. -/
import Derived.Test.YtelhgpogfedchaaFSegU
import Derived.Test.YtelhgpogfedchaaFLSeg
namespace Go.Proofs.Ytelhgpogfedchaa
open Go.RowKit

def segTB (m n : ByteArray) (x : Flds) : ByteArray := if marksB m && segB n x then ⟨(segT m n x).toArray⟩ else ⟨#[]⟩
theorem segTB_yes {m n : ByteArray} {x : Flds} (h1 : marksB m = true) (h2 : segB n x = true) : segTB m n x = ⟨(segT m n x).toArray⟩ := by simp [segTB, h1, h2]
theorem segTB_marks {m n : ByteArray} {x : Flds} (h1 : marksB m = false) : segTB m n x = ⟨#[]⟩ := by simp [segTB, h1]
theorem segTB_seg {m n : ByteArray} {x : Flds} (h1 : segB n x = false) : segTB m n x = ⟨#[]⟩ := by simp [segTB, h1]

set_option maxHeartbeats 2000000 in
theorem implSegmentText_any (m n : ByteArray) (u : Value) (x : Flds) (w : World) (hm : m.size ≤ maxLen) (hn : wFlds x ≤ 1048576) (hr : RFlds 0 w u x) :
    Calls Try.prog 19 #[.string m, .agg #[.string n, u]] w fun e w' => e = .returned (.string (segTB m n x)) ∧ Below w.heap.size w w' := by
  have HSZ := hide (fits_of hn)
  obtain ⟨p, c, rfl⟩ := hr.isSlice
  have HB0 := hide ((Below.refl w.heap.size w).alloc (Nat.le_refl _) (.cells #[.string n, .slice p x.length c] 41))
  have HR0 := hide (hr.below HB0.out)
  have HRow0 := hide (row_new w [.string n, .slice p x.length c] 41)
  clear hr
  go_enter Try.func19, Try.ntmps19
  go_wp2_with fail
  refine (implMarksRight_any _ _ hm).mono ?_
  rintro e w1 ⟨rfl, hb1⟩
  have HB1 := hide (HB0.out.trans (hb1.mono (by simp)))
  have HR1 := hide (HR0.out.below hb1)
  have row1 := HRow0.out.below hb1 HRow0.out.lt
  have c1 : w1.cell? ⟨w.heap.size, 1, none⟩ = some (.slice p x.length c) := row1.cell 1
  have b1 : w1.cell? ⟨w.heap.size, 0, none⟩ = some (.string n) := row1.cell 0
  have HRow1 := hide row1
  clear hb1 row1
  cases hq : marksB m
  · go_wp2
    go_ret
    exact ⟨ret_str (segTB_marks hq).symm, HB1.out⟩
  go_wp2_with fail
  refine (implSegment_any n _ x _ HSZ.out HR1.out).mono ?_
  rintro e w2 ⟨rfl, hb2⟩
  have HB2 := hide (HB1.out.trans (hb2.mono HB1.out.size))
  have HR2 := hide (HR1.out.below hb2)
  have row2 := HRow1.out.below hb2 HRow1.out.lt
  have c2 : w2.cell? ⟨w.heap.size, 1, none⟩ = some (.slice p x.length c) := row2.cell 1
  have b2 : w2.cell? ⟨w.heap.size, 0, none⟩ = some (.string n) := row2.cell 0
  clear hb2 row2 c1 b1
  cases hp : segB n x
  · go_wp2
    go_ret
    exact ⟨ret_str (segTB_seg hp).symm, HB2.out⟩
  go_wp2_with fail
  refine (appSegment (.slice none 0 0) [] w2.heap.size m n _ x _ (marksB_five hq) hp (by simp) (Nat.le_refl _) (World.ownsRow_nil _ _ _ _) (flds_under HR2.out)).mono ?_
  rintro e w4 ⟨v4, rfl, hb4⟩
  have hcv := hb4.text (P := Try.prog) Try.underlying59 Try.underlying5 Try.underlying9
  have HB4 := hide hb4.below
  clear hb4
  rw [List.nil_append] at hcv
  go_wp2
  go_ret
  exact ⟨ret_str (segTB_yes hq hp).symm, HB2.out.trans (HB4.out.mono HB2.out.size)⟩

end Go.Proofs.Ytelhgpogfedchaa
