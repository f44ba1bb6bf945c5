/- The law of SegmentRight out of the two contracts. -/
import Derived.Test.YtckcfjibiidafaaGreatXG31FSegR
import Derived.Test.YtckcfjibiidafaaGreatXG32FSegT
namespace Go.Proofs.YtckcfjibiidafaaGreat
open Go.RowKit
end Go.Proofs.YtckcfjibiidafaaGreat
/- SegmentText of the model and of the program; its law. -/
namespace Go.Proofs.YtckcfjibiidafaaGreat
open Go.RowKit

def segTB (m n : ByteArray) (x : Flds) : ByteArray := if marksB m && segB n x then ⟨(segT m n x).toArray⟩ else ⟨#[]⟩
theorem segTB_yes {m n : ByteArray} {x : Flds} (h1 : marksB m = true) (h2 : segB n x = true) : segTB m n x = ⟨(segT m n x).toArray⟩ := by simp [segTB, h1, h2]
theorem segTB_marks {m n : ByteArray} {x : Flds} (h1 : marksB m = false) : segTB m n x = ⟨#[]⟩ := by simp [segTB, h1]
theorem segTB_seg {m n : ByteArray} {x : Flds} (h1 : segB n x = false) : segTB m n x = ⟨#[]⟩ := by simp [segTB, h1]

end Go.Proofs.YtckcfjibiidafaaGreat
