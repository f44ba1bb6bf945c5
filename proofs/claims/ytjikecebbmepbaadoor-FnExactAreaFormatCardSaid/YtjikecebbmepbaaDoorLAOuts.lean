/- The law of AreaFormat from the program's contract. -/
import Derived.Test.YtjikecebbmepbaaDoorLAFormat
import Derived.Test.YtjikecebbmepbaaDoorIFormat
namespace Go.Proofs.YtjikecebbmepbaaDoor
open Go.RowKit

theorem formatOut_len {xs : List ByteArray} {ps : List (Int × ByteArray)} (h : Small xs ps) : (formatOut xs ps).xs.length ≤ 1048576 ∧ (formatOut xs ps).ps.length ≤ 1048576 := by
  unfold formatOut
  split
  · exact ⟨by simp [aill], by simp [aill]⟩
  · split
    · exact ⟨by simp [aill], by simp [aill]⟩
    · exact ⟨by show (applyP _ xs).length ≤ _; rw [applyP_len]; exact h.1, by simp⟩
theorem formatLaw (aF aR aU : Addr) (w : World) (hS : Sents aF aR aU w) (vs vp : Value) (xs : List ByteArray) (ps : List (Int × ByteArray)) (hr : Reads w vs xs) (hp : ReadsP w vp ps) :
    Calls Tryd.prog 4 #[.agg #[vs, vp]] w fun e w' => e = .returned (.bool true) ∧ Below w.heap.size w w' :=
  lawAFormat w (fun vs vp xs ps w' hb h1 h2 h3 h4 => implFormat_any vs vp xs ps aF aR aU w' h1 h2 h3 h4 (Stab.go hb hS)) vs vp xs ps hr hp formatOut_len
end Go.Proofs.YtjikecebbmepbaaDoor
