/- The law of AreaRead from the program's contracts. -/
import Derived.Test.YtfdgifflnmpmaaaGreatDoorXLARead
import Derived.Test.YtfdgifflnmpmaaaGreatDoorXHead
namespace Go.Proofs.YtfdgifflnmpmaaaGreatDoor
open Go.RowKit

theorem areaOut_len {xs : List ByteArray} {ps : List (Int × ByteArray)} (h : Small xs ps) : (areaOut xs ps).xs.length ≤ 1048576 ∧ (areaOut xs ps).ps.length ≤ 1048576 := by
  unfold areaOut
  split
  · exact ⟨by simp [aill], by simp [aill]⟩
  · split
    · exact ⟨by simp [aill], by simp [aill]⟩
    · split
      · exact ⟨h.1, h.2.2.1⟩
      · exact ⟨by simp [aill], by simp [aill]⟩
theorem areaReadLaw (aF aR aU : Addr) (w : World) (hS : Sents aF aR aU w) (hG : St3.Laid w) (vs vp : Value) (xs : List ByteArray) (ps : List (Int × ByteArray)) (hr : Reads w vs xs) (hp : ReadsP w vp ps) :
    Calls Tryz.prog 3 #[.agg #[vs, vp]] w fun e w' => e = .returned (.bool true) ∧ Below w.heap.size w w' :=
  lawARead w (fun vs vp xs ps w' hb h1 h2 h3 h4 => implARead_any vs vp xs ps aF aR aU w' h1 h2 h3 h4 (Stab.go hb hS)
    (fun hok vs vp w'' hb' hr hp => readArea_any vs vp xs ps w'' hr hp hok (Stab.go hb' (Stab.go hb hG)))) vs vp xs ps hr hp areaOut_len
end Go.Proofs.YtfdgifflnmpmaaaGreatDoor
