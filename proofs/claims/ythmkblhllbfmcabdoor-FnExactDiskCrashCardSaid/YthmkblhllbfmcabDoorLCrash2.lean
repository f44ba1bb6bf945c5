/- The law of DiskCrash from the program's contract. -/
import Derived.Test.YthmkblhllbfmcabDoorLCrash
import Derived.Test.YthmkblhllbfmcabDoorICrash
namespace Go.Proofs.YthmkblhllbfmcabDoor
open Go.RowKit

theorem crash_len {xs : List ByteArray} {ps : List (Int × ByteArray)} (ks : List Int) (h : Small xs ps) : (crashXs xs ps ks).length ≤ 1048576 ∧ (crashPs xs ps ks).length ≤ 1048576 := by
  unfold crashXs crashPs
  constructor
  · split
    · simp
    · split
      · rw [applyK_kept, applyP_len]; exact h.1
      · exact h.1
  · split
    · simp
    · split
      · simp
      · exact h.2.2.1
theorem crashLaw (aF aR : Addr) (w : World) (hS : Sents2 aF aR w) (vs vp vk : Value) (xs : List ByteArray) (ps : List (Int × ByteArray)) (ks : List Int) (hr : Reads w vs xs) (hp : ReadsP w vp ps) (hk : ReadsI w vk ks) :
    Calls Tryd.prog 3 #[.agg #[vs, vp], vk] w fun e w' => e = .returned (.bool true) ∧ Below w.heap.size w w' :=
  lawCrash w ks (fun vs vp vk xs ps w' hb h1 h2 h3 h4 => implCrash_any vs vp vk xs ps ks _ _ _ _ w' h2 h3 h4 h1 (Stab.go hb hS).1 (Stab.go hb hS).2) vs vp vk xs ps hr hp hk (crash_len ks)
end Go.Proofs.YthmkblhllbfmcabDoor
