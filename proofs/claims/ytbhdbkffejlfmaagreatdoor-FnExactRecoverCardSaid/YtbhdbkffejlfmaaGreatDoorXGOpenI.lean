/- Numbers that come in, read as a list. -/
import Derived.Test.YtbhdbkffejlfmaaGreatDoorXGInts
import Derived.ProofKit
namespace Go.Proofs.YtbhdbkffejlfmaaGreatDoor
open Go.RowKit Go.ChangeShapes Go.WideShapes

theorem readsI_of_Trod {H : Type} {enc : TypeId × Value → H} {P : Program} {w : World} {base : Nat} {spare : Nat → Bool} {held : Bool} {t e : TypeId} {v : Value} {d : DataW H} {ps : List MemPlace} {r : Reach} {b0 : Nat}
    (ht : P.underlying t = some (.slice e)) (he : P.underlying e = some (.int .i64)) (hc : P.cellsOf e = 1) (hval : Value.okWide P w r b0 t v) (h : DataW.Trod enc P w base spare held t v d ps) : ∃ ks, ReadsI w v ks := by
  obtain ⟨a, len, cap, rfl⟩ := okWide_slice ht hval
  obtain ⟨fuel, hf⟩ := h
  exact readsI_of_trod (fuel := fuel) (x := (d, ps)) ht he hc (by simpa [Value.cells] using hf)
end Go.Proofs.YtbhdbkffejlfmaaGreatDoor
