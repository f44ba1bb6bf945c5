/- What comes in, read as lists. -/
import Derived.Test.YtkmehbgepkilkaaGreatDoorXGMem
import Derived.SliceStrings
import Derived.Deep.SlicePairs
import Derived.Lib.SmallJoins
namespace Go.Proofs.YtkmehbgepkilkaaGreatDoor
open Go.RowKit Go.ChangeShapes Go.WideShapes

theorem spot_none {w : World} {a : Addr} {v : Value} (h : w.cell? (a.add 0) = some v) : a = ⟨a.block, a.off, none⟩ := by
  obtain ⟨b, o, s⟩ := a
  cases s with
  | none => rfl
  | some x =>
    have h' : w.cell? ⟨b, o, some x⟩ = some v := h
    unfold World.cell? at h'
    split at h' <;> simp at h'
end Go.Proofs.YtkmehbgepkilkaaGreatDoor
