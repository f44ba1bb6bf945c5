/- DiskNew, as the specification does it. -/
import Derived.Test.YtcnndiomljjmnaaDoorSRead
namespace Go.Proofs.YtcnndiomljjmnaaDoor
open Go.RowKit

def newDisk (n : Int) : List ByteArray := if 1 ≤ n ∧ n ≤ 64 then List.replicate n.toNat ⟨#[]⟩ else []

theorem two {w : World} {G : Nat} {T : TypeId} {a b : Value} (R : Row w G T [a, b]) (A B : Value) :
    ((w.setCell ⟨G, 0, none⟩ A).setCell ⟨G, 1, none⟩ B).cell? ⟨G, 0, none⟩ = some A ∧ ((w.setCell ⟨G, 0, none⟩ A).setCell ⟨G, 1, none⟩ B).cell? ⟨G, 1, none⟩ = some B ∧
    Kept [G] w ((w.setCell ⟨G, 0, none⟩ A).setCell ⟨G, 1, none⟩ B) := by
  have R4 := (R.set (j := 0) A).set (j := 1) B
  exact ⟨R4.cell 0, R4.cell 1, ((Kept.refl _ _).set (by simp) _).set (by simp) _⟩

end Go.Proofs.YtcnndiomljjmnaaDoor
