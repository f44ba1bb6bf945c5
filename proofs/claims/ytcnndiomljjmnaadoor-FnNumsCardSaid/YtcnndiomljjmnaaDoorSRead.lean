/- DiskRead, as the specification does it. -/
import Derived.Test.YtcnndiomljjmnaaDoorSCopy
namespace Go.Proofs.YtcnndiomljjmnaaDoor
open Go.RowKit

/-- What a function of the disk hands back. -/
structure Out where
  xs : List ByteArray
  ps : List (Int × ByteArray)
  t : ByteArray
  c : Int
def illOut (c : Int) : Out := ⟨[], [], ⟨#[]⟩, c⟩
theorem OwnS.none (T : TypeId) (B : Nat) (w : World) : OwnS T B w (.slice none 0 0) [] := ⟨by simp, .inl ⟨_, _, rfl, by unfold maxLen; omega, rfl⟩⟩
theorem OwnP.none (T : TypeId) (B : Nat) (w : World) : OwnP T B w (.slice none 0 0) [] := ⟨by simp, .inl ⟨_, _, rfl, by unfold maxLen; omega, rfl⟩⟩

def lastAt (at' : Int) : List (Int × ByteArray) → ByteArray → ByteArray
  | [], t => t
  | x :: r, t => lastAt at' r (if x.1 = at' then x.2 else t)
def readOut (xs : List ByteArray) (ps : List (Int × ByteArray)) (a : Int) : Out :=
  if right xs ps then (if 0 ≤ a ∧ a ≤ (xs.length : Int) - 1 then ⟨xs, ps, lastAt a ps (xs.getD a.toNat ⟨#[]⟩), 0⟩ else illOut 8) else illOut 1

theorem four {w : World} {G : Nat} {T : TypeId} {a b c d : Value} (R : Row w G T [a, b, c, d]) (A B C D : Value) :
    ((((w.setCell ⟨G, 0, none⟩ A).setCell ⟨G, 1, none⟩ B).setCell ⟨G, 2, none⟩ C).setCell ⟨G, 3, none⟩ D).cell? ⟨G, 0, none⟩ = some A ∧
    ((((w.setCell ⟨G, 0, none⟩ A).setCell ⟨G, 1, none⟩ B).setCell ⟨G, 2, none⟩ C).setCell ⟨G, 3, none⟩ D).cell? ⟨G, 1, none⟩ = some B ∧
    ((((w.setCell ⟨G, 0, none⟩ A).setCell ⟨G, 1, none⟩ B).setCell ⟨G, 2, none⟩ C).setCell ⟨G, 3, none⟩ D).cell? ⟨G, 2, none⟩ = some C ∧
    ((((w.setCell ⟨G, 0, none⟩ A).setCell ⟨G, 1, none⟩ B).setCell ⟨G, 2, none⟩ C).setCell ⟨G, 3, none⟩ D).cell? ⟨G, 3, none⟩ = some D ∧
    Kept [G] w ((((w.setCell ⟨G, 0, none⟩ A).setCell ⟨G, 1, none⟩ B).setCell ⟨G, 2, none⟩ C).setCell ⟨G, 3, none⟩ D) := by
  have R4 := (((R.set (j := 0) A).set (j := 1) B).set (j := 2) C).set (j := 3) D
  exact ⟨R4.cell 0, R4.cell 1, R4.cell 2, R4.cell 3, ((((Kept.refl _ _).set (by simp) _).set (by simp) _).set (by simp) _).set (by simp) _⟩

theorem lastAt_step (a : Int) (ps : List (Int × ByteArray)) (k : Nat) (h : k < ps.length) (t : ByteArray) : lastAt a (ps.drop k) t = lastAt a (ps.drop (k + 1)) (if (ps[k]'h).1 = a then (ps[k]'h).2 else t) := by
  rw [List.drop_eq_getElem_cons h]; rfl

end Go.Proofs.YtcnndiomljjmnaaDoor
