/- A copy of a disk, as the specification makes it. -/
import Derived.Test.YtholbhjfmfanbaaGreatXG18SRight
import Derived.Deep.RegionHeld3
namespace Go.Proofs.YtholbhjfmfanbaaGreat
open Go.RowKit

theorem Kept.alloc {S : List Nat} {a b : World} (h : Kept S a b) (o : Obj) : Kept S a (b.alloc o) := h.below ((Below.refl b.heap.size b).alloc (Nat.le_refl _) o)
theorem Kept.drew {S : List Nat} {a b : World} (h : Kept S a b) : Kept S a b.drew := ⟨h.os, h.tape, h.output, h.size, h.block⟩
theorem Kept.set {S : List Nat} {a b : World} {G j : Nat} (h : Kept S a b) (hG : G ∈ S) (v : Value) : Kept S a (b.setCell ⟨G, j, none⟩ v) :=
  h.trans ((Kept.ofSet b G j v).mono (by simpa using hG))

theorem Row.after {w w' : World} {g : Nat} {T : TypeId} {cs : List Value} (hb : Below w.heap.size w w') (h : Row w g T cs) : Row w' g T cs := h.below hb h.lt
theorem Row.drew {w : World} {g : Nat} {T : TypeId} {cs : List Value} (h : Row w g T cs) : Row w.drew g T cs := h

end Go.Proofs.YtholbhjfmfanbaaGreat
/- What is held of a world stays when new memory is made: facts gone on with at one stroke. -/
namespace Go.Proofs.YtholbhjfmfanbaaGreat
open Go.RowKit

class Stab (P : World → Prop) : Prop where
  go : ∀ {w w' : World}, Below w.heap.size w w' → P w → P w'
instance stab_and (P Q : World → Prop) [Stab P] [Stab Q] : Stab (fun w => P w ∧ Q w) := ⟨fun hb h => ⟨Stab.go hb h.1, Stab.go hb h.2⟩⟩
instance stab_reads (v : Value) (xs : List ByteArray) : Stab (fun w => Reads w v xs) := ⟨fun hb h => h.below hb (Nat.le_refl _)⟩
instance stab_readsP (v : Value) (ps : List (Int × ByteArray)) : Stab (fun w => ReadsP w v ps) := ⟨fun hb h => h.below hb (Nat.le_refl _)⟩
instance stab_ownS (T : TypeId) (B : Nat) (v : Value) (xs : List ByteArray) : Stab (fun w => OwnS T B w v xs) := ⟨fun hb h => h.below hb (Nat.le_refl _)⟩
instance stab_ownP (T : TypeId) (B : Nat) (v : Value) (ps : List (Int × ByteArray)) : Stab (fun w => OwnP T B w v ps) := ⟨fun hb h => h.below hb (Nat.le_refl _)⟩
instance stab_row (g : Nat) (T : TypeId) (cs : List Value) : Stab (fun w => Row w g T cs) := ⟨fun hb h => Row.after hb h⟩
instance stab_below (w0 : World) : Stab (fun w => Below w0.heap.size w0 w) := ⟨fun hb h => h.trans (hb.mono h.size)⟩
instance stab_le (k : Nat) : Stab (fun w => k ≤ w.heap.size) := ⟨fun hb h => Nat.le_trans h hb.size⟩
theorem below_new (w : World) (o : Obj) : Below w.heap.size w (w.alloc o) := (Below.refl _ _).alloc (Nat.le_refl _) _

/-- What the slice v leads to lies from block lo on, ahead of block hi. -/
def In (v : Value) (lo hi : Nat) : Prop := ∀ x ∈ leads v, lo ≤ x ∧ x < hi
theorem OwnS.isIn {T : TypeId} {B : Nat} {w : World} {v : Value} {xs : List ByteArray} (h : OwnS T B w v xs) : In v B w.heap.size := h.leads
theorem OwnP.isIn {T : TypeId} {B : Nat} {w : World} {v : Value} {xs : List (Int × ByteArray)} (h : OwnP T B w v xs) : In v B w.heap.size := h.leads
theorem Reads.isIn {w : World} {v : Value} {xs : List ByteArray} (h : Reads w v xs) : In v 0 w.heap.size := fun x hx => ⟨Nat.zero_le _, h.leads x hx⟩
theorem ReadsP.isIn {w : World} {v : Value} {xs : List (Int × ByteArray)} (h : ReadsP w v xs) : In v 0 w.heap.size := fun x hx => ⟨Nat.zero_le _, h.leads x hx⟩
theorem In.apart {v a b : Value} {lo hi lo2 hi2 : Nat} (h1 : In v lo hi) (h2 : In a lo2 hi2) (h3 : In b lo2 hi2) (h : hi ≤ lo2 ∨ hi2 ≤ lo) : ∀ x ∈ leads v, x ∉ leads a ++ leads b := by
  intro x hx hm
  have := h1 x hx
  rcases List.mem_append.1 hm with h' | h'
  · have := h2 x h'; omega
  · have := h3 x h'; omega
theorem In.far {g : Nat} {a b : Value} {lo2 hi2 : Nat} (h2 : In a lo2 hi2) (h3 : In b lo2 hi2) (h : g < lo2 ∨ hi2 ≤ g) : g ∉ leads a ++ leads b := by
  intro hm
  rcases List.mem_append.1 hm with h' | h'
  · have := h2 g h'; omega
  · have := h3 g h'; omega
theorem In.all {a b : Value} {lo hi : Nat} (h2 : In a lo hi) (h3 : In b lo hi) : ∀ x ∈ leads a ++ leads b, lo ≤ x := by
  intro x hm
  rcases List.mem_append.1 hm with h' | h'
  · exact (h2 x h').1
  · exact (h3 x h').1
theorem Kept.onBelow {S : List Nat} {w0 w w' : World} (h : Kept S w w') (hb : Below w0.heap.size w0 w) (hS : ∀ x ∈ S, w0.heap.size ≤ x) : Below w0.heap.size w0 w' := h.toBelow hb hb.size hS
theorem OwnS.isSlice {T : TypeId} {B : Nat} {w : World} {v : Value} {xs : List ByteArray} (h : OwnS T B w v xs) : ∃ p n c, v = .slice p n c := by obtain ⟨p, c, e, _⟩ := h.reads; exact ⟨_, _, _, e⟩
theorem OwnP.isSlice {T : TypeId} {B : Nat} {w : World} {v : Value} {xs : List (Int × ByteArray)} (h : OwnP T B w v xs) : ∃ p n c, v = .slice p n c := by obtain ⟨p, c, e, _⟩ := h.reads; exact ⟨_, _, _, e⟩
end Go.Proofs.YtholbhjfmfanbaaGreat
