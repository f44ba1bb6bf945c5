/- DiskCrash, as the specification does it. -/
import Derived.Test.YtcnndiomljjmnaaDoorSFlush
namespace Go.Proofs.YtcnndiomljjmnaaDoor
open Go.RowKit

/-- The slice v reads as the numbers ks. -/
def ReadsI (w : World) (v : Value) (ks : List Int) : Prop :=
  ∃ p cap, v = .slice p ks.length cap ∧ ks.length ≤ cap ∧ cap ≤ maxLen ∧
    (0 < ks.length → ∃ g off, p = some ⟨g, off, none⟩ ∧ g < w.heap.size ∧ ∀ i (h : i < ks.length), w.cell? ⟨g, off + i, none⟩ = some (.int .i64 ks[i]))
theorem Kept.readsI {S : List Nat} {w w' : World} {v : Value} {ks : List Int} (h : Kept S w w') (hr : ReadsI w v ks) (hn : ∀ x ∈ leads v, x ∉ S) : ReadsI w' v ks := by
  obtain ⟨p, cap, rfl, h1, h2, h4⟩ := hr
  refine ⟨p, cap, rfl, h1, h2, fun h0 => ?_⟩
  obtain ⟨g, off, rfl, hg, hc⟩ := h4 h0
  have hgS : g ∉ S := hn g (by obtain ⟨m, hm⟩ : ∃ m, ks.length = m + 1 := ⟨ks.length - 1, by omega⟩; rw [hm]; exact List.mem_singleton.2 rfl)
  exact ⟨g, off, rfl, Nat.lt_of_lt_of_le hg h.size, fun i hi => h.cell (hc i hi) hgS⟩
theorem ReadsI.below {w w' : World} {v : Value} {ks : List Int} {B : Nat} (h : ReadsI w v ks) (hb : Below B w w') (hB : w.heap.size ≤ B) : ReadsI w' v ks := (Kept.ofBelow (hb.mono hB)).readsI h (by simp)
theorem ReadsI.leads {w : World} {v : Value} {ks : List Int} (h : ReadsI w v ks) : ∀ x ∈ Go.Proofs.YtcnndiomljjmnaaDoor.leads v, x < w.heap.size := by
  obtain ⟨p, cap, rfl, _, _, h4⟩ := h
  intro x hx
  cases hn : ks.length with
  | zero => rw [hn] at hx; cases p <;> cases hx
  | succ m =>
    obtain ⟨g, off, rfl, hg, _⟩ := h4 (by omega)
    rw [hn] at hx
    obtain rfl := List.mem_singleton.1 hx
    exact hg

/-- The sectors with those of ps written to them that are kept. -/
def applyK : List Int → List (Int × ByteArray) → List ByteArray → List ByteArray
  | _, [], xs => xs
  | ks, x :: r, xs => applyK (ks.drop 1) r (if 0 < ks.getD 0 0 then xs.set x.1.toNat x.2 else xs)
theorem applyK_step (ks : List Int) (ps : List (Int × ByteArray)) (k : Nat) (h : k < ps.length) (xs : List ByteArray) :
    applyK (ks.drop k) (ps.drop k) xs = applyK (ks.drop (k + 1)) (ps.drop (k + 1)) (if 0 < ks.getD k 0 then xs.set (ps[k]'h).1.toNat (ps[k]'h).2 else xs) := by
  rw [List.drop_eq_getElem_cons h, applyK, List.drop_drop]
  simp

/-- What a crash leaves. -/
def crashXs (xs : List ByteArray) (ps : List (Int × ByteArray)) (ks : List Int) : List ByteArray := if 400 < ks.length then [] else if right xs ps then applyK ks ps xs else xs
def crashPs (xs : List ByteArray) (ps : List (Int × ByteArray)) (ks : List Int) : List (Int × ByteArray) := if 400 < ks.length then [] else if right xs ps then [] else ps
end Go.Proofs.YtcnndiomljjmnaaDoor
