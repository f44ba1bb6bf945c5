/- The laws' own helpers over lists of texts: how much they take together, a copy, are two alike. -/
import Derived.Test.YtbmhjniigohhbaaRows
import Derived.Test.YtbmhjniigohhbaaMem
import Derived.RegionTactic
namespace Go.Proofs.Ytbmhjniigohhbaa
open Go.RowKit

/-- What is left of 'left' behind the lengths of the texts; -1, if there is not enough. -/
def szS : List ByteArray → Int → Int
  | [], left => left
  | x :: r, left => if left - x.size < 0 then -1 else szS r (left - x.size)
def szStrs (xs : List ByteArray) (left : Int) : Int := if left - xs.length < 0 then -1 else szS xs (left - xs.length)

theorem szS_step (xs : List ByteArray) (k : Nat) (h : k < xs.length) (L : Int) : szS (xs.drop k) L = if L - (xs[k]'h).size < 0 then -1 else szS (xs.drop (k + 1)) (L - (xs[k]'h).size) := by
  rw [List.drop_eq_getElem_cons h, szS]
theorem szS_le (xs : List ByteArray) : ∀ left : Int, 0 ≤ szS xs left → szS xs left ≤ left ∧ ∀ x ∈ xs, (x.size : Int) ≤ left := by
  induction xs with
  | nil => intro left _; exact ⟨Int.le_refl _, by simp⟩
  | cons x r ih =>
    intro left h
    rw [szS] at h ⊢
    split at h
    · omega
    · rename_i hx
      rw [if_neg hx]
      obtain ⟨h1, h2⟩ := ih _ h
      refine ⟨by omega, ?_⟩
      intro y hy
      simp at hy
      rcases hy with rfl | hy
      · omega
      · have := h2 y hy; omega
theorem szStrs_le (xs : List ByteArray) (left : Int) (h : 0 ≤ szStrs xs left) : szStrs xs left ≤ left ∧ (xs.length : Int) ≤ left ∧ ∀ x ∈ xs, (x.size : Int) ≤ left := by
  unfold szStrs at h ⊢
  split at h
  · omega
  · rename_i hx
    rw [if_neg hx]
    obtain ⟨h1, h2⟩ := szS_le xs _ h
    exact ⟨by omega, by omega, fun x hx => by have := h2 x hx; omega⟩

theorem Try.infoStr : (Try.prog.info? 9).map (fun i => (i.zero, i.size, i.bytes)) = some (some (.string ⟨#[]⟩), 1, 16) := by kernel_rfl

end Go.Proofs.Ytbmhjniigohhbaa
