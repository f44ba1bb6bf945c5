/- The laws' own helpers over lists of a number and a text each (what is pending): how much they take, a copy, are two alike. -/
import Derived.Test.YtcnndiomljjmnaaDoorMark
namespace Go.Proofs.YtcnndiomljjmnaaDoor
open Go.RowKit

def szP : List (Int × ByteArray) → Int → Int
  | [], left => left
  | x :: r, left => if left - x.2.size < 0 then -1 else szP r (left - x.2.size)
def szPends (ps : List (Int × ByteArray)) (left : Int) : Int := if left - ps.length < 0 then -1 else szP ps (left - ps.length)
theorem szP_step (ps : List (Int × ByteArray)) (k : Nat) (h : k < ps.length) (L : Int) : szP (ps.drop k) L = if L - (ps[k]'h).2.size < 0 then -1 else szP (ps.drop (k + 1)) (L - (ps[k]'h).2.size) := by
  rw [List.drop_eq_getElem_cons h, szP]
theorem szP_le (ps : List (Int × ByteArray)) : ∀ left : Int, 0 ≤ szP ps left → szP ps left ≤ left ∧ ∀ x ∈ ps, (x.2.size : Int) ≤ left := by
  induction ps with
  | nil => intro left _; exact ⟨Int.le_refl _, by simp⟩
  | cons x r ih =>
    intro left h
    rw [szP] at h ⊢
    split at h
    · omega
    · rename_i hx
      rw [if_neg hx]
      obtain ⟨h1, h2⟩ := ih _ h
      refine ⟨by omega, ?_⟩
      intro y hy
      simp at hy
      rcases hy with rfl | hy
      · omega
      · have := h2 y hy; omega
theorem szPends_le (ps : List (Int × ByteArray)) (left : Int) (h : 0 ≤ szPends ps left) : szPends ps left ≤ left ∧ (ps.length : Int) ≤ left ∧ ∀ x ∈ ps, (x.2.size : Int) ≤ left := by
  unfold szPends at h ⊢
  split at h
  · omega
  · rename_i hx
    rw [if_neg hx]
    obtain ⟨h1, h2⟩ := szP_le ps _ h
    exact ⟨by omega, by omega, fun x hx => by have := h2 x hx; omega⟩

def marksP (k n : Nat) : List (Int × ByteArray) := (List.range n).map fun i : Nat => ((k : Int) + (i : Int) * 2, markOf (k + i * 2 + 1))
theorem marksP_len (k n : Nat) : (marksP k n).length = n := by simp [marksP]
theorem marksP_succ (k n : Nat) : marksP k (n + 1) = marksP k n ++ [((k : Int) + (n : Int) * 2, markOf (k + n * 2 + 1))] := by simp [marksP, List.range_succ]
theorem marksP_get (k n i : Nat) (h : i < (marksP k n).length) : (marksP k n)[i] = ((k : Int) + (i : Int) * 2, markOf (k + i * 2 + 1)) := by simp [marksP]
theorem markP_next (k : Nat) (cs : List Value) (j : Nat) (h : j * 2 + 1 < cs.length) :
    ((pcs (marksP k j) ++ cs.drop (j * 2)).set (j * 2) (.int .i64 ((k : Int) + (j : Int) * 2))).set (j * 2 + 1) (.string (markOf (k + j * 2 + 1))) = pcs (marksP k (j + 1)) ++ cs.drop ((j + 1) * 2) := by
  have hl : (pcs (marksP k j)).length = j * 2 := by rw [pcs_len, marksP_len]
  rw [List.set_append_right _ _ (by omega), hl, Nat.sub_self, List.drop_eq_getElem_cons (by omega : j * 2 < cs.length), List.set_cons_zero,
    List.set_append_right _ _ (by omega), hl, show j * 2 + 1 - j * 2 = 1 by omega, List.drop_eq_getElem_cons h, List.set_cons_succ, List.set_cons_zero,
    marksP_succ, pcs_append, List.append_assoc, show (j + 1) * 2 = j * 2 + 1 + 1 by omega]
  rfl
theorem markP_len (k : Nat) (cs : List Value) (j : Nat) (h : j * 2 ≤ cs.length) : (pcs (marksP k j) ++ cs.drop (j * 2)).length = cs.length := by
  rw [List.length_append, pcs_len, marksP_len, List.length_drop]; omega

end Go.Proofs.YtcnndiomljjmnaaDoor
