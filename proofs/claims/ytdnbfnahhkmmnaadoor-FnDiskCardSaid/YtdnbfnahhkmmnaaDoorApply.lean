/- What is written to the sectors: plain lists. -/
import Derived.Test.YtdnbfnahhkmmnaaDoorSFlush
import Derived.Test.YtdnbfnahhkmmnaaDoorDisk
namespace Go.Proofs.YtdnbfnahhkmmnaaDoor
open Go.RowKit

theorem small_of_right {xs : List ByteArray} {ps : List (Int × ByteArray)} (h : right xs ps = true) : Small xs ps := by
  obtain ⟨l1, l2, l3⟩ := right_len h
  refine ⟨by omega, fun x hx => ?_, by omega, fun x hx => ?_⟩
  · unfold right at h
    simp only [Bool.and_eq_true] at h
    have := h.1.2
    unfold okS at this
    have := (List.all_eq_true.1 this) x hx
    simp at this
    omega
  · obtain ⟨j, hj, rfl⟩ := List.getElem_of_mem hx
    have := right_at h j hj
    omega
theorem applyP_mem : ∀ (ps : List (Int × ByteArray)) (xs : List ByteArray) (n : Nat), (∀ x ∈ xs, x.size ≤ n) → (∀ x ∈ ps, x.2.size ≤ n) → ∀ x ∈ applyP ps xs, x.size ≤ n
  | [], _, _, h, _ => h
  | p :: r, xs, n, h, h2 => applyP_mem r _ n (fun x hx => by
      rcases List.mem_or_eq_of_mem_set hx with h' | rfl
      · exact h x h'
      · exact h2 p (List.mem_cons_self ..)) (fun x hx => h2 x (List.mem_cons_of_mem _ hx))
theorem applyP_at : ∀ (ps : List (Int × ByteArray)) (xs : List ByteArray) (m : Nat), m < xs.length → (∀ x ∈ ps, 0 ≤ x.1) → (applyP ps xs).getD m ⟨#[]⟩ = lastAt m ps (xs.getD m ⟨#[]⟩)
  | [], _, _, _, _ => rfl
  | p :: r, xs, m, h, h0 => by
      have e := applyP_at r (xs.set p.1.toNat p.2) m (by rw [List.length_set]; exact h) (fun x hx => h0 x (List.mem_cons_of_mem _ hx))
      rw [applyP, e, lastAt]
      congr 1
      have hp := h0 p (List.mem_cons_self ..)
      by_cases he : p.1 = (m : Int)
      · rw [if_pos he, he]
        simp [List.getD, h]
      · rw [if_neg he]
        have : p.1.toNat ≠ m := by omega
        simp [List.getD, this]
end Go.Proofs.YtdnbfnahhkmmnaaDoor
