/- What FnDisk says of disks, as lists. -/
import Derived.Test.YtdnbfnahhkmmnaaDoorDrawNew
namespace Go.Proofs.YtdnbfnahhkmmnaaDoor
open Go.RowKit

theorem lastAt_push (i a : Int) (t : ByteArray) : ∀ (ps : List (Int × ByteArray)) (x : ByteArray), lastAt i (ps ++ [(a, t)]) x = if a = i then t else lastAt i ps x
  | [], x => by simp [lastAt]
  | p :: r, x => by rw [List.cons_append, lastAt, lastAt_push i a t r, lastAt]
theorem readOut_at {xs : List ByteArray} {ps : List (Int × ByteArray)} (h : right xs ps = true) (i : Nat) (hi : i < xs.length) : readOut xs ps (i : Int) = ⟨xs, ps, lastAt i ps (xs.getD i ⟨#[]⟩), 0⟩ := by
  unfold readOut
  rw [if_pos h, if_pos (by omega)]
  rfl
theorem flush_read {xs : List ByteArray} {ps : List (Int × ByteArray)} (h : right xs ps = true) (i : Nat) (hi : i < xs.length) : (readOut (applyP ps xs) [] (i : Int)).t = (readOut xs ps (i : Int)).t := by
  rw [readOut_at h i hi, readOut_at (rightFlush h) i (by rw [applyP_lenS]; exact hi)]
  rw [applyP_at ps xs i hi (fun x hx => by obtain ⟨j, hj, rfl⟩ := List.getElem_of_mem hx; exact (right_at h j hj).1)]
  rfl
theorem lastAt_or (i : Int) : ∀ (ps : List (Int × ByteArray)) (x : ByteArray), lastAt i ps x = x ∨ ∃ p ∈ ps, p.1 = i ∧ p.2 = lastAt i ps x
  | [], _ => .inl rfl
  | p :: r, x => by
    rw [lastAt]
    rcases lastAt_or i r (if p.1 = i then p.2 else x) with h | ⟨q, hq, h1, h2⟩
    · by_cases hp : p.1 = i
      · rw [if_pos hp] at h ⊢
        exact .inr ⟨p, List.mem_cons_self, hp, h.symm⟩
      · rw [if_neg hp] at h ⊢
        exact .inl h
    · exact .inr ⟨q, List.mem_cons_of_mem _ hq, h1, h2⟩
theorem crash_at {xs : List ByteArray} {ps : List (Int × ByteArray)} {ks : List Int} (h : right xs ps = true) (hk : ks.length ≤ 14) (i : Nat) (hi : i < xs.length) :
    (crashXs xs ps ks).getD i ⟨#[]⟩ = xs.getD i ⟨#[]⟩ ∨ ∃ j, ∃ hj : j < ps.length, (ps[j]'hj).1 = (i : Int) ∧ (ps[j]'hj).2 = (crashXs xs ps ks).getD i ⟨#[]⟩ := by
  have e : crashXs xs ps ks = applyP (keptOf ks ps) xs := by unfold crashXs; rw [if_neg (by omega), h, if_pos rfl, applyK_kept]
  rw [e, applyP_at _ xs i hi (fun x hx => by obtain ⟨j, hj, rfl⟩ := List.getElem_of_mem (keptOf_mem _ _ _ hx); exact (right_at h j hj).1)]
  rcases lastAt_or (i : Int) (keptOf ks ps) (xs.getD i ⟨#[]⟩) with h1 | ⟨q, hq, h1, h2⟩
  · exact .inl h1
  · obtain ⟨j, hj, rfl⟩ := List.getElem_of_mem (keptOf_mem _ _ _ hq)
    exact .inr ⟨j, hj, h1, h2⟩
theorem crash_len {xs : List ByteArray} {ps : List (Int × ByteArray)} {ks : List Int} (h : right xs ps = true) (hk : ks.length ≤ 14) : (crashXs xs ps ks).length = xs.length ∧ crashPs xs ps ks = [] := by
  constructor
  · unfold crashXs; rw [if_neg (by omega), h, if_pos rfl, applyK_kept, applyP_lenS]
  · unfold crashPs; rw [if_neg (by omega), h, if_pos rfl]
theorem crash_small {xs : List ByteArray} {ps : List (Int × ByteArray)} (ks : List Int) (h : Small xs ps) : (crashXs xs ps ks).length ≤ 1048576 ∧ (crashPs xs ps ks).length ≤ 1048576 := by
  unfold crashXs crashPs
  split
  · simp
  · split
    · rw [applyK_kept, applyP_lenS]; exact ⟨h.1, by simp⟩
    · exact ⟨h.1, h.2.2.1⟩
theorem crash_none {xs : List ByteArray} {ks : List Int} (h : right xs [] = true) (hk : ks.length ≤ 14) : crashXs xs [] ks = xs ∧ crashPs xs [] ks = [] := by
  constructor
  · unfold crashXs; rw [if_neg (by omega), h, if_pos rfl]; cases ks <;> rfl
  · unfold crashPs; rw [if_neg (by omega), h, if_pos rfl]
theorem newDisk_len (n : Int) : (newDisk n).length ≤ 64 := by
  unfold newDisk
  split
  · rw [List.length_replicate]; omega
  · simp
end Go.Proofs.YtdnbfnahhkmmnaaDoor
