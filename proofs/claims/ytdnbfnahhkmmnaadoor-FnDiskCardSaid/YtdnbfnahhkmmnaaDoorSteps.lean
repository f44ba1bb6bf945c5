/- Steps of an area, one behind the other: plain mathematics. -/
import Derived.Test.YtdnbfnahhkmmnaaDoorSWrite
import Derived.Test.YtdnbfnahhkmmnaaDoorSFlush
import Derived.Test.YtdnbfnahhkmmnaaDoorApply
namespace Go.Proofs.YtdnbfnahhkmmnaaDoor
open Go.RowKit

theorem rightPush {xs : List ByteArray} {ps : List (Int × ByteArray)} {a : Int} {d : ByteArray} (h : right xs ps = true) (hl : ps.length < 200) (h0 : 0 ≤ a) (h1 : a ≤ (xs.length : Int) - 1) (hd : d.size ≤ 64) : right xs (ps ++ [(a, d)]) = true := by
  unfold right okP at h ⊢
  simp only [Bool.and_eq_true, decide_eq_true_eq] at h ⊢
  refine ⟨⟨⟨⟨h.1.1.1.1, h.1.1.1.2⟩, by simp; omega⟩, h.1.2⟩, ?_⟩
  rw [List.all_append, h.2]
  simp
  omega
/-- A step: is it a flush, the place, the text. -/
def stepOut (s : Bool × Int × ByteArray) (xs : List ByteArray) (ps : List (Int × ByteArray)) : Out := if s.1 = true then flushOut xs ps else writeOut xs ps s.2.1 s.2.2
theorem applyP_lenS : ∀ (ps : List (Int × ByteArray)) (xs : List ByteArray), (applyP ps xs).length = xs.length
  | [], _ => rfl
  | x :: r, xs => by rw [applyP, applyP_lenS r, List.length_set]
theorem rightFlush {xs : List ByteArray} {ps : List (Int × ByteArray)} (h : right xs ps = true) : right (applyP ps xs) [] = true := by
  have hs : ∀ x ∈ xs, x.size ≤ 64 := by
    intro x hx
    unfold right at h
    simp only [Bool.and_eq_true] at h
    have := h.1.2
    unfold okS at this
    simpa using (List.all_eq_true.1 this) x hx
  have hq : ∀ x ∈ ps, x.2.size ≤ 64 := by
    intro x hx
    obtain ⟨j, hj, e⟩ := List.mem_iff_getElem.1 hx
    have := right_at h j hj
    rw [e] at this; exact this.2.2
  have hl := right_len h
  have hm := applyP_mem ps xs 64 hs hq
  unfold right okS okP
  simp only [Bool.and_eq_true, decide_eq_true_eq, applyP_lenS, List.all_eq_true, List.all_nil, List.length_nil]
  exact ⟨⟨⟨⟨by omega, by omega⟩, by omega⟩, fun x hx => by simpa using hm x hx⟩, trivial⟩
theorem stepOut_right {s : Bool × Int × ByteArray} {xs : List ByteArray} {ps : List (Int × ByteArray)} (h : right xs ps = true) (hc : (stepOut s xs ps).c = 0) : right (stepOut s xs ps).xs (stepOut s xs ps).ps = true := by
  unfold stepOut at hc ⊢
  by_cases hf : s.1 = true
  · simp only [if_pos hf, flushOut, h] at hc ⊢
    exact rightFlush h
  · simp only [if_neg hf, writeOut] at hc ⊢
    split at hc
    · simp [illOut] at hc
    · split at hc
      · simp [illOut] at hc
      · split at hc
        · split at hc
          · simp [illOut] at hc
          · rename_i h1 h2 h3 h4
            rw [if_neg h1, if_neg h2, if_pos h3, if_neg h4]
            exact rightPush h (by omega) h3.1 h3.2 (by omega)
        · simp [illOut] at hc
theorem stepOut_len {s : Bool × Int × ByteArray} {xs : List ByteArray} {ps : List (Int × ByteArray)} (hc : (stepOut s xs ps).c = 0) : (stepOut s xs ps).xs.length = xs.length := by
  unfold stepOut at hc ⊢
  by_cases hf : s.1 = true
  · simp only [if_pos hf, flushOut] at hc ⊢
    split at hc
    · rename_i h; rw [if_pos h]; exact applyP_lenS ps xs
    · simp [illOut] at hc
  · simp only [if_neg hf, writeOut] at hc ⊢
    split at hc
    · simp [illOut] at hc
    · split at hc
      · simp [illOut] at hc
      · split at hc
        · split at hc
          · simp [illOut] at hc
          · rename_i h1 h2 h3 h4
            rw [if_neg h1, if_neg h2, if_pos h3, if_neg h4]
        · simp [illOut] at hc
/-- All steps, up to the first that tells a code. -/
def runOut : List (Bool × Int × ByteArray) → List ByteArray → List (Int × ByteArray) → Out
  | [], xs, ps => ⟨xs, ps, ⟨#[]⟩, 0⟩
  | s :: r, xs, ps => if (stepOut s xs ps).c = 0 then runOut r (stepOut s xs ps).xs (stepOut s xs ps).ps else illOut (stepOut s xs ps).c
theorem runOut_step (ss : List (Bool × Int × ByteArray)) (k : Nat) (h : k < ss.length) (xs : List ByteArray) (ps : List (Int × ByteArray)) :
    runOut (ss.drop k) xs ps = if (stepOut ss[k] xs ps).c = 0 then runOut (ss.drop (k + 1)) (stepOut ss[k] xs ps).xs (stepOut ss[k] xs ps).ps else illOut (stepOut ss[k] xs ps).c := by
  rw [List.drop_eq_getElem_cons h]; rfl

end Go.Proofs.YtdnbfnahhkmmnaaDoor
