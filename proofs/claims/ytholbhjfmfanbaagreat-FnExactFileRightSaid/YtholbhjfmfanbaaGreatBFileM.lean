/- Files: when a Message may stand in one, when a Batch and when a File is right. -/
import Derived.Test.YtholbhjfmfanbaaGreatFMsgR
import Derived.Test.YtholbhjfmfanbaaGreatBName
import Derived.Test.YtholbhjfmfanbaaGreatFFilT
namespace Go.Proofs.YtholbhjfmfanbaaGreat
open Go.RowKit
def lineB (n : ByteArray) : Bool := (n.toList == [70, 72, 83]) || ((n.toList == [66, 72, 83]) || ((n.toList == [66, 84, 83]) || (n.toList == [70, 84, 83])))
def usualB (m : ByteArray) : Bool := m.toList == [124, 94, 126, 92, 38]
def noLines (x : List Seg) : Bool := x.all fun s => !lineB s.1
def fmB (m : Msg) : Bool := (usualB m.1 && msgB m.1 m.2) && noLines m.2
def batB (b : Bat) : Bool := (idB b.1 && decide (b.2.length ≤ 30)) && b.2.all fmB
def filB (n : ByteArray) (xs : List Bat) : Bool := (idB n && decide (xs.length ≤ 10)) && xs.all batB
def FitsB (xs : List Msg) : Prop := xs.length ≤ 1048576 ∧ ∀ i (h : i < xs.length), FitsM xs[i].2
def FitsF (xs : List Bat) : Prop := xs.length ≤ 1048576 ∧ ∀ i (h : i < xs.length), FitsB xs[i].2
theorem fitsB_of {xs : List Msg} (h : wMsgs xs ≤ 1048576) : FitsB xs := ⟨(wMsgs_mem h).1, fun i hi => fitsM_of ((wMsgs_mem h).2 i hi).1⟩
theorem fitsF_of {xs : List Bat} (h : wBats xs ≤ 1048576) : FitsF xs := ⟨(wBats_mem h).1, fun i hi => fitsB_of ((wBats_mem h).2 i hi).1⟩
theorem allF_no {α : Type} {f : α → Bool} {xs : List α} (k : Nat) (hk : k < xs.length) (h : f xs[k] = false) : xs.all f = false := List.all_eq_false.2 ⟨xs[k], List.getElem_mem hk, by simp [h]⟩
theorem allF_yes {α : Type} {f : α → Bool} {xs : List α} (h : ∀ j (hj : j < xs.length), f xs[j] = true) : xs.all f = true := List.all_eq_true.2 fun x hx => by
  obtain ⟨j, hj, rfl⟩ := List.getElem_of_mem hx
  exact h j hj
/-- What holds of the items ahead of k holds with the one at k ahead of k + 1. -/
theorem allF_succ {α : Type} {f : α → Bool} {xs : List α} (k : Nat) (h : ∀ j (hj : j < xs.length), j < k → f xs[j] = true) (hk : ∀ hk : k < xs.length, f xs[k] = true) : ∀ j (hj : j < xs.length), j < k + 1 → f xs[j] = true := by
  intro j hj hjk
  by_cases e : j = k
  · subst e; exact hk hj
  · exact h j hj (by omega)
theorem fmB_marks {m : Msg} (h : usualB m.1 = false) : fmB m = false := by simp [fmB, h]
theorem fmB_right {m : Msg} (h : msgB m.1 m.2 = false) : fmB m = false := by simp [fmB, h]
theorem fmB_line {m : Msg} (k : Nat) (hk : k < m.2.length) (h : lineB m.2[k].1 = true) : fmB m = false := by
  have : noLines m.2 = false := allF_no k hk (by simp [h])
  simp [fmB, this]
theorem fmB_yes {m : Msg} (h1 : usualB m.1 = true) (h2 : msgB m.1 m.2 = true) (h : ∀ j (hj : j < m.2.length), lineB m.2[j].1 = false) : fmB m = true := by
  have : noLines m.2 = true := allF_yes fun j hj => by simp [h j hj]
  simp [fmB, h1, h2, this]
theorem batB_id {b : Bat} (h : idB b.1 = false) : batB b = false := by simp [batB, h]
theorem batB_len {b : Bat} (h : ¬ b.2.length ≤ 30) : batB b = false := by simp only [batB, decide_eq_false h, Bool.and_false, Bool.false_and]
theorem batB_no {b : Bat} (k : Nat) (hk : k < b.2.length) (h : fmB b.2[k] = false) : batB b = false := by simp [batB, allF_no k hk h]
theorem batB_yes {b : Bat} (h1 : idB b.1 = true) (h2 : b.2.length ≤ 30) (h : ∀ j (hj : j < b.2.length), fmB b.2[j] = true) : batB b = true := by simp [batB, h1, h2, allF_yes h]
theorem filB_id {n : ByteArray} {xs : List Bat} (h : idB n = false) : filB n xs = false := by simp [filB, h]
theorem filB_len {n : ByteArray} {xs : List Bat} (h : ¬ xs.length ≤ 10) : filB n xs = false := by simp only [filB, decide_eq_false h, Bool.and_false, Bool.false_and]
theorem filB_no {n : ByteArray} {xs : List Bat} (k : Nat) (hk : k < xs.length) (h : batB xs[k] = false) : filB n xs = false := by simp [filB, allF_no k hk h]
theorem filB_yes {n : ByteArray} {xs : List Bat} (h1 : idB n = true) (h2 : xs.length ≤ 10) (h : ∀ j (hj : j < xs.length), batB xs[j] = true) : filB n xs = true := by simp [filB, h1, h2, allF_yes h]
end Go.Proofs.YtholbhjfmfanbaaGreat
