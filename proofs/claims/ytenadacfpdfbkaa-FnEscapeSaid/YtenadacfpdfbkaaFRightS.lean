/- What a right Field is, as the model asks it. -/
import Derived.Test.YtenadacfpdfbkaaFNest
import Derived.Test.YtenadacfpdfbkaaFEsc
import Derived.Test.YtenadacfpdfbkaaFText
import Derived.Laws.Runes
namespace Go.Proofs.Ytenadacfpdfbkaa
open Go.RowKit

/-- Is the last one empty? -/
def endEmpty {α : Type} (emp : α → Bool) (xs : List α) : Bool := match xs.getLast? with | some x => emp x | none => false
/-- A list of right ones, not too many, the last one not empty. -/
def rightB {α : Type} (f : α → Bool) (emp : α → Bool) (most : Nat) (xs : List α) : Bool := xs.all f && decide (xs.length ≤ most) && !endEmpty emp xs
def subB (s : ByteArray) : Bool := plainB s && decide ((s.size : Int) ≤ 60)
def empS (s : ByteArray) : Bool := decide (s.size = 0)
def empL {α : Type} (xs : List α) : Bool := decide (xs.length = 0)
def compB : List ByteArray → Bool := rightB subB empS 5
def repB : List (List ByteArray) → Bool := rightB compB empL 10
def fldB : List (List (List ByteArray)) → Bool := rightB repB empL 5
theorem right_no {α : Type} {f emp : α → Bool} {most : Nat} {xs : List α} (k : Nat) (hk : k < xs.length) (h : f xs[k] = false) : rightB f emp most xs = false := by
  have : xs.all f = false := List.all_eq_false.2 ⟨xs[k], List.getElem_mem hk, by simp [h]⟩
  simp [rightB, this]
theorem right_all {α : Type} {f emp : α → Bool} {most : Nat} {xs : List α} (h : ∀ k (hk : k < xs.length), f xs[k] = true) : rightB f emp most xs = (decide (xs.length ≤ most) && !endEmpty emp xs) := by
  have : xs.all f = true := List.all_eq_true.2 fun x hx => by
    obtain ⟨i, hi, rfl⟩ := List.getElem_of_mem hx
    exact h i hi
  simp [rightB, this]
theorem endEmpty_nil {α : Type} {emp : α → Bool} {xs : List α} (h : xs.length = 0) : endEmpty emp xs = false := by
  obtain rfl := List.eq_nil_of_length_eq_zero h
  rfl
theorem endEmpty_last {α : Type} {emp : α → Bool} {xs : List α} (k : Nat) (hk : k < xs.length) (h : xs.length = k + 1) : endEmpty emp xs = emp (xs[k]'hk) := by
  unfold endEmpty
  have hl : 0 < xs.length := by omega
  rw [List.getLast?_eq_getElem?, show xs.length - 1 = k by omega, List.getElem?_eq_getElem (by omega)]
theorem all_succ {α : Type} {f : α → Bool} {xs : List α} {k : Nat} (h : ∀ j (hj : j < xs.length), j < k → f xs[j] = true) (hk : ∀ hk : k < xs.length, f xs[k] = true) : ∀ j (hj : j < xs.length), j < k + 1 → f xs[j] = true := by
  intro j hj h1
  by_cases e : j = k
  · subst e; exact hk hj
  · exact h j hj (by omega)

end Go.Proofs.Ytenadacfpdfbkaa
