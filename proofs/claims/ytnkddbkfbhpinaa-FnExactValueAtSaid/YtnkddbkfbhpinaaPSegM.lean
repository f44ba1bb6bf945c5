/- The place of the nth Segment of a name, and what stands at a place of a Message: lists alone. -/
import Derived.Test.YtnkddbkfbhpinaaFMsgR
import Derived.Test.YtnkddbkfbhpinaaPRight
namespace Go.Proofs.Ytnkddbkfbhpinaa
open Go.RowKit

/-- The number of the nth Segment of that name, counted from k on; -1, if there is none. -/
def segIx : List Seg → ByteArray → Int → Nat → Int
  | [], _, _, _ => -1
  | s :: r, g, n, k => if s.1 = g then (if n - 1 = 0 then (k : Int) else segIx r g (n - 1) (k + 1)) else segIx r g n (k + 1)
theorem segIx_end {x : List Seg} {k : Nat} (h : x.length ≤ k) (g : ByteArray) (n : Int) : segIx (x.drop k) g n k = -1 := by
  rw [List.drop_eq_nil_of_le h]; rfl
theorem segIx_no {x : List Seg} {k : Nat} (h : k < x.length) {g : ByteArray} (n : Int) (hne : (x[k]'h).1 ≠ g) : segIx (x.drop k) g n k = segIx (x.drop (k + 1)) g n (k + 1) := by
  rw [List.drop_eq_getElem_cons h]; simp [segIx, hne]
theorem segIx_it {x : List Seg} {k : Nat} (h : k < x.length) {g : ByteArray} (n : Int) (he : (x[k]'h).1 = g) (hn : n - 1 = 0) : segIx (x.drop k) g n k = k := by
  rw [List.drop_eq_getElem_cons h]; simp [segIx, he, hn]
theorem segIx_on {x : List Seg} {k : Nat} (h : k < x.length) {g : ByteArray} (n : Int) (he : (x[k]'h).1 = g) (hn : ¬ n - 1 = 0) : segIx (x.drop k) g n k = segIx (x.drop (k + 1)) g (n - 1) (k + 1) := by
  rw [List.drop_eq_getElem_cons h]; simp [segIx, he, hn]
/-- What is found has that name. -/
theorem segIx_name : ∀ (x : List Seg) (g : ByteArray) (n : Int) (k : Nat), segIx x g n k = -1 ∨ ∃ j, ∃ h : j < x.length, segIx x g n k = ((k + j : Nat) : Int) ∧ (x[j]'h).1 = g
  | [], _, _, _ => .inl rfl
  | s :: r, g, n, k => by
    unfold segIx
    by_cases h : s.1 = g
    · rw [if_pos h]
      by_cases hn : n - 1 = 0
      · rw [if_pos hn]; exact .inr ⟨0, by simp, rfl, h⟩
      · rw [if_neg hn]
        rcases segIx_name r g (n - 1) (k + 1) with e | ⟨j, hj, e, he⟩
        · exact .inl e
        · exact .inr ⟨j + 1, by simpa using hj, by rw [e]; congr 1; omega, by simpa using he⟩
    · rw [if_neg h]
      rcases segIx_name r g n (k + 1) with e | ⟨j, hj, e, he⟩
      · exact .inl e
      · exact .inr ⟨j + 1, by simpa using hj, by rw [e]; congr 1; omega, by simpa using he⟩

/-- The item at a number, the empty one where there is none. -/
def itemL {α : Type} (xs : List (List α)) (a : Int) : List α := if 0 ≤ a then xs.getD a.toNat [] else []
def itemS (xs : List ByteArray) (a : Int) : ByteArray := if 0 ≤ a then xs.getD a.toNat ⟨#[]⟩ else ⟨#[]⟩
theorem itemL_yes {α : Type} {xs : List (List α)} {k : Nat} (h : k < xs.length) : itemL xs (k : Int) = xs[k] := by simp [itemL, h]
theorem itemS_yes {xs : List ByteArray} {k : Nat} (h : k < xs.length) : itemS xs (k : Int) = xs[k] := by simp [itemS, h]
theorem itemL_no {α : Type} {xs : List (List α)} {a : Int} (h : ¬ (0 ≤ a ∧ a < xs.length)) : itemL xs a = [] := by
  unfold itemL
  by_cases h0 : 0 ≤ a
  · rw [if_pos h0]; simp [List.getD, List.getElem?_eq_none (show xs.length ≤ a.toNat by omega)]
  · rw [if_neg h0]
theorem itemS_no {xs : List ByteArray} {a : Int} (h : ¬ (0 ≤ a ∧ a < xs.length)) : itemS xs a = ⟨#[]⟩ := by
  unfold itemS
  by_cases h0 : 0 ≤ a
  · rw [if_pos h0]; simp [List.getD, List.getElem?_eq_none (show xs.length ≤ a.toNat by omega)]
  · rw [if_neg h0]
/-- The Fields of the Segment at a number. -/
def fldsAt (x : List Seg) (a : Int) : Flds := itemL (x.map (·.2)) a
def fldAt (x : List Seg) (p : PathM) : List (List (List ByteArray)) := itemL (fldsAt x (segIx x p.seg p.nth 0)) (p.fld - shiftB p.seg)
def valAt (f : List (List (List ByteArray))) (p : PathM) : ByteArray := itemS (itemL (itemL f (p.rep - 1)) (p.comp - 1)) (p.sub - 1)
theorem right_nums {p : PathM} (h : p.right = true) : (1 ≤ p.nth ∧ p.nth ≤ 20) ∧ (shiftB p.seg ≤ p.fld ∧ p.fld < shiftB p.seg + 30) ∧ (1 ≤ p.rep ∧ p.rep ≤ 20) ∧ (1 ≤ p.comp ∧ p.comp ≤ 20) ∧ (1 ≤ p.sub ∧ p.sub ≤ 20) := by
  simp only [PathM.right, placeB, Bool.and_eq_true, decide_eq_true_eq] at h
  obtain ⟨⟨⟨⟨⟨_, h1⟩, h2⟩, h3⟩, h4⟩, h5⟩ := h
  exact ⟨h1, h2, h3, h4, h5⟩
theorem shiftB_small (s : ByteArray) : shiftB s = 1 ∨ shiftB s = 3 := by unfold shiftB; split <;> simp
end Go.Proofs.Ytnkddbkfbhpinaa
