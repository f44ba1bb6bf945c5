/- The marks that the laws put into memory that an answer owns: the text of a number, put into each place, and looked for again. -/
import Derived.Test.YtbmhjniigohhbaaStr
import Derived.Laws.IdiomStrings
import Derived.Deep.RegionWith
namespace Go.Proofs.Ytbmhjniigohhbaa
open Go.RowKit

def oneByte (c : Int) : ByteArray := ⟨#[UInt8.ofNat c.toNat]⟩
def markTo : Nat → Nat → ByteArray → ByteArray
  | 0, _, out => out
  | f + 1, k, out => if k = 0 then out else markTo f (k / 10) (oneByte (48 + (k : Int) % 10) ++ out)
/-- The text that marks the number k. -/
def markOf (k : Nat) : ByteArray := if k = 0 then ⟨#[109, 48]⟩ else (⟨#[109]⟩ : ByteArray) ++ markTo k k ⟨#[]⟩

def marks (k n : Nat) : List ByteArray := (List.range n).map fun i => markOf (k + i)
theorem marks_len (k n : Nat) : (marks k n).length = n := by simp [marks]
theorem marks_succ (k n : Nat) : marks k (n + 1) = marks k n ++ [markOf (k + n)] := by simp [marks, List.range_succ]
theorem marks_get (k n i : Nat) (h : i < (marks k n).length) : (marks k n)[i] = markOf (k + i) := by simp [marks]
theorem mark_next (k : Nat) (cs : List Value) (j : Nat) (h : j < cs.length) :
    (strs (marks k j) ++ cs.drop j).set j (.string (markOf (k + j))) = strs (marks k (j + 1)) ++ cs.drop (j + 1) := by
  have hl : (strs (marks k j)).length = j := by rw [strs_len, marks_len]
  rw [List.set_append_right _ _ (by omega), hl, Nat.sub_self, List.drop_eq_getElem_cons h, List.set_cons_zero, marks_succ]
  unfold strs
  rw [List.map_append, List.append_assoc]
  rfl
theorem mark_len (k : Nat) (cs : List Value) (j : Nat) (h : j ≤ cs.length) : (strs (marks k j) ++ cs.drop j).length = cs.length := by
  rw [List.length_append, strs_len, marks_len, List.length_drop]; omega

end Go.Proofs.Ytbmhjniigohhbaa
