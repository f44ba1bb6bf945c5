/- The marks that the laws put into memory that an answer owns: the text of a number, put into each place, and looked for again. -/
import Derived.Test.YtfjjbofnfigehaaGreatDoorXG0Mem
import Derived.Laws.IdiomStrings
import Derived.Deep.RegionWith
namespace Go.Proofs.YtfjjbofnfigehaaGreatDoor
open Go.RowKit

def oneByte (c : Int) : ByteArray := ⟨#[UInt8.ofNat c.toNat]⟩
def markTo : Nat → Nat → ByteArray → ByteArray
  | 0, _, out => out
  | f + 1, k, out => if k = 0 then out else markTo f (k / 10) (oneByte (48 + (k : Int) % 10) ++ out)
/-- The text that marks the number k. -/
def markOf (k : Nat) : ByteArray := if k = 0 then ⟨#[109, 48]⟩ else (⟨#[109]⟩ : ByteArray) ++ markTo k k ⟨#[]⟩

theorem one_run (w : World) (c : Int) (h0 : 0 ≤ c) (h1 : c ≤ 255) :
    (convert 131 9 (.slice (some ⟨w.heap.size, 0, none⟩) 1 1)).run Tryz.prog (w.alloc (.cells #[.int .u8 c] 5)) = .ok (.string (oneByte c)) (w.alloc (.cells #[.int .u8 c] 5)) := by
  refine run_convert_bytes_back (P := Tryz.prog) _ 131 9 5 ⟨w.heap.size, 0, none⟩ 1 [UInt8.ofNat c.toNat] Tryz.underlying131 Tryz.underlying5 Tryz.underlying9 (fun j hj => ?_)
  have ea : (⟨w.heap.size, 0, none⟩ : Addr).add j = ⟨w.heap.size, j, none⟩ := by unfold Addr.add; split <;> simp_all
  rw [ea, cell_of_row _ w.heap.size j _ 5 (0, 0) (heap_alloc_new w _)]
  match j, hj with
  | 0, _ => simp; omega

def marks (k n : Nat) : List ByteArray := (List.range n).map fun i => markOf (k + i)
theorem marks_len (k n : Nat) : (marks k n).length = n := by simp [marks]
theorem marks_succ (k n : Nat) : marks k (n + 1) = marks k n ++ [markOf (k + n)] := by simp [marks, List.range_succ]
theorem marks_get (k n i : Nat) (h : i < (marks k n).length) : (marks k n)[i] = markOf (k + i) := by simp [marks]
theorem mark_next (k : Nat) (cs : List Value) (j : Nat) (h : j < cs.length) :
    (strs (marks k j) ++ cs.drop j).set j (.string (markOf (k + j))) = strs (marks k (j + 1)) ++ cs.drop (j + 1) := by
  have hl : (strs (marks k j)).length = j := by rw [strs_len, marks_len]
  rw [List.set_append_right _ _ (by omega), hl, Nat.sub_self, List.drop_eq_getElem_cons h, List.set_cons_zero, marks_succ]
  unfold strs
  rw [List.map_append, List.append_assoc]
  rfl
theorem mark_len (k : Nat) (cs : List Value) (j : Nat) (h : j ≤ cs.length) : (strs (marks k j) ++ cs.drop j).length = cs.length := by
  rw [List.length_append, strs_len, marks_len, List.length_drop]; omega

end Go.Proofs.YtfjjbofnfigehaaGreatDoor
/- Lists of Rules: six cells each; what they hold, and the marks that the law puts into them. -/
namespace Go.Proofs.YtfjjbofnfigehaaGreatDoor
open Go.RowKit
structure RuleM where
  seg : ByteArray
  fld : Int
  ty : Int
  must : Bool
  many : Bool
  since : Int
def RuleM.cells (r : RuleM) : List Value := [.string r.seg, .int .i64 r.fld, .int .i64 r.ty, .bool r.must, .bool r.many, .int .i64 r.since]
def RuleM.v (r : RuleM) : Value := .agg #[.string r.seg, .int .i64 r.fld, .int .i64 r.ty, .bool r.must, .bool r.many, .int .i64 r.since]
def rcs : List RuleM → List Value
  | [] => []
  | r :: l => .string r.seg :: .int .i64 r.fld :: .int .i64 r.ty :: .bool r.must :: .bool r.many :: .int .i64 r.since :: rcs l
theorem rcs_len (l : List RuleM) : (rcs l).length = l.length * 6 := by
  induction l with
  | nil => rfl
  | cons x r ih => simp [rcs, ih]; omega
theorem rcs_append (a b : List RuleM) : rcs (a ++ b) = rcs a ++ rcs b := by
  induction a with
  | nil => rfl
  | cons x r ih => simp [rcs, ih]
theorem rcs_get (l : List RuleM) : ∀ i (h : i < l.length), (rcs l)[i * 6]? = Option.some (.string l[i].seg) ∧ (rcs l)[i * 6 + 1]? = Option.some (.int .i64 l[i].fld) ∧ (rcs l)[i * 6 + 2]? = Option.some (.int .i64 l[i].ty) ∧ (rcs l)[i * 6 + 3]? = Option.some (.bool l[i].must) ∧ (rcs l)[i * 6 + 4]? = Option.some (.bool l[i].many) ∧ (rcs l)[i * 6 + 5]? = Option.some (.int .i64 l[i].since) := by
  induction l with
  | nil => intro i h; simp at h
  | cons x r ih =>
    intro i h
    match i, h with
    | 0, _ => exact ⟨rfl, rfl, rfl, rfl, rfl, rfl⟩
    | i + 1, h =>
      have := ih i (by simpa using h)
      simp only [rcs, List.getElem_cons_succ]
      rw [show (i + 1) * 6 = i * 6 + 1 + 1 + 1 + 1 + 1 + 1 by omega]
      refine ⟨?_, ?_, ?_, ?_, ?_, ?_⟩
      · simpa using this.1
      · rw [show i * 6 + 1 + 1 + 1 + 1 + 1 + 1 + 1 = (i * 6 + 1) + 1 + 1 + 1 + 1 + 1 + 1 by omega]; simpa using this.2.1
      · rw [show i * 6 + 1 + 1 + 1 + 1 + 1 + 1 + 2 = (i * 6 + 2) + 1 + 1 + 1 + 1 + 1 + 1 by omega]; simpa using this.2.2.1
      · rw [show i * 6 + 1 + 1 + 1 + 1 + 1 + 1 + 3 = (i * 6 + 3) + 1 + 1 + 1 + 1 + 1 + 1 by omega]; simpa using this.2.2.2.1
      · rw [show i * 6 + 1 + 1 + 1 + 1 + 1 + 1 + 4 = (i * 6 + 4) + 1 + 1 + 1 + 1 + 1 + 1 by omega]; simpa using this.2.2.2.2.1
      · rw [show i * 6 + 1 + 1 + 1 + 1 + 1 + 1 + 5 = (i * 6 + 5) + 1 + 1 + 1 + 1 + 1 + 1 by omega]; simpa using this.2.2.2.2.2
theorem drop6 (cs : List Value) (m : Nat) (h : m + 6 ≤ cs.length) : ∃ b0 b1 b2 b3 b4 b5, cs.drop m = b0 :: b1 :: b2 :: b3 :: b4 :: b5 :: cs.drop (m + 6) := by
  refine ⟨cs[m], cs[m + 1], cs[m + 2], cs[m + 3], cs[m + 4], cs[m + 5], ?_⟩
  rw [List.drop_eq_getElem_cons (by omega : m < cs.length), List.drop_eq_getElem_cons (by omega : m + 1 < cs.length), List.drop_eq_getElem_cons (by omega : m + 1 + 1 < cs.length), List.drop_eq_getElem_cons (by omega : m + 1 + 1 + 1 < cs.length), List.drop_eq_getElem_cons (by omega : m + 1 + 1 + 1 + 1 < cs.length), List.drop_eq_getElem_cons (by omega : m + 1 + 1 + 1 + 1 + 1 < cs.length)]
theorem set6 (A B : List Value) (n : Nat) (hn : A.length = n) (b0 b1 b2 b3 b4 b5 a0 a1 a2 a3 a4 a5 : Value) :
    ((((((A ++ b0 :: b1 :: b2 :: b3 :: b4 :: b5 :: B).set n a0).set (n + 1) a1).set (n + 2) a2).set (n + 3) a3).set (n + 4) a4).set (n + 5) a5 = A ++ a0 :: a1 :: a2 :: a3 :: a4 :: a5 :: B := by
  subst hn
  rw [List.set_append_right _ _ (Nat.le_refl _), List.set_append_right _ _ (by omega), List.set_append_right _ _ (by omega), List.set_append_right _ _ (by omega), List.set_append_right _ _ (by omega), List.set_append_right _ _ (by omega)]
  simp only [Nat.sub_self, Nat.add_sub_cancel_left, List.set_cons_zero, List.set_cons_succ]
/-- The marks of the ith Rule from the number k on. -/
def markRu (k : Nat) : RuleM := ⟨markOf k, (k : Int) + 1, (k : Int) + 2, ((k : Int) + 1 + 1 + 1) % 3 == 0, ((k : Int) + 1 + 1 + 1 + 1) % 3 == 0, (k : Int) + 5⟩
def marksR (k n : Nat) : List RuleM := (List.range n).map fun i : Nat => markRu (k + i * 6)
theorem marksR_len (k n : Nat) : (marksR k n).length = n := by simp [marksR]
theorem marksR_succ (k n : Nat) : marksR k (n + 1) = marksR k n ++ [markRu (k + n * 6)] := by simp [marksR, List.range_succ]
theorem marksR_get (k n i : Nat) (h : i < (marksR k n).length) : (marksR k n)[i] = markRu (k + i * 6) := by simp [marksR]
theorem markRu_next (k : Nat) (cs : List Value) (j : Nat) (h : j * 6 + 6 ≤ cs.length) (a0 a1 a2 a3 a4 a5 : Value) (ha : (markRu (k + j * 6)).cells = [a0, a1, a2, a3, a4, a5]) :
    ((((((rcs (marksR k j) ++ cs.drop (j * 6)).set (j * 6) a0).set (j * 6 + 1) a1).set (j * 6 + 2) a2).set (j * 6 + 3) a3).set (j * 6 + 4) a4).set (j * 6 + 5) a5 = rcs (marksR k (j + 1)) ++ cs.drop ((j + 1) * 6) := by
  obtain ⟨b0, b1, b2, b3, b4, b5, hd⟩ := drop6 cs (j * 6) h
  rw [hd, set6 _ _ _ (by rw [rcs_len, marksR_len]), marksR_succ, rcs_append, List.append_assoc, show (j + 1) * 6 = j * 6 + 6 by omega]
  simp only [RuleM.cells, List.cons.injEq, and_true] at ha
  obtain ⟨rfl, rfl, rfl, rfl, rfl, rfl⟩ := ha
  rfl
theorem markRu_len (k : Nat) (cs : List Value) (j : Nat) (h : j * 6 ≤ cs.length) : (rcs (marksR k j) ++ cs.drop (j * 6)).length = cs.length := by
  rw [List.length_append, rcs_len, marksR_len, List.length_drop]; omega
end Go.Proofs.YtfjjbofnfigehaaGreatDoor
