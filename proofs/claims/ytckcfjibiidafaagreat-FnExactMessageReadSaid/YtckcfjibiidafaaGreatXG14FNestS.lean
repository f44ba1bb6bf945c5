/- The laws' own measure of a Field. -/
import Derived.Test.YtckcfjibiidafaaGreatXG0Mem
import Derived.Test.YtckcfjibiidafaaGreatXG12Str
namespace Go.Proofs.YtckcfjibiidafaaGreat
open Go.RowKit

theorem szStrs_eq (xs : List ByteArray) (left : Int) : szStrs xs left = szOf (wComp xs) left := by
  have key : ∀ (ys : List ByteArray) (L : Int), 0 ≤ L → szS ys L = szOf (ys.map ByteArray.size).sum L := by
    intro ys
    induction ys with
    | nil => intro L hL; simp [szS, szOf, hL]
    | cons y r ih =>
      intro L hL
      rw [szS]
      simp only [List.map_cons, List.sum_cons]
      by_cases hy : L - (y.size : Int) < 0
      · rw [if_pos hy, szOf_no (by omega)]
      · rw [if_neg hy, ih _ (by omega)]
        unfold szOf
        split <;> split <;> omega
  unfold szStrs wComp wL
  by_cases hx : left - (xs.length : Int) < 0
  · rw [if_pos hx, szOf_no (by omega)]
  · rw [if_neg hx, key _ _ (by omega)]
    unfold szOf
    split <;> split <;> omega

theorem below_newF (w : World) (o : Obj) : Below w.heap.size w (w.alloc o) := (Below.refl _ _).alloc (Nat.le_refl _) _
end Go.Proofs.YtckcfjibiidafaaGreat
/- The laws' own copy of a Field. -/
namespace Go.Proofs.YtckcfjibiidafaaGreat
open Go.RowKit
theorem set_snoc (vs Z : List Value) (k n : Nat) (u : Value) (h : vs.length = k) (hk : k < n) (hZ : Z.length = n) : (vs ++ Z.drop k).set k u = (vs ++ [u]) ++ Z.drop (k + 1) := by
  rw [List.set_append_right _ _ (by omega), h, Nat.sub_self, List.drop_eq_getElem_cons (by omega : k < Z.length), List.set_cons_zero, List.append_assoc]
  rfl

theorem Tryz.infoComp : (Tryz.prog.info? 71).map (fun i => (i.zero, i.size, i.bytes)) = some (some (.agg #[.slice none 0 0]), 1, 24) := by kernel_rfl
theorem Tryz.infoRep : (Tryz.prog.info? 69).map (fun i => (i.zero, i.size, i.bytes)) = some (some (.agg #[.slice none 0 0]), 1, 24) := by kernel_rfl
end Go.Proofs.YtckcfjibiidafaaGreat
