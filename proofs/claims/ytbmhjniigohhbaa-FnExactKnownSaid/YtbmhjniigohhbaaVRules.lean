/- The Rules of the program and of the model; how the law compares them, and marks them. -/
import Derived.Test.YtbmhjniigohhbaaVRuleM
import Derived.BigQuiet
namespace Go.Proofs.Ytbmhjniigohhbaa
open Go.RowKit
theorem wpList_bs {P : Program} {ops : Array Oper} {rest : List Oper} {o : Oper} {a : Act} {w : World} {Q : Exit → Act → World → Prop} (hg : o.guard = none) (t n : Nat) (parts : Array (Nat × Operand)) (_ho : o.op = .buildSlice t n parts) (v : Value) (w' : World)
    (hrun : (execOp a.eval o).run P w = .ok (.value v) w') (h : wpList P ops Q rest (a.put o.dst v) w') : wpList P ops Q (o :: rest) a w := by
  refine wpList_plain hg fun K hK => ?_
  unfold Oper.wp
  rw [hrun, Oper.upon_value]
  exact hK _ _ h
def rulesL : List RuleM := [⟨⟨#[77, 83, 72]⟩, 3, 1, true, false, 1⟩, ⟨⟨#[77, 83, 72]⟩, 4, 1, false, false, 1⟩, ⟨⟨#[77, 83, 72]⟩, 5, 1, false, false, 1⟩, ⟨⟨#[77, 83, 72]⟩, 6, 1, false, false, 1⟩, ⟨⟨#[77, 83, 72]⟩, 7, 4, true, false, 1⟩, ⟨⟨#[77, 83, 72]⟩, 9, 8, true, false, 1⟩, ⟨⟨#[77, 83, 72]⟩, 10, 1, true, false, 1⟩, ⟨⟨#[77, 83, 72]⟩, 12, 1, true, false, 1⟩, ⟨⟨#[77, 83, 72]⟩, 18, 5, false, true, 2⟩, ⟨⟨#[78, 84, 69]⟩, 1, 2, false, false, 1⟩, ⟨⟨#[78, 84, 69]⟩, 3, 1, false, true, 1⟩, ⟨⟨#[79, 66, 88]⟩, 1, 2, false, false, 1⟩, ⟨⟨#[79, 66, 88]⟩, 3, 9, true, false, 1⟩, ⟨⟨#[79, 66, 88]⟩, 5, 1, false, true, 1⟩, ⟨⟨#[79, 66, 88]⟩, 14, 4, false, false, 1⟩, ⟨⟨#[79, 66, 88]⟩, 18, 1, false, false, 2⟩, ⟨⟨#[80, 73, 68]⟩, 1, 2, false, false, 1⟩, ⟨⟨#[80, 73, 68]⟩, 3, 1, true, true, 1⟩, ⟨⟨#[80, 73, 68]⟩, 5, 6, true, true, 1⟩, ⟨⟨#[80, 73, 68]⟩, 7, 3, false, false, 1⟩, ⟨⟨#[80, 73, 68]⟩, 8, 5, false, false, 1⟩, ⟨⟨#[80, 73, 68]⟩, 10, 9, false, false, 2⟩, ⟨⟨#[80, 82, 84]⟩, 2, 5, true, false, 3⟩, ⟨⟨#[80, 82, 84]⟩, 5, 7, false, true, 3⟩, ⟨⟨#[80, 86, 49]⟩, 2, 5, true, false, 1⟩, ⟨⟨#[80, 86, 49]⟩, 7, 7, false, true, 1⟩, ⟨⟨#[83, 70, 84]⟩, 1, 1, true, false, 2⟩, ⟨⟨#[83, 70, 84]⟩, 2, 1, true, false, 2⟩]
theorem rulesL_len : rulesL.length = 28 := rfl
set_option maxHeartbeats 4000000 in
set_option maxRecDepth 100000 in
theorem implRules_any (w : World) : Calls Try.prog 12 #[] w fun e w' => e = .returned (.slice (some ⟨w.heap.size, 0, none⟩) 28 28) ∧ Row w' w.heap.size 27 (rcs rulesL) ∧ Below w.heap.size w w' := by
  have HR := hide (row_new w (rcs rulesL) 27)
  have HB := hide ((Below.refl w.heap.size w).alloc (Nat.le_refl _) (.cells (rcs rulesL).toArray 27))
  go_enter Try.func12, Try.ntmps12
  go_wp2_with (refine wpList_bs rfl _ _ _ rfl (.slice (some ⟨w.heap.size, 0, none⟩) 28 28) (w.alloc (.cells (rcs rulesL).toArray 27)) (by kernel_rfl) ?_)
  go_ret
  exact ⟨rfl, HR.out, HB.out⟩
set_option maxHeartbeats 4000000 in
set_option maxRecDepth 100000 in
theorem specRules_any (w : World) : Calls Try.prog 6 #[] w fun e w' => e = .returned (.slice (some ⟨w.heap.size, 0, none⟩) 28 28) ∧ Row w' w.heap.size 27 (rcs rulesL) ∧ Below w.heap.size w w' := by
  have HR := hide (row_new w (rcs rulesL) 27)
  have HB := hide ((Below.refl w.heap.size w).alloc (Nat.le_refl _) (.cells (rcs rulesL).toArray 27))
  go_enter Try.func6, Try.ntmps6
  go_wp2_with (refine wpList_bs rfl _ _ _ rfl (.slice (some ⟨w.heap.size, 0, none⟩) 28 28) (w.alloc (.cells (rcs rulesL).toArray 27)) (by kernel_rfl) ?_)
  go_ret
  exact ⟨rfl, HR.out, HB.out⟩
end Go.Proofs.Ytbmhjniigohhbaa
