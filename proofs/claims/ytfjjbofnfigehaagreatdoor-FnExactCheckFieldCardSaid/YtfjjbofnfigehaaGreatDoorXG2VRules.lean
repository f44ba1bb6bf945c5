/- The Rules of the program and of the model; how the law compares them, and marks them. -/
import Derived.Test.YtfjjbofnfigehaaGreatDoorXG1Mark
import Derived.BigQuiet
import Derived.Test.YtfjjbofnfigehaaGreatDoorRows
import Derived.WalkKit
import Derived.WalkSpells
import Derived.OpenShut
import Derived.Below
namespace Go.Proofs.YtfjjbofnfigehaaGreatDoor
open Go.RowKit
theorem wpList_bs {P : Program} {ops : Array Oper} {rest : List Oper} {o : Oper} {a : Act} {w : World} {Q : Exit → Act → World → Prop} (hg : o.guard = none) (t n : Nat) (parts : Array (Nat × Operand)) (_ho : o.op = .buildSlice t n parts) (v : Value) (w' : World)
    (hrun : (execOp a.eval o).run P w = .ok (.value v) w') (h : wpList P ops Q rest (a.put o.dst v) w') : wpList P ops Q (o :: rest) a w := by
  refine wpList_plain hg fun K hK => ?_
  unfold Oper.wp
  rw [hrun, Oper.upon_value]
  exact hK _ _ h
def rulesL : List RuleM := [⟨⟨#[77, 83, 72]⟩, 3, 1, true, false, 1⟩, ⟨⟨#[77, 83, 72]⟩, 4, 1, false, false, 1⟩, ⟨⟨#[77, 83, 72]⟩, 5, 1, false, false, 1⟩, ⟨⟨#[77, 83, 72]⟩, 6, 1, false, false, 1⟩, ⟨⟨#[77, 83, 72]⟩, 7, 4, true, false, 1⟩, ⟨⟨#[77, 83, 72]⟩, 9, 8, true, false, 1⟩, ⟨⟨#[77, 83, 72]⟩, 10, 1, true, false, 1⟩, ⟨⟨#[77, 83, 72]⟩, 12, 1, true, false, 1⟩, ⟨⟨#[77, 83, 72]⟩, 18, 5, false, true, 2⟩, ⟨⟨#[78, 84, 69]⟩, 1, 2, false, false, 1⟩, ⟨⟨#[78, 84, 69]⟩, 3, 1, false, true, 1⟩, ⟨⟨#[79, 66, 88]⟩, 1, 2, false, false, 1⟩, ⟨⟨#[79, 66, 88]⟩, 3, 9, true, false, 1⟩, ⟨⟨#[79, 66, 88]⟩, 5, 1, false, true, 1⟩, ⟨⟨#[79, 66, 88]⟩, 14, 4, false, false, 1⟩, ⟨⟨#[79, 66, 88]⟩, 18, 1, false, false, 2⟩, ⟨⟨#[80, 73, 68]⟩, 1, 2, false, false, 1⟩, ⟨⟨#[80, 73, 68]⟩, 3, 1, true, true, 1⟩, ⟨⟨#[80, 73, 68]⟩, 5, 6, true, true, 1⟩, ⟨⟨#[80, 73, 68]⟩, 7, 3, false, false, 1⟩, ⟨⟨#[80, 73, 68]⟩, 8, 5, false, false, 1⟩, ⟨⟨#[80, 73, 68]⟩, 10, 9, false, false, 2⟩, ⟨⟨#[80, 82, 84]⟩, 2, 5, true, false, 3⟩, ⟨⟨#[80, 82, 84]⟩, 5, 7, false, true, 3⟩, ⟨⟨#[80, 86, 49]⟩, 2, 5, true, false, 1⟩, ⟨⟨#[80, 86, 49]⟩, 7, 7, false, true, 1⟩, ⟨⟨#[83, 70, 84]⟩, 1, 1, true, false, 2⟩, ⟨⟨#[83, 70, 84]⟩, 2, 1, true, false, 2⟩]
theorem rulesL_len : rulesL.length = 28 := rfl
set_option maxHeartbeats 4000000 in
set_option maxRecDepth 100000 in
theorem implRules_any (w : World) : Calls Tryz.prog 60 #[] w fun e w' => e = .returned (.slice (some ⟨w.heap.size, 0, none⟩) 28 28) ∧ Row w' w.heap.size 88 (rcs rulesL) ∧ Below w.heap.size w w' := by
  have HR := hide (row_new w (rcs rulesL) 88)
  have HB := hide ((Below.refl w.heap.size w).alloc (Nat.le_refl _) (.cells (rcs rulesL).toArray 88))
  go_enter Tryz.func60, Tryz.ntmps60
  go_wp2_with (refine wpList_bs rfl _ _ _ rfl (.slice (some ⟨w.heap.size, 0, none⟩) 28 28) (w.alloc (.cells (rcs rulesL).toArray 88)) (by kernel_rfl) ?_)
  go_ret
  exact ⟨rfl, HR.out, HB.out⟩
set_option maxHeartbeats 4000000 in
set_option maxRecDepth 100000 in
theorem specRules_any (w : World) : Calls Tryz.prog 81 #[] w fun e w' => e = .returned (.slice (some ⟨w.heap.size, 0, none⟩) 28 28) ∧ Row w' w.heap.size 88 (rcs rulesL) ∧ Below w.heap.size w w' := by
  have HR := hide (row_new w (rcs rulesL) 88)
  have HB := hide ((Below.refl w.heap.size w).alloc (Nat.le_refl _) (.cells (rcs rulesL).toArray 88))
  go_enter Tryz.func81, Tryz.ntmps81
  go_wp2_with (refine wpList_bs rfl _ _ _ rfl (.slice (some ⟨w.heap.size, 0, none⟩) 28 28) (w.alloc (.cells (rcs rulesL).toArray 88)) (by kernel_rfl) ?_)
  go_ret
  exact ⟨rfl, HR.out, HB.out⟩
end Go.Proofs.YtfjjbofnfigehaaGreatDoor
/- The versions and their texts, of the model and of the program. -/
namespace Go.Proofs.YtfjjbofnfigehaaGreatDoor
open Go.RowKit
theorem hideV {p : Prop} (h : p) : Hid p := h
theorem ret_boolV {a b : Bool} (h : a = b) : Ending.returned (.bool a) = .returned (.bool b) := by rw [h]
theorem ret_strV {a b : ByteArray} (h : a = b) : Ending.returned (.string a) = .returned (.string b) := by rw [h]
theorem ret_intV {k : IntKind} {a b : Int} (h : a = b) : Ending.returned (.int k a) = .returned (.int k b) := by rw [h]
/-- The text of a version. -/
def verT (n : Int) : ByteArray := if n = 1 then ⟨#[50, 46, 51]⟩ else if n = 2 then ⟨#[50, 46, 53, 46, 49]⟩ else if n = 3 then ⟨#[50, 46, 55]⟩ else ⟨#[]⟩
/-- The version that a text names. -/
def verN (s : ByteArray) : Int := if s.toList == [50, 46, 51] then 1 else if s.toList == [50, 46, 53, 46, 49] then 2 else if s.toList == [50, 46, 55] then 3 else 0
def verB (n : Int) : Bool := decide (1 ≤ n) && decide (n ≤ 3)
theorem ver_parts (n : Int) : (n = 1) ∨ (n = 2) ∨ (n = 3) ∨ (¬ n = 1 ∧ ¬ n = 2 ∧ ¬ n = 3) := by omega
theorem l02Is_v (n lo hi : Int) (w : World) : Calls Tryz.prog 35 #[.int .i64 n, .int .i64 lo, .int .i64 hi] w fun e w' => e = .returned (.bool (decide (lo ≤ n) && decide (n ≤ hi))) ∧ w' = w := by
  by_cases h1 : lo ≤ n
  · by_cases h2 : n ≤ hi
    · go_enter Tryz.func35, Tryz.ntmps35
      go_wp2
      go_ret
      exact ⟨ret_boolV (by rw [decide_eq_true h1, decide_eq_true h2]; rfl), rfl⟩
    · go_enter Tryz.func35, Tryz.ntmps35
      go_wp2
      go_ret
      exact ⟨ret_boolV (by rw [decide_eq_false (by omega : ¬ n ≤ hi)]; first | done | rfl | simp), rfl⟩
  · go_enter Tryz.func35, Tryz.ntmps35
    go_wp2
    go_ret
    exact ⟨ret_boolV (by rw [decide_eq_false (by omega : ¬ lo ≤ n)]; rfl), rfl⟩
theorem l06Version_any (n : Int) (w : World) : Calls Tryz.prog 16 #[.int .i64 n] w fun e w' => e = .returned (.bool (verB n)) ∧ w' = w := by
  go_enter Tryz.func16, Tryz.ntmps16
  go_wp2_with fail
  refine (l02Is_v n 1 3 _).mono ?_
  rintro e w' ⟨rfl, rfl⟩
  rw [show (decide (1 ≤ n) && decide (n ≤ 3)) = verB n from rfl]
  go_wp2
  go_ret
  exact ⟨rfl, rfl⟩
theorem versionRight_any (n : Int) (w : World) : Calls Tryz.prog 20 #[.int .i64 n] w fun e w' => e = .returned (.bool (verB n)) ∧ w' = w := by
  unfold verB
  by_cases h1 : 1 ≤ n
  · by_cases h2 : n ≤ 3
    · go_enter Tryz.func20, Tryz.ntmps20
      go_wp2
      go_ret
      exact ⟨ret_boolV (by rw [decide_eq_true h1, decide_eq_true h2]; rfl), rfl⟩
    · go_enter Tryz.func20, Tryz.ntmps20
      go_wp2
      go_ret
      exact ⟨ret_boolV (by rw [decide_eq_false (by omega : ¬ n ≤ 3)]; first | done | rfl | simp), rfl⟩
  · go_enter Tryz.func20, Tryz.ntmps20
    go_wp2
    go_ret
    exact ⟨ret_boolV (by rw [decide_eq_false (by omega : ¬ 1 ≤ n)]; rfl), rfl⟩
end Go.Proofs.YtfjjbofnfigehaaGreatDoor
