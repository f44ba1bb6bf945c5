/- What the program says of one pending thing. -/
import Derived.Test.YtdnbfnahhkmmnaaDoorSNew
import Derived.Test.YtdnbfnahhkmmnaaDoorStab
import Derived.BigRegion
namespace Go.Proofs.YtdnbfnahhkmmnaaDoor
open Go.RowKit

/-- The nearest place that is there; the text's first bytes. -/
def fitA (A : Int) (n : Nat) : Int := if (n : Int) - 1 < (if A < 0 then 0 else A) then (n : Int) - 1 else (if A < 0 then 0 else A)
def fitD (D : ByteArray) : ByteArray := D.extract 0 (if 64 < (D.size : Int) then 64 else (D.size : Int)).toNat
theorem fitA_in {A : Int} {n : Nat} (h0 : 0 ≤ A) (h1 : A ≤ (n : Int) - 1) : fitA A n = A := by
  unfold fitA
  rw [if_neg (show ¬ A < 0 by omega), if_neg (by omega)]
theorem fitA_out {A : Int} {n : Nat} (hn : 1 ≤ n) (h : ¬ (0 ≤ A ∧ A ≤ (n : Int) - 1)) : fitA A n ≠ A := by
  unfold fitA
  split <;> split at * <;> omega
theorem fitD_in {D : ByteArray} (h : D.size ≤ 64) : fitD D = D := by
  unfold fitD
  rw [if_neg (by omega)]
  simp
theorem fitD_out {D : ByteArray} (h : ¬ D.size ≤ 64) : fitD D ≠ D := by
  unfold fitD
  rw [if_pos (by omega)]
  intro e
  have := congrArg ByteArray.size e
  simp at this
  omega

set_option maxHeartbeats 2000000 in
theorem fitPending_any (A : Int) (D : ByteArray) (n : Nat) (w : World) (hD : D.size ≤ maxLen) (h1 : 1 ≤ n) (h2 : n ≤ 64) :
    Calls Tryd.prog 46 #[.agg #[.int .i64 A, .string D], .int .i64 n] w fun e w' =>
      e = .returned (.agg #[.int .i64 (fitA A n), .string (fitD D)]) ∧ Below w.heap.size w w' := by
  unfold maxLen at hD
  have e1 : IntKind.i64.wrap ((n : Int) - 1) = (n : Int) - 1 := by rw [IntKind.wrap_i64]; omega
  have HF := hide (show fitA A n = if (n : Int) - 1 < (if A < 0 then 0 else A) then (n : Int) - 1 else (if A < 0 then 0 else A) from rfl)
  have HD := hide (show fitD D = D.extract 0 (if 64 < (D.size : Int) then 64 else (D.size : Int)).toNat from rfl)
  go_enter Tryd.func46, Tryd.ntmps46
  go_wp2
  go_region
  rw [← HF.out, ← HD.out]
  generalize (if A < 0 then 0 else A) = M
  generalize (if 64 < (D.size : Int) then 64 else (D.size : Int)) = L
  go_wp2
  exact bodyPost_ret (v := .agg #[.int .i64 (fitA A n), .string (fitD D)]) (by simp [results, Tryd.results46, go_sem]) rfl
    ⟨rfl, (((Below.refl _ _).alloc (Nat.le_refl _) _).alloc (by simp) _).drew⟩

/-- What is told of a pending thing: nothing, or one of two errors. -/
def pendFault (vF vR : Value) (A : Int) (D : ByteArray) (n : Nat) : Value :=
  if D.size ≤ 64 then (if 0 ≤ A ∧ A ≤ (n : Int) - 1 then .nilIface else vR) else vF

theorem fitD_lists {D : ByteArray} (h : ¬ D.size ≤ 64) : ((fitD D).toList == D.toList) = false := by
  rw [ByteArray.toList_eq, ByteArray.toList_eq]
  exact beq_eq_false_iff_ne.2 fun e => fitD_out h (ByteArray.ext (Array.ext' e))

set_option maxHeartbeats 2000000 in
theorem pendingFault_any (A : Int) (D : ByteArray) (n : Nat) (vF vR : Value) (w : World) (hD : D.size ≤ maxLen) (h1 : 1 ≤ n) (h2 : n ≤ 64)
    (hF : w.cell? ⟨1, 0, none⟩ = some vF) (hR : w.cell? ⟨2, 0, none⟩ = some vR) :
    Calls Tryd.prog 43 #[.agg #[.int .i64 A, .string D], .int .i64 n] w fun e w' =>
      e = .returned (pendFault vF vR A D n) ∧ Below w.heap.size w w' := by
  have hb0 : Below w.heap.size w (w.alloc (.cells #[.int .i64 A, .string D] 46)) := (Below.refl _ _).alloc (Nat.le_refl _) _
  have HB0 := hide hb0
  have HR0 := hide (row_new w [.int .i64 A, .string D] 46)
  have lF : 1 < w.heap.size := World.block_lt_of_cell? w ⟨1, 0, none⟩ hF
  have lR : 2 < w.heap.size := World.block_lt_of_cell? w ⟨2, 0, none⟩ hR
  clear hb0
  have HE := hide (show pendFault vF vR A D n = if D.size ≤ 64 then (if 0 ≤ A ∧ A ≤ (n : Int) - 1 then .nilIface else vR) else vF from rfl)
  by_cases hin : 0 ≤ A ∧ A ≤ (n : Int) - 1
  · by_cases hz : D.size ≤ 64
    · have HA := hide (fitA_in hin.1 hin.2)
      have HD := hide (fitD_in hz)
      rw [if_pos hz, if_pos hin] at HE
      rw [HE.out]
      go_enter Tryd.func43, Tryd.ntmps43
      go_wp2_with fail
      refine (fitPending_any A D n _ hD h1 h2).mono ?_
      try rw [HA.out]
      try rw [HD.out]
      rintro e w1 ⟨rfl, hb1⟩
      have bn := below_new w1 (.cells #[.int .i64 A, .string D] 46)
      have hb2 := hb1.trans (bn.mono hb1.size)
      have R1 := Row.after hb2 HR0.out
      have HB1 := hide (HB0.out.trans (hb2.mono HB0.out.size))
      have a0 : (w1.alloc (.cells #[.int .i64 A, .string D] 46)).cell? ⟨w.heap.size, 0, none⟩ = some (.int .i64 A) := R1.cell 0
      have a1 : (w1.alloc (.cells #[.int .i64 A, .string D] 46)).cell? ⟨w.heap.size, 1, none⟩ = some (.string D) := R1.cell 1
      have f1 : (w1.alloc (.cells #[.int .i64 A, .string D] 46)).cell? ⟨1, 0, none⟩ = some vF := by rw [HB1.out.cell (p := ⟨1, 0, none⟩) lF]; exact hF
      have f2 : (w1.alloc (.cells #[.int .i64 A, .string D] 46)).cell? ⟨2, 0, none⟩ = some vR := by rw [HB1.out.cell (p := ⟨2, 0, none⟩) lR]; exact hR
      clear hb1 hb2 bn R1 HR0
      go_wp2
      go_ret
      exact ⟨rfl, HB1.out⟩
    · have hne := fitD_out hz
      have HA := hide (fitA_in hin.1 hin.2)
      have HD := hide (show fitD D = fitD D from rfl)
      have hdl := fitD_lists hz
      rw [if_neg hz] at HE
      rw [HE.out]
      go_enter Tryd.func43, Tryd.ntmps43
      go_wp2_with fail
      refine (fitPending_any A D n _ hD h1 h2).mono ?_
      try rw [HA.out]
      try rw [HD.out]
      rintro e w1 ⟨rfl, hb1⟩
      have bn := below_new w1 (.cells #[.int .i64 A, .string (fitD D)] 46)
      have hb2 := hb1.trans (bn.mono hb1.size)
      have R1 := Row.after hb2 HR0.out
      have HB1 := hide (HB0.out.trans (hb2.mono HB0.out.size))
      have a0 : (w1.alloc (.cells #[.int .i64 A, .string (fitD D)] 46)).cell? ⟨w.heap.size, 0, none⟩ = some (.int .i64 A) := R1.cell 0
      have a1 : (w1.alloc (.cells #[.int .i64 A, .string (fitD D)] 46)).cell? ⟨w.heap.size, 1, none⟩ = some (.string D) := R1.cell 1
      have f1 : (w1.alloc (.cells #[.int .i64 A, .string (fitD D)] 46)).cell? ⟨1, 0, none⟩ = some vF := by rw [HB1.out.cell (p := ⟨1, 0, none⟩) lF]; exact hF
      have f2 : (w1.alloc (.cells #[.int .i64 A, .string (fitD D)] 46)).cell? ⟨2, 0, none⟩ = some vR := by rw [HB1.out.cell (p := ⟨2, 0, none⟩) lR]; exact hR
      clear hb1 hb2 bn R1 HR0
      go_wp2
      go_ret
      exact ⟨rfl, HB1.out⟩
  · have hna := fitA_out h1 hin
    by_cases hz : D.size ≤ 64
    · have HA := hide (show fitA A n = fitA A n from rfl)
      have HD := hide (fitD_in hz)
      rw [if_pos hz, if_neg hin] at HE
      rw [HE.out]
      go_enter Tryd.func43, Tryd.ntmps43
      go_wp2_with fail
      refine (fitPending_any A D n _ hD h1 h2).mono ?_
      try rw [HA.out]
      try rw [HD.out]
      rintro e w1 ⟨rfl, hb1⟩
      have bn := below_new w1 (.cells #[.int .i64 (fitA A n), .string D] 46)
      have hb2 := hb1.trans (bn.mono hb1.size)
      have R1 := Row.after hb2 HR0.out
      have HB1 := hide (HB0.out.trans (hb2.mono HB0.out.size))
      have a0 : (w1.alloc (.cells #[.int .i64 (fitA A n), .string D] 46)).cell? ⟨w.heap.size, 0, none⟩ = some (.int .i64 A) := R1.cell 0
      have a1 : (w1.alloc (.cells #[.int .i64 (fitA A n), .string D] 46)).cell? ⟨w.heap.size, 1, none⟩ = some (.string D) := R1.cell 1
      have f1 : (w1.alloc (.cells #[.int .i64 (fitA A n), .string D] 46)).cell? ⟨1, 0, none⟩ = some vF := by rw [HB1.out.cell (p := ⟨1, 0, none⟩) lF]; exact hF
      have f2 : (w1.alloc (.cells #[.int .i64 (fitA A n), .string D] 46)).cell? ⟨2, 0, none⟩ = some vR := by rw [HB1.out.cell (p := ⟨2, 0, none⟩) lR]; exact hR
      clear hb1 hb2 bn R1 HR0
      go_wp2
      go_ret
      exact ⟨rfl, HB1.out⟩
    · have hne := fitD_out hz
      have HA := hide (show fitA A n = fitA A n from rfl)
      have HD := hide (show fitD D = fitD D from rfl)
      have hdl := fitD_lists hz
      rw [if_neg hz] at HE
      rw [HE.out]
      go_enter Tryd.func43, Tryd.ntmps43
      go_wp2_with fail
      refine (fitPending_any A D n _ hD h1 h2).mono ?_
      try rw [HA.out]
      try rw [HD.out]
      rintro e w1 ⟨rfl, hb1⟩
      have bn := below_new w1 (.cells #[.int .i64 (fitA A n), .string (fitD D)] 46)
      have hb2 := hb1.trans (bn.mono hb1.size)
      have R1 := Row.after hb2 HR0.out
      have HB1 := hide (HB0.out.trans (hb2.mono HB0.out.size))
      have a0 : (w1.alloc (.cells #[.int .i64 (fitA A n), .string (fitD D)] 46)).cell? ⟨w.heap.size, 0, none⟩ = some (.int .i64 A) := R1.cell 0
      have a1 : (w1.alloc (.cells #[.int .i64 (fitA A n), .string (fitD D)] 46)).cell? ⟨w.heap.size, 1, none⟩ = some (.string D) := R1.cell 1
      have f1 : (w1.alloc (.cells #[.int .i64 (fitA A n), .string (fitD D)] 46)).cell? ⟨1, 0, none⟩ = some vF := by rw [HB1.out.cell (p := ⟨1, 0, none⟩) lF]; exact hF
      have f2 : (w1.alloc (.cells #[.int .i64 (fitA A n), .string (fitD D)] 46)).cell? ⟨2, 0, none⟩ = some vR := by rw [HB1.out.cell (p := ⟨2, 0, none⟩) lR]; exact hR
      clear hb1 hb2 bn R1 HR0
      go_wp2
      go_ret
      exact ⟨rfl, HB1.out⟩
end Go.Proofs.YtdnbfnahhkmmnaaDoor
