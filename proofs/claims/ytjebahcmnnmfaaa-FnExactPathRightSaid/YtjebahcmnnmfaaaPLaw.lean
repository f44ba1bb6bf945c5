/- The law of PathRight out of the two contracts. -/
import Derived.Test.YtjebahcmnnmfaaaPRight
namespace Go.Proofs.Ytjebahcmnnmfaaa
open Go.RowKit
theorem szPath_any (p : PathM) (w : World) (hn : p.seg.size ≤ maxLen) :
    Calls Try.prog 4 #[p.v, .int .i64 1048576] w fun e w' => e = .returned (.int .i64 (if (1048576 - (p.seg.size : Int)) < 0 then -1 else 1048576 - (p.seg.size : Int))) ∧ Below w.heap.size w w' := by
  unfold maxLen at hn
  obtain ⟨s, n, f, r, c, b⟩ := p
  unfold PathM.v
  simp only at hn ⊢
  have HB := hide (show Below w.heap.size w (w.alloc (.cells #[.string s, .int .i64 n, .int .i64 f, .int .i64 r, .int .i64 c, .int .i64 b] 23)) from (Below.refl _ _).alloc (Nat.le_refl _) _)
  by_cases h : (1048576 - (s.size : Int)) < 0
  · rw [if_pos h]
    go_enter Try.func4, Try.ntmps4
    go_wp2
    go_ret
    exact ⟨rfl, HB.out⟩
  · rw [if_neg h]
    go_enter Try.func4, Try.ntmps4
    go_wp2
    go_ret
    exact ⟨rfl, HB.out⟩
set_option maxHeartbeats 1000000 in
theorem toPath_any (p : PathM) (w : World) :
    Calls Try.prog 6 #[p.v] w fun e w' => e = .returned p.v ∧ Below w.heap.size w w' := by
  obtain ⟨s, n, f, r, c, b⟩ := p
  unfold PathM.v
  simp only
  have HB := hide ((((Below.refl w.heap.size w).alloc (Nat.le_refl _) (.cells #[.string s, .int .i64 n, .int .i64 f, .int .i64 r, .int .i64 c, .int .i64 b] 23)).alloc (by simp) (.cells #[.string s, .int .i64 n, .int .i64 f, .int .i64 r, .int .i64 c, .int .i64 b] 26)).alloc (by simp; omega) (.cells #[.string s, .int .i64 n, .int .i64 f, .int .i64 r, .int .i64 c, .int .i64 b] 26))
  go_enter Try.func6, Try.ntmps6
  go_wp2
  exact bodyPost_ret (v := .agg #[.string s, .int .i64 n, .int .i64 f, .int .i64 r, .int .i64 c, .int .i64 b]) (by simp [results, Try.results6, go_sem]) rfl ⟨rfl, HB.out⟩

set_option maxHeartbeats 2000000 in
theorem lawPathRight (p : PathM) (w : World) (hn : p.seg.size ≤ maxLen) :
    Calls Try.prog 3 #[p.v] w fun e w' => e = .returned (.bool true) ∧ Below w.heap.size w w' := by
  have HN := hide hn
  clear hn
  obtain ⟨W, hW⟩ : ∃ W, W = w.alloc (.cells p.cells.toArray 23) := ⟨_, rfl⟩
  have hb0 : Below w.heap.size w W := by rw [hW]; exact (Below.refl _ _).alloc (Nat.le_refl _) _
  have HB0 := hide hb0
  have RW : Row W w.heap.size 23 p.cells := by rw [hW]; exact row_new w p.cells 23
  have HRW := hide RW
  have HCL : Hid (∀ X : World, Row X w.heap.size 23 p.cells → X.cell? ⟨w.heap.size, 0, none⟩ = some (.string p.seg) ∧ X.cell? ⟨w.heap.size, 1, none⟩ = some (.int .i64 p.nth) ∧ X.cell? ⟨w.heap.size, 2, none⟩ = some (.int .i64 p.fld) ∧ X.cell? ⟨w.heap.size, 3, none⟩ = some (.int .i64 p.rep) ∧ X.cell? ⟨w.heap.size, 4, none⟩ = some (.int .i64 p.comp) ∧ X.cell? ⟨w.heap.size, 5, none⟩ = some (.int .i64 p.sub)) :=
    fun X h => ⟨h.cell 0, h.cell 1, h.cell 2, h.cell 3, h.cell 4, h.cell 5⟩
  have HV : Hid (p.v = .agg #[.string p.seg, .int .i64 p.nth, .int .i64 p.fld, .int .i64 p.rep, .int .i64 p.comp, .int .i64 p.sub]) := rfl
  rw [show p.cells.toArray = #[.string p.seg, .int .i64 p.nth, .int .i64 p.fld, .int .i64 p.rep, .int .i64 p.comp, .int .i64 p.sub] from rfl] at hW
  rw [HV.out]
  clear RW hb0
  go_enter Try.func3, Try.ntmps3
  go_wp2_with fail
  rw [← hW, ← HV.out]
  refine (szPath_any p _ HN.out).mono ?_
  rintro e w1 ⟨rfl, hb1⟩
  clear hW
  have HB1 := hide (HB0.out.trans (hb1.mono HB0.out.size))
  have HR1 := hide (HRW.out.below hb1 HRW.out.lt)
  clear hb1
  by_cases h : (1048576 - (p.seg.size : Int)) < 0
  · rw [if_pos h]
    go_wp2
    go_ret
    exact ⟨rfl, HB1.out⟩
  · rw [if_neg h]
    obtain ⟨a0, a1, a2, a3, a4, a5⟩ := HCL.out _ HR1.out
    go_wp2_with fail
    rw [← HV.out]
    refine (toPath_any p _).mono ?_
    rintro e w2 ⟨rfl, hb2⟩
    have HB2 := hide (HB1.out.trans (hb2.mono HB1.out.size))
    have HR2 := hide (HR1.out.below hb2 HR1.out.lt)
    clear hb2 a0 a1 a2 a3 a4 a5
    go_wp2_with fail
    refine (specPathRight_any p _).mono ?_
    rintro e w3 ⟨rfl, hb3⟩
    have HB3 := hide (HB2.out.trans (hb3.mono HB2.out.size))
    have HR3 := hide (HR2.out.below hb3 HR2.out.lt)
    clear hb3
    obtain ⟨a0, a1, a2, a3, a4, a5⟩ := HCL.out _ HR3.out
    go_wp2_with fail
    rw [← HV.out]
    refine (toPath_any p _).mono ?_
    rintro e w4 ⟨rfl, hb4⟩
    have HB4 := hide (HB3.out.trans (hb4.mono HB3.out.size))
    clear hb4 a0 a1 a2 a3 a4 a5
    go_wp2_with fail
    refine (implPathRight_any p _).mono ?_
    rintro e w5 ⟨rfl, hb5⟩
    have HB5 := hide (HB4.out.trans (hb5.mono HB4.out.size))
    clear hb5
    generalize p.right = R
    cases R
    · go_wp2
      go_ret
      exact ⟨rfl, HB5.out⟩
    · go_wp2
      go_ret
      exact ⟨rfl, HB5.out⟩
end Go.Proofs.Ytjebahcmnnmfaaa
