/- The law of MessageRead. -/
import Derived.Test.YtckcfjibiidafaaGreatXG41OMsgS
namespace Go.Proofs.YtckcfjibiidafaaGreat
open Go.RowKit

set_option maxHeartbeats 8000000 in
theorem lawMessageRead (t : ByteArray) (w : World) (ht : t.size ≤ maxLen) :
    Calls Tryz.prog 3 #[.string t] w fun e w' => e = .returned (.bool true) ∧ Below w.heap.size w w' := by
  unfold maxLen at ht
  by_cases h2 : 1048576 < t.size
  · have h2i : (1048576 : Int) < t.size := by omega
    go_enter Tryz.func3, Tryz.ntmps3
    go_wp2
    go_ret
    exact ⟨rfl, Below.refl _ _⟩
  have h2i : ¬ (1048576 : Int) < t.size := by omega
  have HMS := hide (show t.size ≤ maxLen by unfold maxLen; omega)
  obtain ⟨A, hA⟩ : ∃ A, A = msgOut t := ⟨_, rfl⟩
  have HWA := hide (show wSegs A.2.2 ≤ 1048576 by rw [hA]; exact msgOut_w t)
  have HAE := hide (fun (c : Int) (n : ByteArray) (xs : List Seg) (h : msgOut t = (c, n, xs)) => (show c = A.1 ∧ n = A.2.1 ∧ xs = A.2.2 by rw [hA, h]; exact ⟨rfl, rfl, rfl⟩))
  clear hA h2
  go_enter Tryz.func3, Tryz.ntmps3
  go_wp2_with fail
  refine (specMessageRead_any t _).mono ?_
  rintro e w1 ⟨⟨nw, uw, cw0, xw, rfl, hrw, hew⟩, hb1⟩
  obtain ⟨rfl, rfl, rfl⟩ := HAE.out _ _ _ hew
  obtain ⟨pw, cw, rfl⟩ := hrw.isSlice
  have hba : Below w1.heap.size w1 (w1.alloc (.cells #[.string A.2.1, .slice pw A.2.2.length cw, .int .i64 A.1] 26)) := (Below.refl _ _).alloc (Nat.le_refl _) _
  have HB1 := hide (hb1.trans (hba.mono hb1.size))
  have HW1 := hide ((RSegs.mono hrw (Nat.zero_le _)).below hba)
  have HRw := hide (row_new w1 [.string A.2.1, .slice pw A.2.2.length cw, .int .i64 A.1] 26)
  clear hrw hew hb1 hba
  go_wp2_with fail
  generalize hV : w1.alloc (.cells #[.string A.2.1, .slice pw A.2.2.length cw, .int .i64 A.1] 26) = w2 at *
  generalize hG : w1.heap.size = G5 at *
  clear hV hG
  refine (implMessageRead_any t _ HMS.out).mono ?_
  rintro e w3 ⟨⟨ng, ug, cg0, xg, rfl, hog, heg⟩, hb3⟩
  obtain ⟨e1, e2, e3⟩ := HAE.out _ _ _ heg
  subst e1 e2 e3
  obtain ⟨pg, cg, rfl⟩ := hog.isSlice
  have hbg : Below w3.heap.size w3 (w3.alloc (.cells #[.string A.2.1, .slice pg A.2.2.length cg, .int .i64 A.1] 26)) := (Below.refl _ _).alloc (Nat.le_refl _) _
  have hb3g := hb3.trans (hbg.mono hb3.size)
  have HB3 := hide (HB1.out.trans (hb3g.mono HB1.out.size))
  have HW3 := hide (HW1.out.below hb3g)
  have HRw3 := hide (HRw.out.below hb3g HRw.out.lt)
  have HRg := hide (row_new w3 [.string A.2.1, .slice pg A.2.2.length cg, .int .i64 A.1] 26)
  have HO3 := hide (hog.keep (SameIn.ofBelow hbg))
  have HLO := hide (show w.heap.size ≤ w2.heap.size ∧ G5 < w2.heap.size from ⟨HB1.out.size, HRw.out.lt⟩)
  have HB23 := hide hb3g
  have k0 : (w3.alloc (.cells #[.string A.2.1, .slice pg A.2.2.length cg, .int .i64 A.1] 26)).cell? ⟨G5, 0, none⟩ = some (.string A.2.1) := HRw3.out.cell 0
  have k1 : (w3.alloc (.cells #[.string A.2.1, .slice pg A.2.2.length cg, .int .i64 A.1] 26)).cell? ⟨G5, 1, none⟩ = some (.slice pw A.2.2.length cw) := HRw3.out.cell 1
  have k2 : (w3.alloc (.cells #[.string A.2.1, .slice pg A.2.2.length cg, .int .i64 A.1] 26)).cell? ⟨G5, 2, none⟩ = some (.int .i64 A.1) := HRw3.out.cell 2
  clear hog heg hb3 hbg hb3g
  go_wp2_with fail
  obtain ⟨w4, hw4⟩ : ∃ w4, w4 = w3.alloc (.cells #[.string A.2.1, .slice pg A.2.2.length cg, .int .i64 A.1] 26) := ⟨_, rfl⟩
  obtain ⟨G6, hG6⟩ : ∃ G6, G6 = w3.heap.size := ⟨_, rfl⟩
  rw [← hw4] at HB3 HW3 HRw3 HRg HO3 HB23 ⊢
  rw [← hG6] at HRg HO3 ⊢
  clear hw4 hG6 k0 k1 k2
  refine (eqMessageOut_same A _ _ 0 0 _ HWA.out (RSegs.mono (OSegs.rl HO3.out) (Nat.zero_le _)) HW3.out).mono ?_
  rintro e w5 ⟨rfl, hb5⟩
  have HB5 := hide (HB3.out.trans (hb5.mono HB3.out.size))
  have HB25 := hide (HB23.out.trans (hb5.mono HB23.out.size))
  have HRw5 := hide (HRw3.out.below hb5 HRw3.out.lt)
  have HRg5 := hide (HRg.out.below hb5 HRg.out.lt)
  have HO5 := hide (HO3.out.keep (SameIn.ofBelow hb5))
  have g0 : w5.cell? ⟨G6, 0, none⟩ = some (.string A.2.1) := HRg5.out.cell 0
  have g1 : w5.cell? ⟨G6, 1, none⟩ = some (.slice pg A.2.2.length cg) := HRg5.out.cell 1
  have g2 : w5.cell? ⟨G6, 2, none⟩ = some (.int .i64 A.1) := HRg5.out.cell 2
  clear hb5 HB3 HW3 HRw3 HRg HO3 HB23
  go_wp2_with fail
  refine (markMessageOut_own w2.heap.size G6 A _ 1 _ HWA.out (by have := HWA.out; omega) HO5.out).mono ?_
  rintro e w6 ⟨rfl, ho6, hw6⟩
  have HB6 := hide (hw6.toBelow HB5.out HLO.out.1 HB5.out.size)
  have HB26 := hide (hw6.toBelow HB25.out (Nat.le_refl _) HB25.out.size)
  have HRw6 := hide (hw6.row HRw5.out (.inl HLO.out.2))
  have HRg6 := hide (hw6.row HRg5.out (.inr (Nat.le_refl _)))
  have HO6 := hide ho6
  obtain ⟨M, hM⟩ : ∃ M : Nat, M = 1 + cntSegs A.2.2 := ⟨_, rfl⟩
  rw [← hM]
  have HMM := hide hM
  have hMp : ¬ ((M : Nat) : Int) < 0 := by omega
  have hMe : (((M : Nat) : Int) != ((M : Nat) : Int)) = false := by simp
  have n0 : w6.cell? ⟨G6, 0, none⟩ = some (.string A.2.1) := HRg6.out.cell 0
  have n1 : w6.cell? ⟨G6, 1, none⟩ = some (.slice pg A.2.2.length cg) := HRg6.out.cell 1
  have n2 : w6.cell? ⟨G6, 2, none⟩ = some (.int .i64 A.1) := HRg6.out.cell 2
  clear ho6 hw6 hM g0 g1 g2 HRw5 HRg5 HO5 HB5 HB25
  go_wp2_with fail
  refine (heldMessageOut_own w2.heap.size G6 A _ 1 _ HWA.out (by have := HWA.out; omega) HO6.out).mono ?_
  rintro e w7 ⟨rfl, hb7⟩
  rw [← HMM.out]
  have HB7 := hide (HB6.out.trans (hb7.mono HB6.out.size))
  have HB27 := hide (HB26.out.trans (hb7.mono HB26.out.size))
  have HRw7 := hide (HRw6.out.below hb7 HRw6.out.lt)
  have HRg7 := hide (HRg6.out.below hb7 HRg6.out.lt)
  have HO7 := hide (HO6.out.keep (SameIn.ofBelow hb7))
  clear hb7 n0 n1 n2 HRw6 HRg6 HO6 HB6 HB26
  go_wp2_with fail
  refine (implMessageRead_any t _ HMS.out).mono ?_
  rintro e w8 ⟨⟨nh, uh, ch0, xh, rfl, hoh, heh⟩, hb8⟩
  obtain ⟨e1, e2, e3⟩ := HAE.out _ _ _ heh
  subst e1 e2 e3
  obtain ⟨ph, ch, rfl⟩ := hoh.isSlice
  have hbh : Below w8.heap.size w8 (w8.alloc (.cells #[.string A.2.1, .slice ph A.2.2.length ch, .int .i64 A.1] 26)) := (Below.refl _ _).alloc (Nat.le_refl _) _
  have hb8h := hb8.trans (hbh.mono hb8.size)
  have HB8 := hide (HB7.out.trans (hb8h.mono HB7.out.size))
  have HB28 := hide (HB27.out.trans (hb8h.mono HB27.out.size))
  have HRw8 := hide (HRw7.out.below hb8h HRw7.out.lt)
  have HRg8 := hide (HRg7.out.below hb8h HRg7.out.lt)
  have HO8 := hide (HO7.out.keep (SameIn.ofBelow hb8h))
  have HH8 := hide ((RSegs.mono (OSegs.rl hoh) (Nat.zero_le _)).below hbh)
  have HW8 := hide (HW1.out.below HB28.out)
  have r0 : (w8.alloc (.cells #[.string A.2.1, .slice ph A.2.2.length ch, .int .i64 A.1] 26)).cell? ⟨G5, 0, none⟩ = some (.string A.2.1) := HRw8.out.cell 0
  have r1 : (w8.alloc (.cells #[.string A.2.1, .slice ph A.2.2.length ch, .int .i64 A.1] 26)).cell? ⟨G5, 1, none⟩ = some (.slice pw A.2.2.length cw) := HRw8.out.cell 1
  have r2 : (w8.alloc (.cells #[.string A.2.1, .slice ph A.2.2.length ch, .int .i64 A.1] 26)).cell? ⟨G5, 2, none⟩ = some (.int .i64 A.1) := HRw8.out.cell 2
  clear hoh heh hb8 hbh hb8h HRw7 HRg7 HO7 HB7 HB27
  go_wp2_with fail
  refine (eqMessageOut_same A _ _ 0 0 _ HWA.out HH8.out HW8.out).mono ?_
  rintro e w9 ⟨rfl, hb9⟩
  have HB9 := hide (HB8.out.trans (hb9.mono HB8.out.size))
  have HO9 := hide (HO8.out.keep (SameIn.ofBelow hb9))
  have HRg9 := hide (HRg8.out.below hb9 HRg8.out.lt)
  have s0 : w9.cell? ⟨G6, 0, none⟩ = some (.string A.2.1) := HRg9.out.cell 0
  have s1 : w9.cell? ⟨G6, 1, none⟩ = some (.slice pg A.2.2.length cg) := HRg9.out.cell 1
  have s2 : w9.cell? ⟨G6, 2, none⟩ = some (.int .i64 A.1) := HRg9.out.cell 2
  clear hb9 r0 r1 r2 HO8 HB8 HB28 HH8 HW8 HRw8 HRg8
  go_wp2_with fail
  refine (heldMessageOut_own w2.heap.size G6 A _ 1 _ HWA.out (by have := HWA.out; omega) HO9.out).mono ?_
  rintro e w10 ⟨rfl, hb10⟩
  rw [← HMM.out]
  have HB10 := hide (HB9.out.trans (hb10.mono HB9.out.size))
  clear hb10
  go_wp2
  go_ret
  exact ⟨rfl, HB10.out⟩
end Go.Proofs.YtckcfjibiidafaaGreat
