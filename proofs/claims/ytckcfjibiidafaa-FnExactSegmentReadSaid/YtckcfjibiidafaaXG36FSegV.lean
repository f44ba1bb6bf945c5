/- SegmentText of the model and of the program; its law. -/
import Derived.Test.YtckcfjibiidafaaXG32FSegT
import Derived.Test.YtckcfjibiidafaaXG35OSegP
import Derived.Test.YtckcfjibiidafaaXG33OSegM
namespace Go.Proofs.Ytckcfjibiidafaa
open Go.RowKit

def segTB (m n : ByteArray) (x : Flds) : ByteArray := if marksB m && segB n x then ⟨(segT m n x).toArray⟩ else ⟨#[]⟩
theorem segTB_yes {m n : ByteArray} {x : Flds} (h1 : marksB m = true) (h2 : segB n x = true) : segTB m n x = ⟨(segT m n x).toArray⟩ := by simp [segTB, h1, h2]
theorem segTB_marks {m n : ByteArray} {x : Flds} (h1 : marksB m = false) : segTB m n x = ⟨#[]⟩ := by simp [segTB, h1]
theorem segTB_seg {m n : ByteArray} {x : Flds} (h1 : segB n x = false) : segTB m n x = ⟨#[]⟩ := by simp [segTB, h1]

end Go.Proofs.Ytckcfjibiidafaa
/- SegmentRead of both sides, and its law. -/
namespace Go.Proofs.Ytckcfjibiidafaa
open Go.RowKit
theorem threeS {w : World} {G : Nat} {T : TypeId} {a b c : Value} (R : Row w G T [a, b, c]) (A B C : Value) :
    (((w.setCell ⟨G, 0, none⟩ A).setCell ⟨G, 1, none⟩ B).setCell ⟨G, 2, none⟩ C).cell? ⟨G, 0, none⟩ = some A ∧
    (((w.setCell ⟨G, 0, none⟩ A).setCell ⟨G, 1, none⟩ B).setCell ⟨G, 2, none⟩ C).cell? ⟨G, 1, none⟩ = some B ∧
    (((w.setCell ⟨G, 0, none⟩ A).setCell ⟨G, 1, none⟩ B).setCell ⟨G, 2, none⟩ C).cell? ⟨G, 2, none⟩ = some C ∧
    (∀ (w0 : World) (base : Nat), base ≤ G → Below base w0 w → Below base w0 (((w.setCell ⟨G, 0, none⟩ A).setCell ⟨G, 1, none⟩ B).setCell ⟨G, 2, none⟩ C)) ∧
    (∀ lo hi : Nat, (G < lo ∨ hi ≤ G) → SameIn lo hi w (((w.setCell ⟨G, 0, none⟩ A).setCell ⟨G, 1, none⟩ B).setCell ⟨G, 2, none⟩ C)) ∧
    (((w.setCell ⟨G, 0, none⟩ A).setCell ⟨G, 1, none⟩ B).setCell ⟨G, 2, none⟩ C).heap.size = w.heap.size ∧
    (∀ B0 : Nat, G < B0 → Same B0 w (((w.setCell ⟨G, 0, none⟩ A).setCell ⟨G, 1, none⟩ B).setCell ⟨G, 2, none⟩ C)) := by
  have R4 := ((R.set (j := 0) A).set (j := 1) B).set (j := 2) C
  refine ⟨R4.cell 0, R4.cell 1, R4.cell 2, fun w0 base hb h => ((h.setCell (p := ⟨G, 0, none⟩) hb A).setCell (p := ⟨G, 1, none⟩) hb B).setCell (p := ⟨G, 2, none⟩) hb C, fun lo hi h k h1 h2 _ => ?_, by simp [World.setCell], fun B0 h => ((Same.set w A h).trans (Same.set _ B h)).trans (Same.set _ C h)⟩
  have hk : k ≠ G := by omega
  rw [Below.heap_setCell _ ⟨G, 2, none⟩ C k hk, Below.heap_setCell _ ⟨G, 1, none⟩ B k hk, Below.heap_setCell _ ⟨G, 0, none⟩ A k hk]
abbrev SOut := Int × ByteArray × Flds
def soV (R : SOut) (u : Value) : Value := .agg #[.string R.2.1, u, .int .i64 R.1]
/-- Code and Segment of what SegmentRead answers. -/
def segOut (m t : ByteArray) : SOut := if readC m t = 0 then (match segQ m t.data.toList with | some s => (0, s.1, s.2) | none => (3, ⟨#[]⟩, [])) else (readC m t, ⟨#[]⟩, [])
theorem oflds_nil (lo hi : Nat) (w : World) (p : Option Addr) : OFlds lo hi w (.slice p 0 0) [] := ⟨p, 0, rfl, Nat.le_refl _, Nat.zero_le _, fun h => absurd h (Nat.lt_irrefl 0)⟩
theorem rflds_nil (B : Nat) (w : World) (p : Option Addr) : RFlds B w (.slice p 0 0) [] := ⟨p, 0, rfl, Nat.le_refl _, Nat.zero_le _, fun h => absurd h (Nat.lt_irrefl 0)⟩
theorem headR_len {m : ByteArray} {T : List UInt8} {n : ByteArray} {r : List UInt8} (h : headR m T = some (n, r)) : r.length ≤ T.length := by
  unfold headR at h
  split at h
  · cases h
  · split at h
    · split at h
      · cases h
        simp only [List.length_drop]; omega
      · cases h
    · cases h
      simp only [List.length_drop]; omega
theorem segMd_fits {m : ByteArray} {T : List UInt8} {s : ByteArray × Flds} (hT : T.length ≤ 8000) (h : segMd m T = some s) : Fits s.2 := by
  unfold segMd at h
  obtain ⟨⟨n, r⟩, h1, h2⟩ := Option.bind_eq_some_iff.1 h
  obtain ⟨fs, h3, h4⟩ := Option.bind_eq_some_iff.1 h2
  cases h4
  have hl := headR_len h1
  have h3 : fldsM m r = some fs := h3
  cases r with
  | nil =>
    have : fs = [] := by simpa [fldsM] using h3.symm
    subst this
    exact ⟨by simp, fun i hi => absurd hi (Nat.not_lt_zero _)⟩
  | cons a r =>
    simp only [List.length_cons] at hl
    by_cases ha : a = bAt m 0
    · rw [fldsM, if_pos ha] at h3
      cases h3
      obtain ⟨k1, k2⟩ := cutM_small empL (bAt m 0) (fldM m) r
      show Fits (trimR empL ((cutL (bAt m 0) r).map (fldM m)))
      refine ⟨by omega, fun i hi => ?_⟩
      obtain ⟨p, hp, e⟩ := k2 _ (List.getElem_mem hi)
      have h9 := fldM_small m p (by omega)
      rw [← e] at h9
      exact h9
    · rw [fldsM, if_neg ha] at h3
      cases h3
theorem fldB_w15 {x : List (List (List ByteArray))} (h : fldB x = true) : wFld x ≤ 15305 := by
  have h1 : ∀ s : ByteArray, subB s = true → s.size ≤ 60 := fun s hs => by
    simp only [subB, Bool.and_eq_true, decide_eq_true_eq] at hs; omega
  have h2 : ∀ c : List ByteArray, compB c = true → wComp c ≤ 305 := fun c hc => right_w h1 hc
  have h3 : ∀ r : List (List ByteArray), repB r = true → wRep r ≤ 3060 := fun r hr => right_w h2 hr
  exact right_w h3 h
theorem segB_w {n : ByteArray} {x : Flds} (h : segB n x = true) : wFlds x ≤ 1048576 := by
  have : wL wFld x ≤ 30 + 30 * 15305 := right_w (fun y hy => fldB_w15 hy) (segB_right h)
  have h2 : wFlds x = wL wFld x := rfl
  omega
theorem segQ_right {m : ByteArray} {T : List UInt8} {s : ByteArray × Flds} (h : segQ m T = some s) : segB s.1 s.2 = true := by
  unfold segQ at h
  obtain ⟨g, _, h2⟩ := Option.bind_eq_some_iff.1 h
  obtain ⟨fs, _, h4⟩ := Option.bind_eq_some_iff.1 h2
  by_cases hb : segB g.1 fs = true
  · rw [if_pos hb] at h4
    cases h4
    exact hb
  · rw [if_neg hb] at h4
    cases h4
theorem segOut_w (m t : ByteArray) : wFlds (segOut m t).2.2 ≤ 1048576 := by
  unfold segOut
  split
  · split
    · rename_i s hs
      exact segB_w (segQ_right hs)
    · simp [wFlds, wL]
  · simp [wFlds, wL]
theorem segQ_yes {m : ByteArray} {T : List UInt8} {n : ByteArray} {F : Flds} (h : marksB m = true) (h1 : segMd m T = some (n, F)) (hb : segB n F = true) (ht : segT m n F = T) : segQ m T = some (n, F) := (segQ_iff h T _).2 ⟨h1, hb, ht⟩
theorem segQ_no {m : ByteArray} {T : List UInt8} {n : ByteArray} {F : Flds} (h : marksB m = true) (h1 : segMd m T = some (n, F)) (hn : ¬ (segB n F = true ∧ segT m n F = T)) : segQ m T = none := by
  cases hq : segQ m T with
  | none => rfl
  | some s =>
    have h2 := (segQ_iff h T s).1 hq
    rw [h1] at h2
    cases h2.1
    exact absurd h2.2 hn
theorem segQ_none {m : ByteArray} {T : List UInt8} (h : marksB m = true) (h1 : segMd m T = none) : segQ m T = none := by
  cases hq : segQ m T with
  | none => rfl
  | some s =>
    have h2 := (segQ_iff h T s).1 hq
    rw [h1] at h2
    cases h2.1

set_option maxHeartbeats 4000000 in
theorem implSegmentRead_any (m t : ByteArray) (w : World) (hm : m.size ≤ maxLen) :
    Calls Try.prog 11 #[.string m, .string t] w fun e w' => (∃ n u c xs, e = .returned (.agg #[.string n, u, .int .i64 c]) ∧ OFlds w.heap.size w'.heap.size w' u xs ∧ segOut m t = (c, n, xs)) ∧ Below w.heap.size w w' := by
  obtain ⟨W, hW⟩ : ∃ W, W = w.alloc (.cells #[.string ⟨#[]⟩, .slice none 0 0, .int .i64 0] 35) := ⟨_, rfl⟩
  have HBW := hide (show Below w.heap.size w W by rw [hW]; exact (Below.refl _ _).alloc (Nat.le_refl _) _)
  have HWs := hide (show W.heap.size = w.heap.size + 1 by rw [hW]; simp)
  have HR2 := hide (show Row W w.heap.size 35 [.string ⟨#[]⟩, .slice none 0 0, .int .i64 0] by rw [hW]; exact row_new w [.string ⟨#[]⟩, .slice none 0 0, .int .i64 0] 35)
  go_enter Try.func11, Try.ntmps11
  go_wp2_with fail
  rw [← hW]
  clear hW
  refine (readCodeC_any m t _ hm).mono ?_
  rintro e Z ⟨rfl, hb1⟩
  have HZ := hide hb1
  have HRZ := hide (HR2.out.below hb1 HR2.out.lt)
  clear hb1
  by_cases h0 : readC m t = 0
  · have hmr : marksB m = true ∧ m.size ≤ 8000 ∧ t.size ≤ 8000 := by
      unfold readC at h0
      split at h0
      · omega
      · split at h0
        · exact ⟨by assumption, by omega, by omega⟩
        · omega
    have HMR := hide hmr
    have HO := hide (show segOut m t = (match segQ m t.data.toList with | some s => (0, s.1, s.2) | none => (3, ⟨#[]⟩, [])) from if_pos h0)
    clear hmr
    rw [h0]
    clear h0
    go_wp2_with fail
    refine (segmentR_any m t _ HMR.out.1 HMR.out.2.2).mono ?_
    rintro e Z1 ⟨⟨n, u, b, xs, rfl, hxs, hn3, hRb⟩, hb1⟩
    obtain ⟨p3, c3, rfl⟩ := OL.isSlice hxs
    have hba : Below Z1.heap.size Z1 (Z1.alloc (.cells #[.string n, .slice p3 xs.length c3] 33)) := (Below.refl _ _).alloc (Nat.le_refl _) _
    obtain ⟨Y, hY⟩ : ∃ Y, Y = Z1.alloc (.cells #[.string n, .slice p3 xs.length c3] 33) := ⟨_, rfl⟩
    have HRF := hide (show Row Y Z1.heap.size 33 [.string n, .slice p3 xs.length c3] by rw [hY]; exact row_new Z1 [.string n, .slice p3 xs.length c3] _)
    rw [← hY] at hba
    have HX := hide (show OFlds W.heap.size Y.heap.size Y (.slice p3 xs.length c3) xs from Keeps.wide HZ.out.size hba.size (Keeps.go (SameIn.ofBelow hba) hxs))
    have HRY := hide ((HRZ.out.below hb1 HRZ.out.lt).below hba (Nat.lt_of_lt_of_le HRZ.out.lt hb1.size))
    have HBY := hide (HBW.out.trans ((HZ.out.trans ((hb1.trans (hba.mono hb1.size)).mono HZ.out.size)).mono HBW.out.size))
    have HGZ := hide (show w.heap.size < Z1.heap.size by have h1 := HWs.out; have h2 := HZ.out.size; have h3 := hb1.size; omega)
    clear hba hb1 hxs hn3
    subst hY
    cases b with
    | false =>
      have HE := hide (show segOut m t = (3, ⟨#[]⟩, []) by rw [HO.out, hRb]; rfl)
      clear hRb
      have HRX := HRY
      have HBX := HBY
      have k0 : (Z1.alloc (.cells #[.string n, .slice p3 xs.length c3] 33)).cell? ⟨w.heap.size, 0, none⟩ = some (.string ⟨#[]⟩) := HRX.out.cell 0
      have k1 : (Z1.alloc (.cells #[.string n, .slice p3 xs.length c3] 33)).cell? ⟨w.heap.size, 1, none⟩ = some (.slice none 0 0) := HRX.out.cell 1
      have k2 : (Z1.alloc (.cells #[.string n, .slice p3 xs.length c3] 33)).cell? ⟨w.heap.size, 2, none⟩ = some (.int .i64 0) := HRX.out.cell 2
      have f0 := HRX.out.free 0
      have f1 := HRX.out.free 1
      have f2 := HRX.out.free 2
      obtain ⟨q0, q1, q2, KF, KS, KZ, KM⟩ := threeS HRX.out (.string ⟨#[]⟩) (.slice none 0 0) (.int .i64 3)
      have HBF := hide (KF w w.heap.size (Nat.le_refl _) HBX.out)
      have HKS := hide KS
      have HKZ := hide KZ
      have HKM := hide KM
      clear KF KS KZ KM
      go_wp2
      exact bodyPost_ret (v := .agg #[.string ⟨#[]⟩, .slice none 0 0, .int .i64 3]) (by simp [results, Try.results11, go_sem, q0, q1, q2]) rfl ⟨⟨⟨#[]⟩, _, _, _, rfl, oflds_nil _ _ _ _, HE.out⟩, HBF.out⟩
    | true =>
      have HE := hide (show segOut m t = (0, n, xs) by rw [HO.out, hRb]; rfl)
      clear hRb
      have HRX := HRY
      have HBX := HBY
      have k0 : (Z1.alloc (.cells #[.string n, .slice p3 xs.length c3] 33)).cell? ⟨w.heap.size, 0, none⟩ = some (.string ⟨#[]⟩) := HRX.out.cell 0
      have k1 : (Z1.alloc (.cells #[.string n, .slice p3 xs.length c3] 33)).cell? ⟨w.heap.size, 1, none⟩ = some (.slice none 0 0) := HRX.out.cell 1
      have k2 : (Z1.alloc (.cells #[.string n, .slice p3 xs.length c3] 33)).cell? ⟨w.heap.size, 2, none⟩ = some (.int .i64 0) := HRX.out.cell 2
      have f0 := HRX.out.free 0
      have f1 := HRX.out.free 1
      have f2 := HRX.out.free 2
      obtain ⟨q0, q1, q2, KF, KS, KZ, KM⟩ := threeS HRX.out (.string n) (.slice p3 xs.length c3) (.int .i64 0)
      have HBF := hide (KF w w.heap.size (Nat.le_refl _) HBX.out)
      have HKS := hide KS
      have HKZ := hide KZ
      have HKM := hide KM
      clear KF KS KZ KM
      go_wp2
      exact bodyPost_ret (v := .agg #[.string n, .slice p3 xs.length c3, .int .i64 0]) (by simp [results, Try.results11, go_sem, q0, q1, q2]) rfl ⟨⟨n, _, _, _, rfl, (by rw [HKZ.out]; exact Keeps.wide (by have := HWs.out; omega : w.heap.size ≤ W.heap.size) (Nat.le_refl _) (Keeps.go (HKS.out _ _ (.inl (by have := HWs.out; omega))) HX.out)), HE.out⟩, HBF.out⟩
  · have HE := hide (show segOut m t = (readC m t, ⟨#[]⟩, []) from if_neg h0)
    have hne : (readC m t != 0) = true := by simpa using h0
    have HBZ := hide (HBW.out.trans (HZ.out.mono HBW.out.size))
    generalize readC m t = cc at *
    clear h0
    have HRX := HRZ
    have HBX := HBZ
    have k0 : Z.cell? ⟨w.heap.size, 0, none⟩ = some (.string ⟨#[]⟩) := HRX.out.cell 0
    have k1 : Z.cell? ⟨w.heap.size, 1, none⟩ = some (.slice none 0 0) := HRX.out.cell 1
    have k2 : Z.cell? ⟨w.heap.size, 2, none⟩ = some (.int .i64 0) := HRX.out.cell 2
    have f0 := HRX.out.free 0
    have f1 := HRX.out.free 1
    have f2 := HRX.out.free 2
    obtain ⟨q0, q1, q2, KF, KS, KZ, KM⟩ := threeS HRX.out (.string ⟨#[]⟩) (.slice none 0 0) (.int .i64 cc)
    have HBF := hide (KF w w.heap.size (Nat.le_refl _) HBX.out)
    have HKS := hide KS
    have HKZ := hide KZ
    have HKM := hide KM
    clear KF KS KZ KM
    go_wp2
    exact bodyPost_ret (v := .agg #[.string ⟨#[]⟩, .slice none 0 0, .int .i64 cc]) (by simp [results, Try.results11, go_sem, q0, q1, q2]) rfl ⟨⟨⟨#[]⟩, _, _, _, rfl, oflds_nil _ _ _ _, HE.out⟩, HBF.out⟩

set_option maxHeartbeats 8000000 in
theorem specSegmentRead_any (m t : ByteArray) (w : World) (hm : m.size ≤ maxLen) :
    Calls Try.prog 10 #[.string m, .string t] w fun e w' => (∃ n u c xs, e = .returned (.agg #[.string n, u, .int .i64 c]) ∧ RFlds w.heap.size w' u xs ∧ segOut m t = (c, n, xs)) ∧ Below w.heap.size w w' := by
  obtain ⟨W, hW⟩ : ∃ W, W = w.alloc (.cells #[.string ⟨#[]⟩, .slice none 0 0, .int .i64 0] 35) := ⟨_, rfl⟩
  have HBW := hide (show Below w.heap.size w W by rw [hW]; exact (Below.refl _ _).alloc (Nat.le_refl _) _)
  have HWs := hide (show W.heap.size = w.heap.size + 1 by rw [hW]; simp)
  have HR2 := hide (show Row W w.heap.size 35 [.string ⟨#[]⟩, .slice none 0 0, .int .i64 0] by rw [hW]; exact row_new w [.string ⟨#[]⟩, .slice none 0 0, .int .i64 0] 35)
  by_cases h1 : 8000 < m.size
  · have HE := hide (show segOut m t = (2, ⟨#[]⟩, []) by unfold segOut; rw [readC_long (.inl h1)]; rfl)
    have h1i : (8000 : Int) < m.size := by omega
    clear HWs HR2
    subst hW
    go_enter Try.func10, Try.ntmps10
    go_wp2
    exact bodyPost_ret (v := .agg #[.string ⟨#[]⟩, .slice none 0 0, .int .i64 2]) (by simp [results, Try.results10, go_sem]) rfl ⟨by
      first
        | exact ⟨⟨#[]⟩, _, _, _, rfl, rflds_nil _ _ _, HE.out⟩
        | exact ⟨⟨#[]⟩, _, _, rfl, _, rflds_nil _ _ _, HE.out⟩
        | exact ⟨_, _, _, rfl, _, rflds_nil _ _ _, HE.out⟩
        | exact ⟨_, _, rfl, _, _, rflds_nil _ _ _, HE.out⟩, (Below.refl _ _).alloc (Nat.le_refl _) _⟩
  by_cases h2 : 8000 < t.size
  · have HE := hide (show segOut m t = (2, ⟨#[]⟩, []) by unfold segOut; rw [readC_long (.inr h2)]; rfl)
    have h1i : ¬ (8000 : Int) < m.size := by omega
    have h2i : (8000 : Int) < t.size := by omega
    clear HWs HR2
    subst hW
    go_enter Try.func10, Try.ntmps10
    go_wp2
    exact bodyPost_ret (v := .agg #[.string ⟨#[]⟩, .slice none 0 0, .int .i64 2]) (by simp [results, Try.results10, go_sem]) rfl ⟨by
      first
        | exact ⟨⟨#[]⟩, _, _, _, rfl, rflds_nil _ _ _, HE.out⟩
        | exact ⟨⟨#[]⟩, _, _, rfl, _, rflds_nil _ _ _, HE.out⟩
        | exact ⟨_, _, _, rfl, _, rflds_nil _ _ _, HE.out⟩
        | exact ⟨_, _, rfl, _, _, rflds_nil _ _ _, HE.out⟩, (Below.refl _ _).alloc (Nat.le_refl _) _⟩
  have h1i : ¬ (8000 : Int) < m.size := by omega
  have h2i : ¬ (8000 : Int) < t.size := by omega
  go_enter Try.func10, Try.ntmps10
  go_wp2_with fail
  rw [← hW]
  clear hW
  refine (specMarksRight_any _ _ hm).mono ?_
  rintro e w1 ⟨rfl, rfl⟩
  cases hq : marksB m
  · have HE := hide (show segOut m t = (1, ⟨#[]⟩, []) by unfold segOut; rw [readC_no h1 h2 hq]; rfl)
    clear hq h1 h2
    have HRX := HR2
    have HBX := HBW
    have k0 : w1.cell? ⟨w.heap.size, 0, none⟩ = some (.string ⟨#[]⟩) := HRX.out.cell 0
    have k1 : w1.cell? ⟨w.heap.size, 1, none⟩ = some (.slice none 0 0) := HRX.out.cell 1
    have k2 : w1.cell? ⟨w.heap.size, 2, none⟩ = some (.int .i64 0) := HRX.out.cell 2
    have f0 := HRX.out.free 0
    have f1 := HRX.out.free 1
    have f2 := HRX.out.free 2
    obtain ⟨q0, q1, q2, KF, KS, KZ, KM⟩ := threeS HRX.out (.string ⟨#[]⟩) (.slice none 0 0) (.int .i64 1)
    have HBF := hide (KF w w.heap.size (Nat.le_refl _) HBX.out)
    have HKS := hide KS
    have HKZ := hide KZ
    have HKM := hide KM
    clear KF KS KZ KM
    go_wp2
    exact bodyPost_ret (v := .agg #[.string ⟨#[]⟩, .slice none 0 0, .int .i64 1]) (by simp [results, Try.results10, go_sem, q0, q1, q2]) rfl ⟨⟨⟨#[]⟩, _, _, _, rfl, rflds_nil _ _ _, HE.out⟩, HBF.out⟩
  have hm5 : m.size = 5 := marks_five hq
  have HMB := hide hq
  have HO := hide (show segOut m t = (match segQ m t.data.toList with | some s => (0, s.1, s.2) | none => (3, ⟨#[]⟩, [])) by unfold segOut; rw [readC_ok h1 h2 hq]; rfl)
  have HT8 := hide (show t.data.toList.length ≤ 8000 by
    have ht0 : t.data.toList.length = t.size := by simp
    omega)
  go_wp2_with fail
  refine (l04ReadSeg_any m t _ hm5 (by omega)).mono ?_
  rintro e w2 ⟨hq2, hb2⟩
  have HB2 := hide (HBW.out.trans (hb2.mono HBW.out.size))
  have HRW2 := hide (HR2.out.below hb2 HR2.out.lt)
  obtain ⟨QM, hQM⟩ : ∃ QM, QM = segMd m t.data.toList := ⟨_, rfl⟩
  rw [← hQM] at hq2
  have HQM := hide hQM
  have HG2 := hide (show w.heap.size + 1 ≤ w2.heap.size by have h1 := HWs.out; have h2 := hb2.size; omega)
  clear hb2 hQM hq h1 h2
  cases QM with
  | none =>
    obtain ⟨n', rfl⟩ := hq2
    have HE := hide (show segOut m t = (3, ⟨#[]⟩, []) by rw [HO.out, segQ_none HMB.out HQM.out.symm])
    obtain ⟨V, hV⟩ : ∃ V, V = w2.alloc (.cells #[.string n', .slice none 0 0] 33) := ⟨_, rfl⟩
    have HV1 := hide (show Below w2.heap.size w2 V by rw [hV]; exact (Below.refl _ _).alloc (Nat.le_refl _) _)
    have HBV := hide (HB2.out.trans (HV1.out.mono HB2.out.size))
    have HRW3 := hide (HRW2.out.below HV1.out HRW2.out.lt)
    subst hV
    have HRX := HRW3
    have HBX := HBV
    have k0 : (w2.alloc (.cells #[.string n', .slice none 0 0] 33)).cell? ⟨w.heap.size, 0, none⟩ = some (.string ⟨#[]⟩) := HRX.out.cell 0
    have k1 : (w2.alloc (.cells #[.string n', .slice none 0 0] 33)).cell? ⟨w.heap.size, 1, none⟩ = some (.slice none 0 0) := HRX.out.cell 1
    have k2 : (w2.alloc (.cells #[.string n', .slice none 0 0] 33)).cell? ⟨w.heap.size, 2, none⟩ = some (.int .i64 0) := HRX.out.cell 2
    have f0 := HRX.out.free 0
    have f1 := HRX.out.free 1
    have f2 := HRX.out.free 2
    obtain ⟨q0, q1, q2, KF, KS, KZ, KM⟩ := threeS HRX.out (.string ⟨#[]⟩) (.slice none 0 0) (.int .i64 3)
    have HBF := hide (KF w w.heap.size (Nat.le_refl _) HBX.out)
    have HKS := hide KS
    have HKZ := hide KZ
    have HKM := hide KM
    clear KF KS KZ KM
    go_wp2
    exact bodyPost_ret (v := .agg #[.string ⟨#[]⟩, .slice none 0 0, .int .i64 3]) (by simp [results, Try.results10, go_sem, q0, q1, q2]) rfl ⟨⟨⟨#[]⟩, _, _, _, rfl, rflds_nil _ _ _, HE.out⟩, HBF.out⟩
  | some sf =>
    obtain ⟨n, F⟩ := sf
    obtain ⟨p2, c2, rfl, hrf⟩ := hq2
    have HF2 := hide (show RFlds (w.heap.size + 1) w2 (.slice p2 F.length c2) F from RFlds.mono hrf (by have := HWs.out; omega))
    have HFT := hide (show Fits F from segMd_fits HT8.out HQM.out.symm)
    have HQY := hide (fun (a : segB n F = true) (b : segT m n F = t.data.toList) => segQ_yes HMB.out HQM.out.symm a b)
    have HQN := hide (fun (a : ¬ (segB n F = true ∧ segT m n F = t.data.toList)) => segQ_no HMB.out HQM.out.symm a)
    clear hrf HQM
    obtain ⟨V, hV⟩ : ∃ V, V = w2.alloc (.cells #[.string n, .slice p2 F.length c2] 33) := ⟨_, rfl⟩
    have HV1 := hide (show Below w2.heap.size w2 V by rw [hV]; exact (Below.refl _ _).alloc (Nat.le_refl _) _)
    have HRV := hide (show Row V w2.heap.size 33 [.string n, .slice p2 F.length c2] by rw [hV]; exact row_new w2 [.string n, .slice p2 F.length c2] 33)
    have HBV := hide (HB2.out.trans (HV1.out.mono HB2.out.size))
    have HRW3 := hide (HRW2.out.below HV1.out HRW2.out.lt)
    have HF3 := hide (HF2.out.below HV1.out)
    go_wp2_with fail
    rw [← hV]
    obtain ⟨G, hG⟩ : ∃ G, G = w2.heap.size := ⟨_, rfl⟩
    rw [← hG] at HRV HG2
    try rw [← hG]
    clear hV hG
    refine (specSegment_any n _ F (w.heap.size + 1) _ HFT.out HF3.out).mono ?_
    rintro e w4 ⟨rfl, hb4⟩
    have HB4 := hide (HBV.out.trans (hb4.mono HBV.out.size))
    have HRW4 := hide (HRW3.out.below hb4 HRW3.out.lt)
    have HRV4 := hide (HRV.out.below hb4 HRV.out.lt)
    have HF4 := hide (HF3.out.below hb4)
    have g4 : w4.cell? ⟨G, 0, none⟩ = some (.string n) := HRV4.out.cell 0
    have g5 : w4.cell? ⟨G, 1, none⟩ = some (.slice p2 F.length c2) := HRV4.out.cell 1
    clear hb4
    cases hb : segB n F
    · have HE := hide (show segOut m t = (3, ⟨#[]⟩, []) by rw [HO.out, HQN.out (fun h => by rw [hb] at h; cases h.1)])
      clear hb
      have HRX := HRW4
      have HBX := HB4
      have k0 : w4.cell? ⟨w.heap.size, 0, none⟩ = some (.string ⟨#[]⟩) := HRX.out.cell 0
      have k1 : w4.cell? ⟨w.heap.size, 1, none⟩ = some (.slice none 0 0) := HRX.out.cell 1
      have k2 : w4.cell? ⟨w.heap.size, 2, none⟩ = some (.int .i64 0) := HRX.out.cell 2
      have f0 := HRX.out.free 0
      have f1 := HRX.out.free 1
      have f2 := HRX.out.free 2
      obtain ⟨q0, q1, q2, KF, KS, KZ, KM⟩ := threeS HRX.out (.string ⟨#[]⟩) (.slice none 0 0) (.int .i64 3)
      have HBF := hide (KF w w.heap.size (Nat.le_refl _) HBX.out)
      have HKS := hide KS
      have HKZ := hide KZ
      have HKM := hide KM
      clear KF KS KZ KM
      go_wp2
      exact bodyPost_ret (v := .agg #[.string ⟨#[]⟩, .slice none 0 0, .int .i64 3]) (by simp [results, Try.results10, go_sem, q0, q1, q2]) rfl ⟨⟨⟨#[]⟩, _, _, _, rfl, rflds_nil _ _ _, HE.out⟩, HBF.out⟩
    go_wp2_with fail
    refine (l04Seg_any m n _ F _ hm5 hb (RFlds.mono HF4.out (Nat.zero_le _))).mono ?_
    rintro e w5 ⟨rfl, hb5⟩
    have HB5 := hide (HB4.out.trans (hb5.mono HB4.out.size))
    have HRW5 := hide (HRW4.out.below hb5 HRW4.out.lt)
    have HRV5 := hide (HRV4.out.below hb5 HRV4.out.lt)
    have HF5 := hide (HF4.out.below hb5)
    have g6 : w5.cell? ⟨G, 0, none⟩ = some (.string n) := HRV5.out.cell 0
    have g7 : w5.cell? ⟨G, 1, none⟩ = some (.slice p2 F.length c2) := HRV5.out.cell 1
    clear hb5 g4 g5
    obtain ⟨TX, hTX⟩ : ∃ TX : ByteArray, TX = ⟨(segT m n F).toArray⟩ := ⟨_, rfl⟩
    have HTX := hide (show TX.data.toList = segT m n F by rw [hTX])
    rw [← hTX]
    clear hTX
    by_cases heq : TX = t
    · subst heq
      have HE := hide (show segOut m TX = (0, n, F) by rw [HO.out, HQY.out hb HTX.out.symm])
      clear hb
      have HRX := HRW5
      have HBX := HB5
      have k0 : w5.cell? ⟨w.heap.size, 0, none⟩ = some (.string ⟨#[]⟩) := HRX.out.cell 0
      have k1 : w5.cell? ⟨w.heap.size, 1, none⟩ = some (.slice none 0 0) := HRX.out.cell 1
      have k2 : w5.cell? ⟨w.heap.size, 2, none⟩ = some (.int .i64 0) := HRX.out.cell 2
      have f0 := HRX.out.free 0
      have f1 := HRX.out.free 1
      have f2 := HRX.out.free 2
      obtain ⟨q0, q1, q2, KF, KS, KZ, KM⟩ := threeS HRX.out (.string n) (.slice p2 F.length c2) (.int .i64 0)
      have HBF := hide (KF w w.heap.size (Nat.le_refl _) HBX.out)
      have HKS := hide KS
      have HKZ := hide KZ
      have HKM := hide KM
      clear KF KS KZ KM
      go_wp2
      exact bodyPost_ret (v := .agg #[.string n, .slice p2 F.length c2, .int .i64 0]) (by simp [results, Try.results10, go_sem, q0, q1, q2]) rfl ⟨⟨n, _, _, _, rfl, RFlds.mono (Lasts.go (B := w.heap.size + 1) (HKM.out _ (by omega)) HF5.out) (Nat.le_succ _), HE.out⟩, HBF.out⟩
    · have HE := hide (show segOut m t = (3, ⟨#[]⟩, []) by
        rw [HO.out, HQN.out (fun h => heq (ByteArray.ext (Array.ext' (by rw [HTX.out, h.2]))))])
      have he3 := toList_neF heq
      clear heq hb
      have HRX := HRW5
      have HBX := HB5
      have k0 : w5.cell? ⟨w.heap.size, 0, none⟩ = some (.string ⟨#[]⟩) := HRX.out.cell 0
      have k1 : w5.cell? ⟨w.heap.size, 1, none⟩ = some (.slice none 0 0) := HRX.out.cell 1
      have k2 : w5.cell? ⟨w.heap.size, 2, none⟩ = some (.int .i64 0) := HRX.out.cell 2
      have f0 := HRX.out.free 0
      have f1 := HRX.out.free 1
      have f2 := HRX.out.free 2
      obtain ⟨q0, q1, q2, KF, KS, KZ, KM⟩ := threeS HRX.out (.string ⟨#[]⟩) (.slice none 0 0) (.int .i64 3)
      have HBF := hide (KF w w.heap.size (Nat.le_refl _) HBX.out)
      have HKS := hide KS
      have HKZ := hide KZ
      have HKM := hide KM
      clear KF KS KZ KM
      go_wp2
      exact bodyPost_ret (v := .agg #[.string ⟨#[]⟩, .slice none 0 0, .int .i64 3]) (by simp [results, Try.results10, go_sem, q0, q1, q2]) rfl ⟨⟨⟨#[]⟩, _, _, _, rfl, rflds_nil _ _ _, HE.out⟩, HBF.out⟩

set_option maxHeartbeats 1000000 in
theorem eqSegmentOut_same (R : SOut) (u u' : Value) (B B' : Nat) (w : World) (hn : wFlds R.2.2 ≤ 1048576) (hr : RFlds B w u R.2.2) (hr' : RFlds B' w u' R.2.2) :
    Calls Try.prog 12 #[soV R u, soV R u'] w fun e w' => e = .returned (.bool true) ∧ Below w.heap.size w w' := by
  obtain ⟨code, n, x⟩ := R
  dsimp only [soV] at *
  have HR := hide hr
  have HR' := hide hr'
  obtain ⟨p, c, rfl⟩ := hr.isSlice
  obtain ⟨p', c', rfl⟩ := hr'.isSlice
  clear hr hr'
  have HB0 := hide (((Below.refl w.heap.size w).alloc (Nat.le_refl _) (.cells #[.string n, .slice p x.length c, .int .i64 code] 35)).alloc (by simp) (.cells #[.string n, .slice p' x.length c', .int .i64 code] 35))
  have HRa := hide ((row_new w [.string n, .slice p x.length c, .int .i64 code] 35).alloc (.cells #[.string n, .slice p' x.length c', .int .i64 code] 35))
  have HRb : Hid (Row ((w.alloc (.cells #[.string n, .slice p x.length c, .int .i64 code] 35)).alloc (.cells #[.string n, .slice p' x.length c', .int .i64 code] 35)) (w.heap.size + 1) 35 [.string n, .slice p' x.length c', .int .i64 code]) := hide (by
    have := row_new (w.alloc (.cells #[.string n, .slice p x.length c, .int .i64 code] 35)) [.string n, .slice p' x.length c', .int .i64 code] 35
    simpa using this)
  go_enter Try.func12, Try.ntmps12
  go_wp2_with fail
  refine (eqSegment_same n _ _ x B B' _ hn (HR.out.below HB0.out) (HR'.out.below HB0.out)).mono ?_
  rintro e w1 ⟨rfl, hb1⟩
  have Ra := HRa.out.below hb1 HRa.out.lt
  have Rb := HRb.out.below hb1 HRb.out.lt
  have a3 : w1.cell? ⟨w.heap.size, 2, none⟩ = some (.int .i64 code) := Ra.cell 2
  have b3 : w1.cell? ⟨w.heap.size + 1, 2, none⟩ = some (.int .i64 code) := Rb.cell 2
  have HB := hide (HB0.out.trans (hb1.mono (by simp; omega)))
  clear hb1 Ra Rb
  go_wp2
  go_ret
  exact ⟨rfl, HB.out⟩
set_option maxHeartbeats 1000000 in
theorem markSegment_own (lo hi : Nat) (n : ByteArray) (xs : Flds) (v : Value) (k : Nat) (w : World) (hn : wFlds xs ≤ 1048576) (hk : k + wFlds xs ≤ 4000000) (hr : OFlds lo hi w v xs) :
    Calls Try.prog 29 #[.agg #[.string n, v], .int .i64 (k : Int)] w fun e w' => e = .returned (.int .i64 ((k + cntFs xs : Nat) : Int)) ∧ OFlds lo hi w' v (mkFs k xs) ∧ Within lo hi w w' := by
  obtain ⟨p, c, rfl⟩ := OL.isSlice hr
  have hb0 : Below w.heap.size w (w.alloc (.cells #[.string n, .slice p xs.length c] 33)) := (Below.refl _ _).alloc (Nat.le_refl _) _
  have HB0 := hide hb0
  have HR := hide (Keeps.go (SameIn.ofBelow hb0) hr)
  clear hr hb0
  go_enter Try.func29, Try.ntmps29
  go_wp2_with fail
  refine (markFieldS_own lo hi _ xs k _ hn hk HR.out).mono ?_
  rintro e w1 ⟨rfl, hok, hw⟩
  have HO := hide hok
  have HW := hide ((Within.ofBelow HB0.out).trans hw)
  clear hok hw
  go_wp2
  go_ret
  exact ⟨rfl, HO.out, HW.out⟩
set_option maxHeartbeats 1000000 in
theorem markSegmentOut_own (lo hi : Nat) (R : SOut) (v : Value) (k : Nat) (w : World) (hn : wFlds R.2.2 ≤ 1048576) (hk : k + wFlds R.2.2 ≤ 4000000) (hr : OFlds lo hi w v R.2.2) :
    Calls Try.prog 13 #[soV R v, .int .i64 (k : Int)] w fun e w' => e = .returned (.int .i64 ((k + cntFs R.2.2 : Nat) : Int)) ∧ OFlds lo hi w' v (mkFs k R.2.2) ∧ Within lo hi w w' := by
  obtain ⟨code, n, xs⟩ := R
  dsimp only [soV] at *
  obtain ⟨p, c, rfl⟩ := OL.isSlice hr
  have hb0 : Below w.heap.size w (w.alloc (.cells #[.string n, .slice p xs.length c, .int .i64 code] 35)) := (Below.refl _ _).alloc (Nat.le_refl _) _
  have HB0 := hide hb0
  have HR := hide (Keeps.go (SameIn.ofBelow hb0) hr)
  clear hr hb0
  go_enter Try.func13, Try.ntmps13
  go_wp2_with fail
  refine (markSegment_own lo hi n xs _ k _ hn hk HR.out).mono ?_
  rintro e w1 ⟨rfl, hok, hw⟩
  have HO := hide hok
  have HW := hide ((Within.ofBelow HB0.out).trans hw)
  clear hok hw
  go_wp2
  go_ret
  exact ⟨rfl, HO.out, HW.out⟩
set_option maxHeartbeats 1000000 in
theorem heldSegment_own (lo hi : Nat) (n : ByteArray) (xs : Flds) (v : Value) (k : Nat) (w : World) (hn : wFlds xs ≤ 1048576) (hk : k + wFlds xs ≤ 4000000) (hr : OFlds lo hi w v (mkFs k xs)) :
    Calls Try.prog 30 #[.agg #[.string n, v], .int .i64 (k : Int)] w fun e w' => e = .returned (.int .i64 ((k + cntFs xs : Nat) : Int)) ∧ Below w.heap.size w w' := by
  have hml : (mkFs k xs).length = xs.length := mkL_len cntF mkF xs k
  obtain ⟨p, c, hv⟩ := OL.isSlice hr
  rw [hml] at hv
  subst hv
  clear hml
  have hb0 : Below w.heap.size w (w.alloc (.cells #[.string n, .slice p xs.length c] 33)) := (Below.refl _ _).alloc (Nat.le_refl _) _
  have HB0 := hide hb0
  have HR := hide (Keeps.go (SameIn.ofBelow hb0) hr)
  clear hr hb0
  go_enter Try.func30, Try.ntmps30
  go_wp2_with fail
  refine (heldFieldS_own lo hi _ xs k _ hn hk HR.out).mono ?_
  rintro e w1 ⟨rfl, hb⟩
  have HB := hide (HB0.out.trans (hb.mono HB0.out.size))
  have hpos : ¬ (((k + cntFs xs : Nat) : Int)) < 0 := by omega
  have hpos2 : ¬ (((k + cntL cntF xs : Nat) : Int)) < 0 := hpos
  clear hb
  go_wp2
  go_ret
  exact ⟨rfl, HB.out⟩
set_option maxHeartbeats 1000000 in
theorem heldSegmentOut_own (lo hi : Nat) (R : SOut) (v : Value) (k : Nat) (w : World) (hn : wFlds R.2.2 ≤ 1048576) (hk : k + wFlds R.2.2 ≤ 4000000) (hr : OFlds lo hi w v (mkFs k R.2.2)) :
    Calls Try.prog 14 #[soV R v, .int .i64 (k : Int)] w fun e w' => e = .returned (.int .i64 ((k + cntFs R.2.2 : Nat) : Int)) ∧ Below w.heap.size w w' := by
  obtain ⟨code, n, xs⟩ := R
  dsimp only [soV] at *
  have hml : (mkFs k xs).length = xs.length := mkL_len cntF mkF xs k
  obtain ⟨p, c, hv⟩ := OL.isSlice hr
  rw [hml] at hv
  subst hv
  clear hml
  have hb0 : Below w.heap.size w (w.alloc (.cells #[.string n, .slice p xs.length c, .int .i64 code] 35)) := (Below.refl _ _).alloc (Nat.le_refl _) _
  have HB0 := hide hb0
  have HR := hide (Keeps.go (SameIn.ofBelow hb0) hr)
  clear hr hb0
  go_enter Try.func14, Try.ntmps14
  go_wp2_with fail
  refine (heldSegment_own lo hi n xs _ k _ hn hk HR.out).mono ?_
  rintro e w1 ⟨rfl, hb⟩
  have HB := hide (HB0.out.trans (hb.mono HB0.out.size))
  have hpos : ¬ (((k + cntFs xs : Nat) : Int)) < 0 := by omega
  have hpos2 : ¬ (((k + cntL cntF xs : Nat) : Int)) < 0 := hpos
  clear hb
  go_wp2
  go_ret
  exact ⟨rfl, HB.out⟩
end Go.Proofs.Ytckcfjibiidafaa
