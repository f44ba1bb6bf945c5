/- FieldRead of the model, and the law of FieldRead. -/
import Derived.Test.YtckcfjibiidafaaXG28OSpecR
import Derived.Test.YtckcfjibiidafaaXG13OTree
import Derived.Test.YtckcfjibiidafaaXG26FPartR
namespace Go.Proofs.Ytckcfjibiidafaa
open Go.RowKit
theorem OFld.isSlice {lo hi : Nat} {w : World} {v : Value} {x : List (List (List ByteArray))} (h : OFld lo hi w v x) : ∃ p c, v = .slice p x.length c := OL.isSlice h
set_option maxHeartbeats 1000000 in
theorem markField_own (lo hi : Nat) (v : Value) (x : List (List (List ByteArray))) (k : Nat) (w : World) (hn : wFld x ≤ 1048576) (hk : k + wFld x ≤ 4000000) (hr : OFld lo hi w v x) :
    Calls Try.prog 22 #[.agg #[v], .int .i64 (k : Int)] w fun e w' => e = .returned (.int .i64 ((k + cntF x : Nat) : Int)) ∧ OFld lo hi w' v (mkF k x) ∧ Within lo hi w w' := by
  obtain ⟨p, c, rfl⟩ := OL.isSlice hr
  have hb0 : Below w.heap.size w (w.alloc (.cells #[.slice p x.length c] 24)) := (Below.refl _ _).alloc (Nat.le_refl _) _
  have HB0 := hide hb0
  have HR := hide (Keeps.go (SameIn.ofBelow hb0) hr)
  clear hr hb0
  go_enter Try.func22, Try.ntmps22
  go_wp2_with fail
  refine (markRepS_own lo hi _ x k _ hn hk HR.out).mono ?_
  rintro e w1 ⟨rfl, hok, hw⟩
  have HO := hide hok
  have HW := hide ((Within.ofBelow HB0.out).trans hw)
  clear hok hw
  go_wp2
  go_ret
  exact ⟨rfl, HO.out, HW.out⟩
set_option maxHeartbeats 1000000 in
theorem heldField_own (lo hi : Nat) (v : Value) (x : List (List (List ByteArray))) (k : Nat) (w : World) (hn : wFld x ≤ 1048576) (hk : k + wFld x ≤ 4000000) (hr : OFld lo hi w v (mkF k x)) :
    Calls Try.prog 23 #[.agg #[v], .int .i64 (k : Int)] w fun e w' => e = .returned (.int .i64 ((k + cntF x : Nat) : Int)) ∧ Below w.heap.size w w' := by
  have hml : (mkF k x).length = x.length := mkL_len cntR mkR x k
  obtain ⟨p, c, hv⟩ := OL.isSlice hr
  rw [hml] at hv
  subst hv
  clear hml
  have hb0 : Below w.heap.size w (w.alloc (.cells #[.slice p x.length c] 24)) := (Below.refl _ _).alloc (Nat.le_refl _) _
  have HB0 := hide hb0
  have HR := hide (Keeps.go (SameIn.ofBelow hb0) hr)
  clear hr hb0
  go_enter Try.func23, Try.ntmps23
  go_wp2_with fail
  refine (heldRepS_own lo hi _ x k _ hn hk HR.out).mono ?_
  rintro e w1 ⟨rfl, hb⟩
  have HB := hide (HB0.out.trans (hb.mono HB0.out.size))
  have hpos : ¬ (((k + cntL cntR x : Nat) : Int)) < 0 := by omega
  clear hb
  go_wp2
  go_ret
  exact ⟨rfl, HB.out⟩

theorem marks_five {m : ByteArray} (h : marksB m = true) : m.size = 5 := Classical.byContradiction (fun hn => by rw [marksB_size m hn] at h; cases h)
theorem fldQ_yes {m : ByteArray} {L : List UInt8} (h : marksB m = true) (hb : fldB (fldM m L) = true) (ht : fldT m (fldM m L) = L) : fldQ m L = some (fldM m L) := by
  have := (fldP_iff h L _).2 ⟨hb, ht⟩
  unfold fldQ
  rw [this.1]
  simp [hb]
theorem fldQ_no {m : ByteArray} {L : List UInt8} (h : marksB m = true) (hn : ¬ (fldB (fldM m L) = true ∧ fldT m (fldM m L) = L)) : fldQ m L = none := by
  cases hq : fldQ m L with
  | none => rfl
  | some g =>
    exfalso
    unfold fldQ at hq
    obtain ⟨f, hf, hg⟩ := Option.bind_eq_some_iff.1 hq
    by_cases hb : fldB f = true
    · have h1 := (fldP_iff h L f).1 ⟨hf, hb⟩
      have h2 := (fldM_iff h L f).2 h1
      rw [h2.1] at hn
      exact hn h1
    · rw [if_neg hb] at hg
      cases hg
theorem trimR_sub {α : Type} (emp : α → Bool) : ∀ xs : List α, (trimR emp xs).length ≤ xs.length ∧ ∀ x ∈ trimR emp xs, x ∈ xs
  | [] => ⟨Nat.le_refl _, fun x h => h⟩
  | y :: r => by
    obtain ⟨h1, h2⟩ := trimR_sub emp r
    rw [trimR]
    cases hr : trimR emp r with
    | nil =>
      by_cases he : emp y = true
      · simp [he]
      · simp [he]
    | cons z t =>
      rw [hr] at h1 h2
      refine ⟨by simp only [List.length_cons] at h1 ⊢; omega, fun x hx => ?_⟩
      rcases List.mem_cons.1 hx with rfl | hx
      · exact List.mem_cons_self
      · exact List.mem_cons_of_mem _ (h2 x hx)
theorem cutM_small {β : Type} (emp : β → Bool) (c : UInt8) (rd : List UInt8 → β) (L : List UInt8) : (trimR emp ((cutL c L).map rd)).length ≤ L.length + 1 ∧ ∀ x ∈ trimR emp ((cutL c L).map rd), ∃ p, p.length ≤ L.length ∧ x = rd p := by
  obtain ⟨h1, h2⟩ := trimR_sub emp ((cutL c L).map rd)
  obtain ⟨h3, h4⟩ := cutL_len c L
  refine ⟨by rw [List.length_map] at h1; omega, fun x hx => ?_⟩
  obtain ⟨p, hp, rfl⟩ := List.mem_map.1 (h2 x hx)
  exact ⟨p, h4 p hp, rfl⟩
theorem fldM_small (m : ByteArray) (L : List UInt8) (hL : L.length ≤ 8000) :
    (fldM m L).length ≤ 1048576 ∧ (∀ i (h : i < (fldM m L).length), (fldM m L)[i].length ≤ 1048576) ∧ ∀ i (h : i < (fldM m L).length) j (hj : j < (fldM m L)[i].length), (fldM m L)[i][j].length ≤ 1048576 := by
  obtain ⟨h1, h2⟩ := cutM_small empL (bAt m 2) (repM m) L
  refine ⟨by show (trimR empL ((cutL (bAt m 2) L).map (repM m))).length ≤ _; omega, fun i hi => ?_, fun i hi j hj => ?_⟩
  · obtain ⟨p, hp, e⟩ := h2 _ (List.getElem_mem hi)
    have e2 : (fldM m L)[i] = repM m p := e
    rw [e2]
    have := (cutM_small empL (bAt m 1) (compM m) p).1
    show (trimR empL ((cutL (bAt m 1) p).map (compM m))).length ≤ _
    omega
  · obtain ⟨p, hp, e⟩ := h2 _ (List.getElem_mem hi)
    have e2 : (fldM m L)[i] = repM m p := e
    have hm : (fldM m L)[i][j] ∈ repM m p := by rw [← e2]; exact List.getElem_mem hj
    obtain ⟨q, hq, e3⟩ := (cutM_small empL (bAt m 1) (compM m) p).2 _ hm
    rw [e3]
    have := (cutM_small empS (bAt m 4) (subM m) q).1
    show (trimR empS ((cutL (bAt m 4) q).map (subM m))).length ≤ _
    omega
theorem sum_le {α : Type} (f : α → Nat) (c : Nat) : ∀ xs : List α, (∀ x ∈ xs, f x ≤ c) → (xs.map f).sum ≤ xs.length * c
  | [], _ => by simp
  | x :: r, h => by
    have h1 := h x List.mem_cons_self
    have h2 := sum_le f c r (fun y hy => h y (List.mem_cons_of_mem _ hy))
    simp only [List.map_cons, List.sum_cons, List.length_cons, Nat.succ_mul]
    omega
theorem right_w {α : Type} {f emp : α → Bool} {w : α → Nat} {most c : Nat} (hw : ∀ x, f x = true → w x ≤ c) {xs : List α} (h : rightB f emp most xs = true) : wL w xs ≤ most + most * c := by
  have hp := right_parts h
  have hl : xs.length ≤ most := by
    simp only [rightB, Bool.and_eq_true, decide_eq_true_eq] at h
    exact h.1.2
  have hs := sum_le w c xs (fun x hx => hw x (hp.1 x hx))
  have := Nat.mul_le_mul_right c hl
  unfold wL
  omega
theorem fldB_w {x : List (List (List ByteArray))} (h : fldB x = true) : wFld x ≤ 1048576 := by
  have h1 : ∀ s : ByteArray, subB s = true → s.size ≤ 60 := fun s hs => by
    simp only [subB, Bool.and_eq_true, decide_eq_true_eq] at hs; omega
  have h2 : ∀ c : List ByteArray, compB c = true → wComp c ≤ 305 := fun c hc => right_w h1 hc
  have h3 : ∀ r : List (List ByteArray), repB r = true → wRep r ≤ 3060 := fun r hr => right_w h2 hr
  have h4 : wFld x ≤ 15305 := right_w h3 h
  omega
theorem fldQ_w {m : ByteArray} {L : List UInt8} {f : List (List (List ByteArray))} (h : fldQ m L = some f) : wFld f ≤ 1048576 := by
  unfold fldQ at h
  obtain ⟨g, _, hg⟩ := Option.bind_eq_some_iff.1 h
  by_cases hb : fldB g = true
  · rw [if_pos hb] at hg
    cases hg
    exact fldB_w hb
  · rw [if_neg hb] at hg
    cases hg
theorem fldOut_w (m t : ByteArray) : wFld (fldOut m t).2 ≤ 1048576 := by
  unfold fldOut
  split
  · split
    · rename_i f hf
      exact fldQ_w hf
    · simp [wFld, wL]
  · simp [wFld, wL]
theorem rfld_nil (B : Nat) (w : World) (p : Option Addr) : RFld B w (.slice p 0 0) [] := ⟨p, 0, rfl, Nat.le_refl _, Nat.zero_le _, fun h => absurd h (Nat.lt_irrefl 0)⟩
def foF (R : Int × List (List (List ByteArray))) (u : Value) : Value := .agg #[u, .int .i64 R.1]
theorem _root_.Go.Proofs.Ytckcfjibiidafaa.RFld.isSlice2 {B : Nat} {w : World} {v : Value} {x : List (List (List ByteArray))} (h : RFld B w v x) : ∃ p c, v = .slice p x.length c := RL.isSlice h

set_option maxHeartbeats 4000000 in
theorem specFieldRead_any (m t : ByteArray) (w : World) (hm : m.size ≤ maxLen) :
    Calls Try.prog 5 #[.string m, .string t] w fun e w' => (∃ u c xs, e = .returned (.agg #[u, .int .i64 c]) ∧ RFld w.heap.size w' u xs ∧ fldOut m t = (c, xs)) ∧ Below w.heap.size w w' := by
  obtain ⟨W, hW⟩ : ∃ W, W = w.alloc (.cells #[.slice none 0 0, .int .i64 0] 26) := ⟨_, rfl⟩
  have HBW := hide (show Below w.heap.size w W by rw [hW]; exact (Below.refl _ _).alloc (Nat.le_refl _) _)
  have HWs := hide (show W.heap.size = w.heap.size + 1 by rw [hW]; simp)
  have HR2 := hide (show Row W w.heap.size 26 [.slice none 0 0, .int .i64 0] by rw [hW]; exact row_new w [.slice none 0 0, .int .i64 0] 26)
  by_cases h1 : 8000 < m.size
  · have HE := hide (show fldOut m t = (2, []) by unfold fldOut; rw [readC_long (.inl h1)]; rfl)
    have h1i : (8000 : Int) < m.size := by omega
    clear HWs
    subst hW
    go_enter Try.func5, Try.ntmps5
    go_wp2
    refine bodyPost_ret (v := .agg #[.slice none 0 0, .int .i64 2]) (by simp [results, Try.results5, go_sem]) rfl ⟨?_, (Below.refl _ _).alloc (Nat.le_refl _) _⟩
    first
      | exact ⟨_, _, _, rfl, rfld_nil _ _ _, HE.out⟩
      | exact ⟨_, _, rfl, _, rfld_nil _ _ _, HE.out⟩
  by_cases h2 : 8000 < t.size
  · have HE := hide (show fldOut m t = (2, []) by unfold fldOut; rw [readC_long (.inr h2)]; rfl)
    have h1i : ¬ (8000 : Int) < m.size := by omega
    have h2i : (8000 : Int) < t.size := by omega
    clear HWs
    subst hW
    go_enter Try.func5, Try.ntmps5
    go_wp2
    refine bodyPost_ret (v := .agg #[.slice none 0 0, .int .i64 2]) (by simp [results, Try.results5, go_sem]) rfl ⟨?_, (Below.refl _ _).alloc (Nat.le_refl _) _⟩
    first
      | exact ⟨_, _, _, rfl, rfld_nil _ _ _, HE.out⟩
      | exact ⟨_, _, rfl, _, rfld_nil _ _ _, HE.out⟩
  have h1i : ¬ (8000 : Int) < m.size := by omega
  have h2i : ¬ (8000 : Int) < t.size := by omega
  go_enter Try.func5, Try.ntmps5
  go_wp2_with fail
  rw [← hW]
  clear hW
  refine (specMarksRight_any _ _ hm).mono ?_
  rintro e w1 ⟨rfl, rfl⟩
  cases hq : marksB m
  · have HE := hide (show fldOut m t = (1, []) by unfold fldOut; rw [readC_no h1 h2 hq]; rfl)
    clear hq h1 h2
    have HRX := HR2
    have HBX := HBW
    have k0 : w1.cell? ⟨w.heap.size, 0, none⟩ = some (.slice none 0 0) := HRX.out.cell 0
    have k1 : w1.cell? ⟨w.heap.size, 1, none⟩ = some (.int .i64 0) := HRX.out.cell 1
    have f0 := HRX.out.free 0
    have f1 := HRX.out.free 1
    have t2 := (HRX.out.set (j := 0) (.slice none 0 0)).set (j := 1) (.int .i64 1)
    have q0 : ((w1.setCell ⟨w.heap.size, 0, none⟩ (.slice none 0 0)).setCell ⟨w.heap.size, 1, none⟩ (.int .i64 1)).cell? ⟨w.heap.size, 0, none⟩ = some (.slice none 0 0) := t2.cell 0
    have q1 : ((w1.setCell ⟨w.heap.size, 0, none⟩ (.slice none 0 0)).setCell ⟨w.heap.size, 1, none⟩ (.int .i64 1)).cell? ⟨w.heap.size, 1, none⟩ = some (.int .i64 1) := t2.cell 1
    have HBF := hide ((HBX.out.setCell (p := ⟨w.heap.size, 0, none⟩) (Nat.le_refl _) (.slice none 0 0)).setCell (p := ⟨w.heap.size, 1, none⟩) (Nat.le_refl _) (.int .i64 1))
    clear t2
    go_wp2
    exact bodyPost_ret (v := .agg #[.slice none 0 0, .int .i64 1]) (by simp [results, Try.results5, go_sem, q0, q1]) rfl ⟨⟨_, _, _, rfl, rfld_nil _ _ _, HE.out⟩, HBF.out⟩

  have hm5 : m.size = 5 := marks_five hq
  have HO := hide (show fldOut m t = (match fldQ m t.data.toList with | some f => (0, f) | none => (3, [])) by unfold fldOut; rw [readC_ok h1 h2 hq]; rfl)
  have HT8 := hide (show t.data.toList.length ≤ 8000 by
    have ht0 : t.data.toList.length = t.size := by simp
    omega)
  go_wp2_with fail
  refine (l04Read_any m t _ hm5 (by omega)).mono ?_
  rintro e w2 ⟨p2, c2, rfl, hq2, hb2⟩
  have HB2 := hide (HBW.out.trans (hb2.mono HBW.out.size))
  have HRW2 := hide (HR2.out.below hb2 HR2.out.lt)
  have HF2 := hide (show RFld (w.heap.size + 1) w2 (.slice p2 (fldM m t.data.toList).length c2) (fldM m t.data.toList) from RFld.mono hq2.rl (Nat.le_of_eq HWs.out.symm))
  obtain ⟨F, hF⟩ : ∃ F, F = fldM m t.data.toList := ⟨_, rfl⟩
  have HSM := hide (fldM_small m t.data.toList HT8.out)
  have HQY := hide (fun (a : fldB F = true) (b : fldT m F = t.data.toList) => (show fldQ m t.data.toList = some F by rw [hF] at a b ⊢; exact fldQ_yes hq a b))
  have HQN := hide (fun (a : ¬ (fldB F = true ∧ fldT m F = t.data.toList)) => (show fldQ m t.data.toList = none by rw [hF] at a; exact fldQ_no hq a))
  rw [← hF] at HF2 HSM ⊢
  clear hq2 hb2 hF hq h1 h2
  obtain ⟨V, hV⟩ : ∃ V, V = w2.alloc (.cells #[.slice p2 F.length c2] 24) := ⟨_, rfl⟩
  have HV1 := hide (show Below w2.heap.size w2 V by rw [hV]; exact (Below.refl _ _).alloc (Nat.le_refl _) _)
  have HRV := hide (show Row V w2.heap.size 24 [.slice p2 F.length c2] by rw [hV]; exact row_new w2 [.slice p2 F.length c2] 24)
  have HBV := hide (HB2.out.trans (HV1.out.mono HB2.out.size))
  have HRW3 := hide (HRW2.out.below HV1.out HRW2.out.lt)
  have HF3 := hide (HF2.out.below HV1.out)
  go_wp2_with fail
  rw [← hV]
  obtain ⟨G, hG⟩ : ∃ G, G = w2.heap.size := ⟨_, rfl⟩
  rw [← hG] at HRV
  try rw [← hG]
  clear hV hG
  refine (specField_any _ F (w.heap.size + 1) _ HSM.out.1 HSM.out.2.1 HSM.out.2.2 HF3.out).mono ?_
  rintro e w4 ⟨rfl, hb4⟩
  have HB4 := hide (HBV.out.trans (hb4.mono HBV.out.size))
  have HRW4 := hide (HRW3.out.below hb4 HRW3.out.lt)
  have HRV4 := hide (HRV.out.below hb4 HRV.out.lt)
  have HF4 := hide (HF3.out.below hb4)
  have g4 : w4.cell? ⟨G, 0, none⟩ = some (.slice p2 F.length c2) := HRV4.out.cell 0
  clear hb4
  cases hb : fldB F
  · have HE := hide (show fldOut m t = (3, []) by rw [HO.out, HQN.out (fun h => by rw [hb] at h; cases h.1)])
    clear hb
    have HRX := HRW4
    have HBX := HB4
    have k0 : w4.cell? ⟨w.heap.size, 0, none⟩ = some (.slice none 0 0) := HRX.out.cell 0
    have k1 : w4.cell? ⟨w.heap.size, 1, none⟩ = some (.int .i64 0) := HRX.out.cell 1
    have f0 := HRX.out.free 0
    have f1 := HRX.out.free 1
    have t2 := (HRX.out.set (j := 0) (.slice none 0 0)).set (j := 1) (.int .i64 3)
    have q0 : ((w4.setCell ⟨w.heap.size, 0, none⟩ (.slice none 0 0)).setCell ⟨w.heap.size, 1, none⟩ (.int .i64 3)).cell? ⟨w.heap.size, 0, none⟩ = some (.slice none 0 0) := t2.cell 0
    have q1 : ((w4.setCell ⟨w.heap.size, 0, none⟩ (.slice none 0 0)).setCell ⟨w.heap.size, 1, none⟩ (.int .i64 3)).cell? ⟨w.heap.size, 1, none⟩ = some (.int .i64 3) := t2.cell 1
    have HBF := hide ((HBX.out.setCell (p := ⟨w.heap.size, 0, none⟩) (Nat.le_refl _) (.slice none 0 0)).setCell (p := ⟨w.heap.size, 1, none⟩) (Nat.le_refl _) (.int .i64 3))
    clear t2
    go_wp2
    exact bodyPost_ret (v := .agg #[.slice none 0 0, .int .i64 3]) (by simp [results, Try.results5, go_sem, q0, q1]) rfl ⟨⟨_, _, _, rfl, rfld_nil _ _ _, HE.out⟩, HBF.out⟩

  go_wp2_with fail
  refine (l04Text_any m _ F _ hm5 hb (RFld.mono HF4.out (Nat.zero_le _))).mono ?_
  rintro e w5 ⟨rfl, hb5⟩
  have HB5 := hide (HB4.out.trans (hb5.mono HB4.out.size))
  have HRW5 := hide (HRW4.out.below hb5 HRW4.out.lt)
  have HRV5 := hide (HRV4.out.below hb5 HRV4.out.lt)
  have HF5 := hide (HF4.out.below hb5)
  have g5 : w5.cell? ⟨G, 0, none⟩ = some (.slice p2 F.length c2) := HRV5.out.cell 0
  clear hb5 g4
  obtain ⟨TX, hTX⟩ : ∃ TX : ByteArray, TX = ⟨(fldT m F).toArray⟩ := ⟨_, rfl⟩
  have HTX := hide (show TX.data.toList = fldT m F by rw [hTX])
  rw [← hTX]
  clear hTX
  by_cases heq : TX = t
  · subst heq
    have HE := hide (show fldOut m TX = (0, F) by rw [HO.out, HQY.out hb HTX.out.symm])
    clear hb
    have HRF := hide (show RFld w.heap.size ((w5.setCell ⟨w.heap.size, 0, none⟩ (.slice p2 F.length c2)).setCell ⟨w.heap.size, 1, none⟩ (.int .i64 0)) (.slice p2 F.length c2) F from RFld.mono (Lasts.go (B := w.heap.size + 1) (Same.set _ _ (by omega)) (Lasts.go (B := w.heap.size + 1) (Same.set _ _ (by omega)) HF5.out)) (Nat.le_succ _))
    have HRX := HRW5
    have HBX := HB5
    have k0 : w5.cell? ⟨w.heap.size, 0, none⟩ = some (.slice none 0 0) := HRX.out.cell 0
    have k1 : w5.cell? ⟨w.heap.size, 1, none⟩ = some (.int .i64 0) := HRX.out.cell 1
    have f0 := HRX.out.free 0
    have f1 := HRX.out.free 1
    have t2 := (HRX.out.set (j := 0) (.slice p2 F.length c2)).set (j := 1) (.int .i64 0)
    have q0 : ((w5.setCell ⟨w.heap.size, 0, none⟩ (.slice p2 F.length c2)).setCell ⟨w.heap.size, 1, none⟩ (.int .i64 0)).cell? ⟨w.heap.size, 0, none⟩ = some (.slice p2 F.length c2) := t2.cell 0
    have q1 : ((w5.setCell ⟨w.heap.size, 0, none⟩ (.slice p2 F.length c2)).setCell ⟨w.heap.size, 1, none⟩ (.int .i64 0)).cell? ⟨w.heap.size, 1, none⟩ = some (.int .i64 0) := t2.cell 1
    have HBF := hide ((HBX.out.setCell (p := ⟨w.heap.size, 0, none⟩) (Nat.le_refl _) (.slice p2 F.length c2)).setCell (p := ⟨w.heap.size, 1, none⟩) (Nat.le_refl _) (.int .i64 0))
    clear t2
    go_wp2
    exact bodyPost_ret (v := .agg #[.slice p2 F.length c2, .int .i64 0]) (by simp [results, Try.results5, go_sem, q0, q1]) rfl ⟨⟨_, _, _, rfl, HRF.out, HE.out⟩, HBF.out⟩

  · have HE := hide (show fldOut m t = (3, []) by
      rw [HO.out, HQN.out (fun h => heq (ByteArray.ext (Array.ext' (by rw [HTX.out, h.2]))))])
    have he3 := toList_neF heq
    clear heq hb
    have HRX := HRW5
    have HBX := HB5
    have k0 : w5.cell? ⟨w.heap.size, 0, none⟩ = some (.slice none 0 0) := HRX.out.cell 0
    have k1 : w5.cell? ⟨w.heap.size, 1, none⟩ = some (.int .i64 0) := HRX.out.cell 1
    have f0 := HRX.out.free 0
    have f1 := HRX.out.free 1
    have t2 := (HRX.out.set (j := 0) (.slice none 0 0)).set (j := 1) (.int .i64 3)
    have q0 : ((w5.setCell ⟨w.heap.size, 0, none⟩ (.slice none 0 0)).setCell ⟨w.heap.size, 1, none⟩ (.int .i64 3)).cell? ⟨w.heap.size, 0, none⟩ = some (.slice none 0 0) := t2.cell 0
    have q1 : ((w5.setCell ⟨w.heap.size, 0, none⟩ (.slice none 0 0)).setCell ⟨w.heap.size, 1, none⟩ (.int .i64 3)).cell? ⟨w.heap.size, 1, none⟩ = some (.int .i64 3) := t2.cell 1
    have HBF := hide ((HBX.out.setCell (p := ⟨w.heap.size, 0, none⟩) (Nat.le_refl _) (.slice none 0 0)).setCell (p := ⟨w.heap.size, 1, none⟩) (Nat.le_refl _) (.int .i64 3))
    clear t2
    go_wp2
    exact bodyPost_ret (v := .agg #[.slice none 0 0, .int .i64 3]) (by simp [results, Try.results5, go_sem, q0, q1]) rfl ⟨⟨_, _, _, rfl, rfld_nil _ _ _, HE.out⟩, HBF.out⟩


set_option maxHeartbeats 1000000 in
theorem eqFieldOut_same (R : Int × List (List (List ByteArray))) (u u' : Value) (B B' : Nat) (w : World) (hn : wFld R.2 ≤ 1048576) (hr : RFld B w u R.2) (hr' : RFld B' w u' R.2) :
    Calls Try.prog 7 #[foF R u, foF R u'] w fun e w' => e = .returned (.bool true) ∧ Below w.heap.size w w' := by
  obtain ⟨code, x⟩ := R
  dsimp only [foF] at *
  have HR := hide hr
  have HR' := hide hr'
  obtain ⟨p, c, rfl⟩ := hr.isSlice2
  obtain ⟨p', c', rfl⟩ := hr'.isSlice2
  clear hr hr'
  have HB0 := hide (((Below.refl w.heap.size w).alloc (Nat.le_refl _) (.cells #[.slice p x.length c, .int .i64 code] 26)).alloc (by simp) (.cells #[.slice p' x.length c', .int .i64 code] 26))
  have HRa := hide ((row_new w [.slice p x.length c, .int .i64 code] 26).alloc (.cells #[.slice p' x.length c', .int .i64 code] 26))
  have HRb : Hid (Row ((w.alloc (.cells #[.slice p x.length c, .int .i64 code] 26)).alloc (.cells #[.slice p' x.length c', .int .i64 code] 26)) (w.heap.size + 1) 26 [.slice p' x.length c', .int .i64 code]) := hide (by
    have := row_new (w.alloc (.cells #[.slice p x.length c, .int .i64 code] 26)) [.slice p' x.length c', .int .i64 code] 26
    simpa using this)
  go_enter Try.func7, Try.ntmps7
  go_wp2_with fail
  refine (eqField_same _ _ x B B' _ hn (Lasts.go (B := B) (Same.of HB0.out) HR.out) (Lasts.go (B := B') (Same.of HB0.out) HR'.out)).mono ?_
  rintro e w1 ⟨rfl, hb1⟩
  have Ra := HRa.out.below hb1 HRa.out.lt
  have Rb := HRb.out.below hb1 HRb.out.lt
  have a3 : w1.cell? ⟨w.heap.size, 1, none⟩ = some (.int .i64 code) := Ra.cell 1
  have b3 : w1.cell? ⟨w.heap.size + 1, 1, none⟩ = some (.int .i64 code) := Rb.cell 1
  have HB := hide (HB0.out.trans (hb1.mono (by simp; omega)))
  clear hb1 Ra Rb
  go_wp2
  go_ret
  exact ⟨rfl, HB.out⟩
set_option maxHeartbeats 1000000 in
theorem markFieldOut_own (lo hi : Nat) (R : Int × List (List (List ByteArray))) (v : Value) (k : Nat) (w : World) (hn : wFld R.2 ≤ 1048576) (hk : k + wFld R.2 ≤ 4000000) (hr : OFld lo hi w v R.2) :
    Calls Try.prog 8 #[foF R v, .int .i64 (k : Int)] w fun e w' => e = .returned (.int .i64 ((k + cntF R.2 : Nat) : Int)) ∧ OFld lo hi w' v (mkF k R.2) ∧ Within lo hi w w' := by
  obtain ⟨code, xs⟩ := R
  dsimp only [foF] at *
  obtain ⟨p, c, rfl⟩ := OL.isSlice hr
  have hb0 : Below w.heap.size w (w.alloc (.cells #[.slice p xs.length c, .int .i64 code] 26)) := (Below.refl _ _).alloc (Nat.le_refl _) _
  have HB0 := hide hb0
  have HR := hide (Keeps.go (SameIn.ofBelow hb0) hr)
  clear hr hb0
  go_enter Try.func8, Try.ntmps8
  go_wp2_with fail
  refine (markField_own lo hi _ xs k _ hn hk HR.out).mono ?_
  rintro e w1 ⟨rfl, hok, hw⟩
  have HO := hide hok
  have HW := hide ((Within.ofBelow HB0.out).trans hw)
  clear hok hw
  go_wp2
  go_ret
  exact ⟨rfl, HO.out, HW.out⟩
set_option maxHeartbeats 1000000 in
theorem heldFieldOut_own (lo hi : Nat) (R : Int × List (List (List ByteArray))) (v : Value) (k : Nat) (w : World) (hn : wFld R.2 ≤ 1048576) (hk : k + wFld R.2 ≤ 4000000) (hr : OFld lo hi w v (mkF k R.2)) :
    Calls Try.prog 9 #[foF R v, .int .i64 (k : Int)] w fun e w' => e = .returned (.int .i64 ((k + cntF R.2 : Nat) : Int)) ∧ Below w.heap.size w w' := by
  obtain ⟨code, xs⟩ := R
  dsimp only [foF] at *
  have hml : (mkF k xs).length = xs.length := mkL_len cntR mkR xs k
  obtain ⟨p, c, hv⟩ := OL.isSlice hr
  rw [hml] at hv
  subst hv
  clear hml
  have hb0 : Below w.heap.size w (w.alloc (.cells #[.slice p xs.length c, .int .i64 code] 26)) := (Below.refl _ _).alloc (Nat.le_refl _) _
  have HB0 := hide hb0
  have HR := hide (Keeps.go (SameIn.ofBelow hb0) hr)
  clear hr hb0
  go_enter Try.func9, Try.ntmps9
  go_wp2_with fail
  refine (heldField_own lo hi _ xs k _ hn hk HR.out).mono ?_
  rintro e w1 ⟨rfl, hb⟩
  have HB := hide (HB0.out.trans (hb.mono HB0.out.size))
  have hpos : ¬ (((k + cntF xs : Nat) : Int)) < 0 := by omega
  clear hb
  go_wp2
  go_ret
  exact ⟨rfl, HB.out⟩

set_option maxHeartbeats 8000000 in
theorem lawFieldRead (m t : ByteArray) (w : World) (hm : m.size ≤ maxLen) (ht : t.size ≤ maxLen) :
    Calls Try.prog 3 #[.string m, .string t] w fun e w' => e = .returned (.bool true) ∧ Below w.heap.size w w' := by
  unfold maxLen at hm ht
  by_cases h1 : 1048576 < m.size
  · have h1i : (1048576 : Int) < m.size := by omega
    go_enter Try.func3, Try.ntmps3
    go_wp2
    go_ret
    exact ⟨rfl, Below.refl _ _⟩
  by_cases h2 : 1048576 < t.size
  · have h1i : ¬ (1048576 : Int) < m.size := by omega
    have h2i : (1048576 : Int) < t.size := by omega
    go_enter Try.func3, Try.ntmps3
    go_wp2
    go_ret
    exact ⟨rfl, Below.refl _ _⟩
  have h1i : ¬ (1048576 : Int) < m.size := by omega
  have h2i : ¬ (1048576 : Int) < t.size := by omega
  have HMS := hide (show m.size ≤ maxLen by unfold maxLen; omega)
  obtain ⟨A, hA⟩ : ∃ A, A = fldOut m t := ⟨_, rfl⟩
  have HWA := hide (show wFld A.2 ≤ 1048576 by rw [hA]; exact fldOut_w m t)
  have HAE := hide (fun (c : Int) (xs : List (List (List ByteArray))) (h : fldOut m t = (c, xs)) => (show c = A.1 ∧ xs = A.2 by rw [hA, h]; exact ⟨rfl, rfl⟩))
  clear hA h1 h2
  go_enter Try.func3, Try.ntmps3
  go_wp2_with fail
  refine (specFieldRead_any m t _ HMS.out).mono ?_
  rintro e w1 ⟨⟨uw, cw0, xw, rfl, hrw, hew⟩, hb1⟩
  obtain ⟨rfl, rfl⟩ := HAE.out _ _ hew
  obtain ⟨pw, cw, rfl⟩ := hrw.isSlice2
  have hba : Below w1.heap.size w1 (w1.alloc (.cells #[.slice pw A.2.length cw, .int .i64 A.1] 26)) := (Below.refl _ _).alloc (Nat.le_refl _) _
  have HB1 := hide (hb1.trans (hba.mono hb1.size))
  have HW1 := hide ((RFld.mono hrw (Nat.zero_le _)).below hba)
  have HRw := hide (row_new w1 [.slice pw A.2.length cw, .int .i64 A.1] 26)
  clear hrw hew hb1 hba
  go_wp2_with fail
  generalize hV : w1.alloc (.cells #[.slice pw A.2.length cw, .int .i64 A.1] 26) = w2 at *
  generalize hG : w1.heap.size = G5 at *
  clear hV hG
  refine (implFieldRead_any m t _ HMS.out).mono ?_
  rintro e w3 ⟨⟨ug, cg0, xg, rfl, hog, heg⟩, hb3⟩
  obtain ⟨e1, e2⟩ := HAE.out _ _ heg
  subst e1 e2
  obtain ⟨pg, cg, rfl⟩ := OL.isSlice hog
  have hbg : Below w3.heap.size w3 (w3.alloc (.cells #[.slice pg A.2.length cg, .int .i64 A.1] 26)) := (Below.refl _ _).alloc (Nat.le_refl _) _
  have hb3g := hb3.trans (hbg.mono hb3.size)
  have HB3 := hide (HB1.out.trans (hb3g.mono HB1.out.size))
  have HW3 := hide (HW1.out.below hb3g)
  have HRw3 := hide (HRw.out.below hb3g HRw.out.lt)
  have HRg := hide (row_new w3 [.slice pg A.2.length cg, .int .i64 A.1] 26)
  have HO3 := hide (Keeps.go (SameIn.ofBelow hbg) hog)
  have HLO := hide (show w.heap.size ≤ w2.heap.size ∧ G5 < w2.heap.size from ⟨HB1.out.size, HRw.out.lt⟩)
  have HB23 := hide hb3g
  have k0 : (w3.alloc (.cells #[.slice pg A.2.length cg, .int .i64 A.1] 26)).cell? ⟨G5, 0, none⟩ = some (.slice pw A.2.length cw) := HRw3.out.cell 0
  have k1 : (w3.alloc (.cells #[.slice pg A.2.length cg, .int .i64 A.1] 26)).cell? ⟨G5, 1, none⟩ = some (.int .i64 A.1) := HRw3.out.cell 1
  clear hog heg hb3 hbg hb3g
  go_wp2_with fail
  obtain ⟨w4, hw4⟩ : ∃ w4, w4 = w3.alloc (.cells #[.slice pg A.2.length cg, .int .i64 A.1] 26) := ⟨_, rfl⟩
  obtain ⟨G6, hG6⟩ : ∃ G6, G6 = w3.heap.size := ⟨_, rfl⟩
  rw [← hw4] at HB3 HW3 HRw3 HRg HO3 HB23 ⊢
  rw [← hG6] at HRg HO3 ⊢
  clear hw4 hG6 k0 k1
  refine (eqFieldOut_same A _ _ 0 0 _ HWA.out (RFld.mono (OFld.rl HO3.out) (Nat.zero_le _)) HW3.out).mono ?_
  rintro e w5 ⟨rfl, hb5⟩
  have HB5 := hide (HB3.out.trans (hb5.mono HB3.out.size))
  have HB25 := hide (HB23.out.trans (hb5.mono HB23.out.size))
  have HRw5 := hide (HRw3.out.below hb5 HRw3.out.lt)
  have HRg5 := hide (HRg.out.below hb5 HRg.out.lt)
  have HO5 := hide (Keeps.go (SameIn.ofBelow hb5) HO3.out)
  have g0 : w5.cell? ⟨G6, 0, none⟩ = some (.slice pg A.2.length cg) := HRg5.out.cell 0
  have g1 : w5.cell? ⟨G6, 1, none⟩ = some (.int .i64 A.1) := HRg5.out.cell 1
  clear hb5 HB3 HW3 HRw3 HRg HO3 HB23
  go_wp2_with fail
  refine (markFieldOut_own w2.heap.size G6 A _ 1 _ HWA.out (by have := HWA.out; omega) HO5.out).mono ?_
  rintro e w6 ⟨rfl, ho6, hw6⟩
  have HB6 := hide (hw6.toBelow HB5.out HLO.out.1 HB5.out.size)
  have HB26 := hide (hw6.toBelow HB25.out (Nat.le_refl _) HB25.out.size)
  have HRw6 := hide (hw6.row HRw5.out (.inl HLO.out.2))
  have HRg6 := hide (hw6.row HRg5.out (.inr (Nat.le_refl _)))
  have HO6 := hide ho6
  obtain ⟨M, hM⟩ : ∃ M : Nat, M = 1 + cntF A.2 := ⟨_, rfl⟩
  rw [← hM]
  have HMM := hide hM
  have hMp : ¬ ((M : Nat) : Int) < 0 := by omega
  have hMe : (((M : Nat) : Int) != ((M : Nat) : Int)) = false := by simp
  have n0 : w6.cell? ⟨G6, 0, none⟩ = some (.slice pg A.2.length cg) := HRg6.out.cell 0
  have n1 : w6.cell? ⟨G6, 1, none⟩ = some (.int .i64 A.1) := HRg6.out.cell 1
  clear ho6 hw6 hM g0 g1 HRw5 HRg5 HO5 HB5 HB25
  go_wp2_with fail
  refine (heldFieldOut_own w2.heap.size G6 A _ 1 _ HWA.out (by have := HWA.out; omega) HO6.out).mono ?_
  rintro e w7 ⟨rfl, hb7⟩
  rw [← HMM.out]
  have HB7 := hide (HB6.out.trans (hb7.mono HB6.out.size))
  have HB27 := hide (HB26.out.trans (hb7.mono HB26.out.size))
  have HRw7 := hide (HRw6.out.below hb7 HRw6.out.lt)
  have HRg7 := hide (HRg6.out.below hb7 HRg6.out.lt)
  have HO7 := hide (Keeps.go (SameIn.ofBelow hb7) HO6.out)
  clear hb7 n0 n1 HRw6 HRg6 HO6 HB6 HB26
  go_wp2_with fail
  refine (implFieldRead_any m t _ HMS.out).mono ?_
  rintro e w8 ⟨⟨uh, ch0, xh, rfl, hoh, heh⟩, hb8⟩
  obtain ⟨e1, e2⟩ := HAE.out _ _ heh
  subst e1 e2
  obtain ⟨ph, ch, rfl⟩ := OL.isSlice hoh
  have hbh : Below w8.heap.size w8 (w8.alloc (.cells #[.slice ph A.2.length ch, .int .i64 A.1] 26)) := (Below.refl _ _).alloc (Nat.le_refl _) _
  have hb8h := hb8.trans (hbh.mono hb8.size)
  have HB8 := hide (HB7.out.trans (hb8h.mono HB7.out.size))
  have HB28 := hide (HB27.out.trans (hb8h.mono HB27.out.size))
  have HRw8 := hide (HRw7.out.below hb8h HRw7.out.lt)
  have HRg8 := hide (HRg7.out.below hb8h HRg7.out.lt)
  have HO8 := hide (Keeps.go (SameIn.ofBelow hb8h) HO7.out)
  have HH8 := hide ((RFld.mono (OFld.rl hoh) (Nat.zero_le _)).below hbh)
  have HW8 := hide (HW1.out.below HB28.out)
  have r0 : (w8.alloc (.cells #[.slice ph A.2.length ch, .int .i64 A.1] 26)).cell? ⟨G5, 0, none⟩ = some (.slice pw A.2.length cw) := HRw8.out.cell 0
  have r1 : (w8.alloc (.cells #[.slice ph A.2.length ch, .int .i64 A.1] 26)).cell? ⟨G5, 1, none⟩ = some (.int .i64 A.1) := HRw8.out.cell 1
  clear hoh heh hb8 hbh hb8h HRw7 HRg7 HO7 HB7 HB27
  go_wp2_with fail
  refine (eqFieldOut_same A _ _ 0 0 _ HWA.out HH8.out HW8.out).mono ?_
  rintro e w9 ⟨rfl, hb9⟩
  have HB9 := hide (HB8.out.trans (hb9.mono HB8.out.size))
  have HO9 := hide (Keeps.go (SameIn.ofBelow hb9) HO8.out)
  have HRg9 := hide (HRg8.out.below hb9 HRg8.out.lt)
  have s0 : w9.cell? ⟨G6, 0, none⟩ = some (.slice pg A.2.length cg) := HRg9.out.cell 0
  have s1 : w9.cell? ⟨G6, 1, none⟩ = some (.int .i64 A.1) := HRg9.out.cell 1
  clear hb9 r0 r1 HO8 HB8 HB28 HH8 HW8 HRw8 HRg8
  go_wp2_with fail
  refine (heldFieldOut_own w2.heap.size G6 A _ 1 _ HWA.out (by have := HWA.out; omega) HO9.out).mono ?_
  rintro e w10 ⟨rfl, hb10⟩
  rw [← HMM.out]
  have HB10 := hide (HB9.out.trans (hb10.mono HB9.out.size))
  clear hb10
  go_wp2
  go_ret
  exact ⟨rfl, HB10.out⟩
end Go.Proofs.Ytckcfjibiidafaa
/- A list of Fields that is read: of the program. -/
namespace Go.Proofs.Ytckcfjibiidafaa
open Go.RowKit

theorem enters_field : ∀ args w, (callFunc 20 args).run Try.prog w = .ok (.enter 20 args) w := enters_of Try.func20 (by kernel_rfl) rfl
set_option maxHeartbeats 8000000 in
set_option maxRecDepth 100000 in
theorem readList_field (m : ByteArray) (v : Value) (ps : List ByteArray) (w : World) (hm : marksB m = true) (hn : ps.length ≤ 1000000) (hsz : ∀ x ∈ ps, x.size ≤ 900000) (hr : RComp 0 w v ps) :
    Calls Try.prog 67 #[.agg #[.string m, .bool false], v, .func (.func 20) #[.agg #[.string m, .bool false]] #[]] w fun e w' =>
      ListRes 24 OFld w.heap.size (mapO (fun p : ByteArray => fldQ m p.data.toList) ps) e w' ∧ Below w.heap.size w w' := by
  obtain ⟨i0, hi, hz0, hz1, hz2⟩ := info_parts Try.infoCopyField
  have HZC := hide (show (Value.agg #[.slice none 0 0]).cells.size = 1 from rfl)
  obtain ⟨p, cap, rfl, q1, q2, q4⟩ := hr
  have H4 := hide q4
  have HSZ := hide hsz
  clear q4 q1 q2 hsz
  obtain ⟨F, hF⟩ : ∃ F : ByteArray → Option (List (List (List ByteArray))), F = (fun p : ByteArray => fldQ m p.data.toList) := ⟨_, rfl⟩
  have HF := hide (show ∀ x, F x = fldQ m x.data.toList from fun x => by rw [hF])
  rw [← hF]
  clear hF
  obtain ⟨R, hR⟩ : ∃ R, R = mapO F ps := ⟨_, rfl⟩
  rw [← hR]
  have HR0 := hide (show R = (mapO F (ps.drop 0)).map ([] ++ ·) by rw [hR, List.drop_zero]; cases mapO F ps <;> simp)
  clear hR
  obtain ⟨W, hW⟩ : ∃ W, W = w.alloc (.cells #[.string m, .bool false] 46) := ⟨_, rfl⟩
  have HBW := hide (show Below w.heap.size w W by rw [hW]; exact (Below.refl _ _).alloc (Nat.le_refl _) _)
  have HWs := hide (show W.heap.size = w.heap.size + 1 by rw [hW]; simp)
  have HBX : Hid (Row W w.heap.size 46 [.string m, .bool false]) := by rw [hW]; exact row_new w _ _
  have HO := hide (World.ownsRow_nil W W.heap.size 24 1)
  have eg := enters_field
  go_enter Try.func67, Try.ntmps67
  go_wp2_with fail
  rw [← hW]
  clear hW
  go_loopw [8, 15] (fun l i wr => ∃ (X : World) (k : Nat) (D : List (List (List (List ByteArray)))) (vs : List Value), X = wr ∧ k ≤ ps.length ∧ i = .int .i64 (k : Int) ∧ Hid (D.length = k) ∧ Hid (R = (mapO F (ps.drop k)).map (D ++ ·)) ∧ Hid (X.ownsRow W.heap.size 24 1 l k vs) ∧ Hid (Below W.heap.size W X) ∧ Hid (vs.length = k) ∧ Hid (∃ A B : Nat → Nat, (∀ j (h1 : j < vs.length) (h2 : j < D.length), W.heap.size ≤ A j ∧ B j ≤ X.heap.size ∧ (∀ g, l.ownBlock = some g → B j ≤ g ∨ g < A j) ∧ OFld (A j) (B j) X vs[j] D[j]) ∧ ∀ i j, i < j → j < k → B i ≤ A j)) (fun _ i _ => ps.length - (intOf i).toNat)
  case atStart => exact ⟨_, 0, [], [], rfl, Nat.zero_le _, rfl, hide rfl, HR0, HO, hide (Below.refl _ _), hide rfl, hide ⟨fun _ => 0, fun _ => 0, fun j h1 _ => absurd h1 (by simp), fun i j _ h => absurd h (by omega)⟩⟩
  case round =>
    obtain ⟨X, k, D, vs, rfl, hk, rfl, HD, HS, HOw, HB, HLn, HEl⟩ := hrel
    have HBw := hide (HBW.out.trans (HB.out.mono HBW.out.size))
    by_cases hlt : k < ps.length
    · obtain ⟨gg, off, hp, hg, _, hc⟩ := H4.out (by omega)
      subst hp
      obtain ⟨u0, hu, rfl, _⟩ := hc k hlt
      have hck : X.cell? ⟨gg, off + k, none⟩ = some (.string (ps[k]'hlt)) := by rw [HBw.out.cell (p := ⟨gg, off + k, none⟩) hg]; exact hu
      have HSP := hide (HSZ.out _ (List.getElem_mem hlt))
      have HST := hide (mapO_step F ps k hlt D R HS.out)
      clear hu hc
      generalize hpk : (ps[k]'hlt) = pk at *
      clear hpk
      go_wp2_with fail
      refine (fieldR_any m pk _ hm HSP.out).mono ?_
      rintro e X2 ⟨⟨u2, b2, y, rfl, hy, hRy⟩, hb2⟩
      obtain ⟨p2, c2, rfl⟩ := hy.isSlice
      rw [← HF.out] at hRy
      have HB22 := hide hb2
      have HBm := hide (HB.out.trans (hb2.mono HB.out.size))
      have HBA := hide (HBm.out.alloc HBm.out.size (.cells #[.slice p2 y.length c2] 24))
      cases b2 with
      | false =>
        have HN := hide (HST.out.1 (by simpa using hRy))
        have HBE := hide (HBW.out.trans (HBA.out.mono HBW.out.size))
        clear hb2 hy hRy
        go_wp2
        exact bodyPost_ret (v := .tuple #[.slice none 0 0, .bool false]) (by simp [results, Try.results67, go_sem]) rfl ⟨⟨_, false, [], rfl, ⟨none, 0, rfl, Nat.le_refl _, by unfold maxLen; omega, fun h => by simp at h⟩, by rw [HN.out]; rfl⟩, HBE.out⟩
      | true =>
        have HN := hide (HST.out.2 y (by simpa using hRy))
        have HR2 := hide hy
        have HLT := hide HOw.out.lt
        have hba : Below X2.heap.size X2 (X2.alloc (.cells #[.slice p2 y.length c2] 24)) := (Below.refl _ _).alloc (Nat.le_refl _) _
        have HO2 := hide (((own_below HOw.out hb2).alloc (.cells #[.slice p2 y.length c2] 24)).alloc (.cells #[.slice p2 y.length c2] 24))
        have HB2 := hide (HBA.out.alloc HBA.out.size (.cells #[.slice p2 y.length c2] 24))
        have HSA : Hid ((X2.alloc (.cells #[.slice p2 y.length c2] 24)).heap.size = X2.heap.size + 1) := hide (by simp)
        have HSI : Hid (∀ a b, SameIn a b X2 (X2.alloc (.cells #[.slice p2 y.length c2] 24))) := hide (fun a b => SameIn.ofBelow hba)
        have HC1 := hide (cell_one_new (X2.alloc (.cells #[.slice p2 y.length c2] 24)) (.slice p2 y.length c2) 24)
        rw [HSA.out] at HC1
        have hlk : k ≤ 1000000 := by omega
        have hL3 : Hid (w.heap.size ≤ W.heap.size ∧ W.heap.size ≤ X.heap.size) := hide ⟨HBW.out.size, HB.out.size⟩
        clear hb2 hy hRy hba
        go_wp2_with (at_builtin; refine wpList_append_own_at ((X2.alloc (.cells #[.slice p2 y.length c2] 24)).alloc (.cells #[.slice p2 y.length c2] 24)) rfl (.tmp 27) (.tmp 29) 31 rfl W.heap.size 24 i0 _ 1 24 Try.underlying31 hi hz0 hz1 hz2 HZC.out (by omega) _ k vs rfl HO2.out ⟨X2.heap.size + 1, 0, none⟩ 1 _ [.slice p2 y.length c2] rfl rfl HC1.out (by simp [Value.oneCell']) (by unfold maxLen; omega) (by omega) (by have := HB2.out.size; exact this) ?_)
        intro v' w3 hown hgrow _ hat
        have HO3 := hide hown
        have HB3 := hide (HB2.out.grown hgrow HB2.out.size (fun k hk => (HO2.out.lt k hk).1))
        have HLn2 : Hid ((vs ++ [Value.slice p2 y.length c2]).length = k + 1) := by rw [List.length_append, HLn.out]; exact rfl
        have HD2 : Hid ((D ++ [y]).length = k + 1) := by rw [List.length_append, HD.out]; exact rfl
        have HEl2 : Hid (∃ A B : Nat → Nat, (∀ j (h1 : j < (vs ++ [Value.slice p2 y.length c2]).length) (h2 : j < (D ++ [y]).length), W.heap.size ≤ A j ∧ B j ≤ w3.heap.size ∧ (∀ g, v'.ownBlock = some g → B j ≤ g ∨ g < A j) ∧ OFld (A j) (B j) w3 (vs ++ [Value.slice p2 y.length c2])[j] (D ++ [y])[j]) ∧ ∀ i j, i < j → j < k + 1 → B i ≤ A j) := by
          obtain ⟨A, B, hE, hD⟩ := HEl.out
          have hs2 := HB22.out.size
          have hs3 := hgrow.size
          have hsA := HSA.out
          have hsa : ((X2.alloc (.cells #[.slice p2 y.length c2] 24)).alloc (.cells #[.slice p2 y.length c2] 24)).heap.size = X2.heap.size + 2 := by simp
          have hwX := hL3.out
          refine ⟨fun i => if i = k then X.heap.size else A i, fun i => if i = k then X2.heap.size else B i, fun j h1 h2 => ?_, fun i j hij hj => ?_⟩
          · rw [HLn2.out] at h1
            dsimp only
            by_cases hj : j = k
            · subst hj
              rw [if_pos rfl, if_pos rfl, List.getElem_append_right (by rw [HLn.out]; exact Nat.le_refl _)]
              simp only [HLn.out, Nat.sub_self, List.getElem_cons_zero]
              rw [List.getElem_append_right (by rw [HD.out]; exact Nat.le_refl _)]
              simp only [HD.out, Nat.sub_self, List.getElem_cons_zero]
              refine ⟨by omega, by omega, fun g hg => ?_, ?_⟩
              · rcases hat with h | h
                · rw [h] at hg
                  exact .inr (by have := (HLT.out g hg).2; omega)
                · rw [h] at hg
                  cases hg
                  exact .inl (by first | omega | (rw [hsa]; omega))
              · exact Keeps.go (grown_in hgrow (fun g hg => .inr (by have := (HLT.out g hg).2; omega))) (Keeps.go (SameIn.ofBelow ((Below.refl _ _).alloc (Nat.le_refl _) _)) (Keeps.go (HSI.out _ _) HR2.out))
            · have hjk : j < vs.length := by rw [HLn.out]; omega
              have hjd : j < D.length := by rw [HD.out]; omega
              obtain ⟨f1, f2, f3, f4⟩ := hE j hjk hjd
              rw [if_neg hj, if_neg hj, List.getElem_append_left hjk, List.getElem_append_left hjd]
              refine ⟨f1, by omega, fun g hg => ?_, ?_⟩
              · rcases hat with h | h
                · rw [h] at hg
                  exact f3 g hg
                · rw [h] at hg
                  cases hg
                  exact .inl (by first | omega | (rw [hsa]; omega))
              · exact Keeps.go (grown_in hgrow f3) (Keeps.go (SameIn.ofBelow ((Below.refl _ _).alloc (Nat.le_refl _) _)) (Keeps.go (HSI.out _ _) (Keeps.go (SameIn.ofBelow HB22.out) f4)))
          · have hik : i < vs.length := by rw [HLn.out]; omega
            have hid : i < D.length := by rw [HD.out]; omega
            obtain ⟨f1, f2, f3, f4⟩ := hE i hik hid
            dsimp only
            by_cases hjk : j = k
            · rw [if_pos hjk, if_neg (by omega)]; omega
            · rw [if_neg hjk, if_neg (by omega)]; exact hD i j hij (by omega)
        clear hown hgrow hat
        go_wp2
        go_roundw
        case rel => exact ⟨_, k + 1, D ++ [y], _, rfl, by omega, by go_num, HD2, HN, HO3, HB3, HLn2, HEl2⟩
        case measure => simp [intOf]; omega
    · have ek : k = ps.length := by omega
      have HN := hide (mapO_end F ps k (by omega) D R HS.out)
      have HBR := hide (HBX.out.below HB.out (by have := HWs.out; omega))
      have hcl : X.cell? ⟨w.heap.size, 1, none⟩ = some (.bool false) := HBR.out.cell 1
      have HOL := hide (show OL 24 OFld w.heap.size X.heap.size X _ D from Keeps.wide HBW.out.size (Nat.le_refl _) (ol_of_own HOw.out HD.out.symm HLn.out HEl.out))
      have hkI : (ps.length : Int) ≤ (k : Int) := by omega
      obtain ⟨pl, cl, hl⟩ := own_slice1 HOw.out
      subst hl
      clear ek
      go_wp2
      exact bodyPost_ret (v := .tuple #[.slice pl k cl, .bool true]) (by simp [results, Try.results67, go_sem]) rfl ⟨⟨_, true, D, rfl, HOL.out, by rw [HN.out]; rfl⟩, HBw.out⟩
end Go.Proofs.Ytckcfjibiidafaa
