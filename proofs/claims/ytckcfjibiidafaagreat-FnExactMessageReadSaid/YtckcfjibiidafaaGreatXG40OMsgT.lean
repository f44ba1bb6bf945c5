/- MessageRead of the program. -/
import Derived.Test.YtckcfjibiidafaaGreatXG39OSegT
namespace Go.Proofs.YtckcfjibiidafaaGreat
open Go.RowKit
abbrev MOut := Int × ByteArray × List Seg
def moV (R : MOut) (u : Value) : Value := .agg #[.string R.2.1, u, .int .i64 R.1]
/-- Code and Message of what MessageRead answers. -/
def msgOut (t : ByteArray) : MOut := if 8000 < t.size then (2, ⟨#[]⟩, []) else (match msgQ t.data.toList with | some s => (0, s.1, s.2) | none => (3, ⟨#[]⟩, []))
theorem msgQ_lin {T : List UInt8} (h1 : ¬ T.length < 8) (h2 : marksB (mk5 T) = true) : msgQ T = (linR (mk5 T) (cutL 13 T)).map fun xs => (mk5 T, xs) := by
  unfold msgQ linR
  rw [if_neg (by
    rintro (h | h)
    · exact h1 h
    · rw [h2] at h; cases h)]
  cases linesQ (cutL 13 T) with
  | none => rfl
  | some ls =>
    show (mapO (segQ (mk5 T)) ls).bind _ = Option.map _ ((mapO (segQ (mk5 T)) ls).bind _)
    cases mapO (segQ (mk5 T)) ls with
    | none => rfl
    | some xs =>
      show (if msgT (mk5 T) xs = ⟨#[]⟩ then none else some (mk5 T, xs)) = Option.map _ (if msgT (mk5 T) xs = ⟨#[]⟩ then none else some xs)
      by_cases h : msgT (mk5 T) xs = ⟨#[]⟩
      · rw [if_pos h, if_pos h]; rfl
      · rw [if_neg h, if_neg h]; rfl
theorem msgQ_short {T : List UInt8} (h : T.length < 8 ∨ marksB (mk5 T) = false) : msgQ T = none := by unfold msgQ; rw [if_pos h]

set_option maxHeartbeats 8000000 in
theorem readMessageS_any (t : ByteArray) (w : World) (ht : t.size ≤ maxLen) :
    Calls Tryz.prog 11 #[.string t, .bool false] w fun e w' => (∃ n u c xs, e = .returned (.agg #[.string n, u, .int .i64 c]) ∧ OSegs w.heap.size w'.heap.size w' u xs ∧ msgOut t = (c, n, xs)) ∧ Below w.heap.size w w' := by
  obtain ⟨W, hW⟩ : ∃ W, W = w.alloc (.cells #[.string ⟨#[]⟩, .slice none 0 0, .int .i64 0] 26) := ⟨_, rfl⟩
  have HBW := hide (show Below w.heap.size w W by rw [hW]; exact (Below.refl _ _).alloc (Nat.le_refl _) _)
  have HWs := hide (show W.heap.size = w.heap.size + 1 by rw [hW]; simp)
  have HR2 := hide (show Row W w.heap.size 26 [.string ⟨#[]⟩, .slice none 0 0, .int .i64 0] by rw [hW]; exact row_new w [.string ⟨#[]⟩, .slice none 0 0, .int .i64 0] 26)
  have htl : t.data.toList.length = t.size := by simp
  by_cases h1 : 8000 < t.size
  · have HE := hide (show msgOut t = (2, ⟨#[]⟩, []) from if_pos h1)
    have h1i : (8000 : Int) < t.size := by omega
    clear HWs HR2
    subst hW
    go_enter Tryz.func11, Tryz.ntmps11
    go_wp2
    refine bodyPost_ret (v := .agg #[.string ⟨#[]⟩, .slice none 0 0, .int .i64 2]) (by simp [results, Tryz.results11, go_sem]) rfl ⟨?_, (Below.refl _ _).alloc (Nat.le_refl _) _⟩
    first
      | exact ⟨⟨#[]⟩, _, _, _, rfl, osegs_nil _ _ _ _, HE.out⟩
      | exact ⟨⟨#[]⟩, _, _, rfl, _, osegs_nil _ _ _ _, HE.out⟩
      | exact ⟨_, _, _, rfl, _, osegs_nil _ _ _ _, HE.out⟩
      | exact ⟨_, _, rfl, _, _, osegs_nil _ _ _ _, HE.out⟩
  have HO := hide (show msgOut t = (match msgQ t.data.toList with | some s => (0, s.1, s.2) | none => (3, ⟨#[]⟩, [])) from if_neg h1)
  have h1i : ¬ (8000 : Int) < t.size := by omega
  by_cases h2 : t.size < 8
  · have HE := hide (show msgOut t = (3, ⟨#[]⟩, []) by rw [HO.out, msgQ_short (.inl (by omega))])
    have h2i : (t.size : Int) < 8 := by omega
    clear HWs HR2
    subst hW
    go_enter Tryz.func11, Tryz.ntmps11
    go_wp2
    refine bodyPost_ret (v := .agg #[.string ⟨#[]⟩, .slice none 0 0, .int .i64 3]) (by simp [results, Tryz.results11, go_sem]) rfl ⟨?_, (Below.refl _ _).alloc (Nat.le_refl _) _⟩
    first
      | exact ⟨⟨#[]⟩, _, _, _, rfl, osegs_nil _ _ _ _, HE.out⟩
      | exact ⟨⟨#[]⟩, _, _, rfl, _, osegs_nil _ _ _ _, HE.out⟩
      | exact ⟨_, _, _, rfl, _, osegs_nil _ _ _ _, HE.out⟩
      | exact ⟨_, _, rfl, _, _, osegs_nil _ _ _ _, HE.out⟩
  have h2i : ¬ (t.size : Int) < 8 := by omega
  have h2j : (8 : Int) ≤ (t.size : Int) := by omega
  obtain ⟨MK, hMK⟩ : ∃ MK, MK = t.extract 3 8 := ⟨_, rfl⟩
  have HMK := hide (show mk5 t.data.toList = MK by rw [hMK, extract_list]; rfl)
  have HM5 := hide (show MK.size ≤ maxLen by rw [hMK, ByteArray.size_extract]; unfold maxLen at ht ⊢; omega)
  have HMR := hide hMK
  have HN8 := hide (show ¬ t.data.toList.length < 8 by omega)
  go_enter Tryz.func11, Tryz.ntmps11
  go_wp2_with fail
  rw [← hW, ← hMK]
  clear hW hMK
  refine (implMarksRight_any MK _ HM5.out).mono ?_
  rintro e Z ⟨rfl, hb1⟩
  have HZ := hide hb1
  have HRZ := hide (HR2.out.below hb1 HR2.out.lt)
  have HBZ := hide (HBW.out.trans (hb1.mono HBW.out.size))
  clear hb1
  cases hq : marksB MK with
  | false =>
    have HE := hide (show msgOut t = (3, ⟨#[]⟩, []) by rw [HO.out, msgQ_short (.inr (by rw [HMK.out]; exact hq))])
    clear hq
    have HRX := HRZ
    have HBX := HBZ
    have k0 : Z.cell? ⟨w.heap.size, 0, none⟩ = some (.string ⟨#[]⟩) := HRX.out.cell 0
    have k1 : Z.cell? ⟨w.heap.size, 1, none⟩ = some (.slice none 0 0) := HRX.out.cell 1
    have k2 : Z.cell? ⟨w.heap.size, 2, none⟩ = some (.int .i64 0) := HRX.out.cell 2
    have f0 := HRX.out.free 0
    have f1 := HRX.out.free 1
    have f2 := HRX.out.free 2
    obtain ⟨q0, q1, q2, KF, KS, KZ, KM⟩ := threeS HRX.out (.string ⟨#[]⟩) (.slice none 0 0) (.int .i64 3)
    have HBF := hide (KF w w.heap.size (Nat.le_refl _) HBX.out)
    have HKS := hide KS
    have HKZ := hide KZ
    have HKM := hide KM
    clear KF KS KZ KM
    go_wp2
    exact bodyPost_ret (v := .agg #[.string ⟨#[]⟩, .slice none 0 0, .int .i64 3]) (by simp [results, Tryz.results11, go_sem, q0, q1, q2]) rfl ⟨⟨⟨#[]⟩, _, _, _, rfl, osegs_nil _ _ _ _, HE.out⟩, HBF.out⟩
  | true =>
    have HLI := hide (show msgQ t.data.toList = (linR MK (cutL 13 t.data.toList)).map fun xs => (MK, xs) by have h := msgQ_lin HN8.out (by rw [HMK.out]; exact hq); rw [HMK.out] at h; exact h)
    go_wp2_with fail
    refine (messageR_any MK t _ hq (fun e => HN8.out (by rw [e]; simp)) (by omega)).mono ?_
    rintro e Z1 ⟨⟨n, u, b, xs, rfl, hxs, hRb, hnm⟩, hb1⟩
    obtain ⟨p3, c3, rfl⟩ := hxs.isSlice
    have hba : Below Z1.heap.size Z1 (Z1.alloc (.cells #[.string n, .slice p3 xs.length c3] 24)) := (Below.refl _ _).alloc (Nat.le_refl _) _
    have HX := hide (show OSegs W.heap.size (Z1.alloc (.cells #[.string n, .slice p3 xs.length c3] 24)).heap.size (Z1.alloc (.cells #[.string n, .slice p3 xs.length c3] 24)) (.slice p3 xs.length c3) xs from OSegs.wide (hxs.keep (SameIn.ofBelow hba)) HZ.out.size hba.size)
    have HRY := hide ((HRZ.out.below hb1 HRZ.out.lt).below hba (Nat.lt_of_lt_of_le HRZ.out.lt hb1.size))
    have HBY := hide (HBZ.out.trans ((hb1.trans (hba.mono hb1.size)).mono HBZ.out.size))
    clear hba hb1 hxs hq
    cases b with
    | false =>
      have HE := hide (show msgOut t = (3, ⟨#[]⟩, []) by rw [HO.out, HLI.out, hRb]; rfl)
      clear hRb hnm
      have HRX := HRY
      have HBX := HBY
      have k0 : (Z1.alloc (.cells #[.string n, .slice p3 xs.length c3] 24)).cell? ⟨w.heap.size, 0, none⟩ = some (.string ⟨#[]⟩) := HRX.out.cell 0
      have k1 : (Z1.alloc (.cells #[.string n, .slice p3 xs.length c3] 24)).cell? ⟨w.heap.size, 1, none⟩ = some (.slice none 0 0) := HRX.out.cell 1
      have k2 : (Z1.alloc (.cells #[.string n, .slice p3 xs.length c3] 24)).cell? ⟨w.heap.size, 2, none⟩ = some (.int .i64 0) := HRX.out.cell 2
      have f0 := HRX.out.free 0
      have f1 := HRX.out.free 1
      have f2 := HRX.out.free 2
      obtain ⟨q0, q1, q2, KF, KS, KZ, KM⟩ := threeS HRX.out (.string ⟨#[]⟩) (.slice none 0 0) (.int .i64 3)
      have HBF := hide (KF w w.heap.size (Nat.le_refl _) HBX.out)
      have HKS := hide KS
      have HKZ := hide KZ
      have HKM := hide KM
      clear KF KS KZ KM
      go_wp2
      exact bodyPost_ret (v := .agg #[.string ⟨#[]⟩, .slice none 0 0, .int .i64 3]) (by simp [results, Tryz.results11, go_sem, q0, q1, q2]) rfl ⟨⟨⟨#[]⟩, _, _, _, rfl, osegs_nil _ _ _ _, HE.out⟩, HBF.out⟩
    | true =>
      have HE := hide (show msgOut t = (0, n, xs) by rw [HO.out, HLI.out, hRb, hnm rfl]; rfl)
      clear hRb hnm
      have HRX := HRY
      have HBX := HBY
      have k0 : (Z1.alloc (.cells #[.string n, .slice p3 xs.length c3] 24)).cell? ⟨w.heap.size, 0, none⟩ = some (.string ⟨#[]⟩) := HRX.out.cell 0
      have k1 : (Z1.alloc (.cells #[.string n, .slice p3 xs.length c3] 24)).cell? ⟨w.heap.size, 1, none⟩ = some (.slice none 0 0) := HRX.out.cell 1
      have k2 : (Z1.alloc (.cells #[.string n, .slice p3 xs.length c3] 24)).cell? ⟨w.heap.size, 2, none⟩ = some (.int .i64 0) := HRX.out.cell 2
      have f0 := HRX.out.free 0
      have f1 := HRX.out.free 1
      have f2 := HRX.out.free 2
      obtain ⟨q0, q1, q2, KF, KS, KZ, KM⟩ := threeS HRX.out (.string n) (.slice p3 xs.length c3) (.int .i64 0)
      have HBF := hide (KF w w.heap.size (Nat.le_refl _) HBX.out)
      have HKS := hide KS
      have HKZ := hide KZ
      have HKM := hide KM
      clear KF KS KZ KM
      go_wp2
      exact bodyPost_ret (v := .agg #[.string n, .slice p3 xs.length c3, .int .i64 0]) (by simp [results, Tryz.results11, go_sem, q0, q1, q2]) rfl ⟨⟨n, _, _, _, rfl, (by rw [HKZ.out]; exact OSegs.wide (HX.out.keep (HKS.out _ _ (.inl (by have := HWs.out; omega)))) (by have := HWs.out; omega) (Nat.le_refl _)), HE.out⟩, HBF.out⟩

set_option maxHeartbeats 2000000 in
theorem implMessageRead_any (t : ByteArray) (w : World) (ht : t.size ≤ maxLen) :
    Calls Tryz.prog 5 #[.string t] w fun e w' => (∃ n u c xs, e = .returned (.agg #[.string n, u, .int .i64 c]) ∧ OSegs w.heap.size w'.heap.size w' u xs ∧ msgOut t = (c, n, xs)) ∧ Below w.heap.size w w' := by
  obtain ⟨W, hW⟩ : ∃ W, W = w.alloc (.cells #[.string ⟨#[]⟩, .slice none 0 0, .int .i64 0] 26) := ⟨_, rfl⟩
  have HBW := hide (show Below w.heap.size w W by rw [hW]; exact (Below.refl _ _).alloc (Nat.le_refl _) _)
  have HWs := hide (show W.heap.size = w.heap.size + 1 by rw [hW]; simp)
  have HR2 := hide (show Row W w.heap.size 26 [.string ⟨#[]⟩, .slice none 0 0, .int .i64 0] by rw [hW]; exact row_new w [.string ⟨#[]⟩, .slice none 0 0, .int .i64 0] 26)
  go_enter Tryz.func5, Tryz.ntmps5
  go_wp2_with fail
  rw [← hW]
  clear hW
  refine (readMessageS_any t _ ht).mono ?_
  rintro e Z ⟨⟨n, u, c, xs, rfl, hxs, hE⟩, hb1⟩
  obtain ⟨p3, c3, rfl⟩ := hxs.isSlice
  have HE := hide hE
  have HX := hide hxs
  have HRZ := hide (HR2.out.below hb1 HR2.out.lt)
  have HBZ := hide (HBW.out.trans (hb1.mono HBW.out.size))
  clear hb1 hxs hE
  have HRX := HRZ
  have HBX := HBZ
  have k0 : Z.cell? ⟨w.heap.size, 0, none⟩ = some (.string ⟨#[]⟩) := HRX.out.cell 0
  have k1 : Z.cell? ⟨w.heap.size, 1, none⟩ = some (.slice none 0 0) := HRX.out.cell 1
  have k2 : Z.cell? ⟨w.heap.size, 2, none⟩ = some (.int .i64 0) := HRX.out.cell 2
  have f0 := HRX.out.free 0
  have f1 := HRX.out.free 1
  have f2 := HRX.out.free 2
  obtain ⟨q0, q1, q2, KF, KS, KZ, KM⟩ := threeS HRX.out (.string n) (.slice p3 xs.length c3) (.int .i64 c)
  have HBF := hide (KF w w.heap.size (Nat.le_refl _) HBX.out)
  have HKS := hide KS
  have HKZ := hide KZ
  have HKM := hide KM
  clear KF KS KZ KM
  go_wp2
  exact bodyPost_ret (v := .agg #[.string n, .slice p3 xs.length c3, .int .i64 c]) (by simp [results, Tryz.results5, go_sem, q0, q1, q2]) rfl ⟨⟨n, _, _, _, rfl, (by rw [HKZ.out]; exact OSegs.wide (HX.out.keep (HKS.out _ _ (.inl (by have := HWs.out; omega)))) (by have := HWs.out; omega) (Nat.le_refl _)), HE.out⟩, HBF.out⟩
end Go.Proofs.YtckcfjibiidafaaGreat
/- A Message's weight is bounded by its text. -/
namespace Go.Proofs.YtckcfjibiidafaaGreat
open Go.RowKit
theorem jn_one_len {α : Type} (s : UInt8) (f : α → List UInt8) : ∀ (xs : List α) (i : Nat), (jnF s f (i + 1) xs).length = (xs.map fun x => (f x).length).sum + xs.length
  | [], i => by simp [jnF]
  | x :: r, i => by
    rw [jnF, if_pos (by omega), List.length_append, List.length_append, jn_one_len s f r (i + 1)]
    simp only [List.map_cons, List.sum_cons, List.length_cons, List.length_nil]
    omega
theorem jn_len {α : Type} (s : UInt8) (f : α → List UInt8) : ∀ xs : List α, (xs.map fun x => (f x).length).sum + xs.length ≤ (jnF s f 0 xs).length + 1
  | [] => by simp [jnF]
  | x :: r => by
    rw [jnF, if_neg (by omega), List.nil_append, List.length_append, jn_one_len s f r 0]
    simp only [List.map_cons, List.sum_cons, List.length_cons]
    omega
theorem sum_step {α : Type} (w : α → Nat) (f : α → List UInt8) (c : Nat) : ∀ xs : List α, (∀ x ∈ xs, w x ≤ c * ((f x).length + 1)) → (xs.map w).sum ≤ c * ((xs.map fun x => (f x).length).sum + xs.length)
  | [], _ => by simp
  | x :: r, h => by
    have h1 := h x List.mem_cons_self
    have h2 := sum_step w f c r (fun y hy => h y (List.mem_cons_of_mem _ hy))
    simp only [List.map_cons, List.sum_cons, List.length_cons]
    have e : c * ((f x).length + (r.map fun x => (f x).length).sum + (r.length + 1)) = c * ((f x).length + 1) + c * ((r.map fun x => (f x).length).sum + r.length) := by rw [← Nat.mul_add]; congr 1; omega
    omega
theorem w_step {α : Type} {s : UInt8} {w : α → Nat} {f : α → List UInt8} {c : Nat} {xs : List α} (h : ∀ x ∈ xs, w x ≤ c * ((f x).length + 1)) : wL w xs ≤ (c + 1) * ((jnF s f 0 xs).length + 1) := by
  have h1 := sum_step w f c xs h
  have h2 := jn_len s f xs
  have h3 := Nat.mul_le_mul_left c h2
  have e : (c + 1) * ((jnF s f 0 xs).length + 1) = c * ((jnF s f 0 xs).length + 1) + ((jnF s f 0 xs).length + 1) := by rw [Nat.add_mul, Nat.one_mul]
  unfold wL
  omega
theorem esc_pos (m : ByteArray) (c : UInt8) : 1 ≤ (escOne m c).length := by unfold escOne; split <;> simp
theorem escL_ge (m : ByteArray) : ∀ l : List UInt8, l.length ≤ (escL m l).length
  | [] => Nat.zero_le _
  | c :: r => by
    have h1 := esc_pos m c
    have h2 := escL_ge m r
    have e : escL m (c :: r) = escOne m c ++ escL m r := rfl
    rw [e, List.length_append, List.length_cons]
    omega
theorem sub_w (m : ByteArray) (s : ByteArray) : s.size ≤ 1 * ((subT m s).length + 1) := by
  have h := escL_ge m s.data.toList
  have e : s.data.toList.length = s.size := by simp
  have e2 : subT m s = escL m s.data.toList := rfl
  rw [e2]
  omega
theorem comp_w (m : ByteArray) (x : List ByteArray) : wComp x ≤ 2 * ((compT m x).length + 1) := w_step (fun s _ => sub_w m s)
theorem rep_w (m : ByteArray) (x : List (List ByteArray)) : wRep x ≤ 3 * ((repT m x).length + 1) := w_step (fun s _ => comp_w m s)
theorem fld_w (m : ByteArray) (x : List (List (List ByteArray))) : wFld x ≤ 4 * ((fldT m x).length + 1) := w_step (fun s _ => rep_w m s)
theorem flds_w (m : ByteArray) : ∀ fs : Flds, wFlds fs ≤ 5 * (fldsT m fs).length
  | [] => by simp [wFlds, wL]
  | f :: r => by
    have h1 := fld_w m f
    have h2 := flds_w m r
    have e : fldsT m (f :: r) = (bAt m 0 :: fldT m f) ++ fldsT m r := rfl
    have e2 : wFlds (f :: r) = 1 + wFld f + wFlds r := by
      show wL wFld (f :: r) = 1 + wFld f + wL wFld r
      unfold wL
      simp only [List.map_cons, List.sum_cons, List.length_cons]
      omega
    rw [e, e2, List.length_append, List.length_cons]
    omega
theorem seg_w {m n : ByteArray} {fs : Flds} (h : segB n fs = true) : 1 + n.size + wFlds fs ≤ 5 * (segT m n fs).length := by
  have h1 := flds_w m fs
  have h2 := (segB_parts h).1
  have h3 : n.data.toList.length = n.size := by simp
  unfold segT headT
  rw [List.length_append, List.length_append]
  omega
theorem whole_w {m : ByteArray} : ∀ xs : List Seg, (∀ x ∈ xs, segB x.1 x.2 = true) → wSegs xs ≤ 5 * (wholeT m xs).length
  | [], _ => by simp [wSegs, wL]
  | x :: r, h => by
    have h1 := seg_w (m := m) (h x List.mem_cons_self)
    have h2 := whole_w (m := m) r (fun y hy => h y (List.mem_cons_of_mem _ hy))
    have e2 : wSegs (x :: r) = 1 + x.1.size + wFlds x.2 + wSegs r := by
      have e9 : wSeg x = x.1.size + wFlds x.2 := rfl
      show wL wSeg (x :: r) = 1 + x.1.size + wFlds x.2 + wL wSeg r
      unfold wL
      simp only [List.map_cons, List.sum_cons, List.length_cons, e9]
      omega
    rw [whole_cons, e2, List.length_append, List.length_cons]
    omega
theorem msgOut_w (t : ByteArray) : wSegs (msgOut t).2.2 ≤ 1048576 := by
  unfold msgOut
  split
  · simp [wSegs, wL]
  · rename_i ht
    have hl : t.data.toList.length = t.size := by simp
    split
    · rename_i s hs
      obtain ⟨h1, h2⟩ := (msgQ_iff _ (by omega) s).1 hs
      have hb : msgB s.1 s.2 = true := by
        unfold msgMd at h1
        split at h1
        · cases h1
        · obtain ⟨xs, h3, h4⟩ := Option.bind_eq_some_iff.1 h1
          split at h4
          · rename_i hb
            cases h4
            exact hb
          · cases h4
      have h3 := whole_w (m := s.1) s.2 (msg_segs hb).2
      rw [h2] at h3
      show wSegs s.2 ≤ _
      omega
    · simp [wSegs, wL]
end Go.Proofs.YtckcfjibiidafaaGreat
