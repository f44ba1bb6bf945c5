/- DiskRead, as the specification does it. -/
import Derived.Test.YtdnbfnahhkmmnaaDoorSCopy
namespace Go.Proofs.YtdnbfnahhkmmnaaDoor
open Go.RowKit

/-- What a function of the disk hands back. -/
structure Out where
  xs : List ByteArray
  ps : List (Int × ByteArray)
  t : ByteArray
  c : Int
def illOut (c : Int) : Out := ⟨[], [], ⟨#[]⟩, c⟩
/-- The call ended with the answer o, in memory of its own. -/
def OutIs (B : Nat) (e : Ending) (w : World) (o : Out) : Prop :=
  ∃ us up, e = .returned (.agg #[us, up, .string o.t, .int .i64 o.c]) ∧ OwnS 9 B w us o.xs ∧ OwnP 46 B w up o.ps ∧ ∀ x ∈ leads us, x ∉ leads up
theorem OwnS.none (T : TypeId) (B : Nat) (w : World) : OwnS T B w (.slice none 0 0) [] := ⟨by simp, .inl ⟨_, _, rfl, by unfold maxLen; omega, rfl⟩⟩
theorem OwnP.none (T : TypeId) (B : Nat) (w : World) : OwnP T B w (.slice none 0 0) [] := ⟨by simp, .inl ⟨_, _, rfl, by unfold maxLen; omega, rfl⟩⟩

def lastAt (at' : Int) : List (Int × ByteArray) → ByteArray → ByteArray
  | [], t => t
  | x :: r, t => lastAt at' r (if x.1 = at' then x.2 else t)
def readOut (xs : List ByteArray) (ps : List (Int × ByteArray)) (a : Int) : Out :=
  if right xs ps then (if 0 ≤ a ∧ a ≤ (xs.length : Int) - 1 then ⟨xs, ps, lastAt a ps (xs.getD a.toNat ⟨#[]⟩), 0⟩ else illOut 8) else illOut 1

theorem four {w : World} {G : Nat} {T : TypeId} {a b c d : Value} (R : Row w G T [a, b, c, d]) (A B C D : Value) :
    ((((w.setCell ⟨G, 0, none⟩ A).setCell ⟨G, 1, none⟩ B).setCell ⟨G, 2, none⟩ C).setCell ⟨G, 3, none⟩ D).cell? ⟨G, 0, none⟩ = some A ∧
    ((((w.setCell ⟨G, 0, none⟩ A).setCell ⟨G, 1, none⟩ B).setCell ⟨G, 2, none⟩ C).setCell ⟨G, 3, none⟩ D).cell? ⟨G, 1, none⟩ = some B ∧
    ((((w.setCell ⟨G, 0, none⟩ A).setCell ⟨G, 1, none⟩ B).setCell ⟨G, 2, none⟩ C).setCell ⟨G, 3, none⟩ D).cell? ⟨G, 2, none⟩ = some C ∧
    ((((w.setCell ⟨G, 0, none⟩ A).setCell ⟨G, 1, none⟩ B).setCell ⟨G, 2, none⟩ C).setCell ⟨G, 3, none⟩ D).cell? ⟨G, 3, none⟩ = some D ∧
    Kept [G] w ((((w.setCell ⟨G, 0, none⟩ A).setCell ⟨G, 1, none⟩ B).setCell ⟨G, 2, none⟩ C).setCell ⟨G, 3, none⟩ D) := by
  have R4 := (((R.set (j := 0) A).set (j := 1) B).set (j := 2) C).set (j := 3) D
  exact ⟨R4.cell 0, R4.cell 1, R4.cell 2, R4.cell 3, ((((Kept.refl _ _).set (by simp) _).set (by simp) _).set (by simp) _).set (by simp) _⟩

set_option maxHeartbeats 2000000 in
theorem specRead_ill (vs vp : Value) (xs : List ByteArray) (ps : List (Int × ByteArray)) (a : Int) (w : World) (hn : xs.length ≤ 1048576) (hn2 : ps.length ≤ 1048576) (hr : Reads w vs xs) (hp : ReadsP w vp ps) (hbad : right xs ps = false) :
    Calls Tryd.prog 19 #[.agg #[vs, vp], .int .i64 a] w fun e w' => OutIs w.heap.size e w' (readOut xs ps a) ∧ Below w.heap.size w w' := by
  have HF : Hid (readOut xs ps a = illOut 1) := by unfold readOut; rw [hbad]; rfl
  rw [HF.out]
  have hb0 : Below w.heap.size w ((w.alloc (.cells #[vs, vp] 26)).alloc (.cells #[.slice none 0 0, .slice none 0 0, .string ⟨#[]⟩, .int .i64 0] 30)) :=
    ((Below.refl _ _).alloc (Nat.le_refl _) _).alloc (by simp) _
  have HR := hide (hr.below hb0 (Nat.le_refl _))
  have HP := hide (hp.below hb0 (Nat.le_refl _))
  have HB0 := hide hb0
  obtain ⟨p1, c1, rfl, hq⟩ := hr
  obtain ⟨p2, c2, rfl, hq2⟩ := hp
  have R1 := row_new (w.alloc (.cells #[.slice p1 xs.length c1, .slice p2 ps.length c2] 26)) [.slice none 0 0, .slice none 0 0, .string ⟨#[]⟩, .int .i64 0] 30
  simp only [World.size_alloc] at R1
  have HR1 := hide R1
  clear hb0 hq hq2 R1
  go_enter Tryd.func19, Tryd.ntmps19
  go_wp2_with fail
  refine (specRight_any _ _ xs ps _ hn hn2 HR.out HP.out).mono ?_
  rw [hbad]
  rintro e w1 ⟨rfl, hb1⟩
  have HB1 := hide hb1
  have HR2 := hide (HR1.out.below hb1 (by simp))
  clear hb1
  go_wp2_with fail
  refine (l02Ill_any _ _).mono ?_
  rintro e w2 ⟨rfl, hb2⟩
  have R3 := HR2.out.below hb2 HR2.out.lt
  have k1 := HB0.out.trans (HB1.out.mono HB0.out.size)
  have HB2 := hide (k1.trans (hb2.mono k1.size))
  have c0 : w2.cell? ⟨w.heap.size + 1, 0, none⟩ = some (.slice none 0 0) := R3.cell 0
  have c1' : w2.cell? ⟨w.heap.size + 1, 1, none⟩ = some (.slice none 0 0) := R3.cell 1
  have c2' : w2.cell? ⟨w.heap.size + 1, 2, none⟩ = some (.string ⟨#[]⟩) := R3.cell 2
  have c3 : w2.cell? ⟨w.heap.size + 1, 3, none⟩ = some (.int .i64 0) := R3.cell 3
  have f0 := R3.free 0
  have f1 := R3.free 1
  have f2 := R3.free 2
  have f3 := R3.free 3
  have HR3 := hide R3
  clear k1 hb2 R3
  go_wp2
  obtain ⟨q0, q1, q2, q3, KF⟩ := four HR3.out (.slice none 0 0) (.slice none 0 0) (.string ⟨#[]⟩) (.int .i64 1)
  exact bodyPost_ret (v := .agg #[.slice none 0 0, .slice none 0 0, .string ⟨#[]⟩, .int .i64 1]) (by simp [results, Tryd.results19, go_sem, q0, q1, q2, q3]) rfl
    ⟨⟨_, _, rfl, OwnS.none _ _ _, OwnP.none _ _ _, fun _ h => by cases h⟩, KF.toBelow HB2.out HB2.out.size (by simp)⟩

set_option maxHeartbeats 2000000 in
theorem specRead_far (vs vp : Value) (xs : List ByteArray) (ps : List (Int × ByteArray)) (a : Int) (w : World) (hn : xs.length ≤ 1048576) (hn2 : ps.length ≤ 1048576) (hr : Reads w vs xs) (hp : ReadsP w vp ps) (hok : right xs ps = true) (hfar : ¬ (0 ≤ a ∧ a ≤ (xs.length : Int) - 1)) :
    Calls Tryd.prog 19 #[.agg #[vs, vp], .int .i64 a] w fun e w' => OutIs w.heap.size e w' (readOut xs ps a) ∧ Below w.heap.size w w' := by
  have HF : Hid (readOut xs ps a = illOut 8) := hide (by unfold readOut; rw [hok, if_pos rfl, if_neg hfar])
  rw [HF.out]
  have hb0 : Below w.heap.size w ((w.alloc (.cells #[vs, vp] 26)).alloc (.cells #[.slice none 0 0, .slice none 0 0, .string ⟨#[]⟩, .int .i64 0] 30)) :=
    ((Below.refl _ _).alloc (Nat.le_refl _) _).alloc (by simp) _
  have HR := hide (hr.below hb0 (Nat.le_refl _))
  have HP := hide (hp.below hb0 (Nat.le_refl _))
  have HB0 := hide hb0
  obtain ⟨p1, c1, rfl, hq⟩ := hr
  obtain ⟨p2, c2, rfl, hq2⟩ := hp
  have R1 := row_new (w.alloc (.cells #[.slice p1 xs.length c1, .slice p2 ps.length c2] 26)) [.slice none 0 0, .slice none 0 0, .string ⟨#[]⟩, .int .i64 0] 30
  simp only [World.size_alloc] at R1
  have HR1 := hide R1
  clear hb0 hq hq2 R1
  go_enter Tryd.func19, Tryd.ntmps19
  go_wp2_with fail
  refine (specRight_any _ _ xs ps _ hn hn2 HR.out HP.out).mono ?_
  rw [hok]
  rintro e w1 ⟨rfl, hb1⟩
  have HB1 := hide hb1
  have HR2 := hide (HR1.out.below hb1 (by simp))
  obtain ⟨hc1, hf1⟩ := bcell hb1
  have e1 : IntKind.i64.wrap ((xs.length : Int) - 1) = (xs.length : Int) - 1 := by rw [IntKind.wrap_i64]; omega
  clear hb1
  go_wp2_with fail
  refine (l02Is_no _ _ _ _ hfar).mono ?_
  rintro e w1' ⟨rfl, rfl⟩
  clear hc1 hf1
  go_wp2_with fail
  refine (l02Ill_any _ _).mono ?_
  rintro e w2 ⟨rfl, hb2⟩
  have R3 := HR2.out.below hb2 HR2.out.lt
  have k1 := HB0.out.trans (HB1.out.mono HB0.out.size)
  have HB2 := hide (k1.trans (hb2.mono k1.size))
  have c0 : w2.cell? ⟨w.heap.size + 1, 0, none⟩ = some (.slice none 0 0) := R3.cell 0
  have c1' : w2.cell? ⟨w.heap.size + 1, 1, none⟩ = some (.slice none 0 0) := R3.cell 1
  have c2' : w2.cell? ⟨w.heap.size + 1, 2, none⟩ = some (.string ⟨#[]⟩) := R3.cell 2
  have c3 : w2.cell? ⟨w.heap.size + 1, 3, none⟩ = some (.int .i64 0) := R3.cell 3
  have f0 := R3.free 0
  have f1 := R3.free 1
  have f2 := R3.free 2
  have f3 := R3.free 3
  have HR3 := hide R3
  clear k1 hb2 R3
  go_wp2
  obtain ⟨q0, q1, q2, q3, KF⟩ := four HR3.out (.slice none 0 0) (.slice none 0 0) (.string ⟨#[]⟩) (.int .i64 8)
  exact bodyPost_ret (v := .agg #[.slice none 0 0, .slice none 0 0, .string ⟨#[]⟩, .int .i64 8]) (by simp [results, Tryd.results19, go_sem, q0, q1, q2, q3]) rfl
    ⟨⟨_, _, rfl, OwnS.none _ _ _, OwnP.none _ _ _, fun _ h => by cases h⟩, KF.toBelow HB2.out HB2.out.size (by simp)⟩

theorem lastAt_step (a : Int) (ps : List (Int × ByteArray)) (k : Nat) (h : k < ps.length) (t : ByteArray) : lastAt a (ps.drop k) t = lastAt a (ps.drop (k + 1)) (if (ps[k]'h).1 = a then (ps[k]'h).2 else t) := by
  rw [List.drop_eq_getElem_cons h]; rfl

set_option maxHeartbeats 4000000 in
theorem specRead_good (vs vp : Value) (xs : List ByteArray) (ps : List (Int × ByteArray)) (n : Nat) (w : World) (hn : xs.length ≤ 1048576) (hn2 : ps.length ≤ 1048576) (hr : Reads w vs xs) (hp : ReadsP w vp ps) (hok : right xs ps = true) (hlt : n < xs.length) :
    Calls Tryd.prog 19 #[.agg #[vs, vp], .int .i64 (n : Int)] w fun e w' => OutIs w.heap.size e w' (readOut xs ps (n : Int)) ∧ Below w.heap.size w w' := by
  have HF : Hid (readOut xs ps (n : Int) = ⟨xs, ps, lastAt n ps (xs[n]'hlt), 0⟩) := hide (by
    unfold readOut
    rw [hok, if_pos rfl, if_pos ⟨by omega, by omega⟩]
    simp [hlt])
  rw [HF.out]
  have hb0 : Below w.heap.size w ((w.alloc (.cells #[vs, vp] 26)).alloc (.cells #[.slice none 0 0, .slice none 0 0, .string ⟨#[]⟩, .int .i64 0] 30)) :=
    ((Below.refl _ _).alloc (Nat.le_refl _) _).alloc (by simp) _
  have HR := hide (hr.below hb0 (Nat.le_refl _))
  have HP := hide (hp.below hb0 (Nat.le_refl _))
  have HB0 := hide hb0
  obtain ⟨p1, c1, rfl, hq⟩ := hr
  obtain ⟨p2, c2, rfl, hq2⟩ := hp
  have R0 := (row_new w [.slice p1 xs.length c1, .slice p2 ps.length c2] 26).alloc (.cells #[.slice none 0 0, .slice none 0 0, .string ⟨#[]⟩, .int .i64 0] 30)
  have R1 := row_new (w.alloc (.cells #[.slice p1 xs.length c1, .slice p2 ps.length c2] 26)) [.slice none 0 0, .slice none 0 0, .string ⟨#[]⟩, .int .i64 0] 30
  simp only [World.size_alloc] at R1
  have HR0 := hide R0
  have HR1 := hide R1
  clear hb0 hq hq2 R1 R0
  go_enter Tryd.func19, Tryd.ntmps19
  go_wp2_with fail
  refine (specRight_any _ _ xs ps _ hn hn2 HR.out HP.out).mono ?_
  rw [hok]
  rintro e w1 ⟨rfl, hb1⟩
  have HB1 := hide (HB0.out.trans (hb1.mono HB0.out.size))
  have HX1 := hide (HR1.out.below hb1 (by simp))
  have HX0 := hide (HR0.out.below hb1 (by simp; omega))
  have HRa := hide (HR.out.below hb1 (Nat.le_refl _))
  have HPa := hide (HP.out.below hb1 (Nat.le_refl _))
  have a0 : w1.cell? ⟨w.heap.size, 0, none⟩ = some (.slice p1 xs.length c1) := HX0.out.cell 0
  have a1 : w1.cell? ⟨w.heap.size, 1, none⟩ = some (.slice p2 ps.length c2) := HX0.out.cell 1
  have e1 : IntKind.i64.wrap ((xs.length : Int) - 1) = (xs.length : Int) - 1 := by rw [IntKind.wrap_i64]; omega
  have i0 : (n : Int) < (xs.length : Int) := by omega
  clear hb1 HR HP HR0 HR1 HB0
  go_wp2_with fail
  refine (l02Is_yes _ _ _ _ (by omega) (by omega)).mono ?_
  rintro e w1' ⟨rfl, rfl⟩
  obtain ⟨g1, o1, rfl, hg1, hc1⟩ : ∃ g off, p1 = some ⟨g, off, none⟩ ∧ _ := by
    obtain ⟨p, cap, he, _, _, _, h4⟩ := HRa.out
    cases he
    exact h4 (by omega)
  have hcn := hc1 n hlt
  clear hc1 hg1
  go_wp2
  clear hcn e1
  go_loop [5, 6] (fun t i => ∃ (k : Nat) (T : ByteArray), k ≤ ps.length ∧ i = .int .i64 k ∧ t = .string T ∧ Hid (lastAt n ps (xs[n]'hlt) = lastAt n (ps.drop k) T)) (fun _ i => ps.length - (intOf i).toNat)
  case atStart => exact ⟨0, _, Nat.zero_le _, rfl, rfl, rfl⟩
  case round =>
    obtain ⟨j, T, hj, rfl, rfl, HS⟩ := hrel
    by_cases hlt2 : j < ps.length
    · obtain ⟨g2, o2, rfl, hg2, hc2⟩ : ∃ g off, p2 = some ⟨g, off, none⟩ ∧ _ := by
        obtain ⟨p, cap, he, _, _, _, h4⟩ := HPa.out
        cases he
        exact h4 (by omega)
      obtain ⟨hk0, hk1⟩ := hc2 j hlt2
      have HT := hide (lastAt_step n ps j hlt2 T)
      have hki : (j : Int) < (ps.length : Int) := by omega
      obtain ⟨A, hA⟩ : ∃ A, A = (ps[j]'hlt2).1 := ⟨_, rfl⟩
      obtain ⟨D, hD⟩ : ∃ D, D = (ps[j]'hlt2).2 := ⟨_, rfl⟩
      rw [← hA] at hk0
      rw [← hD] at hk1
      rw [← hA, ← hD] at HT
      clear hA hD hc2 hg2
      by_cases hin : A = (n : Int)
      · subst hin
        have HU := hide (HS.out.trans (HT.out.trans (by rw [if_pos rfl])))
        go_wp2
        go_round
        case rel => exact ⟨j + 1, D, by omega, by go_num, rfl, HU⟩
        case measure => simp [intOf]; omega
      · have HU := hide (HS.out.trans (HT.out.trans (by rw [if_neg hin])))
        have t1 : decide (A = (n : Int)) = false := by simpa using hin
        go_wp2
        go_round
        case rel => exact ⟨j + 1, T, by omega, by go_num, rfl, HU⟩
        case measure => simp [intOf]; omega
    · have HU := hide (show lastAt n ps (xs[n]'hlt) = T by rw [HS.out, List.drop_eq_nil_of_le (by omega)]; rfl)
      go_wp2_with fail
      refine (l02Copy_any _ _ xs ps _ hn hn2 HRa.out HPa.out).mono ?_
      rintro e w2 ⟨us, up, rfl, ow1, ow2, dd, _, hb2⟩
      have hl1 := HX1.out.lt
      have R3 := HX1.out.below hb2 hl1
      have c0 : w2.cell? ⟨w.heap.size + 1, 0, none⟩ = some (.slice none 0 0) := R3.cell 0
      have c1' : w2.cell? ⟨w.heap.size + 1, 1, none⟩ = some (.slice none 0 0) := R3.cell 1
      have c2' : w2.cell? ⟨w.heap.size + 1, 2, none⟩ = some (.string ⟨#[]⟩) := R3.cell 2
      have c3 : w2.cell? ⟨w.heap.size + 1, 3, none⟩ = some (.int .i64 0) := R3.cell 3
      have f0 := R3.free 0
      have f1 := R3.free 1
      have f2 := R3.free 2
      have f3 := R3.free 3
      have HR3 := hide R3
      have HB2 := hide (HB1.out.trans (hb2.mono HB1.out.size))
      have HO1 := hide ow1
      have HO2 := hide ow2
      have HD := hide dd
      obtain ⟨q1, m1, d1, rfl⟩ : ∃ p n c, us = .slice p n c := by obtain ⟨p, c, e, _⟩ := ow1.reads; exact ⟨_, _, _, e⟩
      obtain ⟨q2, m2, d2, rfl⟩ : ∃ p n c, up = .slice p n c := by obtain ⟨p, c, e, _⟩ := ow2.reads; exact ⟨_, _, _, e⟩
      clear ow1 ow2 dd hb2 R3
      go_wp2
      obtain ⟨z0, z1, z2, z3, KF⟩ := four HR3.out (.slice q1 m1 d1) (.slice q2 m2 d2) (.string T) (.int .i64 0)
      exact bodyPost_ret (v := .agg #[.slice q1 m1 d1, .slice q2 m2 d2, .string T, .int .i64 0]) (by simp [results, Tryd.results19, go_sem, z0, z1, z2, z3]) rfl
        ⟨⟨_, _, by rw [HU.out], (HO1.out.kept KF (fun x hx => by have := HO1.out.leads x hx; simp; omega)).mono (by omega), (HO2.out.kept KF (fun x hx => by have := HO2.out.leads x hx; simp; omega)).mono (by omega), HD.out⟩, KF.toBelow HB2.out HB2.out.size (by simp)⟩

theorem specRead_any (vs vp : Value) (xs : List ByteArray) (ps : List (Int × ByteArray)) (a : Int) (w : World) (hn : xs.length ≤ 1048576) (hn2 : ps.length ≤ 1048576) (hr : Reads w vs xs) (hp : ReadsP w vp ps) :
    Calls Tryd.prog 19 #[.agg #[vs, vp], .int .i64 a] w fun e w' => OutIs w.heap.size e w' (readOut xs ps a) ∧ Below w.heap.size w w' := by
  cases hok : right xs ps with
  | false => exact specRead_ill vs vp xs ps a w hn hn2 hr hp hok
  | true =>
    by_cases hin : 0 ≤ a ∧ a ≤ (xs.length : Int) - 1
    · obtain ⟨n, rfl⟩ := Int.eq_ofNat_of_zero_le hin.1
      exact specRead_good vs vp xs ps n w hn hn2 hr hp hok (by omega)
    · exact specRead_far vs vp xs ps a w hn hn2 hr hp hok hin
end Go.Proofs.YtdnbfnahhkmmnaaDoor
