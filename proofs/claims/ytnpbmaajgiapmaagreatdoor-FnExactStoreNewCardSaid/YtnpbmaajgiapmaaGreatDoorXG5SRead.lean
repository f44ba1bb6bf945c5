/- DiskRead, as the specification does it. -/
import Derived.Test.YtnpbmaajgiapmaaGreatDoorXG4SRight
import Derived.Test.YtnpbmaajgiapmaaGreatDoorRows
import Derived.WalkKit
import Derived.OpenShut
import Derived.Laws.CopyOwn
import Derived.Lib.BufferWrite
import Derived.Laws.IdiomStrings
namespace Go.Proofs.YtnpbmaajgiapmaaGreatDoor
open Go.RowKit

/-- What a function of the disk hands back. -/
structure Out where
  xs : List ByteArray
  ps : List (Int × ByteArray)
  t : ByteArray
  c : Int
def illOut (c : Int) : Out := ⟨[], [], ⟨#[]⟩, c⟩
/-- The call ended with the answer o, in memory of its own. -/
def OutIs (B : Nat) (e : Ending) (w : World) (o : Out) : Prop :=
  ∃ us up, e = .returned (.agg #[us, up, .string o.t, .int .i64 o.c]) ∧ OwnS 9 B w us o.xs ∧ OwnP 92 B w up o.ps ∧ ∀ x ∈ leads us, x ∉ leads up
theorem OwnS.none (T : TypeId) (B : Nat) (w : World) : OwnS T B w (.slice none 0 0) [] := ⟨by simp, .inl ⟨_, _, rfl, by unfold maxLen; omega, rfl⟩⟩
theorem OwnP.none (T : TypeId) (B : Nat) (w : World) : OwnP T B w (.slice none 0 0) [] := ⟨by simp, .inl ⟨_, _, rfl, by unfold maxLen; omega, rfl⟩⟩

def lastAt (at' : Int) : List (Int × ByteArray) → ByteArray → ByteArray
  | [], t => t
  | x :: r, t => lastAt at' r (if x.1 = at' then x.2 else t)
def readOut (xs : List ByteArray) (ps : List (Int × ByteArray)) (a : Int) : Out :=
  if right xs ps then (if 0 ≤ a ∧ a ≤ (xs.length : Int) - 1 then ⟨xs, ps, lastAt a ps (xs.getD a.toNat ⟨#[]⟩), 0⟩ else illOut 8) else illOut 1

theorem four {w : World} {G : Nat} {T : TypeId} {a b c d : Value} (R : Row w G T [a, b, c, d]) (A B C D : Value) :
    ((((w.setCell ⟨G, 0, none⟩ A).setCell ⟨G, 1, none⟩ B).setCell ⟨G, 2, none⟩ C).setCell ⟨G, 3, none⟩ D).cell? ⟨G, 0, none⟩ = some A ∧
    ((((w.setCell ⟨G, 0, none⟩ A).setCell ⟨G, 1, none⟩ B).setCell ⟨G, 2, none⟩ C).setCell ⟨G, 3, none⟩ D).cell? ⟨G, 1, none⟩ = some B ∧
    ((((w.setCell ⟨G, 0, none⟩ A).setCell ⟨G, 1, none⟩ B).setCell ⟨G, 2, none⟩ C).setCell ⟨G, 3, none⟩ D).cell? ⟨G, 2, none⟩ = some C ∧
    ((((w.setCell ⟨G, 0, none⟩ A).setCell ⟨G, 1, none⟩ B).setCell ⟨G, 2, none⟩ C).setCell ⟨G, 3, none⟩ D).cell? ⟨G, 3, none⟩ = some D ∧
    Kept [G] w ((((w.setCell ⟨G, 0, none⟩ A).setCell ⟨G, 1, none⟩ B).setCell ⟨G, 2, none⟩ C).setCell ⟨G, 3, none⟩ D) := by
  have R4 := (((R.set (j := 0) A).set (j := 1) B).set (j := 2) C).set (j := 3) D
  exact ⟨R4.cell 0, R4.cell 1, R4.cell 2, R4.cell 3, ((((Kept.refl _ _).set (by simp) _).set (by simp) _).set (by simp) _).set (by simp) _⟩

set_option maxHeartbeats 2000000 in
theorem specRead_ill (vs vp : Value) (xs : List ByteArray) (ps : List (Int × ByteArray)) (a : Int) (w : World) (hn : xs.length ≤ 1048576) (hn2 : ps.length ≤ 1048576) (hr : Reads w vs xs) (hp : ReadsP w vp ps) (hbad : right xs ps = false) :
    Calls Tryz.prog 90 #[.agg #[vs, vp], .int .i64 a] w fun e w' => OutIs w.heap.size e w' (readOut xs ps a) ∧ Below w.heap.size w w' := by
  have HF : Hid (readOut xs ps a = illOut 1) := by unfold readOut; rw [hbad]; rfl
  rw [HF.out]
  have hb0 : Below w.heap.size w ((w.alloc (.cells #[vs, vp] 30)).alloc (.cells #[.slice none 0 0, .slice none 0 0, .string ⟨#[]⟩, .int .i64 0] 101)) :=
    ((Below.refl _ _).alloc (Nat.le_refl _) _).alloc (by simp) _
  have HR := hide (hr.below hb0 (Nat.le_refl _))
  have HP := hide (hp.below hb0 (Nat.le_refl _))
  have HB0 := hide hb0
  obtain ⟨p1, c1, rfl, hq⟩ := hr
  obtain ⟨p2, c2, rfl, hq2⟩ := hp
  have R1 := row_new (w.alloc (.cells #[.slice p1 xs.length c1, .slice p2 ps.length c2] 30)) [.slice none 0 0, .slice none 0 0, .string ⟨#[]⟩, .int .i64 0] 101
  simp only [World.size_alloc] at R1
  have HR1 := hide R1
  clear hb0 hq hq2 R1
  go_enter Tryz.func90, Tryz.ntmps90
  go_wp2_with fail
  refine (specRight_any _ _ xs ps _ hn hn2 HR.out HP.out).mono ?_
  rw [hbad]
  rintro e w1 ⟨rfl, hb1⟩
  have HB1 := hide hb1
  have HR2 := hide (HR1.out.below hb1 (by simp))
  clear hb1
  go_wp2_with fail
  refine (l02Ill_any _ _).mono ?_
  rintro e w2 ⟨rfl, hb2⟩
  have R3 := HR2.out.below hb2 HR2.out.lt
  have k1 := HB0.out.trans (HB1.out.mono HB0.out.size)
  have HB2 := hide (k1.trans (hb2.mono k1.size))
  have c0 : w2.cell? ⟨w.heap.size + 1, 0, none⟩ = some (.slice none 0 0) := R3.cell 0
  have c1' : w2.cell? ⟨w.heap.size + 1, 1, none⟩ = some (.slice none 0 0) := R3.cell 1
  have c2' : w2.cell? ⟨w.heap.size + 1, 2, none⟩ = some (.string ⟨#[]⟩) := R3.cell 2
  have c3 : w2.cell? ⟨w.heap.size + 1, 3, none⟩ = some (.int .i64 0) := R3.cell 3
  have f0 := R3.free 0
  have f1 := R3.free 1
  have f2 := R3.free 2
  have f3 := R3.free 3
  have HR3 := hide R3
  clear k1 hb2 R3
  go_wp2
  obtain ⟨q0, q1, q2, q3, KF⟩ := four HR3.out (.slice none 0 0) (.slice none 0 0) (.string ⟨#[]⟩) (.int .i64 1)
  exact bodyPost_ret (v := .agg #[.slice none 0 0, .slice none 0 0, .string ⟨#[]⟩, .int .i64 1]) (by simp [results, Tryz.results90, go_sem, q0, q1, q2, q3]) rfl
    ⟨⟨_, _, rfl, OwnS.none _ _ _, OwnP.none _ _ _, fun _ h => by cases h⟩, KF.toBelow HB2.out HB2.out.size (by simp)⟩

set_option maxHeartbeats 2000000 in
theorem specRead_far (vs vp : Value) (xs : List ByteArray) (ps : List (Int × ByteArray)) (a : Int) (w : World) (hn : xs.length ≤ 1048576) (hn2 : ps.length ≤ 1048576) (hr : Reads w vs xs) (hp : ReadsP w vp ps) (hok : right xs ps = true) (hfar : ¬ (0 ≤ a ∧ a ≤ (xs.length : Int) - 1)) :
    Calls Tryz.prog 90 #[.agg #[vs, vp], .int .i64 a] w fun e w' => OutIs w.heap.size e w' (readOut xs ps a) ∧ Below w.heap.size w w' := by
  have HF : Hid (readOut xs ps a = illOut 8) := hide (by unfold readOut; rw [hok, if_pos rfl, if_neg hfar])
  rw [HF.out]
  have hb0 : Below w.heap.size w ((w.alloc (.cells #[vs, vp] 30)).alloc (.cells #[.slice none 0 0, .slice none 0 0, .string ⟨#[]⟩, .int .i64 0] 101)) :=
    ((Below.refl _ _).alloc (Nat.le_refl _) _).alloc (by simp) _
  have HR := hide (hr.below hb0 (Nat.le_refl _))
  have HP := hide (hp.below hb0 (Nat.le_refl _))
  have HB0 := hide hb0
  obtain ⟨p1, c1, rfl, hq⟩ := hr
  obtain ⟨p2, c2, rfl, hq2⟩ := hp
  have R1 := row_new (w.alloc (.cells #[.slice p1 xs.length c1, .slice p2 ps.length c2] 30)) [.slice none 0 0, .slice none 0 0, .string ⟨#[]⟩, .int .i64 0] 101
  simp only [World.size_alloc] at R1
  have HR1 := hide R1
  clear hb0 hq hq2 R1
  go_enter Tryz.func90, Tryz.ntmps90
  go_wp2_with fail
  refine (specRight_any _ _ xs ps _ hn hn2 HR.out HP.out).mono ?_
  rw [hok]
  rintro e w1 ⟨rfl, hb1⟩
  have HB1 := hide hb1
  have HR2 := hide (HR1.out.below hb1 (by simp))
  obtain ⟨hc1, hf1⟩ := bcell hb1
  have e1 : IntKind.i64.wrap ((xs.length : Int) - 1) = (xs.length : Int) - 1 := by rw [IntKind.wrap_i64]; omega
  clear hb1
  go_wp2_with fail
  refine (l02Is_no _ _ _ _ hfar).mono ?_
  rintro e w1' ⟨rfl, rfl⟩
  clear hc1 hf1
  go_wp2_with fail
  refine (l02Ill_any _ _).mono ?_
  rintro e w2 ⟨rfl, hb2⟩
  have R3 := HR2.out.below hb2 HR2.out.lt
  have k1 := HB0.out.trans (HB1.out.mono HB0.out.size)
  have HB2 := hide (k1.trans (hb2.mono k1.size))
  have c0 : w2.cell? ⟨w.heap.size + 1, 0, none⟩ = some (.slice none 0 0) := R3.cell 0
  have c1' : w2.cell? ⟨w.heap.size + 1, 1, none⟩ = some (.slice none 0 0) := R3.cell 1
  have c2' : w2.cell? ⟨w.heap.size + 1, 2, none⟩ = some (.string ⟨#[]⟩) := R3.cell 2
  have c3 : w2.cell? ⟨w.heap.size + 1, 3, none⟩ = some (.int .i64 0) := R3.cell 3
  have f0 := R3.free 0
  have f1 := R3.free 1
  have f2 := R3.free 2
  have f3 := R3.free 3
  have HR3 := hide R3
  clear k1 hb2 R3
  go_wp2
  obtain ⟨q0, q1, q2, q3, KF⟩ := four HR3.out (.slice none 0 0) (.slice none 0 0) (.string ⟨#[]⟩) (.int .i64 8)
  exact bodyPost_ret (v := .agg #[.slice none 0 0, .slice none 0 0, .string ⟨#[]⟩, .int .i64 8]) (by simp [results, Tryz.results90, go_sem, q0, q1, q2, q3]) rfl
    ⟨⟨_, _, rfl, OwnS.none _ _ _, OwnP.none _ _ _, fun _ h => by cases h⟩, KF.toBelow HB2.out HB2.out.size (by simp)⟩

theorem lastAt_step (a : Int) (ps : List (Int × ByteArray)) (k : Nat) (h : k < ps.length) (t : ByteArray) : lastAt a (ps.drop k) t = lastAt a (ps.drop (k + 1)) (if (ps[k]'h).1 = a then (ps[k]'h).2 else t) := by
  rw [List.drop_eq_getElem_cons h]; rfl

set_option maxHeartbeats 4000000 in
theorem specRead_good (vs vp : Value) (xs : List ByteArray) (ps : List (Int × ByteArray)) (n : Nat) (w : World) (hn : xs.length ≤ 1048576) (hn2 : ps.length ≤ 1048576) (hr : Reads w vs xs) (hp : ReadsP w vp ps) (hok : right xs ps = true) (hlt : n < xs.length) :
    Calls Tryz.prog 90 #[.agg #[vs, vp], .int .i64 (n : Int)] w fun e w' => OutIs w.heap.size e w' (readOut xs ps (n : Int)) ∧ Below w.heap.size w w' := by
  have HF : Hid (readOut xs ps (n : Int) = ⟨xs, ps, lastAt n ps (xs[n]'hlt), 0⟩) := hide (by
    unfold readOut
    rw [hok, if_pos rfl, if_pos ⟨by omega, by omega⟩]
    simp [hlt])
  rw [HF.out]
  have hb0 : Below w.heap.size w ((w.alloc (.cells #[vs, vp] 30)).alloc (.cells #[.slice none 0 0, .slice none 0 0, .string ⟨#[]⟩, .int .i64 0] 101)) :=
    ((Below.refl _ _).alloc (Nat.le_refl _) _).alloc (by simp) _
  have HR := hide (hr.below hb0 (Nat.le_refl _))
  have HP := hide (hp.below hb0 (Nat.le_refl _))
  have HB0 := hide hb0
  obtain ⟨p1, c1, rfl, hq⟩ := hr
  obtain ⟨p2, c2, rfl, hq2⟩ := hp
  have R0 := (row_new w [.slice p1 xs.length c1, .slice p2 ps.length c2] 30).alloc (.cells #[.slice none 0 0, .slice none 0 0, .string ⟨#[]⟩, .int .i64 0] 101)
  have R1 := row_new (w.alloc (.cells #[.slice p1 xs.length c1, .slice p2 ps.length c2] 30)) [.slice none 0 0, .slice none 0 0, .string ⟨#[]⟩, .int .i64 0] 101
  simp only [World.size_alloc] at R1
  have HR0 := hide R0
  have HR1 := hide R1
  clear hb0 hq hq2 R1 R0
  go_enter Tryz.func90, Tryz.ntmps90
  go_wp2_with fail
  refine (specRight_any _ _ xs ps _ hn hn2 HR.out HP.out).mono ?_
  rw [hok]
  rintro e w1 ⟨rfl, hb1⟩
  have HB1 := hide (HB0.out.trans (hb1.mono HB0.out.size))
  have HX1 := hide (HR1.out.below hb1 (by simp))
  have HX0 := hide (HR0.out.below hb1 (by simp; omega))
  have HRa := hide (HR.out.below hb1 (Nat.le_refl _))
  have HPa := hide (HP.out.below hb1 (Nat.le_refl _))
  have a0 : w1.cell? ⟨w.heap.size, 0, none⟩ = some (.slice p1 xs.length c1) := HX0.out.cell 0
  have a1 : w1.cell? ⟨w.heap.size, 1, none⟩ = some (.slice p2 ps.length c2) := HX0.out.cell 1
  have e1 : IntKind.i64.wrap ((xs.length : Int) - 1) = (xs.length : Int) - 1 := by rw [IntKind.wrap_i64]; omega
  have i0 : (n : Int) < (xs.length : Int) := by omega
  clear hb1 HR HP HR0 HR1 HB0
  go_wp2_with fail
  refine (l02Is_yes _ _ _ _ (by omega) (by omega)).mono ?_
  rintro e w1' ⟨rfl, rfl⟩
  obtain ⟨g1, o1, rfl, hg1, hc1⟩ : ∃ g off, p1 = some ⟨g, off, none⟩ ∧ _ := by
    obtain ⟨p, cap, he, _, _, _, h4⟩ := HRa.out
    cases he
    exact h4 (by omega)
  have hcn := hc1 n hlt
  clear hc1 hg1
  go_wp2
  clear hcn e1
  go_loop [5, 6] (fun t i => ∃ (k : Nat) (T : ByteArray), k ≤ ps.length ∧ i = .int .i64 k ∧ t = .string T ∧ Hid (lastAt n ps (xs[n]'hlt) = lastAt n (ps.drop k) T)) (fun _ i => ps.length - (intOf i).toNat)
  case atStart => exact ⟨0, _, Nat.zero_le _, rfl, rfl, rfl⟩
  case round =>
    obtain ⟨j, T, hj, rfl, rfl, HS⟩ := hrel
    by_cases hlt2 : j < ps.length
    · obtain ⟨g2, o2, rfl, hg2, hc2⟩ : ∃ g off, p2 = some ⟨g, off, none⟩ ∧ _ := by
        obtain ⟨p, cap, he, _, _, _, h4⟩ := HPa.out
        cases he
        exact h4 (by omega)
      obtain ⟨hk0, hk1⟩ := hc2 j hlt2
      have HT := hide (lastAt_step n ps j hlt2 T)
      have hki : (j : Int) < (ps.length : Int) := by omega
      obtain ⟨A, hA⟩ : ∃ A, A = (ps[j]'hlt2).1 := ⟨_, rfl⟩
      obtain ⟨D, hD⟩ : ∃ D, D = (ps[j]'hlt2).2 := ⟨_, rfl⟩
      rw [← hA] at hk0
      rw [← hD] at hk1
      rw [← hA, ← hD] at HT
      clear hA hD hc2 hg2
      by_cases hin : A = (n : Int)
      · subst hin
        have HU := hide (HS.out.trans (HT.out.trans (by rw [if_pos rfl])))
        go_wp2
        go_round
        case rel => exact ⟨j + 1, D, by omega, by go_num, rfl, HU⟩
        case measure => simp [intOf]; omega
      · have HU := hide (HS.out.trans (HT.out.trans (by rw [if_neg hin])))
        have t1 : decide (A = (n : Int)) = false := by simpa using hin
        go_wp2
        go_round
        case rel => exact ⟨j + 1, T, by omega, by go_num, rfl, HU⟩
        case measure => simp [intOf]; omega
    · have HU := hide (show lastAt n ps (xs[n]'hlt) = T by rw [HS.out, List.drop_eq_nil_of_le (by omega)]; rfl)
      go_wp2_with fail
      refine (l02Copy_any _ _ xs ps _ hn hn2 HRa.out HPa.out).mono ?_
      rintro e w2 ⟨us, up, rfl, ow1, ow2, dd, _, hb2⟩
      have hl1 := HX1.out.lt
      have R3 := HX1.out.below hb2 hl1
      have c0 : w2.cell? ⟨w.heap.size + 1, 0, none⟩ = some (.slice none 0 0) := R3.cell 0
      have c1' : w2.cell? ⟨w.heap.size + 1, 1, none⟩ = some (.slice none 0 0) := R3.cell 1
      have c2' : w2.cell? ⟨w.heap.size + 1, 2, none⟩ = some (.string ⟨#[]⟩) := R3.cell 2
      have c3 : w2.cell? ⟨w.heap.size + 1, 3, none⟩ = some (.int .i64 0) := R3.cell 3
      have f0 := R3.free 0
      have f1 := R3.free 1
      have f2 := R3.free 2
      have f3 := R3.free 3
      have HR3 := hide R3
      have HB2 := hide (HB1.out.trans (hb2.mono HB1.out.size))
      have HO1 := hide ow1
      have HO2 := hide ow2
      have HD := hide dd
      obtain ⟨q1, m1, d1, rfl⟩ : ∃ p n c, us = .slice p n c := by obtain ⟨p, c, e, _⟩ := ow1.reads; exact ⟨_, _, _, e⟩
      obtain ⟨q2, m2, d2, rfl⟩ : ∃ p n c, up = .slice p n c := by obtain ⟨p, c, e, _⟩ := ow2.reads; exact ⟨_, _, _, e⟩
      clear ow1 ow2 dd hb2 R3
      go_wp2
      obtain ⟨z0, z1, z2, z3, KF⟩ := four HR3.out (.slice q1 m1 d1) (.slice q2 m2 d2) (.string T) (.int .i64 0)
      exact bodyPost_ret (v := .agg #[.slice q1 m1 d1, .slice q2 m2 d2, .string T, .int .i64 0]) (by simp [results, Tryz.results90, go_sem, z0, z1, z2, z3]) rfl
        ⟨⟨_, _, by rw [HU.out], (HO1.out.kept KF (fun x hx => by have := HO1.out.leads x hx; simp; omega)).mono (by omega), (HO2.out.kept KF (fun x hx => by have := HO2.out.leads x hx; simp; omega)).mono (by omega), HD.out⟩, KF.toBelow HB2.out HB2.out.size (by simp)⟩

theorem specRead_any (vs vp : Value) (xs : List ByteArray) (ps : List (Int × ByteArray)) (a : Int) (w : World) (hn : xs.length ≤ 1048576) (hn2 : ps.length ≤ 1048576) (hr : Reads w vs xs) (hp : ReadsP w vp ps) :
    Calls Tryz.prog 90 #[.agg #[vs, vp], .int .i64 a] w fun e w' => OutIs w.heap.size e w' (readOut xs ps a) ∧ Below w.heap.size w w' := by
  cases hok : right xs ps with
  | false => exact specRead_ill vs vp xs ps a w hn hn2 hr hp hok
  | true =>
    by_cases hin : 0 ≤ a ∧ a ≤ (xs.length : Int) - 1
    · obtain ⟨n, rfl⟩ := Int.eq_ofNat_of_zero_le hin.1
      exact specRead_good vs vp xs ps n w hn hn2 hr hp hok (by omega)
    · exact specRead_far vs vp xs ps a w hn hn2 hr hp hok hin
end Go.Proofs.YtnpbmaajgiapmaaGreatDoor
/- Two texts laid into new memory by copy are one text: joinTexts of the program answers the first text with the second behind it. -/
namespace Go.Proofs.YtnpbmaajgiapmaaGreatDoor.St1
open Go.RowKit

/-- 'copy(dst, s)', s a text that fits, dst a cut of a row that the call itself made: the row is spliced. -/
theorem wpList_copy_text {P : Program} {w : World} {ops : Array Oper} {rest : List Oper} {o : Oper} {a : Act} {Q : Exit → Act → World → Prop} (hgd : o.guard = none) (d s : Operand) (dT sT : TypeId)
    (ho : o.op = .call { callee := .builtin .copy, args := #[d, s], argTypes := #[dT, sT] }) (elem : TypeId) (hu : P.underlying dT = some (.slice elem)) (hsz : (P.info? elem).map (·.size) = some 1)
    (dp : Option Addr) (dLen dCap : Nat) (x : ByteArray) (hd : a.eval d = .slice dp dLen dCap) (hs : a.eval s = .string x)
    (g off : Nat) (cur : List Value) (t : TypeId) (hg : w.heap[g]? = some (.cells cur.toArray t (0, 0))) (hle : x.size ≤ dLen)
    (hpos : 0 < x.size → dp = some ⟨g, off, none⟩) (hfit : off + x.size ≤ cur.length) (B : Nat) (w0 : World) (hb : Below B w0 w) (hBg : B ≤ g)
    (h : ∀ w', Hid (w'.heap[g]? = some (.cells (splice cur off (Lib.byteCells x.data.toList)).toArray t (0, 0))) → Below B w0 w' → wpList P ops Q rest (a.put o.dst (goInt x.size)) w') :
    wpList P ops Q (o :: rest) a w := by
  have hlen : (Lib.byteCells x.data.toList).length = x.size := by rw [Lib.byteCells_length, ← Lib.size_eq]
  by_cases h0 : x.size = 0
  · have hrun := Lib.run_copy_empty_string (P := P) w dT sT o.type elem dp dLen dCap x hu (by rw [hsz]; rfl) h0
    have hnil : Lib.byteCells x.data.toList = [] := List.eq_nil_of_length_eq_zero (by omega)
    refine wpList_plain hgd fun K hK => ?_
    unfold Oper.wp
    simp [execOp, ho, resolve, invoke, builtin, hd, hs, hrun, Result.andThen]
    have hh := h w (show _ = _ by rw [hnil]; simpa [splice] using hg) hb
    rw [h0] at hh
    exact hK _ _ hh
  · have hdp := hpos (by omega)
    subst hdp
    have hrun := Lib.run_copy_row_string (P := P) w dT sT o.type elem g off dLen dCap x cur.toArray t hu hsz hg hle (by simpa using hfit)
    refine wpList_plain hgd fun K hK => ?_
    unfold Oper.wp
    simp [execOp, ho, resolve, invoke, builtin, hd, hs, hrun, Result.andThen]
    refine hK _ _ (h _ (show _ = _ from ?_) (below_setRow hb hBg _))
    have := setRow_heap w g cur.toArray (cur.take off ++ (Lib.byteCells x.data.toList ++ cur.drop (off + x.size))).toArray t (0, 0) hg
    simpa [splice, hlen] using this

theorem splice2 {α : Type} (Z A B : List α) (h : Z.length = A.length + B.length) : splice (splice Z 0 A) A.length B = A ++ B := by
  have h1 : splice Z 0 A = A ++ Z.drop A.length := by simp [splice]
  have h2 : (A ++ Z.drop A.length).drop (A.length + B.length) = [] := List.drop_eq_nil_of_le (by simp; omega)
  rw [h1]
  unfold splice
  rw [h2]
  simp

theorem bytes_append (a b : ByteArray) : (⟨(a.data.toList ++ b.data.toList).toArray⟩ : ByteArray) = a ++ b := by
  apply ByteArray.ext
  simp

theorem Tryz.info5 : (Tryz.prog.info? 5).map (fun i => (i.zero, i.size, i.bytes)) = some (some (.int .u8 0), 1, 1) := by kernel_rfl
theorem Tryz.size5 : (Tryz.prog.info? 5).map (·.size) = some 1 := by kernel_rfl

theorem own_row {w1 : World} {base g n cap : Nat} {e : TypeId} {xs : List Value} (h : w1.ownsRow base e 1 (.slice (some ⟨g, 0, none⟩) n cap) n xs) :
    ∃ cur : List Value, w1.heap[g]? = some (.cells cur.toArray e (0, 0)) ∧ cur.length = cap := by
  obtain ⟨_, ⟨h1, _⟩ | ⟨g', cap', cur, hv, _, hh, _, _, hs, _⟩⟩ := h
  · simp at h1
  · simp at hv
    obtain ⟨rfl, rfl⟩ := hv
    exact ⟨cur.toList, by simpa using hh, by simpa using hs⟩

theorem cells_len (a : ByteArray) : (Lib.byteCells a.data.toList).length = a.size := by rw [Lib.byteCells_length, ← Lib.size_eq]
theorem splice_len {α : Type} (Z : List α) (off : Nat) (A : List α) (h : off + A.length ≤ Z.length) : (splice Z off A).length = Z.length := by
  simp [splice]; omega

theorem joined_run {w3 : World} {g : Nat} (a b : ByteArray) (Z : List Value) (hZ : Z.length = a.size + b.size)
    (h : w3.heap[g]? = some (.cells (splice (splice Z 0 (Lib.byteCells a.data.toList)) a.size (Lib.byteCells b.data.toList)).toArray 5 (0, 0))) :
    (convert 126 9 (.slice (some ⟨g, 0, none⟩) (a.size + b.size) (a.size + b.size))).run Tryz.prog w3 = .ok (.string (a ++ b)) w3 := by
  have e : splice (splice Z 0 (Lib.byteCells a.data.toList)) a.size (Lib.byteCells b.data.toList) = Lib.byteCells (a.data.toList ++ b.data.toList) := by
    have := splice2 Z (Lib.byteCells a.data.toList) (Lib.byteCells b.data.toList) (by rw [cells_len, cells_len]; exact hZ)
    rw [cells_len] at this
    rw [this]
    simp [Lib.byteCells]
  rw [e] at h
  have hl : (a.data.toList ++ b.data.toList).length = a.size + b.size := by rw [List.length_append, ← Lib.size_eq, ← Lib.size_eq]
  have := run_convert_bytes_back (P := Tryz.prog) w3 126 9 5 ⟨g, 0, none⟩ (a.size + b.size) (a.data.toList ++ b.data.toList) Tryz.underlying126 Tryz.underlying5 Tryz.underlying9 (fun j hj => by
    have ea : (⟨g, 0, none⟩ : Addr).add j = ⟨g, j, none⟩ := by unfold Addr.add; split <;> simp_all
    rw [ea, cell_of_row w3 g j _ 5 (0, 0) h]
    simp only [List.getElem?_toArray, Lib.byteCells, List.getElem?_map, List.getElem?_eq_getElem hj, Option.map_some])
  rw [hl, bytes_append] at this
  exact this

set_option maxHeartbeats 1000000 in
theorem joinTexts_any (a b : ByteArray) (w : World) (ha : a.size ≤ 1000000) (hb : b.size ≤ 1000000) :
    Calls Tryz.prog 127 #[.string a, .string b] w fun e w' => e = .returned (.string (a ++ b)) ∧ Below w.heap.size w w' := by
  obtain ⟨i0, hi, hz0, hz1, hz2⟩ := info_parts Tryz.info5
  go_enter Tryz.func127, Tryz.ntmps127
  go_wp2_with (at_make; refine wpList_make_full _ rfl _ _ 126 rfl w.heap.size 5 i0 (.int .u8 0) 1 Tryz.underlying126 hi hz0 hz1 _ _ _ _ (a.size + b.size) rfl rfl (by omega) (by omega) ?b2 ?b3 (by omega) ?_)
  case b2 => rw [hz2]; omega
  case b3 => unfold maxLen; omega
  intro w1 hown hgrow
  obtain ⟨Z, hZ, hZl⟩ := own_row hown
  have hb1 : Below w.heap.size w w1 := (Below.refl _ _).grown hgrow (Nat.le_refl _) (by simp)
  have HZ : Hid (w1.heap[w.heap.size]? = some (.cells Z.toArray 5 (0, 0))) := hZ
  clear hZ hown hgrow
  go_wp2_with (refine wpList_copy_text rfl (.tmp 12) (.tmp 13) 126 9 rfl 5 Tryz.underlying126 Tryz.size5 _ _ _ a rfl rfl w.heap.size 0 Z 5 HZ.out (by omega) (fun _ => rfl) (by omega) w.heap.size w hb1 (Nat.le_refl _) ?_)
  intro w2 HZ2 hb2
  clear hb1 HZ
  by_cases hb0 : b.size = 0
  · go_wp2_with (refine wpList_copy_text rfl (.tmp 18) (.tmp 19) 126 9 rfl 5 Tryz.underlying126 Tryz.size5 _ _ _ b rfl rfl w.heap.size a.size _ 5 HZ2.out (by omega) (fun h => absurd h (by omega)) (by rw [splice_len _ _ _ (by rw [cells_len]; omega)]; omega) w.heap.size w hb2 (Nat.le_refl _) ?_)
    intro w3 HZ3 hb3
    have hcv := joined_run a b Z hZl HZ3.out
    simp only [hb0, Nat.add_zero] at hcv
    go_wp2
    go_ret
    exact ⟨rfl, hb3⟩
  · go_wp2_with (refine wpList_copy_text rfl (.tmp 18) (.tmp 19) 126 9 rfl 5 Tryz.underlying126 Tryz.size5 _ _ _ b rfl rfl w.heap.size a.size _ 5 HZ2.out (by omega) (fun _ => rfl) (by rw [splice_len _ _ _ (by rw [cells_len]; omega)]; omega) w.heap.size w hb2 (Nat.le_refl _) ?_)
    intro w3 HZ3 hb3
    have hcv := joined_run a b Z hZl HZ3.out
    clear hb0
    go_wp2
    go_ret
    exact ⟨rfl, hb3⟩
end Go.Proofs.YtnpbmaajgiapmaaGreatDoor.St1
/- The register of the CRC: the program's crcRegister and the model's l01Crc go through the same numbers, bit by bit. -/
namespace Go.Proofs.YtnpbmaajgiapmaaGreatDoor.St1
open Go.RowKit
theorem hide {p : Prop} (h : p) : Hid p := h
theorem ret_int {k : IntKind} {a b : Int} (h : a = b) : Ending.returned (.int k a) = .returned (.int k b) := by rw [h]

/-- One bit goes out of the register. -/
def crcBit (R : Int) : Int := if bits .and .u32 R 1 == 1 then bits .xor .u32 (R / 2) 3988292384 else R / 2
def crcBits : Nat → Int → Int
  | 0, R => R
  | n + 1, R => crcBit (crcBits n R)
/-- One byte goes in. -/
def crcByte (R b : Int) : Int := crcBits 8 (bits .xor .u32 R (b % 4294967296))
/-- The first k bytes of s go in. -/
def crcTo (s : ByteArray) : Nat → Int → Int
  | 0, R => R
  | k + 1, R => if h : k < s.size then crcByte (crcTo s k R) ((s[k]'h).toNat : Int) else crcTo s k R
/-- The CRC of what stands behind a text of the CRC c. -/
def crcOf (c : Int) (s : ByteArray) : Int := bits .xor .u32 (crcTo s s.size (bits .xor .u32 c 4294967295)) 4294967295

theorem bits_bd (op : BinOp) (x y : Int) : 0 ≤ bits op .u32 x y ∧ bits op .u32 x y ≤ 4294967295 := bounds_u32 (wf_bits op .u32 x y)
theorem crcBit_yes (R : Int) (h : (bits .and .u32 R 1 == 1) = true) : crcBit R = bits .xor .u32 (R / 2) 3988292384 := by
  unfold crcBit; rw [h]; rfl
theorem crcBit_no (R : Int) (h : (bits .and .u32 R 1 == 1) = false) : crcBit R = R / 2 := by
  unfold crcBit; rw [h]; rfl
theorem crcBit_bd (R : Int) (h0 : 0 ≤ R) (h1 : R ≤ 4294967295) : 0 ≤ crcBit R ∧ crcBit R ≤ 4294967295 := by
  cases h : (bits .and .u32 R 1 == 1)
  · rw [crcBit_no R h]; omega
  · rw [crcBit_yes R h]; exact bits_bd _ _ _
theorem crcTo_succ (s : ByteArray) (k : Nat) (R : Int) (h : k < s.size) : crcTo s (k + 1) R = crcBits 8 (bits .xor .u32 (crcTo s k R) (((s[k]'h).toNat : Int) % 4294967296)) := by
  rw [crcTo, dif_pos h]; rfl
theorem crcOf_bd (c : Int) (s : ByteArray) : 0 ≤ crcOf c s ∧ crcOf c s ≤ 4294967295 := bits_bd _ _ _
theorem xor_turn (c : Int) : bits .xor .u32 IntKind.u32.max c = bits .xor .u32 c 4294967295 := by
  have e : IntKind.u32.max = 4294967295 := by decide
  rw [e]
  unfold bits
  simp only [BitVec.xor_comm]
theorem wrap64_crc (c : Int) (s : ByteArray) : wrap64 (crcOf c s) = crcOf c s := by
  have := crcOf_bd c s
  exact IntWalk.wrap64_in _ ⟨by omega, by omega⟩

set_option maxHeartbeats 1000000 in
theorem specCrc_any (c : Int) (s : ByteArray) (w : World) (hs : s.size ≤ maxLen) (h0 : 0 ≤ c) (h1 : c ≤ 4294967295) :
    Calls Tryz.prog 124 #[.int .i64 c, .string s] w fun e w' => e = .returned (.int .i64 (crcOf c s)) ∧ w' = w := by
  unfold maxLen at hs
  have hb := bits_bd .xor c 4294967295
  obtain ⟨R0, HR0⟩ : ∃ R0, Hid (R0 = bits .xor .u32 c 4294967295) := ⟨_, rfl⟩
  have HF : Hid (crcOf c s = bits .xor .u32 (crcTo s s.size R0) 4294967295) := by rw [HR0.out]; exact rfl
  have HW := hide (wrap64_crc c s)
  go_enter Tryz.func124, Tryz.ntmps124
  go_wp2
  go_loop [5, 6] (fun r i => ∃ k : Nat, k ≤ s.size ∧ i = .int .i64 k ∧ ∃ R : Int, 0 ≤ R ∧ R ≤ 4294967295 ∧ Hid (R = crcTo s k R0) ∧ r = .int .u32 R) (fun _ i => s.size - (intOf i).toNat)
  case atStart => exact ⟨0, Nat.zero_le _, rfl, _, hb.1, hb.2, HR0.out.symm, rfl⟩
  case round =>
    obtain ⟨k, hk, rfl, R, hR0, hR1, HR, rfl⟩ := hrel
    by_cases hlt : k < s.size
    · have hb2 := bits_bd .xor R (((s[k]'hlt).toNat : Int) % 4294967296)
      have HS : Hid (crcTo s (k + 1) R0 = crcBits 8 (bits .xor .u32 R (((s[k]'hlt).toNat : Int) % 4294967296))) := by
        rw [HR.out]; exact crcTo_succ s k R0 hlt
      go_wp2
      go_loop [5, 7] (fun r i => ∃ j : Nat, j ≤ 8 ∧ i = .int .i64 j ∧ ∃ T : Int, 0 ≤ T ∧ T ≤ 4294967295 ∧ Hid (T = crcBits j (bits .xor .u32 R (((s[k]'hlt).toNat : Int) % 4294967296))) ∧ r = .int .u32 T) (fun _ i => 8 - (intOf i).toNat)
      case atStart => exact ⟨0, Nat.zero_le _, rfl, _, hb2.1, hb2.2, rfl, rfl⟩
      case round =>
        obtain ⟨j, hj, rfl, T, hT0, hT1, HT, rfl⟩ := hrel
        by_cases hj8 : j < 8
        · have hb3 := crcBit_bd T hT0 hT1
          have HB : Hid (crcBits (j + 1) (bits .xor .u32 R (((s[k]'hlt).toNat : Int) % 4294967296)) = crcBit T) := by rw [HT.out]; exact rfl
          cases ht : (bits .and .u32 T 1 == 1)
          · have HN := hide (crcBit_no T ht)
            rw [HN.out] at hb3 HB
            go_wp2
            go_round
            case rel => exact ⟨j + 1, by omega, by go_num, _, hb3.1, hb3.2, HB.out.symm, rfl⟩
            case measure => simp [intOf]; omega
          · have HN := hide (crcBit_yes T ht)
            rw [HN.out] at hb3 HB
            go_wp2
            go_round
            case rel => exact ⟨j + 1, by omega, by go_num, _, hb3.1, hb3.2, HB.out.symm, rfl⟩
            case measure => simp [intOf]; omega
        · have e8 : j = 8 := by omega
          subst e8
          go_wp2
          go_round
          case rel => exact ⟨k + 1, by omega, by go_num, _, hT0, hT1, HT.out.trans HS.out.symm, rfl⟩
          case measure => simp [intOf]; omega
    · have ek : k = s.size := by omega
      have HE : Hid (R = crcTo s s.size R0) := by rw [← ek]; exact HR
      clear ek HR
      go_wp2
      go_ret
      refine ⟨ret_int ?_, rfl⟩
      rw [HE.out, ← HF.out]
      exact HW.out

set_option maxHeartbeats 1000000 in
theorem implReg_any (R0 : Int) (s : ByteArray) (w : World) (hs : s.size ≤ maxLen) (h0 : 0 ≤ R0) (h1 : R0 ≤ 4294967295) :
    Calls Tryz.prog 159 #[.int .u32 R0, .string s] w fun e w' => e = .returned (.int .u32 (crcTo s s.size R0)) ∧ w' = w := by
  unfold maxLen at hs
  go_enter Tryz.func159, Tryz.ntmps159
  go_wp2
  go_loop [0, 5] (fun r i => ∃ k : Nat, k ≤ s.size ∧ i = .int .i64 k ∧ ∃ R : Int, 0 ≤ R ∧ R ≤ 4294967295 ∧ Hid (R = crcTo s k R0) ∧ r = .int .u32 R) (fun _ i => s.size - (intOf i).toNat)
  case atStart => exact ⟨0, Nat.zero_le _, rfl, _, h0, h1, rfl, rfl⟩
  case round =>
    obtain ⟨k, hk, rfl, R, hR0, hR1, HR, rfl⟩ := hrel
    by_cases hlt : k < s.size
    · have hb2 := bits_bd .xor R (((s[k]'hlt).toNat : Int) % 4294967296)
      have HS : Hid (crcTo s (k + 1) R0 = crcBits 8 (bits .xor .u32 R (((s[k]'hlt).toNat : Int) % 4294967296))) := by
        rw [HR.out]; exact crcTo_succ s k R0 hlt
      go_wp2
      go_loop [0, 19] (fun r i => ∃ j : Nat, j ≤ 8 ∧ i = .int .i64 j ∧ ∃ T : Int, 0 ≤ T ∧ T ≤ 4294967295 ∧ Hid (T = crcBits j (bits .xor .u32 R (((s[k]'hlt).toNat : Int) % 4294967296))) ∧ r = .int .u32 T) (fun _ i => 8 - (intOf i).toNat)
      case atStart => exact ⟨0, Nat.zero_le _, rfl, _, hb2.1, hb2.2, rfl, rfl⟩
      case round =>
        obtain ⟨j, hj, rfl, T, hT0, hT1, HT, rfl⟩ := hrel
        by_cases hj8 : j < 8
        · have hb3 := crcBit_bd T hT0 hT1
          have HB : Hid (crcBits (j + 1) (bits .xor .u32 R (((s[k]'hlt).toNat : Int) % 4294967296)) = crcBit T) := by rw [HT.out]; exact rfl
          cases ht : (bits .and .u32 T 1 == 1)
          · have HN := hide (crcBit_no T ht)
            rw [HN.out] at hb3 HB
            go_wp2
            go_round
            case rel => exact ⟨j + 1, by omega, by go_num, _, hb3.1, hb3.2, HB.out.symm, rfl⟩
            case measure => simp [intOf]; omega
          · have HN := hide (crcBit_yes T ht)
            rw [HN.out] at hb3 HB
            go_wp2
            go_round
            case rel => exact ⟨j + 1, by omega, by go_num, _, hb3.1, hb3.2, HB.out.symm, rfl⟩
            case measure => simp [intOf]; omega
        · have e8 : j = 8 := by omega
          subst e8
          go_wp2
          go_round
          case rel => exact ⟨k + 1, by omega, by go_num, _, hT0, hT1, HT.out.trans HS.out.symm, rfl⟩
          case measure => simp [intOf]; omega
    · have ek : k = s.size := by omega
      have HE : Hid (R = crcTo s s.size R0) := by rw [← ek]; exact HR
      clear ek HR
      go_wp2
      go_ret
      exact ⟨ret_int HE.out, rfl⟩

set_option maxHeartbeats 1000000 in
theorem implCrcMore_any (c : Int) (s : ByteArray) (w : World) (hs : s.size ≤ 8000) (h0 : 0 ≤ c) (h1 : c ≤ 4294967295) :
    Calls Tryz.prog 148 #[.int .i64 c, .string s] w fun e w' => e = .returned (.int .i64 (crcOf c s)) ∧ w' = w := by
  have HW := hide (wrap64_crc c s)
  have hb := bits_bd .xor c 4294967295
  go_enter Tryz.func148, Tryz.ntmps148
  go_wp2_with fail
  rw [xor_turn]
  refine (implReg_any _ s _ (by unfold maxLen; omega) hb.1 hb.2).mono ?_
  rintro e w' ⟨rfl, rfl⟩
  go_wp2
  go_ret
  refine ⟨ret_int ?_, rfl⟩
  rw [xor_turn]
  exact HW.out

set_option maxHeartbeats 400000 in
theorem implCrcMore_not (c : Int) (s : ByteArray) (w : World) (hs : s.size ≤ maxLen) (h : 8000 < s.size ∨ (s.size ≤ 8000 ∧ c < 0) ∨ (s.size ≤ 8000 ∧ 0 ≤ c ∧ 4294967295 < c)) :
    Calls Tryz.prog 148 #[.int .i64 c, .string s] w fun e w' => e = .returned (.int .i64 0) ∧ w' = w := by
  unfold maxLen at hs
  rcases h with h | ⟨h, h'⟩ | ⟨h, h', h''⟩
  all_goals
    go_enter Tryz.func148, Tryz.ntmps148
    go_wp2
    go_ret
    exact ⟨rfl, rfl⟩

set_option maxHeartbeats 400000 in
theorem implCrcOf_any (s : ByteArray) (w : World) (hs : s.size ≤ 8000) :
    Calls Tryz.prog 129 #[.string s] w fun e w' => e = .returned (.int .i64 (crcOf 0 s)) ∧ w' = w := by
  go_enter Tryz.func129, Tryz.ntmps129
  go_wp2_with fail
  refine (implCrcMore_any _ s _ hs (by omega) (by omega)).mono ?_
  rintro e w' ⟨rfl, rfl⟩
  go_wp2
  go_ret
  exact ⟨rfl, rfl⟩

set_option maxHeartbeats 400000 in
theorem implCrcOf_not (s : ByteArray) (w : World) (hm : s.size ≤ maxLen) (hs : 8000 < s.size) :
    Calls Tryz.prog 129 #[.string s] w fun e w' => e = .returned (.int .i64 0) ∧ w' = w := by
  go_enter Tryz.func129, Tryz.ntmps129
  go_wp2_with fail
  refine (implCrcMore_not _ s _ hm (.inl hs)).mono ?_
  rintro e w' ⟨rfl, rfl⟩
  go_wp2
  go_ret
  exact ⟨rfl, rfl⟩

end Go.Proofs.YtnpbmaajgiapmaaGreatDoor.St1
