/- Steps of an area, one behind the other: plain mathematics. -/
import Derived.Test.YtfdgifflnmpmaaaGreatDoorXSWrite
import Derived.Test.YtfdgifflnmpmaaaGreatDoorXFlush
import Derived.Test.YtfdgifflnmpmaaaGreatDoorXDisks
import Derived.Test.YtfdgifflnmpmaaaGreatDoorXSRead
import Derived.Test.YtfdgifflnmpmaaaGreatDoorXRoom
import Derived.Test.YtfdgifflnmpmaaaGreatDoorXCopies
import Derived.Deep.RegionHeld3
import Derived.Deep.DeepCutAuto
namespace Go.Proofs.YtfdgifflnmpmaaaGreatDoor
open Go.RowKit

theorem rightPush {xs : List ByteArray} {ps : List (Int × ByteArray)} {a : Int} {d : ByteArray} (h : right xs ps = true) (hl : ps.length < 200) (h0 : 0 ≤ a) (h1 : a ≤ (xs.length : Int) - 1) (hd : d.size ≤ 64) : right xs (ps ++ [(a, d)]) = true := by
  unfold right okP at h ⊢
  simp only [Bool.and_eq_true, decide_eq_true_eq] at h ⊢
  refine ⟨⟨⟨⟨h.1.1.1.1, h.1.1.1.2⟩, by simp; omega⟩, h.1.2⟩, ?_⟩
  rw [List.all_append, h.2]
  simp
  omega
/-- A step: is it a flush, the place, the text. -/
def stepOut (s : Bool × Int × ByteArray) (xs : List ByteArray) (ps : List (Int × ByteArray)) : Out := if s.1 = true then flushOut xs ps else writeOut xs ps s.2.1 s.2.2
theorem applyP_lenS : ∀ (ps : List (Int × ByteArray)) (xs : List ByteArray), (applyP ps xs).length = xs.length
  | [], _ => rfl
  | x :: r, xs => by rw [applyP, applyP_lenS r, List.length_set]
theorem rightFlush {xs : List ByteArray} {ps : List (Int × ByteArray)} (h : right xs ps = true) : right (applyP ps xs) [] = true := by
  have hs : ∀ x ∈ xs, x.size ≤ 64 := by
    intro x hx
    unfold right at h
    simp only [Bool.and_eq_true] at h
    have := h.1.2
    unfold okS at this
    simpa using (List.all_eq_true.1 this) x hx
  have hq : ∀ x ∈ ps, x.2.size ≤ 64 := by
    intro x hx
    obtain ⟨j, hj, e⟩ := List.mem_iff_getElem.1 hx
    have := right_at h j hj
    rw [e] at this; exact this.2.2
  have hl := right_len h
  have hm := applyP_mem ps xs 64 hs hq
  unfold right okS okP
  simp only [Bool.and_eq_true, decide_eq_true_eq, applyP_lenS, List.all_eq_true, List.all_nil, List.length_nil]
  exact ⟨⟨⟨⟨by omega, by omega⟩, by omega⟩, fun x hx => by simpa using hm x hx⟩, trivial⟩
theorem stepOut_right {s : Bool × Int × ByteArray} {xs : List ByteArray} {ps : List (Int × ByteArray)} (h : right xs ps = true) (hc : (stepOut s xs ps).c = 0) : right (stepOut s xs ps).xs (stepOut s xs ps).ps = true := by
  unfold stepOut at hc ⊢
  by_cases hf : s.1 = true
  · simp only [if_pos hf, flushOut, h] at hc ⊢
    exact rightFlush h
  · simp only [if_neg hf, writeOut] at hc ⊢
    split at hc
    · simp [illOut] at hc
    · split at hc
      · simp [illOut] at hc
      · split at hc
        · split at hc
          · simp [illOut] at hc
          · rename_i h1 h2 h3 h4
            rw [if_neg h1, if_neg h2, if_pos h3, if_neg h4]
            exact rightPush h (by omega) h3.1 h3.2 (by omega)
        · simp [illOut] at hc
theorem stepOut_len {s : Bool × Int × ByteArray} {xs : List ByteArray} {ps : List (Int × ByteArray)} (hc : (stepOut s xs ps).c = 0) : (stepOut s xs ps).xs.length = xs.length := by
  unfold stepOut at hc ⊢
  by_cases hf : s.1 = true
  · simp only [if_pos hf, flushOut] at hc ⊢
    split at hc
    · rename_i h; rw [if_pos h]; exact applyP_lenS ps xs
    · simp [illOut] at hc
  · simp only [if_neg hf, writeOut] at hc ⊢
    split at hc
    · simp [illOut] at hc
    · split at hc
      · simp [illOut] at hc
      · split at hc
        · split at hc
          · simp [illOut] at hc
          · rename_i h1 h2 h3 h4
            rw [if_neg h1, if_neg h2, if_pos h3, if_neg h4]
        · simp [illOut] at hc
/-- All steps, up to the first that tells a code. -/
def runOut : List (Bool × Int × ByteArray) → List ByteArray → List (Int × ByteArray) → Out
  | [], xs, ps => ⟨xs, ps, ⟨#[]⟩, 0⟩
  | s :: r, xs, ps => if (stepOut s xs ps).c = 0 then runOut r (stepOut s xs ps).xs (stepOut s xs ps).ps else illOut (stepOut s xs ps).c
theorem runOut_step (ss : List (Bool × Int × ByteArray)) (k : Nat) (h : k < ss.length) (xs : List ByteArray) (ps : List (Int × ByteArray)) :
    runOut (ss.drop k) xs ps = if (stepOut ss[k] xs ps).c = 0 then runOut (ss.drop (k + 1)) (stepOut ss[k] xs ps).xs (stepOut ss[k] xs ps).ps else illOut (stepOut ss[k] xs ps).c := by
  rw [List.drop_eq_getElem_cons h]; rfl

end Go.Proofs.YtfdgifflnmpmaaaGreatDoor
/- The same of what the area's functions hand back: a disk, a text, two numbers. -/
namespace Go.Proofs.YtfdgifflnmpmaaaGreatDoor
open Go.RowKit

structure AOut where
  xs : List ByteArray
  ps : List (Int × ByteArray)
  t : ByteArray
  g : Int
  c : Int
def aill (c : Int) : AOut := ⟨[], [], ⟨#[]⟩, 0, c⟩
/-- The call ended with the answer o, in memory of its own. -/
def AOutIs (B : Nat) (e : Ending) (w : World) (o : AOut) : Prop :=
  ∃ us up, e = .returned (.agg #[us, up, .string o.t, .int .i64 o.g, .int .i64 o.c]) ∧ OwnS 9 B w us o.xs ∧ OwnP 77 B w up o.ps ∧ ∀ x ∈ leads us, x ∉ leads up
theorem AOutIs.ill (B : Nat) (w : World) (c : Int) : AOutIs B (.returned (.agg #[.slice none 0 0, .slice none 0 0, .string ⟨#[]⟩, .int .i64 0, .int .i64 c])) w (aill c) :=
  ⟨_, _, rfl, OwnS.none _ _ _, OwnP.none _ _ _, fun _ h => by cases h⟩
/-- Five cells of a new block, all of them stored to. -/
theorem five {w : World} {b : Nat} {T : TypeId} {x0 x1 x2 x3 x4 : Value} (h : Row w b T [x0, x1, x2, x3, x4]) (y0 y1 y2 y3 y4 : Value) :
    let w' := (((((w.setCell ⟨b, 0, none⟩ y0).setCell ⟨b, 1, none⟩ y1).setCell ⟨b, 2, none⟩ y2).setCell ⟨b, 3, none⟩ y3).setCell ⟨b, 4, none⟩ y4)
    w'.cell? ⟨b, 0, none⟩ = some y0 ∧ w'.cell? ⟨b, 1, none⟩ = some y1 ∧ w'.cell? ⟨b, 2, none⟩ = some y2 ∧ w'.cell? ⟨b, 3, none⟩ = some y3 ∧ w'.cell? ⟨b, 4, none⟩ = some y4 ∧ Kept [b] w w' := by
  have r1 := (((((h.set (j := 0) y0).set (j := 1) y1).set (j := 2) y2).set (j := 3) y3).set (j := 4) y4)
  refine ⟨r1.cell 0, r1.cell 1, r1.cell 2, r1.cell 3, r1.cell 4, ?_⟩
  exact ((((((Kept.refl _ _).set (by simp) y0).set (by simp) y1).set (by simp) y2).set (by simp) y3).set (by simp) y4)

set_option maxHeartbeats 2000000 in
theorem eqAreaOut_same (us up vs vp : Value) (xs : List ByteArray) (ps : List (Int × ByteArray)) (t : ByteArray) (g c : Int) (w : World) (hn : xs.length ≤ 1048576) (hn2 : ps.length ≤ 1048576)
    (h1 : Reads w us xs) (h2 : ReadsP w up ps) (h3 : Reads w vs xs) (h4 : ReadsP w vp ps) :
    Calls Tryz.prog 9 #[.agg #[us, up, .string t, .int .i64 g, .int .i64 c], .agg #[vs, vp, .string t, .int .i64 g, .int .i64 c]] w fun e w' => e = .returned (.bool true) ∧ Below w.heap.size w w' := by
  have hb0 : Below w.heap.size w ((w.alloc (.cells #[us, up, .string t, .int .i64 g, .int .i64 c] 31)).alloc (.cells #[vs, vp, .string t, .int .i64 g, .int .i64 c] 31)) :=
    ((Below.refl _ _).alloc (Nat.le_refl _) _).alloc (by simp) _
  have H1 := hide (h1.below hb0 (Nat.le_refl _))
  have H2 := hide (h2.below hb0 (Nat.le_refl _))
  have H3 := hide (h3.below hb0 (Nat.le_refl _))
  have H4 := hide (h4.below hb0 (Nat.le_refl _))
  have HB0 := hide hb0
  obtain ⟨p1, c1, rfl, _⟩ := h1
  obtain ⟨p2, c2, rfl, _⟩ := h2
  obtain ⟨p3, c3, rfl, _⟩ := h3
  obtain ⟨p4, c4, rfl, _⟩ := h4
  clear hb0
  go_enter Tryz.func9, Tryz.ntmps9
  go_wp2_with fail
  refine (eqDisk_same _ _ _ _ xs ps _ hn hn2 H1.out H2.out H3.out H4.out).mono ?_
  rintro e w1 ⟨rfl, hb1⟩
  have HB1 := hide (HB0.out.trans (hb1.mono HB0.out.size))
  obtain ⟨hc1, hf1⟩ := bcell hb1
  clear hb1
  go_wp2
  go_ret
  exact ⟨rfl, HB1.out⟩

set_option maxHeartbeats 2000000 in
theorem markAreaOut_own (B : Nat) (us up : Value) (xs : List ByteArray) (ps : List (Int × ByteArray)) (t : ByteArray) (g c : Int) (k : Nat) (w : World) (hn : xs.length ≤ 1048576) (hn2 : ps.length ≤ 1048576) (hk : k ≤ 5000000)
    (h1 : OwnS 9 B w us xs) (h2 : OwnP 77 B w up ps) (hd : ∀ x ∈ leads us, x ∉ leads up) :
    Calls Tryz.prog 12 #[.agg #[us, up, .string t, .int .i64 g, .int .i64 c], .int .i64 (k : Int)] w fun e w' => e = .returned (.int .i64 ((k + xs.length + ps.length * 2 : Nat) : Int)) ∧
      OwnS 9 B w' us (marks k xs.length) ∧ OwnP 77 B w' up (marksP (k + xs.length) ps.length) ∧ Kept (leads us ++ leads up) w w' := by
  have hb0 : Below w.heap.size w (w.alloc (.cells #[us, up, .string t, .int .i64 g, .int .i64 c] 31)) := (Below.refl _ _).alloc (Nat.le_refl _) _
  have H1 := hide (h1.below hb0 (Nat.le_refl _))
  have H2 := hide (h2.below hb0 (Nat.le_refl _))
  have D := hide hd
  have HB0 := hide hb0
  clear hb0 hd
  obtain ⟨p1, n1, c1, E1⟩ : ∃ p n c, us = .slice p n c := by obtain ⟨p, c, e, _⟩ := h1.reads; exact ⟨_, _, _, e⟩
  obtain ⟨p2, n2, c2, E2⟩ : ∃ p n c, up = .slice p n c := by obtain ⟨p, c, e, _⟩ := h2.reads; exact ⟨_, _, _, e⟩
  clear h1 h2
  subst E1 E2
  go_enter Tryz.func12, Tryz.ntmps12
  go_wp2_with fail
  refine (markDisk_own B _ _ xs ps k _ hn hn2 hk H1.out H2.out D.out).mono ?_
  rintro e w1 ⟨rfl, ho1, ho2, hk1⟩
  have HO1 := hide ho1
  have HO2 := hide ho2
  have HK := hide (((Kept.ofBelow HB0.out).mono (S' := leads (.slice p1 n1 c1) ++ leads (.slice p2 n2 c2)) (by simp)).trans hk1)
  clear ho1 ho2 hk1
  go_wp2
  go_ret
  exact ⟨rfl, HO1.out, HO2.out, HK.out⟩

set_option maxHeartbeats 2000000 in
theorem heldAreaOut_any (us up : Value) (t : ByteArray) (g c : Int) (k n m : Nat) (w : World) (hn : n ≤ 1048576) (hn2 : m ≤ 1048576) (hk : k ≤ 5000000)
    (h1 : Reads w us (marks k n)) (h2 : ReadsP w up (marksP (k + n) m)) :
    Calls Tryz.prog 13 #[.agg #[us, up, .string t, .int .i64 g, .int .i64 c], .int .i64 (k : Int)] w fun e w' => e = .returned (.int .i64 ((k + n + m * 2 : Nat) : Int)) ∧ Below w.heap.size w w' := by
  have hb0 : Below w.heap.size w (w.alloc (.cells #[us, up, .string t, .int .i64 g, .int .i64 c] 31)) := (Below.refl _ _).alloc (Nat.le_refl _) _
  have H1 := hide (h1.below hb0 (Nat.le_refl _))
  have H2 := hide (h2.below hb0 (Nat.le_refl _))
  have HB0 := hide hb0
  obtain ⟨p1, c1, rfl, _⟩ := h1
  obtain ⟨p2, c2, rfl, _⟩ := h2
  clear hb0
  go_enter Tryz.func13, Tryz.ntmps13
  go_wp2_with fail
  refine (heldDisk_any _ _ k n m _ hn hn2 hk H1.out H2.out).mono ?_
  rintro e w1 ⟨rfl, hb1⟩
  have t2 : ¬ (((k + n + m * 2 : Nat) : Int) < 0) := by omega
  have HB2 := hide (HB0.out.trans (hb1.mono HB0.out.size))
  clear hb1
  go_wp2
  go_ret
  exact ⟨rfl, HB2.out⟩
end Go.Proofs.YtfdgifflnmpmaaaGreatDoor
/- The specification's AreaFormat. -/
namespace Go.Proofs.YtfdgifflnmpmaaaGreatDoor
open Go.RowKit

theorem headOf_size (g s z : Int) : (headOf g s z).size ≤ 34 := by
  have h1 := numText_size g
  have h2 := numText_size s
  have h3 := numText_size z
  unfold headOf
  have h4 : ∀ c : Int, (St1.four c).size = 4 := fun c => rfl
  unfold St1.sealOf
  simp only [ByteArray.size_append, h4]
  omega
theorem stored4 {T TS TP : TypeId} {b g : Nat} {w1 w8 : World} {us up t c x0 x1 x2 x3 : Value} {xs : List ByteArray} {ps : List (Int × ByteArray)} (R : Row w8 g T [x0, x1, x2, x3]) (hg : w1.heap.size ≤ g) (O1 : OwnS TS b w8 us xs) (O2 : OwnP TP b w8 up ps)
    (L1 : ∀ x ∈ leads us, x ≠ g) (L2 : ∀ x ∈ leads up, x ≠ g) (hB : Below w1.heap.size w1 w8) :
    Row ((((w8.setCell ⟨g, 0, none⟩ us).setCell ⟨g, 1, none⟩ up).setCell ⟨g, 2, none⟩ t).setCell ⟨g, 3, none⟩ c) g T [us, up, t, c] ∧
    OwnS TS b ((((w8.setCell ⟨g, 0, none⟩ us).setCell ⟨g, 1, none⟩ up).setCell ⟨g, 2, none⟩ t).setCell ⟨g, 3, none⟩ c) us xs ∧
    OwnP TP b ((((w8.setCell ⟨g, 0, none⟩ us).setCell ⟨g, 1, none⟩ up).setCell ⟨g, 2, none⟩ t).setCell ⟨g, 3, none⟩ c) up ps ∧
    Below w1.heap.size w1 ((((w8.setCell ⟨g, 0, none⟩ us).setCell ⟨g, 1, none⟩ up).setCell ⟨g, 2, none⟩ t).setCell ⟨g, 3, none⟩ c) := by
  have K : Kept [g] w8 ((((w8.setCell ⟨g, 0, none⟩ us).setCell ⟨g, 1, none⟩ up).setCell ⟨g, 2, none⟩ t).setCell ⟨g, 3, none⟩ c) :=
    ((((Kept.refl _ _).set (by simp) _).set (by simp) _).set (by simp) _).set (by simp) _
  exact ⟨(((R.set (j := 0) us).set (j := 1) up).set (j := 2) t).set (j := 3) c, O1.kept K (fun x hx => by simpa using L1 x hx), O2.kept K (fun x hx => by simpa using L2 x hx), K.toBelow hB hB.size (by simpa using hg)⟩
theorem alloc4 {T TS TP : TypeId} {b : Nat} {w1 w8 : World} {us up t c : Value} {xs : List ByteArray} {ps : List (Int × ByteArray)} (O1 : OwnS TS b w8 us xs) (O2 : OwnP TP b w8 up ps) (hB : Below w1.heap.size w1 w8) :
    Row (w8.alloc (.cells #[us, up, t, c] T)) w8.heap.size T [us, up, t, c] ∧ OwnS TS b (w8.alloc (.cells #[us, up, t, c] T)) us xs ∧ OwnP TP b (w8.alloc (.cells #[us, up, t, c] T)) up ps ∧ Below w1.heap.size w1 (w8.alloc (.cells #[us, up, t, c] T)) :=
  have bn := below_new w8 (.cells #[us, up, t, c] T)
  ⟨row_new w8 _ _, O1.below bn (Nat.le_refl _), O2.below bn (Nat.le_refl _), hB.trans (bn.mono hB.size)⟩
def formatOut (xs : List ByteArray) (ps : List (Int × ByteArray)) : AOut :=
  if right xs ps = false then aill 1 else if xs.length < 3 ∨ 200 ≤ ps.length then aill 9 else ⟨applyP (ps ++ [(0, headOf 0 0 0)]) xs, [], ⟨#[]⟩, 0, 0⟩

theorem l03Ill_any (c : Int) (w : World) :
    Calls Tryz.prog 19 #[.int .i64 c] w fun e w' => e = .returned (.agg #[.slice none 0 0, .slice none 0 0, .string ⟨#[]⟩, .int .i64 0, .int .i64 c]) ∧ Below w.heap.size w w' := by
  go_enter Tryz.func19, Tryz.ntmps19
  go_wp2
  exact bodyPost_ret (v := .agg #[.slice none 0 0, .slice none 0 0, .string ⟨#[]⟩, .int .i64 0, .int .i64 c]) (by simp [results, Tryz.results19, go_sem]) rfl ⟨rfl, (Below.refl _ _).alloc (Nat.le_refl _) _⟩

end Go.Proofs.YtfdgifflnmpmaaaGreatDoor
