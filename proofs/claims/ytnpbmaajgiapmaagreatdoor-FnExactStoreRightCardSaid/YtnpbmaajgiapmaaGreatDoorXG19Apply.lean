/- What is written to the sectors: plain lists. -/
import Derived.Test.YtnpbmaajgiapmaaGreatDoorXG18SWrite
import Derived.Test.YtnpbmaajgiapmaaGreatDoorXG11Disk
import Derived.Test.YtnpbmaajgiapmaaGreatDoorXG13SCopy
namespace Go.Proofs.YtnpbmaajgiapmaaGreatDoor
open Go.RowKit

theorem small_of_right {xs : List ByteArray} {ps : List (Int × ByteArray)} (h : right xs ps = true) : Small xs ps := by
  obtain ⟨l1, l2, l3⟩ := right_len h
  refine ⟨by omega, fun x hx => ?_, by omega, fun x hx => ?_⟩
  · unfold right at h
    simp only [Bool.and_eq_true] at h
    have := h.1.2
    unfold okS at this
    have := (List.all_eq_true.1 this) x hx
    simp at this
    omega
  · obtain ⟨j, hj, rfl⟩ := List.getElem_of_mem hx
    have := right_at h j hj
    omega
theorem applyP_mem : ∀ (ps : List (Int × ByteArray)) (xs : List ByteArray) (n : Nat), (∀ x ∈ xs, x.size ≤ n) → (∀ x ∈ ps, x.2.size ≤ n) → ∀ x ∈ applyP ps xs, x.size ≤ n
  | [], _, _, h, _ => h
  | p :: r, xs, n, h, h2 => applyP_mem r _ n (fun x hx => by
      rcases List.mem_or_eq_of_mem_set hx with h' | rfl
      · exact h x h'
      · exact h2 p (List.mem_cons_self ..)) (fun x hx => h2 x (List.mem_cons_of_mem _ hx))
theorem applyP_at : ∀ (ps : List (Int × ByteArray)) (xs : List ByteArray) (m : Nat), m < xs.length → (∀ x ∈ ps, 0 ≤ x.1) → (applyP ps xs).getD m ⟨#[]⟩ = lastAt m ps (xs.getD m ⟨#[]⟩)
  | [], _, _, _, _ => rfl
  | p :: r, xs, m, h, h0 => by
      have e := applyP_at r (xs.set p.1.toNat p.2) m (by rw [List.length_set]; exact h) (fun x hx => h0 x (List.mem_cons_of_mem _ hx))
      rw [applyP, e, lastAt]
      congr 1
      have hp := h0 p (List.mem_cons_self ..)
      by_cases he : p.1 = (m : Int)
      · rw [if_pos he, he]
        simp [List.getD, h]
      · rw [if_neg he]
        have : p.1.toNat ≠ m := by omega
        simp [List.getD, this]
end Go.Proofs.YtnpbmaajgiapmaaGreatDoor
/- Steps of an area, one behind the other: plain mathematics. -/
namespace Go.Proofs.YtnpbmaajgiapmaaGreatDoor
open Go.RowKit

theorem rightPush {xs : List ByteArray} {ps : List (Int × ByteArray)} {a : Int} {d : ByteArray} (h : right xs ps = true) (hl : ps.length < 200) (h0 : 0 ≤ a) (h1 : a ≤ (xs.length : Int) - 1) (hd : d.size ≤ 64) : right xs (ps ++ [(a, d)]) = true := by
  unfold right okP at h ⊢
  simp only [Bool.and_eq_true, decide_eq_true_eq] at h ⊢
  refine ⟨⟨⟨⟨h.1.1.1.1, h.1.1.1.2⟩, by simp; omega⟩, h.1.2⟩, ?_⟩
  rw [List.all_append, h.2]
  simp
  omega
/-- A step: is it a flush, the place, the text. -/
def stepOut (s : Bool × Int × ByteArray) (xs : List ByteArray) (ps : List (Int × ByteArray)) : Out := if s.1 = true then flushOut xs ps else writeOut xs ps s.2.1 s.2.2
theorem applyP_lenS : ∀ (ps : List (Int × ByteArray)) (xs : List ByteArray), (applyP ps xs).length = xs.length
  | [], _ => rfl
  | x :: r, xs => by rw [applyP, applyP_lenS r, List.length_set]
theorem rightFlush {xs : List ByteArray} {ps : List (Int × ByteArray)} (h : right xs ps = true) : right (applyP ps xs) [] = true := by
  have hs : ∀ x ∈ xs, x.size ≤ 64 := by
    intro x hx
    unfold right at h
    simp only [Bool.and_eq_true] at h
    have := h.1.2
    unfold okS at this
    simpa using (List.all_eq_true.1 this) x hx
  have hq : ∀ x ∈ ps, x.2.size ≤ 64 := by
    intro x hx
    obtain ⟨j, hj, e⟩ := List.mem_iff_getElem.1 hx
    have := right_at h j hj
    rw [e] at this; exact this.2.2
  have hl := right_len h
  have hm := applyP_mem ps xs 64 hs hq
  unfold right okS okP
  simp only [Bool.and_eq_true, decide_eq_true_eq, applyP_lenS, List.all_eq_true, List.all_nil, List.length_nil]
  exact ⟨⟨⟨⟨by omega, by omega⟩, by omega⟩, fun x hx => by simpa using hm x hx⟩, trivial⟩
theorem stepOut_right {s : Bool × Int × ByteArray} {xs : List ByteArray} {ps : List (Int × ByteArray)} (h : right xs ps = true) (hc : (stepOut s xs ps).c = 0) : right (stepOut s xs ps).xs (stepOut s xs ps).ps = true := by
  unfold stepOut at hc ⊢
  by_cases hf : s.1 = true
  · simp only [if_pos hf, flushOut, h] at hc ⊢
    exact rightFlush h
  · simp only [if_neg hf, writeOut] at hc ⊢
    split at hc
    · simp [illOut] at hc
    · split at hc
      · simp [illOut] at hc
      · split at hc
        · split at hc
          · simp [illOut] at hc
          · rename_i h1 h2 h3 h4
            rw [if_neg h1, if_neg h2, if_pos h3, if_neg h4]
            exact rightPush h (by omega) h3.1 h3.2 (by omega)
        · simp [illOut] at hc
theorem stepOut_len {s : Bool × Int × ByteArray} {xs : List ByteArray} {ps : List (Int × ByteArray)} (hc : (stepOut s xs ps).c = 0) : (stepOut s xs ps).xs.length = xs.length := by
  unfold stepOut at hc ⊢
  by_cases hf : s.1 = true
  · simp only [if_pos hf, flushOut] at hc ⊢
    split at hc
    · rename_i h; rw [if_pos h]; exact applyP_lenS ps xs
    · simp [illOut] at hc
  · simp only [if_neg hf, writeOut] at hc ⊢
    split at hc
    · simp [illOut] at hc
    · split at hc
      · simp [illOut] at hc
      · split at hc
        · split at hc
          · simp [illOut] at hc
          · rename_i h1 h2 h3 h4
            rw [if_neg h1, if_neg h2, if_pos h3, if_neg h4]
        · simp [illOut] at hc
/-- All steps, up to the first that tells a code. -/
def runOut : List (Bool × Int × ByteArray) → List ByteArray → List (Int × ByteArray) → Out
  | [], xs, ps => ⟨xs, ps, ⟨#[]⟩, 0⟩
  | s :: r, xs, ps => if (stepOut s xs ps).c = 0 then runOut r (stepOut s xs ps).xs (stepOut s xs ps).ps else illOut (stepOut s xs ps).c
theorem runOut_step (ss : List (Bool × Int × ByteArray)) (k : Nat) (h : k < ss.length) (xs : List ByteArray) (ps : List (Int × ByteArray)) :
    runOut (ss.drop k) xs ps = if (stepOut ss[k] xs ps).c = 0 then runOut (ss.drop (k + 1)) (stepOut ss[k] xs ps).xs (stepOut ss[k] xs ps).ps else illOut (stepOut ss[k] xs ps).c := by
  rw [List.drop_eq_getElem_cons h]; rfl

end Go.Proofs.YtnpbmaajgiapmaaGreatDoor
/- The same of what the area's functions hand back: a disk, a text, two numbers. -/
namespace Go.Proofs.YtnpbmaajgiapmaaGreatDoor
open Go.RowKit

structure AOut where
  xs : List ByteArray
  ps : List (Int × ByteArray)
  t : ByteArray
  g : Int
  c : Int
def aill (c : Int) : AOut := ⟨[], [], ⟨#[]⟩, 0, c⟩
/-- The call ended with the answer o, in memory of its own. -/
def AOutIs (B : Nat) (e : Ending) (w : World) (o : AOut) : Prop :=
  ∃ us up, e = .returned (.agg #[us, up, .string o.t, .int .i64 o.g, .int .i64 o.c]) ∧ OwnS 9 B w us o.xs ∧ OwnP 92 B w up o.ps ∧ ∀ x ∈ leads us, x ∉ leads up
theorem AOutIs.ill (B : Nat) (w : World) (c : Int) : AOutIs B (.returned (.agg #[.slice none 0 0, .slice none 0 0, .string ⟨#[]⟩, .int .i64 0, .int .i64 c])) w (aill c) :=
  ⟨_, _, rfl, OwnS.none _ _ _, OwnP.none _ _ _, fun _ h => by cases h⟩
/-- Five cells of a new block, all of them stored to. -/
theorem five {w : World} {b : Nat} {T : TypeId} {x0 x1 x2 x3 x4 : Value} (h : Row w b T [x0, x1, x2, x3, x4]) (y0 y1 y2 y3 y4 : Value) :
    let w' := (((((w.setCell ⟨b, 0, none⟩ y0).setCell ⟨b, 1, none⟩ y1).setCell ⟨b, 2, none⟩ y2).setCell ⟨b, 3, none⟩ y3).setCell ⟨b, 4, none⟩ y4)
    w'.cell? ⟨b, 0, none⟩ = some y0 ∧ w'.cell? ⟨b, 1, none⟩ = some y1 ∧ w'.cell? ⟨b, 2, none⟩ = some y2 ∧ w'.cell? ⟨b, 3, none⟩ = some y3 ∧ w'.cell? ⟨b, 4, none⟩ = some y4 ∧ Kept [b] w w' := by
  have r1 := (((((h.set (j := 0) y0).set (j := 1) y1).set (j := 2) y2).set (j := 3) y3).set (j := 4) y4)
  refine ⟨r1.cell 0, r1.cell 1, r1.cell 2, r1.cell 3, r1.cell 4, ?_⟩
  exact ((((((Kept.refl _ _).set (by simp) y0).set (by simp) y1).set (by simp) y2).set (by simp) y3).set (by simp) y4)

end Go.Proofs.YtnpbmaajgiapmaaGreatDoor
