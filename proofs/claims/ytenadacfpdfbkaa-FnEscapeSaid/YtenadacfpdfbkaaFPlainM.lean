/- What a text stands for, by right marks: how the model turns it back, and how the program reads it; both come to the same. Lists alone. -/
import Derived.Test.YtenadacfpdfbkaaFEsc
namespace Go.Proofs.Ytenadacfpdfbkaa
open Go.RowKit

def lidx (b : UInt8) : Int := Lib.indexByte letters b
/-- The byte that an escaped one, at the list's beginning, stands for (the program's reading). -/
def escAt (m : ByteArray) : List UInt8 → Option UInt8
  | a :: b :: c :: _ => if a = bAt m 3 ∧ c = bAt m 3 ∧ 0 ≤ lidx b then some (bAt m (lidx b).toNat) else none
  | _ => none
/-- The model's reading: the third byte is not looked at. -/
def escAtS (m : ByteArray) : List UInt8 → Option UInt8
  | a :: b :: _ :: _ => if a = bAt m 3 ∧ 0 ≤ lidx b then some (bAt m (lidx b).toNat) else none
  | _ => none
def okSelf (m : ByteArray) (a : UInt8) : Bool := plainR (a.toNat : Int) && decide (Lib.indexByte m.data.toList a < 0)
def plainL (m : ByteArray) (l : List UInt8) : Option (List UInt8) :=
  match l with
  | [] => some []
  | a :: r =>
    match escAt m (a :: r) with
    | some x => (plainL m (r.drop 2)).map (x :: ·)
    | none => if okSelf m a then (plainL m r).map (a :: ·) else none
termination_by l.length
decreasing_by all_goals simp_wf; try omega
def unescL (m : ByteArray) (l : List UInt8) : List UInt8 :=
  match l with
  | [] => []
  | a :: r =>
    match escAtS m (a :: r) with
    | some x => x :: unescL m (r.drop 2)
    | none => a :: unescL m r
termination_by l.length
decreasing_by all_goals simp_wf; try omega

theorem plainL_nil (m : ByteArray) : plainL m [] = some [] := by rw [plainL.eq_def]
theorem plainL_esc {m : ByteArray} {a : UInt8} {r : List UInt8} {x : UInt8} (h : escAt m (a :: r) = some x) : plainL m (a :: r) = (plainL m (r.drop 2)).map (x :: ·) := by rw [plainL.eq_def]; simp only [h]
theorem plainL_self {m : ByteArray} {a : UInt8} {r : List UInt8} (h : escAt m (a :: r) = none) (h2 : okSelf m a = true) : plainL m (a :: r) = (plainL m r).map (a :: ·) := by rw [plainL.eq_def]; simp only [h, h2, if_true]
theorem plainL_no {m : ByteArray} {a : UInt8} {r : List UInt8} (h : escAt m (a :: r) = none) (h2 : okSelf m a = false) : plainL m (a :: r) = none := by rw [plainL.eq_def]; simp only [h, h2, Bool.false_eq_true, if_false]
theorem unescL_nil (m : ByteArray) : unescL m [] = [] := by rw [unescL.eq_def]
theorem unescL_esc {m : ByteArray} {a : UInt8} {r : List UInt8} {x : UInt8} (h : escAtS m (a :: r) = some x) : unescL m (a :: r) = x :: unescL m (r.drop 2) := by rw [unescL.eq_def]; simp only [h]
theorem unescL_self {m : ByteArray} {a : UInt8} {r : List UInt8} (h : escAtS m (a :: r) = none) : unescL m (a :: r) = a :: unescL m r := by rw [unescL.eq_def]; simp only [h]

theorem markAt_of {m : ByteArray} (h : marksB m = true) (j : Nat) (hj : j < m.size) : markR ((m[j]'hj).toNat : Int) = true ∧ Lib.indexByte m.data.toList (m[j]'hj) = (j : Int) := by
  simp only [marksB, Bool.and_eq_true] at h
  have := List.all_eq_true.1 h.2 j (List.mem_range.2 hj)
  rw [markAt_eq m j hj] at this
  simpa using this
theorem indexByte_get : ∀ (l : List UInt8) (c : UInt8) (q : Nat), Lib.indexByte l c = (q : Int) → l.getD q 0 = c
  | [], _, q, h => by simp [Lib.indexByte] at h
  | b :: l, c, q, h => by
    unfold Lib.indexByte at h
    by_cases e : b = c
    · simp [e] at h
      have : q = 0 := by omega
      subst this
      simpa using e
    · have e' : (b == c) = false := by simpa using e
      rw [e'] at h
      simp only [Bool.false_eq_true, if_false] at h
      by_cases e2 : Lib.indexByte l c = -1
      · simp [e2] at h
      · have e3 : (Lib.indexByte l c == -1) = false := by simpa using e2
        rw [e3] at h
        simp only [Bool.false_eq_true, if_false] at h
        have g := Lib.indexByte_ge l c
        obtain ⟨p, hp⟩ : ∃ p : Nat, q = p + 1 := ⟨q - 1, by omega⟩
        subst hp
        have := indexByte_get l c p (by omega)
        simpa using this
theorem lidx_letter (q : Nat) (h : q < 5) : lidx (letters.getD q 0) = (q : Int) := by
  match q, h with
  | 0, _ => rfl
  | 1, _ => rfl
  | 2, _ => rfl
  | 3, _ => rfl
  | 4, _ => rfl
theorem lidx_lt (b : UInt8) : lidx b < 5 := by
  have := indexByte_lt letters b
  simpa [lidx, letters] using this

/-- A byte that is a mark, of right marks: the place where it stands. -/
theorem mark_get {m : ByteArray} (h : marksB m = true) (c : UInt8) (hc : 0 ≤ Lib.indexByte m.data.toList c) : ∃ q : Nat, Lib.indexByte m.data.toList c = q ∧ q < 5 ∧ bAt m q = c := by
  obtain ⟨q, hq⟩ : ∃ q : Nat, Lib.indexByte m.data.toList c = q := ⟨_, (Int.toNat_of_nonneg hc).symm⟩
  refine ⟨q, hq, ?_, indexByte_get _ _ _ hq⟩
  have := indexByte_lt m.data.toList c
  rw [bytes_len] at this
  have h5 : m.size = 5 := by simp [marksB] at h; exact h.1
  omega
theorem idx_mark {m : ByteArray} (h : marksB m = true) (q : Nat) (hq : q < 5) : Lib.indexByte m.data.toList (bAt m q) = (q : Int) := by
  have h5 : m.size = 5 := by simp [marksB] at h; exact h.1
  rw [bAt_get m q (by omega)]
  exact (markAt_of h q (by omega)).2
theorem mark_plain {m : ByteArray} (h : marksB m = true) (q : Nat) (hq : q < 5) : plainR ((bAt m q).toNat : Int) = true := by
  have h5 : m.size = 5 := by simp [marksB] at h; exact h.1
  rw [bAt_get m q (by omega)]
  have := markR_low _ (markAt_of h q (by omega)).1
  simp [plainR]
  omega

theorem unesc_esc {m : ByteArray} (h : marksB m = true) : ∀ u : List UInt8, unescL m (escL m u) = u
  | [] => by simp [escL, unescL_nil]
  | c :: u => by
    have ih := unesc_esc h u
    have e1 : escL m (c :: u) = escOne m c ++ escL m u := by simp [escL]
    rw [e1]
    by_cases hc : 0 ≤ Lib.indexByte m.data.toList c
    · obtain ⟨q, hq, hq5, hb⟩ := mark_get h c hc
      have e2 : escOne m c = [bAt m 3, letters.getD q 0, bAt m 3] := by unfold escOne; rw [if_pos hc, hq]; rfl
      have e4 : escAtS m (bAt m 3 :: letters.getD q 0 :: bAt m 3 :: escL m u) = some c := by
        show (if bAt m 3 = bAt m 3 ∧ 0 ≤ lidx (letters.getD q 0) then some (bAt m (lidx (letters.getD q 0)).toNat) else none) = some c
        rw [if_pos ⟨rfl, by rw [lidx_letter q hq5]; omega⟩, lidx_letter q hq5, Int.toNat_natCast, hb]
      rw [e2]
      show unescL m (bAt m 3 :: letters.getD q 0 :: bAt m 3 :: escL m u) = _
      rw [unescL_esc e4]
      simpa using ih
    · have e2 : escOne m c = [c] := by unfold escOne; rw [if_neg hc]
      have hne : c ≠ bAt m 3 := fun e => hc (by rw [e, idx_mark h 3 (by omega)]; omega)
      have : escAtS m (c :: escL m u) = none := by
        unfold escAtS
        split
        · rename_i a b d r e3
          simp only [List.cons.injEq] at e3
          rw [if_neg (fun hh => hne (by rw [e3.1]; exact hh.1))]
        · rfl
      rw [e2, List.cons_append, List.nil_append, unescL_self this, ih]

theorem plain_esc {m : ByteArray} (h : marksB m = true) : ∀ u : List UInt8, (∀ c ∈ u, plainR (c.toNat : Int) = true) → plainL m (escL m u) = some u
  | [], _ => by simp [escL, plainL_nil]
  | c :: u, hp => by
    have ih := plain_esc h u (fun x hx => hp x (List.mem_cons_of_mem _ hx))
    have e1 : escL m (c :: u) = escOne m c ++ escL m u := by simp [escL]
    rw [e1]
    by_cases hc : 0 ≤ Lib.indexByte m.data.toList c
    · obtain ⟨q, hq, hq5, hb⟩ := mark_get h c hc
      have e2 : escOne m c = [bAt m 3, letters.getD q 0, bAt m 3] := by unfold escOne; rw [if_pos hc, hq]; rfl
      have e4 : escAt m (bAt m 3 :: letters.getD q 0 :: bAt m 3 :: escL m u) = some c := by
        show (if bAt m 3 = bAt m 3 ∧ bAt m 3 = bAt m 3 ∧ 0 ≤ lidx (letters.getD q 0) then some (bAt m (lidx (letters.getD q 0)).toNat) else none) = some c
        rw [if_pos ⟨rfl, rfl, by rw [lidx_letter q hq5]; omega⟩, lidx_letter q hq5, Int.toNat_natCast, hb]
      rw [e2]
      show plainL m (bAt m 3 :: letters.getD q 0 :: bAt m 3 :: escL m u) = _
      rw [plainL_esc e4]
      simp [ih]
    · have e2 : escOne m c = [c] := by unfold escOne; rw [if_neg hc]
      have hne : c ≠ bAt m 3 := fun e => hc (by rw [e, idx_mark h 3 (by omega)]; omega)
      have hok : okSelf m c = true := by
        simp only [okSelf, hp c (List.mem_cons_self ..), Bool.true_and, decide_eq_true_eq]
        omega
      have : escAt m (c :: escL m u) = none := by
        unfold escAt
        split
        · rename_i a b d r e3
          simp only [List.cons.injEq] at e3
          rw [if_neg (fun hh => hne (by rw [e3.1]; exact hh.1))]
        · rfl
      rw [e2, List.cons_append, List.nil_append, plainL_self this hok, ih]
      rfl

theorem esc_plain {m : ByteArray} (h : marksB m = true) : ∀ (n : Nat) (l u : List UInt8), l.length ≤ n → plainL m l = some u → escL m u = l ∧ ∀ c ∈ u, plainR (c.toNat : Int) = true
  | _, [], u, _, hu => by
    rw [plainL_nil] at hu
    simp at hu
    subst hu
    simp [escL]
  | 0, a :: r, u, hn, _ => by simp at hn
  | n + 1, a :: r, u, hn, hu => by
    cases he : escAt m (a :: r) with
    | some x =>
      rw [plainL_esc he] at hu
      simp only [Option.map_eq_some_iff] at hu
      obtain ⟨u', hu', rfl⟩ := hu
      match r, he with
      | b :: c :: r', he =>
        simp only [escAt] at he
        split at he
        · rename_i hh
          obtain ⟨h1, h2, h3⟩ := hh
          have hl := lidx_lt b
          obtain ⟨q, hq⟩ : ∃ q : Nat, lidx b = q := ⟨_, (Int.toNat_of_nonneg h3).symm⟩
          rw [hq] at he
          simp at he
          have hq5 : q < 5 := by omega
          have ih := esc_plain h n r' u' (by simp at hn; omega) (by simpa using hu')
          refine ⟨?_, ?_⟩
          · have e1 : escL m (x :: u') = escOne m x ++ escL m u' := by simp [escL]
            rw [e1, ih.1, ← he]
            unfold escOne
            rw [idx_mark h q hq5, if_pos (by omega), h1, h2]
            have e5 : letters.getD q 0 = b := indexByte_get letters b q hq
            rw [Int.toNat_natCast, e5]
            rfl
          · intro c hc
            rcases List.mem_cons.1 hc with rfl | hc
            · rw [← he]; exact mark_plain h q hq5
            · exact ih.2 c hc
        · cases he
      | [b], he => simp [escAt] at he
      | [], he => simp [escAt] at he
    | none =>
      cases hok : okSelf m a
      · rw [plainL_no he hok] at hu
        cases hu
      · rw [plainL_self he hok] at hu
        simp only [Option.map_eq_some_iff] at hu
        obtain ⟨u', hu', rfl⟩ := hu
        have ih := esc_plain h n r u' (by simp at hn; omega) hu'
        simp only [okSelf, Bool.and_eq_true, decide_eq_true_eq] at hok
        refine ⟨?_, ?_⟩
        · have e1 : escL m (a :: u') = escOne m a ++ escL m u' := by simp [escL]
          rw [e1, ih.1]
          unfold escOne
          rw [if_neg (by omega)]
          rfl
        · intro c hc
          rcases List.mem_cons.1 hc with rfl | hc
          · exact hok.1
          · exact ih.2 c hc

theorem plain_iff {m : ByteArray} (h : marksB m = true) (l u : List UInt8) : plainL m l = some u ↔ (unescL m l = u ∧ (∀ c ∈ u, plainR (c.toNat : Int) = true) ∧ escL m u = l) := by
  constructor
  · intro hu
    have := esc_plain h l.length l u (Nat.le_refl _) hu
    exact ⟨by rw [← this.1]; exact unesc_esc h u, this.2, this.1⟩
  · rintro ⟨_, h2, h3⟩
    rw [← h3]
    exact plain_esc h u h2
end Go.Proofs.Ytenadacfpdfbkaa
