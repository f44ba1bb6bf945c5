/- Where marks stand in a text, and where not; two right Fields of one text have as many Reps. Lists alone. -/
import Derived.Test.YtenadacfpdfbkaaFTextM
import Derived.Test.YtenadacfpdfbkaaFPlainM
namespace Go.Proofs.Ytenadacfpdfbkaa
open Go.RowKit

theorem letters_no_mark (q : Nat) (h : q < 5) : markR ((letters.getD q 0).toNat : Int) = false := by
  match q, h with
  | 0, _ => decide
  | 1, _ => decide
  | 2, _ => decide
  | 3, _ => decide
  | 4, _ => decide
theorem mark_ok {m : ByteArray} (h : marksB m = true) (q : Nat) (hq : q < 5) : markR ((bAt m q).toNat : Int) = true := by
  have h5 : m.size = 5 := by simp [marksB] at h; exact h.1
  rw [bAt_get m q (by omega)]
  exact (markAt_of h q (by omega)).1
theorem mark_inj {m : ByteArray} (h : marksB m = true) {q r : Nat} (hq : q < 5) (hr : r < 5) (e : bAt m q = bAt m r) : q = r := by
  have h1 := idx_mark h q hq
  have h2 := idx_mark h r hr
  rw [e, h2] at h1
  omega
/-- In what stands for a byte there is no mark but the escape. -/
theorem esc_noin {m : ByteArray} (h : marksB m = true) (q : Nat) (hq : q < 5) (h3 : q ≠ 3) (c : UInt8) : bAt m q ∉ escOne m c := by
  intro hin
  by_cases hc : 0 ≤ Lib.indexByte m.data.toList c
  · obtain ⟨k, hk, hk5, _⟩ := mark_get h c hc
    have e2 : escOne m c = [bAt m 3, letters.getD k 0, bAt m 3] := by unfold escOne; rw [if_pos hc, hk]; rfl
    rw [e2] at hin
    simp only [List.mem_cons, List.not_mem_nil, or_false] at hin
    rcases hin with e | e | e
    · exact h3 (mark_inj h hq (by omega) e)
    · have h1 := mark_ok h q hq
      rw [e, letters_no_mark k hk5] at h1
      cases h1
    · exact h3 (mark_inj h hq (by omega) e)
  · have e2 : escOne m c = [c] := by unfold escOne; rw [if_neg hc]
    rw [e2] at hin
    simp only [List.mem_cons, List.not_mem_nil, or_false] at hin
    rw [← hin, idx_mark h q hq] at hc
    omega
theorem subT_noin {m : ByteArray} (h : marksB m = true) (q : Nat) (hq : q < 5) (h3 : q ≠ 3) (s : ByteArray) : bAt m q ∉ subT m s := by
  intro hin
  obtain ⟨c, _, hc⟩ := List.mem_flatMap.1 hin
  exact esc_noin h q hq h3 c hc
theorem jnF_noin {α : Type} {s c : UInt8} {f : α → List UInt8} (hs : c ≠ s) : ∀ (i : Nat) (xs : List α), (∀ x ∈ xs, c ∉ f x) → c ∉ jnF s f i xs
  | _, [], _ => by simp [jnF]
  | i, x :: r, h => by
    intro hin
    rw [jnF, List.mem_append, List.mem_append] at hin
    rcases hin with (h1 | h1) | h1
    · split at h1
      · simp at h1; exact hs h1
      · simp at h1
    · exact h x (List.mem_cons_self ..) h1
    · exact jnF_noin hs (i + 1) r (fun y hy => h y (List.mem_cons_of_mem _ hy)) h1
theorem compT_noin {m : ByteArray} (h : marksB m = true) (q : Nat) (hq : q < 4) (h3 : q ≠ 3) (x : List ByteArray) : bAt m q ∉ compT m x :=
  jnF_noin (fun e => by have := mark_inj h (by omega) (by omega) e; omega) 0 x (fun y _ => subT_noin h q (by omega) h3 y)
theorem repT_noin {m : ByteArray} (h : marksB m = true) (q : Nat) (hq : q < 4) (h3 : q ≠ 3) (h1 : q ≠ 1) (x : List (List ByteArray)) : bAt m q ∉ repT m x :=
  jnF_noin (fun e => by have := mark_inj h (by omega) (by omega) e; omega) 0 x (fun y _ => compT_noin h q hq h3 y)
theorem jnF_count {α : Type} {s : UInt8} {f : α → List UInt8} : ∀ (i : Nat) (xs : List α), (∀ x ∈ xs, s ∉ f x) → (jnF s f i xs).count s = if 0 < i then xs.length else xs.length - 1
  | i, [], _ => by simp [jnF]
  | i, x :: r, h => by
    have h1 := jnF_count (s := s) (f := f) (i + 1) r (fun y hy => h y (List.mem_cons_of_mem _ hy))
    have h2 : (f x).count s = 0 := List.count_eq_zero.2 (h x (List.mem_cons_self ..))
    rw [if_pos (by omega)] at h1
    rw [jnF, List.count_append, List.count_append, h2, h1]
    by_cases hi : 0 < i
    · simp [hi]; omega
    · simp [hi]
theorem jnF_nil {α : Type} {s : UInt8} {f : α → List UInt8} {xs : List α} (h : jnF s f 0 xs = []) : xs = [] ∨ ∃ x, xs = [x] ∧ f x = [] := by
  match xs, h with
  | [], _ => exact .inl rfl
  | [x], h => exact .inr ⟨x, rfl, by simpa [jnF] using h⟩
  | x :: y :: r, h => simp [jnF] at h
theorem escOne_ne (m : ByteArray) (c : UInt8) : escOne m c ≠ [] := by unfold escOne; split <;> simp
theorem subT_nil {m s : ByteArray} (h : subT m s = []) : s.size = 0 := by
  unfold subT escL at h
  rw [List.flatMap_eq_nil_iff] at h
  rw [← bytes_len]
  cases hs : s.data.toList with
  | nil => rfl
  | cons c r => exact absurd (h c (by rw [hs]; exact List.mem_cons_self ..)) (escOne_ne m c)
theorem right_last {α : Type} {f emp : α → Bool} {most : Nat} {x : α} (h : rightB f emp most [x] = true) : f x = true ∧ emp x = false := by
  simp only [rightB, Bool.and_eq_true] at h
  exact ⟨by simpa using h.1.1, by simpa [endEmpty] using h.2⟩
theorem compT_nil {m : ByteArray} {x : List ByteArray} (hx : compB x = true) (h : compT m x = []) : x = [] := by
  rcases jnF_nil h with e | ⟨s, rfl, hs⟩
  · exact e
  · have := (right_last hx).2
    simp [empS, subT_nil hs] at this
theorem repT_nil {m : ByteArray} {x : List (List ByteArray)} (hx : repB x = true) (h : repT m x = []) : x = [] := by
  rcases jnF_nil h with e | ⟨s, rfl, hs⟩
  · exact e
  · have hr := right_last hx
    have := compT_nil hr.1 hs
    subst this
    simp [empL] at hr
theorem fldT_nil {m : ByteArray} {x : List (List (List ByteArray))} (hx : fldB x = true) (h : fldT m x = []) : x = [] := by
  rcases jnF_nil h with e | ⟨s, rfl, hs⟩
  · exact e
  · have hr := right_last hx
    have := repT_nil hr.1 hs
    subst this
    simp [empL] at hr
/-- Two right Fields of one text have as many Reps. -/
theorem same_length {m : ByteArray} (h : marksB m = true) {a b : List (List (List ByteArray))} (ha : fldB a = true) (hb : fldB b = true) (e : fldT m a = fldT m b) : a.length = b.length := by
  have ca := jnF_count (s := bAt m 2) (f := repT m) 0 a (fun y _ => repT_noin h 2 (by omega) (by omega) (by omega) y)
  have cb := jnF_count (s := bAt m 2) (f := repT m) 0 b (fun y _ => repT_noin h 2 (by omega) (by omega) (by omega) y)
  have e' : jnF (bAt m 2) (repT m) 0 a = jnF (bAt m 2) (repT m) 0 b := e
  rw [e', cb] at ca
  simp at ca
  by_cases h0 : a = []
  · subst h0
    have := fldT_nil hb (by rw [← e]; simp [fldT, jnF])
    rw [this]
  by_cases h1 : b = []
  · subst h1
    have := fldT_nil ha (by rw [e]; simp [fldT, jnF])
    rw [this]
  have := List.length_pos_iff.2 h0
  have := List.length_pos_iff.2 h1
  omega
end Go.Proofs.Ytenadacfpdfbkaa
