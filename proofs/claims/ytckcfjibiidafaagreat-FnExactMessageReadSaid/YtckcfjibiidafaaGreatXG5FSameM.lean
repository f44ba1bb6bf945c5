/- Where marks stand in a text, and where not; two right Fields of one text have as many Reps. Lists alone. -/
import Derived.Test.YtckcfjibiidafaaGreatXG4FTextM
namespace Go.Proofs.YtckcfjibiidafaaGreat
open Go.RowKit

theorem letters_no_mark (q : Nat) (h : q < 5) : markR ((letters.getD q 0).toNat : Int) = false := by
  match q, h with
  | 0, _ => decide
  | 1, _ => decide
  | 2, _ => decide
  | 3, _ => decide
  | 4, _ => decide
theorem mark_ok {m : ByteArray} (h : marksB m = true) (q : Nat) (hq : q < 5) : markR ((bAt m q).toNat : Int) = true := by
  have h5 : m.size = 5 := by simp [marksB] at h; exact h.1
  rw [bAt_get m q (by omega)]
  exact (markAt_of h q (by omega)).1
theorem mark_inj {m : ByteArray} (h : marksB m = true) {q r : Nat} (hq : q < 5) (hr : r < 5) (e : bAt m q = bAt m r) : q = r := by
  have h1 := idx_mark h q hq
  have h2 := idx_mark h r hr
  rw [e, h2] at h1
  omega
/-- In what stands for a byte there is no mark but the escape. -/
theorem esc_noin {m : ByteArray} (h : marksB m = true) (q : Nat) (hq : q < 5) (h3 : q ≠ 3) (c : UInt8) : bAt m q ∉ escOne m c := by
  intro hin
  by_cases hc : 0 ≤ Lib.indexByte m.data.toList c
  · obtain ⟨k, hk, hk5, _⟩ := mark_get h c hc
    have e2 : escOne m c = [bAt m 3, letters.getD k 0, bAt m 3] := by unfold escOne; rw [if_pos hc, hk]; rfl
    rw [e2] at hin
    simp only [List.mem_cons, List.not_mem_nil, or_false] at hin
    rcases hin with e | e | e
    · exact h3 (mark_inj h hq (by omega) e)
    · have h1 := mark_ok h q hq
      rw [e, letters_no_mark k hk5] at h1
      cases h1
    · exact h3 (mark_inj h hq (by omega) e)
  · have e2 : escOne m c = [c] := by unfold escOne; rw [if_neg hc]
    rw [e2] at hin
    simp only [List.mem_cons, List.not_mem_nil, or_false] at hin
    rw [← hin, idx_mark h q hq] at hc
    omega
theorem subT_noin {m : ByteArray} (h : marksB m = true) (q : Nat) (hq : q < 5) (h3 : q ≠ 3) (s : ByteArray) : bAt m q ∉ subT m s := by
  intro hin
  obtain ⟨c, _, hc⟩ := List.mem_flatMap.1 hin
  exact esc_noin h q hq h3 c hc
theorem jnF_noin {α : Type} {s c : UInt8} {f : α → List UInt8} (hs : c ≠ s) : ∀ (i : Nat) (xs : List α), (∀ x ∈ xs, c ∉ f x) → c ∉ jnF s f i xs
  | _, [], _ => by simp [jnF]
  | i, x :: r, h => by
    intro hin
    rw [jnF, List.mem_append, List.mem_append] at hin
    rcases hin with (h1 | h1) | h1
    · split at h1
      · simp at h1; exact hs h1
      · simp at h1
    · exact h x (List.mem_cons_self ..) h1
    · exact jnF_noin hs (i + 1) r (fun y hy => h y (List.mem_cons_of_mem _ hy)) h1
theorem compT_noin {m : ByteArray} (h : marksB m = true) (q : Nat) (hq : q < 4) (h3 : q ≠ 3) (x : List ByteArray) : bAt m q ∉ compT m x :=
  jnF_noin (fun e => by have := mark_inj h (by omega) (by omega) e; omega) 0 x (fun y _ => subT_noin h q (by omega) h3 y)
theorem repT_noin {m : ByteArray} (h : marksB m = true) (q : Nat) (hq : q < 4) (h3 : q ≠ 3) (h1 : q ≠ 1) (x : List (List ByteArray)) : bAt m q ∉ repT m x :=
  jnF_noin (fun e => by have := mark_inj h (by omega) (by omega) e; omega) 0 x (fun y _ => compT_noin h q hq h3 y)
theorem jnF_count {α : Type} {s : UInt8} {f : α → List UInt8} : ∀ (i : Nat) (xs : List α), (∀ x ∈ xs, s ∉ f x) → (jnF s f i xs).count s = if 0 < i then xs.length else xs.length - 1
  | i, [], _ => by simp [jnF]
  | i, x :: r, h => by
    have h1 := jnF_count (s := s) (f := f) (i + 1) r (fun y hy => h y (List.mem_cons_of_mem _ hy))
    have h2 : (f x).count s = 0 := List.count_eq_zero.2 (h x (List.mem_cons_self ..))
    rw [if_pos (by omega)] at h1
    rw [jnF, List.count_append, List.count_append, h2, h1]
    by_cases hi : 0 < i
    · simp [hi]; omega
    · simp [hi]
theorem jnF_nil {α : Type} {s : UInt8} {f : α → List UInt8} {xs : List α} (h : jnF s f 0 xs = []) : xs = [] ∨ ∃ x, xs = [x] ∧ f x = [] := by
  match xs, h with
  | [], _ => exact .inl rfl
  | [x], h => exact .inr ⟨x, rfl, by simpa [jnF] using h⟩
  | x :: y :: r, h => simp [jnF] at h
theorem escOne_ne (m : ByteArray) (c : UInt8) : escOne m c ≠ [] := by unfold escOne; split <;> simp
theorem subT_nil {m s : ByteArray} (h : subT m s = []) : s.size = 0 := by
  unfold subT escL at h
  rw [List.flatMap_eq_nil_iff] at h
  rw [← bytes_len]
  cases hs : s.data.toList with
  | nil => rfl
  | cons c r => exact absurd (h c (by rw [hs]; exact List.mem_cons_self ..)) (escOne_ne m c)
theorem right_last {α : Type} {f emp : α → Bool} {most : Nat} {x : α} (h : rightB f emp most [x] = true) : f x = true ∧ emp x = false := by
  simp only [rightB, Bool.and_eq_true] at h
  exact ⟨by simpa using h.1.1, by simpa [endEmpty] using h.2⟩
theorem compT_nil {m : ByteArray} {x : List ByteArray} (hx : compB x = true) (h : compT m x = []) : x = [] := by
  rcases jnF_nil h with e | ⟨s, rfl, hs⟩
  · exact e
  · have := (right_last hx).2
    simp [empS, subT_nil hs] at this
theorem repT_nil {m : ByteArray} {x : List (List ByteArray)} (hx : repB x = true) (h : repT m x = []) : x = [] := by
  rcases jnF_nil h with e | ⟨s, rfl, hs⟩
  · exact e
  · have hr := right_last hx
    have := compT_nil hr.1 hs
    subst this
    simp [empL] at hr
theorem fldT_nil {m : ByteArray} {x : List (List (List ByteArray))} (hx : fldB x = true) (h : fldT m x = []) : x = [] := by
  rcases jnF_nil h with e | ⟨s, rfl, hs⟩
  · exact e
  · have hr := right_last hx
    have := repT_nil hr.1 hs
    subst this
    simp [empL] at hr
/-- Two right Fields of one text have as many Reps. -/
theorem same_length {m : ByteArray} (h : marksB m = true) {a b : List (List (List ByteArray))} (ha : fldB a = true) (hb : fldB b = true) (e : fldT m a = fldT m b) : a.length = b.length := by
  have ca := jnF_count (s := bAt m 2) (f := repT m) 0 a (fun y _ => repT_noin h 2 (by omega) (by omega) (by omega) y)
  have cb := jnF_count (s := bAt m 2) (f := repT m) 0 b (fun y _ => repT_noin h 2 (by omega) (by omega) (by omega) y)
  have e' : jnF (bAt m 2) (repT m) 0 a = jnF (bAt m 2) (repT m) 0 b := e
  rw [e', cb] at ca
  simp at ca
  by_cases h0 : a = []
  · subst h0
    have := fldT_nil hb (by rw [← e]; simp [fldT, jnF])
    rw [this]
  by_cases h1 : b = []
  · subst h1
    have := fldT_nil ha (by rw [e]; simp [fldT, jnF])
    rw [this]
  have := List.length_pos_iff.2 h0
  have := List.length_pos_iff.2 h1
  omega
end Go.Proofs.YtckcfjibiidafaaGreat
/- A text that is cut at a mark, and put together again. Lists alone. -/
namespace Go.Proofs.YtckcfjibiidafaaGreat
open Go.RowKit
def cutL (s : UInt8) : List UInt8 → List (List UInt8)
  | [] => [[]]
  | a :: r => if a = s then [] :: cutL s r else match cutL s r with
    | [] => [[a]]
    | p :: ps => (a :: p) :: ps
theorem cutL_at (s : UInt8) (r : List UInt8) : cutL s (s :: r) = [] :: cutL s r := by simp [cutL]
theorem cutL_some (s : UInt8) : ∀ L : List UInt8, ∃ p ps, cutL s L = p :: ps
  | [] => ⟨_, _, rfl⟩
  | a :: r => by
    by_cases h : a = s
    · exact ⟨_, _, by rw [cutL, if_pos h]⟩
    · obtain ⟨p, ps, e⟩ := cutL_some s r
      exact ⟨_, _, by rw [cutL, if_neg h, e]⟩
theorem cutL_ne (s a : UInt8) (r p : List UInt8) (ps : List (List UInt8)) (h : a ≠ s) (e : cutL s r = p :: ps) : cutL s (a :: r) = (a :: p) :: ps := by
  rw [cutL, if_neg h, e]
theorem jnF_idx {α : Type} (s : UInt8) (f : α → List UInt8) : ∀ (i j : Nat) (xs : List α), jnF s f (i + 1) xs = jnF s f (j + 1) xs
  | _, _, [] => rfl
  | i, j, x :: r => by rw [jnF, jnF, if_pos (Nat.succ_pos i), if_pos (Nat.succ_pos j), jnF_idx s f (i + 1) (j + 1) r]
theorem jnF_zero {α : Type} (s : UInt8) (f : α → List UInt8) (x : α) (r : List α) : jnF s f 0 (x :: r) = f x ++ jnF s f 1 r := by
  rw [jnF, if_neg (Nat.lt_irrefl 0), List.nil_append]
theorem jnF_one {α : Type} (s : UInt8) (f : α → List UInt8) (x : α) (r : List α) : jnF s f 1 (x :: r) = s :: jnF s f 0 (x :: r) := by
  rw [jnF, if_pos (Nat.succ_pos 0), jnF_zero, jnF_idx s f 1 0 r]
  simp
/-- The pieces, put together with the mark between, are the text. -/
theorem cutL_join (s : UInt8) : ∀ L : List UInt8, jnF s (fun p => p) 0 (cutL s L) = L
  | [] => by simp [cutL, jnF]
  | a :: r => by
    have h0 := cutL_join s r
    obtain ⟨p, ps, e⟩ := cutL_some s r
    rw [e] at h0
    by_cases h : a = s
    · rw [cutL, if_pos h, e, jnF_zero, jnF_one, h0, h]
      rfl
    · rw [cutL_ne s a r p ps h e, jnF_zero]
      rw [jnF_zero] at h0
      rw [List.cons_append, h0]
/-- In no piece the mark stands. -/
theorem cutL_noin (s : UInt8) : ∀ (L : List UInt8), ∀ p ∈ cutL s L, s ∉ p
  | [], p, hp => by
    simp [cutL] at hp
    simp [hp]
  | a :: r, p, hp => by
    have h0 := cutL_noin s r
    obtain ⟨q, qs, e⟩ := cutL_some s r
    rw [e] at h0
    by_cases h : a = s
    · rw [cutL, if_pos h, e] at hp
      rcases List.mem_cons.1 hp with rfl | hp
      · simp
      · exact h0 p hp
    · rw [cutL_ne s a r q qs h e] at hp
      rcases List.mem_cons.1 hp with rfl | hp
      · intro hin
        rcases List.mem_cons.1 hin with e1 | hin
        · exact h e1.symm
        · exact h0 q (List.mem_cons_self ..) hin
      · exact h0 p (List.mem_cons_of_mem _ hp)
theorem cutL_one (s : UInt8) : ∀ p : List UInt8, s ∉ p → cutL s p = [p]
  | [], _ => rfl
  | a :: r, h => cutL_ne s a r r [] (fun e => h (by rw [e]; exact List.mem_cons_self ..)) (cutL_one s r (fun e => h (List.mem_cons_of_mem _ e)))
theorem cutL_first (s : UInt8) (r : List UInt8) : ∀ p : List UInt8, s ∉ p → cutL s (p ++ s :: r) = p :: cutL s r
  | [], _ => cutL_at s r
  | a :: p, h => cutL_ne s a (p ++ s :: r) p (cutL s r) (fun e => h (by rw [e]; exact List.mem_cons_self ..)) (cutL_first s r p (fun e => h (List.mem_cons_of_mem _ e)))
/-- What is put together with the mark between, and has none within, is cut where it was put together. -/
theorem cutL_jn {α : Type} (s : UInt8) (f : α → List UInt8) : ∀ (x : α) (r : List α), (∀ y ∈ x :: r, s ∉ f y) → cutL s (jnF s f 0 (x :: r)) = (x :: r).map f
  | x, [], h => by
    rw [jnF_zero, jnF, List.append_nil, cutL_one s (f x) (h x (List.mem_cons_self ..))]
    rfl
  | x, y :: r, h => by
    rw [jnF_zero, jnF_one, cutL_first s _ (f x) (h x (List.mem_cons_self ..)), cutL_jn s f y r (fun z hz => h z (List.mem_cons_of_mem _ hz))]
    rfl
/-- A walk along the text: D are the pieces that are done, the next one begins at b, and from there to k no mark stands. -/
structure Cut (s : UInt8) (L : List UInt8) (D : List (List UInt8)) (b k : Nat) : Prop where
  le : b ≤ k
  no : s ∉ (L.drop b).take (k - b)
  all : D ++ cutL s (L.drop b) = cutL s L
theorem Cut.zero (s : UInt8) (L : List UInt8) : Cut s L [] 0 0 := ⟨Nat.le_refl _, by simp, by simp⟩
theorem Cut.go {s : UInt8} {L : List UInt8} {D : List (List UInt8)} {b k : Nat} (h : Cut s L D b k) (hk : k < L.length) (hne : L[k] ≠ s) : Cut s L D b (k + 1) := by
  have hle := h.le
  refine ⟨by omega, ?_, h.all⟩
  have e : k + 1 - b = (k - b) + 1 := by omega
  have hl : k - b < (L.drop b).length := by rw [List.length_drop]; omega
  have eg : (L.drop b)[k - b] = L[k] := by
    rw [List.getElem_drop]
    congr 1
    omega
  rw [e, List.take_succ_eq_append_getElem hl, eg]
  intro hin
  rcases List.mem_append.1 hin with hin | hin
  · exact h.no hin
  · simp only [List.mem_cons, List.not_mem_nil, or_false] at hin
    exact hne hin.symm
theorem Cut.mark {s : UInt8} {L : List UInt8} {D : List (List UInt8)} {b k : Nat} (h : Cut s L D b k) (hk : k < L.length) (he : L[k] = s) : Cut s L (D ++ [(L.drop b).take (k - b)]) (k + 1) (k + 1) := by
  have hle := h.le
  refine ⟨Nat.le_refl _, by simp, ?_⟩
  have e1 : L.drop b = (L.drop b).take (k - b) ++ s :: L.drop (k + 1) := by
    have h1 := (List.take_append_drop (k - b) (L.drop b)).symm
    rw [List.drop_drop, show b + (k - b) = k by omega, List.drop_eq_getElem_cons hk, he] at h1
    exact h1
  have h2 := h.all
  rw [e1, cutL_first s _ _ h.no] at h2
  rw [← h2]
  simp
theorem Cut.end {s : UInt8} {L : List UInt8} {D : List (List UInt8)} {b k : Nat} (h : Cut s L D b k) (hk : L.length ≤ k) : D ++ [L.drop b] = cutL s L := by
  have h1 := h.no
  rw [List.take_of_length_le (by rw [List.length_drop]; omega)] at h1
  rw [← h.all, cutL_one s _ h1]
end Go.Proofs.YtckcfjibiidafaaGreat
