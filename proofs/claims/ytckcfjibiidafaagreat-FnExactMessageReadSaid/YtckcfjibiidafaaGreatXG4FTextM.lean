/- The text of a Field, as a list of bytes; how it is put together piece by piece. Lists alone. -/
import Derived.Test.YtckcfjibiidafaaGreatXG3FText
import Derived.Test.YtckcfjibiidafaaGreatXG2FBuf
namespace Go.Proofs.YtckcfjibiidafaaGreat
open Go.RowKit

/-- What stands behind the first i: each with the mark ahead of it, but the very first. -/
def jnF {α : Type} (s : UInt8) (f : α → List UInt8) : Nat → List α → List UInt8
  | _, [] => []
  | i, x :: r => (if 0 < i then [s] else []) ++ f x ++ jnF s f (i + 1) r
def subT (m : ByteArray) (s : ByteArray) : List UInt8 := escL m s.data.toList
def compT (m : ByteArray) : List ByteArray → List UInt8 := jnF (bAt m 4) (subT m) 0
def repT (m : ByteArray) : List (List ByteArray) → List UInt8 := jnF (bAt m 1) (compT m) 0
def fldT (m : ByteArray) : List (List (List ByteArray)) → List UInt8 := jnF (bAt m 2) (repT m) 0

theorem jnF_step {α : Type} (s : UInt8) (f : α → List UInt8) (xs : List α) (k : Nat) (h : k < xs.length) : jnF s f k (xs.drop k) = (if 0 < k then [s] else []) ++ f xs[k] ++ jnF s f (k + 1) (xs.drop (k + 1)) := by
  rw [List.drop_eq_getElem_cons h, jnF]
theorem jnF_len {α : Type} (s : UInt8) (f : α → List UInt8) (N : Nat) : ∀ (i : Nat) (xs : List α), (∀ x ∈ xs, (f x).length ≤ N) → (jnF s f i xs).length ≤ xs.length * (N + 1)
  | _, [], _ => by simp [jnF]
  | i, x :: r, h => by
    have h1 := jnF_len s f N (i + 1) r (fun y hy => h y (List.mem_cons_of_mem _ hy))
    have h2 := h x (List.mem_cons_self ..)
    rw [jnF, List.length_append, List.length_append, List.length_cons, Nat.succ_mul]
    have h3 : (if 0 < i then [s] else []).length ≤ 1 := by split <;> simp
    omega
/-- D is what stands of the first k. -/
def Done {α : Type} (s : UInt8) (f : α → List UInt8) (xs : List α) (k : Nat) (D : List UInt8) : Prop := D ++ jnF s f k (xs.drop k) = jnF s f 0 xs
theorem Done.zero {α : Type} (s : UInt8) (f : α → List UInt8) (xs : List α) : Done s f xs 0 [] := by simp [Done]
theorem Done.first {α : Type} {s : UInt8} {f : α → List UInt8} {xs : List α} {D : List UInt8} (h : Done s f xs 0 D) (hk : 0 < xs.length) : Done s f xs 1 (D ++ f xs[0]) := by
  unfold Done at h ⊢
  rw [← h, jnF_step s f xs 0 hk]
  simp
theorem Done.first' {α : Type} {s : UInt8} {f : α → List UInt8} {xs : List α} {D : List UInt8} {k : Nat} (h : Done s f xs k D) (h0 : k = 0) (hk : k < xs.length) : Done s f xs (k + 1) (D ++ f xs[k]) := by
  subst h0
  exact h.first hk
theorem Done.next {α : Type} {s : UInt8} {f : α → List UInt8} {xs : List α} {D : List UInt8} {k : Nat} (h : Done s f xs k D) (h0 : 0 < k) (hk : k < xs.length) : Done s f xs (k + 1) (D ++ [s] ++ f xs[k]) := by
  unfold Done at h ⊢
  rw [← h, jnF_step s f xs k hk, if_pos h0]
  simp
theorem Done.all {α : Type} {s : UInt8} {f : α → List UInt8} {xs : List α} {D : List UInt8} {k : Nat} (h : Done s f xs k D) (hk : xs.length ≤ k) : D = jnF s f 0 xs := by
  unfold Done at h
  rw [List.drop_eq_nil_of_le hk] at h
  simpa [jnF] using h
theorem Done.len {α : Type} {s : UInt8} {f : α → List UInt8} {xs : List α} {D : List UInt8} {k : Nat} (h : Done s f xs k D) : D.length ≤ (jnF s f 0 xs).length := by
  unfold Done at h
  rw [← h, List.length_append]
  omega
theorem Done.room {α : Type} {s : UInt8} {f : α → List UInt8} {xs : List α} {D : List UInt8} {k : Nat} (h : Done s f xs k D) (hk : k < xs.length) : D.length + (if 0 < k then 1 else 0) + (f xs[k]).length ≤ (jnF s f 0 xs).length := by
  unfold Done at h
  rw [← h, jnF_step s f xs k hk]
  simp only [List.length_append]
  split <;> simp <;> omega

theorem right_mem {α : Type} {f emp : α → Bool} {most : Nat} {xs : List α} (h : rightB f emp most xs = true) : (∀ i (hi : i < xs.length), f xs[i] = true) ∧ xs.length ≤ most := by
  simp only [rightB, Bool.and_eq_true, decide_eq_true_eq] at h
  exact ⟨fun i hi => List.all_eq_true.1 h.1.1 _ (List.getElem_mem hi), h.1.2⟩
theorem subB_plain {s : ByteArray} (h : subB s = true) : plainB s = true ∧ s.size ≤ 60 := by
  simp only [subB, Bool.and_eq_true, decide_eq_true_eq] at h
  exact ⟨h.1, by omega⟩
theorem subT_len {m s : ByteArray} (h : subB s = true) : (subT m s).length ≤ 180 := by
  have h1 := escL_len m s.data.toList
  have h2 := (subB_plain h).2
  rw [bytes_len] at h1
  unfold subT
  omega
theorem compT_len {m : ByteArray} {x : List ByteArray} (h : compB x = true) : (compT m x).length ≤ 905 := by
  obtain ⟨h1, h2⟩ := right_mem h
  have := jnF_len (bAt m 4) (subT m) 180 0 x (fun y hy => by obtain ⟨i, hi, rfl⟩ := List.getElem_of_mem hy; exact subT_len (h1 i hi))
  have e : x.length * (180 + 1) ≤ 5 * 181 := Nat.mul_le_mul h2 (Nat.le_refl _)
  exact Nat.le_trans this e
theorem repT_len {m : ByteArray} {x : List (List ByteArray)} (h : repB x = true) : (repT m x).length ≤ 9060 := by
  obtain ⟨h1, h2⟩ := right_mem h
  have := jnF_len (bAt m 1) (compT m) 905 0 x (fun y hy => by obtain ⟨i, hi, rfl⟩ := List.getElem_of_mem hy; exact compT_len (h1 i hi))
  have e : x.length * (905 + 1) ≤ 10 * 906 := Nat.mul_le_mul h2 (Nat.le_refl _)
  exact Nat.le_trans this e
theorem fldT_len {m : ByteArray} {x : List (List (List ByteArray))} (h : fldB x = true) : (fldT m x).length ≤ 45305 := by
  obtain ⟨h1, h2⟩ := right_mem h
  have := jnF_len (bAt m 2) (repT m) 9060 0 x (fun y hy => by obtain ⟨i, hi, rfl⟩ := List.getElem_of_mem hy; exact repT_len (h1 i hi))
  have e : x.length * (9060 + 1) ≤ 5 * 9061 := Nat.mul_le_mul h2 (Nat.le_refl _)
  exact Nat.le_trans this e

/-- A list that lies ahead of block U. -/
def RU {α : Type} (U : Nat) (R : World → Value → α → Prop) (w : World) (v : Value) (xs : List α) : Prop :=
  ∃ p cap, v = .slice p xs.length cap ∧ xs.length ≤ cap ∧ cap ≤ maxLen ∧
    (0 < xs.length → ∃ g off, p = some ⟨g, off, none⟩ ∧ g < U ∧ ∀ i (h : i < xs.length), ∃ u, w.cell? ⟨g, off + i, none⟩ = some u ∧ R w u xs[i])
class Under {α : Type} (U : Nat) (R : World → Value → α → Prop) : Prop where
  go : ∀ {w w' : World} {v : Value} {x : α}, Below U w w' → R w v x → R w' v x
instance (U : Nat) : Under U RS := ⟨fun _ h => h⟩
instance {α : Type} (U : Nat) (R : World → Value → α → Prop) [Under U R] : Under U (RU U R) := ⟨fun {w w' v xs} hb h => by
  obtain ⟨p, cap, rfl, h1, h2, h4⟩ := h
  refine ⟨p, cap, rfl, h1, h2, fun h0 => ?_⟩
  obtain ⟨g, off, rfl, hg, hc⟩ := h4 h0
  refine ⟨g, off, rfl, hg, fun i hi => ?_⟩
  obtain ⟨u, hu, hR⟩ := hc i hi
  exact ⟨u, by rw [hb.cell (p := ⟨g, off + i, none⟩) hg]; exact hu, Under.go hb hR⟩⟩
instance {α : Type} (U : Nat) (R : World → Value → α → Prop) [Lasts 0 R] : Lasts 0 (RU U R) := ⟨fun {w w' v xs} hs h => by
  obtain ⟨p, cap, rfl, h1, h2, h4⟩ := h
  refine ⟨p, cap, rfl, h1, h2, fun h0 => ?_⟩
  obtain ⟨g, off, rfl, hg, hc⟩ := h4 h0
  refine ⟨g, off, rfl, hg, fun i hi => ?_⟩
  obtain ⟨u, hu, hR⟩ := hc i hi
  exact ⟨u, by rw [hs.cell (Nat.zero_le _) (World.block_lt_of_cell? w _ hu)]; exact hu, Lasts.go hs hR⟩⟩
theorem RU.isSlice {α : Type} {U : Nat} {R : World → Value → α → Prop} {w : World} {v : Value} {xs : List α} (h : RU U R w v xs) : ∃ p c, v = .slice p xs.length c := by
  obtain ⟨p, c, e, _⟩ := h
  exact ⟨p, c, e⟩
theorem RU.rl {α : Type} {U : Nat} {R : World → Value → α → Prop} {w : World} {v : Value} {xs : List α} (h : RU U R w v xs) : RL 0 R w v xs := by
  obtain ⟨p, cap, rfl, h1, h2, h4⟩ := h
  refine ⟨p, cap, rfl, h1, h2, fun h0 => ?_⟩
  obtain ⟨g, off, rfl, hg, hc⟩ := h4 h0
  refine ⟨g, off, rfl, ?_, Nat.zero_le _, hc⟩
  obtain ⟨u, hu, _⟩ := hc 0 h0
  exact World.block_lt_of_cell? w _ hu
theorem RL.ru {α : Type} {R R' : World → Value → α → Prop} {w : World} {v : Value} {xs : List α} (h : RL 0 R w v xs) (hR : ∀ u x, R w u x → R' w u x) : RU w.heap.size R' w v xs := by
  obtain ⟨p, cap, rfl, h1, h2, h4⟩ := h
  refine ⟨p, cap, rfl, h1, h2, fun h0 => ?_⟩
  obtain ⟨g, off, rfl, hg, _, hc⟩ := h4 h0
  exact ⟨g, off, rfl, hg, fun i hi => by obtain ⟨u, hu, hr⟩ := hc i hi; exact ⟨u, hu, hR _ _ hr⟩⟩
theorem RL.mapped {α : Type} {R R' : World → Value → α → Prop} {w : World} {v : Value} {xs : List α} (h : RL 0 R w v xs) (hR : ∀ u x, R w u x → R' w u x) : RL 0 R' w v xs := RL.mono h (Nat.le_refl _) hR
abbrev UComp (U : Nat) : World → Value → List ByteArray → Prop := RU U RS
abbrev URep (U : Nat) : World → Value → List (List ByteArray) → Prop := RU U (UComp U)
abbrev UFld (U : Nat) : World → Value → List (List (List ByteArray)) → Prop := RU U (URep U)
theorem fld_under {w : World} {v : Value} {x : List (List (List ByteArray))} (h : RFld 0 w v x) : UFld w.heap.size w v x := RL.ru h fun _ _ h => RL.ru h fun _ _ h => RL.ru h fun _ _ h => h
theorem RU.mono {α : Type} {U U' : Nat} {R R' : World → Value → α → Prop} {w : World} {v : Value} {xs : List α} (h : RU U R w v xs) (hU : U ≤ U') (hR : ∀ u x, R w u x → R' w u x) : RU U' R' w v xs := by
  obtain ⟨p, cap, rfl, h1, h2, h4⟩ := h
  refine ⟨p, cap, rfl, h1, h2, fun h0 => ?_⟩
  obtain ⟨g, off, rfl, hg, hc⟩ := h4 h0
  exact ⟨g, off, rfl, Nat.lt_of_lt_of_le hg hU, fun i hi => by obtain ⟨u, hu, hr⟩ := hc i hi; exact ⟨u, hu, hR _ _ hr⟩⟩
end Go.Proofs.YtckcfjibiidafaaGreat
/- What a text stands for, by right marks: how the model turns it back, and how the program reads it; both come to the same. Lists alone. -/
namespace Go.Proofs.YtckcfjibiidafaaGreat
open Go.RowKit

def lidx (b : UInt8) : Int := Lib.indexByte letters b
/-- The byte that an escaped one, at the list's beginning, stands for (the program's reading). -/
def escAt (m : ByteArray) : List UInt8 → Option UInt8
  | a :: b :: c :: _ => if a = bAt m 3 ∧ c = bAt m 3 ∧ 0 ≤ lidx b then some (bAt m (lidx b).toNat) else none
  | _ => none
/-- The model's reading: the third byte is not looked at. -/
def escAtS (m : ByteArray) : List UInt8 → Option UInt8
  | a :: b :: _ :: _ => if a = bAt m 3 ∧ 0 ≤ lidx b then some (bAt m (lidx b).toNat) else none
  | _ => none
def okSelf (m : ByteArray) (a : UInt8) : Bool := plainR (a.toNat : Int) && decide (Lib.indexByte m.data.toList a < 0)
def plainL (m : ByteArray) (l : List UInt8) : Option (List UInt8) :=
  match l with
  | [] => some []
  | a :: r =>
    match escAt m (a :: r) with
    | some x => (plainL m (r.drop 2)).map (x :: ·)
    | none => if okSelf m a then (plainL m r).map (a :: ·) else none
termination_by l.length
decreasing_by all_goals simp_wf; try omega
def unescL (m : ByteArray) (l : List UInt8) : List UInt8 :=
  match l with
  | [] => []
  | a :: r =>
    match escAtS m (a :: r) with
    | some x => x :: unescL m (r.drop 2)
    | none => a :: unescL m r
termination_by l.length
decreasing_by all_goals simp_wf; try omega

theorem plainL_nil (m : ByteArray) : plainL m [] = some [] := by rw [plainL.eq_def]
theorem plainL_esc {m : ByteArray} {a : UInt8} {r : List UInt8} {x : UInt8} (h : escAt m (a :: r) = some x) : plainL m (a :: r) = (plainL m (r.drop 2)).map (x :: ·) := by rw [plainL.eq_def]; simp only [h]
theorem plainL_self {m : ByteArray} {a : UInt8} {r : List UInt8} (h : escAt m (a :: r) = none) (h2 : okSelf m a = true) : plainL m (a :: r) = (plainL m r).map (a :: ·) := by rw [plainL.eq_def]; simp only [h, h2, if_true]
theorem plainL_no {m : ByteArray} {a : UInt8} {r : List UInt8} (h : escAt m (a :: r) = none) (h2 : okSelf m a = false) : plainL m (a :: r) = none := by rw [plainL.eq_def]; simp only [h, h2, Bool.false_eq_true, if_false]
theorem unescL_nil (m : ByteArray) : unescL m [] = [] := by rw [unescL.eq_def]
theorem unescL_esc {m : ByteArray} {a : UInt8} {r : List UInt8} {x : UInt8} (h : escAtS m (a :: r) = some x) : unescL m (a :: r) = x :: unescL m (r.drop 2) := by rw [unescL.eq_def]; simp only [h]
theorem unescL_self {m : ByteArray} {a : UInt8} {r : List UInt8} (h : escAtS m (a :: r) = none) : unescL m (a :: r) = a :: unescL m r := by rw [unescL.eq_def]; simp only [h]

theorem markAt_of {m : ByteArray} (h : marksB m = true) (j : Nat) (hj : j < m.size) : markR ((m[j]'hj).toNat : Int) = true ∧ Lib.indexByte m.data.toList (m[j]'hj) = (j : Int) := by
  simp only [marksB, Bool.and_eq_true] at h
  have := List.all_eq_true.1 h.2 j (List.mem_range.2 hj)
  rw [markAt_eq m j hj] at this
  simpa using this
theorem indexByte_get : ∀ (l : List UInt8) (c : UInt8) (q : Nat), Lib.indexByte l c = (q : Int) → l.getD q 0 = c
  | [], _, q, h => by simp [Lib.indexByte] at h
  | b :: l, c, q, h => by
    unfold Lib.indexByte at h
    by_cases e : b = c
    · simp [e] at h
      have : q = 0 := by omega
      subst this
      simpa using e
    · have e' : (b == c) = false := by simpa using e
      rw [e'] at h
      simp only [Bool.false_eq_true, if_false] at h
      by_cases e2 : Lib.indexByte l c = -1
      · simp [e2] at h
      · have e3 : (Lib.indexByte l c == -1) = false := by simpa using e2
        rw [e3] at h
        simp only [Bool.false_eq_true, if_false] at h
        have g := Lib.indexByte_ge l c
        obtain ⟨p, hp⟩ : ∃ p : Nat, q = p + 1 := ⟨q - 1, by omega⟩
        subst hp
        have := indexByte_get l c p (by omega)
        simpa using this
theorem lidx_letter (q : Nat) (h : q < 5) : lidx (letters.getD q 0) = (q : Int) := by
  match q, h with
  | 0, _ => rfl
  | 1, _ => rfl
  | 2, _ => rfl
  | 3, _ => rfl
  | 4, _ => rfl
theorem lidx_lt (b : UInt8) : lidx b < 5 := by
  have := indexByte_lt letters b
  simpa [lidx, letters] using this

/-- A byte that is a mark, of right marks: the place where it stands. -/
theorem mark_get {m : ByteArray} (h : marksB m = true) (c : UInt8) (hc : 0 ≤ Lib.indexByte m.data.toList c) : ∃ q : Nat, Lib.indexByte m.data.toList c = q ∧ q < 5 ∧ bAt m q = c := by
  obtain ⟨q, hq⟩ : ∃ q : Nat, Lib.indexByte m.data.toList c = q := ⟨_, (Int.toNat_of_nonneg hc).symm⟩
  refine ⟨q, hq, ?_, indexByte_get _ _ _ hq⟩
  have := indexByte_lt m.data.toList c
  rw [bytes_len] at this
  have h5 : m.size = 5 := by simp [marksB] at h; exact h.1
  omega
theorem idx_mark {m : ByteArray} (h : marksB m = true) (q : Nat) (hq : q < 5) : Lib.indexByte m.data.toList (bAt m q) = (q : Int) := by
  have h5 : m.size = 5 := by simp [marksB] at h; exact h.1
  rw [bAt_get m q (by omega)]
  exact (markAt_of h q (by omega)).2
theorem mark_plain {m : ByteArray} (h : marksB m = true) (q : Nat) (hq : q < 5) : plainR ((bAt m q).toNat : Int) = true := by
  have h5 : m.size = 5 := by simp [marksB] at h; exact h.1
  rw [bAt_get m q (by omega)]
  have := markR_low _ (markAt_of h q (by omega)).1
  simp [plainR]
  omega

theorem unesc_esc {m : ByteArray} (h : marksB m = true) : ∀ u : List UInt8, unescL m (escL m u) = u
  | [] => by simp [escL, unescL_nil]
  | c :: u => by
    have ih := unesc_esc h u
    have e1 : escL m (c :: u) = escOne m c ++ escL m u := by simp [escL]
    rw [e1]
    by_cases hc : 0 ≤ Lib.indexByte m.data.toList c
    · obtain ⟨q, hq, hq5, hb⟩ := mark_get h c hc
      have e2 : escOne m c = [bAt m 3, letters.getD q 0, bAt m 3] := by unfold escOne; rw [if_pos hc, hq]; rfl
      have e4 : escAtS m (bAt m 3 :: letters.getD q 0 :: bAt m 3 :: escL m u) = some c := by
        show (if bAt m 3 = bAt m 3 ∧ 0 ≤ lidx (letters.getD q 0) then some (bAt m (lidx (letters.getD q 0)).toNat) else none) = some c
        rw [if_pos ⟨rfl, by rw [lidx_letter q hq5]; omega⟩, lidx_letter q hq5, Int.toNat_natCast, hb]
      rw [e2]
      show unescL m (bAt m 3 :: letters.getD q 0 :: bAt m 3 :: escL m u) = _
      rw [unescL_esc e4]
      simpa using ih
    · have e2 : escOne m c = [c] := by unfold escOne; rw [if_neg hc]
      have hne : c ≠ bAt m 3 := fun e => hc (by rw [e, idx_mark h 3 (by omega)]; omega)
      have : escAtS m (c :: escL m u) = none := by
        unfold escAtS
        split
        · rename_i a b d r e3
          simp only [List.cons.injEq] at e3
          rw [if_neg (fun hh => hne (by rw [e3.1]; exact hh.1))]
        · rfl
      rw [e2, List.cons_append, List.nil_append, unescL_self this, ih]

theorem plain_esc {m : ByteArray} (h : marksB m = true) : ∀ u : List UInt8, (∀ c ∈ u, plainR (c.toNat : Int) = true) → plainL m (escL m u) = some u
  | [], _ => by simp [escL, plainL_nil]
  | c :: u, hp => by
    have ih := plain_esc h u (fun x hx => hp x (List.mem_cons_of_mem _ hx))
    have e1 : escL m (c :: u) = escOne m c ++ escL m u := by simp [escL]
    rw [e1]
    by_cases hc : 0 ≤ Lib.indexByte m.data.toList c
    · obtain ⟨q, hq, hq5, hb⟩ := mark_get h c hc
      have e2 : escOne m c = [bAt m 3, letters.getD q 0, bAt m 3] := by unfold escOne; rw [if_pos hc, hq]; rfl
      have e4 : escAt m (bAt m 3 :: letters.getD q 0 :: bAt m 3 :: escL m u) = some c := by
        show (if bAt m 3 = bAt m 3 ∧ bAt m 3 = bAt m 3 ∧ 0 ≤ lidx (letters.getD q 0) then some (bAt m (lidx (letters.getD q 0)).toNat) else none) = some c
        rw [if_pos ⟨rfl, rfl, by rw [lidx_letter q hq5]; omega⟩, lidx_letter q hq5, Int.toNat_natCast, hb]
      rw [e2]
      show plainL m (bAt m 3 :: letters.getD q 0 :: bAt m 3 :: escL m u) = _
      rw [plainL_esc e4]
      simp [ih]
    · have e2 : escOne m c = [c] := by unfold escOne; rw [if_neg hc]
      have hne : c ≠ bAt m 3 := fun e => hc (by rw [e, idx_mark h 3 (by omega)]; omega)
      have hok : okSelf m c = true := by
        simp only [okSelf, hp c (List.mem_cons_self ..), Bool.true_and, decide_eq_true_eq]
        omega
      have : escAt m (c :: escL m u) = none := by
        unfold escAt
        split
        · rename_i a b d r e3
          simp only [List.cons.injEq] at e3
          rw [if_neg (fun hh => hne (by rw [e3.1]; exact hh.1))]
        · rfl
      rw [e2, List.cons_append, List.nil_append, plainL_self this hok, ih]
      rfl

theorem esc_plain {m : ByteArray} (h : marksB m = true) : ∀ (n : Nat) (l u : List UInt8), l.length ≤ n → plainL m l = some u → escL m u = l ∧ ∀ c ∈ u, plainR (c.toNat : Int) = true
  | _, [], u, _, hu => by
    rw [plainL_nil] at hu
    simp at hu
    subst hu
    simp [escL]
  | 0, a :: r, u, hn, _ => by simp at hn
  | n + 1, a :: r, u, hn, hu => by
    cases he : escAt m (a :: r) with
    | some x =>
      rw [plainL_esc he] at hu
      simp only [Option.map_eq_some_iff] at hu
      obtain ⟨u', hu', rfl⟩ := hu
      match r, he with
      | b :: c :: r', he =>
        simp only [escAt] at he
        split at he
        · rename_i hh
          obtain ⟨h1, h2, h3⟩ := hh
          have hl := lidx_lt b
          obtain ⟨q, hq⟩ : ∃ q : Nat, lidx b = q := ⟨_, (Int.toNat_of_nonneg h3).symm⟩
          rw [hq] at he
          simp at he
          have hq5 : q < 5 := by omega
          have ih := esc_plain h n r' u' (by simp at hn; omega) (by simpa using hu')
          refine ⟨?_, ?_⟩
          · have e1 : escL m (x :: u') = escOne m x ++ escL m u' := by simp [escL]
            rw [e1, ih.1, ← he]
            unfold escOne
            rw [idx_mark h q hq5, if_pos (by omega), h1, h2]
            have e5 : letters.getD q 0 = b := indexByte_get letters b q hq
            rw [Int.toNat_natCast, e5]
            rfl
          · intro c hc
            rcases List.mem_cons.1 hc with rfl | hc
            · rw [← he]; exact mark_plain h q hq5
            · exact ih.2 c hc
        · cases he
      | [b], he => simp [escAt] at he
      | [], he => simp [escAt] at he
    | none =>
      cases hok : okSelf m a
      · rw [plainL_no he hok] at hu
        cases hu
      · rw [plainL_self he hok] at hu
        simp only [Option.map_eq_some_iff] at hu
        obtain ⟨u', hu', rfl⟩ := hu
        have ih := esc_plain h n r u' (by simp at hn; omega) hu'
        simp only [okSelf, Bool.and_eq_true, decide_eq_true_eq] at hok
        refine ⟨?_, ?_⟩
        · have e1 : escL m (a :: u') = escOne m a ++ escL m u' := by simp [escL]
          rw [e1, ih.1]
          unfold escOne
          rw [if_neg (by omega)]
          rfl
        · intro c hc
          rcases List.mem_cons.1 hc with rfl | hc
          · exact hok.1
          · exact ih.2 c hc

theorem plain_iff {m : ByteArray} (h : marksB m = true) (l u : List UInt8) : plainL m l = some u ↔ (unescL m l = u ∧ (∀ c ∈ u, plainR (c.toNat : Int) = true) ∧ escL m u = l) := by
  constructor
  · intro hu
    have := esc_plain h l.length l u (Nat.le_refl _) hu
    exact ⟨by rw [← this.1]; exact unesc_esc h u, this.2, this.1⟩
  · rintro ⟨_, h2, h3⟩
    rw [← h3]
    exact plain_esc h u h2
end Go.Proofs.YtckcfjibiidafaaGreat
