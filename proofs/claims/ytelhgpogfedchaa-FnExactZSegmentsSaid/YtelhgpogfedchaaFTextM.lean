/- The text of a Field, as a list of bytes; how it is put together piece by piece. Lists alone. -/
import Derived.Test.YtelhgpogfedchaaFRightS
namespace Go.Proofs.Ytelhgpogfedchaa
open Go.RowKit

/-- What stands behind the first i: each with the mark ahead of it, but the very first. -/
def jnF {α : Type} (s : UInt8) (f : α → List UInt8) : Nat → List α → List UInt8
  | _, [] => []
  | i, x :: r => (if 0 < i then [s] else []) ++ f x ++ jnF s f (i + 1) r
def subT (m : ByteArray) (s : ByteArray) : List UInt8 := escL m s.data.toList
def compT (m : ByteArray) : List ByteArray → List UInt8 := jnF (bAt m 4) (subT m) 0
def repT (m : ByteArray) : List (List ByteArray) → List UInt8 := jnF (bAt m 1) (compT m) 0
def fldT (m : ByteArray) : List (List (List ByteArray)) → List UInt8 := jnF (bAt m 2) (repT m) 0

theorem jnF_step {α : Type} (s : UInt8) (f : α → List UInt8) (xs : List α) (k : Nat) (h : k < xs.length) : jnF s f k (xs.drop k) = (if 0 < k then [s] else []) ++ f xs[k] ++ jnF s f (k + 1) (xs.drop (k + 1)) := by
  rw [List.drop_eq_getElem_cons h, jnF]
theorem jnF_len {α : Type} (s : UInt8) (f : α → List UInt8) (N : Nat) : ∀ (i : Nat) (xs : List α), (∀ x ∈ xs, (f x).length ≤ N) → (jnF s f i xs).length ≤ xs.length * (N + 1)
  | _, [], _ => by simp [jnF]
  | i, x :: r, h => by
    have h1 := jnF_len s f N (i + 1) r (fun y hy => h y (List.mem_cons_of_mem _ hy))
    have h2 := h x (List.mem_cons_self ..)
    rw [jnF, List.length_append, List.length_append, List.length_cons, Nat.succ_mul]
    have h3 : (if 0 < i then [s] else []).length ≤ 1 := by split <;> simp
    omega
/-- D is what stands of the first k. -/
def Done {α : Type} (s : UInt8) (f : α → List UInt8) (xs : List α) (k : Nat) (D : List UInt8) : Prop := D ++ jnF s f k (xs.drop k) = jnF s f 0 xs
theorem Done.zero {α : Type} (s : UInt8) (f : α → List UInt8) (xs : List α) : Done s f xs 0 [] := by simp [Done]
theorem Done.first {α : Type} {s : UInt8} {f : α → List UInt8} {xs : List α} {D : List UInt8} (h : Done s f xs 0 D) (hk : 0 < xs.length) : Done s f xs 1 (D ++ f xs[0]) := by
  unfold Done at h ⊢
  rw [← h, jnF_step s f xs 0 hk]
  simp
theorem Done.first' {α : Type} {s : UInt8} {f : α → List UInt8} {xs : List α} {D : List UInt8} {k : Nat} (h : Done s f xs k D) (h0 : k = 0) (hk : k < xs.length) : Done s f xs (k + 1) (D ++ f xs[k]) := by
  subst h0
  exact h.first hk
theorem Done.next {α : Type} {s : UInt8} {f : α → List UInt8} {xs : List α} {D : List UInt8} {k : Nat} (h : Done s f xs k D) (h0 : 0 < k) (hk : k < xs.length) : Done s f xs (k + 1) (D ++ [s] ++ f xs[k]) := by
  unfold Done at h ⊢
  rw [← h, jnF_step s f xs k hk, if_pos h0]
  simp
theorem Done.all {α : Type} {s : UInt8} {f : α → List UInt8} {xs : List α} {D : List UInt8} {k : Nat} (h : Done s f xs k D) (hk : xs.length ≤ k) : D = jnF s f 0 xs := by
  unfold Done at h
  rw [List.drop_eq_nil_of_le hk] at h
  simpa [jnF] using h
theorem Done.len {α : Type} {s : UInt8} {f : α → List UInt8} {xs : List α} {D : List UInt8} {k : Nat} (h : Done s f xs k D) : D.length ≤ (jnF s f 0 xs).length := by
  unfold Done at h
  rw [← h, List.length_append]
  omega
theorem Done.room {α : Type} {s : UInt8} {f : α → List UInt8} {xs : List α} {D : List UInt8} {k : Nat} (h : Done s f xs k D) (hk : k < xs.length) : D.length + (if 0 < k then 1 else 0) + (f xs[k]).length ≤ (jnF s f 0 xs).length := by
  unfold Done at h
  rw [← h, jnF_step s f xs k hk]
  simp only [List.length_append]
  split <;> simp <;> omega

theorem right_mem {α : Type} {f emp : α → Bool} {most : Nat} {xs : List α} (h : rightB f emp most xs = true) : (∀ i (hi : i < xs.length), f xs[i] = true) ∧ xs.length ≤ most := by
  simp only [rightB, Bool.and_eq_true, decide_eq_true_eq] at h
  exact ⟨fun i hi => List.all_eq_true.1 h.1.1 _ (List.getElem_mem hi), h.1.2⟩
theorem subB_plain {s : ByteArray} (h : subB s = true) : plainB s = true ∧ s.size ≤ 60 := by
  simp only [subB, Bool.and_eq_true, decide_eq_true_eq] at h
  exact ⟨h.1, by omega⟩
theorem subT_len {m s : ByteArray} (h : subB s = true) : (subT m s).length ≤ 180 := by
  have h1 := escL_len m s.data.toList
  have h2 := (subB_plain h).2
  rw [bytes_len] at h1
  unfold subT
  omega
theorem compT_len {m : ByteArray} {x : List ByteArray} (h : compB x = true) : (compT m x).length ≤ 905 := by
  obtain ⟨h1, h2⟩ := right_mem h
  have := jnF_len (bAt m 4) (subT m) 180 0 x (fun y hy => by obtain ⟨i, hi, rfl⟩ := List.getElem_of_mem hy; exact subT_len (h1 i hi))
  have e : x.length * (180 + 1) ≤ 5 * 181 := Nat.mul_le_mul h2 (Nat.le_refl _)
  exact Nat.le_trans this e
theorem repT_len {m : ByteArray} {x : List (List ByteArray)} (h : repB x = true) : (repT m x).length ≤ 9060 := by
  obtain ⟨h1, h2⟩ := right_mem h
  have := jnF_len (bAt m 1) (compT m) 905 0 x (fun y hy => by obtain ⟨i, hi, rfl⟩ := List.getElem_of_mem hy; exact compT_len (h1 i hi))
  have e : x.length * (905 + 1) ≤ 10 * 906 := Nat.mul_le_mul h2 (Nat.le_refl _)
  exact Nat.le_trans this e
theorem fldT_len {m : ByteArray} {x : List (List (List ByteArray))} (h : fldB x = true) : (fldT m x).length ≤ 45305 := by
  obtain ⟨h1, h2⟩ := right_mem h
  have := jnF_len (bAt m 2) (repT m) 9060 0 x (fun y hy => by obtain ⟨i, hi, rfl⟩ := List.getElem_of_mem hy; exact repT_len (h1 i hi))
  have e : x.length * (9060 + 1) ≤ 5 * 9061 := Nat.mul_le_mul h2 (Nat.le_refl _)
  exact Nat.le_trans this e

/-- A list that lies ahead of block U. -/
def RU {α : Type} (U : Nat) (R : World → Value → α → Prop) (w : World) (v : Value) (xs : List α) : Prop :=
  ∃ p cap, v = .slice p xs.length cap ∧ xs.length ≤ cap ∧ cap ≤ maxLen ∧
    (0 < xs.length → ∃ g off, p = some ⟨g, off, none⟩ ∧ g < U ∧ ∀ i (h : i < xs.length), ∃ u, w.cell? ⟨g, off + i, none⟩ = some u ∧ R w u xs[i])
class Under {α : Type} (U : Nat) (R : World → Value → α → Prop) : Prop where
  go : ∀ {w w' : World} {v : Value} {x : α}, Below U w w' → R w v x → R w' v x
instance (U : Nat) : Under U RS := ⟨fun _ h => h⟩
instance {α : Type} (U : Nat) (R : World → Value → α → Prop) [Under U R] : Under U (RU U R) := ⟨fun {w w' v xs} hb h => by
  obtain ⟨p, cap, rfl, h1, h2, h4⟩ := h
  refine ⟨p, cap, rfl, h1, h2, fun h0 => ?_⟩
  obtain ⟨g, off, rfl, hg, hc⟩ := h4 h0
  refine ⟨g, off, rfl, hg, fun i hi => ?_⟩
  obtain ⟨u, hu, hR⟩ := hc i hi
  exact ⟨u, by rw [hb.cell (p := ⟨g, off + i, none⟩) hg]; exact hu, Under.go hb hR⟩⟩
instance {α : Type} (U : Nat) (R : World → Value → α → Prop) [Lasts 0 R] : Lasts 0 (RU U R) := ⟨fun {w w' v xs} hs h => by
  obtain ⟨p, cap, rfl, h1, h2, h4⟩ := h
  refine ⟨p, cap, rfl, h1, h2, fun h0 => ?_⟩
  obtain ⟨g, off, rfl, hg, hc⟩ := h4 h0
  refine ⟨g, off, rfl, hg, fun i hi => ?_⟩
  obtain ⟨u, hu, hR⟩ := hc i hi
  exact ⟨u, by rw [hs.cell (Nat.zero_le _) (World.block_lt_of_cell? w _ hu)]; exact hu, Lasts.go hs hR⟩⟩
theorem RU.isSlice {α : Type} {U : Nat} {R : World → Value → α → Prop} {w : World} {v : Value} {xs : List α} (h : RU U R w v xs) : ∃ p c, v = .slice p xs.length c := by
  obtain ⟨p, c, e, _⟩ := h
  exact ⟨p, c, e⟩
theorem RU.rl {α : Type} {U : Nat} {R : World → Value → α → Prop} {w : World} {v : Value} {xs : List α} (h : RU U R w v xs) : RL 0 R w v xs := by
  obtain ⟨p, cap, rfl, h1, h2, h4⟩ := h
  refine ⟨p, cap, rfl, h1, h2, fun h0 => ?_⟩
  obtain ⟨g, off, rfl, hg, hc⟩ := h4 h0
  refine ⟨g, off, rfl, ?_, Nat.zero_le _, hc⟩
  obtain ⟨u, hu, _⟩ := hc 0 h0
  exact World.block_lt_of_cell? w _ hu
theorem RL.ru {α : Type} {R R' : World → Value → α → Prop} {w : World} {v : Value} {xs : List α} (h : RL 0 R w v xs) (hR : ∀ u x, R w u x → R' w u x) : RU w.heap.size R' w v xs := by
  obtain ⟨p, cap, rfl, h1, h2, h4⟩ := h
  refine ⟨p, cap, rfl, h1, h2, fun h0 => ?_⟩
  obtain ⟨g, off, rfl, hg, _, hc⟩ := h4 h0
  exact ⟨g, off, rfl, hg, fun i hi => by obtain ⟨u, hu, hr⟩ := hc i hi; exact ⟨u, hu, hR _ _ hr⟩⟩
theorem RL.mapped {α : Type} {R R' : World → Value → α → Prop} {w : World} {v : Value} {xs : List α} (h : RL 0 R w v xs) (hR : ∀ u x, R w u x → R' w u x) : RL 0 R' w v xs := RL.mono h (Nat.le_refl _) hR
abbrev UComp (U : Nat) : World → Value → List ByteArray → Prop := RU U RS
abbrev URep (U : Nat) : World → Value → List (List ByteArray) → Prop := RU U (UComp U)
abbrev UFld (U : Nat) : World → Value → List (List (List ByteArray)) → Prop := RU U (URep U)
theorem fld_under {w : World} {v : Value} {x : List (List (List ByteArray))} (h : RFld 0 w v x) : UFld w.heap.size w v x := RL.ru h fun _ _ h => RL.ru h fun _ _ h => RL.ru h fun _ _ h => h
theorem RU.mono {α : Type} {U U' : Nat} {R R' : World → Value → α → Prop} {w : World} {v : Value} {xs : List α} (h : RU U R w v xs) (hU : U ≤ U') (hR : ∀ u x, R w u x → R' w u x) : RU U' R' w v xs := by
  obtain ⟨p, cap, rfl, h1, h2, h4⟩ := h
  refine ⟨p, cap, rfl, h1, h2, fun h0 => ?_⟩
  obtain ⟨g, off, rfl, hg, hc⟩ := h4 h0
  exact ⟨g, off, rfl, Nat.lt_of_lt_of_le hg hU, fun i hi => by obtain ⟨u, hu, hr⟩ := hc i hi; exact ⟨u, hu, hR _ _ hr⟩⟩
end Go.Proofs.Ytelhgpogfedchaa
