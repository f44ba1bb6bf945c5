/- The Rules of a version: lists. -/
import Derived.Test.YtbmhjniigohhbaaVRules
import Derived.Test.YtbmhjniigohhbaaVVer
namespace Go.Proofs.Ytbmhjniigohhbaa
open Go.RowKit
/-- The Rules that a version has. -/
def schL (n : Int) : List RuleM := rulesL.filter fun r => decide (r.since ≤ n)
def hasR (n : Int) (s : ByteArray) (r : RuleM) : Bool := (r.seg.toList == s.toList) && decide (r.since ≤ n)
def knownB (n : Int) (s : ByteArray) : Bool := verB n && rulesL.any (hasR n s)
def lastStep (s : ByteArray) (a : Int) (r : RuleM) : Int := if (r.seg.toList == s.toList) = true then (if a < r.fld then r.fld else a) else a
def lastL (s : ByteArray) (l : List RuleM) : Int := l.foldl (lastStep s) 0
theorem foldl_snoc {α β : Type} (f : α → β → α) (a : α) (l : List β) (k : Nat) (h : k < l.length) : (l.take (k + 1)).foldl f a = f ((l.take k).foldl f a) l[k] := by
  rw [List.take_succ_eq_append_getElem h, List.foldl_append]
  rfl
theorem lastL_snoc (s : ByteArray) (l : List RuleM) (k : Nat) (h : k < l.length) : lastL s (l.take (k + 1)) = lastStep s (lastL s (l.take k)) l[k] := foldl_snoc _ _ _ _ h
theorem last_mono (s : ByteArray) (l : List RuleM) : ∀ a : Int, 0 < a → 0 < l.foldl (lastStep s) a := by
  induction l with
  | nil => intro a h; exact h
  | cons r l ih =>
    intro a h
    refine ih _ ?_
    unfold lastStep
    split <;> (try split) <;> omega
theorem last_pos (s : ByteArray) (l : List RuleM) (hf : ∀ r ∈ l, 0 < r.fld) : decide (0 < l.foldl (lastStep s) 0) = l.any fun r => r.seg.toList == s.toList := by
  induction l with
  | nil => rfl
  | cons r l ih =>
    have h1 : 0 < r.fld := hf r (by simp)
    have h2 := ih fun x hx => hf x (by simp [hx])
    rw [List.foldl_cons, List.any_cons]
    by_cases h : (r.seg.toList == s.toList) = true
    · rw [h, Bool.true_or]
      have e : lastStep s 0 r = r.fld := by unfold lastStep; rw [if_pos h, if_pos h1]
      rw [e]
      exact decide_eq_true (last_mono s l _ (by omega))
    · have hb : (r.seg.toList == s.toList) = false := by simpa using h
      have e : lastStep s 0 r = 0 := by unfold lastStep; rw [if_neg h]
      rw [e, hb, Bool.false_or, h2]
theorem rulesL_fld : ∀ r ∈ rulesL, 0 < r.fld ∧ r.fld ≤ 30 ∧ 1 ≤ r.since ∧ r.since ≤ 3 := by decide
theorem schL_fld (n : Int) : ∀ r ∈ schL n, 0 < r.fld := fun r h => (rulesL_fld r (List.mem_filter.1 h).1).1
theorem known_eq (n : Int) (s : ByteArray) : decide (0 < lastL s (schL n)) = rulesL.any (hasR n s) := by
  unfold lastL
  rw [last_pos s _ (schL_fld n)]
  unfold schL hasR
  rw [List.any_filter]
  congr 1
  funext r
  exact Bool.and_comm _ _
theorem schL_snoc (n : Int) (k : Nat) (h : k < rulesL.length) : (rulesL.take (k + 1)).filter (fun r => decide (r.since ≤ n)) = (rulesL.take k).filter (fun r => decide (r.since ≤ n)) ++ (if rulesL[k].since ≤ n then [rulesL[k]] else []) := by
  rw [List.take_succ_eq_append_getElem h, List.filter_append]
  congr 1
  simp only [List.filter]
  split <;> simp_all
theorem any_snoc {α : Type} (f : α → Bool) (l : List α) (k : Nat) (h : k < l.length) : (l.take (k + 1)).any f = ((l.take k).any f || f l[k]) := by
  rw [List.take_succ_eq_append_getElem h, List.any_append]
  simp
theorem rulesL_all (k : Nat) (h : k < rulesL.length) : 0 < rulesL[k].fld ∧ rulesL[k].fld ≤ 30 ∧ 1 ≤ rulesL[k].since ∧ rulesL[k].since ≤ 3 := rulesL_fld _ (List.getElem_mem h)
theorem last_le (s : ByteArray) (l : List RuleM) (hf : ∀ r ∈ l, r.fld ≤ 30) : ∀ a : Int, 0 ≤ a → a ≤ 30 → 0 ≤ l.foldl (lastStep s) a ∧ l.foldl (lastStep s) a ≤ 30 := by
  induction l with
  | nil => intro a h0 h; exact ⟨h0, h⟩
  | cons r l ih =>
    intro a h0 h
    have h1 := hf r (by simp)
    refine ih (fun x hx => hf x (by simp [hx])) _ ?_ ?_ <;> (unfold lastStep; split <;> (try split) <;> omega)
theorem lastL_le (s : ByteArray) (l : List RuleM) (hf : ∀ r ∈ l, r.fld ≤ 30) : 0 ≤ lastL s l ∧ lastL s l ≤ 30 := last_le s l hf 0 (by omega) (by omega)

/-- The slice v reads as the Rules l. -/
def RRules (w : World) (v : Value) (l : List RuleM) : Prop :=
  ∃ p cap, v = .slice p l.length cap ∧ l.length ≤ cap ∧ cap ≤ maxLen ∧
    (0 < l.length → ∃ g, p = some ⟨g, 0, none⟩ ∧ g < w.heap.size ∧ ∀ k (h : k < l.length),
      w.cell? ⟨g, k * 6, none⟩ = some (.string l[k].seg) ∧ w.cell? ⟨g, k * 6 + 1, none⟩ = some (.int .i64 l[k].fld) ∧ w.cell? ⟨g, k * 6 + 2, none⟩ = some (.int .i64 l[k].ty) ∧ w.cell? ⟨g, k * 6 + 3, none⟩ = some (.bool l[k].must) ∧ w.cell? ⟨g, k * 6 + 4, none⟩ = some (.bool l[k].many) ∧ w.cell? ⟨g, k * 6 + 5, none⟩ = some (.int .i64 l[k].since))
theorem RRules.below {w w' : World} {v : Value} {l : List RuleM} {B : Nat} (h : RRules w v l) (hb : Below B w w') (hB : w.heap.size ≤ B) : RRules w' v l := by
  obtain ⟨p, cap, rfl, h1, h2, h4⟩ := h
  refine ⟨p, cap, rfl, h1, h2, fun h0 => ?_⟩
  obtain ⟨g, rfl, hg, hc⟩ := h4 h0
  refine ⟨g, rfl, Nat.lt_of_lt_of_le hg hb.size, fun i hi => ?_⟩
  have e : ∀ j, w'.cell? ⟨g, j, none⟩ = w.cell? ⟨g, j, none⟩ := fun j => hb.cell (p := ⟨g, j, none⟩) (Nat.lt_of_lt_of_le hg hB)
  simp only [e]
  exact hc i hi
theorem rules_of_own {w : World} {B : Nat} {T : TypeId} {v : Value} {l : List RuleM} (h : w.ownsRow B T 6 v l.length (rcs l))  : RRules w v l := by
  have hc := fun g p n (e : v = .slice (some ⟨g, 0, none⟩) p n) => World.ownsRow.cells (g := g) (e ▸ h) rfl
  rcases h.2 with ⟨rfl, hn⟩ | ⟨g, cap, cur, rfl, hbg, hg, hnc, hcm, hcs, htake⟩
  · exact ⟨none, 0, by rw [hn], by omega, by unfold maxLen; omega, fun h0 => by omega⟩
  · refine ⟨_, _, rfl, hnc, hcm, fun _ => ⟨g, rfl, ?_, fun k hk => ?_⟩⟩
    · rcases Nat.lt_or_ge g w.heap.size with h' | h'
      · exact h'
      · rw [Array.getElem?_eq_none h'] at hg; cases hg
    · have q := hc g _ _ rfl
      obtain ⟨p0, p1, p2, p3, p4, p5⟩ := rcs_get l k hk
      have ea : ∀ j, (⟨g, 0, none⟩ : Addr).add j = ⟨g, j, none⟩ := fun j => by unfold Addr.add; split <;> simp_all
      simp only [ea] at q
      exact ⟨q _ _ p0, q _ _ p1, q _ _ p2, q _ _ p3, q _ _ p4, q _ _ p5⟩
end Go.Proofs.Ytbmhjniigohhbaa
