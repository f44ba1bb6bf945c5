/- What is looked for ahead of reading; FieldRead of the program. -/
import Derived.Test.YtckcfjibiidafaaGreatXG26FPartR
import Derived.Test.YtckcfjibiidafaaGreatXG7FSplit
import Derived.Test.YtckcfjibiidafaaGreatXG8FCut
namespace Go.Proofs.YtckcfjibiidafaaGreat
open Go.RowKit
def readC (m t : ByteArray) : Int := if 8000 < m.size ∨ 8000 < t.size then 2 else if marksB m then 0 else 1
theorem readC_long {m t : ByteArray} (h : 8000 < m.size ∨ 8000 < t.size) : readC m t = 2 := if_pos h
theorem readC_ok {m t : ByteArray} (h1 : ¬ 8000 < m.size) (h2 : ¬ 8000 < t.size) (h : marksB m = true) : readC m t = 0 := by unfold readC; rw [if_neg (by omega), if_pos h]
theorem readC_no {m t : ByteArray} (h1 : ¬ 8000 < m.size) (h2 : ¬ 8000 < t.size) (h : marksB m = false) : readC m t = 1 := by unfold readC; rw [if_neg (by omega), if_neg (by simp [h])]
/-- Code and Field of what FieldRead answers. -/
def fldOut (m t : ByteArray) : Int × List (List (List ByteArray)) := if readC m t = 0 then (match fldQ m t.data.toList with | some f => (0, f) | none => (3, [])) else (readC m t, [])
end Go.Proofs.YtckcfjibiidafaaGreat
/- What the model's reading of a Field rests on: lists that a call puts together in rows of its own (their parts apart), and cuts off at their ends. -/
namespace Go.Proofs.YtckcfjibiidafaaGreat
open Go.RowKit
theorem trimR_snoc {α : Type} (emp : α → Bool) (x : α) : ∀ ys : List α, trimR emp (ys ++ [x]) = if emp x then trimR emp ys else ys ++ [x]
  | [] => by by_cases h : emp x <;> simp [trimR, h]
  | y :: r => by
    have ih := trimR_snoc emp x r
    rw [List.cons_append, trimR, ih]
    by_cases h : emp x
    · rw [if_pos h, if_pos h, trimR]
    · rw [if_neg h, if_neg h]
      cases r with
      | nil => rfl
      | cons z t => rfl
theorem trimR_take {α : Type} {emp : α → Bool} {xs : List α} {k : Nat} (h : k < xs.length) (he : emp xs[k] = true) : trimR emp (xs.take (k + 1)) = trimR emp (xs.take k) := by
  rw [List.take_succ_eq_append_getElem h, trimR_snoc, if_pos he]
theorem trimR_stop {α : Type} {emp : α → Bool} {xs : List α} {k : Nat} (h : k < xs.length) (he : emp xs[k] = false) : trimR emp (xs.take (k + 1)) = xs.take (k + 1) := by
  rw [List.take_succ_eq_append_getElem h, trimR_snoc, if_neg (by simp [he])]
theorem unescL_len (m : ByteArray) : ∀ (n : Nat) (l : List UInt8), l.length ≤ n → (unescL m l).length ≤ l.length
  | _, [], _ => by rw [unescL_nil]; exact Nat.le_refl _
  | 0, a :: r, h => by simp at h
  | n + 1, a :: r, h => by
    have hr : r.length ≤ n := by simpa using h
    cases he : escAtS m (a :: r) with
    | none =>
      rw [unescL_self he]
      have := unescL_len m n r hr
      simp only [List.length_cons]; omega
    | some x =>
      rw [unescL_esc he]
      have := unescL_len m n (r.drop 2) (by rw [List.length_drop]; omega)
      rw [List.length_drop] at this
      simp only [List.length_cons]; omega
def lenAt (w : World) (g : Nat) : Nat := match w.cell? ⟨g, 0, none⟩ with | some (.slice _ n _) => n | _ => 0
theorem lenAt_of {w : World} {g n c : Nat} {p : Option Addr} (h : w.cell? ⟨g, 0, none⟩ = some (.slice p n c)) : lenAt w g = n := by unfold lenAt; rw [h]
theorem subM_size (m : ByteArray) (p : List UInt8) : (subM m p).size ≤ p.length := by
  have := unescL_len m p.length p (Nat.le_refl _)
  unfold subM ByteArray.size
  simpa using this
/-- As OL, but for the order of the parts. -/
def QL {α : Type} (T : TypeId) (R : Nat → Nat → World → Value → α → Prop) (lo hi : Nat) (w : World) (v : Value) (xs : List α) : Prop :=
  ∃ p cap, v = .slice p xs.length cap ∧ xs.length ≤ cap ∧ cap ≤ maxLen ∧
    (0 < xs.length → ∃ (g : Nat) (vs rest : List Value) (A B : Nat → Nat), p = some ⟨g, 0, none⟩ ∧ lo ≤ g ∧ g < hi ∧ Row w g T (vs ++ rest) ∧ vs.length = xs.length ∧
      (∀ i (h1 : i < vs.length) (h2 : i < xs.length), lo ≤ A i ∧ B i ≤ hi ∧ (B i ≤ g ∨ g < A i) ∧ R (A i) (B i) w vs[i] xs[i]))
instance {α : Type} (T : TypeId) (R : Nat → Nat → World → Value → α → Prop) [Keeps R] : Keeps (QL T R) := ⟨fun {lo hi w w' v x} hs h => by
    obtain ⟨p, cap, rfl, h1, h2, h4⟩ := h
    refine ⟨p, cap, rfl, h1, h2, fun h0 => ?_⟩
    obtain ⟨g, vs, rest, A, B, rfl, a, b, hr, hl, hE⟩ := h4 h0
    refine ⟨g, vs, rest, A, B, rfl, a, b, hs.row hr a b, hl, fun i k1 k2 => ?_⟩
    obtain ⟨e1, e2, e3, e4⟩ := hE i k1 k2
    exact ⟨e1, e2, e3, Keeps.go (hs.mono e1 e2) e4⟩,
  fun {lo hi lo' hi' w v x} hl hh h => by
    obtain ⟨p, cap, rfl, h1, h2, h4⟩ := h
    refine ⟨p, cap, rfl, h1, h2, fun h0 => ?_⟩
    obtain ⟨g, vs, rest, A, B, rfl, a, b, hr, hln, hE⟩ := h4 h0
    refine ⟨g, vs, rest, A, B, rfl, by omega, by omega, hr, hln, fun i k1 k2 => ?_⟩
    obtain ⟨e1, e2, e3, e4⟩ := hE i k1 k2
    exact ⟨by omega, by omega, e3, e4⟩⟩
theorem QL.isSlice {α : Type} {T : TypeId} {R : Nat → Nat → World → Value → α → Prop} {lo hi : Nat} {w : World} {v : Value} {xs : List α} (h : QL T R lo hi w v xs) : ∃ p c, v = .slice p xs.length c := by
  obtain ⟨p, c, e, _⟩ := h
  exact ⟨p, c, e⟩
theorem QL.rl {α : Type} {T : TypeId} {R : Nat → Nat → World → Value → α → Prop} {R' : World → Value → α → Prop} {lo hi : Nat} {w : World} {v : Value} {xs : List α} (h : QL T R lo hi w v xs) (hR : ∀ a b u x, lo ≤ a → R a b w u x → R' w u x) : RL lo R' w v xs := by
  obtain ⟨p, cap, rfl, h1, h2, h4⟩ := h
  refine ⟨p, cap, rfl, h1, h2, fun h0 => ?_⟩
  obtain ⟨g, vs, rest, A, B, rfl, a, b, hr, hl, hE⟩ := h4 h0
  refine ⟨g, 0, rfl, hr.lt, a, fun i hi => ?_⟩
  obtain ⟨e1, _, _, e4⟩ := hE i (by omega) hi
  exact ⟨_, by rw [Nat.zero_add, hr.cell, List.getElem?_append_left (by omega), List.getElem?_eq_getElem (by omega)], hR _ _ _ _ e1 e4⟩
theorem QL.take {α : Type} {T : TypeId} {R : Nat → Nat → World → Value → α → Prop} {lo hi : Nat} {w : World} {p : Option Addr} {n cap m : Nat} {xs : List α} (h : QL T R lo hi w (.slice p n cap) xs) (hm : m ≤ xs.length) : QL T R lo hi w (.slice p m cap) (xs.take m) := by
  obtain ⟨p', cap', e, h1, h2, h4⟩ := h
  cases e
  have hml : (xs.take m).length = m := by rw [List.length_take]; omega
  refine ⟨p, cap, by rw [hml], by rw [hml]; omega, h2, fun h0 => ?_⟩
  obtain ⟨g, vs, rest, A, B, rfl, a, b, hr, hl, hE⟩ := h4 (by omega)
  refine ⟨g, vs.take m, vs.drop m ++ rest, A, B, rfl, a, b, by rw [← List.append_assoc, List.take_append_drop]; exact hr, by rw [hml, List.length_take]; omega, fun i k1 k2 => ?_⟩
  rw [List.getElem_take, List.getElem_take]
  exact hE i (by rw [List.length_take] at k1; omega) (by omega)
theorem OS.take {T : TypeId} {lo hi : Nat} {w : World} {p : Option Addr} {n cap m : Nat} {xs : List ByteArray} (h : OS T lo hi w (.slice p n cap) xs) (hm : m ≤ xs.length) : OS T lo hi w (.slice p m cap) (xs.take m) := by
  obtain ⟨p', cap', e, h1, h2, h3, h4⟩ := h
  cases e
  have hml : (xs.take m).length = m := by rw [List.length_take]; omega
  refine ⟨p, cap, by rw [hml], by rw [hml]; omega, h2, fun x hx => h3 x (List.mem_of_mem_take hx), fun h0 => ?_⟩
  obtain ⟨g, rest, rfl, a, b, c, hr⟩ := h4 (by omega)
  refine ⟨g, strs (xs.drop m) ++ rest, rfl, a, b, ?_, ?_⟩
  · rw [hml, List.length_append, strs_len, List.length_drop]; omega
  · have e : strs (xs.take m) ++ (strs (xs.drop m) ++ rest) = strs xs ++ rest := by
      rw [← List.append_assoc]
      congr 1
      rw [strs, strs, ← List.map_append, List.take_append_drop]; rfl
    rw [e]; exact hr
abbrev QRep := QL 71 OComp
abbrev QFld := QL 69 QRep
theorem QRep.rl {lo hi : Nat} {w : World} {v : Value} {xs : List (List ByteArray)} (h : QRep lo hi w v xs) : RRep lo w v xs := QL.rl h fun _ _ _ _ ha h => RComp.mono (OS.rl h) ha
theorem QFld.rl {lo hi : Nat} {w : World} {v : Value} {xs : List (List (List ByteArray))} (h : QFld lo hi w v xs) : RFld lo w v xs := QL.rl h fun _ _ _ _ ha h => RRep.mono (QRep.rl h) ha
/-- The parts of a list that is put together: where each lies. -/
def GE {α : Type} (R : Nat → Nat → World → Value → α → Prop) (base : Nat) (X : World) (l : Value) (vs : List Value) (xs : List α) : Prop := ∃ A B : Nat → Nat, ∀ j (h1 : j < vs.length) (h2 : j < xs.length), base ≤ A j ∧ B j ≤ X.heap.size ∧ (∀ g, l.ownBlock = some g → B j ≤ g ∨ g < A j) ∧ R (A j) (B j) X vs[j] xs[j]
theorem GE.nil {α : Type} {R : Nat → Nat → World → Value → α → Prop} {base : Nat} {X : World} {l : Value} : GE R base X l [] [] := ⟨fun _ => 0, fun _ => 0, fun j h => absurd h (by simp)⟩
theorem GE.same {α : Type} {R : Nat → Nat → World → Value → α → Prop} [Keeps R] {base : Nat} {X X' : World} {l : Value} {vs : List Value} {xs : List α} (h : GE R base X l vs xs) (hs : Same base X X') : GE R base X' l vs xs := by
  obtain ⟨A, B, hE⟩ := h
  refine ⟨A, B, fun j h1 h2 => ?_⟩
  obtain ⟨f1, f2, f3, f4⟩ := hE j h1 h2
  exact ⟨f1, Nat.le_trans f2 hs.size, f3, Keeps.go (fun k k1 _ hk => hs.block k (by omega) hk) f4⟩
theorem GE.snoc {α : Type} {R : Nat → Nat → World → Value → α → Prop} [Keeps R] {base a b : Nat} {X Y Z : World} {l v' u : Value} {vs : List Value} {xs : List α} {y : α} (h : GE R base X l vs xs) (hcl : vs.length = xs.length) (hlt : ∀ g, l.ownBlock = some g → base ≤ g ∧ g < X.heap.size)
    (hXY : Same base X Y) (hbase : base ≤ X.heap.size) (ha : X.heap.size ≤ a) (hb : b ≤ Y.heap.size) (hR : R a b Y u y) (hgrow : Y.grownBy Z l.ownBlock) (hat : v'.ownBlock = l.ownBlock ∨ v'.ownBlock = some Y.heap.size) :
    GE R base Z v' (vs ++ [u]) (xs ++ [y]) := by
  obtain ⟨A, B, hE⟩ := h.same hXY
  obtain ⟨A0, B0, hE0⟩ := h
  have hs1 := hXY.size
  have hs2 := hgrow.size
  refine ⟨fun i => if i = xs.length then a else A0 i, fun i => if i = xs.length then b else B0 i, fun j h1 h2 => ?_⟩
  rw [List.length_append] at h1 h2
  dsimp only
  by_cases hj : j = xs.length
  · subst hj
    rw [if_pos rfl, if_pos rfl, List.getElem_append_right (Nat.le_refl _), List.getElem_append_right (by omega)]
    simp only [hcl, Nat.sub_self, List.getElem_cons_zero]
    refine ⟨by omega, by omega, fun g hg => ?_, Keeps.go (grown_in hgrow (fun g hg => .inr (by have := (hlt g hg).2; omega))) hR⟩
    rcases hat with e | e
    · rw [e] at hg
      exact .inr (by have := (hlt g hg).2; omega)
    · rw [e] at hg
      cases hg
      exact .inl hb
  · have hj2 : j < xs.length := by simp at h2; omega
    obtain ⟨f1, f2, f3, f4⟩ := hE0 j (by omega) hj2
    rw [if_neg hj, if_neg hj, List.getElem_append_left hj2, List.getElem_append_left (by omega)]
    refine ⟨f1, by omega, fun g hg => ?_, Keeps.go (grown_in hgrow f3) (Keeps.go (fun k k1 _ hk => hXY.block k (by omega) hk) f4)⟩
    rcases hat with e | e
    · rw [e] at hg
      exact f3 g hg
    · rw [e] at hg
      cases hg
      exact .inl (by omega)
theorem GE.ql {α : Type} {R : Nat → Nat → World → Value → α → Prop} {base : Nat} {T : TypeId} {X : World} {l : Value} {vs : List Value} {xs : List α} (h : GE R base X l vs xs) (hown : X.ownsRow base T 1 l xs.length vs) : QL T R base X.heap.size X l xs := by
  obtain ⟨A, B, hE⟩ := h
  have hl : vs.length = xs.length := by have := hown.1; omega
  rcases own_block hown with ⟨hn, rfl⟩ | ⟨g, cap2, rest, rfl, hbg, hgs, hnc, hcm, hcr, hrow⟩
  · exact ⟨none, 0, by rw [hn], by omega, by unfold maxLen; omega, fun h => by omega⟩
  · exact ⟨_, _, rfl, by omega, hcm, fun _ => ⟨g, vs, rest, A, B, rfl, hbg, hgs, hrow, hl, fun i h1 h2 => by
      obtain ⟨f1, f2, f3, f4⟩ := hE i h1 h2
      exact ⟨f1, f2, f3 g rfl, f4⟩⟩⟩
theorem Same.ofBelow {B : Nat} {w w' : World} (h : Below w.heap.size w w') : Same B w w' := Same.of h
theorem own_same2 {w w' : World} {B n sz : Nat} {T : TypeId} {v : Value} {xs : List Value} (h : w.ownsRow B T sz v n xs) (hs : Same B w w') : w'.ownsRow B T sz v n xs := own_same h (fun k h1 h2 => hs.block k h1 h2)
end Go.Proofs.YtckcfjibiidafaaGreat
