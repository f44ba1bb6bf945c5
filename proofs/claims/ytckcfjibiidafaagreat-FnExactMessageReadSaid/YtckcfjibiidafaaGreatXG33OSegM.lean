/- A Segment that is read, as the model and as the program read it: lists. -/
import Derived.Test.YtckcfjibiidafaaGreatXG29OSpecF
import Derived.Test.YtckcfjibiidafaaGreatXG30OReadH
import Derived.Test.YtckcfjibiidafaaGreatXG32FSegT
namespace Go.Proofs.YtckcfjibiidafaaGreat
open Go.RowKit
theorem fldT_noin {m : ByteArray} (h : marksB m = true) (x : List (List (List ByteArray))) : bAt m 0 ∉ fldT m x :=
  jnF_noin (fun e => by have := mark_inj h (by omega) (by omega) e; omega) 0 x (fun y _ => repT_noin h 0 (by omega) (by omega) (by omega) y)
theorem flat_one {α : Type} (c : UInt8) (f : α → List UInt8) : ∀ (xs : List α), (xs.flatMap fun p => c :: f p) = jnF c f 1 xs
  | [] => by simp [jnF]
  | p :: r => by rw [List.flatMap_cons, flat_one c f r, jnF_one, jnF_zero]; simp
theorem flat_jn {α : Type} (c : UInt8) (f : α → List UInt8) (x : α) (r : List α) : ((x :: r).flatMap fun p => c :: f p) = c :: jnF c f 0 (x :: r) := by rw [flat_one, jnF_one]
/-- The Fields of a line, as the model reads them. -/
def fldsM (m : ByteArray) : List UInt8 → Option Flds
  | [] => some []
  | a :: r => if a = bAt m 0 then some (trimR empL ((cutL (bAt m 0) r).map (fldM m))) else none
theorem fldQ_parts {m : ByteArray} (h : marksB m = true) {p : List UInt8} {f : List (List (List ByteArray))} (e : fldQ m p = some f) : fldB f = true ∧ fldT m f = p := by
  unfold fldQ at e
  obtain ⟨g, hg, hb⟩ := Option.bind_eq_some_iff.1 e
  by_cases hf : fldB g = true
  · rw [if_pos hf] at hb
    cases hb
    exact ⟨hf, fldP_some h p _ hg⟩
  · rw [if_neg hf] at hb
    cases hb
theorem fldQ_of {m : ByteArray} (h : marksB m = true) {f : List (List (List ByteArray))} (hf : fldB f = true) : fldQ m (fldT m f) = some f := by
  unfold fldQ
  rw [fldP_of h hf]
  simp [hf]
theorem fldsP_cons (m : ByteArray) (r : List UInt8) : fldsP m (bAt m 0 :: r) = mapO (fldQ m) (cutL (bAt m 0) r) := by
  unfold fldsP piecesL
  rw [if_neg (by simp), cutL_at]
  simp
theorem fldsP_ne (m : ByteArray) {a : UInt8} (r : List UInt8) (h : a ≠ bAt m 0) : fldsP m (a :: r) = none := by
  obtain ⟨p, ps, e⟩ := cutL_some (bAt m 0) r
  unfold fldsP piecesL
  rw [if_neg (by simp), cutL_ne (bAt m 0) a r p ps h e]
  simp
theorem flds_to {m : ByteArray} (h : marksB m = true) {r : List UInt8} {fs : Flds} (e : fldsP m r = some fs) (hr : rightB fldB empL 30 fs = true) : fldsM m r = some fs ∧ fldsT m fs = r := by
  cases r with
  | nil =>
    have : fs = [] := by simpa [fldsP, piecesL] using e.symm
    subst this
    exact ⟨rfl, rfl⟩
  | cons a r =>
    by_cases ha : a = bAt m 0
    · subst ha
      rw [fldsP_cons] at e
      have hm : fs.map (fldT m) = cutL (bAt m 0) r := mapO_some (tx := fldT m) (fun p x hx => (fldQ_parts h hx).2) _ _ e
      have hM : (cutL (bAt m 0) r).map (fldM m) = fs := by
        rw [← hm, List.map_map]
        have : fs.map (fldM m ∘ fldT m) = fs.map id := List.map_congr_left (fun x hx => fldM_of h ((right_parts hr).1 x hx))
        rw [this, List.map_id]
      refine ⟨by rw [fldsM, if_pos rfl, hM, trimR_end empL fs (right_parts hr).2], ?_⟩
      obtain ⟨p, ps, hp⟩ := cutL_some (bAt m 0) r
      have hj := cutL_join (bAt m 0) r
      have e1 : fldsT m fs = (fs.map (fldT m)).flatMap (fun p => bAt m 0 :: p) := by unfold fldsT; rw [List.flatMap_map]
      rw [e1, hm, hp, flat_jn, ← hp, hj]
    · rw [fldsP_ne m r ha] at e
      cases e
theorem flds_from {m : ByteArray} (h : marksB m = true) {r : List UInt8} {fs : Flds} (e : fldsM m r = some fs) (hr : rightB fldB empL 30 fs = true) (ht : fldsT m fs = r) : fldsP m r = some fs := by
  cases r with
  | nil =>
    cases e
    simp [fldsP, piecesL]
  | cons a r =>
    by_cases ha : a = bAt m 0
    · subst ha
      rw [fldsP_cons]
      cases fs with
      | nil => simp [fldsT] at ht
      | cons x ys =>
        unfold fldsT at ht
        rw [flat_jn] at ht
        have hr0 : jnF (bAt m 0) (fldT m) 0 (x :: ys) = r := by simpa using ht
        rw [← hr0, cutL_jn (bAt m 0) (fldT m) x ys (fun y _ => fldT_noin h y)]
        exact mapO_map (x :: ys) (fun y hy => fldQ_of h ((right_parts hr).1 y hy))
    · rw [fldsM, if_neg ha] at e
      cases e
theorem segB_right {n : ByteArray} {fs : Flds} (h : segB n fs = true) : rightB fldB empL 30 fs = true := by
  simp only [segB, Bool.and_eq_true] at h
  exact h.1.2
/-- The head of a line: its name, and what stands behind it. -/
def headR (m : ByteArray) (T : List UInt8) : Option (ByteArray × List UInt8) :=
  if T.length < 3 then none else if (⟨(T.take 3).toArray⟩ : ByteArray) = msh then (if (T.drop 3).take m.size = m.data.toList then some (⟨(T.take 3).toArray⟩, (T.drop 3).drop m.size) else none) else some (⟨(T.take 3).toArray⟩, T.drop 3)
def segQ (m : ByteArray) (T : List UInt8) : Option (ByteArray × Flds) := (headR m T).bind fun h => (fldsP m h.2).bind fun fs => if segB h.1 fs then some (h.1, fs) else none
def segMd (m : ByteArray) (T : List UInt8) : Option (ByteArray × Flds) := (headR m T).bind fun h => (fldsM m h.2).bind fun fs => some (h.1, fs)
theorem headR_text {m : ByteArray} {T : List UInt8} {n : ByteArray} {r : List UInt8} (h : headR m T = some (n, r)) (fs : Flds) : (segT m n fs = T ↔ fldsT m fs = r) := by
  unfold headR at h
  have e3 : T = T.take 3 ++ T.drop 3 := (List.take_append_drop 3 T).symm
  split at h
  · cases h
  · split at h
    · rename_i hn
      split at h
      · rename_i hp
        cases h
        have e5 : T.drop 3 = m.data.toList ++ (T.drop 3).drop m.size := by
          conv => lhs; rw [← List.take_append_drop m.size (T.drop 3)]
          rw [hp]
        unfold segT headT
        rw [if_pos hn]
        constructor
        · intro h1
          have h1' : T.take 3 ++ (m.data.toList ++ fldsT m fs) = T.take 3 ++ T.drop 3 := by
            rw [List.take_append_drop, ← List.append_assoc]; exact h1
          have h2 := List.append_cancel_left h1'
          rw [e5] at h2
          exact List.append_cancel_left h2
        · intro h1
          rw [h1]
          conv => rhs; rw [e3, e5]
          simp
      · cases h
    · rename_i hn
      cases h
      unfold segT headT
      rw [if_neg hn]
      constructor
      · intro h1
        have h1' : T.take 3 ++ fldsT m fs = T.take 3 ++ T.drop 3 := by
          rw [List.take_append_drop]; simpa using h1
        exact List.append_cancel_left h1'
      · intro h1
        rw [h1]
        conv => rhs; rw [e3]
        simp
theorem segQ_iff {m : ByteArray} (h : marksB m = true) (T : List UInt8) (s : ByteArray × Flds) : segQ m T = some s ↔ (segMd m T = some s ∧ segB s.1 s.2 = true ∧ segT m s.1 s.2 = T) := by
  unfold segQ segMd
  cases hh : headR m T with
  | none => simp
  | some hd =>
    obtain ⟨n, r⟩ := hd
    simp only [Option.bind_some]
    constructor
    · intro e
      obtain ⟨fs, h1, h2⟩ := Option.bind_eq_some_iff.1 e
      by_cases hs : segB n fs = true
      · rw [if_pos hs] at h2
        cases h2
        obtain ⟨h3, h4⟩ := flds_to h h1 (segB_right hs)
        exact ⟨by rw [h3]; rfl, hs, (headR_text hh fs).2 h4⟩
      · rw [if_neg hs] at h2
        cases h2
    · rintro ⟨h1, h2, h3⟩
      obtain ⟨fs, h4, h5⟩ := Option.bind_eq_some_iff.1 h1
      cases h5
      have h6 := flds_from h h4 (segB_right h2) ((headR_text hh fs).1 h3)
      rw [h6]
      simp [h2]
end Go.Proofs.YtckcfjibiidafaaGreat
/- The prefix of a text, cut off. -/
namespace Go.Proofs.YtckcfjibiidafaaGreat
open Go.RowKit
set_option maxHeartbeats 1000000 in
theorem hasPre_any (s p : ByteArray) (w : World) :
    Calls Tryz.prog 75 #[.string s, .string p] w fun e w' => e = .returned (.bool (decide (p.size ≤ s.size ∧ (s.extract 0 p.size : ByteArray) = p))) ∧ w' = w := by
  by_cases h : p.size ≤ s.size
  · have hi : (p.size : Int) ≤ (s.size : Int) := by omega
    have hp : (0 : Int) ≤ (p.size : Int) := by omega
    by_cases he : (s.extract 0 p.size : ByteArray) = p
    · have heb : ((s.extract 0 p.size : ByteArray).toList == p.toList) = true := by rw [he]; simp
      have HD := hide (show decide (p.size ≤ s.size ∧ (s.extract 0 p.size : ByteArray) = p) = true by simp [h, he])
      rw [HD.out]
      clear he
      go_enter Tryz.func75, Tryz.ntmps75
      go_wp2
      go_ret
      exact ⟨rfl, rfl⟩
    · have heb : ((s.extract 0 p.size : ByteArray).toList == p.toList) = false := by simpa using toList_neF he
      have HD := hide (show decide (p.size ≤ s.size ∧ (s.extract 0 p.size : ByteArray) = p) = false by simp [he])
      rw [HD.out]
      clear he
      go_enter Tryz.func75, Tryz.ntmps75
      go_wp2
      go_ret
      exact ⟨rfl, rfl⟩
  · have hi : ¬ (p.size : Int) ≤ (s.size : Int) := by omega
    have HD := hide (show decide (p.size ≤ s.size ∧ (s.extract 0 p.size : ByteArray) = p) = false by simp [h])
    rw [HD.out]
    go_enter Tryz.func75, Tryz.ntmps75
    go_wp2
    go_ret
    exact ⟨rfl, rfl⟩
set_option maxHeartbeats 1000000 in
theorem liteCutPre_yes (s p : ByteArray) (w : World) (h : p.size ≤ s.size ∧ (s.extract 0 p.size : ByteArray) = p) :
    Calls Tryz.prog 63 #[.string s, .string p] w fun e w' => e = .returned (.tuple #[.string (s.extract p.size s.size), .bool true]) ∧ w' = w := by
  have HD := hide (show decide (p.size ≤ s.size ∧ (s.extract 0 p.size : ByteArray) = p) = true by simp [h])
  have hi : (p.size : Int) ≤ (s.size : Int) := by omega
  have hp : (0 : Int) ≤ (p.size : Int) := by omega
  clear h
  go_enter Tryz.func63, Tryz.ntmps63
  go_wp2_with fail
  refine (hasPre_any s p _).mono ?_
  rintro e w1 ⟨rfl, rfl⟩
  rw [HD.out]
  go_wp2
  exact bodyPost_ret (v := .tuple #[.string (s.extract p.size s.size), .bool true]) (by simp [results, Tryz.results63, go_sem]) rfl ⟨rfl, rfl⟩
set_option maxHeartbeats 1000000 in
theorem liteCutPre_no (s p : ByteArray) (w : World) (h : ¬ (p.size ≤ s.size ∧ (s.extract 0 p.size : ByteArray) = p)) :
    Calls Tryz.prog 63 #[.string s, .string p] w fun e w' => e = .returned (.tuple #[.string s, .bool false]) ∧ w' = w := by
  have HD := hide (decide_eq_false h)
  clear h
  go_enter Tryz.func63, Tryz.ntmps63
  go_wp2_with fail
  refine (hasPre_any s p _).mono ?_
  rintro e w1 ⟨rfl, rfl⟩
  rw [HD.out]
  go_wp2
  exact bodyPost_ret (v := .tuple #[.string s, .bool false]) (by simp [results, Tryz.results63, go_sem]) rfl ⟨rfl, rfl⟩
set_option maxHeartbeats 1000000 in
theorem cutPre_yes (s p : ByteArray) (w : World) (h : p.size ≤ s.size ∧ (s.extract 0 p.size : ByteArray) = p) :
    Calls Tryz.prog 49 #[.string s, .string p] w fun e w' => e = .returned (.tuple #[.string (s.extract p.size s.size), .bool true]) ∧ w' = w := by
  have H := hide h
  clear h
  go_enter Tryz.func49, Tryz.ntmps49
  go_wp2_with fail
  refine (liteCutPre_yes s p _ H.out).mono ?_
  rintro e w1 ⟨rfl, rfl⟩
  go_wp2
  exact bodyPost_ret (v := .tuple #[.string (s.extract p.size s.size), .bool true]) (by simp [results, Tryz.results49, go_sem]) rfl ⟨rfl, rfl⟩
set_option maxHeartbeats 1000000 in
theorem cutPre_no (s p : ByteArray) (w : World) (h : ¬ (p.size ≤ s.size ∧ (s.extract 0 p.size : ByteArray) = p)) :
    Calls Tryz.prog 49 #[.string s, .string p] w fun e w' => e = .returned (.tuple #[.string s, .bool false]) ∧ w' = w := by
  have H := hide h
  clear h
  go_enter Tryz.func49, Tryz.ntmps49
  go_wp2_with fail
  refine (liteCutPre_no s p _ H.out).mono ?_
  rintro e w1 ⟨rfl, rfl⟩
  go_wp2
  exact bodyPost_ret (v := .tuple #[.string s, .bool false]) (by simp [results, Tryz.results49, go_sem]) rfl ⟨rfl, rfl⟩
end Go.Proofs.YtckcfjibiidafaaGreat
