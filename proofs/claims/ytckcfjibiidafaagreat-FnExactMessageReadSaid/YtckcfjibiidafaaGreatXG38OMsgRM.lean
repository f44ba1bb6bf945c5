/- A Message that is read, as the model and as the program read it: lists. -/
import Derived.Test.YtckcfjibiidafaaGreatXG33OSegM
import Derived.Test.YtckcfjibiidafaaGreatXG37FMsgU
import Derived.Test.YtckcfjibiidafaaGreatXG34OSeg
import Derived.Test.YtckcfjibiidafaaGreatXG35OSegR
namespace Go.Proofs.YtckcfjibiidafaaGreat
open Go.RowKit
theorem mark_no13 {m : ByteArray} (h : marksB m = true) (q : Nat) (hq : q < 5) : bAt m q ≠ 13 := fun e => by
  have h1 := mark_plain h q hq
  rw [e] at h1
  revert h1; decide
theorem esc_no13 {m : ByteArray} (h : marksB m = true) {c : UInt8} (hc : c ≠ 13) : (13 : UInt8) ∉ escOne m c := by
  intro hin
  by_cases hi : 0 ≤ Lib.indexByte m.data.toList c
  · obtain ⟨k, hk, hk5, _⟩ := mark_get h c hi
    have e2 : escOne m c = [bAt m 3, letters.getD k 0, bAt m 3] := by unfold escOne; rw [if_pos hi, hk]; rfl
    rw [e2] at hin
    simp only [List.mem_cons, List.not_mem_nil, or_false] at hin
    rcases hin with e | e | e
    · exact mark_no13 h 3 (by omega) e.symm
    · have : ∀ j : Fin 5, (13 : UInt8) ≠ letters.getD j.1 0 := by decide
      exact this ⟨k, hk5⟩ e
    · exact mark_no13 h 3 (by omega) e.symm
  · have e2 : escOne m c = [c] := by unfold escOne; rw [if_neg hi]
    rw [e2] at hin
    simp only [List.mem_cons, List.not_mem_nil, or_false] at hin
    exact hc hin.symm
theorem subT_no13 {m : ByteArray} (h : marksB m = true) {s : ByteArray} (hs : subB s = true) : (13 : UInt8) ∉ subT m s := by
  intro hin
  obtain ⟨c, h1, hc⟩ := List.mem_flatMap.1 hin
  have hp : plainB s = true := by simp only [subB, Bool.and_eq_true] at hs; exact hs.1
  have h2 := plainB_all hp c h1
  exact esc_no13 h (fun e => by rw [e] at h2; revert h2; decide) hc
theorem compT_no13 {m : ByteArray} (h : marksB m = true) {x : List ByteArray} (hx : compB x = true) : (13 : UInt8) ∉ compT m x :=
  jnF_noin (fun e => mark_no13 h 4 (by omega) e.symm) 0 x (fun y hy => subT_no13 h ((right_parts hx).1 y hy))
theorem repT_no13 {m : ByteArray} (h : marksB m = true) {x : List (List ByteArray)} (hx : repB x = true) : (13 : UInt8) ∉ repT m x :=
  jnF_noin (fun e => mark_no13 h 1 (by omega) e.symm) 0 x (fun y hy => compT_no13 h ((right_parts hx).1 y hy))
theorem fldT_no13 {m : ByteArray} (h : marksB m = true) {x : List (List (List ByteArray))} (hx : fldB x = true) : (13 : UInt8) ∉ fldT m x :=
  jnF_noin (fun e => mark_no13 h 2 (by omega) e.symm) 0 x (fun y hy => repT_no13 h ((right_parts hx).1 y hy))
theorem fldsT_no13 {m : ByteArray} (h : marksB m = true) {fs : Flds} (hx : rightB fldB empL 30 fs = true) : (13 : UInt8) ∉ fldsT m fs := by
  intro hin
  obtain ⟨f, hf, hc⟩ := List.mem_flatMap.1 hin
  rcases List.mem_cons.1 hc with e | e
  · exact mark_no13 h 0 (by omega) e.symm
  · exact fldT_no13 h ((right_parts hx).1 f hf) e
theorem name_digit {n : ByteArray} (h : name3 n = true) : n.data.toList.length = 3 ∧ ∀ c ∈ n.data.toList, digCapB (c.toNat : Int) = true := by
  simp only [name3, Bool.and_eq_true, decide_eq_true_eq] at h
  have hl : n.data.toList.length = n.size := by simp
  refine ⟨by omega, fun c hc => ?_⟩
  obtain ⟨k, hk, e⟩ := List.mem_iff_getElem.1 hc
  have hk2 : k < n.size := by omega
  have h2 := List.all_eq_true.1 h.2 k (List.mem_range.2 hk2)
  rw [nmAt_eq n k hk2] at h2
  have h3 : c = n[k]'hk2 := by rw [← e]; exact data_get n k hk2
  rw [h3]
  simp only [Bool.and_eq_true] at h2
  exact h2.1
theorem segB_name3 {n : ByteArray} {fs : Flds} (h : segB n fs = true) : name3 n = true := by
  simp only [segB, Bool.and_eq_true] at h
  exact h.1.1
theorem marks_no13 {m : ByteArray} (h : marksB m = true) : (13 : UInt8) ∉ m.data.toList := fun hin => by
  have h5 := marksB_five h
  have hl : m.data.toList.length = m.size := by simp
  obtain ⟨k, hk, e⟩ := List.mem_iff_getElem.1 hin
  have hk2 : k < m.size := by omega
  exact mark_no13 h k (by omega) (by rw [bAt_get m k hk2, ← data_get m k hk2]; exact e)
theorem segT_no13 {m n : ByteArray} {fs : Flds} (h : marksB m = true) (hs : segB n fs = true) : (13 : UInt8) ∉ segT m n fs := by
  intro hin
  unfold segT headT at hin
  rcases List.mem_append.1 hin with h1 | h1
  · rcases List.mem_append.1 h1 with h2 | h2
    · have := (name_digit (segB_name3 hs)).2 _ h2
      revert this; decide
    · split at h2
      · exact marks_no13 h h2
      · cases h2
  · exact fldsT_no13 h (segB_right hs) h1
theorem seg_first {m n : ByteArray} {fs : Flds} (hs : segB n fs = true) : ∃ a r, segT m n fs = a :: r ∧ a ≠ 10 := by
  obtain ⟨h1, h2⟩ := name_digit (segB_name3 hs)
  cases hd : n.data.toList with
  | nil => rw [hd] at h1; cases h1
  | cons a r =>
    refine ⟨a, _, by unfold segT headT; rw [hd]; rfl, fun e => ?_⟩
    have := h2 a (by rw [hd]; exact List.mem_cons_self)
    rw [e] at this
    revert this; decide
theorem whole_cons (m : ByteArray) (x : Seg) (r : List Seg) : wholeT m (x :: r) = segT m x.1 x.2 ++ 13 :: wholeT m r := by
  unfold wholeT
  rw [List.flatMap_cons, List.append_assoc]
  rfl
theorem cut_whole {m : ByteArray} (h : marksB m = true) : ∀ xs : List Seg, (∀ x ∈ xs, segB x.1 x.2 = true) → cutL 13 (wholeT m xs) = xs.map (fun x => segT m x.1 x.2) ++ [[]]
  | [], _ => rfl
  | x :: r, hx => by
    rw [whole_cons, cutL_first 13 _ _ (segT_no13 h (hx x List.mem_cons_self)), cut_whole h r (fun y hy => hx y (List.mem_cons_of_mem _ hy))]
    rfl
theorem cut_end (c : UInt8) : ∀ (T : List UInt8) (ls : List (List UInt8)), cutL c T = ls ++ [[]] → ls.flatMap (fun l => l ++ [c]) = T
  | [], ls, h => by
    cases ls with
    | nil => rfl
    | cons l r =>
      exfalso
      have := congrArg List.length h
      simp [cutL] at this
  | a :: r, ls, h => by
    by_cases ha : a = c
    · subst ha
      rw [cutL_at] at h
      obtain ⟨p, ps, e⟩ := cutL_some a r
      cases ls with
      | nil =>
        rw [e] at h
        simp at h
      | cons l q =>
        rw [List.cons_append] at h
        obtain ⟨h1, h2⟩ := List.cons.inj h
        subst h1
        have := cut_end a r q h2
        rw [List.flatMap_cons, this]
        rfl
    · obtain ⟨p, ps, e⟩ := cutL_some c r
      rw [cutL_ne c a r p ps ha e] at h
      cases ls with
      | nil => simp at h
      | cons l q =>
        rw [List.cons_append] at h
        obtain ⟨h1, h2⟩ := List.cons.inj h
        subst h1
        have := cut_end c r (p :: q) (by rw [e, h2]; rfl)
        rw [List.flatMap_cons] at this ⊢
        rw [← this]
        rfl
/-- A line, its feed left out. -/
def feedL (i : Nat) (l : List UInt8) : List UInt8 := if 0 < i ∧ l.head? = some 10 then l.tail else l
theorem feedL_of {i : Nat} {a : UInt8} {r : List UInt8} (h : a ≠ 10) : feedL i (a :: r) = a :: r := by
  unfold feedL
  rw [if_neg (fun e => h (by simpa using e.2))]
/-- The Segments that the model reads, of the lines from the i-th on. -/
def mdL (m : ByteArray) : Nat → List (List UInt8) → Option (List Seg)
  | _, [] => some []
  | i, l :: r => if r = [] ∧ feedL i l = [] then some [] else (segMd m (feedL i l)).bind fun s => if 20 ≤ i then none else (mdL m (i + 1) r).map (s :: ·)
def mk5 (T : List UInt8) : ByteArray := ⟨((T.drop 3).take 5).toArray⟩
def msgMd (T : List UInt8) : Option (ByteArray × List Seg) :=
  if T.length < 8 ∨ T.take 3 ≠ [77, 83, 72] ∨ marksB (mk5 T) = false then none else (mdL (mk5 T) 0 (cutL 13 T)).bind fun xs => if msgB (mk5 T) xs then some (mk5 T, xs) else none
/-- The lines of a text that ends with its end. -/
def linesQ (L : List (List UInt8)) : Option (List (List UInt8)) := if L.getLast? = some [] then some L.dropLast else none
theorem linesQ_some {L ls : List (List UInt8)} (h : linesQ L = some ls) : L = ls ++ [[]] := by
  unfold linesQ at h
  by_cases e : L.getLast? = some []
  · rw [if_pos e] at h
    cases h
    obtain ⟨ys, e2⟩ := List.getLast?_eq_some_iff.1 e
    rw [e2]
    simp
  · rw [if_neg e] at h
    cases h
theorem linesQ_of (ls : List (List UInt8)) : linesQ (ls ++ [[]]) = some ls := by
  unfold linesQ
  simp
def msgQ (T : List UInt8) : Option (ByteArray × List Seg) :=
  if T.length < 8 ∨ marksB (mk5 T) = false then none else (linesQ (cutL 13 T)).bind fun ls => (mapO (segQ (mk5 T)) ls).bind fun xs => if msgT (mk5 T) xs = ⟨#[]⟩ then none else some (mk5 T, xs)
theorem md_of {m : ByteArray} (h : marksB m = true) : ∀ (ls : List (List UInt8)) (xs : List Seg) (i : Nat), mapO (segQ m) ls = some xs → i + ls.length ≤ 20 → mdL m i (ls ++ [[]]) = some xs
  | [], xs, i, e, _ => by
    have : xs = [] := by simpa [mapO] using e.symm
    subst this
    have hf : feedL i [] = [] := by simp [feedL]
    rw [List.nil_append, mdL, if_pos ⟨rfl, hf⟩]
  | l :: ls, xs, i, e, hi => by
    simp only [List.length_cons] at hi
    cases hq : segQ m l with
    | none => simp [mapO, hq] at e
    | some x =>
      cases hr : mapO (segQ m) ls with
      | none => simp [mapO, hq, hr] at e
      | some ys =>
        have : xs = x :: ys := by simpa [mapO, hq, hr] using e.symm
        subst this
        obtain ⟨h1, h2, h3⟩ := (segQ_iff h l x).1 hq
        obtain ⟨a, r, h4, h5⟩ := seg_first (m := m) h2
        have hf : feedL i l = l := by rw [← h3, h4]; exact feedL_of h5
        have hn : ls ++ [[]] ≠ [] := by simp
        rw [List.cons_append, mdL, if_neg (fun e => hn e.1), hf, h1]
        show (if 20 ≤ i then none else (mdL m (i + 1) (ls ++ [[]])).map (x :: ·)) = _
        rw [if_neg (by omega), md_of h ls ys (i + 1) hr (by omega)]
        rfl
theorem md_to {m : ByteArray} : ∀ (ls : List (List UInt8)) (xs : List Seg) (i : Nat), (∀ l ∈ ls, ∃ a r, l = a :: r ∧ a ≠ 10) → mdL m i (ls ++ [[]]) = some xs → mapO (segMd m) ls = some xs
  | [], xs, i, _, e => by
    have hf : feedL i [] = [] := by simp [feedL]
    rw [List.nil_append, mdL, if_pos ⟨rfl, hf⟩] at e
    cases e
    rfl
  | l :: ls, xs, i, hl, e => by
    obtain ⟨a, r, h4, h5⟩ := hl l List.mem_cons_self
    have hf : feedL i l = l := by rw [h4]; exact feedL_of h5
    have hn : ls ++ [[]] ≠ [] := by simp
    rw [List.cons_append, mdL, if_neg (fun e => hn e.1), hf] at e
    obtain ⟨x, h1, h2⟩ := Option.bind_eq_some_iff.1 e
    by_cases h20 : 20 ≤ i
    · rw [if_pos h20] at h2
      cases h2
    · rw [if_neg h20] at h2
      obtain ⟨ys, h6, h7⟩ := Option.map_eq_some_iff.1 h2
      have := md_to ls ys (i + 1) (fun y hy => hl y (List.mem_cons_of_mem _ hy)) h6
      subst h7
      simp [mapO, h1, this]
theorem mapO_segQ {m : ByteArray} (h : marksB m = true) : ∀ xs : List Seg, (∀ x ∈ xs, segB x.1 x.2 = true) → mapO (segMd m) (xs.map (fun x => segT m x.1 x.2)) = some xs → mapO (segQ m) (xs.map (fun x => segT m x.1 x.2)) = some xs
  | [], _, _ => rfl
  | x :: r, hx, e => by
    rw [List.map_cons] at e ⊢
    cases hq : segMd m (segT m x.1 x.2) with
    | none => simp [mapO, hq] at e
    | some y =>
      cases hr : mapO (segMd m) (r.map (fun x => segT m x.1 x.2)) with
      | none => simp [mapO, hq, hr] at e
      | some ys =>
        have e2 : y = x ∧ ys = r := by simpa [mapO, hq, hr] using e
        obtain ⟨rfl, rfl⟩ := e2
        have h1 := (segQ_iff h (segT m y.1 y.2) y).2 ⟨hq, hx y List.mem_cons_self, rfl⟩
        have h2 := mapO_segQ h ys (fun z hz => hx z (List.mem_cons_of_mem _ hz)) hr
        simp [mapO, h1, h2]
theorem msg_segs {m : ByteArray} {xs : List Seg} (h : msgB m xs = true) : 1 ≤ xs.length ∧ ∀ x ∈ xs, segB x.1 x.2 = true := by
  have h2 := msgB_parts h
  simp only [msgB, Bool.and_eq_true, decide_eq_true_eq] at h
  refine ⟨h.1.2.1, fun x hx => ?_⟩
  obtain ⟨k, hk, e⟩ := List.mem_iff_getElem.1 hx
  rw [← e]
  exact h2.2.2 k hk
theorem msg_head {m : ByteArray} {xs : List Seg} (h : msgB m xs = true) : (wholeT m xs).take 3 = [77, 83, 72] := by
  have h1 := (msg_segs h).1
  simp only [msgB, Bool.and_eq_true] at h
  cases xs with
  | nil => simp at h1
  | cons x r =>
    have h3 := List.all_eq_true.1 h.2 0 (List.mem_range.2 (by simp))
    rw [okSeg_eq _ 0 (by simp)] at h3
    have h5 : (decide ((x :: r)[0].1 = msh) == decide (0 = 0)) = true := by
      simp only [Bool.and_eq_true] at h3
      exact h3.2
    have h4 : x.1 = msh := by simpa using h5
    rw [whole_cons]
    unfold segT headT
    rw [h4]
    simp [msh]
theorem msgT_some {m : ByteArray} {xs : List Seg} (h : ¬ msgT m xs = ⟨#[]⟩) : msgB m xs = true := by
  cases hb : msgB m xs with
  | true => rfl
  | false => exact absurd (msgT_no hb) h
theorem msgQ_iff (T : List UInt8) (hT : T.length ≤ 8000) (s : ByteArray × List Seg) : msgQ T = some s ↔ (msgMd T = some s ∧ wholeT s.1 s.2 = T) := by
  constructor
  · intro e
    unfold msgQ at e
    by_cases h0 : T.length < 8 ∨ marksB (mk5 T) = false
    · rw [if_pos h0] at e
      cases e
    · rw [if_neg h0] at e
      obtain ⟨ls, h1, h2⟩ := Option.bind_eq_some_iff.1 e
      obtain ⟨xs, h3, h4⟩ := Option.bind_eq_some_iff.1 h2
      by_cases hx : msgT (mk5 T) xs = ⟨#[]⟩
      · rw [if_pos hx] at h4
        cases h4
      · rw [if_neg hx] at h4
        cases h4
        have hm : marksB (mk5 T) = true := by
          cases hb : marksB (mk5 T) with
          | true => rfl
          | false => exact absurd (.inr hb) h0
        have hb := msgT_some hx
        have hc := linesQ_some h1
        have hl := mapO_len _ _ h3
        have hp := msgB_parts hb
        have hw : wholeT (mk5 T) xs = T := by
          have e1 := mapO_some (tx := fun x : Seg => segT (mk5 T) x.1 x.2) (fun p x hx => ((segQ_iff hm p x).1 hx).2.2) _ _ h3
          have e2 := cut_end 13 T ls hc
          have e3 : wholeT (mk5 T) xs = ls.flatMap (fun l => l ++ [13]) := by rw [← e1, List.flatMap_map]; rfl
          rw [e3, e2]
        refine ⟨?_, hw⟩
        have h3' : T.take 3 = [77, 83, 72] := by rw [← hw]; exact msg_head hb
        unfold msgMd
        rw [if_neg (by
          rintro (h | h | h)
          · exact h0 (.inl h)
          · exact h h3'
          · rw [hm] at h; cases h), hc, md_of hm ls xs 0 h3 (by omega)]
        show (if msgB (mk5 T) xs then some (mk5 T, xs) else none) = _
        rw [if_pos hb]
  · rintro ⟨e, hw⟩
    unfold msgMd at e
    by_cases h0 : T.length < 8 ∨ T.take 3 ≠ [77, 83, 72] ∨ marksB (mk5 T) = false
    · rw [if_pos h0] at e
      cases e
    · rw [if_neg h0] at e
      obtain ⟨xs, h1, h2⟩ := Option.bind_eq_some_iff.1 e
      by_cases hb : msgB (mk5 T) xs = true
      · rw [if_pos hb] at h2
        cases h2
        have hw : wholeT (mk5 T) xs = T := hw
        have hm := (msgB_parts hb).1
        have hs := (msg_segs hb).2
        have hc : cutL 13 T = xs.map (fun x => segT (mk5 T) x.1 x.2) ++ [[]] := by
          conv => lhs; rw [← hw]
          exact cut_whole hm xs hs
        rw [hc] at h1
        have h3 := md_to _ _ 0 (fun l hl => by
          obtain ⟨x, hx, rfl⟩ := List.mem_map.1 hl
          exact seg_first (hs x hx)) h1
        have h4 := mapO_segQ hm xs hs h3
        have h8 : ¬ T.length < 8 := fun h => h0 (.inl h)
        have hmt : ¬ msgT (mk5 T) xs = ⟨#[]⟩ := by
          rw [msgT_yes hb (by rw [hw]; exact hT), hw]
          intro e9
          have := congrArg (fun b : ByteArray => b.data.toList.length) e9
          simp at this
          rw [this] at h8
          exact h8 (by simp)
        unfold msgQ
        rw [if_neg (by
          rintro (h | h)
          · exact h8 h
          · rw [hm] at h; cases h), hc, linesQ_of]
        show (mapO (segQ (mk5 T)) _).bind _ = _
        rw [h4]
        show (if msgT (mk5 T) xs = ⟨#[]⟩ then none else some (mk5 T, xs)) = _
        rw [if_neg hmt]
      · rw [if_neg hb] at h2
        cases h2
end Go.Proofs.YtckcfjibiidafaaGreat
/- Rows of Segments that grow. -/
namespace Go.Proofs.YtckcfjibiidafaaGreat
open Go.RowKit
theorem own_blockS {w : World} {B : Nat} {T : TypeId} {n : Nat} {v : Value} {vs : List Value} (h : w.ownsRow B T 2 v n vs) : (n = 0 ∧ v = .slice none 0 0) ∨ ∃ g cap rest, v = .slice (some ⟨g, 0, none⟩) n cap ∧ B ≤ g ∧ g < w.heap.size ∧ n ≤ cap ∧ cap ≤ maxLen ∧ Row w g T (vs ++ rest) := by
  have hl := h.1
  have hlt := h.lt
  rcases h.2 with ⟨rfl, hn⟩ | ⟨g, cap, cur, rfl, hbg, hg, hnc, hcm, hcs, htake⟩
  · exact .inl ⟨hn, rfl⟩
  · refine .inr ⟨g, cap, cur.toList.drop (n * 2), rfl, hbg, (hlt g rfl).2, hnc, hcm, ?_⟩
    have e : vs ++ cur.toList.drop (n * 2) = cur.toList := by rw [← htake, List.take_append_drop]
    rw [e]
    simpa [Row] using hg
theorem Only.grownB {G : Nat} {a b c : World} {row : Option Nat} (h : Only G a b) (hg : b.grownBy c row) (hr : ∀ k, row = Option.some k → a.heap.size ≤ k) : Only G a c :=
  ⟨hg.os.trans h.os, hg.tape.trans h.tape, hg.output.trans h.output, Nat.le_trans h.size hg.size, fun k hk hn => (hg.block k (Nat.lt_of_lt_of_le hk h.size) (fun e => by have := hr k e.symm; omega)).trans (h.block k hk hn)⟩
theorem own_sameB {w w' : World} {B n sz : Nat} {T : TypeId} {v : Value} {xs : List Value} (h : w.ownsRow B T sz v n xs) (hs : Same B w w') : w'.ownsRow B T sz v n xs := by
  have hlt := h.lt
  refine ⟨h.1, ?_⟩
  rcases h.2 with h | ⟨g, cap, cur, rfl, hbg, hg, hnc, hcm, hcs, htake⟩
  · exact .inl h
  · exact .inr ⟨g, cap, cur, rfl, hbg, (hs.block g hbg (hlt g rfl).2).trans hg, hnc, hcm, hcs, htake⟩
def GrowG (base : Nat) (X : World) (l : Value) (cs : List Value) (xs : List Seg) : Prop := ∃ A B : Nat → Nat, (∀ j (h : j < xs.length), cs[j * 2]? = some (.string xs[j].1) ∧ xs[j].1.size ≤ maxLen ∧ base ≤ A j ∧ B j ≤ X.heap.size ∧ (∀ g, l.ownBlock = some g → B j ≤ g ∨ g < A j) ∧ ∃ u, cs[j * 2 + 1]? = some u ∧ OFlds (A j) (B j) X u xs[j].2) ∧ ∀ i j, i < j → j < xs.length → B i ≤ A j
theorem GrowG.nil {base : Nat} {X : World} {l : Value} : GrowG base X l [] [] := ⟨fun _ => 0, fun _ => 0, fun j h => absurd h (by simp), fun i j _ h => absurd h (by simp)⟩
theorem GrowG.same {base : Nat} {X X' : World} {l : Value} {cs : List Value} {xs : List Seg} (h : GrowG base X l cs xs) (hs : Same base X X') : GrowG base X' l cs xs := by
  obtain ⟨A, B, hE, hD⟩ := h
  refine ⟨A, B, fun j hj => ?_, hD⟩
  obtain ⟨f1, f2, f3, f4, f5, u, f6, f7⟩ := hE j hj
  exact ⟨f1, f2, f3, Nat.le_trans f4 hs.size, f5, u, f6, Keeps.go (fun k k1 _ hk => hs.block k (by omega) hk) f7⟩
theorem GrowG.snoc {base a b : Nat} {X Y Z : World} {l v' u : Value} {cs : List Value} {xs : List Seg} {n : ByteArray} {y : Flds} (h : GrowG base X l cs xs) (hcl : cs.length = xs.length * 2) (hlt : ∀ g, l.ownBlock = some g → base ≤ g ∧ g < X.heap.size)
    (hXY : Below X.heap.size X Y) (hbase : base ≤ X.heap.size) (ha : X.heap.size ≤ a) (hb : b ≤ Y.heap.size) (hn : n.size ≤ maxLen) (hR : OFlds a b Y u y) (hgrow : Y.grownBy Z l.ownBlock) (hat : v'.ownBlock = l.ownBlock ∨ v'.ownBlock = some Y.heap.size) :
    GrowG base Z v' (cs ++ [.string n, u]) (xs ++ [(n, y)]) := by
  obtain ⟨A, B, hE, hD⟩ := h
  have hs1 := hXY.size
  have hs2 := hgrow.size
  refine ⟨fun i => if i = xs.length then a else A i, fun i => if i = xs.length then b else B i, fun j hj => ?_, fun i j hij hj => ?_⟩
  · rw [List.length_append] at hj
    dsimp only
    by_cases hjx : j = xs.length
    · subst hjx
      rw [if_pos rfl, if_pos rfl, List.getElem_append_right (Nat.le_refl _)]
      simp only [Nat.sub_self, List.getElem_cons_zero]
      refine ⟨?_, hn, by omega, by omega, fun g hg => ?_, u, ?_, ?_⟩
      · rw [List.getElem?_append_right (by omega), show xs.length * 2 - cs.length = 0 by omega]; rfl
      · rcases hat with e | e
        · rw [e] at hg
          exact .inr (by have := (hlt g hg).2; omega)
        · rw [e] at hg
          cases hg
          exact .inl hb
      · rw [List.getElem?_append_right (by omega), show xs.length * 2 + 1 - cs.length = 1 by omega]; rfl
      · exact Keeps.go (grown_in hgrow (fun g hg => .inr (by have := (hlt g hg).2; omega))) hR
    · have hj2 : j < xs.length := by simp at hj; omega
      obtain ⟨f1, f2, f3, f4, f5, v, f6, f7⟩ := hE j hj2
      rw [if_neg hjx, if_neg hjx, List.getElem_append_left hj2]
      refine ⟨?_, f2, f3, by omega, fun g hg => ?_, v, ?_, ?_⟩
      · rw [List.getElem?_append_left (by omega)]; exact f1
      · rcases hat with e | e
        · rw [e] at hg
          exact f5 g hg
        · rw [e] at hg
          cases hg
          exact .inl (by omega)
      · rw [List.getElem?_append_left (by omega)]; exact f6
      · exact Keeps.go (grown_in hgrow f5) (Keeps.go (SameIn.ofBelow hXY) f7)
  · rw [List.length_append] at hj
    have hj1 : j < xs.length + 1 := by simpa using hj
    have hi : i < xs.length := by omega
    obtain ⟨_, _, _, f4, _⟩ := hE i hi
    dsimp only
    rw [if_neg (show i ≠ xs.length by omega)]
    by_cases hjx : j = xs.length
    · rw [if_pos hjx]; omega
    · rw [if_neg hjx]; exact hD i j hij (by omega)
theorem GrowG.osegs {base : Nat} {X : World} {l : Value} {cs : List Value} {xs : List Seg} (h : GrowG base X l cs xs) (hown : X.ownsRow base 41 2 l xs.length cs) : OSegs base X.heap.size X l xs := by
  obtain ⟨A, B, hE, hD⟩ := h
  have hcl := hown.1
  rcases own_blockS hown with ⟨hn, rfl⟩ | ⟨g, cap2, rest, rfl, hbg, hgs, hnc, hcm, hrow⟩
  · exact ⟨none, 0, by rw [hn], by omega, by unfold maxLen; omega, fun h => by omega⟩
  · refine ⟨_, _, rfl, hnc, hcm, fun _ => ⟨g, cs ++ rest, A, B, rfl, hbg, hgs, hrow, by rw [List.length_append]; omega, fun j hj => ?_, hD⟩⟩
    obtain ⟨f1, f2, f3, f4, f5, u, f6, f7⟩ := hE j hj
    exact ⟨by rw [List.getElem?_append_left (by omega)]; exact f1, f2, f3, f4, f5 g rfl, u, by rw [List.getElem?_append_left (by omega)]; exact f6, f7⟩
/-- Messages that lie in blocks from lo to hi, as some world of before had them. -/
def ORF (lo hi : Nat) (w : World) (v : Value) (xs : Flds) : Prop := ∃ W : World, W.heap.size ≤ hi ∧ RFlds lo W v xs ∧ SameIn lo W.heap.size W w ∧ W.heap.size ≤ w.heap.size
theorem ORF.keep {lo hi : Nat} {w w' : World} {v : Value} {xs : Flds} (h : ORF lo hi w v xs) (hs : SameIn lo hi w w') (hz : w.heap.size ≤ w'.heap.size) : ORF lo hi w' v xs := by
  obtain ⟨W, h1, h2, h3, h4⟩ := h
  exact ⟨W, h1, h2, fun k k1 k2 k3 => (hs k k1 (by omega) (by omega)).trans (h3 k k1 k2 k3), by omega⟩
theorem ORF.rm {lo hi : Nat} {w : World} {v : Value} {xs : Flds} (h : ORF lo hi w v xs) : RFlds lo w v xs := by
  obtain ⟨W, h1, h2, h3, h4⟩ := h
  exact Lasts.go (B := lo) ⟨h4, fun k k1 k2 => h3 k k1 k2 k2⟩ h2
def GrowT (base : Nat) (X : World) (l : Value) (cs : List Value) (xs : List Seg) : Prop := ∃ A B : Nat → Nat, ∀ j (h : j < xs.length), cs[j * 2]? = some (.string xs[j].1) ∧ xs[j].1.size ≤ maxLen ∧ base ≤ A j ∧ B j ≤ X.heap.size ∧ (∀ g, l.ownBlock = some g → B j ≤ g ∨ g < A j) ∧ ∃ u, cs[j * 2 + 1]? = some u ∧ ORF (A j) (B j) X u xs[j].2
theorem GrowT.nil {base : Nat} {X : World} {l : Value} : GrowT base X l [] [] := ⟨fun _ => 0, fun _ => 0, fun j h => absurd h (by simp)⟩
theorem GrowT.same {base : Nat} {X X' : World} {l : Value} {cs : List Value} {xs : List Seg} (h : GrowT base X l cs xs) (hs : Same base X X') : GrowT base X' l cs xs := by
  obtain ⟨A, B, hE⟩ := h
  refine ⟨A, B, fun j hj => ?_⟩
  obtain ⟨f1, f2, f3, f4, f5, u, f6, f7⟩ := hE j hj
  exact ⟨f1, f2, f3, Nat.le_trans f4 hs.size, f5, u, f6, f7.keep (fun k k1 _ hk => hs.block k (by omega) hk) hs.size⟩
theorem GrowT.snoc {base a b : Nat} {X Y Z : World} {l v' u : Value} {cs : List Value} {xs : List Seg} {n : ByteArray} {y : Flds} (h : GrowT base X l cs xs) (hcl : cs.length = xs.length * 2) (hXY : Below X.heap.size X Y) (hbase : base ≤ a) (hb : b ≤ Y.heap.size) (hdis : ∀ g, l.ownBlock = some g → b ≤ g ∨ g < a) (hn : n.size ≤ maxLen) (hR : ORF a b Y u y) (hgrow : Y.grownBy Z l.ownBlock) (hat : v'.ownBlock = l.ownBlock ∨ v'.ownBlock = some Y.heap.size) :
    GrowT base Z v' (cs ++ [.string n, u]) (xs ++ [(n, y)]) := by
  obtain ⟨A, B, hE⟩ := h
  have hs1 := hXY.size
  have hs2 := hgrow.size
  refine ⟨fun i => if i = xs.length then a else A i, fun i => if i = xs.length then b else B i, fun j hj => ?_⟩
  rw [List.length_append] at hj
  dsimp only
  by_cases hjx : j = xs.length
  · subst hjx
    rw [if_pos rfl, if_pos rfl, List.getElem_append_right (Nat.le_refl _)]
    simp only [Nat.sub_self, List.getElem_cons_zero]
    refine ⟨?_, hn, hbase, by omega, fun g hg => ?_, u, ?_, ?_⟩
    · rw [List.getElem?_append_right (by omega), show xs.length * 2 - cs.length = 0 by omega]; rfl
    · rcases hat with e | e
      · rw [e] at hg
        exact hdis g hg
      · rw [e] at hg
        cases hg
        exact .inl hb
    · rw [List.getElem?_append_right (by omega), show xs.length * 2 + 1 - cs.length = 1 by omega]; rfl
    · exact hR.keep (grown_in hgrow hdis) hs2
  · have hj2 : j < xs.length := by simp at hj; omega
    obtain ⟨f1, f2, f3, f4, f5, v, f6, f7⟩ := hE j hj2
    rw [if_neg hjx, if_neg hjx, List.getElem_append_left hj2]
    refine ⟨?_, f2, f3, by omega, fun g hg => ?_, v, ?_, ?_⟩
    · rw [List.getElem?_append_left (by omega)]; exact f1
    · rcases hat with e | e
      · rw [e] at hg
        exact f5 g hg
      · rw [e] at hg
        cases hg
        exact .inl (by omega)
    · rw [List.getElem?_append_left (by omega)]; exact f6
    · exact (f7.keep (SameIn.ofBelow hXY) hs1).keep (grown_in hgrow f5) hs2
theorem GrowT.rsegs {base : Nat} {X : World} {l : Value} {cs : List Value} {xs : List Seg} (h : GrowT base X l cs xs) (hown : X.ownsRow base 41 2 l xs.length cs) : RSegs base X l xs := by
  obtain ⟨A, B, hE⟩ := h
  have hcl := hown.1
  rcases own_blockS hown with ⟨hn, rfl⟩ | ⟨g, cap2, rest, rfl, hbg, hgs, hnc, hcm, hrow⟩
  · exact ⟨none, 0, by rw [hn], by omega, by unfold maxLen; omega, fun h => by omega⟩
  · refine ⟨_, _, rfl, hnc, hcm, fun _ => ⟨g, 0, rfl, hrow.lt, hbg, fun j hj => ?_⟩⟩
    obtain ⟨f1, f2, f3, f4, f5, u, f6, f7⟩ := hE j hj
    exact ⟨by rw [Nat.zero_add, hrow.cell, List.getElem?_append_left (by omega)]; exact f1, f2, u, by rw [Nat.zero_add, hrow.cell, List.getElem?_append_left (by omega)]; exact f6, RFlds.mono f7.rm f3⟩
end Go.Proofs.YtckcfjibiidafaaGreat
