/- What the program and the model read out of a Field's text: the right Field whose text it is. Lists alone. -/
import Derived.Test.YtckcfjibiidafaaGreatXG5FSameM
import Derived.Test.YtckcfjibiidafaaGreatXG2FBuf
namespace Go.Proofs.YtckcfjibiidafaaGreat
open Go.RowKit
def mapO {γ β : Type} (rd : γ → Option β) : List γ → Option (List β)
  | [] => some []
  | a :: r => match rd a with
    | none => none
    | some x => (mapO rd r).map (x :: ·)
theorem mapO_some {γ β : Type} {rd : γ → Option β} {tx : β → γ} (h : ∀ p x, rd p = some x → tx x = p) : ∀ (ps : List γ) (xs : List β), mapO rd ps = some xs → xs.map tx = ps
  | [], xs, e => by
    simp only [mapO, Option.some.injEq] at e
    subst e
    rfl
  | a :: r, xs, e => by
    rw [mapO] at e
    cases ha : rd a with
    | none => rw [ha] at e; simp at e
    | some x =>
      rw [ha] at e
      simp only [Option.map_eq_some_iff] at e
      obtain ⟨ys, h1, rfl⟩ := e
      rw [List.map_cons, mapO_some h r ys h1, h a x ha]
theorem mapO_map {γ β : Type} {rd : γ → Option β} {tx : β → γ} : ∀ (xs : List β), (∀ x ∈ xs, rd (tx x) = some x) → mapO rd (xs.map tx) = some xs
  | [], _ => rfl
  | x :: r, h => by
    rw [List.map_cons, mapO, h x (List.mem_cons_self ..)]
    simp only
    rw [mapO_map r (fun y hy => h y (List.mem_cons_of_mem _ hy))]
    rfl
/-- How the program reads a list. -/
def readL {β : Type} (s : UInt8) (rd : List UInt8 → Option β) (L : List UInt8) : Option (List β) := if L = [] then some [] else mapO rd (cutL s L)
theorem jnF_map {α : Type} (s : UInt8) (f : α → List UInt8) : ∀ (i : Nat) (xs : List α), jnF s (fun p => p) i (xs.map f) = jnF s f i xs
  | _, [] => rfl
  | i, x :: r => by rw [List.map_cons, jnF, jnF, jnF_map s f (i + 1) r]
theorem readL_some {β : Type} {s : UInt8} {rd : List UInt8 → Option β} {tx : β → List UInt8} (h : ∀ p x, rd p = some x → tx x = p) (L : List UInt8) (xs : List β) (e : readL s rd L = some xs) : jnF s tx 0 xs = L := by
  unfold readL at e
  by_cases hL : L = []
  · rw [if_pos hL] at e
    simp only [Option.some.injEq] at e
    subst e
    rw [hL]
    rfl
  · rw [if_neg hL] at e
    rw [← jnF_map, mapO_some h _ _ e, cutL_join]
theorem readL_of {β : Type} {s : UInt8} {rd : List UInt8 → Option β} {tx : β → List UInt8} (xs : List β) (h : ∀ x ∈ xs, rd (tx x) = some x ∧ s ∉ tx x) (h0 : jnF s tx 0 xs = [] → xs = []) : readL s rd (jnF s tx 0 xs) = some xs := by
  unfold readL
  by_cases hL : jnF s tx 0 xs = []
  · rw [if_pos hL, h0 hL]
  · rw [if_neg hL]
    cases xs with
    | nil => exact absurd rfl hL
    | cons x r => rw [cutL_jn s tx x r (fun y hy => (h y hy).2), mapO_map _ (fun y hy => (h y hy).1)]
/-- The list without what is empty at its end. -/
def trimR {α : Type} (emp : α → Bool) : List α → List α
  | [] => []
  | x :: r => match trimR emp r with
    | [] => if emp x then [] else [x]
    | y :: t => x :: y :: t
theorem trimR_end {α : Type} (emp : α → Bool) : ∀ xs : List α, endEmpty emp xs = false → trimR emp xs = xs
  | [], _ => rfl
  | [x], h => by
    have h1 : emp x = false := by simpa [endEmpty] using h
    simp [trimR, h1]
  | x :: y :: r, h => by
    have h1 : endEmpty emp (y :: r) = false := by simpa [endEmpty, List.getLast?_cons_cons] using h
    rw [trimR, trimR_end emp (y :: r) h1]
theorem trimR_cut {β : Type} {s : UInt8} {rd : List UInt8 → β} {tx : β → List UInt8} {emp : β → Bool} (xs : List β) (h : ∀ x ∈ xs, rd (tx x) = x ∧ s ∉ tx x) (he : endEmpty emp xs = false) (h0 : emp (rd []) = true) : trimR emp ((cutL s (jnF s tx 0 xs)).map rd) = xs := by
  cases xs with
  | nil =>
    show trimR emp [rd []] = []
    simp [trimR, h0]
  | cons x r =>
    rw [cutL_jn s tx x r (fun y hy => (h y hy).2), List.map_map]
    have e : (x :: r).map (rd ∘ tx) = x :: r := by
      have h1 : (x :: r).map (rd ∘ tx) = (x :: r).map id := List.map_congr_left fun y hy => (h y hy).1
      rw [h1, List.map_id]
    rw [e, trimR_end emp _ he]
theorem right_parts {α : Type} {f emp : α → Bool} {most : Nat} {xs : List α} (h : rightB f emp most xs = true) : (∀ x ∈ xs, f x = true) ∧ endEmpty emp xs = false := by
  simp only [rightB, Bool.and_eq_true, Bool.not_eq_true'] at h
  exact ⟨fun x hx => List.all_eq_true.1 h.1.1 x hx, h.2⟩
/-- The program's reading, without the test for a right Field. -/
def subP (m : ByteArray) (L : List UInt8) : Option ByteArray := (plainL m L).map fun u => ⟨u.toArray⟩
def compP (m : ByteArray) : List UInt8 → Option (List ByteArray) := readL (bAt m 4) (subP m)
def repP (m : ByteArray) : List UInt8 → Option (List (List ByteArray)) := readL (bAt m 1) (compP m)
def fldP (m : ByteArray) : List UInt8 → Option (List (List (List ByteArray))) := readL (bAt m 2) (repP m)
/-- The model's reading, likewise. -/
def subM (m : ByteArray) (L : List UInt8) : ByteArray := ⟨(unescL m L).toArray⟩
def compM (m : ByteArray) (L : List UInt8) : List ByteArray := trimR empS ((cutL (bAt m 4) L).map (subM m))
def repM (m : ByteArray) (L : List UInt8) : List (List ByteArray) := trimR empL ((cutL (bAt m 1) L).map (compM m))
def fldM (m : ByteArray) (L : List UInt8) : List (List (List ByteArray)) := trimR empL ((cutL (bAt m 2) L).map (repM m))
theorem plainB_all {s : ByteArray} (h : plainB s = true) : ∀ c ∈ s.data.toList, plainR (c.toNat : Int) = true := by
  intro c hc
  obtain ⟨i, hi, e⟩ := List.getElem_of_mem hc
  have hi' : i < s.size := by simpa using hi
  have h1 := List.all_eq_true.1 h i (List.mem_range.2 hi')
  rw [plainAt_eq s i hi'] at h1
  rw [← e]
  exact h1
theorem subP_some {m : ByteArray} (h : marksB m = true) (p : List UInt8) (x : ByteArray) (e : subP m p = some x) : subT m x = p := by
  unfold subP at e
  simp only [Option.map_eq_some_iff] at e
  obtain ⟨u, h1, rfl⟩ := e
  exact ((plain_iff h p u).1 h1).2.2
theorem fldP_some {m : ByteArray} (h : marksB m = true) (L : List UInt8) (f : List (List (List ByteArray))) (e : fldP m L = some f) : fldT m f = L :=
  readL_some (readL_some (readL_some (subP_some h))) L f e
theorem subP_of {m x : ByteArray} (h : marksB m = true) (hx : subB x = true) : subP m (subT m x) = some x := by
  unfold subP subT
  rw [plain_esc h _ (plainB_all (subB_plain hx).1)]
  simp
theorem compP_of {m : ByteArray} {x : List ByteArray} (h : marksB m = true) (hx : compB x = true) : compP m (compT m x) = some x :=
  readL_of x (fun s hs => ⟨subP_of h ((right_parts hx).1 s hs), subT_noin h 4 (by omega) (by omega) s⟩) (compT_nil hx)
theorem repP_of {m : ByteArray} {x : List (List ByteArray)} (h : marksB m = true) (hx : repB x = true) : repP m (repT m x) = some x :=
  readL_of x (fun s hs => ⟨compP_of h ((right_parts hx).1 s hs), compT_noin h 1 (by omega) (by omega) s⟩) (repT_nil hx)
theorem fldP_of {m : ByteArray} {x : List (List (List ByteArray))} (h : marksB m = true) (hx : fldB x = true) : fldP m (fldT m x) = some x :=
  readL_of x (fun s hs => ⟨repP_of h ((right_parts hx).1 s hs), repT_noin h 2 (by omega) (by omega) (by omega) s⟩) (fldT_nil hx)
theorem subM_of {m x : ByteArray} (h : marksB m = true) : subM m (subT m x) = x := by
  unfold subM subT
  rw [unesc_esc h]
theorem compM_nil (m : ByteArray) : compM m [] = [] := by
  simp [compM, cutL, subM, unescL_nil, trimR, empS, ByteArray.size]
theorem repM_nil (m : ByteArray) : repM m [] = [] := by
  simp [repM, cutL, compM_nil, trimR, empL]
theorem compM_of {m : ByteArray} {x : List ByteArray} (h : marksB m = true) (hx : compB x = true) : compM m (compT m x) = x :=
  trimR_cut x (fun s _ => ⟨subM_of h, subT_noin h 4 (by omega) (by omega) s⟩) (right_parts hx).2 (by simp [subM, unescL_nil, empS, ByteArray.size])
theorem repM_of {m : ByteArray} {x : List (List ByteArray)} (h : marksB m = true) (hx : repB x = true) : repM m (repT m x) = x :=
  trimR_cut x (fun s hs => ⟨compM_of h ((right_parts hx).1 s hs), compT_noin h 1 (by omega) (by omega) s⟩) (right_parts hx).2 (by simp [compM_nil, empL])
theorem fldM_of {m : ByteArray} {x : List (List (List ByteArray))} (h : marksB m = true) (hx : fldB x = true) : fldM m (fldT m x) = x :=
  trimR_cut x (fun s hs => ⟨repM_of h ((right_parts hx).1 s hs), repT_noin h 2 (by omega) (by omega) (by omega) s⟩) (right_parts hx).2 (by simp [repM_nil, empL])
/-- Both read just the right Field whose text it is. -/
theorem fldP_iff {m : ByteArray} (h : marksB m = true) (L : List UInt8) (f : List (List (List ByteArray))) : (fldP m L = some f ∧ fldB f = true) ↔ (fldB f = true ∧ fldT m f = L) :=
  ⟨fun ⟨h1, h2⟩ => ⟨h2, fldP_some h L f h1⟩, fun ⟨h1, h2⟩ => ⟨by rw [← h2]; exact fldP_of h h1, h1⟩⟩
theorem fldM_iff {m : ByteArray} (h : marksB m = true) (L : List UInt8) (f : List (List (List ByteArray))) : (fldM m L = f ∧ fldB f = true ∧ fldT m f = L) ↔ (fldB f = true ∧ fldT m f = L) :=
  ⟨fun h1 => h1.2, fun ⟨h1, h2⟩ => ⟨by rw [← h2]; exact fldM_of h h1, h1, h2⟩⟩
end Go.Proofs.YtckcfjibiidafaaGreat
/- EscapeOf of the program and of the model. -/
namespace Go.Proofs.YtckcfjibiidafaaGreat
open Go.RowKit

theorem bufEmpty (e : TypeId) (w : World) : Buf e w.heap.size w (w.alloc (.cells #[] e)) (.slice (some ⟨w.heap.size, 0, none⟩) 0 0) [] :=
  ⟨World.ownsRow_made w #[] 0 (Nat.le_refl _) (by unfold maxLen; omega) rfl, (Below.refl _ _).alloc (Nat.le_refl _) _, Nat.le_refl _, (Lib.OthersKept.refl _ _ _).alloc _⟩

set_option maxHeartbeats 4000000 in
set_option maxRecDepth 100000 in
theorem l04Escape_any (m s : ByteArray) (w : World) (hm : m.size = 5) (hs : s.size ≤ 20000000) :
    Calls Tryz.prog 43 #[.string m, .string s] w fun e w' => e = .returned (.string ⟨(escL m s.data.toList).toArray⟩) ∧ Below w.heap.size w w' := by
  go_enter Tryz.func43, Tryz.ntmps43
  go_wp2
  go_loopw [5, 6] (fun v' i w' => ∃ (X : World) (k : Nat), X = w' ∧ k ≤ s.size ∧ i = .int .i64 k ∧ Buf 5 w.heap.size w w' v' (escL m (s.data.toList.take k))) (fun _ i _ => s.size - (intOf i).toNat)
  case atStart =>
    exact ⟨_, 0, rfl, Nat.zero_le _, rfl, by
      simp only [List.take_zero, escL, List.flatMap_nil]
      exact bufEmpty _ _⟩
  case round =>
    obtain ⟨X, k, rfl, hk, rfl, hbuf⟩ := hrel
    have HBf := hideF hbuf
    clear hbuf
    by_cases hlt : k < s.size
    · go_wp2_with fail
      refine (l04At_any m (s[k]'hlt) _ (by unfold maxLen; omega)).mono ?_
      rintro e w' ⟨rfl, rfl⟩
      have hl := escL_len m (s.data.toList.take k)
      rw [List.length_take, bytes_len] at hl
      by_cases hneg : Lib.indexByte m.data.toList (s[k]'hlt) < 0
      · have hneg2 : ¬ 0 ≤ Lib.indexByte m.data.toList (s[k]'hlt) := by omega
        have hesc : escOne m (s[k]'hlt) = [s[k]'hlt] := by unfold escOne; rw [if_neg (by omega)]
        have HE := hideF hesc
        clear hesc
        have HB3 := hideF (HBf.out.alloc (.cells #[.int .u8 ((s[k]'hlt).toNat : Int)] 5))
        have HC := hideF (heap_alloc_new w' (.cells #[.int .u8 ((s[k]'hlt).toNat : Int)] 5))
        have hl2 : (escL m (s.data.toList.take k)).length + [s[k]'hlt].length ≤ 100000000 := by simp only [List.length_cons, List.length_nil]; omega
        have HL2 := hideF hl2
        clear hl hl2
        go_wp2_with (at_builtin; refine wpList_buf rfl (.tmp 32) (.tmp 36) 74 rfl w.heap.size 5 Tryz.underlying74 Tryz.infoByte _ _ rfl HB3.out w'.heap.size 1 [s[k]'hlt] rfl rfl ⟨_, HC.out⟩ HL2.out ?_)
        intro v2 w2 hb2
        have HB4 := hideF hb2
        clear hb2
        go_wp2
        go_roundw
        case rel =>
          refine ⟨_, k + 1, rfl, by omega, by go_num, ?_⟩
          rw [take_snoc s k hlt, escL_snoc, HE.out]
          exact HB4.out
        case measure => simp [intOf]; omega
      · obtain ⟨q, hq⟩ : ∃ q : Nat, Lib.indexByte m.data.toList (s[k]'hlt) = q := ⟨_, (Int.toNat_of_nonneg (by omega)).symm⟩
        have hq5 : q < 5 := by have := indexByte_lt m.data.toList (s[k]'hlt); rw [bytes_len] at this; omega
        have hesc : escOne m (s[k]'hlt) = [bAt m 3, letters.getD q 0, bAt m 3] := by unfold escOne; rw [if_pos (by omega), hq]; rfl
        have HE := hideF hesc
        clear hesc
        rw [hq]
        clear hq hneg
        have h3 := bAt_get m 3 (by omega)
        have hlq := letter_get q hq5
        have hl2 : (escL m (s.data.toList.take k)).length + [bAt m 3, letters.getD q 0, bAt m 3].length ≤ 100000000 := by simp only [List.length_cons, List.length_nil]; omega
        have HL2 := hideF hl2
        clear hl hl2
        rw [h3, hlq.symm] at HE
        rw [h3, hlq.symm] at HL2
        clear h3 hlq
        have h3m : 3 < m.size := by omega
        have hq5i : (q : Int) < 5 := by omega
        go_wp2_with fail
        go_region_held3 (fun _ => True) (trivial)
          ((first
            | (go_at_call 57; refine (l04Letters_any _).mono ?_; rintro e w3 ⟨rfl, rfl⟩)
            | (refine step_buf (w0 := w) ?_ (.tmp 22) (.tmp 30) 74 ?_ w.heap.size 5 Tryz.underlying74 Tryz.infoByte u5 (escL m (s.data.toList.take k)) ?_ ?_ w'.heap.size 3 [m[3]'h3m, (⟨#[70, 83, 82, 69, 84]⟩ : ByteArray)[q]'(show q < 5 from hq5), m[3]'h3m] ?_ ?_ ?_ ?_ ?_; rfl; rfl; rfl; (repeat (first | with_reducible exact HBf.out | with_reducible refine Buf.drew ?_ | with_reducible refine Buf.alloc ?_ _)); rfl; rfl; exact ⟨_, alloc_drew_new _ _⟩; exact HL2.out; intro v2 w2 hb2; have HB5 := hideF hb2; clear hb2)))
        all_goals
          go_wp2
          go_roundw
          case rel =>
            refine ⟨_, k + 1, rfl, by omega, by go_num, ?_⟩
            rw [take_snoc s k hlt, escL_snoc, HE.out]
            exact HB5.out
          case measure => simp [intOf]; omega
    · have e1 : k = s.size := by omega
      subst e1
      have e2 : s.data.toList.take s.size = s.data.toList := List.take_of_length_le (by simp)
      rw [e2] at HBf
      have hcv := HBf.out.text (P := Tryz.prog) Tryz.underlying74 Tryz.underlying5 Tryz.underlying9
      go_wp2
      go_ret
      exact ⟨rfl, HBf.out.below⟩

def escB (m t : ByteArray) : ByteArray := if marksB m && (plainB t && decide (t.size ≤ 400)) then ⟨(escL m t.data.toList).toArray⟩ else ⟨#[]⟩
theorem escB_yes {m t : ByteArray} (h1 : marksB m = true) (h2 : plainB t = true) (h3 : t.size ≤ 400) : escB m t = ⟨(escL m t.data.toList).toArray⟩ := by simp [escB, h1, h2, h3]
theorem escB_marks {m t : ByteArray} (h1 : marksB m = false) : escB m t = ⟨#[]⟩ := by simp [escB, h1]
theorem escB_plain {m t : ByteArray} (h1 : plainB t = false) : escB m t = ⟨#[]⟩ := by simp [escB, h1]
theorem escB_long {m t : ByteArray} (h1 : 400 < t.size) : escB m t = ⟨#[]⟩ := by
  have : ¬ t.size ≤ 400 := by omega
  simp [escB, this]
theorem marksB_five {m : ByteArray} (h : marksB m = true) : m.size = 5 := by
  simp [marksB] at h
  exact h.1
theorem ret_str {a b : ByteArray} (h : a = b) : Ending.returned (.string a) = .returned (.string b) := by rw [h]

end Go.Proofs.YtckcfjibiidafaaGreat
