/- Lists of lists of texts in memory of one's own: each list in a row of its own, none met twice; what writes into some of it leaves. -/
import Derived.Test.YtelhgpogfedchaaFNest
import Derived.Test.YtelhgpogfedchaaMark
namespace Go.Proofs.Ytelhgpogfedchaa
open Go.RowKit
/-- w' is w with new blocks, and with writes into the blocks from lo to hi alone. -/
structure Within (lo hi : Nat) (w w' : World) : Prop where
  os : w'.os = w.os
  tape : w'.tape = w.tape
  output : w'.output = w.output
  size : w.heap.size ≤ w'.heap.size
  block : ∀ k, k < w.heap.size → (k < lo ∨ hi ≤ k) → w'.heap[k]? = w.heap[k]?
theorem Within.refl (lo hi : Nat) (w : World) : Within lo hi w w := ⟨rfl, rfl, rfl, Nat.le_refl _, fun _ _ _ => rfl⟩
theorem Within.ofBelow {lo hi : Nat} {w w' : World} (h : Below w.heap.size w w') : Within lo hi w w' := ⟨h.os, h.tape, h.output, h.size, fun k hk _ => h.block k hk⟩
theorem Within.trans {lo hi : Nat} {a b c : World} (h : Within lo hi a b) (k : Within lo hi b c) : Within lo hi a c :=
  ⟨k.os.trans h.os, k.tape.trans h.tape, k.output.trans h.output, Nat.le_trans h.size k.size, fun i hi ho => (k.block i (Nat.lt_of_lt_of_le hi h.size) ho).trans (h.block i hi ho)⟩
theorem Within.mono {lo hi lo' hi' : Nat} {w w' : World} (h : Within lo hi w w') (h1 : lo' ≤ lo) (h2 : hi ≤ hi') : Within lo' hi' w w' := ⟨h.os, h.tape, h.output, h.size, fun k hk ho => h.block k hk (by omega)⟩
theorem Within.toBelow {lo hi B : Nat} {w0 w w' : World} (h : Within lo hi w w') (hb : Below B w0 w) (hB : B ≤ lo) (hs : B ≤ w.heap.size) : Below B w0 w' :=
  ⟨h.os.trans hb.os, h.tape.trans hb.tape, h.output.trans hb.output, Nat.le_trans hb.size h.size, fun k hk => (h.block k (by omega) (.inl (by omega))).trans (hb.block k hk)⟩
theorem Within.ofOnly {lo hi G : Nat} {w w' : World} (h : Only G w w') (h1 : lo ≤ G) (h2 : G < hi) : Within lo hi w w' :=
  ⟨h.os, h.tape, h.output, h.size, fun k hk ho => h.block k hk (fun e => by cases e; omega)⟩
theorem Within.row {lo hi g : Nat} {w w' : World} {T : TypeId} {cs : List Value} (h : Within lo hi w w') (hr : Row w g T cs) (ho : g < lo ∨ hi ≤ g) : Row w' g T cs := by
  unfold Row; rw [h.block g hr.lt ho]; exact hr
/-- The blocks from lo to hi that w has, w' has too. -/
def SameIn (lo hi : Nat) (w w' : World) : Prop := ∀ k, lo ≤ k → k < hi → k < w.heap.size → w'.heap[k]? = w.heap[k]?
theorem SameIn.ofBelow {lo hi : Nat} {w w' : World} (h : Below w.heap.size w w') : SameIn lo hi w w' := fun k _ _ hk => h.block k hk
theorem Within.same {lo hi a b : Nat} {w w' : World} (h : Within lo hi w w') (ho : b ≤ lo ∨ hi ≤ a) : SameIn a b w w' := fun k h1 h2 hk => h.block k hk (by omega)
theorem SameIn.mono {lo hi a b : Nat} {w w' : World} (h : SameIn lo hi w w') (h1 : lo ≤ a) (h2 : b ≤ hi) : SameIn a b w w' := fun k k1 k2 hk => h k (by omega) (by omega) hk
theorem SameIn.row {lo hi g : Nat} {w w' : World} {T : TypeId} {cs : List Value} (h : SameIn lo hi w w') (hr : Row w g T cs) (h1 : lo ≤ g) (h2 : g < hi) : Row w' g T cs := by
  unfold Row; rw [h g h1 h2 hr.lt]; exact hr
class Keeps {α : Type} (R : Nat → Nat → World → Value → α → Prop) : Prop where
  go : ∀ {lo hi : Nat} {w w' : World} {v : Value} {x : α}, SameIn lo hi w w' → R lo hi w v x → R lo hi w' v x
  wide : ∀ {lo hi lo' hi' : Nat} {w : World} {v : Value} {x : α}, lo' ≤ lo → hi ≤ hi' → R lo hi w v x → R lo' hi' w v x
/-- The slice v is of texts, in a row of its own. -/
def OS (T : TypeId) (lo hi : Nat) (w : World) (v : Value) (xs : List ByteArray) : Prop :=
  ∃ p cap, v = .slice p xs.length cap ∧ xs.length ≤ cap ∧ cap ≤ maxLen ∧ (∀ x ∈ xs, x.size ≤ maxLen) ∧
    (0 < xs.length → ∃ g rest, p = some ⟨g, 0, none⟩ ∧ lo ≤ g ∧ g < hi ∧ xs.length + rest.length = cap ∧ Row w g T (strs xs ++ rest))
instance (T : TypeId) : Keeps (OS T) := ⟨fun {lo hi w w' v x} hs h => by
    obtain ⟨p, cap, rfl, h1, h2, h3, h4⟩ := h
    refine ⟨p, cap, rfl, h1, h2, h3, fun h0 => ?_⟩
    obtain ⟨g, rest, rfl, a, b, c, hr⟩ := h4 h0
    exact ⟨g, rest, rfl, a, b, c, hs.row hr a b⟩,
  fun {lo hi lo' hi' w v x} hl hh h => by
    obtain ⟨p, cap, rfl, h1, h2, h3, h4⟩ := h
    refine ⟨p, cap, rfl, h1, h2, h3, fun h0 => ?_⟩
    obtain ⟨g, rest, rfl, a, b, c, hr⟩ := h4 h0
    exact ⟨g, rest, rfl, by omega, by omega, c, hr⟩⟩
/-- The slice v is of lists (one cell each), in a row of its own; each of them lies in blocks of its own. -/
def OL {α : Type} (T : TypeId) (R : Nat → Nat → World → Value → α → Prop) (lo hi : Nat) (w : World) (v : Value) (xs : List α) : Prop :=
  ∃ p cap, v = .slice p xs.length cap ∧ xs.length ≤ cap ∧ cap ≤ maxLen ∧
    (0 < xs.length → ∃ (g : Nat) (vs rest : List Value) (A B : Nat → Nat), p = some ⟨g, 0, none⟩ ∧ lo ≤ g ∧ g < hi ∧ Row w g T (vs ++ rest) ∧ vs.length = xs.length ∧
      (∀ i (h1 : i < vs.length) (h2 : i < xs.length), lo ≤ A i ∧ B i ≤ hi ∧ (B i ≤ g ∨ g < A i) ∧ R (A i) (B i) w vs[i] xs[i]) ∧ (∀ i j, i < j → j < xs.length → B i ≤ A j))
instance {α : Type} (T : TypeId) (R : Nat → Nat → World → Value → α → Prop) [Keeps R] : Keeps (OL T R) := ⟨fun {lo hi w w' v x} hs h => by
    obtain ⟨p, cap, rfl, h1, h2, h4⟩ := h
    refine ⟨p, cap, rfl, h1, h2, fun h0 => ?_⟩
    obtain ⟨g, vs, rest, A, B, rfl, a, b, hr, hl, hE, hD⟩ := h4 h0
    refine ⟨g, vs, rest, A, B, rfl, a, b, hs.row hr a b, hl, fun i k1 k2 => ?_, hD⟩
    obtain ⟨e1, e2, e3, e4⟩ := hE i k1 k2
    exact ⟨e1, e2, e3, Keeps.go (hs.mono e1 e2) e4⟩,
  fun {lo hi lo' hi' w v x} hl hh h => by
    obtain ⟨p, cap, rfl, h1, h2, h4⟩ := h
    refine ⟨p, cap, rfl, h1, h2, fun h0 => ?_⟩
    obtain ⟨g, vs, rest, A, B, rfl, a, b, hr, hln, hE, hD⟩ := h4 h0
    refine ⟨g, vs, rest, A, B, rfl, by omega, by omega, hr, hln, fun i k1 k2 => ?_, hD⟩
    obtain ⟨e1, e2, e3, e4⟩ := hE i k1 k2
    exact ⟨by omega, by omega, e3, e4⟩⟩
theorem OS.isSlice {T : TypeId} {lo hi : Nat} {w : World} {v : Value} {xs : List ByteArray} (h : OS T lo hi w v xs) : ∃ p c, v = .slice p xs.length c := by
  obtain ⟨p, c, e, _⟩ := h
  exact ⟨p, c, e⟩
theorem OL.isSlice {α : Type} {T : TypeId} {R : Nat → Nat → World → Value → α → Prop} {lo hi : Nat} {w : World} {v : Value} {xs : List α} (h : OL T R lo hi w v xs) : ∃ p c, v = .slice p xs.length c := by
  obtain ⟨p, c, e, _⟩ := h
  exact ⟨p, c, e⟩
theorem OS.rl {T : TypeId} {lo hi : Nat} {w : World} {v : Value} {xs : List ByteArray} (h : OS T lo hi w v xs) : RComp lo w v xs := by
  obtain ⟨p, cap, rfl, h1, h2, h3, h4⟩ := h
  refine ⟨p, cap, rfl, h1, h2, fun h0 => ?_⟩
  obtain ⟨g, rest, rfl, a, b, c, hr⟩ := h4 h0
  exact ⟨g, 0, rfl, hr.lt, a, fun i hi => ⟨.string xs[i], by rw [Nat.zero_add, hr.cell, List.getElem?_append_left (by rw [strs_len]; exact hi)]; simp [strs, hi], rfl, h3 _ (List.getElem_mem hi)⟩⟩
theorem OL.rl {α : Type} {T : TypeId} {R : Nat → Nat → World → Value → α → Prop} {R' : World → Value → α → Prop} {lo hi : Nat} {w : World} {v : Value} {xs : List α} (h : OL T R lo hi w v xs) (hR : ∀ a b u x, lo ≤ a → R a b w u x → R' w u x) : RL lo R' w v xs := by
  obtain ⟨p, cap, rfl, h1, h2, h4⟩ := h
  refine ⟨p, cap, rfl, h1, h2, fun h0 => ?_⟩
  obtain ⟨g, vs, rest, A, B, rfl, a, b, hr, hl, hE, hD⟩ := h4 h0
  refine ⟨g, 0, rfl, hr.lt, a, fun i hi => ?_⟩
  obtain ⟨e1, _, _, e4⟩ := hE i (by omega) hi
  exact ⟨_, by rw [Nat.zero_add, hr.cell, List.getElem?_append_left (by omega), List.getElem?_eq_getElem (by omega)], hR _ _ _ _ e1 e4⟩
abbrev OComp := OS 9
abbrev ORep := OL 71 OComp
abbrev OFld := OL 69 ORep
theorem ORep.rl {lo hi : Nat} {w : World} {v : Value} {xs : List (List ByteArray)} (h : ORep lo hi w v xs) : RRep lo w v xs := OL.rl h fun _ _ _ _ ha h => RComp.mono (OS.rl h) ha
theorem OFld.rl {lo hi : Nat} {w : World} {v : Value} {xs : List (List (List ByteArray))} (h : OFld lo hi w v xs) : RFld lo w v xs := OL.rl h fun _ _ _ _ ha h => RRep.mono (ORep.rl h) ha
/-- How many texts, and the texts that mark them from the number k on. -/
def cntL {α : Type} (c : α → Nat) (xs : List α) : Nat := (xs.map c).sum
def mkL {α : Type} (c : α → Nat) (mk : Nat → α → α) : Nat → List α → List α
  | _, [] => []
  | k, x :: r => mk k x :: mkL c mk (k + c x) r
def cntC : List ByteArray → Nat := List.length
def cntR : List (List ByteArray) → Nat := cntL cntC
def cntF : List (List (List ByteArray)) → Nat := cntL cntR
def mkC (k : Nat) (x : List ByteArray) : List ByteArray := marks k x.length
def mkR : Nat → List (List ByteArray) → List (List ByteArray) := mkL cntC mkC
def mkF : Nat → List (List (List ByteArray)) → List (List (List ByteArray)) := mkL cntR mkR
theorem mkL_len {α : Type} (c : α → Nat) (mk : Nat → α → α) : ∀ (xs : List α) (k : Nat), (mkL c mk k xs).length = xs.length
  | [], _ => rfl
  | x :: r, k => by simp [mkL, mkL_len c mk r]
theorem mkL_get {α : Type} (c : α → Nat) (mk : Nat → α → α) : ∀ (xs : List α) (k i : Nat) (h : i < xs.length) (h' : i < (mkL c mk k xs).length), (mkL c mk k xs)[i] = mk (k + cntL c (xs.take i)) xs[i]
  | x :: r, k, 0, _, _ => by simp [mkL, cntL]
  | x :: r, k, i + 1, h, h' => by
    simp only [mkL, List.getElem_cons_succ, List.take_succ_cons]
    rw [mkL_get c mk r (k + c x) i (by simpa using h)]
    simp [cntL, Nat.add_assoc]
theorem cntL_snoc {α : Type} (c : α → Nat) (xs : List α) (i : Nat) (h : i < xs.length) : cntL c (xs.take (i + 1)) = cntL c (xs.take i) + c xs[i] := by
  rw [List.take_succ_eq_append_getElem h]
  simp only [cntL, List.map_append, List.sum_append, List.map_cons, List.map_nil, List.sum_cons, List.sum_nil, Nat.add_zero]
theorem cntL_take {α : Type} (c : α → Nat) (xs : List α) (i : Nat) : cntL c (xs.take i) ≤ cntL c xs := by
  have e : xs = xs.take i ++ xs.drop i := (List.take_append_drop i xs).symm
  have h : cntL c xs = cntL c (xs.take i) + cntL c (xs.drop i) := by
    conv => lhs; rw [e]
    simp only [cntL, List.map_append, List.sum_append]
  omega
theorem cntL_le {α : Type} (c f : α → Nat) (h : ∀ x, c x ≤ f x) : ∀ xs : List α, cntL c xs ≤ wL f xs
  | [] => by simp [cntL, wL]
  | x :: r => by
    have h1 := h x
    have h2 := cntL_le c f h r
    simp only [cntL, wL, List.map_cons, List.sum_cons, List.length_cons] at h2 ⊢
    omega
theorem cntC_le (x : List ByteArray) : cntC x ≤ wComp x := wL_len _ x
theorem cntR_le (x : List (List ByteArray)) : cntR x ≤ wRep x := cntL_le _ _ cntC_le x
theorem cntF_le (x : List (List (List ByteArray))) : cntF x ≤ wFld x := cntL_le _ _ cntR_le x
theorem markTo_sizeO (f : Nat) : ∀ (k : Nat) (out : ByteArray), (markTo f k out).size ≤ out.size + k := by
  induction f with
  | zero => intro k out; exact Nat.le_add_right _ _
  | succ f ih =>
    intro k out
    rw [markTo]
    split
    · omega
    · have := ih (k / 10) (oneByte (48 + (k : Int) % 10) ++ out)
      have h1 : (oneByte (48 + (k : Int) % 10)).size = 1 := rfl
      rw [ByteArray.size_append, h1] at this
      omega
theorem markOf_sizeO (k : Nat) : (markOf k).size ≤ k + 2 := by
  unfold markOf
  split
  · show 2 ≤ k + 2; omega
  · rw [ByteArray.size_append]
    have := markTo_sizeO k k ⟨#[]⟩
    have h0 : (⟨#[]⟩ : ByteArray).size = 0 := rfl
    have h1 : (⟨#[109]⟩ : ByteArray).size = 1 := rfl
    omega
theorem marks_sizeO (k n : Nat) (h : k + n ≤ 100000000) : ∀ x ∈ marks k n, x.size ≤ maxLen := by
  intro x hx
  simp only [marks, List.mem_map, List.mem_range] at hx
  obtain ⟨i, hi, rfl⟩ := hx
  have := markOf_sizeO (k + i)
  unfold maxLen; omega
set_option maxHeartbeats 1000000 in
theorem markT_own (lo hi : Nat) (v : Value) (xs : List ByteArray) (k : Nat) (w : World) (hn : xs.length ≤ 1048576) (hk : k ≤ 10000000) (hr : OComp lo hi w v xs) :
    Calls Try.prog 11 #[v, .int .i64 (k : Int)] w fun e w' => e = .returned (.int .i64 ((k + cntC xs : Nat) : Int)) ∧ OComp lo hi w' v (mkC k xs) ∧ Within lo hi w w' := by
  obtain ⟨p, cap, rfl, h1, h2, h3, h4⟩ := hr
  by_cases h0 : xs.length = 0
  · obtain rfl : xs = [] := List.eq_nil_of_length_eq_zero h0
    refine (markStringS_none p cap k w).mono ?_
    rintro e w' ⟨rfl, rfl⟩
    exact ⟨rfl, ⟨p, cap, rfl, h1, h2, by simp [mkC, marks], fun h => absurd h (by simp [mkC, marks])⟩, Within.refl _ _ _⟩
  · obtain ⟨g, rest, rfl, a, b, c, hrow⟩ := h4 (by omega)
    have hcl : (strs xs ++ rest).length = cap := by rw [List.length_append, strs_len]; exact c
    have hm := markStringS_any g xs.length (strs xs ++ rest) k w (by rw [hcl]; exact h1) hn hk hrow
    rw [hcl] at hm
    refine hm.mono ?_
    rintro e w' ⟨rfl, hrow', ho⟩
    have hml : (mkC k xs).length = xs.length := marks_len _ _
    refine ⟨rfl, ⟨some ⟨g, 0, none⟩, cap, by rw [hml], by rw [hml]; exact h1, h2, ?_, fun _ => ⟨g, rest, rfl, a, b, by rw [hml]; exact c, ?_⟩⟩, Within.ofOnly ho a b⟩
    · exact marks_sizeO k _ (by omega)
    · have e : (strs xs ++ rest).drop xs.length = rest := by rw [← strs_len xs, List.drop_left]
      rw [e] at hrow'
      exact hrow'
set_option maxHeartbeats 1000000 in
theorem heldT_own (lo hi : Nat) (v : Value) (xs : List ByteArray) (k : Nat) (w : World) (hn : xs.length ≤ 1048576) (hk : k ≤ 10000000) (hr : OComp lo hi w v (mkC k xs)) :
    Calls Try.prog 12 #[v, .int .i64 (k : Int)] w fun e w' => e = .returned (.int .i64 ((k + cntC xs : Nat) : Int)) ∧ Below w.heap.size w w' :=
  heldStringS_any v k xs.length w hn hk (OS.rl hr).reads
end Go.Proofs.Ytelhgpogfedchaa
