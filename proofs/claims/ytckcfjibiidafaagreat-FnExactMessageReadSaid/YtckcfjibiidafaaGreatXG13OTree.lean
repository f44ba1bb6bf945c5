/- Lists of lists of texts in memory of one's own: each list in a row of its own, none met twice; what writes into some of it leaves. -/
import Derived.Test.YtckcfjibiidafaaGreatXG0Mem
import Derived.Test.YtckcfjibiidafaaGreatXG12Str
import Derived.Deep.RegionWith
namespace Go.Proofs.YtckcfjibiidafaaGreat
open Go.RowKit
/-- w' is w with new blocks, and with writes into the blocks from lo to hi alone. -/
structure Within (lo hi : Nat) (w w' : World) : Prop where
  os : w'.os = w.os
  tape : w'.tape = w.tape
  output : w'.output = w.output
  size : w.heap.size ≤ w'.heap.size
  block : ∀ k, k < w.heap.size → (k < lo ∨ hi ≤ k) → w'.heap[k]? = w.heap[k]?
theorem Within.refl (lo hi : Nat) (w : World) : Within lo hi w w := ⟨rfl, rfl, rfl, Nat.le_refl _, fun _ _ _ => rfl⟩
theorem Within.ofBelow {lo hi : Nat} {w w' : World} (h : Below w.heap.size w w') : Within lo hi w w' := ⟨h.os, h.tape, h.output, h.size, fun k hk _ => h.block k hk⟩
theorem Within.trans {lo hi : Nat} {a b c : World} (h : Within lo hi a b) (k : Within lo hi b c) : Within lo hi a c :=
  ⟨k.os.trans h.os, k.tape.trans h.tape, k.output.trans h.output, Nat.le_trans h.size k.size, fun i hi ho => (k.block i (Nat.lt_of_lt_of_le hi h.size) ho).trans (h.block i hi ho)⟩
theorem Within.mono {lo hi lo' hi' : Nat} {w w' : World} (h : Within lo hi w w') (h1 : lo' ≤ lo) (h2 : hi ≤ hi') : Within lo' hi' w w' := ⟨h.os, h.tape, h.output, h.size, fun k hk ho => h.block k hk (by omega)⟩
theorem Within.toBelow {lo hi B : Nat} {w0 w w' : World} (h : Within lo hi w w') (hb : Below B w0 w) (hB : B ≤ lo) (hs : B ≤ w.heap.size) : Below B w0 w' :=
  ⟨h.os.trans hb.os, h.tape.trans hb.tape, h.output.trans hb.output, Nat.le_trans hb.size h.size, fun k hk => (h.block k (by omega) (.inl (by omega))).trans (hb.block k hk)⟩
theorem Within.ofOnly {lo hi G : Nat} {w w' : World} (h : Only G w w') (h1 : lo ≤ G) (h2 : G < hi) : Within lo hi w w' :=
  ⟨h.os, h.tape, h.output, h.size, fun k hk ho => h.block k hk (fun e => by cases e; omega)⟩
theorem Within.row {lo hi g : Nat} {w w' : World} {T : TypeId} {cs : List Value} (h : Within lo hi w w') (hr : Row w g T cs) (ho : g < lo ∨ hi ≤ g) : Row w' g T cs := by
  unfold Row; rw [h.block g hr.lt ho]; exact hr
/-- The blocks from lo to hi that w has, w' has too. -/
def SameIn (lo hi : Nat) (w w' : World) : Prop := ∀ k, lo ≤ k → k < hi → k < w.heap.size → w'.heap[k]? = w.heap[k]?
theorem SameIn.ofBelow {lo hi : Nat} {w w' : World} (h : Below w.heap.size w w') : SameIn lo hi w w' := fun k _ _ hk => h.block k hk
theorem Within.same {lo hi a b : Nat} {w w' : World} (h : Within lo hi w w') (ho : b ≤ lo ∨ hi ≤ a) : SameIn a b w w' := fun k h1 h2 hk => h.block k hk (by omega)
theorem SameIn.mono {lo hi a b : Nat} {w w' : World} (h : SameIn lo hi w w') (h1 : lo ≤ a) (h2 : b ≤ hi) : SameIn a b w w' := fun k k1 k2 hk => h k (by omega) (by omega) hk
theorem SameIn.row {lo hi g : Nat} {w w' : World} {T : TypeId} {cs : List Value} (h : SameIn lo hi w w') (hr : Row w g T cs) (h1 : lo ≤ g) (h2 : g < hi) : Row w' g T cs := by
  unfold Row; rw [h g h1 h2 hr.lt]; exact hr
class Keeps {α : Type} (R : Nat → Nat → World → Value → α → Prop) : Prop where
  go : ∀ {lo hi : Nat} {w w' : World} {v : Value} {x : α}, SameIn lo hi w w' → R lo hi w v x → R lo hi w' v x
  wide : ∀ {lo hi lo' hi' : Nat} {w : World} {v : Value} {x : α}, lo' ≤ lo → hi ≤ hi' → R lo hi w v x → R lo' hi' w v x
/-- The slice v is of texts, in a row of its own. -/
def OS (T : TypeId) (lo hi : Nat) (w : World) (v : Value) (xs : List ByteArray) : Prop :=
  ∃ p cap, v = .slice p xs.length cap ∧ xs.length ≤ cap ∧ cap ≤ maxLen ∧ (∀ x ∈ xs, x.size ≤ maxLen) ∧
    (0 < xs.length → ∃ g rest, p = some ⟨g, 0, none⟩ ∧ lo ≤ g ∧ g < hi ∧ xs.length + rest.length = cap ∧ Row w g T (strs xs ++ rest))
instance (T : TypeId) : Keeps (OS T) := ⟨fun {lo hi w w' v x} hs h => by
    obtain ⟨p, cap, rfl, h1, h2, h3, h4⟩ := h
    refine ⟨p, cap, rfl, h1, h2, h3, fun h0 => ?_⟩
    obtain ⟨g, rest, rfl, a, b, c, hr⟩ := h4 h0
    exact ⟨g, rest, rfl, a, b, c, hs.row hr a b⟩,
  fun {lo hi lo' hi' w v x} hl hh h => by
    obtain ⟨p, cap, rfl, h1, h2, h3, h4⟩ := h
    refine ⟨p, cap, rfl, h1, h2, h3, fun h0 => ?_⟩
    obtain ⟨g, rest, rfl, a, b, c, hr⟩ := h4 h0
    exact ⟨g, rest, rfl, by omega, by omega, c, hr⟩⟩
/-- The slice v is of lists (one cell each), in a row of its own; each of them lies in blocks of its own. -/
def OL {α : Type} (T : TypeId) (R : Nat → Nat → World → Value → α → Prop) (lo hi : Nat) (w : World) (v : Value) (xs : List α) : Prop :=
  ∃ p cap, v = .slice p xs.length cap ∧ xs.length ≤ cap ∧ cap ≤ maxLen ∧
    (0 < xs.length → ∃ (g : Nat) (vs rest : List Value) (A B : Nat → Nat), p = some ⟨g, 0, none⟩ ∧ lo ≤ g ∧ g < hi ∧ Row w g T (vs ++ rest) ∧ vs.length = xs.length ∧
      (∀ i (h1 : i < vs.length) (h2 : i < xs.length), lo ≤ A i ∧ B i ≤ hi ∧ (B i ≤ g ∨ g < A i) ∧ R (A i) (B i) w vs[i] xs[i]) ∧ (∀ i j, i < j → j < xs.length → B i ≤ A j))
instance {α : Type} (T : TypeId) (R : Nat → Nat → World → Value → α → Prop) [Keeps R] : Keeps (OL T R) := ⟨fun {lo hi w w' v x} hs h => by
    obtain ⟨p, cap, rfl, h1, h2, h4⟩ := h
    refine ⟨p, cap, rfl, h1, h2, fun h0 => ?_⟩
    obtain ⟨g, vs, rest, A, B, rfl, a, b, hr, hl, hE, hD⟩ := h4 h0
    refine ⟨g, vs, rest, A, B, rfl, a, b, hs.row hr a b, hl, fun i k1 k2 => ?_, hD⟩
    obtain ⟨e1, e2, e3, e4⟩ := hE i k1 k2
    exact ⟨e1, e2, e3, Keeps.go (hs.mono e1 e2) e4⟩,
  fun {lo hi lo' hi' w v x} hl hh h => by
    obtain ⟨p, cap, rfl, h1, h2, h4⟩ := h
    refine ⟨p, cap, rfl, h1, h2, fun h0 => ?_⟩
    obtain ⟨g, vs, rest, A, B, rfl, a, b, hr, hln, hE, hD⟩ := h4 h0
    refine ⟨g, vs, rest, A, B, rfl, by omega, by omega, hr, hln, fun i k1 k2 => ?_, hD⟩
    obtain ⟨e1, e2, e3, e4⟩ := hE i k1 k2
    exact ⟨by omega, by omega, e3, e4⟩⟩
theorem OS.isSlice {T : TypeId} {lo hi : Nat} {w : World} {v : Value} {xs : List ByteArray} (h : OS T lo hi w v xs) : ∃ p c, v = .slice p xs.length c := by
  obtain ⟨p, c, e, _⟩ := h
  exact ⟨p, c, e⟩
theorem OL.isSlice {α : Type} {T : TypeId} {R : Nat → Nat → World → Value → α → Prop} {lo hi : Nat} {w : World} {v : Value} {xs : List α} (h : OL T R lo hi w v xs) : ∃ p c, v = .slice p xs.length c := by
  obtain ⟨p, c, e, _⟩ := h
  exact ⟨p, c, e⟩
theorem OS.rl {T : TypeId} {lo hi : Nat} {w : World} {v : Value} {xs : List ByteArray} (h : OS T lo hi w v xs) : RComp lo w v xs := by
  obtain ⟨p, cap, rfl, h1, h2, h3, h4⟩ := h
  refine ⟨p, cap, rfl, h1, h2, fun h0 => ?_⟩
  obtain ⟨g, rest, rfl, a, b, c, hr⟩ := h4 h0
  exact ⟨g, 0, rfl, hr.lt, a, fun i hi => ⟨.string xs[i], by rw [Nat.zero_add, hr.cell, List.getElem?_append_left (by rw [strs_len]; exact hi)]; simp [strs, hi], rfl, h3 _ (List.getElem_mem hi)⟩⟩
theorem OL.rl {α : Type} {T : TypeId} {R : Nat → Nat → World → Value → α → Prop} {R' : World → Value → α → Prop} {lo hi : Nat} {w : World} {v : Value} {xs : List α} (h : OL T R lo hi w v xs) (hR : ∀ a b u x, lo ≤ a → R a b w u x → R' w u x) : RL lo R' w v xs := by
  obtain ⟨p, cap, rfl, h1, h2, h4⟩ := h
  refine ⟨p, cap, rfl, h1, h2, fun h0 => ?_⟩
  obtain ⟨g, vs, rest, A, B, rfl, a, b, hr, hl, hE, hD⟩ := h4 h0
  refine ⟨g, 0, rfl, hr.lt, a, fun i hi => ?_⟩
  obtain ⟨e1, _, _, e4⟩ := hE i (by omega) hi
  exact ⟨_, by rw [Nat.zero_add, hr.cell, List.getElem?_append_left (by omega), List.getElem?_eq_getElem (by omega)], hR _ _ _ _ e1 e4⟩
abbrev OComp := OS 9
abbrev ORep := OL 71 OComp
abbrev OFld := OL 69 ORep
theorem ORep.rl {lo hi : Nat} {w : World} {v : Value} {xs : List (List ByteArray)} (h : ORep lo hi w v xs) : RRep lo w v xs := OL.rl h fun _ _ _ _ ha h => RComp.mono (OS.rl h) ha
theorem OFld.rl {lo hi : Nat} {w : World} {v : Value} {xs : List (List (List ByteArray))} (h : OFld lo hi w v xs) : RFld lo w v xs := OL.rl h fun _ _ _ _ ha h => RRep.mono (ORep.rl h) ha
/-- How many texts, and the texts that mark them from the number k on. -/
def cntL {α : Type} (c : α → Nat) (xs : List α) : Nat := (xs.map c).sum
def mkL {α : Type} (c : α → Nat) (mk : Nat → α → α) : Nat → List α → List α
  | _, [] => []
  | k, x :: r => mk k x :: mkL c mk (k + c x) r
def cntC : List ByteArray → Nat := List.length
def cntR : List (List ByteArray) → Nat := cntL cntC
def cntF : List (List (List ByteArray)) → Nat := cntL cntR
def mkC (k : Nat) (x : List ByteArray) : List ByteArray := marks k x.length
def mkR : Nat → List (List ByteArray) → List (List ByteArray) := mkL cntC mkC
def mkF : Nat → List (List (List ByteArray)) → List (List (List ByteArray)) := mkL cntR mkR
theorem mkL_len {α : Type} (c : α → Nat) (mk : Nat → α → α) : ∀ (xs : List α) (k : Nat), (mkL c mk k xs).length = xs.length
  | [], _ => rfl
  | x :: r, k => by simp [mkL, mkL_len c mk r]
theorem mkL_get {α : Type} (c : α → Nat) (mk : Nat → α → α) : ∀ (xs : List α) (k i : Nat) (h : i < xs.length) (h' : i < (mkL c mk k xs).length), (mkL c mk k xs)[i] = mk (k + cntL c (xs.take i)) xs[i]
  | x :: r, k, 0, _, _ => by simp [mkL, cntL]
  | x :: r, k, i + 1, h, h' => by
    simp only [mkL, List.getElem_cons_succ, List.take_succ_cons]
    rw [mkL_get c mk r (k + c x) i (by simpa using h)]
    simp [cntL, Nat.add_assoc]
theorem cntL_snoc {α : Type} (c : α → Nat) (xs : List α) (i : Nat) (h : i < xs.length) : cntL c (xs.take (i + 1)) = cntL c (xs.take i) + c xs[i] := by
  rw [List.take_succ_eq_append_getElem h]
  simp only [cntL, List.map_append, List.sum_append, List.map_cons, List.map_nil, List.sum_cons, List.sum_nil, Nat.add_zero]
theorem cntL_take {α : Type} (c : α → Nat) (xs : List α) (i : Nat) : cntL c (xs.take i) ≤ cntL c xs := by
  have e : xs = xs.take i ++ xs.drop i := (List.take_append_drop i xs).symm
  have h : cntL c xs = cntL c (xs.take i) + cntL c (xs.drop i) := by
    conv => lhs; rw [e]
    simp only [cntL, List.map_append, List.sum_append]
  omega
theorem cntL_le {α : Type} (c f : α → Nat) (h : ∀ x, c x ≤ f x) : ∀ xs : List α, cntL c xs ≤ wL f xs
  | [] => by simp [cntL, wL]
  | x :: r => by
    have h1 := h x
    have h2 := cntL_le c f h r
    simp only [cntL, wL, List.map_cons, List.sum_cons, List.length_cons] at h2 ⊢
    omega
theorem cntC_le (x : List ByteArray) : cntC x ≤ wComp x := wL_len _ x
theorem cntR_le (x : List (List ByteArray)) : cntR x ≤ wRep x := cntL_le _ _ cntC_le x
theorem cntF_le (x : List (List (List ByteArray))) : cntF x ≤ wFld x := cntL_le _ _ cntR_le x
theorem markTo_sizeO (f : Nat) : ∀ (k : Nat) (out : ByteArray), (markTo f k out).size ≤ out.size + k := by
  induction f with
  | zero => intro k out; exact Nat.le_add_right _ _
  | succ f ih =>
    intro k out
    rw [markTo]
    split
    · omega
    · have := ih (k / 10) (oneByte (48 + (k : Int) % 10) ++ out)
      have h1 : (oneByte (48 + (k : Int) % 10)).size = 1 := rfl
      rw [ByteArray.size_append, h1] at this
      omega
theorem markOf_sizeO (k : Nat) : (markOf k).size ≤ k + 2 := by
  unfold markOf
  split
  · show 2 ≤ k + 2; omega
  · rw [ByteArray.size_append]
    have := markTo_sizeO k k ⟨#[]⟩
    have h0 : (⟨#[]⟩ : ByteArray).size = 0 := rfl
    have h1 : (⟨#[109]⟩ : ByteArray).size = 1 := rfl
    omega
theorem marks_sizeO (k n : Nat) (h : k + n ≤ 100000000) : ∀ x ∈ marks k n, x.size ≤ maxLen := by
  intro x hx
  simp only [marks, List.mem_map, List.mem_range] at hx
  obtain ⟨i, hi, rfl⟩ := hx
  have := markOf_sizeO (k + i)
  unfold maxLen; omega
set_option maxHeartbeats 1000000 in
theorem markT_own (lo hi : Nat) (v : Value) (xs : List ByteArray) (k : Nat) (w : World) (hn : xs.length ≤ 1048576) (hk : k ≤ 10000000) (hr : OComp lo hi w v xs) :
    Calls Tryz.prog 83 #[v, .int .i64 (k : Int)] w fun e w' => e = .returned (.int .i64 ((k + cntC xs : Nat) : Int)) ∧ OComp lo hi w' v (mkC k xs) ∧ Within lo hi w w' := by
  obtain ⟨p, cap, rfl, h1, h2, h3, h4⟩ := hr
  by_cases h0 : xs.length = 0
  · obtain rfl : xs = [] := List.eq_nil_of_length_eq_zero h0
    refine (markStringS_none p cap k w).mono ?_
    rintro e w' ⟨rfl, rfl⟩
    exact ⟨rfl, ⟨p, cap, rfl, h1, h2, by simp [mkC, marks], fun h => absurd h (by simp [mkC, marks])⟩, Within.refl _ _ _⟩
  · obtain ⟨g, rest, rfl, a, b, c, hrow⟩ := h4 (by omega)
    have hcl : (strs xs ++ rest).length = cap := by rw [List.length_append, strs_len]; exact c
    have hm := markStringS_any g xs.length (strs xs ++ rest) k w (by rw [hcl]; exact h1) hn hk hrow
    rw [hcl] at hm
    refine hm.mono ?_
    rintro e w' ⟨rfl, hrow', ho⟩
    have hml : (mkC k xs).length = xs.length := marks_len _ _
    refine ⟨rfl, ⟨some ⟨g, 0, none⟩, cap, by rw [hml], by rw [hml]; exact h1, h2, ?_, fun _ => ⟨g, rest, rfl, a, b, by rw [hml]; exact c, ?_⟩⟩, Within.ofOnly ho a b⟩
    · exact marks_sizeO k _ (by omega)
    · have e : (strs xs ++ rest).drop xs.length = rest := by rw [← strs_len xs, List.drop_left]
      rw [e] at hrow'
      exact hrow'
set_option maxHeartbeats 1000000 in
theorem heldT_own (lo hi : Nat) (v : Value) (xs : List ByteArray) (k : Nat) (w : World) (hn : xs.length ≤ 1048576) (hk : k ≤ 10000000) (hr : OComp lo hi w v (mkC k xs)) :
    Calls Tryz.prog 84 #[v, .int .i64 (k : Int)] w fun e w' => e = .returned (.int .i64 ((k + cntC xs : Nat) : Int)) ∧ Below w.heap.size w w' :=
  heldStringS_any v k xs.length w hn hk (OS.rl hr).reads
end Go.Proofs.YtckcfjibiidafaaGreat
/- How the laws mark lists of lists that are one's own, and look for the marks. -/
namespace Go.Proofs.YtckcfjibiidafaaGreat
open Go.RowKit
abbrev OFlds := OL 54 OFld
def cntFs : List (List (List (List ByteArray))) → Nat := cntL cntF
def mkFs : Nat → List (List (List (List ByteArray))) → List (List (List (List ByteArray))) := mkL cntF mkF
theorem cnt_step {α : Type} (c f : α → Nat) (h : ∀ x, c x ≤ f x) : ∀ (xs : List α) (i : Nat) (hi : i < xs.length), cntL c (xs.take i) + f xs[i] ≤ wL f xs
  | x :: r, 0, _ => by
    have := wL_mem f (show x ∈ x :: r by simp)
    simp only [List.take_zero, cntL, List.map_nil, List.sum_nil, List.getElem_cons_zero]
    omega
  | x :: r, i + 1, hi => by
    have h1 := h x
    have h2 := cnt_step c f h r i (by simpa using hi)
    simp only [List.take_succ_cons, cntL, List.map_cons, List.sum_cons, List.getElem_cons_succ, wL, List.length_cons] at h2 ⊢
    omega
theorem markS_ownW (lo hi : Nat) (v : Value) (xs : List ByteArray) (k : Nat) (w : World) (hn : wComp xs ≤ 1048576) (hk : k + wComp xs ≤ 4000000) (hr : OComp lo hi w v xs) :
    Calls Tryz.prog 83 #[v, .int .i64 (k : Int)] w fun e w' => e = .returned (.int .i64 ((k + cntC xs : Nat) : Int)) ∧ OComp lo hi w' v (mkC k xs) ∧ Within lo hi w w' :=
  markT_own lo hi v xs k w (Nat.le_trans (wL_len _ xs) hn) (by omega) hr
theorem heldS_ownW (lo hi : Nat) (v : Value) (xs : List ByteArray) (k : Nat) (w : World) (hn : wComp xs ≤ 1048576) (hk : k + wComp xs ≤ 4000000) (hr : OComp lo hi w v (mkC k xs)) :
    Calls Tryz.prog 84 #[v, .int .i64 (k : Int)] w fun e w' => e = .returned (.int .i64 ((k + cntC xs : Nat) : Int)) ∧ Below w.heap.size w w' :=
  heldT_own lo hi v xs k w (Nat.le_trans (wL_len _ xs) hn) (by omega) hr
theorem OL.mk {α : Type} {T : TypeId} {R : Nat → Nat → World → Value → α → Prop} {lo hi g cap : Nat} {w : World} {vs rest : List Value} {A B : Nat → Nat} {xs : List α} (hc : xs.length ≤ cap) (hm : cap ≤ maxLen) (hl : vs.length = xs.length)
    (a : lo ≤ g) (b : g < hi) (hr : Row w g T (vs ++ rest)) (hE : ∀ i (h1 : i < vs.length) (h2 : i < xs.length), lo ≤ A i ∧ B i ≤ hi ∧ (B i ≤ g ∨ g < A i) ∧ R (A i) (B i) w vs[i] xs[i]) (hD : ∀ i j, i < j → j < xs.length → B i ≤ A j) :
    OL T R lo hi w (.slice (some ⟨g, 0, none⟩) xs.length cap) xs := ⟨_, _, rfl, hc, hm, fun _ => ⟨g, vs, rest, A, B, rfl, a, b, hr, hl, hE, hD⟩⟩
set_option maxHeartbeats 2000000 in
theorem markCompS_own (lo hi : Nat) (v : Value) (xs : List (List ByteArray)) (k : Nat) (w : World) (hn : wL wComp xs ≤ 1048576) (hk : k + wL wComp xs ≤ 4000000) (hr : OL 71 OComp lo hi w v xs) :
    Calls Tryz.prog 71 #[v, .int .i64 (k : Int)] w fun e w' => e = .returned (.int .i64 ((k + cntL cntC xs : Nat) : Int)) ∧ OL 71 OComp lo hi w' v (mkL cntC mkC k xs) ∧ Within lo hi w w' := by
  have hl : xs.length ≤ 1048576 := Nat.le_trans (wL_len _ xs) hn
  have HC := hide (fun i h => cnt_step cntC wComp cntC_le xs i h)
  have HSN := hide (fun i h => cntL_snoc cntC xs i h)
  have HM := hide (fun i h => wL_mem wComp (List.getElem_mem (l := xs) (n := i) h))
  obtain ⟨p, cap, rfl, h1, h2, h4⟩ := hr
  by_cases h0 : xs.length = 0
  · obtain rfl : xs = [] := List.eq_nil_of_length_eq_zero h0
    clear h4 HC HM HSN
    go_enter Tryz.func71, Tryz.ntmps71
    go_wp2
    refine wp_loop_rounds 1 ?_
    rw [rounds_succ]
    go_wp2
    go_ret
    exact ⟨rfl, ⟨p, cap, rfl, h1, h2, fun h => absurd h (by simp [mkL])⟩, Within.refl _ _ _⟩
  obtain ⟨g, vs, rest, A, B, rfl, ga, gb, hrow, hvl, hE, hD⟩ := h4 (by omega)
  have HK := hide hk
  have HN := hide hn
  have HR := hide hrow
  have HV := hide hvl
  have HE := hide hE
  have HD := hide hD
  have HG := hide (show lo ≤ g ∧ g < hi from ⟨ga, gb⟩)
  have HCP := hide (show xs.length ≤ cap ∧ cap ≤ maxLen from ⟨h1, h2⟩)
  unfold maxLen at h2
  clear h4 hrow hvl hE hD hk hn ga gb
  go_enter Tryz.func71, Tryz.ntmps71
  go_wp2
  go_loopw [1, 5] (fun x i wr => ∃ (X : World) (j K : Nat), X = wr ∧ j ≤ xs.length ∧ i = .int .i64 (j : Int) ∧ x = .int .i64 (K : Int) ∧ Hid (K = k + cntL cntC (xs.take j)) ∧ Hid (Row X g 71 (vs ++ rest)) ∧ Hid (∀ i (h1 : i < vs.length) (h2 : i < xs.length), lo ≤ A i ∧ B i ≤ hi ∧ (B i ≤ g ∨ g < A i) ∧ OComp (A i) (B i) X vs[i] (if i < j then mkC (k + cntL cntC (xs.take i)) xs[i] else xs[i])) ∧ Hid (Within lo hi w X)) (fun _ i _ => xs.length - (intOf i).toNat)
  case atStart => exact ⟨_, 0, k, rfl, Nat.zero_le _, rfl, rfl, hide (by simp [cntL]), HR, hide (fun i h1 h2 => by rw [if_neg (by omega)]; exact HE.out i h1 h2), hide (Within.refl _ _ _)⟩
  case round =>
    obtain ⟨X, j, K, rfl, hj, rfl, rfl, HKE, HRX, HEX, HW⟩ := hrel
    by_cases hlt : j < xs.length
    · have hjv : j < vs.length := by rw [HV.out]; exact hlt
      obtain ⟨e1, e2, e3, e4⟩ := HEX.out j hjv hlt
      rw [if_neg (by omega)] at e4
      have hcell : X.cell? ⟨g, j, none⟩ = some (vs[j]'hjv) := by rw [HRX.out.cell, List.getElem?_append_left hjv, List.getElem?_eq_getElem hjv]
      have hKb : K + wComp (xs[j]'hlt) ≤ 4000000 := by have h1 := HC.out j hlt; have h2 := HK.out; rw [HKE.out]; omega
      have hwb : wComp (xs[j]'hlt) ≤ 1048576 := by have h1 := HM.out j hlt; have h2 := HN.out; omega
      have HOK := hide e4
      have HEB := hide (show lo ≤ A j ∧ B j ≤ hi ∧ (B j ≤ g ∨ g < A j) from ⟨e1, e2, e3⟩)
      have HVJ := hide (show ∃ p c, (vs[j]'hjv) = .slice p (xs[j]'hlt).length c from e4.isSlice)
      obtain ⟨vp, vc, hvj⟩ := HVJ.out
      rw [hvj] at hcell HOK
      have HVJ2 := hide hvj
      clear e1 e2 e3 e4 HVJ hvj
      go_wp2_with fail
      refine (markS_ownW (A j) (B j) _ (xs[j]'hlt) K _ hwb hKb HOK.out).mono ?_
      rintro e w2 ⟨rfl, hok, hw⟩
      have HK2 : Hid (K + cntC (xs[j]'hlt) = k + cntL cntC (xs.take (j + 1))) := by rw [HSN.out j hlt, HKE.out, Nat.add_assoc]; exact rfl
      have HR2 := hide (hw.row HRX.out (by have := HEB.out.2.2; omega))
      have HW2 := hide (HW.out.trans (hw.mono HEB.out.1 HEB.out.2.1))
      have HE2 : Hid (∀ i (h1 : i < vs.length) (h2 : i < xs.length), lo ≤ A i ∧ B i ≤ hi ∧ (B i ≤ g ∨ g < A i) ∧ OComp (A i) (B i) w2 vs[i] (if i < j + 1 then mkC (k + cntL cntC (xs.take i)) xs[i] else xs[i])) := by
        intro i h1 h2
        obtain ⟨f1, f2, f3, f4⟩ := HEX.out i h1 h2
        refine ⟨f1, f2, f3, ?_⟩
        by_cases hij : i = j
        · subst hij
          rw [if_pos (by omega), HVJ2.out, ← HKE.out]
          exact hok
        · have hd : B i ≤ A j ∨ B j ≤ A i := by
            rcases Nat.lt_or_gt_of_ne hij with h | h
            · exact .inl (HD.out i j h hlt)
            · exact .inr (HD.out j i h h2)
          have e : (if i < j + 1 then mkC (k + cntL cntC (xs.take i)) xs[i] else xs[i]) = (if i < j then mkC (k + cntL cntC (xs.take i)) xs[i] else xs[i]) := by
            by_cases h : i < j
            · rw [if_pos h, if_pos (by omega)]
            · rw [if_neg h, if_neg (by omega)]
          rw [e]
          exact Keeps.go (hw.same hd) f4
      clear hok hw
      go_wp2
      go_roundw
      case rel => exact ⟨_, j + 1, _, rfl, by omega, by go_num, rfl, HK2, HR2, HE2, HW2⟩
      case measure => simp [intOf]; omega
    · have hje : j = xs.length := by omega
      have HKF : Hid (K = k + cntL cntC xs) := by have := HKE.out; rw [List.take_of_length_le (by omega)] at this; exact this
      have hml := mkL_len cntC mkC xs k
      have HF : Hid (OL 71 OComp lo hi X (.slice (some ⟨g, 0, none⟩) xs.length cap) (mkL cntC mkC k xs)) := by
        have := OL.mk (T := 71) (R := OComp) (lo := lo) (hi := hi) (g := g) (cap := cap) (w := X) (vs := vs) (rest := rest) (A := A) (B := B) (xs := mkL cntC mkC k xs) (by rw [hml]; exact HCP.out.1) HCP.out.2 (by rw [hml]; exact HV.out) HG.out.1 HG.out.2 HRX.out
          (fun i h1 h2 => by
            have h3 : i < xs.length := by rw [hml] at h2; exact h2
            obtain ⟨f1, f2, f3, f4⟩ := HEX.out i h1 h3
            rw [if_pos (by omega)] at f4
            rw [mkL_get cntC mkC xs k i h3 h2]
            exact ⟨f1, f2, f3, f4⟩)
          (fun i j h1 h2 => HD.out i j h1 (by rw [hml] at h2; exact h2))
        rw [hml] at this
        exact this
      clear hml
      go_wp2
      go_ret
      exact ⟨ret_int (by rw [HKF.out]), HF.out, HW.out⟩
set_option maxHeartbeats 2000000 in
theorem heldCompS_own (lo hi : Nat) (v : Value) (xs : List (List ByteArray)) (k : Nat) (w : World) (hn : wL wComp xs ≤ 1048576) (hk : k + wL wComp xs ≤ 4000000) (hr : OL 71 OComp lo hi w v (mkL cntC mkC k xs)) :
    Calls Tryz.prog 72 #[v, .int .i64 (k : Int)] w fun e w' => e = .returned (.int .i64 ((k + cntL cntC xs : Nat) : Int)) ∧ Below w.heap.size w w' := by
  have hl : xs.length ≤ 1048576 := Nat.le_trans (wL_len _ xs) hn
  have HC := hide (fun i h => cnt_step cntC wComp cntC_le xs i h)
  have HSN := hide (fun i h => cntL_snoc cntC xs i h)
  have HM := hide (fun i h => wL_mem wComp (List.getElem_mem (l := xs) (n := i) h))
  have HML := hide (mkL_len cntC mkC xs k)
  obtain ⟨p, cap, hv, h1, h2, h4⟩ := hr
  rw [HML.out] at h1 hv
  subst hv
  by_cases h0 : xs.length = 0
  · obtain rfl : xs = [] := List.eq_nil_of_length_eq_zero h0
    clear h4 HC HM HSN HML
    go_enter Tryz.func72, Tryz.ntmps72
    go_wp2
    refine wp_loop_rounds 1 ?_
    rw [rounds_succ]
    go_wp2
    go_ret
    exact ⟨rfl, Below.refl _ _⟩
  obtain ⟨g, vs, rest, A, B, rfl, ga, gb, hrow, hvl, hE, hD⟩ := h4 (by rw [HML.out]; omega)
  have HK := hide hk
  have HN := hide hn
  have HR := hide hrow
  have HV := hide hvl
  have HE := hide hE
  unfold maxLen at h2
  clear h4 hrow hvl hE hD hk hn ga gb
  go_enter Tryz.func72, Tryz.ntmps72
  go_wp2
  go_loopw [1, 5] (fun x i wr => ∃ (X : World) (j K : Nat), X = wr ∧ j ≤ xs.length ∧ i = .int .i64 (j : Int) ∧ x = .int .i64 (K : Int) ∧ Hid (K = k + cntL cntC (xs.take j)) ∧ Hid (Below w.heap.size w X)) (fun _ i _ => xs.length - (intOf i).toNat)
  case atStart => exact ⟨_, 0, k, rfl, Nat.zero_le _, rfl, rfl, hide (by simp [cntL]), hide (Below.refl _ _)⟩
  case round =>
    obtain ⟨X, j, K, rfl, hj, rfl, rfl, HKE, HB⟩ := hrel
    by_cases hlt : j < xs.length
    · have hjm : j < (mkL cntC mkC k xs).length := by rw [HML.out]; exact hlt
      have hjv : j < vs.length := by rw [HV.out]; exact hjm
      obtain ⟨e1, e2, e3, e4⟩ := HE.out j hjv hjm
      rw [mkL_get cntC mkC xs k j hlt hjm, ← HKE.out] at e4
      have e5 := Keeps.go (SameIn.ofBelow HB.out) e4
      have rowX := HR.out.below HB.out HR.out.lt
      have hcell : X.cell? ⟨g, j, none⟩ = some (vs[j]'hjv) := by rw [rowX.cell, List.getElem?_append_left hjv, List.getElem?_eq_getElem hjv]
      have hKb : K + wComp (xs[j]'hlt) ≤ 4000000 := by have h1 := HC.out j hlt; have h2 := HK.out; rw [HKE.out]; omega
      have hwb : wComp (xs[j]'hlt) ≤ 1048576 := by have h1 := HM.out j hlt; have h2 := HN.out; omega
      have HOK := hide e5
      obtain ⟨vp, vc, hvj⟩ : ∃ p c, (vs[j]'hjv) = .slice p (mkC K (xs[j]'hlt)).length c := e5.isSlice
      rw [hvj] at hcell HOK
      clear e1 e2 e3 e4 e5 rowX
      go_wp2_with fail
      refine (heldS_ownW (A j) (B j) _ (xs[j]'hlt) K _ hwb hKb HOK.out).mono ?_
      rintro e w2 ⟨rfl, hb2⟩
      have HK2 : Hid (K + cntC (xs[j]'hlt) = k + cntL cntC (xs.take (j + 1))) := by rw [HSN.out j hlt, HKE.out, Nat.add_assoc]; exact rfl
      have HB2 := hide (HB.out.trans (hb2.mono HB.out.size))
      have hpos : ¬ (((K + cntC (xs[j]'hlt) : Nat) : Int)) < 0 := by omega
      clear hb2
      go_wp2
      go_roundw
      case rel => exact ⟨_, j + 1, _, rfl, by omega, by go_num, rfl, HK2, HB2⟩
      case measure => simp [intOf]; omega
    · have HKF : Hid (K = k + cntL cntC xs) := by have := HKE.out; rw [List.take_of_length_le (by omega)] at this; exact this
      go_wp2
      go_ret
      exact ⟨ret_int (by rw [HKF.out]), HB.out⟩
set_option maxHeartbeats 2000000 in
theorem markRepS_own (lo hi : Nat) (v : Value) (xs : List (List (List ByteArray))) (k : Nat) (w : World) (hn : wL wRep xs ≤ 1048576) (hk : k + wL wRep xs ≤ 4000000) (hr : OL 69 ORep lo hi w v xs) :
    Calls Tryz.prog 55 #[v, .int .i64 (k : Int)] w fun e w' => e = .returned (.int .i64 ((k + cntL cntR xs : Nat) : Int)) ∧ OL 69 ORep lo hi w' v (mkL cntR mkR k xs) ∧ Within lo hi w w' := by
  have hl : xs.length ≤ 1048576 := Nat.le_trans (wL_len _ xs) hn
  have HC := hide (fun i h => cnt_step cntR wRep cntR_le xs i h)
  have HSN := hide (fun i h => cntL_snoc cntR xs i h)
  have HM := hide (fun i h => wL_mem wRep (List.getElem_mem (l := xs) (n := i) h))
  obtain ⟨p, cap, rfl, h1, h2, h4⟩ := hr
  by_cases h0 : xs.length = 0
  · obtain rfl : xs = [] := List.eq_nil_of_length_eq_zero h0
    clear h4 HC HM HSN
    go_enter Tryz.func55, Tryz.ntmps55
    go_wp2
    refine wp_loop_rounds 1 ?_
    rw [rounds_succ]
    go_wp2
    go_ret
    exact ⟨rfl, ⟨p, cap, rfl, h1, h2, fun h => absurd h (by simp [mkL])⟩, Within.refl _ _ _⟩
  obtain ⟨g, vs, rest, A, B, rfl, ga, gb, hrow, hvl, hE, hD⟩ := h4 (by omega)
  have HK := hide hk
  have HN := hide hn
  have HR := hide hrow
  have HV := hide hvl
  have HE := hide hE
  have HD := hide hD
  have HG := hide (show lo ≤ g ∧ g < hi from ⟨ga, gb⟩)
  have HCP := hide (show xs.length ≤ cap ∧ cap ≤ maxLen from ⟨h1, h2⟩)
  unfold maxLen at h2
  clear h4 hrow hvl hE hD hk hn ga gb
  go_enter Tryz.func55, Tryz.ntmps55
  go_wp2
  go_loopw [1, 5] (fun x i wr => ∃ (X : World) (j K : Nat), X = wr ∧ j ≤ xs.length ∧ i = .int .i64 (j : Int) ∧ x = .int .i64 (K : Int) ∧ Hid (K = k + cntL cntR (xs.take j)) ∧ Hid (Row X g 69 (vs ++ rest)) ∧ Hid (∀ i (h1 : i < vs.length) (h2 : i < xs.length), lo ≤ A i ∧ B i ≤ hi ∧ (B i ≤ g ∨ g < A i) ∧ ORep (A i) (B i) X vs[i] (if i < j then mkR (k + cntL cntR (xs.take i)) xs[i] else xs[i])) ∧ Hid (Within lo hi w X)) (fun _ i _ => xs.length - (intOf i).toNat)
  case atStart => exact ⟨_, 0, k, rfl, Nat.zero_le _, rfl, rfl, hide (by simp [cntL]), HR, hide (fun i h1 h2 => by rw [if_neg (by omega)]; exact HE.out i h1 h2), hide (Within.refl _ _ _)⟩
  case round =>
    obtain ⟨X, j, K, rfl, hj, rfl, rfl, HKE, HRX, HEX, HW⟩ := hrel
    by_cases hlt : j < xs.length
    · have hjv : j < vs.length := by rw [HV.out]; exact hlt
      obtain ⟨e1, e2, e3, e4⟩ := HEX.out j hjv hlt
      rw [if_neg (by omega)] at e4
      have hcell : X.cell? ⟨g, j, none⟩ = some (vs[j]'hjv) := by rw [HRX.out.cell, List.getElem?_append_left hjv, List.getElem?_eq_getElem hjv]
      have hKb : K + wRep (xs[j]'hlt) ≤ 4000000 := by have h1 := HC.out j hlt; have h2 := HK.out; rw [HKE.out]; omega
      have hwb : wRep (xs[j]'hlt) ≤ 1048576 := by have h1 := HM.out j hlt; have h2 := HN.out; omega
      have HOK := hide e4
      have HEB := hide (show lo ≤ A j ∧ B j ≤ hi ∧ (B j ≤ g ∨ g < A j) from ⟨e1, e2, e3⟩)
      have HVJ := hide (show ∃ p c, (vs[j]'hjv) = .slice p (xs[j]'hlt).length c from e4.isSlice)
      obtain ⟨vp, vc, hvj⟩ := HVJ.out
      rw [hvj] at hcell HOK
      have HVJ2 := hide hvj
      clear e1 e2 e3 e4 HVJ hvj
      go_wp2_with fail
      refine (markCompS_own (A j) (B j) _ (xs[j]'hlt) K _ hwb hKb HOK.out).mono ?_
      rintro e w2 ⟨rfl, hok, hw⟩
      have HK2 : Hid (K + cntR (xs[j]'hlt) = k + cntL cntR (xs.take (j + 1))) := by rw [HSN.out j hlt, HKE.out, Nat.add_assoc]; exact rfl
      have HR2 := hide (hw.row HRX.out (by have := HEB.out.2.2; omega))
      have HW2 := hide (HW.out.trans (hw.mono HEB.out.1 HEB.out.2.1))
      have HE2 : Hid (∀ i (h1 : i < vs.length) (h2 : i < xs.length), lo ≤ A i ∧ B i ≤ hi ∧ (B i ≤ g ∨ g < A i) ∧ ORep (A i) (B i) w2 vs[i] (if i < j + 1 then mkR (k + cntL cntR (xs.take i)) xs[i] else xs[i])) := by
        intro i h1 h2
        obtain ⟨f1, f2, f3, f4⟩ := HEX.out i h1 h2
        refine ⟨f1, f2, f3, ?_⟩
        by_cases hij : i = j
        · subst hij
          rw [if_pos (by omega), HVJ2.out, ← HKE.out]
          exact hok
        · have hd : B i ≤ A j ∨ B j ≤ A i := by
            rcases Nat.lt_or_gt_of_ne hij with h | h
            · exact .inl (HD.out i j h hlt)
            · exact .inr (HD.out j i h h2)
          have e : (if i < j + 1 then mkR (k + cntL cntR (xs.take i)) xs[i] else xs[i]) = (if i < j then mkR (k + cntL cntR (xs.take i)) xs[i] else xs[i]) := by
            by_cases h : i < j
            · rw [if_pos h, if_pos (by omega)]
            · rw [if_neg h, if_neg (by omega)]
          rw [e]
          exact Keeps.go (hw.same hd) f4
      clear hok hw
      go_wp2
      go_roundw
      case rel => exact ⟨_, j + 1, _, rfl, by omega, by go_num, rfl, HK2, HR2, HE2, HW2⟩
      case measure => simp [intOf]; omega
    · have hje : j = xs.length := by omega
      have HKF : Hid (K = k + cntL cntR xs) := by have := HKE.out; rw [List.take_of_length_le (by omega)] at this; exact this
      have hml := mkL_len cntR mkR xs k
      have HF : Hid (OL 69 ORep lo hi X (.slice (some ⟨g, 0, none⟩) xs.length cap) (mkL cntR mkR k xs)) := by
        have := OL.mk (T := 69) (R := ORep) (lo := lo) (hi := hi) (g := g) (cap := cap) (w := X) (vs := vs) (rest := rest) (A := A) (B := B) (xs := mkL cntR mkR k xs) (by rw [hml]; exact HCP.out.1) HCP.out.2 (by rw [hml]; exact HV.out) HG.out.1 HG.out.2 HRX.out
          (fun i h1 h2 => by
            have h3 : i < xs.length := by rw [hml] at h2; exact h2
            obtain ⟨f1, f2, f3, f4⟩ := HEX.out i h1 h3
            rw [if_pos (by omega)] at f4
            rw [mkL_get cntR mkR xs k i h3 h2]
            exact ⟨f1, f2, f3, f4⟩)
          (fun i j h1 h2 => HD.out i j h1 (by rw [hml] at h2; exact h2))
        rw [hml] at this
        exact this
      clear hml
      go_wp2
      go_ret
      exact ⟨ret_int (by rw [HKF.out]), HF.out, HW.out⟩
set_option maxHeartbeats 2000000 in
theorem heldRepS_own (lo hi : Nat) (v : Value) (xs : List (List (List ByteArray))) (k : Nat) (w : World) (hn : wL wRep xs ≤ 1048576) (hk : k + wL wRep xs ≤ 4000000) (hr : OL 69 ORep lo hi w v (mkL cntR mkR k xs)) :
    Calls Tryz.prog 56 #[v, .int .i64 (k : Int)] w fun e w' => e = .returned (.int .i64 ((k + cntL cntR xs : Nat) : Int)) ∧ Below w.heap.size w w' := by
  have hl : xs.length ≤ 1048576 := Nat.le_trans (wL_len _ xs) hn
  have HC := hide (fun i h => cnt_step cntR wRep cntR_le xs i h)
  have HSN := hide (fun i h => cntL_snoc cntR xs i h)
  have HM := hide (fun i h => wL_mem wRep (List.getElem_mem (l := xs) (n := i) h))
  have HML := hide (mkL_len cntR mkR xs k)
  obtain ⟨p, cap, hv, h1, h2, h4⟩ := hr
  rw [HML.out] at h1 hv
  subst hv
  by_cases h0 : xs.length = 0
  · obtain rfl : xs = [] := List.eq_nil_of_length_eq_zero h0
    clear h4 HC HM HSN HML
    go_enter Tryz.func56, Tryz.ntmps56
    go_wp2
    refine wp_loop_rounds 1 ?_
    rw [rounds_succ]
    go_wp2
    go_ret
    exact ⟨rfl, Below.refl _ _⟩
  obtain ⟨g, vs, rest, A, B, rfl, ga, gb, hrow, hvl, hE, hD⟩ := h4 (by rw [HML.out]; omega)
  have HK := hide hk
  have HN := hide hn
  have HR := hide hrow
  have HV := hide hvl
  have HE := hide hE
  unfold maxLen at h2
  clear h4 hrow hvl hE hD hk hn ga gb
  go_enter Tryz.func56, Tryz.ntmps56
  go_wp2
  go_loopw [1, 5] (fun x i wr => ∃ (X : World) (j K : Nat), X = wr ∧ j ≤ xs.length ∧ i = .int .i64 (j : Int) ∧ x = .int .i64 (K : Int) ∧ Hid (K = k + cntL cntR (xs.take j)) ∧ Hid (Below w.heap.size w X)) (fun _ i _ => xs.length - (intOf i).toNat)
  case atStart => exact ⟨_, 0, k, rfl, Nat.zero_le _, rfl, rfl, hide (by simp [cntL]), hide (Below.refl _ _)⟩
  case round =>
    obtain ⟨X, j, K, rfl, hj, rfl, rfl, HKE, HB⟩ := hrel
    by_cases hlt : j < xs.length
    · have hjm : j < (mkL cntR mkR k xs).length := by rw [HML.out]; exact hlt
      have hjv : j < vs.length := by rw [HV.out]; exact hjm
      obtain ⟨e1, e2, e3, e4⟩ := HE.out j hjv hjm
      rw [mkL_get cntR mkR xs k j hlt hjm, ← HKE.out] at e4
      have e5 := Keeps.go (SameIn.ofBelow HB.out) e4
      have rowX := HR.out.below HB.out HR.out.lt
      have hcell : X.cell? ⟨g, j, none⟩ = some (vs[j]'hjv) := by rw [rowX.cell, List.getElem?_append_left hjv, List.getElem?_eq_getElem hjv]
      have hKb : K + wRep (xs[j]'hlt) ≤ 4000000 := by have h1 := HC.out j hlt; have h2 := HK.out; rw [HKE.out]; omega
      have hwb : wRep (xs[j]'hlt) ≤ 1048576 := by have h1 := HM.out j hlt; have h2 := HN.out; omega
      have HOK := hide e5
      obtain ⟨vp, vc, hvj⟩ : ∃ p c, (vs[j]'hjv) = .slice p (mkR K (xs[j]'hlt)).length c := e5.isSlice
      rw [hvj] at hcell HOK
      clear e1 e2 e3 e4 e5 rowX
      go_wp2_with fail
      refine (heldCompS_own (A j) (B j) _ (xs[j]'hlt) K _ hwb hKb HOK.out).mono ?_
      rintro e w2 ⟨rfl, hb2⟩
      have HK2 : Hid (K + cntR (xs[j]'hlt) = k + cntL cntR (xs.take (j + 1))) := by rw [HSN.out j hlt, HKE.out, Nat.add_assoc]; exact rfl
      have HB2 := hide (HB.out.trans (hb2.mono HB.out.size))
      have hpos : ¬ (((K + cntR (xs[j]'hlt) : Nat) : Int)) < 0 := by omega
      clear hb2
      go_wp2
      go_roundw
      case rel => exact ⟨_, j + 1, _, rfl, by omega, by go_num, rfl, HK2, HB2⟩
      case measure => simp [intOf]; omega
    · have HKF : Hid (K = k + cntL cntR xs) := by have := HKE.out; rw [List.take_of_length_le (by omega)] at this; exact this
      go_wp2
      go_ret
      exact ⟨ret_int (by rw [HKF.out]), HB.out⟩
set_option maxHeartbeats 2000000 in
theorem markFieldS_own (lo hi : Nat) (v : Value) (xs : List (List (List (List ByteArray)))) (k : Nat) (w : World) (hn : wL wFld xs ≤ 1048576) (hk : k + wL wFld xs ≤ 4000000) (hr : OL 54 OFld lo hi w v xs) :
    Calls Tryz.prog 38 #[v, .int .i64 (k : Int)] w fun e w' => e = .returned (.int .i64 ((k + cntL cntF xs : Nat) : Int)) ∧ OL 54 OFld lo hi w' v (mkL cntF mkF k xs) ∧ Within lo hi w w' := by
  have hl : xs.length ≤ 1048576 := Nat.le_trans (wL_len _ xs) hn
  have HC := hide (fun i h => cnt_step cntF wFld cntF_le xs i h)
  have HSN := hide (fun i h => cntL_snoc cntF xs i h)
  have HM := hide (fun i h => wL_mem wFld (List.getElem_mem (l := xs) (n := i) h))
  obtain ⟨p, cap, rfl, h1, h2, h4⟩ := hr
  by_cases h0 : xs.length = 0
  · obtain rfl : xs = [] := List.eq_nil_of_length_eq_zero h0
    clear h4 HC HM HSN
    go_enter Tryz.func38, Tryz.ntmps38
    go_wp2
    refine wp_loop_rounds 1 ?_
    rw [rounds_succ]
    go_wp2
    go_ret
    exact ⟨rfl, ⟨p, cap, rfl, h1, h2, fun h => absurd h (by simp [mkL])⟩, Within.refl _ _ _⟩
  obtain ⟨g, vs, rest, A, B, rfl, ga, gb, hrow, hvl, hE, hD⟩ := h4 (by omega)
  have HK := hide hk
  have HN := hide hn
  have HR := hide hrow
  have HV := hide hvl
  have HE := hide hE
  have HD := hide hD
  have HG := hide (show lo ≤ g ∧ g < hi from ⟨ga, gb⟩)
  have HCP := hide (show xs.length ≤ cap ∧ cap ≤ maxLen from ⟨h1, h2⟩)
  unfold maxLen at h2
  clear h4 hrow hvl hE hD hk hn ga gb
  go_enter Tryz.func38, Tryz.ntmps38
  go_wp2
  go_loopw [1, 5] (fun x i wr => ∃ (X : World) (j K : Nat), X = wr ∧ j ≤ xs.length ∧ i = .int .i64 (j : Int) ∧ x = .int .i64 (K : Int) ∧ Hid (K = k + cntL cntF (xs.take j)) ∧ Hid (Row X g 54 (vs ++ rest)) ∧ Hid (∀ i (h1 : i < vs.length) (h2 : i < xs.length), lo ≤ A i ∧ B i ≤ hi ∧ (B i ≤ g ∨ g < A i) ∧ OFld (A i) (B i) X vs[i] (if i < j then mkF (k + cntL cntF (xs.take i)) xs[i] else xs[i])) ∧ Hid (Within lo hi w X)) (fun _ i _ => xs.length - (intOf i).toNat)
  case atStart => exact ⟨_, 0, k, rfl, Nat.zero_le _, rfl, rfl, hide (by simp [cntL]), HR, hide (fun i h1 h2 => by rw [if_neg (by omega)]; exact HE.out i h1 h2), hide (Within.refl _ _ _)⟩
  case round =>
    obtain ⟨X, j, K, rfl, hj, rfl, rfl, HKE, HRX, HEX, HW⟩ := hrel
    by_cases hlt : j < xs.length
    · have hjv : j < vs.length := by rw [HV.out]; exact hlt
      obtain ⟨e1, e2, e3, e4⟩ := HEX.out j hjv hlt
      rw [if_neg (by omega)] at e4
      have hcell : X.cell? ⟨g, j, none⟩ = some (vs[j]'hjv) := by rw [HRX.out.cell, List.getElem?_append_left hjv, List.getElem?_eq_getElem hjv]
      have hKb : K + wFld (xs[j]'hlt) ≤ 4000000 := by have h1 := HC.out j hlt; have h2 := HK.out; rw [HKE.out]; omega
      have hwb : wFld (xs[j]'hlt) ≤ 1048576 := by have h1 := HM.out j hlt; have h2 := HN.out; omega
      have HOK := hide e4
      have HEB := hide (show lo ≤ A j ∧ B j ≤ hi ∧ (B j ≤ g ∨ g < A j) from ⟨e1, e2, e3⟩)
      have HVJ := hide (show ∃ p c, (vs[j]'hjv) = .slice p (xs[j]'hlt).length c from e4.isSlice)
      obtain ⟨vp, vc, hvj⟩ := HVJ.out
      rw [hvj] at hcell HOK
      have HVJ2 := hide hvj
      clear e1 e2 e3 e4 HVJ hvj
      go_wp2_with fail
      refine (markRepS_own (A j) (B j) _ (xs[j]'hlt) K _ hwb hKb HOK.out).mono ?_
      rintro e w2 ⟨rfl, hok, hw⟩
      have HK2 : Hid (K + cntF (xs[j]'hlt) = k + cntL cntF (xs.take (j + 1))) := by rw [HSN.out j hlt, HKE.out, Nat.add_assoc]; exact rfl
      have HR2 := hide (hw.row HRX.out (by have := HEB.out.2.2; omega))
      have HW2 := hide (HW.out.trans (hw.mono HEB.out.1 HEB.out.2.1))
      have HE2 : Hid (∀ i (h1 : i < vs.length) (h2 : i < xs.length), lo ≤ A i ∧ B i ≤ hi ∧ (B i ≤ g ∨ g < A i) ∧ OFld (A i) (B i) w2 vs[i] (if i < j + 1 then mkF (k + cntL cntF (xs.take i)) xs[i] else xs[i])) := by
        intro i h1 h2
        obtain ⟨f1, f2, f3, f4⟩ := HEX.out i h1 h2
        refine ⟨f1, f2, f3, ?_⟩
        by_cases hij : i = j
        · subst hij
          rw [if_pos (by omega), HVJ2.out, ← HKE.out]
          exact hok
        · have hd : B i ≤ A j ∨ B j ≤ A i := by
            rcases Nat.lt_or_gt_of_ne hij with h | h
            · exact .inl (HD.out i j h hlt)
            · exact .inr (HD.out j i h h2)
          have e : (if i < j + 1 then mkF (k + cntL cntF (xs.take i)) xs[i] else xs[i]) = (if i < j then mkF (k + cntL cntF (xs.take i)) xs[i] else xs[i]) := by
            by_cases h : i < j
            · rw [if_pos h, if_pos (by omega)]
            · rw [if_neg h, if_neg (by omega)]
          rw [e]
          exact Keeps.go (hw.same hd) f4
      clear hok hw
      go_wp2
      go_roundw
      case rel => exact ⟨_, j + 1, _, rfl, by omega, by go_num, rfl, HK2, HR2, HE2, HW2⟩
      case measure => simp [intOf]; omega
    · have hje : j = xs.length := by omega
      have HKF : Hid (K = k + cntL cntF xs) := by have := HKE.out; rw [List.take_of_length_le (by omega)] at this; exact this
      have hml := mkL_len cntF mkF xs k
      have HF : Hid (OL 54 OFld lo hi X (.slice (some ⟨g, 0, none⟩) xs.length cap) (mkL cntF mkF k xs)) := by
        have := OL.mk (T := 54) (R := OFld) (lo := lo) (hi := hi) (g := g) (cap := cap) (w := X) (vs := vs) (rest := rest) (A := A) (B := B) (xs := mkL cntF mkF k xs) (by rw [hml]; exact HCP.out.1) HCP.out.2 (by rw [hml]; exact HV.out) HG.out.1 HG.out.2 HRX.out
          (fun i h1 h2 => by
            have h3 : i < xs.length := by rw [hml] at h2; exact h2
            obtain ⟨f1, f2, f3, f4⟩ := HEX.out i h1 h3
            rw [if_pos (by omega)] at f4
            rw [mkL_get cntF mkF xs k i h3 h2]
            exact ⟨f1, f2, f3, f4⟩)
          (fun i j h1 h2 => HD.out i j h1 (by rw [hml] at h2; exact h2))
        rw [hml] at this
        exact this
      clear hml
      go_wp2
      go_ret
      exact ⟨ret_int (by rw [HKF.out]), HF.out, HW.out⟩
set_option maxHeartbeats 2000000 in
theorem heldFieldS_own (lo hi : Nat) (v : Value) (xs : List (List (List (List ByteArray)))) (k : Nat) (w : World) (hn : wL wFld xs ≤ 1048576) (hk : k + wL wFld xs ≤ 4000000) (hr : OL 54 OFld lo hi w v (mkL cntF mkF k xs)) :
    Calls Tryz.prog 39 #[v, .int .i64 (k : Int)] w fun e w' => e = .returned (.int .i64 ((k + cntL cntF xs : Nat) : Int)) ∧ Below w.heap.size w w' := by
  have hl : xs.length ≤ 1048576 := Nat.le_trans (wL_len _ xs) hn
  have HC := hide (fun i h => cnt_step cntF wFld cntF_le xs i h)
  have HSN := hide (fun i h => cntL_snoc cntF xs i h)
  have HM := hide (fun i h => wL_mem wFld (List.getElem_mem (l := xs) (n := i) h))
  have HML := hide (mkL_len cntF mkF xs k)
  obtain ⟨p, cap, hv, h1, h2, h4⟩ := hr
  rw [HML.out] at h1 hv
  subst hv
  by_cases h0 : xs.length = 0
  · obtain rfl : xs = [] := List.eq_nil_of_length_eq_zero h0
    clear h4 HC HM HSN HML
    go_enter Tryz.func39, Tryz.ntmps39
    go_wp2
    refine wp_loop_rounds 1 ?_
    rw [rounds_succ]
    go_wp2
    go_ret
    exact ⟨rfl, Below.refl _ _⟩
  obtain ⟨g, vs, rest, A, B, rfl, ga, gb, hrow, hvl, hE, hD⟩ := h4 (by rw [HML.out]; omega)
  have HK := hide hk
  have HN := hide hn
  have HR := hide hrow
  have HV := hide hvl
  have HE := hide hE
  unfold maxLen at h2
  clear h4 hrow hvl hE hD hk hn ga gb
  go_enter Tryz.func39, Tryz.ntmps39
  go_wp2
  go_loopw [1, 5] (fun x i wr => ∃ (X : World) (j K : Nat), X = wr ∧ j ≤ xs.length ∧ i = .int .i64 (j : Int) ∧ x = .int .i64 (K : Int) ∧ Hid (K = k + cntL cntF (xs.take j)) ∧ Hid (Below w.heap.size w X)) (fun _ i _ => xs.length - (intOf i).toNat)
  case atStart => exact ⟨_, 0, k, rfl, Nat.zero_le _, rfl, rfl, hide (by simp [cntL]), hide (Below.refl _ _)⟩
  case round =>
    obtain ⟨X, j, K, rfl, hj, rfl, rfl, HKE, HB⟩ := hrel
    by_cases hlt : j < xs.length
    · have hjm : j < (mkL cntF mkF k xs).length := by rw [HML.out]; exact hlt
      have hjv : j < vs.length := by rw [HV.out]; exact hjm
      obtain ⟨e1, e2, e3, e4⟩ := HE.out j hjv hjm
      rw [mkL_get cntF mkF xs k j hlt hjm, ← HKE.out] at e4
      have e5 := Keeps.go (SameIn.ofBelow HB.out) e4
      have rowX := HR.out.below HB.out HR.out.lt
      have hcell : X.cell? ⟨g, j, none⟩ = some (vs[j]'hjv) := by rw [rowX.cell, List.getElem?_append_left hjv, List.getElem?_eq_getElem hjv]
      have hKb : K + wFld (xs[j]'hlt) ≤ 4000000 := by have h1 := HC.out j hlt; have h2 := HK.out; rw [HKE.out]; omega
      have hwb : wFld (xs[j]'hlt) ≤ 1048576 := by have h1 := HM.out j hlt; have h2 := HN.out; omega
      have HOK := hide e5
      obtain ⟨vp, vc, hvj⟩ : ∃ p c, (vs[j]'hjv) = .slice p (mkF K (xs[j]'hlt)).length c := e5.isSlice
      rw [hvj] at hcell HOK
      clear e1 e2 e3 e4 e5 rowX
      go_wp2_with fail
      refine (heldRepS_own (A j) (B j) _ (xs[j]'hlt) K _ hwb hKb HOK.out).mono ?_
      rintro e w2 ⟨rfl, hb2⟩
      have HK2 : Hid (K + cntF (xs[j]'hlt) = k + cntL cntF (xs.take (j + 1))) := by rw [HSN.out j hlt, HKE.out, Nat.add_assoc]; exact rfl
      have HB2 := hide (HB.out.trans (hb2.mono HB.out.size))
      have hpos : ¬ (((K + cntF (xs[j]'hlt) : Nat) : Int)) < 0 := by omega
      clear hb2
      go_wp2
      go_roundw
      case rel => exact ⟨_, j + 1, _, rfl, by omega, by go_num, rfl, HK2, HB2⟩
      case measure => simp [intOf]; omega
    · have HKF : Hid (K = k + cntL cntF xs) := by have := HKE.out; rw [List.take_of_length_le (by omega)] at this; exact this
      go_wp2
      go_ret
      exact ⟨ret_int (by rw [HKF.out]), HB.out⟩
end Go.Proofs.YtckcfjibiidafaaGreat
