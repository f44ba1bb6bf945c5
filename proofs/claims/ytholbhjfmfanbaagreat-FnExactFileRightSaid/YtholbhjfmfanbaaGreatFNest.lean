/- Lists of lists of texts, as they lie in memory; what of them lasts. Nothing here speaks of one program. -/
import Derived.Test.YtholbhjfmfanbaaGreatMem
namespace Go.Proofs.YtholbhjfmfanbaaGreat
open Go.RowKit

/-- w' has what w has from block B on. -/
structure Same (B : Nat) (w w' : World) : Prop where
  size : w.heap.size ≤ w'.heap.size
  block : ∀ k, B ≤ k → k < w.heap.size → w'.heap[k]? = w.heap[k]?
theorem Same.refl (B : Nat) (w : World) : Same B w w := ⟨Nat.le_refl _, fun _ _ _ => rfl⟩
theorem Same.of {B : Nat} {w w' : World} (h : Below w.heap.size w w') : Same B w w' := ⟨h.size, fun k _ hk => h.block k hk⟩
theorem Same.trans {B : Nat} {a b c : World} (h : Same B a b) (k : Same B b c) : Same B a c :=
  ⟨Nat.le_trans h.size k.size, fun i h1 h2 => (k.block i h1 (Nat.lt_of_lt_of_le h2 h.size)).trans (h.block i h1 h2)⟩
theorem Same.set {B g j : Nat} (w : World) (v : Value) (h : g < B) : Same B w (w.setCell ⟨g, j, none⟩ v) :=
  ⟨by simp [World.setCell], fun k hk _ => Below.heap_setCell w ⟨g, j, none⟩ v k (by show k ≠ g; omega)⟩
theorem Same.cell {B g j : Nat} {w w' : World} (h : Same B w w') (h1 : B ≤ g) (h2 : g < w.heap.size) : w'.cell? ⟨g, j, none⟩ = w.cell? ⟨g, j, none⟩ :=
  World.cell?_of_block (w := w) (h.block g h1 h2)

class Lasts {α : Type} (B : Nat) (R : World → Value → α → Prop) : Prop where
  go : ∀ {w w' : World} {v : Value} {x : α}, Same B w w' → R w v x → R w' v x

def RS (_ : World) (v : Value) (x : ByteArray) : Prop := v = .string x ∧ x.size ≤ maxLen
/-- The slice v reads, element by element, as xs; its cells lie in a block from B on. -/
def RL {α : Type} (B : Nat) (R : World → Value → α → Prop) (w : World) (v : Value) (xs : List α) : Prop :=
  ∃ p cap, v = .slice p xs.length cap ∧ xs.length ≤ cap ∧ cap ≤ maxLen ∧
    (0 < xs.length → ∃ g off, p = some ⟨g, off, none⟩ ∧ g < w.heap.size ∧ B ≤ g ∧ ∀ i (h : i < xs.length), ∃ u, w.cell? ⟨g, off + i, none⟩ = some u ∧ R w u xs[i])
instance (B : Nat) : Lasts B RS := ⟨fun _ h => h⟩
instance {α : Type} (B : Nat) (R : World → Value → α → Prop) [Lasts B R] : Lasts B (RL B R) := ⟨fun {w w' v xs} hs h => by
  obtain ⟨p, cap, rfl, h1, h2, h4⟩ := h
  refine ⟨p, cap, rfl, h1, h2, fun h0 => ?_⟩
  obtain ⟨g, off, rfl, hg, hB, hc⟩ := h4 h0
  refine ⟨g, off, rfl, Nat.lt_of_lt_of_le hg hs.size, hB, fun i hi => ?_⟩
  obtain ⟨u, hu, hR⟩ := hc i hi
  exact ⟨u, by rw [hs.cell hB hg]; exact hu, Lasts.go hs hR⟩⟩
theorem RL.mono {α : Type} {B B' : Nat} {R R' : World → Value → α → Prop} {w : World} {v : Value} {xs : List α} (h : RL B R w v xs) (hB : B' ≤ B) (hR : ∀ u x, R w u x → R' w u x) : RL B' R' w v xs := by
  obtain ⟨p, cap, rfl, h1, h2, h4⟩ := h
  refine ⟨p, cap, rfl, h1, h2, fun h0 => ?_⟩
  obtain ⟨g, off, rfl, hg, hB2, hc⟩ := h4 h0
  refine ⟨g, off, rfl, hg, Nat.le_trans hB hB2, fun i hi => ?_⟩
  obtain ⟨u, hu, hr⟩ := hc i hi
  exact ⟨u, hu, hR _ _ hr⟩
theorem RL.below {α : Type} {B : Nat} {R : World → Value → α → Prop} [Lasts B R] {w w' : World} {v : Value} {xs : List α} (h : RL B R w v xs) (hb : Below w.heap.size w w') : RL B R w' v xs := Lasts.go (B := B) (Same.of hb) h
theorem RL.isSlice {α : Type} {B : Nat} {R : World → Value → α → Prop} {w : World} {v : Value} {xs : List α} (h : RL B R w v xs) : ∃ p c, v = .slice p xs.length c := by
  obtain ⟨p, c, e, _⟩ := h
  exact ⟨p, c, e⟩

abbrev RComp (B : Nat) : World → Value → List ByteArray → Prop := RL B RS
abbrev RRep (B : Nat) : World → Value → List (List ByteArray) → Prop := RL B (RComp B)
abbrev RFld (B : Nat) : World → Value → List (List (List ByteArray)) → Prop := RL B (RRep B)
theorem RComp.mono {B B' : Nat} {w : World} {v : Value} {x : List ByteArray} (h : RComp B w v x) (hB : B' ≤ B) : RComp B' w v x := RL.mono h hB fun _ _ h => h
theorem RRep.mono {B B' : Nat} {w : World} {v : Value} {x : List (List ByteArray)} (h : RRep B w v x) (hB : B' ≤ B) : RRep B' w v x := RL.mono h hB fun _ _ h => RComp.mono h hB
theorem RFld.mono {B B' : Nat} {w : World} {v : Value} {x : List (List (List ByteArray))} (h : RFld B w v x) (hB : B' ≤ B) : RFld B' w v x := RL.mono h hB fun _ _ h => RRep.mono h hB

theorem reads_of_comp {B : Nat} {w : World} {v : Value} {xs : List ByteArray} (h : RComp B w v xs) : (∀ x ∈ xs, x.size ≤ maxLen) → Reads w v xs := by
  intro hx
  obtain ⟨p, cap, rfl, h1, h2, h4⟩ := h
  refine ⟨p, cap, rfl, h1, h2, hx, fun h0 => ?_⟩
  obtain ⟨g, off, rfl, hg, _, hc⟩ := h4 h0
  refine ⟨g, off, rfl, hg, fun i hi => ?_⟩
  obtain ⟨u, hu, rfl, _⟩ := hc i hi
  exact hu
theorem RComp.sizes {B : Nat} {w : World} {v : Value} {xs : List ByteArray} (h : RComp B w v xs) : ∀ x ∈ xs, x.size ≤ maxLen := by
  intro x hx
  obtain ⟨i, hi, rfl⟩ := List.getElem_of_mem hx
  obtain ⟨p, cap, _, _, _, h4⟩ := h
  obtain ⟨g, off, _, _, _, hc⟩ := h4 (by omega)
  obtain ⟨u, _, _, h⟩ := hc i hi
  exact h
theorem RComp.reads {B : Nat} {w : World} {v : Value} {xs : List ByteArray} (h : RComp B w v xs) : Reads w v xs := reads_of_comp h h.sizes
theorem comp_of_reads {w : World} {v : Value} {xs : List ByteArray} (h : Reads w v xs) : RComp 0 w v xs := by
  obtain ⟨p, cap, rfl, h1, h2, h3, h4⟩ := h
  refine ⟨p, cap, rfl, h1, h2, fun h0 => ?_⟩
  obtain ⟨g, off, rfl, hg, hc⟩ := h4 h0
  exact ⟨g, off, rfl, hg, Nat.zero_le _, fun i hi => ⟨_, hc i hi, rfl, h3 _ (List.getElem_mem hi)⟩⟩
/-- A row of the call's own, read as a list. -/
theorem rl_row {α : Type} {B g : Nat} {R : World → Value → α → Prop} {w : World} {T : TypeId} {vs : List Value} {xs : List α} (h : Row w g T vs) (hl : vs.length = xs.length) (hm : xs.length ≤ maxLen) (hB : B ≤ g)
    (hR : ∀ i (hi : i < xs.length), R w (vs[i]'(by omega)) xs[i]) : RL B R w (.slice (some ⟨g, 0, none⟩) xs.length xs.length) xs :=
  ⟨_, _, rfl, Nat.le_refl _, hm, fun _ => ⟨g, 0, rfl, h.lt, hB, fun i hi => ⟨_, by rw [Nat.zero_add]; exact h.at i (by omega), hR i hi⟩⟩⟩

/-- How much texts and lists of them take together. -/
def wL {α : Type} (f : α → Nat) (xs : List α) : Nat := xs.length + (xs.map f).sum
def wComp : List ByteArray → Nat := wL ByteArray.size
def wRep : List (List ByteArray) → Nat := wL wComp
def wFld : List (List (List ByteArray)) → Nat := wL wRep
def szOf (n : Nat) (left : Int) : Int := if (n : Int) ≤ left then left - n else -1
theorem szOf_yes {n : Nat} {left : Int} (h : (n : Int) ≤ left) : szOf n left = left - n := if_pos h
theorem szOf_no {n : Nat} {left : Int} (h : ¬ (n : Int) ≤ left) : szOf n left = -1 := if_neg h
theorem szOf_zero {L : Int} (h : 0 ≤ L) : szOf 0 L = L := by simp [szOf, h]
theorem szOf_step {α : Type} (f : α → Nat) (xs : List α) (k : Nat) (h : k < xs.length) (L : Int) : szOf ((xs.drop k).map f).sum L = if (f xs[k] : Int) ≤ L then szOf ((xs.drop (k + 1)).map f).sum (L - f xs[k]) else -1 := by
  rw [List.drop_eq_getElem_cons h]
  simp only [List.map_cons, List.sum_cons, szOf]
  split <;> split <;> (try split) <;> omega
theorem le_sum_mem : ∀ (l : List Nat) (x : Nat), x ∈ l → x ≤ l.sum
  | [], _, h => by simp at h
  | y :: l, x, h => by
    rcases List.mem_cons.1 h with rfl | h
    · simp
    · have := le_sum_mem l x h
      simp
      omega
theorem wL_mem {α : Type} (f : α → Nat) {xs : List α} {x : α} (h : x ∈ xs) : f x + xs.length ≤ wL f xs := by
  unfold wL
  have : f x ≤ (xs.map f).sum := le_sum_mem _ _ (List.mem_map_of_mem h)
  omega
theorem wL_len {α : Type} (f : α → Nat) (xs : List α) : xs.length ≤ wL f xs := by unfold wL; omega
end Go.Proofs.YtholbhjfmfanbaaGreat
