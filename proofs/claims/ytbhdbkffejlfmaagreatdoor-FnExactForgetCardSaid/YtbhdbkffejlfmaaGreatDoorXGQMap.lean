/- A store's map, as the list of what it keeps. -/
import Derived.Test.YtbhdbkffejlfmaaGreatDoorXGQStoreM
import Derived.Test.YtbhdbkffejlfmaaGreatDoorXGQIter
import Derived.Maps.OwnSet
namespace Go.Proofs.YtbhdbkffejlfmaaGreatDoor
open Go.RowKit Go.Maps

/-- How a value of the map reads. -/
def keptR : Value → Option (DataW Unit × List MemPlace)
  | .agg a => match a.toList with
    | [.string s] => some (.lit (.string s.data.toList), [])
    | _ => none
  | _ => none
theorem keptR_mk (s : ByteArray) : keptR (.agg #[.string s]) = some (.lit (.string s.data.toList), []) := rfl
theorem keptR_inv {v : Value} {l : List UInt8} {ps : List MemPlace} (h : keptR v = some (.lit (.string l), ps)) : v = .agg #[.string ⟨l.toArray⟩] := by
  unfold keptR at h
  split at h
  · rename_i a
    split at h
    · rename_i s he
      simp only [Option.some.injEq, Prod.mk.injEq, DataW.lit.injEq, Lit.string.injEq] at h
      have : a = #[.string s] := by rw [← Array.toList_inj]; exact he
      rw [this, ← h.1]
    · cases h
  · cases h
def keyD (i : ByteArray) : Lit := .string i.data.toList
def valD (t : ByteArray) : DataW Unit := .lit (.string t.data.toList)
def entD (x : Item) : Lit × DataW Unit := (keyD x.1, valD x.2)
def datL (L : List Item) : DataW Unit := .map (L.map entD)
theorem datL_del (L : List Item) (i : ByteArray) : (datL L).del (keyD i) = datL (delL L i) := by
  unfold datL DataW.del delL
  simp only [List.filter_map]
  rfl
theorem insert_map (x : Item) : ∀ L : List Item, DataW.insert (entD x) (L.map entD) = (insL x L).map entD
  | [] => rfl
  | y :: r => by
    have ih := insert_map x r
    rw [List.map_cons, DataW.insert, insL]
    have : (entD x).1.before (entD y).1 = ltB x.1 y.1 := rfl
    rw [this]
    split
    · rfl
    · rw [ih]; rfl
theorem datL_put (L : List Item) (i t : ByteArray) : (datL L).put (keyD i) (valD t) = datL (putL L i t) := by
  have h : (datL L).put (keyD i) (valD t) = .map (DataW.insert (entD (i, t)) ((delL L i).map entD)) := by
    have := datL_del L i
    unfold datL DataW.del at this
    unfold datL DataW.put
    simp only [DataW.map.injEq] at this ⊢
    rw [this]
    rfl
  rw [h, insert_map]
  rfl
theorem datL_size (L : List Item) : Maps.size (datL L) = L.length := by simp [datL, Maps.size]
theorem datL_has (L : List Item) (i : ByteArray) : Maps.has (datL L) (keyD i) = L.any (sameId i) := by
  simp only [datL, Maps.has, List.any_map]
  rfl
theorem datL_at (L : List Item) (i : ByteArray) (z : DataW Unit) : (datL L).atKey (keyD i) z = match L.find? (sameId i) with | some p => valD p.2 | none => z := by
  unfold datL DataW.atKey
  simp only [List.find?_map]
  have : ((fun p : Lit × DataW Unit => p.1.sameKey (keyD i)) ∘ entD) = sameId i := rfl
  rw [this]
  cases L.find? (sameId i) <;> rfl
theorem strKeys_datL (L : List Item) : strKeys (datL L) = L.map (·.1.data.toList) := by
  simp [datL, strKeys, entD, keyD, strOf, Function.comp_def]
theorem before_le : ∀ (a b : List UInt8), bytesBefore a b = true → a ≤ b
  | [], _, _ => List.nil_le _
  | _ :: _, [], h => by simp [bytesBefore] at h
  | x :: r, y :: s, h => by
    simp only [bytesBefore, Bool.or_eq_true, Bool.and_eq_true, decide_eq_true_eq, beq_iff_eq] at h
    rw [List.cons_le_cons_iff]
    rcases h with h | ⟨rfl, h⟩
    · exact .inl h
    · exact .inr ⟨rfl, before_le r s h⟩
theorem sorted_datL {L : List Item} (h : Rises L) {ss : List (List UInt8)} (hp : ss.Perm (strKeys (datL L))) : ss.mergeSort (fun x y => decide (x ≤ y)) = L.map (·.1.data.toList) := by
  rw [strKeys_datL] at hp
  rw [show ss.mergeSort (fun x y => decide (x ≤ y)) = (L.map (·.1.data.toList)).mergeSort leB from mergeSort_of_perm hp]
  refine List.mergeSort_of_pairwise ?_
  rw [List.pairwise_map]
  exact h.imp fun {p q} hpq => by simpa [leB] using before_le _ _ hpq
/-- Block b is a map that keeps L. -/
def MapIs (w : World) (b n : Nat) (L : List Item) : Prop := w.ownsMap Tryz.prog 9 keptR b n (datL L)
theorem MapIs.below {w w' : World} {b n : Nat} {L : List Item} {B : Nat} (h : MapIs w b n L) (hb : Below B w w') (hB : b < B) : MapIs w' b n L := by
  obtain ⟨es, clock, hh, F, hs, hD⟩ := h
  exact ⟨es, clock, by rw [hb.block b hB]; exact hh, F, hs, hD⟩
theorem MapIs.lt {w : World} {b n : Nat} {L : List Item} (h : MapIs w b n L) : b < w.heap.size := World.ownsMap.lt h
theorem keyOf_mk (i : ByteArray) (h : i.size ≤ maxLen) : keyOf Tryz.prog 9 (.string i) = some (keyD i) := by
  have hk : Tryz.prog.underlying 9 = some .string := Tryz.underlying9
  simp [keyOf, hk, mapKey, h, keyD]
theorem keyed : Keyed Tryz.prog 9 := string_keyed Tryz.underlying9
theorem zeroKept (w : World) : (zeroValue 82).run Tryz.prog w = .ok (.agg #[.string ⟨#[]⟩]) w := by kernel_rfl
theorem look_any {w : World} {b n : Nat} {L : List Item} (h : MapIs w b n L) (i : ByteArray) (hi : i.size ≤ maxLen) :
    (Instr.lookup 75 (.map (some b)) (.string i) false).run Tryz.prog w = .ok (.agg #[.string (match L.find? (sameId i) with | some p => p.2 | none => ⟨#[]⟩)]) w := by
  obtain ⟨v, ps, hrun, hv⟩ := World.ownsMap.lookup h keyed Tryz.underlying75 (zeroKept w) (keptR_mk ⟨#[]⟩) (keyOf_mk i hi)
  rw [datL_at] at hv
  cases hf : L.find? (sameId i) with
  | none =>
    rw [hf] at hv
    obtain rfl := keptR_inv hv
    rw [hrun]
  | some p =>
    rw [hf] at hv
    obtain rfl := keptR_inv hv
    rw [hrun]
/-- idsOf, of a map that keeps L. -/
theorem idsOf_any (b n : Nat) (L : List Item) (w : World) (h : MapIs w b n L) (hr : Rises L) (hl : L.length ≤ 1000) :
    Calls Tryz.prog 103 #[.map (some b)] w fun e w' => ∃ v, e = .returned v ∧ w'.ownsRow w.heap.size 9 1 v L.length (strs (L.map (·.1))) ∧ (v = .slice none 0 0 ↔ L = []) ∧ Below w.heap.size w w' := by
  refine (idsOf_own b n (datL L) keptR w h (by rw [datL_size]; unfold maxLen; omega) (by rw [datL_size]; omega)).mono ?_
  rintro e w' ⟨v, ss, rfl, hp, hrow, hnil, hb⟩
  have hlen : ss.length = L.length := by rw [hp.length_eq, strKeys_datL]; simp
  rw [sorted_datL hr hp, hlen] at hrow
  refine ⟨v, rfl, ?_, ?_, hb⟩
  · have : (L.map (·.1.data.toList)).map encStr = strs (L.map (·.1)) := by
      simp [strs, encStr, Function.comp_def]
    rw [← this]
    exact hrow
  · rw [hnil]
    constructor
    · rintro rfl
      exact List.eq_nil_of_length_eq_zero (by rw [← hlen]; rfl)
    · rintro rfl
      exact List.eq_nil_of_length_eq_zero hlen
end Go.Proofs.YtbhdbkffejlfmaaGreatDoor
