/- What comes in, read as lists. -/
import Derived.Test.YtbhdbkffejlfmaaGreatDoorXGMem
import Derived.SliceStrings
import Derived.Deep.SlicePairs
import Derived.Lib.SmallJoins
namespace Go.Proofs.YtbhdbkffejlfmaaGreatDoor
open Go.RowKit Go.ChangeShapes Go.WideShapes

theorem spot_none {w : World} {a : Addr} {v : Value} (h : w.cell? (a.add 0) = some v) : a = ⟨a.block, a.off, none⟩ := by
  obtain ⟨b, o, s⟩ := a
  cases s with
  | none => rfl
  | some x =>
    have h' : w.cell? ⟨b, o, some x⟩ = some v := h
    unfold World.cell? at h'
    split at h' <;> simp at h'
theorem reads_of_trod {H : Type} {enc : TypeId × Value → H} {P : Program} {w : World} {base : Nat} {spare : Nat → Bool} {held : Bool} {t e : TypeId} {fuel : Nat} {v : Value} {x : DataW H × List MemPlace}
    (ht : P.underlying t = some (.slice e)) (he : P.underlying e = some .string) (hc : P.cellsOf e = 1) (h : DataW.trod enc P w base spare held fuel t [v] = some x) : ∃ xs, Reads w v xs := by
  rcases open_strings ht he hc h with ⟨hcs, _⟩ | ⟨a, len, cap, ss, hcs, _, hl, hm, hlen, _, hcell, hsz⟩
  · obtain rfl : v = .slice none 0 0 := by simpa using hcs
    exact ⟨[], none, 0, rfl, Nat.le_refl _, Nat.zero_le _, by simp, fun h0 => absurd h0 (Nat.lt_irrefl 0)⟩
  · obtain rfl : v = .slice (some a) len cap := by simpa using hcs
    have hll : len ≤ ss.length := by rw [hlen]; split <;> omega
    have hL : (ss.take len).length = len := by rw [List.length_take]; omega
    refine ⟨ss.take len, some a, cap, by rw [hL], by omega, hm, fun y hy => hsz y (List.mem_of_mem_take hy), fun h0 => ?_⟩
    have ha := spot_none (hcell 0 (by omega))
    refine ⟨a.block, a.off, by rw [← ha], ?_, fun i hi => ?_⟩
    · have := World.block_lt_of_cell? w _ (hcell 0 (by omega))
      simpa [Addr.add] using this
    · have := hcell i (by omega)
      rw [ha, Addr.add_lit] at this
      rw [this, List.getElem_take, List.getD_eq_getElem?_getD, List.getElem?_eq_getElem (by omega)]
      rfl
def intV : Value → Int
  | .int _ n => n
  | _ => 0
def strV : Value → ByteArray
  | .string s => s
  | _ => ⟨#[]⟩
theorem readsP_of_trod {H : Type} {enc : TypeId × Value → H} {P : Program} {w : World} {base : Nat} {spare : Nat → Bool} {held : Bool} {t e : TypeId} {f0 f1 : Field} {fuel : Nat} {v : Value} {x : DataW H × List MemPlace}
    (ht : P.underlying t = some (.slice e)) (he : P.underlying e = some (.struct #[f0, f1])) (ce : P.cellsOf e = 2) (o0 : f0.offset = 0) (o1 : f1.offset = 1) (c0 : P.cellsOf f0.type = 1) (c1 : P.cellsOf f1.type = 1)
    (u0 : P.underlying f0.type = some (.int .i64)) (u1 : P.underlying f1.type = some .string) (h : DataW.trod enc P w base spare held fuel t [v] = some x) : ∃ ps, ReadsP w v ps := by
  rcases Go.Deep.open_slice_pairs ht he ce o0 o1 c0 c1 h with ⟨hcs, _⟩ | ⟨a, len, cap, m, n, V0, V1, D0, D1, P0, P1, hcs, _, hl, hm, hmm, _, hx⟩
  · obtain rfl : v = .slice none 0 0 := by simpa using hcs
    exact ⟨[], none, 0, rfl, Nat.le_refl _, Nat.zero_le _, by simp, fun h0 => absurd h0 (Nat.lt_irrefl 0)⟩
  · obtain rfl : v = .slice (some a) len cap := by simpa using hcs
    have hll : len ≤ m := by rw [hmm]; split <;> omega
    have each : ∀ i, i < m → w.cell? (a.add (i * 2)) = some (.int .i64 (intV (V0 i))) ∧ w.cell? (a.add (i * 2 + 1)) = some (.string (strV (V1 i))) ∧ (strV (V1 i)).size ≤ maxLen := by
      intro i hi
      obtain ⟨h0, h1, h2, h3⟩ := hx i hi
      obtain ⟨z, e0, _⟩ := DataW.trod_int u0 h2
      obtain ⟨s, e1, _, hs⟩ := DataW.trod_string u1 h3
      obtain e0' : V0 i = .int .i64 z := by simpa using e0
      obtain e1' : V1 i = .string s := by simpa using e1
      rw [h0, h1, e0', e1']
      exact ⟨rfl, rfl, hs⟩
    refine ⟨(List.range len).map fun i => (intV (V0 i), strV (V1 i)), some a, cap, by simp, by simpa using hl, hm, fun y hy => ?_, fun h0 => ?_⟩
    · obtain ⟨i, hi, rfl⟩ := List.mem_map.1 hy
      exact (each i (by have := List.mem_range.1 hi; omega)).2.2
    · have h0' : 0 < len := by simpa using h0
      have ha := spot_none (w := w) (a := a) (v := .int .i64 (intV (V0 0))) (by simpa using (each 0 (by omega)).1)
      refine ⟨a.block, a.off, by rw [← ha], ?_, fun i hi => ?_⟩
      · have := World.block_lt_of_cell? w _ (each 0 (by omega)).1
        simpa [Addr.add] using this
      · have hi' : i < len := by simpa using hi
        obtain ⟨z0, z1, _⟩ := each i (by omega)
        rw [ha, Addr.add_lit] at z0 z1
        simp only [List.getElem_map, List.getElem_range]
        exact ⟨z0, by rw [Nat.add_assoc]; exact z1⟩
end Go.Proofs.YtbhdbkffejlfmaaGreatDoor
