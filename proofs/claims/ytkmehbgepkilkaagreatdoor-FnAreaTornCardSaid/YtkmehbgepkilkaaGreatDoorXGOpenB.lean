/- Bytes that come in, read as a list. -/
import Derived.Test.YtkmehbgepkilkaaGreatDoorXGDraw
import Derived.Test.YtkmehbgepkilkaaGreatDoorXGOpen
import Derived.ChangeSlices
import Derived.ProofKit
namespace Go.Proofs.YtkmehbgepkilkaaGreatDoor
open Go.RowKit Go.ChangeShapes Go.WideShapes

theorem readsB_of_trod0 {H : Type} {enc : TypeId × Value → H} {P : Program} {w : World} {base : Nat} {spare : Nat → Bool} {held : Bool} {t e : TypeId} {fuel : Nat} {v : Value} {x : DataW H × List MemPlace}
    (ht : P.underlying t = some (.slice e)) (he : P.underlying e = some (.int .u8)) (hc : P.cellsOf e = 1) (h : DataW.trod enc P w base spare held fuel t [v] = some x) : ∃ ks, ReadsB w v ks := by
  rcases open_ints ht he hc h with ⟨hcs, _⟩ | ⟨a, len, cap, ss, hcs, _, hl, hm, hlen, _, hcell, hwf⟩
  · obtain rfl : v = .slice none 0 0 := by simpa using hcs
    exact ⟨[], none, 0, rfl, Nat.le_refl _, Nat.zero_le _, by simp, fun h0 => absurd h0 (Nat.lt_irrefl 0)⟩
  · obtain rfl : v = .slice (some a) len cap := by simpa using hcs
    have hll : len ≤ ss.length := by rw [hlen]; split <;> omega
    have hL : (ss.take len).length = len := by rw [List.length_take]; omega
    refine ⟨ss.take len, some a, cap, by rw [hL], by omega, hm, fun b hb => ?_, fun h0 => ?_⟩
    · have h := hwf b (List.mem_of_mem_take hb)
      have hmin : IntKind.u8.min = 0 := rfl
      have hmax : IntKind.u8.max = 255 := rfl
      simp only [Lit.wf, Bool.and_eq_true, decide_eq_true_eq] at h
      omega
    · have ha := spot_none (hcell 0 (by omega))
      refine ⟨a.block, a.off, by rw [← ha], ?_, fun i hi => ?_⟩
      · have := World.block_lt_of_cell? w _ (hcell 0 (by omega))
        simpa [Addr.add] using this
      · have := hcell i (by omega)
        rw [ha, Addr.add_lit] at this
        rw [this, List.getElem_take, List.getD_eq_getElem?_getD, List.getElem?_eq_getElem (by omega)]
        rfl
theorem readsB_of_trod {H : Type} {enc : TypeId × Value → H} {P : Program} {w : World} {base : Nat} {spare : Nat → Bool} {held : Bool} {t e : TypeId} {v : Value} {d : DataW H} {ps : List MemPlace} {r : Reach} {b0 : Nat}
    (ht : P.underlying t = some (.slice e)) (he : P.underlying e = some (.int .u8)) (hc : P.cellsOf e = 1) (hval : Value.okWide P w r b0 t v) (h : DataW.Trod enc P w base spare held t v d ps) : ∃ ks, ReadsB w v ks := by
  obtain ⟨a, len, cap, rfl⟩ := okWide_slice ht hval
  obtain ⟨fuel, hf⟩ := h
  exact readsB_of_trod0 (fuel := fuel) (x := (d, ps)) ht he hc (by simpa [Value.cells] using hf)
end Go.Proofs.YtkmehbgepkilkaaGreatDoor
