/- A Path that comes in, read as a text and five numbers. -/
import Derived.Test.YtmkcmajpepehmaaGreatXG18FMsgR
import Derived.Test.YtmkcmajpepehmaaGreatXG25Open
import Derived.Lib.SmallJoins
namespace Go.Proofs.YtmkcmajpepehmaaGreat
open Go.RowKit Go.ChangeShapes Go.WideShapes
theorem array6 {α : Type} {cs : Array α} (h : cs.size = 6) : ∃ c0 c1 c2 c3 c4 c5, cs = #[c0, c1, c2, c3, c4, c5] := by
  obtain ⟨l⟩ := cs
  match l, h with
  | [c0, c1, c2, c3, c4, c5], _ => exact ⟨c0, c1, c2, c3, c4, c5, rfl⟩
set_option maxRecDepth 100000 in
theorem path_open {H : Type} {enc : TypeId × Value → H} {w : World} {base b0 : Nat} {spare : Nat → Bool} {held : Bool} {r : Reach} {v : Value} {d : DataW H} {p : List MemPlace}
    (hv : Value.okWide Tryz.prog w r b0 26 v) (h : DataW.Trod enc Tryz.prog w base spare held 26 v d p) : ∃ m : PathM, v = m.v ∧ m.seg.size ≤ maxLen := by
  obtain ⟨cs, rfl, hsz⟩ := okWide_struct Tryz.underlying26 hv
  obtain ⟨c0, c1, c2, c3, c4, c5, rfl⟩ := array6 (hsz.trans (by kernel_rfl))
  obtain ⟨fuel, hf⟩ := h
  obtain ⟨xs, n, _, _, hl, hlen, hg⟩ := DataW.trod_struct Tryz.underlying26 hf
  have k0 : Tryz.prog.cellsOf 9 = 1 := by kernel_rfl
  have k1 : Tryz.prog.cellsOf 2 = 1 := by kernel_rfl
  have hx : ∀ i, i < 6 → ∃ y, xs[i]? = some y := fun i hi => ⟨_, List.getElem?_eq_getElem (by rw [hlen]; exact hi)⟩
  obtain ⟨y0, e0⟩ := hx 0 (by omega)
  obtain ⟨y1, e1⟩ := hx 1 (by omega)
  obtain ⟨y2, e2⟩ := hx 2 (by omega)
  obtain ⟨y3, e3⟩ := hx 3 (by omega)
  obtain ⟨y4, e4⟩ := hx 4 (by omega)
  obtain ⟨y5, e5⟩ := hx 5 (by omega)
  have g0 : DataW.trod enc Tryz.prog w base spare held n 9 [c0] = some y0 := by have q := hg 0 _ rfl; simpa [Value.cells, k0, e0] using q
  have g1 : DataW.trod enc Tryz.prog w base spare held n 2 [c1] = some y1 := by have q := hg 1 _ rfl; simpa [Value.cells, k1, e1] using q
  have g2 : DataW.trod enc Tryz.prog w base spare held n 2 [c2] = some y2 := by have q := hg 2 _ rfl; simpa [Value.cells, k1, e2] using q
  have g3 : DataW.trod enc Tryz.prog w base spare held n 2 [c3] = some y3 := by have q := hg 3 _ rfl; simpa [Value.cells, k1, e3] using q
  have g4 : DataW.trod enc Tryz.prog w base spare held n 2 [c4] = some y4 := by have q := hg 4 _ rfl; simpa [Value.cells, k1, e4] using q
  have g5 : DataW.trod enc Tryz.prog w base spare held n 2 [c5] = some y5 := by have q := hg 5 _ rfl; simpa [Value.cells, k1, e5] using q
  obtain ⟨s, q0, _, hs⟩ := DataW.trod_string Tryz.underlying9 g0
  obtain ⟨n1, q1, _, _⟩ := DataW.trod_int Tryz.underlying2 g1
  obtain ⟨n2, q2, _, _⟩ := DataW.trod_int Tryz.underlying2 g2
  obtain ⟨n3, q3, _, _⟩ := DataW.trod_int Tryz.underlying2 g3
  obtain ⟨n4, q4, _, _⟩ := DataW.trod_int Tryz.underlying2 g4
  obtain ⟨n5, q5, _, _⟩ := DataW.trod_int Tryz.underlying2 g5
  simp only [List.cons.injEq, and_true] at q0 q1 q2 q3 q4 q5
  subst q0 q1 q2 q3 q4 q5
  exact ⟨⟨s, n1, n2, n3, n4, n5⟩, rfl, hs⟩
end Go.Proofs.YtmkcmajpepehmaaGreat
