/- A Segment that comes in, read as a text and lists. -/
import Derived.Test.YtholbhjfmfanbaaGreatFOpen
import Derived.Test.YtholbhjfmfanbaaGreatFSegS
namespace Go.Proofs.YtholbhjfmfanbaaGreat
open Go.RowKit Go.ChangeShapes Go.WideShapes
theorem flds_of_trod {H : Type} {enc : TypeId × Value → H} {w : World} {base : Nat} {spare : Nat → Bool} {held : Bool} {n : Nat} {u : Value} {y : DataW H × List MemPlace}
    (h : DataW.trod enc Tryz.prog w base spare held n 144 [u] = some y) : ∃ a, RFlds 0 w u a :=
  rl_of_trod Tryz.underlying144 (by kernel_rfl) (fun n u y h => fld_of_trod h) h
set_option maxRecDepth 100000 in
theorem segment_open {H : Type} {enc : TypeId × Value → H} {w : World} {base b0 : Nat} {spare : Nat → Bool} {held : Bool} {r : Reach} {v : Value} {d : DataW H} {p : List MemPlace}
    (hv : Value.okWide Tryz.prog w r b0 146 v) (h : DataW.Trod enc Tryz.prog w base spare held 146 v d p) : ∃ u x, (∃ n : ByteArray, v = .agg #[.string n, u] ∧ n.size ≤ maxLen) ∧ RFlds 0 w u x := by
  obtain ⟨v0, v1, y0, y1, k, rfl, _, _, t0, t1⟩ := Joins.open_agg2 Tryz.underlying146 (by kernel_rfl) (by kernel_rfl) hv h
  obtain ⟨s, e0, _, hs⟩ := DataW.trod_string Tryz.underlying9 t0
  obtain rfl : v0 = .string s := by simpa using e0
  obtain ⟨x, hx⟩ := flds_of_trod t1
  exact ⟨v1, x, ⟨s, rfl, hs⟩, hx⟩
end Go.Proofs.YtholbhjfmfanbaaGreat
