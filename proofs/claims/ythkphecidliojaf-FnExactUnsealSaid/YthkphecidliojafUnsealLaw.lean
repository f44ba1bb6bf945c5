/- Two equal answers of Unseal are told to be equal; the law of Unseal out of the two contracts. -/
import Derived.Test.YthkphecidliojafUnseal
namespace Go.Proofs.Ythkphecidliojaf
open Go.RowKit
set_option maxHeartbeats 400000 in
theorem eqTextOut_same (t : ByteArray) (a c : Int) (w : World) :
    Calls Try.prog 15 #[.agg #[.string t, .int .i64 a, .int .i64 c], .agg #[.string t, .int .i64 a, .int .i64 c]] w fun e w' => e = .returned (.bool true) ∧ Below w.heap.size w w' := by
  go_enter Try.func15, Try.ntmps15
  go_wp2
  go_ret
  exact ⟨rfl, ((Below.refl _ _).alloc (Nat.le_refl _) _).alloc (by simp) _⟩

set_option maxHeartbeats 400000 in
theorem law_of (s : ByteArray) (w : World) (t : ByteArray) (c : Int) (hs : s.size ≤ 1048576)
    (h13 : ∀ w, Calls Try.prog 13 #[.string s] w fun e w' => e = .returned (.agg #[.string t, .int .i64 0, .int .i64 c]) ∧ Below w.heap.size w w')
    (h14 : ∀ w, Calls Try.prog 14 #[.string s] w fun e w' => e = .returned (.agg #[.string t, .int .i64 0, .int .i64 c]) ∧ Below w.heap.size w w') :
    Calls Try.prog 6 #[.string s] w fun e w' => e = .returned (.bool true) ∧ Below w.heap.size w w' := by
  have H13 := hide h13
  have H14 := hide h14
  clear h13 h14
  go_enter Try.func6, Try.ntmps6
  go_wp2_with fail
  refine (H13.out _).mono ?_
  rintro e w1 ⟨rfl, hb1⟩
  go_wp2_with fail
  refine (H14.out _).mono ?_
  rintro e w2 ⟨rfl, hb2⟩
  obtain ⟨c0, c1, c2⟩ := out_cells _ _ _ _ hb2
  have hz : w1.heap.size < w2.heap.size := by have := hb2.size; simp at this; omega
  have HB : Hid (Below w.heap.size w w2) := (hb1.alloc hb1.size _).trans (hb2.mono (by have := hb1.size; simp; omega))
  clear hb1 hb2
  go_wp2_with fail
  refine (eqTextOut_same _ _ _ _).mono ?_
  rintro e w3 ⟨rfl, hb3⟩
  go_wp2
  go_ret
  exact ⟨rfl, (HB.out.alloc HB.out.size _).trans (hb3.mono (by have := HB.out.size; simp; omega))⟩
end Go.Proofs.Ythkphecidliojaf
