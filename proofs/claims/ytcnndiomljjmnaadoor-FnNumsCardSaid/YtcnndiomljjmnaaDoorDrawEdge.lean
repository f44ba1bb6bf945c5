/- Draws: a number at some limit. -/
import Derived.Test.YtcnndiomljjmnaaDoorDraw2
import Derived.Test.YtcnndiomljjmnaaDoorDraw
import Derived.Test.YtcnndiomljjmnaaDoorIClone
import Derived.Laws.IdiomStrings
import Derived.Laws.BytesString
namespace Go.Proofs.YtcnndiomljjmnaaDoor
open Go.RowKit

set_option maxHeartbeats 4000000 in
theorem edge_any (v : Value) (bs : List Int) (g : Nat) (w : World) (h : Src v bs g w) (hl : bs.length ≤ 1048576) :
    Calls Tryd.prog 24 #[.pointer (some ⟨g, 0, none⟩)] w fun e w' => (∃ r : Int, e = .returned (.int .i64 r) ∧ -9223372036854775808 ≤ r ∧ r ≤ 9223372036854775807) ∧ Src v bs g w' ∧ Kept [g] w w' := by
  obtain ⟨O, hO⟩ : ∃ O : Obj, O = .cells #[.int .i64 0, .int .i64 1, .int .i64 (-1), .int .i64 2, .int .i64 1000, .int .i64 1001, .int .i64 2147483648, .int .i64 2147483647, .int .i64 (-2147483648), .int .i64 4611686018427387904, .int .i64 9223372036854775807, .int .i64 (-9223372036854775808), .int .i64 1000000, .int .i64 1000001] 2 := ⟨_, rfl⟩
  have HS := hide (h.below (below_new w O))
  have HRW : Hid (Row (w.alloc O) w.heap.size 2 [.int .i64 0, .int .i64 1, .int .i64 (-1), .int .i64 2, .int .i64 1000, .int .i64 1001, .int .i64 2147483648, .int .i64 2147483647, .int .i64 (-2147483648), .int .i64 4611686018427387904, .int .i64 9223372036854775807, .int .i64 (-9223372036854775808), .int .i64 1000000, .int .i64 1000001]) := by
    rw [hO]; exact row_new w _ _
  have HG := hide h.lt
  have HO := hide hO
  clear h hO
  go_enter Tryd.func24, Tryd.ntmps24
  go_wp2_with fail
  rw [← HO.out]
  refine (n_any v bs g 14 _ HS.out (by omega) hl).mono ?_
  rintro e w1 ⟨⟨r, rfl, hr0, hr1⟩, hs1, hk1⟩
  have R1 := hk1.row HRW.out (by have := HG.out; simp; omega)
  have HS1 := hide hs1
  have HK1 := hide (((Kept.refl [g] w).alloc O).trans hk1)
  have hr2 : r < 14 := by omega
  obtain ⟨n, rfl⟩ := Int.eq_ofNat_of_zero_le hr0
  have hn14 : n < 14 := by omega
  obtain ⟨z, hz, hz1, hz2⟩ : ∃ z : Int, w1.cell? ⟨w.heap.size, n, none⟩ = some (.int .i64 z) ∧ -9223372036854775808 ≤ z ∧ z ≤ 9223372036854775807 := by
    rw [R1.cell n]
    match n, hn14 with
    | 0, _ => exact ⟨_, rfl, by decide, by decide⟩
    | 1, _ => exact ⟨_, rfl, by decide, by decide⟩
    | 2, _ => exact ⟨_, rfl, by decide, by decide⟩
    | 3, _ => exact ⟨_, rfl, by decide, by decide⟩
    | 4, _ => exact ⟨_, rfl, by decide, by decide⟩
    | 5, _ => exact ⟨_, rfl, by decide, by decide⟩
    | 6, _ => exact ⟨_, rfl, by decide, by decide⟩
    | 7, _ => exact ⟨_, rfl, by decide, by decide⟩
    | 8, _ => exact ⟨_, rfl, by decide, by decide⟩
    | 9, _ => exact ⟨_, rfl, by decide, by decide⟩
    | 10, _ => exact ⟨_, rfl, by decide, by decide⟩
    | 11, _ => exact ⟨_, rfl, by decide, by decide⟩
    | 12, _ => exact ⟨_, rfl, by decide, by decide⟩
    | 13, _ => exact ⟨_, rfl, by decide, by decide⟩
    | k + 14, h => omega
  clear hs1 hk1 R1 hr1
  go_wp2
  go_ret
  exact ⟨⟨z, rfl, hz1, hz2⟩, HS1.out, HK1.out⟩
end Go.Proofs.YtcnndiomljjmnaaDoor
