/- The specification's small helpers of an area: how many sectors a side has, where a side begins, and a head's text. -/
import Derived.Test.YtkmehbgepkilkaaGreatDoorXGMem
import Derived.Test.YtkmehbgepkilkaaGreatDoorXGCJoin
import Derived.Test.YtkmehbgepkilkaaGreatDoorXGNOwn
namespace Go.Proofs.YtkmehbgepkilkaaGreatDoor
open Go.RowKit

def half (n : Nat) : Int := ((n : Int) - 1) / 2
def numText (n : Int) : ByteArray := St2.bytesOf (St2.enc n)
def headOf (g s z : Int) : ByteArray := St1.sealOf (numText g ++ numText s ++ numText z)

theorem numText_size (n : Int) : (numText n).size ≤ 10 := by
  have := St2.enc_len n
  simp only [numText, St2.bytesOf, ByteArray.size, List.size_toArray, List.length_map]; exact this

set_option maxHeartbeats 400000 in
theorem l03Half_any (vs vp : Value) (xs : List ByteArray) (w : World) (hx : 1 ≤ xs.length) (hn : xs.length ≤ 1048576) (hr : Reads w vs xs) :
    Calls Tryz.prog 45 #[.agg #[vs, vp]] w fun e w' => e = .returned (.int .i64 (half xs.length)) ∧ Below w.heap.size w w' := by
  have hb0 : Below w.heap.size w (w.alloc (.cells #[vs, vp] 26)) := (Below.refl _ _).alloc (Nat.le_refl _) _
  obtain ⟨p1, c1, rfl, hq⟩ := hr
  clear hq
  have h1 : ((xs.length : Int) - 1).tdiv 2 = half xs.length := by unfold half; rw [Int.tdiv_eq_ediv_of_nonneg (by omega)]
  have h0 : IntKind.i64.wrap ((xs.length : Int) - 1) = (xs.length : Int) - 1 := by rw [IntKind.wrap_i64]; omega
  have h2 : IntKind.i64.wrap (half xs.length) = half xs.length := by unfold half; rw [IntKind.wrap_i64]; omega
  go_enter Tryz.func45, Tryz.ntmps45
  go_wp2
  go_ret
  exact ⟨by first | rfl | simp [h1, h2], hb0⟩

set_option maxHeartbeats 400000 in
theorem l03Head_any (g s z : Int) (w : World) (hg : -9223372036854775808 ≤ g ∧ g ≤ 9223372036854775807) (hs : -9223372036854775808 ≤ s ∧ s ≤ 9223372036854775807) (hz : -9223372036854775808 ≤ z ∧ z ≤ 9223372036854775807) :
    Calls Tryz.prog 47 #[.int .i64 g, .int .i64 s, .int .i64 z] w fun e w' => e = .returned (.string (headOf g s z)) ∧ Below w.heap.size w w' := by
  have e1 : (St2.bytesOf (St2.enc g)).size ≤ 10 := numText_size g
  have e2 : (St2.bytesOf (St2.enc s)).size ≤ 10 := numText_size s
  have e3 : (St2.bytesOf (St2.enc z)).size ≤ 10 := numText_size z
  go_enter Tryz.func47, Tryz.ntmps47
  go_wp2_with fail
  refine (St2.specPutNum_any g _ hg.1 hg.2).mono ?_
  rintro e w1 ⟨rfl, hb1⟩
  go_wp2_with fail
  refine (St2.specPutNum_any s _ hs.1 hs.2).mono ?_
  rintro e w2 ⟨rfl, hb2⟩
  go_wp2_with fail
  refine (St2.specPutNum_any z _ hz.1 hz.2).mono ?_
  rintro e w3 ⟨rfl, hb3⟩
  go_wp2_with fail
  refine (St1.specSeal_any _ _ (by simp only [ByteArray.size_append]; omega)).mono ?_
  rintro e w4 ⟨rfl, hb4⟩
  go_wp2
  go_ret
  exact ⟨rfl, ((hb1.trans (hb2.mono hb1.size)).trans (hb3.mono (Nat.le_trans hb1.size hb2.size))).trans (hb4.mono (Nat.le_trans hb1.size (Nat.le_trans hb2.size hb3.size)))⟩
end Go.Proofs.YtkmehbgepkilkaaGreatDoor
