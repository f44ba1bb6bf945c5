/- The law of StoreGet. -/
import Derived.Test.YtnpbmaajgiapmaaGreatDoorXG38QSGet
import Derived.Test.YtnpbmaajgiapmaaGreatDoorXG39KAs
namespace Go.Proofs.YtnpbmaajgiapmaaGreatDoor
open Go.RowKit
theorem getO_len {xs : List ByteArray} {ps : List (Int × ByteArray)} (d : ByteArray) (h : Small xs ps) : (getO xs ps d).xs.length ≤ 1048576 ∧ (getO xs ps d).ps.length ≤ 1048576 := by
  obtain ⟨x1, x2, x3, x4⟩ := h
  unfold getO
  split
  · exact ⟨Nat.zero_le _, Nat.zero_le _⟩
  · split
    · exact ⟨Nat.zero_le _, Nat.zero_le _⟩
    · exact ⟨x1, x3⟩
set_option maxHeartbeats 2000000 in
theorem storeGetLaw_long (w : World) (d : ByteArray) (hd : 1048576 < d.size) (hm : d.size ≤ maxLen) (vs vp : Value) :
    Calls Tryz.prog 5 #[.agg #[vs, vp], .string d] w fun e w' => e = .returned (.bool true) ∧ Below w.heap.size w w' := by
  have HB0 := hide (below_new w (.cells #[vs, vp] 25))
  unfold maxLen at hm
  have t : (1048576 : Int) < (d.size : Int) := by omega
  go_enter Tryz.func5, Tryz.ntmps5
  go_wp2
  go_ret
  exact ⟨rfl, HB0.out⟩
theorem storeGetLaw (aF aR aU : Addr) (w : World) (hS : Sents aF aR aU w) (hG : St3.Laid w) (d : ByteArray) (hm : d.size ≤ maxLen) (vs vp : Value) (xs : List ByteArray) (ps : List (Int × ByteArray)) (hr : Reads w vs xs) (hp : ReadsP w vp ps) :
    Calls Tryz.prog 5 #[.agg #[vs, vp], .string d] w fun e w' => e = .returned (.bool true) ∧ Below w.heap.size w w' := by
  by_cases hd : 1048576 < d.size
  · exact storeGetLaw_long w d hd hm vs vp
  · exact lawKGet w d (by omega) (fun vs vp xs ps w' hb h1 h2 h3 h4 => implStoreGet_any vs vp xs ps d aF aR aU w' h1 h2 (by omega) h3 h4 (Stab.go hb hS) (Stab.go hb hG)) vs vp xs ps hr hp (fun h => getO_len d h)
end Go.Proofs.YtnpbmaajgiapmaaGreatDoor
