/- The law FnDisk, for all bytes: longer ones are passed by. -/
import Derived.Test.YtdnbfnahhkmmnaaDoorLFnDisk
namespace Go.Proofs.YtdnbfnahhkmmnaaDoor
open Go.RowKit

set_option maxRecDepth 100000 in
set_option maxHeartbeats 2000000 in
theorem fnDisk_long (vc vm : Value) (bc bm : List Int) (w : World) (hc : ReadsB w vc bc) (hm : ReadsB w vm bm) (h : 1048576 < bc.length ∨ 1048576 < bm.length) :
    Calls Tryd.prog 3 #[vc, vm] w fun e w' => e = .returned (.bool true) ∧ Below w.heap.size w w' := by
  obtain ⟨pc, cc, rfl, h1, h2, -⟩ := hc
  obtain ⟨pm, cm, rfl, h3, h4, -⟩ := hm
  unfold maxLen at h2 h4
  by_cases h0 : 1048576 < bc.length
  · have t1 : decide ((1048576 : Int) < (bc.length : Int)) = true := decide_eq_true (by omega)
    go_enter Tryd.func3, Tryd.ntmps3
    go_wp2
    go_ret
    exact ⟨rfl, Below.refl _ _⟩
  · have t1 : decide ((1048576 : Int) < (bc.length : Int)) = false := decide_eq_false (by omega)
    have t2 : decide ((1048576 : Int) < (bm.length : Int)) = true := decide_eq_true (by omega)
    go_enter Tryd.func3, Tryd.ntmps3
    go_wp2
    go_ret
    exact ⟨rfl, Below.refl _ _⟩
theorem fnDiskLaw (aF aR aU : Addr) (w : World) (hS : Sents aF aR aU w) (vc vm : Value) (bc bm : List Int) (hc : ReadsB w vc bc) (hm : ReadsB w vm bm) :
    Calls Tryd.prog 3 #[vc, vm] w fun e w' => e = .returned (.bool true) ∧ Below w.heap.size w w' := by
  by_cases h1 : 1048576 < bc.length
  · exact fnDisk_long vc vm bc bm w hc hm (.inl h1)
  · by_cases h2 : 1048576 < bm.length
    · exact fnDisk_long vc vm bc bm w hc hm (.inr h2)
    · exact fnDisk_walk vc vm bc bm aF aR aU w hc hm (by omega) (by omega) hS
end Go.Proofs.YtdnbfnahhkmmnaaDoor
