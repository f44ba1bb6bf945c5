/- How long the answers of the disk's functions are; the laws of DiskRead, DiskWrite, DiskFlush from the program's contracts. -/
import Derived.Test.YthmkblhllbfmcaaDoorLRead
import Derived.Test.YthmkblhllbfmcaaDoorLWrite
import Derived.Test.YthmkblhllbfmcaaDoorLFlush
import Derived.Test.YthmkblhllbfmcaaDoorIRead2
import Derived.Test.YthmkblhllbfmcaaDoorIWrite
namespace Go.Proofs.YthmkblhllbfmcaaDoor
open Go.RowKit

theorem readOut_len {xs : List ByteArray} {ps : List (Int × ByteArray)} (a : Int) (h : Small xs ps) : (readOut xs ps a).xs.length ≤ 1048576 ∧ (readOut xs ps a).ps.length ≤ 1048576 := by
  unfold readOut
  split
  · split
    · exact ⟨h.1, h.2.2.1⟩
    · exact ⟨by simp [illOut], by simp [illOut]⟩
  · exact ⟨by simp [illOut], by simp [illOut]⟩
theorem flushOut_len {xs : List ByteArray} {ps : List (Int × ByteArray)} (h : Small xs ps) : (flushOut xs ps).xs.length ≤ 1048576 ∧ (flushOut xs ps).ps.length ≤ 1048576 := by
  unfold flushOut
  split
  · exact ⟨by rw [show (Out.mk (applyP ps xs) [] ⟨#[]⟩ 0).xs = applyP ps xs from rfl, applyP_len]; exact h.1, by simp⟩
  · exact ⟨by simp [illOut], by simp [illOut]⟩
theorem writeOut_len {xs : List ByteArray} {ps : List (Int × ByteArray)} (a : Int) (d : ByteArray) (h : Small xs ps) : (writeOut xs ps a d).xs.length ≤ 1048576 ∧ (writeOut xs ps a d).ps.length ≤ 1048576 := by
  unfold writeOut
  split
  · exact ⟨by simp [illOut], by simp [illOut]⟩
  · split
    · exact ⟨by simp [illOut], by simp [illOut]⟩
    · split
      · split
        · exact ⟨by simp [illOut], by simp [illOut]⟩
        · exact ⟨h.1, by simp; omega⟩
      · exact ⟨by simp [illOut], by simp [illOut]⟩
theorem readLaw (aF aR aU : Addr) (w : World) (hS : Sents aF aR aU w) (a : Int) (vs vp : Value) (xs : List ByteArray) (ps : List (Int × ByteArray)) (hr : Reads w vs xs) (hp : ReadsP w vp ps) :
    Calls Tryd.prog 5 #[.agg #[vs, vp], .int .i64 a] w fun e w' => e = .returned (.bool true) ∧ Below w.heap.size w w' :=
  lawRead w a (fun vs vp xs ps w' hb h1 h2 h3 h4 => implRead_any vs vp xs ps a aF aR aU w' h1 h2 h3 h4 (Stab.go hb hS)) vs vp xs ps hr hp (readOut_len a)
theorem flushLaw (aF aR aU : Addr) (w : World) (hS : Sents aF aR aU w) (vs vp : Value) (xs : List ByteArray) (ps : List (Int × ByteArray)) (hr : Reads w vs xs) (hp : ReadsP w vp ps) :
    Calls Tryd.prog 7 #[.agg #[vs, vp]] w fun e w' => e = .returned (.bool true) ∧ Below w.heap.size w w' :=
  lawFlush w (fun vs vp xs ps w' hb h1 h2 h3 h4 => implFlush_any vs vp xs ps aF aR aU w' h1 h2 h3 h4 (Stab.go hb hS)) vs vp xs ps hr hp flushOut_len
set_option maxHeartbeats 2000000 in
theorem writeLaw_long (w : World) (a : Int) (d : ByteArray) (hd : 1048576 < d.size) (hm : d.size ≤ maxLen) (vs vp : Value) :
    Calls Tryd.prog 6 #[.agg #[vs, vp], .int .i64 a, .string d] w fun e w' => e = .returned (.bool true) ∧ Below w.heap.size w w' := by
  have HB0 := hide (below_new w (.cells #[vs, vp] 50))
  unfold maxLen at hm
  have t : (1048576 : Int) < (d.size : Int) := by omega
  go_enter Tryd.func6, Tryd.ntmps6
  go_wp2
  go_ret
  exact ⟨rfl, HB0.out⟩
theorem writeLaw (aF aR aU : Addr) (w : World) (hS : Sents aF aR aU w) (a : Int) (d : ByteArray) (hm : d.size ≤ maxLen) (vs vp : Value) (xs : List ByteArray) (ps : List (Int × ByteArray)) (hr : Reads w vs xs) (hp : ReadsP w vp ps) :
    Calls Tryd.prog 6 #[.agg #[vs, vp], .int .i64 a, .string d] w fun e w' => e = .returned (.bool true) ∧ Below w.heap.size w w' := by
  by_cases hd : 1048576 < d.size
  · exact writeLaw_long w a d hd hm vs vp
  · exact lawWrite w a d (by omega) (fun vs vp xs ps w' hb h1 h2 h3 h4 => implWrite_any vs vp xs ps a d aF aR aU w' h1 h2 (by omega) h3 h4 (Stab.go hb hS)) vs vp xs ps hr hp (writeOut_len a d)
end Go.Proofs.YthmkblhllbfmcaaDoor
