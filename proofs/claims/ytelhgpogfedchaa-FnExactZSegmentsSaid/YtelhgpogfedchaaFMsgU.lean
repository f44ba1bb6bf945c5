/- The model's text of a Message. -/
import Derived.Test.YtelhgpogfedchaaFMsgR
import Derived.Test.YtelhgpogfedchaaFSegV
namespace Go.Proofs.Ytelhgpogfedchaa
open Go.RowKit
def wholeT (m : ByteArray) (xs : List Seg) : List UInt8 := xs.flatMap fun s => segT m s.1 s.2 ++ [13]
theorem wholeT_snoc (m : ByteArray) (xs : List Seg) (k : Nat) (h : k < xs.length) : wholeT m (xs.take (k + 1)) = wholeT m (xs.take k) ++ (segT m xs[k].1 xs[k].2 ++ [13]) := by
  unfold wholeT
  rw [List.take_succ_eq_append_getElem h, List.flatMap_append]
  simp
theorem segT_len {m n : ByteArray} {x : Flds} (hm : m.size = 5) (hx : segB n x = true) : (segT m n x).length ≤ 1400000 := by
  obtain ⟨hn3, hxe, hxl⟩ := segB_parts hx
  have h1 := fldsT_len m x hxe
  have h2 := headT_len m n hm hn3
  have h3 : x.length * 45306 ≤ 30 * 45306 := Nat.mul_le_mul hxl (Nat.le_refl _)
  unfold segT
  rw [List.length_append]
  omega
theorem wholeT_len (m : ByteArray) (hm : m.size = 5) : ∀ xs : List Seg, (∀ i (h : i < xs.length), segB xs[i].1 xs[i].2 = true) → (wholeT m xs).length ≤ xs.length * 1400001
  | [], _ => by simp [wholeT]
  | s :: r, h => by
    have h1 := wholeT_len m hm r (fun i hi => h (i + 1) (by simpa using hi))
    have h2 : (segT m s.1 s.2).length ≤ 1400000 := segT_len hm (h 0 (by simp))
    simp only [wholeT, List.flatMap_cons, List.length_append, List.length_cons, List.length_nil] at h1 h2 ⊢
    omega
theorem wholeT_pre (m : ByteArray) (xs : List Seg) (k : Nat) : (wholeT m (xs.take k)).length ≤ (wholeT m xs).length := by
  have e : wholeT m xs = wholeT m (xs.take k) ++ wholeT m (xs.drop k) := by
    unfold wholeT
    rw [← List.flatMap_append, List.take_append_drop]
  rw [e, List.length_append]
  omega
theorem wholeT_takes (m : ByteArray) (xs : List Seg) (hm : m.size = 5) (hl : xs.length ≤ 20) (h : ∀ i (h : i < xs.length), segB xs[i].1 xs[i].2 = true) (k : Nat) : (wholeT m (xs.take k)).length ≤ 28000020 := by
  have h1 := wholeT_pre m xs k
  have h2 := wholeT_len m hm xs h
  omega
theorem msgB_parts {m : ByteArray} {xs : List Seg} (h : msgB m xs = true) : marksB m = true ∧ xs.length ≤ 20 ∧ ∀ i (h : i < xs.length), segB xs[i].1 xs[i].2 = true := by
  simp only [msgB, Bool.and_eq_true, decide_eq_true_eq] at h
  refine ⟨h.1.1, h.1.2.2, fun i hi => ?_⟩
  have h1 := List.all_eq_true.1 h.2 i (List.mem_range.2 hi)
  rw [okSeg_eq xs i hi, Bool.and_eq_true] at h1
  exact h1.1
def msgT (m : ByteArray) (xs : List Seg) : ByteArray := if msgB m xs && decide ((wholeT m xs).length ≤ 8000) then ⟨(wholeT m xs).toArray⟩ else ⟨#[]⟩
theorem msgT_yes {m : ByteArray} {xs : List Seg} (h : msgB m xs = true) (h2 : (wholeT m xs).length ≤ 8000) : msgT m xs = ⟨(wholeT m xs).toArray⟩ := by simp [msgT, h, h2]
theorem msgT_no {m : ByteArray} {xs : List Seg} (h : msgB m xs = false) : msgT m xs = ⟨#[]⟩ := by simp [msgT, h]
theorem msgT_long {m : ByteArray} {xs : List Seg} (h : 8000 < (wholeT m xs).length) : msgT m xs = ⟨#[]⟩ := by
  have : decide ((wholeT m xs).length ≤ 8000) = false := decide_eq_false (by omega)
  simp only [msgT, this, Bool.and_false]
  rfl

end Go.Proofs.Ytelhgpogfedchaa
