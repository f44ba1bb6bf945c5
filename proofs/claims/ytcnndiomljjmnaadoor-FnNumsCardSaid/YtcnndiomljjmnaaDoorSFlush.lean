/- DiskFlush, as the specification does it. -/
import Derived.Test.YtcnndiomljjmnaaDoorSNew
namespace Go.Proofs.YtcnndiomljjmnaaDoor
open Go.RowKit

theorem wpList_copyS {P : Program} (w : World) {ops : Array Oper} {rest : List Oper} {o : Oper} {a : Act} {Q : Exit → Act → World → Prop} (hgd : o.guard = none) (s x : Operand) (t : TypeId)
    (hop : o.op = Op.call { callee := Callee.builtin Builtin.append, args := #[s, x], argTypes := #[t, t] })
    (e : TypeId) (i : TypeInfo) (z : Value) (ht : P.underlying t = some (.slice e)) (hi : P.info? e = some i) (hz : i.zero = some z) (hs : i.size = 1) (hb : i.bytes = 16) (hzs : z.cells.size = 1)
    (b : Addr) (h1 : a.eval s = .slice (some b) 0 0) (v : Value) (h2 : a.eval x = v) (xs : List ByteArray) (hr : Reads w v xs) (hn : xs.length ≤ 1048576)
    (hK : ∀ p c w', OwnS e w.heap.size w' (.slice p xs.length c) xs → Below w.heap.size w w' → wpList P ops Q rest (a.put o.dst (.slice p xs.length c)) w') : wpList P ops Q (o :: rest) a w := by
  refine wpList_plain hgd fun K hK' => ?_
  obtain ⟨p, c, w', hrun, r1, r2⟩ := run_copyS (P := P) w t o.type e i z ht hi hz hs hb hzs b v xs hr hn
  unfold Oper.wp
  simp [execOp, hop, resolve, invoke, builtin, h1, h2, hrun, Result.andThen]
  exact hK' _ _ (hK p c w' r1 r2)

/-- The sectors with all of ps written to them, in order. -/
def applyP : List (Int × ByteArray) → List ByteArray → List ByteArray
  | [], xs => xs
  | x :: r, xs => applyP r (xs.set x.1.toNat x.2)
theorem applyP_step (ps : List (Int × ByteArray)) (k : Nat) (h : k < ps.length) (xs : List ByteArray) : applyP (ps.drop k) xs = applyP (ps.drop (k + 1)) (xs.set (ps[k]'h).1.toNat (ps[k]'h).2) := by
  rw [List.drop_eq_getElem_cons h]; rfl
def flushOut (xs : List ByteArray) (ps : List (Int × ByteArray)) : Out := if right xs ps then ⟨applyP ps xs, [], ⟨#[]⟩, 0⟩ else illOut 1
theorem right_at {xs : List ByteArray} {ps : List (Int × ByteArray)} (h : right xs ps = true) (j : Nat) (hj : j < ps.length) : 0 ≤ (ps[j]'hj).1 ∧ (ps[j]'hj).1 ≤ (xs.length : Int) - 1 ∧ (ps[j]'hj).2.size ≤ 64 := by
  unfold right at h
  simp only [Bool.and_eq_true] at h
  have := h.2
  unfold okP at this
  rw [List.all_eq_true] at this
  have := this _ (List.getElem_mem hj)
  simp at this
  omega
theorem right_len {xs : List ByteArray} {ps : List (Int × ByteArray)} (h : right xs ps = true) : 1 ≤ xs.length ∧ xs.length ≤ 64 ∧ ps.length ≤ 200 := by
  unfold right at h
  simp at h
  omega

theorem strs_set (ys : List ByteArray) (rest : List Value) (m : Nat) (d : ByteArray) (h : m < ys.length) : (strs ys ++ rest).set m (.string d) = strs (ys.set m d) ++ rest := by
  rw [List.set_append_left _ _ (by rw [strs_len]; exact h)]
  unfold strs
  rw [List.map_set]

end Go.Proofs.YtcnndiomljjmnaaDoor
