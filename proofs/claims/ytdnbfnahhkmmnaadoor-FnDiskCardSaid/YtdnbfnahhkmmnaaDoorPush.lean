/- One more pair behind a list of the call's own, or behind none. -/
import Derived.Test.YtdnbfnahhkmmnaaDoorSCopy
namespace Go.Proofs.YtdnbfnahhkmmnaaDoor
open Go.RowKit

theorem below_ofNone {w w' : World} (h : w.grownBy w' (Value.slice none 0 0).ownBlock) : Below w.heap.size w w' := below_ofGrown h
/-- One more pair behind a list of the call's own, or behind none. -/
theorem run_pushQ {P : Program} (w : World) (B : Nat) (t ty e : TypeId) (i : TypeInfo) (z : Value) (ht : P.underlying t = some (.slice e)) (hi : P.info? e = some i) (hz : i.zero = some z) (hs : i.size = 2) (hb : i.bytes = 24) (hzs : z.cells.size = 2)
    (v : Value) (ps : List (Int × ByteArray)) (ho : OwnP e B w v ps) (he : ps = [] → v = .slice none 0 0) (hn : ps.length ≤ 1048576) (hB : B ≤ w.heap.size) (a : Int) (d : ByteArray) (hd : d.size ≤ maxLen) (g c : Nat) (hr : Row w g e [.int .i64 a, .string d]) :
    ∃ p c' w', (Builtin.append_ #[t, t] ty #[v, .slice (some ⟨g, 0, none⟩) 1 c]).run P w = .ok (.slice p (ps.length + 1) c') w' ∧ OwnP e B w' (.slice p (ps.length + 1) c') (ps ++ [(a, d)]) ∧ Kept (leads v) w w' ∧ (∀ x ∈ leads (.slice p (ps.length + 1) c'), x ∈ leads v ∨ w.heap.size ≤ x) := by
  cases hps : ps with
  | nil =>
    subst hps
    obtain rfl := he rfl
    have hnews : ∀ j u, ([Value.int .i64 a, Value.string d] : List Value)[j]? = some u → w.cell? ((⟨g, 0, none⟩ : Addr).add j) = some u := fun j u hu => by
      rw [add_addr, Nat.zero_add, hr.cell]; exact hu
    have hown : w.ownsRow w.heap.size e 2 (.slice none 0 0) 0 [] := ⟨rfl, .inl ⟨rfl, rfl⟩⟩
    obtain ⟨v', w', hrun, r1, r2, _, r4⟩ := run_append_own_at (P := P) w w.heap.size t ty e i z 2 24 ht hi hz hs hb hzs (by omega) _ 0 [] hown ⟨g, 0, none⟩ 1 c [.int .i64 a, .string d] rfl hnews (by simp [Value.oneCell']) (by unfold maxLen; omega) (by omega) (Nat.le_refl _)
    have hxd : ∀ x ∈ ([] ++ [(a, d)] : List (Int × ByteArray)), x.2.size ≤ maxLen := fun x hx => by
      have e : x = (a, d) := by simpa using hx
      rw [e]; exact hd
    have hown' : OwnP e w.heap.size w' v' ([] ++ [(a, d)]) := OwnP.ofRow hxd (by simp) r1
    obtain ⟨p', c', e', _⟩ := hown'.reads
    subst e'
    exact ⟨p', c', w', hrun, hown'.mono hB, (Kept.ofBelow (below_ofNone r2)).mono (by simp), fun x hx => .inr (hown'.leads x hx).1⟩
  | cons x r =>
    rw [← hps]
    exact run_pushP w B t ty e i z ht hi hz hs hb hzs v ps ho (fun h => by rw [hps] at h; cases h) hn hB a d hd g c hr
theorem wpList_pushQ {P : Program} (w : World) {ops : Array Oper} {rest : List Oper} {o : Oper} {a : Act} {Q : Exit → Act → World → Prop} (hgd : o.guard = none) (s x : Operand) (t : TypeId)
    (hop : o.op = Op.call { callee := Callee.builtin Builtin.append, args := #[s, x], argTypes := #[t, t] })
    (B : Nat) (e : TypeId) (i : TypeInfo) (z : Value) (ht : P.underlying t = some (.slice e)) (hi : P.info? e = some i) (hz : i.zero = some z) (hs : i.size = 2) (hb : i.bytes = 24) (hzs : z.cells.size = 2)
    (v : Value) (h1 : a.eval s = v) (ps : List (Int × ByteArray)) (ho : OwnP e B w v ps) (he : ps = [] → v = .slice none 0 0) (hn : ps.length ≤ 1048576) (hB : B ≤ w.heap.size) (n : Int) (d : ByteArray) (hd : d.size ≤ maxLen) (g c : Nat)
    (h2 : a.eval x = .slice (some ⟨g, 0, none⟩) 1 c) (hr : Row w g e [.int .i64 n, .string d])
    (hK : ∀ p c' w', OwnP e B w' (.slice p (ps.length + 1) c') (ps ++ [(n, d)]) → Kept (leads v) w w' → (∀ x ∈ leads (.slice p (ps.length + 1) c'), x ∈ leads v ∨ w.heap.size ≤ x) → wpList P ops Q rest (a.put o.dst (.slice p (ps.length + 1) c')) w') : wpList P ops Q (o :: rest) a w := by
  refine wpList_plain hgd fun K hK' => ?_
  obtain ⟨p, c', w', hrun, r1, r2, r3⟩ := run_pushQ (P := P) w B t o.type e i z ht hi hz hs hb hzs v ps ho he hn hB n d hd g c hr
  unfold Oper.wp
  simp [execOp, hop, resolve, invoke, builtin, h1, h2, hrun, Result.andThen]
  exact hK' _ _ (hK p c' w' r1 r2 r3)
end Go.Proofs.YtdnbfnahhkmmnaaDoor
