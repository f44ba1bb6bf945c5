/- The program's own errors, as its text lays them. -/
import Derived.Test.YtkmehbgepkilkaaGreatDoorRows
import Derived.Test.YtkmehbgepkilkaaGreatDoorXGOpen
import Derived.Test.YtkmehbgepkilkaaGreatDoorXGDraw
import Derived.Stop.LaidTwo
import Derived.LaidSub
import Derived.MakeChecks
import Derived.LaidMore
import Derived.ProofKit
namespace Go.Proofs.YtkmehbgepkilkaaGreatDoor
open Go.RowKit Go.ChangeShapes Go.WideShapes

theorem own : ownKnob Tryz.prog.godebug = none := by kernel_rfl
theorem laidOut : laidOutB Tryz.prog = true := by kernel_rfl
theorem gForm : Tryz.prog.globalNamed "loop.example/g00416/impl.errDiskForm" = some 0 := by kernel_rfl
theorem gRange : Tryz.prog.globalNamed "loop.example/g00416/impl.errDiskRange" = some 1 := by kernel_rfl
theorem gFull : Tryz.prog.globalNamed "loop.example/g00416/impl.errDiskFull" = some 2 := by kernel_rfl
theorem tForm : (Tryz.prog.globals[0]?).map (·.type) = some 94 := by kernel_rfl
theorem tRange : (Tryz.prog.globals[1]?).map (·.type) = some 94 := by kernel_rfl
theorem tFull : (Tryz.prog.globals[2]?).map (·.type) = some 94 := by kernel_rfl
theorem eCells : Tryz.prog.cellsOf 181 = 1 := by kernel_rfl
theorem sCells : Tryz.prog.cellsOf 9 = 1 := by kernel_rfl
theorem eStar : "*" ++ "errors.errorString" = "*errors.errorString" := by decide
theorem eRow (u : TypeId) (h : Tryz.prog.typeName? 3 u = some "*errors.errorString") : u = 160 :=
  typeName_ptr_named (nm := "errors.errorString") (by rw [eStar]; kernel_rfl) (by kernel_rfl) (by decide) u (by rw [eStar]; exact h)

/-- Two errors lie at aF and aR. -/
def Sents2 (aF aR : Addr) (w : World) : Prop :=
  w.cell? ⟨0, 0, none⟩ = some (.iface 160 (.pointer (some aF))) ∧ w.cell? ⟨1, 0, none⟩ = some (.iface 160 (.pointer (some aR)))
instance stab_sents2 (aF aR : Addr) : Stab (Sents2 aF aR) := ⟨fun hb h => ⟨cell_old hb h.1, cell_old hb h.2⟩⟩
/-- Three errors, no two the same. -/
def Sents (aF aR aU : Addr) (w : World) : Prop :=
  Sents2 aF aR w ∧ w.cell? ⟨2, 0, none⟩ = some (.iface 160 (.pointer (some aU))) ∧ aF ≠ aR ∧ aF ≠ aU ∧ aR ≠ aU ∧
  (∃ c t, w.heap[aF.block]? = some (.cells c t (0, 0))) ∧ (∃ c t, w.heap[aR.block]? = some (.cells c t (0, 0))) ∧ (∃ c t, w.heap[aU.block]? = some (.cells c t (0, 0)))
theorem heap_old {w w' : World} {b : Nat} (hb : Below w.heap.size w w') (h : ∃ c t, w.heap[b]? = some (.cells c t (0, 0))) : ∃ c t, w'.heap[b]? = some (.cells c t (0, 0)) := by
  obtain ⟨c, t, h⟩ := h
  exact ⟨c, t, by rw [hb.block b (Array.getElem?_eq_some_iff.1 h).1]; exact h⟩
instance stab_sents /- 2 -/ (aF aR aU : Addr) : Stab (Sents aF aR aU) :=
  ⟨fun hb ⟨h1, h2, n1, n2, n3, r1, r2, r3⟩ => ⟨Stab.go hb h1, cell_old hb h2, n1, n2, n3, heap_old hb r1, heap_old hb r2, heap_old hb r3⟩⟩

theorem dropMid (a b c : DataW Unit) : ([("loop.example/g00416/impl.errDiskForm", a), ("loop.example/g00416/impl.errDiskRange", b), ("loop.example/g00416/impl.errDiskFull", c)] : List (String × DataW Unit)).filter (fun x => x.1 != "loop.example/g00416/impl.errDiskRange") = [("loop.example/g00416/impl.errDiskForm", a), ("loop.example/g00416/impl.errDiskFull", c)] := by
  kernel_rfl
theorem sents_of /- 2 -/ {W : World} (h : laidMet Tryz.prog [("loop.example/g00416/impl.errDiskForm", Rows.laid_loop_example_g00416_impl_errDiskForm), ("loop.example/g00416/impl.errDiskRange", Rows.laid_loop_example_g00416_impl_errDiskRange), ("loop.example/g00416/impl.errDiskFull", Rows.laid_loop_example_g00416_impl_errDiskFull)] W) :
    ∃ aF aR aU, Sents aF aR aU W := by
  obtain ⟨a0, a1, _, _, c0, c1, t0, t1, hv0, hv1, _, _, _, _, _, _, n01, r0, r1⟩ := laid_sentinels2 h gForm tForm gRange tRange Tryz.underlying94 eRow Tryz.underlying160 Tryz.underlying181 rfl rfl Tryz.underlying9 eCells sCells
  obtain ⟨b1, b2, _, _, c2, c3, t2, t3, hw1, hw2, _, _, _, _, _, _, n12, q1, q2⟩ := laid_sentinels2 h.tail gRange tRange gFull tFull Tryz.underlying94 eRow Tryz.underlying160 Tryz.underlying181 rfl rfl Tryz.underlying9 eCells sCells
  have h3 : laidMet Tryz.prog [("loop.example/g00416/impl.errDiskForm", Rows.laid_loop_example_g00416_impl_errDiskForm), ("loop.example/g00416/impl.errDiskFull", Rows.laid_loop_example_g00416_impl_errDiskFull)] W := by
    have := h.filter (fun x => x.1 != "loop.example/g00416/impl.errDiskRange")
    rw [dropMid] at this
    exact this
  obtain ⟨d0, d2, _, _, c4, c5, t4, t5, hx0, hx2, _, _, _, _, _, _, n02, _, _⟩ := laid_sentinels2 h3 gForm tForm gFull tFull Tryz.underlying94 eRow Tryz.underlying160 Tryz.underlying181 rfl rfl Tryz.underlying9 eCells sCells
  obtain rfl : b1 = a1 := by rw [hv1] at hw1; simpa using hw1.symm
  obtain rfl : d0 = a0 := by rw [hv0] at hx0; simpa using hx0.symm
  obtain rfl : d2 = b2 := by rw [hw2] at hx2; simpa using hx2.symm
  exact ⟨d0, b1, d2, ⟨by simpa using World.var?_cell gForm hv0 0, by simpa using World.var?_cell gRange hv1 0⟩, by simpa using World.var?_cell gFull hw2 0, n01, n02, n12, ⟨_, _, r0⟩, ⟨_, _, r1⟩, ⟨_, _, q2⟩⟩

theorem list3 {α : Type} {l : List α} (h : l.length = 3) : ∃ a b c, l = [a, b, c] := by
  match l, h with
  | [a, b, c], _ => exact ⟨a, b, c, rfl⟩
theorem trodVars_len {H : Type} {enc : TypeId × Value → H} {P : Program} {w : World} {sp : Nat → Bool} : ∀ {ns : List String} {gs : List (DataW H)} {q : List MemPlace}, DataW.TrodVars enc P w sp ns gs q → gs.length = ns.length
  | [], [], _, _ => rfl
  | [], _ :: _, _, h => h.elim
  | _ :: _, [], _, h => h.elim
  | _ :: _, _ :: _, _, ⟨_, _, _, _, _, _, _, _, _, _, hs, _⟩ => by simp [trodVars_len hs]
end Go.Proofs.YtkmehbgepkilkaaGreatDoor
