/- What comes in, read as lists. -/
import Derived.Test.YtfdgifflnmpmaaaGreatDoorXBase
import Derived.SliceStrings
import Derived.Deep.SlicePairs
import Derived.Lib.SmallJoins
import Derived.Test.YtfdgifflnmpmaaaGreatDoorRows
import Derived.Test.YtfdgifflnmpmaaaGreatDoorXFaults
import Derived.Stop.LaidTwo
import Derived.LaidSub
import Derived.MakeChecks
import Derived.LaidMore
import Derived.ProofKit
namespace Go.Proofs.YtfdgifflnmpmaaaGreatDoor
open Go.RowKit Go.ChangeShapes Go.WideShapes

theorem spot_none {w : World} {a : Addr} {v : Value} (h : w.cell? (a.add 0) = some v) : a = ⟨a.block, a.off, none⟩ := by
  obtain ⟨b, o, s⟩ := a
  cases s with
  | none => rfl
  | some x =>
    have h' : w.cell? ⟨b, o, some x⟩ = some v := h
    unfold World.cell? at h'
    split at h' <;> simp at h'
theorem reads_of_trod {H : Type} {enc : TypeId × Value → H} {P : Program} {w : World} {base : Nat} {spare : Nat → Bool} {held : Bool} {t e : TypeId} {fuel : Nat} {v : Value} {x : DataW H × List MemPlace}
    (ht : P.underlying t = some (.slice e)) (he : P.underlying e = some .string) (hc : P.cellsOf e = 1) (h : DataW.trod enc P w base spare held fuel t [v] = some x) : ∃ xs, Reads w v xs := by
  rcases open_strings ht he hc h with ⟨hcs, _⟩ | ⟨a, len, cap, ss, hcs, _, hl, hm, hlen, _, hcell, hsz⟩
  · obtain rfl : v = .slice none 0 0 := by simpa using hcs
    exact ⟨[], none, 0, rfl, Nat.le_refl _, Nat.zero_le _, by simp, fun h0 => absurd h0 (Nat.lt_irrefl 0)⟩
  · obtain rfl : v = .slice (some a) len cap := by simpa using hcs
    have hll : len ≤ ss.length := by rw [hlen]; split <;> omega
    have hL : (ss.take len).length = len := by rw [List.length_take]; omega
    refine ⟨ss.take len, some a, cap, by rw [hL], by omega, hm, fun y hy => hsz y (List.mem_of_mem_take hy), fun h0 => ?_⟩
    have ha := spot_none (hcell 0 (by omega))
    refine ⟨a.block, a.off, by rw [← ha], ?_, fun i hi => ?_⟩
    · have := World.block_lt_of_cell? w _ (hcell 0 (by omega))
      simpa [Addr.add] using this
    · have := hcell i (by omega)
      rw [ha, Addr.add_lit] at this
      rw [this, List.getElem_take, List.getD_eq_getElem?_getD, List.getElem?_eq_getElem (by omega)]
      rfl
def intV : Value → Int
  | .int _ n => n
  | _ => 0
def strV : Value → ByteArray
  | .string s => s
  | _ => ⟨#[]⟩
theorem readsP_of_trod {H : Type} {enc : TypeId × Value → H} {P : Program} {w : World} {base : Nat} {spare : Nat → Bool} {held : Bool} {t e : TypeId} {f0 f1 : Field} {fuel : Nat} {v : Value} {x : DataW H × List MemPlace}
    (ht : P.underlying t = some (.slice e)) (he : P.underlying e = some (.struct #[f0, f1])) (ce : P.cellsOf e = 2) (o0 : f0.offset = 0) (o1 : f1.offset = 1) (c0 : P.cellsOf f0.type = 1) (c1 : P.cellsOf f1.type = 1)
    (u0 : P.underlying f0.type = some (.int .i64)) (u1 : P.underlying f1.type = some .string) (h : DataW.trod enc P w base spare held fuel t [v] = some x) : ∃ ps, ReadsP w v ps := by
  rcases Go.Deep.open_slice_pairs ht he ce o0 o1 c0 c1 h with ⟨hcs, _⟩ | ⟨a, len, cap, m, n, V0, V1, D0, D1, P0, P1, hcs, _, hl, hm, hmm, _, hx⟩
  · obtain rfl : v = .slice none 0 0 := by simpa using hcs
    exact ⟨[], none, 0, rfl, Nat.le_refl _, Nat.zero_le _, by simp, fun h0 => absurd h0 (Nat.lt_irrefl 0)⟩
  · obtain rfl : v = .slice (some a) len cap := by simpa using hcs
    have hll : len ≤ m := by rw [hmm]; split <;> omega
    have each : ∀ i, i < m → w.cell? (a.add (i * 2)) = some (.int .i64 (intV (V0 i))) ∧ w.cell? (a.add (i * 2 + 1)) = some (.string (strV (V1 i))) ∧ (strV (V1 i)).size ≤ maxLen := by
      intro i hi
      obtain ⟨h0, h1, h2, h3⟩ := hx i hi
      obtain ⟨z, e0, _⟩ := DataW.trod_int u0 h2
      obtain ⟨s, e1, _, hs⟩ := DataW.trod_string u1 h3
      obtain e0' : V0 i = .int .i64 z := by simpa using e0
      obtain e1' : V1 i = .string s := by simpa using e1
      rw [h0, h1, e0', e1']
      exact ⟨rfl, rfl, hs⟩
    refine ⟨(List.range len).map fun i => (intV (V0 i), strV (V1 i)), some a, cap, by simp, by simpa using hl, hm, fun y hy => ?_, fun h0 => ?_⟩
    · obtain ⟨i, hi, rfl⟩ := List.mem_map.1 hy
      exact (each i (by have := List.mem_range.1 hi; omega)).2.2
    · have h0' : 0 < len := by simpa using h0
      have ha := spot_none (w := w) (a := a) (v := .int .i64 (intV (V0 0))) (by simpa using (each 0 (by omega)).1)
      refine ⟨a.block, a.off, by rw [← ha], ?_, fun i hi => ?_⟩
      · have := World.block_lt_of_cell? w _ (each 0 (by omega)).1
        simpa [Addr.add] using this
      · have hi' : i < len := by simpa using hi
        obtain ⟨z0, z1, _⟩ := each i (by omega)
        rw [ha, Addr.add_lit] at z0 z1
        simp only [List.getElem_map, List.getElem_range]
        exact ⟨z0, by rw [Nat.add_assoc]; exact z1⟩
end Go.Proofs.YtfdgifflnmpmaaaGreatDoor
/- The program's own errors, as its text lays them. -/
namespace Go.Proofs.YtfdgifflnmpmaaaGreatDoor
open Go.RowKit Go.ChangeShapes Go.WideShapes

theorem own : ownKnob Tryz.prog.godebug = none := by kernel_rfl
theorem laidOut : laidOutB Tryz.prog = true := by kernel_rfl
theorem gForm : Tryz.prog.globalNamed "loop.example/g00416/impl.errDiskForm" = some 0 := by kernel_rfl
theorem gRange : Tryz.prog.globalNamed "loop.example/g00416/impl.errDiskRange" = some 1 := by kernel_rfl
theorem gFull : Tryz.prog.globalNamed "loop.example/g00416/impl.errDiskFull" = some 2 := by kernel_rfl
theorem tForm : (Tryz.prog.globals[0]?).map (·.type) = some 91 := by kernel_rfl
theorem tRange : (Tryz.prog.globals[1]?).map (·.type) = some 91 := by kernel_rfl
theorem tFull : (Tryz.prog.globals[2]?).map (·.type) = some 91 := by kernel_rfl
theorem eCells : Tryz.prog.cellsOf 182 = 1 := by kernel_rfl
theorem sCells : Tryz.prog.cellsOf 9 = 1 := by kernel_rfl
theorem eStar : "*" ++ "errors.errorString" = "*errors.errorString" := by decide
theorem eRow (u : TypeId) (h : Tryz.prog.typeName? 3 u = some "*errors.errorString") : u = 162 :=
  typeName_ptr_named (nm := "errors.errorString") (by rw [eStar]; kernel_rfl) (by kernel_rfl) (by decide) u (by rw [eStar]; exact h)

/-- Two errors lie at aF and aR. -/
def Sents2 (aF aR : Addr) (w : World) : Prop :=
  w.cell? ⟨0, 0, none⟩ = some (.iface 162 (.pointer (some aF))) ∧ w.cell? ⟨1, 0, none⟩ = some (.iface 162 (.pointer (some aR)))
instance stab_sents2 (aF aR : Addr) : Stab (Sents2 aF aR) := ⟨fun hb h => ⟨cell_old hb h.1, cell_old hb h.2⟩⟩
/-- Three errors, no two the same. -/
def Sents (aF aR aU : Addr) (w : World) : Prop :=
  Sents2 aF aR w ∧ w.cell? ⟨2, 0, none⟩ = some (.iface 162 (.pointer (some aU))) ∧ aF ≠ aR ∧ aF ≠ aU ∧ aR ≠ aU ∧
  (∃ c t, w.heap[aF.block]? = some (.cells c t (0, 0))) ∧ (∃ c t, w.heap[aR.block]? = some (.cells c t (0, 0))) ∧ (∃ c t, w.heap[aU.block]? = some (.cells c t (0, 0)))
theorem heap_old {w w' : World} {b : Nat} (hb : Below w.heap.size w w') (h : ∃ c t, w.heap[b]? = some (.cells c t (0, 0))) : ∃ c t, w'.heap[b]? = some (.cells c t (0, 0)) := by
  obtain ⟨c, t, h⟩ := h
  exact ⟨c, t, by rw [hb.block b (Array.getElem?_eq_some_iff.1 h).1]; exact h⟩
instance stab_sents /- 2 -/ (aF aR aU : Addr) : Stab (Sents aF aR aU) :=
  ⟨fun hb ⟨h1, h2, n1, n2, n3, r1, r2, r3⟩ => ⟨Stab.go hb h1, cell_old hb h2, n1, n2, n3, heap_old hb r1, heap_old hb r2, heap_old hb r3⟩⟩

theorem sents2_of {W : World} {r : List (String × DataW Unit)} (h : laidMet Tryz.prog (("loop.example/g00416/impl.errDiskForm", Rows.laid_loop_example_g00416_impl_errDiskForm) :: ("loop.example/g00416/impl.errDiskRange", Rows.laid_loop_example_g00416_impl_errDiskRange) :: r) W) :
    ∃ aF aR, Sents2 aF aR W := by
  obtain ⟨a0, a1, s0, s1, c0, c1, t0, t1, hv0, hv1, _⟩ := laid_sentinels2 h gForm tForm gRange tRange Tryz.underlying91 eRow Tryz.underlying162 Tryz.underlying182 rfl rfl Tryz.underlying9 eCells sCells
  exact ⟨a0, a1, by simpa using World.var?_cell gForm hv0 0, by simpa using World.var?_cell gRange hv1 0⟩
theorem dropMid (a b c : DataW Unit) : ([("loop.example/g00416/impl.errDiskForm", a), ("loop.example/g00416/impl.errDiskRange", b), ("loop.example/g00416/impl.errDiskFull", c)] : List (String × DataW Unit)).filter (fun x => x.1 != "loop.example/g00416/impl.errDiskRange") = [("loop.example/g00416/impl.errDiskForm", a), ("loop.example/g00416/impl.errDiskFull", c)] := by
  kernel_rfl
theorem sents_of /- 2 -/ {W : World} (h : laidMet Tryz.prog [("loop.example/g00416/impl.errDiskForm", Rows.laid_loop_example_g00416_impl_errDiskForm), ("loop.example/g00416/impl.errDiskRange", Rows.laid_loop_example_g00416_impl_errDiskRange), ("loop.example/g00416/impl.errDiskFull", Rows.laid_loop_example_g00416_impl_errDiskFull)] W) :
    ∃ aF aR aU, Sents aF aR aU W := by
  obtain ⟨a0, a1, _, _, c0, c1, t0, t1, hv0, hv1, _, _, _, _, _, _, n01, r0, r1⟩ := laid_sentinels2 h gForm tForm gRange tRange Tryz.underlying91 eRow Tryz.underlying162 Tryz.underlying182 rfl rfl Tryz.underlying9 eCells sCells
  obtain ⟨b1, b2, _, _, c2, c3, t2, t3, hw1, hw2, _, _, _, _, _, _, n12, q1, q2⟩ := laid_sentinels2 h.tail gRange tRange gFull tFull Tryz.underlying91 eRow Tryz.underlying162 Tryz.underlying182 rfl rfl Tryz.underlying9 eCells sCells
  have h3 : laidMet Tryz.prog [("loop.example/g00416/impl.errDiskForm", Rows.laid_loop_example_g00416_impl_errDiskForm), ("loop.example/g00416/impl.errDiskFull", Rows.laid_loop_example_g00416_impl_errDiskFull)] W := by
    have := h.filter (fun x => x.1 != "loop.example/g00416/impl.errDiskRange")
    rw [dropMid] at this
    exact this
  obtain ⟨d0, d2, _, _, c4, c5, t4, t5, hx0, hx2, _, _, _, _, _, _, n02, _, _⟩ := laid_sentinels2 h3 gForm tForm gFull tFull Tryz.underlying91 eRow Tryz.underlying162 Tryz.underlying182 rfl rfl Tryz.underlying9 eCells sCells
  obtain rfl : b1 = a1 := by rw [hv1] at hw1; simpa using hw1.symm
  obtain rfl : d0 = a0 := by rw [hv0] at hx0; simpa using hx0.symm
  obtain rfl : d2 = b2 := by rw [hw2] at hx2; simpa using hx2.symm
  exact ⟨d0, b1, d2, ⟨by simpa using World.var?_cell gForm hv0 0, by simpa using World.var?_cell gRange hv1 0⟩, by simpa using World.var?_cell gFull hw2 0, n01, n02, n12, ⟨_, _, r0⟩, ⟨_, _, r1⟩, ⟨_, _, q2⟩⟩

theorem list2 {α : Type} {l : List α} (h : l.length = 2) : ∃ a b, l = [a, b] := by
  match l, h with
  | [a, b], _ => exact ⟨a, b, rfl⟩
theorem list3 {α : Type} {l : List α} (h : l.length = 3) : ∃ a b c, l = [a, b, c] := by
  match l, h with
  | [a, b, c], _ => exact ⟨a, b, c, rfl⟩
theorem trodVars_len {H : Type} {enc : TypeId × Value → H} {P : Program} {w : World} {sp : Nat → Bool} : ∀ {ns : List String} {gs : List (DataW H)} {q : List MemPlace}, DataW.TrodVars enc P w sp ns gs q → gs.length = ns.length
  | [], [], _, _ => rfl
  | [], _ :: _, _, h => h.elim
  | _ :: _, [], _, h => h.elim
  | _ :: _, _ :: _, _, ⟨_, _, _, _, _, _, _, _, _, _, hs, _⟩ => by simp [trodVars_len hs]
end Go.Proofs.YtfdgifflnmpmaaaGreatDoor
