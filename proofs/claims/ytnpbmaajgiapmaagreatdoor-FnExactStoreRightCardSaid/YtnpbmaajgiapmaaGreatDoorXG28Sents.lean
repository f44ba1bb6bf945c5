/- The program's own errors, as its text lays them. -/
import Derived.Test.YtnpbmaajgiapmaaGreatDoorRows
import Derived.Test.YtnpbmaajgiapmaaGreatDoorXG26Open
import Derived.Test.YtnpbmaajgiapmaaGreatDoorXG27IFit
import Derived.Stop.LaidTwo
import Derived.LaidSub
import Derived.MakeChecks
import Derived.LaidMore
import Derived.ProofKit
import Derived.Test.YtnpbmaajgiapmaaGreatDoorXG25ISettle
import Derived.LaidEql
import Derived.Stop.Asserts
import Derived.RowKitTokens
namespace Go.Proofs.YtnpbmaajgiapmaaGreatDoor
open Go.RowKit Go.ChangeShapes Go.WideShapes

theorem own : ownKnob Tryz.prog.godebug = none := by kernel_rfl
theorem laidOut : laidOutB Tryz.prog = true := by kernel_rfl
theorem gForm : Tryz.prog.globalNamed "loop.example/g00416/impl.errDiskForm" = some 0 := by kernel_rfl
theorem gRange : Tryz.prog.globalNamed "loop.example/g00416/impl.errDiskRange" = some 1 := by kernel_rfl
theorem gFull : Tryz.prog.globalNamed "loop.example/g00416/impl.errDiskFull" = some 2 := by kernel_rfl
theorem tForm : (Tryz.prog.globals[0]?).map (·.type) = some 56 := by kernel_rfl
theorem tRange : (Tryz.prog.globals[1]?).map (·.type) = some 56 := by kernel_rfl
theorem tFull : (Tryz.prog.globals[2]?).map (·.type) = some 56 := by kernel_rfl
theorem eCells : Tryz.prog.cellsOf 264 = 1 := by kernel_rfl
theorem sCells : Tryz.prog.cellsOf 9 = 1 := by kernel_rfl
theorem eStar : "*" ++ "errors.errorString" = "*errors.errorString" := by decide
theorem eRow (u : TypeId) (h : Tryz.prog.typeName? 3 u = some "*errors.errorString") : u = 245 :=
  typeName_ptr_named (nm := "errors.errorString") (by rw [eStar]; kernel_rfl) (by kernel_rfl) (by decide) u (by rw [eStar]; exact h)

/-- Two errors lie at aF and aR. -/
def Sents2 (aF aR : Addr) (w : World) : Prop :=
  w.cell? ⟨0, 0, none⟩ = some (.iface 245 (.pointer (some aF))) ∧ w.cell? ⟨1, 0, none⟩ = some (.iface 245 (.pointer (some aR)))
instance stab_sents2 (aF aR : Addr) : Stab (Sents2 aF aR) := ⟨fun hb h => ⟨cell_old hb h.1, cell_old hb h.2⟩⟩
/-- Three errors, no two the same. -/
def Sents (aF aR aU : Addr) (w : World) : Prop :=
  Sents2 aF aR w ∧ w.cell? ⟨2, 0, none⟩ = some (.iface 245 (.pointer (some aU))) ∧ aF ≠ aR ∧ aF ≠ aU ∧ aR ≠ aU ∧
  (∃ c t, w.heap[aF.block]? = some (.cells c t (0, 0))) ∧ (∃ c t, w.heap[aR.block]? = some (.cells c t (0, 0))) ∧ (∃ c t, w.heap[aU.block]? = some (.cells c t (0, 0)))
theorem heap_old {w w' : World} {b : Nat} (hb : Below w.heap.size w w') (h : ∃ c t, w.heap[b]? = some (.cells c t (0, 0))) : ∃ c t, w'.heap[b]? = some (.cells c t (0, 0)) := by
  obtain ⟨c, t, h⟩ := h
  exact ⟨c, t, by rw [hb.block b (Array.getElem?_eq_some_iff.1 h).1]; exact h⟩
instance stab_sents /- 2 -/ (aF aR aU : Addr) : Stab (Sents aF aR aU) :=
  ⟨fun hb ⟨h1, h2, n1, n2, n3, r1, r2, r3⟩ => ⟨Stab.go hb h1, cell_old hb h2, n1, n2, n3, heap_old hb r1, heap_old hb r2, heap_old hb r3⟩⟩

theorem sents2_of {W : World} {r : List (String × DataW Unit)} (h : laidMet Tryz.prog (("loop.example/g00416/impl.errDiskForm", Rows.laid_loop_example_g00416_impl_errDiskForm) :: ("loop.example/g00416/impl.errDiskRange", Rows.laid_loop_example_g00416_impl_errDiskRange) :: r) W) :
    ∃ aF aR, Sents2 aF aR W := by
  obtain ⟨a0, a1, s0, s1, c0, c1, t0, t1, hv0, hv1, _⟩ := laid_sentinels2 h gForm tForm gRange tRange Tryz.underlying56 eRow Tryz.underlying245 Tryz.underlying264 rfl rfl Tryz.underlying9 eCells sCells
  exact ⟨a0, a1, by simpa using World.var?_cell gForm hv0 0, by simpa using World.var?_cell gRange hv1 0⟩
theorem dropMid (a b c : DataW Unit) : ([("loop.example/g00416/impl.errDiskForm", a), ("loop.example/g00416/impl.errDiskRange", b), ("loop.example/g00416/impl.errDiskFull", c)] : List (String × DataW Unit)).filter (fun x => x.1 != "loop.example/g00416/impl.errDiskRange") = [("loop.example/g00416/impl.errDiskForm", a), ("loop.example/g00416/impl.errDiskFull", c)] := by
  kernel_rfl
theorem sents_of /- 2 -/ {W : World} (h : laidMet Tryz.prog [("loop.example/g00416/impl.errDiskForm", Rows.laid_loop_example_g00416_impl_errDiskForm), ("loop.example/g00416/impl.errDiskRange", Rows.laid_loop_example_g00416_impl_errDiskRange), ("loop.example/g00416/impl.errDiskFull", Rows.laid_loop_example_g00416_impl_errDiskFull)] W) :
    ∃ aF aR aU, Sents aF aR aU W := by
  obtain ⟨a0, a1, _, _, c0, c1, t0, t1, hv0, hv1, _, _, _, _, _, _, n01, r0, r1⟩ := laid_sentinels2 h gForm tForm gRange tRange Tryz.underlying56 eRow Tryz.underlying245 Tryz.underlying264 rfl rfl Tryz.underlying9 eCells sCells
  obtain ⟨b1, b2, _, _, c2, c3, t2, t3, hw1, hw2, _, _, _, _, _, _, n12, q1, q2⟩ := laid_sentinels2 h.tail gRange tRange gFull tFull Tryz.underlying56 eRow Tryz.underlying245 Tryz.underlying264 rfl rfl Tryz.underlying9 eCells sCells
  have h3 : laidMet Tryz.prog [("loop.example/g00416/impl.errDiskForm", Rows.laid_loop_example_g00416_impl_errDiskForm), ("loop.example/g00416/impl.errDiskFull", Rows.laid_loop_example_g00416_impl_errDiskFull)] W := by
    have := h.filter (fun x => x.1 != "loop.example/g00416/impl.errDiskRange")
    rw [dropMid] at this
    exact this
  obtain ⟨d0, d2, _, _, c4, c5, t4, t5, hx0, hx2, _, _, _, _, _, _, n02, _, _⟩ := laid_sentinels2 h3 gForm tForm gFull tFull Tryz.underlying56 eRow Tryz.underlying245 Tryz.underlying264 rfl rfl Tryz.underlying9 eCells sCells
  obtain rfl : b1 = a1 := by rw [hv1] at hw1; simpa using hw1.symm
  obtain rfl : d0 = a0 := by rw [hv0] at hx0; simpa using hx0.symm
  obtain rfl : d2 = b2 := by rw [hw2] at hx2; simpa using hx2.symm
  exact ⟨d0, b1, d2, ⟨by simpa using World.var?_cell gForm hv0 0, by simpa using World.var?_cell gRange hv1 0⟩, by simpa using World.var?_cell gFull hw2 0, n01, n02, n12, ⟨_, _, r0⟩, ⟨_, _, r1⟩, ⟨_, _, q2⟩⟩

theorem list2 {α : Type} {l : List α} (h : l.length = 2) : ∃ a b, l = [a, b] := by
  match l, h with
  | [a, b], _ => exact ⟨a, b, rfl⟩
theorem list3 {α : Type} {l : List α} (h : l.length = 3) : ∃ a b c, l = [a, b, c] := by
  match l, h with
  | [a, b, c], _ => exact ⟨a, b, c, rfl⟩
theorem trodVars_len {H : Type} {enc : TypeId × Value → H} {P : Program} {w : World} {sp : Nat → Bool} : ∀ {ns : List String} {gs : List (DataW H)} {q : List MemPlace}, DataW.TrodVars enc P w sp ns gs q → gs.length = ns.length
  | [], [], _, _ => rfl
  | [], _ :: _, _, h => h.elim
  | _ :: _, [], _, h => h.elim
  | _ :: _, _ :: _, _, ⟨_, _, _, _, _, _, _, _, _, _, hs, _⟩ => by simp [trodVars_len hs]
end Go.Proofs.YtnpbmaajgiapmaaGreatDoor
/- The bank's disk; the codes of errors. -/
namespace Go.Proofs.YtnpbmaajgiapmaaGreatDoor
open Go.RowKit

theorem Row.readsBank {w : World} {g : Nat} {T : TypeId} {ys : List ByteArray} (h : Row w g T (bank ys)) (hm : ∀ x ∈ ys, x.size ≤ maxLen) (hl : ys.length ≤ 64) : Reads w (.slice (Option.some ⟨g, 0, none⟩) ys.length 64) ys :=
  ⟨_, _, rfl, hl, by unfold maxLen; omega, hm, fun _ => ⟨g, 0, rfl, h.lt, fun i hi => by rw [Nat.zero_add, h.cell i, bank_at ys i hi]⟩⟩

set_option maxHeartbeats 4000000 in
set_option maxRecDepth 100000 in
theorem bankDisk_any (ys : List ByteArray) (w : World) (hl : ys.length ≤ 64) (hm : ∀ x ∈ ys, x.size ≤ 1048576) :
    Calls Tryz.prog 149 #[.agg (bank ys).toArray] w fun e w' => DiskIs w.heap.size e w' ys [] ∧ Below w.heap.size w w' := by
  obtain ⟨C, hC⟩ : ∃ C : Array Value, C = (bank ys).toArray := ⟨_, rfl⟩
  have hm' : ∀ x ∈ ys, x.size ≤ maxLen := fun x hx => by have := hm x hx; unfold maxLen; omega
  have r0 : Row ((w.alloc (.cells C 153)).alloc (.cells #[.slice none 0 0, .slice none 0 0] 30)) w.heap.size 153 (bank ys) := by
    rw [hC]; exact (row_new w (bank ys) 153).alloc _
  have r1 := row_new (w.alloc (.cells C 153)) [.slice none 0 0, .slice none 0 0] 30
  simp only [World.size_alloc] at r1
  have HB0 := hide (show Below w.heap.size w ((w.alloc (.cells C 153)).alloc (.cells #[.slice none 0 0, .slice none 0 0] 30)) from ((Below.refl _ _).alloc (Nat.le_refl _) _).alloc (by simp) _)
  have a64 : ((w.alloc (.cells C 153)).alloc (.cells #[.slice none 0 0, .slice none 0 0] 30)).cell? ⟨w.heap.size, 64, none⟩ = some (.int .i64 ys.length) := by rw [r0.cell 64]; exact bank_last hl
  have HRd := hide (r0.readsBank hm' hl)
  have HR1 := hide r1
  have hcs : C.size = 65 := by rw [hC]; simp [bank_len hl]
  have hli : (ys.length : Int) ≤ 64 := by omega
  have HM := hide hm
  have HM' := hide hm'
  rw [← hC]
  clear hC r0 r1 hm hm'
  go_enter Tryz.func149, Tryz.ntmps149
  go_wp2_with fail
  refine (copyTexts_any _ ys _ (by omega) HM.out HRd.out).mono ?_
  rintro e w3 ⟨rfl, hrow3, hb3⟩
  have HB3 := hide (HB0.out.trans (hb3.mono HB0.out.size))
  have R3 := Row.after hb3 HR1.out
  have HT3 := hide hrow3
  have c0 : w3.cell? ⟨w.heap.size + 1, 0, none⟩ = some (.slice none 0 0) := R3.cell 0
  have c1' : w3.cell? ⟨w.heap.size + 1, 1, none⟩ = some (.slice none 0 0) := R3.cell 1
  have f0 := R3.free 0
  have f1 := R3.free 1
  have HR3 := hide R3
  clear hrow3 hb3 R3 a64
  simp only [World.size_alloc] at HT3 ⊢
  go_wp2
  obtain ⟨z0, z1, KF⟩ := two HR3.out (.slice (some ⟨w.heap.size + 1 + 1, 0, none⟩) ys.length ys.length) (.slice none 0 0)
  exact bodyPost_ret (v := .agg #[.slice (some ⟨w.heap.size + 1 + 1, 0, none⟩) ys.length ys.length, .slice none 0 0]) (by simp [results, Tryz.results149, go_sem, z0, z1]) rfl
    ⟨⟨_, _, rfl, ⟨HM'.out, .inr ⟨w.heap.size + 1 + 1, [], by simp, by simp; unfold maxLen; omega, by omega, by simpa using KF.row HT3.out (by simp)⟩⟩, OwnP.none _ _ _, fun _ _ h => by cases h⟩, KF.toBelow HB3.out HB3.out.size (by simp)⟩

theorem Tryz.isTypeOf (v : Value) (w : World) : (Extern.ReflectliteType.typeOf #[.iface 245 v]).run Tryz.prog w = .ok (.iface 204 (.agg #[.pointer (some ⟨5, 245, none⟩)])) w := by kernel_rfl
theorem Tryz.callTypeOf (v : Value) (w : World) : (callFunc 145 #[.iface 245 v]).run Tryz.prog w = .ok (.value (.iface 204 (.agg #[.pointer (some ⟨5, 245, none⟩)]))) w := by
  rw [@run_callFunc_extern Tryz.prog 145 _ Extern.ReflectliteType.typeOf Tryz.func145 (by kernel_rfl) (by kernel_rfl) (by kernel_rfl) (by kernel_rfl), Tryz.isTypeOf]
  rfl
theorem Tryz.isComparable /- 125 -/ (w : World) : ((Extern.ReflectliteType.method fun t => do Extern.Rtype.noPackHeld "Comparable" t; pure (.bool (← typeInfo t).comparable)) #[.agg #[.pointer (some ⟨5, 245, none⟩)]]).run Tryz.prog w = .ok (.bool true) w := by kernel_rfl
theorem Tryz.callComparable (w : World) : (callFunc 210 #[.agg #[.pointer (some ⟨5, 245, none⟩)]]).run Tryz.prog w = .ok (.value (.bool true)) w := by
  rw [@run_callFunc_extern Tryz.prog 210 _ (Extern.ReflectliteType.method fun t => do Extern.Rtype.noPackHeld "Comparable" t; pure (.bool (← typeInfo t).comparable)) Tryz.func210 (by kernel_rfl) (by kernel_rfl) (by kernel_rfl) (by kernel_rfl), Tryz.isComparable]
  rfl
theorem Tryz.isMethodComparable (v : Value) (w : World) : (Go.method 376 204 v "Comparable").run Tryz.prog w = .ok (210, v) w := by kernel_rfl
theorem Tryz.isComp : (Tryz.prog.info? 245).map (·.comparable) = some true := by kernel_rfl
theorem Tryz.isSize : (Tryz.prog.info? 264).map (·.size) = some 1 := by kernel_rfl
theorem Tryz.noIsE /- 125 -/ (v : Value) (xT : TypeId) (w : World) : (Instr.typeAssert (.iface 245 v) xT 216 true).run Tryz.prog w = .ok (.tuple #[.nilIface, .bool false]) w := run_typeAssert_lacksB Tryz.underlying216 (by kernel_rfl) (by kernel_rfl) v xT w
theorem Tryz.noUnwrapE /- 125 -/ (v : Value) (xT : TypeId) (w : World) : (Instr.typeAssert (.iface 245 v) xT 211 true).run Tryz.prog w = .ok (.tuple #[.nilIface, .bool false]) w := run_typeAssert_lacksB Tryz.underlying211 (by kernel_rfl) (by kernel_rfl) v xT w
theorem Tryz.noUnwrapsE /- 125 -/ (v : Value) (xT : TypeId) (w : World) : (Instr.typeAssert (.iface 245 v) xT 213 true).run Tryz.prog w = .ok (.tuple #[.nilIface, .bool false]) w := run_typeAssert_lacksB Tryz.underlying213 (by kernel_rfl) (by kernel_rfl) v xT w

set_option maxHeartbeats 2000000 in
theorem is_same (a : Addr) (w : World) :
    Calls Tryz.prog 125 #[.iface 245 (.pointer (some a)), .iface 245 (.pointer (some a))] w fun e w' => e = .returned (.bool true) ∧ w' = w := by
  obtain ⟨i, hi, hcmp⟩ := Option.map_eq_some_iff.1 Tryz.isComp
  obtain ⟨j, hj, hjs⟩ := Option.map_eq_some_iff.1 Tryz.isSize
  have tT := Tryz.callTypeOf
  have cT := Tryz.callComparable
  have mR := Tryz.isMethodComparable
  have heq := run_eql_iface_ptr_same (P := Tryz.prog) w a Tryz.underlying56 Tryz.underlying245 hi hcmp hj
  go_enter Tryz.func125, Tryz.ntmps125
  go_wp2
  refine wp_loop_rounds 1 ?_
  rw [rounds_succ]
  go_wp2
  go_ret
  exact ⟨rfl, rfl⟩
set_option maxHeartbeats 2000000 in
theorem is_other (a b : Addr) (w : World) (hne : a ≠ b) (ha : ∃ c t, w.heap[a.block]? = some (.cells c t (0, 0))) (hb : ∃ c t, w.heap[b.block]? = some (.cells c t (0, 0))) :
    Calls Tryz.prog 125 #[.iface 245 (.pointer (some a)), .iface 245 (.pointer (some b))] w fun e w' => e = .returned (.bool false) ∧ w' = w := by
  obtain ⟨ca, ta, ha⟩ := ha
  obtain ⟨cb, tb, hb⟩ := hb
  obtain ⟨i, hi, hcmp⟩ := Option.map_eq_some_iff.1 Tryz.isComp
  obtain ⟨j, hj, hjs⟩ := Option.map_eq_some_iff.1 Tryz.isSize
  have tT := Tryz.callTypeOf
  have cT := Tryz.callComparable
  have mR := Tryz.isMethodComparable
  have nE := Tryz.noIsE
  have uE := Tryz.noUnwrapE
  have vE := Tryz.noUnwrapsE
  have heq := run_eql_iface_ptr_other (P := Tryz.prog) w Tryz.underlying56 Tryz.underlying245 hi hcmp hj (by rw [hjs]; decide) hne ha hb
  go_enter Tryz.func125, Tryz.ntmps125
  go_wp2
  refine wp_loop_rounds 1 ?_
  rw [rounds_succ]
  go_wp2
  go_ret
  exact ⟨rfl, rfl⟩
end Go.Proofs.YtnpbmaajgiapmaaGreatDoor
/- The codes of the program's errors; what it says of a read and of a write. -/
namespace Go.Proofs.YtnpbmaajgiapmaaGreatDoor
open Go.RowKit

/-- An error of the three, and its code. -/
abbrev errV (a : Addr) : Value := .iface 245 (.pointer (some a))
set_option maxHeartbeats 2000000 in
theorem code_form (aF aR aU : Addr) (w : World) (hS : Sents aF aR aU w) :
    Calls Tryz.prog 100 #[.iface 245 (.pointer (some aF))] w fun e w' => e = .returned (.int .i64 1) ∧ w' = w := by
  obtain ⟨⟨c1, c2⟩, c3, n1, n2, n3, r1, r2, r3⟩ := hS
  clear n1 n2 n3 r1 r2 r3
  go_enter Tryz.func100, Tryz.ntmps100
  go_wp2_with fail
  refine (is_same aF w).mono ?_
  rintro e w1 ⟨rfl, rfl⟩
  go_wp2
  go_ret
  exact ⟨rfl, rfl⟩
set_option maxHeartbeats 2000000 in
theorem code_range (aF aR aU : Addr) (w : World) (hS : Sents aF aR aU w) :
    Calls Tryz.prog 100 #[.iface 245 (.pointer (some aR))] w fun e w' => e = .returned (.int .i64 8) ∧ w' = w := by
  obtain ⟨⟨c1, c2⟩, c3, n1, n2, n3, r1, r2, r3⟩ := hS
  have N1 := hide n1
  clear n1 n2 n3
  go_enter Tryz.func100, Tryz.ntmps100
  go_wp2_with fail
  refine (is_other aR aF w (fun e => N1.out e.symm) r2 r1).mono ?_
  rintro e w1 ⟨rfl, rfl⟩
  go_wp2_with fail
  refine (is_same aR w1).mono ?_
  rintro e w2 ⟨rfl, rfl⟩
  go_wp2
  go_ret
  exact ⟨rfl, rfl⟩
set_option maxHeartbeats 2000000 in
theorem code_full (aF aR aU : Addr) (w : World) (hS : Sents aF aR aU w) :
    Calls Tryz.prog 100 #[.iface 245 (.pointer (some aU))] w fun e w' => e = .returned (.int .i64 9) ∧ w' = w := by
  obtain ⟨⟨c1, c2⟩, c3, n1, n2, n3, r1, r2, r3⟩ := hS
  have N2 := hide n2
  have N3 := hide n3
  clear n1 n2 n3
  go_enter Tryz.func100, Tryz.ntmps100
  go_wp2_with fail
  refine (is_other aU aF w (fun e => N2.out e.symm) r3 r1).mono ?_
  rintro e w1 ⟨rfl, rfl⟩
  go_wp2_with fail
  refine (is_other aU aR w1 (fun e => N3.out e.symm) r3 r2).mono ?_
  rintro e w2 ⟨rfl, rfl⟩
  go_wp2_with fail
  refine (is_same aU w2).mono ?_
  rintro e w3 ⟨rfl, rfl⟩
  go_wp2
  go_ret
  exact ⟨rfl, rfl⟩
/-- The address a is one of the three errors, c its code. -/
def CodeIs (aF aR aU a : Addr) (c : Int) : Prop := (a = aF ∧ c = 1) ∨ (a = aR ∧ c = 8) ∨ (a = aU ∧ c = 9)
theorem code_any (aF aR aU a : Addr) (c : Int) (w : World) (hS : Sents aF aR aU w) (h : CodeIs aF aR aU a c) :
    Calls Tryz.prog 100 #[.iface 245 (.pointer (some a))] w fun e w' => e = .returned (.int .i64 c) ∧ w' = w := by
  rcases h with ⟨rfl, rfl⟩ | ⟨rfl, rfl⟩ | ⟨rfl, rfl⟩
  · exact code_form _ _ _ w hS
  · exact code_range _ _ _ w hS
  · exact code_full _ _ _ w hS

/-- What is told of a read. -/
def readFaultOf (vF vR : Value) (xs : List ByteArray) (ps : List (Int × ByteArray)) (a : Int) : Value := if right xs ps then (if 0 ≤ a ∧ a ≤ (xs.length : Int) - 1 then .nilIface else vR) else vF
/-- What is told of a write. -/
def writeFaultOf (vF vR vU : Value) (xs : List ByteArray) (ps : List (Int × ByteArray)) (a : Int) (d : ByteArray) : Value :=
  if right xs ps then (if d.size ≤ 64 then (if 0 ≤ a ∧ a ≤ (xs.length : Int) - 1 then (if ps.length = 200 then vU else .nilIface) else vR) else vF) else vF
set_option maxHeartbeats 4000000 in
theorem writeFault_any (vs vp : Value) (xs : List ByteArray) (ps : List (Int × ByteArray)) (a : Int) (d : ByteArray) (tF : TypeId) (uF : Value) (tR : TypeId) (uR : Value) (tU : TypeId) (uU : Value) (w : World) (hn : xs.length ≤ 1048576) (hn2 : ps.length ≤ 1048576) (hd : d.size ≤ maxLen) (hr : Reads w vs xs) (hp : ReadsP w vp ps)
    (hF : w.cell? ⟨0, 0, none⟩ = some (.iface tF uF)) (hR : w.cell? ⟨1, 0, none⟩ = some (.iface tR uR)) (hU : w.cell? ⟨2, 0, none⟩ = some (.iface tU uU)) :
    Calls Tryz.prog 150 #[.agg #[vs, vp], .agg #[.int .i64 a, .string d]] w fun e w' => e = .returned (writeFaultOf (.iface tF uF) (.iface tR uR) (.iface tU uU) xs ps a d) ∧ Below w.heap.size w w' := by
  have hb0 : Below w.heap.size w ((w.alloc (.cells #[vs, vp] 30)).alloc (.cells #[.int .i64 a, .string d] 92)) := ((Below.refl _ _).alloc (Nat.le_refl _) _).alloc (by simp) _
  have HR := hide (hr.below hb0 (Nat.le_refl _))
  have HP := hide (hp.below hb0 (Nat.le_refl _))
  have HCF := hide (cell_old hb0 hF)
  have HCR := hide (cell_old hb0 hR)
  have HCU := hide (cell_old hb0 hU)
  have HD := hide hd
  obtain ⟨p1, c1, rfl, hq⟩ := hr
  obtain ⟨p2, c2, rfl, hq2⟩ := hp
  have HB0 := hide hb0
  have HN0 := hide ((row_new w [.slice p1 xs.length c1, .slice p2 ps.length c2] 30).alloc (.cells #[.int .i64 a, .string d] 92))
  have R1 := row_new (w.alloc (.cells #[.slice p1 xs.length c1, .slice p2 ps.length c2] 30)) [.int .i64 a, .string d] 92
  simp only [World.size_alloc] at R1
  have HN1 := hide R1
  clear hb0 hq hq2 hF hR hU R1 hd
  cases hok : right xs ps with
  | false =>
    have HE := hide (show diskFaultOf (.iface tF uF) xs ps = .iface tF uF by unfold diskFaultOf; rw [hok]; rfl)
    have HF := hide (show writeFaultOf (.iface tF uF) (.iface tR uR) (.iface tU uU) xs ps a d = .iface tF uF by unfold writeFaultOf; rw [hok]; rfl)
    rw [HF.out]
    go_enter Tryz.func150, Tryz.ntmps150
    go_wp2_with fail
    refine (diskFault_any _ _ xs ps tF uF tR uR _ hn hn2 HR.out HP.out HCF.out HCR.out).mono ?_
    rw [HE.out]
    rintro e w1 ⟨rfl, hb1⟩
    have HB1 := hide (HB0.out.trans (hb1.mono HB0.out.size))
    clear hb1
    go_wp2
    go_ret
    exact ⟨rfl, HB1.out⟩
  | true =>
    obtain ⟨l1, l2, l3⟩ := right_len hok
    have HE := hide (show diskFaultOf (.iface tF uF) xs ps = .nilIface by unfold diskFaultOf; rw [hok]; rfl)
    have HF := hide (show writeFaultOf (.iface tF uF) (.iface tR uR) (.iface tU uU) xs ps a d = if d.size ≤ 64 then (if 0 ≤ a ∧ a ≤ (xs.length : Int) - 1 then (if ps.length = 200 then .iface tU uU else .nilIface) else .iface tR uR) else .iface tF uF by unfold writeFaultOf; rw [hok, if_pos rfl])
    have HG := hide (show pendFault (.iface tF uF) (.iface tR uR) a d xs.length = if d.size ≤ 64 then (if 0 ≤ a ∧ a ≤ (xs.length : Int) - 1 then .nilIface else .iface tR uR) else .iface tF uF from rfl)
    rw [HF.out]
    go_enter Tryz.func150, Tryz.ntmps150
    go_wp2_with fail
    refine (diskFault_any _ _ xs ps tF uF tR uR _ hn hn2 HR.out HP.out HCF.out HCR.out).mono ?_
    rw [HE.out]
    rintro e w1 ⟨rfl, hb1⟩
    have HB1 := hide (HB0.out.trans (hb1.mono HB0.out.size))
    have HM1 := hide (Row.after hb1 HN0.out)
    have a0 : w1.cell? ⟨w.heap.size, 0, none⟩ = some (.slice p1 xs.length c1) := HM1.out.cell 0
    have b0 : w1.cell? ⟨w.heap.size + 1, 0, none⟩ = some (.int .i64 a) := (Row.after hb1 HN1.out).cell 0
    have b1 : w1.cell? ⟨w.heap.size + 1, 1, none⟩ = some (.string d) := (Row.after hb1 HN1.out).cell 1
    have HCF1 := hide (cell_old hb1 HCF.out)
    have HCR1 := hide (cell_old hb1 HCR.out)
    have HCU1 := hide (cell_old hb1 HCU.out)
    clear hb1
    go_wp2_with fail
    refine (pendingFault_any a d xs.length _ _ _ HD.out l1 l2 HCF1.out HCR1.out).mono ?_
    rw [HG.out]
    rintro e w2 ⟨rfl, hb2⟩
    have HB2 := hide (HB1.out.trans (hb2.mono HB1.out.size))
    have a1 : w2.cell? ⟨w.heap.size, 1, none⟩ = some (.slice p2 ps.length c2) := (Row.after hb2 HM1.out).cell 1
    have cU : w2.cell? ⟨2, 0, none⟩ = some (.iface tU uU) := cell_old hb2 HCU1.out
    clear hb2 a0 b0 b1 HF HG HE hok
    by_cases hz : d.size ≤ 64
    · by_cases hin : 0 ≤ a ∧ a ≤ (xs.length : Int) - 1
      · rw [if_pos hz, if_pos hin]
        have HZ := hide hz
        have HI := hide hin
        clear hz hin
        by_cases h2 : ps.length = 200
        · have HT := hide h2
          have t2 : (ps.length : Int) = 200 := by omega
          clear h2
          go_wp2
          go_ret
          exact ⟨rfl, HB2.out⟩
        · have HT := hide h2
          have t2 : ¬ ((ps.length : Int) = 200) := by omega
          clear h2
          go_wp2
          go_ret
          exact ⟨rfl, HB2.out⟩
      · rw [if_pos hz, if_neg hin]
        have HZ := hide hz
        have HI := hide hin
        clear hz hin
        go_wp2
        go_ret
        exact ⟨rfl, HB2.out⟩
    · rw [if_neg hz]
      have HZ := hide hz
      clear hz
      go_wp2
      go_ret
      exact ⟨rfl, HB2.out⟩
end Go.Proofs.YtnpbmaajgiapmaaGreatDoor
