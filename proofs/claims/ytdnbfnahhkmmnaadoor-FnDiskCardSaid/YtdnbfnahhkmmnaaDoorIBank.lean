/- The bank's disk; the codes of errors. -/
import Derived.Test.YtdnbfnahhkmmnaaDoorISettle
import Derived.Test.YtdnbfnahhkmmnaaDoorSents
import Derived.LaidEql
import Derived.Stop.Asserts
import Derived.RowKitTokens
namespace Go.Proofs.YtdnbfnahhkmmnaaDoor
open Go.RowKit

theorem Row.readsBank {w : World} {g : Nat} {T : TypeId} {ys : List ByteArray} (h : Row w g T (bank ys)) (hm : ∀ x ∈ ys, x.size ≤ maxLen) (hl : ys.length ≤ 64) : Reads w (.slice (Option.some ⟨g, 0, none⟩) ys.length 64) ys :=
  ⟨_, _, rfl, hl, by unfold maxLen; omega, hm, fun _ => ⟨g, 0, rfl, h.lt, fun i hi => by rw [Nat.zero_add, h.cell i, bank_at ys i hi]⟩⟩

set_option maxHeartbeats 4000000 in
set_option maxRecDepth 100000 in
theorem bankDisk_any (ys : List ByteArray) (w : World) (hl : ys.length ≤ 64) (hm : ∀ x ∈ ys, x.size ≤ 1048576) :
    Calls Tryd.prog 34 #[.agg (bank ys).toArray] w fun e w' => DiskIs w.heap.size e w' ys [] ∧ Below w.heap.size w w' := by
  obtain ⟨C, hC⟩ : ∃ C : Array Value, C = (bank ys).toArray := ⟨_, rfl⟩
  have hm' : ∀ x ∈ ys, x.size ≤ maxLen := fun x hx => by have := hm x hx; unfold maxLen; omega
  have r0 : Row ((w.alloc (.cells C 63)).alloc (.cells #[.slice none 0 0, .slice none 0 0] 26)) w.heap.size 63 (bank ys) := by
    rw [hC]; exact (row_new w (bank ys) 63).alloc _
  have r1 := row_new (w.alloc (.cells C 63)) [.slice none 0 0, .slice none 0 0] 26
  simp only [World.size_alloc] at r1
  have HB0 := hide (show Below w.heap.size w ((w.alloc (.cells C 63)).alloc (.cells #[.slice none 0 0, .slice none 0 0] 26)) from ((Below.refl _ _).alloc (Nat.le_refl _) _).alloc (by simp) _)
  have a64 : ((w.alloc (.cells C 63)).alloc (.cells #[.slice none 0 0, .slice none 0 0] 26)).cell? ⟨w.heap.size, 64, none⟩ = some (.int .i64 ys.length) := by rw [r0.cell 64]; exact bank_last hl
  have HRd := hide (r0.readsBank hm' hl)
  have HR1 := hide r1
  have hcs : C.size = 65 := by rw [hC]; simp [bank_len hl]
  have hli : (ys.length : Int) ≤ 64 := by omega
  have HM := hide hm
  have HM' := hide hm'
  rw [← hC]
  clear hC r0 r1 hm hm'
  go_enter Tryd.func34, Tryd.ntmps34
  go_wp2_with fail
  refine (copyTexts_any _ ys _ (by omega) HM.out HRd.out).mono ?_
  rintro e w3 ⟨rfl, hrow3, hb3⟩
  have HB3 := hide (HB0.out.trans (hb3.mono HB0.out.size))
  have R3 := Row.after hb3 HR1.out
  have HT3 := hide hrow3
  have c0 : w3.cell? ⟨w.heap.size + 1, 0, none⟩ = some (.slice none 0 0) := R3.cell 0
  have c1' : w3.cell? ⟨w.heap.size + 1, 1, none⟩ = some (.slice none 0 0) := R3.cell 1
  have f0 := R3.free 0
  have f1 := R3.free 1
  have HR3 := hide R3
  clear hrow3 hb3 R3 a64
  simp only [World.size_alloc] at HT3 ⊢
  go_wp2
  obtain ⟨z0, z1, KF⟩ := two HR3.out (.slice (some ⟨w.heap.size + 1 + 1, 0, none⟩) ys.length ys.length) (.slice none 0 0)
  exact bodyPost_ret (v := .agg #[.slice (some ⟨w.heap.size + 1 + 1, 0, none⟩) ys.length ys.length, .slice none 0 0]) (by simp [results, Tryd.results34, go_sem, z0, z1]) rfl
    ⟨⟨_, _, rfl, ⟨HM'.out, .inr ⟨w.heap.size + 1 + 1, [], by simp, by simp; unfold maxLen; omega, by omega, by simpa using KF.row HT3.out (by simp)⟩⟩, OwnP.none _ _ _, fun _ _ h => by cases h⟩, KF.toBelow HB3.out HB3.out.size (by simp)⟩

theorem Tryd.isTypeOf (v : Value) (w : World) : (Extern.ReflectliteType.typeOf #[.iface 97 v]).run Tryd.prog w = .ok (.iface 87 (.agg #[.pointer (some ⟨3, 97, none⟩)])) w := by kernel_rfl
theorem Tryd.callTypeOf (v : Value) (w : World) : (callFunc 47 #[.iface 97 v]).run Tryd.prog w = .ok (.value (.iface 87 (.agg #[.pointer (some ⟨3, 97, none⟩)]))) w := by
  rw [@run_callFunc_extern Tryd.prog 47 _ Extern.ReflectliteType.typeOf Tryd.func47 (by kernel_rfl) (by kernel_rfl) (by kernel_rfl) (by kernel_rfl), Tryd.isTypeOf]
  rfl
theorem Tryd.isComparable /- 44 -/ (w : World) : ((Extern.ReflectliteType.method fun t => do Extern.Rtype.noPackHeld "Comparable" t; pure (.bool (← typeInfo t).comparable)) #[.agg #[.pointer (some ⟨3, 97, none⟩)]]).run Tryd.prog w = .ok (.bool true) w := by kernel_rfl
theorem Tryd.callComparable (w : World) : (callFunc 67 #[.agg #[.pointer (some ⟨3, 97, none⟩)]]).run Tryd.prog w = .ok (.value (.bool true)) w := by
  rw [@run_callFunc_extern Tryd.prog 67 _ (Extern.ReflectliteType.method fun t => do Extern.Rtype.noPackHeld "Comparable" t; pure (.bool (← typeInfo t).comparable)) Tryd.func67 (by kernel_rfl) (by kernel_rfl) (by kernel_rfl) (by kernel_rfl), Tryd.isComparable]
  rfl
theorem Tryd.isMethodComparable (v : Value) (w : World) : (Go.method 234 87 v "Comparable").run Tryd.prog w = .ok (67, v) w := by kernel_rfl
theorem Tryd.isComp : (Tryd.prog.info? 97).map (·.comparable) = some true := by kernel_rfl
theorem Tryd.isSize : (Tryd.prog.info? 122).map (·.size) = some 1 := by kernel_rfl
theorem Tryd.noIsE /- 44 -/ (v : Value) (xT : TypeId) (w : World) : (Instr.typeAssert (.iface 97 v) xT 89 true).run Tryd.prog w = .ok (.tuple #[.nilIface, .bool false]) w := run_typeAssert_lacksB Tryd.underlying89 (by kernel_rfl) (by kernel_rfl) v xT w
theorem Tryd.noUnwrapE /- 44 -/ (v : Value) (xT : TypeId) (w : World) : (Instr.typeAssert (.iface 97 v) xT 92 true).run Tryd.prog w = .ok (.tuple #[.nilIface, .bool false]) w := run_typeAssert_lacksB Tryd.underlying92 (by kernel_rfl) (by kernel_rfl) v xT w
theorem Tryd.noUnwrapsE /- 44 -/ (v : Value) (xT : TypeId) (w : World) : (Instr.typeAssert (.iface 97 v) xT 94 true).run Tryd.prog w = .ok (.tuple #[.nilIface, .bool false]) w := run_typeAssert_lacksB Tryd.underlying94 (by kernel_rfl) (by kernel_rfl) v xT w

set_option maxHeartbeats 2000000 in
theorem is_same (a : Addr) (w : World) :
    Calls Tryd.prog 44 #[.iface 97 (.pointer (some a)), .iface 97 (.pointer (some a))] w fun e w' => e = .returned (.bool true) ∧ w' = w := by
  obtain ⟨i, hi, hcmp⟩ := Option.map_eq_some_iff.1 Tryd.isComp
  obtain ⟨j, hj, hjs⟩ := Option.map_eq_some_iff.1 Tryd.isSize
  have tT := Tryd.callTypeOf
  have cT := Tryd.callComparable
  have mR := Tryd.isMethodComparable
  have heq := run_eql_iface_ptr_same (P := Tryd.prog) w a Tryd.underlying56 Tryd.underlying97 hi hcmp hj
  go_enter Tryd.func44, Tryd.ntmps44
  go_wp2
  refine wp_loop_rounds 1 ?_
  rw [rounds_succ]
  go_wp2
  go_ret
  exact ⟨rfl, rfl⟩
set_option maxHeartbeats 2000000 in
theorem is_other (a b : Addr) (w : World) (hne : a ≠ b) (ha : ∃ c t, w.heap[a.block]? = some (.cells c t (0, 0))) (hb : ∃ c t, w.heap[b.block]? = some (.cells c t (0, 0))) :
    Calls Tryd.prog 44 #[.iface 97 (.pointer (some a)), .iface 97 (.pointer (some b))] w fun e w' => e = .returned (.bool false) ∧ w' = w := by
  obtain ⟨ca, ta, ha⟩ := ha
  obtain ⟨cb, tb, hb⟩ := hb
  obtain ⟨i, hi, hcmp⟩ := Option.map_eq_some_iff.1 Tryd.isComp
  obtain ⟨j, hj, hjs⟩ := Option.map_eq_some_iff.1 Tryd.isSize
  have tT := Tryd.callTypeOf
  have cT := Tryd.callComparable
  have mR := Tryd.isMethodComparable
  have nE := Tryd.noIsE
  have uE := Tryd.noUnwrapE
  have vE := Tryd.noUnwrapsE
  have heq := run_eql_iface_ptr_other (P := Tryd.prog) w Tryd.underlying56 Tryd.underlying97 hi hcmp hj (by rw [hjs]; decide) hne ha hb
  go_enter Tryd.func44, Tryd.ntmps44
  go_wp2
  refine wp_loop_rounds 1 ?_
  rw [rounds_succ]
  go_wp2
  go_ret
  exact ⟨rfl, rfl⟩
end Go.Proofs.YtdnbfnahhkmmnaaDoor
