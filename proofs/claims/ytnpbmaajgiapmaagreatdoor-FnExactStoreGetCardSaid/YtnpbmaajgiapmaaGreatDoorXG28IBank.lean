/- The bank's disk; the codes of errors. -/
import Derived.Test.YtnpbmaajgiapmaaGreatDoorXG25ISettle
import Derived.Test.YtnpbmaajgiapmaaGreatDoorXG27IFit
import Derived.LaidEql
import Derived.Stop.Asserts
import Derived.RowKitTokens
namespace Go.Proofs.YtnpbmaajgiapmaaGreatDoor
open Go.RowKit

theorem Row.readsBank {w : World} {g : Nat} {T : TypeId} {ys : List ByteArray} (h : Row w g T (bank ys)) (hm : ∀ x ∈ ys, x.size ≤ maxLen) (hl : ys.length ≤ 64) : Reads w (.slice (Option.some ⟨g, 0, none⟩) ys.length 64) ys :=
  ⟨_, _, rfl, hl, by unfold maxLen; omega, hm, fun _ => ⟨g, 0, rfl, h.lt, fun i hi => by rw [Nat.zero_add, h.cell i, bank_at ys i hi]⟩⟩

set_option maxHeartbeats 4000000 in
set_option maxRecDepth 100000 in
theorem bankDisk_any (ys : List ByteArray) (w : World) (hl : ys.length ≤ 64) (hm : ∀ x ∈ ys, x.size ≤ 1048576) :
    Calls Tryz.prog 149 #[.agg (bank ys).toArray] w fun e w' => DiskIs w.heap.size e w' ys [] ∧ Below w.heap.size w w' := by
  obtain ⟨C, hC⟩ : ∃ C : Array Value, C = (bank ys).toArray := ⟨_, rfl⟩
  have hm' : ∀ x ∈ ys, x.size ≤ maxLen := fun x hx => by have := hm x hx; unfold maxLen; omega
  have r0 : Row ((w.alloc (.cells C 153)).alloc (.cells #[.slice none 0 0, .slice none 0 0] 30)) w.heap.size 153 (bank ys) := by
    rw [hC]; exact (row_new w (bank ys) 153).alloc _
  have r1 := row_new (w.alloc (.cells C 153)) [.slice none 0 0, .slice none 0 0] 30
  simp only [World.size_alloc] at r1
  have HB0 := hide (show Below w.heap.size w ((w.alloc (.cells C 153)).alloc (.cells #[.slice none 0 0, .slice none 0 0] 30)) from ((Below.refl _ _).alloc (Nat.le_refl _) _).alloc (by simp) _)
  have a64 : ((w.alloc (.cells C 153)).alloc (.cells #[.slice none 0 0, .slice none 0 0] 30)).cell? ⟨w.heap.size, 64, none⟩ = some (.int .i64 ys.length) := by rw [r0.cell 64]; exact bank_last hl
  have HRd := hide (r0.readsBank hm' hl)
  have HR1 := hide r1
  have hcs : C.size = 65 := by rw [hC]; simp [bank_len hl]
  have hli : (ys.length : Int) ≤ 64 := by omega
  have HM := hide hm
  have HM' := hide hm'
  rw [← hC]
  clear hC r0 r1 hm hm'
  go_enter Tryz.func149, Tryz.ntmps149
  go_wp2_with fail
  refine (copyTexts_any _ ys _ (by omega) HM.out HRd.out).mono ?_
  rintro e w3 ⟨rfl, hrow3, hb3⟩
  have HB3 := hide (HB0.out.trans (hb3.mono HB0.out.size))
  have R3 := Row.after hb3 HR1.out
  have HT3 := hide hrow3
  have c0 : w3.cell? ⟨w.heap.size + 1, 0, none⟩ = some (.slice none 0 0) := R3.cell 0
  have c1' : w3.cell? ⟨w.heap.size + 1, 1, none⟩ = some (.slice none 0 0) := R3.cell 1
  have f0 := R3.free 0
  have f1 := R3.free 1
  have HR3 := hide R3
  clear hrow3 hb3 R3 a64
  simp only [World.size_alloc] at HT3 ⊢
  go_wp2
  obtain ⟨z0, z1, KF⟩ := two HR3.out (.slice (some ⟨w.heap.size + 1 + 1, 0, none⟩) ys.length ys.length) (.slice none 0 0)
  exact bodyPost_ret (v := .agg #[.slice (some ⟨w.heap.size + 1 + 1, 0, none⟩) ys.length ys.length, .slice none 0 0]) (by simp [results, Tryz.results149, go_sem, z0, z1]) rfl
    ⟨⟨_, _, rfl, ⟨HM'.out, .inr ⟨w.heap.size + 1 + 1, [], by simp, by simp; unfold maxLen; omega, by omega, by simpa using KF.row HT3.out (by simp)⟩⟩, OwnP.none _ _ _, fun _ _ h => by cases h⟩, KF.toBelow HB3.out HB3.out.size (by simp)⟩

theorem Tryz.isTypeOf (v : Value) (w : World) : (Extern.ReflectliteType.typeOf #[.iface 245 v]).run Tryz.prog w = .ok (.iface 204 (.agg #[.pointer (some ⟨5, 245, none⟩)])) w := by kernel_rfl
theorem Tryz.callTypeOf (v : Value) (w : World) : (callFunc 145 #[.iface 245 v]).run Tryz.prog w = .ok (.value (.iface 204 (.agg #[.pointer (some ⟨5, 245, none⟩)]))) w := by
  rw [@run_callFunc_extern Tryz.prog 145 _ Extern.ReflectliteType.typeOf Tryz.func145 (by kernel_rfl) (by kernel_rfl) (by kernel_rfl) (by kernel_rfl), Tryz.isTypeOf]
  rfl
theorem Tryz.isComparable /- 125 -/ (w : World) : ((Extern.ReflectliteType.method fun t => do Extern.Rtype.noPackHeld "Comparable" t; pure (.bool (← typeInfo t).comparable)) #[.agg #[.pointer (some ⟨5, 245, none⟩)]]).run Tryz.prog w = .ok (.bool true) w := by kernel_rfl
theorem Tryz.callComparable (w : World) : (callFunc 210 #[.agg #[.pointer (some ⟨5, 245, none⟩)]]).run Tryz.prog w = .ok (.value (.bool true)) w := by
  rw [@run_callFunc_extern Tryz.prog 210 _ (Extern.ReflectliteType.method fun t => do Extern.Rtype.noPackHeld "Comparable" t; pure (.bool (← typeInfo t).comparable)) Tryz.func210 (by kernel_rfl) (by kernel_rfl) (by kernel_rfl) (by kernel_rfl), Tryz.isComparable]
  rfl
theorem Tryz.isMethodComparable (v : Value) (w : World) : (Go.method 376 204 v "Comparable").run Tryz.prog w = .ok (210, v) w := by kernel_rfl
theorem Tryz.isComp : (Tryz.prog.info? 245).map (·.comparable) = some true := by kernel_rfl
theorem Tryz.isSize : (Tryz.prog.info? 264).map (·.size) = some 1 := by kernel_rfl
theorem Tryz.noIsE /- 125 -/ (v : Value) (xT : TypeId) (w : World) : (Instr.typeAssert (.iface 245 v) xT 216 true).run Tryz.prog w = .ok (.tuple #[.nilIface, .bool false]) w := run_typeAssert_lacksB Tryz.underlying216 (by kernel_rfl) (by kernel_rfl) v xT w
theorem Tryz.noUnwrapE /- 125 -/ (v : Value) (xT : TypeId) (w : World) : (Instr.typeAssert (.iface 245 v) xT 211 true).run Tryz.prog w = .ok (.tuple #[.nilIface, .bool false]) w := run_typeAssert_lacksB Tryz.underlying211 (by kernel_rfl) (by kernel_rfl) v xT w
theorem Tryz.noUnwrapsE /- 125 -/ (v : Value) (xT : TypeId) (w : World) : (Instr.typeAssert (.iface 245 v) xT 213 true).run Tryz.prog w = .ok (.tuple #[.nilIface, .bool false]) w := run_typeAssert_lacksB Tryz.underlying213 (by kernel_rfl) (by kernel_rfl) v xT w

set_option maxHeartbeats 2000000 in
theorem is_same (a : Addr) (w : World) :
    Calls Tryz.prog 125 #[.iface 245 (.pointer (some a)), .iface 245 (.pointer (some a))] w fun e w' => e = .returned (.bool true) ∧ w' = w := by
  obtain ⟨i, hi, hcmp⟩ := Option.map_eq_some_iff.1 Tryz.isComp
  obtain ⟨j, hj, hjs⟩ := Option.map_eq_some_iff.1 Tryz.isSize
  have tT := Tryz.callTypeOf
  have cT := Tryz.callComparable
  have mR := Tryz.isMethodComparable
  have heq := run_eql_iface_ptr_same (P := Tryz.prog) w a Tryz.underlying56 Tryz.underlying245 hi hcmp hj
  go_enter Tryz.func125, Tryz.ntmps125
  go_wp2
  refine wp_loop_rounds 1 ?_
  rw [rounds_succ]
  go_wp2
  go_ret
  exact ⟨rfl, rfl⟩
set_option maxHeartbeats 2000000 in
theorem is_other (a b : Addr) (w : World) (hne : a ≠ b) (ha : ∃ c t, w.heap[a.block]? = some (.cells c t (0, 0))) (hb : ∃ c t, w.heap[b.block]? = some (.cells c t (0, 0))) :
    Calls Tryz.prog 125 #[.iface 245 (.pointer (some a)), .iface 245 (.pointer (some b))] w fun e w' => e = .returned (.bool false) ∧ w' = w := by
  obtain ⟨ca, ta, ha⟩ := ha
  obtain ⟨cb, tb, hb⟩ := hb
  obtain ⟨i, hi, hcmp⟩ := Option.map_eq_some_iff.1 Tryz.isComp
  obtain ⟨j, hj, hjs⟩ := Option.map_eq_some_iff.1 Tryz.isSize
  have tT := Tryz.callTypeOf
  have cT := Tryz.callComparable
  have mR := Tryz.isMethodComparable
  have nE := Tryz.noIsE
  have uE := Tryz.noUnwrapE
  have vE := Tryz.noUnwrapsE
  have heq := run_eql_iface_ptr_other (P := Tryz.prog) w Tryz.underlying56 Tryz.underlying245 hi hcmp hj (by rw [hjs]; decide) hne ha hb
  go_enter Tryz.func125, Tryz.ntmps125
  go_wp2
  refine wp_loop_rounds 1 ?_
  rw [rounds_succ]
  go_wp2
  go_ret
  exact ⟨rfl, rfl⟩
end Go.Proofs.YtnpbmaajgiapmaaGreatDoor
/- The codes of the program's errors; what it says of a read and of a write. -/
namespace Go.Proofs.YtnpbmaajgiapmaaGreatDoor
open Go.RowKit

/-- An error of the three, and its code. -/
abbrev errV (a : Addr) : Value := .iface 245 (.pointer (some a))
set_option maxHeartbeats 2000000 in
theorem code_form (aF aR aU : Addr) (w : World) (hS : Sents aF aR aU w) :
    Calls Tryz.prog 100 #[.iface 245 (.pointer (some aF))] w fun e w' => e = .returned (.int .i64 1) ∧ w' = w := by
  obtain ⟨⟨c1, c2⟩, c3, n1, n2, n3, r1, r2, r3⟩ := hS
  clear n1 n2 n3 r1 r2 r3
  go_enter Tryz.func100, Tryz.ntmps100
  go_wp2_with fail
  refine (is_same aF w).mono ?_
  rintro e w1 ⟨rfl, rfl⟩
  go_wp2
  go_ret
  exact ⟨rfl, rfl⟩
set_option maxHeartbeats 2000000 in
theorem code_range (aF aR aU : Addr) (w : World) (hS : Sents aF aR aU w) :
    Calls Tryz.prog 100 #[.iface 245 (.pointer (some aR))] w fun e w' => e = .returned (.int .i64 8) ∧ w' = w := by
  obtain ⟨⟨c1, c2⟩, c3, n1, n2, n3, r1, r2, r3⟩ := hS
  have N1 := hide n1
  clear n1 n2 n3
  go_enter Tryz.func100, Tryz.ntmps100
  go_wp2_with fail
  refine (is_other aR aF w (fun e => N1.out e.symm) r2 r1).mono ?_
  rintro e w1 ⟨rfl, rfl⟩
  go_wp2_with fail
  refine (is_same aR w1).mono ?_
  rintro e w2 ⟨rfl, rfl⟩
  go_wp2
  go_ret
  exact ⟨rfl, rfl⟩
set_option maxHeartbeats 2000000 in
theorem code_full (aF aR aU : Addr) (w : World) (hS : Sents aF aR aU w) :
    Calls Tryz.prog 100 #[.iface 245 (.pointer (some aU))] w fun e w' => e = .returned (.int .i64 9) ∧ w' = w := by
  obtain ⟨⟨c1, c2⟩, c3, n1, n2, n3, r1, r2, r3⟩ := hS
  have N2 := hide n2
  have N3 := hide n3
  clear n1 n2 n3
  go_enter Tryz.func100, Tryz.ntmps100
  go_wp2_with fail
  refine (is_other aU aF w (fun e => N2.out e.symm) r3 r1).mono ?_
  rintro e w1 ⟨rfl, rfl⟩
  go_wp2_with fail
  refine (is_other aU aR w1 (fun e => N3.out e.symm) r3 r2).mono ?_
  rintro e w2 ⟨rfl, rfl⟩
  go_wp2_with fail
  refine (is_same aU w2).mono ?_
  rintro e w3 ⟨rfl, rfl⟩
  go_wp2
  go_ret
  exact ⟨rfl, rfl⟩
/-- The address a is one of the three errors, c its code. -/
def CodeIs (aF aR aU a : Addr) (c : Int) : Prop := (a = aF ∧ c = 1) ∨ (a = aR ∧ c = 8) ∨ (a = aU ∧ c = 9)
theorem code_any (aF aR aU a : Addr) (c : Int) (w : World) (hS : Sents aF aR aU w) (h : CodeIs aF aR aU a c) :
    Calls Tryz.prog 100 #[.iface 245 (.pointer (some a))] w fun e w' => e = .returned (.int .i64 c) ∧ w' = w := by
  rcases h with ⟨rfl, rfl⟩ | ⟨rfl, rfl⟩ | ⟨rfl, rfl⟩
  · exact code_form _ _ _ w hS
  · exact code_range _ _ _ w hS
  · exact code_full _ _ _ w hS

/-- What is told of a read. -/
def readFaultOf (vF vR : Value) (xs : List ByteArray) (ps : List (Int × ByteArray)) (a : Int) : Value := if right xs ps then (if 0 ≤ a ∧ a ≤ (xs.length : Int) - 1 then .nilIface else vR) else vF
/-- What is told of a write. -/
def writeFaultOf (vF vR vU : Value) (xs : List ByteArray) (ps : List (Int × ByteArray)) (a : Int) (d : ByteArray) : Value :=
  if right xs ps then (if d.size ≤ 64 then (if 0 ≤ a ∧ a ≤ (xs.length : Int) - 1 then (if ps.length = 200 then vU else .nilIface) else vR) else vF) else vF
set_option maxHeartbeats 4000000 in
theorem writeFault_any (vs vp : Value) (xs : List ByteArray) (ps : List (Int × ByteArray)) (a : Int) (d : ByteArray) (tF : TypeId) (uF : Value) (tR : TypeId) (uR : Value) (tU : TypeId) (uU : Value) (w : World) (hn : xs.length ≤ 1048576) (hn2 : ps.length ≤ 1048576) (hd : d.size ≤ maxLen) (hr : Reads w vs xs) (hp : ReadsP w vp ps)
    (hF : w.cell? ⟨0, 0, none⟩ = some (.iface tF uF)) (hR : w.cell? ⟨1, 0, none⟩ = some (.iface tR uR)) (hU : w.cell? ⟨2, 0, none⟩ = some (.iface tU uU)) :
    Calls Tryz.prog 150 #[.agg #[vs, vp], .agg #[.int .i64 a, .string d]] w fun e w' => e = .returned (writeFaultOf (.iface tF uF) (.iface tR uR) (.iface tU uU) xs ps a d) ∧ Below w.heap.size w w' := by
  have hb0 : Below w.heap.size w ((w.alloc (.cells #[vs, vp] 30)).alloc (.cells #[.int .i64 a, .string d] 92)) := ((Below.refl _ _).alloc (Nat.le_refl _) _).alloc (by simp) _
  have HR := hide (hr.below hb0 (Nat.le_refl _))
  have HP := hide (hp.below hb0 (Nat.le_refl _))
  have HCF := hide (cell_old hb0 hF)
  have HCR := hide (cell_old hb0 hR)
  have HCU := hide (cell_old hb0 hU)
  have HD := hide hd
  obtain ⟨p1, c1, rfl, hq⟩ := hr
  obtain ⟨p2, c2, rfl, hq2⟩ := hp
  have HB0 := hide hb0
  have HN0 := hide ((row_new w [.slice p1 xs.length c1, .slice p2 ps.length c2] 30).alloc (.cells #[.int .i64 a, .string d] 92))
  have R1 := row_new (w.alloc (.cells #[.slice p1 xs.length c1, .slice p2 ps.length c2] 30)) [.int .i64 a, .string d] 92
  simp only [World.size_alloc] at R1
  have HN1 := hide R1
  clear hb0 hq hq2 hF hR hU R1 hd
  cases hok : right xs ps with
  | false =>
    have HE := hide (show diskFaultOf (.iface tF uF) xs ps = .iface tF uF by unfold diskFaultOf; rw [hok]; rfl)
    have HF := hide (show writeFaultOf (.iface tF uF) (.iface tR uR) (.iface tU uU) xs ps a d = .iface tF uF by unfold writeFaultOf; rw [hok]; rfl)
    rw [HF.out]
    go_enter Tryz.func150, Tryz.ntmps150
    go_wp2_with fail
    refine (diskFault_any _ _ xs ps tF uF tR uR _ hn hn2 HR.out HP.out HCF.out HCR.out).mono ?_
    rw [HE.out]
    rintro e w1 ⟨rfl, hb1⟩
    have HB1 := hide (HB0.out.trans (hb1.mono HB0.out.size))
    clear hb1
    go_wp2
    go_ret
    exact ⟨rfl, HB1.out⟩
  | true =>
    obtain ⟨l1, l2, l3⟩ := right_len hok
    have HE := hide (show diskFaultOf (.iface tF uF) xs ps = .nilIface by unfold diskFaultOf; rw [hok]; rfl)
    have HF := hide (show writeFaultOf (.iface tF uF) (.iface tR uR) (.iface tU uU) xs ps a d = if d.size ≤ 64 then (if 0 ≤ a ∧ a ≤ (xs.length : Int) - 1 then (if ps.length = 200 then .iface tU uU else .nilIface) else .iface tR uR) else .iface tF uF by unfold writeFaultOf; rw [hok, if_pos rfl])
    have HG := hide (show pendFault (.iface tF uF) (.iface tR uR) a d xs.length = if d.size ≤ 64 then (if 0 ≤ a ∧ a ≤ (xs.length : Int) - 1 then .nilIface else .iface tR uR) else .iface tF uF from rfl)
    rw [HF.out]
    go_enter Tryz.func150, Tryz.ntmps150
    go_wp2_with fail
    refine (diskFault_any _ _ xs ps tF uF tR uR _ hn hn2 HR.out HP.out HCF.out HCR.out).mono ?_
    rw [HE.out]
    rintro e w1 ⟨rfl, hb1⟩
    have HB1 := hide (HB0.out.trans (hb1.mono HB0.out.size))
    have HM1 := hide (Row.after hb1 HN0.out)
    have a0 : w1.cell? ⟨w.heap.size, 0, none⟩ = some (.slice p1 xs.length c1) := HM1.out.cell 0
    have b0 : w1.cell? ⟨w.heap.size + 1, 0, none⟩ = some (.int .i64 a) := (Row.after hb1 HN1.out).cell 0
    have b1 : w1.cell? ⟨w.heap.size + 1, 1, none⟩ = some (.string d) := (Row.after hb1 HN1.out).cell 1
    have HCF1 := hide (cell_old hb1 HCF.out)
    have HCR1 := hide (cell_old hb1 HCR.out)
    have HCU1 := hide (cell_old hb1 HCU.out)
    clear hb1
    go_wp2_with fail
    refine (pendingFault_any a d xs.length _ _ _ HD.out l1 l2 HCF1.out HCR1.out).mono ?_
    rw [HG.out]
    rintro e w2 ⟨rfl, hb2⟩
    have HB2 := hide (HB1.out.trans (hb2.mono HB1.out.size))
    have a1 : w2.cell? ⟨w.heap.size, 1, none⟩ = some (.slice p2 ps.length c2) := (Row.after hb2 HM1.out).cell 1
    have cU : w2.cell? ⟨2, 0, none⟩ = some (.iface tU uU) := cell_old hb2 HCU1.out
    clear hb2 a0 b0 b1 HF HG HE hok
    by_cases hz : d.size ≤ 64
    · by_cases hin : 0 ≤ a ∧ a ≤ (xs.length : Int) - 1
      · rw [if_pos hz, if_pos hin]
        have HZ := hide hz
        have HI := hide hin
        clear hz hin
        by_cases h2 : ps.length = 200
        · have HT := hide h2
          have t2 : (ps.length : Int) = 200 := by omega
          clear h2
          go_wp2
          go_ret
          exact ⟨rfl, HB2.out⟩
        · have HT := hide h2
          have t2 : ¬ ((ps.length : Int) = 200) := by omega
          clear h2
          go_wp2
          go_ret
          exact ⟨rfl, HB2.out⟩
      · rw [if_pos hz, if_neg hin]
        have HZ := hide hz
        have HI := hide hin
        clear hz hin
        go_wp2
        go_ret
        exact ⟨rfl, HB2.out⟩
    · rw [if_neg hz]
      have HZ := hide hz
      clear hz
      go_wp2
      go_ret
      exact ⟨rfl, HB2.out⟩
end Go.Proofs.YtnpbmaajgiapmaaGreatDoor
/- DiskRight, as the program does it. -/
namespace Go.Proofs.YtnpbmaajgiapmaaGreatDoor
open Go.RowKit

end Go.Proofs.YtnpbmaajgiapmaaGreatDoor
