/- The codes of the program's errors; what it says of a read and of a write. -/
import Derived.Test.YtnpbmaajgiapmaaGreatDoorXG18IFault
import Derived.Test.YtnpbmaajgiapmaaGreatDoorXG14AOut
import Derived.Recover
import Derived.WalkLawsBesides
namespace Go.Proofs.YtnpbmaajgiapmaaGreatDoor
open Go.RowKit

/-- An error of the three, and its code. -/
abbrev errV (a : Addr) : Value := .iface 245 (.pointer (some a))
set_option maxHeartbeats 2000000 in
theorem code_form (aF aR aU : Addr) (w : World) (hS : Sents aF aR aU w) :
    Calls Tryz.prog 100 #[.iface 245 (.pointer (some aF))] w fun e w' => e = .returned (.int .i64 1) ∧ w' = w := by
  obtain ⟨⟨c1, c2⟩, c3, n1, n2, n3, r1, r2, r3⟩ := hS
  clear n1 n2 n3 r1 r2 r3
  go_enter Tryz.func100, Tryz.ntmps100
  go_wp2_with fail
  refine (is_same aF w).mono ?_
  rintro e w1 ⟨rfl, rfl⟩
  go_wp2
  go_ret
  exact ⟨rfl, rfl⟩
set_option maxHeartbeats 2000000 in
theorem code_range (aF aR aU : Addr) (w : World) (hS : Sents aF aR aU w) :
    Calls Tryz.prog 100 #[.iface 245 (.pointer (some aR))] w fun e w' => e = .returned (.int .i64 8) ∧ w' = w := by
  obtain ⟨⟨c1, c2⟩, c3, n1, n2, n3, r1, r2, r3⟩ := hS
  have N1 := hide n1
  clear n1 n2 n3
  go_enter Tryz.func100, Tryz.ntmps100
  go_wp2_with fail
  refine (is_other aR aF w (fun e => N1.out e.symm) r2 r1).mono ?_
  rintro e w1 ⟨rfl, rfl⟩
  go_wp2_with fail
  refine (is_same aR w1).mono ?_
  rintro e w2 ⟨rfl, rfl⟩
  go_wp2
  go_ret
  exact ⟨rfl, rfl⟩
set_option maxHeartbeats 2000000 in
theorem code_full (aF aR aU : Addr) (w : World) (hS : Sents aF aR aU w) :
    Calls Tryz.prog 100 #[.iface 245 (.pointer (some aU))] w fun e w' => e = .returned (.int .i64 9) ∧ w' = w := by
  obtain ⟨⟨c1, c2⟩, c3, n1, n2, n3, r1, r2, r3⟩ := hS
  have N2 := hide n2
  have N3 := hide n3
  clear n1 n2 n3
  go_enter Tryz.func100, Tryz.ntmps100
  go_wp2_with fail
  refine (is_other aU aF w (fun e => N2.out e.symm) r3 r1).mono ?_
  rintro e w1 ⟨rfl, rfl⟩
  go_wp2_with fail
  refine (is_other aU aR w1 (fun e => N3.out e.symm) r3 r2).mono ?_
  rintro e w2 ⟨rfl, rfl⟩
  go_wp2_with fail
  refine (is_same aU w2).mono ?_
  rintro e w3 ⟨rfl, rfl⟩
  go_wp2
  go_ret
  exact ⟨rfl, rfl⟩
/-- The address a is one of the three errors, c its code. -/
def CodeIs (aF aR aU a : Addr) (c : Int) : Prop := (a = aF ∧ c = 1) ∨ (a = aR ∧ c = 8) ∨ (a = aU ∧ c = 9)
theorem code_any (aF aR aU a : Addr) (c : Int) (w : World) (hS : Sents aF aR aU w) (h : CodeIs aF aR aU a c) :
    Calls Tryz.prog 100 #[.iface 245 (.pointer (some a))] w fun e w' => e = .returned (.int .i64 c) ∧ w' = w := by
  rcases h with ⟨rfl, rfl⟩ | ⟨rfl, rfl⟩ | ⟨rfl, rfl⟩
  · exact code_form _ _ _ w hS
  · exact code_range _ _ _ w hS
  · exact code_full _ _ _ w hS

/-- What is told of a read. -/
def readFaultOf (vF vR : Value) (xs : List ByteArray) (ps : List (Int × ByteArray)) (a : Int) : Value := if right xs ps then (if 0 ≤ a ∧ a ≤ (xs.length : Int) - 1 then .nilIface else vR) else vF
/-- What is told of a write. -/
def writeFaultOf (vF vR vU : Value) (xs : List ByteArray) (ps : List (Int × ByteArray)) (a : Int) (d : ByteArray) : Value :=
  if right xs ps then (if d.size ≤ 64 then (if 0 ≤ a ∧ a ≤ (xs.length : Int) - 1 then (if ps.length = 200 then vU else .nilIface) else vR) else vF) else vF
set_option maxHeartbeats 4000000 in
theorem writeFault_any (vs vp : Value) (xs : List ByteArray) (ps : List (Int × ByteArray)) (a : Int) (d : ByteArray) (tF : TypeId) (uF : Value) (tR : TypeId) (uR : Value) (tU : TypeId) (uU : Value) (w : World) (hn : xs.length ≤ 1048576) (hn2 : ps.length ≤ 1048576) (hd : d.size ≤ maxLen) (hr : Reads w vs xs) (hp : ReadsP w vp ps)
    (hF : w.cell? ⟨0, 0, none⟩ = some (.iface tF uF)) (hR : w.cell? ⟨1, 0, none⟩ = some (.iface tR uR)) (hU : w.cell? ⟨2, 0, none⟩ = some (.iface tU uU)) :
    Calls Tryz.prog 150 #[.agg #[vs, vp], .agg #[.int .i64 a, .string d]] w fun e w' => e = .returned (writeFaultOf (.iface tF uF) (.iface tR uR) (.iface tU uU) xs ps a d) ∧ Below w.heap.size w w' := by
  have hb0 : Below w.heap.size w ((w.alloc (.cells #[vs, vp] 30)).alloc (.cells #[.int .i64 a, .string d] 92)) := ((Below.refl _ _).alloc (Nat.le_refl _) _).alloc (by simp) _
  have HR := hide (hr.below hb0 (Nat.le_refl _))
  have HP := hide (hp.below hb0 (Nat.le_refl _))
  have HCF := hide (cell_old hb0 hF)
  have HCR := hide (cell_old hb0 hR)
  have HCU := hide (cell_old hb0 hU)
  have HD := hide hd
  obtain ⟨p1, c1, rfl, hq⟩ := hr
  obtain ⟨p2, c2, rfl, hq2⟩ := hp
  have HB0 := hide hb0
  have HN0 := hide ((row_new w [.slice p1 xs.length c1, .slice p2 ps.length c2] 30).alloc (.cells #[.int .i64 a, .string d] 92))
  have R1 := row_new (w.alloc (.cells #[.slice p1 xs.length c1, .slice p2 ps.length c2] 30)) [.int .i64 a, .string d] 92
  simp only [World.size_alloc] at R1
  have HN1 := hide R1
  clear hb0 hq hq2 hF hR hU R1 hd
  cases hok : right xs ps with
  | false =>
    have HE := hide (show diskFaultOf (.iface tF uF) xs ps = .iface tF uF by unfold diskFaultOf; rw [hok]; rfl)
    have HF := hide (show writeFaultOf (.iface tF uF) (.iface tR uR) (.iface tU uU) xs ps a d = .iface tF uF by unfold writeFaultOf; rw [hok]; rfl)
    rw [HF.out]
    go_enter Tryz.func150, Tryz.ntmps150
    go_wp2_with fail
    refine (diskFault_any _ _ xs ps tF uF tR uR _ hn hn2 HR.out HP.out HCF.out HCR.out).mono ?_
    rw [HE.out]
    rintro e w1 ⟨rfl, hb1⟩
    have HB1 := hide (HB0.out.trans (hb1.mono HB0.out.size))
    clear hb1
    go_wp2
    go_ret
    exact ⟨rfl, HB1.out⟩
  | true =>
    obtain ⟨l1, l2, l3⟩ := right_len hok
    have HE := hide (show diskFaultOf (.iface tF uF) xs ps = .nilIface by unfold diskFaultOf; rw [hok]; rfl)
    have HF := hide (show writeFaultOf (.iface tF uF) (.iface tR uR) (.iface tU uU) xs ps a d = if d.size ≤ 64 then (if 0 ≤ a ∧ a ≤ (xs.length : Int) - 1 then (if ps.length = 200 then .iface tU uU else .nilIface) else .iface tR uR) else .iface tF uF by unfold writeFaultOf; rw [hok, if_pos rfl])
    have HG := hide (show pendFault (.iface tF uF) (.iface tR uR) a d xs.length = if d.size ≤ 64 then (if 0 ≤ a ∧ a ≤ (xs.length : Int) - 1 then .nilIface else .iface tR uR) else .iface tF uF from rfl)
    rw [HF.out]
    go_enter Tryz.func150, Tryz.ntmps150
    go_wp2_with fail
    refine (diskFault_any _ _ xs ps tF uF tR uR _ hn hn2 HR.out HP.out HCF.out HCR.out).mono ?_
    rw [HE.out]
    rintro e w1 ⟨rfl, hb1⟩
    have HB1 := hide (HB0.out.trans (hb1.mono HB0.out.size))
    have HM1 := hide (Row.after hb1 HN0.out)
    have a0 : w1.cell? ⟨w.heap.size, 0, none⟩ = some (.slice p1 xs.length c1) := HM1.out.cell 0
    have b0 : w1.cell? ⟨w.heap.size + 1, 0, none⟩ = some (.int .i64 a) := (Row.after hb1 HN1.out).cell 0
    have b1 : w1.cell? ⟨w.heap.size + 1, 1, none⟩ = some (.string d) := (Row.after hb1 HN1.out).cell 1
    have HCF1 := hide (cell_old hb1 HCF.out)
    have HCR1 := hide (cell_old hb1 HCR.out)
    have HCU1 := hide (cell_old hb1 HCU.out)
    clear hb1
    go_wp2_with fail
    refine (pendingFault_any a d xs.length _ _ _ HD.out l1 l2 HCF1.out HCR1.out).mono ?_
    rw [HG.out]
    rintro e w2 ⟨rfl, hb2⟩
    have HB2 := hide (HB1.out.trans (hb2.mono HB1.out.size))
    have a1 : w2.cell? ⟨w.heap.size, 1, none⟩ = some (.slice p2 ps.length c2) := (Row.after hb2 HM1.out).cell 1
    have cU : w2.cell? ⟨2, 0, none⟩ = some (.iface tU uU) := cell_old hb2 HCU1.out
    clear hb2 a0 b0 b1 HF HG HE hok
    by_cases hz : d.size ≤ 64
    · by_cases hin : 0 ≤ a ∧ a ≤ (xs.length : Int) - 1
      · rw [if_pos hz, if_pos hin]
        have HZ := hide hz
        have HI := hide hin
        clear hz hin
        by_cases h2 : ps.length = 200
        · have HT := hide h2
          have t2 : (ps.length : Int) = 200 := by omega
          clear h2
          go_wp2
          go_ret
          exact ⟨rfl, HB2.out⟩
        · have HT := hide h2
          have t2 : ¬ ((ps.length : Int) = 200) := by omega
          clear h2
          go_wp2
          go_ret
          exact ⟨rfl, HB2.out⟩
      · rw [if_pos hz, if_neg hin]
        have HZ := hide hz
        have HI := hide hin
        clear hz hin
        go_wp2
        go_ret
        exact ⟨rfl, HB2.out⟩
    · rw [if_neg hz]
      have HZ := hide hz
      clear hz
      go_wp2
      go_ret
      exact ⟨rfl, HB2.out⟩
end Go.Proofs.YtnpbmaajgiapmaaGreatDoor
/- DiskRight, as the program does it. -/
namespace Go.Proofs.YtnpbmaajgiapmaaGreatDoor
open Go.RowKit

end Go.Proofs.YtnpbmaajgiapmaaGreatDoor
/- What the program's area panics with, and what recovers it. -/
namespace Go.Proofs.YtnpbmaajgiapmaaGreatDoor
open Go.RowKit

/-- The panic with a code. -/
abbrev fault (c : Int) : List PanicEntry := [{ v := .iface 138 (.agg #[.int .i64 c]), recovered := false }]

theorem refuse_no (c : Int) (w : World) :
    Calls Tryz.prog 79 #[.bool false, .int .i64 c] w fun e w' => e = .returned (.tuple #[]) ∧ w' = w := by
  go_enter Tryz.func79, Tryz.ntmps79
  go_wp2
  go_end0
  exact ⟨rfl, rfl⟩
theorem refuse_yes (c : Int) (w : World) :
    Calls Tryz.prog 79 #[.bool true, .int .i64 c] w fun e w' => e = .panicked (fault c) ∧ w' = w := by
  go_enter Tryz.func79, Tryz.ntmps79
  go_wp2
  exact ⟨rfl, rfl, rfl⟩
theorem refuseCode_no (w : World) :
    Calls Tryz.prog 99 #[.int .i64 0] w fun e w' => e = .returned (.tuple #[]) ∧ w' = w := by
  go_enter Tryz.func99, Tryz.ntmps99
  go_wp2_with fail
  refine (refuse_no _ _).mono ?_
  rintro e w1 ⟨rfl, rfl⟩
  go_wp2
  go_end0
  exact ⟨rfl, rfl⟩
theorem refuseCode_yes (c : Int) (w : World) (hc : c ≠ 0) :
    Calls Tryz.prog 99 #[.int .i64 c] w fun e w' => e = .panicked (fault c) ∧ w' = w := by
  have hc' : (c != 0) = true := by simpa using hc
  go_enter Tryz.func99, Tryz.ntmps99
  go_wp2_with fail
  refine (refuse_yes _ _).mono ?_
  rintro e w1 ⟨rfl, rfl⟩
  go_wp2
  exact ⟨rfl, rfl, rfl⟩

theorem Tryz.nilNot (T : TypeId) (v : Value) (w : World) : (binOp .eql 56 .nilIface (.iface T v)).run Tryz.prog w = .ok (.bool false) w := by kernel_rfl
set_option maxRecDepth 100000 in
theorem is_nil (a : Addr) (w : World) :
    Calls Tryz.prog 125 #[.nilIface, .iface 245 (.pointer (some a))] w fun e w' => e = .returned (.bool false) ∧ w' = w := by
  have hn := Tryz.nilNot
  go_enter Tryz.func125, Tryz.ntmps125
  go_wp2
  go_ret
  exact ⟨rfl, rfl⟩
set_option maxHeartbeats 2000000 in
theorem code_nil (aF aR aU : Addr) (w : World) (hS : Sents aF aR aU w) :
    Calls Tryz.prog 100 #[.nilIface] w fun e w' => e = .returned (.int .i64 0) ∧ w' = w := by
  obtain ⟨⟨c1, c2⟩, c3, n1, n2, n3, r1, r2, r3⟩ := hS
  clear n1 n2 n3 r1 r2 r3
  go_enter Tryz.func100, Tryz.ntmps100
  go_wp2_with fail
  refine (is_nil _ _).mono ?_
  rintro e w1 ⟨rfl, rfl⟩
  go_wp2_with fail
  refine (is_nil _ _).mono ?_
  rintro e w2 ⟨rfl, rfl⟩
  go_wp2_with fail
  refine (is_nil _ _).mono ?_
  rintro e w3 ⟨rfl, rfl⟩
  go_wp2
  go_ret
  exact ⟨rfl, rfl⟩

set_option maxHeartbeats 2000000 in
theorem refuseDisk_any (vs vp : Value) (xs : List ByteArray) (ps : List (Int × ByteArray)) (aF aR aU : Addr) (w : World) (hn : xs.length ≤ 1048576) (hn2 : ps.length ≤ 1048576) (hr : Reads w vs xs) (hp : ReadsP w vp ps) (hS : Sents aF aR aU w) :
    Calls Tryz.prog 78 #[.agg #[vs, vp]] w fun e w' => (if right xs ps = true then e = .returned (.tuple #[]) else e = .panicked (fault 1)) ∧ Below w.heap.size w w' := by
  have hb0 : Below w.heap.size w (w.alloc (.cells #[vs, vp] 30)) := (Below.refl _ _).alloc (Nat.le_refl _) _
  have HR := hide (hr.below hb0 (Nat.le_refl _))
  have HP := hide (hp.below hb0 (Nat.le_refl _))
  have HS := hide (Stab.go hb0 hS)
  have HB0 := hide hb0
  obtain ⟨p1, c1, rfl, hq⟩ := hr
  obtain ⟨p2, c2, rfl, hq2⟩ := hp
  clear hb0 hq hq2 hS
  cases hok : right xs ps with
  | true =>
    have HE := hide (show diskFaultOf (.iface 245 (.pointer (some aF))) xs ps = .nilIface by unfold diskFaultOf; rw [hok]; rfl)
    go_enter Tryz.func78, Tryz.ntmps78
    go_wp2_with fail
    refine (diskFault_any _ _ xs ps _ _ _ _ _ hn hn2 HR.out HP.out HS.out.1.1 HS.out.1.2).mono ?_
    rw [HE.out]
    rintro e w1 ⟨rfl, hb1⟩
    have HB1 := hide (HB0.out.trans (hb1.mono HB0.out.size))
    have HS1 := hide (Stab.go hb1 HS.out)
    clear hb1
    go_wp2_with fail
    refine (code_nil aF aR aU _ HS1.out).mono ?_
    rintro e w2 ⟨rfl, rfl⟩
    go_wp2_with fail
    refine (refuseCode_no _).mono ?_
    rintro e w3 ⟨rfl, rfl⟩
    go_wp2
    go_end0
    exact ⟨by simp, HB1.out⟩
  | false =>
    have HE := hide (show diskFaultOf (.iface 245 (.pointer (some aF))) xs ps = .iface 245 (.pointer (some aF)) by unfold diskFaultOf; rw [hok]; rfl)
    go_enter Tryz.func78, Tryz.ntmps78
    go_wp2_with fail
    refine (diskFault_any _ _ xs ps _ _ _ _ _ hn hn2 HR.out HP.out HS.out.1.1 HS.out.1.2).mono ?_
    rw [HE.out]
    rintro e w1 ⟨rfl, hb1⟩
    have HB1 := hide (HB0.out.trans (hb1.mono HB0.out.size))
    have HS1 := hide (Stab.go hb1 HS.out)
    clear hb1
    go_wp2_with fail
    refine (code_form aF aR aU _ HS1.out).mono ?_
    rintro e w2 ⟨rfl, rfl⟩
    go_wp2_with fail
    refine (refuseCode_yes 1 _ (by omega)).mono ?_
    rintro e w3 ⟨rfl, rfl⟩
    go_wp2
    exact ⟨rfl, by simp, HB1.out⟩

set_option maxHeartbeats 2000000 in
theorem recovered_nil (a b : Value) (t : ByteArray) (g c : Int) (w : World) (h1 : ∃ p n k, a = .slice p n k) (h2 : ∃ p n k, b = .slice p n k) :
    Calls Tryz.prog 77 #[.agg #[a, b, .string t, .int .i64 g, .int .i64 c], .nilIface] w fun e w' => e = .returned (.agg #[a, b, .string t, .int .i64 g, .int .i64 c]) ∧ Below w.heap.size w w' := by
  obtain ⟨p1, n1, k1, rfl⟩ := h1
  obtain ⟨p2, n2, k2, rfl⟩ := h2
  go_enter Tryz.func77, Tryz.ntmps77
  go_wp2
  exact bodyPost_ret (v := .agg #[.slice p1 n1 k1, .slice p2 n2 k2, .string t, .int .i64 g, .int .i64 c]) (by simp [results, Tryz.results77, go_sem]) rfl ⟨rfl, ((Below.refl _ _).alloc (Nat.le_refl _) _).alloc (by simp) _⟩
theorem Tryz.faultOf (v : Value) (xT : TypeId) (w : World) : (Instr.typeAssert (.iface 138 v) xT 138 false).run Tryz.prog w = .ok v w := by kernel_rfl
theorem Tryz.faultCode (v : Value) (w : World) : (Instr.field 138 (.agg #[v]) 0).run Tryz.prog w = .ok v w := by kernel_rfl
set_option maxRecDepth 100000 in
set_option maxHeartbeats 2000000 in
theorem recovered_fault (a b : Value) (t : ByteArray) (g c n : Int) (w : World) (h1 : ∃ p n k, a = .slice p n k) (h2 : ∃ p n k, b = .slice p n k) :
    Calls Tryz.prog 77 #[.agg #[a, b, .string t, .int .i64 g, .int .i64 c], .iface 138 (.agg #[.int .i64 n])] w fun e w' => e = .returned (.agg #[.slice none 0 0, .slice none 0 0, .string ⟨#[]⟩, .int .i64 0, .int .i64 n]) ∧ Below w.heap.size w w' := by
  obtain ⟨p1, n1, k1, rfl⟩ := h1
  obtain ⟨p2, n2, k2, rfl⟩ := h2
  have hf := Tryz.faultOf
  have hg := Tryz.faultCode
  go_enter Tryz.func77, Tryz.ntmps77
  go_wp2
  exact bodyPost_ret (v := .agg #[.slice none 0 0, .slice none 0 0, .string ⟨#[]⟩, .int .i64 0, .int .i64 n]) (by simp [results, Tryz.results77, go_sem]) rfl ⟨rfl, ((Below.refl _ _).alloc (Nat.le_refl _) _).alloc (by simp) _⟩
end Go.Proofs.YtnpbmaajgiapmaaGreatDoor
