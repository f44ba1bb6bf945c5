/- The codes of the program's errors; what it says of a read and of a write. -/
import Derived.Test.YtdnbfnahhkmmnaaDoorIBank
namespace Go.Proofs.YtdnbfnahhkmmnaaDoor
open Go.RowKit

/-- An error of the three, and its code. -/
abbrev errV (a : Addr) : Value := .iface 97 (.pointer (some a))
set_option maxHeartbeats 2000000 in
theorem code_form (aF aR aU : Addr) (w : World) (hS : Sents aF aR aU w) :
    Calls Tryd.prog 29 #[.iface 97 (.pointer (some aF))] w fun e w' => e = .returned (.int .i64 1) ∧ w' = w := by
  obtain ⟨⟨c1, c2⟩, c3, n1, n2, n3, r1, r2, r3⟩ := hS
  clear n1 n2 n3 r1 r2 r3
  go_enter Tryd.func29, Tryd.ntmps29
  go_wp2_with fail
  refine (is_same aF w).mono ?_
  rintro e w1 ⟨rfl, rfl⟩
  go_wp2
  go_ret
  exact ⟨rfl, rfl⟩
set_option maxHeartbeats 2000000 in
theorem code_range (aF aR aU : Addr) (w : World) (hS : Sents aF aR aU w) :
    Calls Tryd.prog 29 #[.iface 97 (.pointer (some aR))] w fun e w' => e = .returned (.int .i64 8) ∧ w' = w := by
  obtain ⟨⟨c1, c2⟩, c3, n1, n2, n3, r1, r2, r3⟩ := hS
  have N1 := hide n1
  clear n1 n2 n3
  go_enter Tryd.func29, Tryd.ntmps29
  go_wp2_with fail
  refine (is_other aR aF w (fun e => N1.out e.symm) r2 r1).mono ?_
  rintro e w1 ⟨rfl, rfl⟩
  go_wp2_with fail
  refine (is_same aR w1).mono ?_
  rintro e w2 ⟨rfl, rfl⟩
  go_wp2
  go_ret
  exact ⟨rfl, rfl⟩
set_option maxHeartbeats 2000000 in
theorem code_full (aF aR aU : Addr) (w : World) (hS : Sents aF aR aU w) :
    Calls Tryd.prog 29 #[.iface 97 (.pointer (some aU))] w fun e w' => e = .returned (.int .i64 9) ∧ w' = w := by
  obtain ⟨⟨c1, c2⟩, c3, n1, n2, n3, r1, r2, r3⟩ := hS
  have N2 := hide n2
  have N3 := hide n3
  clear n1 n2 n3
  go_enter Tryd.func29, Tryd.ntmps29
  go_wp2_with fail
  refine (is_other aU aF w (fun e => N2.out e.symm) r3 r1).mono ?_
  rintro e w1 ⟨rfl, rfl⟩
  go_wp2_with fail
  refine (is_other aU aR w1 (fun e => N3.out e.symm) r3 r2).mono ?_
  rintro e w2 ⟨rfl, rfl⟩
  go_wp2_with fail
  refine (is_same aU w2).mono ?_
  rintro e w3 ⟨rfl, rfl⟩
  go_wp2
  go_ret
  exact ⟨rfl, rfl⟩
/-- The address a is one of the three errors, c its code. -/
def CodeIs (aF aR aU a : Addr) (c : Int) : Prop := (a = aF ∧ c = 1) ∨ (a = aR ∧ c = 8) ∨ (a = aU ∧ c = 9)
theorem code_any (aF aR aU a : Addr) (c : Int) (w : World) (hS : Sents aF aR aU w) (h : CodeIs aF aR aU a c) :
    Calls Tryd.prog 29 #[.iface 97 (.pointer (some a))] w fun e w' => e = .returned (.int .i64 c) ∧ w' = w := by
  rcases h with ⟨rfl, rfl⟩ | ⟨rfl, rfl⟩ | ⟨rfl, rfl⟩
  · exact code_form _ _ _ w hS
  · exact code_range _ _ _ w hS
  · exact code_full _ _ _ w hS

/-- What is told of a read. -/
def readFaultOf (vF vR : Value) (xs : List ByteArray) (ps : List (Int × ByteArray)) (a : Int) : Value := if right xs ps then (if 0 ≤ a ∧ a ≤ (xs.length : Int) - 1 then .nilIface else vR) else vF
set_option maxHeartbeats 2000000 in
theorem readFault_any (vs vp : Value) (xs : List ByteArray) (ps : List (Int × ByteArray)) (a : Int) (tF : TypeId) (uF : Value) (tR : TypeId) (uR : Value) (w : World) (hn : xs.length ≤ 1048576) (hn2 : ps.length ≤ 1048576) (hr : Reads w vs xs) (hp : ReadsP w vp ps)
    (hF : w.cell? ⟨1, 0, none⟩ = some (.iface tF uF)) (hR : w.cell? ⟨2, 0, none⟩ = some (.iface tR uR)) :
    Calls Tryd.prog 41 #[.agg #[vs, vp], .int .i64 a] w fun e w' => e = .returned (readFaultOf (.iface tF uF) (.iface tR uR) xs ps a) ∧ Below w.heap.size w w' := by
  have hb0 : Below w.heap.size w (w.alloc (.cells #[vs, vp] 26)) := (Below.refl _ _).alloc (Nat.le_refl _) _
  have HR := hide (hr.below hb0 (Nat.le_refl _))
  have HP := hide (hp.below hb0 (Nat.le_refl _))
  have HCF := hide (cell_old hb0 hF)
  have HCR := hide (cell_old hb0 hR)
  obtain ⟨p1, c1, rfl, hq⟩ := hr
  obtain ⟨p2, c2, rfl, hq2⟩ := hp
  have HB0 := hide hb0
  have HN0 := hide (row_new w [.slice p1 xs.length c1, .slice p2 ps.length c2] 26)
  clear hb0 hq hq2 hF hR
  cases hok : right xs ps with
  | false =>
    have HE := hide (show diskFaultOf (.iface tF uF) xs ps = .iface tF uF by unfold diskFaultOf; rw [hok]; rfl)
    have HF := hide (show readFaultOf (.iface tF uF) (.iface tR uR) xs ps a = .iface tF uF by unfold readFaultOf; rw [hok]; rfl)
    rw [HF.out]
    go_enter Tryd.func41, Tryd.ntmps41
    go_wp2_with fail
    refine (diskFault_any _ _ xs ps tF uF tR uR _ hn hn2 HR.out HP.out HCF.out HCR.out).mono ?_
    rw [HE.out]
    rintro e w1 ⟨rfl, hb1⟩
    have HB1 := hide (HB0.out.trans (hb1.mono HB0.out.size))
    clear hb1
    go_wp2
    go_ret
    exact ⟨rfl, HB1.out⟩
  | true =>
    obtain ⟨l1, l2, l3⟩ := right_len hok
    have HE := hide (show diskFaultOf (.iface tF uF) xs ps = .nilIface by unfold diskFaultOf; rw [hok]; rfl)
    have HF := hide (show readFaultOf (.iface tF uF) (.iface tR uR) xs ps a = pendFault (.iface tF uF) (.iface tR uR) a ⟨#[]⟩ xs.length by unfold readFaultOf pendFault; rw [hok, if_pos rfl]; rfl)
    rw [HF.out]
    go_enter Tryd.func41, Tryd.ntmps41
    go_wp2_with fail
    refine (diskFault_any _ _ xs ps tF uF tR uR _ hn hn2 HR.out HP.out HCF.out HCR.out).mono ?_
    rw [HE.out]
    rintro e w1 ⟨rfl, hb1⟩
    have HB1 := hide (HB0.out.trans (hb1.mono HB0.out.size))
    have a0 : w1.cell? ⟨w.heap.size, 0, none⟩ = some (.slice p1 xs.length c1) := (Row.after hb1 HN0.out).cell 0
    have HCF1 := hide (cell_old hb1 HCF.out)
    have HCR1 := hide (cell_old hb1 HCR.out)
    clear hb1
    go_wp2_with fail
    refine (pendingFault_any a ⟨#[]⟩ xs.length _ _ _ (Nat.zero_le _) l1 l2 HCF1.out HCR1.out).mono ?_
    rintro e w2 ⟨rfl, hb2⟩
    have HB2 := hide (HB1.out.trans (hb2.mono HB1.out.size))
    clear hb2 a0
    go_wp2
    go_ret
    exact ⟨rfl, HB2.out⟩

/-- What is told of a write. -/
def writeFaultOf (vF vR vU : Value) (xs : List ByteArray) (ps : List (Int × ByteArray)) (a : Int) (d : ByteArray) : Value :=
  if right xs ps then (if d.size ≤ 64 then (if 0 ≤ a ∧ a ≤ (xs.length : Int) - 1 then (if ps.length = 200 then vU else .nilIface) else vR) else vF) else vF
set_option maxHeartbeats 4000000 in
theorem writeFault_any (vs vp : Value) (xs : List ByteArray) (ps : List (Int × ByteArray)) (a : Int) (d : ByteArray) (tF : TypeId) (uF : Value) (tR : TypeId) (uR : Value) (tU : TypeId) (uU : Value) (w : World) (hn : xs.length ≤ 1048576) (hn2 : ps.length ≤ 1048576) (hd : d.size ≤ maxLen) (hr : Reads w vs xs) (hp : ReadsP w vp ps)
    (hF : w.cell? ⟨1, 0, none⟩ = some (.iface tF uF)) (hR : w.cell? ⟨2, 0, none⟩ = some (.iface tR uR)) (hU : w.cell? ⟨0, 0, none⟩ = some (.iface tU uU)) :
    Calls Tryd.prog 28 #[.agg #[vs, vp], .agg #[.int .i64 a, .string d]] w fun e w' => e = .returned (writeFaultOf (.iface tF uF) (.iface tR uR) (.iface tU uU) xs ps a d) ∧ Below w.heap.size w w' := by
  have hb0 : Below w.heap.size w ((w.alloc (.cells #[vs, vp] 26)).alloc (.cells #[.int .i64 a, .string d] 46)) := ((Below.refl _ _).alloc (Nat.le_refl _) _).alloc (by simp) _
  have HR := hide (hr.below hb0 (Nat.le_refl _))
  have HP := hide (hp.below hb0 (Nat.le_refl _))
  have HCF := hide (cell_old hb0 hF)
  have HCR := hide (cell_old hb0 hR)
  have HCU := hide (cell_old hb0 hU)
  have HD := hide hd
  obtain ⟨p1, c1, rfl, hq⟩ := hr
  obtain ⟨p2, c2, rfl, hq2⟩ := hp
  have HB0 := hide hb0
  have HN0 := hide ((row_new w [.slice p1 xs.length c1, .slice p2 ps.length c2] 26).alloc (.cells #[.int .i64 a, .string d] 46))
  have R1 := row_new (w.alloc (.cells #[.slice p1 xs.length c1, .slice p2 ps.length c2] 26)) [.int .i64 a, .string d] 46
  simp only [World.size_alloc] at R1
  have HN1 := hide R1
  clear hb0 hq hq2 hF hR hU R1 hd
  cases hok : right xs ps with
  | false =>
    have HE := hide (show diskFaultOf (.iface tF uF) xs ps = .iface tF uF by unfold diskFaultOf; rw [hok]; rfl)
    have HF := hide (show writeFaultOf (.iface tF uF) (.iface tR uR) (.iface tU uU) xs ps a d = .iface tF uF by unfold writeFaultOf; rw [hok]; rfl)
    rw [HF.out]
    go_enter Tryd.func28, Tryd.ntmps28
    go_wp2_with fail
    refine (diskFault_any _ _ xs ps tF uF tR uR _ hn hn2 HR.out HP.out HCF.out HCR.out).mono ?_
    rw [HE.out]
    rintro e w1 ⟨rfl, hb1⟩
    have HB1 := hide (HB0.out.trans (hb1.mono HB0.out.size))
    clear hb1
    go_wp2
    go_ret
    exact ⟨rfl, HB1.out⟩
  | true =>
    obtain ⟨l1, l2, l3⟩ := right_len hok
    have HE := hide (show diskFaultOf (.iface tF uF) xs ps = .nilIface by unfold diskFaultOf; rw [hok]; rfl)
    have HF := hide (show writeFaultOf (.iface tF uF) (.iface tR uR) (.iface tU uU) xs ps a d = if d.size ≤ 64 then (if 0 ≤ a ∧ a ≤ (xs.length : Int) - 1 then (if ps.length = 200 then .iface tU uU else .nilIface) else .iface tR uR) else .iface tF uF by unfold writeFaultOf; rw [hok, if_pos rfl])
    have HG := hide (show pendFault (.iface tF uF) (.iface tR uR) a d xs.length = if d.size ≤ 64 then (if 0 ≤ a ∧ a ≤ (xs.length : Int) - 1 then .nilIface else .iface tR uR) else .iface tF uF from rfl)
    rw [HF.out]
    go_enter Tryd.func28, Tryd.ntmps28
    go_wp2_with fail
    refine (diskFault_any _ _ xs ps tF uF tR uR _ hn hn2 HR.out HP.out HCF.out HCR.out).mono ?_
    rw [HE.out]
    rintro e w1 ⟨rfl, hb1⟩
    have HB1 := hide (HB0.out.trans (hb1.mono HB0.out.size))
    have HM1 := hide (Row.after hb1 HN0.out)
    have a0 : w1.cell? ⟨w.heap.size, 0, none⟩ = some (.slice p1 xs.length c1) := HM1.out.cell 0
    have b0 : w1.cell? ⟨w.heap.size + 1, 0, none⟩ = some (.int .i64 a) := (Row.after hb1 HN1.out).cell 0
    have b1 : w1.cell? ⟨w.heap.size + 1, 1, none⟩ = some (.string d) := (Row.after hb1 HN1.out).cell 1
    have HCF1 := hide (cell_old hb1 HCF.out)
    have HCR1 := hide (cell_old hb1 HCR.out)
    have HCU1 := hide (cell_old hb1 HCU.out)
    clear hb1
    go_wp2_with fail
    refine (pendingFault_any a d xs.length _ _ _ HD.out l1 l2 HCF1.out HCR1.out).mono ?_
    rw [HG.out]
    rintro e w2 ⟨rfl, hb2⟩
    have HB2 := hide (HB1.out.trans (hb2.mono HB1.out.size))
    have a1 : w2.cell? ⟨w.heap.size, 1, none⟩ = some (.slice p2 ps.length c2) := (Row.after hb2 HM1.out).cell 1
    have cU : w2.cell? ⟨0, 0, none⟩ = some (.iface tU uU) := cell_old hb2 HCU1.out
    clear hb2 a0 b0 b1 HF HG HE hok
    by_cases hz : d.size ≤ 64
    · by_cases hin : 0 ≤ a ∧ a ≤ (xs.length : Int) - 1
      · rw [if_pos hz, if_pos hin]
        have HZ := hide hz
        have HI := hide hin
        clear hz hin
        by_cases h2 : ps.length = 200
        · have HT := hide h2
          have t2 : (ps.length : Int) = 200 := by omega
          clear h2
          go_wp2
          go_ret
          exact ⟨rfl, HB2.out⟩
        · have HT := hide h2
          have t2 : ¬ ((ps.length : Int) = 200) := by omega
          clear h2
          go_wp2
          go_ret
          exact ⟨rfl, HB2.out⟩
      · rw [if_pos hz, if_neg hin]
        have HZ := hide hz
        have HI := hide hin
        clear hz hin
        go_wp2
        go_ret
        exact ⟨rfl, HB2.out⟩
    · rw [if_neg hz]
      have HZ := hide hz
      clear hz
      go_wp2
      go_ret
      exact ⟨rfl, HB2.out⟩
end Go.Proofs.YtdnbfnahhkmmnaaDoor
