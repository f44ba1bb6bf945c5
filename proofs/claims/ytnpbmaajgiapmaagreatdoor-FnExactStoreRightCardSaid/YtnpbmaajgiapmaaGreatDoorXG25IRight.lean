/- DiskRight, as the program does it. -/
import Derived.Test.YtnpbmaajgiapmaaGreatDoorXG23Open
import Derived.Test.YtnpbmaajgiapmaaGreatDoorXG24Sents
import Derived.Test.YtnpbmaajgiapmaaGreatDoorXG19Apply
import Derived.Recover
import Derived.WalkLawsBesides
import Derived.Orders
namespace Go.Proofs.YtnpbmaajgiapmaaGreatDoor
open Go.RowKit

end Go.Proofs.YtnpbmaajgiapmaaGreatDoor
/- What the program's area panics with, and what recovers it. -/
namespace Go.Proofs.YtnpbmaajgiapmaaGreatDoor
open Go.RowKit

/-- The panic with a code. -/
abbrev fault (c : Int) : List PanicEntry := [{ v := .iface 138 (.agg #[.int .i64 c]), recovered := false }]

theorem refuse_no (c : Int) (w : World) :
    Calls Tryz.prog 79 #[.bool false, .int .i64 c] w fun e w' => e = .returned (.tuple #[]) ∧ w' = w := by
  go_enter Tryz.func79, Tryz.ntmps79
  go_wp2
  go_end0
  exact ⟨rfl, rfl⟩
theorem refuse_yes (c : Int) (w : World) :
    Calls Tryz.prog 79 #[.bool true, .int .i64 c] w fun e w' => e = .panicked (fault c) ∧ w' = w := by
  go_enter Tryz.func79, Tryz.ntmps79
  go_wp2
  exact ⟨rfl, rfl, rfl⟩
theorem refuseCode_no (w : World) :
    Calls Tryz.prog 99 #[.int .i64 0] w fun e w' => e = .returned (.tuple #[]) ∧ w' = w := by
  go_enter Tryz.func99, Tryz.ntmps99
  go_wp2_with fail
  refine (refuse_no _ _).mono ?_
  rintro e w1 ⟨rfl, rfl⟩
  go_wp2
  go_end0
  exact ⟨rfl, rfl⟩
theorem refuseCode_yes (c : Int) (w : World) (hc : c ≠ 0) :
    Calls Tryz.prog 99 #[.int .i64 c] w fun e w' => e = .panicked (fault c) ∧ w' = w := by
  have hc' : (c != 0) = true := by simpa using hc
  go_enter Tryz.func99, Tryz.ntmps99
  go_wp2_with fail
  refine (refuse_yes _ _).mono ?_
  rintro e w1 ⟨rfl, rfl⟩
  go_wp2
  exact ⟨rfl, rfl, rfl⟩

theorem Tryz.nilNot (T : TypeId) (v : Value) (w : World) : (binOp .eql 56 .nilIface (.iface T v)).run Tryz.prog w = .ok (.bool false) w := by kernel_rfl
set_option maxRecDepth 100000 in
theorem is_nil (a : Addr) (w : World) :
    Calls Tryz.prog 125 #[.nilIface, .iface 245 (.pointer (some a))] w fun e w' => e = .returned (.bool false) ∧ w' = w := by
  have hn := Tryz.nilNot
  go_enter Tryz.func125, Tryz.ntmps125
  go_wp2
  go_ret
  exact ⟨rfl, rfl⟩
set_option maxHeartbeats 2000000 in
theorem code_nil (aF aR aU : Addr) (w : World) (hS : Sents aF aR aU w) :
    Calls Tryz.prog 100 #[.nilIface] w fun e w' => e = .returned (.int .i64 0) ∧ w' = w := by
  obtain ⟨⟨c1, c2⟩, c3, n1, n2, n3, r1, r2, r3⟩ := hS
  clear n1 n2 n3 r1 r2 r3
  go_enter Tryz.func100, Tryz.ntmps100
  go_wp2_with fail
  refine (is_nil _ _).mono ?_
  rintro e w1 ⟨rfl, rfl⟩
  go_wp2_with fail
  refine (is_nil _ _).mono ?_
  rintro e w2 ⟨rfl, rfl⟩
  go_wp2_with fail
  refine (is_nil _ _).mono ?_
  rintro e w3 ⟨rfl, rfl⟩
  go_wp2
  go_ret
  exact ⟨rfl, rfl⟩

set_option maxHeartbeats 2000000 in
theorem refuseDisk_any (vs vp : Value) (xs : List ByteArray) (ps : List (Int × ByteArray)) (aF aR aU : Addr) (w : World) (hn : xs.length ≤ 1048576) (hn2 : ps.length ≤ 1048576) (hr : Reads w vs xs) (hp : ReadsP w vp ps) (hS : Sents aF aR aU w) :
    Calls Tryz.prog 78 #[.agg #[vs, vp]] w fun e w' => (if right xs ps = true then e = .returned (.tuple #[]) else e = .panicked (fault 1)) ∧ Below w.heap.size w w' := by
  have hb0 : Below w.heap.size w (w.alloc (.cells #[vs, vp] 30)) := (Below.refl _ _).alloc (Nat.le_refl _) _
  have HR := hide (hr.below hb0 (Nat.le_refl _))
  have HP := hide (hp.below hb0 (Nat.le_refl _))
  have HS := hide (Stab.go hb0 hS)
  have HB0 := hide hb0
  obtain ⟨p1, c1, rfl, hq⟩ := hr
  obtain ⟨p2, c2, rfl, hq2⟩ := hp
  clear hb0 hq hq2 hS
  cases hok : right xs ps with
  | true =>
    have HE := hide (show diskFaultOf (.iface 245 (.pointer (some aF))) xs ps = .nilIface by unfold diskFaultOf; rw [hok]; rfl)
    go_enter Tryz.func78, Tryz.ntmps78
    go_wp2_with fail
    refine (diskFault_any _ _ xs ps _ _ _ _ _ hn hn2 HR.out HP.out HS.out.1.1 HS.out.1.2).mono ?_
    rw [HE.out]
    rintro e w1 ⟨rfl, hb1⟩
    have HB1 := hide (HB0.out.trans (hb1.mono HB0.out.size))
    have HS1 := hide (Stab.go hb1 HS.out)
    clear hb1
    go_wp2_with fail
    refine (code_nil aF aR aU _ HS1.out).mono ?_
    rintro e w2 ⟨rfl, rfl⟩
    go_wp2_with fail
    refine (refuseCode_no _).mono ?_
    rintro e w3 ⟨rfl, rfl⟩
    go_wp2
    go_end0
    exact ⟨by simp, HB1.out⟩
  | false =>
    have HE := hide (show diskFaultOf (.iface 245 (.pointer (some aF))) xs ps = .iface 245 (.pointer (some aF)) by unfold diskFaultOf; rw [hok]; rfl)
    go_enter Tryz.func78, Tryz.ntmps78
    go_wp2_with fail
    refine (diskFault_any _ _ xs ps _ _ _ _ _ hn hn2 HR.out HP.out HS.out.1.1 HS.out.1.2).mono ?_
    rw [HE.out]
    rintro e w1 ⟨rfl, hb1⟩
    have HB1 := hide (HB0.out.trans (hb1.mono HB0.out.size))
    have HS1 := hide (Stab.go hb1 HS.out)
    clear hb1
    go_wp2_with fail
    refine (code_form aF aR aU _ HS1.out).mono ?_
    rintro e w2 ⟨rfl, rfl⟩
    go_wp2_with fail
    refine (refuseCode_yes 1 _ (by omega)).mono ?_
    rintro e w3 ⟨rfl, rfl⟩
    go_wp2
    exact ⟨rfl, by simp, HB1.out⟩

set_option maxHeartbeats 2000000 in
theorem recovered_nil (a b : Value) (t : ByteArray) (g c : Int) (w : World) (h1 : ∃ p n k, a = .slice p n k) (h2 : ∃ p n k, b = .slice p n k) :
    Calls Tryz.prog 77 #[.agg #[a, b, .string t, .int .i64 g, .int .i64 c], .nilIface] w fun e w' => e = .returned (.agg #[a, b, .string t, .int .i64 g, .int .i64 c]) ∧ Below w.heap.size w w' := by
  obtain ⟨p1, n1, k1, rfl⟩ := h1
  obtain ⟨p2, n2, k2, rfl⟩ := h2
  go_enter Tryz.func77, Tryz.ntmps77
  go_wp2
  exact bodyPost_ret (v := .agg #[.slice p1 n1 k1, .slice p2 n2 k2, .string t, .int .i64 g, .int .i64 c]) (by simp [results, Tryz.results77, go_sem]) rfl ⟨rfl, ((Below.refl _ _).alloc (Nat.le_refl _) _).alloc (by simp) _⟩
theorem Tryz.faultOf (v : Value) (xT : TypeId) (w : World) : (Instr.typeAssert (.iface 138 v) xT 138 false).run Tryz.prog w = .ok v w := by kernel_rfl
theorem Tryz.faultCode (v : Value) (w : World) : (Instr.field 138 (.agg #[v]) 0).run Tryz.prog w = .ok v w := by kernel_rfl
set_option maxRecDepth 100000 in
set_option maxHeartbeats 2000000 in
theorem recovered_fault (a b : Value) (t : ByteArray) (g c n : Int) (w : World) (h1 : ∃ p n k, a = .slice p n k) (h2 : ∃ p n k, b = .slice p n k) :
    Calls Tryz.prog 77 #[.agg #[a, b, .string t, .int .i64 g, .int .i64 c], .iface 138 (.agg #[.int .i64 n])] w fun e w' => e = .returned (.agg #[.slice none 0 0, .slice none 0 0, .string ⟨#[]⟩, .int .i64 0, .int .i64 n]) ∧ Below w.heap.size w w' := by
  obtain ⟨p1, n1, k1, rfl⟩ := h1
  obtain ⟨p2, n2, k2, rfl⟩ := h2
  have hf := Tryz.faultOf
  have hg := Tryz.faultCode
  go_enter Tryz.func77, Tryz.ntmps77
  go_wp2
  exact bodyPost_ret (v := .agg #[.slice none 0 0, .slice none 0 0, .string ⟨#[]⟩, .int .i64 0, .int .i64 n]) (by simp [results, Tryz.results77, go_sem]) rfl ⟨rfl, ((Below.refl _ _).alloc (Nat.le_refl _) _).alloc (by simp) _⟩
end Go.Proofs.YtnpbmaajgiapmaaGreatDoor
/- The deferred closures of the area's functions: what recovers a panic. -/
namespace Go.Proofs.YtnpbmaajgiapmaaGreatDoor
open Go.RowKit

theorem wpS_region_draw {P : Program} {Q : Exit → Act → List Frame → World → Prop} {a : Act} {cs : List Frame} {w : World} {id : Nat} {ops : Array Oper}
    (h : ∀ t, wpOpsS P ops Q (Region.schedule (P.follows .mixedOrders) ops t) a cs { w with drawn := w.drawn + 1 }) : (Code.region id ops true).wpS P Q a cs w :=
  fun b k hb hr => let ⟨e, a', cs', w', q, r⟩ := wp_opsS _ a cs _ (h _) b k hb hr; ⟨e, a', cs', w', q, .of_steps (.one step_region_draw) r⟩

theorem lin_step {md : Region.Mode} {ops : Array Oper} {fuel t : Nat} {listed : Array Bool} {acc rs : List Nat} (h : Region.ready md ops listed = rs) :
    Region.linearise.go md ops (fuel + 1) t listed acc = match rs[t % rs.length]? with | some i => Region.linearise.go md ops fuel (t / rs.length) (listed.setIfInBounds i true) (i :: acc) | none => acc.reverse := by
  subst h
  rw [Region.linearise.go]
  rfl
theorem lin_one {md : Region.Mode} {ops : Array Oper} {fuel t i : Nat} {listed : Array Bool} {acc : List Nat} (h : Region.ready md ops listed = [i]) :
    Region.linearise.go md ops (fuel + 1) t listed acc = Region.linearise.go md ops fuel t (listed.setIfInBounds i true) (i :: acc) := by
  rw [lin_step h]
  simp [Nat.mod_one]
/-- Four operations, the first two in either order. -/
theorem sched4 {ops : Array Oper} (hs : ops.size = 4) (h0 : Region.ready .any ops #[false, false, false, false] = [0, 1]) (h1 : Region.ready .any ops #[true, false, false, false] = [1]) (h2 : Region.ready .any ops #[false, true, false, false] = [0])
    (h3 : Region.ready .any ops #[true, true, false, false] = [2]) (h4 : Region.ready .any ops #[true, true, true, false] = [3]) (t : Nat) :
    Region.schedule true ops t = [0, 1, 2, 3] ∨ Region.schedule true ops t = [1, 0, 2, 3] := by
  unfold Region.schedule
  simp only [Bool.true_or, if_true]
  unfold Region.linearise
  rw [hs, show Array.replicate 4 false = #[false, false, false, false] from rfl, lin_step h0]
  rcases Nat.mod_two_eq_zero_or_one t with h | h
  · left
    simp only [List.length_cons, List.length_nil, Nat.zero_add, Nat.reduceAdd, h]
    show Region.linearise.go .any ops 3 (t / 2) #[true, false, false, false] [0] = _
    rw [lin_one h1]
    show Region.linearise.go .any ops 2 (t / 2) #[true, true, false, false] [1, 0] = _
    rw [lin_one h3]
    show Region.linearise.go .any ops 1 (t / 2) #[true, true, true, false] [2, 1, 0] = _
    rw [lin_one h4]
    rfl
  · right
    simp only [List.length_cons, List.length_nil, Nat.zero_add, Nat.reduceAdd, h]
    show Region.linearise.go .any ops 3 (t / 2) #[false, true, false, false] [1] = _
    rw [lin_one h2]
    show Region.linearise.go .any ops 2 (t / 2) #[true, true, false, false] [0, 1] = _
    rw [lin_one h3]
    show Region.linearise.go .any ops 1 (t / 2) #[true, true, true, false] [2, 0, 1] = _
    rw [lin_one h4]
    rfl

set_option maxRecDepth 100000 in
set_option maxHeartbeats 4000000 in
theorem formatCatch_panic (b : Nat) (p1 p2 : Option Addr) (n1 k1' n2 k2 : Nat) (t : ByteArray) (g c0 c : Int) (older : List PanicEntry) (w : World) (hr : Row w b 63 [.slice p1 n1 k1', .slice p2 n2 k2, .string t, .int .i64 g, .int .i64 c0]) :
    CallsD Tryz.prog 76 #[.pointer (some ⟨b, 0, none⟩)] (.panicking ({ v := .iface 138 (.agg #[.int .i64 c]), recovered := false } :: older)) w fun e u' w' =>
      e = .returned (.tuple #[]) ∧ u' = .panicking ({ v := .iface 138 (.agg #[.int .i64 c]), recovered := true } :: older) ∧ Row w' b 63 [.slice none 0 0, .slice none 0 0, .string ⟨#[]⟩, .int .i64 0, .int .i64 c] ∧ Kept [b] w w' := by
  have a0 : w.cell? ⟨b, 0, none⟩ = some (.slice p1 n1 k1') := hr.cell 0
  have a1 : w.cell? ⟨b, 1, none⟩ = some (.slice p2 n2 k2) := hr.cell 1
  have a2 : w.cell? ⟨b, 2, none⟩ = some (.string t) := hr.cell 2
  have a3 : w.cell? ⟨b, 3, none⟩ = some (.int .i64 g) := hr.cell 3
  have a4 : w.cell? ⟨b, 4, none⟩ = some (.int .i64 c0) := hr.cell 4
  refine callsD_of_wpS Tryz.func76 rfl fun c₀ cs hu => ?_
  apply wpS_region_draw
  intro tt
  rw [show Tryz.prog.follows .mixedOrders = true by kernel_rfl]
  rcases sched4 (by kernel_rfl) (by kernel_rfl) (by kernel_rfl) (by kernel_rfl) (by kernel_rfl) (by kernel_rfl) tt with h | h
  all_goals
    rw [h]
    clear h
    simp [wpOpsS, go_sem, recoverD, hu, Tryz.ntmps76, a0, a1, a2, a3, a4]
    refine (recovered_fault _ _ t g c0 c _ ⟨_, _, _, rfl⟩ ⟨_, _, _, rfl⟩).mono ?_
    rintro e w1 ⟨rfl, hb1⟩
    have r1 := Row.after (below_drew hb1) hr
    have k1 := (Kept.ofBelow (below_drew hb1)).mono (S' := [b]) (by simp)
    have b0 : w1.cell? ⟨b, 0, none⟩ = some (.slice p1 n1 k1') := r1.cell 0
    have b1 : w1.cell? ⟨b, 1, none⟩ = some (.slice p2 n2 k2) := r1.cell 1
    have b2 : w1.cell? ⟨b, 2, none⟩ = some (.string t) := r1.cell 2
    have b3 : w1.cell? ⟨b, 3, none⟩ = some (.int .i64 g) := r1.cell 3
    have b4 : w1.cell? ⟨b, 4, none⟩ = some (.int .i64 c0) := r1.cell 4
    have f0 := r1.free 0
    have f1 := r1.free 1
    have f2 := r1.free 2
    have f3 := r1.free 3
    have f4 := r1.free 4
    simp [go_sem, storeCells, b0, b1, b2, b3, b4, f0, f1, f2, f3, f4, bodyPostS, results, Tryz.results76]
    exact ⟨((((r1.set (j := 0) _).set (j := 1) _).set (j := 2) _).set (j := 3) _).set (j := 4) _, ((((k1.set (by simp) _).set (by simp) _).set (by simp) _).set (by simp) _).set (by simp) _⟩
set_option maxRecDepth 100000 in
set_option maxHeartbeats 4000000 in
theorem formatCatch_idle (b : Nat) (p1 p2 : Option Addr) (n1 k1' n2 k2 : Nat) (t : ByteArray) (g c0 : Int) (w : World) (hr : Row w b 63 [.slice p1 n1 k1', .slice p2 n2 k2, .string t, .int .i64 g, .int .i64 c0]) :
    CallsD Tryz.prog 76 #[.pointer (some ⟨b, 0, none⟩)] .returning w fun e u' w' =>
      e = .returned (.tuple #[]) ∧ u' = .returning ∧ Row w' b 63 [.slice p1 n1 k1', .slice p2 n2 k2, .string t, .int .i64 g, .int .i64 c0] ∧ Kept [b] w w' := by
  have a0 : w.cell? ⟨b, 0, none⟩ = some (.slice p1 n1 k1') := hr.cell 0
  have a1 : w.cell? ⟨b, 1, none⟩ = some (.slice p2 n2 k2) := hr.cell 1
  have a2 : w.cell? ⟨b, 2, none⟩ = some (.string t) := hr.cell 2
  have a3 : w.cell? ⟨b, 3, none⟩ = some (.int .i64 g) := hr.cell 3
  have a4 : w.cell? ⟨b, 4, none⟩ = some (.int .i64 c0) := hr.cell 4
  refine callsD_of_wpS Tryz.func76 rfl fun c₀ cs hu => ?_
  apply wpS_region_draw
  intro tt
  rw [show Tryz.prog.follows .mixedOrders = true by kernel_rfl]
  rcases sched4 (by kernel_rfl) (by kernel_rfl) (by kernel_rfl) (by kernel_rfl) (by kernel_rfl) (by kernel_rfl) tt with h | h
  all_goals
    rw [h]
    clear h
    simp [wpOpsS, go_sem, recoverD, hu, Tryz.ntmps76, a0, a1, a2, a3, a4]
    refine (recovered_nil _ _ t g c0 _ ⟨_, _, _, rfl⟩ ⟨_, _, _, rfl⟩).mono ?_
    rintro e w1 ⟨rfl, hb1⟩
    have r1 := Row.after (below_drew hb1) hr
    have k1 := (Kept.ofBelow (below_drew hb1)).mono (S' := [b]) (by simp)
    have b0 : w1.cell? ⟨b, 0, none⟩ = some (.slice p1 n1 k1') := r1.cell 0
    have b1 : w1.cell? ⟨b, 1, none⟩ = some (.slice p2 n2 k2) := r1.cell 1
    have b2 : w1.cell? ⟨b, 2, none⟩ = some (.string t) := r1.cell 2
    have b3 : w1.cell? ⟨b, 3, none⟩ = some (.int .i64 g) := r1.cell 3
    have b4 : w1.cell? ⟨b, 4, none⟩ = some (.int .i64 c0) := r1.cell 4
    have f0 := r1.free 0
    have f1 := r1.free 1
    have f2 := r1.free 2
    have f3 := r1.free 3
    have f4 := r1.free 4
    simp [go_sem, storeCells, b0, b1, b2, b3, b4, f0, f1, f2, f3, f4, bodyPostS, results, Tryz.results76]
    exact ⟨.returning, by rw [← hu], rfl, ((((r1.set (j := 0) _).set (j := 1) _).set (j := 2) _).set (j := 3) _).set (j := 4) _, ((((k1.set (by simp) _).set (by simp) _).set (by simp) _).set (by simp) _).set (by simp) _⟩
set_option maxRecDepth 100000 in
set_option maxHeartbeats 4000000 in
theorem readCatch_panic (b : Nat) (p1 p2 : Option Addr) (n1 k1' n2 k2 : Nat) (t : ByteArray) (g c0 c : Int) (older : List PanicEntry) (w : World) (hr : Row w b 63 [.slice p1 n1 k1', .slice p2 n2 k2, .string t, .int .i64 g, .int .i64 c0]) :
    CallsD Tryz.prog 93 #[.pointer (some ⟨b, 0, none⟩)] (.panicking ({ v := .iface 138 (.agg #[.int .i64 c]), recovered := false } :: older)) w fun e u' w' =>
      e = .returned (.tuple #[]) ∧ u' = .panicking ({ v := .iface 138 (.agg #[.int .i64 c]), recovered := true } :: older) ∧ Row w' b 63 [.slice none 0 0, .slice none 0 0, .string ⟨#[]⟩, .int .i64 0, .int .i64 c] ∧ Kept [b] w w' := by
  have a0 : w.cell? ⟨b, 0, none⟩ = some (.slice p1 n1 k1') := hr.cell 0
  have a1 : w.cell? ⟨b, 1, none⟩ = some (.slice p2 n2 k2) := hr.cell 1
  have a2 : w.cell? ⟨b, 2, none⟩ = some (.string t) := hr.cell 2
  have a3 : w.cell? ⟨b, 3, none⟩ = some (.int .i64 g) := hr.cell 3
  have a4 : w.cell? ⟨b, 4, none⟩ = some (.int .i64 c0) := hr.cell 4
  refine callsD_of_wpS Tryz.func93 rfl fun c₀ cs hu => ?_
  apply wpS_region_draw
  intro tt
  rw [show Tryz.prog.follows .mixedOrders = true by kernel_rfl]
  rcases sched4 (by kernel_rfl) (by kernel_rfl) (by kernel_rfl) (by kernel_rfl) (by kernel_rfl) (by kernel_rfl) tt with h | h
  all_goals
    rw [h]
    clear h
    simp [wpOpsS, go_sem, recoverD, hu, Tryz.ntmps93, a0, a1, a2, a3, a4]
    refine (recovered_fault _ _ t g c0 c _ ⟨_, _, _, rfl⟩ ⟨_, _, _, rfl⟩).mono ?_
    rintro e w1 ⟨rfl, hb1⟩
    have r1 := Row.after (below_drew hb1) hr
    have k1 := (Kept.ofBelow (below_drew hb1)).mono (S' := [b]) (by simp)
    have b0 : w1.cell? ⟨b, 0, none⟩ = some (.slice p1 n1 k1') := r1.cell 0
    have b1 : w1.cell? ⟨b, 1, none⟩ = some (.slice p2 n2 k2) := r1.cell 1
    have b2 : w1.cell? ⟨b, 2, none⟩ = some (.string t) := r1.cell 2
    have b3 : w1.cell? ⟨b, 3, none⟩ = some (.int .i64 g) := r1.cell 3
    have b4 : w1.cell? ⟨b, 4, none⟩ = some (.int .i64 c0) := r1.cell 4
    have f0 := r1.free 0
    have f1 := r1.free 1
    have f2 := r1.free 2
    have f3 := r1.free 3
    have f4 := r1.free 4
    simp [go_sem, storeCells, b0, b1, b2, b3, b4, f0, f1, f2, f3, f4, bodyPostS, results, Tryz.results93]
    exact ⟨((((r1.set (j := 0) _).set (j := 1) _).set (j := 2) _).set (j := 3) _).set (j := 4) _, ((((k1.set (by simp) _).set (by simp) _).set (by simp) _).set (by simp) _).set (by simp) _⟩
set_option maxRecDepth 100000 in
set_option maxHeartbeats 4000000 in
theorem readCatch_idle (b : Nat) (p1 p2 : Option Addr) (n1 k1' n2 k2 : Nat) (t : ByteArray) (g c0 : Int) (w : World) (hr : Row w b 63 [.slice p1 n1 k1', .slice p2 n2 k2, .string t, .int .i64 g, .int .i64 c0]) :
    CallsD Tryz.prog 93 #[.pointer (some ⟨b, 0, none⟩)] .returning w fun e u' w' =>
      e = .returned (.tuple #[]) ∧ u' = .returning ∧ Row w' b 63 [.slice p1 n1 k1', .slice p2 n2 k2, .string t, .int .i64 g, .int .i64 c0] ∧ Kept [b] w w' := by
  have a0 : w.cell? ⟨b, 0, none⟩ = some (.slice p1 n1 k1') := hr.cell 0
  have a1 : w.cell? ⟨b, 1, none⟩ = some (.slice p2 n2 k2) := hr.cell 1
  have a2 : w.cell? ⟨b, 2, none⟩ = some (.string t) := hr.cell 2
  have a3 : w.cell? ⟨b, 3, none⟩ = some (.int .i64 g) := hr.cell 3
  have a4 : w.cell? ⟨b, 4, none⟩ = some (.int .i64 c0) := hr.cell 4
  refine callsD_of_wpS Tryz.func93 rfl fun c₀ cs hu => ?_
  apply wpS_region_draw
  intro tt
  rw [show Tryz.prog.follows .mixedOrders = true by kernel_rfl]
  rcases sched4 (by kernel_rfl) (by kernel_rfl) (by kernel_rfl) (by kernel_rfl) (by kernel_rfl) (by kernel_rfl) tt with h | h
  all_goals
    rw [h]
    clear h
    simp [wpOpsS, go_sem, recoverD, hu, Tryz.ntmps93, a0, a1, a2, a3, a4]
    refine (recovered_nil _ _ t g c0 _ ⟨_, _, _, rfl⟩ ⟨_, _, _, rfl⟩).mono ?_
    rintro e w1 ⟨rfl, hb1⟩
    have r1 := Row.after (below_drew hb1) hr
    have k1 := (Kept.ofBelow (below_drew hb1)).mono (S' := [b]) (by simp)
    have b0 : w1.cell? ⟨b, 0, none⟩ = some (.slice p1 n1 k1') := r1.cell 0
    have b1 : w1.cell? ⟨b, 1, none⟩ = some (.slice p2 n2 k2) := r1.cell 1
    have b2 : w1.cell? ⟨b, 2, none⟩ = some (.string t) := r1.cell 2
    have b3 : w1.cell? ⟨b, 3, none⟩ = some (.int .i64 g) := r1.cell 3
    have b4 : w1.cell? ⟨b, 4, none⟩ = some (.int .i64 c0) := r1.cell 4
    have f0 := r1.free 0
    have f1 := r1.free 1
    have f2 := r1.free 2
    have f3 := r1.free 3
    have f4 := r1.free 4
    simp [go_sem, storeCells, b0, b1, b2, b3, b4, f0, f1, f2, f3, f4, bodyPostS, results, Tryz.results93]
    exact ⟨.returning, by rw [← hu], rfl, ((((r1.set (j := 0) _).set (j := 1) _).set (j := 2) _).set (j := 3) _).set (j := 4) _, ((((k1.set (by simp) _).set (by simp) _).set (by simp) _).set (by simp) _).set (by simp) _⟩
set_option maxRecDepth 100000 in
set_option maxHeartbeats 4000000 in
theorem putCatch_panic (b : Nat) (p1 p2 : Option Addr) (n1 k1' n2 k2 : Nat) (t : ByteArray) (g c0 c : Int) (older : List PanicEntry) (w : World) (hr : Row w b 63 [.slice p1 n1 k1', .slice p2 n2 k2, .string t, .int .i64 g, .int .i64 c0]) :
    CallsD Tryz.prog 105 #[.pointer (some ⟨b, 0, none⟩)] (.panicking ({ v := .iface 138 (.agg #[.int .i64 c]), recovered := false } :: older)) w fun e u' w' =>
      e = .returned (.tuple #[]) ∧ u' = .panicking ({ v := .iface 138 (.agg #[.int .i64 c]), recovered := true } :: older) ∧ Row w' b 63 [.slice none 0 0, .slice none 0 0, .string ⟨#[]⟩, .int .i64 0, .int .i64 c] ∧ Kept [b] w w' := by
  have a0 : w.cell? ⟨b, 0, none⟩ = some (.slice p1 n1 k1') := hr.cell 0
  have a1 : w.cell? ⟨b, 1, none⟩ = some (.slice p2 n2 k2) := hr.cell 1
  have a2 : w.cell? ⟨b, 2, none⟩ = some (.string t) := hr.cell 2
  have a3 : w.cell? ⟨b, 3, none⟩ = some (.int .i64 g) := hr.cell 3
  have a4 : w.cell? ⟨b, 4, none⟩ = some (.int .i64 c0) := hr.cell 4
  refine callsD_of_wpS Tryz.func105 rfl fun c₀ cs hu => ?_
  apply wpS_region_draw
  intro tt
  rw [show Tryz.prog.follows .mixedOrders = true by kernel_rfl]
  rcases sched4 (by kernel_rfl) (by kernel_rfl) (by kernel_rfl) (by kernel_rfl) (by kernel_rfl) (by kernel_rfl) tt with h | h
  all_goals
    rw [h]
    clear h
    simp [wpOpsS, go_sem, recoverD, hu, Tryz.ntmps105, a0, a1, a2, a3, a4]
    refine (recovered_fault _ _ t g c0 c _ ⟨_, _, _, rfl⟩ ⟨_, _, _, rfl⟩).mono ?_
    rintro e w1 ⟨rfl, hb1⟩
    have r1 := Row.after (below_drew hb1) hr
    have k1 := (Kept.ofBelow (below_drew hb1)).mono (S' := [b]) (by simp)
    have b0 : w1.cell? ⟨b, 0, none⟩ = some (.slice p1 n1 k1') := r1.cell 0
    have b1 : w1.cell? ⟨b, 1, none⟩ = some (.slice p2 n2 k2) := r1.cell 1
    have b2 : w1.cell? ⟨b, 2, none⟩ = some (.string t) := r1.cell 2
    have b3 : w1.cell? ⟨b, 3, none⟩ = some (.int .i64 g) := r1.cell 3
    have b4 : w1.cell? ⟨b, 4, none⟩ = some (.int .i64 c0) := r1.cell 4
    have f0 := r1.free 0
    have f1 := r1.free 1
    have f2 := r1.free 2
    have f3 := r1.free 3
    have f4 := r1.free 4
    simp [go_sem, storeCells, b0, b1, b2, b3, b4, f0, f1, f2, f3, f4, bodyPostS, results, Tryz.results105]
    exact ⟨((((r1.set (j := 0) _).set (j := 1) _).set (j := 2) _).set (j := 3) _).set (j := 4) _, ((((k1.set (by simp) _).set (by simp) _).set (by simp) _).set (by simp) _).set (by simp) _⟩
set_option maxRecDepth 100000 in
set_option maxHeartbeats 4000000 in
theorem putCatch_idle (b : Nat) (p1 p2 : Option Addr) (n1 k1' n2 k2 : Nat) (t : ByteArray) (g c0 : Int) (w : World) (hr : Row w b 63 [.slice p1 n1 k1', .slice p2 n2 k2, .string t, .int .i64 g, .int .i64 c0]) :
    CallsD Tryz.prog 105 #[.pointer (some ⟨b, 0, none⟩)] .returning w fun e u' w' =>
      e = .returned (.tuple #[]) ∧ u' = .returning ∧ Row w' b 63 [.slice p1 n1 k1', .slice p2 n2 k2, .string t, .int .i64 g, .int .i64 c0] ∧ Kept [b] w w' := by
  have a0 : w.cell? ⟨b, 0, none⟩ = some (.slice p1 n1 k1') := hr.cell 0
  have a1 : w.cell? ⟨b, 1, none⟩ = some (.slice p2 n2 k2) := hr.cell 1
  have a2 : w.cell? ⟨b, 2, none⟩ = some (.string t) := hr.cell 2
  have a3 : w.cell? ⟨b, 3, none⟩ = some (.int .i64 g) := hr.cell 3
  have a4 : w.cell? ⟨b, 4, none⟩ = some (.int .i64 c0) := hr.cell 4
  refine callsD_of_wpS Tryz.func105 rfl fun c₀ cs hu => ?_
  apply wpS_region_draw
  intro tt
  rw [show Tryz.prog.follows .mixedOrders = true by kernel_rfl]
  rcases sched4 (by kernel_rfl) (by kernel_rfl) (by kernel_rfl) (by kernel_rfl) (by kernel_rfl) (by kernel_rfl) tt with h | h
  all_goals
    rw [h]
    clear h
    simp [wpOpsS, go_sem, recoverD, hu, Tryz.ntmps105, a0, a1, a2, a3, a4]
    refine (recovered_nil _ _ t g c0 _ ⟨_, _, _, rfl⟩ ⟨_, _, _, rfl⟩).mono ?_
    rintro e w1 ⟨rfl, hb1⟩
    have r1 := Row.after (below_drew hb1) hr
    have k1 := (Kept.ofBelow (below_drew hb1)).mono (S' := [b]) (by simp)
    have b0 : w1.cell? ⟨b, 0, none⟩ = some (.slice p1 n1 k1') := r1.cell 0
    have b1 : w1.cell? ⟨b, 1, none⟩ = some (.slice p2 n2 k2) := r1.cell 1
    have b2 : w1.cell? ⟨b, 2, none⟩ = some (.string t) := r1.cell 2
    have b3 : w1.cell? ⟨b, 3, none⟩ = some (.int .i64 g) := r1.cell 3
    have b4 : w1.cell? ⟨b, 4, none⟩ = some (.int .i64 c0) := r1.cell 4
    have f0 := r1.free 0
    have f1 := r1.free 1
    have f2 := r1.free 2
    have f3 := r1.free 3
    have f4 := r1.free 4
    simp [go_sem, storeCells, b0, b1, b2, b3, b4, f0, f1, f2, f3, f4, bodyPostS, results, Tryz.results105]
    exact ⟨.returning, by rw [← hu], rfl, ((((r1.set (j := 0) _).set (j := 1) _).set (j := 2) _).set (j := 3) _).set (j := 4) _, ((((k1.set (by simp) _).set (by simp) _).set (by simp) _).set (by simp) _).set (by simp) _⟩
end Go.Proofs.YtnpbmaajgiapmaaGreatDoor
