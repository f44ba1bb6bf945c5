/- The deferred closures of the area's functions: what recovers a panic. -/
import Derived.Test.YtkmehbgepkilkaaGreatDoorXGIBank
import Derived.Recover
import Derived.Orders
namespace Go.Proofs.YtkmehbgepkilkaaGreatDoor
open Go.RowKit

theorem wpS_region_draw {P : Program} {Q : Exit → Act → List Frame → World → Prop} {a : Act} {cs : List Frame} {w : World} {id : Nat} {ops : Array Oper}
    (h : ∀ t, wpOpsS P ops Q (Region.schedule (P.follows .mixedOrders) ops t) a cs { w with drawn := w.drawn + 1 }) : (Code.region id ops true).wpS P Q a cs w :=
  fun b k hb hr => let ⟨e, a', cs', w', q, r⟩ := wp_opsS _ a cs _ (h _) b k hb hr; ⟨e, a', cs', w', q, .of_steps (.one step_region_draw) r⟩

theorem lin_step {md : Region.Mode} {ops : Array Oper} {fuel t : Nat} {listed : Array Bool} {acc rs : List Nat} (h : Region.ready md ops listed = rs) :
    Region.linearise.go md ops (fuel + 1) t listed acc = match rs[t % rs.length]? with | some i => Region.linearise.go md ops fuel (t / rs.length) (listed.setIfInBounds i true) (i :: acc) | none => acc.reverse := by
  subst h
  rw [Region.linearise.go]
  rfl
theorem lin_one {md : Region.Mode} {ops : Array Oper} {fuel t i : Nat} {listed : Array Bool} {acc : List Nat} (h : Region.ready md ops listed = [i]) :
    Region.linearise.go md ops (fuel + 1) t listed acc = Region.linearise.go md ops fuel t (listed.setIfInBounds i true) (i :: acc) := by
  rw [lin_step h]
  simp [Nat.mod_one]
/-- Four operations, the first two in either order. -/
theorem sched4 {ops : Array Oper} (hs : ops.size = 4) (h0 : Region.ready .any ops #[false, false, false, false] = [0, 1]) (h1 : Region.ready .any ops #[true, false, false, false] = [1]) (h2 : Region.ready .any ops #[false, true, false, false] = [0])
    (h3 : Region.ready .any ops #[true, true, false, false] = [2]) (h4 : Region.ready .any ops #[true, true, true, false] = [3]) (t : Nat) :
    Region.schedule true ops t = [0, 1, 2, 3] ∨ Region.schedule true ops t = [1, 0, 2, 3] := by
  unfold Region.schedule
  simp only [Bool.true_or, if_true]
  unfold Region.linearise
  rw [hs, show Array.replicate 4 false = #[false, false, false, false] from rfl, lin_step h0]
  rcases Nat.mod_two_eq_zero_or_one t with h | h
  · left
    simp only [List.length_cons, List.length_nil, Nat.zero_add, Nat.reduceAdd, h]
    show Region.linearise.go .any ops 3 (t / 2) #[true, false, false, false] [0] = _
    rw [lin_one h1]
    show Region.linearise.go .any ops 2 (t / 2) #[true, true, false, false] [1, 0] = _
    rw [lin_one h3]
    show Region.linearise.go .any ops 1 (t / 2) #[true, true, true, false] [2, 1, 0] = _
    rw [lin_one h4]
    rfl
  · right
    simp only [List.length_cons, List.length_nil, Nat.zero_add, Nat.reduceAdd, h]
    show Region.linearise.go .any ops 3 (t / 2) #[false, true, false, false] [1] = _
    rw [lin_one h2]
    show Region.linearise.go .any ops 2 (t / 2) #[true, true, false, false] [0, 1] = _
    rw [lin_one h3]
    show Region.linearise.go .any ops 1 (t / 2) #[true, true, true, false] [2, 0, 1] = _
    rw [lin_one h4]
    rfl

set_option maxRecDepth 100000 in
set_option maxHeartbeats 4000000 in
theorem formatCatch_panic (b : Nat) (p1 p2 : Option Addr) (n1 k1' n2 k2 : Nat) (t : ByteArray) (g c0 c : Int) (older : List PanicEntry) (w : World) (hr : Row w b 31 [.slice p1 n1 k1', .slice p2 n2 k2, .string t, .int .i64 g, .int .i64 c0]) :
    CallsD Tryz.prog 36 #[.pointer (some ⟨b, 0, none⟩)] (.panicking ({ v := .iface 90 (.agg #[.int .i64 c]), recovered := false } :: older)) w fun e u' w' =>
      e = .returned (.tuple #[]) ∧ u' = .panicking ({ v := .iface 90 (.agg #[.int .i64 c]), recovered := true } :: older) ∧ Row w' b 31 [.slice none 0 0, .slice none 0 0, .string ⟨#[]⟩, .int .i64 0, .int .i64 c] ∧ Kept [b] w w' := by
  have a0 : w.cell? ⟨b, 0, none⟩ = some (.slice p1 n1 k1') := hr.cell 0
  have a1 : w.cell? ⟨b, 1, none⟩ = some (.slice p2 n2 k2) := hr.cell 1
  have a2 : w.cell? ⟨b, 2, none⟩ = some (.string t) := hr.cell 2
  have a3 : w.cell? ⟨b, 3, none⟩ = some (.int .i64 g) := hr.cell 3
  have a4 : w.cell? ⟨b, 4, none⟩ = some (.int .i64 c0) := hr.cell 4
  refine callsD_of_wpS Tryz.func36 rfl fun c₀ cs hu => ?_
  apply wpS_region_draw
  intro tt
  rw [show Tryz.prog.follows .mixedOrders = true by kernel_rfl]
  rcases sched4 (by kernel_rfl) (by kernel_rfl) (by kernel_rfl) (by kernel_rfl) (by kernel_rfl) (by kernel_rfl) tt with h | h
  all_goals
    rw [h]
    clear h
    simp [wpOpsS, go_sem, recoverD, hu, Tryz.ntmps36, a0, a1, a2, a3, a4]
    refine (recovered_fault _ _ t g c0 c _ ⟨_, _, _, rfl⟩ ⟨_, _, _, rfl⟩).mono ?_
    rintro e w1 ⟨rfl, hb1⟩
    have r1 := Row.after (below_drew hb1) hr
    have k1 := (Kept.ofBelow (below_drew hb1)).mono (S' := [b]) (by simp)
    have b0 : w1.cell? ⟨b, 0, none⟩ = some (.slice p1 n1 k1') := r1.cell 0
    have b1 : w1.cell? ⟨b, 1, none⟩ = some (.slice p2 n2 k2) := r1.cell 1
    have b2 : w1.cell? ⟨b, 2, none⟩ = some (.string t) := r1.cell 2
    have b3 : w1.cell? ⟨b, 3, none⟩ = some (.int .i64 g) := r1.cell 3
    have b4 : w1.cell? ⟨b, 4, none⟩ = some (.int .i64 c0) := r1.cell 4
    have f0 := r1.free 0
    have f1 := r1.free 1
    have f2 := r1.free 2
    have f3 := r1.free 3
    have f4 := r1.free 4
    simp [go_sem, storeCells, b0, b1, b2, b3, b4, f0, f1, f2, f3, f4, bodyPostS, results, Tryz.results36]
    exact ⟨((((r1.set (j := 0) _).set (j := 1) _).set (j := 2) _).set (j := 3) _).set (j := 4) _, ((((k1.set (by simp) _).set (by simp) _).set (by simp) _).set (by simp) _).set (by simp) _⟩
set_option maxRecDepth 100000 in
set_option maxHeartbeats 4000000 in
theorem formatCatch_idle (b : Nat) (p1 p2 : Option Addr) (n1 k1' n2 k2 : Nat) (t : ByteArray) (g c0 : Int) (w : World) (hr : Row w b 31 [.slice p1 n1 k1', .slice p2 n2 k2, .string t, .int .i64 g, .int .i64 c0]) :
    CallsD Tryz.prog 36 #[.pointer (some ⟨b, 0, none⟩)] .returning w fun e u' w' =>
      e = .returned (.tuple #[]) ∧ u' = .returning ∧ Row w' b 31 [.slice p1 n1 k1', .slice p2 n2 k2, .string t, .int .i64 g, .int .i64 c0] ∧ Kept [b] w w' := by
  have a0 : w.cell? ⟨b, 0, none⟩ = some (.slice p1 n1 k1') := hr.cell 0
  have a1 : w.cell? ⟨b, 1, none⟩ = some (.slice p2 n2 k2) := hr.cell 1
  have a2 : w.cell? ⟨b, 2, none⟩ = some (.string t) := hr.cell 2
  have a3 : w.cell? ⟨b, 3, none⟩ = some (.int .i64 g) := hr.cell 3
  have a4 : w.cell? ⟨b, 4, none⟩ = some (.int .i64 c0) := hr.cell 4
  refine callsD_of_wpS Tryz.func36 rfl fun c₀ cs hu => ?_
  apply wpS_region_draw
  intro tt
  rw [show Tryz.prog.follows .mixedOrders = true by kernel_rfl]
  rcases sched4 (by kernel_rfl) (by kernel_rfl) (by kernel_rfl) (by kernel_rfl) (by kernel_rfl) (by kernel_rfl) tt with h | h
  all_goals
    rw [h]
    clear h
    simp [wpOpsS, go_sem, recoverD, hu, Tryz.ntmps36, a0, a1, a2, a3, a4]
    refine (recovered_nil _ _ t g c0 _ ⟨_, _, _, rfl⟩ ⟨_, _, _, rfl⟩).mono ?_
    rintro e w1 ⟨rfl, hb1⟩
    have r1 := Row.after (below_drew hb1) hr
    have k1 := (Kept.ofBelow (below_drew hb1)).mono (S' := [b]) (by simp)
    have b0 : w1.cell? ⟨b, 0, none⟩ = some (.slice p1 n1 k1') := r1.cell 0
    have b1 : w1.cell? ⟨b, 1, none⟩ = some (.slice p2 n2 k2) := r1.cell 1
    have b2 : w1.cell? ⟨b, 2, none⟩ = some (.string t) := r1.cell 2
    have b3 : w1.cell? ⟨b, 3, none⟩ = some (.int .i64 g) := r1.cell 3
    have b4 : w1.cell? ⟨b, 4, none⟩ = some (.int .i64 c0) := r1.cell 4
    have f0 := r1.free 0
    have f1 := r1.free 1
    have f2 := r1.free 2
    have f3 := r1.free 3
    have f4 := r1.free 4
    simp [go_sem, storeCells, b0, b1, b2, b3, b4, f0, f1, f2, f3, f4, bodyPostS, results, Tryz.results36]
    exact ⟨.returning, by rw [← hu], rfl, ((((r1.set (j := 0) _).set (j := 1) _).set (j := 2) _).set (j := 3) _).set (j := 4) _, ((((k1.set (by simp) _).set (by simp) _).set (by simp) _).set (by simp) _).set (by simp) _⟩
set_option maxRecDepth 100000 in
set_option maxHeartbeats 4000000 in
theorem readCatch_panic (b : Nat) (p1 p2 : Option Addr) (n1 k1' n2 k2 : Nat) (t : ByteArray) (g c0 c : Int) (older : List PanicEntry) (w : World) (hr : Row w b 31 [.slice p1 n1 k1', .slice p2 n2 k2, .string t, .int .i64 g, .int .i64 c0]) :
    CallsD Tryz.prog 26 #[.pointer (some ⟨b, 0, none⟩)] (.panicking ({ v := .iface 90 (.agg #[.int .i64 c]), recovered := false } :: older)) w fun e u' w' =>
      e = .returned (.tuple #[]) ∧ u' = .panicking ({ v := .iface 90 (.agg #[.int .i64 c]), recovered := true } :: older) ∧ Row w' b 31 [.slice none 0 0, .slice none 0 0, .string ⟨#[]⟩, .int .i64 0, .int .i64 c] ∧ Kept [b] w w' := by
  have a0 : w.cell? ⟨b, 0, none⟩ = some (.slice p1 n1 k1') := hr.cell 0
  have a1 : w.cell? ⟨b, 1, none⟩ = some (.slice p2 n2 k2) := hr.cell 1
  have a2 : w.cell? ⟨b, 2, none⟩ = some (.string t) := hr.cell 2
  have a3 : w.cell? ⟨b, 3, none⟩ = some (.int .i64 g) := hr.cell 3
  have a4 : w.cell? ⟨b, 4, none⟩ = some (.int .i64 c0) := hr.cell 4
  refine callsD_of_wpS Tryz.func26 rfl fun c₀ cs hu => ?_
  apply wpS_region_draw
  intro tt
  rw [show Tryz.prog.follows .mixedOrders = true by kernel_rfl]
  rcases sched4 (by kernel_rfl) (by kernel_rfl) (by kernel_rfl) (by kernel_rfl) (by kernel_rfl) (by kernel_rfl) tt with h | h
  all_goals
    rw [h]
    clear h
    simp [wpOpsS, go_sem, recoverD, hu, Tryz.ntmps26, a0, a1, a2, a3, a4]
    refine (recovered_fault _ _ t g c0 c _ ⟨_, _, _, rfl⟩ ⟨_, _, _, rfl⟩).mono ?_
    rintro e w1 ⟨rfl, hb1⟩
    have r1 := Row.after (below_drew hb1) hr
    have k1 := (Kept.ofBelow (below_drew hb1)).mono (S' := [b]) (by simp)
    have b0 : w1.cell? ⟨b, 0, none⟩ = some (.slice p1 n1 k1') := r1.cell 0
    have b1 : w1.cell? ⟨b, 1, none⟩ = some (.slice p2 n2 k2) := r1.cell 1
    have b2 : w1.cell? ⟨b, 2, none⟩ = some (.string t) := r1.cell 2
    have b3 : w1.cell? ⟨b, 3, none⟩ = some (.int .i64 g) := r1.cell 3
    have b4 : w1.cell? ⟨b, 4, none⟩ = some (.int .i64 c0) := r1.cell 4
    have f0 := r1.free 0
    have f1 := r1.free 1
    have f2 := r1.free 2
    have f3 := r1.free 3
    have f4 := r1.free 4
    simp [go_sem, storeCells, b0, b1, b2, b3, b4, f0, f1, f2, f3, f4, bodyPostS, results, Tryz.results26]
    exact ⟨((((r1.set (j := 0) _).set (j := 1) _).set (j := 2) _).set (j := 3) _).set (j := 4) _, ((((k1.set (by simp) _).set (by simp) _).set (by simp) _).set (by simp) _).set (by simp) _⟩
set_option maxRecDepth 100000 in
set_option maxHeartbeats 4000000 in
theorem readCatch_idle (b : Nat) (p1 p2 : Option Addr) (n1 k1' n2 k2 : Nat) (t : ByteArray) (g c0 : Int) (w : World) (hr : Row w b 31 [.slice p1 n1 k1', .slice p2 n2 k2, .string t, .int .i64 g, .int .i64 c0]) :
    CallsD Tryz.prog 26 #[.pointer (some ⟨b, 0, none⟩)] .returning w fun e u' w' =>
      e = .returned (.tuple #[]) ∧ u' = .returning ∧ Row w' b 31 [.slice p1 n1 k1', .slice p2 n2 k2, .string t, .int .i64 g, .int .i64 c0] ∧ Kept [b] w w' := by
  have a0 : w.cell? ⟨b, 0, none⟩ = some (.slice p1 n1 k1') := hr.cell 0
  have a1 : w.cell? ⟨b, 1, none⟩ = some (.slice p2 n2 k2) := hr.cell 1
  have a2 : w.cell? ⟨b, 2, none⟩ = some (.string t) := hr.cell 2
  have a3 : w.cell? ⟨b, 3, none⟩ = some (.int .i64 g) := hr.cell 3
  have a4 : w.cell? ⟨b, 4, none⟩ = some (.int .i64 c0) := hr.cell 4
  refine callsD_of_wpS Tryz.func26 rfl fun c₀ cs hu => ?_
  apply wpS_region_draw
  intro tt
  rw [show Tryz.prog.follows .mixedOrders = true by kernel_rfl]
  rcases sched4 (by kernel_rfl) (by kernel_rfl) (by kernel_rfl) (by kernel_rfl) (by kernel_rfl) (by kernel_rfl) tt with h | h
  all_goals
    rw [h]
    clear h
    simp [wpOpsS, go_sem, recoverD, hu, Tryz.ntmps26, a0, a1, a2, a3, a4]
    refine (recovered_nil _ _ t g c0 _ ⟨_, _, _, rfl⟩ ⟨_, _, _, rfl⟩).mono ?_
    rintro e w1 ⟨rfl, hb1⟩
    have r1 := Row.after (below_drew hb1) hr
    have k1 := (Kept.ofBelow (below_drew hb1)).mono (S' := [b]) (by simp)
    have b0 : w1.cell? ⟨b, 0, none⟩ = some (.slice p1 n1 k1') := r1.cell 0
    have b1 : w1.cell? ⟨b, 1, none⟩ = some (.slice p2 n2 k2) := r1.cell 1
    have b2 : w1.cell? ⟨b, 2, none⟩ = some (.string t) := r1.cell 2
    have b3 : w1.cell? ⟨b, 3, none⟩ = some (.int .i64 g) := r1.cell 3
    have b4 : w1.cell? ⟨b, 4, none⟩ = some (.int .i64 c0) := r1.cell 4
    have f0 := r1.free 0
    have f1 := r1.free 1
    have f2 := r1.free 2
    have f3 := r1.free 3
    have f4 := r1.free 4
    simp [go_sem, storeCells, b0, b1, b2, b3, b4, f0, f1, f2, f3, f4, bodyPostS, results, Tryz.results26]
    exact ⟨.returning, by rw [← hu], rfl, ((((r1.set (j := 0) _).set (j := 1) _).set (j := 2) _).set (j := 3) _).set (j := 4) _, ((((k1.set (by simp) _).set (by simp) _).set (by simp) _).set (by simp) _).set (by simp) _⟩
set_option maxRecDepth 100000 in
set_option maxHeartbeats 4000000 in
theorem putCatch_panic (b : Nat) (p1 p2 : Option Addr) (n1 k1' n2 k2 : Nat) (t : ByteArray) (g c0 c : Int) (older : List PanicEntry) (w : World) (hr : Row w b 31 [.slice p1 n1 k1', .slice p2 n2 k2, .string t, .int .i64 g, .int .i64 c0]) :
    CallsD Tryz.prog 31 #[.pointer (some ⟨b, 0, none⟩)] (.panicking ({ v := .iface 90 (.agg #[.int .i64 c]), recovered := false } :: older)) w fun e u' w' =>
      e = .returned (.tuple #[]) ∧ u' = .panicking ({ v := .iface 90 (.agg #[.int .i64 c]), recovered := true } :: older) ∧ Row w' b 31 [.slice none 0 0, .slice none 0 0, .string ⟨#[]⟩, .int .i64 0, .int .i64 c] ∧ Kept [b] w w' := by
  have a0 : w.cell? ⟨b, 0, none⟩ = some (.slice p1 n1 k1') := hr.cell 0
  have a1 : w.cell? ⟨b, 1, none⟩ = some (.slice p2 n2 k2) := hr.cell 1
  have a2 : w.cell? ⟨b, 2, none⟩ = some (.string t) := hr.cell 2
  have a3 : w.cell? ⟨b, 3, none⟩ = some (.int .i64 g) := hr.cell 3
  have a4 : w.cell? ⟨b, 4, none⟩ = some (.int .i64 c0) := hr.cell 4
  refine callsD_of_wpS Tryz.func31 rfl fun c₀ cs hu => ?_
  apply wpS_region_draw
  intro tt
  rw [show Tryz.prog.follows .mixedOrders = true by kernel_rfl]
  rcases sched4 (by kernel_rfl) (by kernel_rfl) (by kernel_rfl) (by kernel_rfl) (by kernel_rfl) (by kernel_rfl) tt with h | h
  all_goals
    rw [h]
    clear h
    simp [wpOpsS, go_sem, recoverD, hu, Tryz.ntmps31, a0, a1, a2, a3, a4]
    refine (recovered_fault _ _ t g c0 c _ ⟨_, _, _, rfl⟩ ⟨_, _, _, rfl⟩).mono ?_
    rintro e w1 ⟨rfl, hb1⟩
    have r1 := Row.after (below_drew hb1) hr
    have k1 := (Kept.ofBelow (below_drew hb1)).mono (S' := [b]) (by simp)
    have b0 : w1.cell? ⟨b, 0, none⟩ = some (.slice p1 n1 k1') := r1.cell 0
    have b1 : w1.cell? ⟨b, 1, none⟩ = some (.slice p2 n2 k2) := r1.cell 1
    have b2 : w1.cell? ⟨b, 2, none⟩ = some (.string t) := r1.cell 2
    have b3 : w1.cell? ⟨b, 3, none⟩ = some (.int .i64 g) := r1.cell 3
    have b4 : w1.cell? ⟨b, 4, none⟩ = some (.int .i64 c0) := r1.cell 4
    have f0 := r1.free 0
    have f1 := r1.free 1
    have f2 := r1.free 2
    have f3 := r1.free 3
    have f4 := r1.free 4
    simp [go_sem, storeCells, b0, b1, b2, b3, b4, f0, f1, f2, f3, f4, bodyPostS, results, Tryz.results31]
    exact ⟨((((r1.set (j := 0) _).set (j := 1) _).set (j := 2) _).set (j := 3) _).set (j := 4) _, ((((k1.set (by simp) _).set (by simp) _).set (by simp) _).set (by simp) _).set (by simp) _⟩
set_option maxRecDepth 100000 in
set_option maxHeartbeats 4000000 in
theorem putCatch_idle (b : Nat) (p1 p2 : Option Addr) (n1 k1' n2 k2 : Nat) (t : ByteArray) (g c0 : Int) (w : World) (hr : Row w b 31 [.slice p1 n1 k1', .slice p2 n2 k2, .string t, .int .i64 g, .int .i64 c0]) :
    CallsD Tryz.prog 31 #[.pointer (some ⟨b, 0, none⟩)] .returning w fun e u' w' =>
      e = .returned (.tuple #[]) ∧ u' = .returning ∧ Row w' b 31 [.slice p1 n1 k1', .slice p2 n2 k2, .string t, .int .i64 g, .int .i64 c0] ∧ Kept [b] w w' := by
  have a0 : w.cell? ⟨b, 0, none⟩ = some (.slice p1 n1 k1') := hr.cell 0
  have a1 : w.cell? ⟨b, 1, none⟩ = some (.slice p2 n2 k2) := hr.cell 1
  have a2 : w.cell? ⟨b, 2, none⟩ = some (.string t) := hr.cell 2
  have a3 : w.cell? ⟨b, 3, none⟩ = some (.int .i64 g) := hr.cell 3
  have a4 : w.cell? ⟨b, 4, none⟩ = some (.int .i64 c0) := hr.cell 4
  refine callsD_of_wpS Tryz.func31 rfl fun c₀ cs hu => ?_
  apply wpS_region_draw
  intro tt
  rw [show Tryz.prog.follows .mixedOrders = true by kernel_rfl]
  rcases sched4 (by kernel_rfl) (by kernel_rfl) (by kernel_rfl) (by kernel_rfl) (by kernel_rfl) (by kernel_rfl) tt with h | h
  all_goals
    rw [h]
    clear h
    simp [wpOpsS, go_sem, recoverD, hu, Tryz.ntmps31, a0, a1, a2, a3, a4]
    refine (recovered_nil _ _ t g c0 _ ⟨_, _, _, rfl⟩ ⟨_, _, _, rfl⟩).mono ?_
    rintro e w1 ⟨rfl, hb1⟩
    have r1 := Row.after (below_drew hb1) hr
    have k1 := (Kept.ofBelow (below_drew hb1)).mono (S' := [b]) (by simp)
    have b0 : w1.cell? ⟨b, 0, none⟩ = some (.slice p1 n1 k1') := r1.cell 0
    have b1 : w1.cell? ⟨b, 1, none⟩ = some (.slice p2 n2 k2) := r1.cell 1
    have b2 : w1.cell? ⟨b, 2, none⟩ = some (.string t) := r1.cell 2
    have b3 : w1.cell? ⟨b, 3, none⟩ = some (.int .i64 g) := r1.cell 3
    have b4 : w1.cell? ⟨b, 4, none⟩ = some (.int .i64 c0) := r1.cell 4
    have f0 := r1.free 0
    have f1 := r1.free 1
    have f2 := r1.free 2
    have f3 := r1.free 3
    have f4 := r1.free 4
    simp [go_sem, storeCells, b0, b1, b2, b3, b4, f0, f1, f2, f3, f4, bodyPostS, results, Tryz.results31]
    exact ⟨.returning, by rw [← hu], rfl, ((((r1.set (j := 0) _).set (j := 1) _).set (j := 2) _).set (j := 3) _).set (j := 4) _, ((((k1.set (by simp) _).set (by simp) _).set (by simp) _).set (by simp) _).set (by simp) _⟩
end Go.Proofs.YtkmehbgepkilkaaGreatDoor
