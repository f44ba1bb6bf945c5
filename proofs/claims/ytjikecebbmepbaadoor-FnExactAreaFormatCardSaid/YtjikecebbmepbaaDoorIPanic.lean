/- What the program's area panics with, and what recovers it. -/
import Derived.Test.YtjikecebbmepbaaDoorICode
import Derived.Test.YtjikecebbmepbaaDoorIRight
import Derived.Test.YtjikecebbmepbaaDoorAOut
import Derived.Recover
import Derived.WalkLawsBesides
namespace Go.Proofs.YtjikecebbmepbaaDoor
open Go.RowKit

/-- The panic with a code. -/
abbrev fault (c : Int) : List PanicEntry := [{ v := .iface 79 (.agg #[.int .i64 c]), recovered := false }]

theorem refuse_no (c : Int) (w : World) :
    Calls Tryd.prog 33 #[.bool false, .int .i64 c] w fun e w' => e = .returned (.tuple #[]) ∧ w' = w := by
  go_enter Tryd.func33, Tryd.ntmps33
  go_wp2
  go_end0
  exact ⟨rfl, rfl⟩
theorem refuse_yes (c : Int) (w : World) :
    Calls Tryd.prog 33 #[.bool true, .int .i64 c] w fun e w' => e = .panicked (fault c) ∧ w' = w := by
  go_enter Tryd.func33, Tryd.ntmps33
  go_wp2
  exact ⟨rfl, rfl, rfl⟩
theorem refuseCode_no (w : World) :
    Calls Tryd.prog 49 #[.int .i64 0] w fun e w' => e = .returned (.tuple #[]) ∧ w' = w := by
  go_enter Tryd.func49, Tryd.ntmps49
  go_wp2_with fail
  refine (refuse_no _ _).mono ?_
  rintro e w1 ⟨rfl, rfl⟩
  go_wp2
  go_end0
  exact ⟨rfl, rfl⟩
theorem refuseCode_yes (c : Int) (w : World) (hc : c ≠ 0) :
    Calls Tryd.prog 49 #[.int .i64 c] w fun e w' => e = .panicked (fault c) ∧ w' = w := by
  have hc' : (c != 0) = true := by simpa using hc
  go_enter Tryd.func49, Tryd.ntmps49
  go_wp2_with fail
  refine (refuse_yes _ _).mono ?_
  rintro e w1 ⟨rfl, rfl⟩
  go_wp2
  exact ⟨rfl, rfl, rfl⟩

theorem Tryd.nilNot (T : TypeId) (v : Value) (w : World) : (binOp .eql 71 .nilIface (.iface T v)).run Tryd.prog w = .ok (.bool false) w := by kernel_rfl
set_option maxRecDepth 100000 in
theorem is_nil (a : Addr) (w : World) :
    Calls Tryd.prog 62 #[.nilIface, .iface 119 (.pointer (some a))] w fun e w' => e = .returned (.bool false) ∧ w' = w := by
  have hn := Tryd.nilNot
  go_enter Tryd.func62, Tryd.ntmps62
  go_wp2
  go_ret
  exact ⟨rfl, rfl⟩
set_option maxHeartbeats 2000000 in
theorem code_nil (aF aR aU : Addr) (w : World) (hS : Sents aF aR aU w) :
    Calls Tryd.prog 50 #[.nilIface] w fun e w' => e = .returned (.int .i64 0) ∧ w' = w := by
  obtain ⟨⟨c1, c2⟩, c3, n1, n2, n3, r1, r2, r3⟩ := hS
  clear n1 n2 n3 r1 r2 r3
  go_enter Tryd.func50, Tryd.ntmps50
  go_wp2_with fail
  refine (is_nil _ _).mono ?_
  rintro e w1 ⟨rfl, rfl⟩
  go_wp2_with fail
  refine (is_nil _ _).mono ?_
  rintro e w2 ⟨rfl, rfl⟩
  go_wp2_with fail
  refine (is_nil _ _).mono ?_
  rintro e w3 ⟨rfl, rfl⟩
  go_wp2
  go_ret
  exact ⟨rfl, rfl⟩

set_option maxHeartbeats 2000000 in
theorem refuseDisk_any (vs vp : Value) (xs : List ByteArray) (ps : List (Int × ByteArray)) (aF aR aU : Addr) (w : World) (hn : xs.length ≤ 1048576) (hn2 : ps.length ≤ 1048576) (hr : Reads w vs xs) (hp : ReadsP w vp ps) (hS : Sents aF aR aU w) :
    Calls Tryd.prog 32 #[.agg #[vs, vp]] w fun e w' => (if right xs ps = true then e = .returned (.tuple #[]) else e = .panicked (fault 1)) ∧ Below w.heap.size w w' := by
  have hb0 : Below w.heap.size w (w.alloc (.cells #[vs, vp] 30)) := (Below.refl _ _).alloc (Nat.le_refl _) _
  have HR := hide (hr.below hb0 (Nat.le_refl _))
  have HP := hide (hp.below hb0 (Nat.le_refl _))
  have HS := hide (Stab.go hb0 hS)
  have HB0 := hide hb0
  obtain ⟨p1, c1, rfl, hq⟩ := hr
  obtain ⟨p2, c2, rfl, hq2⟩ := hp
  clear hb0 hq hq2 hS
  cases hok : right xs ps with
  | true =>
    have HE := hide (show diskFaultOf (.iface 119 (.pointer (some aF))) xs ps = .nilIface by unfold diskFaultOf; rw [hok]; rfl)
    go_enter Tryd.func32, Tryd.ntmps32
    go_wp2_with fail
    refine (diskFault_any _ _ xs ps _ _ _ _ _ hn hn2 HR.out HP.out HS.out.1.1 HS.out.1.2).mono ?_
    rw [HE.out]
    rintro e w1 ⟨rfl, hb1⟩
    have HB1 := hide (HB0.out.trans (hb1.mono HB0.out.size))
    have HS1 := hide (Stab.go hb1 HS.out)
    clear hb1
    go_wp2_with fail
    refine (code_nil aF aR aU _ HS1.out).mono ?_
    rintro e w2 ⟨rfl, rfl⟩
    go_wp2_with fail
    refine (refuseCode_no _).mono ?_
    rintro e w3 ⟨rfl, rfl⟩
    go_wp2
    go_end0
    exact ⟨by simp, HB1.out⟩
  | false =>
    have HE := hide (show diskFaultOf (.iface 119 (.pointer (some aF))) xs ps = .iface 119 (.pointer (some aF)) by unfold diskFaultOf; rw [hok]; rfl)
    go_enter Tryd.func32, Tryd.ntmps32
    go_wp2_with fail
    refine (diskFault_any _ _ xs ps _ _ _ _ _ hn hn2 HR.out HP.out HS.out.1.1 HS.out.1.2).mono ?_
    rw [HE.out]
    rintro e w1 ⟨rfl, hb1⟩
    have HB1 := hide (HB0.out.trans (hb1.mono HB0.out.size))
    have HS1 := hide (Stab.go hb1 HS.out)
    clear hb1
    go_wp2_with fail
    refine (code_form aF aR aU _ HS1.out).mono ?_
    rintro e w2 ⟨rfl, rfl⟩
    go_wp2_with fail
    refine (refuseCode_yes 1 _ (by omega)).mono ?_
    rintro e w3 ⟨rfl, rfl⟩
    go_wp2
    exact ⟨rfl, by simp, HB1.out⟩

set_option maxHeartbeats 2000000 in
theorem recovered_nil (a b : Value) (t : ByteArray) (g c : Int) (w : World) (h1 : ∃ p n k, a = .slice p n k) (h2 : ∃ p n k, b = .slice p n k) :
    Calls Tryd.prog 31 #[.agg #[a, b, .string t, .int .i64 g, .int .i64 c], .nilIface] w fun e w' => e = .returned (.agg #[a, b, .string t, .int .i64 g, .int .i64 c]) ∧ Below w.heap.size w w' := by
  obtain ⟨p1, n1, k1, rfl⟩ := h1
  obtain ⟨p2, n2, k2, rfl⟩ := h2
  go_enter Tryd.func31, Tryd.ntmps31
  go_wp2
  exact bodyPost_ret (v := .agg #[.slice p1 n1 k1, .slice p2 n2 k2, .string t, .int .i64 g, .int .i64 c]) (by simp [results, Tryd.results31, go_sem]) rfl ⟨rfl, ((Below.refl _ _).alloc (Nat.le_refl _) _).alloc (by simp) _⟩
theorem Tryd.faultOf (v : Value) (xT : TypeId) (w : World) : (Instr.typeAssert (.iface 79 v) xT 79 false).run Tryd.prog w = .ok v w := by kernel_rfl
theorem Tryd.faultCode (v : Value) (w : World) : (Instr.field 79 (.agg #[v]) 0).run Tryd.prog w = .ok v w := by kernel_rfl
set_option maxRecDepth 100000 in
set_option maxHeartbeats 2000000 in
theorem recovered_fault (a b : Value) (t : ByteArray) (g c n : Int) (w : World) (h1 : ∃ p n k, a = .slice p n k) (h2 : ∃ p n k, b = .slice p n k) :
    Calls Tryd.prog 31 #[.agg #[a, b, .string t, .int .i64 g, .int .i64 c], .iface 79 (.agg #[.int .i64 n])] w fun e w' => e = .returned (.agg #[.slice none 0 0, .slice none 0 0, .string ⟨#[]⟩, .int .i64 0, .int .i64 n]) ∧ Below w.heap.size w w' := by
  obtain ⟨p1, n1, k1, rfl⟩ := h1
  obtain ⟨p2, n2, k2, rfl⟩ := h2
  have hf := Tryd.faultOf
  have hg := Tryd.faultCode
  go_enter Tryd.func31, Tryd.ntmps31
  go_wp2
  exact bodyPost_ret (v := .agg #[.slice none 0 0, .slice none 0 0, .string ⟨#[]⟩, .int .i64 0, .int .i64 n]) (by simp [results, Tryd.results31, go_sem]) rfl ⟨rfl, ((Below.refl _ _).alloc (Nat.le_refl _) _).alloc (by simp) _⟩
end Go.Proofs.YtjikecebbmepbaaDoor
