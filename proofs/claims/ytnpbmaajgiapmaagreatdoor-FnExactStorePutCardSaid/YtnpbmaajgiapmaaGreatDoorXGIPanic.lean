/- What the program's area panics with, and what recovers it. -/
import Derived.Test.YtnpbmaajgiapmaaGreatDoorXGIBank
import Derived.Test.YtnpbmaajgiapmaaGreatDoorXGIFit
import Derived.Test.YtnpbmaajgiapmaaGreatDoorXGSCopy
import Derived.Recover
import Derived.WalkLawsBesides
namespace Go.Proofs.YtnpbmaajgiapmaaGreatDoor
open Go.RowKit

/-- The panic with a code. -/
abbrev fault (c : Int) : List PanicEntry := [{ v := .iface 138 (.agg #[.int .i64 c]), recovered := false }]

theorem refuse_no (c : Int) (w : World) :
    Calls Tryz.prog 79 #[.bool false, .int .i64 c] w fun e w' => e = .returned (.tuple #[]) ∧ w' = w := by
  go_enter Tryz.func79, Tryz.ntmps79
  go_wp2
  go_end0
  exact ⟨rfl, rfl⟩
theorem refuse_yes (c : Int) (w : World) :
    Calls Tryz.prog 79 #[.bool true, .int .i64 c] w fun e w' => e = .panicked (fault c) ∧ w' = w := by
  go_enter Tryz.func79, Tryz.ntmps79
  go_wp2
  exact ⟨rfl, rfl, rfl⟩
theorem refuseCode_no (w : World) :
    Calls Tryz.prog 99 #[.int .i64 0] w fun e w' => e = .returned (.tuple #[]) ∧ w' = w := by
  go_enter Tryz.func99, Tryz.ntmps99
  go_wp2_with fail
  refine (refuse_no _ _).mono ?_
  rintro e w1 ⟨rfl, rfl⟩
  go_wp2
  go_end0
  exact ⟨rfl, rfl⟩
theorem refuseCode_yes (c : Int) (w : World) (hc : c ≠ 0) :
    Calls Tryz.prog 99 #[.int .i64 c] w fun e w' => e = .panicked (fault c) ∧ w' = w := by
  have hc' : (c != 0) = true := by simpa using hc
  go_enter Tryz.func99, Tryz.ntmps99
  go_wp2_with fail
  refine (refuse_yes _ _).mono ?_
  rintro e w1 ⟨rfl, rfl⟩
  go_wp2
  exact ⟨rfl, rfl, rfl⟩

theorem Tryz.nilNot (T : TypeId) (v : Value) (w : World) : (binOp .eql 56 .nilIface (.iface T v)).run Tryz.prog w = .ok (.bool false) w := by kernel_rfl
set_option maxRecDepth 100000 in
theorem is_nil (a : Addr) (w : World) :
    Calls Tryz.prog 125 #[.nilIface, .iface 245 (.pointer (some a))] w fun e w' => e = .returned (.bool false) ∧ w' = w := by
  have hn := Tryz.nilNot
  go_enter Tryz.func125, Tryz.ntmps125
  go_wp2
  go_ret
  exact ⟨rfl, rfl⟩
set_option maxHeartbeats 2000000 in
theorem code_nil (aF aR aU : Addr) (w : World) (hS : Sents aF aR aU w) :
    Calls Tryz.prog 100 #[.nilIface] w fun e w' => e = .returned (.int .i64 0) ∧ w' = w := by
  obtain ⟨⟨c1, c2⟩, c3, n1, n2, n3, r1, r2, r3⟩ := hS
  clear n1 n2 n3 r1 r2 r3
  go_enter Tryz.func100, Tryz.ntmps100
  go_wp2_with fail
  refine (is_nil _ _).mono ?_
  rintro e w1 ⟨rfl, rfl⟩
  go_wp2_with fail
  refine (is_nil _ _).mono ?_
  rintro e w2 ⟨rfl, rfl⟩
  go_wp2_with fail
  refine (is_nil _ _).mono ?_
  rintro e w3 ⟨rfl, rfl⟩
  go_wp2
  go_ret
  exact ⟨rfl, rfl⟩

set_option maxHeartbeats 2000000 in
theorem refuseDisk_any (vs vp : Value) (xs : List ByteArray) (ps : List (Int × ByteArray)) (aF aR aU : Addr) (w : World) (hn : xs.length ≤ 1048576) (hn2 : ps.length ≤ 1048576) (hr : Reads w vs xs) (hp : ReadsP w vp ps) (hS : Sents aF aR aU w) :
    Calls Tryz.prog 78 #[.agg #[vs, vp]] w fun e w' => (if right xs ps = true then e = .returned (.tuple #[]) else e = .panicked (fault 1)) ∧ Below w.heap.size w w' := by
  have hb0 : Below w.heap.size w (w.alloc (.cells #[vs, vp] 30)) := (Below.refl _ _).alloc (Nat.le_refl _) _
  have HR := hide (hr.below hb0 (Nat.le_refl _))
  have HP := hide (hp.below hb0 (Nat.le_refl _))
  have HS := hide (Stab.go hb0 hS)
  have HB0 := hide hb0
  obtain ⟨p1, c1, rfl, hq⟩ := hr
  obtain ⟨p2, c2, rfl, hq2⟩ := hp
  clear hb0 hq hq2 hS
  cases hok : right xs ps with
  | true =>
    have HE := hide (show diskFaultOf (.iface 245 (.pointer (some aF))) xs ps = .nilIface by unfold diskFaultOf; rw [hok]; rfl)
    go_enter Tryz.func78, Tryz.ntmps78
    go_wp2_with fail
    refine (diskFault_any _ _ xs ps _ _ _ _ _ hn hn2 HR.out HP.out HS.out.1.1 HS.out.1.2).mono ?_
    rw [HE.out]
    rintro e w1 ⟨rfl, hb1⟩
    have HB1 := hide (HB0.out.trans (hb1.mono HB0.out.size))
    have HS1 := hide (Stab.go hb1 HS.out)
    clear hb1
    go_wp2_with fail
    refine (code_nil aF aR aU _ HS1.out).mono ?_
    rintro e w2 ⟨rfl, rfl⟩
    go_wp2_with fail
    refine (refuseCode_no _).mono ?_
    rintro e w3 ⟨rfl, rfl⟩
    go_wp2
    go_end0
    exact ⟨by simp, HB1.out⟩
  | false =>
    have HE := hide (show diskFaultOf (.iface 245 (.pointer (some aF))) xs ps = .iface 245 (.pointer (some aF)) by unfold diskFaultOf; rw [hok]; rfl)
    go_enter Tryz.func78, Tryz.ntmps78
    go_wp2_with fail
    refine (diskFault_any _ _ xs ps _ _ _ _ _ hn hn2 HR.out HP.out HS.out.1.1 HS.out.1.2).mono ?_
    rw [HE.out]
    rintro e w1 ⟨rfl, hb1⟩
    have HB1 := hide (HB0.out.trans (hb1.mono HB0.out.size))
    have HS1 := hide (Stab.go hb1 HS.out)
    clear hb1
    go_wp2_with fail
    refine (code_form aF aR aU _ HS1.out).mono ?_
    rintro e w2 ⟨rfl, rfl⟩
    go_wp2_with fail
    refine (refuseCode_yes 1 _ (by omega)).mono ?_
    rintro e w3 ⟨rfl, rfl⟩
    go_wp2
    exact ⟨rfl, by simp, HB1.out⟩

set_option maxHeartbeats 2000000 in
theorem recovered_nil (a b : Value) (t : ByteArray) (g c : Int) (w : World) (h1 : ∃ p n k, a = .slice p n k) (h2 : ∃ p n k, b = .slice p n k) :
    Calls Tryz.prog 77 #[.agg #[a, b, .string t, .int .i64 g, .int .i64 c], .nilIface] w fun e w' => e = .returned (.agg #[a, b, .string t, .int .i64 g, .int .i64 c]) ∧ Below w.heap.size w w' := by
  obtain ⟨p1, n1, k1, rfl⟩ := h1
  obtain ⟨p2, n2, k2, rfl⟩ := h2
  go_enter Tryz.func77, Tryz.ntmps77
  go_wp2
  exact bodyPost_ret (v := .agg #[.slice p1 n1 k1, .slice p2 n2 k2, .string t, .int .i64 g, .int .i64 c]) (by simp [results, Tryz.results77, go_sem]) rfl ⟨rfl, ((Below.refl _ _).alloc (Nat.le_refl _) _).alloc (by simp) _⟩
theorem Tryz.faultOf (v : Value) (xT : TypeId) (w : World) : (Instr.typeAssert (.iface 138 v) xT 138 false).run Tryz.prog w = .ok v w := by kernel_rfl
theorem Tryz.faultCode (v : Value) (w : World) : (Instr.field 138 (.agg #[v]) 0).run Tryz.prog w = .ok v w := by kernel_rfl
set_option maxRecDepth 100000 in
set_option maxHeartbeats 2000000 in
theorem recovered_fault (a b : Value) (t : ByteArray) (g c n : Int) (w : World) (h1 : ∃ p n k, a = .slice p n k) (h2 : ∃ p n k, b = .slice p n k) :
    Calls Tryz.prog 77 #[.agg #[a, b, .string t, .int .i64 g, .int .i64 c], .iface 138 (.agg #[.int .i64 n])] w fun e w' => e = .returned (.agg #[.slice none 0 0, .slice none 0 0, .string ⟨#[]⟩, .int .i64 0, .int .i64 n]) ∧ Below w.heap.size w w' := by
  obtain ⟨p1, n1, k1, rfl⟩ := h1
  obtain ⟨p2, n2, k2, rfl⟩ := h2
  have hf := Tryz.faultOf
  have hg := Tryz.faultCode
  go_enter Tryz.func77, Tryz.ntmps77
  go_wp2
  exact bodyPost_ret (v := .agg #[.slice none 0 0, .slice none 0 0, .string ⟨#[]⟩, .int .i64 0, .int .i64 n]) (by simp [results, Tryz.results77, go_sem]) rfl ⟨rfl, ((Below.refl _ _).alloc (Nat.le_refl _) _).alloc (by simp) _⟩
end Go.Proofs.YtnpbmaajgiapmaaGreatDoor
/- One step of the program's: a flush, or a write. -/
namespace Go.Proofs.YtnpbmaajgiapmaaGreatDoor
open Go.RowKit

/-- The call ended with a disk of its own, or with the panic of o's code. -/
def StepIs (B : Nat) (e : Ending) (w : World) (o : Out) : Prop :=
  (o.c = 0 ∧ ∃ us up, e = .returned (.agg #[us, up]) ∧ OwnS 9 B w us o.xs ∧ OwnP 92 B w up o.ps ∧ ∀ x ∈ leads us, x ∉ leads up) ∨ (o.c ≠ 0 ∧ e = .panicked (fault o.c))

set_option maxRecDepth 100000 in
set_option maxHeartbeats 4000000 in
theorem runStep_any (vs vp : Value) (xs : List ByteArray) (ps : List (Int × ByteArray)) (f : Bool) (a : Int) (d : ByteArray) (aF aR aU : Addr) (w : World) (hn : xs.length ≤ 1048576) (hn2 : ps.length ≤ 1048576) (hd : d.size ≤ 1048576) (hr : Reads w vs xs) (hp : ReadsP w vp ps) (hS : Sents aF aR aU w) :
    Calls Tryz.prog 104 #[.agg #[vs, vp], .agg #[.bool f, .int .i64 a, .string d]] w fun e w' => StepIs w.heap.size e w' (stepOut (f, a, d) xs ps) ∧ Below w.heap.size w w' := by
  obtain ⟨p1, c1, rfl, hq⟩ := id hr
  obtain ⟨p2, c2, rfl, hq2⟩ := id hp
  obtain ⟨W, hW⟩ : ∃ W, W = (((w.alloc (.cells #[.slice p1 xs.length c1, .slice p2 ps.length c2] 30)).alloc (.cells #[.bool f, .int .i64 a, .string d] 116)).alloc (.cells #[.slice none 0 0, .slice none 0 0] 30)).alloc (.cells #[.slice none 0 0, .slice none 0 0, .string ⟨#[]⟩, .int .i64 0] 101) := ⟨_, rfl⟩
  have hb0 : Below w.heap.size w W := by rw [hW]; exact ((((Below.refl _ _).alloc (Nat.le_refl _) _).alloc (by simp) _).alloc (by simp; omega) _).alloc (by simp; omega) _
  have R0 : Row W w.heap.size 30 [.slice p1 xs.length c1, .slice p2 ps.length c2] := by rw [hW]; exact (((row_new w _ _).alloc _).alloc _).alloc _
  have R1 : Row W (w.heap.size + 1) 116 [.bool f, .int .i64 a, .string d] := by
    rw [hW]; have := row_new (w.alloc (.cells #[.slice p1 xs.length c1, .slice p2 ps.length c2] 30)) [.bool f, .int .i64 a, .string d] 116
    simp only [World.size_alloc] at this; exact (this.alloc _).alloc _
  have R2 : Row W (w.heap.size + 1 + 1) 30 [.slice none 0 0, .slice none 0 0] := by
    rw [hW]; have := row_new ((w.alloc (.cells #[.slice p1 xs.length c1, .slice p2 ps.length c2] 30)).alloc (.cells #[.bool f, .int .i64 a, .string d] 116)) [.slice none 0 0, .slice none 0 0] 30
    simp only [World.size_alloc] at this; exact this.alloc _
  have R3 : Row W (w.heap.size + 1 + 1 + 1) 101 [.slice none 0 0, .slice none 0 0, .string ⟨#[]⟩, .int .i64 0] := by
    rw [hW]; have := row_new (((w.alloc (.cells #[.slice p1 xs.length c1, .slice p2 ps.length c2] 30)).alloc (.cells #[.bool f, .int .i64 a, .string d] 116)).alloc (.cells #[.slice none 0 0, .slice none 0 0] 30)) [.slice none 0 0, .slice none 0 0, .string ⟨#[]⟩, .int .i64 0] 101
    simp only [World.size_alloc] at this; exact this
  have HR := hide (hr.below hb0 (Nat.le_refl _))
  have HP := hide (hp.below hb0 (Nat.le_refl _))
  have HS := hide (Stab.go hb0 hS)
  have HB0 := hide hb0
  have a0 : W.cell? ⟨w.heap.size, 0, none⟩ = some (.slice p1 xs.length c1) := R0.cell 0
  have a1 : W.cell? ⟨w.heap.size, 1, none⟩ = some (.slice p2 ps.length c2) := R0.cell 1
  have b0 : W.cell? ⟨w.heap.size + 1, 0, none⟩ = some (.bool f) := R1.cell 0
  have b1 : W.cell? ⟨w.heap.size + 1, 1, none⟩ = some (.int .i64 a) := R1.cell 1
  have b2 : W.cell? ⟨w.heap.size + 1, 2, none⟩ = some (.string d) := R1.cell 2
  have H2 := hide R2
  have H3 := hide R3
  have hsz : w.heap.size + 4 ≤ W.heap.size := by have := R3.lt; omega
  clear R0 R1 R2 R3 hb0 hr hp hS hq hq2
  obtain ⟨o, Ho⟩ : ∃ o, Hid (o = stepOut (f, a, d) xs ps) := ⟨_, rfl⟩
  have hrest : ∀ (us up : Value) (w1 : World), OwnS 9 W.heap.size w1 us o.xs → OwnP 92 W.heap.size w1 up o.ps → (∀ x ∈ leads us, x ∉ leads up) → Below W.heap.size W w1 →
      Hid (∃ p n k p' n' k', us = .slice p n k ∧ up = .slice p' n' k' ∧ Row w1 (w.heap.size + 1 + 1 + 1) 101 [.slice none 0 0, .slice none 0 0, .string ⟨#[]⟩, .int .i64 0] ∧ Row w1 (w.heap.size + 1 + 1) 30 [.slice none 0 0, .slice none 0 0] ∧ Below w.heap.size w w1 ∧ w.heap.size + 4 ≤ w1.heap.size) := by
    intro us up w1 o1 o2 _ hb
    obtain ⟨p, n, k, e⟩ := o1.isSlice
    obtain ⟨p', n', k', e'⟩ := o2.isSlice
    exact ⟨p, n, k, p', n', k', e, e', Row.after hb H3.out, Row.after hb H2.out, HB0.out.trans (hb.mono HB0.out.size), Nat.le_trans hsz hb.size⟩
  have HRest := hide hrest
  clear hrest
  rw [← Ho.out]
  go_enter Tryz.func104, Tryz.ntmps104
  cases f with
  | true =>
    have HO := hide (show flushOut xs ps = o by rw [Ho.out]; rfl)
    go_wp2_with fail
    rw [← hW]
    clear hW
    go_wp2_with fail
    refine (implFlush_any _ _ xs ps aF aR aU _ hn hn2 HR.out HP.out HS.out).mono ?_
    rw [HO.out]
    rintro e w1 ⟨⟨us, up, rfl, o1, o2, dd⟩, hb1⟩
    obtain ⟨i1, j1, k1, i2, j2, k2, rfl, rfl, r3, r2, hB, hz⟩ := (HRest.out us up w1 o1 o2 dd hb1).out
    have c0 : w1.cell? ⟨w.heap.size + 1 + 1 + 1, 0, none⟩ = some (.slice none 0 0) := r3.cell 0
    have c1' : w1.cell? ⟨w.heap.size + 1 + 1 + 1, 1, none⟩ = some (.slice none 0 0) := r3.cell 1
    have c2' : w1.cell? ⟨w.heap.size + 1 + 1 + 1, 2, none⟩ = some (.string ⟨#[]⟩) := r3.cell 2
    have c3 : w1.cell? ⟨w.heap.size + 1 + 1 + 1, 3, none⟩ = some (.int .i64 0) := r3.cell 3
    have f0 := r3.free 0
    have f1 := r3.free 1
    have f2 := r3.free 2
    have f3 := r3.free 3
    have O1 := hide o1
    have O2 := hide o2
    have DD := hide dd
    have R3 := hide r3
    have R2 := hide r2
    have HBw := hide hB
    clear o1 o2 dd r3 r2 hB hb1 HRest
    go_wp2_with fail
    obtain ⟨q0, q1, q2, q3, KF⟩ := four R3.out (.slice i1 j1 k1) (.slice i2 j2 k2) (.string o.t) (.int .i64 o.c)
    obtain ⟨X, hX⟩ : ∃ X, X = ((((w1.setCell ⟨w.heap.size + 1 + 1 + 1, 0, none⟩ (.slice i1 j1 k1)).setCell ⟨w.heap.size + 1 + 1 + 1, 1, none⟩ (.slice i2 j2 k2)).setCell ⟨w.heap.size + 1 + 1 + 1, 2, none⟩ (.string o.t)).setCell ⟨w.heap.size + 1 + 1 + 1, 3, none⟩ (.int .i64 o.c)) := ⟨_, rfl⟩
    rw [← hX] at q0 q1 q2 q3 KF ⊢
    have HBX := hide (KF.toBelow HBw.out HBw.out.size (by simp; omega))
    have R2X := hide (KF.row R2.out (by simp))
    have O1X := hide (O1.out.kept KF (fun x hx => by have := (O1.out.leads x hx).1; simp; omega))
    have O2X := hide (O2.out.kept KF (fun x hx => by have := (O2.out.leads x hx).1; simp; omega))
    clear KF hX c0 c1' c2' c3 f0 f1 f2 f3
    by_cases hc : o.c = 0
    · have hc0 := hc
      rw [hc] at q3
      rw [hc]
      refine (refuseCode_no _).mono ?_
      rintro e w2 ⟨rfl, rfl⟩
      have d0 : w2.cell? ⟨w.heap.size + 1 + 1, 0, none⟩ = some (.slice none 0 0) := R2X.out.cell 0
      have d1 : w2.cell? ⟨w.heap.size + 1 + 1, 1, none⟩ = some (.slice none 0 0) := R2X.out.cell 1
      have g0 := R2X.out.free 0
      have g1 := R2X.out.free 1
      have HC := hide hc0
      clear hc hc0
      go_wp2
      obtain ⟨z0, z1, KG⟩ := two R2X.out (.slice i1 j1 k1) (.slice i2 j2 k2)
      exact bodyPost_ret (v := .agg #[.slice i1 j1 k1, .slice i2 j2 k2]) (by simp [results, Tryz.results104, go_sem, z0, z1]) rfl
        ⟨.inl ⟨HC.out, _, _, rfl, (O1X.out.kept KG (fun x hx => by have := (O1X.out.leads x hx).1; simp; omega)).mono (by omega), (O2X.out.kept KG (fun x hx => by have := (O2X.out.leads x hx).1; simp; omega)).mono (by omega), DD.out⟩, KG.toBelow HBX.out HBX.out.size (by simp; omega)⟩
    · refine (refuseCode_yes _ _ hc).mono ?_
      rintro e w2 ⟨rfl, rfl⟩
      go_wp2
      exact ⟨rfl, .inr ⟨hc, rfl⟩, HBX.out⟩
  | false =>
    have HO := hide (show writeOut xs ps a d = o by rw [Ho.out]; rfl)
    go_wp2_with fail
    rw [← hW]
    clear hW
    go_wp2_with fail
    refine (implWrite_any _ _ xs ps a d aF aR aU _ hn hn2 hd HR.out HP.out HS.out).mono ?_
    rw [HO.out]
    rintro e w1 ⟨⟨us, up, rfl, o1, o2, dd⟩, hb1⟩
    obtain ⟨i1, j1, k1, i2, j2, k2, rfl, rfl, r3, r2, hB, hz⟩ := (HRest.out us up w1 o1 o2 dd hb1).out
    have c0 : w1.cell? ⟨w.heap.size + 1 + 1 + 1, 0, none⟩ = some (.slice none 0 0) := r3.cell 0
    have c1' : w1.cell? ⟨w.heap.size + 1 + 1 + 1, 1, none⟩ = some (.slice none 0 0) := r3.cell 1
    have c2' : w1.cell? ⟨w.heap.size + 1 + 1 + 1, 2, none⟩ = some (.string ⟨#[]⟩) := r3.cell 2
    have c3 : w1.cell? ⟨w.heap.size + 1 + 1 + 1, 3, none⟩ = some (.int .i64 0) := r3.cell 3
    have f0 := r3.free 0
    have f1 := r3.free 1
    have f2 := r3.free 2
    have f3 := r3.free 3
    have O1 := hide o1
    have O2 := hide o2
    have DD := hide dd
    have R3 := hide r3
    have R2 := hide r2
    have HBw := hide hB
    clear o1 o2 dd r3 r2 hB hb1 HRest
    go_wp2_with fail
    obtain ⟨q0, q1, q2, q3, KF⟩ := four R3.out (.slice i1 j1 k1) (.slice i2 j2 k2) (.string o.t) (.int .i64 o.c)
    obtain ⟨X, hX⟩ : ∃ X, X = ((((w1.setCell ⟨w.heap.size + 1 + 1 + 1, 0, none⟩ (.slice i1 j1 k1)).setCell ⟨w.heap.size + 1 + 1 + 1, 1, none⟩ (.slice i2 j2 k2)).setCell ⟨w.heap.size + 1 + 1 + 1, 2, none⟩ (.string o.t)).setCell ⟨w.heap.size + 1 + 1 + 1, 3, none⟩ (.int .i64 o.c)) := ⟨_, rfl⟩
    rw [← hX] at q0 q1 q2 q3 KF ⊢
    have HBX := hide (KF.toBelow HBw.out HBw.out.size (by simp; omega))
    have R2X := hide (KF.row R2.out (by simp))
    have O1X := hide (O1.out.kept KF (fun x hx => by have := (O1.out.leads x hx).1; simp; omega))
    have O2X := hide (O2.out.kept KF (fun x hx => by have := (O2.out.leads x hx).1; simp; omega))
    clear KF hX c0 c1' c2' c3 f0 f1 f2 f3
    by_cases hc : o.c = 0
    · have hc0 := hc
      rw [hc] at q3
      rw [hc]
      refine (refuseCode_no _).mono ?_
      rintro e w2 ⟨rfl, rfl⟩
      have d0 : w2.cell? ⟨w.heap.size + 1 + 1, 0, none⟩ = some (.slice none 0 0) := R2X.out.cell 0
      have d1 : w2.cell? ⟨w.heap.size + 1 + 1, 1, none⟩ = some (.slice none 0 0) := R2X.out.cell 1
      have g0 := R2X.out.free 0
      have g1 := R2X.out.free 1
      have HC := hide hc0
      clear hc hc0
      go_wp2
      obtain ⟨z0, z1, KG⟩ := two R2X.out (.slice i1 j1 k1) (.slice i2 j2 k2)
      exact bodyPost_ret (v := .agg #[.slice i1 j1 k1, .slice i2 j2 k2]) (by simp [results, Tryz.results104, go_sem, z0, z1]) rfl
        ⟨.inl ⟨HC.out, _, _, rfl, (O1X.out.kept KG (fun x hx => by have := (O1X.out.leads x hx).1; simp; omega)).mono (by omega), (O2X.out.kept KG (fun x hx => by have := (O2X.out.leads x hx).1; simp; omega)).mono (by omega), DD.out⟩, KG.toBelow HBX.out HBX.out.size (by simp; omega)⟩
    · refine (refuseCode_yes _ _ hc).mono ?_
      rintro e w2 ⟨rfl, rfl⟩
      go_wp2
      exact ⟨rfl, .inr ⟨hc, rfl⟩, HBX.out⟩
end Go.Proofs.YtnpbmaajgiapmaaGreatDoor
