/- Unseal of the program and of the model: both answer the same code and text, at every text. -/
import Derived.Test.YtnpbmaajgiapmaaGreatDoorXG6CSeal
import Derived.Deep.RegionWith
import Derived.Test.YtnpbmaajgiapmaaGreatDoorRows
import Derived.WalkKit
import Derived.LaidEql
import Derived.Stop.Asserts
import Derived.RowKitTokens
namespace Go.Proofs.YtnpbmaajgiapmaaGreatDoor.St1
open Go.RowKit

theorem bcell {W w1 : World} (hb : Below W.heap.size W w1) : (∀ b o, b < W.heap.size → w1.cell? ⟨b, o, none⟩ = W.cell? ⟨b, o, none⟩) ∧ (∀ b o, b < W.heap.size → w1.frozen? ⟨b, o, none⟩ = W.frozen? ⟨b, o, none⟩) :=
  ⟨fun b o h => hb.cell (p := ⟨b, o, none⟩) h, fun b o h => hb.frozen (p := ⟨b, o, none⟩) h⟩
def bodyOf (s : ByteArray) : ByteArray := s.extract 0 (s.size - 4)
theorem body_size (s : ByteArray) : (bodyOf s).size = s.size - 4 := by simp [bodyOf]

set_option maxHeartbeats 400000 in
theorem implUnseal_long (s : ByteArray) (w : World) (hm : s.size ≤ maxLen) (h1 : 8000 < s.size) :
    Calls Tryz.prog 143 #[.string s] w fun e w' => e = .returned (.agg #[.string ⟨#[]⟩, .int .i64 0, .int .i64 2]) ∧ Below w.heap.size w w' := by
  unfold maxLen at hm
  go_enter Tryz.func143, Tryz.ntmps143
  go_wp2
  exact bodyPost_ret (v := .agg #[.string ⟨#[]⟩, .int .i64 0, .int .i64 2]) (by simp [results, Tryz.results143, go_sem]) rfl ⟨rfl, (Below.refl _ _).alloc (Nat.le_refl _) _⟩

set_option maxHeartbeats 400000 in
theorem implUnseal_short (s : ByteArray) (w : World) (h1 : s.size < 4) :
    Calls Tryz.prog 143 #[.string s] w fun e w' => e = .returned (.agg #[.string ⟨#[]⟩, .int .i64 0, .int .i64 4]) ∧ Below w.heap.size w w' := by
  go_enter Tryz.func143, Tryz.ntmps143
  go_wp2
  exact bodyPost_ret (v := .agg #[.string ⟨#[]⟩, .int .i64 0, .int .i64 4]) (by simp [results, Tryz.results143, go_sem]) rfl ⟨rfl, (Below.refl _ _).alloc (Nat.le_refl _) _⟩

theorem append_nothing (a : ByteArray) : a ++ (⟨#[]⟩ : ByteArray) = a := by
  apply ByteArray.ext
  simp

theorem toList_ne {a b : ByteArray} (h : ¬ a = b) : (a.toList == b.toList) = false := by
  rw [beq_eq_false_iff_ne]
  intro e
  exact h (ByteArray.ext (by rw [← Array.toList_inj, ← Lib.toList_data, ← Lib.toList_data]; exact e))

theorem three {w1 : World} {B : Nat} {u0 u1 u2 : Value} (h0 : w1.cell? ⟨B, 0, none⟩ = some u0) (h1 : w1.cell? ⟨B, 1, none⟩ = some u1) (h2 : w1.cell? ⟨B, 2, none⟩ = some u2) (v0 v1 v2 : Value) :
    (w1.setCell ⟨B, 0, none⟩ v0).cell? ⟨B, 0, none⟩ = some v0 ∧ ((w1.setCell ⟨B, 0, none⟩ v0).setCell ⟨B, 1, none⟩ v1).cell? ⟨B, 1, none⟩ = some v1 ∧
    (((w1.setCell ⟨B, 0, none⟩ v0).setCell ⟨B, 1, none⟩ v1).setCell ⟨B, 2, none⟩ v2).cell? ⟨B, 2, none⟩ = some v2 := by
  refine ⟨World.cell?_setCell_same _ _ _ h0, World.cell?_setCell_same (u := u1) _ _ _ ?_, World.cell?_setCell_same (u := u2) _ _ _ ?_⟩
  · rw [World.cell?_setCell_other _ _ _ _ (by simp)]; exact h1
  · rw [World.cell?_setCell_other _ _ _ _ (by simp), World.cell?_setCell_other _ _ _ _ (by simp)]; exact h2

theorem three_below {w w1 : World} {o : Obj} (h : Below (w.alloc o).heap.size (w.alloc o) w1) (v0 v1 v2 : Value) :
    Below w.heap.size w (((w1.setCell ⟨w.heap.size, 0, none⟩ v0).setCell ⟨w.heap.size, 1, none⟩ v1).setCell ⟨w.heap.size, 2, none⟩ v2) :=
  (((((Below.refl _ _).alloc (Nat.le_refl _) o).trans (h.mono (by simp))).setCell (Nat.le_refl _) _).setCell (Nat.le_refl _) _).setCell (Nat.le_refl _) _
theorem out_cells {w w1 : World} (c0 c1 c2 : Value) (t : TypeId) (h : Below (w.alloc (.cells #[c0, c1, c2] t)).heap.size (w.alloc (.cells #[c0, c1, c2] t)) w1) :
    w1.cell? ⟨w.heap.size, 0, none⟩ = some c0 ∧ w1.cell? ⟨w.heap.size, 1, none⟩ = some c1 ∧ w1.cell? ⟨w.heap.size, 2, none⟩ = some c2 := by
  have hn := heap_alloc_new w (.cells #[c0, c1, c2] t)
  refine ⟨?_, ?_, ?_⟩
  all_goals
    rw [h.cell (by simp), cell_of_row _ _ _ _ t (0, 0) hn]
    rfl

set_option maxHeartbeats 400000 in
theorem implUnseal_sum (s : ByteArray) (w : World) (h0 : 4 ≤ s.size) (h1 : s.size ≤ 8000) (hq : ¬ sealOf (s.extract 0 (s.size - 4)) = s) :
    Calls Tryz.prog 143 #[.string s] w fun e w' => e = .returned (.agg #[.string ⟨#[]⟩, .int .i64 0, .int .i64 5]) ∧ Below w.heap.size w w' := by
  have hbs : (s.extract 0 (s.size - 4)).size ≤ 7996 := by have := body_size s; unfold bodyOf at this; omega
  have hne := toList_ne hq
  clear hq
  go_enter Tryz.func143, Tryz.ntmps143
  go_wp2_with fail
  refine (implSeal_any _ _ hbs).mono ?_
  rintro e w1 ⟨rfl, hb1⟩
  have HB1 := hide hb1
  obtain ⟨hc1, hf1⟩ := bcell hb1
  clear hb1
  obtain ⟨c0, c1, c2⟩ := out_cells _ _ _ _ HB1.out
  obtain ⟨q0, q1, q2⟩ := three c0 c1 c2 (.string ⟨#[]⟩) (.int .i64 0) (.int .i64 5)
  clear c0 c1 c2
  go_wp2
  exact bodyPost_ret (v := .agg #[.string ⟨#[]⟩, .int .i64 0, .int .i64 5]) (by simp [results, Tryz.results143, go_sem, q0, q1, q2]) rfl ⟨rfl, three_below HB1.out _ _ _⟩

set_option maxHeartbeats 400000 in
theorem implUnseal_ok (s : ByteArray) (w : World) (h0 : 4 ≤ s.size) (h1 : s.size ≤ 8000) (hq : sealOf (s.extract 0 (s.size - 4)) = s) :
    Calls Tryz.prog 143 #[.string s] w fun e w' => e = .returned (.agg #[.string (s.extract 0 (s.size - 4)), .int .i64 0, .int .i64 0]) ∧ Below w.heap.size w w' := by
  have hbs : (s.extract 0 (s.size - 4)).size ≤ 7996 := by have := body_size s; unfold bodyOf at this; omega
  have HQ := hide hq
  clear hq
  go_enter Tryz.func143, Tryz.ntmps143
  go_wp2_with fail
  refine (implSeal_any _ _ hbs).mono ?_
  rintro e w1 ⟨rfl, hb1⟩
  rw [HQ.out]
  have HB1 := hide hb1
  obtain ⟨hc1, hf1⟩ := bcell hb1
  clear hb1
  go_wp2_with fail
  refine (joinTexts_any _ _ _ (by omega) (by decide)).mono ?_
  rintro e w2 ⟨rfl, hb2⟩
  have HB2 := hide (HB1.out.trans (hb2.mono HB1.out.size))
  clear hb2 hc1 hf1
  obtain ⟨hc1, hf1⟩ := bcell HB2.out
  obtain ⟨c0, c1, c2⟩ := out_cells _ _ _ _ HB2.out
  obtain ⟨q0, q1, q2⟩ := three c0 c1 c2 (.string (s.extract 0 (s.size - 4))) (.int .i64 0) (.int .i64 0)
  clear c0 c1 c2
  rw [append_nothing]
  go_wp2
  exact bodyPost_ret (v := .agg #[.string (s.extract 0 (s.size - 4)), .int .i64 0, .int .i64 0]) (by simp [results, Tryz.results143, go_sem, q0, q1, q2]) rfl ⟨rfl, three_below HB2.out _ _ _⟩

set_option maxHeartbeats 400000 in
theorem specUnseal_long (s : ByteArray) (w : World) (hm : s.size ≤ maxLen) (h1 : 8000 < s.size) :
    Calls Tryz.prog 95 #[.string s] w fun e w' => e = .returned (.agg #[.string ⟨#[]⟩, .int .i64 0, .int .i64 2]) ∧ Below w.heap.size w w' := by
  unfold maxLen at hm
  go_enter Tryz.func95, Tryz.ntmps95
  go_wp2
  exact bodyPost_ret (v := .agg #[.string ⟨#[]⟩, .int .i64 0, .int .i64 2]) (by simp [results, Tryz.results95, go_sem]) rfl ⟨rfl, (Below.refl _ _).alloc (Nat.le_refl _) _⟩

set_option maxHeartbeats 400000 in
theorem specUnseal_short (s : ByteArray) (w : World) (h1 : s.size < 4) :
    Calls Tryz.prog 95 #[.string s] w fun e w' => e = .returned (.agg #[.string ⟨#[]⟩, .int .i64 0, .int .i64 4]) ∧ Below w.heap.size w w' := by
  go_enter Tryz.func95, Tryz.ntmps95
  go_wp2
  exact bodyPost_ret (v := .agg #[.string ⟨#[]⟩, .int .i64 0, .int .i64 4]) (by simp [results, Tryz.results95, go_sem]) rfl ⟨rfl, (Below.refl _ _).alloc (Nat.le_refl _) _⟩

theorem below_drew {W w1 : World} (h : Below W.drew.heap.size W.drew w1) : Below W.heap.size W w1 := ((Below.refl W.heap.size W).drew).trans h

theorem seal_parts (s : ByteArray) : s.extract 0 (s.size - 4) ++ s.extract (s.size - 4) s.size = s := by
  apply ByteArray.ext
  rw [ByteArray.data_append, ByteArray.data_extract, ByteArray.data_extract, Array.extract_append_extract, Nat.zero_min, Nat.max_eq_right (Nat.sub_le _ _)]
  exact Array.extract_size
theorem seal_tail (s : ByteArray) (h : four (crcOf 0 (s.extract 0 (s.size - 4))) = s.extract (s.size - 4) s.size) : sealOf (s.extract 0 (s.size - 4)) = s := by
  unfold sealOf
  rw [h, seal_parts s]
theorem tail_seal (s : ByteArray) (h : sealOf (s.extract 0 (s.size - 4)) = s) : four (crcOf 0 (s.extract 0 (s.size - 4))) = s.extract (s.size - 4) s.size := by
  unfold sealOf at h
  have e := seal_parts s
  generalize s.extract 0 (s.size - 4) = b at *
  generalize s.extract (s.size - 4) s.size = c at *
  have h2 : b ++ four (crcOf 0 b) = b ++ c := h.trans e.symm
  have h3 := congrArg ByteArray.data h2
  simp only [ByteArray.data_append] at h3
  exact ByteArray.ext (Array.append_right_inj _ |>.1 h3)

set_option maxHeartbeats 1000000 in
theorem specUnseal_sum (s : ByteArray) (w : World) (h0 : 4 ≤ s.size) (h1 : s.size ≤ 8000) (hq : ¬ sealOf (s.extract 0 (s.size - 4)) = s) :
    Calls Tryz.prog 95 #[.string s] w fun e w' => e = .returned (.agg #[.string ⟨#[]⟩, .int .i64 0, .int .i64 5]) ∧ Below w.heap.size w w' := by
  have hbs : (s.extract 0 (s.size - 4)).size ≤ 7996 := by have := body_size s; unfold bodyOf at this; omega
  have HN : Hid ((!(four (crcOf 0 (s.extract 0 (s.size - 4)))).toList == (s.extract (s.size - 4) s.size).toList) = true) := by
    rw [toList_ne (fun h => hq (seal_tail s h))]; exact rfl
  have hb := crcOf_bd 0 (s.extract 0 (s.size - 4))
  clear hq
  have e1 : (0 : Int) ≤ (s.size : Int) - 4 := by omega
  have e2 : (s.size : Int) - 4 ≤ (s.size : Int) := by omega
  have e3 : ((s.size : Int) - 4).toNat = s.size - 4 := by omega
  have e4 : IntKind.i64.wrap ((s.size : Int) - 4) = (s.size : Int) - 4 := by rw [IntKind.wrap_i64]; omega
  go_enter Tryz.func95, Tryz.ntmps95
  go_wp2_with fail
  go_region_with (first
    | (go_at_call 124; refine (specCrc_any _ _ _ (by unfold maxLen; omega) (by omega) (by omega)).mono ?_; rintro e w' ⟨rfl, rfl⟩)
    | (go_at_call 123; refine (specFour_any _ _ hb.1 hb.2).mono ?_; rintro e w1 ⟨rfl, hb1⟩))
  have HB1 := hide (below_drew hb1)
  clear hb1 e1 e2 e3 e4
  obtain ⟨hc1, hf1⟩ := bcell HB1.out
  obtain ⟨c0, c1, c2⟩ := out_cells _ _ _ _ HB1.out
  obtain ⟨q0, q1, q2⟩ := three c0 c1 c2 (.string ⟨#[]⟩) (.int .i64 0) (.int .i64 5)
  clear c0 c1 c2
  have hne := HN.out
  go_wp2
  all_goals first
    | (exfalso; have hx : (!(four (crcOf 0 (s.extract 0 (s.size - 4)))).toList == (s.extract (s.size - 4) s.size).toList) = false := by assumption
       rw [hne] at hx; exact Bool.noConfusion hx)
    | exact bodyPost_ret (v := .agg #[.string ⟨#[]⟩, .int .i64 0, .int .i64 5]) (by simp [results, Tryz.results95, go_sem, q0, q1, q2]) rfl ⟨rfl, three_below HB1.out _ _ _⟩

set_option maxHeartbeats 1000000 in
theorem specUnseal_ok (s : ByteArray) (w : World) (h0 : 4 ≤ s.size) (h1 : s.size ≤ 8000) (hq : sealOf (s.extract 0 (s.size - 4)) = s) :
    Calls Tryz.prog 95 #[.string s] w fun e w' => e = .returned (.agg #[.string (s.extract 0 (s.size - 4)), .int .i64 0, .int .i64 0]) ∧ Below w.heap.size w w' := by
  have hbs : (s.extract 0 (s.size - 4)).size ≤ 7996 := by have := body_size s; unfold bodyOf at this; omega
  have HN : Hid ((!(four (crcOf 0 (s.extract 0 (s.size - 4)))).toList == (s.extract (s.size - 4) s.size).toList) = false) := by
    rw [tail_seal s hq, beq_self_eq_true]; exact rfl
  have hb := crcOf_bd 0 (s.extract 0 (s.size - 4))
  clear hq
  have e1 : (0 : Int) ≤ (s.size : Int) - 4 := by omega
  have e2 : (s.size : Int) - 4 ≤ (s.size : Int) := by omega
  have e3 : ((s.size : Int) - 4).toNat = s.size - 4 := by omega
  have e4 : IntKind.i64.wrap ((s.size : Int) - 4) = (s.size : Int) - 4 := by rw [IntKind.wrap_i64]; omega
  go_enter Tryz.func95, Tryz.ntmps95
  go_wp2_with fail
  go_region_with (first
    | (go_at_call 124; refine (specCrc_any _ _ _ (by unfold maxLen; omega) (by omega) (by omega)).mono ?_; rintro e w' ⟨rfl, rfl⟩)
    | (go_at_call 123; refine (specFour_any _ _ hb.1 hb.2).mono ?_; rintro e w1 ⟨rfl, hb1⟩))
  have HB1 := hide (below_drew hb1)
  clear hb1 e1 e2 e3 e4
  obtain ⟨hc1, hf1⟩ := bcell HB1.out
  obtain ⟨c0, c1, c2⟩ := out_cells _ _ _ _ HB1.out
  obtain ⟨q0, q1, q2⟩ := three c0 c1 c2 (.string (s.extract 0 (s.size - 4))) (.int .i64 0) (.int .i64 0)
  clear c0 c1 c2
  have hne := HN.out
  go_wp2
  all_goals first
    | (exfalso; have hx : (!(four (crcOf 0 (s.extract 0 (s.size - 4)))).toList == (s.extract (s.size - 4) s.size).toList) = true := by assumption
       rw [hne] at hx; exact Bool.noConfusion hx)
    | exact bodyPost_ret (v := .agg #[.string (s.extract 0 (s.size - 4)), .int .i64 0, .int .i64 0]) (by simp [results, Tryz.results95, go_sem, q0, q1, q2]) rfl ⟨rfl, three_below HB1.out _ _ _⟩
end Go.Proofs.YtnpbmaajgiapmaaGreatDoor.St1
/- errors.As at a nil error and at an error whose own type is the target's: Go's own text of errors.As and errors.as, walked. -/
namespace Go.Proofs.YtnpbmaajgiapmaaGreatDoor.St3
open Go.RowKit Go.Extern.Stop Go.Stop Go.Extern

theorem as_nil (t : Value) (w : World) :
    Calls Tryz.prog 111 #[.nilIface, t] w fun e w' => e = .returned (.bool false) ∧ w' = w := by
  go_enter Tryz.func111, Tryz.ntmps111
  go_wp2
  go_ret
  exact ⟨rfl, rfl⟩

theorem Tryz.valueOf45 (t : Addr) (w : World) : (ReflectliteValue.unpack (.iface 184 (.pointer (some t)))).run Tryz.prog w
    = .ok (.agg #[.pointer (some ⟨5, 184, none⟩), .pointer (some ⟨w.heap.size, 0, none⟩), .int .u64 150]) (w.alloc (.cells #[.pointer (some t)] 184)) := by kernel_rfl
theorem Tryz.type45 (a : Addr) (w : World) : (ReflectliteValue.methodAny (ReflectliteValue.valueError "reflectlite.Value.Type" 0) (fun t _ _ _ => ReflectliteType.toType t) #[.agg #[.pointer (some ⟨5, 184, none⟩), .pointer (some a), .int .u64 150]]).run Tryz.prog w
    = .ok (.iface 204 (.agg #[.pointer (some ⟨5, 184, none⟩)])) w := by kernel_rfl
theorem Tryz.methodKind (h : Value) (w : World) : (Go.method 376 204 (.agg #[h]) "Kind").run Tryz.prog w = .ok (199, h) w := by kernel_rfl
theorem Tryz.kind45 (w : World) : ((ReflectliteType.abiMethod fun t => (fun a : Nat => Value.int IntKind.u8 (a : Int)) <$> Rtype.kind t) #[.pointer (some ⟨5, 184, none⟩)]).run Tryz.prog w = .ok (.int .u8 22) w := by kernel_rfl
theorem Tryz.kind43 (w : World) : ((ReflectliteType.abiMethod fun t => (fun a : Nat => Value.int IntKind.u8 (a : Int)) <$> Rtype.kind t) #[.pointer (some ⟨5, 183, none⟩)]).run Tryz.prog w = .ok (.int .u8 25) w := by kernel_rfl
theorem Tryz.at45 (z : Sem Value) (f : TypeId → Addr → Nat → Nat → Sem Value) (a : Addr) (W : World) :
    (ReflectliteValue.method z f #[.agg #[.pointer (some ⟨5, 184, none⟩), .pointer (some a), .int .u64 150]]).run Tryz.prog W = (f 184 a 150 22).run Tryz.prog W := by kernel_rfl
theorem Tryz.isNil45 (a p : Addr) (W : World) (ha : W.cell? a = some (.pointer (some p))) :
    (ReflectliteValue.method (ReflectliteValue.valueError "reflectlite.Value.IsNil" 0) ReflectliteValue.isNil #[.agg #[.pointer (some ⟨5, 184, none⟩), .pointer (some a), .int .u64 150]]).run Tryz.prog W = .ok (.bool false) W := by
  rw [Tryz.at45]
  simp [ReflectliteValue.isNil, loadVar, isAgg, underlying, Tryz.underlying184, ha, Result.andThen]
theorem Tryz.methodElem (h : Value) (w : World) : (Go.method 376 204 (.agg #[h]) "Elem").run Tryz.prog w = .ok (211, .agg #[h]) w := by kernel_rfl
theorem Tryz.methodImplements (h : Value) (w : World) : (Go.method 376 204 (.agg #[h]) "Implements").run Tryz.prog w = .ok (212, .agg #[h]) w := by kernel_rfl
theorem Tryz.methodAssignableTo (h : Value) (w : World) : (Go.method 376 204 (.agg #[h]) "AssignableTo").run Tryz.prog w = .ok (209, .agg #[h]) w := by kernel_rfl
theorem Tryz.elem45 (w : World) : (ReflectliteType.method ReflectliteType.elem #[.agg #[.pointer (some ⟨5, 184, none⟩)]]).run Tryz.prog w = .ok (.iface 204 (.agg #[.pointer (some ⟨5, 183, none⟩)])) w := by kernel_rfl
theorem Tryz.implements43 (w : World) : (ReflectliteType.relation "Implements" ReflectliteType.implements_ #[.agg #[.pointer (some ⟨5, 183, none⟩)], .iface 204 (.agg #[.pointer (some ⟨5, 56, none⟩)])]).run Tryz.prog w = .ok (.bool true) w := by kernel_rfl
theorem Tryz.typeOf43 (v : Value) (w : World) : (ReflectliteType.typeOf #[.iface 183 v]).run Tryz.prog w = .ok (.iface 204 (.agg #[.pointer (some ⟨5, 183, none⟩)])) w := by kernel_rfl
theorem Tryz.assignable43 (w : World) : (ReflectliteType.relation "AssignableTo" ReflectliteType.assignableTo #[.agg #[.pointer (some ⟨5, 183, none⟩)], .iface 204 (.agg #[.pointer (some ⟨5, 183, none⟩)])]).run Tryz.prog w = .ok (.bool true) w := by kernel_rfl
theorem Tryz.valueOf43 (c : Int) (w : World) : (ReflectliteValue.unpack (.iface 183 (.agg #[.int .i64 c]))).run Tryz.prog w
    = .ok (.agg #[.pointer (some ⟨5, 183, none⟩), .pointer (some ⟨w.heap.size, 0, none⟩), .int .u64 153]) (w.alloc (.cells #[.int .i64 c] 183)) := by kernel_rfl
theorem Tryz.elemOf45 (w : World) : (Rtype.elem? 184).run Tryz.prog w = .ok (some 183) w := by kernel_rfl
theorem Tryz.mk43 (p : Addr) (w : World) : (ReflectliteValue.mk 183 p ReflectliteValue.flagAddr).run Tryz.prog w = .ok (.agg #[.pointer (some ⟨5, 183, none⟩), .pointer (some p), .int .u64 409]) w := by kernel_rfl
theorem Tryz.elemV45 (a p : Addr) (W : World) (ha : W.cell? a = some (.pointer (some p))) :
    (ReflectliteValue.method (ReflectliteValue.valueError "reflectlite.Value.Elem" 0) ReflectliteValue.elem #[.agg #[.pointer (some ⟨5, 184, none⟩), .pointer (some a), .int .u64 150]]).run Tryz.prog W
      = .ok (.agg #[.pointer (some ⟨5, 183, none⟩), .pointer (some p), .int .u64 409]) W := by
  rw [Tryz.at45]
  simp [ReflectliteValue.elem, loadVar, isAgg, underlying, Tryz.underlying184, ha, Result.andThen, Tryz.elemOf45, Tryz.mk43]
theorem Tryz.parts43a (a : Addr) (w : World) : (ReflectliteValue.parts (.agg #[.pointer (some ⟨5, 183, none⟩), .pointer (some a), .int .u64 409])).run Tryz.prog w = .ok (some (183, a, 409)) w := by kernel_rfl
theorem Tryz.parts43 (a : Addr) (w : World) : (ReflectliteValue.parts (.agg #[.pointer (some ⟨5, 183, none⟩), .pointer (some a), .int .u64 153])).run Tryz.prog w = .ok (some (183, a, 153)) w := by kernel_rfl
theorem Tryz.direct43 (w : World) : (Rtype.directlyAssignable 183 183).run Tryz.prog w = .ok true w := by kernel_rfl
theorem Tryz.size43 (w : World) : (sizeOf 183).run Tryz.prog w = .ok 1 w := by kernel_rfl
theorem Tryz.set43 (ta b : Addr) (c : Int) (old : Value) (W : World) (hb : W.cell? b = some (.int .i64 c)) (ht : W.cell? ta = some old) (hf : W.frozen? ta = false) :
    (ReflectliteValue.set #[.agg #[.pointer (some ⟨5, 183, none⟩), .pointer (some ta), .int .u64 409], .agg #[.pointer (some ⟨5, 183, none⟩), .pointer (some b), .int .u64 153]]).run Tryz.prog W
      = .ok (.tuple #[]) (W.setCell ta (.int .i64 c)) := by
  have hl := run_loadCells_list (P := Tryz.prog) W b [.int .i64 c] (fun j v hj => by
    match j, hj with
    | 0, hj =>
      simp at hj
      subst hj
      have e : b.add 0 = b := by simp [Addr.add]
      rw [e]; exact hb)
  have hs : (storeCells ta [Value.int .i64 c]).run Tryz.prog W = .ok () (W.setCell ta (.int .i64 c)) := by
    simp [storeCells, Addr.add]
    rw [run_store Tryz.prog W ta _ _ (by rfl)]
    simp [ht, hf]
  simp only [List.length_cons, List.length_nil, Nat.zero_add] at hl
  have hf : ReflectliteValue.set #[.agg #[.pointer (some ⟨5, 183, none⟩), .pointer (some ta), .int .u64 409], .agg #[.pointer (some ⟨5, 183, none⟩), .pointer (some b), .int .u64 153]] =
      (ReflectliteValue.parts (.agg #[.pointer (some ⟨5, 183, none⟩), .pointer (some ta), .int .u64 409]) >>= fun p => ReflectliteValue.parts (.agg #[.pointer (some ⟨5, 183, none⟩), .pointer (some b), .int .u64 153]) >>= fun q => _) := rfl
  rw [hf]
  simp only [Sem.run_bind, Tryz.parts43a, Tryz.parts43, Result.andThen]
  simp [ReflectliteValue.flagAddr, loadVar, isAgg, underlying, Tryz.underlying183, hl, hs, Result.andThen, Tryz.direct43, storeVar, Value.cells]

set_option maxHeartbeats 4000000 in
theorem as_hit (c : Int) (t : Addr) (old : Value) (w : World) (hg : w.cell? ⟨3, 0, none⟩ = some (.iface 204 (.agg #[.pointer (some ⟨5, 56, none⟩)]))) (ht0 : w.cell? t = some old) (hf0 : w.frozen? t = false) :
    Calls Tryz.prog 111 #[.iface 183 (.agg #[.int .i64 c]), .iface 184 (.pointer (some t))] w fun ev w' => ev = .returned (.bool true) ∧ w' = ((((w.alloc (.cells #[.pointer (some t)] 184)).alloc (.cells #[.pointer (some ⟨5, 184, none⟩), .pointer (some ⟨w.heap.size, 0, none⟩), .int .u64 150] 171)).alloc (.cells #[.pointer (some ⟨5, 184, none⟩), .pointer (some ⟨w.heap.size, 0, none⟩), .int .u64 150] 171)).alloc (.cells #[.int .i64 c] 183)).setCell t (.int .i64 c) := by
  have h6 := @run_callFunc_extern Tryz.prog 137 _ (fun args => ReflectliteValue.unpack (args.getD 0 (.tuple #[]))) Tryz.func137 (by kernel_rfl) (by kernel_rfl) (by kernel_rfl) (by kernel_rfl)
  have h7 := @run_callFunc_extern Tryz.prog 138 _ (ReflectliteValue.methodAny (ReflectliteValue.valueError "reflectlite.Value.Type" 0) (fun t _ _ _ => ReflectliteType.toType t)) Tryz.func138 (by kernel_rfl) (by kernel_rfl) (by kernel_rfl) (by kernel_rfl)
  have h8 := @run_callFunc_extern Tryz.prog 139 _ (ReflectliteValue.method (ReflectliteValue.valueError "reflectlite.Value.IsNil" 0) ReflectliteValue.isNil) Tryz.func139 (by kernel_rfl) (by kernel_rfl) (by kernel_rfl) (by kernel_rfl)
  have h27 := @run_callFunc_extern Tryz.prog 199 _ (ReflectliteType.abiMethod fun t => do pure (.int .u8 (← Rtype.kind t))) Tryz.func199 (by kernel_rfl) (by kernel_rfl) (by kernel_rfl) (by kernel_rfl)
  have h37 := @run_callFunc_extern Tryz.prog 211 _ (ReflectliteType.method ReflectliteType.elem) Tryz.func211 (by kernel_rfl) (by kernel_rfl) (by kernel_rfl) (by kernel_rfl)
  have h38 := @run_callFunc_extern Tryz.prog 212 _ (ReflectliteType.relation "Implements" ReflectliteType.implements_) Tryz.func212 (by kernel_rfl) (by kernel_rfl) (by kernel_rfl) (by kernel_rfl)
  have h10 := @run_callFunc_extern Tryz.prog 145 _ ReflectliteType.typeOf Tryz.func145 (by kernel_rfl) (by kernel_rfl) (by kernel_rfl) (by kernel_rfl)
  have h35 := @run_callFunc_extern Tryz.prog 209 _ (ReflectliteType.relation "AssignableTo" ReflectliteType.assignableTo) Tryz.func209 (by kernel_rfl) (by kernel_rfl) (by kernel_rfl) (by kernel_rfl)
  have h11 := @run_callFunc_extern Tryz.prog 157 _ (ReflectliteValue.method (ReflectliteValue.valueError "reflectlite.Value.Elem" 0) ReflectliteValue.elem) Tryz.func157 (by kernel_rfl) (by kernel_rfl) (by kernel_rfl) (by kernel_rfl)
  have h12 := @run_callFunc_extern Tryz.prog 158 _ ReflectliteValue.set Tryz.func158 (by kernel_rfl) (by kernel_rfl) (by kernel_rfl) (by kernel_rfl)
  have tO := Tryz.typeOf43
  have mA := Tryz.methodAssignableTo
  have a25 := Tryz.assignable43
  have v25 := Tryz.valueOf43
  have f6 := Tryz.valueOf45
  have f7 := Tryz.type45
  have mK := Tryz.methodKind
  have mE := Tryz.methodElem
  have mI := Tryz.methodImplements
  have k27 := Tryz.kind45
  have k25 := Tryz.kind43
  have e27 := Tryz.elem45
  have i25 := Tryz.implements43
  have n8 := Tryz.isNil45 ⟨w.heap.size, 0, none⟩ t ((w.alloc (.cells #[.pointer (some t)] 184)).alloc (.cells #[.pointer (some ⟨5, 184, none⟩), .pointer (some ⟨w.heap.size, 0, none⟩), .int .u64 150] 171)) (by simp)
  have hlt : 3 < w.heap.size := by
    rcases Nat.lt_or_ge 3 w.heap.size with h | h
    · exact h
    · simp [World.cell?, Array.getElem?_eq_none h] at hg
  have hg2 : ((w.alloc (.cells #[.pointer (some t)] 184)).alloc (.cells #[.pointer (some ⟨5, 184, none⟩), .pointer (some ⟨w.heap.size, 0, none⟩), .int .u64 150] 171)).cell? ⟨3, 0, none⟩ = some (.iface 204 (.agg #[.pointer (some ⟨5, 56, none⟩)])) := by
    rw [World.cell?_alloc_lt _ _ ⟨3, 0, none⟩ (by simp <;> omega), World.cell?_alloc_lt _ _ ⟨3, 0, none⟩ hlt]; exact hg
  have htl : t.block < w.heap.size := by
    rcases Nat.lt_or_ge t.block w.heap.size with h | h
    · exact h
    · simp [World.cell?, Array.getElem?_eq_none h] at ht0
  have el := Tryz.elemV45 ⟨w.heap.size, 0, none⟩ t (((w.alloc (.cells #[.pointer (some t)] 184)).alloc (.cells #[.pointer (some ⟨5, 184, none⟩), .pointer (some ⟨w.heap.size, 0, none⟩), .int .u64 150] 171)).alloc (.cells #[.pointer (some ⟨5, 184, none⟩), .pointer (some ⟨w.heap.size, 0, none⟩), .int .u64 150] 171)) (by rw [World.cell?_alloc_lt _ _ ⟨w.heap.size, 0, none⟩ (by simp; omega)]; simp)
  have st := Tryz.set43 t ⟨w.heap.size + 1 + 1 + 1, 0, none⟩ c old ((((w.alloc (.cells #[.pointer (some t)] 184)).alloc (.cells #[.pointer (some ⟨5, 184, none⟩), .pointer (some ⟨w.heap.size, 0, none⟩), .int .u64 150] 171)).alloc (.cells #[.pointer (some ⟨5, 184, none⟩), .pointer (some ⟨w.heap.size, 0, none⟩), .int .u64 150] 171)).alloc (.cells #[.int .i64 c] 183))
    (by rw [World.cell?_alloc_at _ _ _ _ (by simp)]; rfl)
    (by rw [World.cell?_alloc_lt _ _ t (by simp; omega), World.cell?_alloc_lt _ _ t (by simp; omega), World.cell?_alloc_lt _ _ t (by simp; omega), World.cell?_alloc_lt _ _ t htl]; exact ht0)
    (by rw [World.frozen?_alloc_old _ _ t (by simp; omega), World.frozen?_alloc_old _ _ t (by simp; omega), World.frozen?_alloc_old _ _ t (by simp; omega), World.frozen?_alloc_old _ _ t (Nat.ne_of_lt htl)]; exact hf0)
  go_enter Tryz.func111, Tryz.ntmps111
  go_wp2
  refine wp_loop_rounds 1 ?_
  rw [rounds_succ]
  go_wp2
  go_ret
  exact ⟨rfl, rfl⟩
end Go.Proofs.YtnpbmaajgiapmaaGreatDoor.St3
/- bytesCode: the code that is behind an error of bytesFault; 0 of no error. -/
namespace Go.Proofs.YtnpbmaajgiapmaaGreatDoor.St3
open Go.RowKit
theorem hide {p : Prop} (h : p) : Hid p := h

/-- The package-level variable errors.errorType as start-up lays it. -/
def Laid (w : World) : Prop := w.cell? ⟨3, 0, none⟩ = some (.iface 204 (.agg #[.pointer (some ⟨5, 56, none⟩)]))
theorem laid_lt {w : World} (h : Laid w) : 3 < w.heap.size := by
  rcases Nat.lt_or_ge 3 w.heap.size with h' | h'
  · exact h'
  · simp [Laid, World.cell?, Array.getElem?_eq_none h'] at h
theorem laid_alloc {w : World} (h : Laid w) (o : Obj) : Laid (w.alloc o) := by
  unfold Laid
  rw [World.cell?_alloc_lt _ _ ⟨3, 0, none⟩ (laid_lt h)]; exact h
theorem laid_below {w w' : World} {B : Nat} (h : Laid w) (hb : Below B w w') (h0 : 3 < B) : Laid w' := by
  unfold Laid
  rw [hb.cell (p := ⟨3, 0, none⟩) h0]; exact h

set_option maxHeartbeats 400000 in
theorem bytesCode_nil (w : World) : Calls Tryz.prog 116 #[.nilIface] w fun e w' => e = .returned (.int .i64 0) ∧ Below w.heap.size w w' := by
  go_enter Tryz.func116, Tryz.ntmps116
  go_wp2_with fail
  refine (as_nil _ _).mono ?_
  rintro e w' ⟨rfl, rfl⟩
  go_wp2
  go_ret
  exact ⟨rfl, (Below.refl _ _).alloc (Nat.le_refl _) _⟩

set_option maxHeartbeats 400000 in
theorem bytesCode_fault (c : Int) (w : World) (hg : Laid w) : Calls Tryz.prog 116 #[.iface 183 (.agg #[.int .i64 c])] w fun e w' => e = .returned (.int .i64 c) ∧ Below w.heap.size w w' := by
  have hL := laid_alloc hg (.cells #[.int .i64 0] 183)
  have HG := hide hL
  clear hL hg
  go_enter Tryz.func116, Tryz.ntmps116
  go_wp2_with fail
  refine (as_hit c _ (.int .i64 0) _ HG.out (by simp) (by simp)).mono ?_
  rintro e w' ⟨rfl, rfl⟩
  go_wp2
  go_ret
  exact ⟨rfl, (((((Below.refl _ _).alloc (Nat.le_refl _) _).alloc (by simp <;> omega) _).alloc (by simp <;> omega) _).alloc (by simp <;> omega) _).alloc (by simp <;> omega) _⟩
end Go.Proofs.YtnpbmaajgiapmaaGreatDoor.St3
