/- Unseal of the program and of the model: both answer the same code and text, at every text. -/
import Derived.Test.YtnpbmaajgiapmaaGreatDoorXG1CCrc
import Derived.Deep.RegionWith
import Derived.Test.YtnpbmaajgiapmaaGreatDoorXG15Copy
import Derived.Test.YtnpbmaajgiapmaaGreatDoorXG2NNum
import Derived.Test.YtnpbmaajgiapmaaGreatDoorXG5NPutT
import Derived.BigQuiet
import Derived.OrdersHeld
import Derived.Deep.RegionHeld3
namespace Go.Proofs.YtnpbmaajgiapmaaGreatDoor.St1
open Go.RowKit

theorem bcell {W w1 : World} (hb : Below W.heap.size W w1) : (∀ b o, b < W.heap.size → w1.cell? ⟨b, o, none⟩ = W.cell? ⟨b, o, none⟩) ∧ (∀ b o, b < W.heap.size → w1.frozen? ⟨b, o, none⟩ = W.frozen? ⟨b, o, none⟩) :=
  ⟨fun b o h => hb.cell (p := ⟨b, o, none⟩) h, fun b o h => hb.frozen (p := ⟨b, o, none⟩) h⟩
def bodyOf (s : ByteArray) : ByteArray := s.extract 0 (s.size - 4)
theorem body_size (s : ByteArray) : (bodyOf s).size = s.size - 4 := by simp [bodyOf]

set_option maxHeartbeats 400000 in
theorem implUnseal_long (s : ByteArray) (w : World) (hm : s.size ≤ maxLen) (h1 : 8000 < s.size) :
    Calls Tryz.prog 143 #[.string s] w fun e w' => e = .returned (.agg #[.string ⟨#[]⟩, .int .i64 0, .int .i64 2]) ∧ Below w.heap.size w w' := by
  unfold maxLen at hm
  go_enter Tryz.func143, Tryz.ntmps143
  go_wp2
  exact bodyPost_ret (v := .agg #[.string ⟨#[]⟩, .int .i64 0, .int .i64 2]) (by simp [results, Tryz.results143, go_sem]) rfl ⟨rfl, (Below.refl _ _).alloc (Nat.le_refl _) _⟩

set_option maxHeartbeats 400000 in
theorem implUnseal_short (s : ByteArray) (w : World) (h1 : s.size < 4) :
    Calls Tryz.prog 143 #[.string s] w fun e w' => e = .returned (.agg #[.string ⟨#[]⟩, .int .i64 0, .int .i64 4]) ∧ Below w.heap.size w w' := by
  go_enter Tryz.func143, Tryz.ntmps143
  go_wp2
  exact bodyPost_ret (v := .agg #[.string ⟨#[]⟩, .int .i64 0, .int .i64 4]) (by simp [results, Tryz.results143, go_sem]) rfl ⟨rfl, (Below.refl _ _).alloc (Nat.le_refl _) _⟩

theorem append_nothing (a : ByteArray) : a ++ (⟨#[]⟩ : ByteArray) = a := by
  apply ByteArray.ext
  simp

theorem toList_ne {a b : ByteArray} (h : ¬ a = b) : (a.toList == b.toList) = false := by
  rw [beq_eq_false_iff_ne]
  intro e
  exact h (ByteArray.ext (by rw [← Array.toList_inj, ← Lib.toList_data, ← Lib.toList_data]; exact e))

theorem three {w1 : World} {B : Nat} {u0 u1 u2 : Value} (h0 : w1.cell? ⟨B, 0, none⟩ = some u0) (h1 : w1.cell? ⟨B, 1, none⟩ = some u1) (h2 : w1.cell? ⟨B, 2, none⟩ = some u2) (v0 v1 v2 : Value) :
    (w1.setCell ⟨B, 0, none⟩ v0).cell? ⟨B, 0, none⟩ = some v0 ∧ ((w1.setCell ⟨B, 0, none⟩ v0).setCell ⟨B, 1, none⟩ v1).cell? ⟨B, 1, none⟩ = some v1 ∧
    (((w1.setCell ⟨B, 0, none⟩ v0).setCell ⟨B, 1, none⟩ v1).setCell ⟨B, 2, none⟩ v2).cell? ⟨B, 2, none⟩ = some v2 := by
  refine ⟨World.cell?_setCell_same _ _ _ h0, World.cell?_setCell_same (u := u1) _ _ _ ?_, World.cell?_setCell_same (u := u2) _ _ _ ?_⟩
  · rw [World.cell?_setCell_other _ _ _ _ (by simp)]; exact h1
  · rw [World.cell?_setCell_other _ _ _ _ (by simp), World.cell?_setCell_other _ _ _ _ (by simp)]; exact h2

theorem three_below {w w1 : World} {o : Obj} (h : Below (w.alloc o).heap.size (w.alloc o) w1) (v0 v1 v2 : Value) :
    Below w.heap.size w (((w1.setCell ⟨w.heap.size, 0, none⟩ v0).setCell ⟨w.heap.size, 1, none⟩ v1).setCell ⟨w.heap.size, 2, none⟩ v2) :=
  (((((Below.refl _ _).alloc (Nat.le_refl _) o).trans (h.mono (by simp))).setCell (Nat.le_refl _) _).setCell (Nat.le_refl _) _).setCell (Nat.le_refl _) _
theorem out_cells {w w1 : World} (c0 c1 c2 : Value) (t : TypeId) (h : Below (w.alloc (.cells #[c0, c1, c2] t)).heap.size (w.alloc (.cells #[c0, c1, c2] t)) w1) :
    w1.cell? ⟨w.heap.size, 0, none⟩ = some c0 ∧ w1.cell? ⟨w.heap.size, 1, none⟩ = some c1 ∧ w1.cell? ⟨w.heap.size, 2, none⟩ = some c2 := by
  have hn := heap_alloc_new w (.cells #[c0, c1, c2] t)
  refine ⟨?_, ?_, ?_⟩
  all_goals
    rw [h.cell (by simp), cell_of_row _ _ _ _ t (0, 0) hn]
    rfl

set_option maxHeartbeats 400000 in
theorem implUnseal_sum (s : ByteArray) (w : World) (h0 : 4 ≤ s.size) (h1 : s.size ≤ 8000) (hq : ¬ sealOf (s.extract 0 (s.size - 4)) = s) :
    Calls Tryz.prog 143 #[.string s] w fun e w' => e = .returned (.agg #[.string ⟨#[]⟩, .int .i64 0, .int .i64 5]) ∧ Below w.heap.size w w' := by
  have hbs : (s.extract 0 (s.size - 4)).size ≤ 7996 := by have := body_size s; unfold bodyOf at this; omega
  have hne := toList_ne hq
  clear hq
  go_enter Tryz.func143, Tryz.ntmps143
  go_wp2_with fail
  refine (implSeal_any _ _ hbs).mono ?_
  rintro e w1 ⟨rfl, hb1⟩
  have HB1 := hide hb1
  obtain ⟨hc1, hf1⟩ := bcell hb1
  clear hb1
  obtain ⟨c0, c1, c2⟩ := out_cells _ _ _ _ HB1.out
  obtain ⟨q0, q1, q2⟩ := three c0 c1 c2 (.string ⟨#[]⟩) (.int .i64 0) (.int .i64 5)
  clear c0 c1 c2
  go_wp2
  exact bodyPost_ret (v := .agg #[.string ⟨#[]⟩, .int .i64 0, .int .i64 5]) (by simp [results, Tryz.results143, go_sem, q0, q1, q2]) rfl ⟨rfl, three_below HB1.out _ _ _⟩

set_option maxHeartbeats 400000 in
theorem implUnseal_ok (s : ByteArray) (w : World) (h0 : 4 ≤ s.size) (h1 : s.size ≤ 8000) (hq : sealOf (s.extract 0 (s.size - 4)) = s) :
    Calls Tryz.prog 143 #[.string s] w fun e w' => e = .returned (.agg #[.string (s.extract 0 (s.size - 4)), .int .i64 0, .int .i64 0]) ∧ Below w.heap.size w w' := by
  have hbs : (s.extract 0 (s.size - 4)).size ≤ 7996 := by have := body_size s; unfold bodyOf at this; omega
  have HQ := hide hq
  clear hq
  go_enter Tryz.func143, Tryz.ntmps143
  go_wp2_with fail
  refine (implSeal_any _ _ hbs).mono ?_
  rintro e w1 ⟨rfl, hb1⟩
  rw [HQ.out]
  have HB1 := hide hb1
  obtain ⟨hc1, hf1⟩ := bcell hb1
  clear hb1
  go_wp2_with fail
  refine (joinTexts_any _ _ _ (by omega) (by decide)).mono ?_
  rintro e w2 ⟨rfl, hb2⟩
  have HB2 := hide (HB1.out.trans (hb2.mono HB1.out.size))
  clear hb2 hc1 hf1
  obtain ⟨hc1, hf1⟩ := bcell HB2.out
  obtain ⟨c0, c1, c2⟩ := out_cells _ _ _ _ HB2.out
  obtain ⟨q0, q1, q2⟩ := three c0 c1 c2 (.string (s.extract 0 (s.size - 4))) (.int .i64 0) (.int .i64 0)
  clear c0 c1 c2
  rw [append_nothing]
  go_wp2
  exact bodyPost_ret (v := .agg #[.string (s.extract 0 (s.size - 4)), .int .i64 0, .int .i64 0]) (by simp [results, Tryz.results143, go_sem, q0, q1, q2]) rfl ⟨rfl, three_below HB2.out _ _ _⟩

set_option maxHeartbeats 400000 in
theorem specUnseal_long (s : ByteArray) (w : World) (hm : s.size ≤ maxLen) (h1 : 8000 < s.size) :
    Calls Tryz.prog 95 #[.string s] w fun e w' => e = .returned (.agg #[.string ⟨#[]⟩, .int .i64 0, .int .i64 2]) ∧ Below w.heap.size w w' := by
  unfold maxLen at hm
  go_enter Tryz.func95, Tryz.ntmps95
  go_wp2
  exact bodyPost_ret (v := .agg #[.string ⟨#[]⟩, .int .i64 0, .int .i64 2]) (by simp [results, Tryz.results95, go_sem]) rfl ⟨rfl, (Below.refl _ _).alloc (Nat.le_refl _) _⟩

set_option maxHeartbeats 400000 in
theorem specUnseal_short (s : ByteArray) (w : World) (h1 : s.size < 4) :
    Calls Tryz.prog 95 #[.string s] w fun e w' => e = .returned (.agg #[.string ⟨#[]⟩, .int .i64 0, .int .i64 4]) ∧ Below w.heap.size w w' := by
  go_enter Tryz.func95, Tryz.ntmps95
  go_wp2
  exact bodyPost_ret (v := .agg #[.string ⟨#[]⟩, .int .i64 0, .int .i64 4]) (by simp [results, Tryz.results95, go_sem]) rfl ⟨rfl, (Below.refl _ _).alloc (Nat.le_refl _) _⟩

theorem below_drew {W w1 : World} (h : Below W.drew.heap.size W.drew w1) : Below W.heap.size W w1 := ((Below.refl W.heap.size W).drew).trans h

theorem seal_parts (s : ByteArray) : s.extract 0 (s.size - 4) ++ s.extract (s.size - 4) s.size = s := by
  apply ByteArray.ext
  rw [ByteArray.data_append, ByteArray.data_extract, ByteArray.data_extract, Array.extract_append_extract, Nat.zero_min, Nat.max_eq_right (Nat.sub_le _ _)]
  exact Array.extract_size
theorem seal_tail (s : ByteArray) (h : four (crcOf 0 (s.extract 0 (s.size - 4))) = s.extract (s.size - 4) s.size) : sealOf (s.extract 0 (s.size - 4)) = s := by
  unfold sealOf
  rw [h, seal_parts s]
theorem tail_seal (s : ByteArray) (h : sealOf (s.extract 0 (s.size - 4)) = s) : four (crcOf 0 (s.extract 0 (s.size - 4))) = s.extract (s.size - 4) s.size := by
  unfold sealOf at h
  have e := seal_parts s
  generalize s.extract 0 (s.size - 4) = b at *
  generalize s.extract (s.size - 4) s.size = c at *
  have h2 : b ++ four (crcOf 0 b) = b ++ c := h.trans e.symm
  have h3 := congrArg ByteArray.data h2
  simp only [ByteArray.data_append] at h3
  exact ByteArray.ext (Array.append_right_inj _ |>.1 h3)

set_option maxHeartbeats 1000000 in
theorem specUnseal_sum (s : ByteArray) (w : World) (h0 : 4 ≤ s.size) (h1 : s.size ≤ 8000) (hq : ¬ sealOf (s.extract 0 (s.size - 4)) = s) :
    Calls Tryz.prog 95 #[.string s] w fun e w' => e = .returned (.agg #[.string ⟨#[]⟩, .int .i64 0, .int .i64 5]) ∧ Below w.heap.size w w' := by
  have hbs : (s.extract 0 (s.size - 4)).size ≤ 7996 := by have := body_size s; unfold bodyOf at this; omega
  have HN : Hid ((!(four (crcOf 0 (s.extract 0 (s.size - 4)))).toList == (s.extract (s.size - 4) s.size).toList) = true) := by
    rw [toList_ne (fun h => hq (seal_tail s h))]; exact rfl
  have hb := crcOf_bd 0 (s.extract 0 (s.size - 4))
  clear hq
  have e1 : (0 : Int) ≤ (s.size : Int) - 4 := by omega
  have e2 : (s.size : Int) - 4 ≤ (s.size : Int) := by omega
  have e3 : ((s.size : Int) - 4).toNat = s.size - 4 := by omega
  have e4 : IntKind.i64.wrap ((s.size : Int) - 4) = (s.size : Int) - 4 := by rw [IntKind.wrap_i64]; omega
  go_enter Tryz.func95, Tryz.ntmps95
  go_wp2_with fail
  go_region_with (first
    | (go_at_call 124; refine (specCrc_any _ _ _ (by unfold maxLen; omega) (by omega) (by omega)).mono ?_; rintro e w' ⟨rfl, rfl⟩)
    | (go_at_call 123; refine (specFour_any _ _ hb.1 hb.2).mono ?_; rintro e w1 ⟨rfl, hb1⟩))
  have HB1 := hide (below_drew hb1)
  clear hb1 e1 e2 e3 e4
  obtain ⟨hc1, hf1⟩ := bcell HB1.out
  obtain ⟨c0, c1, c2⟩ := out_cells _ _ _ _ HB1.out
  obtain ⟨q0, q1, q2⟩ := three c0 c1 c2 (.string ⟨#[]⟩) (.int .i64 0) (.int .i64 5)
  clear c0 c1 c2
  have hne := HN.out
  go_wp2
  all_goals first
    | (exfalso; have hx : (!(four (crcOf 0 (s.extract 0 (s.size - 4)))).toList == (s.extract (s.size - 4) s.size).toList) = false := by assumption
       rw [hne] at hx; exact Bool.noConfusion hx)
    | exact bodyPost_ret (v := .agg #[.string ⟨#[]⟩, .int .i64 0, .int .i64 5]) (by simp [results, Tryz.results95, go_sem, q0, q1, q2]) rfl ⟨rfl, three_below HB1.out _ _ _⟩

set_option maxHeartbeats 1000000 in
theorem specUnseal_ok (s : ByteArray) (w : World) (h0 : 4 ≤ s.size) (h1 : s.size ≤ 8000) (hq : sealOf (s.extract 0 (s.size - 4)) = s) :
    Calls Tryz.prog 95 #[.string s] w fun e w' => e = .returned (.agg #[.string (s.extract 0 (s.size - 4)), .int .i64 0, .int .i64 0]) ∧ Below w.heap.size w w' := by
  have hbs : (s.extract 0 (s.size - 4)).size ≤ 7996 := by have := body_size s; unfold bodyOf at this; omega
  have HN : Hid ((!(four (crcOf 0 (s.extract 0 (s.size - 4)))).toList == (s.extract (s.size - 4) s.size).toList) = false) := by
    rw [tail_seal s hq, beq_self_eq_true]; exact rfl
  have hb := crcOf_bd 0 (s.extract 0 (s.size - 4))
  clear hq
  have e1 : (0 : Int) ≤ (s.size : Int) - 4 := by omega
  have e2 : (s.size : Int) - 4 ≤ (s.size : Int) := by omega
  have e3 : ((s.size : Int) - 4).toNat = s.size - 4 := by omega
  have e4 : IntKind.i64.wrap ((s.size : Int) - 4) = (s.size : Int) - 4 := by rw [IntKind.wrap_i64]; omega
  go_enter Tryz.func95, Tryz.ntmps95
  go_wp2_with fail
  go_region_with (first
    | (go_at_call 124; refine (specCrc_any _ _ _ (by unfold maxLen; omega) (by omega) (by omega)).mono ?_; rintro e w' ⟨rfl, rfl⟩)
    | (go_at_call 123; refine (specFour_any _ _ hb.1 hb.2).mono ?_; rintro e w1 ⟨rfl, hb1⟩))
  have HB1 := hide (below_drew hb1)
  clear hb1 e1 e2 e3 e4
  obtain ⟨hc1, hf1⟩ := bcell HB1.out
  obtain ⟨c0, c1, c2⟩ := out_cells _ _ _ _ HB1.out
  obtain ⟨q0, q1, q2⟩ := three c0 c1 c2 (.string (s.extract 0 (s.size - 4))) (.int .i64 0) (.int .i64 0)
  clear c0 c1 c2
  have hne := HN.out
  go_wp2
  all_goals first
    | (exfalso; have hx : (!(four (crcOf 0 (s.extract 0 (s.size - 4)))).toList == (s.extract (s.size - 4) s.size).toList) = true := by assumption
       rw [hne] at hx; exact Bool.noConfusion hx)
    | exact bodyPost_ret (v := .agg #[.string (s.extract 0 (s.size - 4)), .int .i64 0, .int .i64 0]) (by simp [results, Tryz.results95, go_sem, q0, q1, q2]) rfl ⟨rfl, three_below HB1.out _ _ _⟩
end Go.Proofs.YtnpbmaajgiapmaaGreatDoor.St1
/- The specification's l03Seen: what the head of a right disk says. -/
namespace Go.Proofs.YtnpbmaajgiapmaaGreatDoor
open Go.RowKit

theorem Tryz.outDisk (a b c d : Value) (w : World) : (Instr.field 101 (.agg #[a, b, c, d]) 0).run Tryz.prog w = .ok (.agg #[a, b]) w := by kernel_rfl
theorem Tryz.outData (a b c d : Value) (w : World) : (Instr.field 101 (.agg #[a, b, c, d]) 1).run Tryz.prog w = .ok c w := by kernel_rfl
theorem Tryz.outCode (a b c d : Value) (w : World) : (Instr.field 101 (.agg #[a, b, c, d]) 2).run Tryz.prog w = .ok d w := by kernel_rfl

def headText (xs : List ByteArray) (ps : List (Int × ByteArray)) : ByteArray := lastAt 0 ps (xs.getD 0 ⟨#[]⟩)

set_option maxRecDepth 100000 in
set_option maxHeartbeats 1000000 in
theorem specSeen_bad (vs vp : Value) (xs : List ByteArray) (ps : List (Int × ByteArray)) (c : Int) (w : World) (hok : right xs ps = true) (hx : 1 ≤ xs.length) (hn : xs.length ≤ 1048576) (hn2 : ps.length ≤ 1048576) (hr : Reads w vs xs) (hp : ReadsP w vp ps) (hc : c ≠ 0)
    (hU : ∀ W : World, Calls Tryz.prog 95 #[.string (headText xs ps)] W fun e w' => e = .returned (.agg #[.string ⟨#[]⟩, .int .i64 0, .int .i64 c]) ∧ Below W.heap.size W w') :
    Calls Tryz.prog 67 #[.agg #[vs, vp]] w fun e w' => e = .returned (.tuple #[.int .i64 0, .int .i64 0, .int .i64 0, .int .i64 c]) ∧ Below w.heap.size w w' := by
  have hb0 : Below w.heap.size w (w.alloc (.cells #[vs, vp] 30)) := (Below.refl _ _).alloc (Nat.le_refl _) _
  have HR := hide (hr.below hb0 (Nat.le_refl _))
  have HP := hide (hp.below hb0 (Nat.le_refl _))
  have HB0 := hide hb0
  have HU := hide hU
  have HO := hide (show readOut xs ps 0 = ⟨xs, ps, headText xs ps, 0⟩ by unfold readOut headText; rw [if_pos hok, if_pos (by omega)]; rfl)
  obtain ⟨p1, c1, rfl, hq⟩ := hr
  obtain ⟨p2, c2, rfl, hq2⟩ := hp
  clear hb0 hq hq2 hU
  have hfd := Tryz.outData
  go_enter Tryz.func67, Tryz.ntmps67
  go_wp2_with fail
  refine (specRead_any _ _ xs ps 0 _ hn hn2 HR.out HP.out).mono ?_
  rw [HO.out]
  rintro e w1 ⟨⟨us, up, rfl, o1, o2, dd⟩, hb1⟩
  have HB1 := hide (HB0.out.trans (hb1.mono HB0.out.size))
  clear o1 o2 dd hb1
  go_wp2_with fail
  refine (HU.out _).mono ?_
  rintro e w2 ⟨rfl, hb2⟩
  have HB2 := hide hb2
  clear hb2
  go_wp2
  go_region
  go_wp2
  refine bodyPost_ret (v := .tuple #[.int .i64 0, .int .i64 0, .int .i64 0, .int .i64 c]) (by simp [results, Tryz.results67, go_sem]) rfl ⟨rfl, ?_⟩
  have hB := HB1.out.trans (HB2.out.mono HB1.out.size)
  exact (hB.alloc hB.size _).drew
end Go.Proofs.YtnpbmaajgiapmaaGreatDoor
/- l03Seen, case 1. -/
namespace Go.Proofs.YtnpbmaajgiapmaaGreatDoor
open Go.RowKit

set_option maxRecDepth 100000 in
set_option maxHeartbeats 8000000 in
theorem specSeen_c1 (vs vp : Value) (xs : List ByteArray) (ps : List (Int × ByteArray)) (t : ByteArray) (A1 A3 B1 B3 C1 C3 n3 : Int) (n1 n2 : Nat) (w : World) (hok : right xs ps = true) (hx : 1 ≤ xs.length) (hn : xs.length ≤ 1048576) (hn2 : ps.length ≤ 1048576) (hr : Reads w vs xs) (hp : ReadsP w vp ps)
    (ht : t.size ≤ 8000) (hn1 : n1 ≤ 8000) (hn2' : n2 ≤ 8000) (HA : Hid (St3.scan t 0 10 0 0 = (A1, (n1 : Int), A3))) (HB : Hid (St3.scan t n1 10 0 0 = (B1, (n2 : Int), B3))) (HC : Hid (St3.scan t n2 10 0 0 = (C1, n3, C3))) (h0 : A3 ≠ 0)
    (hU : ∀ W : World, Calls Tryz.prog 95 #[.string (headText xs ps)] W fun e w' => e = .returned (.agg #[.string t, .int .i64 0, .int .i64 0]) ∧ Below W.heap.size W w') :
    Calls Tryz.prog 67 #[.agg #[vs, vp]] w fun e w' => e = .returned (.tuple #[.int .i64 0, .int .i64 0, .int .i64 0, .int .i64 3]) ∧ Below w.heap.size w w' := by
  have H0_ := hide h0
  clear h0
  have hb0 : Below w.heap.size w (w.alloc (.cells #[vs, vp] 30)) := (Below.refl _ _).alloc (Nat.le_refl _) _
  have HR := hide (hr.below hb0 (Nat.le_refl _))
  have HP := hide (hp.below hb0 (Nat.le_refl _))
  have HRw := hide hr
  have HPw := hide hp
  have HB0 := hide hb0
  have HU := hide hU
  have HO := hide (show readOut xs ps 0 = ⟨xs, ps, headText xs ps, 0⟩ by unfold readOut headText; rw [if_pos hok, if_pos (by omega)]; rfl)
  obtain ⟨p1, c1, rfl, hq⟩ := hr
  obtain ⟨p2, c2, rfl, hq2⟩ := hp
  have HD := hide (row_new w [.slice p1 xs.length c1, .slice p2 ps.length c2] 30)
  clear hb0 hq hq2 hU
  have hfd := Tryz.outData
  go_enter Tryz.func67, Tryz.ntmps67
  go_wp2_with fail
  refine (specRead_any _ _ xs ps 0 _ hn hn2 HR.out HP.out).mono ?_
  rw [HO.out]
  rintro e w1 ⟨⟨us, up, rfl, o1, o2, dd⟩, hb1⟩
  have HB1 := hide (HB0.out.trans (hb1.mono HB0.out.size))
  have HD1 := hide (Row.after hb1 HD.out)
  clear o1 o2 dd hb1 HD
  go_wp2_with fail
  refine (HU.out _).mono ?_
  rintro e w2 ⟨rfl, hb2⟩
  have b2 := HB1.out.trans (hb2.mono HB1.out.size)
  have HD2 := hide ((Row.after hb2 HD1.out).alloc (.cells #[.string t, .int .i64 0, .int .i64 0] 89))
  have HB2a := hide (b2.alloc b2.size (.cells #[.string t, .int .i64 0, .int .i64 0] 89))
  have HX2 := hide (row_new w2 [.string t, .int .i64 0, .int .i64 0] 89)
  clear b2 hb2 HD1
  go_wp2_with fail
  refine (St3.specGetNum_any t 0 _ _ ht (by omega) HA).mono ?_
  rintro e w3 ⟨rfl, hb3⟩
  have b3 := HB2a.out.trans (hb3.mono HB2a.out.size)
  have HX3 := hide (Row.after hb3 HX2.out)
  have HD3 := hide ((Row.after hb3 HD2.out).alloc (.cells #[.int .i64 A1, .int .i64 n1, .int .i64 A3] 86))
  have HB3a := hide (b3.alloc b3.size (.cells #[.int .i64 A1, .int .i64 n1, .int .i64 A3] 86))
  have HX3a := hide (HX3.out.alloc (.cells #[.int .i64 A1, .int .i64 n1, .int .i64 A3] 86))
  have HG3 := hide (row_new w3 [.int .i64 A1, .int .i64 n1, .int .i64 A3] 86)
  have q0 : w3.cell? ⟨w2.heap.size, 0, none⟩ = some (.string t) := HX3.out.cell 0
  have l3 : w2.heap.size < w3.heap.size := HX3.out.lt
  clear hb3 b3 HB2a HX2 HD2
  go_wp2_with fail
  refine (St3.specGetNum_any t n1 _ _ ht (by omega) HB).mono ?_
  rintro e w4 ⟨rfl, hb4⟩
  have b4 := HB3a.out.trans (hb4.mono HB3a.out.size)
  have HX4 := hide (Row.after hb4 HX3a.out)
  have HG4 := hide (Row.after hb4 HG3.out)
  have HD4 := hide ((Row.after hb4 HD3.out).alloc (.cells #[.int .i64 B1, .int .i64 n2, .int .i64 B3] 86))
  have HB4a := hide (b4.alloc b4.size (.cells #[.int .i64 B1, .int .i64 n2, .int .i64 B3] 86))
  have HX4a := hide (HX4.out.alloc (.cells #[.int .i64 B1, .int .i64 n2, .int .i64 B3] 86))
  have HG4a := hide (HG4.out.alloc (.cells #[.int .i64 B1, .int .i64 n2, .int .i64 B3] 86))
  have HS4 := hide (row_new w4 [.int .i64 B1, .int .i64 n2, .int .i64 B3] 86)
  have r0 : w4.cell? ⟨w2.heap.size, 0, none⟩ = some (.string t) := HX4.out.cell 0
  have l4 : w2.heap.size < w4.heap.size := HX4.out.lt
  clear hb4 b4 HB3a HX3a HG3 q0 l3 HX3 HD3
  go_wp2_with fail
  refine (St3.specGetNum_any t n2 _ _ ht (by omega) HC).mono ?_
  rintro e w5 ⟨rfl, hb5⟩
  obtain ⟨W, hW⟩ : ∃ W, W = w5.alloc (.cells #[.int .i64 C1, .int .i64 n3, .int .i64 C3] 86) := ⟨_, rfl⟩
  have b5 := HB4a.out.trans (hb5.mono HB4a.out.size)
  have HBW := hide (show Below w.heap.size w W by rw [hW]; exact b5.alloc b5.size _)
  have HGW := hide (show Row W w3.heap.size 86 [.int .i64 A1, .int .i64 n1, .int .i64 A3] by rw [hW]; exact (Row.after hb5 HG4a.out).alloc _)
  have HSW := hide (show Row W w4.heap.size 86 [.int .i64 B1, .int .i64 n2, .int .i64 B3] by rw [hW]; exact (Row.after hb5 HS4.out).alloc _)
  have HZW := hide (show Row W w5.heap.size 86 [.int .i64 C1, .int .i64 n3, .int .i64 C3] by rw [hW]; exact row_new w5 _ _)
  have HDW := hide (show Row W w.heap.size 30 [.slice p1 xs.length c1, .slice p2 ps.length c2] by rw [hW]; exact (Row.after hb5 HD4.out).alloc _)
  clear hb5 b5 HB4a HX4a HG4a HS4 r0 l4 HX4 HG4 HD4
  have bA : (A3 != 0) = true := by simpa using H0_.out
  go_wp2_with fail
  rw [← hW]
  clear hW
  refine wp_region_held (S := fun x : World => x.cell? ⟨w3.heap.size, 0, none⟩ = some (.int .i64 A1) ∧ x.cell? ⟨w3.heap.size, 2, none⟩ = some (.int .i64 A3) ∧ x.cell? ⟨w4.heap.size, 0, none⟩ = some (.int .i64 B1) ∧ x.cell? ⟨w4.heap.size, 2, none⟩ = some (.int .i64 B3) ∧ x.cell? ⟨w5.heap.size, 0, none⟩ = some (.int .i64 C1) ∧ x.cell? ⟨w5.heap.size, 2, none⟩ = some (.int .i64 C3) ∧ x.cell? ⟨w.heap.size, 0, none⟩ = some (.slice p1 xs.length c1) ∧ x.cell? ⟨w.heap.size, 1, none⟩ = some (.slice p2 ps.length c2)) (by kernel_rfl) ?_
  have HSS := hide (show ∀ x, Below W.heap.size W x → (fun x : World => x.cell? ⟨w3.heap.size, 0, none⟩ = some (.int .i64 A1) ∧ x.cell? ⟨w3.heap.size, 2, none⟩ = some (.int .i64 A3) ∧ x.cell? ⟨w4.heap.size, 0, none⟩ = some (.int .i64 B1) ∧ x.cell? ⟨w4.heap.size, 2, none⟩ = some (.int .i64 B3) ∧ x.cell? ⟨w5.heap.size, 0, none⟩ = some (.int .i64 C1) ∧ x.cell? ⟨w5.heap.size, 2, none⟩ = some (.int .i64 C3) ∧ x.cell? ⟨w.heap.size, 0, none⟩ = some (.slice p1 xs.length c1) ∧ x.cell? ⟨w.heap.size, 1, none⟩ = some (.slice p2 ps.length c2)) x from fun x h => ⟨(Row.after h HGW.out).cell 0, (Row.after h HGW.out).cell 2, (Row.after h HSW.out).cell 0, (Row.after h HSW.out).cell 2, (Row.after h HZW.out).cell 0, (Row.after h HZW.out).cell 2, (Row.after h HDW.out).cell 0, (Row.after h HDW.out).cell 1⟩)
  have HS := hide (HSS.out { W with drawn := W.drawn + 1 } (Below.refl _ _).drew)
  refine wpAnyH_take (i := 0) (oi := _) (v := .pointer (some ⟨w3.heap.size, 2, none⟩)) rfl (by kernel_rfl) (by kernel_rfl) (by kernel_rfl) (fun _ _ _ h => h) (Or.inl ⟨by rfl, by intro w hSw; go_split_ands; go_simp⟩) HS.out ?_
  simp only [Act.put, List.getElem_toArray, List.getElem_cons_zero, List.setIfInBounds_toArray, List.set_cons_zero, List.set_cons_succ]
  refine wpAnyH_take (i := 1) (oi := _) (v := .int .i64 A3) rfl (by kernel_rfl) (by kernel_rfl) (by kernel_rfl) (fun _ _ _ h => h) (Or.inl ⟨by rfl, by intro w hSw; go_split_ands; go_simp⟩) HS.out ?_
  simp only [Act.put, List.getElem_toArray, List.getElem_cons_zero, List.getElem_cons_succ, List.setIfInBounds_toArray, List.set_cons_zero, List.set_cons_succ]
  refine wpAnyH_take (i := 2) (oi := _) (v := .bool true) rfl (by kernel_rfl) (by kernel_rfl) (by kernel_rfl) (fun _ _ _ h => h) (Or.inl ⟨by rfl, by intro w hSw; go_split_ands; go_simp⟩) HS.out ?_
  simp only [Act.put, List.getElem_toArray, List.getElem_cons_zero, List.getElem_cons_succ, List.setIfInBounds_toArray, List.set_cons_zero, List.set_cons_succ]
  refine wpAnyH_take (i := 3) (oi := _) (v := .bool true) rfl (by kernel_rfl) (by kernel_rfl) (by kernel_rfl) (fun _ _ _ h => h) (Or.inl ⟨by rfl, by intro w hSw; go_split_ands; go_simp⟩) HS.out ?_
  simp only [Act.put, List.getElem_toArray, List.getElem_cons_zero, List.getElem_cons_succ, List.setIfInBounds_toArray, List.set_cons_zero, List.set_cons_succ]
  refine wpAnyH_take (i := 4) (oi := _) (v := undef) rfl (by kernel_rfl) (by kernel_rfl) (by kernel_rfl) (fun _ _ _ h => h) (Or.inr ⟨by rfl, rfl⟩) HS.out ?_
  simp only [Act.put, List.getElem_toArray, List.getElem_cons_zero, List.getElem_cons_succ, List.setIfInBounds_toArray, List.set_cons_zero, List.set_cons_succ]
  refine wpAnyH_take (i := 5) (oi := _) (v := undef) rfl (by kernel_rfl) (by kernel_rfl) (by kernel_rfl) (fun _ _ _ h => h) (Or.inr ⟨by rfl, rfl⟩) HS.out ?_
  simp only [Act.put, List.getElem_toArray, List.getElem_cons_zero, List.getElem_cons_succ, List.setIfInBounds_toArray, List.set_cons_zero, List.set_cons_succ]
  refine wpAnyH_take (i := 6) (oi := _) (v := undef) rfl (by kernel_rfl) (by kernel_rfl) (by kernel_rfl) (fun _ _ _ h => h) (Or.inr ⟨by rfl, rfl⟩) HS.out ?_
  simp only [Act.put, List.getElem_toArray, List.getElem_cons_zero, List.getElem_cons_succ, List.setIfInBounds_toArray, List.set_cons_zero, List.set_cons_succ]
  refine wpAnyH_take (i := 7) (oi := _) (v := .bool true) rfl (by kernel_rfl) (by kernel_rfl) (by kernel_rfl) (fun _ _ _ h => h) (Or.inl ⟨by rfl, by intro w hSw; go_split_ands; go_simp⟩) HS.out ?_
  simp only [Act.put, List.getElem_toArray, List.getElem_cons_zero, List.getElem_cons_succ, List.setIfInBounds_toArray, List.set_cons_zero, List.set_cons_succ]
  refine wpAnyH_take (i := 8) (oi := _) (v := .bool true) rfl (by kernel_rfl) (by kernel_rfl) (by kernel_rfl) (fun _ _ _ h => h) (Or.inl ⟨by rfl, by intro w hSw; go_split_ands; go_simp⟩) HS.out ?_
  simp only [Act.put, List.getElem_toArray, List.getElem_cons_zero, List.getElem_cons_succ, List.setIfInBounds_toArray, List.set_cons_zero, List.set_cons_succ]
  refine wpAnyH_take (i := 9) (oi := _) (v := undef) rfl (by kernel_rfl) (by kernel_rfl) (by kernel_rfl) (fun _ _ _ h => h) (Or.inr ⟨by rfl, rfl⟩) HS.out ?_
  simp only [Act.put, List.getElem_toArray, List.getElem_cons_zero, List.getElem_cons_succ, List.setIfInBounds_toArray, List.set_cons_zero, List.set_cons_succ]
  refine wpAnyH_take (i := 10) (oi := _) (v := undef) rfl (by kernel_rfl) (by kernel_rfl) (by kernel_rfl) (fun _ _ _ h => h) (Or.inr ⟨by rfl, rfl⟩) HS.out ?_
  simp only [Act.put, List.getElem_toArray, List.getElem_cons_zero, List.getElem_cons_succ, List.setIfInBounds_toArray, List.set_cons_zero, List.set_cons_succ]
  refine wpAnyH_take (i := 11) (oi := _) (v := undef) rfl (by kernel_rfl) (by kernel_rfl) (by kernel_rfl) (fun _ _ _ h => h) (Or.inr ⟨by rfl, rfl⟩) HS.out ?_
  simp only [Act.put, List.getElem_toArray, List.getElem_cons_zero, List.getElem_cons_succ, List.setIfInBounds_toArray, List.set_cons_zero, List.set_cons_succ]
  refine wpAnyH_take (i := 12) (oi := _) (v := .bool true) rfl (by kernel_rfl) (by kernel_rfl) (by kernel_rfl) (fun _ _ _ h => h) (Or.inl ⟨by rfl, by intro w hSw; go_split_ands; go_simp⟩) HS.out ?_
  simp only [Act.put, List.getElem_toArray, List.getElem_cons_zero, List.getElem_cons_succ, List.setIfInBounds_toArray, List.set_cons_zero, List.set_cons_succ]
  refine wpAnyH_take (i := 13) (oi := _) (v := .bool true) rfl (by kernel_rfl) (by kernel_rfl) (by kernel_rfl) (fun _ _ _ h => h) (Or.inl ⟨by rfl, by intro w hSw; go_split_ands; go_simp⟩) HS.out ?_
  simp only [Act.put, List.getElem_toArray, List.getElem_cons_zero, List.getElem_cons_succ, List.setIfInBounds_toArray, List.set_cons_zero, List.set_cons_succ]
  refine wpAnyH_take (i := 14) (oi := _) (v := undef) rfl (by kernel_rfl) (by kernel_rfl) (by kernel_rfl) (fun _ _ _ h => h) (Or.inr ⟨by rfl, rfl⟩) HS.out ?_
  simp only [Act.put, List.getElem_toArray, List.getElem_cons_zero, List.getElem_cons_succ, List.setIfInBounds_toArray, List.set_cons_zero, List.set_cons_succ]
  refine wpAnyH_take (i := 15) (oi := _) (v := undef) rfl (by kernel_rfl) (by kernel_rfl) (by kernel_rfl) (fun _ _ _ h => h) (Or.inr ⟨by rfl, rfl⟩) HS.out ?_
  simp only [Act.put, List.getElem_toArray, List.getElem_cons_zero, List.getElem_cons_succ, List.setIfInBounds_toArray, List.set_cons_zero, List.set_cons_succ]
  refine wpAnyH_take (i := 16) (oi := _) (v := undef) rfl (by kernel_rfl) (by kernel_rfl) (by kernel_rfl) (fun _ _ _ h => h) (Or.inr ⟨by rfl, rfl⟩) HS.out ?_
  simp only [Act.put, List.getElem_toArray, List.getElem_cons_zero, List.getElem_cons_succ, List.setIfInBounds_toArray, List.set_cons_zero, List.set_cons_succ]
  refine wpAnyH_take (i := 17) (oi := _) (v := undef) rfl (by kernel_rfl) (by kernel_rfl) (by kernel_rfl) (fun _ _ _ h => h) (Or.inr ⟨by rfl, rfl⟩) HS.out ?_
  simp only [Act.put, List.getElem_toArray, List.getElem_cons_zero, List.getElem_cons_succ, List.setIfInBounds_toArray, List.set_cons_zero, List.set_cons_succ]
  refine wpAnyH_take (i := 18) (oi := _) (v := undef) rfl (by kernel_rfl) (by kernel_rfl) (by kernel_rfl) (fun _ _ _ h => h) (Or.inr ⟨by rfl, rfl⟩) HS.out ?_
  simp only [Act.put, List.getElem_toArray, List.getElem_cons_zero, List.getElem_cons_succ, List.setIfInBounds_toArray, List.set_cons_zero, List.set_cons_succ]
  refine wpAnyH_take (i := 19) (oi := _) (v := undef) rfl (by kernel_rfl) (by kernel_rfl) (by kernel_rfl) (fun _ _ _ h => h) (Or.inr ⟨by rfl, rfl⟩) HS.out ?_
  simp only [Act.put, List.getElem_toArray, List.getElem_cons_zero, List.getElem_cons_succ, List.setIfInBounds_toArray, List.set_cons_zero, List.set_cons_succ]
  refine wpAnyH_take (i := 20) (oi := _) (v := undef) rfl (by kernel_rfl) (by kernel_rfl) (by kernel_rfl) (fun _ _ _ h => h) (Or.inr ⟨by rfl, rfl⟩) HS.out ?_
  simp only [Act.put, List.getElem_toArray, List.getElem_cons_zero, List.getElem_cons_succ, List.setIfInBounds_toArray, List.set_cons_zero, List.set_cons_succ]
  refine wpAnyH_take (i := 21) (oi := _) (v := undef) rfl (by kernel_rfl) (by kernel_rfl) (by kernel_rfl) (fun _ _ _ h => h) (Or.inr ⟨by rfl, rfl⟩) HS.out ?_
  simp only [Act.put, List.getElem_toArray, List.getElem_cons_zero, List.getElem_cons_succ, List.setIfInBounds_toArray, List.set_cons_zero, List.set_cons_succ]
  refine wpAnyH_take (i := 22) (oi := _) (v := undef) rfl (by kernel_rfl) (by kernel_rfl) (by kernel_rfl) (fun _ _ _ h => h) (Or.inr ⟨by rfl, rfl⟩) HS.out ?_
  simp only [Act.put, List.getElem_toArray, List.getElem_cons_zero, List.getElem_cons_succ, List.setIfInBounds_toArray, List.set_cons_zero, List.set_cons_succ]
  refine wpAnyH_take (i := 23) (oi := _) (v := undef) rfl (by kernel_rfl) (by kernel_rfl) (by kernel_rfl) (fun _ _ _ h => h) (Or.inr ⟨by rfl, rfl⟩) HS.out ?_
  simp only [Act.put, List.getElem_toArray, List.getElem_cons_zero, List.getElem_cons_succ, List.setIfInBounds_toArray, List.set_cons_zero, List.set_cons_succ]
  refine wpAnyH_take (i := 24) (oi := _) (v := undef) rfl (by kernel_rfl) (by kernel_rfl) (by kernel_rfl) (fun _ _ _ h => h) (Or.inr ⟨by rfl, rfl⟩) HS.out ?_
  simp only [Act.put, List.getElem_toArray, List.getElem_cons_zero, List.getElem_cons_succ, List.setIfInBounds_toArray, List.set_cons_zero, List.set_cons_succ]
  refine wpAnyH_take (i := 25) (oi := _) (v := .bool true) rfl (by kernel_rfl) (by kernel_rfl) (by kernel_rfl) (fun _ _ _ h => h) (Or.inl ⟨by rfl, by intro w hSw; go_split_ands; go_simp⟩) HS.out ?_
  simp only [Act.put, List.getElem_toArray, List.getElem_cons_zero, List.getElem_cons_succ, List.setIfInBounds_toArray, List.set_cons_zero, List.set_cons_succ]
  refine wpAnyH_take (i := 26) (oi := _) (v := .bool true) rfl (by kernel_rfl) (by kernel_rfl) (by kernel_rfl) (fun _ _ _ h => h) (Or.inl ⟨by rfl, by intro w hSw; go_split_ands; go_simp⟩) HS.out ?_
  simp only [Act.put, List.getElem_toArray, List.getElem_cons_zero, List.getElem_cons_succ, List.setIfInBounds_toArray, List.set_cons_zero, List.set_cons_succ]
  refine wpAnyH_take (i := 27) (oi := _) (v := undef) rfl (by kernel_rfl) (by kernel_rfl) (by kernel_rfl) (fun _ _ _ h => h) (Or.inr ⟨by rfl, rfl⟩) HS.out ?_
  simp only [Act.put, List.getElem_toArray, List.getElem_cons_zero, List.getElem_cons_succ, List.setIfInBounds_toArray, List.set_cons_zero, List.set_cons_succ]
  refine wpAnyH_take (i := 28) (oi := _) (v := undef) rfl (by kernel_rfl) (by kernel_rfl) (by kernel_rfl) (fun _ _ _ h => h) (Or.inr ⟨by rfl, rfl⟩) HS.out ?_
  simp only [Act.put, List.getElem_toArray, List.getElem_cons_zero, List.getElem_cons_succ, List.setIfInBounds_toArray, List.set_cons_zero, List.set_cons_succ]
  refine wpAnyH_take (i := 29) (oi := _) (v := undef) rfl (by kernel_rfl) (by kernel_rfl) (by kernel_rfl) (fun _ _ _ h => h) (Or.inr ⟨by rfl, rfl⟩) HS.out ?_
  simp only [Act.put, List.getElem_toArray, List.getElem_cons_zero, List.getElem_cons_succ, List.setIfInBounds_toArray, List.set_cons_zero, List.set_cons_succ]
  refine wpAnyH_take (i := 30) (oi := _) (v := .bool true) rfl (by kernel_rfl) (by kernel_rfl) (by kernel_rfl) (fun _ _ _ h => h) (Or.inl ⟨by rfl, by intro w hSw; go_split_ands; go_simp⟩) HS.out ?_
  simp only [Act.put, List.getElem_toArray, List.getElem_cons_zero, List.getElem_cons_succ, List.setIfInBounds_toArray, List.set_cons_zero, List.set_cons_succ]
  refine wpAnyH_take (i := 31) (oi := _) (v := .bool true) rfl (by kernel_rfl) (by kernel_rfl) (by kernel_rfl) (fun _ _ _ h => h) (Or.inl ⟨by rfl, by intro w hSw; go_split_ands; go_simp⟩) HS.out ?_
  simp only [Act.put, List.getElem_toArray, List.getElem_cons_zero, List.getElem_cons_succ, List.setIfInBounds_toArray, List.set_cons_zero, List.set_cons_succ]
  refine wpAnyH_take (i := 32) (oi := _) (v := undef) rfl (by kernel_rfl) (by kernel_rfl) (by kernel_rfl) (fun _ _ _ h => h) (Or.inr ⟨by rfl, rfl⟩) HS.out ?_
  simp only [Act.put, List.getElem_toArray, List.getElem_cons_zero, List.getElem_cons_succ, List.setIfInBounds_toArray, List.set_cons_zero, List.set_cons_succ]
  refine wpAnyH_take (i := 33) (oi := _) (v := undef) rfl (by kernel_rfl) (by kernel_rfl) (by kernel_rfl) (fun _ _ _ h => h) (Or.inr ⟨by rfl, rfl⟩) HS.out ?_
  simp only [Act.put, List.getElem_toArray, List.getElem_cons_zero, List.getElem_cons_succ, List.setIfInBounds_toArray, List.set_cons_zero, List.set_cons_succ]
  refine wpAnyH_take (i := 34) (oi := _) (v := undef) rfl (by kernel_rfl) (by kernel_rfl) (by kernel_rfl) (fun _ _ _ h => h) (Or.inr ⟨by rfl, rfl⟩) HS.out ?_
  simp only [Act.put, List.getElem_toArray, List.getElem_cons_zero, List.getElem_cons_succ, List.setIfInBounds_toArray, List.set_cons_zero, List.set_cons_succ]
  refine wpAnyH_take (i := 35) (oi := _) (v := undef) rfl (by kernel_rfl) (by kernel_rfl) (by kernel_rfl) (fun _ _ _ h => h) (Or.inr ⟨by rfl, rfl⟩) HS.out ?_
  simp only [Act.put, List.getElem_toArray, List.getElem_cons_zero, List.getElem_cons_succ, List.setIfInBounds_toArray, List.set_cons_zero, List.set_cons_succ]
  refine wpAnyH_take (i := 36) (oi := _) (v := .bool true) rfl (by kernel_rfl) (by kernel_rfl) (by kernel_rfl) (fun _ _ _ h => h) (Or.inl ⟨by rfl, by intro w hSw; go_split_ands; go_simp⟩) HS.out ?_
  simp only [Act.put, List.getElem_toArray, List.getElem_cons_zero, List.getElem_cons_succ, List.setIfInBounds_toArray, List.set_cons_zero, List.set_cons_succ]
  refine wpAnyH_take (i := 37) (oi := _) (v := .bool true) rfl (by kernel_rfl) (by kernel_rfl) (by kernel_rfl) (fun _ _ _ h => h) (Or.inl ⟨by rfl, by intro w hSw; go_split_ands; go_simp⟩) HS.out ?_
  simp only [Act.put, List.getElem_toArray, List.getElem_cons_zero, List.getElem_cons_succ, List.setIfInBounds_toArray, List.set_cons_zero, List.set_cons_succ]
  refine wpAnyH_take (i := 38) (oi := _) (v := undef) rfl (by kernel_rfl) (by kernel_rfl) (by kernel_rfl) (fun _ _ _ h => h) (Or.inr ⟨by rfl, rfl⟩) HS.out ?_
  simp only [Act.put, List.getElem_toArray, List.getElem_cons_zero, List.getElem_cons_succ, List.setIfInBounds_toArray, List.set_cons_zero, List.set_cons_succ]
  refine wpAnyH_take (i := 39) (oi := _) (v := undef) rfl (by kernel_rfl) (by kernel_rfl) (by kernel_rfl) (fun _ _ _ h => h) (Or.inr ⟨by rfl, rfl⟩) HS.out ?_
  simp only [Act.put, List.getElem_toArray, List.getElem_cons_zero, List.getElem_cons_succ, List.setIfInBounds_toArray, List.set_cons_zero, List.set_cons_succ]
  refine wpAnyH_take (i := 40) (oi := _) (v := undef) rfl (by kernel_rfl) (by kernel_rfl) (by kernel_rfl) (fun _ _ _ h => h) (Or.inr ⟨by rfl, rfl⟩) HS.out ?_
  simp only [Act.put, List.getElem_toArray, List.getElem_cons_zero, List.getElem_cons_succ, List.setIfInBounds_toArray, List.set_cons_zero, List.set_cons_succ]
  refine wpAnyH_take (i := 41) (oi := _) (v := undef) rfl (by kernel_rfl) (by kernel_rfl) (by kernel_rfl) (fun _ _ _ h => h) (Or.inr ⟨by rfl, rfl⟩) HS.out ?_
  simp only [Act.put, List.getElem_toArray, List.getElem_cons_zero, List.getElem_cons_succ, List.setIfInBounds_toArray, List.set_cons_zero, List.set_cons_succ]
  refine wpAnyH_take (i := 42) (oi := _) (v := undef) rfl (by kernel_rfl) (by kernel_rfl) (by kernel_rfl) (fun _ _ _ h => h) (Or.inr ⟨by rfl, rfl⟩) HS.out ?_
  simp only [Act.put, List.getElem_toArray, List.getElem_cons_zero, List.getElem_cons_succ, List.setIfInBounds_toArray, List.set_cons_zero, List.set_cons_succ]
  refine wpAnyH_take (i := 43) (oi := _) (v := undef) rfl (by kernel_rfl) (by kernel_rfl) (by kernel_rfl) (fun _ _ _ h => h) (Or.inr ⟨by rfl, rfl⟩) HS.out ?_
  simp only [Act.put, List.getElem_toArray, List.getElem_cons_zero, List.getElem_cons_succ, List.setIfInBounds_toArray, List.set_cons_zero, List.set_cons_succ]
  refine wpAnyH_take (i := 44) (oi := _) (v := undef) rfl (by kernel_rfl) (by kernel_rfl) (by kernel_rfl) (fun _ _ _ h => h) (Or.inr ⟨by rfl, rfl⟩) HS.out ?_
  simp only [Act.put, List.getElem_toArray, List.getElem_cons_zero, List.getElem_cons_succ, List.setIfInBounds_toArray, List.set_cons_zero, List.set_cons_succ]
  refine wpAnyH_take (i := 45) (oi := _) (v := .bool true) rfl (by kernel_rfl) (by kernel_rfl) (by kernel_rfl) (fun _ _ _ h => h) (Or.inl ⟨by rfl, by intro w hSw; go_split_ands; go_simp⟩) HS.out ?_
  simp only [Act.put, List.getElem_toArray, List.getElem_cons_zero, List.getElem_cons_succ, List.setIfInBounds_toArray, List.set_cons_zero, List.set_cons_succ]
  refine wpAnyH_done (by kernel_rfl) ?_ _
  clear HSS HS
  go_wp2
  exact bodyPost_ret (v := .tuple #[.int .i64 0, .int .i64 0, .int .i64 0, .int .i64 3]) (by simp [results, Tryz.results67, go_sem]) rfl ⟨rfl, HBW.out.drew⟩
end Go.Proofs.YtnpbmaajgiapmaaGreatDoor
