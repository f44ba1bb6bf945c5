/- Unseal of the program and of the model: both answer the same code and text, at every text. -/
import Derived.Test.YtkmehbgepkilkaaGreatDoorXGCJoin
import Derived.Deep.RegionWith
namespace Go.Proofs.YtkmehbgepkilkaaGreatDoor.St1
open Go.RowKit

theorem bcell {W w1 : World} (hb : Below W.heap.size W w1) : (∀ b o, b < W.heap.size → w1.cell? ⟨b, o, none⟩ = W.cell? ⟨b, o, none⟩) ∧ (∀ b o, b < W.heap.size → w1.frozen? ⟨b, o, none⟩ = W.frozen? ⟨b, o, none⟩) :=
  ⟨fun b o h => hb.cell (p := ⟨b, o, none⟩) h, fun b o h => hb.frozen (p := ⟨b, o, none⟩) h⟩
def bodyOf (s : ByteArray) : ByteArray := s.extract 0 (s.size - 4)
theorem body_size (s : ByteArray) : (bodyOf s).size = s.size - 4 := by simp [bodyOf]

set_option maxHeartbeats 400000 in
theorem implUnseal_short (s : ByteArray) (w : World) (h1 : s.size < 4) :
    Calls Tryz.prog 79 #[.string s] w fun e w' => e = .returned (.agg #[.string ⟨#[]⟩, .int .i64 0, .int .i64 4]) ∧ Below w.heap.size w w' := by
  go_enter Tryz.func79, Tryz.ntmps79
  go_wp2
  exact bodyPost_ret (v := .agg #[.string ⟨#[]⟩, .int .i64 0, .int .i64 4]) (by simp [results, Tryz.results79, go_sem]) rfl ⟨rfl, (Below.refl _ _).alloc (Nat.le_refl _) _⟩

theorem append_nothing (a : ByteArray) : a ++ (⟨#[]⟩ : ByteArray) = a := by
  apply ByteArray.ext
  simp

theorem toList_ne {a b : ByteArray} (h : ¬ a = b) : (a.toList == b.toList) = false := by
  rw [beq_eq_false_iff_ne]
  intro e
  exact h (ByteArray.ext (by rw [← Array.toList_inj, ← Lib.toList_data, ← Lib.toList_data]; exact e))

theorem three {w1 : World} {B : Nat} {u0 u1 u2 : Value} (h0 : w1.cell? ⟨B, 0, none⟩ = some u0) (h1 : w1.cell? ⟨B, 1, none⟩ = some u1) (h2 : w1.cell? ⟨B, 2, none⟩ = some u2) (v0 v1 v2 : Value) :
    (w1.setCell ⟨B, 0, none⟩ v0).cell? ⟨B, 0, none⟩ = some v0 ∧ ((w1.setCell ⟨B, 0, none⟩ v0).setCell ⟨B, 1, none⟩ v1).cell? ⟨B, 1, none⟩ = some v1 ∧
    (((w1.setCell ⟨B, 0, none⟩ v0).setCell ⟨B, 1, none⟩ v1).setCell ⟨B, 2, none⟩ v2).cell? ⟨B, 2, none⟩ = some v2 := by
  refine ⟨World.cell?_setCell_same _ _ _ h0, World.cell?_setCell_same (u := u1) _ _ _ ?_, World.cell?_setCell_same (u := u2) _ _ _ ?_⟩
  · rw [World.cell?_setCell_other _ _ _ _ (by simp)]; exact h1
  · rw [World.cell?_setCell_other _ _ _ _ (by simp), World.cell?_setCell_other _ _ _ _ (by simp)]; exact h2

theorem three_below {w w1 : World} {o : Obj} (h : Below (w.alloc o).heap.size (w.alloc o) w1) (v0 v1 v2 : Value) :
    Below w.heap.size w (((w1.setCell ⟨w.heap.size, 0, none⟩ v0).setCell ⟨w.heap.size, 1, none⟩ v1).setCell ⟨w.heap.size, 2, none⟩ v2) :=
  (((((Below.refl _ _).alloc (Nat.le_refl _) o).trans (h.mono (by simp))).setCell (Nat.le_refl _) _).setCell (Nat.le_refl _) _).setCell (Nat.le_refl _) _
theorem out_cells {w w1 : World} (c0 c1 c2 : Value) (t : TypeId) (h : Below (w.alloc (.cells #[c0, c1, c2] t)).heap.size (w.alloc (.cells #[c0, c1, c2] t)) w1) :
    w1.cell? ⟨w.heap.size, 0, none⟩ = some c0 ∧ w1.cell? ⟨w.heap.size, 1, none⟩ = some c1 ∧ w1.cell? ⟨w.heap.size, 2, none⟩ = some c2 := by
  have hn := heap_alloc_new w (.cells #[c0, c1, c2] t)
  refine ⟨?_, ?_, ?_⟩
  all_goals
    rw [h.cell (by simp), cell_of_row _ _ _ _ t (0, 0) hn]
    rfl

set_option maxHeartbeats 400000 in
theorem implUnseal_sum (s : ByteArray) (w : World) (h0 : 4 ≤ s.size) (h1 : s.size ≤ 8000) (hq : ¬ sealOf (s.extract 0 (s.size - 4)) = s) :
    Calls Tryz.prog 79 #[.string s] w fun e w' => e = .returned (.agg #[.string ⟨#[]⟩, .int .i64 0, .int .i64 5]) ∧ Below w.heap.size w w' := by
  have hbs : (s.extract 0 (s.size - 4)).size ≤ 7996 := by have := body_size s; unfold bodyOf at this; omega
  have hne := toList_ne hq
  clear hq
  go_enter Tryz.func79, Tryz.ntmps79
  go_wp2_with fail
  refine (implSeal_any _ _ hbs).mono ?_
  rintro e w1 ⟨rfl, hb1⟩
  have HB1 := hide hb1
  obtain ⟨hc1, hf1⟩ := bcell hb1
  clear hb1
  obtain ⟨c0, c1, c2⟩ := out_cells _ _ _ _ HB1.out
  obtain ⟨q0, q1, q2⟩ := three c0 c1 c2 (.string ⟨#[]⟩) (.int .i64 0) (.int .i64 5)
  clear c0 c1 c2
  go_wp2
  exact bodyPost_ret (v := .agg #[.string ⟨#[]⟩, .int .i64 0, .int .i64 5]) (by simp [results, Tryz.results79, go_sem, q0, q1, q2]) rfl ⟨rfl, three_below HB1.out _ _ _⟩

set_option maxHeartbeats 400000 in
theorem implUnseal_ok (s : ByteArray) (w : World) (h0 : 4 ≤ s.size) (h1 : s.size ≤ 8000) (hq : sealOf (s.extract 0 (s.size - 4)) = s) :
    Calls Tryz.prog 79 #[.string s] w fun e w' => e = .returned (.agg #[.string (s.extract 0 (s.size - 4)), .int .i64 0, .int .i64 0]) ∧ Below w.heap.size w w' := by
  have hbs : (s.extract 0 (s.size - 4)).size ≤ 7996 := by have := body_size s; unfold bodyOf at this; omega
  have HQ := hide hq
  clear hq
  go_enter Tryz.func79, Tryz.ntmps79
  go_wp2_with fail
  refine (implSeal_any _ _ hbs).mono ?_
  rintro e w1 ⟨rfl, hb1⟩
  rw [HQ.out]
  have HB1 := hide hb1
  obtain ⟨hc1, hf1⟩ := bcell hb1
  clear hb1
  go_wp2_with fail
  refine (joinTexts_any _ _ _ (by omega) (by decide)).mono ?_
  rintro e w2 ⟨rfl, hb2⟩
  have HB2 := hide (HB1.out.trans (hb2.mono HB1.out.size))
  clear hb2 hc1 hf1
  obtain ⟨hc1, hf1⟩ := bcell HB2.out
  obtain ⟨c0, c1, c2⟩ := out_cells _ _ _ _ HB2.out
  obtain ⟨q0, q1, q2⟩ := three c0 c1 c2 (.string (s.extract 0 (s.size - 4))) (.int .i64 0) (.int .i64 0)
  clear c0 c1 c2
  rw [append_nothing]
  go_wp2
  exact bodyPost_ret (v := .agg #[.string (s.extract 0 (s.size - 4)), .int .i64 0, .int .i64 0]) (by simp [results, Tryz.results79, go_sem, q0, q1, q2]) rfl ⟨rfl, three_below HB2.out _ _ _⟩

set_option maxHeartbeats 400000 in
theorem specUnseal_short (s : ByteArray) (w : World) (h1 : s.size < 4) :
    Calls Tryz.prog 72 #[.string s] w fun e w' => e = .returned (.agg #[.string ⟨#[]⟩, .int .i64 0, .int .i64 4]) ∧ Below w.heap.size w w' := by
  go_enter Tryz.func72, Tryz.ntmps72
  go_wp2
  exact bodyPost_ret (v := .agg #[.string ⟨#[]⟩, .int .i64 0, .int .i64 4]) (by simp [results, Tryz.results72, go_sem]) rfl ⟨rfl, (Below.refl _ _).alloc (Nat.le_refl _) _⟩

theorem below_drew {W w1 : World} (h : Below W.drew.heap.size W.drew w1) : Below W.heap.size W w1 := ((Below.refl W.heap.size W).drew).trans h

theorem seal_parts (s : ByteArray) : s.extract 0 (s.size - 4) ++ s.extract (s.size - 4) s.size = s := by
  apply ByteArray.ext
  rw [ByteArray.data_append, ByteArray.data_extract, ByteArray.data_extract, Array.extract_append_extract, Nat.zero_min, Nat.max_eq_right (Nat.sub_le _ _)]
  exact Array.extract_size
theorem seal_tail (s : ByteArray) (h : four (crcOf 0 (s.extract 0 (s.size - 4))) = s.extract (s.size - 4) s.size) : sealOf (s.extract 0 (s.size - 4)) = s := by
  unfold sealOf
  rw [h, seal_parts s]
theorem tail_seal (s : ByteArray) (h : sealOf (s.extract 0 (s.size - 4)) = s) : four (crcOf 0 (s.extract 0 (s.size - 4))) = s.extract (s.size - 4) s.size := by
  unfold sealOf at h
  have e := seal_parts s
  generalize s.extract 0 (s.size - 4) = b at *
  generalize s.extract (s.size - 4) s.size = c at *
  have h2 : b ++ four (crcOf 0 b) = b ++ c := h.trans e.symm
  have h3 := congrArg ByteArray.data h2
  simp only [ByteArray.data_append] at h3
  exact ByteArray.ext (Array.append_right_inj _ |>.1 h3)

set_option maxHeartbeats 1000000 in
theorem specUnseal_sum (s : ByteArray) (w : World) (h0 : 4 ≤ s.size) (h1 : s.size ≤ 8000) (hq : ¬ sealOf (s.extract 0 (s.size - 4)) = s) :
    Calls Tryz.prog 72 #[.string s] w fun e w' => e = .returned (.agg #[.string ⟨#[]⟩, .int .i64 0, .int .i64 5]) ∧ Below w.heap.size w w' := by
  have hbs : (s.extract 0 (s.size - 4)).size ≤ 7996 := by have := body_size s; unfold bodyOf at this; omega
  have HN : Hid ((!(four (crcOf 0 (s.extract 0 (s.size - 4)))).toList == (s.extract (s.size - 4) s.size).toList) = true) := by
    rw [toList_ne (fun h => hq (seal_tail s h))]; exact rfl
  have hb := crcOf_bd 0 (s.extract 0 (s.size - 4))
  clear hq
  have e1 : (0 : Int) ≤ (s.size : Int) - 4 := by omega
  have e2 : (s.size : Int) - 4 ≤ (s.size : Int) := by omega
  have e3 : ((s.size : Int) - 4).toNat = s.size - 4 := by omega
  have e4 : IntKind.i64.wrap ((s.size : Int) - 4) = (s.size : Int) - 4 := by rw [IntKind.wrap_i64]; omega
  go_enter Tryz.func72, Tryz.ntmps72
  go_wp2_with fail
  go_region_with (first
    | (go_at_call 89; refine (specCrc_any _ _ _ (by unfold maxLen; omega) (by omega) (by omega)).mono ?_; rintro e w' ⟨rfl, rfl⟩)
    | (go_at_call 88; refine (specFour_any _ _ hb.1 hb.2).mono ?_; rintro e w1 ⟨rfl, hb1⟩))
  have HB1 := hide (below_drew hb1)
  clear hb1 e1 e2 e3 e4
  obtain ⟨hc1, hf1⟩ := bcell HB1.out
  obtain ⟨c0, c1, c2⟩ := out_cells _ _ _ _ HB1.out
  obtain ⟨q0, q1, q2⟩ := three c0 c1 c2 (.string ⟨#[]⟩) (.int .i64 0) (.int .i64 5)
  clear c0 c1 c2
  have hne := HN.out
  go_wp2
  all_goals first
    | (exfalso; have hx : (!(four (crcOf 0 (s.extract 0 (s.size - 4)))).toList == (s.extract (s.size - 4) s.size).toList) = false := by assumption
       rw [hne] at hx; exact Bool.noConfusion hx)
    | exact bodyPost_ret (v := .agg #[.string ⟨#[]⟩, .int .i64 0, .int .i64 5]) (by simp [results, Tryz.results72, go_sem, q0, q1, q2]) rfl ⟨rfl, three_below HB1.out _ _ _⟩

set_option maxHeartbeats 1000000 in
theorem specUnseal_ok (s : ByteArray) (w : World) (h0 : 4 ≤ s.size) (h1 : s.size ≤ 8000) (hq : sealOf (s.extract 0 (s.size - 4)) = s) :
    Calls Tryz.prog 72 #[.string s] w fun e w' => e = .returned (.agg #[.string (s.extract 0 (s.size - 4)), .int .i64 0, .int .i64 0]) ∧ Below w.heap.size w w' := by
  have hbs : (s.extract 0 (s.size - 4)).size ≤ 7996 := by have := body_size s; unfold bodyOf at this; omega
  have HN : Hid ((!(four (crcOf 0 (s.extract 0 (s.size - 4)))).toList == (s.extract (s.size - 4) s.size).toList) = false) := by
    rw [tail_seal s hq, beq_self_eq_true]; exact rfl
  have hb := crcOf_bd 0 (s.extract 0 (s.size - 4))
  clear hq
  have e1 : (0 : Int) ≤ (s.size : Int) - 4 := by omega
  have e2 : (s.size : Int) - 4 ≤ (s.size : Int) := by omega
  have e3 : ((s.size : Int) - 4).toNat = s.size - 4 := by omega
  have e4 : IntKind.i64.wrap ((s.size : Int) - 4) = (s.size : Int) - 4 := by rw [IntKind.wrap_i64]; omega
  go_enter Tryz.func72, Tryz.ntmps72
  go_wp2_with fail
  go_region_with (first
    | (go_at_call 89; refine (specCrc_any _ _ _ (by unfold maxLen; omega) (by omega) (by omega)).mono ?_; rintro e w' ⟨rfl, rfl⟩)
    | (go_at_call 88; refine (specFour_any _ _ hb.1 hb.2).mono ?_; rintro e w1 ⟨rfl, hb1⟩))
  have HB1 := hide (below_drew hb1)
  clear hb1 e1 e2 e3 e4
  obtain ⟨hc1, hf1⟩ := bcell HB1.out
  obtain ⟨c0, c1, c2⟩ := out_cells _ _ _ _ HB1.out
  obtain ⟨q0, q1, q2⟩ := three c0 c1 c2 (.string (s.extract 0 (s.size - 4))) (.int .i64 0) (.int .i64 0)
  clear c0 c1 c2
  have hne := HN.out
  go_wp2
  all_goals first
    | (exfalso; have hx : (!(four (crcOf 0 (s.extract 0 (s.size - 4)))).toList == (s.extract (s.size - 4) s.size).toList) = true := by assumption
       rw [hne] at hx; exact Bool.noConfusion hx)
    | exact bodyPost_ret (v := .agg #[.string (s.extract 0 (s.size - 4)), .int .i64 0, .int .i64 0]) (by simp [results, Tryz.results72, go_sem, q0, q1, q2]) rfl ⟨rfl, three_below HB1.out _ _ _⟩
end Go.Proofs.YtkmehbgepkilkaaGreatDoor.St1
