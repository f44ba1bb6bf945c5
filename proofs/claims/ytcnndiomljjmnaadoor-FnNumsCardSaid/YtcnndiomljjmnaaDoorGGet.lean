/- GetNum of the program: it answers what 'scan' reads, or the code of a wrong place; two equal answers are told to be equal. -/
import Derived.Test.YtcnndiomljjmnaaDoorGRead
namespace Go.Proofs.YtcnndiomljjmnaaDoor.St3
open Go.RowKit

theorem bcell {W w1 : World} (hb : Below W.heap.size W w1) : (∀ b o, b < W.heap.size → w1.cell? ⟨b, o, none⟩ = W.cell? ⟨b, o, none⟩) ∧ (∀ b o, b < W.heap.size → w1.frozen? ⟨b, o, none⟩ = W.frozen? ⟨b, o, none⟩) :=
  ⟨fun b o h => hb.cell (p := ⟨b, o, none⟩) h, fun b o h => hb.frozen (p := ⟨b, o, none⟩) h⟩
theorem three {w1 : World} {B : Nat} {u0 u1 u2 : Value} (h0 : w1.cell? ⟨B, 0, none⟩ = some u0) (h1 : w1.cell? ⟨B, 1, none⟩ = some u1) (h2 : w1.cell? ⟨B, 2, none⟩ = some u2) (v0 v1 v2 : Value) :
    (w1.setCell ⟨B, 0, none⟩ v0).cell? ⟨B, 0, none⟩ = some v0 ∧ ((w1.setCell ⟨B, 0, none⟩ v0).setCell ⟨B, 1, none⟩ v1).cell? ⟨B, 1, none⟩ = some v1 ∧
    (((w1.setCell ⟨B, 0, none⟩ v0).setCell ⟨B, 1, none⟩ v1).setCell ⟨B, 2, none⟩ v2).cell? ⟨B, 2, none⟩ = some v2 := by
  refine ⟨World.cell?_setCell_same _ _ _ h0, World.cell?_setCell_same (u := u1) _ _ _ ?_, World.cell?_setCell_same (u := u2) _ _ _ ?_⟩
  · rw [World.cell?_setCell_other _ _ _ _ (by simp)]; exact h1
  · rw [World.cell?_setCell_other _ _ _ _ (by simp), World.cell?_setCell_other _ _ _ _ (by simp)]; exact h2
theorem three_below {w w1 : World} {o : Obj} (h : Below (w.alloc o).heap.size (w.alloc o) w1) (v0 v1 v2 : Value) :
    Below w.heap.size w (((w1.setCell ⟨w.heap.size, 0, none⟩ v0).setCell ⟨w.heap.size, 1, none⟩ v1).setCell ⟨w.heap.size, 2, none⟩ v2) :=
  (((((Below.refl _ _).alloc (Nat.le_refl _) o).trans (h.mono (by simp))).setCell (Nat.le_refl _) _).setCell (Nat.le_refl _) _).setCell (Nat.le_refl _) _
theorem out_cells {w w1 : World} (c0 c1 c2 : Value) (t : TypeId) (h : Below (w.alloc (.cells #[c0, c1, c2] t)).heap.size (w.alloc (.cells #[c0, c1, c2] t)) w1) :
    w1.cell? ⟨w.heap.size, 0, none⟩ = some c0 ∧ w1.cell? ⟨w.heap.size, 1, none⟩ = some c1 ∧ w1.cell? ⟨w.heap.size, 2, none⟩ = some c2 := by
  have hn := heap_alloc_new w (.cells #[c0, c1, c2] t)
  refine ⟨?_, ?_, ?_⟩
  all_goals
    rw [h.cell (by simp), cell_of_row _ _ _ _ t (0, 0) hn]
    rfl

theorem scan_code (s : ByteArray) (a : Nat) : ∀ (f k : Nat) (u : Int), (scan s a f k u).2.2 = 0 ∨ scan s a f k u = (0, 0, 3) ∨ scan s a f k u = (0, 0, 4)
  | 0, _, _ => .inr (.inl rfl)
  | f + 1, k, u => by
    rw [scan]
    split
    · split
      · split
        · exact .inr (.inl rfl)
        · exact .inl rfl
      · exact scan_code s a f _ _
    · exact .inr (.inr rfl)

set_option maxHeartbeats 400000 in
theorem place_size (s : ByteArray) (a : Int) (w : World) (hm : s.size ≤ maxLen) (hs : 8000 < s.size) :
    Calls Tryd.prog 16 #[.string s, .int .i64 a] w fun e w' => e = .returned (.int .i64 2) ∧ w' = w := by
  unfold maxLen at hm
  go_enter Tryd.func16, Tryd.ntmps16
  go_wp2
  go_ret
  exact ⟨rfl, rfl⟩
set_option maxHeartbeats 400000 in
theorem place_form (s : ByteArray) (a : Int) (w : World) (hs : s.size ≤ 8000) (ha : a < 0) :
    Calls Tryd.prog 16 #[.string s, .int .i64 a] w fun e w' => e = .returned (.int .i64 1) ∧ w' = w := by
  go_enter Tryd.func16, Tryd.ntmps16
  go_wp2
  go_ret
  exact ⟨rfl, rfl⟩
set_option maxHeartbeats 400000 in
theorem place_ok (s : ByteArray) (a : Int) (w : World) (hs : s.size ≤ 8000) (ha : 0 ≤ a) :
    Calls Tryd.prog 16 #[.string s, .int .i64 a] w fun e w' => e = .returned (.int .i64 0) ∧ w' = w := by
  go_enter Tryd.func16, Tryd.ntmps16
  go_wp2
  go_ret
  exact ⟨rfl, rfl⟩

set_option maxHeartbeats 400000 in
theorem implGetNum_size (s : ByteArray) (a : Int) (w : World) (hm : s.size ≤ maxLen) (hs : 8000 < s.size) :
    Calls Tryd.prog 7 #[.string s, .int .i64 a] w fun e w' => e = .returned (.agg #[.int .i64 0, .int .i64 0, .int .i64 2]) ∧ Below w.heap.size w w' := by
  go_enter Tryd.func7, Tryd.ntmps7
  go_wp2_with fail
  refine (place_size _ _ _ hm hs).mono ?_
  rintro e w1 ⟨rfl, rfl⟩
  go_wp2
  exact bodyPost_ret (v := .agg #[.int .i64 0, .int .i64 0, .int .i64 2]) (by simp [results, Tryd.results7, go_sem]) rfl ⟨rfl, (Below.refl _ _).alloc (Nat.le_refl _) _⟩
set_option maxHeartbeats 400000 in
theorem implGetNum_form (s : ByteArray) (a : Int) (w : World) (hs : s.size ≤ 8000) (ha : a < 0) :
    Calls Tryd.prog 7 #[.string s, .int .i64 a] w fun e w' => e = .returned (.agg #[.int .i64 0, .int .i64 0, .int .i64 1]) ∧ Below w.heap.size w w' := by
  go_enter Tryd.func7, Tryd.ntmps7
  go_wp2_with fail
  refine (place_form _ _ _ hs ha).mono ?_
  rintro e w1 ⟨rfl, rfl⟩
  go_wp2
  exact bodyPost_ret (v := .agg #[.int .i64 0, .int .i64 0, .int .i64 1]) (by simp [results, Tryd.results7, go_sem]) rfl ⟨rfl, (Below.refl _ _).alloc (Nat.le_refl _) _⟩

set_option maxHeartbeats 1000000 in
theorem implGetNum_yes (s : ByteArray) (a : Nat) (n p : Int) (w : World) (hs : s.size ≤ 8000) (ha : (a : Int) ≤ 9223372036854775807) (HR : Hid (scan s a 10 0 0 = (n, p, 0))) :
    Calls Tryd.prog 7 #[.string s, .int .i64 (a : Int)] w fun e w' => e = .returned (.agg #[.int .i64 n, .int .i64 p, .int .i64 0]) ∧ Below w.heap.size w w' := by
  have ht : tup (n, p, 0) = .tuple #[.int .i64 n, .int .i64 p, .nilIface] := rfl
  have HT := hide ht
  clear ht
  go_enter Tryd.func7, Tryd.ntmps7
  go_wp2_with fail
  refine (place_ok _ _ _ hs (by omega)).mono ?_
  rintro e w1 ⟨rfl, rfl⟩
  go_wp2_with fail
  refine (readNum_any s a (n, p, 0) _ hs ha HR).mono ?_
  rintro e w1 ⟨rfl, rfl⟩
  rw [HT.out]
  go_wp2_with fail
  refine (bytesCode_nil _).mono ?_
  rintro e w1 ⟨rfl, hb1⟩
  have HB1 := hide hb1
  obtain ⟨hc1, hf1⟩ := bcell hb1
  clear hb1
  obtain ⟨c0, c1, c2⟩ := out_cells _ _ _ _ HB1.out
  obtain ⟨q0, q1, q2⟩ := three c0 c1 c2 (.int .i64 n) (.int .i64 p) (.int .i64 0)
  clear c0 c1 c2
  go_wp2
  exact bodyPost_ret (v := .agg #[.int .i64 n, .int .i64 p, .int .i64 0]) (by simp [results, Tryd.results7, go_sem, q0, q1, q2]) rfl ⟨rfl, three_below HB1.out _ _ _⟩

set_option maxHeartbeats 1000000 in
theorem implGetNum_no (s : ByteArray) (a : Nat) (c : Int) (w : World) (hs : s.size ≤ 8000) (ha : (a : Int) ≤ 9223372036854775807) (hg : Laid w) (hc : c = 3 ∨ c = 4) (HR : Hid (scan s a 10 0 0 = (0, 0, c))) :
    Calls Tryd.prog 7 #[.string s, .int .i64 (a : Int)] w fun e w' => e = .returned (.agg #[.int .i64 0, .int .i64 0, .int .i64 c]) ∧ Below w.heap.size w w' := by
  have ht : tup (0, 0, c) = .tuple #[.int .i64 0, .int .i64 0, .iface 55 (.agg #[.int .i64 c])] := if_neg (show ¬ c = 0 by omega)
  have HT := hide ht
  have HG := hide (laid_alloc hg (.cells #[.int .i64 0, .int .i64 0, .int .i64 0] 26))
  clear ht hg
  go_enter Tryd.func7, Tryd.ntmps7
  go_wp2_with fail
  refine (place_ok _ _ _ hs (by omega)).mono ?_
  rintro e w1 ⟨rfl, rfl⟩
  go_wp2_with fail
  refine (readNum_any s a (0, 0, c) _ hs ha HR).mono ?_
  rintro e w1 ⟨rfl, rfl⟩
  rw [HT.out]
  go_wp2_with fail
  refine (bytesCode_fault c _ HG.out).mono ?_
  rintro e w1 ⟨rfl, hb1⟩
  have HB1 := hide hb1
  obtain ⟨hc1, hf1⟩ := bcell hb1
  clear hb1 hc
  obtain ⟨c0, c1, c2⟩ := out_cells _ _ _ _ HB1.out
  obtain ⟨q0, q1, q2⟩ := three c0 c1 c2 (.int .i64 0) (.int .i64 0) (.int .i64 c)
  clear c0 c1 c2
  go_wp2
  exact bodyPost_ret (v := .agg #[.int .i64 0, .int .i64 0, .int .i64 c]) (by simp [results, Tryd.results7, go_sem, q0, q1, q2]) rfl ⟨rfl, three_below HB1.out _ _ _⟩

end Go.Proofs.YtcnndiomljjmnaaDoor.St3
