/- GetText of the program. -/
import Derived.Test.YtbhdbkffejlfmaaGreatDoorXGGRead
import Derived.Test.YtbhdbkffejlfmaaGreatDoorXGSArea
import Derived.RegionTactic
namespace Go.Proofs.YtbhdbkffejlfmaaGreatDoor.St4
open Go.RowKit St1 St3

theorem append_nothing (a : ByteArray) : a ++ (⟨#[]⟩ : ByteArray) = a := by
  apply ByteArray.ext
  simp

set_option maxHeartbeats 1000000 in
theorem readText_fault (s : ByteArray) (a : Nat) (c : Int) (w : World) (hs : s.size ≤ 8000) (ha : (a : Int) ≤ 9223372036854775807) (hc : c = 3 ∨ c = 4) (HR : Hid (scan s a 10 0 0 = (0, 0, c))) :
    Calls Tryz.prog 157 #[.string s, .int .i64 (a : Int)] w fun e w' => e = .returned (.tuple #[.string ⟨#[]⟩, .int .i64 0, .iface 216 (.agg #[.int .i64 c])]) ∧ w' = w := by
  have ht : tup (0, 0, c) = .tuple #[.int .i64 0, .int .i64 0, .iface 216 (.agg #[.int .i64 c])] := if_neg (show ¬ c = 0 by omega)
  have HT := hide ht
  clear ht hc
  go_enter Tryz.func157, Tryz.ntmps157
  go_wp2_with fail
  refine (readNum_any s a (0, 0, c) _ hs ha HR).mono ?_
  rintro e w1 ⟨rfl, rfl⟩
  rw [HT.out]
  go_wp2
  go_ret3
  exact ⟨rfl, rfl⟩

set_option maxHeartbeats 1000000 in
theorem readText_long (s : ByteArray) (a : Nat) (n p : Int) (w : World) (hs : s.size ≤ 8000) (ha : (a : Int) ≤ 9223372036854775807) (hn : n < 0 ∨ (0 ≤ n ∧ 8000 < n)) (HR : Hid (scan s a 10 0 0 = (n, p, 0))) :
    Calls Tryz.prog 157 #[.string s, .int .i64 (a : Int)] w fun e w' => e = .returned (.tuple #[.string ⟨#[]⟩, .int .i64 0, .iface 216 (.agg #[.int .i64 3])]) ∧ w' = w := by
  have ht : tup (n, p, 0) = .tuple #[.int .i64 n, .int .i64 p, .nilIface] := rfl
  have HT := hide ht
  clear ht
  rcases hn with hn | ⟨hn, hn'⟩
  all_goals
    go_enter Tryz.func157, Tryz.ntmps157
    go_wp2_with fail
    refine (readNum_any s a (n, p, 0) _ hs ha HR).mono ?_
    rintro e w1 ⟨rfl, rfl⟩
    rw [HT.out]
    go_wp2
    go_ret3
    exact ⟨rfl, rfl⟩

set_option maxHeartbeats 1000000 in
theorem readText_short (s : ByteArray) (a : Nat) (n p : Int) (w : World) (hs : s.size ≤ 8000) (ha : (a : Int) ≤ 9223372036854775807) (hn : 0 ≤ n) (hn' : n ≤ 8000) (hp1 : p ≤ (s.size : Int)) (hp : (s.size : Int) - p < n) (HR : Hid (scan s a 10 0 0 = (n, p, 0))) :
    Calls Tryz.prog 157 #[.string s, .int .i64 (a : Int)] w fun e w' => e = .returned (.tuple #[.string ⟨#[]⟩, .int .i64 0, .iface 216 (.agg #[.int .i64 4])]) ∧ w' = w := by
  have ht : tup (n, p, 0) = .tuple #[.int .i64 n, .int .i64 p, .nilIface] := rfl
  have HT := hide ht
  clear ht
  go_enter Tryz.func157, Tryz.ntmps157
  go_wp2_with fail
  refine (readNum_any s a (n, p, 0) _ hs ha HR).mono ?_
  rintro e w1 ⟨rfl, rfl⟩
  rw [HT.out]
  go_wp2
  go_ret3
  exact ⟨rfl, rfl⟩

set_option maxHeartbeats 1000000 in
theorem readText_ok (s : ByteArray) (a n p : Nat) (w : World) (hs : s.size ≤ 8000) (ha : (a : Int) ≤ 9223372036854775807) (hn' : n ≤ 8000) (hp : p + n ≤ s.size) (HR : Hid (scan s a 10 0 0 = ((n : Int), (p : Int), 0))) :
    Calls Tryz.prog 157 #[.string s, .int .i64 (a : Int)] w fun e w' => e = .returned (.tuple #[.string (s.extract p (p + n)), .int .i64 ((p : Int) + n), .nilIface]) ∧ Below w.heap.size w w' := by
  have ht : tup ((n : Int), (p : Int), 0) = .tuple #[.int .i64 n, .int .i64 p, .nilIface] := rfl
  have HT := hide ht
  have hx : (s.extract p (p + n)).size ≤ 8000 := by simp; omega
  clear ht
  go_enter Tryz.func157, Tryz.ntmps157
  go_wp2_with fail
  refine (readNum_any s a ((n : Int), (p : Int), 0) _ hs ha HR).mono ?_
  rintro e w1 ⟨rfl, rfl⟩
  rw [HT.out]
  have e2 : ((p : Int) + (n : Int)).toNat = p + n := by omega
  have e3 : (0 : Int) ≤ (p : Int) + (n : Int) := by omega
  have e4 : (p : Int) + (n : Int) ≤ (s.size : Int) := by omega
  have e5 : (p : Int) ≤ (p : Int) + (n : Int) := by omega
  go_wp2_with fail
  refine (joinTexts_any (s.extract p (p + n)) ⟨#[]⟩ _ (by omega) (by decide)).mono ?_
  rintro e w2 ⟨rfl, hb2⟩
  rw [append_nothing]
  go_wp2
  go_ret3
  exact ⟨rfl, hb2⟩

set_option maxHeartbeats 1000000 in
theorem implGetText_no (s : ByteArray) (a : Nat) (c : Int) (w : World) (hs : s.size ≤ 8000) (hg : Laid w)
    (h14 : ∀ w, Calls Tryz.prog 157 #[.string s, .int .i64 (a : Int)] w fun e w' => e = .returned (.tuple #[.string ⟨#[]⟩, .int .i64 0, .iface 216 (.agg #[.int .i64 c])]) ∧ w' = w) :
    Calls Tryz.prog 138 #[.string s, .int .i64 (a : Int)] w fun e w' => e = .returned (.agg #[.string ⟨#[]⟩, .int .i64 0, .int .i64 c]) ∧ Below w.heap.size w w' := by
  have HG := hide (laid_alloc hg (.cells #[.string ⟨#[]⟩, .int .i64 0, .int .i64 0] 113))
  have H14 := hide h14
  clear hg h14
  go_enter Tryz.func138, Tryz.ntmps138
  go_wp2_with fail
  refine (place_ok _ _ _ hs (by omega)).mono ?_
  rintro e w1 ⟨rfl, rfl⟩
  go_wp2_with fail
  refine (H14.out _).mono ?_
  rintro e w1 ⟨rfl, rfl⟩
  go_wp2_with fail
  refine (bytesCode_fault c _ HG.out).mono ?_
  rintro e w1 ⟨rfl, hb1⟩
  have HB1 := hide hb1
  obtain ⟨hc1, hf1⟩ := bcell hb1
  clear hb1
  obtain ⟨c0, c1, c2⟩ := St3.out_cells _ _ _ _ HB1.out
  obtain ⟨q0, q1, q2⟩ := St3.three c0 c1 c2 (.string ⟨#[]⟩) (.int .i64 0) (.int .i64 c)
  clear c0 c1 c2
  go_wp2
  exact bodyPost_ret (v := .agg #[.string ⟨#[]⟩, .int .i64 0, .int .i64 c]) (by simp [results, Tryz.results138, go_sem, q0, q1, q2]) rfl ⟨rfl, St3.three_below HB1.out _ _ _⟩

set_option maxHeartbeats 1000000 in
theorem implGetText_ok (s : ByteArray) (a : Nat) (t : ByteArray) (p : Int) (w : World) (hs : s.size ≤ 8000)
    (h14 : ∀ w, Calls Tryz.prog 157 #[.string s, .int .i64 (a : Int)] w fun e w' => e = .returned (.tuple #[.string t, .int .i64 p, .nilIface]) ∧ Below w.heap.size w w') :
    Calls Tryz.prog 138 #[.string s, .int .i64 (a : Int)] w fun e w' => e = .returned (.agg #[.string t, .int .i64 p, .int .i64 0]) ∧ Below w.heap.size w w' := by
  have H14 := hide h14
  clear h14
  go_enter Tryz.func138, Tryz.ntmps138
  go_wp2_with fail
  refine (place_ok _ _ _ hs (by omega)).mono ?_
  rintro e w1 ⟨rfl, rfl⟩
  go_wp2_with fail
  refine (H14.out _).mono ?_
  rintro e w1 ⟨rfl, hb1⟩
  have HB1 := hide hb1
  clear hb1
  go_wp2_with fail
  refine (bytesCode_nil _).mono ?_
  rintro e w2 ⟨rfl, hb2⟩
  have HB2 := hide (HB1.out.trans (hb2.mono HB1.out.size))
  clear hb2
  obtain ⟨hc1, hf1⟩ := bcell HB2.out
  obtain ⟨c0, c1, c2⟩ := St3.out_cells _ _ _ _ HB2.out
  obtain ⟨q0, q1, q2⟩ := St3.three c0 c1 c2 (.string t) (.int .i64 p) (.int .i64 0)
  clear c0 c1 c2
  go_wp2
  exact bodyPost_ret (v := .agg #[.string t, .int .i64 p, .int .i64 0]) (by simp [results, Tryz.results138, go_sem, q0, q1, q2]) rfl ⟨rfl, St3.three_below HB2.out _ _ _⟩

end Go.Proofs.YtbhdbkffejlfmaaGreatDoor.St4

/- GetNum and GetText, of the model and of the program, each as one Lean function of the text and the place. -/
namespace Go.Proofs.YtbhdbkffejlfmaaGreatDoor.St4
open Go.RowKit St3

theorem scan_at (s : ByteArray) (a : Nat) : ∀ (f k : Nat) (u : Int), (scan s a f k u).2.2 = 0 → 0 ≤ (scan s a f k u).2.1 ∧ (scan s a f k u).2.1 ≤ (s.size : Int)
  | 0, _, _ => fun h => absurd (show (3 : Int) = 0 from h) (by decide)
  | f + 1, k, u => by
    rw [scan]
    split
    · split
      · split
        · intro h; exact absurd (show (3 : Int) = 0 from h) (by decide)
        · intro _; exact ⟨by show (0 : Int) ≤ (a : Int) + k + 1; omega, by show (a : Int) + k + 1 ≤ (s.size : Int); omega⟩
      · exact scan_at s a f _ _
    · intro h; exact absurd (show (4 : Int) = 0 from h) (by decide)

theorem three_alloc {w1 : World} {B : Nat} {u0 u1 u2 : Value} (hB : B < w1.heap.size) (h0 : w1.cell? ⟨B, 0, none⟩ = some u0) (h1 : w1.cell? ⟨B, 1, none⟩ = some u1) (h2 : w1.cell? ⟨B, 2, none⟩ = some u2) (v0 v1 v2 : Value) (o : Obj) :
    ((((w1.setCell ⟨B, 0, none⟩ v0).setCell ⟨B, 1, none⟩ v1).setCell ⟨B, 2, none⟩ v2).alloc o).cell? ⟨B, 0, none⟩ = some v0 ∧
    ((((w1.setCell ⟨B, 0, none⟩ v0).setCell ⟨B, 1, none⟩ v1).setCell ⟨B, 2, none⟩ v2).alloc o).cell? ⟨B, 1, none⟩ = some v1 ∧
    ((((w1.setCell ⟨B, 0, none⟩ v0).setCell ⟨B, 1, none⟩ v1).setCell ⟨B, 2, none⟩ v2).alloc o).cell? ⟨B, 2, none⟩ = some v2 := by
  obtain ⟨q0, q1, q2⟩ := St3.three h0 h1 h2 v0 v1 v2
  have hs : B < (((w1.setCell ⟨B, 0, none⟩ v0).setCell ⟨B, 1, none⟩ v1).setCell ⟨B, 2, none⟩ v2).heap.size := by simp [World.setCell]; exact hB
  refine ⟨?_, ?_, ?_⟩
  · rw [World.cell?_alloc_lt _ _ ⟨B, 0, none⟩ hs, World.cell?_setCell_other _ _ _ _ (by simp), World.cell?_setCell_other _ _ _ _ (by simp)]; exact q0
  · rw [World.cell?_alloc_lt _ _ ⟨B, 1, none⟩ hs, World.cell?_setCell_other _ _ _ _ (by simp)]; exact q1
  · rw [World.cell?_alloc_lt _ _ ⟨B, 2, none⟩ hs]; exact q2

theorem three_alloc_below {w w1 : World} {o : Obj} (h : Below (w.alloc o).heap.size (w.alloc o) w1) (v0 v1 v2 : Value) (o2 : Obj) :
    Below w.heap.size w ((((w1.setCell ⟨w.heap.size, 0, none⟩ v0).setCell ⟨w.heap.size, 1, none⟩ v1).setCell ⟨w.heap.size, 2, none⟩ v2).alloc o2) :=
  (St3.three_below h v0 v1 v2).alloc (by have := h.size; simp [World.setCell] at this ⊢; omega) o2

set_option maxHeartbeats 1000000 in
theorem specGetText_code (s : ByteArray) (a n p c : Int) (w : World) (hc : (c != 0) = true)
    (h5 : ∀ w, Calls Tryz.prog 76 #[.string s, .int .i64 a] w fun e w' => e = .returned (.agg #[.int .i64 n, .int .i64 p, .int .i64 c]) ∧ Below w.heap.size w w') :
    Calls Tryz.prog 77 #[.string s, .int .i64 a] w fun e w' => e = .returned (.agg #[.string ⟨#[]⟩, .int .i64 0, .int .i64 c]) ∧ Below w.heap.size w w' := by
  have H5 := hide h5
  clear h5
  go_enter Tryz.func77, Tryz.ntmps77
  go_wp2_with fail
  refine (H5.out _).mono ?_
  rintro e w1 ⟨rfl, hb1⟩
  have HB1 := hide hb1
  obtain ⟨hc1, hf1⟩ := bcell hb1
  have hz : w.heap.size < w1.heap.size := by have := hb1.size; simp at this; omega
  clear hb1
  obtain ⟨c0, c1, c2⟩ := St3.out_cells _ _ _ _ HB1.out
  obtain ⟨q0, q1, q2⟩ := three_alloc hz c0 c1 c2 (.string ⟨#[]⟩) (.int .i64 0) (.int .i64 c) (.cells #[.int .i64 n, .int .i64 p, .int .i64 c] 110)
  clear c0 c1 c2
  go_wp2
  exact bodyPost_ret (v := .agg #[.string ⟨#[]⟩, .int .i64 0, .int .i64 c]) (by simp [results, Tryz.results77, go_sem, q0, q1, q2]) rfl ⟨rfl, three_alloc_below HB1.out _ _ _ _⟩

set_option maxHeartbeats 1000000 in
theorem specGetText_long (s : ByteArray) (a n p : Int) (w : World) (hn : n < 0 ∨ (0 ≤ n ∧ 8000 < n))
    (h5 : ∀ w, Calls Tryz.prog 76 #[.string s, .int .i64 a] w fun e w' => e = .returned (.agg #[.int .i64 n, .int .i64 p, .int .i64 0]) ∧ Below w.heap.size w w') :
    Calls Tryz.prog 77 #[.string s, .int .i64 a] w fun e w' => e = .returned (.agg #[.string ⟨#[]⟩, .int .i64 0, .int .i64 3]) ∧ Below w.heap.size w w' := by
  have H5 := hide h5
  clear h5
  rcases hn with hn | ⟨hn, hn'⟩
  all_goals
    go_enter Tryz.func77, Tryz.ntmps77
    go_wp2_with fail
    refine (H5.out _).mono ?_
    rintro e w1 ⟨rfl, hb1⟩
    have HB1 := hide hb1
    obtain ⟨hc1, hf1⟩ := bcell hb1
    have hz : w.heap.size < w1.heap.size := by have := hb1.size; simp at this; omega
    clear hb1
    obtain ⟨c0, c1, c2⟩ := St3.out_cells _ _ _ _ HB1.out
    obtain ⟨q0, q1, q2⟩ := three_alloc hz c0 c1 c2 (.string ⟨#[]⟩) (.int .i64 0) (.int .i64 3) (.cells #[.int .i64 n, .int .i64 p, .int .i64 0] 110)
    clear c0 c1 c2
    go_wp2
    exact bodyPost_ret (v := .agg #[.string ⟨#[]⟩, .int .i64 0, .int .i64 3]) (by simp [results, Tryz.results77, go_sem, q0, q1, q2]) rfl ⟨rfl, three_alloc_below HB1.out _ _ _ _⟩

set_option maxHeartbeats 1000000 in
theorem specGetText_short (s : ByteArray) (a n p : Int) (w : World) (hs : s.size ≤ 8000) (hn : 0 ≤ n) (hn' : n ≤ 8000) (hp : (s.size : Int) - n < p)
    (h5 : ∀ w, Calls Tryz.prog 76 #[.string s, .int .i64 a] w fun e w' => e = .returned (.agg #[.int .i64 n, .int .i64 p, .int .i64 0]) ∧ Below w.heap.size w w') :
    Calls Tryz.prog 77 #[.string s, .int .i64 a] w fun e w' => e = .returned (.agg #[.string ⟨#[]⟩, .int .i64 0, .int .i64 4]) ∧ Below w.heap.size w w' := by
  have H5 := hide h5
  clear h5
  go_enter Tryz.func77, Tryz.ntmps77
  go_wp2_with fail
  refine (H5.out _).mono ?_
  rintro e w1 ⟨rfl, hb1⟩
  have HB1 := hide hb1
  obtain ⟨hc1, hf1⟩ := bcell hb1
  have hz : w.heap.size < w1.heap.size := by have := hb1.size; simp at this; omega
  clear hb1
  obtain ⟨c0, c1, c2⟩ := St3.out_cells _ _ _ _ HB1.out
  obtain ⟨q0, q1, q2⟩ := three_alloc hz c0 c1 c2 (.string ⟨#[]⟩) (.int .i64 0) (.int .i64 4) (.cells #[.int .i64 n, .int .i64 p, .int .i64 0] 110)
  clear c0 c1 c2
  go_wp2
  exact bodyPost_ret (v := .agg #[.string ⟨#[]⟩, .int .i64 0, .int .i64 4]) (by simp [results, Tryz.results77, go_sem, q0, q1, q2]) rfl ⟨rfl, three_alloc_below HB1.out _ _ _ _⟩

set_option maxHeartbeats 1000000 in
theorem specGetText_ok (s : ByteArray) (a : Int) (n p : Nat) (w : World) (hs : s.size ≤ 8000) (hn' : n ≤ 8000) (hp : p + n ≤ s.size)
    (h5 : ∀ w, Calls Tryz.prog 76 #[.string s, .int .i64 a] w fun e w' => e = .returned (.agg #[.int .i64 n, .int .i64 p, .int .i64 0]) ∧ Below w.heap.size w w') :
    Calls Tryz.prog 77 #[.string s, .int .i64 a] w fun e w' => e = .returned (.agg #[.string (s.extract p (p + n)), .int .i64 ((p : Int) + n), .int .i64 0]) ∧ Below w.heap.size w w' := by
  have H5 := hide h5
  clear h5
  go_enter Tryz.func77, Tryz.ntmps77
  go_wp2_with fail
  refine (H5.out _).mono ?_
  rintro e w1 ⟨rfl, hb1⟩
  have HB1 := hide hb1
  obtain ⟨hc1, hf1⟩ := bcell hb1
  have hz : w.heap.size < w1.heap.size := by have := hb1.size; simp at this; omega
  clear hb1
  obtain ⟨c0, c1, c2⟩ := St3.out_cells _ _ _ _ HB1.out
  obtain ⟨q0, q1, q2⟩ := three_alloc hz c0 c1 c2 (.string (s.extract p (p + n))) (.int .i64 ((p : Int) + n)) (.int .i64 0) (.cells #[.int .i64 n, .int .i64 p, .int .i64 0] 110)
  clear c0 c1 c2
  have e1 : IntKind.i64.wrap ((p : Int) + (n : Int)) = (p : Int) + (n : Int) := by rw [IntKind.wrap_i64]; omega
  have e2 : ((p : Int) + (n : Int)).toNat = p + n := by omega
  have e3 : (0 : Int) ≤ (p : Int) + (n : Int) := by omega
  have e4 : (p : Int) + (n : Int) ≤ (s.size : Int) := by omega
  have e5 : (p : Int) ≤ (p : Int) + (n : Int) := by omega
  go_wp2
  go_region
  go_wp2
  exact bodyPost_ret (v := .agg #[.string (s.extract p (p + n)), .int .i64 ((p : Int) + n), .int .i64 0]) (by simp [results, Tryz.results77, go_sem, q0, q1, q2]) rfl ⟨rfl, (three_alloc_below HB1.out _ _ _ _).drew⟩

/-- What GetText answers at a text of at most 8000 bytes and a place from 0 on. -/
def textO (s : ByteArray) (a : Nat) : ByteArray × Int × Int :=
  if (scan s a 10 0 0).2.2 ≠ 0 then (⟨#[]⟩, 0, (scan s a 10 0 0).2.2)
  else if (scan s a 10 0 0).1 < 0 ∨ 8000 < (scan s a 10 0 0).1 then (⟨#[]⟩, 0, 3)
  else if (s.size : Int) - (scan s a 10 0 0).2.1 < (scan s a 10 0 0).1 then (⟨#[]⟩, 0, 4)
  else (s.extract (scan s a 10 0 0).2.1.toNat ((scan s a 10 0 0).2.1.toNat + (scan s a 10 0 0).1.toNat), (scan s a 10 0 0).2.1 + (scan s a 10 0 0).1, 0)
theorem textO_at (s : ByteArray) (a : Nat) (h : (textO s a).2.2 = 0) : 0 ≤ (textO s a).2.1 ∧ (textO s a).2.1 ≤ (s.size : Int) ∧ (textO s a).1.size ≤ 8000 := by
  unfold textO at h ⊢
  split
  · rename_i h1
    rw [if_pos h1] at h
    exact absurd h h1
  · rename_i h1
    rw [if_neg h1] at h
    split
    · rename_i h2
      rw [if_pos h2] at h
      exact absurd (show (3 : Int) = 0 from h) (by decide)
    · rename_i h2
      rw [if_neg h2] at h
      split
      · rename_i h3
        rw [if_pos h3] at h
        exact absurd (show (4 : Int) = 0 from h) (by decide)
      · rename_i h3
        have h4 := scan_at s a 10 0 0 (by omega)
        refine ⟨by show 0 ≤ _ + _; omega, by show _ + _ ≤ _; omega, ?_⟩
        show (s.extract _ _).size ≤ 8000
        simp
        omega
theorem textO_ok {s : ByteArray} {a n p : Nat} (e : scan s a 10 0 0 = ((n : Int), (p : Int), 0)) (hn : n ≤ 8000) (hp : p + n ≤ s.size) : textO s a = (s.extract p (p + n), (p : Int) + n, 0) := by
  unfold textO
  rw [e]
  rw [if_neg (by simp), if_neg (by simp only; omega), if_neg (by simp only; omega)]
  simp
theorem specGetText_any (s : ByteArray) (a : Nat) (w : World) (hs : s.size ≤ 8000) (ha : (a : Int) ≤ 9223372036854775807) :
    Calls Tryz.prog 77 #[.string s, .int .i64 (a : Int)] w fun e w' => e = .returned (.agg #[.string (textO s a).1, .int .i64 (textO s a).2.1, .int .i64 (textO s a).2.2]) ∧ Below w.heap.size w w' := by
  rcases St3.scan_code s a 10 0 0 with h | h | h
  · have hat := scan_at s a 10 0 0 h
    obtain ⟨n, p, c, e⟩ : ∃ n p c, scan s a 10 0 0 = (n, p, c) := ⟨_, _, _, rfl⟩
    obtain rfl : c = 0 := by rw [e] at h; exact h
    rw [e] at hat
    obtain ⟨hp0, hp1⟩ : 0 ≤ p ∧ p ≤ (s.size : Int) := hat
    have h5 := fun w => specGetNum_any s a _ w hs ha e
    by_cases hn : n < 0 ∨ (0 ≤ n ∧ 8000 < n)
    · have hx : textO s a = (⟨#[]⟩, 0, 3) := by unfold textO; rw [e]; rw [if_neg (by simp), if_pos (by simp only; omega)]
      rw [hx]
      exact specGetText_long s a n p w hn h5
    by_cases hq : (s.size : Int) - p < n
    · have hx : textO s a = (⟨#[]⟩, 0, 4) := by unfold textO; rw [e]; rw [if_neg (by simp), if_neg (by simp only; omega), if_pos hq]
      rw [hx]
      exact specGetText_short s a n p w hs (by omega) (by omega) (by omega) h5
    obtain ⟨m, rfl⟩ := Int.eq_ofNat_of_zero_le (show 0 ≤ n by omega)
    obtain ⟨q, rfl⟩ := Int.eq_ofNat_of_zero_le hp0
    rw [textO_ok e (by omega) (by omega)]
    exact specGetText_ok s a m q w hs (by omega) (by omega) h5
  · have hx : textO s a = (⟨#[]⟩, 0, 3) := by unfold textO; rw [h]; rw [if_pos (by decide)]
    rw [hx]
    exact specGetText_code s a 0 0 3 w (by decide) (fun w => specGetNum_any s a _ w hs ha h)
  · have hx : textO s a = (⟨#[]⟩, 0, 4) := by unfold textO; rw [h]; rw [if_pos (by decide)]
    rw [hx]
    exact specGetText_code s a 0 0 4 w (by decide) (fun w => specGetNum_any s a _ w hs ha h)
theorem implGetText_any (s : ByteArray) (a : Nat) (w : World) (hs : s.size ≤ 8000) (ha : (a : Int) ≤ 9223372036854775807) (hg : Laid w) :
    Calls Tryz.prog 138 #[.string s, .int .i64 (a : Int)] w fun e w' => e = .returned (.agg #[.string (textO s a).1, .int .i64 (textO s a).2.1, .int .i64 (textO s a).2.2]) ∧ Below w.heap.size w w' := by
  rcases St3.scan_code s a 10 0 0 with h | h | h
  · have hat := scan_at s a 10 0 0 h
    obtain ⟨n, p, c, e⟩ : ∃ n p c, scan s a 10 0 0 = (n, p, c) := ⟨_, _, _, rfl⟩
    obtain rfl : c = 0 := by rw [e] at h; exact h
    rw [e] at hat
    obtain ⟨hp0, hp1⟩ : 0 ≤ p ∧ p ≤ (s.size : Int) := hat
    by_cases hn : n < 0 ∨ (0 ≤ n ∧ 8000 < n)
    · have hx : textO s a = (⟨#[]⟩, 0, 3) := by unfold textO; rw [e]; rw [if_neg (by simp), if_pos (by simp only; omega)]
      rw [hx]
      exact implGetText_no s a 3 w hs hg (fun w => readText_long s a n p w hs ha hn e)
    by_cases hq : (s.size : Int) - p < n
    · have hx : textO s a = (⟨#[]⟩, 0, 4) := by unfold textO; rw [e]; rw [if_neg (by simp), if_neg (by simp only; omega), if_pos hq]
      rw [hx]
      exact implGetText_no s a 4 w hs hg (fun w => readText_short s a n p w hs ha (by omega) (by omega) hp1 hq e)
    obtain ⟨m, rfl⟩ := Int.eq_ofNat_of_zero_le (show 0 ≤ n by omega)
    obtain ⟨q, rfl⟩ := Int.eq_ofNat_of_zero_le hp0
    rw [textO_ok e (by omega) (by omega)]
    exact implGetText_ok s a _ _ w hs (fun w => readText_ok s a m q w hs ha (by omega) (by omega) e)
  · have hx : textO s a = (⟨#[]⟩, 0, 3) := by unfold textO; rw [h]; rw [if_pos (by decide)]
    rw [hx]
    exact implGetText_no s a 3 w hs hg (fun w => readText_fault s a 3 w hs ha (.inl rfl) h)
  · have hx : textO s a = (⟨#[]⟩, 0, 4) := by unfold textO; rw [h]; rw [if_pos (by decide)]
    rw [hx]
    exact implGetText_no s a 4 w hs hg (fun w => readText_fault s a 4 w hs ha (.inr rfl) h)
theorem implGetNum_any (s : ByteArray) (a : Nat) (w : World) (hs : s.size ≤ 8000) (ha : (a : Int) ≤ 9223372036854775807) (hg : Laid w) :
    Calls Tryz.prog 108 #[.string s, .int .i64 (a : Int)] w fun e w' => e = .returned (.agg #[.int .i64 (scan s a 10 0 0).1, .int .i64 (scan s a 10 0 0).2.1, .int .i64 (scan s a 10 0 0).2.2]) ∧ Below w.heap.size w w' := by
  rcases St3.scan_code s a 10 0 0 with h | h | h
  · obtain ⟨n, p, c, e⟩ : ∃ n p c, scan s a 10 0 0 = (n, p, c) := ⟨_, _, _, rfl⟩
    obtain rfl : c = 0 := by rw [e] at h; exact h
    rw [e]
    exact implGetNum_yes s a n p w hs ha e
  · rw [h]; exact implGetNum_no s a 3 w hs ha hg (.inl rfl) h
  · rw [h]; exact implGetNum_no s a 4 w hs ha hg (.inr rfl) h
end Go.Proofs.YtbhdbkffejlfmaaGreatDoor.St4
