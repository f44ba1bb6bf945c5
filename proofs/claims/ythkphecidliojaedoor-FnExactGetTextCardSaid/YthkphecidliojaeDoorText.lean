/- GetText of the model and of the program, each out of what 'scan' reads. -/
import Derived.Test.YthkphecidliojaeDoorGet
import Derived.Test.YthkphecidliojaeDoorJoin
import Derived.Test.YthkphecidliojaeDoorSpecNum
import Derived.RegionTactic
namespace Go.Proofs.YthkphecidliojaeDoor
open Go.RowKit

theorem scan_at (s : ByteArray) (a : Nat) : ∀ (f k : Nat) (u : Int), (scan s a f k u).2.2 = 0 → 0 ≤ (scan s a f k u).2.1 ∧ (scan s a f k u).2.1 ≤ (s.size : Int)
  | 0, _, _ => fun h => absurd (show (3 : Int) = 0 from h) (by decide)
  | f + 1, k, u => by
    rw [scan]
    split
    · split
      · split
        · intro h; exact absurd (show (3 : Int) = 0 from h) (by decide)
        · intro _; exact ⟨by show (0 : Int) ≤ (a : Int) + k + 1; omega, by show (a : Int) + k + 1 ≤ (s.size : Int); omega⟩
      · exact scan_at s a f _ _
    · intro h; exact absurd (show (4 : Int) = 0 from h) (by decide)

theorem three_alloc {w1 : World} {B : Nat} {u0 u1 u2 : Value} (hB : B < w1.heap.size) (h0 : w1.cell? ⟨B, 0, none⟩ = some u0) (h1 : w1.cell? ⟨B, 1, none⟩ = some u1) (h2 : w1.cell? ⟨B, 2, none⟩ = some u2) (v0 v1 v2 : Value) (o : Obj) :
    ((((w1.setCell ⟨B, 0, none⟩ v0).setCell ⟨B, 1, none⟩ v1).setCell ⟨B, 2, none⟩ v2).alloc o).cell? ⟨B, 0, none⟩ = some v0 ∧
    ((((w1.setCell ⟨B, 0, none⟩ v0).setCell ⟨B, 1, none⟩ v1).setCell ⟨B, 2, none⟩ v2).alloc o).cell? ⟨B, 1, none⟩ = some v1 ∧
    ((((w1.setCell ⟨B, 0, none⟩ v0).setCell ⟨B, 1, none⟩ v1).setCell ⟨B, 2, none⟩ v2).alloc o).cell? ⟨B, 2, none⟩ = some v2 := by
  obtain ⟨q0, q1, q2⟩ := three h0 h1 h2 v0 v1 v2
  have hs : B < (((w1.setCell ⟨B, 0, none⟩ v0).setCell ⟨B, 1, none⟩ v1).setCell ⟨B, 2, none⟩ v2).heap.size := by simp [World.setCell]; exact hB
  refine ⟨?_, ?_, ?_⟩
  · rw [World.cell?_alloc_lt _ _ ⟨B, 0, none⟩ hs, World.cell?_setCell_other _ _ _ _ (by simp), World.cell?_setCell_other _ _ _ _ (by simp)]; exact q0
  · rw [World.cell?_alloc_lt _ _ ⟨B, 1, none⟩ hs, World.cell?_setCell_other _ _ _ _ (by simp)]; exact q1
  · rw [World.cell?_alloc_lt _ _ ⟨B, 2, none⟩ hs]; exact q2

theorem three_alloc_below {w w1 : World} {o : Obj} (h : Below (w.alloc o).heap.size (w.alloc o) w1) (v0 v1 v2 : Value) (o2 : Obj) :
    Below w.heap.size w ((((w1.setCell ⟨w.heap.size, 0, none⟩ v0).setCell ⟨w.heap.size, 1, none⟩ v1).setCell ⟨w.heap.size, 2, none⟩ v2).alloc o2) :=
  (three_below h v0 v1 v2).alloc (by have := h.size; simp [World.setCell] at this ⊢; omega) o2

set_option maxHeartbeats 1000000 in
theorem specGetText_code (s : ByteArray) (a n p c : Int) (w : World) (hc : (c != 0) = true)
    (h5 : ∀ w, Calls Tryd.prog 5 #[.string s, .int .i64 a] w fun e w' => e = .returned (.agg #[.int .i64 n, .int .i64 p, .int .i64 c]) ∧ Below w.heap.size w w') :
    Calls Tryd.prog 8 #[.string s, .int .i64 a] w fun e w' => e = .returned (.agg #[.string ⟨#[]⟩, .int .i64 0, .int .i64 c]) ∧ Below w.heap.size w w' := by
  have H5 := hide h5
  clear h5
  go_enter Tryd.func8, Tryd.ntmps8
  go_wp2_with fail
  refine (H5.out _).mono ?_
  rintro e w1 ⟨rfl, hb1⟩
  have HB1 := hide hb1
  obtain ⟨hc1, hf1⟩ := bcell hb1
  have hz : w.heap.size < w1.heap.size := by have := hb1.size; simp at this; omega
  clear hb1
  obtain ⟨c0, c1, c2⟩ := out_cells _ _ _ _ HB1.out
  obtain ⟨q0, q1, q2⟩ := three_alloc hz c0 c1 c2 (.string ⟨#[]⟩) (.int .i64 0) (.int .i64 c) (.cells #[.int .i64 n, .int .i64 p, .int .i64 c] 23)
  clear c0 c1 c2
  go_wp2
  exact bodyPost_ret (v := .agg #[.string ⟨#[]⟩, .int .i64 0, .int .i64 c]) (by simp [results, Tryd.results8, go_sem, q0, q1, q2]) rfl ⟨rfl, three_alloc_below HB1.out _ _ _ _⟩

set_option maxHeartbeats 1000000 in
theorem specGetText_long (s : ByteArray) (a n p : Int) (w : World) (hn : n < 0 ∨ (0 ≤ n ∧ 8000 < n))
    (h5 : ∀ w, Calls Tryd.prog 5 #[.string s, .int .i64 a] w fun e w' => e = .returned (.agg #[.int .i64 n, .int .i64 p, .int .i64 0]) ∧ Below w.heap.size w w') :
    Calls Tryd.prog 8 #[.string s, .int .i64 a] w fun e w' => e = .returned (.agg #[.string ⟨#[]⟩, .int .i64 0, .int .i64 3]) ∧ Below w.heap.size w w' := by
  have H5 := hide h5
  clear h5
  rcases hn with hn | ⟨hn, hn'⟩
  all_goals
    go_enter Tryd.func8, Tryd.ntmps8
    go_wp2_with fail
    refine (H5.out _).mono ?_
    rintro e w1 ⟨rfl, hb1⟩
    have HB1 := hide hb1
    obtain ⟨hc1, hf1⟩ := bcell hb1
    have hz : w.heap.size < w1.heap.size := by have := hb1.size; simp at this; omega
    clear hb1
    obtain ⟨c0, c1, c2⟩ := out_cells _ _ _ _ HB1.out
    obtain ⟨q0, q1, q2⟩ := three_alloc hz c0 c1 c2 (.string ⟨#[]⟩) (.int .i64 0) (.int .i64 3) (.cells #[.int .i64 n, .int .i64 p, .int .i64 0] 23)
    clear c0 c1 c2
    go_wp2
    exact bodyPost_ret (v := .agg #[.string ⟨#[]⟩, .int .i64 0, .int .i64 3]) (by simp [results, Tryd.results8, go_sem, q0, q1, q2]) rfl ⟨rfl, three_alloc_below HB1.out _ _ _ _⟩

set_option maxHeartbeats 1000000 in
theorem specGetText_short (s : ByteArray) (a n p : Int) (w : World) (hs : s.size ≤ 8000) (hn : 0 ≤ n) (hn' : n ≤ 8000) (hp : (s.size : Int) - n < p)
    (h5 : ∀ w, Calls Tryd.prog 5 #[.string s, .int .i64 a] w fun e w' => e = .returned (.agg #[.int .i64 n, .int .i64 p, .int .i64 0]) ∧ Below w.heap.size w w') :
    Calls Tryd.prog 8 #[.string s, .int .i64 a] w fun e w' => e = .returned (.agg #[.string ⟨#[]⟩, .int .i64 0, .int .i64 4]) ∧ Below w.heap.size w w' := by
  have H5 := hide h5
  clear h5
  go_enter Tryd.func8, Tryd.ntmps8
  go_wp2_with fail
  refine (H5.out _).mono ?_
  rintro e w1 ⟨rfl, hb1⟩
  have HB1 := hide hb1
  obtain ⟨hc1, hf1⟩ := bcell hb1
  have hz : w.heap.size < w1.heap.size := by have := hb1.size; simp at this; omega
  clear hb1
  obtain ⟨c0, c1, c2⟩ := out_cells _ _ _ _ HB1.out
  obtain ⟨q0, q1, q2⟩ := three_alloc hz c0 c1 c2 (.string ⟨#[]⟩) (.int .i64 0) (.int .i64 4) (.cells #[.int .i64 n, .int .i64 p, .int .i64 0] 23)
  clear c0 c1 c2
  go_wp2
  exact bodyPost_ret (v := .agg #[.string ⟨#[]⟩, .int .i64 0, .int .i64 4]) (by simp [results, Tryd.results8, go_sem, q0, q1, q2]) rfl ⟨rfl, three_alloc_below HB1.out _ _ _ _⟩

set_option maxHeartbeats 1000000 in
theorem specGetText_ok (s : ByteArray) (a : Int) (n p : Nat) (w : World) (hs : s.size ≤ 8000) (hn' : n ≤ 8000) (hp : p + n ≤ s.size)
    (h5 : ∀ w, Calls Tryd.prog 5 #[.string s, .int .i64 a] w fun e w' => e = .returned (.agg #[.int .i64 n, .int .i64 p, .int .i64 0]) ∧ Below w.heap.size w w') :
    Calls Tryd.prog 8 #[.string s, .int .i64 a] w fun e w' => e = .returned (.agg #[.string (s.extract p (p + n)), .int .i64 ((p : Int) + n), .int .i64 0]) ∧ Below w.heap.size w w' := by
  have H5 := hide h5
  clear h5
  go_enter Tryd.func8, Tryd.ntmps8
  go_wp2_with fail
  refine (H5.out _).mono ?_
  rintro e w1 ⟨rfl, hb1⟩
  have HB1 := hide hb1
  obtain ⟨hc1, hf1⟩ := bcell hb1
  have hz : w.heap.size < w1.heap.size := by have := hb1.size; simp at this; omega
  clear hb1
  obtain ⟨c0, c1, c2⟩ := out_cells _ _ _ _ HB1.out
  obtain ⟨q0, q1, q2⟩ := three_alloc hz c0 c1 c2 (.string (s.extract p (p + n))) (.int .i64 ((p : Int) + n)) (.int .i64 0) (.cells #[.int .i64 n, .int .i64 p, .int .i64 0] 23)
  clear c0 c1 c2
  have e1 : IntKind.i64.wrap ((p : Int) + (n : Int)) = (p : Int) + (n : Int) := by rw [IntKind.wrap_i64]; omega
  have e2 : ((p : Int) + (n : Int)).toNat = p + n := by omega
  have e3 : (0 : Int) ≤ (p : Int) + (n : Int) := by omega
  have e4 : (p : Int) + (n : Int) ≤ (s.size : Int) := by omega
  have e5 : (p : Int) ≤ (p : Int) + (n : Int) := by omega
  go_wp2
  go_region
  go_wp2
  exact bodyPost_ret (v := .agg #[.string (s.extract p (p + n)), .int .i64 ((p : Int) + n), .int .i64 0]) (by simp [results, Tryd.results8, go_sem, q0, q1, q2]) rfl ⟨rfl, (three_alloc_below HB1.out _ _ _ _).drew⟩
end Go.Proofs.YthkphecidliojaeDoor
