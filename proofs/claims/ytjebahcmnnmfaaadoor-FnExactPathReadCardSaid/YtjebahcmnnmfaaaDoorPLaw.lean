/- The law of PathRight out of the two contracts. -/
import Derived.Test.YtjebahcmnnmfaaaDoorPRight
namespace Go.Proofs.YtjebahcmnnmfaaaDoor
open Go.RowKit
theorem szPath_any (p : PathM) (w : World) (hn : p.seg.size ≤ maxLen) :
    Calls Tryd.prog 5 #[p.v, .int .i64 1048576] w fun e w' => e = .returned (.int .i64 (if (1048576 - (p.seg.size : Int)) < 0 then -1 else 1048576 - (p.seg.size : Int))) ∧ Below w.heap.size w w' := by
  unfold maxLen at hn
  obtain ⟨s, n, f, r, c, b⟩ := p
  unfold PathM.v
  simp only at hn ⊢
  have HB := hide (show Below w.heap.size w (w.alloc (.cells #[.string s, .int .i64 n, .int .i64 f, .int .i64 r, .int .i64 c, .int .i64 b] 23)) from (Below.refl _ _).alloc (Nat.le_refl _) _)
  by_cases h : (1048576 - (s.size : Int)) < 0
  · rw [if_pos h]
    go_enter Tryd.func5, Tryd.ntmps5
    go_wp2
    go_ret
    exact ⟨rfl, HB.out⟩
  · rw [if_neg h]
    go_enter Tryd.func5, Tryd.ntmps5
    go_wp2
    go_ret
    exact ⟨rfl, HB.out⟩
set_option maxHeartbeats 1000000 in
theorem toPath_any (p : PathM) (w : World) :
    Calls Tryd.prog 7 #[p.v] w fun e w' => e = .returned p.v ∧ Below w.heap.size w w' := by
  obtain ⟨s, n, f, r, c, b⟩ := p
  unfold PathM.v
  simp only
  have HB := hide ((((Below.refl w.heap.size w).alloc (Nat.le_refl _) (.cells #[.string s, .int .i64 n, .int .i64 f, .int .i64 r, .int .i64 c, .int .i64 b] 23)).alloc (by simp) (.cells #[.string s, .int .i64 n, .int .i64 f, .int .i64 r, .int .i64 c, .int .i64 b] 26)).alloc (by simp; omega) (.cells #[.string s, .int .i64 n, .int .i64 f, .int .i64 r, .int .i64 c, .int .i64 b] 26))
  go_enter Tryd.func7, Tryd.ntmps7
  go_wp2
  exact bodyPost_ret (v := .agg #[.string s, .int .i64 n, .int .i64 f, .int .i64 r, .int .i64 c, .int .i64 b]) (by simp [results, Tryd.results7, go_sem]) rfl ⟨rfl, HB.out⟩

end Go.Proofs.YtjebahcmnnmfaaaDoor
