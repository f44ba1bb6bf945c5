/- The law of PathRight out of the two contracts. -/
import Derived.Test.YtmkcmajpepehmaaGreatXG18FMsgR
namespace Go.Proofs.YtmkcmajpepehmaaGreat
open Go.RowKit
theorem szPath_any (p : PathM) (w : World) (hn : p.seg.size ≤ maxLen) :
    Calls Tryz.prog 7 #[p.v, .int .i64 1048576] w fun e w' => e = .returned (.int .i64 (if (1048576 - (p.seg.size : Int)) < 0 then -1 else 1048576 - (p.seg.size : Int))) ∧ Below w.heap.size w w' := by
  unfold maxLen at hn
  obtain ⟨s, n, f, r, c, b⟩ := p
  unfold PathM.v
  simp only at hn ⊢
  have HB := hide (show Below w.heap.size w (w.alloc (.cells #[.string s, .int .i64 n, .int .i64 f, .int .i64 r, .int .i64 c, .int .i64 b] 26)) from (Below.refl _ _).alloc (Nat.le_refl _) _)
  by_cases h : (1048576 - (s.size : Int)) < 0
  · rw [if_pos h]
    go_enter Tryz.func7, Tryz.ntmps7
    go_wp2
    go_ret
    exact ⟨rfl, HB.out⟩
  · rw [if_neg h]
    go_enter Tryz.func7, Tryz.ntmps7
    go_wp2
    go_ret
    exact ⟨rfl, HB.out⟩
set_option maxHeartbeats 1000000 in
theorem toPath_any (p : PathM) (w : World) :
    Calls Tryz.prog 10 #[p.v] w fun e w' => e = .returned p.v ∧ Below w.heap.size w w' := by
  obtain ⟨s, n, f, r, c, b⟩ := p
  unfold PathM.v
  simp only
  have HB := hide ((((Below.refl w.heap.size w).alloc (Nat.le_refl _) (.cells #[.string s, .int .i64 n, .int .i64 f, .int .i64 r, .int .i64 c, .int .i64 b] 26)).alloc (by simp) (.cells #[.string s, .int .i64 n, .int .i64 f, .int .i64 r, .int .i64 c, .int .i64 b] 37)).alloc (by simp; omega) (.cells #[.string s, .int .i64 n, .int .i64 f, .int .i64 r, .int .i64 c, .int .i64 b] 37))
  go_enter Tryz.func10, Tryz.ntmps10
  go_wp2
  exact bodyPost_ret (v := .agg #[.string s, .int .i64 n, .int .i64 f, .int .i64 r, .int .i64 c, .int .i64 b]) (by simp [results, Tryz.results10, go_sem]) rfl ⟨rfl, HB.out⟩

end Go.Proofs.YtmkcmajpepehmaaGreat
/- The law of MessageRight out of the two contracts. -/
namespace Go.Proofs.YtmkcmajpepehmaaGreat
open Go.RowKit
end Go.Proofs.YtmkcmajpepehmaaGreat
