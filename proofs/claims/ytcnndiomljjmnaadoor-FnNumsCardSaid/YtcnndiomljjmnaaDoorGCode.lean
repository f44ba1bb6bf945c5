/- bytesCode: the code that is behind an error of bytesFault; 0 of no error. -/
import Derived.Test.YtcnndiomljjmnaaDoorGAs
namespace Go.Proofs.YtcnndiomljjmnaaDoor.St3
open Go.RowKit
theorem hide {p : Prop} (h : p) : Hid p := h

/-- The package-level variable errors.errorType as start-up lays it. -/
def Laid (w : World) : Prop := w.cell? ⟨0, 0, none⟩ = some (.iface 73 (.agg #[.pointer (some ⟨1, 42, none⟩)]))
theorem laid_lt {w : World} (h : Laid w) : 0 < w.heap.size := by
  rcases Nat.lt_or_ge 0 w.heap.size with h' | h'
  · exact h'
  · simp [Laid, World.cell?, Array.getElem?_eq_none h'] at h
theorem laid_alloc {w : World} (h : Laid w) (o : Obj) : Laid (w.alloc o) := by
  unfold Laid
  rw [World.cell?_alloc_lt _ _ ⟨0, 0, none⟩ (laid_lt h)]; exact h
theorem laid_below {w w' : World} {B : Nat} (h : Laid w) (hb : Below B w w') (h0 : 0 < B) : Laid w' := by
  unfold Laid
  rw [hb.cell (p := ⟨0, 0, none⟩) h0]; exact h

set_option maxHeartbeats 400000 in
theorem bytesCode_nil (w : World) : Calls Tryd.prog 18 #[.nilIface] w fun e w' => e = .returned (.int .i64 0) ∧ Below w.heap.size w w' := by
  go_enter Tryd.func18, Tryd.ntmps18
  go_wp2_with fail
  refine (as_nil _ _).mono ?_
  rintro e w' ⟨rfl, rfl⟩
  go_wp2
  go_ret
  exact ⟨rfl, (Below.refl _ _).alloc (Nat.le_refl _) _⟩

set_option maxHeartbeats 400000 in
theorem bytesCode_fault (c : Int) (w : World) (hg : Laid w) : Calls Tryd.prog 18 #[.iface 55 (.agg #[.int .i64 c])] w fun e w' => e = .returned (.int .i64 c) ∧ Below w.heap.size w w' := by
  have hL := laid_alloc hg (.cells #[.int .i64 0] 55)
  have HG := hide hL
  clear hL hg
  go_enter Tryd.func18, Tryd.ntmps18
  go_wp2_with fail
  refine (as_hit c _ (.int .i64 0) _ HG.out (by simp) (by simp)).mono ?_
  rintro e w' ⟨rfl, rfl⟩
  go_wp2
  go_ret
  exact ⟨rfl, (((((Below.refl _ _).alloc (Nat.le_refl _) _).alloc (by simp <;> omega) _).alloc (by simp <;> omega) _).alloc (by simp <;> omega) _).alloc (by simp <;> omega) _⟩
end Go.Proofs.YtcnndiomljjmnaaDoor.St3
