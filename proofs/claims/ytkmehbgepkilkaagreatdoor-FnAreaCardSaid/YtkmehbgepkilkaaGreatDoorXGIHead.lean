/- The program's text of a head. -/
import Derived.Test.YtkmehbgepkilkaaGreatDoorXGIBank
import Derived.Test.YtkmehbgepkilkaaGreatDoorXGSArea
import Derived.Laws.Concat
import Derived.Deep.RegionHeld3
import Derived.Deep.DeepCutAuto
namespace Go.Proofs.YtkmehbgepkilkaaGreatDoor
open Go.RowKit

set_option maxRecDepth 100000 in
set_option maxHeartbeats 4000000 in
theorem headText_any (g s z : Int) (w : World) (hg : -9223372036854775808 ≤ g ∧ g ≤ 9223372036854775807) (hs : -9223372036854775808 ≤ s ∧ s ≤ 9223372036854775807) (hz : -9223372036854775808 ≤ z ∧ z ≤ 9223372036854775807) :
    Calls Tryz.prog 37 #[.agg #[.int .i64 g, .int .i64 s, .int .i64 z]] w fun e w' => e = .returned (.string (headOf g s z)) ∧ Below w.heap.size w w' := by
  have HG := hide hg
  have HS := hide hs
  have HZ := hide hz
  clear hg hs hz
  have e1 : (St2.bytesOf (St2.enc g)).size ≤ 10 := numText_size g
  have e2 : (St2.bytesOf (St2.enc s)).size ≤ 10 := numText_size s
  have e3 : (St2.bytesOf (St2.enc z)).size ≤ 10 := numText_size z
  have ad1 : ∀ w : World, (Op.stringOp .add (St2.bytesOf (St2.enc g)) (St2.bytesOf (St2.enc s))).run Tryz.prog w = .ok (.string (St2.bytesOf (St2.enc g) ++ St2.bytesOf (St2.enc s))) w := fun w => run_string_add_sum w _ _ (by omega)
  have ad2 : ∀ w : World, (Op.stringOp .add (St2.bytesOf (St2.enc g) ++ St2.bytesOf (St2.enc s)) (St2.bytesOf (St2.enc z))).run Tryz.prog w = .ok (.string (St2.bytesOf (St2.enc g) ++ St2.bytesOf (St2.enc s) ++ St2.bytesOf (St2.enc z))) w := fun w => run_string_add_sum w _ _ (by simp only [ByteArray.size_append]; omega)
  have hb0 : Below w.heap.size w (w.alloc (.cells #[.int .i64 g, .int .i64 s, .int .i64 z] 51)) := (Below.refl _ _).alloc (Nat.le_refl _) _
  have HN := hide (row_new w [.int .i64 g, .int .i64 s, .int .i64 z] 51)
  have HB0 := hide hb0
  obtain ⟨W, hW⟩ : ∃ W, W = w.alloc (.cells #[.int .i64 g, .int .i64 s, .int .i64 z] 51) := ⟨_, rfl⟩
  rw [← hW] at HN HB0
  have HSS := hide (show ∀ x, Below W.heap.size W x → x.cell? ⟨w.heap.size, 0, none⟩ = some (.int .i64 g) ∧ x.cell? ⟨w.heap.size, 1, none⟩ = some (.int .i64 s) ∧ x.cell? ⟨w.heap.size, 2, none⟩ = some (.int .i64 z) ∧ Below W.heap.size W x from
    fun x h => ⟨(Row.after h HN.out).cell 0, (Row.after h HN.out).cell 1, (Row.after h HN.out).cell 2, h⟩)
  clear hb0
  go_enter Tryz.func37, Tryz.ntmps37
  go_wp2_with fail
  rw [← hW]
  clear hW
  go_region_held3 (fun x => x.cell? ⟨w.heap.size, 0, none⟩ = some (.int .i64 g) ∧ x.cell? ⟨w.heap.size, 1, none⟩ = some (.int .i64 s) ∧ x.cell? ⟨w.heap.size, 2, none⟩ = some (.int .i64 z) ∧ Below W.heap.size W x)
    ((go_split_ands; refine HSS.out _ ?_; repeat (first | with_reducible assumption | with_reducible exact Below.refl _ _ | with_reducible refine Below.drew ?_)))
    ((first
      | (go_at_call 70; go_split_ands; refine (St2.implPutNum_any _ _ (by first | exact HG.out.1 | exact HS.out.1 | exact HZ.out.1) (by first | exact HG.out.2 | exact HS.out.2 | exact HZ.out.2)).mono ?_; rintro e w1 ⟨rfl, hb1⟩; have hB1 : Below W.heap.size W w1 := Below.trans (by assumption) (hb1.mono (Below.size (by assumption))); clear hb1)
      | (go_at_call 69; go_split_ands; refine (St1.implSeal_any _ _ (by simp only [ByteArray.size_append]; omega)).mono ?_; rintro e w1 ⟨rfl, hb1⟩; have hB1 : Below W.heap.size W w1 := Below.trans (by assumption) (hb1.mono (Below.size (by assumption))); clear hb1)))
  all_goals
    have HB1 := hide (HB0.out.trans (hB1.mono HB0.out.size))
    go_wp2
    go_ret
    exact ⟨rfl, HB1.out⟩
end Go.Proofs.YtkmehbgepkilkaaGreatDoor
