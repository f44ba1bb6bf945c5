/- DiskNew, as the program does it. -/
import Derived.Test.YtdnbfnahhkmmnaaDoorSNew
namespace Go.Proofs.YtdnbfnahhkmmnaaDoor
open Go.RowKit

set_option maxHeartbeats 2000000 in
theorem implNew_any (n : Int) (w : World) :
    Calls Tryd.prog 16 #[.int .i64 n] w fun e w' => DiskIs w.heap.size e w' (newDisk n) [] ∧ Below w.heap.size w w' := by
  obtain ⟨i0, hi, hz0, hz1, hz2⟩ := info_parts Tryd.infoStr
  have hb0 : Below w.heap.size w (w.alloc (.cells #[.slice none 0 0, .slice none 0 0] 26)) := (Below.refl _ _).alloc (Nat.le_refl _) _
  by_cases h1 : n < 1
  · have HF := hide (show newDisk n = [] by unfold newDisk; rw [if_neg (by omega)])
    rw [HF.out]
    have HB0 := hide hb0
    clear hb0 hi hz0 hz1 hz2
    go_enter Tryd.func16, Tryd.ntmps16
    go_wp2
    exact bodyPost_ret (v := .agg #[.slice none 0 0, .slice none 0 0]) (by simp [results, Tryd.results16, go_sem]) rfl
      ⟨⟨_, _, rfl, OwnS.none _ _ _, OwnP.none _ _ _, fun _ h => by cases h⟩, HB0.out⟩
  by_cases h2 : 64 < n
  · have HF := hide (show newDisk n = [] by unfold newDisk; rw [if_neg (by omega)])
    rw [HF.out]
    have HB0 := hide hb0
    clear hb0 hi hz0 hz1 hz2
    go_enter Tryd.func16, Tryd.ntmps16
    go_wp2
    exact bodyPost_ret (v := .agg #[.slice none 0 0, .slice none 0 0]) (by simp [results, Tryd.results16, go_sem]) rfl
      ⟨⟨_, _, rfl, OwnS.none _ _ _, OwnP.none _ _ _, fun _ h => by cases h⟩, HB0.out⟩
  · obtain ⟨k, rfl⟩ := Int.eq_ofNat_of_zero_le (by omega : 0 ≤ n)
    have HF := hide (show newDisk (k : Int) = List.replicate k ⟨#[]⟩ by unfold newDisk; rw [if_pos (by omega)]; rfl)
    rw [HF.out]
    have HB0 := hide hb0
    have HR0 := hide (row_new w [.slice none 0 0, .slice none 0 0] 26)
    have hsz := World.size_alloc w (.cells #[.slice none 0 0, .slice none 0 0] 26)
    clear hb0
    go_enter Tryd.func16, Tryd.ntmps16
    go_wp2_with (at_make; refine wpList_make_full _ rfl _ _ 23 rfl (w.heap.size + 1) 9 i0 (.string ⟨#[]⟩) 1 Tryd.underlying23 hi hz0 hz1 _ _ _ _ k rfl rfl rfl rfl ?b2 ?b3 (by simp) ?_)
    case b2 => omega
    case b3 => unfold maxLen; omega
    intro w2 hown hgrow
    rw [toList_madeCells_one] at hown
    have ho : OwnS 9 (w.heap.size + 1) w2 (.slice (some ⟨w.heap.size + 1, 0, none⟩) k k) (List.replicate k ⟨#[]⟩) :=
      OwnS.ofRow (fun x hx => by rw [(List.mem_replicate.1 hx).2]; exact Nat.zero_le _) (by simp; omega) (by simpa [strs] using hown)
    have hb2 := below_ofGrown hgrow
    have R2 := HR0.out.below hb2 HR0.out.lt
    have HO := hide ho
    have HB2 := hide (HB0.out.trans (hb2.mono HB0.out.size))
    have c0 : w2.cell? ⟨w.heap.size, 0, none⟩ = some (.slice none 0 0) := R2.cell 0
    have c1 : w2.cell? ⟨w.heap.size, 1, none⟩ = some (.slice none 0 0) := R2.cell 1
    have f0 := R2.free 0
    have f1 := R2.free 1
    have HR2 := hide R2
    clear hown hgrow hb2 R2 ho
    go_wp2
    obtain ⟨z0, z1, KF⟩ := two HR2.out (.slice (some ⟨w.heap.size + 1, 0, none⟩) k k) (.slice none 0 0)
    exact bodyPost_ret (v := .agg #[.slice (some ⟨w.heap.size + 1, 0, none⟩) k k, .slice none 0 0]) (by simp [results, Tryd.results16, go_sem, z0, z1]) rfl
      ⟨⟨_, _, rfl, (HO.out.kept KF (fun x hx => by have := (HO.out.leads x hx).1; simp; omega)).mono (by omega), OwnP.none _ _ _, fun _ _ h => by cases h⟩, KF.toBelow HB2.out HB2.out.size (by simp)⟩
end Go.Proofs.YtdnbfnahhkmmnaaDoor
