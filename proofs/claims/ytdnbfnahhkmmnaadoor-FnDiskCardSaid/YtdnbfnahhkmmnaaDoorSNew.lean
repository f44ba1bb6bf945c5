/- DiskNew, as the specification does it. -/
import Derived.Test.YtdnbfnahhkmmnaaDoorSRead
namespace Go.Proofs.YtdnbfnahhkmmnaaDoor
open Go.RowKit

/-- The call ended with the disk xs, ps, in memory of its own. -/
def DiskIs (B : Nat) (e : Ending) (w : World) (xs : List ByteArray) (ps : List (Int × ByteArray)) : Prop :=
  ∃ us up, e = .returned (.agg #[us, up]) ∧ OwnS 9 B w us xs ∧ OwnP 46 B w up ps ∧ ∀ x ∈ leads us, x ∉ leads up
def newDisk (n : Int) : List ByteArray := if 1 ≤ n ∧ n ≤ 64 then List.replicate n.toNat ⟨#[]⟩ else []

theorem two {w : World} {G : Nat} {T : TypeId} {a b : Value} (R : Row w G T [a, b]) (A B : Value) :
    ((w.setCell ⟨G, 0, none⟩ A).setCell ⟨G, 1, none⟩ B).cell? ⟨G, 0, none⟩ = some A ∧ ((w.setCell ⟨G, 0, none⟩ A).setCell ⟨G, 1, none⟩ B).cell? ⟨G, 1, none⟩ = some B ∧
    Kept [G] w ((w.setCell ⟨G, 0, none⟩ A).setCell ⟨G, 1, none⟩ B) := by
  have R4 := (R.set (j := 0) A).set (j := 1) B
  exact ⟨R4.cell 0, R4.cell 1, ((Kept.refl _ _).set (by simp) _).set (by simp) _⟩

set_option maxHeartbeats 2000000 in
theorem specNew_nil (n : Int) (w : World) :
    Calls Tryd.prog 17 #[.int .i64 n] w fun e w' => (∃ us, e = .returned (.agg #[us, .slice none 0 0]) ∧ OwnS 9 w.heap.size w' us (newDisk n)) ∧ Below w.heap.size w w' := by
  obtain ⟨i0, hi, hz0, hz1, hz2⟩ := info_parts Tryd.infoStr
  have hb0 : Below w.heap.size w (w.alloc (.cells #[.slice none 0 0, .slice none 0 0] 26)) := (Below.refl _ _).alloc (Nat.le_refl _) _
  by_cases hin : 1 ≤ n ∧ n ≤ 64
  · obtain ⟨k, rfl⟩ := Int.eq_ofNat_of_zero_le (by omega : 0 ≤ n)
    have HF := hide (show newDisk (k : Int) = List.replicate k ⟨#[]⟩ by unfold newDisk; rw [if_pos hin]; rfl)
    rw [HF.out]
    have HB0 := hide hb0
    have HR0 := hide (row_new w [.slice none 0 0, .slice none 0 0] 26)
    have hsz := World.size_alloc w (.cells #[.slice none 0 0, .slice none 0 0] 26)
    clear hb0
    go_enter Tryd.func17, Tryd.ntmps17
    go_wp2_with fail
    refine (l02Is_yes _ _ _ _ hin.1 hin.2).mono ?_
    rintro e w1 ⟨rfl, rfl⟩
    go_wp2_with (at_make; refine wpList_make_full _ rfl _ _ 23 rfl (w.heap.size + 1) 9 i0 (.string ⟨#[]⟩) 1 Tryd.underlying23 hi hz0 hz1 _ _ _ _ k rfl rfl rfl rfl ?b2 ?b3 (by simp) ?_)
    case b2 => rw [hz2]; omega
    case b3 => unfold maxLen; omega
    intro w2 hown hgrow
    rw [toList_madeCells_one] at hown
    have ho : OwnS 9 (w.heap.size + 1) w2 (.slice (some ⟨w.heap.size + 1, 0, none⟩) k k) (List.replicate k ⟨#[]⟩) :=
      OwnS.ofRow (fun x hx => by rw [(List.mem_replicate.1 hx).2]; exact Nat.zero_le _) (by simp; omega) (by simpa [strs] using hown)
    have hb2 := below_ofGrown hgrow
    have R2 := HR0.out.below hb2 HR0.out.lt
    have HO := hide ho
    have HB2 := hide (HB0.out.trans (hb2.mono HB0.out.size))
    have c0 : w2.cell? ⟨w.heap.size, 0, none⟩ = some (.slice none 0 0) := R2.cell 0
    have c1 : w2.cell? ⟨w.heap.size, 1, none⟩ = some (.slice none 0 0) := R2.cell 1
    have f0 := R2.free 0
    have f1 := R2.free 1
    have HR2 := hide R2
    clear hown hgrow hb2 R2 ho
    go_wp2
    obtain ⟨z0, z1, KF⟩ := two HR2.out (.slice (some ⟨w.heap.size + 1, 0, none⟩) k k) (.slice none 0 0)
    exact bodyPost_ret (v := .agg #[.slice (some ⟨w.heap.size + 1, 0, none⟩) k k, .slice none 0 0]) (by simp [results, Tryd.results17, go_sem, z0, z1]) rfl
      ⟨⟨_, rfl, (HO.out.kept KF (fun x hx => by have := (HO.out.leads x hx).1; simp; omega)).mono (by omega)⟩, KF.toBelow HB2.out HB2.out.size (by simp)⟩
  · have HF := hide (show newDisk n = [] by unfold newDisk; rw [if_neg hin])
    rw [HF.out]
    have HB0 := hide hb0
    clear hb0 hi hz0 hz1 hz2
    go_enter Tryd.func17, Tryd.ntmps17
    go_wp2_with fail
    refine (l02Is_no _ _ _ _ hin).mono ?_
    rintro e w1 ⟨rfl, rfl⟩
    go_wp2
    exact bodyPost_ret (v := .agg #[.slice none 0 0, .slice none 0 0]) (by simp [results, Tryd.results17, go_sem]) rfl
      ⟨⟨_, rfl, OwnS.none _ _ _⟩, HB0.out⟩
theorem specNew_any (n : Int) (w : World) :
    Calls Tryd.prog 17 #[.int .i64 n] w fun e w' => DiskIs w.heap.size e w' (newDisk n) [] ∧ Below w.heap.size w w' :=
  (specNew_nil n w).mono fun _ _ ⟨⟨us, e, o⟩, hb⟩ => ⟨⟨us, _, e, o, OwnP.none _ _ _, fun _ _ h => by cases h⟩, hb⟩
end Go.Proofs.YtdnbfnahhkmmnaaDoor
