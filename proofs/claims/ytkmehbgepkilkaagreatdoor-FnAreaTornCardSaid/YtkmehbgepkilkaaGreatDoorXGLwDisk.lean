/- How a law compares two disks, and two answers about disks. -/
import Derived.Test.YtkmehbgepkilkaaGreatDoorXGDrawDisk2
import Derived.Test.YtkmehbgepkilkaaGreatDoorXGSRight
import Derived.RegionTactic
import Derived.Laws.StructEq
namespace Go.Proofs.YtkmehbgepkilkaaGreatDoor
open Go.RowKit

set_option maxHeartbeats 4000000 in
theorem lwTexts_same (v v' : Value) (xs : List ByteArray) (w : World) (hn : xs.length ≤ 1048576) (hr : Reads w v xs) (hr' : Reads w v' xs) :
    Calls Tryz.prog 51 #[v, v'] w fun e w' => e = .returned (.bool true) ∧ Below w.heap.size w w' := by
  obtain ⟨p, cap, rfl, h1, h2, h3, h4⟩ := hr
  obtain ⟨p', cap', rfl, h1', h2', h3', h4'⟩ := hr'
  have H4 := hide h4
  have H4' := hide h4'
  clear h3 h3' h4 h4'
  unfold maxLen at h2 h2'
  by_cases hx : xs.length = 0
  · have hxs : xs = [] := List.eq_nil_of_length_eq_zero hx
    subst hxs
    go_enter Tryz.func51, Tryz.ntmps51
    go_wp2
    refine wp_loop_rounds 1 ?_
    rw [rounds_succ]
    go_wp2
    go_ret
    exact ⟨rfl, Below.refl _ _⟩
  obtain ⟨g, off, hp, hg, hc⟩ := H4.out (by omega)
  obtain ⟨g', off', hp', hg', hc'⟩ := H4'.out (by omega)
  subst hp hp'
  have HC := hide hc
  have HC' := hide hc'
  clear hc hc'
  go_enter Tryz.func51, Tryz.ntmps51
  go_wp2
  go_loopw [5] (fun i wr => ∃ k : Nat, k ≤ xs.length ∧ i = .int .i64 k ∧ Hid (Below w.heap.size w wr)) (fun i _ => xs.length - (intOf i).toNat)
  case atStart => exact ⟨0, Nat.zero_le _, rfl, Below.refl _ _⟩
  case round =>
    obtain ⟨k, hk, rfl, HBel⟩ := hrel
    by_cases hlt : k < xs.length
    · have hck : wr.cell? ⟨g, off + k, none⟩ = some (.string (xs[k]'hlt)) := by rw [HBel.out.cell (p := ⟨g, off + k, none⟩) hg]; exact HC.out k hlt
      have hck' : wr.cell? ⟨g', off' + k, none⟩ = some (.string (xs[k]'hlt)) := by rw [HBel.out.cell (p := ⟨g', off' + k, none⟩) hg']; exact HC'.out k hlt
      have hki : (k : Int) < (xs.length : Int) := by omega
      go_wp2
      go_region
      go_wp2
      go_roundw
      case rel => exact ⟨k + 1, by omega, by go_num, HBel.out.drew⟩
      case measure => simp [intOf]; omega
    · go_wp2
      go_ret
      exact ⟨rfl, HBel.out⟩

set_option maxHeartbeats 8000000 in
theorem lwDisk_same (us up vs vp : Value) (xs : List ByteArray) (ps : List (Int × ByteArray)) (w : World) (hn : xs.length ≤ 1048576) (hn2 : ps.length ≤ 1048576)
    (h1 : Reads w us xs) (h2 : ReadsP w up ps) (h3 : Reads w vs xs) (h4 : ReadsP w vp ps) :
    Calls Tryz.prog 18 #[.agg #[us, up], .agg #[vs, vp]] w fun e w' => e = .returned (.bool true) ∧ Below w.heap.size w w' := by
  have hb0 : Below w.heap.size w ((w.alloc (.cells #[us, up] 26)).alloc (.cells #[vs, vp] 26)) :=
    ((Below.refl _ _).alloc (Nat.le_refl _) _).alloc (by simp) _
  have H1 := hide (h1.below hb0 (Nat.le_refl _))
  have H3 := hide (h3.below hb0 (Nat.le_refl _))
  have HP := hide h2
  have HP' := hide h4
  have HB0 := hide hb0
  obtain ⟨p1, c1, rfl, _⟩ := h1
  obtain ⟨p2, c2, rfl, _, _, _, _⟩ := h2
  obtain ⟨p3, c3, rfl, _⟩ := h3
  obtain ⟨p4, c4, rfl, _, _, _, _⟩ := h4
  have RA := hide ((row_new w [.slice p1 xs.length c1, .slice p2 ps.length c2] 26).alloc (.cells #[.slice p3 xs.length c3, .slice p4 ps.length c4] 26))
  have RB := row_new (w.alloc (.cells #[.slice p1 xs.length c1, .slice p2 ps.length c2] 26)) [.slice p3 xs.length c3, .slice p4 ps.length c4] 26
  simp only [World.size_alloc] at RB
  have HRB := hide RB
  clear hb0 RB
  go_enter Tryz.func18, Tryz.ntmps18
  go_wp2_with fail
  refine (lwTexts_same _ _ xs _ hn H1.out H3.out).mono ?_
  rintro e w1 ⟨rfl, hb1⟩
  have RA1 := hide (Row.after hb1 RA.out)
  have RB1 := hide (Row.after hb1 HRB.out)
  have HB1 := hide (HB0.out.trans (hb1.mono HB0.out.size))
  have a0 : w1.cell? ⟨w.heap.size, 1, none⟩ = some (.slice p2 ps.length c2) := RA1.out.cell 1
  have b0 : w1.cell? ⟨w.heap.size + 1, 1, none⟩ = some (.slice p4 ps.length c4) := RB1.out.cell 1
  clear hb1 RA HRB HB0 H1 H3
  go_wp2_with fail
  clear a0 b0
  go_loopw [5] (fun i wr => ∃ k : Nat, k ≤ ps.length ∧ i = .int .i64 k ∧ Hid (Below w1.heap.size w1 wr)) (fun i _ => ps.length - (intOf i).toNat)
  case atStart => exact ⟨0, Nat.zero_le _, rfl, Below.refl _ _⟩
  case round =>
    obtain ⟨k, hk, rfl, HBel⟩ := hrel
    have a0 : wr.cell? ⟨w.heap.size, 1, none⟩ = some (.slice p2 ps.length c2) := (Row.after HBel.out RA1.out).cell 1
    have b0 : wr.cell? ⟨w.heap.size + 1, 1, none⟩ = some (.slice p4 ps.length c4) := (Row.after HBel.out RB1.out).cell 1
    by_cases hlt : k < ps.length
    · have HBw := hide (HB1.out.trans (HBel.out.mono HB1.out.size))
      obtain ⟨g, off, rfl, hg, hc⟩ : ∃ g off, p2 = some ⟨g, off, none⟩ ∧ _ := by
        obtain ⟨p', cap, he, _, _, _, h4⟩ := HP.out.below HBw.out (Nat.le_refl _)
        cases he
        exact h4 (by omega)
      obtain ⟨g', off', rfl, hg', hc'⟩ : ∃ g off, p4 = some ⟨g, off, none⟩ ∧ _ := by
        obtain ⟨p', cap, he, _, _, _, h4⟩ := HP'.out.below HBw.out (Nat.le_refl _)
        cases he
        exact h4 (by omega)
      obtain ⟨hk0, hk1⟩ := hc k hlt
      obtain ⟨hk0', hk1'⟩ := hc' k hlt
      have hki : (k : Int) < (ps.length : Int) := by omega
      obtain ⟨A, hA⟩ : ∃ A, A = (ps[k]'hlt).1 := ⟨_, rfl⟩
      obtain ⟨T, hT⟩ : ∃ T, T = (ps[k]'hlt).2 := ⟨_, rfl⟩
      rw [← hA] at hk0 hk0'
      rw [← hT] at hk1 hk1'
      clear hc hc' hg hg' hA hT
      go_wp2_with fail
      go_region
      go_wp2
      go_roundw
      case rel => exact ⟨k + 1, by omega, by go_num, HBel.out.drew⟩
      case measure => simp [intOf]; omega
    · have hki : ¬ (k : Int) < (ps.length : Int) := by omega
      go_wp2
      go_ret
      exact ⟨rfl, HB1.out.trans (HBel.out.mono HB1.out.size)⟩

end Go.Proofs.YtkmehbgepkilkaaGreatDoor

/- How a law compares two answers about a text on a disk. -/
namespace Go.Proofs.YtkmehbgepkilkaaGreatDoor
open Go.RowKit

set_option maxHeartbeats 8000000 in
theorem lwArea_same (us up vs vp : Value) (t : ByteArray) (g c : Int) (xs : List ByteArray) (ps : List (Int × ByteArray)) (w : World) (hn : xs.length ≤ 1048576) (hn2 : ps.length ≤ 1048576)
    (h1 : Reads w us xs) (h2 : ReadsP w up ps) (h3 : Reads w vs xs) (h4 : ReadsP w vp ps) :
    Calls Tryz.prog 11 #[.agg #[us, up, .string t, .int .i64 g, .int .i64 c], .agg #[vs, vp, .string t, .int .i64 g, .int .i64 c]] w fun e w' => e = .returned (.bool true) ∧ Below w.heap.size w w' := by
  have hb0 : Below w.heap.size w ((w.alloc (.cells #[us, up, .string t, .int .i64 g, .int .i64 c] 31)).alloc (.cells #[vs, vp, .string t, .int .i64 g, .int .i64 c] 31)) :=
    ((Below.refl _ _).alloc (Nat.le_refl _) _).alloc (by simp) _
  have H1 := hide (h1.below hb0 (Nat.le_refl _))
  have H2 := hide (h2.below hb0 (Nat.le_refl _))
  have H3 := hide (h3.below hb0 (Nat.le_refl _))
  have H4 := hide (h4.below hb0 (Nat.le_refl _))
  have HB0 := hide hb0
  obtain ⟨p1, c1, rfl, _⟩ := h1
  obtain ⟨p2, c2, rfl, _, _, _, _⟩ := h2
  obtain ⟨p3, c3, rfl, _⟩ := h3
  obtain ⟨p4, c4, rfl, _, _, _, _⟩ := h4
  clear hb0
  go_enter Tryz.func11, Tryz.ntmps11
  go_wp2_with fail
  refine (lwDisk_same _ _ _ _ xs ps _ hn hn2 H1.out H2.out H3.out H4.out).mono ?_
  rintro e w1 ⟨rfl, hb1⟩
  have HB1 := hide (HB0.out.trans (hb1.mono HB0.out.size))
  clear hb1
  go_wp2
  go_ret
  exact ⟨rfl, HB1.out⟩
end Go.Proofs.YtkmehbgepkilkaaGreatDoor
