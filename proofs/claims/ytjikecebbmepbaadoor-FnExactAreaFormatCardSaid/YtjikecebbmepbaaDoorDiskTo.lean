/- A copy of a disk, made by the laws. -/
import Derived.Test.YtjikecebbmepbaaDoorDisk
namespace Go.Proofs.YtjikecebbmepbaaDoor
open Go.RowKit

theorem leads_eq {g o n c x : Nat} (h : x ∈ leads (.slice (some ⟨g, o, none⟩) n c)) : x = g := by
  cases n with
  | zero => cases h
  | succ m => exact List.mem_singleton.1 h

set_option maxHeartbeats 2000000 in
theorem toDisk_any (vs vp : Value) (xs : List ByteArray) (ps : List (Int × ByteArray)) (w : World) (hr : Reads w vs xs) (hp : ReadsP w vp ps) (hs : Small xs ps) :
    Calls Tryd.prog 7 #[.agg #[vs, vp]] w fun e w' => ∃ us up, e = .returned (.agg #[us, up]) ∧ OwnS 9 w.heap.size w' us xs ∧ OwnP 60 w.heap.size w' up ps ∧ (∀ x ∈ leads us, x ∉ leads up) ∧ Below w.heap.size w w' := by
  obtain ⟨s1, s2, s3, s4⟩ := hs
  have hm1 : ∀ x ∈ xs, x.size ≤ maxLen := fun x hx => by have := s2 x hx; unfold maxLen; omega
  have hm2 : ∀ x ∈ ps, x.2.size ≤ maxLen := fun x hx => by have := s4 x hx; unfold maxLen; omega
  have HM1 := hide hm1
  have HM2 := hide hm2
  clear hm1 hm2 s2 s4
  have hb0 : Below w.heap.size w (((w.alloc (.cells #[vs, vp] 25)).alloc (.cells #[.slice none 0 0, .slice none 0 0] 30)).alloc (.cells #[.slice none 0 0, .slice none 0 0] 30)) :=
    (((Below.refl _ _).alloc (Nat.le_refl _) _).alloc (by simp) _).alloc (by simp <;> omega) _
  have HR := hide (hr.below hb0 (Nat.le_refl _))
  have HP := hide (hp.below hb0 (Nat.le_refl _))
  have HPL := hide hp.leads
  have HB0 := hide hb0
  obtain ⟨p1, c1, rfl, h1r⟩ := hr
  obtain ⟨p2, c2, rfl, h2r⟩ := hp
  clear hb0 h1r h2r
  go_enter Tryd.func7, Tryd.ntmps7
  go_wp2_with fail
  refine (toStringS_any _ xs _ s1 HR.out).mono ?_
  rintro e w1 ⟨rfl, hrow1, hb1⟩
  have hrow1' : Row w1 (w.heap.size + 1 + 1 + 1) 9 (strs xs) := by simpa using hrow1
  have HROW := hide hrow1'
  have HB1 := hide hb1
  obtain ⟨hc1, hf1⟩ := bcell hb1
  have hz1 : w.heap.size + 3 ≤ w1.heap.size := by have := hb1.size; simp at this; omega
  have hp1 := HP.out.below hb1 (Nat.le_refl _)
  clear hb1 hrow1 hrow1'
  have HP1 : Hid (ReadsP (w1.setCell ⟨w.heap.size + 1 + 1, 0, none⟩ (.slice (some ⟨w.heap.size + 1 + 1 + 1, 0, none⟩) xs.length xs.length)) (.slice p2 ps.length c2) ps) :=
    (Kept.ofSet w1 (w.heap.size + 1 + 1) 0 _).readsP hp1 (fun x hx => by
      have := HPL.out x hx
      simp; omega)
  clear hp1
  go_wp2_with fail
  refine (toPendingS_any _ ps _ s3 HP1.out).mono ?_
  rintro e w2 ⟨rfl, hrow2, hb2⟩
  have hsz : (w1.setCell ⟨w.heap.size + 1 + 1, 0, none⟩ (.slice (some ⟨w.heap.size + 1 + 1 + 1, 0, none⟩) xs.length xs.length)).heap.size = w1.heap.size := by simp [World.setCell]
  rw [hsz]
  rw [hsz] at hrow2 hb2
  clear hsz hc1 hf1
  have r1 := ((row_new (w.alloc (.cells #[.slice p1 xs.length c1, .slice p2 ps.length c2] 25)) [.slice none 0 0, .slice none 0 0] 30).alloc (.cells #[.slice none 0 0, .slice none 0 0] 30)).below HB1.out (by simp)
  have r2 := (row_new ((w.alloc (.cells #[.slice p1 xs.length c1, .slice p2 ps.length c2] 25)).alloc (.cells #[.slice none 0 0, .slice none 0 0] 30)) [.slice none 0 0, .slice none 0 0] 30).below HB1.out (by simp)
  simp only [World.size_alloc] at r1 r2
  have R1 := hide ((r1.other (b := w.heap.size + 1 + 1) (j := 0) (by omega) (.slice (some ⟨w.heap.size + 1 + 1 + 1, 0, none⟩) xs.length xs.length)).below hb2 (by omega))
  have R2 := hide ((r2.set (j := 0) (.slice (some ⟨w.heap.size + 1 + 1 + 1, 0, none⟩) xs.length xs.length)).below hb2 (by omega))
  have R3 := hide ((HROW.out.other (b := w.heap.size + 1 + 1) (j := 0) (by omega) (.slice (some ⟨w.heap.size + 1 + 1 + 1, 0, none⟩) xs.length xs.length)).below hb2 (by have := HROW.out.lt; omega))
  have R4 := hide hrow2
  have HB2 := hide hb2
  have hlt3 := HROW.out.lt
  clear r1 r2 hrow2 hb2
  have a0 : w2.cell? ⟨w.heap.size + 1 + 1, 0, none⟩ = some (.slice (some ⟨w.heap.size + 1 + 1 + 1, 0, none⟩) xs.length xs.length) := R2.out.cell 0
  have a1 : w2.cell? ⟨w.heap.size + 1 + 1, 1, none⟩ = some (.slice none 0 0) := R2.out.cell 1
  have b0 : w2.cell? ⟨w.heap.size + 1, 0, none⟩ = some (.slice none 0 0) := R1.out.cell 0
  have b1 : w2.cell? ⟨w.heap.size + 1, 1, none⟩ = some (.slice none 0 0) := R1.out.cell 1
  have fa1 := R2.out.free 1
  have fb0 := R1.out.free 0
  have fb1 := R1.out.free 1
  go_wp2
  have RR := ((R1.out.other (b := w.heap.size + 1 + 1) (j := 1) (by omega) (.slice (some ⟨w1.heap.size, 0, none⟩) ps.length ps.length)).set (j := 0) (.slice (some ⟨w.heap.size + 1 + 1 + 1, 0, none⟩) xs.length xs.length)).set (j := 1) (.slice (some ⟨w1.heap.size, 0, none⟩) ps.length ps.length)
  have RS := ((R3.out.other (b := w.heap.size + 1 + 1) (j := 1) (by omega) (.slice (some ⟨w1.heap.size, 0, none⟩) ps.length ps.length)).other (b := w.heap.size + 1) (j := 0) (by omega) (.slice (some ⟨w.heap.size + 1 + 1 + 1, 0, none⟩) xs.length xs.length)).other (b := w.heap.size + 1) (j := 1) (by omega) (.slice (some ⟨w1.heap.size, 0, none⟩) ps.length ps.length)
  have RP := ((R4.out.other (b := w.heap.size + 1 + 1) (j := 1) (by omega) (.slice (some ⟨w1.heap.size, 0, none⟩) ps.length ps.length)).other (b := w.heap.size + 1) (j := 0) (by omega) (.slice (some ⟨w.heap.size + 1 + 1 + 1, 0, none⟩) xs.length xs.length)).other (b := w.heap.size + 1) (j := 1) (by omega) (.slice (some ⟨w1.heap.size, 0, none⟩) ps.length ps.length)
  have q0 := RR.cell 0
  have q1 := RR.cell 1
  have e0 : (([.slice none 0 0, .slice none 0 0] : List Value).set 0 (.slice (some ⟨w.heap.size + 1 + 1 + 1, 0, none⟩) xs.length xs.length)).set 1 (.slice (some ⟨w1.heap.size, 0, none⟩) ps.length ps.length) = [(.slice (some ⟨w.heap.size + 1 + 1 + 1, 0, none⟩) xs.length xs.length), (.slice (some ⟨w1.heap.size, 0, none⟩) ps.length ps.length)] := rfl
  rw [e0] at q0 q1
  have k1 := HB0.out.trans (HB1.out.mono HB0.out.size)
  have k2 := (Kept.ofSet w1 (w.heap.size + 1 + 1) 0 (.slice (some ⟨w.heap.size + 1 + 1 + 1, 0, none⟩) xs.length xs.length)).toBelow k1 k1.size (by simp; omega)
  have k3 := k2.trans (HB2.out.mono (by omega))
  have k4 := (Kept.ofSet w2 (w.heap.size + 1 + 1) 1 (.slice (some ⟨w1.heap.size, 0, none⟩) ps.length ps.length)).toBelow k3 k3.size (by simp; omega)
  have k5 := (Kept.ofSet _ (w.heap.size + 1) 0 (.slice (some ⟨w.heap.size + 1 + 1 + 1, 0, none⟩) xs.length xs.length)).toBelow k4 k4.size (by simp)
  have k6 := (Kept.ofSet _ (w.heap.size + 1) 1 (.slice (some ⟨w1.heap.size, 0, none⟩) ps.length ps.length)).toBelow k5 k5.size (by simp)
  refine bodyPost_ret (v := .agg #[(.slice (some ⟨w.heap.size + 1 + 1 + 1, 0, none⟩) xs.length xs.length), (.slice (some ⟨w1.heap.size, 0, none⟩) ps.length ps.length)]) (by simp [results, Tryd.results7, go_sem, q0, q1]) rfl ⟨(.slice (some ⟨w.heap.size + 1 + 1 + 1, 0, none⟩) xs.length xs.length), (.slice (some ⟨w1.heap.size, 0, none⟩) ps.length ps.length), rfl, ⟨HM1.out, .inr ⟨w.heap.size + 1 + 1 + 1, [], by simp, by simp [maxLen]; omega, by omega, by simpa using RS⟩⟩,
    ⟨HM2.out, .inr ⟨w1.heap.size, ps.length, [], rfl, Nat.le_refl _, by simp [maxLen]; omega, by simp, by omega, by simpa using RP⟩⟩, ?_, k6⟩
  intro x hx hy
  have hx1 := leads_eq hx
  have hy1 := leads_eq hy
  omega
end Go.Proofs.YtjikecebbmepbaaDoor
