/- The law of DiskCrash, from what the program's DiskCrash does. -/
import Derived.Test.YthmkblhllbfmcabDoorInts
import Derived.Test.YthmkblhllbfmcabDoorDiskEq
import Derived.Deep.RegionHeld3
namespace Go.Proofs.YthmkblhllbfmcabDoor
open Go.RowKit

set_option maxRecDepth 100000 in
set_option maxHeartbeats 8000000 in
theorem lawCrash (w : World) (ks : List Int) (HI : ∀ (vs vp vk : Value) (xs : List ByteArray) (ps : List (Int × ByteArray)) (w' : World), Below w.heap.size w w' → Small xs ps → Reads w' vs xs → ReadsP w' vp ps → ReadsI w' vk ks →
      Calls Tryd.prog 8 #[.agg #[vs, vp], vk] w' fun e w'' => DiskIs w'.heap.size e w'' (crashXs xs ps ks) (crashPs xs ps ks) ∧ Below w'.heap.size w' w'')
    (vs vp vk : Value) (xs : List ByteArray) (ps : List (Int × ByteArray)) (hr : Reads w vs xs) (hp : ReadsP w vp ps) (hk : ReadsI w vk ks) (HO2 : Small xs ps → (crashXs xs ps ks).length ≤ 1048576 ∧ (crashPs xs ps ks).length ≤ 1048576) :
    Calls Tryd.prog 3 #[.agg #[vs, vp], vk] w fun e w' => e = .returned (.bool true) ∧ Below w.heap.size w w' := by
  have hb0 := below_new w (.cells #[vs, vp] 25)
  have HR0 := hide (hr.below hb0 (Nat.le_refl _))
  have HP0 := hide (hp.below hb0 (Nat.le_refl _))
  have HK0 := hide (hk.below hb0 (Nat.le_refl _))
  have HB0 := hide hb0
  have HII := hide HI
  have HOO := hide HO2
  obtain ⟨X, hX⟩ : ∃ o, o = crashXs xs ps ks := ⟨_, rfl⟩
  obtain ⟨Y, hY⟩ : ∃ o, o = crashPs xs ps ks := ⟨_, rfl⟩
  have HEX := hide hX
  have HEY := hide hY
  clear hX hY
  have I0 := hide (And.intro hr.isIn (And.intro hp.isIn hk.isIn))
  obtain ⟨p1, c1, rfl, hq⟩ := hr
  obtain ⟨p2, c2, rfl, hq2⟩ := hp
  obtain ⟨p3, c3, rfl, h3a, h3b, hq3⟩ := hk
  unfold maxLen at h3b
  have HN0 := hide (row_new w [.slice p1 xs.length c1, .slice p2 ps.length c2] 25)
  clear hb0 hq hq2 hq3 HI HO2
  by_cases hbig : 1048576 < ks.length
  · have tb : (1048576 : Int) < (ks.length : Int) := by omega
    go_enter Tryd.func3, Tryd.ntmps3
    go_wp2
    go_ret
    exact ⟨rfl, HB0.out⟩
  have hkn : ks.length ≤ 1048576 := by omega
  have tb : ¬ ((1048576 : Int) < (ks.length : Int)) := by omega
  clear hbig
  go_enter Tryd.func3, Tryd.ntmps3
  go_wp2_with fail
  refine (szDisk_any _ _ xs ps _ HR0.out HP0.out).mono ?_
  rintro e w1 ⟨r, rfl, hsm, hb1⟩
  have H1 := hide (Stab.go hb1 (P := fun w' => Below w.heap.size w w' ∧ Reads w' (.slice p1 xs.length c1) xs ∧ ReadsP w' (.slice p2 ps.length c2) ps ∧ ReadsI w' (.slice p3 ks.length c3) ks ∧ Row w' w.heap.size 25 [.slice p1 xs.length c1, .slice p2 ps.length c2]) ⟨HB0.out, HR0.out, HP0.out, HK0.out, HN0.out⟩)
  rcases hsm with hneg | ⟨hpos, hsm⟩
  · clear hb1
    go_wp2
    go_ret
    exact ⟨rfl, H1.out.1⟩
  have hneg : ¬ r < 0 := by omega
  have a0 : w1.cell? ⟨w.heap.size, 0, none⟩ = some (.slice p1 xs.length c1) := H1.out.2.2.2.2.cell 0
  have a1 : w1.cell? ⟨w.heap.size, 1, none⟩ = some (.slice p2 ps.length c2) := H1.out.2.2.2.2.cell 1
  have HSM := hide hsm
  clear hb1 HR0 HP0 HK0 HN0 HB0 hsm
  go_wp2_with fail
  refine (toDisk_any _ _ xs ps _ H1.out.2.1 H1.out.2.2.1 HSM.out).mono ?_
  rintro e w2 ⟨us, up, rfl, o1, o2, dd, hb2⟩
  have H2 := hide (Stab.go hb2 (P := fun w' => Below w.heap.size w w' ∧ Reads w' (.slice p1 xs.length c1) xs ∧ ReadsP w' (.slice p2 ps.length c2) ps ∧ ReadsI w' (.slice p3 ks.length c3) ks ∧ Row w' w.heap.size 25 [.slice p1 xs.length c1, .slice p2 ps.length c2]) H1.out)
  have HU2 := hide (And.intro o1.reads o2.reads)
  obtain ⟨x1, x2, x3, x4⟩ := HSM.out
  clear o1 o2 dd hb2 H1 x2 x4 a0 a1
  go_wp2_with fail
  refine (toInt64S_any _ ks _ hkn H2.out.2.2.2.1).mono ?_
  rintro e w3 ⟨rfl, hrow, hb3⟩
  have H3 := hide (Stab.go hb3 (P := fun w' => Below w.heap.size w w' ∧ Reads w' (.slice p1 xs.length c1) xs ∧ ReadsP w' (.slice p2 ps.length c2) ps ∧ ReadsI w' (.slice p3 ks.length c3) ks ∧ Row w' w.heap.size 25 [.slice p1 xs.length c1, .slice p2 ps.length c2]) H2.out)
  have HU3 := hide (Stab.go hb3 (P := fun w' => Reads w' us xs ∧ ReadsP w' up ps) HU2.out)
  have HKa := hide (hrow.readsI (by unfold maxLen; omega))
  clear hrow hb3 H2 HU2
  go_wp2_with fail
  refine (specCrash_any _ _ xs ps _ x1 x3 _ ks HU3.out.1 HU3.out.2 HKa.out).mono ?_
  rw [← HEX.out, ← HEY.out]
  rintro e w4 ⟨⟨ss, sp, rfl, o1, o2, dd⟩, hb4⟩
  obtain ⟨i1, j1, k1, rfl⟩ := o1.isSlice
  obtain ⟨i2, j2, k2, rfl⟩ := o2.isSlice
  have bn := below_new w4 (.cells #[.slice i1 j1 k1, .slice i2 j2 k2] 30)
  have H4a := hide (Stab.go (hb4.trans (bn.mono hb4.size)) (P := fun w' => Below w.heap.size w w' ∧ Reads w' (.slice p1 xs.length c1) xs ∧ ReadsP w' (.slice p2 ps.length c2) ps ∧ ReadsI w' (.slice p3 ks.length c3) ks ∧ Row w' w.heap.size 25 [.slice p1 xs.length c1, .slice p2 ps.length c2]) H3.out)
  have H4 := hide (show (fun w' => Below w.heap.size w w' ∧ Reads w' (.slice p1 xs.length c1) xs ∧ ReadsP w' (.slice p2 ps.length c2) ps ∧ ReadsI w' (.slice p3 ks.length c3) ks ∧ Row w' w.heap.size 25 [.slice p1 xs.length c1, .slice p2 ps.length c2] ∧ Reads w' (.slice i1 j1 k1) X ∧ ReadsP w' (.slice i2 j2 k2) Y ∧ Row w' w4.heap.size 30 [.slice i1 j1 k1, .slice i2 j2 k2]) (w4.alloc (.cells #[.slice i1 j1 k1, .slice i2 j2 k2] 30)) from ⟨H4a.out.1, H4a.out.2.1, H4a.out.2.2.1, H4a.out.2.2.2.1, H4a.out.2.2.2.2, o1.reads.below bn (Nat.le_refl _), o2.reads.below bn (Nat.le_refl _), row_new w4 _ _⟩)
  have I3 := hide (And.intro o1.isIn o2.isIn)
  have S3 := hide (And.intro H3.out.1.size hb4.size)
  have a0 : (w4.alloc (.cells #[.slice i1 j1 k1, .slice i2 j2 k2] 30)).cell? ⟨w.heap.size, 0, none⟩ = some (.slice p1 xs.length c1) := H4.out.2.2.2.2.1.cell 0
  have a1 : (w4.alloc (.cells #[.slice i1 j1 k1, .slice i2 j2 k2] 30)).cell? ⟨w.heap.size, 1, none⟩ = some (.slice p2 ps.length c2) := H4.out.2.2.2.2.1.cell 1
  clear o1 o2 dd hb4 bn H3 H4a HU3 HKa
  go_wp2_with fail
  refine (toDisk_any _ _ xs ps _ H4.out.2.1 H4.out.2.2.1 HSM.out).mono ?_
  rintro e w5 ⟨xs', xp', rfl, o1, o2, dd, hb5⟩
  obtain ⟨q1, m1, d1, rfl⟩ := o1.isSlice
  obtain ⟨q2, m2, d2, rfl⟩ := o2.isSlice
  obtain ⟨B5, hB5⟩ : ∃ b, b = w4.heap.size + 1 := ⟨_, rfl⟩
  simp only [World.size_alloc] at o1 o2
  rw [← hB5] at o1 o2
  have bn := below_new w5 (.cells #[.slice q1 m1 d1, .slice q2 m2 d2] 30)
  have H5a := hide (Stab.go (hb5.trans (bn.mono hb5.size)) (P := fun w' => Below w.heap.size w w' ∧ Reads w' (.slice p1 xs.length c1) xs ∧ ReadsP w' (.slice p2 ps.length c2) ps ∧ ReadsI w' (.slice p3 ks.length c3) ks ∧ Row w' w.heap.size 25 [.slice p1 xs.length c1, .slice p2 ps.length c2] ∧ Reads w' (.slice i1 j1 k1) X ∧ ReadsP w' (.slice i2 j2 k2) Y ∧ Row w' w4.heap.size 30 [.slice i1 j1 k1, .slice i2 j2 k2]) H4.out)
  have H5 := hide (show (fun w' => Below w.heap.size w w' ∧ Reads w' (.slice p1 xs.length c1) xs ∧ ReadsP w' (.slice p2 ps.length c2) ps ∧ ReadsI w' (.slice p3 ks.length c3) ks ∧ Row w' w.heap.size 25 [.slice p1 xs.length c1, .slice p2 ps.length c2] ∧ Reads w' (.slice i1 j1 k1) X ∧ ReadsP w' (.slice i2 j2 k2) Y ∧ Row w' w4.heap.size 30 [.slice i1 j1 k1, .slice i2 j2 k2] ∧ OwnS 9 B5 w' (.slice q1 m1 d1) xs ∧ OwnP 44 B5 w' (.slice q2 m2 d2) ps ∧ Row w' w5.heap.size 30 [.slice q1 m1 d1, .slice q2 m2 d2]) (w5.alloc (.cells #[.slice q1 m1 d1, .slice q2 m2 d2] 30)) from ⟨H5a.out.1, H5a.out.2.1, H5a.out.2.2.1, H5a.out.2.2.2.1, H5a.out.2.2.2.2.1, H5a.out.2.2.2.2.2.1, H5a.out.2.2.2.2.2.2.1, H5a.out.2.2.2.2.2.2.2, o1.below bn (Nat.le_refl _), o2.below bn (Nat.le_refl _), row_new w5 _ _⟩)
  have I4 := hide (And.intro o1.isIn o2.isIn)
  have S4 := hide (show w4.heap.size + 1 ≤ w5.heap.size by have := hb5.size; simpa using this)
  have D4 := hide dd
  clear o1 o2 dd hb5 bn H4 H5a a0 a1
  go_wp2_with fail
  refine (toInt64S_any _ ks _ hkn H5.out.2.2.2.1).mono ?_
  rintro e w6 ⟨rfl, hrow, hb6⟩
  have a0 : w6.cell? ⟨w5.heap.size, 0, none⟩ = some (.slice q1 m1 d1) := (Row.after hb6 H5.out.2.2.2.2.2.2.2.2.2.2).cell 0
  have a1 : w6.cell? ⟨w5.heap.size, 1, none⟩ = some (.slice q2 m2 d2) := (Row.after hb6 H5.out.2.2.2.2.2.2.2.2.2.2).cell 1
  have S6 := hide (show w5.heap.size + 1 < w6.heap.size by have := hrow.lt; simpa using this)
  simp only [World.size_alloc] at hrow ⊢
  obtain ⟨B6, hB6⟩ : ∃ b, b = w5.heap.size + 1 := ⟨_, rfl⟩
  rw [← hB6] at hrow ⊢
  have HB6 := hide hB6
  clear hB6
  have H6a := hide (Stab.go hb6 (P := fun w' => Below w.heap.size w w' ∧ Reads w' (.slice p1 xs.length c1) xs ∧ ReadsP w' (.slice p2 ps.length c2) ps ∧ ReadsI w' (.slice p3 ks.length c3) ks ∧ Row w' w.heap.size 25 [.slice p1 xs.length c1, .slice p2 ps.length c2] ∧ Reads w' (.slice i1 j1 k1) X ∧ ReadsP w' (.slice i2 j2 k2) Y ∧ Row w' w4.heap.size 30 [.slice i1 j1 k1, .slice i2 j2 k2] ∧ OwnS 9 B5 w' (.slice q1 m1 d1) xs ∧ OwnP 44 B5 w' (.slice q2 m2 d2) ps ∧ Row w' w5.heap.size 30 [.slice q1 m1 d1, .slice q2 m2 d2]) H5.out)
  have H6 := hide (show (fun w' => Below w.heap.size w w' ∧ Reads w' (.slice p1 xs.length c1) xs ∧ ReadsP w' (.slice p2 ps.length c2) ps ∧ ReadsI w' (.slice p3 ks.length c3) ks ∧ Row w' w.heap.size 25 [.slice p1 xs.length c1, .slice p2 ps.length c2] ∧ Reads w' (.slice i1 j1 k1) X ∧ ReadsP w' (.slice i2 j2 k2) Y ∧ Row w' w4.heap.size 30 [.slice i1 j1 k1, .slice i2 j2 k2] ∧ OwnS 9 B5 w' (.slice q1 m1 d1) xs ∧ OwnP 44 B5 w' (.slice q2 m2 d2) ps ∧ Row w' w5.heap.size 30 [.slice q1 m1 d1, .slice q2 m2 d2] ∧ Row w' B6 2 (intc ks)) w6 from ⟨H6a.out.1, H6a.out.2.1, H6a.out.2.2.1, H6a.out.2.2.2.1, H6a.out.2.2.2.2.1, H6a.out.2.2.2.2.2.1, H6a.out.2.2.2.2.2.2.1, H6a.out.2.2.2.2.2.2.2.1, H6a.out.2.2.2.2.2.2.2.2.1, H6a.out.2.2.2.2.2.2.2.2.2.1, H6a.out.2.2.2.2.2.2.2.2.2.2, hrow⟩)
  clear hrow hb6 H5 H6a
  go_wp2_with fail
  refine (HII.out _ _ _ xs ps _ H6.out.1 HSM.out H6.out.2.2.2.2.2.2.2.2.1.reads H6.out.2.2.2.2.2.2.2.2.2.1.reads (Row.readsI H6.out.2.2.2.2.2.2.2.2.2.2.2 (by unfold maxLen; omega))).mono ?_
  rw [← HEX.out, ← HEY.out]
  rintro e w7 ⟨⟨gs, gp, rfl, o1, o2, dd⟩, hb7⟩
  obtain ⟨r1, n1, e1, rfl⟩ := o1.isSlice
  obtain ⟨r2, n2, e2, rfl⟩ := o2.isSlice
  obtain ⟨B7, hB7⟩ : ∃ b, b = w6.heap.size := ⟨_, rfl⟩
  rw [← hB7] at o1 o2
  have bn := below_new w7 (.cells #[.slice r1 n1 e1, .slice r2 n2 e2] 30)
  have H7a := hide (Stab.go (hb7.trans (bn.mono hb7.size)) (P := fun w' => Below w.heap.size w w' ∧ Reads w' (.slice p1 xs.length c1) xs ∧ ReadsP w' (.slice p2 ps.length c2) ps ∧ ReadsI w' (.slice p3 ks.length c3) ks ∧ Row w' w.heap.size 25 [.slice p1 xs.length c1, .slice p2 ps.length c2] ∧ Reads w' (.slice i1 j1 k1) X ∧ ReadsP w' (.slice i2 j2 k2) Y ∧ Row w' w4.heap.size 30 [.slice i1 j1 k1, .slice i2 j2 k2] ∧ OwnS 9 B5 w' (.slice q1 m1 d1) xs ∧ OwnP 44 B5 w' (.slice q2 m2 d2) ps ∧ Row w' w5.heap.size 30 [.slice q1 m1 d1, .slice q2 m2 d2] ∧ Row w' B6 2 (intc ks)) H6.out)
  have H7 := hide (show (fun w' => Below w.heap.size w w' ∧ Reads w' (.slice p1 xs.length c1) xs ∧ ReadsP w' (.slice p2 ps.length c2) ps ∧ ReadsI w' (.slice p3 ks.length c3) ks ∧ Row w' w.heap.size 25 [.slice p1 xs.length c1, .slice p2 ps.length c2] ∧ Reads w' (.slice i1 j1 k1) X ∧ ReadsP w' (.slice i2 j2 k2) Y ∧ Row w' w4.heap.size 30 [.slice i1 j1 k1, .slice i2 j2 k2] ∧ OwnS 9 B5 w' (.slice q1 m1 d1) xs ∧ OwnP 44 B5 w' (.slice q2 m2 d2) ps ∧ Row w' w5.heap.size 30 [.slice q1 m1 d1, .slice q2 m2 d2] ∧ Row w' B6 2 (intc ks) ∧ OwnS 9 B7 w' (.slice r1 n1 e1) X ∧ OwnP 44 B7 w' (.slice r2 n2 e2) Y ∧ Row w' w7.heap.size 30 [.slice r1 n1 e1, .slice r2 n2 e2]) (w7.alloc (.cells #[.slice r1 n1 e1, .slice r2 n2 e2] 30)) from ⟨H7a.out.1, H7a.out.2.1, H7a.out.2.2.1, H7a.out.2.2.2.1, H7a.out.2.2.2.2.1, H7a.out.2.2.2.2.2.1, H7a.out.2.2.2.2.2.2.1, H7a.out.2.2.2.2.2.2.2.1, H7a.out.2.2.2.2.2.2.2.2.1, H7a.out.2.2.2.2.2.2.2.2.2.1, H7a.out.2.2.2.2.2.2.2.2.2.2.1, H7a.out.2.2.2.2.2.2.2.2.2.2.2, o1.below bn (Nat.le_refl _), o2.below bn (Nat.le_refl _), row_new w7 _ _⟩)
  have I5 := hide (And.intro o1.isIn o2.isIn)
  have S7 := hide (show w6.heap.size ≤ w7.heap.size from hb7.size)
  have D5 := hide dd
  obtain ⟨l1, l2⟩ := HOO.out HSM.out
  rw [← HEX.out] at l1
  rw [← HEY.out] at l2
  have b0 : (w7.alloc (.cells #[.slice r1 n1 e1, .slice r2 n2 e2] 30)).cell? ⟨w4.heap.size, 0, none⟩ = some (.slice i1 j1 k1) := H7.out.2.2.2.2.2.2.2.1.cell 0
  have b1 : (w7.alloc (.cells #[.slice r1 n1 e1, .slice r2 n2 e2] 30)).cell? ⟨w4.heap.size, 1, none⟩ = some (.slice i2 j2 k2) := H7.out.2.2.2.2.2.2.2.1.cell 1
  clear o1 o2 dd hb7 bn H6 H7a HOO a0 a1
  go_wp2_with fail
  refine (eqDisk_same _ _ _ _ X Y _ l1 l2 H7.out.2.2.2.2.2.2.2.2.2.2.2.2.1.reads H7.out.2.2.2.2.2.2.2.2.2.2.2.2.2.1.reads H7.out.2.2.2.2.2.1 H7.out.2.2.2.2.2.2.1).mono ?_
  rintro e w8 ⟨rfl, hb8⟩
  have H8 := hide (Stab.go hb8 (P := fun w' => Below w.heap.size w w' ∧ Reads w' (.slice p1 xs.length c1) xs ∧ ReadsP w' (.slice p2 ps.length c2) ps ∧ ReadsI w' (.slice p3 ks.length c3) ks ∧ Row w' w.heap.size 25 [.slice p1 xs.length c1, .slice p2 ps.length c2] ∧ Reads w' (.slice i1 j1 k1) X ∧ ReadsP w' (.slice i2 j2 k2) Y ∧ Row w' w4.heap.size 30 [.slice i1 j1 k1, .slice i2 j2 k2] ∧ OwnS 9 B5 w' (.slice q1 m1 d1) xs ∧ OwnP 44 B5 w' (.slice q2 m2 d2) ps ∧ Row w' w5.heap.size 30 [.slice q1 m1 d1, .slice q2 m2 d2] ∧ Row w' B6 2 (intc ks) ∧ OwnS 9 B7 w' (.slice r1 n1 e1) X ∧ OwnP 44 B7 w' (.slice r2 n2 e2) Y ∧ Row w' w7.heap.size 30 [.slice r1 n1 e1, .slice r2 n2 e2]) H7.out)
  clear hb8 H7 b0 b1
  go_wp2_with fail
  have HSS := hide (show ∀ x, Below w8.heap.size w8 x → x.cell? ⟨w.heap.size, 0, none⟩ = some (.slice p1 xs.length c1) ∧ x.cell? ⟨w.heap.size, 1, none⟩ = some (.slice p2 ps.length c2) ∧ x.cell? ⟨w5.heap.size, 0, none⟩ = some (.slice q1 m1 d1) ∧ x.cell? ⟨w5.heap.size, 1, none⟩ = some (.slice q2 m2 d2) ∧ Below w8.heap.size w8 x from
    fun x h => ⟨(Row.after h H8.out.2.2.2.2.1).cell 0, (Row.after h H8.out.2.2.2.2.1).cell 1, (Row.after h H8.out.2.2.2.2.2.2.2.2.2.2.1).cell 0, (Row.after h H8.out.2.2.2.2.2.2.2.2.2.2.1).cell 1, h⟩)
  go_region_held3 (fun x => x.cell? ⟨w.heap.size, 0, none⟩ = some (.slice p1 xs.length c1) ∧ x.cell? ⟨w.heap.size, 1, none⟩ = some (.slice p2 ps.length c2) ∧ x.cell? ⟨w5.heap.size, 0, none⟩ = some (.slice q1 m1 d1) ∧ x.cell? ⟨w5.heap.size, 1, none⟩ = some (.slice q2 m2 d2) ∧ Below w8.heap.size w8 x)
    ((go_split_ands; refine HSS.out _ ?_; repeat (first | with_reducible assumption | with_reducible exact Below.refl _ _ | with_reducible refine Below.drew ?_)))
    ((first
      | (go_at_call 6; go_split_ands; refine (toDisk_any _ _ xs ps _ (H8.out.2.1.below (by assumption) (Nat.le_refl _)) (H8.out.2.2.1.below (by assumption) (Nat.le_refl _)) HSM.out).mono ?_; rintro e w9 ⟨us3, up3, rfl, o5, o6, d5, hb9⟩; have HRy := hide o5.reads; have HPy := hide o6.reads
         have hB9 : Below w8.heap.size w8 w9 := Below.trans (by assumption) (hb9.mono (Below.size (by assumption))); clear o5 o6 d5 hb9)
      | (go_at_call 9; go_split_ands; refine (eqDisk_same _ _ _ _ xs ps _ x1 x3 (H8.out.2.2.2.2.2.2.2.2.1.reads.below hB9 (Nat.le_refl _)) (H8.out.2.2.2.2.2.2.2.2.2.1.reads.below hB9 (Nat.le_refl _)) HRy.out HPy.out).mono ?_; rintro e w10 ⟨rfl, hb10⟩
         have hB10 : Below w8.heap.size w8 w10 := hB9.trans (hb10.mono hB9.size); clear hb10)))
  have H10 := hide (Stab.go hB10 (P := fun w' => Below w.heap.size w w' ∧ Reads w' (.slice p1 xs.length c1) xs ∧ ReadsP w' (.slice p2 ps.length c2) ps ∧ ReadsI w' (.slice p3 ks.length c3) ks ∧ Row w' w.heap.size 25 [.slice p1 xs.length c1, .slice p2 ps.length c2] ∧ Reads w' (.slice i1 j1 k1) X ∧ ReadsP w' (.slice i2 j2 k2) Y ∧ Row w' w4.heap.size 30 [.slice i1 j1 k1, .slice i2 j2 k2] ∧ OwnS 9 B5 w' (.slice q1 m1 d1) xs ∧ OwnP 44 B5 w' (.slice q2 m2 d2) ps ∧ Row w' w5.heap.size 30 [.slice q1 m1 d1, .slice q2 m2 d2] ∧ Row w' B6 2 (intc ks) ∧ OwnS 9 B7 w' (.slice r1 n1 e1) X ∧ OwnP 44 B7 w' (.slice r2 n2 e2) Y ∧ Row w' w7.heap.size 30 [.slice r1 n1 e1, .slice r2 n2 e2]) H8.out)
  clear hB9 hB10 HSS H8 HRy HPy
  go_wp2_with fail
  refine (toInt64S_any _ ks _ hkn H10.out.2.2.2.1).mono ?_
  rintro e w11 ⟨rfl, hrow, hb11⟩
  have H11 := hide (Stab.go hb11 (P := fun w' => Below w.heap.size w w' ∧ Reads w' (.slice p1 xs.length c1) xs ∧ ReadsP w' (.slice p2 ps.length c2) ps ∧ ReadsI w' (.slice p3 ks.length c3) ks ∧ Row w' w.heap.size 25 [.slice p1 xs.length c1, .slice p2 ps.length c2] ∧ Reads w' (.slice i1 j1 k1) X ∧ ReadsP w' (.slice i2 j2 k2) Y ∧ Row w' w4.heap.size 30 [.slice i1 j1 k1, .slice i2 j2 k2] ∧ OwnS 9 B5 w' (.slice q1 m1 d1) xs ∧ OwnP 44 B5 w' (.slice q2 m2 d2) ps ∧ Row w' w5.heap.size 30 [.slice q1 m1 d1, .slice q2 m2 d2] ∧ Row w' B6 2 (intc ks) ∧ OwnS 9 B7 w' (.slice r1 n1 e1) X ∧ OwnP 44 B7 w' (.slice r2 n2 e2) Y ∧ Row w' w7.heap.size 30 [.slice r1 n1 e1, .slice r2 n2 e2]) H10.out)
  have HKy := hide (hrow.readsI (by unfold maxLen; omega))
  clear hrow hb11 H10
  go_wp2_with fail
  refine (eqInt64S_same _ _ ks _ hkn (Row.readsI H11.out.2.2.2.2.2.2.2.2.2.2.2.1 (by unfold maxLen; omega)) HKy.out).mono ?_
  rintro e w12 ⟨rfl, hb12⟩
  have H12 := hide (Stab.go hb12 (P := fun w' => Below w.heap.size w w' ∧ Reads w' (.slice p1 xs.length c1) xs ∧ ReadsP w' (.slice p2 ps.length c2) ps ∧ ReadsI w' (.slice p3 ks.length c3) ks ∧ Row w' w.heap.size 25 [.slice p1 xs.length c1, .slice p2 ps.length c2] ∧ Reads w' (.slice i1 j1 k1) X ∧ ReadsP w' (.slice i2 j2 k2) Y ∧ Row w' w4.heap.size 30 [.slice i1 j1 k1, .slice i2 j2 k2] ∧ OwnS 9 B5 w' (.slice q1 m1 d1) xs ∧ OwnP 44 B5 w' (.slice q2 m2 d2) ps ∧ Row w' w5.heap.size 30 [.slice q1 m1 d1, .slice q2 m2 d2] ∧ Row w' B6 2 (intc ks) ∧ OwnS 9 B7 w' (.slice r1 n1 e1) X ∧ OwnP 44 B7 w' (.slice r2 n2 e2) Y ∧ Row w' w7.heap.size 30 [.slice r1 n1 e1, .slice r2 n2 e2]) H11.out)
  clear hb12 H11 HKy
  have y0 : w12.cell? ⟨w5.heap.size, 0, none⟩ = some (.slice q1 m1 d1) := H12.out.2.2.2.2.2.2.2.2.2.2.1.cell 0
  have y1 : w12.cell? ⟨w5.heap.size, 1, none⟩ = some (.slice q2 m2 d2) := H12.out.2.2.2.2.2.2.2.2.2.2.1.cell 1
  go_wp2_with fail
  refine (markDisk_own _ _ _ xs ps 1 _ x1 x3 (by omega) H12.out.2.2.2.2.2.2.2.2.1 H12.out.2.2.2.2.2.2.2.2.2.1 D4.out).mono ?_
  rintro e w13 ⟨rfl, o1, o2, hk⟩
  have sS := S3.out
  have s4 := S4.out
  have s6 := S6.out
  have s7 := S7.out
  have ia : In (.slice q1 m1 d1) B5 w5.heap.size := I4.out.1
  have ib : In (.slice q2 m2 d2) B5 w5.heap.size := I4.out.2
  have hB6 := HB6.out
  have H13 := hide (show (fun w' => Below w.heap.size w w' ∧ Reads w' (.slice p1 xs.length c1) xs ∧ ReadsP w' (.slice p2 ps.length c2) ps ∧ ReadsI w' (.slice p3 ks.length c3) ks ∧ Row w' w.heap.size 25 [.slice p1 xs.length c1, .slice p2 ps.length c2] ∧ Reads w' (.slice i1 j1 k1) X ∧ ReadsP w' (.slice i2 j2 k2) Y ∧ Row w' w4.heap.size 30 [.slice i1 j1 k1, .slice i2 j2 k2] ∧ Row w' B6 2 (intc ks) ∧ OwnS 9 B7 w' (.slice r1 n1 e1) X ∧ OwnP 44 B7 w' (.slice r2 n2 e2) Y ∧ Row w' w7.heap.size 30 [.slice r1 n1 e1, .slice r2 n2 e2]) w13 from ⟨hk.onBelow H12.out.1 (fun x hx => by have := ia.all ib x hx; omega),
    hk.reads H12.out.2.1 (I0.out.1.apart ia ib (.inl (by omega))),
    hk.readsP H12.out.2.2.1 (I0.out.2.1.apart ia ib (.inl (by omega))),
    hk.readsI H12.out.2.2.2.1 (I0.out.2.2.apart ia ib (.inl (by omega))),
    hk.row H12.out.2.2.2.2.1 (ia.far ib (.inl (by omega))),
    hk.reads H12.out.2.2.2.2.2.1 (I3.out.1.apart ia ib (.inl (by omega))),
    hk.readsP H12.out.2.2.2.2.2.2.1 (I3.out.2.apart ia ib (.inl (by omega))),
    hk.row H12.out.2.2.2.2.2.2.2.1 (ia.far ib (.inl (by omega))),
    hk.row H12.out.2.2.2.2.2.2.2.2.2.2.2.1 (ia.far ib (.inr (by omega))),
    H12.out.2.2.2.2.2.2.2.2.2.2.2.2.1.kept hk (I5.out.1.apart ia ib (.inr (by omega))),
    H12.out.2.2.2.2.2.2.2.2.2.2.2.2.2.1.kept hk (I5.out.2.apart ia ib (.inr (by omega))),
    hk.row H12.out.2.2.2.2.2.2.2.2.2.2.2.2.2.2 (ia.far ib (.inr (by omega)))⟩)
  clear hB6 o1 o2 hk H12 ia ib y0 y1
  obtain ⟨K, hK⟩ : ∃ K : Nat, K = 1 + xs.length + ps.length * 2 := ⟨_, rfl⟩
  rw [← hK]
  have hKb : K ≤ 5000000 := by omega
  clear hK
  go_wp2_with fail
  refine (markInt64S_own B6 ks K _ hkn (by omega) H13.out.2.2.2.2.2.2.2.2.1).mono ?_
  rintro e w14 ⟨rfl, hk⟩
  have hB6 := HB6.out
  have H14 := hide (show (fun w' => Below w.heap.size w w' ∧ Reads w' (.slice p1 xs.length c1) xs ∧ ReadsP w' (.slice p2 ps.length c2) ps ∧ ReadsI w' (.slice p3 ks.length c3) ks ∧ Row w' w.heap.size 25 [.slice p1 xs.length c1, .slice p2 ps.length c2] ∧ Reads w' (.slice i1 j1 k1) X ∧ ReadsP w' (.slice i2 j2 k2) Y ∧ Row w' w4.heap.size 30 [.slice i1 j1 k1, .slice i2 j2 k2] ∧ OwnS 9 B7 w' (.slice r1 n1 e1) X ∧ OwnP 44 B7 w' (.slice r2 n2 e2) Y ∧ Row w' w7.heap.size 30 [.slice r1 n1 e1, .slice r2 n2 e2]) w14 from ⟨hk.onBelow H13.out.1 (by simp; omega), hk.reads H13.out.2.1 (fun x hx => by have := I0.out.1 x hx; simp; omega), hk.readsP H13.out.2.2.1 (fun x hx => by have := I0.out.2.1 x hx; simp; omega), hk.readsI H13.out.2.2.2.1 (fun x hx => by have := I0.out.2.2 x hx; simp; omega), hk.row H13.out.2.2.2.2.1 (by simp; omega),
    hk.reads H13.out.2.2.2.2.2.1 (fun x hx => by have := I3.out.1 x hx; simp; omega), hk.readsP H13.out.2.2.2.2.2.2.1 (fun x hx => by have := I3.out.2 x hx; simp; omega), hk.row H13.out.2.2.2.2.2.2.2.1 (by simp; omega), H13.out.2.2.2.2.2.2.2.2.2.1.kept hk (fun x hx => by have := I5.out.1 x hx; simp; omega), H13.out.2.2.2.2.2.2.2.2.2.2.1.kept hk (fun x hx => by have := I5.out.2 x hx; simp; omega), hk.row H13.out.2.2.2.2.2.2.2.2.2.2.2 (by simp; omega)⟩)
  have b0 : w14.cell? ⟨w4.heap.size, 0, none⟩ = some (.slice i1 j1 k1) := H14.out.2.2.2.2.2.2.2.1.cell 0
  have b1 : w14.cell? ⟨w4.heap.size, 1, none⟩ = some (.slice i2 j2 k2) := H14.out.2.2.2.2.2.2.2.1.cell 1
  have h0 : w14.cell? ⟨w7.heap.size, 0, none⟩ = some (.slice r1 n1 e1) := H14.out.2.2.2.2.2.2.2.2.2.2.cell 0
  have h1 : w14.cell? ⟨w7.heap.size, 1, none⟩ = some (.slice r2 n2 e2) := H14.out.2.2.2.2.2.2.2.2.2.2.cell 1
  obtain ⟨K2, hK2⟩ : ∃ K2 : Int, K2 = ((K + ks.length : Nat) : Int) := ⟨_, rfl⟩
  rw [← hK2]
  have tk : ¬ (K2 < 0) := by omega
  clear hk H13 hK2 hB6
  go_wp2_with fail
  refine (eqDisk_same _ _ _ _ X Y _ l1 l2 H14.out.2.2.2.2.2.2.2.2.1.reads H14.out.2.2.2.2.2.2.2.2.2.1.reads H14.out.2.2.2.2.2.1 H14.out.2.2.2.2.2.2.1).mono ?_
  rintro e w15 ⟨rfl, hb15⟩
  have H15 := hide (Stab.go hb15 (P := fun w' => Below w.heap.size w w' ∧ Reads w' (.slice p1 xs.length c1) xs ∧ ReadsP w' (.slice p2 ps.length c2) ps ∧ ReadsI w' (.slice p3 ks.length c3) ks ∧ Row w' w.heap.size 25 [.slice p1 xs.length c1, .slice p2 ps.length c2] ∧ Reads w' (.slice i1 j1 k1) X ∧ ReadsP w' (.slice i2 j2 k2) Y ∧ Row w' w4.heap.size 30 [.slice i1 j1 k1, .slice i2 j2 k2] ∧ OwnS 9 B7 w' (.slice r1 n1 e1) X ∧ OwnP 44 B7 w' (.slice r2 n2 e2) Y ∧ Row w' w7.heap.size 30 [.slice r1 n1 e1, .slice r2 n2 e2]) H14.out)
  clear hb15 H14 b0 b1 h0 h1
  have h0 : w15.cell? ⟨w7.heap.size, 0, none⟩ = some (.slice r1 n1 e1) := H15.out.2.2.2.2.2.2.2.2.2.2.cell 0
  have h1 : w15.cell? ⟨w7.heap.size, 1, none⟩ = some (.slice r2 n2 e2) := H15.out.2.2.2.2.2.2.2.2.2.2.cell 1
  go_wp2_with fail
  obtain ⟨Q, hQ⟩ : ∃ Q : Int, Q = ((1 + X.length + Y.length * 2 : Nat) : Int) := ⟨_, rfl⟩
  have tq : ¬ Q < 0 := by omega
  have HQ := hide hQ
  clear hQ
  refine (markDisk_own _ _ _ X Y 1 _ l1 l2 (by omega) H15.out.2.2.2.2.2.2.2.2.1 H15.out.2.2.2.2.2.2.2.2.2.1 D5.out).mono ?_
  rw [← HQ.out]
  rintro e w16 ⟨rfl, o1, o2, hk⟩
  have ia : In (.slice r1 n1 e1) B7 w7.heap.size := I5.out.1
  have ib : In (.slice r2 n2 e2) B7 w7.heap.size := I5.out.2
  have H16 := hide (show (fun w' => Below w.heap.size w w' ∧ Reads w' (.slice p1 xs.length c1) xs ∧ ReadsP w' (.slice p2 ps.length c2) ps ∧ ReadsI w' (.slice p3 ks.length c3) ks ∧ Row w' w.heap.size 25 [.slice p1 xs.length c1, .slice p2 ps.length c2] ∧ Reads w' (.slice i1 j1 k1) X ∧ ReadsP w' (.slice i2 j2 k2) Y ∧ Row w' w4.heap.size 30 [.slice i1 j1 k1, .slice i2 j2 k2] ∧ Reads w' (.slice r1 n1 e1) (marks 1 X.length) ∧ ReadsP w' (.slice r2 n2 e2) (marksP (1 + X.length) Y.length) ∧ Row w' w7.heap.size 30 [.slice r1 n1 e1, .slice r2 n2 e2]) w16 from ⟨hk.onBelow H15.out.1 (fun x hx => by have := ia.all ib x hx; omega),
    hk.reads H15.out.2.1 (I0.out.1.apart ia ib (.inl (by omega))),
    hk.readsP H15.out.2.2.1 (I0.out.2.1.apart ia ib (.inl (by omega))),
    hk.readsI H15.out.2.2.2.1 (I0.out.2.2.apart ia ib (.inl (by omega))),
    hk.row H15.out.2.2.2.2.1 (ia.far ib (.inl (by omega))),
    hk.reads H15.out.2.2.2.2.2.1 (I3.out.1.apart ia ib (.inl (by omega))),
    hk.readsP H15.out.2.2.2.2.2.2.1 (I3.out.2.apart ia ib (.inl (by omega))),
    hk.row H15.out.2.2.2.2.2.2.2.1 (ia.far ib (.inl (by omega))),
    o1.reads,
    o2.reads,
    hk.row H15.out.2.2.2.2.2.2.2.2.2.2 (ia.far ib (.inr (Nat.le_refl _)))⟩)
  clear o1 o2 hk H15 ia ib h0 h1 tk
  have h0 : w16.cell? ⟨w7.heap.size, 0, none⟩ = some (.slice r1 n1 e1) := H16.out.2.2.2.2.2.2.2.2.2.2.cell 0
  have h1 : w16.cell? ⟨w7.heap.size, 1, none⟩ = some (.slice r2 n2 e2) := H16.out.2.2.2.2.2.2.2.2.2.2.cell 1
  go_wp2_with fail
  refine (heldDisk_any _ _ 1 X.length Y.length _ l1 l2 (by omega) H16.out.2.2.2.2.2.2.2.2.1 H16.out.2.2.2.2.2.2.2.2.2.1).mono ?_
  rw [← HQ.out]
  rintro e w17 ⟨rfl, hb17⟩
  have H17 := hide (Stab.go hb17 (P := fun w' => Below w.heap.size w w' ∧ Reads w' (.slice p1 xs.length c1) xs ∧ ReadsP w' (.slice p2 ps.length c2) ps ∧ ReadsI w' (.slice p3 ks.length c3) ks ∧ Row w' w.heap.size 25 [.slice p1 xs.length c1, .slice p2 ps.length c2] ∧ Reads w' (.slice i1 j1 k1) X ∧ ReadsP w' (.slice i2 j2 k2) Y ∧ Row w' w4.heap.size 30 [.slice i1 j1 k1, .slice i2 j2 k2] ∧ Reads w' (.slice r1 n1 e1) (marks 1 X.length) ∧ ReadsP w' (.slice r2 n2 e2) (marksP (1 + X.length) Y.length) ∧ Row w' w7.heap.size 30 [.slice r1 n1 e1, .slice r2 n2 e2]) H16.out)
  clear hb17 H16 h0 h1
  have a0 : w17.cell? ⟨w.heap.size, 0, none⟩ = some (.slice p1 xs.length c1) := H17.out.2.2.2.2.1.cell 0
  have a1 : w17.cell? ⟨w.heap.size, 1, none⟩ = some (.slice p2 ps.length c2) := H17.out.2.2.2.2.1.cell 1
  go_wp2_with fail
  refine (toDisk_any _ _ xs ps _ H17.out.2.1 H17.out.2.2.1 HSM.out).mono ?_
  rintro e w18 ⟨ys, yp, rfl, o1, o2, dd, hb18⟩
  have H18 := hide (Stab.go hb18 (P := fun w' => Below w.heap.size w w' ∧ Reads w' (.slice p1 xs.length c1) xs ∧ ReadsP w' (.slice p2 ps.length c2) ps ∧ ReadsI w' (.slice p3 ks.length c3) ks ∧ Row w' w.heap.size 25 [.slice p1 xs.length c1, .slice p2 ps.length c2] ∧ Reads w' (.slice i1 j1 k1) X ∧ ReadsP w' (.slice i2 j2 k2) Y ∧ Row w' w4.heap.size 30 [.slice i1 j1 k1, .slice i2 j2 k2] ∧ Reads w' (.slice r1 n1 e1) (marks 1 X.length) ∧ ReadsP w' (.slice r2 n2 e2) (marksP (1 + X.length) Y.length) ∧ Row w' w7.heap.size 30 [.slice r1 n1 e1, .slice r2 n2 e2]) H17.out)
  have HU2 := hide (And.intro o1.reads o2.reads)
  clear hb18 H17 o1 o2 dd a0 a1
  go_wp2_with fail
  refine (toInt64S_any _ ks _ hkn H18.out.2.2.2.1).mono ?_
  rintro e w19 ⟨rfl, hrow, hb19⟩
  have H19 := hide (Stab.go hb19 (P := fun w' => Below w.heap.size w w' ∧ Reads w' (.slice p1 xs.length c1) xs ∧ ReadsP w' (.slice p2 ps.length c2) ps ∧ ReadsI w' (.slice p3 ks.length c3) ks ∧ Row w' w.heap.size 25 [.slice p1 xs.length c1, .slice p2 ps.length c2] ∧ Reads w' (.slice i1 j1 k1) X ∧ ReadsP w' (.slice i2 j2 k2) Y ∧ Row w' w4.heap.size 30 [.slice i1 j1 k1, .slice i2 j2 k2] ∧ Reads w' (.slice r1 n1 e1) (marks 1 X.length) ∧ ReadsP w' (.slice r2 n2 e2) (marksP (1 + X.length) Y.length) ∧ Row w' w7.heap.size 30 [.slice r1 n1 e1, .slice r2 n2 e2]) H18.out)
  have HU3 := hide (Stab.go hb19 (P := fun w' => Reads w' ys xs ∧ ReadsP w' yp ps) HU2.out)
  have HKa := hide (hrow.readsI (by unfold maxLen; omega))
  clear hrow hb19 H18 HU2
  go_wp2_with fail
  refine (HII.out _ _ _ xs ps _ H19.out.1 HSM.out HU3.out.1 HU3.out.2 HKa.out).mono ?_
  rw [← HEX.out, ← HEY.out]
  rintro e w20 ⟨⟨zs, zp, rfl, o1, o2, dd⟩, hb20⟩
  obtain ⟨u1, y1, v1, rfl⟩ := o1.isSlice
  obtain ⟨u2, y2, v2, rfl⟩ := o2.isSlice
  have bn := below_new w20 (.cells #[.slice u1 y1 v1, .slice u2 y2 v2] 30)
  have H20 := hide (Stab.go (hb20.trans (bn.mono hb20.size)) (P := fun w' => Below w.heap.size w w' ∧ Reads w' (.slice p1 xs.length c1) xs ∧ ReadsP w' (.slice p2 ps.length c2) ps ∧ ReadsI w' (.slice p3 ks.length c3) ks ∧ Row w' w.heap.size 25 [.slice p1 xs.length c1, .slice p2 ps.length c2] ∧ Reads w' (.slice i1 j1 k1) X ∧ ReadsP w' (.slice i2 j2 k2) Y ∧ Row w' w4.heap.size 30 [.slice i1 j1 k1, .slice i2 j2 k2] ∧ Reads w' (.slice r1 n1 e1) (marks 1 X.length) ∧ ReadsP w' (.slice r2 n2 e2) (marksP (1 + X.length) Y.length) ∧ Row w' w7.heap.size 30 [.slice r1 n1 e1, .slice r2 n2 e2]) H19.out)
  have HRz := hide (o1.reads.below bn (Nat.le_refl _))
  have HPz := hide (o2.reads.below bn (Nat.le_refl _))
  have b0 : (w20.alloc (.cells #[.slice u1 y1 v1, .slice u2 y2 v2] 30)).cell? ⟨w4.heap.size, 0, none⟩ = some (.slice i1 j1 k1) := H20.out.2.2.2.2.2.2.2.1.cell 0
  have b1 : (w20.alloc (.cells #[.slice u1 y1 v1, .slice u2 y2 v2] 30)).cell? ⟨w4.heap.size, 1, none⟩ = some (.slice i2 j2 k2) := H20.out.2.2.2.2.2.2.2.1.cell 1
  clear hb20 bn H19 o1 o2 dd HU3 HKa
  go_wp2_with fail
  refine (eqDisk_same _ _ _ _ X Y _ l1 l2 HRz.out HPz.out H20.out.2.2.2.2.2.1 H20.out.2.2.2.2.2.2.1).mono ?_
  rintro e w21 ⟨rfl, hb21⟩
  have H21 := hide (Stab.go hb21 (P := fun w' => Below w.heap.size w w' ∧ Reads w' (.slice p1 xs.length c1) xs ∧ ReadsP w' (.slice p2 ps.length c2) ps ∧ ReadsI w' (.slice p3 ks.length c3) ks ∧ Row w' w.heap.size 25 [.slice p1 xs.length c1, .slice p2 ps.length c2] ∧ Reads w' (.slice i1 j1 k1) X ∧ ReadsP w' (.slice i2 j2 k2) Y ∧ Row w' w4.heap.size 30 [.slice i1 j1 k1, .slice i2 j2 k2] ∧ Reads w' (.slice r1 n1 e1) (marks 1 X.length) ∧ ReadsP w' (.slice r2 n2 e2) (marksP (1 + X.length) Y.length) ∧ Row w' w7.heap.size 30 [.slice r1 n1 e1, .slice r2 n2 e2]) H20.out)
  clear hb21 H20 b0 b1
  have h0 : w21.cell? ⟨w7.heap.size, 0, none⟩ = some (.slice r1 n1 e1) := H21.out.2.2.2.2.2.2.2.2.2.2.cell 0
  have h1 : w21.cell? ⟨w7.heap.size, 1, none⟩ = some (.slice r2 n2 e2) := H21.out.2.2.2.2.2.2.2.2.2.2.cell 1
  go_wp2_with fail
  refine (heldDisk_any _ _ 1 X.length Y.length _ l1 l2 (by omega) H21.out.2.2.2.2.2.2.2.2.1 H21.out.2.2.2.2.2.2.2.2.2.1).mono ?_
  rw [← HQ.out]
  rintro e w22 ⟨rfl, hb22⟩
  have HB := hide (H21.out.1.trans (hb22.mono H21.out.1.size))
  clear hb22 H21 h0 h1
  go_wp2
  go_ret
  exact ⟨rfl, HB.out⟩
end Go.Proofs.YthmkblhllbfmcabDoor
