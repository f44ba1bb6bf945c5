/- The law of StorePut, from what the program's StorePut does. -/
import Derived.Test.YtnpbmaajgiapmaaGreatDoorXGQReadT
import Derived.Test.YtnpbmaajgiapmaaGreatDoorXGSCopy
import Derived.Test.YtnpbmaajgiapmaaGreatDoorXGIRArea
import Derived.Test.YtnpbmaajgiapmaaGreatDoorXGMark
import Derived.Deep.RegionHeld3
namespace Go.Proofs.YtnpbmaajgiapmaaGreatDoor
open Go.RowKit

set_option maxRecDepth 100000 in
set_option maxHeartbeats 8000000 in
theorem lawKPut (w : World) (d : ByteArray) (t : ByteArray) (a : Int) (hd : d.size ≤ 1048576) (ht : t.size ≤ 1048576) (HI : ∀ (vs vp : Value) (xs : List ByteArray) (ps : List (Int × ByteArray)) (w' : World), Below w.heap.size w w' → xs.length ≤ 1048576 → ps.length ≤ 1048576 → Reads w' vs xs → ReadsP w' vp ps →
      Calls Tryz.prog 23 #[.agg #[vs, vp], .string d, .string t, .int .i64 a] w' fun e w'' => KOutIs w'.heap.size e w'' (sputO xs ps d t a) ∧ Below w'.heap.size w' w'')
    (vs vp : Value) (xs : List ByteArray) (ps : List (Int × ByteArray)) (hr : Reads w vs xs) (hp : ReadsP w vp ps) (HO2 : Small xs ps → ((sputO xs ps d t a)).xs.length ≤ 1048576 ∧ ((sputO xs ps d t a)).ps.length ≤ 1048576) :
    Calls Tryz.prog 6 #[.agg #[vs, vp], .string d, .string t, .int .i64 a] w fun e w' => e = .returned (.bool true) ∧ Below w.heap.size w w' := by
  have hb0 := below_new w (.cells #[vs, vp] 25)
  have HR0 := hide (hr.below hb0 (Nat.le_refl _))
  have HP0 := hide (hp.below hb0 (Nat.le_refl _))
  have HB0 := hide hb0
  have HII := hide HI
  have HOO := hide HO2
  obtain ⟨o, ho⟩ : ∃ o, o = (sputO xs ps d t a) := ⟨_, rfl⟩
  have HEQ := hide ho
  clear ho
  have I0 := hide (And.intro hr.isIn hp.isIn)
  obtain ⟨p1, c1, rfl, hq⟩ := hr
  obtain ⟨p2, c2, rfl, hq2⟩ := hp
  have HN0 := hide (row_new w [.slice p1 xs.length c1, .slice p2 ps.length c2] 25)
  clear hb0 hq hq2 HI HO2
  go_enter Tryz.func6, Tryz.ntmps6
  go_wp2_with fail
  refine (szDisk_any _ _ xs ps _ HR0.out HP0.out).mono ?_
  rintro e w1 ⟨r, rfl, hsm, hb1⟩
  have H1 := hide (Stab.go hb1 (P := fun w' => Below w.heap.size w w' ∧ Reads w' (.slice p1 xs.length c1) xs ∧ ReadsP w' (.slice p2 ps.length c2) ps ∧ Row w' w.heap.size 25 [.slice p1 xs.length c1, .slice p2 ps.length c2]) ⟨HB0.out, HR0.out, HP0.out, HN0.out⟩)
  rcases hsm with hneg | ⟨hpos, hsm⟩
  · clear hb1
    go_wp2
    go_ret
    exact ⟨rfl, H1.out.1⟩
  have hneg : ¬ r < 0 := by omega
  have a0 : w1.cell? ⟨w.heap.size, 0, none⟩ = some (.slice p1 xs.length c1) := H1.out.2.2.2.cell 0
  have a1 : w1.cell? ⟨w.heap.size, 1, none⟩ = some (.slice p2 ps.length c2) := H1.out.2.2.2.cell 1
  have HSM := hide hsm
  clear hb1 HR0 HP0 HN0 HB0 hsm
  go_wp2_with fail
  refine (toDisk_any _ _ xs ps _ H1.out.2.1 H1.out.2.2.1 HSM.out).mono ?_
  rintro e w2 ⟨us, up, rfl, o1, o2, dd, hb2⟩
  have H2 := hide (Stab.go hb2 (P := fun w' => Below w.heap.size w w' ∧ Reads w' (.slice p1 xs.length c1) xs ∧ ReadsP w' (.slice p2 ps.length c2) ps ∧ Row w' w.heap.size 25 [.slice p1 xs.length c1, .slice p2 ps.length c2]) H1.out)
  have HRu := hide o1.reads
  have HPu := hide o2.reads
  obtain ⟨x1, x2, x3, x4⟩ := HSM.out
  have S2 := hide H2.out.1.size
  clear o1 o2 dd hb2 H1 x2 x4 a0 a1
  go_wp2_with fail
  refine (specStorePut_any _ _ xs ps d t a _ x1 x3 hd ht HRu.out HPu.out).mono ?_
  rw [← HEQ.out]
  rintro e w3 ⟨⟨ss, sp, rfl, o1, o2, dd⟩, hb3⟩
  obtain ⟨i1, j1, k1, rfl⟩ := o1.isSlice
  obtain ⟨i2, j2, k2, rfl⟩ := o2.isSlice
  have bn := below_new w3 (.cells #[.slice i1 j1 k1, .slice i2 j2 k2, .string o.t, .int .i64 o.c] 38)
  have H2a := hide (Stab.go (hb3.trans (bn.mono hb3.size)) (P := fun w' => Below w.heap.size w w' ∧ Reads w' (.slice p1 xs.length c1) xs ∧ ReadsP w' (.slice p2 ps.length c2) ps ∧ Row w' w.heap.size 25 [.slice p1 xs.length c1, .slice p2 ps.length c2]) H2.out)
  have H3 := hide (show (fun w' => Below w.heap.size w w' ∧ Reads w' (.slice p1 xs.length c1) xs ∧ ReadsP w' (.slice p2 ps.length c2) ps ∧ Row w' w.heap.size 25 [.slice p1 xs.length c1, .slice p2 ps.length c2] ∧ Reads w' (.slice i1 j1 k1) o.xs ∧ ReadsP w' (.slice i2 j2 k2) o.ps ∧ Row w' w3.heap.size 38 [.slice i1 j1 k1, .slice i2 j2 k2, .string o.t, .int .i64 o.c]) (w3.alloc (.cells #[.slice i1 j1 k1, .slice i2 j2 k2, .string o.t, .int .i64 o.c] 38)) from ⟨H2a.out.1, H2a.out.2.1, H2a.out.2.2.1, H2a.out.2.2.2, o1.reads.below bn (Nat.le_refl _), o2.reads.below bn (Nat.le_refl _), row_new w3 _ _⟩)
  have I3 := hide (And.intro o1.isIn o2.isIn)
  have S3 := hide (And.intro H2.out.1.size hb3.size)
  have a0 : (w3.alloc (.cells #[.slice i1 j1 k1, .slice i2 j2 k2, .string o.t, .int .i64 o.c] 38)).cell? ⟨w.heap.size, 0, none⟩ = some (.slice p1 xs.length c1) := H3.out.2.2.2.1.cell 0
  have a1 : (w3.alloc (.cells #[.slice i1 j1 k1, .slice i2 j2 k2, .string o.t, .int .i64 o.c] 38)).cell? ⟨w.heap.size, 1, none⟩ = some (.slice p2 ps.length c2) := H3.out.2.2.2.1.cell 1
  clear o1 o2 dd hb3 bn H2 H2a HRu HPu
  go_wp2_with fail
  refine (toDisk_any _ _ xs ps _ H3.out.2.1 H3.out.2.2.1 HSM.out).mono ?_
  rintro e w4 ⟨xs', xp', rfl, o1, o2, dd, hb4⟩
  obtain ⟨q1, m1, d1, rfl⟩ := o1.isSlice
  obtain ⟨q2, m2, d2, rfl⟩ := o2.isSlice
  obtain ⟨B4, hB4⟩ : ∃ b, b = w3.heap.size + 1 := ⟨_, rfl⟩
  simp only [World.size_alloc] at o1 o2
  rw [← hB4] at o1 o2
  have bn := below_new w4 (.cells #[.slice q1 m1 d1, .slice q2 m2 d2] 30)
  have H3a := hide (Stab.go (hb4.trans (bn.mono hb4.size)) (P := fun w' => Below w.heap.size w w' ∧ Reads w' (.slice p1 xs.length c1) xs ∧ ReadsP w' (.slice p2 ps.length c2) ps ∧ Row w' w.heap.size 25 [.slice p1 xs.length c1, .slice p2 ps.length c2] ∧ Reads w' (.slice i1 j1 k1) o.xs ∧ ReadsP w' (.slice i2 j2 k2) o.ps ∧ Row w' w3.heap.size 38 [.slice i1 j1 k1, .slice i2 j2 k2, .string o.t, .int .i64 o.c]) H3.out)
  have H4 := hide (show (fun w' => Below w.heap.size w w' ∧ Reads w' (.slice p1 xs.length c1) xs ∧ ReadsP w' (.slice p2 ps.length c2) ps ∧ Row w' w.heap.size 25 [.slice p1 xs.length c1, .slice p2 ps.length c2] ∧ Reads w' (.slice i1 j1 k1) o.xs ∧ ReadsP w' (.slice i2 j2 k2) o.ps ∧ Row w' w3.heap.size 38 [.slice i1 j1 k1, .slice i2 j2 k2, .string o.t, .int .i64 o.c] ∧ OwnS 9 B4 w' (.slice q1 m1 d1) xs ∧ OwnP 92 B4 w' (.slice q2 m2 d2) ps ∧ Row w' w4.heap.size 30 [.slice q1 m1 d1, .slice q2 m2 d2]) (w4.alloc (.cells #[.slice q1 m1 d1, .slice q2 m2 d2] 30)) from ⟨H3a.out.1, H3a.out.2.1, H3a.out.2.2.1, H3a.out.2.2.2.1, H3a.out.2.2.2.2.1, H3a.out.2.2.2.2.2.1, H3a.out.2.2.2.2.2.2, o1.below bn (Nat.le_refl _), o2.below bn (Nat.le_refl _), row_new w4 _ _⟩)
  have I4 := hide (And.intro o1.isIn o2.isIn)
  have S4 := hide (show w3.heap.size + 1 ≤ w4.heap.size by have := hb4.size; simpa using this)
  have D4 := hide dd
  clear o1 o2 dd hb4 bn H3 H3a a0 a1
  go_wp2_with fail
  refine (HII.out _ _ xs ps _ H4.out.1 x1 x3 H4.out.2.2.2.2.2.2.2.1.reads H4.out.2.2.2.2.2.2.2.2.1.reads).mono ?_
  rw [← HEQ.out]
  rintro e w5 ⟨⟨gs, gp, rfl, o1, o2, dd⟩, hb5⟩
  obtain ⟨r1, n1, e1, rfl⟩ := o1.isSlice
  obtain ⟨r2, n2, e2, rfl⟩ := o2.isSlice
  obtain ⟨B5, hB5⟩ : ∃ b, b = w4.heap.size + 1 := ⟨_, rfl⟩
  simp only [World.size_alloc] at o1 o2
  rw [← hB5] at o1 o2
  have bn := below_new w5 (.cells #[.slice r1 n1 e1, .slice r2 n2 e2, .string o.t, .int .i64 o.c] 38)
  have H4a := hide (Stab.go (hb5.trans (bn.mono hb5.size)) (P := fun w' => Below w.heap.size w w' ∧ Reads w' (.slice p1 xs.length c1) xs ∧ ReadsP w' (.slice p2 ps.length c2) ps ∧ Row w' w.heap.size 25 [.slice p1 xs.length c1, .slice p2 ps.length c2] ∧ Reads w' (.slice i1 j1 k1) o.xs ∧ ReadsP w' (.slice i2 j2 k2) o.ps ∧ Row w' w3.heap.size 38 [.slice i1 j1 k1, .slice i2 j2 k2, .string o.t, .int .i64 o.c] ∧ OwnS 9 B4 w' (.slice q1 m1 d1) xs ∧ OwnP 92 B4 w' (.slice q2 m2 d2) ps ∧ Row w' w4.heap.size 30 [.slice q1 m1 d1, .slice q2 m2 d2]) H4.out)
  have H5 := hide (show (fun w' => Below w.heap.size w w' ∧ Reads w' (.slice p1 xs.length c1) xs ∧ ReadsP w' (.slice p2 ps.length c2) ps ∧ Row w' w.heap.size 25 [.slice p1 xs.length c1, .slice p2 ps.length c2] ∧ Reads w' (.slice i1 j1 k1) o.xs ∧ ReadsP w' (.slice i2 j2 k2) o.ps ∧ Row w' w3.heap.size 38 [.slice i1 j1 k1, .slice i2 j2 k2, .string o.t, .int .i64 o.c] ∧ OwnS 9 B4 w' (.slice q1 m1 d1) xs ∧ OwnP 92 B4 w' (.slice q2 m2 d2) ps ∧ Row w' w4.heap.size 30 [.slice q1 m1 d1, .slice q2 m2 d2] ∧ OwnS 9 B5 w' (.slice r1 n1 e1) o.xs ∧ OwnP 92 B5 w' (.slice r2 n2 e2) o.ps ∧ Row w' w5.heap.size 38 [.slice r1 n1 e1, .slice r2 n2 e2, .string o.t, .int .i64 o.c]) (w5.alloc (.cells #[.slice r1 n1 e1, .slice r2 n2 e2, .string o.t, .int .i64 o.c] 38)) from ⟨H4a.out.1, H4a.out.2.1, H4a.out.2.2.1, H4a.out.2.2.2.1, H4a.out.2.2.2.2.1, H4a.out.2.2.2.2.2.1, H4a.out.2.2.2.2.2.2.1, H4a.out.2.2.2.2.2.2.2.1, H4a.out.2.2.2.2.2.2.2.2.1, H4a.out.2.2.2.2.2.2.2.2.2, o1.below bn (Nat.le_refl _), o2.below bn (Nat.le_refl _), row_new w5 _ _⟩)
  have I5 := hide (And.intro o1.isIn o2.isIn)
  have S5 := hide (show w4.heap.size + 1 ≤ w5.heap.size by have := hb5.size; simpa using this)
  have D5 := hide dd
  obtain ⟨l1, l2⟩ := HOO.out HSM.out
  rw [← HEQ.out] at l1 l2
  have b0 : (w5.alloc (.cells #[.slice r1 n1 e1, .slice r2 n2 e2, .string o.t, .int .i64 o.c] 38)).cell? ⟨w3.heap.size, 0, none⟩ = some (.slice i1 j1 k1) := H5.out.2.2.2.2.2.2.1.cell 0
  have b1 : (w5.alloc (.cells #[.slice r1 n1 e1, .slice r2 n2 e2, .string o.t, .int .i64 o.c] 38)).cell? ⟨w3.heap.size, 1, none⟩ = some (.slice i2 j2 k2) := H5.out.2.2.2.2.2.2.1.cell 1
  have b2 : (w5.alloc (.cells #[.slice r1 n1 e1, .slice r2 n2 e2, .string o.t, .int .i64 o.c] 38)).cell? ⟨w3.heap.size, 2, none⟩ = some (.string o.t) := H5.out.2.2.2.2.2.2.1.cell 2
  have b3 : (w5.alloc (.cells #[.slice r1 n1 e1, .slice r2 n2 e2, .string o.t, .int .i64 o.c] 38)).cell? ⟨w3.heap.size, 3, none⟩ = some (.int .i64 o.c) := H5.out.2.2.2.2.2.2.1.cell 3
  clear o1 o2 dd hb5 bn H4 H4a HOO
  go_wp2_with fail
  refine (eqStoreOut_same _ _ _ _ o.xs o.ps o.t o.c _ l1 l2 H5.out.2.2.2.2.2.2.2.2.2.2.1.reads H5.out.2.2.2.2.2.2.2.2.2.2.2.1.reads H5.out.2.2.2.2.1 H5.out.2.2.2.2.2.1).mono ?_
  rintro e w6 ⟨rfl, hb6⟩
  have H6 := hide (Stab.go hb6 (P := fun w' => Below w.heap.size w w' ∧ Reads w' (.slice p1 xs.length c1) xs ∧ ReadsP w' (.slice p2 ps.length c2) ps ∧ Row w' w.heap.size 25 [.slice p1 xs.length c1, .slice p2 ps.length c2] ∧ Reads w' (.slice i1 j1 k1) o.xs ∧ ReadsP w' (.slice i2 j2 k2) o.ps ∧ Row w' w3.heap.size 38 [.slice i1 j1 k1, .slice i2 j2 k2, .string o.t, .int .i64 o.c] ∧ OwnS 9 B4 w' (.slice q1 m1 d1) xs ∧ OwnP 92 B4 w' (.slice q2 m2 d2) ps ∧ Row w' w4.heap.size 30 [.slice q1 m1 d1, .slice q2 m2 d2] ∧ OwnS 9 B5 w' (.slice r1 n1 e1) o.xs ∧ OwnP 92 B5 w' (.slice r2 n2 e2) o.ps ∧ Row w' w5.heap.size 38 [.slice r1 n1 e1, .slice r2 n2 e2, .string o.t, .int .i64 o.c]) H5.out)
  clear hb6 H5 b0 b1 b2 b3
  go_wp2_with fail
  have HSS := hide (show ∀ x, Below w6.heap.size w6 x → x.cell? ⟨w.heap.size, 0, none⟩ = some (.slice p1 xs.length c1) ∧ x.cell? ⟨w.heap.size, 1, none⟩ = some (.slice p2 ps.length c2) ∧ x.cell? ⟨w4.heap.size, 0, none⟩ = some (.slice q1 m1 d1) ∧ x.cell? ⟨w4.heap.size, 1, none⟩ = some (.slice q2 m2 d2) ∧ Below w6.heap.size w6 x from
    fun x h => ⟨(Row.after h H6.out.2.2.2.1).cell 0, (Row.after h H6.out.2.2.2.1).cell 1, (Row.after h H6.out.2.2.2.2.2.2.2.2.2.1).cell 0, (Row.after h H6.out.2.2.2.2.2.2.2.2.2.1).cell 1, h⟩)
  go_region_held3 (fun x => x.cell? ⟨w.heap.size, 0, none⟩ = some (.slice p1 xs.length c1) ∧ x.cell? ⟨w.heap.size, 1, none⟩ = some (.slice p2 ps.length c2) ∧ x.cell? ⟨w4.heap.size, 0, none⟩ = some (.slice q1 m1 d1) ∧ x.cell? ⟨w4.heap.size, 1, none⟩ = some (.slice q2 m2 d2) ∧ Below w6.heap.size w6 x)
    ((go_split_ands; refine HSS.out _ ?_; repeat (first | with_reducible assumption | with_reducible exact Below.refl _ _ | with_reducible refine Below.drew ?_)))
    ((first
      | (go_at_call 10; go_split_ands; refine (toDisk_any _ _ xs ps _ (H6.out.2.1.below (by assumption) (Nat.le_refl _)) (H6.out.2.2.1.below (by assumption) (Nat.le_refl _)) HSM.out).mono ?_; rintro e w7 ⟨us3, up3, rfl, o5, o6, d5, hb7⟩; have HRy := hide o5.reads; have HPy := hide o6.reads
         have hB7 : Below w6.heap.size w6 w7 := Below.trans (by assumption) (hb7.mono (Below.size (by assumption))); clear o5 o6 d5 hb7)
      | (go_at_call 12; go_split_ands; refine (eqDisk_same _ _ _ _ xs ps _ x1 x3 (H6.out.2.2.2.2.2.2.2.1.reads.below hB7 (Nat.le_refl _)) (H6.out.2.2.2.2.2.2.2.2.1.reads.below hB7 (Nat.le_refl _)) HRy.out HPy.out).mono ?_; rintro e w8 ⟨rfl, hb8⟩
         have hB8 : Below w6.heap.size w6 w8 := hB7.trans (hb8.mono hB7.size); clear hb8)))
  have H8 := hide (Stab.go hB8 (P := fun w' => Below w.heap.size w w' ∧ Reads w' (.slice p1 xs.length c1) xs ∧ ReadsP w' (.slice p2 ps.length c2) ps ∧ Row w' w.heap.size 25 [.slice p1 xs.length c1, .slice p2 ps.length c2] ∧ Reads w' (.slice i1 j1 k1) o.xs ∧ ReadsP w' (.slice i2 j2 k2) o.ps ∧ Row w' w3.heap.size 38 [.slice i1 j1 k1, .slice i2 j2 k2, .string o.t, .int .i64 o.c] ∧ OwnS 9 B4 w' (.slice q1 m1 d1) xs ∧ OwnP 92 B4 w' (.slice q2 m2 d2) ps ∧ Row w' w4.heap.size 30 [.slice q1 m1 d1, .slice q2 m2 d2] ∧ OwnS 9 B5 w' (.slice r1 n1 e1) o.xs ∧ OwnP 92 B5 w' (.slice r2 n2 e2) o.ps ∧ Row w' w5.heap.size 38 [.slice r1 n1 e1, .slice r2 n2 e2, .string o.t, .int .i64 o.c]) H6.out)
  have y0 : w8.cell? ⟨w4.heap.size, 0, none⟩ = some (.slice q1 m1 d1) := H8.out.2.2.2.2.2.2.2.2.2.1.cell 0
  have y1 : w8.cell? ⟨w4.heap.size, 1, none⟩ = some (.slice q2 m2 d2) := H8.out.2.2.2.2.2.2.2.2.2.1.cell 1
  clear hB7 hB8 HSS H6 HRy HPy
  go_wp2_with fail
  refine (markDisk_own _ _ _ xs ps 1 _ x1 x3 (by omega) H8.out.2.2.2.2.2.2.2.1 H8.out.2.2.2.2.2.2.2.2.1 D4.out).mono ?_
  rintro e w9 ⟨rfl, o1, o2, hk⟩
  have sS := S3.out
  have s4 := S4.out
  have s5 := S5.out
  have s2 := S2.out
  have ia : In (.slice q1 m1 d1) B4 w4.heap.size := I4.out.1
  have ib : In (.slice q2 m2 d2) B4 w4.heap.size := I4.out.2
  have H9 := hide (show (fun w' => Below w.heap.size w w' ∧ Reads w' (.slice p1 xs.length c1) xs ∧ ReadsP w' (.slice p2 ps.length c2) ps ∧ Row w' w.heap.size 25 [.slice p1 xs.length c1, .slice p2 ps.length c2] ∧ Reads w' (.slice i1 j1 k1) o.xs ∧ ReadsP w' (.slice i2 j2 k2) o.ps ∧ Row w' w3.heap.size 38 [.slice i1 j1 k1, .slice i2 j2 k2, .string o.t, .int .i64 o.c] ∧ OwnS 9 B5 w' (.slice r1 n1 e1) o.xs ∧ OwnP 92 B5 w' (.slice r2 n2 e2) o.ps ∧ Row w' w5.heap.size 38 [.slice r1 n1 e1, .slice r2 n2 e2, .string o.t, .int .i64 o.c]) w9 from ⟨hk.onBelow H8.out.1 (fun x hx => by have := ia.all ib x hx; omega), hk.reads H8.out.2.1 (I0.out.1.apart ia ib (.inl (by omega))), hk.readsP H8.out.2.2.1 (I0.out.2.apart ia ib (.inl (by omega))), hk.row H8.out.2.2.2.1 (ia.far ib (.inl (by omega))),
    hk.reads H8.out.2.2.2.2.1 (I3.out.1.apart ia ib (.inl (by omega))), hk.readsP H8.out.2.2.2.2.2.1 (I3.out.2.apart ia ib (.inl (by omega))), hk.row H8.out.2.2.2.2.2.2.1 (ia.far ib (.inl (by omega))),
    H8.out.2.2.2.2.2.2.2.2.2.2.1.kept hk (I5.out.1.apart ia ib (.inr (by omega))), H8.out.2.2.2.2.2.2.2.2.2.2.2.1.kept hk (I5.out.2.apart ia ib (.inr (by omega))), hk.row H8.out.2.2.2.2.2.2.2.2.2.2.2.2 (ia.far ib (.inr (by omega)))⟩)
  have b0 : w9.cell? ⟨w3.heap.size, 0, none⟩ = some (.slice i1 j1 k1) := H9.out.2.2.2.2.2.2.1.cell 0
  have b1 : w9.cell? ⟨w3.heap.size, 1, none⟩ = some (.slice i2 j2 k2) := H9.out.2.2.2.2.2.2.1.cell 1
  have b2 : w9.cell? ⟨w3.heap.size, 2, none⟩ = some (.string o.t) := H9.out.2.2.2.2.2.2.1.cell 2
  have b3 : w9.cell? ⟨w3.heap.size, 3, none⟩ = some (.int .i64 o.c) := H9.out.2.2.2.2.2.2.1.cell 3
  have h0 : w9.cell? ⟨w5.heap.size, 0, none⟩ = some (.slice r1 n1 e1) := H9.out.2.2.2.2.2.2.2.2.2.cell 0
  have h1 : w9.cell? ⟨w5.heap.size, 1, none⟩ = some (.slice r2 n2 e2) := H9.out.2.2.2.2.2.2.2.2.2.cell 1
  have h2 : w9.cell? ⟨w5.heap.size, 2, none⟩ = some (.string o.t) := H9.out.2.2.2.2.2.2.2.2.2.cell 2
  have h3 : w9.cell? ⟨w5.heap.size, 3, none⟩ = some (.int .i64 o.c) := H9.out.2.2.2.2.2.2.2.2.2.cell 3
  have tk : ¬ (((1 + xs.length + ps.length * 2 : Nat) : Int) < 0) := by omega
  clear o1 o2 hk H8 ia ib y0 y1
  go_wp2_with fail
  refine (eqStoreOut_same _ _ _ _ o.xs o.ps o.t o.c _ l1 l2 H9.out.2.2.2.2.2.2.2.1.reads H9.out.2.2.2.2.2.2.2.2.1.reads H9.out.2.2.2.2.1 H9.out.2.2.2.2.2.1).mono ?_
  rintro e w10 ⟨rfl, hb10⟩
  have H10 := hide (Stab.go hb10 (P := fun w' => Below w.heap.size w w' ∧ Reads w' (.slice p1 xs.length c1) xs ∧ ReadsP w' (.slice p2 ps.length c2) ps ∧ Row w' w.heap.size 25 [.slice p1 xs.length c1, .slice p2 ps.length c2] ∧ Reads w' (.slice i1 j1 k1) o.xs ∧ ReadsP w' (.slice i2 j2 k2) o.ps ∧ Row w' w3.heap.size 38 [.slice i1 j1 k1, .slice i2 j2 k2, .string o.t, .int .i64 o.c] ∧ OwnS 9 B5 w' (.slice r1 n1 e1) o.xs ∧ OwnP 92 B5 w' (.slice r2 n2 e2) o.ps ∧ Row w' w5.heap.size 38 [.slice r1 n1 e1, .slice r2 n2 e2, .string o.t, .int .i64 o.c]) H9.out)
  clear hb10 H9 b0 b1 b2 b3 h0 h1 h2 h3
  have h0 : w10.cell? ⟨w5.heap.size, 0, none⟩ = some (.slice r1 n1 e1) := H10.out.2.2.2.2.2.2.2.2.2.cell 0
  have h1 : w10.cell? ⟨w5.heap.size, 1, none⟩ = some (.slice r2 n2 e2) := H10.out.2.2.2.2.2.2.2.2.2.cell 1
  have h2 : w10.cell? ⟨w5.heap.size, 2, none⟩ = some (.string o.t) := H10.out.2.2.2.2.2.2.2.2.2.cell 2
  have h3 : w10.cell? ⟨w5.heap.size, 3, none⟩ = some (.int .i64 o.c) := H10.out.2.2.2.2.2.2.2.2.2.cell 3
  go_wp2_with fail
  obtain ⟨K, hK⟩ : ∃ K : Int, K = ((1 + o.xs.length + o.ps.length * 2 : Nat) : Int) := ⟨_, rfl⟩
  have tq : ¬ K < 0 := by omega
  have HKq := hide hK
  clear hK
  refine (markStoreOut_own _ _ _ o.xs o.ps o.t o.c 1 _ l1 l2 (by omega) H10.out.2.2.2.2.2.2.2.1 H10.out.2.2.2.2.2.2.2.2.1 D5.out).mono ?_
  rw [← HKq.out]
  rintro e w11 ⟨rfl, o1, o2, hk⟩
  have ia : In (.slice r1 n1 e1) B5 w5.heap.size := I5.out.1
  have ib : In (.slice r2 n2 e2) B5 w5.heap.size := I5.out.2
  have H11 := hide (show (fun w' => Below w.heap.size w w' ∧ Reads w' (.slice p1 xs.length c1) xs ∧ ReadsP w' (.slice p2 ps.length c2) ps ∧ Row w' w.heap.size 25 [.slice p1 xs.length c1, .slice p2 ps.length c2] ∧ Reads w' (.slice i1 j1 k1) o.xs ∧ ReadsP w' (.slice i2 j2 k2) o.ps ∧ Row w' w3.heap.size 38 [.slice i1 j1 k1, .slice i2 j2 k2, .string o.t, .int .i64 o.c] ∧ Reads w' (.slice r1 n1 e1) (marks 1 o.xs.length) ∧ ReadsP w' (.slice r2 n2 e2) (marksP (1 + o.xs.length) o.ps.length) ∧ Row w' w5.heap.size 38 [.slice r1 n1 e1, .slice r2 n2 e2, .string o.t, .int .i64 o.c]) w11 from ⟨hk.onBelow H10.out.1 (fun x hx => by have := ia.all ib x hx; omega), hk.reads H10.out.2.1 (I0.out.1.apart ia ib (.inl (by omega))), hk.readsP H10.out.2.2.1 (I0.out.2.apart ia ib (.inl (by omega))), hk.row H10.out.2.2.2.1 (ia.far ib (.inl (by omega))),
    hk.reads H10.out.2.2.2.2.1 (I3.out.1.apart ia ib (.inl (by omega))), hk.readsP H10.out.2.2.2.2.2.1 (I3.out.2.apart ia ib (.inl (by omega))), hk.row H10.out.2.2.2.2.2.2.1 (ia.far ib (.inl (by omega))),
    o1.reads, o2.reads, hk.row H10.out.2.2.2.2.2.2.2.2.2 (ia.far ib (.inr (Nat.le_refl _)))⟩)
  clear o1 o2 hk H10 ia ib h0 h1 h2 h3 tk
  have h0 : w11.cell? ⟨w5.heap.size, 0, none⟩ = some (.slice r1 n1 e1) := H11.out.2.2.2.2.2.2.2.2.2.cell 0
  have h1 : w11.cell? ⟨w5.heap.size, 1, none⟩ = some (.slice r2 n2 e2) := H11.out.2.2.2.2.2.2.2.2.2.cell 1
  have h2 : w11.cell? ⟨w5.heap.size, 2, none⟩ = some (.string o.t) := H11.out.2.2.2.2.2.2.2.2.2.cell 2
  have h3 : w11.cell? ⟨w5.heap.size, 3, none⟩ = some (.int .i64 o.c) := H11.out.2.2.2.2.2.2.2.2.2.cell 3
  go_wp2_with fail
  refine (heldStoreOut_any _ _ o.t o.c 1 o.xs.length o.ps.length _ l1 l2 (by omega) H11.out.2.2.2.2.2.2.2.1 H11.out.2.2.2.2.2.2.2.2.1).mono ?_
  rw [← HKq.out]
  rintro e w12 ⟨rfl, hb12⟩
  have H12 := hide (Stab.go hb12 (P := fun w' => Below w.heap.size w w' ∧ Reads w' (.slice p1 xs.length c1) xs ∧ ReadsP w' (.slice p2 ps.length c2) ps ∧ Row w' w.heap.size 25 [.slice p1 xs.length c1, .slice p2 ps.length c2] ∧ Reads w' (.slice i1 j1 k1) o.xs ∧ ReadsP w' (.slice i2 j2 k2) o.ps ∧ Row w' w3.heap.size 38 [.slice i1 j1 k1, .slice i2 j2 k2, .string o.t, .int .i64 o.c] ∧ Reads w' (.slice r1 n1 e1) (marks 1 o.xs.length) ∧ ReadsP w' (.slice r2 n2 e2) (marksP (1 + o.xs.length) o.ps.length) ∧ Row w' w5.heap.size 38 [.slice r1 n1 e1, .slice r2 n2 e2, .string o.t, .int .i64 o.c]) H11.out)
  clear hb12 H11 h0 h1 h2 h3
  have a0 : w12.cell? ⟨w.heap.size, 0, none⟩ = some (.slice p1 xs.length c1) := H12.out.2.2.2.1.cell 0
  have a1 : w12.cell? ⟨w.heap.size, 1, none⟩ = some (.slice p2 ps.length c2) := H12.out.2.2.2.1.cell 1
  go_wp2_with fail
  refine (toDisk_any _ _ xs ps _ H12.out.2.1 H12.out.2.2.1 HSM.out).mono ?_
  rintro e w13 ⟨ys, yp, rfl, o1, o2, dd, hb13⟩
  have H13 := hide (Stab.go hb13 (P := fun w' => Below w.heap.size w w' ∧ Reads w' (.slice p1 xs.length c1) xs ∧ ReadsP w' (.slice p2 ps.length c2) ps ∧ Row w' w.heap.size 25 [.slice p1 xs.length c1, .slice p2 ps.length c2] ∧ Reads w' (.slice i1 j1 k1) o.xs ∧ ReadsP w' (.slice i2 j2 k2) o.ps ∧ Row w' w3.heap.size 38 [.slice i1 j1 k1, .slice i2 j2 k2, .string o.t, .int .i64 o.c] ∧ Reads w' (.slice r1 n1 e1) (marks 1 o.xs.length) ∧ ReadsP w' (.slice r2 n2 e2) (marksP (1 + o.xs.length) o.ps.length) ∧ Row w' w5.heap.size 38 [.slice r1 n1 e1, .slice r2 n2 e2, .string o.t, .int .i64 o.c]) H12.out)
  have HRy := hide o1.reads
  have HPy := hide o2.reads
  clear hb13 H12 o1 o2 dd a0 a1
  go_wp2_with fail
  refine (HII.out _ _ xs ps _ H13.out.1 x1 x3 HRy.out HPy.out).mono ?_
  rw [← HEQ.out]
  rintro e w14 ⟨⟨zs, zp, rfl, o1, o2, dd⟩, hb14⟩
  obtain ⟨u1, y1, v1, rfl⟩ := o1.isSlice
  obtain ⟨u2, y2, v2, rfl⟩ := o2.isSlice
  have bn := below_new w14 (.cells #[.slice u1 y1 v1, .slice u2 y2 v2, .string o.t, .int .i64 o.c] 38)
  have H14 := hide (Stab.go (hb14.trans (bn.mono hb14.size)) (P := fun w' => Below w.heap.size w w' ∧ Reads w' (.slice p1 xs.length c1) xs ∧ ReadsP w' (.slice p2 ps.length c2) ps ∧ Row w' w.heap.size 25 [.slice p1 xs.length c1, .slice p2 ps.length c2] ∧ Reads w' (.slice i1 j1 k1) o.xs ∧ ReadsP w' (.slice i2 j2 k2) o.ps ∧ Row w' w3.heap.size 38 [.slice i1 j1 k1, .slice i2 j2 k2, .string o.t, .int .i64 o.c] ∧ Reads w' (.slice r1 n1 e1) (marks 1 o.xs.length) ∧ ReadsP w' (.slice r2 n2 e2) (marksP (1 + o.xs.length) o.ps.length) ∧ Row w' w5.heap.size 38 [.slice r1 n1 e1, .slice r2 n2 e2, .string o.t, .int .i64 o.c]) H13.out)
  have HRz := hide (o1.reads.below bn (Nat.le_refl _))
  have HPz := hide (o2.reads.below bn (Nat.le_refl _))
  have b0 : (w14.alloc (.cells #[.slice u1 y1 v1, .slice u2 y2 v2, .string o.t, .int .i64 o.c] 38)).cell? ⟨w3.heap.size, 0, none⟩ = some (.slice i1 j1 k1) := H14.out.2.2.2.2.2.2.1.cell 0
  have b1 : (w14.alloc (.cells #[.slice u1 y1 v1, .slice u2 y2 v2, .string o.t, .int .i64 o.c] 38)).cell? ⟨w3.heap.size, 1, none⟩ = some (.slice i2 j2 k2) := H14.out.2.2.2.2.2.2.1.cell 1
  have b2 : (w14.alloc (.cells #[.slice u1 y1 v1, .slice u2 y2 v2, .string o.t, .int .i64 o.c] 38)).cell? ⟨w3.heap.size, 2, none⟩ = some (.string o.t) := H14.out.2.2.2.2.2.2.1.cell 2
  have b3 : (w14.alloc (.cells #[.slice u1 y1 v1, .slice u2 y2 v2, .string o.t, .int .i64 o.c] 38)).cell? ⟨w3.heap.size, 3, none⟩ = some (.int .i64 o.c) := H14.out.2.2.2.2.2.2.1.cell 3
  clear hb14 bn H13 o1 o2 dd HRy HPy
  go_wp2_with fail
  refine (eqStoreOut_same _ _ _ _ o.xs o.ps o.t o.c _ l1 l2 HRz.out HPz.out H14.out.2.2.2.2.1 H14.out.2.2.2.2.2.1).mono ?_
  rintro e w15 ⟨rfl, hb15⟩
  have H15 := hide (Stab.go hb15 (P := fun w' => Below w.heap.size w w' ∧ Reads w' (.slice p1 xs.length c1) xs ∧ ReadsP w' (.slice p2 ps.length c2) ps ∧ Row w' w.heap.size 25 [.slice p1 xs.length c1, .slice p2 ps.length c2] ∧ Reads w' (.slice i1 j1 k1) o.xs ∧ ReadsP w' (.slice i2 j2 k2) o.ps ∧ Row w' w3.heap.size 38 [.slice i1 j1 k1, .slice i2 j2 k2, .string o.t, .int .i64 o.c] ∧ Reads w' (.slice r1 n1 e1) (marks 1 o.xs.length) ∧ ReadsP w' (.slice r2 n2 e2) (marksP (1 + o.xs.length) o.ps.length) ∧ Row w' w5.heap.size 38 [.slice r1 n1 e1, .slice r2 n2 e2, .string o.t, .int .i64 o.c]) H14.out)
  clear hb15 H14 b0 b1 b2 b3
  have h0 : w15.cell? ⟨w5.heap.size, 0, none⟩ = some (.slice r1 n1 e1) := H15.out.2.2.2.2.2.2.2.2.2.cell 0
  have h1 : w15.cell? ⟨w5.heap.size, 1, none⟩ = some (.slice r2 n2 e2) := H15.out.2.2.2.2.2.2.2.2.2.cell 1
  have h2 : w15.cell? ⟨w5.heap.size, 2, none⟩ = some (.string o.t) := H15.out.2.2.2.2.2.2.2.2.2.cell 2
  have h3 : w15.cell? ⟨w5.heap.size, 3, none⟩ = some (.int .i64 o.c) := H15.out.2.2.2.2.2.2.2.2.2.cell 3
  go_wp2_with fail
  refine (heldStoreOut_any _ _ o.t o.c 1 o.xs.length o.ps.length _ l1 l2 (by omega) H15.out.2.2.2.2.2.2.2.1 H15.out.2.2.2.2.2.2.2.2.1).mono ?_
  rw [← HKq.out]
  rintro e w16 ⟨rfl, hb16⟩
  have HB := hide (H15.out.1.trans (hb16.mono H15.out.1.size))
  clear hb16 H15 h0 h1 h2 h3
  go_wp2
  go_ret
  exact ⟨rfl, HB.out⟩
end Go.Proofs.YtnpbmaajgiapmaaGreatDoor
/- StorePut of the program. -/
namespace Go.Proofs.YtnpbmaajgiapmaaGreatDoor
open Go.RowKit
/-- A map's own count of entries is that of what it keeps. -/
theorem map_small {w : World} {b n : Nat} {L : List Item} (h : MapIs w b n L) : ∃ m, MapIs w b m L ∧ m = L.length := by
  have h0 := h
  obtain ⟨es, clock, hh, F, _, hD⟩ := h
  have hs : es.size = L.length := by
    have e1 : Go.Maps.size (datL L) = es.size := by rw [hD]; simp [Go.Maps.size, length_sorted]
    rw [← e1, datL_size]
  exact ⟨L.length, ⟨es, clock, hh, F, Nat.le_of_eq hs, hD⟩, rfl⟩
set_option maxHeartbeats 8000000 in
set_option maxRecDepth 100000 in
theorem keepText_any (b n : Nat) (L : List Item) (d t : ByteArray) (w : World) (hm : MapIs w b n L) (hr : Rises L) (ho : ∀ x ∈ L, OkI x) (hl : L.length ≤ 12) (hid : idB d = true) (hn : n ≤ 1000000) (ht : t.size ≤ 8000) :
    Calls Tryz.prog 55 #[.map (some b), .string d, .string t] w fun e w' => (∃ err, e = .returned err ∧ (badM (putL L d t) → err = .iface 125 (.agg #[.int .i64 9])) ∧ (¬ badM (putL L d t) → err = .nilIface) ∧ MapIs w' b (n + 1) (putL L d t)) ∧ Below b w w' := by
  have hdm : d.size ≤ maxLen := by
    have : d.size ≤ 20 := OkI.id (x := (d, ⟨#[]⟩)) ⟨hid, Nat.zero_le _⟩
    unfold maxLen; omega
  obtain ⟨M, hM⟩ : ∃ M, M = putL L d t := ⟨_, rfl⟩
  have HRM := hide (show Rises M by rw [hM]; exact putL_rises hr d t)
  have HOKM := hide (show ∀ x ∈ M, OkI x by rw [hM]; exact putL_ok ho hid ht)
  have HLM := hide (show M.length ≤ 20 by rw [hM]; have := putL_len (L := L) d t; omega)
  have HPL := hide (show (datL L).put (keyD d) (valD t) = datL M by rw [hM]; exact datL_put L d t)
  rw [← hM]
  have HMM := hide hm
  have HKY := hide (keyOf_mk d hdm)
  have HLB := hide (Nat.le_of_lt hm.lt)
  clear hm hr ho hid hM
  by_cases h12 : 12 < M.length
  · have h12i : (12 : Int) < (M.length : Int) := by omega
    have HBD := hide (show badM M from .inl h12)
    clear h12
    go_enter Tryz.func55, Tryz.ntmps55
    go_wp2_with (at_mapUpdate; refine wpList_mapUpdate_own _ rfl _ _ _ 54 rfl 9 79 keyed Tryz.underlying54 keptR b n (datL L) rfl HMM.out (by unfold maxLen; omega) _ _ (keyD d) rfl rfl HKY.out (valD t) [] (keptR_mk t) ?_)
    intro X hown hgrow
    rw [HPL.out] at hown
    have HMX := hide (show MapIs X b (n + 1) M from hown)
    have HBX := hide ((Below.refl b w).grown hgrow HLB.out (fun g hg => by cases hg; exact Nat.le_refl _))
    have hlen : ∀ ty, (Builtin.len_ #[54] ty #[.map (some b)]).run Tryz.prog X = .ok (.int .i64 (M.length : Int)) X := fun ty => by
      have := World.ownsMap.len hown Tryz.underlying54 ty
      rw [datL_size] at this
      exact this
    clear hown hgrow
    go_wp2_with fail
    refine (storeRefusal_true 9 _).mono ?_
    rintro e X2 ⟨rfl, h2⟩
    obtain rfl := h2.symm
    clear hlen
    go_wp2
    go_ret
    exact ⟨⟨_, rfl, fun _ => rfl, fun h => absurd HBD.out h, HMX.out⟩, HBX.out⟩
  have h12i : ¬ (12 : Int) < (M.length : Int) := by omega
  obtain ⟨T, hT⟩ : ∃ T, T = storeB M := ⟨_, rfl⟩
  have HTS := hide (show T.size ≤ 170000 by rw [hT]; exact storeB_size HOKM.out HLM.out)
  have HST := hide (show ∀ y : World, MapIs y b (n + 1) M → Calls Tryz.prog 83 #[.map (some b)] y fun e w'' => e = .returned (.string T) ∧ Below y.heap.size y w'' from fun y hy => by
    rw [hT]; exact storeText_own b (n + 1) M y hy HRM.out HOKM.out HLM.out)
  by_cases h8 : 8000 < T.size
  · have h8i : (8000 : Int) < (T.size : Int) := by omega
    have HBD := hide (show badM M from .inr (by rw [← hT]; exact h8))
    clear h12 h8 hT
    go_enter Tryz.func55, Tryz.ntmps55
    go_wp2_with (at_mapUpdate; refine wpList_mapUpdate_own _ rfl _ _ _ 54 rfl 9 79 keyed Tryz.underlying54 keptR b n (datL L) rfl HMM.out (by unfold maxLen; omega) _ _ (keyD d) rfl rfl HKY.out (valD t) [] (keptR_mk t) ?_)
    intro X hown hgrow
    rw [HPL.out] at hown
    have HMX := hide (show MapIs X b (n + 1) M from hown)
    have HBX := hide ((Below.refl b w).grown hgrow HLB.out (fun g hg => by cases hg; exact Nat.le_refl _))
    have hlen : ∀ ty, (Builtin.len_ #[54] ty #[.map (some b)]).run Tryz.prog X = .ok (.int .i64 (M.length : Int)) X := fun ty => by
      have := World.ownsMap.len hown Tryz.underlying54 ty
      rw [datL_size] at this
      exact this
    clear hown hgrow
    go_wp2_with fail
    refine (HST.out _ HMX.out).mono ?_
    rintro e X1 ⟨rfl, hb1⟩
    have HMX1 := hide (HMX.out.below hb1 HMX.out.lt)
    have HBX1 := hide (HBX.out.trans (hb1.mono (Nat.le_of_lt HMX.out.lt)))
    clear hb1 hlen
    have hts := HTS.out
    go_wp2_with fail
    refine (storeRefusal_true 9 _).mono ?_
    rintro e X2 ⟨rfl, h2⟩
    obtain rfl := h2.symm
    go_wp2
    go_ret
    exact ⟨⟨_, rfl, fun _ => rfl, fun h => absurd HBD.out h, HMX1.out⟩, HBX1.out⟩
  · have h8i : ¬ (8000 : Int) < (T.size : Int) := by omega
    have HBD := hide (show ¬ badM M from fun hb => hb.elim (fun h => h12 h) (fun h => h8 (by rw [hT]; exact h)))
    clear h12 h8 hT
    go_enter Tryz.func55, Tryz.ntmps55
    go_wp2_with (at_mapUpdate; refine wpList_mapUpdate_own _ rfl _ _ _ 54 rfl 9 79 keyed Tryz.underlying54 keptR b n (datL L) rfl HMM.out (by unfold maxLen; omega) _ _ (keyD d) rfl rfl HKY.out (valD t) [] (keptR_mk t) ?_)
    intro X hown hgrow
    rw [HPL.out] at hown
    have HMX := hide (show MapIs X b (n + 1) M from hown)
    have HBX := hide ((Below.refl b w).grown hgrow HLB.out (fun g hg => by cases hg; exact Nat.le_refl _))
    have hlen : ∀ ty, (Builtin.len_ #[54] ty #[.map (some b)]).run Tryz.prog X = .ok (.int .i64 (M.length : Int)) X := fun ty => by
      have := World.ownsMap.len hown Tryz.underlying54 ty
      rw [datL_size] at this
      exact this
    clear hown hgrow
    go_wp2_with fail
    refine (HST.out _ HMX.out).mono ?_
    rintro e X1 ⟨rfl, hb1⟩
    have HMX1 := hide (HMX.out.below hb1 HMX.out.lt)
    have HBX1 := hide (HBX.out.trans (hb1.mono (Nat.le_of_lt HMX.out.lt)))
    clear hb1 hlen
    have hts := HTS.out
    go_wp2_with fail
    rw [show decide ((12 : Int) < (M.length : Int)) = false from decide_eq_false (by omega), show decide ((8000 : Int) < (T.size : Int)) = false from decide_eq_false (by omega)]
    refine (storeRefusal_false 9 _).mono ?_
    rintro e X2 ⟨rfl, h2⟩
    obtain rfl := h2.symm
    go_wp2
    go_ret
    exact ⟨⟨_, rfl, fun h => absurd h HBD.out, fun _ => rfl, HMX1.out⟩, HBX1.out⟩
set_option maxHeartbeats 8000000 in
set_option maxRecDepth 100000 in
theorem implStorePut_any (vs vp : Value) (xs : List ByteArray) (ps : List (Int × ByteArray)) (d t : ByteArray) (a : Int) (aF aR aU : Addr) (w : World) (hn : xs.length ≤ 1048576) (hn2 : ps.length ≤ 1048576) (hd : d.size ≤ 1048576) (ht : t.size ≤ 1048576) (hr : Reads w vs xs) (hp : ReadsP w vp ps) (hS : Sents aF aR aU w) (hG : St3.Laid w) :
    Calls Tryz.prog 23 #[.agg #[vs, vp], .string d, .string t, .int .i64 a] w fun e w' => KOutIs w.heap.size e w' (sputO xs ps d t a) ∧ Below w.heap.size w w' := by
  have HR := hide hr
  have HP := hide hp
  have HS0 := hide hS
  have HG := hide hG
  clear hS hG
  obtain ⟨p1, c1, rfl, _⟩ := hr
  obtain ⟨p2, c2, rfl, _⟩ := hp
  obtain ⟨W, hW⟩ : ∃ W, W = (w.alloc (.cells #[.slice p1 xs.length c1, .slice p2 ps.length c2] 30)).alloc (.cells #[.slice none 0 0, .slice none 0 0, .string ⟨#[]⟩, .int .i64 0] 38) := ⟨_, rfl⟩
  have HB0 := hide (show Below w.heap.size w W by rw [hW]; exact ((Below.refl _ _).alloc (Nat.le_refl _) _).alloc (by simp) _)
  have HWS := hide (show w.heap.size + 2 = W.heap.size by rw [hW]; simp)
  have HRD := hide (show Row W w.heap.size 30 [.slice p1 xs.length c1, .slice p2 ps.length c2] by rw [hW]; exact (row_new w _ _).alloc _)
  have HRO := hide (show Row W (w.heap.size + 1) 38 [.slice none 0 0, .slice none 0 0, .string ⟨#[]⟩, .int .i64 0] by
    rw [hW]
    have := row_new (w.alloc (.cells #[.slice p1 xs.length c1, .slice p2 ps.length c2] 30)) [.slice none 0 0, .slice none 0 0, .string ⟨#[]⟩, .int .i64 0] 38
    simpa using this)
  have HR1 := hide (HR.out.below HB0.out (Nat.le_refl _))
  have HP1 := hide (HP.out.below HB0.out (Nat.le_refl _))
  obtain ⟨o, ho⟩ : ∃ o, o = sputO xs ps d t a := ⟨_, rfl⟩
  have HOE := hide ho
  rw [← ho]
  clear ho
  by_cases h8 : 8000 < t.size
  · have HE := hide (show o = kill 2 by rw [HOE.out, sputO, if_pos h8])
    have h8i : (8000 : Int) < (t.size : Int) := by omega
    clear hW
    go_enter Tryz.func23, Tryz.ntmps23
    go_wp2
    exact bodyPost_ret (v := .agg #[.slice none 0 0, .slice none 0 0, .string ⟨#[]⟩, .int .i64 2]) (by simp [results, Tryz.results23, go_sem]) rfl ⟨by rw [HE.out]; exact KOutIs.ill _ _ _, ((Below.refl _ _).alloc (Nat.le_refl _) _).alloc (by simp) _⟩
  have h8i : ¬ (8000 : Int) < (t.size : Int) := by omega
  obtain ⟨C, hC⟩ : ∃ C, C = forC xs ps d := ⟨_, rfl⟩
  have HCE := hide hC
  obtain ⟨L, hL⟩ : ∃ L, L = itemsO xs ps := ⟨_, rfl⟩
  have HLE := hide hL
  have HOE := hide (show o = if C ≠ 0 then kill C else if badM (putL L d t) then kill 9 else kput xs ps (storeB (putL L d t)) a by rw [HOE.out, sputO, if_neg h8, hC, hL])
  clear hC hL
  go_enter Tryz.func23, Tryz.ntmps23
  go_wp2_with fail
  rw [← hW]
  clear hW
  refine (storeFor_any _ _ xs ps d aF aR aU _ hn hn2 hd HR1.out HP1.out (Stab.go HB0.out HS0.out) (Stab.go HB0.out HG.out)).mono ?_
  rw [← HCE.out, ← HLE.out]
  rintro e X ⟨⟨v, err, rfl, hE1, hE2⟩, hb1⟩
  have HX0 := hide hb1
  have HBX := hide (HB0.out.trans (hb1.mono HB0.out.size))
  have HROX := hide (HRO.out.below hb1 HRO.out.lt)
  have H1 := hide hE1
  have H2 := hide hE2
  clear hb1 hE1 hE2
  by_cases hc : C = 0
  rotate_left
  · have HE := hide (show o = kill C by rw [HOE.out, if_pos hc])
    obtain rfl := H1.out hc
    clear hc H1 H2
    go_wp2_with fail
    refine (storeRefused_any C _ (Stab.go HBX.out HG.out)).mono ?_
    rintro e w2 ⟨rfl, hb2⟩
    have HB2 := hide (HBX.out.trans (hb2.mono HBX.out.size))
    have HRO2 := hide (HROX.out.below hb2 HROX.out.lt)
    clear hb2
    have g0 : w2.cell? ⟨w.heap.size + 1, 0, none⟩ = some (.slice none 0 0) := HRO2.out.cell 0
    have h0 := HRO2.out.free 0
    have g1 : w2.cell? ⟨w.heap.size + 1, 1, none⟩ = some (.slice none 0 0) := HRO2.out.cell 1
    have h1 := HRO2.out.free 1
    have g2 : w2.cell? ⟨w.heap.size + 1, 2, none⟩ = some (.string ⟨#[]⟩) := HRO2.out.cell 2
    have h2 := HRO2.out.free 2
    have g3 : w2.cell? ⟨w.heap.size + 1, 3, none⟩ = some (.int .i64 0) := HRO2.out.cell 3
    have h3 := HRO2.out.free 3
    go_wp2
    obtain ⟨r0, r1, r2, r3, KG⟩ := four HRO2.out (.slice none 0 0) (.slice none 0 0) (.string ⟨#[]⟩) (.int .i64 C)
    exact bodyPost_ret (v := .agg #[.slice none 0 0, .slice none 0 0, .string ⟨#[]⟩, .int .i64 C]) (by simp [results, Tryz.results23, go_sem, r0, r1, r2, r3]) rfl ⟨by rw [HE.out]; exact KOutIs.ill _ _ _, KG.toBelow HB2.out HB2.out.size (by simp)⟩
  subst hc
  obtain ⟨rfl, b, n0, rfl, hbb, hm0⟩ := H2.out rfl
  obtain ⟨n, hm, hn1⟩ := map_small hm0
  obtain ⟨_, hk0, hid⟩ := forC_ok HCE.out.symm
  obtain ⟨hRS, hOK, hlen⟩ := keptO_items hk0
  rw [← HLE.out] at hRS hOK hlen
  have HOE := hide (show o = if badM (putL L d t) then kill 9 else kput xs ps (storeB (putL L d t)) a by rw [HOE.out, if_neg (by simp)])
  have HMB := hide hbb
  have HKC := hide (keepText_any b n L d t X hm hRS hOK hlen hid (by omega) (by omega))
  obtain ⟨M, hM⟩ : ∃ M, M = putL L d t := ⟨_, rfl⟩
  have HRM := hide (show Rises M by rw [hM]; exact putL_rises hRS d t)
  have HOKM := hide (show ∀ x ∈ M, OkI x by rw [hM]; exact putL_ok hOK hid (by omega))
  have HLM := hide (show M.length ≤ 20 by rw [hM]; have := putL_len (L := L) d t; omega)
  rw [← hM] at HKC HOE
  clear hk0 hRS hOK hlen hid hM hbb hm hm0 H1 H2 hn1
  go_wp2_with fail
  refine HKC.out.mono ?_
  rintro e Y ⟨⟨err, rfl, hk1, hk2, hmY⟩, hbY⟩
  have HY0 := hide (HX0.out.trans (hbY.mono HMB.out))
  have HMY := hide hmY
  have hszY : X.heap.size ≤ Y.heap.size := hbY.size
  clear hbY hmY
  have HBY := hide (HB0.out.trans (HY0.out.mono HB0.out.size))
  have HROY := hide (HRO.out.below HY0.out HRO.out.lt)
  have HRDY := hide (HRD.out.below HY0.out HRD.out.lt)
  by_cases hbad : badM M
  · have HE := hide (show o = kill 9 by rw [HOE.out, if_pos hbad])
    obtain rfl := hk1 hbad
    clear hbad hk1 hk2
    go_wp2_with fail
    refine (storeRefused_any 9 _ (Stab.go HBY.out HG.out)).mono ?_
    rintro e w2 ⟨rfl, hb2⟩
    have HB2 := hide (HBY.out.trans (hb2.mono HBY.out.size))
    have HRO2 := hide (HROY.out.below hb2 HROY.out.lt)
    clear hb2
    have g0 : w2.cell? ⟨w.heap.size + 1, 0, none⟩ = some (.slice none 0 0) := HRO2.out.cell 0
    have h0 := HRO2.out.free 0
    have g1 : w2.cell? ⟨w.heap.size + 1, 1, none⟩ = some (.slice none 0 0) := HRO2.out.cell 1
    have h1 := HRO2.out.free 1
    have g2 : w2.cell? ⟨w.heap.size + 1, 2, none⟩ = some (.string ⟨#[]⟩) := HRO2.out.cell 2
    have h2 := HRO2.out.free 2
    have g3 : w2.cell? ⟨w.heap.size + 1, 3, none⟩ = some (.int .i64 0) := HRO2.out.cell 3
    have h3 := HRO2.out.free 3
    go_wp2
    obtain ⟨r0, r1, r2, r3, KG⟩ := four HRO2.out (.slice none 0 0) (.slice none 0 0) (.string ⟨#[]⟩) (.int .i64 9)
    exact bodyPost_ret (v := .agg #[.slice none 0 0, .slice none 0 0, .string ⟨#[]⟩, .int .i64 9]) (by simp [results, Tryz.results23, go_sem, r0, r1, r2, r3]) rfl ⟨by rw [HE.out]; exact KOutIs.ill _ _ _, KG.toBelow HB2.out HB2.out.size (by simp)⟩
  have HE := hide (show o = kput xs ps (storeB M) a by rw [HOE.out, if_neg hbad])
  have HTS := hide (show (storeB M).size ≤ 1048576 from by have := storeB_size HOKM.out HLM.out; omega)
  obtain rfl := hk2 hbad
  clear hbad hk1 hk2
  have a0 : Y.cell? ⟨w.heap.size, 0, none⟩ = some (.slice p1 xs.length c1) := HRDY.out.cell 0
  have a1 : Y.cell? ⟨w.heap.size, 1, none⟩ = some (.slice p2 ps.length c2) := HRDY.out.cell 1
  go_wp2_with fail
  refine (putStore_any (storeB M) (.map (some b)) _ _ xs ps a aF aR aU _ hn hn2 HTS.out (HR.out.below HBY.out (Nat.le_refl _)) (HP.out.below HBY.out (Nat.le_refl _)) (Stab.go HBY.out HS0.out) (Stab.go HBY.out HG.out)
    (fun w' hb' => storeText_own b (n + 1) M w' (HMY.out.below hb' HMY.out.lt) HRM.out HOKM.out HLM.out)).mono ?_
  rw [← HE.out]
  rintro e Z ⟨⟨us, up, rfl, o1, o2, dd⟩, hb2⟩
  obtain ⟨s1, s2, s3, rfl⟩ := o1.isSlice
  obtain ⟨s4, s5, s6, rfl⟩ := o2.isSlice
  have hge : w.heap.size + 2 ≤ Y.heap.size := by have := HWS.out; have := HY0.out.size; omega
  have O1 := hide (o1.mono hge)
  have O2 := hide (o2.mono hge)
  have DD := hide dd
  have HZW := hide (HY0.out.trans (hb2.mono HY0.out.size))
  have HRZ := hide (HRO.out.below HZW.out HRO.out.lt)
  clear o1 o2 dd hge hb2 a0 a1
  have g0 : Z.cell? ⟨w.heap.size + 1, 0, none⟩ = some (.slice none 0 0) := HRZ.out.cell 0
  have h0 := HRZ.out.free 0
  have g1 : Z.cell? ⟨w.heap.size + 1, 1, none⟩ = some (.slice none 0 0) := HRZ.out.cell 1
  have h1 := HRZ.out.free 1
  have g2 : Z.cell? ⟨w.heap.size + 1, 2, none⟩ = some (.string ⟨#[]⟩) := HRZ.out.cell 2
  have h2 := HRZ.out.free 2
  have g3 : Z.cell? ⟨w.heap.size + 1, 3, none⟩ = some (.int .i64 0) := HRZ.out.cell 3
  have h3 := HRZ.out.free 3
  go_wp2
  obtain ⟨r0, r1, r2, r3, KG⟩ := four HRZ.out (.slice s1 s2 s3) (.slice s4 s5 s6) (.string o.t) (.int .i64 o.c)
  exact bodyPost_ret (v := .agg #[.slice s1 s2 s3, .slice s4 s5 s6, .string o.t, .int .i64 o.c]) (by simp [results, Tryz.results23, go_sem, r0, r1, r2, r3]) rfl (kendK HB0.out HZW.out HWS.out KG O1.out O2.out DD.out)
end Go.Proofs.YtnpbmaajgiapmaaGreatDoor
/- The law of StorePut. -/
namespace Go.Proofs.YtnpbmaajgiapmaaGreatDoor
open Go.RowKit
set_option maxHeartbeats 2000000 in
theorem storePutLaw_long (w : World) (a : Int) (d t : ByteArray) (hd : 1048576 < d.size) (hm : d.size ≤ maxLen) (vs vp : Value) :
    Calls Tryz.prog 6 #[.agg #[vs, vp], .string d, .string t, .int .i64 a] w fun e w' => e = .returned (.bool true) ∧ Below w.heap.size w w' := by
  have HB0 := hide (below_new w (.cells #[vs, vp] 25))
  unfold maxLen at hm
  have t : (1048576 : Int) < (d.size : Int) := by omega
  go_enter Tryz.func6, Tryz.ntmps6
  go_wp2
  go_ret
  exact ⟨rfl, HB0.out⟩
set_option maxHeartbeats 2000000 in
theorem storePutLaw_long2 (w : World) (a : Int) (d t : ByteArray) (hd : d.size ≤ 1048576) (ht : 1048576 < t.size) (hm : t.size ≤ maxLen) (vs vp : Value) :
    Calls Tryz.prog 6 #[.agg #[vs, vp], .string d, .string t, .int .i64 a] w fun e w' => e = .returned (.bool true) ∧ Below w.heap.size w w' := by
  have HB0 := hide (below_new w (.cells #[vs, vp] 25))
  unfold maxLen at hm
  have t1 : ¬ (1048576 : Int) < (d.size : Int) := by omega
  have t2 : (1048576 : Int) < (t.size : Int) := by omega
  go_enter Tryz.func6, Tryz.ntmps6
  go_wp2
  go_ret
  exact ⟨rfl, HB0.out⟩
theorem storePutLaw (aF aR aU : Addr) (w : World) (hS : Sents aF aR aU w) (hG : St3.Laid w) (d : ByteArray) (hm : d.size ≤ maxLen) (t : ByteArray) (hm2 : t.size ≤ maxLen) (a : Int) (vs vp : Value) (xs : List ByteArray) (ps : List (Int × ByteArray)) (hr : Reads w vs xs) (hp : ReadsP w vp ps) :
    Calls Tryz.prog 6 #[.agg #[vs, vp], .string d, .string t, .int .i64 a] w fun e w' => e = .returned (.bool true) ∧ Below w.heap.size w w' := by
  by_cases hd : 1048576 < d.size
  · exact storePutLaw_long w a d t hd hm vs vp
  by_cases ht : 1048576 < t.size
  · exact storePutLaw_long2 w a d t (by omega) ht hm2 vs vp
  · exact lawKPut w d t a (by omega) (by omega) (fun vs vp xs ps w' hb h1 h2 h3 h4 => implStorePut_any vs vp xs ps d t a aF aR aU w' h1 h2 (by omega) (by omega) h3 h4 (Stab.go hb hS) (Stab.go hb hG)) vs vp xs ps hr hp (fun _ => sputO_len xs ps d t a)
end Go.Proofs.YtnpbmaajgiapmaaGreatDoor
