/- The law of DiskNew. -/
import Derived.Test.YthmkblhllbfmcaaINew
import Derived.Test.YthmkblhllbfmcaaStab
namespace Go.Proofs.Ythmkblhllbfmcaa
open Go.RowKit

theorem newDisk_len (n : Int) : (newDisk n).length ≤ 64 := by
  unfold newDisk
  split
  · rw [List.length_replicate]; omega
  · simp
set_option maxRecDepth 100000 in
set_option maxHeartbeats 4000000 in
theorem lawNew (n : Int) (w : World) :
    Calls Try.prog 3 #[.int .i64 n] w fun e w' => e = .returned (.bool true) ∧ Below w.heap.size w w' := by
  have hl := newDisk_len n
  obtain ⟨xs, hxs⟩ : ∃ xs, newDisk n = xs := ⟨_, rfl⟩
  have HX := hide hxs
  rw [hxs] at hl
  clear hxs
  go_enter Try.func3, Try.ntmps3
  go_wp2_with fail
  refine (specNew_any n _).mono ?_
  rw [HX.out]
  rintro e w1 ⟨⟨us, up, rfl, o1, o2, dd⟩, hb1⟩
  obtain ⟨p1, n1, c1, rfl⟩ := o1.isSlice
  obtain ⟨p2, n2, c2, rfl⟩ := o2.isSlice
  have H2 := hide (Stab.go (P := fun w' => Below w.heap.size w w' ∧ Reads w' (.slice p1 n1 c1) xs ∧ ReadsP w' (.slice p2 n2 c2) []) (below_new w1 (.cells #[.slice p1 n1 c1, .slice p2 n2 c2] 25)) ⟨hb1, o1.reads, o2.reads⟩)
  have HN2 := hide (row_new w1 [.slice p1 n1 c1, .slice p2 n2 c2] 25)
  have I1 := hide (And.intro o1.isIn o2.isIn)
  have S1 := hide hb1.size
  clear o1 o2 dd hb1
  go_wp2_with fail
  refine (implNew_any n _).mono ?_
  rw [HX.out]
  rintro e w3 ⟨⟨vs, vp, rfl, o1, o2, dd⟩, hb3⟩
  obtain ⟨q1, m1, d1, rfl⟩ := o1.isSlice
  obtain ⟨q2, m2, d2, rfl⟩ := o2.isSlice
  have bn := below_new w3 (.cells #[.slice q1 m1 d1, .slice q2 m2 d2] 25)
  have H4 := hide (Stab.go (hb3.trans (bn.mono hb3.size)) (P := fun w' => (Below w.heap.size w w' ∧ Reads w' (.slice p1 n1 c1) xs ∧ ReadsP w' (.slice p2 n2 c2) []) ∧ Row w' w1.heap.size 25 [.slice p1 n1 c1, .slice p2 n2 c2]) ⟨H2.out, HN2.out⟩)
  obtain ⟨B3, hB3⟩ : ∃ b, b = w1.heap.size + 1 := ⟨_, rfl⟩
  simp only [World.size_alloc] at o1 o2
  rw [← hB3] at o1 o2
  have HO4 := hide (Stab.go bn (P := fun w' => OwnS 9 B3 w' (.slice q1 m1 d1) xs ∧ OwnP 37 B3 w' (.slice q2 m2 d2) []) ⟨o1, o2⟩)
  have HG4 := hide (row_new w3 [.slice q1 m1 d1, .slice q2 m2 d2] 25)
  have I3 := hide (And.intro o1.isIn o2.isIn)
  have S3 := hide (show w1.heap.size + 1 ≤ w3.heap.size by have := hb3.size; simpa using this)
  have HD := hide dd
  have a0 : (w3.alloc (.cells #[.slice q1 m1 d1, .slice q2 m2 d2] 25)).cell? ⟨w1.heap.size, 0, none⟩ = some (.slice p1 n1 c1) := H4.out.2.cell 0
  have a1 : (w3.alloc (.cells #[.slice q1 m1 d1, .slice q2 m2 d2] 25)).cell? ⟨w1.heap.size, 1, none⟩ = some (.slice p2 n2 c2) := H4.out.2.cell 1
  clear o1 o2 dd bn hb3 H2 HN2
  go_wp2_with fail
  refine (eqDisk_same _ _ _ _ xs [] _ (by omega) (by simp) HO4.out.1.reads HO4.out.2.reads H4.out.1.2.1 H4.out.1.2.2).mono ?_
  rintro e w5 ⟨rfl, hb5⟩
  have H5 := hide (Stab.go hb5 (P := fun w' => ((Below w.heap.size w w' ∧ Reads w' (.slice p1 n1 c1) xs ∧ ReadsP w' (.slice p2 n2 c2) []) ∧ Row w' w1.heap.size 25 [.slice p1 n1 c1, .slice p2 n2 c2]) ∧ (OwnS 9 B3 w' (.slice q1 m1 d1) xs ∧ OwnP 37 B3 w' (.slice q2 m2 d2) []) ∧ Row w' w3.heap.size 25 [.slice q1 m1 d1, .slice q2 m2 d2]) ⟨H4.out, HO4.out, HG4.out⟩)
  have g0 : w5.cell? ⟨w3.heap.size, 0, none⟩ = some (.slice q1 m1 d1) := H5.out.2.2.cell 0
  have g1 : w5.cell? ⟨w3.heap.size, 1, none⟩ = some (.slice q2 m2 d2) := H5.out.2.2.cell 1
  clear hb5 H4 HO4 HG4 a0 a1
  go_wp2_with fail
  refine (markDisk_own _ _ _ xs [] 1 _ (by omega) (by simp) (by omega) H5.out.2.1.1 H5.out.2.1.2 HD.out).mono ?_
  rintro e w6 ⟨rfl, o1, o2, hk6⟩
  have i1 : In (.slice q1 m1 d1) B3 w3.heap.size := I3.out.1
  have i2 : In (.slice q2 m2 d2) B3 w3.heap.size := I3.out.2
  have H6 := hide (show (Below w.heap.size w w6 ∧ Reads w6 (.slice p1 n1 c1) xs ∧ ReadsP w6 (.slice p2 n2 c2) []) ∧ Row w6 w1.heap.size 25 [.slice p1 n1 c1, .slice p2 n2 c2] ∧ (Reads w6 (.slice q1 m1 d1) (marks 1 xs.length) ∧ ReadsP w6 (.slice q2 m2 d2) (marksP (1 + xs.length) 0)) ∧ Row w6 w3.heap.size 25 [.slice q1 m1 d1, .slice q2 m2 d2] from
    ⟨⟨hk6.onBelow H5.out.1.1.1 (fun x hx => by have := i1.all i2 x hx; have := S1.out; omega), hk6.reads H5.out.1.1.2.1 (I1.out.1.apart i1 i2 (.inl (by omega))), hk6.readsP H5.out.1.1.2.2 (I1.out.2.apart i1 i2 (.inl (by omega)))⟩,
      hk6.row H5.out.1.2 (i1.far i2 (.inl (by omega))), ⟨o1.reads, o2.reads⟩, hk6.row H5.out.2.2 (i1.far i2 (.inr (Nat.le_refl _)))⟩)
  have g0 : w6.cell? ⟨w3.heap.size, 0, none⟩ = some (.slice q1 m1 d1) := H6.out.2.2.2.cell 0
  have g1 : w6.cell? ⟨w3.heap.size, 1, none⟩ = some (.slice q2 m2 d2) := H6.out.2.2.2.cell 1
  clear o1 o2 hk6 i1 i2 H5
  go_wp2_with fail
  refine (heldDisk_any _ _ 1 xs.length 0 _ (by omega) (by omega) (by omega) H6.out.2.2.1.1 H6.out.2.2.1.2).mono ?_
  rintro e w7 ⟨rfl, hb7⟩
  have H7 := hide (Stab.go hb7 (P := fun w' => (Below w.heap.size w w' ∧ Reads w' (.slice p1 n1 c1) xs ∧ ReadsP w' (.slice p2 n2 c2) []) ∧ Row w' w1.heap.size 25 [.slice p1 n1 c1, .slice p2 n2 c2] ∧ (Reads w' (.slice q1 m1 d1) (marks 1 xs.length) ∧ ReadsP w' (.slice q2 m2 d2) (marksP (1 + xs.length) 0)) ∧ Row w' w3.heap.size 25 [.slice q1 m1 d1, .slice q2 m2 d2]) H6.out)
  have t1 : ¬ (((1 + xs.length + 0 * 2 : Nat) : Int) < 0) := by omega
  clear hb7 H6 g0 g1
  go_wp2_with fail
  refine (implNew_any n _).mono ?_
  rw [HX.out]
  rintro e w8 ⟨⟨zs, zp, rfl, o1, o2, dd⟩, hb8⟩
  obtain ⟨r1, k1, e1, rfl⟩ := o1.isSlice
  obtain ⟨r2, k2, e2, rfl⟩ := o2.isSlice
  have bn := below_new w8 (.cells #[.slice r1 k1 e1, .slice r2 k2 e2] 25)
  have H9 := hide (Stab.go (hb8.trans (bn.mono hb8.size)) (P := fun w' => (Below w.heap.size w w' ∧ Reads w' (.slice p1 n1 c1) xs ∧ ReadsP w' (.slice p2 n2 c2) []) ∧ Row w' w1.heap.size 25 [.slice p1 n1 c1, .slice p2 n2 c2] ∧ (Reads w' (.slice q1 m1 d1) (marks 1 xs.length) ∧ ReadsP w' (.slice q2 m2 d2) (marksP (1 + xs.length) 0)) ∧ Row w' w3.heap.size 25 [.slice q1 m1 d1, .slice q2 m2 d2]) H7.out)
  have HZ := hide (Stab.go bn (P := fun w' => Reads w' (.slice r1 k1 e1) xs ∧ ReadsP w' (.slice r2 k2 e2) []) ⟨o1.reads, o2.reads⟩)
  have a0 : (w8.alloc (.cells #[.slice r1 k1 e1, .slice r2 k2 e2] 25)).cell? ⟨w1.heap.size, 0, none⟩ = some (.slice p1 n1 c1) := H9.out.2.1.cell 0
  have a1 : (w8.alloc (.cells #[.slice r1 k1 e1, .slice r2 k2 e2] 25)).cell? ⟨w1.heap.size, 1, none⟩ = some (.slice p2 n2 c2) := H9.out.2.1.cell 1
  clear hb8 H7 bn o1 o2 dd
  go_wp2_with fail
  refine (eqDisk_same _ _ _ _ xs [] _ (by omega) (by simp) HZ.out.1 HZ.out.2 H9.out.1.2.1 H9.out.1.2.2).mono ?_
  rintro e w10 ⟨rfl, hb10⟩
  have H10 := hide (Stab.go hb10 (P := fun w' => (Below w.heap.size w w' ∧ Reads w' (.slice p1 n1 c1) xs ∧ ReadsP w' (.slice p2 n2 c2) []) ∧ Row w' w1.heap.size 25 [.slice p1 n1 c1, .slice p2 n2 c2] ∧ (Reads w' (.slice q1 m1 d1) (marks 1 xs.length) ∧ ReadsP w' (.slice q2 m2 d2) (marksP (1 + xs.length) 0)) ∧ Row w' w3.heap.size 25 [.slice q1 m1 d1, .slice q2 m2 d2]) H9.out)
  have g0 : w10.cell? ⟨w3.heap.size, 0, none⟩ = some (.slice q1 m1 d1) := H10.out.2.2.2.cell 0
  have g1 : w10.cell? ⟨w3.heap.size, 1, none⟩ = some (.slice q2 m2 d2) := H10.out.2.2.2.cell 1
  clear hb10 HZ H9 a0 a1
  go_wp2_with fail
  refine (heldDisk_any _ _ 1 xs.length 0 _ (by omega) (by omega) (by omega) H10.out.2.2.1.1 H10.out.2.2.1.2).mono ?_
  rintro e w11 ⟨rfl, hb11⟩
  have HB := hide (H10.out.1.1.trans (hb11.mono H10.out.1.1.size))
  clear hb11 H10 g0 g1
  go_wp2
  go_ret
  exact ⟨rfl, HB.out⟩
end Go.Proofs.Ythmkblhllbfmcaa
