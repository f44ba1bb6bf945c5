/- Forget of both sides. -/
import Derived.Test.YtbhdbkffejlfmaaGreatDoorXGQDrop
import Derived.Test.YtbhdbkffejlfmaaGreatDoorXGQSWrite
import Derived.Test.YtbhdbkffejlfmaaGreatDoorXGEBase
import Derived.Test.YtbhdbkffejlfmaaGreatDoorXGSCopy
import Derived.Test.YtbhdbkffejlfmaaGreatDoorXGMark
import Derived.Deep.RegionHeld3
namespace Go.Proofs.YtbhdbkffejlfmaaGreatDoor
open Go.RowKit

set_option maxHeartbeats 8000000 in
set_option maxRecDepth 100000 in
theorem implForget_any (vs vp : Value) (xs : List ByteArray) (ps : List (Int × ByteArray)) (d : ByteArray) (a : Int) (aF aR aU : Addr) (w : World) (hn : xs.length ≤ 1048576) (hn2 : ps.length ≤ 1048576) (hd : d.size ≤ 1048576) (hr : Reads w vs xs) (hp : ReadsP w vp ps) (hS : Sents aF aR aU w) (hG : St3.Laid w) :
    Calls Tryz.prog 16 #[.agg #[vs, vp], .string d, .int .i64 a] w fun e w' => EOutIs w.heap.size e w' (dropO xs ps d a) ∧ Below w.heap.size w w' := by
  have HR := hide hr
  have HP := hide hp
  have HS0 := hide hS
  have HG := hide hG
  clear hS hG
  obtain ⟨p1, c1, rfl, _⟩ := hr
  obtain ⟨p2, c2, rfl, _⟩ := hp
  obtain ⟨W, hW⟩ : ∃ W, W = (w.alloc (.cells #[.slice p1 xs.length c1, .slice p2 ps.length c2] 29)).alloc (.cells #[.slice none 0 0, .slice none 0 0, .string ⟨#[]⟩, .int .i64 0, .string ⟨#[]⟩, .int .i64 0] 31) := ⟨_, rfl⟩
  have HB0 := hide (show Below w.heap.size w W by rw [hW]; exact ((Below.refl _ _).alloc (Nat.le_refl _) _).alloc (by simp) _)
  have HWS := hide (show w.heap.size + 2 = W.heap.size by rw [hW]; simp)
  have HRO := hide (show Row W (w.heap.size + 1) 31 [.slice none 0 0, .slice none 0 0, .string ⟨#[]⟩, .int .i64 0, .string ⟨#[]⟩, .int .i64 0] by
    rw [hW]
    have := row_new (w.alloc (.cells #[.slice p1 xs.length c1, .slice p2 ps.length c2] 29)) [.slice none 0 0, .slice none 0 0, .string ⟨#[]⟩, .int .i64 0, .string ⟨#[]⟩, .int .i64 0] 31
    simpa using this)
  obtain ⟨o, ho⟩ : ∃ o, o = dropO xs ps d a := ⟨_, rfl⟩
  have HOE := hide ho
  rw [← ho]
  clear ho
  go_enter Tryz.func16, Tryz.ntmps16
  go_wp2_with fail
  rw [← hW]
  clear hW
  refine (implStoreDrop_any _ _ xs ps d a aF aR aU _ hn hn2 hd (HR.out.below HB0.out (Nat.le_refl _)) (HP.out.below HB0.out (Nat.le_refl _)) (Stab.go HB0.out HS0.out) (Stab.go HB0.out HG.out)).mono ?_
  rw [← HOE.out]
  rintro e X ⟨⟨us, up, rfl, o1, o2, dd⟩, hb1⟩
  obtain ⟨s1, s2, s3, rfl⟩ := o1.isSlice
  obtain ⟨s4, s5, s6, rfl⟩ := o2.isSlice
  have HX0 := hide hb1
  have O1 := hide o1
  have O2 := hide o2
  have DD := hide dd
  clear o1 o2 dd hb1
  go_wp2_with fail
  refine (storeTold_any s1 s4 s2 s3 s5 s6 o.t o.c _).mono ?_
  rintro e Z ⟨rfl, hb2⟩
  have hge : w.heap.size + 2 ≤ W.heap.size := by have := HWS.out; omega
  have HZW := hide (HX0.out.trans (hb2.mono HX0.out.size))
  have P1 := hide ((O1.out.below hb2 (Nat.le_refl _)).mono hge)
  have P2 := hide ((O2.out.below hb2 (Nat.le_refl _)).mono hge)
  have HRZ := hide (HRO.out.below HZW.out HRO.out.lt)
  clear hb2 hge
  have HZC : Z.heap[w.heap.size + 1]? = some (.cells #[.slice none 0 0, .slice none 0 0, .string ⟨#[]⟩, .int .i64 0, .string ⟨#[]⟩, .int .i64 0] 31 (0, 0)) := HRZ.out
  have HHz := hide HZC
  have HF : Hid (Row (Z.setRow (w.heap.size + 1) #[.slice s1 s2 s3, .slice s4 s5 s6, .string o.t, .int .i64 0, .string ⟨#[]⟩, .int .i64 o.c]) (w.heap.size + 1) 31 [.slice s1 s2 s3, .slice s4 s5 s6, .string o.t, .int .i64 0, .string ⟨#[]⟩, .int .i64 o.c]) := setRow_heap _ _ _ _ 31 (0, 0) HRZ.out
  have HKS := hide (keptSetE Z (w.heap.size + 1) #[.slice s1 s2 s3, .slice s4 s5 s6, .string o.t, .int .i64 0, .string ⟨#[]⟩, .int .i64 o.c])
  clear HZC
  go_wp2_with (refine wpList_store_rowE rfl 31 _ _ rfl (w.heap.size + 1) #[.slice s1 s2 s3, .slice s4 s5 s6, .string o.t, .int .i64 0, .string ⟨#[]⟩, .int .i64 o.c] rfl rfl 31 #[.slice none 0 0, .slice none 0 0, .string ⟨#[]⟩, .int .i64 0, .string ⟨#[]⟩, .int .i64 0] HHz.out (by kernel_rfl) rfl (by first | kernel_rfl | simp [Value.oneCell']) ?_)
  obtain ⟨V, hV⟩ : ∃ V, V = Z.setRow (w.heap.size + 1) #[.slice s1 s2 s3, .slice s4 s5 s6, .string o.t, .int .i64 0, .string ⟨#[]⟩, .int .i64 o.c] := ⟨_, rfl⟩
  rw [← hV] at HF HKS ⊢
  clear hV
  have v0 : V.cell? ⟨w.heap.size + 1, 0, none⟩ = some (.slice s1 s2 s3) := HF.out.cell 0
  have v1 : V.cell? ⟨w.heap.size + 1, 1, none⟩ = some (.slice s4 s5 s6) := HF.out.cell 1
  have v2 : V.cell? ⟨w.heap.size + 1, 2, none⟩ = some (.string o.t) := HF.out.cell 2
  have v3 : V.cell? ⟨w.heap.size + 1, 3, none⟩ = some (.int .i64 0) := HF.out.cell 3
  have v4 : V.cell? ⟨w.heap.size + 1, 4, none⟩ = some (.string ⟨#[]⟩) := HF.out.cell 4
  have v5 : V.cell? ⟨w.heap.size + 1, 5, none⟩ = some (.int .i64 o.c) := HF.out.cell 5
  exact bodyPost_ret (v := .agg #[.slice s1 s2 s3, .slice s4 s5 s6, .string o.t, .int .i64 0, .string ⟨#[]⟩, .int .i64 o.c]) (by simp [results, Tryz.results16, go_sem, v0, v1, v2, v3, v4, v5]) rfl (endE HB0.out HZW.out HWS.out HKS.out P1.out P2.out DD.out)

set_option maxHeartbeats 8000000 in
set_option maxRecDepth 100000 in
theorem specForget_any (vs vp : Value) (xs : List ByteArray) (ps : List (Int × ByteArray)) (d : ByteArray) (a : Int) (w : World) (hn : xs.length ≤ 1048576) (hn2 : ps.length ≤ 1048576) (hd : d.size ≤ 1048576) (hr : Reads w vs xs) (hp : ReadsP w vp ps) :
    Calls Tryz.prog 15 #[.agg #[vs, vp], .string d, .int .i64 a] w fun e w' => EOutIs w.heap.size e w' (dropO xs ps d a) ∧ Below w.heap.size w w' := by
  have HR := hide hr
  have HP := hide hp
  obtain ⟨p1, c1, rfl, _⟩ := hr
  obtain ⟨p2, c2, rfl, _⟩ := hp
  obtain ⟨W, hW⟩ : ∃ W, W = (w.alloc (.cells #[.slice p1 xs.length c1, .slice p2 ps.length c2] 29)).alloc (.cells #[.slice none 0 0, .slice none 0 0, .string ⟨#[]⟩, .int .i64 0, .string ⟨#[]⟩, .int .i64 0] 31) := ⟨_, rfl⟩
  have HB0 := hide (show Below w.heap.size w W by rw [hW]; exact ((Below.refl _ _).alloc (Nat.le_refl _) _).alloc (by simp) _)
  have HWS := hide (show w.heap.size + 2 = W.heap.size by rw [hW]; simp)
  have HRO := hide (show Row W (w.heap.size + 1) 31 [.slice none 0 0, .slice none 0 0, .string ⟨#[]⟩, .int .i64 0, .string ⟨#[]⟩, .int .i64 0] by
    rw [hW]
    have := row_new (w.alloc (.cells #[.slice p1 xs.length c1, .slice p2 ps.length c2] 29)) [.slice none 0 0, .slice none 0 0, .string ⟨#[]⟩, .int .i64 0, .string ⟨#[]⟩, .int .i64 0] 31
    simpa using this)
  obtain ⟨o, ho⟩ : ∃ o, o = dropO xs ps d a := ⟨_, rfl⟩
  have HOE := hide ho
  rw [← ho]
  clear ho
  go_enter Tryz.func15, Tryz.ntmps15
  go_wp2_with fail
  rw [← hW]
  clear hW
  refine (specStoreDrop_any _ _ xs ps d a _ hn hn2 hd (HR.out.below HB0.out (Nat.le_refl _)) (HP.out.below HB0.out (Nat.le_refl _))).mono ?_
  rw [← HOE.out]
  rintro e X ⟨⟨us, up, rfl, o1, o2, dd⟩, hb1⟩
  obtain ⟨s1, s2, s3, rfl⟩ := o1.isSlice
  obtain ⟨s4, s5, s6, rfl⟩ := o2.isSlice
  have HX0 := hide hb1
  have O1 := hide o1
  have O2 := hide o2
  have DD := hide dd
  clear o1 o2 dd hb1
  go_wp2_with fail
  refine (l10Of_any s1 s4 s2 s3 s5 s6 o.t o.c _).mono ?_
  rintro e Z ⟨rfl, hb2⟩
  have hge : w.heap.size + 2 ≤ W.heap.size := by have := HWS.out; omega
  have HZW := hide (HX0.out.trans (hb2.mono HX0.out.size))
  have P1 := hide ((O1.out.below hb2 (Nat.le_refl _)).mono hge)
  have P2 := hide ((O2.out.below hb2 (Nat.le_refl _)).mono hge)
  have HRZ := hide (HRO.out.below HZW.out HRO.out.lt)
  clear hb2 hge
  have HZC : Z.heap[w.heap.size + 1]? = some (.cells #[.slice none 0 0, .slice none 0 0, .string ⟨#[]⟩, .int .i64 0, .string ⟨#[]⟩, .int .i64 0] 31 (0, 0)) := HRZ.out
  have HHz := hide HZC
  have HF : Hid (Row (Z.setRow (w.heap.size + 1) #[.slice s1 s2 s3, .slice s4 s5 s6, .string o.t, .int .i64 0, .string ⟨#[]⟩, .int .i64 o.c]) (w.heap.size + 1) 31 [.slice s1 s2 s3, .slice s4 s5 s6, .string o.t, .int .i64 0, .string ⟨#[]⟩, .int .i64 o.c]) := setRow_heap _ _ _ _ 31 (0, 0) HRZ.out
  have HKS := hide (keptSetE Z (w.heap.size + 1) #[.slice s1 s2 s3, .slice s4 s5 s6, .string o.t, .int .i64 0, .string ⟨#[]⟩, .int .i64 o.c])
  clear HZC
  go_wp2_with (refine wpList_store_rowE rfl 31 _ _ rfl (w.heap.size + 1) #[.slice s1 s2 s3, .slice s4 s5 s6, .string o.t, .int .i64 0, .string ⟨#[]⟩, .int .i64 o.c] rfl rfl 31 #[.slice none 0 0, .slice none 0 0, .string ⟨#[]⟩, .int .i64 0, .string ⟨#[]⟩, .int .i64 0] HHz.out (by kernel_rfl) rfl (by first | kernel_rfl | simp [Value.oneCell']) ?_)
  obtain ⟨V, hV⟩ : ∃ V, V = Z.setRow (w.heap.size + 1) #[.slice s1 s2 s3, .slice s4 s5 s6, .string o.t, .int .i64 0, .string ⟨#[]⟩, .int .i64 o.c] := ⟨_, rfl⟩
  rw [← hV] at HF HKS ⊢
  clear hV
  have v0 : V.cell? ⟨w.heap.size + 1, 0, none⟩ = some (.slice s1 s2 s3) := HF.out.cell 0
  have v1 : V.cell? ⟨w.heap.size + 1, 1, none⟩ = some (.slice s4 s5 s6) := HF.out.cell 1
  have v2 : V.cell? ⟨w.heap.size + 1, 2, none⟩ = some (.string o.t) := HF.out.cell 2
  have v3 : V.cell? ⟨w.heap.size + 1, 3, none⟩ = some (.int .i64 0) := HF.out.cell 3
  have v4 : V.cell? ⟨w.heap.size + 1, 4, none⟩ = some (.string ⟨#[]⟩) := HF.out.cell 4
  have v5 : V.cell? ⟨w.heap.size + 1, 5, none⟩ = some (.int .i64 o.c) := HF.out.cell 5
  exact bodyPost_ret (v := .agg #[.slice s1 s2 s3, .slice s4 s5 s6, .string o.t, .int .i64 0, .string ⟨#[]⟩, .int .i64 o.c]) (by simp [results, Tryz.results15, go_sem, v0, v1, v2, v3, v4, v5]) rfl (endE HB0.out HZW.out HWS.out HKS.out P1.out P2.out DD.out)

end Go.Proofs.YtbhdbkffejlfmaaGreatDoor

/- The law of Forget, from what the program's Forget does. -/
namespace Go.Proofs.YtbhdbkffejlfmaaGreatDoor
open Go.RowKit

set_option maxRecDepth 100000 in
set_option maxHeartbeats 8000000 in
theorem lawKForget (w : World) (d : ByteArray) (a : Int) (hd : d.size ≤ 1048576) (HI : ∀ (vs vp : Value) (xs : List ByteArray) (ps : List (Int × ByteArray)) (w' : World), Below w.heap.size w w' → xs.length ≤ 1048576 → ps.length ≤ 1048576 → Reads w' vs xs → ReadsP w' vp ps →
      Calls Tryz.prog 16 #[.agg #[vs, vp], .string d, .int .i64 a] w' fun e w'' => EOutIs w'.heap.size e w'' (dropO xs ps d a) ∧ Below w'.heap.size w' w'')
    (vs vp : Value) (xs : List ByteArray) (ps : List (Int × ByteArray)) (hr : Reads w vs xs) (hp : ReadsP w vp ps) (HO2 : Small xs ps → ((dropO xs ps d a)).xs.length ≤ 1048576 ∧ ((dropO xs ps d a)).ps.length ≤ 1048576) :
    Calls Tryz.prog 4 #[.agg #[vs, vp], .string d, .int .i64 a] w fun e w' => e = .returned (.bool true) ∧ Below w.heap.size w w' := by
  have hb0 := below_new w (.cells #[vs, vp] 25)
  have HR0 := hide (hr.below hb0 (Nat.le_refl _))
  have HP0 := hide (hp.below hb0 (Nat.le_refl _))
  have HB0 := hide hb0
  have HII := hide HI
  have HOO := hide HO2
  obtain ⟨o, ho⟩ : ∃ o, o = (dropO xs ps d a) := ⟨_, rfl⟩
  have HEQ := hide ho
  clear ho
  have I0 := hide (And.intro hr.isIn hp.isIn)
  obtain ⟨p1, c1, rfl, hq⟩ := hr
  obtain ⟨p2, c2, rfl, hq2⟩ := hp
  have HN0 := hide (row_new w [.slice p1 xs.length c1, .slice p2 ps.length c2] 25)
  clear hb0 hq hq2 HI HO2
  go_enter Tryz.func4, Tryz.ntmps4
  go_wp2_with fail
  refine (szDisk_any _ _ xs ps _ HR0.out HP0.out).mono ?_
  rintro e w1 ⟨r, rfl, hsm, hb1⟩
  have H1 := hide (Stab.go hb1 (P := fun w' => Below w.heap.size w w' ∧ Reads w' (.slice p1 xs.length c1) xs ∧ ReadsP w' (.slice p2 ps.length c2) ps ∧ Row w' w.heap.size 25 [.slice p1 xs.length c1, .slice p2 ps.length c2]) ⟨HB0.out, HR0.out, HP0.out, HN0.out⟩)
  rcases hsm with hneg | ⟨hpos, hsm⟩
  · clear hb1
    go_wp2
    go_ret
    exact ⟨rfl, H1.out.1⟩
  have hneg : ¬ r < 0 := by omega
  have a0 : w1.cell? ⟨w.heap.size, 0, none⟩ = some (.slice p1 xs.length c1) := H1.out.2.2.2.cell 0
  have a1 : w1.cell? ⟨w.heap.size, 1, none⟩ = some (.slice p2 ps.length c2) := H1.out.2.2.2.cell 1
  have HSM := hide hsm
  clear hb1 HR0 HP0 HN0 HB0 hsm
  go_wp2_with fail
  refine (toDisk_any _ _ xs ps _ H1.out.2.1 H1.out.2.2.1 HSM.out).mono ?_
  rintro e w2 ⟨us, up, rfl, o1, o2, dd, hb2⟩
  have H2 := hide (Stab.go hb2 (P := fun w' => Below w.heap.size w w' ∧ Reads w' (.slice p1 xs.length c1) xs ∧ ReadsP w' (.slice p2 ps.length c2) ps ∧ Row w' w.heap.size 25 [.slice p1 xs.length c1, .slice p2 ps.length c2]) H1.out)
  have HRu := hide o1.reads
  have HPu := hide o2.reads
  obtain ⟨x1, x2, x3, x4⟩ := HSM.out
  have S2 := hide H2.out.1.size
  clear o1 o2 dd hb2 H1 x2 x4 a0 a1
  go_wp2_with fail
  refine (specForget_any _ _ xs ps d a _ x1 x3 hd HRu.out HPu.out).mono ?_
  rw [← HEQ.out]
  rintro e w3 ⟨⟨ss, sp, rfl, o1, o2, dd⟩, hb3⟩
  obtain ⟨i1, j1, k1, rfl⟩ := o1.isSlice
  obtain ⟨i2, j2, k2, rfl⟩ := o2.isSlice
  have bn := below_new w3 (.cells #[.slice i1 j1 k1, .slice i2 j2 k2, .string o.t, .int .i64 0, .string ⟨#[]⟩, .int .i64 o.c] 31)
  have H2a := hide (Stab.go (hb3.trans (bn.mono hb3.size)) (P := fun w' => Below w.heap.size w w' ∧ Reads w' (.slice p1 xs.length c1) xs ∧ ReadsP w' (.slice p2 ps.length c2) ps ∧ Row w' w.heap.size 25 [.slice p1 xs.length c1, .slice p2 ps.length c2]) H2.out)
  have H3 := hide (show (fun w' => Below w.heap.size w w' ∧ Reads w' (.slice p1 xs.length c1) xs ∧ ReadsP w' (.slice p2 ps.length c2) ps ∧ Row w' w.heap.size 25 [.slice p1 xs.length c1, .slice p2 ps.length c2] ∧ Reads w' (.slice i1 j1 k1) o.xs ∧ ReadsP w' (.slice i2 j2 k2) o.ps ∧ Row w' w3.heap.size 31 [.slice i1 j1 k1, .slice i2 j2 k2, .string o.t, .int .i64 0, .string ⟨#[]⟩, .int .i64 o.c]) (w3.alloc (.cells #[.slice i1 j1 k1, .slice i2 j2 k2, .string o.t, .int .i64 0, .string ⟨#[]⟩, .int .i64 o.c] 31)) from ⟨H2a.out.1, H2a.out.2.1, H2a.out.2.2.1, H2a.out.2.2.2, o1.reads.below bn (Nat.le_refl _), o2.reads.below bn (Nat.le_refl _), row_new w3 _ _⟩)
  have I3 := hide (And.intro o1.isIn o2.isIn)
  have S3 := hide (And.intro H2.out.1.size hb3.size)
  have a0 : (w3.alloc (.cells #[.slice i1 j1 k1, .slice i2 j2 k2, .string o.t, .int .i64 0, .string ⟨#[]⟩, .int .i64 o.c] 31)).cell? ⟨w.heap.size, 0, none⟩ = some (.slice p1 xs.length c1) := H3.out.2.2.2.1.cell 0
  have a1 : (w3.alloc (.cells #[.slice i1 j1 k1, .slice i2 j2 k2, .string o.t, .int .i64 0, .string ⟨#[]⟩, .int .i64 o.c] 31)).cell? ⟨w.heap.size, 1, none⟩ = some (.slice p2 ps.length c2) := H3.out.2.2.2.1.cell 1
  clear o1 o2 dd hb3 bn H2 H2a HRu HPu
  go_wp2_with fail
  refine (toDisk_any _ _ xs ps _ H3.out.2.1 H3.out.2.2.1 HSM.out).mono ?_
  rintro e w4 ⟨xs', xp', rfl, o1, o2, dd, hb4⟩
  obtain ⟨q1, m1, d1, rfl⟩ := o1.isSlice
  obtain ⟨q2, m2, d2, rfl⟩ := o2.isSlice
  obtain ⟨B4, hB4⟩ : ∃ b, b = w3.heap.size + 1 := ⟨_, rfl⟩
  simp only [World.size_alloc] at o1 o2
  rw [← hB4] at o1 o2
  have bn := below_new w4 (.cells #[.slice q1 m1 d1, .slice q2 m2 d2] 29)
  have H3a := hide (Stab.go (hb4.trans (bn.mono hb4.size)) (P := fun w' => Below w.heap.size w w' ∧ Reads w' (.slice p1 xs.length c1) xs ∧ ReadsP w' (.slice p2 ps.length c2) ps ∧ Row w' w.heap.size 25 [.slice p1 xs.length c1, .slice p2 ps.length c2] ∧ Reads w' (.slice i1 j1 k1) o.xs ∧ ReadsP w' (.slice i2 j2 k2) o.ps ∧ Row w' w3.heap.size 31 [.slice i1 j1 k1, .slice i2 j2 k2, .string o.t, .int .i64 0, .string ⟨#[]⟩, .int .i64 o.c]) H3.out)
  have H4 := hide (show (fun w' => Below w.heap.size w w' ∧ Reads w' (.slice p1 xs.length c1) xs ∧ ReadsP w' (.slice p2 ps.length c2) ps ∧ Row w' w.heap.size 25 [.slice p1 xs.length c1, .slice p2 ps.length c2] ∧ Reads w' (.slice i1 j1 k1) o.xs ∧ ReadsP w' (.slice i2 j2 k2) o.ps ∧ Row w' w3.heap.size 31 [.slice i1 j1 k1, .slice i2 j2 k2, .string o.t, .int .i64 0, .string ⟨#[]⟩, .int .i64 o.c] ∧ OwnS 9 B4 w' (.slice q1 m1 d1) xs ∧ OwnP 73 B4 w' (.slice q2 m2 d2) ps ∧ Row w' w4.heap.size 29 [.slice q1 m1 d1, .slice q2 m2 d2]) (w4.alloc (.cells #[.slice q1 m1 d1, .slice q2 m2 d2] 29)) from ⟨H3a.out.1, H3a.out.2.1, H3a.out.2.2.1, H3a.out.2.2.2.1, H3a.out.2.2.2.2.1, H3a.out.2.2.2.2.2.1, H3a.out.2.2.2.2.2.2, o1.below bn (Nat.le_refl _), o2.below bn (Nat.le_refl _), row_new w4 _ _⟩)
  have I4 := hide (And.intro o1.isIn o2.isIn)
  have S4 := hide (show w3.heap.size + 1 ≤ w4.heap.size by have := hb4.size; simpa using this)
  have D4 := hide dd
  clear o1 o2 dd hb4 bn H3 H3a a0 a1
  go_wp2_with fail
  refine (HII.out _ _ xs ps _ H4.out.1 x1 x3 H4.out.2.2.2.2.2.2.2.1.reads H4.out.2.2.2.2.2.2.2.2.1.reads).mono ?_
  rw [← HEQ.out]
  rintro e w5 ⟨⟨gs, gp, rfl, o1, o2, dd⟩, hb5⟩
  obtain ⟨r1, n1, e1, rfl⟩ := o1.isSlice
  obtain ⟨r2, n2, e2, rfl⟩ := o2.isSlice
  obtain ⟨B5, hB5⟩ : ∃ b, b = w4.heap.size + 1 := ⟨_, rfl⟩
  simp only [World.size_alloc] at o1 o2
  rw [← hB5] at o1 o2
  have bn := below_new w5 (.cells #[.slice r1 n1 e1, .slice r2 n2 e2, .string o.t, .int .i64 0, .string ⟨#[]⟩, .int .i64 o.c] 31)
  have H4a := hide (Stab.go (hb5.trans (bn.mono hb5.size)) (P := fun w' => Below w.heap.size w w' ∧ Reads w' (.slice p1 xs.length c1) xs ∧ ReadsP w' (.slice p2 ps.length c2) ps ∧ Row w' w.heap.size 25 [.slice p1 xs.length c1, .slice p2 ps.length c2] ∧ Reads w' (.slice i1 j1 k1) o.xs ∧ ReadsP w' (.slice i2 j2 k2) o.ps ∧ Row w' w3.heap.size 31 [.slice i1 j1 k1, .slice i2 j2 k2, .string o.t, .int .i64 0, .string ⟨#[]⟩, .int .i64 o.c] ∧ OwnS 9 B4 w' (.slice q1 m1 d1) xs ∧ OwnP 73 B4 w' (.slice q2 m2 d2) ps ∧ Row w' w4.heap.size 29 [.slice q1 m1 d1, .slice q2 m2 d2]) H4.out)
  have H5 := hide (show (fun w' => Below w.heap.size w w' ∧ Reads w' (.slice p1 xs.length c1) xs ∧ ReadsP w' (.slice p2 ps.length c2) ps ∧ Row w' w.heap.size 25 [.slice p1 xs.length c1, .slice p2 ps.length c2] ∧ Reads w' (.slice i1 j1 k1) o.xs ∧ ReadsP w' (.slice i2 j2 k2) o.ps ∧ Row w' w3.heap.size 31 [.slice i1 j1 k1, .slice i2 j2 k2, .string o.t, .int .i64 0, .string ⟨#[]⟩, .int .i64 o.c] ∧ OwnS 9 B4 w' (.slice q1 m1 d1) xs ∧ OwnP 73 B4 w' (.slice q2 m2 d2) ps ∧ Row w' w4.heap.size 29 [.slice q1 m1 d1, .slice q2 m2 d2] ∧ OwnS 9 B5 w' (.slice r1 n1 e1) o.xs ∧ OwnP 73 B5 w' (.slice r2 n2 e2) o.ps ∧ Row w' w5.heap.size 31 [.slice r1 n1 e1, .slice r2 n2 e2, .string o.t, .int .i64 0, .string ⟨#[]⟩, .int .i64 o.c]) (w5.alloc (.cells #[.slice r1 n1 e1, .slice r2 n2 e2, .string o.t, .int .i64 0, .string ⟨#[]⟩, .int .i64 o.c] 31)) from ⟨H4a.out.1, H4a.out.2.1, H4a.out.2.2.1, H4a.out.2.2.2.1, H4a.out.2.2.2.2.1, H4a.out.2.2.2.2.2.1, H4a.out.2.2.2.2.2.2.1, H4a.out.2.2.2.2.2.2.2.1, H4a.out.2.2.2.2.2.2.2.2.1, H4a.out.2.2.2.2.2.2.2.2.2, o1.below bn (Nat.le_refl _), o2.below bn (Nat.le_refl _), row_new w5 _ _⟩)
  have I5 := hide (And.intro o1.isIn o2.isIn)
  have S5 := hide (show w4.heap.size + 1 ≤ w5.heap.size by have := hb5.size; simpa using this)
  have D5 := hide dd
  obtain ⟨l1, l2⟩ := HOO.out HSM.out
  rw [← HEQ.out] at l1 l2
  have b0 : (w5.alloc (.cells #[.slice r1 n1 e1, .slice r2 n2 e2, .string o.t, .int .i64 0, .string ⟨#[]⟩, .int .i64 o.c] 31)).cell? ⟨w3.heap.size, 0, none⟩ = some (.slice i1 j1 k1) := H5.out.2.2.2.2.2.2.1.cell 0
  have b1 : (w5.alloc (.cells #[.slice r1 n1 e1, .slice r2 n2 e2, .string o.t, .int .i64 0, .string ⟨#[]⟩, .int .i64 o.c] 31)).cell? ⟨w3.heap.size, 1, none⟩ = some (.slice i2 j2 k2) := H5.out.2.2.2.2.2.2.1.cell 1
  have b2 : (w5.alloc (.cells #[.slice r1 n1 e1, .slice r2 n2 e2, .string o.t, .int .i64 0, .string ⟨#[]⟩, .int .i64 o.c] 31)).cell? ⟨w3.heap.size, 2, none⟩ = some (.string o.t) := H5.out.2.2.2.2.2.2.1.cell 2
  have b3 : (w5.alloc (.cells #[.slice r1 n1 e1, .slice r2 n2 e2, .string o.t, .int .i64 0, .string ⟨#[]⟩, .int .i64 o.c] 31)).cell? ⟨w3.heap.size, 3, none⟩ = some (.int .i64 0) := H5.out.2.2.2.2.2.2.1.cell 3
  have b4 : (w5.alloc (.cells #[.slice r1 n1 e1, .slice r2 n2 e2, .string o.t, .int .i64 0, .string ⟨#[]⟩, .int .i64 o.c] 31)).cell? ⟨w3.heap.size, 4, none⟩ = some (.string ⟨#[]⟩) := H5.out.2.2.2.2.2.2.1.cell 4
  have b5 : (w5.alloc (.cells #[.slice r1 n1 e1, .slice r2 n2 e2, .string o.t, .int .i64 0, .string ⟨#[]⟩, .int .i64 o.c] 31)).cell? ⟨w3.heap.size, 5, none⟩ = some (.int .i64 o.c) := H5.out.2.2.2.2.2.2.1.cell 5
  clear o1 o2 dd hb5 bn H4 H4a HOO
  go_wp2_with fail
  refine (eqEngineOut_same _ _ _ _ o.xs o.ps o.t o.c _ l1 l2 H5.out.2.2.2.2.2.2.2.2.2.2.1.reads H5.out.2.2.2.2.2.2.2.2.2.2.2.1.reads H5.out.2.2.2.2.1 H5.out.2.2.2.2.2.1).mono ?_
  rintro e w6 ⟨rfl, hb6⟩
  have H6 := hide (Stab.go hb6 (P := fun w' => Below w.heap.size w w' ∧ Reads w' (.slice p1 xs.length c1) xs ∧ ReadsP w' (.slice p2 ps.length c2) ps ∧ Row w' w.heap.size 25 [.slice p1 xs.length c1, .slice p2 ps.length c2] ∧ Reads w' (.slice i1 j1 k1) o.xs ∧ ReadsP w' (.slice i2 j2 k2) o.ps ∧ Row w' w3.heap.size 31 [.slice i1 j1 k1, .slice i2 j2 k2, .string o.t, .int .i64 0, .string ⟨#[]⟩, .int .i64 o.c] ∧ OwnS 9 B4 w' (.slice q1 m1 d1) xs ∧ OwnP 73 B4 w' (.slice q2 m2 d2) ps ∧ Row w' w4.heap.size 29 [.slice q1 m1 d1, .slice q2 m2 d2] ∧ OwnS 9 B5 w' (.slice r1 n1 e1) o.xs ∧ OwnP 73 B5 w' (.slice r2 n2 e2) o.ps ∧ Row w' w5.heap.size 31 [.slice r1 n1 e1, .slice r2 n2 e2, .string o.t, .int .i64 0, .string ⟨#[]⟩, .int .i64 o.c]) H5.out)
  clear hb6 H5 b0 b1 b2 b3 b4 b5
  go_wp2_with fail
  have HSS := hide (show ∀ x, Below w6.heap.size w6 x → x.cell? ⟨w.heap.size, 0, none⟩ = some (.slice p1 xs.length c1) ∧ x.cell? ⟨w.heap.size, 1, none⟩ = some (.slice p2 ps.length c2) ∧ x.cell? ⟨w4.heap.size, 0, none⟩ = some (.slice q1 m1 d1) ∧ x.cell? ⟨w4.heap.size, 1, none⟩ = some (.slice q2 m2 d2) ∧ Below w6.heap.size w6 x from
    fun x h => ⟨(Row.after h H6.out.2.2.2.1).cell 0, (Row.after h H6.out.2.2.2.1).cell 1, (Row.after h H6.out.2.2.2.2.2.2.2.2.2.1).cell 0, (Row.after h H6.out.2.2.2.2.2.2.2.2.2.1).cell 1, h⟩)
  go_region_held3 (fun x => x.cell? ⟨w.heap.size, 0, none⟩ = some (.slice p1 xs.length c1) ∧ x.cell? ⟨w.heap.size, 1, none⟩ = some (.slice p2 ps.length c2) ∧ x.cell? ⟨w4.heap.size, 0, none⟩ = some (.slice q1 m1 d1) ∧ x.cell? ⟨w4.heap.size, 1, none⟩ = some (.slice q2 m2 d2) ∧ Below w6.heap.size w6 x)
    ((go_split_ands; refine HSS.out _ ?_; repeat (first | with_reducible assumption | with_reducible exact Below.refl _ _ | with_reducible refine Below.drew ?_)))
    ((first
      | (go_at_call 8; go_split_ands; refine (toDisk_any _ _ xs ps _ (H6.out.2.1.below (by assumption) (Nat.le_refl _)) (H6.out.2.2.1.below (by assumption) (Nat.le_refl _)) HSM.out).mono ?_; rintro e w7 ⟨us3, up3, rfl, o5, o6, d5, hb7⟩; have HRy := hide o5.reads; have HPy := hide o6.reads
         have hB7 : Below w6.heap.size w6 w7 := Below.trans (by assumption) (hb7.mono (Below.size (by assumption))); clear o5 o6 d5 hb7)
      | (go_at_call 11; go_split_ands; refine (eqDisk_same _ _ _ _ xs ps _ x1 x3 (H6.out.2.2.2.2.2.2.2.1.reads.below hB7 (Nat.le_refl _)) (H6.out.2.2.2.2.2.2.2.2.1.reads.below hB7 (Nat.le_refl _)) HRy.out HPy.out).mono ?_; rintro e w8 ⟨rfl, hb8⟩
         have hB8 : Below w6.heap.size w6 w8 := hB7.trans (hb8.mono hB7.size); clear hb8)))
  have H8 := hide (Stab.go hB8 (P := fun w' => Below w.heap.size w w' ∧ Reads w' (.slice p1 xs.length c1) xs ∧ ReadsP w' (.slice p2 ps.length c2) ps ∧ Row w' w.heap.size 25 [.slice p1 xs.length c1, .slice p2 ps.length c2] ∧ Reads w' (.slice i1 j1 k1) o.xs ∧ ReadsP w' (.slice i2 j2 k2) o.ps ∧ Row w' w3.heap.size 31 [.slice i1 j1 k1, .slice i2 j2 k2, .string o.t, .int .i64 0, .string ⟨#[]⟩, .int .i64 o.c] ∧ OwnS 9 B4 w' (.slice q1 m1 d1) xs ∧ OwnP 73 B4 w' (.slice q2 m2 d2) ps ∧ Row w' w4.heap.size 29 [.slice q1 m1 d1, .slice q2 m2 d2] ∧ OwnS 9 B5 w' (.slice r1 n1 e1) o.xs ∧ OwnP 73 B5 w' (.slice r2 n2 e2) o.ps ∧ Row w' w5.heap.size 31 [.slice r1 n1 e1, .slice r2 n2 e2, .string o.t, .int .i64 0, .string ⟨#[]⟩, .int .i64 o.c]) H6.out)
  have y0 : w8.cell? ⟨w4.heap.size, 0, none⟩ = some (.slice q1 m1 d1) := H8.out.2.2.2.2.2.2.2.2.2.1.cell 0
  have y1 : w8.cell? ⟨w4.heap.size, 1, none⟩ = some (.slice q2 m2 d2) := H8.out.2.2.2.2.2.2.2.2.2.1.cell 1
  clear hB7 hB8 HSS H6 HRy HPy
  go_wp2_with fail
  refine (markDisk_own _ _ _ xs ps 1 _ x1 x3 (by omega) H8.out.2.2.2.2.2.2.2.1 H8.out.2.2.2.2.2.2.2.2.1 D4.out).mono ?_
  rintro e w9 ⟨rfl, o1, o2, hk⟩
  have sS := S3.out
  have s4 := S4.out
  have s5 := S5.out
  have s2 := S2.out
  have ia : In (.slice q1 m1 d1) B4 w4.heap.size := I4.out.1
  have ib : In (.slice q2 m2 d2) B4 w4.heap.size := I4.out.2
  have H9 := hide (show (fun w' => Below w.heap.size w w' ∧ Reads w' (.slice p1 xs.length c1) xs ∧ ReadsP w' (.slice p2 ps.length c2) ps ∧ Row w' w.heap.size 25 [.slice p1 xs.length c1, .slice p2 ps.length c2] ∧ Reads w' (.slice i1 j1 k1) o.xs ∧ ReadsP w' (.slice i2 j2 k2) o.ps ∧ Row w' w3.heap.size 31 [.slice i1 j1 k1, .slice i2 j2 k2, .string o.t, .int .i64 0, .string ⟨#[]⟩, .int .i64 o.c] ∧ OwnS 9 B5 w' (.slice r1 n1 e1) o.xs ∧ OwnP 73 B5 w' (.slice r2 n2 e2) o.ps ∧ Row w' w5.heap.size 31 [.slice r1 n1 e1, .slice r2 n2 e2, .string o.t, .int .i64 0, .string ⟨#[]⟩, .int .i64 o.c]) w9 from ⟨hk.onBelow H8.out.1 (fun x hx => by have := ia.all ib x hx; omega), hk.reads H8.out.2.1 (I0.out.1.apart ia ib (.inl (by omega))), hk.readsP H8.out.2.2.1 (I0.out.2.apart ia ib (.inl (by omega))), hk.row H8.out.2.2.2.1 (ia.far ib (.inl (by omega))),
    hk.reads H8.out.2.2.2.2.1 (I3.out.1.apart ia ib (.inl (by omega))), hk.readsP H8.out.2.2.2.2.2.1 (I3.out.2.apart ia ib (.inl (by omega))), hk.row H8.out.2.2.2.2.2.2.1 (ia.far ib (.inl (by omega))),
    H8.out.2.2.2.2.2.2.2.2.2.2.1.kept hk (I5.out.1.apart ia ib (.inr (by omega))), H8.out.2.2.2.2.2.2.2.2.2.2.2.1.kept hk (I5.out.2.apart ia ib (.inr (by omega))), hk.row H8.out.2.2.2.2.2.2.2.2.2.2.2.2 (ia.far ib (.inr (by omega)))⟩)
  have b0 : w9.cell? ⟨w3.heap.size, 0, none⟩ = some (.slice i1 j1 k1) := H9.out.2.2.2.2.2.2.1.cell 0
  have b1 : w9.cell? ⟨w3.heap.size, 1, none⟩ = some (.slice i2 j2 k2) := H9.out.2.2.2.2.2.2.1.cell 1
  have b2 : w9.cell? ⟨w3.heap.size, 2, none⟩ = some (.string o.t) := H9.out.2.2.2.2.2.2.1.cell 2
  have b3 : w9.cell? ⟨w3.heap.size, 3, none⟩ = some (.int .i64 0) := H9.out.2.2.2.2.2.2.1.cell 3
  have b4 : w9.cell? ⟨w3.heap.size, 4, none⟩ = some (.string ⟨#[]⟩) := H9.out.2.2.2.2.2.2.1.cell 4
  have b5 : w9.cell? ⟨w3.heap.size, 5, none⟩ = some (.int .i64 o.c) := H9.out.2.2.2.2.2.2.1.cell 5
  have h0 : w9.cell? ⟨w5.heap.size, 0, none⟩ = some (.slice r1 n1 e1) := H9.out.2.2.2.2.2.2.2.2.2.cell 0
  have h1 : w9.cell? ⟨w5.heap.size, 1, none⟩ = some (.slice r2 n2 e2) := H9.out.2.2.2.2.2.2.2.2.2.cell 1
  have h2 : w9.cell? ⟨w5.heap.size, 2, none⟩ = some (.string o.t) := H9.out.2.2.2.2.2.2.2.2.2.cell 2
  have h3 : w9.cell? ⟨w5.heap.size, 3, none⟩ = some (.int .i64 0) := H9.out.2.2.2.2.2.2.2.2.2.cell 3
  have h4 : w9.cell? ⟨w5.heap.size, 4, none⟩ = some (.string ⟨#[]⟩) := H9.out.2.2.2.2.2.2.2.2.2.cell 4
  have h5 : w9.cell? ⟨w5.heap.size, 5, none⟩ = some (.int .i64 o.c) := H9.out.2.2.2.2.2.2.2.2.2.cell 5
  have tk : ¬ (((1 + xs.length + ps.length * 2 : Nat) : Int) < 0) := by omega
  clear o1 o2 hk H8 ia ib y0 y1
  go_wp2_with fail
  refine (eqEngineOut_same _ _ _ _ o.xs o.ps o.t o.c _ l1 l2 H9.out.2.2.2.2.2.2.2.1.reads H9.out.2.2.2.2.2.2.2.2.1.reads H9.out.2.2.2.2.1 H9.out.2.2.2.2.2.1).mono ?_
  rintro e w10 ⟨rfl, hb10⟩
  have H10 := hide (Stab.go hb10 (P := fun w' => Below w.heap.size w w' ∧ Reads w' (.slice p1 xs.length c1) xs ∧ ReadsP w' (.slice p2 ps.length c2) ps ∧ Row w' w.heap.size 25 [.slice p1 xs.length c1, .slice p2 ps.length c2] ∧ Reads w' (.slice i1 j1 k1) o.xs ∧ ReadsP w' (.slice i2 j2 k2) o.ps ∧ Row w' w3.heap.size 31 [.slice i1 j1 k1, .slice i2 j2 k2, .string o.t, .int .i64 0, .string ⟨#[]⟩, .int .i64 o.c] ∧ OwnS 9 B5 w' (.slice r1 n1 e1) o.xs ∧ OwnP 73 B5 w' (.slice r2 n2 e2) o.ps ∧ Row w' w5.heap.size 31 [.slice r1 n1 e1, .slice r2 n2 e2, .string o.t, .int .i64 0, .string ⟨#[]⟩, .int .i64 o.c]) H9.out)
  clear hb10 H9 b0 b1 b2 b3 b4 b5 h0 h1 h2 h3 h4 h5
  have h0 : w10.cell? ⟨w5.heap.size, 0, none⟩ = some (.slice r1 n1 e1) := H10.out.2.2.2.2.2.2.2.2.2.cell 0
  have h1 : w10.cell? ⟨w5.heap.size, 1, none⟩ = some (.slice r2 n2 e2) := H10.out.2.2.2.2.2.2.2.2.2.cell 1
  have h2 : w10.cell? ⟨w5.heap.size, 2, none⟩ = some (.string o.t) := H10.out.2.2.2.2.2.2.2.2.2.cell 2
  have h3 : w10.cell? ⟨w5.heap.size, 3, none⟩ = some (.int .i64 0) := H10.out.2.2.2.2.2.2.2.2.2.cell 3
  have h4 : w10.cell? ⟨w5.heap.size, 4, none⟩ = some (.string ⟨#[]⟩) := H10.out.2.2.2.2.2.2.2.2.2.cell 4
  have h5 : w10.cell? ⟨w5.heap.size, 5, none⟩ = some (.int .i64 o.c) := H10.out.2.2.2.2.2.2.2.2.2.cell 5
  go_wp2_with fail
  obtain ⟨K, hK⟩ : ∃ K : Int, K = ((1 + o.xs.length + o.ps.length * 2 : Nat) : Int) := ⟨_, rfl⟩
  have tq : ¬ K < 0 := by omega
  have HKq := hide hK
  clear hK
  refine (markEngineOut_own _ _ _ o.xs o.ps o.t o.c 1 _ l1 l2 (by omega) H10.out.2.2.2.2.2.2.2.1 H10.out.2.2.2.2.2.2.2.2.1 D5.out).mono ?_
  rw [← HKq.out]
  rintro e w11 ⟨rfl, o1, o2, hk⟩
  have ia : In (.slice r1 n1 e1) B5 w5.heap.size := I5.out.1
  have ib : In (.slice r2 n2 e2) B5 w5.heap.size := I5.out.2
  have H11 := hide (show (fun w' => Below w.heap.size w w' ∧ Reads w' (.slice p1 xs.length c1) xs ∧ ReadsP w' (.slice p2 ps.length c2) ps ∧ Row w' w.heap.size 25 [.slice p1 xs.length c1, .slice p2 ps.length c2] ∧ Reads w' (.slice i1 j1 k1) o.xs ∧ ReadsP w' (.slice i2 j2 k2) o.ps ∧ Row w' w3.heap.size 31 [.slice i1 j1 k1, .slice i2 j2 k2, .string o.t, .int .i64 0, .string ⟨#[]⟩, .int .i64 o.c] ∧ Reads w' (.slice r1 n1 e1) (marks 1 o.xs.length) ∧ ReadsP w' (.slice r2 n2 e2) (marksP (1 + o.xs.length) o.ps.length) ∧ Row w' w5.heap.size 31 [.slice r1 n1 e1, .slice r2 n2 e2, .string o.t, .int .i64 0, .string ⟨#[]⟩, .int .i64 o.c]) w11 from ⟨hk.onBelow H10.out.1 (fun x hx => by have := ia.all ib x hx; omega), hk.reads H10.out.2.1 (I0.out.1.apart ia ib (.inl (by omega))), hk.readsP H10.out.2.2.1 (I0.out.2.apart ia ib (.inl (by omega))), hk.row H10.out.2.2.2.1 (ia.far ib (.inl (by omega))),
    hk.reads H10.out.2.2.2.2.1 (I3.out.1.apart ia ib (.inl (by omega))), hk.readsP H10.out.2.2.2.2.2.1 (I3.out.2.apart ia ib (.inl (by omega))), hk.row H10.out.2.2.2.2.2.2.1 (ia.far ib (.inl (by omega))),
    o1.reads, o2.reads, hk.row H10.out.2.2.2.2.2.2.2.2.2 (ia.far ib (.inr (Nat.le_refl _)))⟩)
  clear o1 o2 hk H10 ia ib h0 h1 h2 h3 h4 h5 tk
  have h0 : w11.cell? ⟨w5.heap.size, 0, none⟩ = some (.slice r1 n1 e1) := H11.out.2.2.2.2.2.2.2.2.2.cell 0
  have h1 : w11.cell? ⟨w5.heap.size, 1, none⟩ = some (.slice r2 n2 e2) := H11.out.2.2.2.2.2.2.2.2.2.cell 1
  have h2 : w11.cell? ⟨w5.heap.size, 2, none⟩ = some (.string o.t) := H11.out.2.2.2.2.2.2.2.2.2.cell 2
  have h3 : w11.cell? ⟨w5.heap.size, 3, none⟩ = some (.int .i64 0) := H11.out.2.2.2.2.2.2.2.2.2.cell 3
  have h4 : w11.cell? ⟨w5.heap.size, 4, none⟩ = some (.string ⟨#[]⟩) := H11.out.2.2.2.2.2.2.2.2.2.cell 4
  have h5 : w11.cell? ⟨w5.heap.size, 5, none⟩ = some (.int .i64 o.c) := H11.out.2.2.2.2.2.2.2.2.2.cell 5
  go_wp2_with fail
  refine (heldEngineOut_any _ _ o.t o.c 1 o.xs.length o.ps.length _ l1 l2 (by omega) H11.out.2.2.2.2.2.2.2.1 H11.out.2.2.2.2.2.2.2.2.1).mono ?_
  rw [← HKq.out]
  rintro e w12 ⟨rfl, hb12⟩
  have H12 := hide (Stab.go hb12 (P := fun w' => Below w.heap.size w w' ∧ Reads w' (.slice p1 xs.length c1) xs ∧ ReadsP w' (.slice p2 ps.length c2) ps ∧ Row w' w.heap.size 25 [.slice p1 xs.length c1, .slice p2 ps.length c2] ∧ Reads w' (.slice i1 j1 k1) o.xs ∧ ReadsP w' (.slice i2 j2 k2) o.ps ∧ Row w' w3.heap.size 31 [.slice i1 j1 k1, .slice i2 j2 k2, .string o.t, .int .i64 0, .string ⟨#[]⟩, .int .i64 o.c] ∧ Reads w' (.slice r1 n1 e1) (marks 1 o.xs.length) ∧ ReadsP w' (.slice r2 n2 e2) (marksP (1 + o.xs.length) o.ps.length) ∧ Row w' w5.heap.size 31 [.slice r1 n1 e1, .slice r2 n2 e2, .string o.t, .int .i64 0, .string ⟨#[]⟩, .int .i64 o.c]) H11.out)
  clear hb12 H11 h0 h1 h2 h3 h4 h5
  have a0 : w12.cell? ⟨w.heap.size, 0, none⟩ = some (.slice p1 xs.length c1) := H12.out.2.2.2.1.cell 0
  have a1 : w12.cell? ⟨w.heap.size, 1, none⟩ = some (.slice p2 ps.length c2) := H12.out.2.2.2.1.cell 1
  go_wp2_with fail
  refine (toDisk_any _ _ xs ps _ H12.out.2.1 H12.out.2.2.1 HSM.out).mono ?_
  rintro e w13 ⟨ys, yp, rfl, o1, o2, dd, hb13⟩
  have H13 := hide (Stab.go hb13 (P := fun w' => Below w.heap.size w w' ∧ Reads w' (.slice p1 xs.length c1) xs ∧ ReadsP w' (.slice p2 ps.length c2) ps ∧ Row w' w.heap.size 25 [.slice p1 xs.length c1, .slice p2 ps.length c2] ∧ Reads w' (.slice i1 j1 k1) o.xs ∧ ReadsP w' (.slice i2 j2 k2) o.ps ∧ Row w' w3.heap.size 31 [.slice i1 j1 k1, .slice i2 j2 k2, .string o.t, .int .i64 0, .string ⟨#[]⟩, .int .i64 o.c] ∧ Reads w' (.slice r1 n1 e1) (marks 1 o.xs.length) ∧ ReadsP w' (.slice r2 n2 e2) (marksP (1 + o.xs.length) o.ps.length) ∧ Row w' w5.heap.size 31 [.slice r1 n1 e1, .slice r2 n2 e2, .string o.t, .int .i64 0, .string ⟨#[]⟩, .int .i64 o.c]) H12.out)
  have HRy := hide o1.reads
  have HPy := hide o2.reads
  clear hb13 H12 o1 o2 dd a0 a1
  go_wp2_with fail
  refine (HII.out _ _ xs ps _ H13.out.1 x1 x3 HRy.out HPy.out).mono ?_
  rw [← HEQ.out]
  rintro e w14 ⟨⟨zs, zp, rfl, o1, o2, dd⟩, hb14⟩
  obtain ⟨u1, y1, v1, rfl⟩ := o1.isSlice
  obtain ⟨u2, y2, v2, rfl⟩ := o2.isSlice
  have bn := below_new w14 (.cells #[.slice u1 y1 v1, .slice u2 y2 v2, .string o.t, .int .i64 0, .string ⟨#[]⟩, .int .i64 o.c] 31)
  have H14 := hide (Stab.go (hb14.trans (bn.mono hb14.size)) (P := fun w' => Below w.heap.size w w' ∧ Reads w' (.slice p1 xs.length c1) xs ∧ ReadsP w' (.slice p2 ps.length c2) ps ∧ Row w' w.heap.size 25 [.slice p1 xs.length c1, .slice p2 ps.length c2] ∧ Reads w' (.slice i1 j1 k1) o.xs ∧ ReadsP w' (.slice i2 j2 k2) o.ps ∧ Row w' w3.heap.size 31 [.slice i1 j1 k1, .slice i2 j2 k2, .string o.t, .int .i64 0, .string ⟨#[]⟩, .int .i64 o.c] ∧ Reads w' (.slice r1 n1 e1) (marks 1 o.xs.length) ∧ ReadsP w' (.slice r2 n2 e2) (marksP (1 + o.xs.length) o.ps.length) ∧ Row w' w5.heap.size 31 [.slice r1 n1 e1, .slice r2 n2 e2, .string o.t, .int .i64 0, .string ⟨#[]⟩, .int .i64 o.c]) H13.out)
  have HRz := hide (o1.reads.below bn (Nat.le_refl _))
  have HPz := hide (o2.reads.below bn (Nat.le_refl _))
  have b0 : (w14.alloc (.cells #[.slice u1 y1 v1, .slice u2 y2 v2, .string o.t, .int .i64 0, .string ⟨#[]⟩, .int .i64 o.c] 31)).cell? ⟨w3.heap.size, 0, none⟩ = some (.slice i1 j1 k1) := H14.out.2.2.2.2.2.2.1.cell 0
  have b1 : (w14.alloc (.cells #[.slice u1 y1 v1, .slice u2 y2 v2, .string o.t, .int .i64 0, .string ⟨#[]⟩, .int .i64 o.c] 31)).cell? ⟨w3.heap.size, 1, none⟩ = some (.slice i2 j2 k2) := H14.out.2.2.2.2.2.2.1.cell 1
  have b2 : (w14.alloc (.cells #[.slice u1 y1 v1, .slice u2 y2 v2, .string o.t, .int .i64 0, .string ⟨#[]⟩, .int .i64 o.c] 31)).cell? ⟨w3.heap.size, 2, none⟩ = some (.string o.t) := H14.out.2.2.2.2.2.2.1.cell 2
  have b3 : (w14.alloc (.cells #[.slice u1 y1 v1, .slice u2 y2 v2, .string o.t, .int .i64 0, .string ⟨#[]⟩, .int .i64 o.c] 31)).cell? ⟨w3.heap.size, 3, none⟩ = some (.int .i64 0) := H14.out.2.2.2.2.2.2.1.cell 3
  have b4 : (w14.alloc (.cells #[.slice u1 y1 v1, .slice u2 y2 v2, .string o.t, .int .i64 0, .string ⟨#[]⟩, .int .i64 o.c] 31)).cell? ⟨w3.heap.size, 4, none⟩ = some (.string ⟨#[]⟩) := H14.out.2.2.2.2.2.2.1.cell 4
  have b5 : (w14.alloc (.cells #[.slice u1 y1 v1, .slice u2 y2 v2, .string o.t, .int .i64 0, .string ⟨#[]⟩, .int .i64 o.c] 31)).cell? ⟨w3.heap.size, 5, none⟩ = some (.int .i64 o.c) := H14.out.2.2.2.2.2.2.1.cell 5
  clear hb14 bn H13 o1 o2 dd HRy HPy
  go_wp2_with fail
  refine (eqEngineOut_same _ _ _ _ o.xs o.ps o.t o.c _ l1 l2 HRz.out HPz.out H14.out.2.2.2.2.1 H14.out.2.2.2.2.2.1).mono ?_
  rintro e w15 ⟨rfl, hb15⟩
  have H15 := hide (Stab.go hb15 (P := fun w' => Below w.heap.size w w' ∧ Reads w' (.slice p1 xs.length c1) xs ∧ ReadsP w' (.slice p2 ps.length c2) ps ∧ Row w' w.heap.size 25 [.slice p1 xs.length c1, .slice p2 ps.length c2] ∧ Reads w' (.slice i1 j1 k1) o.xs ∧ ReadsP w' (.slice i2 j2 k2) o.ps ∧ Row w' w3.heap.size 31 [.slice i1 j1 k1, .slice i2 j2 k2, .string o.t, .int .i64 0, .string ⟨#[]⟩, .int .i64 o.c] ∧ Reads w' (.slice r1 n1 e1) (marks 1 o.xs.length) ∧ ReadsP w' (.slice r2 n2 e2) (marksP (1 + o.xs.length) o.ps.length) ∧ Row w' w5.heap.size 31 [.slice r1 n1 e1, .slice r2 n2 e2, .string o.t, .int .i64 0, .string ⟨#[]⟩, .int .i64 o.c]) H14.out)
  clear hb15 H14 b0 b1 b2 b3 b4 b5
  have h0 : w15.cell? ⟨w5.heap.size, 0, none⟩ = some (.slice r1 n1 e1) := H15.out.2.2.2.2.2.2.2.2.2.cell 0
  have h1 : w15.cell? ⟨w5.heap.size, 1, none⟩ = some (.slice r2 n2 e2) := H15.out.2.2.2.2.2.2.2.2.2.cell 1
  have h2 : w15.cell? ⟨w5.heap.size, 2, none⟩ = some (.string o.t) := H15.out.2.2.2.2.2.2.2.2.2.cell 2
  have h3 : w15.cell? ⟨w5.heap.size, 3, none⟩ = some (.int .i64 0) := H15.out.2.2.2.2.2.2.2.2.2.cell 3
  have h4 : w15.cell? ⟨w5.heap.size, 4, none⟩ = some (.string ⟨#[]⟩) := H15.out.2.2.2.2.2.2.2.2.2.cell 4
  have h5 : w15.cell? ⟨w5.heap.size, 5, none⟩ = some (.int .i64 o.c) := H15.out.2.2.2.2.2.2.2.2.2.cell 5
  go_wp2_with fail
  refine (heldEngineOut_any _ _ o.t o.c 1 o.xs.length o.ps.length _ l1 l2 (by omega) H15.out.2.2.2.2.2.2.2.1 H15.out.2.2.2.2.2.2.2.2.1).mono ?_
  rw [← HKq.out]
  rintro e w16 ⟨rfl, hb16⟩
  have HB := hide (H15.out.1.trans (hb16.mono H15.out.1.size))
  clear hb16 H15 h0 h1 h2 h3 h4 h5
  go_wp2
  go_ret
  exact ⟨rfl, HB.out⟩
end Go.Proofs.YtbhdbkffejlfmaaGreatDoor

/- The law of Forget. -/
namespace Go.Proofs.YtbhdbkffejlfmaaGreatDoor
open Go.RowKit
theorem dropO_lenE (xs : List ByteArray) (ps : List (Int × ByteArray)) (d : ByteArray) (a : Int) : (dropO xs ps d a).xs.length ≤ 1048576 ∧ (dropO xs ps d a).ps.length ≤ 1048576 := by
  unfold dropO
  split
  · exact ⟨Nat.zero_le _, Nat.zero_le _⟩
  · split
    · exact ⟨Nat.zero_le _, Nat.zero_le _⟩
    · exact putOut_len _ _
set_option maxHeartbeats 2000000 in
theorem forgetLaw_long (w : World) (a : Int) (d : ByteArray) (hd : 1048576 < d.size) (hm : d.size ≤ maxLen) (vs vp : Value) :
    Calls Tryz.prog 4 #[.agg #[vs, vp], .string d, .int .i64 a] w fun e w' => e = .returned (.bool true) ∧ Below w.heap.size w w' := by
  have HB0 := hide (below_new w (.cells #[vs, vp] 25))
  unfold maxLen at hm
  have t : (1048576 : Int) < (d.size : Int) := by omega
  go_enter Tryz.func4, Tryz.ntmps4
  go_wp2
  go_ret
  exact ⟨rfl, HB0.out⟩
theorem forgetLaw (aF aR aU : Addr) (w : World) (hS : Sents aF aR aU w) (hG : St3.Laid w) (d : ByteArray) (hm : d.size ≤ maxLen) (a : Int) (vs vp : Value) (xs : List ByteArray) (ps : List (Int × ByteArray)) (hr : Reads w vs xs) (hp : ReadsP w vp ps) :
    Calls Tryz.prog 4 #[.agg #[vs, vp], .string d, .int .i64 a] w fun e w' => e = .returned (.bool true) ∧ Below w.heap.size w w' := by
  by_cases hd : 1048576 < d.size
  · exact forgetLaw_long w a d hd hm vs vp
  · exact lawKForget w d a (by omega) (fun vs vp xs ps w' hb h1 h2 h3 h4 => implForget_any vs vp xs ps d a aF aR aU w' h1 h2 (by omega) h3 h4 (Stab.go hb hS) (Stab.go hb hG)) vs vp xs ps hr hp (fun _ => dropO_lenE xs ps d a)
end Go.Proofs.YtbhdbkffejlfmaaGreatDoor
