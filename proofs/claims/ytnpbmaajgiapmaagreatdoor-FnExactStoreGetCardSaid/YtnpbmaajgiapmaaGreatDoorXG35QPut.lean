/- putStore of the program: AreaPut of what storeText tells. -/
import Derived.Test.YtnpbmaajgiapmaaGreatDoorXG34IHead4
import Derived.OrdersHeld
import Derived.Deep.RegionHeld3
import Derived.Test.YtnpbmaajgiapmaaGreatDoorXG12QStText
import Derived.Test.YtnpbmaajgiapmaaGreatDoorXG23SARead2
import Derived.Sort.Walk0
import Derived.BigQuiet
import Derived.Laws.Cover1
namespace Go.Proofs.YtnpbmaajgiapmaaGreatDoor
open Go.RowKit

/-- The answer of a store's face: a disk, a text, a code. -/
structure KOut where
  xs : List ByteArray
  ps : List (Int × ByteArray)
  t : ByteArray
  c : Int
def kill (c : Int) : KOut := ⟨[], [], ⟨#[]⟩, c⟩
/-- The call ended with the answer o, in memory of its own. -/
def KOutIs (B : Nat) (e : Ending) (w : World) (o : KOut) : Prop :=
  ∃ us up, e = .returned (.agg #[us, up, .string o.t, .int .i64 o.c]) ∧ OwnS 9 B w us o.xs ∧ OwnP 92 B w up o.ps ∧ ∀ x ∈ leads us, x ∉ leads up
theorem KOutIs.ill (B : Nat) (w : World) (c : Int) : KOutIs B (.returned (.agg #[.slice none 0 0, .slice none 0 0, .string ⟨#[]⟩, .int .i64 c])) w (kill c) :=
  ⟨_, _, rfl, OwnS.none _ _ _, OwnP.none _ _ _, fun _ h => by cases h⟩
def kput (xs : List ByteArray) (ps : List (Int × ByteArray)) (d : ByteArray) (a : Int) : KOut := ⟨(putOut xs ps d a).xs, (putOut xs ps d a).ps, ⟨#[]⟩, (putOut xs ps d a).c⟩
theorem putEnd {w W Z V V2 : World} {E5 : Nat} {us up : Value} {y : AOut} (h0 : Below w.heap.size w W) (hz : Below W.heap.size W Z) (hge : w.heap.size + 2 ≤ E5) (hws : w.heap.size + 2 = W.heap.size) (k1 : Kept [E5] Z V) (k2 : Kept [w.heap.size + 1] V V2)
    (o1 : OwnS 9 (w.heap.size + 2) Z us y.xs) (o2 : OwnP 92 (w.heap.size + 2) Z up y.ps) (dd : ∀ x ∈ leads us, x ∉ leads up) (l1 : ∀ x ∈ leads us, x ≠ E5) (l2 : ∀ x ∈ leads up, x ≠ E5) :
    KOutIs w.heap.size (.returned (.agg #[us, up, .string ⟨#[]⟩, .int .i64 y.c])) V2 ⟨y.xs, y.ps, ⟨#[]⟩, y.c⟩ ∧ Below w.heap.size w V2 := by
  have K := (k1.mono (S' := [E5, w.heap.size + 1]) (by simp)).trans (k2.mono (S' := [E5, w.heap.size + 1]) (by simp))
  have hb := h0.trans (hz.mono h0.size)
  refine ⟨⟨us, up, rfl, (o1.kept K ?_).mono (by omega), (o2.kept K ?_).mono (by omega), dd⟩, K.toBelow hb hb.size ?_⟩
  · intro x hx
    have := l1 x hx
    have := (o1.leads x hx).1
    simp
    omega
  · intro x hx
    have := l2 x hx
    have := (o2.leads x hx).1
    simp
    omega
  · simp
    omega

set_option maxHeartbeats 8000000 in
set_option maxRecDepth 100000 in
theorem putStore_any (T : ByteArray) (m vs vp : Value) (xs : List ByteArray) (ps : List (Int × ByteArray)) (a : Int) (aF aR aU : Addr) (w : World) (hn : xs.length ≤ 1048576) (hn2 : ps.length ≤ 1048576) (hd : T.size ≤ 1048576) (hr : Reads w vs xs) (hp : ReadsP w vp ps) (hS : Sents aF aR aU w) (hG : St3.Laid w)
    (HT : ∀ w', Below w.heap.size w w' → Calls Tryz.prog 83 #[m] w' fun e w'' => e = .returned (.string T) ∧ Below w'.heap.size w' w'') :
    Calls Tryz.prog 41 #[.agg #[vs, vp], m, .int .i64 a] w fun e w' => KOutIs w.heap.size e w' (kput xs ps T a) ∧ Below w.heap.size w w' := by
  obtain ⟨y, HY⟩ : ∃ y, Hid (y = putOut xs ps T a) := ⟨_, rfl⟩
  have HKO : kput xs ps T a = ⟨y.xs, y.ps, ⟨#[]⟩, y.c⟩ := by rw [HY.out]; rfl
  rw [HKO]
  clear HKO
  have HTS := hide hd
  have HSw := hide hS
  have HR := hide hr
  have HP := hide hp
  have HTh := hide HT
  have HGh := hide hG
  clear hS hd hG HT
  obtain ⟨p1, c1, rfl, _⟩ := hr
  obtain ⟨p2, c2, rfl, _⟩ := hp
  obtain ⟨W, hW⟩ : ∃ W, W = (w.alloc (.cells #[.slice p1 xs.length c1, .slice p2 ps.length c2] 30)).alloc (.cells #[.slice none 0 0, .slice none 0 0, .string ⟨#[]⟩, .int .i64 0] 38) := ⟨_, rfl⟩
  have HB0 := hide (show Below w.heap.size w W by rw [hW]; exact ((Below.refl _ _).alloc (Nat.le_refl _) _).alloc (by simp) _)
  have HWS := hide (show w.heap.size + 2 = W.heap.size by rw [hW]; simp)
  have HRD := hide (show Row W w.heap.size 30 [.slice p1 xs.length c1, .slice p2 ps.length c2] by rw [hW]; exact (row_new w _ _).alloc _)
  have HRO := hide (show Row W (w.heap.size + 1) 38 [.slice none 0 0, .slice none 0 0, .string ⟨#[]⟩, .int .i64 0] by
    rw [hW]
    have := row_new (w.alloc (.cells #[.slice p1 xs.length c1, .slice p2 ps.length c2] 30)) [.slice none 0 0, .slice none 0 0, .string ⟨#[]⟩, .int .i64 0] 38
    simpa using this)
  go_enter Tryz.func41, Tryz.ntmps41
  go_upto_region 1 with fail
  rw [← hW]
  clear hW
  have HT := HTh
  have HG := HGh
  clear HTh HGh
  have HSS := hide (show ∀ y : World, Below W.heap.size W y → (y.cell? ⟨w.heap.size, 0, none⟩ = some (.slice p1 xs.length c1) ∧ y.cell? ⟨w.heap.size, 1, none⟩ = some (.slice p2 ps.length c2)) from
    fun y hb => ⟨(HRD.out.below hb HRD.out.lt).cell 0, (HRD.out.below hb HRD.out.lt).cell 1⟩)
  have HSK := hide (show ∀ (y v : World) {E : Nat}, Below W.heap.size W y → Kept [E] y v → w.heap.size + 2 ≤ E → (v.cell? ⟨w.heap.size, 0, none⟩ = some (.slice p1 xs.length c1) ∧ v.cell? ⟨w.heap.size, 1, none⟩ = some (.slice p2 ps.length c2)) from
    fun y v E hb k hE => ⟨(k.row (HRD.out.below hb HRD.out.lt) (by simp; omega)).cell 0, (k.row (HRD.out.below hb HRD.out.lt) (by simp; omega)).cell 1⟩)
  refine wp_region_held (S := fun y : World => y.cell? ⟨w.heap.size, 0, none⟩ = some (.slice p1 xs.length c1) ∧ y.cell? ⟨w.heap.size, 1, none⟩ = some (.slice p2 ps.length c2)) (by kernel_rfl) ?_
  have HZ1 := hide (show Below W.heap.size W { W with drawn := W.drawn + 1 } from (Below.refl _ W).drew)
  generalize ({ W with drawn := W.drawn + 1 } : World) = Z1 at HZ1 ⊢
  have HS := hide (HSS.out _ HZ1.out)
  refine wpAnyH_take (i := 0) (oi := _) (v := .agg #[.slice p1 xs.length c1, .slice p2 ps.length c2]) rfl (by kernel_rfl) (by kernel_rfl) (by kernel_rfl) (fun _ _ _ h => h) (Or.inl ⟨by rfl, by intro w hSw; go_split_ands; go_simp⟩) HS.out ?_
  simp only [Act.put, List.getElem_toArray, List.getElem_cons_zero, List.setIfInBounds_toArray, List.set_cons_zero, List.set_cons_succ]
  refine wpAnyH_take (i := 1) (oi := _) (v := m) rfl (by kernel_rfl) (by kernel_rfl) (by kernel_rfl) (fun _ _ _ h => h) (Or.inl ⟨by rfl, by intro w hSw; go_split_ands; go_simp⟩) HS.out ?_
  simp only [Act.put, List.getElem_toArray, List.getElem_cons_zero, List.getElem_cons_succ, List.setIfInBounds_toArray, List.set_cons_zero, List.set_cons_succ]
  refine wpAnyH_take (i := 3) (oi := _) (v := .int .i64 a) rfl (by kernel_rfl) (by kernel_rfl) (by kernel_rfl) (fun _ _ _ h => h) (Or.inl ⟨by rfl, by intro w hSw; go_split_ands; go_simp⟩) HS.out ?_
  simp only [Act.put, List.getElem_toArray, List.getElem_cons_zero, List.getElem_cons_succ, List.setIfInBounds_toArray, List.set_cons_zero, List.set_cons_succ]
  refine wpAnyH_ready (rs := [2, 5]) (by kernel_rfl) (by simp) ?_
  refine AllReadyH.cons (o := _) rfl (fun K hK => ?_) (AllReadyH.cons (o := _) rfl (fun K hK => ?_) AllReadyH.nil)
  · go_simp
    refine (HT.out _ (HB0.out.trans (HZ1.out.mono HB0.out.size))).mono ?_
    rintro e Z2 ⟨rfl, hbc⟩
    have HZ2 := hide (HZ1.out.trans (hbc.mono HZ1.out.size))
    clear hbc
    refine hK.out _ _ (HSS.out _ HZ2.out) (fun _ => ?_)
    clear hK K HS
    have HS := hide (HSS.out _ HZ2.out)
    try simp only [Act.put, List.getElem_toArray, List.getElem_cons_zero, List.getElem_cons_succ, List.setIfInBounds_toArray, List.set_cons_zero, List.set_cons_succ]
    refine wpAnyH_ready (rs := [4, 5]) (by kernel_rfl) (by simp) ?_
    refine AllReadyH.cons (o := _) rfl (fun K hK => ?_) (AllReadyH.cons (o := _) rfl (fun K hK => ?_) AllReadyH.nil)
    · have hbx := HB0.out.trans (HZ2.out.mono HB0.out.size)
      have HBX := hide hbx
      clear hbx
      go_simp
      refine (implAPut_any _ _ xs ps T a aF aR aU _ hn hn2 HTS.out (HR.out.below HBX.out (Nat.le_refl _)) (HP.out.below HBX.out (Nat.le_refl _)) (Stab.go HBX.out HSw.out) (fun hok vs vp w'' hb' hr hp => readArea_any vs vp xs ps w'' hr hp hok (Stab.go hb' (Stab.go HBX.out HG.out)))).mono ?_
      rw [← HY.out]
      rintro e Z3 ⟨⟨us, up, rfl, o1, o2, dd⟩, hbc⟩
      obtain ⟨s1, s2, s3, rfl⟩ := o1.isSlice
      obtain ⟨s4, s5, s6, rfl⟩ := o2.isSlice
      have HZ3 := hide (HZ2.out.trans (hbc.mono HZ2.out.size))
      have HW := hide HBX.out.size
      have O1 := hide (o1.mono (by have := HWS.out; have := HZ2.out.size; omega : w.heap.size + 2 ≤ Z2.heap.size))
      have O2 := hide (o2.mono (by have := HWS.out; have := HZ2.out.size; omega : w.heap.size + 2 ≤ Z2.heap.size))
      have DD := hide dd
      clear hbc o1 o2 dd HBX HW
      refine hK.out _ _ (HSS.out _ HZ3.out) (fun _ => ?_)
      clear hK K HS
      have HS := hide (HSS.out _ HZ3.out)
      try simp only [Act.put, List.getElem_toArray, List.getElem_cons_zero, List.getElem_cons_succ, List.setIfInBounds_toArray, List.set_cons_zero, List.set_cons_succ]
      refine wpAnyH_ready (rs := [5]) (by kernel_rfl) (by simp) ?_
      refine AllReadyH.cons (o := _) rfl (fun K hK => ?_) AllReadyH.nil
      go_simp
      have HZ4 := hide (HZ3.out.alloc HZ3.out.size (.cells #[.slice none 0 0, .slice none 0 0, .string ⟨#[]⟩, .int .i64 0, .int .i64 0] 63))
      have HRA := hide (row_new Z3 [.slice none 0 0, .slice none 0 0, .string ⟨#[]⟩, .int .i64 0, .int .i64 0] 63)
      have HGE := hide (show w.heap.size + 2 ≤ Z3.heap.size from Nat.le_trans (Nat.le_of_eq HWS.out) HZ3.out.size)
      refine hK.out _ _ (HSS.out _ HZ4.out) (fun _ => ?_)
      clear hK K HS
      have L1 := hide (show ∀ x ∈ leads (.slice s1 s2 s3), x ≠ Z3.heap.size from fun x hx => by have := (O1.out.leads x hx).2; omega)
      have L2 := hide (show ∀ x ∈ leads (.slice s4 s5 s6), x ≠ Z3.heap.size from fun x hx => by have := (O2.out.leads x hx).2; omega)
      have hbn := below_new Z3 (.cells #[.slice none 0 0, .slice none 0 0, .string ⟨#[]⟩, .int .i64 0, .int .i64 0] 63)
      have O1 := hide (O1.out.below hbn (Nat.le_refl _))
      have O2 := hide (O2.out.below hbn (Nat.le_refl _))
      clear hbn
      generalize hZ : Z3.alloc (.cells #[.slice none 0 0, .slice none 0 0, .string ⟨#[]⟩, .int .i64 0, .int .i64 0] 63) = Z4 at HZ4 HRA O1 O2 ⊢
      generalize Z3.heap.size = E5 at HRA HGE L1 L2 ⊢
      clear hZ
      have HS := hide (HSS.out _ HZ4.out)
      try simp only [Act.put, List.getElem_toArray, List.getElem_cons_zero, List.getElem_cons_succ, List.setIfInBounds_toArray, List.set_cons_zero, List.set_cons_succ]
      refine wpAnyH_ready (rs := [6]) (by kernel_rfl) (by simp) ?_
      refine AllReadyH.cons (o := _) rfl (fun K hK => ?_) AllReadyH.nil
      have d0 : Z4.cell? ⟨E5, 0, none⟩ = some (.slice none 0 0) := HRA.out.cell 0
      have d1 : Z4.cell? ⟨E5, 1, none⟩ = some (.slice none 0 0) := HRA.out.cell 1
      have d2 : Z4.cell? ⟨E5, 2, none⟩ = some (.string ⟨#[]⟩) := HRA.out.cell 2
      have d3 : Z4.cell? ⟨E5, 3, none⟩ = some (.int .i64 0) := HRA.out.cell 3
      have d4 : Z4.cell? ⟨E5, 4, none⟩ = some (.int .i64 0) := HRA.out.cell 4
      have f0 := HRA.out.free 0
      have f1 := HRA.out.free 1
      have f2 := HRA.out.free 2
      have f3 := HRA.out.free 3
      have f4 := HRA.out.free 4
      obtain ⟨q0, q1, q2, q3, q4, KF⟩ := five HRA.out (.slice s1 s2 s3) (.slice s4 s5 s6) (.string y.t) (.int .i64 y.g) (.int .i64 y.c)
      have HKF := hide KF
      have HRow := hide (((((HRA.out.set (j := 0) (.slice s1 s2 s3)).set (j := 1) (.slice s4 s5 s6)).set (j := 2) (.string y.t)).set (j := 3) (.int .i64 y.g)).set (j := 4) (.int .i64 y.c))
      have HSF := hide (HSK.out _ _ HZ4.out HKF.out HGE.out)
      clear q0 q1 q2 q3 q4 KF
      go_simp
      refine hK.out _ _ HSF.out (fun _ => ?_)
      clear hK K d0 d1 d2 d3 d4 f0 f1 f2 f3 f4 HS
      refine wpAnyH_done (by kernel_rfl) ?_ _
      have HR9 := hide (HKF.out.row (HRO.out.below HZ4.out HRO.out.lt) (by have := HGE.out; simp; omega))
      generalize hV : World.setCell (World.setCell (World.setCell (World.setCell (World.setCell Z4 ⟨E5, 0, none⟩ (.slice s1 s2 s3)) ⟨E5, 1, none⟩ (.slice s4 s5 s6)) ⟨E5, 2, none⟩ (.string y.t)) ⟨E5, 3, none⟩ (.int .i64 y.g)) ⟨E5, 4, none⟩ (.int .i64 y.c) = V at HRow HKF HR9 ⊢
      clear hV HSF
      have q0 : V.cell? ⟨E5, 0, none⟩ = some (.slice s1 s2 s3) := HRow.out.cell 0
      have q1 : V.cell? ⟨E5, 1, none⟩ = some (.slice s4 s5 s6) := HRow.out.cell 1
      have q4 : V.cell? ⟨E5, 4, none⟩ = some (.int .i64 y.c) := HRow.out.cell 4
      have g0 : V.cell? ⟨w.heap.size + 1, 0, none⟩ = some (.slice none 0 0) := HR9.out.cell 0
      have g1 : V.cell? ⟨w.heap.size + 1, 1, none⟩ = some (.slice none 0 0) := HR9.out.cell 1
      have g2 : V.cell? ⟨w.heap.size + 1, 2, none⟩ = some (.string ⟨#[]⟩) := HR9.out.cell 2
      have g3 : V.cell? ⟨w.heap.size + 1, 3, none⟩ = some (.int .i64 0) := HR9.out.cell 3
      have h0 := HR9.out.free 0
      have h1 := HR9.out.free 1
      have h2 := HR9.out.free 2
      have h3 := HR9.out.free 3
      go_wp2
      obtain ⟨r0, r1, r2, r3, KG⟩ := four HR9.out (.slice s1 s2 s3) (.slice s4 s5 s6) (.string ⟨#[]⟩) (.int .i64 y.c)
      exact bodyPost_ret (v := .agg #[.slice s1 s2 s3, .slice s4 s5 s6, .string ⟨#[]⟩, .int .i64 y.c]) (by simp [results, Tryz.results41, go_sem, r0, r1, r2, r3]) rfl
        (putEnd HB0.out HZ4.out HGE.out HWS.out HKF.out KG O1.out O2.out DD.out L1.out L2.out)
    · go_simp
      have HZ3 := hide (HZ2.out.alloc HZ2.out.size (.cells #[.slice none 0 0, .slice none 0 0, .string ⟨#[]⟩, .int .i64 0, .int .i64 0] 63))
      have HRA := hide (row_new Z2 [.slice none 0 0, .slice none 0 0, .string ⟨#[]⟩, .int .i64 0, .int .i64 0] 63)
      have HGE := hide (show w.heap.size + 2 ≤ Z2.heap.size from Nat.le_trans (Nat.le_of_eq HWS.out) HZ2.out.size)
      refine hK.out _ _ (HSS.out _ HZ3.out) (fun _ => ?_)
      clear hK K HS
      generalize hZ : Z2.alloc (.cells #[.slice none 0 0, .slice none 0 0, .string ⟨#[]⟩, .int .i64 0, .int .i64 0] 63) = Z3 at HZ3 HRA ⊢
      generalize Z2.heap.size = E5 at HRA HGE ⊢
      clear hZ
      have HS := hide (HSS.out _ HZ3.out)
      try simp only [Act.put, List.getElem_toArray, List.getElem_cons_zero, List.getElem_cons_succ, List.setIfInBounds_toArray, List.set_cons_zero, List.set_cons_succ]
      refine wpAnyH_ready (rs := [4]) (by kernel_rfl) (by simp) ?_
      refine AllReadyH.cons (o := _) rfl (fun K hK => ?_) AllReadyH.nil
      have hbx := HB0.out.trans (HZ3.out.mono HB0.out.size)
      have HBX := hide hbx
      clear hbx
      go_simp
      refine (implAPut_any _ _ xs ps T a aF aR aU _ hn hn2 HTS.out (HR.out.below HBX.out (Nat.le_refl _)) (HP.out.below HBX.out (Nat.le_refl _)) (Stab.go HBX.out HSw.out) (fun hok vs vp w'' hb' hr hp => readArea_any vs vp xs ps w'' hr hp hok (Stab.go hb' (Stab.go HBX.out HG.out)))).mono ?_
      rw [← HY.out]
      rintro e Z4 ⟨⟨us, up, rfl, o1, o2, dd⟩, hbc⟩
      obtain ⟨s1, s2, s3, rfl⟩ := o1.isSlice
      obtain ⟨s4, s5, s6, rfl⟩ := o2.isSlice
      have HZ4 := hide (HZ3.out.trans (hbc.mono HZ3.out.size))
      have HW := hide HBX.out.size
      have O1 := hide (o1.mono (by have := HWS.out; have := HZ3.out.size; omega : w.heap.size + 2 ≤ Z3.heap.size))
      have O2 := hide (o2.mono (by have := HWS.out; have := HZ3.out.size; omega : w.heap.size + 2 ≤ Z3.heap.size))
      have DD := hide dd
      have L1 := hide (show ∀ x ∈ leads (.slice s1 s2 s3), x ≠ E5 from fun x hx => by have := (o1.leads x hx).1; have := HRA.out.lt; omega)
      have L2 := hide (show ∀ x ∈ leads (.slice s4 s5 s6), x ≠ E5 from fun x hx => by have := (o2.leads x hx).1; have := HRA.out.lt; omega)
      have HRA := hide (HRA.out.below hbc HRA.out.lt)
      clear hbc o1 o2 dd HBX HW
      refine hK.out _ _ (HSS.out _ HZ4.out) (fun _ => ?_)
      clear hK K HS
      have HS := hide (HSS.out _ HZ4.out)
      try simp only [Act.put, List.getElem_toArray, List.getElem_cons_zero, List.getElem_cons_succ, List.setIfInBounds_toArray, List.set_cons_zero, List.set_cons_succ]
      refine wpAnyH_ready (rs := [6]) (by kernel_rfl) (by simp) ?_
      refine AllReadyH.cons (o := _) rfl (fun K hK => ?_) AllReadyH.nil
      have d0 : Z4.cell? ⟨E5, 0, none⟩ = some (.slice none 0 0) := HRA.out.cell 0
      have d1 : Z4.cell? ⟨E5, 1, none⟩ = some (.slice none 0 0) := HRA.out.cell 1
      have d2 : Z4.cell? ⟨E5, 2, none⟩ = some (.string ⟨#[]⟩) := HRA.out.cell 2
      have d3 : Z4.cell? ⟨E5, 3, none⟩ = some (.int .i64 0) := HRA.out.cell 3
      have d4 : Z4.cell? ⟨E5, 4, none⟩ = some (.int .i64 0) := HRA.out.cell 4
      have f0 := HRA.out.free 0
      have f1 := HRA.out.free 1
      have f2 := HRA.out.free 2
      have f3 := HRA.out.free 3
      have f4 := HRA.out.free 4
      obtain ⟨q0, q1, q2, q3, q4, KF⟩ := five HRA.out (.slice s1 s2 s3) (.slice s4 s5 s6) (.string y.t) (.int .i64 y.g) (.int .i64 y.c)
      have HKF := hide KF
      have HRow := hide (((((HRA.out.set (j := 0) (.slice s1 s2 s3)).set (j := 1) (.slice s4 s5 s6)).set (j := 2) (.string y.t)).set (j := 3) (.int .i64 y.g)).set (j := 4) (.int .i64 y.c))
      have HSF := hide (HSK.out _ _ HZ4.out HKF.out HGE.out)
      clear q0 q1 q2 q3 q4 KF
      go_simp
      refine hK.out _ _ HSF.out (fun _ => ?_)
      clear hK K d0 d1 d2 d3 d4 f0 f1 f2 f3 f4 HS
      refine wpAnyH_done (by kernel_rfl) ?_ _
      have HR9 := hide (HKF.out.row (HRO.out.below HZ4.out HRO.out.lt) (by have := HGE.out; simp; omega))
      generalize hV : World.setCell (World.setCell (World.setCell (World.setCell (World.setCell Z4 ⟨E5, 0, none⟩ (.slice s1 s2 s3)) ⟨E5, 1, none⟩ (.slice s4 s5 s6)) ⟨E5, 2, none⟩ (.string y.t)) ⟨E5, 3, none⟩ (.int .i64 y.g)) ⟨E5, 4, none⟩ (.int .i64 y.c) = V at HRow HKF HR9 ⊢
      clear hV HSF
      have q0 : V.cell? ⟨E5, 0, none⟩ = some (.slice s1 s2 s3) := HRow.out.cell 0
      have q1 : V.cell? ⟨E5, 1, none⟩ = some (.slice s4 s5 s6) := HRow.out.cell 1
      have q4 : V.cell? ⟨E5, 4, none⟩ = some (.int .i64 y.c) := HRow.out.cell 4
      have g0 : V.cell? ⟨w.heap.size + 1, 0, none⟩ = some (.slice none 0 0) := HR9.out.cell 0
      have g1 : V.cell? ⟨w.heap.size + 1, 1, none⟩ = some (.slice none 0 0) := HR9.out.cell 1
      have g2 : V.cell? ⟨w.heap.size + 1, 2, none⟩ = some (.string ⟨#[]⟩) := HR9.out.cell 2
      have g3 : V.cell? ⟨w.heap.size + 1, 3, none⟩ = some (.int .i64 0) := HR9.out.cell 3
      have h0 := HR9.out.free 0
      have h1 := HR9.out.free 1
      have h2 := HR9.out.free 2
      have h3 := HR9.out.free 3
      go_wp2
      obtain ⟨r0, r1, r2, r3, KG⟩ := four HR9.out (.slice s1 s2 s3) (.slice s4 s5 s6) (.string ⟨#[]⟩) (.int .i64 y.c)
      exact bodyPost_ret (v := .agg #[.slice s1 s2 s3, .slice s4 s5 s6, .string ⟨#[]⟩, .int .i64 y.c]) (by simp [results, Tryz.results41, go_sem, r0, r1, r2, r3]) rfl
        (putEnd HB0.out HZ4.out HGE.out HWS.out HKF.out KG O1.out O2.out DD.out L1.out L2.out)
  · go_simp
    have HZ2 := hide (HZ1.out.alloc HZ1.out.size (.cells #[.slice none 0 0, .slice none 0 0, .string ⟨#[]⟩, .int .i64 0, .int .i64 0] 63))
    have HRA := hide (row_new Z1 [.slice none 0 0, .slice none 0 0, .string ⟨#[]⟩, .int .i64 0, .int .i64 0] 63)
    have HGE := hide (show w.heap.size + 2 ≤ Z1.heap.size from Nat.le_trans (Nat.le_of_eq HWS.out) HZ1.out.size)
    refine hK.out _ _ (HSS.out _ HZ2.out) (fun _ => ?_)
    clear hK K HS
    generalize hZ : Z1.alloc (.cells #[.slice none 0 0, .slice none 0 0, .string ⟨#[]⟩, .int .i64 0, .int .i64 0] 63) = Z2 at HZ2 HRA ⊢
    generalize Z1.heap.size = E5 at HRA HGE ⊢
    clear hZ
    have HS := hide (HSS.out _ HZ2.out)
    try simp only [Act.put, List.getElem_toArray, List.getElem_cons_zero, List.getElem_cons_succ, List.setIfInBounds_toArray, List.set_cons_zero, List.set_cons_succ]
    refine wpAnyH_ready (rs := [2]) (by kernel_rfl) (by simp) ?_
    refine AllReadyH.cons (o := _) rfl (fun K hK => ?_) AllReadyH.nil
    go_simp
    refine (HT.out _ (HB0.out.trans (HZ2.out.mono HB0.out.size))).mono ?_
    rintro e Z3 ⟨rfl, hbc⟩
    have HZ3 := hide (HZ2.out.trans (hbc.mono HZ2.out.size))
    have HRA := hide (HRA.out.below hbc HRA.out.lt)
    clear hbc
    refine hK.out _ _ (HSS.out _ HZ3.out) (fun _ => ?_)
    clear hK K HS
    have HS := hide (HSS.out _ HZ3.out)
    try simp only [Act.put, List.getElem_toArray, List.getElem_cons_zero, List.getElem_cons_succ, List.setIfInBounds_toArray, List.set_cons_zero, List.set_cons_succ]
    refine wpAnyH_ready (rs := [4]) (by kernel_rfl) (by simp) ?_
    refine AllReadyH.cons (o := _) rfl (fun K hK => ?_) AllReadyH.nil
    have hbx := HB0.out.trans (HZ3.out.mono HB0.out.size)
    have HBX := hide hbx
    clear hbx
    go_simp
    refine (implAPut_any _ _ xs ps T a aF aR aU _ hn hn2 HTS.out (HR.out.below HBX.out (Nat.le_refl _)) (HP.out.below HBX.out (Nat.le_refl _)) (Stab.go HBX.out HSw.out) (fun hok vs vp w'' hb' hr hp => readArea_any vs vp xs ps w'' hr hp hok (Stab.go hb' (Stab.go HBX.out HG.out)))).mono ?_
    rw [← HY.out]
    rintro e Z4 ⟨⟨us, up, rfl, o1, o2, dd⟩, hbc⟩
    obtain ⟨s1, s2, s3, rfl⟩ := o1.isSlice
    obtain ⟨s4, s5, s6, rfl⟩ := o2.isSlice
    have HZ4 := hide (HZ3.out.trans (hbc.mono HZ3.out.size))
    have HW := hide HBX.out.size
    have O1 := hide (o1.mono (by have := HWS.out; have := HZ3.out.size; omega : w.heap.size + 2 ≤ Z3.heap.size))
    have O2 := hide (o2.mono (by have := HWS.out; have := HZ3.out.size; omega : w.heap.size + 2 ≤ Z3.heap.size))
    have DD := hide dd
    have L1 := hide (show ∀ x ∈ leads (.slice s1 s2 s3), x ≠ E5 from fun x hx => by have := (o1.leads x hx).1; have := HRA.out.lt; omega)
    have L2 := hide (show ∀ x ∈ leads (.slice s4 s5 s6), x ≠ E5 from fun x hx => by have := (o2.leads x hx).1; have := HRA.out.lt; omega)
    have HRA := hide (HRA.out.below hbc HRA.out.lt)
    clear hbc o1 o2 dd HBX HW
    refine hK.out _ _ (HSS.out _ HZ4.out) (fun _ => ?_)
    clear hK K HS
    have HS := hide (HSS.out _ HZ4.out)
    try simp only [Act.put, List.getElem_toArray, List.getElem_cons_zero, List.getElem_cons_succ, List.setIfInBounds_toArray, List.set_cons_zero, List.set_cons_succ]
    refine wpAnyH_ready (rs := [6]) (by kernel_rfl) (by simp) ?_
    refine AllReadyH.cons (o := _) rfl (fun K hK => ?_) AllReadyH.nil
    have d0 : Z4.cell? ⟨E5, 0, none⟩ = some (.slice none 0 0) := HRA.out.cell 0
    have d1 : Z4.cell? ⟨E5, 1, none⟩ = some (.slice none 0 0) := HRA.out.cell 1
    have d2 : Z4.cell? ⟨E5, 2, none⟩ = some (.string ⟨#[]⟩) := HRA.out.cell 2
    have d3 : Z4.cell? ⟨E5, 3, none⟩ = some (.int .i64 0) := HRA.out.cell 3
    have d4 : Z4.cell? ⟨E5, 4, none⟩ = some (.int .i64 0) := HRA.out.cell 4
    have f0 := HRA.out.free 0
    have f1 := HRA.out.free 1
    have f2 := HRA.out.free 2
    have f3 := HRA.out.free 3
    have f4 := HRA.out.free 4
    obtain ⟨q0, q1, q2, q3, q4, KF⟩ := five HRA.out (.slice s1 s2 s3) (.slice s4 s5 s6) (.string y.t) (.int .i64 y.g) (.int .i64 y.c)
    have HKF := hide KF
    have HRow := hide (((((HRA.out.set (j := 0) (.slice s1 s2 s3)).set (j := 1) (.slice s4 s5 s6)).set (j := 2) (.string y.t)).set (j := 3) (.int .i64 y.g)).set (j := 4) (.int .i64 y.c))
    have HSF := hide (HSK.out _ _ HZ4.out HKF.out HGE.out)
    clear q0 q1 q2 q3 q4 KF
    go_simp
    refine hK.out _ _ HSF.out (fun _ => ?_)
    clear hK K d0 d1 d2 d3 d4 f0 f1 f2 f3 f4 HS
    refine wpAnyH_done (by kernel_rfl) ?_ _
    have HR9 := hide (HKF.out.row (HRO.out.below HZ4.out HRO.out.lt) (by have := HGE.out; simp; omega))
    generalize hV : World.setCell (World.setCell (World.setCell (World.setCell (World.setCell Z4 ⟨E5, 0, none⟩ (.slice s1 s2 s3)) ⟨E5, 1, none⟩ (.slice s4 s5 s6)) ⟨E5, 2, none⟩ (.string y.t)) ⟨E5, 3, none⟩ (.int .i64 y.g)) ⟨E5, 4, none⟩ (.int .i64 y.c) = V at HRow HKF HR9 ⊢
    clear hV HSF
    have q0 : V.cell? ⟨E5, 0, none⟩ = some (.slice s1 s2 s3) := HRow.out.cell 0
    have q1 : V.cell? ⟨E5, 1, none⟩ = some (.slice s4 s5 s6) := HRow.out.cell 1
    have q4 : V.cell? ⟨E5, 4, none⟩ = some (.int .i64 y.c) := HRow.out.cell 4
    have g0 : V.cell? ⟨w.heap.size + 1, 0, none⟩ = some (.slice none 0 0) := HR9.out.cell 0
    have g1 : V.cell? ⟨w.heap.size + 1, 1, none⟩ = some (.slice none 0 0) := HR9.out.cell 1
    have g2 : V.cell? ⟨w.heap.size + 1, 2, none⟩ = some (.string ⟨#[]⟩) := HR9.out.cell 2
    have g3 : V.cell? ⟨w.heap.size + 1, 3, none⟩ = some (.int .i64 0) := HR9.out.cell 3
    have h0 := HR9.out.free 0
    have h1 := HR9.out.free 1
    have h2 := HR9.out.free 2
    have h3 := HR9.out.free 3
    go_wp2
    obtain ⟨r0, r1, r2, r3, KG⟩ := four HR9.out (.slice s1 s2 s3) (.slice s4 s5 s6) (.string ⟨#[]⟩) (.int .i64 y.c)
    exact bodyPost_ret (v := .agg #[.slice s1 s2 s3, .slice s4 s5 s6, .string ⟨#[]⟩, .int .i64 y.c]) (by simp [results, Tryz.results41, go_sem, r0, r1, r2, r3]) rfl
      (putEnd HB0.out HZ4.out HGE.out HWS.out HKF.out KG O1.out O2.out DD.out L1.out L2.out)
end Go.Proofs.YtnpbmaajgiapmaaGreatDoor
/- One that is kept, read at a place: of the program. -/
namespace Go.Proofs.YtnpbmaajgiapmaaGreatDoor
open Go.RowKit
def flt (c : Int) : Value := .iface 125 (.agg #[.int .i64 c])
theorem storeRefusal_true (c : Int) (w : World) : Calls Tryz.prog 85 #[.bool true, .int .i64 c] w fun e w' => e = .returned (.iface 125 (.agg #[.int .i64 c])) ∧ w' = w := by
  go_enter Tryz.func85, Tryz.ntmps85
  go_wp2
  go_ret
  exact ⟨rfl, rfl⟩
theorem storeRefusal_false (c : Int) (w : World) : Calls Tryz.prog 85 #[.bool false, .int .i64 c] w fun e w' => e = .returned .nilIface ∧ w' = w := by
  go_enter Tryz.func85, Tryz.ntmps85
  go_wp2
  go_ret
  exact ⟨rfl, rfl⟩
/-- The call ended with both sides and the place behind them, or with a fault. -/
def KpIs (T : ByteArray) (A : Nat) (e : Ending) : Prop :=
  (((St4.textO T A).2.2 ≠ 0 ∨ (St4.textO T (St4.textO T A).2.1.toNat).2.2 ≠ 0 ∨ idB (St4.textO T A).1 = false) ∧ ∃ a b at_, e = .returned (.tuple #[.agg #[.string a, .string b], .int .i64 at_, .iface 125 (.agg #[.int .i64 1])])) ∨
  ((St4.textO T A).2.2 = 0 ∧ (St4.textO T (St4.textO T A).2.1.toNat).2.2 = 0 ∧ idB (St4.textO T A).1 = true ∧
    e = .returned (.tuple #[.agg #[.string (St4.textO T A).1, .string (St4.textO T (St4.textO T A).2.1.toNat).1], .int .i64 (((St4.textO T (St4.textO T A).2.1.toNat).2.1.toNat : Nat) : Int), .nilIface]))

set_option maxHeartbeats 16000000 in
set_option maxRecDepth 100000 in
theorem readKept_any (T : ByteArray) (A : Nat) (w : World) (hs : T.size ≤ 8000) (ha : A ≤ 8000) (hg : St3.Laid w) :
    Calls Tryz.prog 92 #[.string T, .int .i64 (A : Int)] w fun e w' => KpIs T A e ∧ Below w.heap.size w w' := by
  have HG := hide hg
  obtain ⟨W, hW⟩ : ∃ W, W = (w.alloc (.cells #[.string ⟨#[]⟩, .string ⟨#[]⟩] 130)).alloc (.cells #[.string ⟨#[]⟩, .string ⟨#[]⟩] 130) := ⟨_, rfl⟩
  have HB0 := hide (show Below w.heap.size w W by rw [hW]; exact ((Below.refl _ _).alloc (Nat.le_refl _) _).alloc (by simp) _)
  have HWS := hide (show W.heap.size = w.heap.size + 2 by rw [hW]; simp)
  have HR4 := hide (show Row W w.heap.size 130 [.string ⟨#[]⟩, .string ⟨#[]⟩] by rw [hW]; exact (row_new w _ _).alloc _)
  have HR7 := hide (show Row W (w.heap.size + 1) 130 [.string ⟨#[]⟩, .string ⟨#[]⟩] by
    rw [hW]
    have := row_new (w.alloc (.cells #[.string ⟨#[]⟩, .string ⟨#[]⟩] 130)) [.string ⟨#[]⟩, .string ⟨#[]⟩] 130
    simpa using this)
  obtain ⟨o1, ho1⟩ : ∃ o1, o1 = St4.textO T A := ⟨_, rfl⟩
  obtain ⟨o2, ho2⟩ : ∃ o2, o2 = St4.textO T o1.2.1.toNat := ⟨_, rfl⟩
  have HKP := hide (show ∀ e, KpIs T A e ↔ ((o1.2.2 ≠ 0 ∨ o2.2.2 ≠ 0 ∨ idB o1.1 = false) ∧ ∃ a b at_, e = .returned (.tuple #[.agg #[.string a, .string b], .int .i64 at_, .iface 125 (.agg #[.int .i64 1])])) ∨
    (o1.2.2 = 0 ∧ o2.2.2 = 0 ∧ idB o1.1 = true ∧ e = .returned (.tuple #[.agg #[.string o1.1, .string o2.1], .int .i64 ((o2.2.1.toNat : Nat) : Int), .nilIface])) from fun e => by rw [ho2, ho1]; exact Iff.rfl)
  have hto1 := St4.textO_at T A
  rw [← ho1] at hto1
  have HC1 := hide (St4.implGetText_any T A)
  rw [← ho1] at HC1
  have HC2 := hide (St4.implGetText_any T o1.2.1.toNat)
  rw [← ho2] at HC2
  have hto2 := St4.textO_at T o1.2.1.toNat
  rw [← ho2] at hto2
  clear ho1 ho2 hg
  obtain ⟨t1, A1, C1⟩ := o1
  obtain ⟨t2, A2, C2⟩ := o2
  simp only at HKP hto1 hto2 HC1 HC2
  have HH1 := hide hto1
  have HH2 := hide hto2
  clear hto1 hto2
  go_enter Tryz.func92, Tryz.ntmps92
  go_wp2_with fail
  rw [← hW]
  clear hW
  refine wp_loop_rounds 3 ?_
  rw [rounds_succ]
  go_wp2_with fail
  refine (HC1.out _ hs (by omega) (Stab.go HB0.out HG.out)).mono ?_
  rintro e w1 ⟨rfl, hb1⟩
  obtain ⟨X, hX⟩ : ∃ X, X = w1.alloc (.cells #[.string t1, .int .i64 A1, .int .i64 C1] 89) := ⟨_, rfl⟩
  have bn := hb1.trans ((below_new w1 (.cells #[.string t1, .int .i64 A1, .int .i64 C1] 89)).mono hb1.size)
  have HBX := hide (show Below w.heap.size w X by rw [hX]; exact HB0.out.trans (bn.mono HB0.out.size))
  have HR4 := hide (show Row X w.heap.size 130 [.string ⟨#[]⟩, .string ⟨#[]⟩] by rw [hX]; exact HR4.out.below bn HR4.out.lt)
  have HR7 := hide (show Row X (w.heap.size + 1) 130 [.string ⟨#[]⟩, .string ⟨#[]⟩] by rw [hX]; exact HR7.out.below bn HR7.out.lt)
  have HT1 := hide (show Row X w1.heap.size 89 [.string t1, .int .i64 A1, .int .i64 C1] by rw [hX]; exact row_new w1 _ _)
  have HX1 := hide (show w.heap.size + 1 < w1.heap.size by have := hb1.size; have := HWS.out; omega)
  have c70 : (w1.alloc (.cells #[.string t1, .int .i64 A1, .int .i64 C1] 89)).cell? ⟨w.heap.size + 1, 0, none⟩ = some (.string ⟨#[]⟩) := by rw [← hX]; exact HR7.out.cell 0
  have c71 : (w1.alloc (.cells #[.string t1, .int .i64 A1, .int .i64 C1] 89)).cell? ⟨w.heap.size + 1, 1, none⟩ = some (.string ⟨#[]⟩) := by rw [← hX]; exact HR7.out.cell 1
  have f70 : (w1.alloc (.cells #[.string t1, .int .i64 A1, .int .i64 C1] 89)).frozen? ⟨w.heap.size + 1, 0, none⟩ = false := by rw [← hX]; exact HR7.out.free 0
  clear hb1 bn
  by_cases hC1 : C1 = 0
  rotate_left
  · have hcb : (C1 != 0) = true := by simpa using hC1
    have HE := hide (fun e => (HKP.out e).2 ∘ Or.inl)
    have HC := hide hC1
    clear hC1
    have d0 : (w1.alloc (.cells #[.string t1, .int .i64 A1, .int .i64 C1] 89)).cell? ⟨w.heap.size, 0, none⟩ = some (.string ⟨#[]⟩) := by rw [← hX]; exact HR4.out.cell 0
    have d1 : (w1.alloc (.cells #[.string t1, .int .i64 A1, .int .i64 C1] 89)).cell? ⟨w.heap.size, 1, none⟩ = some (.string ⟨#[]⟩) := by rw [← hX]; exact HR4.out.cell 1
    have f0 : (w1.alloc (.cells #[.string t1, .int .i64 A1, .int .i64 C1] 89)).frozen? ⟨w.heap.size, 0, none⟩ = false := by rw [← hX]; exact HR4.out.free 0
    have f1 : (w1.alloc (.cells #[.string t1, .int .i64 A1, .int .i64 C1] 89)).frozen? ⟨w.heap.size, 1, none⟩ = false := by rw [← hX]; exact HR4.out.free 1
    go_wp2
    rw [← hX]
    obtain ⟨z0, z1, KF⟩ := two HR4.out (.string ⟨#[]⟩) (.string ⟨#[]⟩)
    exact bodyPost_ret (v := .tuple #[.agg #[.string ⟨#[]⟩, .string ⟨#[]⟩], .int .i64 0, .iface 125 (.agg #[.int .i64 1])]) (by simp [results, Tryz.results92, go_sem, z0, z1]) rfl
      ⟨HE.out _ ⟨.inl HC.out, _, _, _, rfl⟩, KF.toBelow HBX.out HBX.out.size (by simp)⟩
  subst hC1
  obtain ⟨a10, a11, ht1s⟩ := HH1.out rfl
  have HTS := hide ht1s
  clear ht1s
  obtain ⟨B1, rfl⟩ := Int.eq_ofNat_of_zero_le a10
  have HC2 := hide (show ∀ (w : World), T.size ≤ 8000 → (B1 : Int) ≤ 9223372036854775807 → St3.Laid w → Calls Tryz.prog 117 #[.string T, .int .i64 (B1 : Int)] w fun e w' => e = .returned (.agg #[.string t2, .int .i64 A2, .int .i64 C2]) ∧ Below w.heap.size w w' from by
    have := HC2.out
    simpa using this)
  obtain ⟨Y, hY⟩ : ∃ Y, Y = X.setCell ⟨w.heap.size + 1, 0, none⟩ (.string t1) := ⟨_, rfl⟩
  have KY : Kept [w.heap.size + 1] X Y := by rw [hY]; exact (Kept.refl _ _).set (by simp) _
  have HBY := hide (KY.toBelow HBX.out HBX.out.size (by simp))
  have HR4 := hide (KY.row HR4.out (by simp))
  have HR7 := hide (show Row Y (w.heap.size + 1) 130 [.string t1, .string ⟨#[]⟩] by rw [hY]; exact HR7.out.set (j := 0) (.string t1))
  have HT1 := hide (KY.row HT1.out (by have := HX1.out; simp; omega))
  clear KY
  go_wp2_with fail
  rw [← hX, ← hY]
  have e1 : Y.cell? ⟨w1.heap.size, 1, none⟩ = some (.int .i64 (B1 : Int)) := HT1.out.cell 1
  clear c70 c71 f70 hX hY
  go_wp2_with fail
  rw [rounds_succ]
  go_wp2_with fail
  refine (HC2.out _ hs (by omega) (Stab.go HBY.out HG.out)).mono ?_
  rintro e w2 ⟨rfl, hb2⟩
  obtain ⟨V, hV⟩ : ∃ V, V = w2.alloc (.cells #[.string t2, .int .i64 A2, .int .i64 C2] 89) := ⟨_, rfl⟩
  have bn := hb2.trans ((below_new w2 (.cells #[.string t2, .int .i64 A2, .int .i64 C2] 89)).mono hb2.size)
  have HBV0 := hide (show Below w.heap.size w V by rw [hV]; exact HBY.out.trans (bn.mono HBY.out.size))
  have HR4 := hide (show Row V w.heap.size 130 [.string ⟨#[]⟩, .string ⟨#[]⟩] by rw [hV]; exact HR4.out.below bn HR4.out.lt)
  have HR7 := hide (show Row V (w.heap.size + 1) 130 [.string t1, .string ⟨#[]⟩] by rw [hV]; exact HR7.out.below bn HR7.out.lt)
  have HT2 := hide (show Row V w2.heap.size 89 [.string t2, .int .i64 A2, .int .i64 C2] by rw [hV]; exact row_new w2 _ _)
  have HX2 := hide (show w.heap.size + 1 < w2.heap.size from Nat.lt_of_lt_of_le HX1.out (Nat.le_of_lt (Nat.lt_of_lt_of_le HT1.out.lt hb2.size)))
  have c70 : (w2.alloc (.cells #[.string t2, .int .i64 A2, .int .i64 C2] 89)).cell? ⟨w.heap.size + 1, 0, none⟩ = some (.string t1) := by rw [← hV]; exact HR7.out.cell 0
  have c71 : (w2.alloc (.cells #[.string t2, .int .i64 A2, .int .i64 C2] 89)).cell? ⟨w.heap.size + 1, 1, none⟩ = some (.string ⟨#[]⟩) := by rw [← hV]; exact HR7.out.cell 1
  have f71 : (w2.alloc (.cells #[.string t2, .int .i64 A2, .int .i64 C2] 89)).frozen? ⟨w.heap.size + 1, 1, none⟩ = false := by rw [← hV]; exact HR7.out.free 1
  clear hb2 bn e1
  by_cases hC2 : C2 = 0
  rotate_left
  · have hcb : (C2 != 0) = true := by simpa using hC2
    have HE := hide (fun e => (HKP.out e).2 ∘ Or.inl)
    have HC := hide hC2
    clear hC2
    have d0 : (w2.alloc (.cells #[.string t2, .int .i64 A2, .int .i64 C2] 89)).cell? ⟨w.heap.size, 0, none⟩ = some (.string ⟨#[]⟩) := by rw [← hV]; exact HR4.out.cell 0
    have d1 : (w2.alloc (.cells #[.string t2, .int .i64 A2, .int .i64 C2] 89)).cell? ⟨w.heap.size, 1, none⟩ = some (.string ⟨#[]⟩) := by rw [← hV]; exact HR4.out.cell 1
    have f0 : (w2.alloc (.cells #[.string t2, .int .i64 A2, .int .i64 C2] 89)).frozen? ⟨w.heap.size, 0, none⟩ = false := by rw [← hV]; exact HR4.out.free 0
    have f1 : (w2.alloc (.cells #[.string t2, .int .i64 A2, .int .i64 C2] 89)).frozen? ⟨w.heap.size, 1, none⟩ = false := by rw [← hV]; exact HR4.out.free 1
    go_wp2
    rw [← hV]
    obtain ⟨z0, z1, KF⟩ := two HR4.out (.string t1) (.string ⟨#[]⟩)
    exact bodyPost_ret (v := .tuple #[.agg #[.string t1, .string ⟨#[]⟩], .int .i64 0, .iface 125 (.agg #[.int .i64 1])]) (by simp [results, Tryz.results92, go_sem, z0, z1]) rfl
      ⟨HE.out _ ⟨.inr (.inl HC.out), _, _, _, rfl⟩, KF.toBelow HBV0.out HBV0.out.size (by simp)⟩
  subst hC2
  obtain ⟨a20, a21, ht2⟩ := HH2.out rfl
  obtain ⟨A2, rfl⟩ := Int.eq_ofNat_of_zero_le a20
  obtain ⟨V2, hV2⟩ : ∃ V2, V2 = V.setCell ⟨w.heap.size + 1, 1, none⟩ (.string t2) := ⟨_, rfl⟩
  have KY : Kept [w.heap.size + 1] V V2 := by rw [hV2]; exact (Kept.refl _ _).set (by simp) _
  have HBV := hide (KY.toBelow HBV0.out HBV0.out.size (by simp))
  have HR4 := hide (KY.row HR4.out (by simp))
  have HR7 := hide (show Row V2 (w.heap.size + 1) 130 [.string t1, .string t2] by rw [hV2]; exact HR7.out.set (j := 1) (.string t2))
  have HT2 := hide (KY.row HT2.out (by have := HX2.out; simp; omega))
  clear KY
  have htm : t1.size ≤ maxLen := by
    have := HTS.out
    unfold maxLen; omega
  have HE1 := hide (fun e => (HKP.out e).2 ∘ Or.inl)
  have HE2 := hide (fun e => (HKP.out e).2 ∘ Or.inr)
  have e1 : ((w2.alloc (.cells #[.string t2, .int .i64 (A2 : Int), .int .i64 0] 89)).setCell ⟨w.heap.size + 1, 1, none⟩ (.string t2)).cell? ⟨w2.heap.size, 1, none⟩ = some (.int .i64 (A2 : Int)) := by rw [← hV, ← hV2]; exact HT2.out.cell 1
  go_wp2_with fail
  rw [← hV, ← hV2]
  clear c70 c71 f71 hV hV2 e1
  rw [rounds_succ]
  go_upto_region 11 with fail
  obtain ⟨V, hVV⟩ : ∃ V, V = V2 := ⟨_, rfl⟩
  rw [← hVV] at HBV HR4 HR7 ⊢
  clear hVV
  cases hid : idB t1
  · have HNR := hide (fun X : World => implNameRight_any t1 X htm)
    rw [hid] at HNR
    have HIDF := hide hid
    clear hid
    refine wp_region_held (S := fun y : World => y.cell? ⟨w.heap.size + 1, 0, none⟩ = some (.string t1) ∧ y.cell? ⟨w.heap.size + 1, 1, none⟩ = some (.string t2)) (by kernel_rfl) ?_
    have HS := hide (show ({ V with drawn := V.drawn + 1 } : World).cell? ⟨w.heap.size + 1, 0, none⟩ = some (.string t1) ∧ ({ V with drawn := V.drawn + 1 } : World).cell? ⟨w.heap.size + 1, 1, none⟩ = some (.string t2) from ⟨HR7.out.cell 0, HR7.out.cell 1⟩)
    have HR70 := hide (show Row ({ V with drawn := V.drawn + 1 } : World) (w.heap.size + 1) 130 [.string t1, .string t2] from HR7.out)
    have HR40 := hide (show Row ({ V with drawn := V.drawn + 1 } : World) w.heap.size 130 [.string ⟨#[]⟩, .string ⟨#[]⟩] from HR4.out)
    have HBV0 := hide (show Below w.heap.size w { V with drawn := V.drawn + 1 } from HBV.out.drew)
    generalize ({ V with drawn := V.drawn + 1 } : World) = Z1 at HS HR40 HR70 HBV0 ⊢
    refine wpAnyH_take (i := 0) (oi := _) (v := .agg #[.string t1, .string t2]) rfl (by kernel_rfl) (by kernel_rfl) (by kernel_rfl) (fun _ _ _ h => h) (Or.inl ⟨by rfl, by intro w hSw; go_split_ands; go_simp⟩) HS.out ?_
    simp only [Act.put, List.getElem_toArray, List.getElem_cons_zero, List.setIfInBounds_toArray, List.set_cons_zero, List.set_cons_succ]
    refine wpAnyH_take (i := 1) (oi := _) (v := .int .i64 (A2 : Int)) rfl (by kernel_rfl) (by kernel_rfl) (by kernel_rfl) (fun _ _ _ h => h) (Or.inl ⟨by rfl, by intro w hSw; go_split_ands; go_simp⟩) HS.out ?_
    simp only [Act.put, List.getElem_toArray, List.getElem_cons_zero, List.getElem_cons_succ, List.setIfInBounds_toArray, List.set_cons_zero, List.set_cons_succ]
    refine wpAnyH_take (i := 2) (oi := _) (v := .pointer (some ⟨w.heap.size + 1, 0, none⟩)) rfl (by kernel_rfl) (by kernel_rfl) (by kernel_rfl) (fun _ _ _ h => h) (Or.inl ⟨by rfl, by intro w hSw; go_split_ands; go_simp⟩) HS.out ?_
    simp only [Act.put, List.getElem_toArray, List.getElem_cons_zero, List.getElem_cons_succ, List.setIfInBounds_toArray, List.set_cons_zero, List.set_cons_succ]
    refine wpAnyH_take (i := 3) (oi := _) (v := .string t1) rfl (by kernel_rfl) (by kernel_rfl) (by kernel_rfl) (fun _ _ _ h => h) (Or.inl ⟨by rfl, by intro w hSw; go_split_ands; go_simp⟩) HS.out ?_
    simp only [Act.put, List.getElem_toArray, List.getElem_cons_zero, List.getElem_cons_succ, List.setIfInBounds_toArray, List.set_cons_zero, List.set_cons_succ]
    refine wpAnyH_ready (rs := [4]) (by kernel_rfl) (by simp) ?_
    refine AllReadyH.cons (o := _) rfl (fun K hK => ?_) AllReadyH.nil
    go_simp
    refine (HNR.out _).mono ?_
    rintro e V3 ⟨rfl, hVV⟩
    obtain rfl := hVV.symm
    refine hK.out _ _ HS.out (fun _ => ?_)
    clear hK K
    try simp only [Act.put, List.getElem_toArray, List.getElem_cons_zero, List.getElem_cons_succ, List.setIfInBounds_toArray, List.set_cons_zero, List.set_cons_succ]
    refine wpAnyH_take (i := 5) (oi := _) (v := .bool true) rfl (by kernel_rfl) (by kernel_rfl) (by kernel_rfl) (fun _ _ _ h => h) (Or.inl ⟨by rfl, by intro w hSw; go_split_ands; go_simp⟩) HS.out ?_
    simp only [Act.put, List.getElem_toArray, List.getElem_cons_zero, List.getElem_cons_succ, List.setIfInBounds_toArray, List.set_cons_zero, List.set_cons_succ]
    refine wpAnyH_ready (rs := [6]) (by kernel_rfl) (by simp) ?_
    refine AllReadyH.cons (o := _) rfl (fun K hK => ?_) AllReadyH.nil
    go_simp
    refine (storeRefusal_true 1 _).mono ?_
    rintro e V3 ⟨rfl, hVV⟩
    obtain rfl := hVV.symm
    refine hK.out _ _ HS.out (fun _ => ?_)
    clear hK K
    try simp only [Act.put, List.getElem_toArray, List.getElem_cons_zero, List.getElem_cons_succ, List.setIfInBounds_toArray, List.set_cons_zero, List.set_cons_succ]
    refine wpAnyH_ready (rs := [7]) (by kernel_rfl) (by simp) ?_
    refine AllReadyH.cons (o := _) rfl (fun K hK => ?_) AllReadyH.nil
    have d0 : Z1.cell? ⟨w.heap.size, 0, none⟩ = some (.string ⟨#[]⟩) := HR40.out.cell 0
    have d1 : Z1.cell? ⟨w.heap.size, 1, none⟩ = some (.string ⟨#[]⟩) := HR40.out.cell 1
    have f0 := HR40.out.free 0
    have f1 := HR40.out.free 1
    obtain ⟨z0, z1, KF⟩ := two HR40.out (.string t1) (.string t2)
    have HSF := hide (show ((Z1.setCell ⟨w.heap.size, 0, none⟩ (.string t1)).setCell ⟨w.heap.size, 1, none⟩ (.string t2)).cell? ⟨w.heap.size + 1, 0, none⟩ = some (.string t1) ∧ ((Z1.setCell ⟨w.heap.size, 0, none⟩ (.string t1)).setCell ⟨w.heap.size, 1, none⟩ (.string t2)).cell? ⟨w.heap.size + 1, 1, none⟩ = some (.string t2) from
      ⟨(KF.row HR70.out (by simp)).cell 0, (KF.row HR70.out (by simp)).cell 1⟩)
    have HZ := hide (And.intro z0 z1)
    have HKF := hide (KF.toBelow HBV0.out HBV0.out.size (by simp))
    clear z0 z1 KF
    go_simp
    refine hK.out _ _ HSF.out (fun _ => ?_)
    clear hK K d0 d1 f0 f1 HS
    have HS := HSF
    try simp only [Act.put, List.getElem_toArray, List.getElem_cons_zero, List.getElem_cons_succ, List.setIfInBounds_toArray, List.set_cons_zero, List.set_cons_succ]
    refine wpAnyH_take (i := 8) (oi := _) (v := .int .i64 (A2 : Int)) rfl (by kernel_rfl) (by kernel_rfl) (by kernel_rfl) (fun _ _ _ h => h) (Or.inl ⟨by rfl, by intro w hSw; go_split_ands; go_simp⟩) HS.out ?_
    simp only [Act.put, List.getElem_toArray, List.getElem_cons_zero, List.getElem_cons_succ, List.setIfInBounds_toArray, List.set_cons_zero, List.set_cons_succ]
    refine wpAnyH_take (i := 9) (oi := _) (v := .iface 125 (.agg #[.int .i64 1])) rfl (by kernel_rfl) (by kernel_rfl) (by kernel_rfl) (fun _ _ _ h => h) (Or.inl ⟨by rfl, by intro w hSw; go_split_ands; go_simp⟩) HS.out ?_
    simp only [Act.put, List.getElem_toArray, List.getElem_cons_zero, List.getElem_cons_succ, List.setIfInBounds_toArray, List.set_cons_zero, List.set_cons_succ]
    refine wpAnyH_done (by kernel_rfl) ?_ _
    go_wp2
    exact bodyPost_ret (v := .tuple #[.agg #[.string t1, .string t2], .int .i64 (A2 : Int), .iface 125 (.agg #[.int .i64 1])]) (by simp [results, Tryz.results92, go_sem, HZ.out.1, HZ.out.2]) rfl
      ⟨HE1.out _ ⟨.inr (.inr HIDF.out), _, _, _, rfl⟩, HKF.out⟩
  · have HNR := hide (fun X : World => implNameRight_any t1 X htm)
    rw [hid] at HNR
    have HIDF := hide hid
    clear hid
    refine wp_region_held (S := fun y : World => y.cell? ⟨w.heap.size + 1, 0, none⟩ = some (.string t1) ∧ y.cell? ⟨w.heap.size + 1, 1, none⟩ = some (.string t2)) (by kernel_rfl) ?_
    have HS := hide (show ({ V with drawn := V.drawn + 1 } : World).cell? ⟨w.heap.size + 1, 0, none⟩ = some (.string t1) ∧ ({ V with drawn := V.drawn + 1 } : World).cell? ⟨w.heap.size + 1, 1, none⟩ = some (.string t2) from ⟨HR7.out.cell 0, HR7.out.cell 1⟩)
    have HR70 := hide (show Row ({ V with drawn := V.drawn + 1 } : World) (w.heap.size + 1) 130 [.string t1, .string t2] from HR7.out)
    have HR40 := hide (show Row ({ V with drawn := V.drawn + 1 } : World) w.heap.size 130 [.string ⟨#[]⟩, .string ⟨#[]⟩] from HR4.out)
    have HBV0 := hide (show Below w.heap.size w { V with drawn := V.drawn + 1 } from HBV.out.drew)
    generalize ({ V with drawn := V.drawn + 1 } : World) = Z1 at HS HR40 HR70 HBV0 ⊢
    refine wpAnyH_take (i := 0) (oi := _) (v := .agg #[.string t1, .string t2]) rfl (by kernel_rfl) (by kernel_rfl) (by kernel_rfl) (fun _ _ _ h => h) (Or.inl ⟨by rfl, by intro w hSw; go_split_ands; go_simp⟩) HS.out ?_
    simp only [Act.put, List.getElem_toArray, List.getElem_cons_zero, List.setIfInBounds_toArray, List.set_cons_zero, List.set_cons_succ]
    refine wpAnyH_take (i := 1) (oi := _) (v := .int .i64 (A2 : Int)) rfl (by kernel_rfl) (by kernel_rfl) (by kernel_rfl) (fun _ _ _ h => h) (Or.inl ⟨by rfl, by intro w hSw; go_split_ands; go_simp⟩) HS.out ?_
    simp only [Act.put, List.getElem_toArray, List.getElem_cons_zero, List.getElem_cons_succ, List.setIfInBounds_toArray, List.set_cons_zero, List.set_cons_succ]
    refine wpAnyH_take (i := 2) (oi := _) (v := .pointer (some ⟨w.heap.size + 1, 0, none⟩)) rfl (by kernel_rfl) (by kernel_rfl) (by kernel_rfl) (fun _ _ _ h => h) (Or.inl ⟨by rfl, by intro w hSw; go_split_ands; go_simp⟩) HS.out ?_
    simp only [Act.put, List.getElem_toArray, List.getElem_cons_zero, List.getElem_cons_succ, List.setIfInBounds_toArray, List.set_cons_zero, List.set_cons_succ]
    refine wpAnyH_take (i := 3) (oi := _) (v := .string t1) rfl (by kernel_rfl) (by kernel_rfl) (by kernel_rfl) (fun _ _ _ h => h) (Or.inl ⟨by rfl, by intro w hSw; go_split_ands; go_simp⟩) HS.out ?_
    simp only [Act.put, List.getElem_toArray, List.getElem_cons_zero, List.getElem_cons_succ, List.setIfInBounds_toArray, List.set_cons_zero, List.set_cons_succ]
    refine wpAnyH_ready (rs := [4]) (by kernel_rfl) (by simp) ?_
    refine AllReadyH.cons (o := _) rfl (fun K hK => ?_) AllReadyH.nil
    go_simp
    refine (HNR.out _).mono ?_
    rintro e V3 ⟨rfl, hVV⟩
    obtain rfl := hVV.symm
    refine hK.out _ _ HS.out (fun _ => ?_)
    clear hK K
    try simp only [Act.put, List.getElem_toArray, List.getElem_cons_zero, List.getElem_cons_succ, List.setIfInBounds_toArray, List.set_cons_zero, List.set_cons_succ]
    refine wpAnyH_take (i := 5) (oi := _) (v := .bool false) rfl (by kernel_rfl) (by kernel_rfl) (by kernel_rfl) (fun _ _ _ h => h) (Or.inl ⟨by rfl, by intro w hSw; go_split_ands; go_simp⟩) HS.out ?_
    simp only [Act.put, List.getElem_toArray, List.getElem_cons_zero, List.getElem_cons_succ, List.setIfInBounds_toArray, List.set_cons_zero, List.set_cons_succ]
    refine wpAnyH_ready (rs := [6]) (by kernel_rfl) (by simp) ?_
    refine AllReadyH.cons (o := _) rfl (fun K hK => ?_) AllReadyH.nil
    go_simp
    refine (storeRefusal_false 1 _).mono ?_
    rintro e V3 ⟨rfl, hVV⟩
    obtain rfl := hVV.symm
    refine hK.out _ _ HS.out (fun _ => ?_)
    clear hK K
    try simp only [Act.put, List.getElem_toArray, List.getElem_cons_zero, List.getElem_cons_succ, List.setIfInBounds_toArray, List.set_cons_zero, List.set_cons_succ]
    refine wpAnyH_ready (rs := [7]) (by kernel_rfl) (by simp) ?_
    refine AllReadyH.cons (o := _) rfl (fun K hK => ?_) AllReadyH.nil
    have d0 : Z1.cell? ⟨w.heap.size, 0, none⟩ = some (.string ⟨#[]⟩) := HR40.out.cell 0
    have d1 : Z1.cell? ⟨w.heap.size, 1, none⟩ = some (.string ⟨#[]⟩) := HR40.out.cell 1
    have f0 := HR40.out.free 0
    have f1 := HR40.out.free 1
    obtain ⟨z0, z1, KF⟩ := two HR40.out (.string t1) (.string t2)
    have HSF := hide (show ((Z1.setCell ⟨w.heap.size, 0, none⟩ (.string t1)).setCell ⟨w.heap.size, 1, none⟩ (.string t2)).cell? ⟨w.heap.size + 1, 0, none⟩ = some (.string t1) ∧ ((Z1.setCell ⟨w.heap.size, 0, none⟩ (.string t1)).setCell ⟨w.heap.size, 1, none⟩ (.string t2)).cell? ⟨w.heap.size + 1, 1, none⟩ = some (.string t2) from
      ⟨(KF.row HR70.out (by simp)).cell 0, (KF.row HR70.out (by simp)).cell 1⟩)
    have HZ := hide (And.intro z0 z1)
    have HKF := hide (KF.toBelow HBV0.out HBV0.out.size (by simp))
    clear z0 z1 KF
    go_simp
    refine hK.out _ _ HSF.out (fun _ => ?_)
    clear hK K d0 d1 f0 f1 HS
    have HS := HSF
    try simp only [Act.put, List.getElem_toArray, List.getElem_cons_zero, List.getElem_cons_succ, List.setIfInBounds_toArray, List.set_cons_zero, List.set_cons_succ]
    refine wpAnyH_take (i := 8) (oi := _) (v := .int .i64 (A2 : Int)) rfl (by kernel_rfl) (by kernel_rfl) (by kernel_rfl) (fun _ _ _ h => h) (Or.inl ⟨by rfl, by intro w hSw; go_split_ands; go_simp⟩) HS.out ?_
    simp only [Act.put, List.getElem_toArray, List.getElem_cons_zero, List.getElem_cons_succ, List.setIfInBounds_toArray, List.set_cons_zero, List.set_cons_succ]
    refine wpAnyH_take (i := 9) (oi := _) (v := .nilIface) rfl (by kernel_rfl) (by kernel_rfl) (by kernel_rfl) (fun _ _ _ h => h) (Or.inl ⟨by rfl, by intro w hSw; go_split_ands; go_simp⟩) HS.out ?_
    simp only [Act.put, List.getElem_toArray, List.getElem_cons_zero, List.getElem_cons_succ, List.setIfInBounds_toArray, List.set_cons_zero, List.set_cons_succ]
    refine wpAnyH_done (by kernel_rfl) ?_ _
    go_wp2
    exact bodyPost_ret (v := .tuple #[.agg #[.string t1, .string t2], .int .i64 (A2 : Int), .nilIface]) (by simp [results, Tryz.results92, go_sem, HZ.out.1, HZ.out.2]) rfl
      ⟨HE2.out _ ⟨by first | rfl | trivial, by first | rfl | trivial, HIDF.out, by simp⟩, HKF.out⟩
end Go.Proofs.YtnpbmaajgiapmaaGreatDoor
/- What the model reads of a store. -/
namespace Go.Proofs.YtnpbmaajgiapmaaGreatDoor
open Go.RowKit

theorem lt_iff_before : ∀ (a b : List UInt8), decide (a < b) = bytesBefore a b
  | [], [] => by simp [bytesBefore]
  | [], _ :: _ => by simp [bytesBefore]
  | _ :: _, [] => by simp [bytesBefore]
  | x :: r, y :: s => by
    have ih := lt_iff_before r s
    rw [bytesBefore, ← ih]
    by_cases h : x < y
    · simp [List.cons_lt_cons_iff, h]
    · by_cases h2 : x = y
      · simp [h2]
      · simp [List.cons_lt_cons_iff, h, h2]
theorem less_eq (a b : ByteArray) : Op.bytesLess a.toList b.toList = ltB a b := by
  rw [bytesLess_eq, ByteArray.toList_eq, ByteArray.toList_eq, lt_iff_before]
  rfl
theorem str_eql (a b : ByteArray) : (a.toList == b.toList) = decide (a = b) := by
  rw [ByteArray.toList_eq, ByteArray.toList_eq, Bool.eq_iff_iff]
  simp only [beq_iff_eq, decide_eq_true_eq]
  exact ⟨toList_inj, fun h => by rw [h]⟩
/-- What a disk keeps as a store. -/
def keptO (xs : List ByteArray) (ps : List (Int × ByteArray)) : Option (List Item) := if (areaOut xs ps).c ≠ 0 then none else keptS (areaOut xs ps).t
theorem areaOut_t (xs : List ByteArray) (ps : List (Int × ByteArray)) : (areaOut xs ps).t.size ≤ 2048 := by
  unfold areaOut
  split
  · exact Nat.zero_le _
  · rename_i h1
    split
    · exact Nat.zero_le _
    · rename_i h2
      split
      · rename_i h3
        have hg := gath_size _ h3
        have hs := seen_ok (by simpa using h2 : (seen xs ps).2.2.2 = 0)
        have hr : right xs ps = true := by simpa using h1
        have hl := right_len hr
        simp only
        rw [hg]
        have : half xs.length ≤ 32 := by unfold half; omega
        omega
      · exact Nat.zero_le _
def itc : List Item → List Value
  | [] => []
  | x :: r => .string x.1 :: .string x.2 :: itc r
theorem itc_len : ∀ L : List Item, (itc L).length = L.length * 2
  | [] => rfl
  | x :: r => by rw [itc]; simp [itc_len r]; omega
theorem itc_append : ∀ a b : List Item, itc (a ++ b) = itc a ++ itc b
  | [], b => rfl
  | x :: r, b => by rw [List.cons_append, itc, itc, itc_append r b]; rfl
theorem itc_at : ∀ (L : List Item) (i : Nat) (h : i < L.length), (itc L)[i * 2]? = some (.string L[i].1) ∧ (itc L)[i * 2 + 1]? = some (.string L[i].2)
  | x :: r, 0, _ => by simp [itc]
  | x :: r, i + 1, h => by
    have := itc_at r i (by simpa using h)
    rw [itc, show (i + 1) * 2 = i * 2 + 1 + 1 by omega, show i * 2 + 1 + 1 + 1 = (i * 2 + 1) + 1 + 1 by omega]
    simpa using this
theorem itc_one (L : List Item) : ∀ u ∈ itc L, u.oneCell' = true := by
  induction L with
  | nil => simp [itc]
  | cons x r ih =>
    intro u hu
    rw [itc] at hu
    rcases List.mem_cons.1 hu with rfl | hu
    · rfl
    · rcases List.mem_cons.1 hu with rfl | hu
      · rfl
      · exact ih u hu
theorem readsIt_of {w : World} {B : Nat} {v : Value} {L : List Item} (h : w.ownsRow B 75 2 v L.length (itc L)) : ReadsIt w v L := by
  have h' := h
  obtain ⟨_, ⟨rfl, h1⟩ | ⟨g, cap, cur, rfl, _, hh, hcap, hcm, _, _⟩⟩ := h'
  · exact ⟨none, 0, by rw [h1], by omega, Nat.zero_le _, fun h0 => by omega⟩
  · refine ⟨_, cap, rfl, hcap, hcm, fun _ => ⟨g, 0, rfl, (Array.getElem?_eq_some_iff.1 hh).1, fun i hi => ?_⟩⟩
    obtain ⟨e0, e1⟩ := itc_at L i hi
    rw [Nat.zero_add, h.cellAt (i * 2) (by omega), h.cellAt (i * 2 + 1) (by omega)]
    exact ⟨e0, e1⟩
theorem Tryz.infoItem : (Tryz.prog.info? 75).map (fun i => (i.zero, i.size, i.bytes)) = some (some (.agg #[.string ⟨#[]⟩, .string ⟨#[]⟩]), 2, 32) := by kernel_rfl
theorem own_baseX {w : World} {B B' n sz : Nat} {T : TypeId} {v : Value} {xs : List Value} (h : w.ownsRow B T sz v n xs) (hB : B' ≤ B) : w.ownsRow B' T sz v n xs := by
  obtain ⟨h1, h2⟩ := h
  refine ⟨h1, ?_⟩
  rcases h2 with h2 | ⟨g, cap, cur, rfl, hb, hh, h3⟩
  · exact .inl h2
  · exact .inr ⟨g, cap, cur, rfl, Nat.le_trans hB hb, hh, h3⟩
/-- The call ended with what was read, and whether it is a store. -/
def RdIs (B : Nat) (e : Ending) (w : World) (R : Option (List Item)) : Prop :=
  ∃ v, e = .returned (.tuple #[v, .bool R.isSome]) ∧ ∀ L, R = some L → w.ownsRow B 75 2 v L.length (itc L)
theorem RdIs.none (B : Nat) (w : World) : RdIs B (.returned (.tuple #[.slice Option.none 0 0, .bool false])) w Option.none := ⟨_, rfl, fun _ h => by cases h⟩
theorem below_last {acc : List Item} (h : 0 < acc.length) (i : ByteArray) : belowB acc i = ltB (acc[acc.length - 1]'(by omega)).1 i := by
  unfold belowB
  rw [List.getLast?_eq_getElem?, List.getElem?_eq_getElem (by omega)]
theorem readU_step (s : ByteArray) (k a : Nat) (acc : List Item) (hk : 0 < k) : readU s k a acc =
    if (St4.textO s a).2.2 ≠ 0 then none
    else if (St4.textO s (St4.textO s a).2.1.toNat).2.2 ≠ 0 then none
    else if idB (St4.textO s a).1 = false then none
    else if belowB acc (St4.textO s a).1 = false then none
    else readU s (k - 1) (St4.textO s (St4.textO s a).2.1.toNat).2.1.toNat (acc ++ [((St4.textO s a).1, (St4.textO s (St4.textO s a).2.1.toNat).1)]) := by
  obtain ⟨k', rfl⟩ : ∃ k', k = k' + 1 := ⟨k - 1, by omega⟩
  rw [readU]
  rfl

set_option maxHeartbeats 16000000 in
set_option maxRecDepth 100000 in
theorem l09Read_any (vs vp : Value) (xs : List ByteArray) (ps : List (Int × ByteArray)) (w : World) (hn : xs.length ≤ 1048576) (hn2 : ps.length ≤ 1048576) (hr : Reads w vs xs) (hp : ReadsP w vp ps) :
    Calls Tryz.prog 28 #[.agg #[vs, vp]] w fun e w' => RdIs w.heap.size e w' (keptO xs ps) ∧ Below w.heap.size w w' := by
  obtain ⟨i0, hi, hz0, hz1, hz2⟩ := info_parts Tryz.infoItem
  have HZC := hide (show (Value.agg #[.string ⟨#[]⟩, .string ⟨#[]⟩]).cells.size = 2 from rfl)
  have hb0 : Below w.heap.size w (w.alloc (.cells #[vs, vp] 30)) := (Below.refl _ _).alloc (Nat.le_refl _) _
  have HB0 := hide hb0
  have HR := hide (hr.below hb0 (Nat.le_refl _))
  have HP := hide (hp.below hb0 (Nat.le_refl _))
  have htz := areaOut_t xs ps
  obtain ⟨Y, hY⟩ : ∃ Y, Y = areaOut xs ps := ⟨_, rfl⟩
  have HY := hide hY
  have HKO := hide (show keptO xs ps = if Y.c ≠ 0 then none else keptS Y.t by rw [hY]; rfl)
  rw [← hY] at htz
  obtain ⟨p1, c1, rfl, _⟩ := hr
  obtain ⟨p2, c2, rfl, _⟩ := hp
  clear hb0 hY
  obtain ⟨R, hR⟩ : ∃ R, R = keptO xs ps := ⟨_, rfl⟩
  have HRR := hide hR
  rw [← hR]
  clear hR
  go_enter Tryz.func28, Tryz.ntmps28
  go_wp2_with fail
  refine (specAreaRead_any _ _ xs ps _ hn hn2 HR.out HP.out).mono ?_
  rw [← HY.out]
  rintro e w1 ⟨⟨us, up, rfl, o1, o2, _⟩, hb1⟩
  obtain ⟨s1, s2, s3, rfl⟩ := o1.isSlice
  obtain ⟨s4, s5, s6, rfl⟩ := o2.isSlice
  have HB1 := hide (HB0.out.trans (hb1.mono HB0.out.size))
  clear hb1 o1 o2 HR HP
  obtain ⟨T, hT⟩ : ∃ T, T = Y.t := ⟨_, rfl⟩
  obtain ⟨cc, hcc⟩ : ∃ cc, cc = Y.c := ⟨_, rfl⟩
  obtain ⟨gg, hgg⟩ : ∃ gg, gg = Y.g := ⟨_, rfl⟩
  rw [← hT, ← hcc, ← hgg]
  rw [← hT] at htz
  have HKO := hide (show R = if cc ≠ 0 then none else keptS T by rw [HRR.out, HKO.out, hT, hcc])
  clear hT hcc hgg HRR HY
  obtain ⟨W1, hW1⟩ : ∃ W1, W1 = w1.alloc (.cells #[.slice s1 s2 s3, .slice s4 s5 s6, .string T, .int .i64 gg, .int .i64 cc] 63) := ⟨_, rfl⟩
  have HBW := hide (show Below w.heap.size w W1 by rw [hW1]; exact HB1.out.alloc HB1.out.size _)
  have HRA := hide (show Row W1 w1.heap.size 63 [.slice s1 s2 s3, .slice s4 s5 s6, .string T, .int .i64 gg, .int .i64 cc] by rw [hW1]; exact row_new w1 _ _)
  have HGW := hide (show w.heap.size ≤ w1.heap.size from HB1.out.size)
  by_cases hc : cc = 0
  rotate_left
  · have HE := hide (show R = none by rw [HKO.out, if_pos hc])
    have hcb : (cc != 0) = true := by simpa using hc
    clear hc
    go_wp2
    go_ret2
    exact ⟨by rw [HE.out]; exact RdIs.none _ _, HB1.out.alloc HB1.out.size _⟩
  subst hc
  have HKO := hide (show R = keptS T by rw [HKO.out, if_neg (by simp)])
  have r2 : (w1.alloc (.cells #[.slice s1 s2 s3, .slice s4 s5 s6, .string T, .int .i64 gg, .int .i64 0] 63)).cell? ⟨w1.heap.size, 2, none⟩ = some (.string T) := by rw [← hW1]; exact HRA.out.cell 2
  go_wp2_with fail
  rw [← hW1]
  clear r2 hW1 HB1
  refine (St3.specGetNum_any T 0 _ _ (by omega) (by omega) (hide rfl)).mono ?_
  obtain ⟨N, hN⟩ : ∃ N, N = St3.scan T 0 10 0 0 := ⟨_, rfl⟩
  have HKS := hide (show R = if N.2.2 ≠ 0 ∨ ¬ (0 ≤ N.1 ∧ N.1 ≤ 12) then none else match readU T N.1.toNat N.2.1.toNat [] with
    | none => none
    | some L => if storeB L = T then some L else none by rw [HKO.out, hN]; rfl)
  have hat := St4.scan_at T 0 10 0 0
  rw [← hN] at hat ⊢
  obtain ⟨N1, N2, N3⟩ := N
  have HAT := hide hat
  clear hN hat HKO
  simp only at HKS HAT ⊢
  rintro e w2 ⟨rfl, hb2⟩
  obtain ⟨W2, hW2⟩ : ∃ W2, W2 = w2.alloc (.cells #[.int .i64 N1, .int .i64 N2, .int .i64 N3] 86) := ⟨_, rfl⟩
  have bn2 := hb2.trans ((below_new w2 (.cells #[.int .i64 N1, .int .i64 N2, .int .i64 N3] 86)).mono hb2.size)
  have HBW2 := hide (show Below w.heap.size w W2 by rw [hW2]; exact HBW.out.trans (bn2.mono HBW.out.size))
  have HRA2 := hide (show Row W2 w1.heap.size 63 [.slice s1 s2 s3, .slice s4 s5 s6, .string T, .int .i64 gg, .int .i64 0] by rw [hW2]; exact HRA.out.below bn2 HRA.out.lt)
  have HRN := hide (show Row W2 w2.heap.size 86 [.int .i64 N1, .int .i64 N2, .int .i64 N3] by rw [hW2]; exact row_new w2 _ _)
  have HB2r := hide (show Below w.heap.size w w2 from HBW.out.trans (hb2.mono HBW.out.size))
  clear hb2 bn2 HRA HBW
  by_cases h3 : N3 = 0
  rotate_left
  · have HE := hide (show R = none by rw [HKS.out, if_pos (.inl h3)])
    have hcb : (N3 != 0) = true := by simpa using h3
    clear h3 HKS HAT
    go_wp2
    go_ret2
    exact ⟨by rw [HE.out]; exact RdIs.none _ _, HB2r.out.alloc HB2r.out.size _⟩
  subst h3
  by_cases hin : 0 ≤ N1 ∧ N1 ≤ 12
  rotate_left
  · have HE := hide (show R = none by rw [HKS.out, if_pos (.inr hin)])
    clear HKS HAT
    go_wp2_with fail
    refine (l02Is_no _ _ _ _ hin).mono ?_
    rintro e w3 ⟨rfl, rfl⟩
    go_wp2
    go_ret2
    exact ⟨by rw [HE.out]; exact RdIs.none _ _, HB2r.out.alloc HB2r.out.size _⟩
  obtain ⟨hin0, hin1⟩ := hin
  obtain ⟨ha0, ha1⟩ := HAT.out rfl
  obtain ⟨n, rfl⟩ := Int.eq_ofNat_of_zero_le hin0
  obtain ⟨A0, rfl⟩ := Int.eq_ofNat_of_zero_le ha0
  have HKR := hide (show R = match readU T n A0 [] with
    | none => none
    | some L => if storeB L = T then some L else none by
    have := HKS.out
    rw [if_neg (by simp; omega)] at this
    simpa using this)
  clear HKS HAT ha0
  go_wp2_with fail
  refine (l02Is_yes _ _ _ _ hin0 hin1).mono ?_
  rintro e w3 ⟨rfl, rfl⟩
  have r0 : (w2.alloc (.cells #[.int .i64 (n : Int), .int .i64 (A0 : Int), .int .i64 0] 86)).cell? ⟨w2.heap.size, 0, none⟩ = some (.int .i64 (n : Int)) := by rw [← hW2]; exact HRN.out.cell 0
  rw [← hW2]
  clear r0
  have HO3 := hide (show (W2.alloc (.cells #[] 75)).ownsRow W2.heap.size 75 2 (.slice (some ⟨W2.heap.size, 0, none⟩) 0 0) 0 [] by
    have := World.ownsRow_lit (e := 75) (base := W2.heap.size) (size := 2) W2 #[] 0 (Nat.le_refl _) (by unfold maxLen; omega) rfl
    simpa using this)
  have HB3 := hide (show Below W2.heap.size W2 (W2.alloc (.cells #[] 75)) from below_new W2 _)
  have HRN3 := hide (HRN.out.alloc (.cells #[] 75))
  have q0 : (W2.alloc (.cells #[] 75)).cell? ⟨w2.heap.size, 0, none⟩ = some (.int .i64 (n : Int)) := HRN3.out.cell 0
  have q1 : (W2.alloc (.cells #[] 75)).cell? ⟨w2.heap.size, 1, none⟩ = some (.int .i64 (A0 : Int)) := HRN3.out.cell 1
  clear hW2
  go_wp2
  go_loopw [6, 7, 8] (fun l a i wr => ∃ (X : World) (k A : Nat) (acc : List Item), X = wr ∧ a = .int .i64 (A : Int) ∧ i = .int .i64 (k : Int) ∧ acc.length + k ≤ 12 ∧ A ≤ 8000 ∧ Hid (readU T k A acc = readU T n A0 []) ∧ Hid (∀ x ∈ acc, OkI x) ∧
    Hid (X.ownsRow W2.heap.size 75 2 l acc.length (itc acc)) ∧ Hid (Below W2.heap.size W2 X)) (fun _ _ i _ => (intOf i).toNat)
  case atStart => exact ⟨_, n, A0, [], rfl, rfl, rfl, by simp; omega, by omega, hide rfl, hide (by simp), HO3, HB3⟩
  case round =>
    obtain ⟨X, k, A, acc, rfl, rfl, rfl, hle, hA, HU, HOK, HOw, HB⟩ := hrel
    have HBX := hide (HBW2.out.trans (HB.out.mono HBW2.out.size))
    have HRX := hide (HRA2.out.below HB.out HRA2.out.lt)
    obtain ⟨pl, cl, rfl⟩ := own_sliceX HOw.out
    have hk12 : k ≤ 12 := by omega
    by_cases hk0 : 0 < k
    · have hki : (0 : Int) < (k : Int) := by omega
      have HU2 := hide ((readU_step T k A acc hk0).symm.trans HU.out)
      have r2 : X.cell? ⟨w1.heap.size, 2, none⟩ = some (.string T) := HRX.out.cell 2
      go_wp2_with fail
      refine (St4.specGetText_any T A _ (by omega) (by omega)).mono ?_
      have hto := St4.textO_at T A
      obtain ⟨o1, ho1⟩ : ∃ o1, o1 = St4.textO T A := ⟨_, rfl⟩
      rw [← ho1] at hto HU2 ⊢
      obtain ⟨t1, A1, C1⟩ := o1
      simp only at hto HU2 ⊢
      clear ho1 HU
      rintro e X1 ⟨rfl, hb1⟩
      obtain ⟨Xa, hXa⟩ : ∃ Xa, Xa = X1.alloc (.cells #[.string t1, .int .i64 A1, .int .i64 C1] 89) := ⟨_, rfl⟩
      have bn1 := hb1.trans ((below_new X1 (.cells #[.string t1, .int .i64 A1, .int .i64 C1] 89)).mono hb1.size)
      have HBa := hide (show Below X.heap.size X Xa by rw [hXa]; exact bn1)
      have HBr := hide (show Below w.heap.size w X1 from HBX.out.trans (hb1.mono HBX.out.size))
      have HRXa := hide (show Row Xa w1.heap.size 63 [.slice s1 s2 s3, .slice s4 s5 s6, .string T, .int .i64 gg, .int .i64 0] by rw [hXa]; exact HRX.out.below bn1 HRX.out.lt)
      have HT1 := hide (show Row Xa X1.heap.size 89 [.string t1, .int .i64 A1, .int .i64 C1] by rw [hXa]; exact row_new X1 _ _)
      clear r2 hb1 bn1
      by_cases hC1 : C1 = 0
      rotate_left
      · have HE := hide (show R = none by rw [HKR.out, ← HU2.out, if_pos hC1])
        have hcb : (C1 != 0) = true := by simpa using hC1
        clear hC1 HU2 hto HKR
        go_wp2
        go_ret2
        exact ⟨by rw [HE.out]; exact RdIs.none _ _, HBr.out.alloc HBr.out.size _⟩
      subst hC1
      obtain ⟨a10, a11, ht1⟩ := hto rfl
      obtain ⟨B1, rfl⟩ := Int.eq_ofNat_of_zero_le a10
      have HU3 := hide (show (if (St4.textO T B1).2.2 ≠ 0 then none else if idB t1 = false then none else if belowB acc t1 = false then none else readU T (k - 1) (St4.textO T B1).2.1.toNat (acc ++ [(t1, (St4.textO T B1).1)])) = readU T n A0 [] by
        have := HU2.out
        rw [if_neg (by simp)] at this
        simpa using this)
      clear HU2
      have r2 : (X1.alloc (.cells #[.string t1, .int .i64 (B1 : Int), .int .i64 0] 89)).cell? ⟨w1.heap.size, 2, none⟩ = some (.string T) := by rw [← hXa]; exact HRXa.out.cell 2
      go_wp2_with fail
      rw [← hXa]
      clear r2 hXa
      refine (St4.specGetText_any T B1 _ (by omega) (by omega)).mono ?_
      have hto := St4.textO_at T B1
      obtain ⟨o1, ho1⟩ : ∃ o1, o1 = St4.textO T B1 := ⟨_, rfl⟩
      rw [← ho1] at hto HU3 ⊢
      obtain ⟨t2, A2, C2⟩ := o1
      simp only at hto HU3 ⊢
      clear ho1
      rintro e X2 ⟨rfl, hb2⟩
      obtain ⟨Z, hZ⟩ : ∃ Z, Z = X2.alloc (.cells #[.string t2, .int .i64 A2, .int .i64 C2] 89) := ⟨_, rfl⟩
      have bn1 := hb2.trans ((below_new X2 (.cells #[.string t2, .int .i64 A2, .int .i64 C2] 89)).mono hb2.size)
      have HXZ := hide (show Below X.heap.size X Z by rw [hZ]; exact HBa.out.trans (bn1.mono HBa.out.size))
      have HBZ := hide (show Below w.heap.size w Z from HBX.out.trans (HXZ.out.mono HBX.out.size))
      have HRZ := hide (show Row Z w1.heap.size 63 [.slice s1 s2 s3, .slice s4 s5 s6, .string T, .int .i64 gg, .int .i64 0] by rw [hZ]; exact HRXa.out.below bn1 HRXa.out.lt)
      have HT1 := hide (show Row Z X1.heap.size 89 [.string t1, .int .i64 (B1 : Int), .int .i64 0] by rw [hZ]; exact HT1.out.below bn1 HT1.out.lt)
      have HT2 := hide (show Row Z X2.heap.size 89 [.string t2, .int .i64 A2, .int .i64 C2] by rw [hZ]; exact row_new X2 _ _)
      have HOZ := hide (own_belowX HOw.out HXZ.out)
      have HZZ := hide (show Below W2.heap.size W2 Z from HB.out.trans (HXZ.out.mono HB.out.size))
      have HNB := hide (show (Value.slice pl acc.length cl).ownBlock ≠ some X2.heap.size from fun e => by have := (HOw.out.lt _ e).2; have := HBa.out.size; have := hb2.size; omega)
      clear hb2 bn1 HBa HRXa HOw HBr
      go_upto_region 16 with fail
      rw [← hZ]
      clear hZ
      have d90 : Z.cell? ⟨X1.heap.size, 0, none⟩ = some (.string t1) := HT1.out.cell 0
      have d102 : Z.cell? ⟨X2.heap.size, 2, none⟩ = some (.int .i64 C2) := HT2.out.cell 2
      by_cases hC2 : C2 = 0
      rotate_left
      · have HE := hide (show R = none by rw [HKR.out, ← HU3.out, if_pos hC2])
        have hcb : (C2 != 0) = true := by simpa using hC2
        clear hC2 HU3 hto HKR
        go_quiet (fail)
        go_wp2
        go_ret2
        exact ⟨by rw [HE.out]; exact RdIs.none _ _, below_drewN HBZ.out nq⟩
      subst hC2
      obtain ⟨a20, a21, ht2⟩ := hto rfl
      obtain ⟨B2, rfl⟩ := Int.eq_ofNat_of_zero_le a20
      have HU4 := hide (show (if idB t1 = false then none else if belowB acc t1 = false then none else readU T (k - 1) B2 (acc ++ [(t1, t2)])) = readU T n A0 [] by
        have := HU3.out
        rw [if_neg (by simp)] at this
        simpa using this)
      clear HU3
      have htm : t1.size ≤ maxLen := by unfold maxLen; omega
      cases hid : idB t1
      · have HE := hide (show R = none by rw [HKR.out, ← HU4.out, if_pos hid])
        have HNR := hide (fun X : World => specNameRight_any t1 X htm)
        rw [hid] at HNR
        clear HU4 hto HKR hid
        go_quiet ((go_at_call 60; exact Calls.quiet_of_same (HNR.out _)))
        go_wp2
        go_ret2
        exact ⟨by rw [HE.out]; exact RdIs.none _ _, below_drewN HBZ.out nq⟩
      have HNR := hide (fun X : World => specNameRight_any t1 X htm)
      rw [hid] at HNR
      have HU5 := hide (show (if belowB acc t1 = false then none else readU T (k - 1) B2 (acc ++ [(t1, t2)])) = readU T n A0 [] by
        have := HU4.out
        rw [if_neg (by rw [hid]; simp)] at this
        exact this)
      have HOKn := hide (show ∀ x ∈ acc ++ [(t1, t2)], OkI x from fun x hx => by
        rcases List.mem_append.1 hx with hx | hx
        · exact HOK.out x hx
        · obtain rfl : x = (t1, t2) := by simpa using hx
          exact ⟨hid, ht2⟩)
      have hB2 : B2 ≤ 8000 := by omega
      have hkm : ((k : Int) - 1) = ((k - 1 : Nat) : Int) := by omega
      have HKM := hide hkm
      clear HU4 hto hid hkm a20 a10
      by_cases hl0 : acc.length = 0
      · have HUN := hide (show readU T (k - 1) B2 (acc ++ [(t1, t2)]) = readU T n A0 [] by
          have := HU5.out
          rw [if_neg (by rw [List.eq_nil_of_length_eq_zero hl0]; simp [belowB])] at this
          exact this)
        have hnl : ¬ (0 : Int) < (acc.length : Int) := by omega
        have HL0 := hide hl0
        clear HU5 hl0
        refine wp_region_held (S := fun y : World => y.cell? ⟨X1.heap.size, 0, none⟩ = some (.string t1) ∧ y.cell? ⟨X2.heap.size, 2, none⟩ = some (.int .i64 0)) (by kernel_rfl) ?_
        have HS := hide (show ({ Z with drawn := Z.drawn + 1 } : World).cell? ⟨X1.heap.size, 0, none⟩ = some (.string t1) ∧ ({ Z with drawn := Z.drawn + 1 } : World).cell? ⟨X2.heap.size, 2, none⟩ = some (.int .i64 0) from ⟨d90, d102⟩)
        have HZV := hide (show Below Z.heap.size Z { Z with drawn := Z.drawn + 1 } from (Below.refl _ Z).drew)
        generalize ({ Z with drawn := Z.drawn + 1 } : World) = V at HS HZV ⊢
        clear d90 d102
        refine wpAnyH_take (i := 0) (oi := _) (v := .pointer (some ⟨X2.heap.size, 2, none⟩)) rfl (by kernel_rfl) (by kernel_rfl) (by kernel_rfl) (fun _ _ _ h => h) (Or.inl ⟨by rfl, by intro w hSw; go_split_ands; go_simp <;> omega⟩) HS.out ?_
        simp only [Act.put, List.getElem_toArray, List.getElem_cons_zero, List.setIfInBounds_toArray, List.set_cons_zero, List.set_cons_succ]
        refine wpAnyH_take (i := 1) (oi := _) (v := .int .i64 0) rfl (by kernel_rfl) (by kernel_rfl) (by kernel_rfl) (fun _ _ _ h => h) (Or.inl ⟨by rfl, by intro w hSw; go_split_ands; go_simp <;> omega⟩) HS.out ?_
        simp only [Act.put, List.getElem_toArray, List.getElem_cons_zero, List.getElem_cons_succ, List.setIfInBounds_toArray, List.set_cons_zero, List.set_cons_succ]
        refine wpAnyH_take (i := 2) (oi := _) (v := .bool false) rfl (by kernel_rfl) (by kernel_rfl) (by kernel_rfl) (fun _ _ _ h => h) (Or.inl ⟨by rfl, by intro w hSw; go_split_ands; go_simp <;> omega⟩) HS.out ?_
        simp only [Act.put, List.getElem_toArray, List.getElem_cons_zero, List.getElem_cons_succ, List.setIfInBounds_toArray, List.set_cons_zero, List.set_cons_succ]
        refine wpAnyH_take (i := 3) (oi := _) (v := .bool false) rfl (by kernel_rfl) (by kernel_rfl) (by kernel_rfl) (fun _ _ _ h => h) (Or.inl ⟨by rfl, by intro w hSw; go_split_ands; go_simp <;> omega⟩) HS.out ?_
        simp only [Act.put, List.getElem_toArray, List.getElem_cons_zero, List.getElem_cons_succ, List.setIfInBounds_toArray, List.set_cons_zero, List.set_cons_succ]
        refine wpAnyH_take (i := 4) (oi := _) (v := .pointer (some ⟨X1.heap.size, 0, none⟩)) rfl (by kernel_rfl) (by kernel_rfl) (by kernel_rfl) (fun _ _ _ h => h) (Or.inl ⟨by rfl, by intro w hSw; go_split_ands; go_simp <;> omega⟩) HS.out ?_
        simp only [Act.put, List.getElem_toArray, List.getElem_cons_zero, List.getElem_cons_succ, List.setIfInBounds_toArray, List.set_cons_zero, List.set_cons_succ]
        refine wpAnyH_take (i := 5) (oi := _) (v := .string t1) rfl (by kernel_rfl) (by kernel_rfl) (by kernel_rfl) (fun _ _ _ h => h) (Or.inl ⟨by rfl, by intro w hSw; go_split_ands; go_simp <;> omega⟩) HS.out ?_
        simp only [Act.put, List.getElem_toArray, List.getElem_cons_zero, List.getElem_cons_succ, List.setIfInBounds_toArray, List.set_cons_zero, List.set_cons_succ]
        refine wpAnyH_ready (rs := [6]) (by kernel_rfl) (by simp) ?_
        refine AllReadyH.cons (o := _) rfl (fun K hK => ?_) AllReadyH.nil
        go_simp
        refine (HNR.out _).mono ?_
        rintro e V2 ⟨rfl, hVV⟩
        obtain rfl := hVV.symm
        refine hK.out _ _ HS.out (fun _ => ?_)
        clear hK K
        try simp only [Act.put, List.getElem_toArray, List.getElem_cons_zero, List.getElem_cons_succ, List.setIfInBounds_toArray, List.set_cons_zero, List.set_cons_succ]
        refine wpAnyH_take (i := 7) (oi := _) (v := .bool false) rfl (by kernel_rfl) (by kernel_rfl) (by kernel_rfl) (fun _ _ _ h => h) (Or.inl ⟨by rfl, by intro w hSw; go_split_ands; go_simp <;> omega⟩) HS.out ?_
        simp only [Act.put, List.getElem_toArray, List.getElem_cons_zero, List.getElem_cons_succ, List.setIfInBounds_toArray, List.set_cons_zero, List.set_cons_succ]
        refine wpAnyH_take (i := 8) (oi := _) (v := .bool false) rfl (by kernel_rfl) (by kernel_rfl) (by kernel_rfl) (fun _ _ _ h => h) (Or.inl ⟨by rfl, by intro w hSw; go_split_ands; go_simp <;> omega⟩) HS.out ?_
        simp only [Act.put, List.getElem_toArray, List.getElem_cons_zero, List.getElem_cons_succ, List.setIfInBounds_toArray, List.set_cons_zero, List.set_cons_succ]
        refine wpAnyH_take (i := 9) (oi := _) (v := .bool false) rfl (by kernel_rfl) (by kernel_rfl) (by kernel_rfl) (fun _ _ _ h => h) (Or.inl ⟨by rfl, by intro w hSw; go_split_ands; go_simp <;> omega⟩) HS.out ?_
        simp only [Act.put, List.getElem_toArray, List.getElem_cons_zero, List.getElem_cons_succ, List.setIfInBounds_toArray, List.set_cons_zero, List.set_cons_succ]
        refine wpAnyH_take (i := 10) (oi := _) (v := .slice pl acc.length cl) rfl (by kernel_rfl) (by kernel_rfl) (by kernel_rfl) (fun _ _ _ h => h) (Or.inl ⟨by rfl, by intro w hSw; go_split_ands; go_simp <;> omega⟩) HS.out ?_
        simp only [Act.put, List.getElem_toArray, List.getElem_cons_zero, List.getElem_cons_succ, List.setIfInBounds_toArray, List.set_cons_zero, List.set_cons_succ]
        refine wpAnyH_take (i := 11) (oi := _) (v := .int .i64 (acc.length : Int)) rfl (by kernel_rfl) (by kernel_rfl) (by kernel_rfl) (fun _ _ _ h => h) (Or.inl ⟨by rfl, by intro w hSw; go_split_ands; go_simp <;> omega⟩) HS.out ?_
        simp only [Act.put, List.getElem_toArray, List.getElem_cons_zero, List.getElem_cons_succ, List.setIfInBounds_toArray, List.set_cons_zero, List.set_cons_succ]
        refine wpAnyH_take (i := 12) (oi := _) (v := .bool false) rfl (by kernel_rfl) (by kernel_rfl) (by kernel_rfl) (fun _ _ _ h => h) (Or.inl ⟨by rfl, by intro w hSw; go_split_ands; go_simp <;> exact List.eq_nil_of_length_eq_zero HL0.out⟩) HS.out ?_
        simp only [Act.put, List.getElem_toArray, List.getElem_cons_zero, List.getElem_cons_succ, List.setIfInBounds_toArray, List.set_cons_zero, List.set_cons_succ]
        refine wpAnyH_take (i := 13) (oi := _) (v := .bool false) rfl (by kernel_rfl) (by kernel_rfl) (by kernel_rfl) (fun _ _ _ h => h) (Or.inl ⟨by rfl, by intro w hSw; go_split_ands; go_simp <;> omega⟩) HS.out ?_
        simp only [Act.put, List.getElem_toArray, List.getElem_cons_zero, List.getElem_cons_succ, List.setIfInBounds_toArray, List.set_cons_zero, List.set_cons_succ]
        refine wpAnyH_take (i := 14) (oi := _) (v := undef) rfl (by kernel_rfl) (by kernel_rfl) (by kernel_rfl) (fun _ _ _ h => h) (Or.inr ⟨by rfl, rfl⟩) HS.out ?_
        simp only [Act.put, List.getElem_toArray, List.getElem_cons_zero, List.getElem_cons_succ, List.setIfInBounds_toArray, List.set_cons_zero, List.set_cons_succ]
        refine wpAnyH_take (i := 15) (oi := _) (v := undef) rfl (by kernel_rfl) (by kernel_rfl) (by kernel_rfl) (fun _ _ _ h => h) (Or.inr ⟨by rfl, rfl⟩) HS.out ?_
        simp only [Act.put, List.getElem_toArray, List.getElem_cons_zero, List.getElem_cons_succ, List.setIfInBounds_toArray, List.set_cons_zero, List.set_cons_succ]
        refine wpAnyH_take (i := 16) (oi := _) (v := undef) rfl (by kernel_rfl) (by kernel_rfl) (by kernel_rfl) (fun _ _ _ h => h) (Or.inr ⟨by rfl, rfl⟩) HS.out ?_
        simp only [Act.put, List.getElem_toArray, List.getElem_cons_zero, List.getElem_cons_succ, List.setIfInBounds_toArray, List.set_cons_zero, List.set_cons_succ]
        refine wpAnyH_take (i := 17) (oi := _) (v := undef) rfl (by kernel_rfl) (by kernel_rfl) (by kernel_rfl) (fun _ _ _ h => h) (Or.inr ⟨by rfl, rfl⟩) HS.out ?_
        simp only [Act.put, List.getElem_toArray, List.getElem_cons_zero, List.getElem_cons_succ, List.setIfInBounds_toArray, List.set_cons_zero, List.set_cons_succ]
        refine wpAnyH_take (i := 18) (oi := _) (v := undef) rfl (by kernel_rfl) (by kernel_rfl) (by kernel_rfl) (fun _ _ _ h => h) (Or.inr ⟨by rfl, rfl⟩) HS.out ?_
        simp only [Act.put, List.getElem_toArray, List.getElem_cons_zero, List.getElem_cons_succ, List.setIfInBounds_toArray, List.set_cons_zero, List.set_cons_succ]
        refine wpAnyH_take (i := 19) (oi := _) (v := undef) rfl (by kernel_rfl) (by kernel_rfl) (by kernel_rfl) (fun _ _ _ h => h) (Or.inr ⟨by rfl, rfl⟩) HS.out ?_
        simp only [Act.put, List.getElem_toArray, List.getElem_cons_zero, List.getElem_cons_succ, List.setIfInBounds_toArray, List.set_cons_zero, List.set_cons_succ]
        refine wpAnyH_take (i := 20) (oi := _) (v := undef) rfl (by kernel_rfl) (by kernel_rfl) (by kernel_rfl) (fun _ _ _ h => h) (Or.inr ⟨by rfl, rfl⟩) HS.out ?_
        simp only [Act.put, List.getElem_toArray, List.getElem_cons_zero, List.getElem_cons_succ, List.setIfInBounds_toArray, List.set_cons_zero, List.set_cons_succ]
        refine wpAnyH_take (i := 21) (oi := _) (v := undef) rfl (by kernel_rfl) (by kernel_rfl) (by kernel_rfl) (fun _ _ _ h => h) (Or.inr ⟨by rfl, rfl⟩) HS.out ?_
        simp only [Act.put, List.getElem_toArray, List.getElem_cons_zero, List.getElem_cons_succ, List.setIfInBounds_toArray, List.set_cons_zero, List.set_cons_succ]
        refine wpAnyH_take (i := 22) (oi := _) (v := undef) rfl (by kernel_rfl) (by kernel_rfl) (by kernel_rfl) (fun _ _ _ h => h) (Or.inr ⟨by rfl, rfl⟩) HS.out ?_
        simp only [Act.put, List.getElem_toArray, List.getElem_cons_zero, List.getElem_cons_succ, List.setIfInBounds_toArray, List.set_cons_zero, List.set_cons_succ]
        refine wpAnyH_take (i := 23) (oi := _) (v := undef) rfl (by kernel_rfl) (by kernel_rfl) (by kernel_rfl) (fun _ _ _ h => h) (Or.inr ⟨by rfl, rfl⟩) HS.out ?_
        simp only [Act.put, List.getElem_toArray, List.getElem_cons_zero, List.getElem_cons_succ, List.setIfInBounds_toArray, List.set_cons_zero, List.set_cons_succ]
        refine wpAnyH_take (i := 24) (oi := _) (v := .bool false) rfl (by kernel_rfl) (by kernel_rfl) (by kernel_rfl) (fun _ _ _ h => h) (Or.inl ⟨by rfl, by intro w hSw; go_split_ands; go_simp <;> omega⟩) HS.out ?_
        simp only [Act.put, List.getElem_toArray, List.getElem_cons_zero, List.getElem_cons_succ, List.setIfInBounds_toArray, List.set_cons_zero, List.set_cons_succ]
        refine wpAnyH_take (i := 25) (oi := _) (v := .bool false) rfl (by kernel_rfl) (by kernel_rfl) (by kernel_rfl) (fun _ _ _ h => h) (Or.inl ⟨by rfl, by intro w hSw; go_split_ands; go_simp <;> omega⟩) HS.out ?_
        simp only [Act.put, List.getElem_toArray, List.getElem_cons_zero, List.getElem_cons_succ, List.setIfInBounds_toArray, List.set_cons_zero, List.set_cons_succ]
        refine wpAnyH_done (by kernel_rfl) ?_ _
        have HVV := hide (show Below W2.heap.size W2 V from HZZ.out.trans (HZV.out.mono HZZ.out.size))
        have HOV := hide (own_belowX HOZ.out HZV.out)
        have e90 : V.cell? ⟨X1.heap.size, 0, none⟩ = some (.string t1) := (HT1.out.below HZV.out HT1.out.lt).cell 0
        have e100 : V.cell? ⟨X2.heap.size, 0, none⟩ = some (.string t2) := (HT2.out.below HZV.out HT2.out.lt).cell 0
        have HR102 := hide (HT2.out.below HZV.out HT2.out.lt)
        clear HZV
        have HRW := hide (row_new V [.string t1, .string t2] 75)
        have HOVa := hide (own_belowX HOV.out (below_new V (.cells #[.string t1, .string t2] 75)))
        have HVS := hide (show W2.heap.size ≤ (V.alloc (.cells #[.string t1, .string t2] 75)).heap.size by have := HVV.out.size; simp; omega)
        have hnews : ∀ (j : Nat) u, ([Value.string t1, Value.string t2] : List Value)[j]? = some u → (V.alloc (.cells #[.string t1, .string t2] 75)).cell? ((⟨V.heap.size, 0, none⟩ : Addr).add j) = some u := fun j u hu => by
          rw [Addr.add_lit, Nat.zero_add, HRW.out.cell]; exact hu
        have HNW := hide hnews
        clear hnews
        go_wp2_with (at_builtin; refine wpList_append_own_at (V.alloc (.cells #[.string t1, .string t2] 75)) rfl (.tmp 75) (.tmp 81) 49 rfl W2.heap.size 75 i0 _ 2 32 Tryz.underlying49 hi hz0 hz1 hz2 HZC.out (by omega) _ acc.length (itc acc) rfl HOVa.out ⟨V.heap.size, 0, none⟩ 1 _ [.string t1, .string t2] rfl rfl HNW.out (by simp [Value.oneCell']) (by unfold maxLen; omega) (by omega) HVS.out ?_)
        intro v9 Z9 hown9 hgrow _ _
        obtain ⟨pv, cv, hv9⟩ := own_sliceX hown9
        subst hv9
        have HB9 := hide ((HVV.out.alloc HVV.out.size (.cells #[.string t1, .string t2] 75)).grown hgrow HVS.out (fun g hg => (HOVa.out.lt g hg).1))
        have HO9 := hide (show Z9.ownsRow W2.heap.size 75 2 (.slice pv (acc ++ [(t1, t2)]).length cv) (acc ++ [(t1, t2)]).length (itc (acc ++ [(t1, t2)])) by
          rw [itc_append, List.length_append]
          exact hown9)
        have HR9 := hide (row_grown ((HR102.out).alloc (.cells #[.string t1, .string t2] 75)) hgrow HNB.out)
        have e101 : Z9.cell? ⟨X2.heap.size, 1, none⟩ = some (.int .i64 (B2 : Int)) := HR9.out.cell 1
        clear hown9 hgrow e90 e100
        go_wp2
        go_roundw
        case rel => exact ⟨Z9, k - 1, B2, acc ++ [(t1, t2)], rfl, rfl, by rw [HKM.out], by simp; omega, hB2, HUN, HOKn, by simpa using HO9, HB9⟩
        case measure => simp [intOf]; omega
      obtain ⟨gl, rfl⟩ : ∃ gl, pl = some ⟨gl, 0, none⟩ := by
        obtain ⟨_, ⟨_, h1⟩ | ⟨g, cap, cur, e1, _⟩⟩ := HOZ.out
        · omega
        · cases e1; exact ⟨_, rfl⟩
      have hpl : (0 : Int) < (acc.length : Int) := by omega
      have hlast : Z.cell? ⟨gl, (acc.length - 1) * 2, none⟩ = some (.string (acc[acc.length - 1]'(by omega)).1) := by
        rw [HOZ.out.cellAt ((acc.length - 1) * 2) (by omega)]
        exact (itc_at acc (acc.length - 1) (by omega)).1
      have HBL := hide (below_last (acc := acc) (by omega) t1)
      have hless := less_eq (acc[acc.length - 1]'(by omega)).1 t1
      obtain ⟨lst, hlst⟩ : ∃ lst, lst = (acc[acc.length - 1]'(by omega)).1 := ⟨_, rfl⟩
      rw [← hlst] at hlast hless HBL
      rw [← HBL.out] at hless
      have hw1 : IntKind.i64.wrap ((acc.length : Int) - 1) = (acc.length : Int) - 1 := by rw [IntKind.wrap_i64]; omega
      have hw2 : ((acc.length : Int) - 1).toNat = acc.length - 1 := by omega
      have hw3 : (0 : Int) ≤ (acc.length : Int) - 1 := by omega
      have hw4 : (acc.length : Int) - 1 < (acc.length : Int) := by omega
      clear hlst
      cases hbl : belowB acc t1
      · have HE := hide (show R = none by rw [HKR.out, ← HU5.out, if_pos hbl])
        rw [hbl] at hless
        clear HU5 HKR hbl HBL
        refine wp_region_held (S := fun y : World => y.cell? ⟨X1.heap.size, 0, none⟩ = some (.string t1) ∧ y.cell? ⟨X2.heap.size, 2, none⟩ = some (.int .i64 0) ∧ y.cell? ⟨gl, (acc.length - 1) * 2, none⟩ = some (.string lst)) (by kernel_rfl) ?_
        have HS := hide (show ({ Z with drawn := Z.drawn + 1 } : World).cell? ⟨X1.heap.size, 0, none⟩ = some (.string t1) ∧ ({ Z with drawn := Z.drawn + 1 } : World).cell? ⟨X2.heap.size, 2, none⟩ = some (.int .i64 0) ∧ ({ Z with drawn := Z.drawn + 1 } : World).cell? ⟨gl, (acc.length - 1) * 2, none⟩ = some (.string lst) from ⟨d90, d102, hlast⟩)
        have HZV := hide (show Below Z.heap.size Z { Z with drawn := Z.drawn + 1 } from (Below.refl _ Z).drew)
        generalize ({ Z with drawn := Z.drawn + 1 } : World) = V at HS HZV ⊢
        clear d90 d102 hlast
        refine wpAnyH_take (i := 0) (oi := _) (v := .pointer (some ⟨X2.heap.size, 2, none⟩)) rfl (by kernel_rfl) (by kernel_rfl) (by kernel_rfl) (fun _ _ _ h => h) (Or.inl ⟨by rfl, by intro w hSw; go_split_ands; go_simp <;> omega⟩) HS.out ?_
        simp only [Act.put, List.getElem_toArray, List.getElem_cons_zero, List.setIfInBounds_toArray, List.set_cons_zero, List.set_cons_succ]
        refine wpAnyH_take (i := 1) (oi := _) (v := .int .i64 0) rfl (by kernel_rfl) (by kernel_rfl) (by kernel_rfl) (fun _ _ _ h => h) (Or.inl ⟨by rfl, by intro w hSw; go_split_ands; go_simp <;> omega⟩) HS.out ?_
        simp only [Act.put, List.getElem_toArray, List.getElem_cons_zero, List.getElem_cons_succ, List.setIfInBounds_toArray, List.set_cons_zero, List.set_cons_succ]
        refine wpAnyH_take (i := 2) (oi := _) (v := .bool false) rfl (by kernel_rfl) (by kernel_rfl) (by kernel_rfl) (fun _ _ _ h => h) (Or.inl ⟨by rfl, by intro w hSw; go_split_ands; go_simp <;> omega⟩) HS.out ?_
        simp only [Act.put, List.getElem_toArray, List.getElem_cons_zero, List.getElem_cons_succ, List.setIfInBounds_toArray, List.set_cons_zero, List.set_cons_succ]
        refine wpAnyH_take (i := 3) (oi := _) (v := .bool false) rfl (by kernel_rfl) (by kernel_rfl) (by kernel_rfl) (fun _ _ _ h => h) (Or.inl ⟨by rfl, by intro w hSw; go_split_ands; go_simp <;> omega⟩) HS.out ?_
        simp only [Act.put, List.getElem_toArray, List.getElem_cons_zero, List.getElem_cons_succ, List.setIfInBounds_toArray, List.set_cons_zero, List.set_cons_succ]
        refine wpAnyH_take (i := 4) (oi := _) (v := .pointer (some ⟨X1.heap.size, 0, none⟩)) rfl (by kernel_rfl) (by kernel_rfl) (by kernel_rfl) (fun _ _ _ h => h) (Or.inl ⟨by rfl, by intro w hSw; go_split_ands; go_simp <;> omega⟩) HS.out ?_
        simp only [Act.put, List.getElem_toArray, List.getElem_cons_zero, List.getElem_cons_succ, List.setIfInBounds_toArray, List.set_cons_zero, List.set_cons_succ]
        refine wpAnyH_take (i := 5) (oi := _) (v := .string t1) rfl (by kernel_rfl) (by kernel_rfl) (by kernel_rfl) (fun _ _ _ h => h) (Or.inl ⟨by rfl, by intro w hSw; go_split_ands; go_simp <;> omega⟩) HS.out ?_
        simp only [Act.put, List.getElem_toArray, List.getElem_cons_zero, List.getElem_cons_succ, List.setIfInBounds_toArray, List.set_cons_zero, List.set_cons_succ]
        refine wpAnyH_ready (rs := [6]) (by kernel_rfl) (by simp) ?_
        refine AllReadyH.cons (o := _) rfl (fun K hK => ?_) AllReadyH.nil
        go_simp
        refine (HNR.out _).mono ?_
        rintro e V2 ⟨rfl, hVV⟩
        obtain rfl := hVV.symm
        refine hK.out _ _ HS.out (fun _ => ?_)
        clear hK K
        try simp only [Act.put, List.getElem_toArray, List.getElem_cons_zero, List.getElem_cons_succ, List.setIfInBounds_toArray, List.set_cons_zero, List.set_cons_succ]
        refine wpAnyH_take (i := 7) (oi := _) (v := .bool false) rfl (by kernel_rfl) (by kernel_rfl) (by kernel_rfl) (fun _ _ _ h => h) (Or.inl ⟨by rfl, by intro w hSw; go_split_ands; go_simp <;> omega⟩) HS.out ?_
        simp only [Act.put, List.getElem_toArray, List.getElem_cons_zero, List.getElem_cons_succ, List.setIfInBounds_toArray, List.set_cons_zero, List.set_cons_succ]
        refine wpAnyH_take (i := 8) (oi := _) (v := .bool false) rfl (by kernel_rfl) (by kernel_rfl) (by kernel_rfl) (fun _ _ _ h => h) (Or.inl ⟨by rfl, by intro w hSw; go_split_ands; go_simp <;> omega⟩) HS.out ?_
        simp only [Act.put, List.getElem_toArray, List.getElem_cons_zero, List.getElem_cons_succ, List.setIfInBounds_toArray, List.set_cons_zero, List.set_cons_succ]
        refine wpAnyH_take (i := 9) (oi := _) (v := .bool false) rfl (by kernel_rfl) (by kernel_rfl) (by kernel_rfl) (fun _ _ _ h => h) (Or.inl ⟨by rfl, by intro w hSw; go_split_ands; go_simp <;> omega⟩) HS.out ?_
        simp only [Act.put, List.getElem_toArray, List.getElem_cons_zero, List.getElem_cons_succ, List.setIfInBounds_toArray, List.set_cons_zero, List.set_cons_succ]
        refine wpAnyH_take (i := 10) (oi := _) (v := .slice (some ⟨gl, 0, none⟩) acc.length cl) rfl (by kernel_rfl) (by kernel_rfl) (by kernel_rfl) (fun _ _ _ h => h) (Or.inl ⟨by rfl, by intro w hSw; go_split_ands; go_simp <;> omega⟩) HS.out ?_
        simp only [Act.put, List.getElem_toArray, List.getElem_cons_zero, List.getElem_cons_succ, List.setIfInBounds_toArray, List.set_cons_zero, List.set_cons_succ]
        refine wpAnyH_take (i := 11) (oi := _) (v := .int .i64 (acc.length : Int)) rfl (by kernel_rfl) (by kernel_rfl) (by kernel_rfl) (fun _ _ _ h => h) (Or.inl ⟨by rfl, by intro w hSw; go_split_ands; go_simp <;> omega⟩) HS.out ?_
        simp only [Act.put, List.getElem_toArray, List.getElem_cons_zero, List.getElem_cons_succ, List.setIfInBounds_toArray, List.set_cons_zero, List.set_cons_succ]
        refine wpAnyH_take (i := 12) (oi := _) (v := .bool true) rfl (by kernel_rfl) (by kernel_rfl) (by kernel_rfl) (fun _ _ _ h => h) (Or.inl ⟨by rfl, by intro w hSw; go_split_ands; go_simp <;> omega⟩) HS.out ?_
        simp only [Act.put, List.getElem_toArray, List.getElem_cons_zero, List.getElem_cons_succ, List.setIfInBounds_toArray, List.set_cons_zero, List.set_cons_succ]
        refine wpAnyH_take (i := 13) (oi := _) (v := .bool true) rfl (by kernel_rfl) (by kernel_rfl) (by kernel_rfl) (fun _ _ _ h => h) (Or.inl ⟨by rfl, by intro w hSw; go_split_ands; go_simp <;> omega⟩) HS.out ?_
        simp only [Act.put, List.getElem_toArray, List.getElem_cons_zero, List.getElem_cons_succ, List.setIfInBounds_toArray, List.set_cons_zero, List.set_cons_succ]
        refine wpAnyH_take (i := 14) (oi := _) (v := .slice (some ⟨gl, 0, none⟩) acc.length cl) rfl (by kernel_rfl) (by kernel_rfl) (by kernel_rfl) (fun _ _ _ h => h) (Or.inl ⟨by rfl, by intro w hSw; go_split_ands; go_simp <;> omega⟩) HS.out ?_
        simp only [Act.put, List.getElem_toArray, List.getElem_cons_zero, List.getElem_cons_succ, List.setIfInBounds_toArray, List.set_cons_zero, List.set_cons_succ]
        refine wpAnyH_take (i := 15) (oi := _) (v := .slice (some ⟨gl, 0, none⟩) acc.length cl) rfl (by kernel_rfl) (by kernel_rfl) (by kernel_rfl) (fun _ _ _ h => h) (Or.inl ⟨by rfl, by intro w hSw; go_split_ands; go_simp <;> omega⟩) HS.out ?_
        simp only [Act.put, List.getElem_toArray, List.getElem_cons_zero, List.getElem_cons_succ, List.setIfInBounds_toArray, List.set_cons_zero, List.set_cons_succ]
        refine wpAnyH_take (i := 16) (oi := _) (v := .int .i64 (acc.length : Int)) rfl (by kernel_rfl) (by kernel_rfl) (by kernel_rfl) (fun _ _ _ h => h) (Or.inl ⟨by rfl, by intro w hSw; go_split_ands; go_simp <;> omega⟩) HS.out ?_
        simp only [Act.put, List.getElem_toArray, List.getElem_cons_zero, List.getElem_cons_succ, List.setIfInBounds_toArray, List.set_cons_zero, List.set_cons_succ]
        refine wpAnyH_take (i := 17) (oi := _) (v := .int .i64 ((acc.length : Int) - 1)) rfl (by kernel_rfl) (by kernel_rfl) (by kernel_rfl) (fun _ _ _ h => h) (Or.inl ⟨by rfl, by intro w hSw; go_split_ands; go_simp <;> omega⟩) HS.out ?_
        simp only [Act.put, List.getElem_toArray, List.getElem_cons_zero, List.getElem_cons_succ, List.setIfInBounds_toArray, List.set_cons_zero, List.set_cons_succ]
        refine wpAnyH_take (i := 18) (oi := _) (v := .pointer (some ⟨gl, (acc.length - 1) * 2, none⟩)) rfl (by kernel_rfl) (by kernel_rfl) (by kernel_rfl) (fun _ _ _ h => h) (Or.inl ⟨by rfl, by intro w hSw; go_split_ands; go_simp <;> omega⟩) HS.out ?_
        simp only [Act.put, List.getElem_toArray, List.getElem_cons_zero, List.getElem_cons_succ, List.setIfInBounds_toArray, List.set_cons_zero, List.set_cons_succ]
        refine wpAnyH_take (i := 19) (oi := _) (v := .pointer (some ⟨gl, (acc.length - 1) * 2, none⟩)) rfl (by kernel_rfl) (by kernel_rfl) (by kernel_rfl) (fun _ _ _ h => h) (Or.inl ⟨by rfl, by intro w hSw; go_split_ands; go_simp <;> omega⟩) HS.out ?_
        simp only [Act.put, List.getElem_toArray, List.getElem_cons_zero, List.getElem_cons_succ, List.setIfInBounds_toArray, List.set_cons_zero, List.set_cons_succ]
        refine wpAnyH_take (i := 20) (oi := _) (v := .string lst) rfl (by kernel_rfl) (by kernel_rfl) (by kernel_rfl) (fun _ _ _ h => h) (Or.inl ⟨by rfl, by intro w hSw; go_split_ands; go_simp <;> omega⟩) HS.out ?_
        simp only [Act.put, List.getElem_toArray, List.getElem_cons_zero, List.getElem_cons_succ, List.setIfInBounds_toArray, List.set_cons_zero, List.set_cons_succ]
        refine wpAnyH_take (i := 21) (oi := _) (v := .pointer (some ⟨X1.heap.size, 0, none⟩)) rfl (by kernel_rfl) (by kernel_rfl) (by kernel_rfl) (fun _ _ _ h => h) (Or.inl ⟨by rfl, by intro w hSw; go_split_ands; go_simp <;> omega⟩) HS.out ?_
        simp only [Act.put, List.getElem_toArray, List.getElem_cons_zero, List.getElem_cons_succ, List.setIfInBounds_toArray, List.set_cons_zero, List.set_cons_succ]
        refine wpAnyH_take (i := 22) (oi := _) (v := .string t1) rfl (by kernel_rfl) (by kernel_rfl) (by kernel_rfl) (fun _ _ _ h => h) (Or.inl ⟨by rfl, by intro w hSw; go_split_ands; go_simp <;> omega⟩) HS.out ?_
        simp only [Act.put, List.getElem_toArray, List.getElem_cons_zero, List.getElem_cons_succ, List.setIfInBounds_toArray, List.set_cons_zero, List.set_cons_succ]
        refine wpAnyH_take (i := 23) (oi := _) (v := .bool true) rfl (by kernel_rfl) (by kernel_rfl) (by kernel_rfl) (fun _ _ _ h => h) (Or.inl ⟨by rfl, by intro w hSw; go_split_ands; go_simp <;> simp [hless]⟩) HS.out ?_
        simp only [Act.put, List.getElem_toArray, List.getElem_cons_zero, List.getElem_cons_succ, List.setIfInBounds_toArray, List.set_cons_zero, List.set_cons_succ]
        refine wpAnyH_take (i := 24) (oi := _) (v := .bool true) rfl (by kernel_rfl) (by kernel_rfl) (by kernel_rfl) (fun _ _ _ h => h) (Or.inl ⟨by rfl, by intro w hSw; go_split_ands; go_simp <;> omega⟩) HS.out ?_
        simp only [Act.put, List.getElem_toArray, List.getElem_cons_zero, List.getElem_cons_succ, List.setIfInBounds_toArray, List.set_cons_zero, List.set_cons_succ]
        refine wpAnyH_take (i := 25) (oi := _) (v := .bool true) rfl (by kernel_rfl) (by kernel_rfl) (by kernel_rfl) (fun _ _ _ h => h) (Or.inl ⟨by rfl, by intro w hSw; go_split_ands; go_simp <;> omega⟩) HS.out ?_
        simp only [Act.put, List.getElem_toArray, List.getElem_cons_zero, List.getElem_cons_succ, List.setIfInBounds_toArray, List.set_cons_zero, List.set_cons_succ]
        refine wpAnyH_done (by kernel_rfl) ?_ _
        go_wp2
        go_ret2
        exact ⟨by rw [HE.out]; exact RdIs.none _ _, HBZ.out.trans (HZV.out.mono HBZ.out.size)⟩
      have HUN := hide (show readU T (k - 1) B2 (acc ++ [(t1, t2)]) = readU T n A0 [] by
        have := HU5.out
        rw [if_neg (by rw [hbl]; simp)] at this
        exact this)
      rw [hbl] at hless
      clear HU5 hbl HBL
      refine wp_region_held (S := fun y : World => y.cell? ⟨X1.heap.size, 0, none⟩ = some (.string t1) ∧ y.cell? ⟨X2.heap.size, 2, none⟩ = some (.int .i64 0) ∧ y.cell? ⟨gl, (acc.length - 1) * 2, none⟩ = some (.string lst)) (by kernel_rfl) ?_
      have HS := hide (show ({ Z with drawn := Z.drawn + 1 } : World).cell? ⟨X1.heap.size, 0, none⟩ = some (.string t1) ∧ ({ Z with drawn := Z.drawn + 1 } : World).cell? ⟨X2.heap.size, 2, none⟩ = some (.int .i64 0) ∧ ({ Z with drawn := Z.drawn + 1 } : World).cell? ⟨gl, (acc.length - 1) * 2, none⟩ = some (.string lst) from ⟨d90, d102, hlast⟩)
      have HZV := hide (show Below Z.heap.size Z { Z with drawn := Z.drawn + 1 } from (Below.refl _ Z).drew)
      generalize ({ Z with drawn := Z.drawn + 1 } : World) = V at HS HZV ⊢
      clear d90 d102 hlast
      refine wpAnyH_take (i := 0) (oi := _) (v := .pointer (some ⟨X2.heap.size, 2, none⟩)) rfl (by kernel_rfl) (by kernel_rfl) (by kernel_rfl) (fun _ _ _ h => h) (Or.inl ⟨by rfl, by intro w hSw; go_split_ands; go_simp <;> omega⟩) HS.out ?_
      simp only [Act.put, List.getElem_toArray, List.getElem_cons_zero, List.setIfInBounds_toArray, List.set_cons_zero, List.set_cons_succ]
      refine wpAnyH_take (i := 1) (oi := _) (v := .int .i64 0) rfl (by kernel_rfl) (by kernel_rfl) (by kernel_rfl) (fun _ _ _ h => h) (Or.inl ⟨by rfl, by intro w hSw; go_split_ands; go_simp <;> omega⟩) HS.out ?_
      simp only [Act.put, List.getElem_toArray, List.getElem_cons_zero, List.getElem_cons_succ, List.setIfInBounds_toArray, List.set_cons_zero, List.set_cons_succ]
      refine wpAnyH_take (i := 2) (oi := _) (v := .bool false) rfl (by kernel_rfl) (by kernel_rfl) (by kernel_rfl) (fun _ _ _ h => h) (Or.inl ⟨by rfl, by intro w hSw; go_split_ands; go_simp <;> omega⟩) HS.out ?_
      simp only [Act.put, List.getElem_toArray, List.getElem_cons_zero, List.getElem_cons_succ, List.setIfInBounds_toArray, List.set_cons_zero, List.set_cons_succ]
      refine wpAnyH_take (i := 3) (oi := _) (v := .bool false) rfl (by kernel_rfl) (by kernel_rfl) (by kernel_rfl) (fun _ _ _ h => h) (Or.inl ⟨by rfl, by intro w hSw; go_split_ands; go_simp <;> omega⟩) HS.out ?_
      simp only [Act.put, List.getElem_toArray, List.getElem_cons_zero, List.getElem_cons_succ, List.setIfInBounds_toArray, List.set_cons_zero, List.set_cons_succ]
      refine wpAnyH_take (i := 4) (oi := _) (v := .pointer (some ⟨X1.heap.size, 0, none⟩)) rfl (by kernel_rfl) (by kernel_rfl) (by kernel_rfl) (fun _ _ _ h => h) (Or.inl ⟨by rfl, by intro w hSw; go_split_ands; go_simp <;> omega⟩) HS.out ?_
      simp only [Act.put, List.getElem_toArray, List.getElem_cons_zero, List.getElem_cons_succ, List.setIfInBounds_toArray, List.set_cons_zero, List.set_cons_succ]
      refine wpAnyH_take (i := 5) (oi := _) (v := .string t1) rfl (by kernel_rfl) (by kernel_rfl) (by kernel_rfl) (fun _ _ _ h => h) (Or.inl ⟨by rfl, by intro w hSw; go_split_ands; go_simp <;> omega⟩) HS.out ?_
      simp only [Act.put, List.getElem_toArray, List.getElem_cons_zero, List.getElem_cons_succ, List.setIfInBounds_toArray, List.set_cons_zero, List.set_cons_succ]
      refine wpAnyH_ready (rs := [6]) (by kernel_rfl) (by simp) ?_
      refine AllReadyH.cons (o := _) rfl (fun K hK => ?_) AllReadyH.nil
      go_simp
      refine (HNR.out _).mono ?_
      rintro e V2 ⟨rfl, hVV⟩
      obtain rfl := hVV.symm
      refine hK.out _ _ HS.out (fun _ => ?_)
      clear hK K
      try simp only [Act.put, List.getElem_toArray, List.getElem_cons_zero, List.getElem_cons_succ, List.setIfInBounds_toArray, List.set_cons_zero, List.set_cons_succ]
      refine wpAnyH_take (i := 7) (oi := _) (v := .bool false) rfl (by kernel_rfl) (by kernel_rfl) (by kernel_rfl) (fun _ _ _ h => h) (Or.inl ⟨by rfl, by intro w hSw; go_split_ands; go_simp <;> omega⟩) HS.out ?_
      simp only [Act.put, List.getElem_toArray, List.getElem_cons_zero, List.getElem_cons_succ, List.setIfInBounds_toArray, List.set_cons_zero, List.set_cons_succ]
      refine wpAnyH_take (i := 8) (oi := _) (v := .bool false) rfl (by kernel_rfl) (by kernel_rfl) (by kernel_rfl) (fun _ _ _ h => h) (Or.inl ⟨by rfl, by intro w hSw; go_split_ands; go_simp <;> omega⟩) HS.out ?_
      simp only [Act.put, List.getElem_toArray, List.getElem_cons_zero, List.getElem_cons_succ, List.setIfInBounds_toArray, List.set_cons_zero, List.set_cons_succ]
      refine wpAnyH_take (i := 9) (oi := _) (v := .bool false) rfl (by kernel_rfl) (by kernel_rfl) (by kernel_rfl) (fun _ _ _ h => h) (Or.inl ⟨by rfl, by intro w hSw; go_split_ands; go_simp <;> omega⟩) HS.out ?_
      simp only [Act.put, List.getElem_toArray, List.getElem_cons_zero, List.getElem_cons_succ, List.setIfInBounds_toArray, List.set_cons_zero, List.set_cons_succ]
      refine wpAnyH_take (i := 10) (oi := _) (v := .slice (some ⟨gl, 0, none⟩) acc.length cl) rfl (by kernel_rfl) (by kernel_rfl) (by kernel_rfl) (fun _ _ _ h => h) (Or.inl ⟨by rfl, by intro w hSw; go_split_ands; go_simp <;> omega⟩) HS.out ?_
      simp only [Act.put, List.getElem_toArray, List.getElem_cons_zero, List.getElem_cons_succ, List.setIfInBounds_toArray, List.set_cons_zero, List.set_cons_succ]
      refine wpAnyH_take (i := 11) (oi := _) (v := .int .i64 (acc.length : Int)) rfl (by kernel_rfl) (by kernel_rfl) (by kernel_rfl) (fun _ _ _ h => h) (Or.inl ⟨by rfl, by intro w hSw; go_split_ands; go_simp <;> omega⟩) HS.out ?_
      simp only [Act.put, List.getElem_toArray, List.getElem_cons_zero, List.getElem_cons_succ, List.setIfInBounds_toArray, List.set_cons_zero, List.set_cons_succ]
      refine wpAnyH_take (i := 12) (oi := _) (v := .bool true) rfl (by kernel_rfl) (by kernel_rfl) (by kernel_rfl) (fun _ _ _ h => h) (Or.inl ⟨by rfl, by intro w hSw; go_split_ands; go_simp <;> omega⟩) HS.out ?_
      simp only [Act.put, List.getElem_toArray, List.getElem_cons_zero, List.getElem_cons_succ, List.setIfInBounds_toArray, List.set_cons_zero, List.set_cons_succ]
      refine wpAnyH_take (i := 13) (oi := _) (v := .bool true) rfl (by kernel_rfl) (by kernel_rfl) (by kernel_rfl) (fun _ _ _ h => h) (Or.inl ⟨by rfl, by intro w hSw; go_split_ands; go_simp <;> omega⟩) HS.out ?_
      simp only [Act.put, List.getElem_toArray, List.getElem_cons_zero, List.getElem_cons_succ, List.setIfInBounds_toArray, List.set_cons_zero, List.set_cons_succ]
      refine wpAnyH_take (i := 14) (oi := _) (v := .slice (some ⟨gl, 0, none⟩) acc.length cl) rfl (by kernel_rfl) (by kernel_rfl) (by kernel_rfl) (fun _ _ _ h => h) (Or.inl ⟨by rfl, by intro w hSw; go_split_ands; go_simp <;> omega⟩) HS.out ?_
      simp only [Act.put, List.getElem_toArray, List.getElem_cons_zero, List.getElem_cons_succ, List.setIfInBounds_toArray, List.set_cons_zero, List.set_cons_succ]
      refine wpAnyH_take (i := 15) (oi := _) (v := .slice (some ⟨gl, 0, none⟩) acc.length cl) rfl (by kernel_rfl) (by kernel_rfl) (by kernel_rfl) (fun _ _ _ h => h) (Or.inl ⟨by rfl, by intro w hSw; go_split_ands; go_simp <;> omega⟩) HS.out ?_
      simp only [Act.put, List.getElem_toArray, List.getElem_cons_zero, List.getElem_cons_succ, List.setIfInBounds_toArray, List.set_cons_zero, List.set_cons_succ]
      refine wpAnyH_take (i := 16) (oi := _) (v := .int .i64 (acc.length : Int)) rfl (by kernel_rfl) (by kernel_rfl) (by kernel_rfl) (fun _ _ _ h => h) (Or.inl ⟨by rfl, by intro w hSw; go_split_ands; go_simp <;> omega⟩) HS.out ?_
      simp only [Act.put, List.getElem_toArray, List.getElem_cons_zero, List.getElem_cons_succ, List.setIfInBounds_toArray, List.set_cons_zero, List.set_cons_succ]
      refine wpAnyH_take (i := 17) (oi := _) (v := .int .i64 ((acc.length : Int) - 1)) rfl (by kernel_rfl) (by kernel_rfl) (by kernel_rfl) (fun _ _ _ h => h) (Or.inl ⟨by rfl, by intro w hSw; go_split_ands; go_simp <;> omega⟩) HS.out ?_
      simp only [Act.put, List.getElem_toArray, List.getElem_cons_zero, List.getElem_cons_succ, List.setIfInBounds_toArray, List.set_cons_zero, List.set_cons_succ]
      refine wpAnyH_take (i := 18) (oi := _) (v := .pointer (some ⟨gl, (acc.length - 1) * 2, none⟩)) rfl (by kernel_rfl) (by kernel_rfl) (by kernel_rfl) (fun _ _ _ h => h) (Or.inl ⟨by rfl, by intro w hSw; go_split_ands; go_simp <;> omega⟩) HS.out ?_
      simp only [Act.put, List.getElem_toArray, List.getElem_cons_zero, List.getElem_cons_succ, List.setIfInBounds_toArray, List.set_cons_zero, List.set_cons_succ]
      refine wpAnyH_take (i := 19) (oi := _) (v := .pointer (some ⟨gl, (acc.length - 1) * 2, none⟩)) rfl (by kernel_rfl) (by kernel_rfl) (by kernel_rfl) (fun _ _ _ h => h) (Or.inl ⟨by rfl, by intro w hSw; go_split_ands; go_simp <;> omega⟩) HS.out ?_
      simp only [Act.put, List.getElem_toArray, List.getElem_cons_zero, List.getElem_cons_succ, List.setIfInBounds_toArray, List.set_cons_zero, List.set_cons_succ]
      refine wpAnyH_take (i := 20) (oi := _) (v := .string lst) rfl (by kernel_rfl) (by kernel_rfl) (by kernel_rfl) (fun _ _ _ h => h) (Or.inl ⟨by rfl, by intro w hSw; go_split_ands; go_simp <;> omega⟩) HS.out ?_
      simp only [Act.put, List.getElem_toArray, List.getElem_cons_zero, List.getElem_cons_succ, List.setIfInBounds_toArray, List.set_cons_zero, List.set_cons_succ]
      refine wpAnyH_take (i := 21) (oi := _) (v := .pointer (some ⟨X1.heap.size, 0, none⟩)) rfl (by kernel_rfl) (by kernel_rfl) (by kernel_rfl) (fun _ _ _ h => h) (Or.inl ⟨by rfl, by intro w hSw; go_split_ands; go_simp <;> omega⟩) HS.out ?_
      simp only [Act.put, List.getElem_toArray, List.getElem_cons_zero, List.getElem_cons_succ, List.setIfInBounds_toArray, List.set_cons_zero, List.set_cons_succ]
      refine wpAnyH_take (i := 22) (oi := _) (v := .string t1) rfl (by kernel_rfl) (by kernel_rfl) (by kernel_rfl) (fun _ _ _ h => h) (Or.inl ⟨by rfl, by intro w hSw; go_split_ands; go_simp <;> omega⟩) HS.out ?_
      simp only [Act.put, List.getElem_toArray, List.getElem_cons_zero, List.getElem_cons_succ, List.setIfInBounds_toArray, List.set_cons_zero, List.set_cons_succ]
      refine wpAnyH_take (i := 23) (oi := _) (v := .bool false) rfl (by kernel_rfl) (by kernel_rfl) (by kernel_rfl) (fun _ _ _ h => h) (Or.inl ⟨by rfl, by intro w hSw; go_split_ands; go_simp <;> simp [hless]⟩) HS.out ?_
      simp only [Act.put, List.getElem_toArray, List.getElem_cons_zero, List.getElem_cons_succ, List.setIfInBounds_toArray, List.set_cons_zero, List.set_cons_succ]
      refine wpAnyH_take (i := 24) (oi := _) (v := .bool false) rfl (by kernel_rfl) (by kernel_rfl) (by kernel_rfl) (fun _ _ _ h => h) (Or.inl ⟨by rfl, by intro w hSw; go_split_ands; go_simp <;> omega⟩) HS.out ?_
      simp only [Act.put, List.getElem_toArray, List.getElem_cons_zero, List.getElem_cons_succ, List.setIfInBounds_toArray, List.set_cons_zero, List.set_cons_succ]
      refine wpAnyH_take (i := 25) (oi := _) (v := .bool false) rfl (by kernel_rfl) (by kernel_rfl) (by kernel_rfl) (fun _ _ _ h => h) (Or.inl ⟨by rfl, by intro w hSw; go_split_ands; go_simp <;> omega⟩) HS.out ?_
      simp only [Act.put, List.getElem_toArray, List.getElem_cons_zero, List.getElem_cons_succ, List.setIfInBounds_toArray, List.set_cons_zero, List.set_cons_succ]
      refine wpAnyH_done (by kernel_rfl) ?_ _
      clear hless hw1 hw2 hw3 hw4
      have HVV := hide (show Below W2.heap.size W2 V from HZZ.out.trans (HZV.out.mono HZZ.out.size))
      have HOV := hide (own_belowX HOZ.out HZV.out)
      have e90 : V.cell? ⟨X1.heap.size, 0, none⟩ = some (.string t1) := (HT1.out.below HZV.out HT1.out.lt).cell 0
      have e100 : V.cell? ⟨X2.heap.size, 0, none⟩ = some (.string t2) := (HT2.out.below HZV.out HT2.out.lt).cell 0
      have HR102 := hide (HT2.out.below HZV.out HT2.out.lt)
      clear HZV
      have HRW := hide (row_new V [.string t1, .string t2] 75)
      have HOVa := hide (own_belowX HOV.out (below_new V (.cells #[.string t1, .string t2] 75)))
      have HVS := hide (show W2.heap.size ≤ (V.alloc (.cells #[.string t1, .string t2] 75)).heap.size by have := HVV.out.size; simp; omega)
      have hnews : ∀ (j : Nat) u, ([Value.string t1, Value.string t2] : List Value)[j]? = some u → (V.alloc (.cells #[.string t1, .string t2] 75)).cell? ((⟨V.heap.size, 0, none⟩ : Addr).add j) = some u := fun j u hu => by
        rw [Addr.add_lit, Nat.zero_add, HRW.out.cell]; exact hu
      have HNW := hide hnews
      clear hnews
      go_wp2_with (at_builtin; refine wpList_append_own_at (V.alloc (.cells #[.string t1, .string t2] 75)) rfl (.tmp 75) (.tmp 81) 49 rfl W2.heap.size 75 i0 _ 2 32 Tryz.underlying49 hi hz0 hz1 hz2 HZC.out (by omega) _ acc.length (itc acc) rfl HOVa.out ⟨V.heap.size, 0, none⟩ 1 _ [.string t1, .string t2] rfl rfl HNW.out (by simp [Value.oneCell']) (by unfold maxLen; omega) (by omega) HVS.out ?_)
      intro v9 Z9 hown9 hgrow _ _
      obtain ⟨pv, cv, hv9⟩ := own_sliceX hown9
      subst hv9
      have HB9 := hide ((HVV.out.alloc HVV.out.size (.cells #[.string t1, .string t2] 75)).grown hgrow HVS.out (fun g hg => (HOVa.out.lt g hg).1))
      have HO9 := hide (show Z9.ownsRow W2.heap.size 75 2 (.slice pv (acc ++ [(t1, t2)]).length cv) (acc ++ [(t1, t2)]).length (itc (acc ++ [(t1, t2)])) by
        rw [itc_append, List.length_append]
        exact hown9)
      have HR9 := hide (row_grown ((HR102.out).alloc (.cells #[.string t1, .string t2] 75)) hgrow HNB.out)
      have e101 : Z9.cell? ⟨X2.heap.size, 1, none⟩ = some (.int .i64 (B2 : Int)) := HR9.out.cell 1
      clear hown9 hgrow e90 e100
      go_wp2
      go_roundw
      case rel => exact ⟨Z9, k - 1, B2, acc ++ [(t1, t2)], rfl, rfl, by rw [HKM.out], by simp; omega, hB2, HUN, HOKn, by simpa using HO9, HB9⟩
      case measure => simp [intOf]; omega
    · have hk00 : k = 0 := by omega
      subst hk00
      have HFN := hide (show ∀ (Z2 : World) (u : Unit), Z2.ownsRow W2.heap.size 75 2 (.slice pl acc.length cl) acc.length (itc acc) → R.isSome = decide (storeB acc = T) ∧ ∀ L, R = some L → Z2.ownsRow w.heap.size 75 2 (.slice pl acc.length cl) L.length (itc L) from by
        have hRe : R = if storeB acc = T then some acc else none := by
          rw [HKR.out, ← HU.out]
          rfl
        intro Z2 _ ho
        rw [hRe]
        by_cases he : storeB acc = T
        · simp only [he, if_true]
          refine ⟨by simp, fun L hL => ?_⟩
          cases hL
          exact own_baseX ho HBW2.out.size
        · simp only [he, if_false]
          exact ⟨by simp, fun L hL => by cases hL⟩)
      have HRI := hide (readsIt_of HOw.out)
      clear HU HKR
      go_upto_region 20 with fail
      refine wp_region_held (S := fun y : World => y.cell? ⟨w1.heap.size, 2, none⟩ = some (.string T)) (by kernel_rfl) ?_
      have HSS := hide (show ∀ y : World, Below X.heap.size X y → y.cell? ⟨w1.heap.size, 2, none⟩ = some (.string T) from fun y hb => (HRX.out.below hb HRX.out.lt).cell 2)
      have HZ1 := hide (show Below X.heap.size X { X with drawn := X.drawn + 1 } from (Below.refl _ X).drew)
      generalize ({ X with drawn := X.drawn + 1 } : World) = Z1 at HZ1 ⊢
      have HS := hide (HSS.out _ HZ1.out)
      refine wpAnyH_take (i := 0) (oi := _) (v := .slice pl acc.length cl) rfl (by kernel_rfl) (by kernel_rfl) (by kernel_rfl) (fun _ _ _ h => h) (Or.inl ⟨by rfl, by intro w hSw; go_split_ands; go_simp⟩) HS.out ?_
      simp only [Act.put, List.getElem_toArray, List.getElem_cons_zero, List.setIfInBounds_toArray, List.set_cons_zero, List.set_cons_succ]
      refine wpAnyH_take (i := 1) (oi := _) (v := .slice pl acc.length cl) rfl (by kernel_rfl) (by kernel_rfl) (by kernel_rfl) (fun _ _ _ h => h) (Or.inl ⟨by rfl, by intro w hSw; go_split_ands; go_simp⟩) HS.out ?_
      simp only [Act.put, List.getElem_toArray, List.getElem_cons_zero, List.getElem_cons_succ, List.setIfInBounds_toArray, List.set_cons_zero, List.set_cons_succ]
      refine wpAnyH_take (i := 3) (oi := _) (v := .pointer (some ⟨w1.heap.size, 2, none⟩)) rfl (by kernel_rfl) (by kernel_rfl) (by kernel_rfl) (fun _ _ _ h => h) (Or.inl ⟨by rfl, by intro w hSw; go_split_ands; go_simp⟩) HS.out ?_
      simp only [Act.put, List.getElem_toArray, List.getElem_cons_zero, List.getElem_cons_succ, List.setIfInBounds_toArray, List.set_cons_zero, List.set_cons_succ]
      refine wpAnyH_take (i := 4) (oi := _) (v := .string T) rfl (by kernel_rfl) (by kernel_rfl) (by kernel_rfl) (fun _ _ _ h => h) (Or.inl ⟨by rfl, by intro w hSw; go_split_ands; go_simp⟩) HS.out ?_
      simp only [Act.put, List.getElem_toArray, List.getElem_cons_zero, List.getElem_cons_succ, List.setIfInBounds_toArray, List.set_cons_zero, List.set_cons_succ]
      refine wpAnyH_ready (rs := [2]) (by kernel_rfl) (by simp) ?_
      refine AllReadyH.cons (o := _) rfl (fun K hK => ?_) AllReadyH.nil
      go_simp
      refine (specBytes_any _ acc _ (HRI.out.below HZ1.out (Nat.le_refl _)) HOK.out (by omega)).mono ?_
      rintro e Z2 ⟨rfl, hbc⟩
      have HZ2 := hide (HZ1.out.trans (hbc.mono HZ1.out.size))
      have HOI := hide (own_belowX (own_belowX HOw.out HZ1.out) hbc)
      clear hbc
      refine hK.out _ _ (HSS.out _ HZ2.out) (fun _ => ?_)
      clear hK K HS
      have HS := hide (HSS.out _ HZ2.out)
      try simp only [Act.put, List.getElem_toArray, List.getElem_cons_zero, List.getElem_cons_succ, List.setIfInBounds_toArray, List.set_cons_zero, List.set_cons_succ]
      refine wpAnyH_take (i := 5) (oi := _) (v := .bool (decide (storeB acc = T))) rfl (by kernel_rfl) (by kernel_rfl) (by kernel_rfl) (fun _ _ _ h => h) (Or.inl ⟨by rfl, by intro w hSw; go_split_ands; have hse := str_eql (storeB acc) T; go_simp <;> rw [hse]⟩) HS.out ?_
      simp only [Act.put, List.getElem_toArray, List.getElem_cons_zero, List.getElem_cons_succ, List.setIfInBounds_toArray, List.set_cons_zero, List.set_cons_succ]
      refine wpAnyH_take (i := 6) (oi := _) (v := .slice pl acc.length cl) rfl (by kernel_rfl) (by kernel_rfl) (by kernel_rfl) (fun _ _ _ h => h) (Or.inl ⟨by rfl, by intro w hSw; go_split_ands; go_simp⟩) HS.out ?_
      simp only [Act.put, List.getElem_toArray, List.getElem_cons_zero, List.getElem_cons_succ, List.setIfInBounds_toArray, List.set_cons_zero, List.set_cons_succ]
      refine wpAnyH_take (i := 7) (oi := _) (v := .bool (decide (storeB acc = T))) rfl (by kernel_rfl) (by kernel_rfl) (by kernel_rfl) (fun _ _ _ h => h) (Or.inl ⟨by rfl, by intro w hSw; go_split_ands; go_simp⟩) HS.out ?_
      simp only [Act.put, List.getElem_toArray, List.getElem_cons_zero, List.getElem_cons_succ, List.setIfInBounds_toArray, List.set_cons_zero, List.set_cons_succ]
      refine wpAnyH_done (by kernel_rfl) ?_ _
      go_wp2
      go_ret2
      refine ⟨⟨.slice pl acc.length cl, by rw [(HFN.out Z2 () HOI.out).1]; rfl, ?_⟩, HBX.out.trans (HZ2.out.mono HBX.out.size)⟩
      exact (HFN.out Z2 () HOI.out).2
end Go.Proofs.YtnpbmaajgiapmaaGreatDoor
