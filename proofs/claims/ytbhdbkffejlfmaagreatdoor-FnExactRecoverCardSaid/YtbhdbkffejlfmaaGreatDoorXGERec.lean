/- Recover of both sides. -/
import Derived.Test.YtbhdbkffejlfmaaGreatDoorXGEBase
import Derived.Test.YtbhdbkffejlfmaaGreatDoorXGQReadT
import Derived.Test.YtbhdbkffejlfmaaGreatDoorXGQSGet
import Derived.Test.YtbhdbkffejlfmaaGreatDoorXGIKept
import Derived.Test.YtbhdbkffejlfmaaGreatDoorXGSCopy
import Derived.Test.YtbhdbkffejlfmaaGreatDoorXGInts
import Derived.Test.YtbhdbkffejlfmaaGreatDoorXGMark
import Derived.Deep.RegionHeld3
namespace Go.Proofs.YtbhdbkffejlfmaaGreatDoor
open Go.RowKit
/-- What Recover answers. -/
def recO (xs : List ByteArray) (ps : List (Int × ByteArray)) (ks : List Int) : KOut :=
  if 400 < ks.length then kill 2 else if (keptO (crashXs xs ps ks) (crashPs xs ps ks)).isSome = true then ⟨crashXs xs ps ks, crashPs xs ps ks, ⟨#[]⟩, 0⟩ else kill 1
theorem crash_smallR {xs : List ByteArray} {ps : List (Int × ByteArray)} (ks : List Int) (h : Small xs ps) : (crashXs xs ps ks).length ≤ 1048576 ∧ (crashPs xs ps ks).length ≤ 1048576 := by
  unfold crashXs crashPs
  split
  · simp
  · split
    · rw [applyK_kept, applyP_lenS]; exact ⟨h.1, by simp⟩
    · exact ⟨h.1, h.2.2.1⟩
theorem recO_len {xs : List ByteArray} {ps : List (Int × ByteArray)} (ks : List Int) (h : Small xs ps) : (recO xs ps ks).xs.length ≤ 1048576 ∧ (recO xs ps ks).ps.length ≤ 1048576 := by
  unfold recO
  split
  · exact ⟨Nat.zero_le _, Nat.zero_le _⟩
  · split
    · exact crash_smallR ks h
    · exact ⟨Nat.zero_le _, Nat.zero_le _⟩
theorem recO_not {xs : List ByteArray} {ps : List (Int × ByteArray)} {ks : List Int} (hk : ¬ 400 < ks.length) (h : right xs ps = false) : recO xs ps ks = kill 1 := by
  have e1 : crashXs xs ps ks = xs := by unfold crashXs; rw [if_neg hk, h]; simp
  have e2 : crashPs xs ps ks = ps := by unfold crashPs; rw [if_neg hk, h]; simp
  unfold recO
  rw [if_neg hk, e1, e2, if_neg]
  intro hs
  obtain ⟨L, hL⟩ := Option.isSome_iff_exists.1 hs
  rw [keptO_right hL] at h
  exact absurd h (by simp)
theorem l10Ill_any (c : Int) (w : World) :
    Calls Tryz.prog 37 #[.int .i64 c] w fun e w' => e = .returned (.agg #[.slice none 0 0, .slice none 0 0, .string ⟨#[]⟩, .int .i64 0, .string ⟨#[]⟩, .int .i64 c]) ∧ Below w.heap.size w w' := by
  have HB0 := hide (below_new w (.cells #[.slice none 0 0, .slice none 0 0, .string ⟨#[]⟩, .int .i64 0, .string ⟨#[]⟩, .int .i64 c] 31))
  go_enter Tryz.func37, Tryz.ntmps37
  go_wp2
  exact bodyPost_ret (v := .agg #[.slice none 0 0, .slice none 0 0, .string ⟨#[]⟩, .int .i64 0, .string ⟨#[]⟩, .int .i64 c]) (by simp [results, Tryz.results37, go_sem]) rfl ⟨rfl, HB0.out⟩

set_option maxRecDepth 100000 in
set_option maxHeartbeats 8000000 in
theorem implRecover_any (vs vp vk : Value) (xs : List ByteArray) (ps : List (Int × ByteArray)) (ks : List Int) (aF aR aU : Addr) (w : World) (hsm : Small xs ps) (hr : Reads w vs xs) (hp : ReadsP w vp ps) (hk : ReadsI w vk ks) (hS : Sents aF aR aU w) (hG : St3.Laid w) :
    Calls Tryz.prog 19 #[.agg #[vs, vp], vk] w fun e w' => EOutIs w.heap.size e w' (recO xs ps ks) ∧ Below w.heap.size w w' := by
  have HR := hide hr
  have HP := hide hp
  have HK := hide hk
  have HSM := hide hsm
  have HS0 := hide hS
  have HG := hide hG
  clear hS hG hsm
  obtain ⟨p1, c1, rfl, _⟩ := hr
  obtain ⟨p2, c2, rfl, _⟩ := hp
  obtain ⟨p3, c3, rfl, h3a, h3b, _⟩ := hk
  unfold maxLen at h3b
  obtain ⟨W, hW⟩ : ∃ W, W = (w.alloc (.cells #[.slice p1 xs.length c1, .slice p2 ps.length c2] 29)).alloc (.cells #[.slice none 0 0, .slice none 0 0, .string ⟨#[]⟩, .int .i64 0, .string ⟨#[]⟩, .int .i64 0] 31) := ⟨_, rfl⟩
  have HB0 := hide (show Below w.heap.size w W by rw [hW]; exact ((Below.refl _ _).alloc (Nat.le_refl _) _).alloc (by simp) _)
  have HWS := hide (show w.heap.size + 2 = W.heap.size by rw [hW]; simp)
  have HRD := hide (show Row W w.heap.size 29 [.slice p1 xs.length c1, .slice p2 ps.length c2] by rw [hW]; exact (row_new w _ _).alloc _)
  have HRO := hide (show Row W (w.heap.size + 1) 31 [.slice none 0 0, .slice none 0 0, .string ⟨#[]⟩, .int .i64 0, .string ⟨#[]⟩, .int .i64 0] by
    rw [hW]
    have := row_new (w.alloc (.cells #[.slice p1 xs.length c1, .slice p2 ps.length c2] 29)) [.slice none 0 0, .slice none 0 0, .string ⟨#[]⟩, .int .i64 0, .string ⟨#[]⟩, .int .i64 0] 31
    simpa using this)
  by_cases h4 : 400 < ks.length
  · have HRE := hide (show recO xs ps ks = kill 2 by unfold recO; rw [if_pos h4])
    have h4i : (400 : Int) < (ks.length : Int) := by omega
    have HB9 := hide (show Below w.heap.size w ((w.alloc (.cells #[.slice p1 xs.length c1, .slice p2 ps.length c2] 29)).alloc (.cells #[.slice none 0 0, .slice none 0 0, .string ⟨#[]⟩, .int .i64 0, .string ⟨#[]⟩, .int .i64 2] 31)) from ((Below.refl _ _).alloc (Nat.le_refl _) _).alloc (by simp) _)
    clear hW
    go_enter Tryz.func19, Tryz.ntmps19
    go_wp2
    exact bodyPost_ret (v := .agg #[.slice none 0 0, .slice none 0 0, .string ⟨#[]⟩, .int .i64 0, .string ⟨#[]⟩, .int .i64 2]) (by simp [results, Tryz.results19, go_sem]) rfl ⟨by rw [HRE.out]; exact EOutIs.ill _ _ _, HB9.out⟩
  have h4i : ¬ (400 : Int) < (ks.length : Int) := by omega
  obtain ⟨X, hX⟩ : ∃ X, X = crashXs xs ps ks := ⟨_, rfl⟩
  obtain ⟨Y, hY⟩ : ∃ Y, Y = crashPs xs ps ks := ⟨_, rfl⟩
  have hl := crash_smallR ks HSM.out
  rw [← hX, ← hY] at hl
  obtain ⟨hlX, hlY⟩ := hl
  have HREC := hide (show recO xs ps ks = if (keptO X Y).isSome = true then ⟨X, Y, ⟨#[]⟩, 0⟩ else kill 1 by unfold recO; rw [if_neg h4, hX, hY])
  have HX := hide hX
  have HY := hide hY
  clear hX hY h4
  go_enter Tryz.func19, Tryz.ntmps19
  go_wp2_with fail
  rw [← hW]
  clear hW
  refine (implCrash_any _ _ _ xs ps ks _ _ _ _ _ (HR.out.below HB0.out (Nat.le_refl _)) (HP.out.below HB0.out (Nat.le_refl _)) (HK.out.below HB0.out (Nat.le_refl _)) HSM.out (Stab.go HB0.out HS0.out).1.1 (Stab.go HB0.out HS0.out).1.2).mono ?_

  rw [← HX.out, ← HY.out]
  rintro e Q ⟨⟨us, up, rfl, o1, o2, dd⟩, hb1⟩
  obtain ⟨s1, s3, hs⟩ : ∃ p c, us = .slice p X.length c := by obtain ⟨p, c, e, _⟩ := o1.reads; exact ⟨p, c, e⟩
  obtain ⟨s4, s6, hs'⟩ : ∃ p c, up = .slice p Y.length c := by obtain ⟨p, c, e, _⟩ := o2.reads; exact ⟨p, c, e⟩
  subst hs hs'
  have bn := below_new Q (.cells #[.slice s1 X.length s3, .slice s4 Y.length s6] 29)
  have hge : w.heap.size + 2 ≤ W.heap.size := by have := HWS.out; omega
  have O1 := hide ((o1.below bn (Nat.le_refl _)).mono hge)
  have O2 := hide ((o2.below bn (Nat.le_refl _)).mono hge)
  have DD := hide dd
  have HQW := hide (hb1.trans (bn.mono hb1.size))
  obtain ⟨D, hD⟩ : ∃ D, D = Q.heap.size := ⟨_, rfl⟩
  obtain ⟨Q1, hQ1⟩ : ∃ Q1, Q1 = Q.alloc (.cells #[.slice s1 X.length s3, .slice s4 Y.length s6] 29) := ⟨_, rfl⟩
  have HD := hide (show Row Q1 D 29 [.slice s1 X.length s3, .slice s4 Y.length s6] by rw [hQ1, hD]; exact row_new Q _ _)
  rw [← hQ1] at O1 O2 HQW
  clear o1 o2 dd hb1 bn hge
  go_wp2_with fail
  rw [← hQ1, ← hD]
  clear hQ1 hD

  refine (implStoreRight_any _ _ X Y aF aR aU _ hlX hlY O1.out.reads O2.out.reads (Stab.go (HB0.out.trans (HQW.out.mono HB0.out.size)) HS0.out) (Stab.go (HB0.out.trans (HQW.out.mono HB0.out.size)) HG.out)).mono ?_
  rintro e Z ⟨rfl, hb2⟩
  have HZW := hide (HQW.out.trans (hb2.mono HQW.out.size))
  have P1 := hide (O1.out.below hb2 (Nat.le_refl _))
  have P2 := hide (O2.out.below hb2 (Nat.le_refl _))
  have HRZ := hide (HRO.out.below HZW.out HRO.out.lt)
  have HDZ := hide (Row.after hb2 HD.out)
  clear hb2

  cases hb : (keptO X Y).isSome with
  | false =>
    have HRE := hide (show recO xs ps ks = kill 1 by rw [HREC.out, if_neg (by rw [hb]; simp)])
    have HHz := hide (show Z.heap[w.heap.size + 1]? = some (.cells #[.slice none 0 0, .slice none 0 0, .string ⟨#[]⟩, .int .i64 0, .string ⟨#[]⟩, .int .i64 0] 31 (0, 0)) from HRZ.out)
    have HF : Hid (Row (Z.setRow (w.heap.size + 1) #[.slice none 0 0, .slice none 0 0, .string ⟨#[]⟩, .int .i64 0, .string ⟨#[]⟩, .int .i64 1]) (w.heap.size + 1) 31 [.slice none 0 0, .slice none 0 0, .string ⟨#[]⟩, .int .i64 0, .string ⟨#[]⟩, .int .i64 1]) := setRow_heap _ _ _ _ 31 (0, 0) HRZ.out
    have HKS := hide (keptSetE Z (w.heap.size + 1) #[.slice none 0 0, .slice none 0 0, .string ⟨#[]⟩, .int .i64 0, .string ⟨#[]⟩, .int .i64 1])
    go_wp2_with (refine wpList_store_rowE rfl 31 _ _ rfl (w.heap.size + 1) #[.slice none 0 0, .slice none 0 0, .string ⟨#[]⟩, .int .i64 0, .string ⟨#[]⟩, .int .i64 1] rfl rfl 31 #[.slice none 0 0, .slice none 0 0, .string ⟨#[]⟩, .int .i64 0, .string ⟨#[]⟩, .int .i64 0] HHz.out (by kernel_rfl) rfl (by first | kernel_rfl | simp [Value.oneCell']) ?_)
    obtain ⟨V, hV⟩ : ∃ V, V = Z.setRow (w.heap.size + 1) #[.slice none 0 0, .slice none 0 0, .string ⟨#[]⟩, .int .i64 0, .string ⟨#[]⟩, .int .i64 1] := ⟨_, rfl⟩
    rw [← hV] at HF HKS ⊢
    clear hV
    have v0 : V.cell? ⟨w.heap.size + 1, 0, none⟩ = some (.slice none 0 0) := HF.out.cell 0
    have v1 : V.cell? ⟨w.heap.size + 1, 1, none⟩ = some (.slice none 0 0) := HF.out.cell 1
    have v2 : V.cell? ⟨w.heap.size + 1, 2, none⟩ = some (.string ⟨#[]⟩) := HF.out.cell 2
    have v3 : V.cell? ⟨w.heap.size + 1, 3, none⟩ = some (.int .i64 0) := HF.out.cell 3
    have v4 : V.cell? ⟨w.heap.size + 1, 4, none⟩ = some (.string ⟨#[]⟩) := HF.out.cell 4
    have v5 : V.cell? ⟨w.heap.size + 1, 5, none⟩ = some (.int .i64 1) := HF.out.cell 5
    exact bodyPost_ret (v := .agg #[.slice none 0 0, .slice none 0 0, .string ⟨#[]⟩, .int .i64 0, .string ⟨#[]⟩, .int .i64 1]) (by simp [results, Tryz.results19, go_sem, v0, v1, v2, v3, v4, v5]) rfl ⟨by rw [HRE.out]; exact EOutIs.ill _ _ _, HKS.out.toBelow (HB0.out.trans (HZW.out.mono HB0.out.size)) (HB0.out.trans (HZW.out.mono HB0.out.size)).size (by simp)⟩
  | true =>
    have HRE := hide (show recO xs ps ks = ⟨X, Y, ⟨#[]⟩, 0⟩ by rw [HREC.out, if_pos hb])
    have d0 : Z.cell? ⟨D, 0, none⟩ = some (.slice s1 X.length s3) := HDZ.out.cell 0
    have d1 : Z.cell? ⟨D, 1, none⟩ = some (.slice s4 Y.length s6) := HDZ.out.cell 1
    have HHz := hide (show Z.heap[w.heap.size + 1]? = some (.cells #[.slice none 0 0, .slice none 0 0, .string ⟨#[]⟩, .int .i64 0, .string ⟨#[]⟩, .int .i64 0] 31 (0, 0)) from HRZ.out)
    have HF : Hid (Row (Z.setRow (w.heap.size + 1) #[.slice s1 X.length s3, .slice s4 Y.length s6, .string ⟨#[]⟩, .int .i64 0, .string ⟨#[]⟩, .int .i64 0]) (w.heap.size + 1) 31 [.slice s1 X.length s3, .slice s4 Y.length s6, .string ⟨#[]⟩, .int .i64 0, .string ⟨#[]⟩, .int .i64 0]) := setRow_heap _ _ _ _ 31 (0, 0) HRZ.out
    have HKS := hide (keptSetE Z (w.heap.size + 1) #[.slice s1 X.length s3, .slice s4 Y.length s6, .string ⟨#[]⟩, .int .i64 0, .string ⟨#[]⟩, .int .i64 0])
    go_wp2_with (refine wpList_store_rowE rfl 31 _ _ rfl (w.heap.size + 1) #[.slice s1 X.length s3, .slice s4 Y.length s6, .string ⟨#[]⟩, .int .i64 0, .string ⟨#[]⟩, .int .i64 0] rfl rfl 31 #[.slice none 0 0, .slice none 0 0, .string ⟨#[]⟩, .int .i64 0, .string ⟨#[]⟩, .int .i64 0] HHz.out (by kernel_rfl) rfl (by first | kernel_rfl | simp [Value.oneCell']) ?_)
    obtain ⟨V, hV⟩ : ∃ V, V = Z.setRow (w.heap.size + 1) #[.slice s1 X.length s3, .slice s4 Y.length s6, .string ⟨#[]⟩, .int .i64 0, .string ⟨#[]⟩, .int .i64 0] := ⟨_, rfl⟩
    rw [← hV] at HF HKS ⊢
    clear hV
    have v0 : V.cell? ⟨w.heap.size + 1, 0, none⟩ = some (.slice s1 X.length s3) := HF.out.cell 0
    have v1 : V.cell? ⟨w.heap.size + 1, 1, none⟩ = some (.slice s4 Y.length s6) := HF.out.cell 1
    have v2 : V.cell? ⟨w.heap.size + 1, 2, none⟩ = some (.string ⟨#[]⟩) := HF.out.cell 2
    have v3 : V.cell? ⟨w.heap.size + 1, 3, none⟩ = some (.int .i64 0) := HF.out.cell 3
    have v4 : V.cell? ⟨w.heap.size + 1, 4, none⟩ = some (.string ⟨#[]⟩) := HF.out.cell 4
    have v5 : V.cell? ⟨w.heap.size + 1, 5, none⟩ = some (.int .i64 0) := HF.out.cell 5
    exact bodyPost_ret (v := .agg #[.slice s1 X.length s3, .slice s4 Y.length s6, .string ⟨#[]⟩, .int .i64 0, .string ⟨#[]⟩, .int .i64 0]) (by simp [results, Tryz.results19, go_sem, v0, v1, v2, v3, v4, v5]) rfl (by rw [HRE.out]; exact endE (o := ⟨X, Y, ⟨#[]⟩, 0⟩) HB0.out HZW.out HWS.out HKS.out P1.out P2.out DD.out)

set_option maxRecDepth 100000 in
set_option maxHeartbeats 8000000 in
theorem specRecover_any (vs vp vk : Value) (xs : List ByteArray) (ps : List (Int × ByteArray)) (ks : List Int) (w : World) (hn : xs.length ≤ 1048576) (hn2 : ps.length ≤ 1048576) (hr : Reads w vs xs) (hp : ReadsP w vp ps) (hk : ReadsI w vk ks) :
    Calls Tryz.prog 17 #[.agg #[vs, vp], vk] w fun e w' => EOutIs w.heap.size e w' (recO xs ps ks) ∧ Below w.heap.size w w' := by
  have HR := hide hr
  have HP := hide hp
  have HK := hide hk
  obtain ⟨p1, c1, rfl, _⟩ := hr
  obtain ⟨p2, c2, rfl, _⟩ := hp
  obtain ⟨p3, c3, rfl, h3a, h3b, _⟩ := hk
  unfold maxLen at h3b
  obtain ⟨W, hW⟩ : ∃ W, W = (w.alloc (.cells #[.slice p1 xs.length c1, .slice p2 ps.length c2] 29)).alloc (.cells #[.slice none 0 0, .slice none 0 0, .string ⟨#[]⟩, .int .i64 0, .string ⟨#[]⟩, .int .i64 0] 31) := ⟨_, rfl⟩
  have HB0 := hide (show Below w.heap.size w W by rw [hW]; exact ((Below.refl _ _).alloc (Nat.le_refl _) _).alloc (by simp) _)
  have HWS := hide (show w.heap.size + 2 = W.heap.size by rw [hW]; simp)
  have HRD := hide (show Row W w.heap.size 29 [.slice p1 xs.length c1, .slice p2 ps.length c2] by rw [hW]; exact (row_new w _ _).alloc _)
  have HRO := hide (show Row W (w.heap.size + 1) 31 [.slice none 0 0, .slice none 0 0, .string ⟨#[]⟩, .int .i64 0, .string ⟨#[]⟩, .int .i64 0] by
    rw [hW]
    have := row_new (w.alloc (.cells #[.slice p1 xs.length c1, .slice p2 ps.length c2] 29)) [.slice none 0 0, .slice none 0 0, .string ⟨#[]⟩, .int .i64 0, .string ⟨#[]⟩, .int .i64 0] 31
    simpa using this)
  by_cases h4 : 400 < ks.length
  · have HRE := hide (show recO xs ps ks = kill 2 by unfold recO; rw [if_pos h4])
    have h4i : (400 : Int) < (ks.length : Int) := by omega
    clear h4
    go_enter Tryz.func17, Tryz.ntmps17
    go_wp2_with fail
    rw [← hW]
    clear hW
    refine (l10Ill_any 2 _).mono ?_
    rintro e Z ⟨rfl, hb9⟩
    have HZW := hide hb9
    have HRZ := hide (HRO.out.below HZW.out HRO.out.lt)
    clear hb9

    have HHz := hide (show Z.heap[w.heap.size + 1]? = some (.cells #[.slice none 0 0, .slice none 0 0, .string ⟨#[]⟩, .int .i64 0, .string ⟨#[]⟩, .int .i64 0] 31 (0, 0)) from HRZ.out)
    have HF : Hid (Row (Z.setRow (w.heap.size + 1) #[.slice none 0 0, .slice none 0 0, .string ⟨#[]⟩, .int .i64 0, .string ⟨#[]⟩, .int .i64 2]) (w.heap.size + 1) 31 [.slice none 0 0, .slice none 0 0, .string ⟨#[]⟩, .int .i64 0, .string ⟨#[]⟩, .int .i64 2]) := setRow_heap _ _ _ _ 31 (0, 0) HRZ.out
    have HKS := hide (keptSetE Z (w.heap.size + 1) #[.slice none 0 0, .slice none 0 0, .string ⟨#[]⟩, .int .i64 0, .string ⟨#[]⟩, .int .i64 2])
    go_wp2_with (refine wpList_store_rowE rfl 31 _ _ rfl (w.heap.size + 1) #[.slice none 0 0, .slice none 0 0, .string ⟨#[]⟩, .int .i64 0, .string ⟨#[]⟩, .int .i64 2] rfl rfl 31 #[.slice none 0 0, .slice none 0 0, .string ⟨#[]⟩, .int .i64 0, .string ⟨#[]⟩, .int .i64 0] HHz.out (by kernel_rfl) rfl (by first | kernel_rfl | simp [Value.oneCell']) ?_)
    obtain ⟨V, hV⟩ : ∃ V, V = Z.setRow (w.heap.size + 1) #[.slice none 0 0, .slice none 0 0, .string ⟨#[]⟩, .int .i64 0, .string ⟨#[]⟩, .int .i64 2] := ⟨_, rfl⟩
    rw [← hV] at HF HKS ⊢
    clear hV
    have v0 : V.cell? ⟨w.heap.size + 1, 0, none⟩ = some (.slice none 0 0) := HF.out.cell 0
    have v1 : V.cell? ⟨w.heap.size + 1, 1, none⟩ = some (.slice none 0 0) := HF.out.cell 1
    have v2 : V.cell? ⟨w.heap.size + 1, 2, none⟩ = some (.string ⟨#[]⟩) := HF.out.cell 2
    have v3 : V.cell? ⟨w.heap.size + 1, 3, none⟩ = some (.int .i64 0) := HF.out.cell 3
    have v4 : V.cell? ⟨w.heap.size + 1, 4, none⟩ = some (.string ⟨#[]⟩) := HF.out.cell 4
    have v5 : V.cell? ⟨w.heap.size + 1, 5, none⟩ = some (.int .i64 2) := HF.out.cell 5
    exact bodyPost_ret (v := .agg #[.slice none 0 0, .slice none 0 0, .string ⟨#[]⟩, .int .i64 0, .string ⟨#[]⟩, .int .i64 2]) (by simp [results, Tryz.results17, go_sem, v0, v1, v2, v3, v4, v5]) rfl ⟨by rw [HRE.out]; exact EOutIs.ill _ _ _, HKS.out.toBelow (HB0.out.trans (HZW.out.mono HB0.out.size)) (HB0.out.trans (HZW.out.mono HB0.out.size)).size (by simp)⟩

  have h4i : ¬ (400 : Int) < (ks.length : Int) := by omega
  obtain ⟨X, hX⟩ : ∃ X, X = crashXs xs ps ks := ⟨_, rfl⟩
  obtain ⟨Y, hY⟩ : ∃ Y, Y = crashPs xs ps ks := ⟨_, rfl⟩
  have hlX : X.length ≤ 1048576 := by
    rw [hX]; unfold crashXs; rw [if_neg h4]
    split
    · rw [applyK_kept, applyP_lenS]; exact hn
    · exact hn
  have hlY : Y.length ≤ 1048576 := by
    rw [hY]; unfold crashPs; rw [if_neg h4]
    split
    · simp
    · exact hn2
  have HREC := hide (show recO xs ps ks = if (keptO X Y).isSome = true then ⟨X, Y, ⟨#[]⟩, 0⟩ else kill 1 by unfold recO; rw [if_neg h4, hX, hY])
  have HNOT := hide (fun h => recO_not (xs := xs) (ps := ps) (ks := ks) h4 h)
  have HX := hide hX
  have HY := hide hY
  clear hX hY h4
  go_enter Tryz.func17, Tryz.ntmps17
  go_wp2_with fail
  rw [← hW]
  clear hW
  refine (specCrash_any _ _ xs ps _ hn hn2 _ ks (HR.out.below HB0.out (Nat.le_refl _)) (HP.out.below HB0.out (Nat.le_refl _)) (HK.out.below HB0.out (Nat.le_refl _))).mono ?_

  rw [← HX.out, ← HY.out]
  rintro e Q ⟨⟨us, up, rfl, o1, o2, dd⟩, hb1⟩
  obtain ⟨s1, s3, hs⟩ : ∃ p c, us = .slice p X.length c := by obtain ⟨p, c, e, _⟩ := o1.reads; exact ⟨p, c, e⟩
  obtain ⟨s4, s6, hs'⟩ : ∃ p c, up = .slice p Y.length c := by obtain ⟨p, c, e, _⟩ := o2.reads; exact ⟨p, c, e⟩
  subst hs hs'
  have bn := below_new Q (.cells #[.slice s1 X.length s3, .slice s4 Y.length s6] 29)
  have hge : w.heap.size + 2 ≤ W.heap.size := by have := HWS.out; omega
  have O1 := hide ((o1.below bn (Nat.le_refl _)).mono hge)
  have O2 := hide ((o2.below bn (Nat.le_refl _)).mono hge)
  have DD := hide dd
  have HQW := hide (hb1.trans (bn.mono hb1.size))
  obtain ⟨D, hD⟩ : ∃ D, D = Q.heap.size := ⟨_, rfl⟩
  obtain ⟨Q1, hQ1⟩ : ∃ Q1, Q1 = Q.alloc (.cells #[.slice s1 X.length s3, .slice s4 Y.length s6] 29) := ⟨_, rfl⟩
  have HD := hide (show Row Q1 D 29 [.slice s1 X.length s3, .slice s4 Y.length s6] by rw [hQ1, hD]; exact row_new Q _ _)
  rw [← hQ1] at O1 O2 HQW
  clear o1 o2 dd hb1 bn hge
  have k0 : (Q.alloc (.cells #[.slice s1 X.length s3, .slice s4 Y.length s6] 29)).cell? ⟨w.heap.size, 0, none⟩ = some (.slice p1 xs.length c1) := by rw [← hQ1]; exact (HRD.out.below HQW.out HRD.out.lt).cell 0
  have k1 : (Q.alloc (.cells #[.slice s1 X.length s3, .slice s4 Y.length s6] 29)).cell? ⟨w.heap.size, 1, none⟩ = some (.slice p2 ps.length c2) := by rw [← hQ1]; exact (HRD.out.below HQW.out HRD.out.lt).cell 1
  go_wp2_with fail
  clear k0 k1
  rw [← hQ1]
  try rw [← hD]
  clear hQ1 hD

  refine (specRight_any _ _ xs ps _ hn hn2 (HR.out.below (HB0.out.trans (HQW.out.mono HB0.out.size)) (Nat.le_refl _)) (HP.out.below (HB0.out.trans (HQW.out.mono HB0.out.size)) (Nat.le_refl _))).mono ?_
  rintro e Q2 ⟨rfl, hb2⟩
  have HB_b := hide hb2
  clear hb2
  cases hrt : right xs ps with
  | false =>
    have HRE := hide (HNOT.out hrt)
    have HZW := hide (HQW.out.trans (HB_b.out.mono HQW.out.size))
    go_wp2_with fail
    refine (l10Ill_any 1 _).mono ?_
    rintro e Z9 ⟨rfl, hb9⟩
    have HZ9 := hide (HZW.out.trans (hb9.mono HZW.out.size))
    have HR9 := hide (HRO.out.below HZ9.out HRO.out.lt)
    clear hb9
    have HHz := hide (show Z9.heap[w.heap.size + 1]? = some (.cells #[.slice none 0 0, .slice none 0 0, .string ⟨#[]⟩, .int .i64 0, .string ⟨#[]⟩, .int .i64 0] 31 (0, 0)) from HR9.out)
    have HF : Hid (Row (Z9.setRow (w.heap.size + 1) #[.slice none 0 0, .slice none 0 0, .string ⟨#[]⟩, .int .i64 0, .string ⟨#[]⟩, .int .i64 1]) (w.heap.size + 1) 31 [.slice none 0 0, .slice none 0 0, .string ⟨#[]⟩, .int .i64 0, .string ⟨#[]⟩, .int .i64 1]) := setRow_heap _ _ _ _ 31 (0, 0) HR9.out
    have HKS := hide (keptSetE Z9 (w.heap.size + 1) #[.slice none 0 0, .slice none 0 0, .string ⟨#[]⟩, .int .i64 0, .string ⟨#[]⟩, .int .i64 1])
    go_wp2_with (refine wpList_store_rowE rfl 31 _ _ rfl (w.heap.size + 1) #[.slice none 0 0, .slice none 0 0, .string ⟨#[]⟩, .int .i64 0, .string ⟨#[]⟩, .int .i64 1] rfl rfl 31 #[.slice none 0 0, .slice none 0 0, .string ⟨#[]⟩, .int .i64 0, .string ⟨#[]⟩, .int .i64 0] HHz.out (by kernel_rfl) rfl (by first | kernel_rfl | simp [Value.oneCell']) ?_)
    obtain ⟨V, hV⟩ : ∃ V, V = Z9.setRow (w.heap.size + 1) #[.slice none 0 0, .slice none 0 0, .string ⟨#[]⟩, .int .i64 0, .string ⟨#[]⟩, .int .i64 1] := ⟨_, rfl⟩
    rw [← hV] at HF HKS ⊢
    clear hV
    have v0 : V.cell? ⟨w.heap.size + 1, 0, none⟩ = some (.slice none 0 0) := HF.out.cell 0
    have v1 : V.cell? ⟨w.heap.size + 1, 1, none⟩ = some (.slice none 0 0) := HF.out.cell 1
    have v2 : V.cell? ⟨w.heap.size + 1, 2, none⟩ = some (.string ⟨#[]⟩) := HF.out.cell 2
    have v3 : V.cell? ⟨w.heap.size + 1, 3, none⟩ = some (.int .i64 0) := HF.out.cell 3
    have v4 : V.cell? ⟨w.heap.size + 1, 4, none⟩ = some (.string ⟨#[]⟩) := HF.out.cell 4
    have v5 : V.cell? ⟨w.heap.size + 1, 5, none⟩ = some (.int .i64 1) := HF.out.cell 5
    exact bodyPost_ret (v := .agg #[.slice none 0 0, .slice none 0 0, .string ⟨#[]⟩, .int .i64 0, .string ⟨#[]⟩, .int .i64 1]) (by simp [results, Tryz.results17, go_sem, v0, v1, v2, v3, v4, v5]) rfl ⟨by rw [HRE.out]; exact EOutIs.ill _ _ _, HKS.out.toBelow (HB0.out.trans (HZ9.out.mono HB0.out.size)) (HB0.out.trans (HZ9.out.mono HB0.out.size)).size (by simp)⟩
  | true =>
    have HDb := hide (Row.after HB_b.out HD.out)
    have d0 : Q2.cell? ⟨D, 0, none⟩ = some (.slice s1 X.length s3) := HDb.out.cell 0
    have d1 : Q2.cell? ⟨D, 1, none⟩ = some (.slice s4 Y.length s6) := HDb.out.cell 1
    go_wp2_with fail
    refine (specStoreRight_any _ _ X Y _ hlX hlY (O1.out.reads.below HB_b.out (Nat.le_refl _)) (O2.out.reads.below HB_b.out (Nat.le_refl _))).mono ?_
    rintro e Z ⟨rfl, hb3⟩
    have HB_c := hide (HB_b.out.trans (hb3.mono HB_b.out.size))
    have HZW := hide (HQW.out.trans (HB_c.out.mono HQW.out.size))
    have P1 := hide (O1.out.below HB_c.out (Nat.le_refl _))
    have P2 := hide (O2.out.below HB_c.out (Nat.le_refl _))
    have HRZ := hide (HRO.out.below HZW.out HRO.out.lt)
    have HDZ := hide (Row.after HB_c.out HD.out)
    clear hb3 d0 d1
    cases hb : (keptO X Y).isSome with
    | false =>
      have HRE := hide (show recO xs ps ks = kill 1 by rw [HREC.out, if_neg (by rw [hb]; simp)])
      go_wp2_with fail
      refine (l10Ill_any 1 _).mono ?_
      rintro e Z9 ⟨rfl, hb9⟩
      have HZ9 := hide (HZW.out.trans (hb9.mono HZW.out.size))
      have HR9 := hide (HRO.out.below HZ9.out HRO.out.lt)
      clear hb9
      have HHz := hide (show Z9.heap[w.heap.size + 1]? = some (.cells #[.slice none 0 0, .slice none 0 0, .string ⟨#[]⟩, .int .i64 0, .string ⟨#[]⟩, .int .i64 0] 31 (0, 0)) from HR9.out)
      have HF : Hid (Row (Z9.setRow (w.heap.size + 1) #[.slice none 0 0, .slice none 0 0, .string ⟨#[]⟩, .int .i64 0, .string ⟨#[]⟩, .int .i64 1]) (w.heap.size + 1) 31 [.slice none 0 0, .slice none 0 0, .string ⟨#[]⟩, .int .i64 0, .string ⟨#[]⟩, .int .i64 1]) := setRow_heap _ _ _ _ 31 (0, 0) HR9.out
      have HKS := hide (keptSetE Z9 (w.heap.size + 1) #[.slice none 0 0, .slice none 0 0, .string ⟨#[]⟩, .int .i64 0, .string ⟨#[]⟩, .int .i64 1])
      go_wp2_with (refine wpList_store_rowE rfl 31 _ _ rfl (w.heap.size + 1) #[.slice none 0 0, .slice none 0 0, .string ⟨#[]⟩, .int .i64 0, .string ⟨#[]⟩, .int .i64 1] rfl rfl 31 #[.slice none 0 0, .slice none 0 0, .string ⟨#[]⟩, .int .i64 0, .string ⟨#[]⟩, .int .i64 0] HHz.out (by kernel_rfl) rfl (by first | kernel_rfl | simp [Value.oneCell']) ?_)
      obtain ⟨V, hV⟩ : ∃ V, V = Z9.setRow (w.heap.size + 1) #[.slice none 0 0, .slice none 0 0, .string ⟨#[]⟩, .int .i64 0, .string ⟨#[]⟩, .int .i64 1] := ⟨_, rfl⟩
      rw [← hV] at HF HKS ⊢
      clear hV
      have v0 : V.cell? ⟨w.heap.size + 1, 0, none⟩ = some (.slice none 0 0) := HF.out.cell 0
      have v1 : V.cell? ⟨w.heap.size + 1, 1, none⟩ = some (.slice none 0 0) := HF.out.cell 1
      have v2 : V.cell? ⟨w.heap.size + 1, 2, none⟩ = some (.string ⟨#[]⟩) := HF.out.cell 2
      have v3 : V.cell? ⟨w.heap.size + 1, 3, none⟩ = some (.int .i64 0) := HF.out.cell 3
      have v4 : V.cell? ⟨w.heap.size + 1, 4, none⟩ = some (.string ⟨#[]⟩) := HF.out.cell 4
      have v5 : V.cell? ⟨w.heap.size + 1, 5, none⟩ = some (.int .i64 1) := HF.out.cell 5
      exact bodyPost_ret (v := .agg #[.slice none 0 0, .slice none 0 0, .string ⟨#[]⟩, .int .i64 0, .string ⟨#[]⟩, .int .i64 1]) (by simp [results, Tryz.results17, go_sem, v0, v1, v2, v3, v4, v5]) rfl ⟨by rw [HRE.out]; exact EOutIs.ill _ _ _, HKS.out.toBelow (HB0.out.trans (HZ9.out.mono HB0.out.size)) (HB0.out.trans (HZ9.out.mono HB0.out.size)).size (by simp)⟩
    | true =>
      have HRE := hide (show recO xs ps ks = ⟨X, Y, ⟨#[]⟩, 0⟩ by rw [HREC.out, if_pos hb])
      have d0 : Z.cell? ⟨D, 0, none⟩ = some (.slice s1 X.length s3) := HDZ.out.cell 0
      have d1 : Z.cell? ⟨D, 1, none⟩ = some (.slice s4 Y.length s6) := HDZ.out.cell 1
      have HHz := hide (show Z.heap[w.heap.size + 1]? = some (.cells #[.slice none 0 0, .slice none 0 0, .string ⟨#[]⟩, .int .i64 0, .string ⟨#[]⟩, .int .i64 0] 31 (0, 0)) from HRZ.out)
      have HF : Hid (Row (Z.setRow (w.heap.size + 1) #[.slice s1 X.length s3, .slice s4 Y.length s6, .string ⟨#[]⟩, .int .i64 0, .string ⟨#[]⟩, .int .i64 0]) (w.heap.size + 1) 31 [.slice s1 X.length s3, .slice s4 Y.length s6, .string ⟨#[]⟩, .int .i64 0, .string ⟨#[]⟩, .int .i64 0]) := setRow_heap _ _ _ _ 31 (0, 0) HRZ.out
      have HKS := hide (keptSetE Z (w.heap.size + 1) #[.slice s1 X.length s3, .slice s4 Y.length s6, .string ⟨#[]⟩, .int .i64 0, .string ⟨#[]⟩, .int .i64 0])
      go_wp2_with (refine wpList_store_rowE rfl 31 _ _ rfl (w.heap.size + 1) #[.slice s1 X.length s3, .slice s4 Y.length s6, .string ⟨#[]⟩, .int .i64 0, .string ⟨#[]⟩, .int .i64 0] rfl rfl 31 #[.slice none 0 0, .slice none 0 0, .string ⟨#[]⟩, .int .i64 0, .string ⟨#[]⟩, .int .i64 0] HHz.out (by kernel_rfl) rfl (by first | kernel_rfl | simp [Value.oneCell']) ?_)
      obtain ⟨V, hV⟩ : ∃ V, V = Z.setRow (w.heap.size + 1) #[.slice s1 X.length s3, .slice s4 Y.length s6, .string ⟨#[]⟩, .int .i64 0, .string ⟨#[]⟩, .int .i64 0] := ⟨_, rfl⟩
      rw [← hV] at HF HKS ⊢
      clear hV
      have v0 : V.cell? ⟨w.heap.size + 1, 0, none⟩ = some (.slice s1 X.length s3) := HF.out.cell 0
      have v1 : V.cell? ⟨w.heap.size + 1, 1, none⟩ = some (.slice s4 Y.length s6) := HF.out.cell 1
      have v2 : V.cell? ⟨w.heap.size + 1, 2, none⟩ = some (.string ⟨#[]⟩) := HF.out.cell 2
      have v3 : V.cell? ⟨w.heap.size + 1, 3, none⟩ = some (.int .i64 0) := HF.out.cell 3
      have v4 : V.cell? ⟨w.heap.size + 1, 4, none⟩ = some (.string ⟨#[]⟩) := HF.out.cell 4
      have v5 : V.cell? ⟨w.heap.size + 1, 5, none⟩ = some (.int .i64 0) := HF.out.cell 5
      exact bodyPost_ret (v := .agg #[.slice s1 X.length s3, .slice s4 Y.length s6, .string ⟨#[]⟩, .int .i64 0, .string ⟨#[]⟩, .int .i64 0]) (by simp [results, Tryz.results17, go_sem, v0, v1, v2, v3, v4, v5]) rfl (by rw [HRE.out]; exact endE (o := ⟨X, Y, ⟨#[]⟩, 0⟩) HB0.out HZW.out HWS.out HKS.out P1.out P2.out DD.out)

end Go.Proofs.YtbhdbkffejlfmaaGreatDoor

/- The law of Recover, from what the program's Recover does. -/
namespace Go.Proofs.YtbhdbkffejlfmaaGreatDoor
open Go.RowKit

set_option maxRecDepth 100000 in
set_option maxHeartbeats 8000000 in
theorem lawRecover (w : World) (ks : List Int) (HI : ∀ (vs vp vk : Value) (xs : List ByteArray) (ps : List (Int × ByteArray)) (w' : World), Below w.heap.size w w' → Small xs ps → Reads w' vs xs → ReadsP w' vp ps → ReadsI w' vk ks →
      Calls Tryz.prog 19 #[.agg #[vs, vp], vk] w' fun e w'' => EOutIs w'.heap.size e w'' (recO xs ps ks) ∧ Below w'.heap.size w' w'')
    (vs vp vk : Value) (xs : List ByteArray) (ps : List (Int × ByteArray)) (hr : Reads w vs xs) (hp : ReadsP w vp ps) (hk : ReadsI w vk ks) (HO2 : Small xs ps → (recO xs ps ks).xs.length ≤ 1048576 ∧ (recO xs ps ks).ps.length ≤ 1048576) :
    Calls Tryz.prog 5 #[.agg #[vs, vp], vk] w fun e w' => e = .returned (.bool true) ∧ Below w.heap.size w w' := by
  have hb0 := below_new w (.cells #[vs, vp] 25)
  have HR0 := hide (hr.below hb0 (Nat.le_refl _))
  have HP0 := hide (hp.below hb0 (Nat.le_refl _))
  have HK0 := hide (hk.below hb0 (Nat.le_refl _))
  have HB0 := hide hb0
  have HII := hide HI
  have HOO := hide HO2
  obtain ⟨o, ho⟩ : ∃ o, o = recO xs ps ks := ⟨_, rfl⟩
  have HEQ := hide ho
  clear ho
  have I0 := hide (And.intro hr.isIn (And.intro hp.isIn hk.isIn))
  obtain ⟨p1, c1, rfl, hq⟩ := hr
  obtain ⟨p2, c2, rfl, hq2⟩ := hp
  obtain ⟨p3, c3, rfl, h3a, h3b, hq3⟩ := hk
  unfold maxLen at h3b
  have HN0 := hide (row_new w [.slice p1 xs.length c1, .slice p2 ps.length c2] 25)
  clear hb0 hq hq2 hq3 HI HO2
  by_cases hbig : 1048576 < ks.length
  · have tb : (1048576 : Int) < (ks.length : Int) := by omega
    go_enter Tryz.func5, Tryz.ntmps5
    go_wp2
    go_ret
    exact ⟨rfl, HB0.out⟩
  have hkn : ks.length ≤ 1048576 := by omega
  have tb : ¬ ((1048576 : Int) < (ks.length : Int)) := by omega
  clear hbig
  go_enter Tryz.func5, Tryz.ntmps5
  go_wp2_with fail
  refine (szDisk_any _ _ xs ps _ HR0.out HP0.out).mono ?_
  rintro e w1 ⟨r, rfl, hsm, hb1⟩
  have H1 := hide (Stab.go hb1 (P := fun w' => Below w.heap.size w w' ∧ Reads w' (.slice p1 xs.length c1) xs ∧ ReadsP w' (.slice p2 ps.length c2) ps ∧ ReadsI w' (.slice p3 ks.length c3) ks ∧ Row w' w.heap.size 25 [.slice p1 xs.length c1, .slice p2 ps.length c2]) ⟨HB0.out, HR0.out, HP0.out, HK0.out, HN0.out⟩)
  rcases hsm with hneg | ⟨hpos, hsm⟩
  · clear hb1
    go_wp2
    go_ret
    exact ⟨rfl, H1.out.1⟩
  have hneg : ¬ r < 0 := by omega
  have a0 : w1.cell? ⟨w.heap.size, 0, none⟩ = some (.slice p1 xs.length c1) := H1.out.2.2.2.2.cell 0
  have a1 : w1.cell? ⟨w.heap.size, 1, none⟩ = some (.slice p2 ps.length c2) := H1.out.2.2.2.2.cell 1
  have HSM := hide hsm
  clear hb1 HR0 HP0 HK0 HN0 HB0 hsm
  go_wp2_with fail
  refine (toDisk_any _ _ xs ps _ H1.out.2.1 H1.out.2.2.1 HSM.out).mono ?_
  rintro e w2 ⟨us, up, rfl, o1, o2, dd, hb2⟩
  have H2 := hide (Stab.go hb2 (P := fun w' => Below w.heap.size w w' ∧ Reads w' (.slice p1 xs.length c1) xs ∧ ReadsP w' (.slice p2 ps.length c2) ps ∧ ReadsI w' (.slice p3 ks.length c3) ks ∧ Row w' w.heap.size 25 [.slice p1 xs.length c1, .slice p2 ps.length c2]) H1.out)
  have HU2 := hide (And.intro o1.reads o2.reads)
  obtain ⟨x1, x2, x3, x4⟩ := HSM.out
  clear o1 o2 dd hb2 H1 x2 x4 a0 a1
  go_wp2_with fail
  refine (toInt64S_any _ ks _ hkn H2.out.2.2.2.1).mono ?_
  rintro e w3 ⟨rfl, hrow, hb3⟩
  have H3 := hide (Stab.go hb3 (P := fun w' => Below w.heap.size w w' ∧ Reads w' (.slice p1 xs.length c1) xs ∧ ReadsP w' (.slice p2 ps.length c2) ps ∧ ReadsI w' (.slice p3 ks.length c3) ks ∧ Row w' w.heap.size 25 [.slice p1 xs.length c1, .slice p2 ps.length c2]) H2.out)
  have HU3 := hide (Stab.go hb3 (P := fun w' => Reads w' us xs ∧ ReadsP w' up ps) HU2.out)
  have HKa := hide (hrow.readsI (by unfold maxLen; omega))
  clear hrow hb3 H2 HU2
  go_wp2_with fail
  refine (specRecover_any _ _ _ xs ps ks _ x1 x3 HU3.out.1 HU3.out.2 HKa.out).mono ?_
  rw [← HEQ.out]
  rintro e w4 ⟨⟨ss, sp, rfl, o1, o2, dd⟩, hb4⟩
  obtain ⟨i1, j1, k1, rfl⟩ := o1.isSlice
  obtain ⟨i2, j2, k2, rfl⟩ := o2.isSlice
  have bn := below_new w4 (.cells #[.slice i1 j1 k1, .slice i2 j2 k2, .string o.t, .int .i64 0, .string ⟨#[]⟩, .int .i64 o.c] 31)
  have H4a := hide (Stab.go (hb4.trans (bn.mono hb4.size)) (P := fun w' => Below w.heap.size w w' ∧ Reads w' (.slice p1 xs.length c1) xs ∧ ReadsP w' (.slice p2 ps.length c2) ps ∧ ReadsI w' (.slice p3 ks.length c3) ks ∧ Row w' w.heap.size 25 [.slice p1 xs.length c1, .slice p2 ps.length c2]) H3.out)
  have H4 := hide (show (fun w' => Below w.heap.size w w' ∧ Reads w' (.slice p1 xs.length c1) xs ∧ ReadsP w' (.slice p2 ps.length c2) ps ∧ ReadsI w' (.slice p3 ks.length c3) ks ∧ Row w' w.heap.size 25 [.slice p1 xs.length c1, .slice p2 ps.length c2] ∧ Reads w' (.slice i1 j1 k1) o.xs ∧ ReadsP w' (.slice i2 j2 k2) o.ps ∧ Row w' w4.heap.size 31 [.slice i1 j1 k1, .slice i2 j2 k2, .string o.t, .int .i64 0, .string ⟨#[]⟩, .int .i64 o.c]) (w4.alloc (.cells #[.slice i1 j1 k1, .slice i2 j2 k2, .string o.t, .int .i64 0, .string ⟨#[]⟩, .int .i64 o.c] 31)) from ⟨H4a.out.1, H4a.out.2.1, H4a.out.2.2.1, H4a.out.2.2.2.1, H4a.out.2.2.2.2, o1.reads.below bn (Nat.le_refl _), o2.reads.below bn (Nat.le_refl _), row_new w4 _ _⟩)
  have I3 := hide (And.intro o1.isIn o2.isIn)
  have S3 := hide (And.intro H3.out.1.size hb4.size)
  have a0 : (w4.alloc (.cells #[.slice i1 j1 k1, .slice i2 j2 k2, .string o.t, .int .i64 0, .string ⟨#[]⟩, .int .i64 o.c] 31)).cell? ⟨w.heap.size, 0, none⟩ = some (.slice p1 xs.length c1) := H4.out.2.2.2.2.1.cell 0
  have a1 : (w4.alloc (.cells #[.slice i1 j1 k1, .slice i2 j2 k2, .string o.t, .int .i64 0, .string ⟨#[]⟩, .int .i64 o.c] 31)).cell? ⟨w.heap.size, 1, none⟩ = some (.slice p2 ps.length c2) := H4.out.2.2.2.2.1.cell 1
  clear o1 o2 dd hb4 bn H3 H4a HU3 HKa
  go_wp2_with fail
  refine (toDisk_any _ _ xs ps _ H4.out.2.1 H4.out.2.2.1 HSM.out).mono ?_
  rintro e w5 ⟨xs', xp', rfl, o1, o2, dd, hb5⟩
  obtain ⟨q1, m1, d1, rfl⟩ := o1.isSlice
  obtain ⟨q2, m2, d2, rfl⟩ := o2.isSlice
  obtain ⟨B5, hB5⟩ : ∃ b, b = w4.heap.size + 1 := ⟨_, rfl⟩
  simp only [World.size_alloc] at o1 o2
  rw [← hB5] at o1 o2
  have bn := below_new w5 (.cells #[.slice q1 m1 d1, .slice q2 m2 d2] 29)
  have H5a := hide (Stab.go (hb5.trans (bn.mono hb5.size)) (P := fun w' => Below w.heap.size w w' ∧ Reads w' (.slice p1 xs.length c1) xs ∧ ReadsP w' (.slice p2 ps.length c2) ps ∧ ReadsI w' (.slice p3 ks.length c3) ks ∧ Row w' w.heap.size 25 [.slice p1 xs.length c1, .slice p2 ps.length c2] ∧ Reads w' (.slice i1 j1 k1) o.xs ∧ ReadsP w' (.slice i2 j2 k2) o.ps ∧ Row w' w4.heap.size 31 [.slice i1 j1 k1, .slice i2 j2 k2, .string o.t, .int .i64 0, .string ⟨#[]⟩, .int .i64 o.c]) H4.out)
  have H5 := hide (show (fun w' => Below w.heap.size w w' ∧ Reads w' (.slice p1 xs.length c1) xs ∧ ReadsP w' (.slice p2 ps.length c2) ps ∧ ReadsI w' (.slice p3 ks.length c3) ks ∧ Row w' w.heap.size 25 [.slice p1 xs.length c1, .slice p2 ps.length c2] ∧ Reads w' (.slice i1 j1 k1) o.xs ∧ ReadsP w' (.slice i2 j2 k2) o.ps ∧ Row w' w4.heap.size 31 [.slice i1 j1 k1, .slice i2 j2 k2, .string o.t, .int .i64 0, .string ⟨#[]⟩, .int .i64 o.c] ∧ OwnS 9 B5 w' (.slice q1 m1 d1) xs ∧ OwnP 73 B5 w' (.slice q2 m2 d2) ps ∧ Row w' w5.heap.size 29 [.slice q1 m1 d1, .slice q2 m2 d2]) (w5.alloc (.cells #[.slice q1 m1 d1, .slice q2 m2 d2] 29)) from ⟨H5a.out.1, H5a.out.2.1, H5a.out.2.2.1, H5a.out.2.2.2.1, H5a.out.2.2.2.2.1, H5a.out.2.2.2.2.2.1, H5a.out.2.2.2.2.2.2.1, H5a.out.2.2.2.2.2.2.2, o1.below bn (Nat.le_refl _), o2.below bn (Nat.le_refl _), row_new w5 _ _⟩)
  have I4 := hide (And.intro o1.isIn o2.isIn)
  have S4 := hide (show w4.heap.size + 1 ≤ w5.heap.size by have := hb5.size; simpa using this)
  have D4 := hide dd
  clear o1 o2 dd hb5 bn H4 H5a a0 a1
  go_wp2_with fail
  refine (toInt64S_any _ ks _ hkn H5.out.2.2.2.1).mono ?_
  rintro e w6 ⟨rfl, hrow, hb6⟩
  have a0 : w6.cell? ⟨w5.heap.size, 0, none⟩ = some (.slice q1 m1 d1) := (Row.after hb6 H5.out.2.2.2.2.2.2.2.2.2.2).cell 0
  have a1 : w6.cell? ⟨w5.heap.size, 1, none⟩ = some (.slice q2 m2 d2) := (Row.after hb6 H5.out.2.2.2.2.2.2.2.2.2.2).cell 1
  have S6 := hide (show w5.heap.size + 1 < w6.heap.size by have := hrow.lt; simpa using this)
  simp only [World.size_alloc] at hrow ⊢
  obtain ⟨B6, hB6⟩ : ∃ b, b = w5.heap.size + 1 := ⟨_, rfl⟩
  rw [← hB6] at hrow ⊢
  have HB6 := hide hB6
  clear hB6
  have H6a := hide (Stab.go hb6 (P := fun w' => Below w.heap.size w w' ∧ Reads w' (.slice p1 xs.length c1) xs ∧ ReadsP w' (.slice p2 ps.length c2) ps ∧ ReadsI w' (.slice p3 ks.length c3) ks ∧ Row w' w.heap.size 25 [.slice p1 xs.length c1, .slice p2 ps.length c2] ∧ Reads w' (.slice i1 j1 k1) o.xs ∧ ReadsP w' (.slice i2 j2 k2) o.ps ∧ Row w' w4.heap.size 31 [.slice i1 j1 k1, .slice i2 j2 k2, .string o.t, .int .i64 0, .string ⟨#[]⟩, .int .i64 o.c] ∧ OwnS 9 B5 w' (.slice q1 m1 d1) xs ∧ OwnP 73 B5 w' (.slice q2 m2 d2) ps ∧ Row w' w5.heap.size 29 [.slice q1 m1 d1, .slice q2 m2 d2]) H5.out)
  have H6 := hide (show (fun w' => Below w.heap.size w w' ∧ Reads w' (.slice p1 xs.length c1) xs ∧ ReadsP w' (.slice p2 ps.length c2) ps ∧ ReadsI w' (.slice p3 ks.length c3) ks ∧ Row w' w.heap.size 25 [.slice p1 xs.length c1, .slice p2 ps.length c2] ∧ Reads w' (.slice i1 j1 k1) o.xs ∧ ReadsP w' (.slice i2 j2 k2) o.ps ∧ Row w' w4.heap.size 31 [.slice i1 j1 k1, .slice i2 j2 k2, .string o.t, .int .i64 0, .string ⟨#[]⟩, .int .i64 o.c] ∧ OwnS 9 B5 w' (.slice q1 m1 d1) xs ∧ OwnP 73 B5 w' (.slice q2 m2 d2) ps ∧ Row w' w5.heap.size 29 [.slice q1 m1 d1, .slice q2 m2 d2] ∧ Row w' B6 2 (intc ks)) w6 from ⟨H6a.out.1, H6a.out.2.1, H6a.out.2.2.1, H6a.out.2.2.2.1, H6a.out.2.2.2.2.1, H6a.out.2.2.2.2.2.1, H6a.out.2.2.2.2.2.2.1, H6a.out.2.2.2.2.2.2.2.1, H6a.out.2.2.2.2.2.2.2.2.1, H6a.out.2.2.2.2.2.2.2.2.2.1, H6a.out.2.2.2.2.2.2.2.2.2.2, hrow⟩)
  clear hrow hb6 H5 H6a
  go_wp2_with fail
  refine (HII.out _ _ _ xs ps _ H6.out.1 HSM.out H6.out.2.2.2.2.2.2.2.2.1.reads H6.out.2.2.2.2.2.2.2.2.2.1.reads (Row.readsI H6.out.2.2.2.2.2.2.2.2.2.2.2 (by unfold maxLen; omega))).mono ?_
  rw [← HEQ.out]
  rintro e w7 ⟨⟨gs, gp, rfl, o1, o2, dd⟩, hb7⟩
  obtain ⟨r1, n1, e1, rfl⟩ := o1.isSlice
  obtain ⟨r2, n2, e2, rfl⟩ := o2.isSlice
  obtain ⟨B7, hB7⟩ : ∃ b, b = w6.heap.size := ⟨_, rfl⟩
  rw [← hB7] at o1 o2
  have bn := below_new w7 (.cells #[.slice r1 n1 e1, .slice r2 n2 e2, .string o.t, .int .i64 0, .string ⟨#[]⟩, .int .i64 o.c] 31)
  have H7a := hide (Stab.go (hb7.trans (bn.mono hb7.size)) (P := fun w' => Below w.heap.size w w' ∧ Reads w' (.slice p1 xs.length c1) xs ∧ ReadsP w' (.slice p2 ps.length c2) ps ∧ ReadsI w' (.slice p3 ks.length c3) ks ∧ Row w' w.heap.size 25 [.slice p1 xs.length c1, .slice p2 ps.length c2] ∧ Reads w' (.slice i1 j1 k1) o.xs ∧ ReadsP w' (.slice i2 j2 k2) o.ps ∧ Row w' w4.heap.size 31 [.slice i1 j1 k1, .slice i2 j2 k2, .string o.t, .int .i64 0, .string ⟨#[]⟩, .int .i64 o.c] ∧ OwnS 9 B5 w' (.slice q1 m1 d1) xs ∧ OwnP 73 B5 w' (.slice q2 m2 d2) ps ∧ Row w' w5.heap.size 29 [.slice q1 m1 d1, .slice q2 m2 d2] ∧ Row w' B6 2 (intc ks)) H6.out)
  have H7 := hide (show (fun w' => Below w.heap.size w w' ∧ Reads w' (.slice p1 xs.length c1) xs ∧ ReadsP w' (.slice p2 ps.length c2) ps ∧ ReadsI w' (.slice p3 ks.length c3) ks ∧ Row w' w.heap.size 25 [.slice p1 xs.length c1, .slice p2 ps.length c2] ∧ Reads w' (.slice i1 j1 k1) o.xs ∧ ReadsP w' (.slice i2 j2 k2) o.ps ∧ Row w' w4.heap.size 31 [.slice i1 j1 k1, .slice i2 j2 k2, .string o.t, .int .i64 0, .string ⟨#[]⟩, .int .i64 o.c] ∧ OwnS 9 B5 w' (.slice q1 m1 d1) xs ∧ OwnP 73 B5 w' (.slice q2 m2 d2) ps ∧ Row w' w5.heap.size 29 [.slice q1 m1 d1, .slice q2 m2 d2] ∧ Row w' B6 2 (intc ks) ∧ OwnS 9 B7 w' (.slice r1 n1 e1) o.xs ∧ OwnP 73 B7 w' (.slice r2 n2 e2) o.ps ∧ Row w' w7.heap.size 31 [.slice r1 n1 e1, .slice r2 n2 e2, .string o.t, .int .i64 0, .string ⟨#[]⟩, .int .i64 o.c]) (w7.alloc (.cells #[.slice r1 n1 e1, .slice r2 n2 e2, .string o.t, .int .i64 0, .string ⟨#[]⟩, .int .i64 o.c] 31)) from ⟨H7a.out.1, H7a.out.2.1, H7a.out.2.2.1, H7a.out.2.2.2.1, H7a.out.2.2.2.2.1, H7a.out.2.2.2.2.2.1, H7a.out.2.2.2.2.2.2.1, H7a.out.2.2.2.2.2.2.2.1, H7a.out.2.2.2.2.2.2.2.2.1, H7a.out.2.2.2.2.2.2.2.2.2.1, H7a.out.2.2.2.2.2.2.2.2.2.2.1, H7a.out.2.2.2.2.2.2.2.2.2.2.2, o1.below bn (Nat.le_refl _), o2.below bn (Nat.le_refl _), row_new w7 _ _⟩)
  have I5 := hide (And.intro o1.isIn o2.isIn)
  have S7 := hide (show w6.heap.size ≤ w7.heap.size from hb7.size)
  have D5 := hide dd
  obtain ⟨l1, l2⟩ := HOO.out HSM.out
  rw [← HEQ.out] at l1 l2
  have b0 : (w7.alloc (.cells #[.slice r1 n1 e1, .slice r2 n2 e2, .string o.t, .int .i64 0, .string ⟨#[]⟩, .int .i64 o.c] 31)).cell? ⟨w4.heap.size, 0, none⟩ = some (.slice i1 j1 k1) := H7.out.2.2.2.2.2.2.2.1.cell 0
  have b1 : (w7.alloc (.cells #[.slice r1 n1 e1, .slice r2 n2 e2, .string o.t, .int .i64 0, .string ⟨#[]⟩, .int .i64 o.c] 31)).cell? ⟨w4.heap.size, 1, none⟩ = some (.slice i2 j2 k2) := H7.out.2.2.2.2.2.2.2.1.cell 1
  have b2 : (w7.alloc (.cells #[.slice r1 n1 e1, .slice r2 n2 e2, .string o.t, .int .i64 0, .string ⟨#[]⟩, .int .i64 o.c] 31)).cell? ⟨w4.heap.size, 2, none⟩ = some (.string o.t) := H7.out.2.2.2.2.2.2.2.1.cell 2
  have b3 : (w7.alloc (.cells #[.slice r1 n1 e1, .slice r2 n2 e2, .string o.t, .int .i64 0, .string ⟨#[]⟩, .int .i64 o.c] 31)).cell? ⟨w4.heap.size, 3, none⟩ = some (.int .i64 0) := H7.out.2.2.2.2.2.2.2.1.cell 3
  have b4 : (w7.alloc (.cells #[.slice r1 n1 e1, .slice r2 n2 e2, .string o.t, .int .i64 0, .string ⟨#[]⟩, .int .i64 o.c] 31)).cell? ⟨w4.heap.size, 4, none⟩ = some (.string ⟨#[]⟩) := H7.out.2.2.2.2.2.2.2.1.cell 4
  have b5 : (w7.alloc (.cells #[.slice r1 n1 e1, .slice r2 n2 e2, .string o.t, .int .i64 0, .string ⟨#[]⟩, .int .i64 o.c] 31)).cell? ⟨w4.heap.size, 5, none⟩ = some (.int .i64 o.c) := H7.out.2.2.2.2.2.2.2.1.cell 5
  clear o1 o2 dd hb7 bn H6 H7a HOO a0 a1
  go_wp2_with fail
  refine (eqEngineOut_same _ _ _ _ o.xs o.ps o.t o.c _ l1 l2 H7.out.2.2.2.2.2.2.2.2.2.2.2.2.1.reads H7.out.2.2.2.2.2.2.2.2.2.2.2.2.2.1.reads H7.out.2.2.2.2.2.1 H7.out.2.2.2.2.2.2.1).mono ?_
  rintro e w8 ⟨rfl, hb8⟩
  have H8 := hide (Stab.go hb8 (P := fun w' => Below w.heap.size w w' ∧ Reads w' (.slice p1 xs.length c1) xs ∧ ReadsP w' (.slice p2 ps.length c2) ps ∧ ReadsI w' (.slice p3 ks.length c3) ks ∧ Row w' w.heap.size 25 [.slice p1 xs.length c1, .slice p2 ps.length c2] ∧ Reads w' (.slice i1 j1 k1) o.xs ∧ ReadsP w' (.slice i2 j2 k2) o.ps ∧ Row w' w4.heap.size 31 [.slice i1 j1 k1, .slice i2 j2 k2, .string o.t, .int .i64 0, .string ⟨#[]⟩, .int .i64 o.c] ∧ OwnS 9 B5 w' (.slice q1 m1 d1) xs ∧ OwnP 73 B5 w' (.slice q2 m2 d2) ps ∧ Row w' w5.heap.size 29 [.slice q1 m1 d1, .slice q2 m2 d2] ∧ Row w' B6 2 (intc ks) ∧ OwnS 9 B7 w' (.slice r1 n1 e1) o.xs ∧ OwnP 73 B7 w' (.slice r2 n2 e2) o.ps ∧ Row w' w7.heap.size 31 [.slice r1 n1 e1, .slice r2 n2 e2, .string o.t, .int .i64 0, .string ⟨#[]⟩, .int .i64 o.c]) H7.out)
  clear hb8 H7 b0 b1 b2 b3 b4 b5
  go_wp2_with fail
  have HSS := hide (show ∀ x, Below w8.heap.size w8 x → x.cell? ⟨w.heap.size, 0, none⟩ = some (.slice p1 xs.length c1) ∧ x.cell? ⟨w.heap.size, 1, none⟩ = some (.slice p2 ps.length c2) ∧ x.cell? ⟨w5.heap.size, 0, none⟩ = some (.slice q1 m1 d1) ∧ x.cell? ⟨w5.heap.size, 1, none⟩ = some (.slice q2 m2 d2) ∧ Below w8.heap.size w8 x from
    fun x h => ⟨(Row.after h H8.out.2.2.2.2.1).cell 0, (Row.after h H8.out.2.2.2.2.1).cell 1, (Row.after h H8.out.2.2.2.2.2.2.2.2.2.2.1).cell 0, (Row.after h H8.out.2.2.2.2.2.2.2.2.2.2.1).cell 1, h⟩)
  go_region_held3 (fun x => x.cell? ⟨w.heap.size, 0, none⟩ = some (.slice p1 xs.length c1) ∧ x.cell? ⟨w.heap.size, 1, none⟩ = some (.slice p2 ps.length c2) ∧ x.cell? ⟨w5.heap.size, 0, none⟩ = some (.slice q1 m1 d1) ∧ x.cell? ⟨w5.heap.size, 1, none⟩ = some (.slice q2 m2 d2) ∧ Below w8.heap.size w8 x)
    ((go_split_ands; refine HSS.out _ ?_; repeat (first | with_reducible assumption | with_reducible exact Below.refl _ _ | with_reducible refine Below.drew ?_)))
    ((first
      | (go_at_call 8; go_split_ands; refine (toDisk_any _ _ xs ps _ (H8.out.2.1.below (by assumption) (Nat.le_refl _)) (H8.out.2.2.1.below (by assumption) (Nat.le_refl _)) HSM.out).mono ?_; rintro e w9 ⟨us3, up3, rfl, o5, o6, d5, hb9⟩; have HRy := hide o5.reads; have HPy := hide o6.reads
         have hB9 : Below w8.heap.size w8 w9 := Below.trans (by assumption) (hb9.mono (Below.size (by assumption))); clear o5 o6 d5 hb9)
      | (go_at_call 11; go_split_ands; refine (eqDisk_same _ _ _ _ xs ps _ x1 x3 (H8.out.2.2.2.2.2.2.2.2.1.reads.below hB9 (Nat.le_refl _)) (H8.out.2.2.2.2.2.2.2.2.2.1.reads.below hB9 (Nat.le_refl _)) HRy.out HPy.out).mono ?_; rintro e w10 ⟨rfl, hb10⟩
         have hB10 : Below w8.heap.size w8 w10 := hB9.trans (hb10.mono hB9.size); clear hb10)))
  have H10 := hide (Stab.go hB10 (P := fun w' => Below w.heap.size w w' ∧ Reads w' (.slice p1 xs.length c1) xs ∧ ReadsP w' (.slice p2 ps.length c2) ps ∧ ReadsI w' (.slice p3 ks.length c3) ks ∧ Row w' w.heap.size 25 [.slice p1 xs.length c1, .slice p2 ps.length c2] ∧ Reads w' (.slice i1 j1 k1) o.xs ∧ ReadsP w' (.slice i2 j2 k2) o.ps ∧ Row w' w4.heap.size 31 [.slice i1 j1 k1, .slice i2 j2 k2, .string o.t, .int .i64 0, .string ⟨#[]⟩, .int .i64 o.c] ∧ OwnS 9 B5 w' (.slice q1 m1 d1) xs ∧ OwnP 73 B5 w' (.slice q2 m2 d2) ps ∧ Row w' w5.heap.size 29 [.slice q1 m1 d1, .slice q2 m2 d2] ∧ Row w' B6 2 (intc ks) ∧ OwnS 9 B7 w' (.slice r1 n1 e1) o.xs ∧ OwnP 73 B7 w' (.slice r2 n2 e2) o.ps ∧ Row w' w7.heap.size 31 [.slice r1 n1 e1, .slice r2 n2 e2, .string o.t, .int .i64 0, .string ⟨#[]⟩, .int .i64 o.c]) H8.out)
  clear hB9 hB10 HSS H8 HRy HPy
  go_wp2_with fail
  refine (toInt64S_any _ ks _ hkn H10.out.2.2.2.1).mono ?_
  rintro e w11 ⟨rfl, hrow, hb11⟩
  have H11 := hide (Stab.go hb11 (P := fun w' => Below w.heap.size w w' ∧ Reads w' (.slice p1 xs.length c1) xs ∧ ReadsP w' (.slice p2 ps.length c2) ps ∧ ReadsI w' (.slice p3 ks.length c3) ks ∧ Row w' w.heap.size 25 [.slice p1 xs.length c1, .slice p2 ps.length c2] ∧ Reads w' (.slice i1 j1 k1) o.xs ∧ ReadsP w' (.slice i2 j2 k2) o.ps ∧ Row w' w4.heap.size 31 [.slice i1 j1 k1, .slice i2 j2 k2, .string o.t, .int .i64 0, .string ⟨#[]⟩, .int .i64 o.c] ∧ OwnS 9 B5 w' (.slice q1 m1 d1) xs ∧ OwnP 73 B5 w' (.slice q2 m2 d2) ps ∧ Row w' w5.heap.size 29 [.slice q1 m1 d1, .slice q2 m2 d2] ∧ Row w' B6 2 (intc ks) ∧ OwnS 9 B7 w' (.slice r1 n1 e1) o.xs ∧ OwnP 73 B7 w' (.slice r2 n2 e2) o.ps ∧ Row w' w7.heap.size 31 [.slice r1 n1 e1, .slice r2 n2 e2, .string o.t, .int .i64 0, .string ⟨#[]⟩, .int .i64 o.c]) H10.out)
  have HKy := hide (hrow.readsI (by unfold maxLen; omega))
  clear hrow hb11 H10
  go_wp2_with fail
  refine (eqInt64S_same _ _ ks _ hkn (Row.readsI H11.out.2.2.2.2.2.2.2.2.2.2.2.1 (by unfold maxLen; omega)) HKy.out).mono ?_
  rintro e w12 ⟨rfl, hb12⟩
  have H12 := hide (Stab.go hb12 (P := fun w' => Below w.heap.size w w' ∧ Reads w' (.slice p1 xs.length c1) xs ∧ ReadsP w' (.slice p2 ps.length c2) ps ∧ ReadsI w' (.slice p3 ks.length c3) ks ∧ Row w' w.heap.size 25 [.slice p1 xs.length c1, .slice p2 ps.length c2] ∧ Reads w' (.slice i1 j1 k1) o.xs ∧ ReadsP w' (.slice i2 j2 k2) o.ps ∧ Row w' w4.heap.size 31 [.slice i1 j1 k1, .slice i2 j2 k2, .string o.t, .int .i64 0, .string ⟨#[]⟩, .int .i64 o.c] ∧ OwnS 9 B5 w' (.slice q1 m1 d1) xs ∧ OwnP 73 B5 w' (.slice q2 m2 d2) ps ∧ Row w' w5.heap.size 29 [.slice q1 m1 d1, .slice q2 m2 d2] ∧ Row w' B6 2 (intc ks) ∧ OwnS 9 B7 w' (.slice r1 n1 e1) o.xs ∧ OwnP 73 B7 w' (.slice r2 n2 e2) o.ps ∧ Row w' w7.heap.size 31 [.slice r1 n1 e1, .slice r2 n2 e2, .string o.t, .int .i64 0, .string ⟨#[]⟩, .int .i64 o.c]) H11.out)
  clear hb12 H11 HKy
  have y0 : w12.cell? ⟨w5.heap.size, 0, none⟩ = some (.slice q1 m1 d1) := H12.out.2.2.2.2.2.2.2.2.2.2.1.cell 0
  have y1 : w12.cell? ⟨w5.heap.size, 1, none⟩ = some (.slice q2 m2 d2) := H12.out.2.2.2.2.2.2.2.2.2.2.1.cell 1
  go_wp2_with fail
  refine (markDisk_own _ _ _ xs ps 1 _ x1 x3 (by omega) H12.out.2.2.2.2.2.2.2.2.1 H12.out.2.2.2.2.2.2.2.2.2.1 D4.out).mono ?_
  rintro e w13 ⟨rfl, o1, o2, hk⟩
  have sS := S3.out
  have s4 := S4.out
  have s6 := S6.out
  have s7 := S7.out
  have ia : In (.slice q1 m1 d1) B5 w5.heap.size := I4.out.1
  have ib : In (.slice q2 m2 d2) B5 w5.heap.size := I4.out.2
  have hB6 := HB6.out
  have H13 := hide (show (fun w' => Below w.heap.size w w' ∧ Reads w' (.slice p1 xs.length c1) xs ∧ ReadsP w' (.slice p2 ps.length c2) ps ∧ ReadsI w' (.slice p3 ks.length c3) ks ∧ Row w' w.heap.size 25 [.slice p1 xs.length c1, .slice p2 ps.length c2] ∧ Reads w' (.slice i1 j1 k1) o.xs ∧ ReadsP w' (.slice i2 j2 k2) o.ps ∧ Row w' w4.heap.size 31 [.slice i1 j1 k1, .slice i2 j2 k2, .string o.t, .int .i64 0, .string ⟨#[]⟩, .int .i64 o.c] ∧ Row w' B6 2 (intc ks) ∧ OwnS 9 B7 w' (.slice r1 n1 e1) o.xs ∧ OwnP 73 B7 w' (.slice r2 n2 e2) o.ps ∧ Row w' w7.heap.size 31 [.slice r1 n1 e1, .slice r2 n2 e2, .string o.t, .int .i64 0, .string ⟨#[]⟩, .int .i64 o.c]) w13 from ⟨hk.onBelow H12.out.1 (fun x hx => by have := ia.all ib x hx; omega),
    hk.reads H12.out.2.1 (I0.out.1.apart ia ib (.inl (by omega))),
    hk.readsP H12.out.2.2.1 (I0.out.2.1.apart ia ib (.inl (by omega))),
    hk.readsI H12.out.2.2.2.1 (I0.out.2.2.apart ia ib (.inl (by omega))),
    hk.row H12.out.2.2.2.2.1 (ia.far ib (.inl (by omega))),
    hk.reads H12.out.2.2.2.2.2.1 (I3.out.1.apart ia ib (.inl (by omega))),
    hk.readsP H12.out.2.2.2.2.2.2.1 (I3.out.2.apart ia ib (.inl (by omega))),
    hk.row H12.out.2.2.2.2.2.2.2.1 (ia.far ib (.inl (by omega))),
    hk.row H12.out.2.2.2.2.2.2.2.2.2.2.2.1 (ia.far ib (.inr (by omega))),
    H12.out.2.2.2.2.2.2.2.2.2.2.2.2.1.kept hk (I5.out.1.apart ia ib (.inr (by omega))),
    H12.out.2.2.2.2.2.2.2.2.2.2.2.2.2.1.kept hk (I5.out.2.apart ia ib (.inr (by omega))),
    hk.row H12.out.2.2.2.2.2.2.2.2.2.2.2.2.2.2 (ia.far ib (.inr (by omega)))⟩)
  clear hB6 o1 o2 hk H12 ia ib y0 y1
  obtain ⟨K, hK⟩ : ∃ K : Nat, K = 1 + xs.length + ps.length * 2 := ⟨_, rfl⟩
  rw [← hK]
  have hKb : K ≤ 5000000 := by omega
  clear hK
  go_wp2_with fail
  refine (markInt64S_own B6 ks K _ hkn (by omega) H13.out.2.2.2.2.2.2.2.2.1).mono ?_
  rintro e w14 ⟨rfl, hk⟩
  have hB6 := HB6.out
  have H14 := hide (show (fun w' => Below w.heap.size w w' ∧ Reads w' (.slice p1 xs.length c1) xs ∧ ReadsP w' (.slice p2 ps.length c2) ps ∧ ReadsI w' (.slice p3 ks.length c3) ks ∧ Row w' w.heap.size 25 [.slice p1 xs.length c1, .slice p2 ps.length c2] ∧ Reads w' (.slice i1 j1 k1) o.xs ∧ ReadsP w' (.slice i2 j2 k2) o.ps ∧ Row w' w4.heap.size 31 [.slice i1 j1 k1, .slice i2 j2 k2, .string o.t, .int .i64 0, .string ⟨#[]⟩, .int .i64 o.c] ∧ OwnS 9 B7 w' (.slice r1 n1 e1) o.xs ∧ OwnP 73 B7 w' (.slice r2 n2 e2) o.ps ∧ Row w' w7.heap.size 31 [.slice r1 n1 e1, .slice r2 n2 e2, .string o.t, .int .i64 0, .string ⟨#[]⟩, .int .i64 o.c]) w14 from ⟨hk.onBelow H13.out.1 (by simp; omega), hk.reads H13.out.2.1 (fun x hx => by have := I0.out.1 x hx; simp; omega), hk.readsP H13.out.2.2.1 (fun x hx => by have := I0.out.2.1 x hx; simp; omega), hk.readsI H13.out.2.2.2.1 (fun x hx => by have := I0.out.2.2 x hx; simp; omega), hk.row H13.out.2.2.2.2.1 (by simp; omega),
    hk.reads H13.out.2.2.2.2.2.1 (fun x hx => by have := I3.out.1 x hx; simp; omega), hk.readsP H13.out.2.2.2.2.2.2.1 (fun x hx => by have := I3.out.2 x hx; simp; omega), hk.row H13.out.2.2.2.2.2.2.2.1 (by simp; omega), H13.out.2.2.2.2.2.2.2.2.2.1.kept hk (fun x hx => by have := I5.out.1 x hx; simp; omega), H13.out.2.2.2.2.2.2.2.2.2.2.1.kept hk (fun x hx => by have := I5.out.2 x hx; simp; omega), hk.row H13.out.2.2.2.2.2.2.2.2.2.2.2 (by simp; omega)⟩)
  have b0 : w14.cell? ⟨w4.heap.size, 0, none⟩ = some (.slice i1 j1 k1) := H14.out.2.2.2.2.2.2.2.1.cell 0
  have b1 : w14.cell? ⟨w4.heap.size, 1, none⟩ = some (.slice i2 j2 k2) := H14.out.2.2.2.2.2.2.2.1.cell 1
  have b2 : w14.cell? ⟨w4.heap.size, 2, none⟩ = some (.string o.t) := H14.out.2.2.2.2.2.2.2.1.cell 2
  have b3 : w14.cell? ⟨w4.heap.size, 3, none⟩ = some (.int .i64 0) := H14.out.2.2.2.2.2.2.2.1.cell 3
  have b4 : w14.cell? ⟨w4.heap.size, 4, none⟩ = some (.string ⟨#[]⟩) := H14.out.2.2.2.2.2.2.2.1.cell 4
  have b5 : w14.cell? ⟨w4.heap.size, 5, none⟩ = some (.int .i64 o.c) := H14.out.2.2.2.2.2.2.2.1.cell 5
  have h0 : w14.cell? ⟨w7.heap.size, 0, none⟩ = some (.slice r1 n1 e1) := H14.out.2.2.2.2.2.2.2.2.2.2.cell 0
  have h1 : w14.cell? ⟨w7.heap.size, 1, none⟩ = some (.slice r2 n2 e2) := H14.out.2.2.2.2.2.2.2.2.2.2.cell 1
  have h2 : w14.cell? ⟨w7.heap.size, 2, none⟩ = some (.string o.t) := H14.out.2.2.2.2.2.2.2.2.2.2.cell 2
  have h3 : w14.cell? ⟨w7.heap.size, 3, none⟩ = some (.int .i64 0) := H14.out.2.2.2.2.2.2.2.2.2.2.cell 3
  have h4 : w14.cell? ⟨w7.heap.size, 4, none⟩ = some (.string ⟨#[]⟩) := H14.out.2.2.2.2.2.2.2.2.2.2.cell 4
  have h5 : w14.cell? ⟨w7.heap.size, 5, none⟩ = some (.int .i64 o.c) := H14.out.2.2.2.2.2.2.2.2.2.2.cell 5
  obtain ⟨K2, hK2⟩ : ∃ K2 : Int, K2 = ((K + ks.length : Nat) : Int) := ⟨_, rfl⟩
  rw [← hK2]
  have tk : ¬ (K2 < 0) := by omega
  clear hk H13 hK2 hB6
  go_wp2_with fail
  refine (eqEngineOut_same _ _ _ _ o.xs o.ps o.t o.c _ l1 l2 H14.out.2.2.2.2.2.2.2.2.1.reads H14.out.2.2.2.2.2.2.2.2.2.1.reads H14.out.2.2.2.2.2.1 H14.out.2.2.2.2.2.2.1).mono ?_
  rintro e w15 ⟨rfl, hb15⟩
  have H15 := hide (Stab.go hb15 (P := fun w' => Below w.heap.size w w' ∧ Reads w' (.slice p1 xs.length c1) xs ∧ ReadsP w' (.slice p2 ps.length c2) ps ∧ ReadsI w' (.slice p3 ks.length c3) ks ∧ Row w' w.heap.size 25 [.slice p1 xs.length c1, .slice p2 ps.length c2] ∧ Reads w' (.slice i1 j1 k1) o.xs ∧ ReadsP w' (.slice i2 j2 k2) o.ps ∧ Row w' w4.heap.size 31 [.slice i1 j1 k1, .slice i2 j2 k2, .string o.t, .int .i64 0, .string ⟨#[]⟩, .int .i64 o.c] ∧ OwnS 9 B7 w' (.slice r1 n1 e1) o.xs ∧ OwnP 73 B7 w' (.slice r2 n2 e2) o.ps ∧ Row w' w7.heap.size 31 [.slice r1 n1 e1, .slice r2 n2 e2, .string o.t, .int .i64 0, .string ⟨#[]⟩, .int .i64 o.c]) H14.out)
  clear hb15 H14 b0 b1 b2 b3 b4 b5 h0 h1 h2 h3 h4 h5
  have h0 : w15.cell? ⟨w7.heap.size, 0, none⟩ = some (.slice r1 n1 e1) := H15.out.2.2.2.2.2.2.2.2.2.2.cell 0
  have h1 : w15.cell? ⟨w7.heap.size, 1, none⟩ = some (.slice r2 n2 e2) := H15.out.2.2.2.2.2.2.2.2.2.2.cell 1
  have h2 : w15.cell? ⟨w7.heap.size, 2, none⟩ = some (.string o.t) := H15.out.2.2.2.2.2.2.2.2.2.2.cell 2
  have h3 : w15.cell? ⟨w7.heap.size, 3, none⟩ = some (.int .i64 0) := H15.out.2.2.2.2.2.2.2.2.2.2.cell 3
  have h4 : w15.cell? ⟨w7.heap.size, 4, none⟩ = some (.string ⟨#[]⟩) := H15.out.2.2.2.2.2.2.2.2.2.2.cell 4
  have h5 : w15.cell? ⟨w7.heap.size, 5, none⟩ = some (.int .i64 o.c) := H15.out.2.2.2.2.2.2.2.2.2.2.cell 5
  go_wp2_with fail
  obtain ⟨Q, hQ⟩ : ∃ Q : Int, Q = ((1 + o.xs.length + o.ps.length * 2 : Nat) : Int) := ⟨_, rfl⟩
  have tq : ¬ Q < 0 := by omega
  have HQ := hide hQ
  clear hQ
  refine (markEngineOut_own _ _ _ o.xs o.ps o.t o.c 1 _ l1 l2 (by omega) H15.out.2.2.2.2.2.2.2.2.1 H15.out.2.2.2.2.2.2.2.2.2.1 D5.out).mono ?_
  rw [← HQ.out]
  rintro e w16 ⟨rfl, o1, o2, hk⟩
  have ia : In (.slice r1 n1 e1) B7 w7.heap.size := I5.out.1
  have ib : In (.slice r2 n2 e2) B7 w7.heap.size := I5.out.2
  have H16 := hide (show (fun w' => Below w.heap.size w w' ∧ Reads w' (.slice p1 xs.length c1) xs ∧ ReadsP w' (.slice p2 ps.length c2) ps ∧ ReadsI w' (.slice p3 ks.length c3) ks ∧ Row w' w.heap.size 25 [.slice p1 xs.length c1, .slice p2 ps.length c2] ∧ Reads w' (.slice i1 j1 k1) o.xs ∧ ReadsP w' (.slice i2 j2 k2) o.ps ∧ Row w' w4.heap.size 31 [.slice i1 j1 k1, .slice i2 j2 k2, .string o.t, .int .i64 0, .string ⟨#[]⟩, .int .i64 o.c] ∧ Reads w' (.slice r1 n1 e1) (marks 1 o.xs.length) ∧ ReadsP w' (.slice r2 n2 e2) (marksP (1 + o.xs.length) o.ps.length) ∧ Row w' w7.heap.size 31 [.slice r1 n1 e1, .slice r2 n2 e2, .string o.t, .int .i64 0, .string ⟨#[]⟩, .int .i64 o.c]) w16 from ⟨hk.onBelow H15.out.1 (fun x hx => by have := ia.all ib x hx; omega),
    hk.reads H15.out.2.1 (I0.out.1.apart ia ib (.inl (by omega))),
    hk.readsP H15.out.2.2.1 (I0.out.2.1.apart ia ib (.inl (by omega))),
    hk.readsI H15.out.2.2.2.1 (I0.out.2.2.apart ia ib (.inl (by omega))),
    hk.row H15.out.2.2.2.2.1 (ia.far ib (.inl (by omega))),
    hk.reads H15.out.2.2.2.2.2.1 (I3.out.1.apart ia ib (.inl (by omega))),
    hk.readsP H15.out.2.2.2.2.2.2.1 (I3.out.2.apart ia ib (.inl (by omega))),
    hk.row H15.out.2.2.2.2.2.2.2.1 (ia.far ib (.inl (by omega))),
    o1.reads,
    o2.reads,
    hk.row H15.out.2.2.2.2.2.2.2.2.2.2 (ia.far ib (.inr (Nat.le_refl _)))⟩)
  clear o1 o2 hk H15 ia ib h0 h1 h2 h3 h4 h5 tk
  have h0 : w16.cell? ⟨w7.heap.size, 0, none⟩ = some (.slice r1 n1 e1) := H16.out.2.2.2.2.2.2.2.2.2.2.cell 0
  have h1 : w16.cell? ⟨w7.heap.size, 1, none⟩ = some (.slice r2 n2 e2) := H16.out.2.2.2.2.2.2.2.2.2.2.cell 1
  have h2 : w16.cell? ⟨w7.heap.size, 2, none⟩ = some (.string o.t) := H16.out.2.2.2.2.2.2.2.2.2.2.cell 2
  have h3 : w16.cell? ⟨w7.heap.size, 3, none⟩ = some (.int .i64 0) := H16.out.2.2.2.2.2.2.2.2.2.2.cell 3
  have h4 : w16.cell? ⟨w7.heap.size, 4, none⟩ = some (.string ⟨#[]⟩) := H16.out.2.2.2.2.2.2.2.2.2.2.cell 4
  have h5 : w16.cell? ⟨w7.heap.size, 5, none⟩ = some (.int .i64 o.c) := H16.out.2.2.2.2.2.2.2.2.2.2.cell 5
  go_wp2_with fail
  refine (heldEngineOut_any _ _ o.t o.c 1 o.xs.length o.ps.length _ l1 l2 (by omega) H16.out.2.2.2.2.2.2.2.2.1 H16.out.2.2.2.2.2.2.2.2.2.1).mono ?_
  rw [← HQ.out]
  rintro e w17 ⟨rfl, hb17⟩
  have H17 := hide (Stab.go hb17 (P := fun w' => Below w.heap.size w w' ∧ Reads w' (.slice p1 xs.length c1) xs ∧ ReadsP w' (.slice p2 ps.length c2) ps ∧ ReadsI w' (.slice p3 ks.length c3) ks ∧ Row w' w.heap.size 25 [.slice p1 xs.length c1, .slice p2 ps.length c2] ∧ Reads w' (.slice i1 j1 k1) o.xs ∧ ReadsP w' (.slice i2 j2 k2) o.ps ∧ Row w' w4.heap.size 31 [.slice i1 j1 k1, .slice i2 j2 k2, .string o.t, .int .i64 0, .string ⟨#[]⟩, .int .i64 o.c] ∧ Reads w' (.slice r1 n1 e1) (marks 1 o.xs.length) ∧ ReadsP w' (.slice r2 n2 e2) (marksP (1 + o.xs.length) o.ps.length) ∧ Row w' w7.heap.size 31 [.slice r1 n1 e1, .slice r2 n2 e2, .string o.t, .int .i64 0, .string ⟨#[]⟩, .int .i64 o.c]) H16.out)
  clear hb17 H16 h0 h1 h2 h3 h4 h5
  have a0 : w17.cell? ⟨w.heap.size, 0, none⟩ = some (.slice p1 xs.length c1) := H17.out.2.2.2.2.1.cell 0
  have a1 : w17.cell? ⟨w.heap.size, 1, none⟩ = some (.slice p2 ps.length c2) := H17.out.2.2.2.2.1.cell 1
  go_wp2_with fail
  refine (toDisk_any _ _ xs ps _ H17.out.2.1 H17.out.2.2.1 HSM.out).mono ?_
  rintro e w18 ⟨ys, yp, rfl, o1, o2, dd, hb18⟩
  have H18 := hide (Stab.go hb18 (P := fun w' => Below w.heap.size w w' ∧ Reads w' (.slice p1 xs.length c1) xs ∧ ReadsP w' (.slice p2 ps.length c2) ps ∧ ReadsI w' (.slice p3 ks.length c3) ks ∧ Row w' w.heap.size 25 [.slice p1 xs.length c1, .slice p2 ps.length c2] ∧ Reads w' (.slice i1 j1 k1) o.xs ∧ ReadsP w' (.slice i2 j2 k2) o.ps ∧ Row w' w4.heap.size 31 [.slice i1 j1 k1, .slice i2 j2 k2, .string o.t, .int .i64 0, .string ⟨#[]⟩, .int .i64 o.c] ∧ Reads w' (.slice r1 n1 e1) (marks 1 o.xs.length) ∧ ReadsP w' (.slice r2 n2 e2) (marksP (1 + o.xs.length) o.ps.length) ∧ Row w' w7.heap.size 31 [.slice r1 n1 e1, .slice r2 n2 e2, .string o.t, .int .i64 0, .string ⟨#[]⟩, .int .i64 o.c]) H17.out)
  have HU2 := hide (And.intro o1.reads o2.reads)
  clear hb18 H17 o1 o2 dd a0 a1
  go_wp2_with fail
  refine (toInt64S_any _ ks _ hkn H18.out.2.2.2.1).mono ?_
  rintro e w19 ⟨rfl, hrow, hb19⟩
  have H19 := hide (Stab.go hb19 (P := fun w' => Below w.heap.size w w' ∧ Reads w' (.slice p1 xs.length c1) xs ∧ ReadsP w' (.slice p2 ps.length c2) ps ∧ ReadsI w' (.slice p3 ks.length c3) ks ∧ Row w' w.heap.size 25 [.slice p1 xs.length c1, .slice p2 ps.length c2] ∧ Reads w' (.slice i1 j1 k1) o.xs ∧ ReadsP w' (.slice i2 j2 k2) o.ps ∧ Row w' w4.heap.size 31 [.slice i1 j1 k1, .slice i2 j2 k2, .string o.t, .int .i64 0, .string ⟨#[]⟩, .int .i64 o.c] ∧ Reads w' (.slice r1 n1 e1) (marks 1 o.xs.length) ∧ ReadsP w' (.slice r2 n2 e2) (marksP (1 + o.xs.length) o.ps.length) ∧ Row w' w7.heap.size 31 [.slice r1 n1 e1, .slice r2 n2 e2, .string o.t, .int .i64 0, .string ⟨#[]⟩, .int .i64 o.c]) H18.out)
  have HU3 := hide (Stab.go hb19 (P := fun w' => Reads w' ys xs ∧ ReadsP w' yp ps) HU2.out)
  have HKa := hide (hrow.readsI (by unfold maxLen; omega))
  clear hrow hb19 H18 HU2
  go_wp2_with fail
  refine (HII.out _ _ _ xs ps _ H19.out.1 HSM.out HU3.out.1 HU3.out.2 HKa.out).mono ?_
  rw [← HEQ.out]
  rintro e w20 ⟨⟨zs, zp, rfl, o1, o2, dd⟩, hb20⟩
  obtain ⟨u1, y1, v1, rfl⟩ := o1.isSlice
  obtain ⟨u2, y2, v2, rfl⟩ := o2.isSlice
  have bn := below_new w20 (.cells #[.slice u1 y1 v1, .slice u2 y2 v2, .string o.t, .int .i64 0, .string ⟨#[]⟩, .int .i64 o.c] 31)
  have H20 := hide (Stab.go (hb20.trans (bn.mono hb20.size)) (P := fun w' => Below w.heap.size w w' ∧ Reads w' (.slice p1 xs.length c1) xs ∧ ReadsP w' (.slice p2 ps.length c2) ps ∧ ReadsI w' (.slice p3 ks.length c3) ks ∧ Row w' w.heap.size 25 [.slice p1 xs.length c1, .slice p2 ps.length c2] ∧ Reads w' (.slice i1 j1 k1) o.xs ∧ ReadsP w' (.slice i2 j2 k2) o.ps ∧ Row w' w4.heap.size 31 [.slice i1 j1 k1, .slice i2 j2 k2, .string o.t, .int .i64 0, .string ⟨#[]⟩, .int .i64 o.c] ∧ Reads w' (.slice r1 n1 e1) (marks 1 o.xs.length) ∧ ReadsP w' (.slice r2 n2 e2) (marksP (1 + o.xs.length) o.ps.length) ∧ Row w' w7.heap.size 31 [.slice r1 n1 e1, .slice r2 n2 e2, .string o.t, .int .i64 0, .string ⟨#[]⟩, .int .i64 o.c]) H19.out)
  have HRz := hide (o1.reads.below bn (Nat.le_refl _))
  have HPz := hide (o2.reads.below bn (Nat.le_refl _))
  have b0 : (w20.alloc (.cells #[.slice u1 y1 v1, .slice u2 y2 v2, .string o.t, .int .i64 0, .string ⟨#[]⟩, .int .i64 o.c] 31)).cell? ⟨w4.heap.size, 0, none⟩ = some (.slice i1 j1 k1) := H20.out.2.2.2.2.2.2.2.1.cell 0
  have b1 : (w20.alloc (.cells #[.slice u1 y1 v1, .slice u2 y2 v2, .string o.t, .int .i64 0, .string ⟨#[]⟩, .int .i64 o.c] 31)).cell? ⟨w4.heap.size, 1, none⟩ = some (.slice i2 j2 k2) := H20.out.2.2.2.2.2.2.2.1.cell 1
  have b2 : (w20.alloc (.cells #[.slice u1 y1 v1, .slice u2 y2 v2, .string o.t, .int .i64 0, .string ⟨#[]⟩, .int .i64 o.c] 31)).cell? ⟨w4.heap.size, 2, none⟩ = some (.string o.t) := H20.out.2.2.2.2.2.2.2.1.cell 2
  have b3 : (w20.alloc (.cells #[.slice u1 y1 v1, .slice u2 y2 v2, .string o.t, .int .i64 0, .string ⟨#[]⟩, .int .i64 o.c] 31)).cell? ⟨w4.heap.size, 3, none⟩ = some (.int .i64 0) := H20.out.2.2.2.2.2.2.2.1.cell 3
  have b4 : (w20.alloc (.cells #[.slice u1 y1 v1, .slice u2 y2 v2, .string o.t, .int .i64 0, .string ⟨#[]⟩, .int .i64 o.c] 31)).cell? ⟨w4.heap.size, 4, none⟩ = some (.string ⟨#[]⟩) := H20.out.2.2.2.2.2.2.2.1.cell 4
  have b5 : (w20.alloc (.cells #[.slice u1 y1 v1, .slice u2 y2 v2, .string o.t, .int .i64 0, .string ⟨#[]⟩, .int .i64 o.c] 31)).cell? ⟨w4.heap.size, 5, none⟩ = some (.int .i64 o.c) := H20.out.2.2.2.2.2.2.2.1.cell 5
  clear hb20 bn H19 o1 o2 dd HU3 HKa
  go_wp2_with fail
  refine (eqEngineOut_same _ _ _ _ o.xs o.ps o.t o.c _ l1 l2 HRz.out HPz.out H20.out.2.2.2.2.2.1 H20.out.2.2.2.2.2.2.1).mono ?_
  rintro e w21 ⟨rfl, hb21⟩
  have H21 := hide (Stab.go hb21 (P := fun w' => Below w.heap.size w w' ∧ Reads w' (.slice p1 xs.length c1) xs ∧ ReadsP w' (.slice p2 ps.length c2) ps ∧ ReadsI w' (.slice p3 ks.length c3) ks ∧ Row w' w.heap.size 25 [.slice p1 xs.length c1, .slice p2 ps.length c2] ∧ Reads w' (.slice i1 j1 k1) o.xs ∧ ReadsP w' (.slice i2 j2 k2) o.ps ∧ Row w' w4.heap.size 31 [.slice i1 j1 k1, .slice i2 j2 k2, .string o.t, .int .i64 0, .string ⟨#[]⟩, .int .i64 o.c] ∧ Reads w' (.slice r1 n1 e1) (marks 1 o.xs.length) ∧ ReadsP w' (.slice r2 n2 e2) (marksP (1 + o.xs.length) o.ps.length) ∧ Row w' w7.heap.size 31 [.slice r1 n1 e1, .slice r2 n2 e2, .string o.t, .int .i64 0, .string ⟨#[]⟩, .int .i64 o.c]) H20.out)
  clear hb21 H20 b0 b1 b2 b3 b4 b5
  have h0 : w21.cell? ⟨w7.heap.size, 0, none⟩ = some (.slice r1 n1 e1) := H21.out.2.2.2.2.2.2.2.2.2.2.cell 0
  have h1 : w21.cell? ⟨w7.heap.size, 1, none⟩ = some (.slice r2 n2 e2) := H21.out.2.2.2.2.2.2.2.2.2.2.cell 1
  have h2 : w21.cell? ⟨w7.heap.size, 2, none⟩ = some (.string o.t) := H21.out.2.2.2.2.2.2.2.2.2.2.cell 2
  have h3 : w21.cell? ⟨w7.heap.size, 3, none⟩ = some (.int .i64 0) := H21.out.2.2.2.2.2.2.2.2.2.2.cell 3
  have h4 : w21.cell? ⟨w7.heap.size, 4, none⟩ = some (.string ⟨#[]⟩) := H21.out.2.2.2.2.2.2.2.2.2.2.cell 4
  have h5 : w21.cell? ⟨w7.heap.size, 5, none⟩ = some (.int .i64 o.c) := H21.out.2.2.2.2.2.2.2.2.2.2.cell 5
  go_wp2_with fail
  refine (heldEngineOut_any _ _ o.t o.c 1 o.xs.length o.ps.length _ l1 l2 (by omega) H21.out.2.2.2.2.2.2.2.2.1 H21.out.2.2.2.2.2.2.2.2.2.1).mono ?_
  rw [← HQ.out]
  rintro e w22 ⟨rfl, hb22⟩
  have HB := hide (H21.out.1.trans (hb22.mono H21.out.1.size))
  clear hb22 H21 h0 h1 h2 h3 h4 h5
  go_wp2
  go_ret
  exact ⟨rfl, HB.out⟩
end Go.Proofs.YtbhdbkffejlfmaaGreatDoor

/- The law of Recover. -/
namespace Go.Proofs.YtbhdbkffejlfmaaGreatDoor
open Go.RowKit
theorem recoverLaw (aF aR aU : Addr) (w : World) (hS : Sents aF aR aU w) (hG : St3.Laid w) (vs vp vk : Value) (xs : List ByteArray) (ps : List (Int × ByteArray)) (ks : List Int) (hr : Reads w vs xs) (hp : ReadsP w vp ps) (hk : ReadsI w vk ks) :
    Calls Tryz.prog 5 #[.agg #[vs, vp], vk] w fun e w' => e = .returned (.bool true) ∧ Below w.heap.size w w' :=
  lawRecover w ks (fun vs vp vk xs ps w' hb hsm h1 h2 h3 => implRecover_any vs vp vk xs ps ks aF aR aU w' hsm h1 h2 h3 (Stab.go hb hS) (Stab.go hb hG)) vs vp vk xs ps hr hp hk (fun h => recO_len ks h)
end Go.Proofs.YtbhdbkffejlfmaaGreatDoor
