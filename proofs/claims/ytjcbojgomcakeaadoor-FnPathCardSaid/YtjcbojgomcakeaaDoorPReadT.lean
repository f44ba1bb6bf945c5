/- A Path read out of a text: of the model, all of it. -/
import Derived.Test.YtjcbojgomcakeaaDoorPReadS
import Derived.Deep.DeepCutAuto
namespace Go.Proofs.YtjcbojgomcakeaaDoor
open Go.RowKit
theorem optS_no {o : UInt8} {cl l : List UInt8} (h : (isS o l).1 = false) : optS o cl l = (1, (isS o l).2) := by unfold optS; rw [h]; rfl
theorem optS_yes {o : UInt8} {cl l : List UInt8} (h : (isS o l).1 = true) : optS o cl l = ((numS 3 0 (isS o l).2).1, closeS cl (numS 3 0 (isS o l).2).2) := by unfold optS; rw [h]; rfl
set_option maxHeartbeats 8000000 in
set_option maxRecDepth 100000 in
theorem l05Read_any (l : List UInt8) (w : World) (hl : l.length ≤ 8000) :
    Calls Tryd.prog 30 #[.string ⟨l.toArray⟩] w fun e w' => e = .returned (readS l).v ∧ Below w.heap.size w w' := by
  by_cases h3 : (l.length : Int) < 3
  · have HN := hide (show readS l = ⟨⟨#[]⟩, 1, 0, 1, 1, 1⟩ by unfold readS; rw [if_pos (by omega)])
    have HB := hide (show Below w.heap.size w ((w.alloc (.cells #[.string ⟨#[]⟩, .int .i64 1, .int .i64 0, .int .i64 1, .int .i64 1, .int .i64 1] 24)).alloc (.cells #[.string ⟨#[]⟩, .int .i64 1, .int .i64 0, .int .i64 1, .int .i64 1, .int .i64 1] 24)) from ((Below.refl _ _).alloc (Nat.le_refl _) _).alloc (by simp) _)
    go_enter Tryd.func30, Tryd.ntmps30
    go_wp2
    exact bodyPost_ret (v := (PathM.mk ⟨#[]⟩ 1 0 1 1 1).v) (by simp [results, Tryd.results30, go_sem, PathM.v]) rfl ⟨by rw [HN.out], HB.out⟩
  obtain ⟨Q, hQ⟩ : ∃ Q, Q = readS l := ⟨_, rfl⟩
  rw [← hQ]
  have HQ := hide (show Q = ⟨⟨(l.take 3).toArray⟩, (optS 91 [93] (l.drop 3)).1, (fldS (optS 91 [93] (l.drop 3)).2).1, (optS 40 [41] (fldS (optS 91 [93] (l.drop 3)).2).2).1, (optS 46 [] (optS 40 [41] (fldS (optS 91 [93] (l.drop 3)).2).2).2).1, (optS 46 [] (optS 46 [] (optS 40 [41] (fldS (optS 91 [93] (l.drop 3)).2).2).2).2).1⟩ by rw [hQ]; unfold readS; rw [if_neg (by omega)])
  clear hQ
  obtain ⟨W, hW⟩ : ∃ W, W = ((w.alloc (.cells #[.string ⟨#[]⟩, .int .i64 0, .int .i64 0, .int .i64 0, .int .i64 0, .int .i64 0] 24)).alloc (.cells #[.string ((⟨l.toArray⟩ : ByteArray).extract 0 3), .int .i64 1, .int .i64 0, .int .i64 1, .int .i64 1, .int .i64 1] 24)).alloc (.cells #[.string ⟨l.toArray⟩, .int .i64 3] 69) := ⟨_, rfl⟩
  have HB0 := hide (show Below w.heap.size w W by rw [hW]; exact (((Below.refl _ _).alloc (Nat.le_refl _) _).alloc (by simp) _).alloc (by simp; omega) _)
  have HA0 : Hid (Row W w.heap.size 24 [.string ⟨#[]⟩, .int .i64 0, .int .i64 0, .int .i64 0, .int .i64 0, .int .i64 0]) := by rw [hW]; exact ((row_new w _ 24).alloc _).alloc _
  have HP0 : Hid (Row W (w.heap.size + 1) 24 [.string ⟨(l.take 3).toArray⟩, .int .i64 1, .int .i64 0, .int .i64 1, .int .i64 1, .int .i64 1]) := by
    rw [hW, ext_take]
    have := row_new (w.alloc (.cells #[.string ⟨#[]⟩, .int .i64 0, .int .i64 0, .int .i64 0, .int .i64 0, .int .i64 0] 24)) [.string ⟨(l.take 3).toArray⟩, .int .i64 1, .int .i64 0, .int .i64 1, .int .i64 1, .int .i64 1] 24
    exact Row.alloc (by simpa using this) _
  have HR0 : Hid (Row W (w.heap.size + 1 + 1) 69 [.string ⟨l.toArray⟩, .int .i64 ((3 : Nat) : Int)]) := by
    rw [hW]
    have := row_new ((w.alloc (.cells #[.string ⟨#[]⟩, .int .i64 0, .int .i64 0, .int .i64 0, .int .i64 0, .int .i64 0] 24)).alloc (.cells #[.string ((⟨l.toArray⟩ : ByteArray).extract 0 3), .int .i64 1, .int .i64 0, .int .i64 1, .int .i64 1, .int .i64 1] 24)) [.string ⟨l.toArray⟩, .int .i64 3] 69
    exact hide (by simpa using this)
  have hk0 : 3 ≤ l.length := by omega
  go_enter Tryd.func30, Tryd.ntmps30
  go_wp2_with fail
  rw [← hW]
  clear hW
  generalize hP : w.heap.size + 1 = P at *
  generalize hR : P + 1 = R at *
  have HPR := hide (show w.heap.size < P ∧ P < R by omega)
  clear hP hR
  obtain ⟨sg, hsg⟩ : ∃ sg : ByteArray, sg = ⟨(l.take 3).toArray⟩ := ⟨_, rfl⟩
  rw [← hsg] at HP0 HQ
  clear hsg
  refine (is_any R l 3 91 _ HR0.out hl (by omega)).mono ?_
  rintro e xa1 ⟨⟨ka1, hka1, hea1, rfl, hra1⟩, hkpa1⟩
  have HIa1 := hide hea1
  have HRa1 := hide hra1
  have HPa1 := hide (hkpa1.row HP0.out (by have := HPR.out; simp; omega))
  have HAa1 := hide (hkpa1.row HA0.out (by have := HPR.out; simp; omega))
  have HBa1 := hide (hkpa1.toBelow HB0.out HB0.out.size (by have := HPR.out; simp; omega))
  clear hea1 hra1 hkpa1
  go_upto_if 17 with fail
  go_cut [] (fun wz => ∃ (wx : World) (k' : Nat) (v : Int), wx = wz ∧ k' ≤ l.length ∧ Hid (optS 91 [93] (l.drop 3) = (v, l.drop k')) ∧ Hid (Row wx P 24 [.string sg, .int .i64 v, .int .i64 0, .int .i64 1, .int .i64 1, .int .i64 1]) ∧ Hid (Row wx R 69 [.string ⟨l.toArray⟩, .int .i64 (k' : Int)]) ∧ Hid (Row wx w.heap.size 24 [.string ⟨#[]⟩, .int .i64 0, .int .i64 0, .int .i64 0, .int .i64 0, .int .i64 0]) ∧ Hid (Below w.heap.size w wx))
  case first =>
    generalize hbb : (isS 91 (l.drop 3)).1 = bb at *
    have HBB := hide hbb
    clear hbb
    cases bb
    · have HE := hide (show optS 91 [93] (l.drop 3) = (1, l.drop ka1) by rw [optS_no HBB.out, HIa1.out])
      go_wp2_with fail
      go_meet
      exact ⟨_, ka1, 1, rfl, hka1, HE, HPa1, HRa1, HAa1, HBa1⟩
    · go_wp2_with fail
      refine (num_any R l ka1 _ HRa1.out hl (by omega)).mono ?_
      rintro e xn1 ⟨⟨kn1, hkn1, hen1, rfl, hrn1⟩, hkpn1⟩
      have HIn1 := hide hen1
      have HRn1 := hide hrn1
      have HPn1 := hide (hkpn1.row HPa1.out (by have := HPR.out; simp; omega))
      have HAn1 := hide (hkpn1.row HAa1.out (by have := HPR.out; simp; omega))
      have HBn1 := hide (hkpn1.toBelow HBa1.out HBa1.out.size (by have := HPR.out; simp; omega))
      clear hen1 hrn1 hkpn1
      obtain ⟨v, hv⟩ : ∃ v, v = (numS 3 0 (l.drop ka1)).1 := ⟨_, rfl⟩
      rw [← hv]
      rw [← hv] at HIn1
      clear hv
      have cs1 := HPn1.out.cell 1
      have fs1 := HPn1.out.free 1
      have HPs1 : Hid (Row (xn1.setCell ⟨P, 1, none⟩ (.int .i64 v)) P 24 [.string sg, .int .i64 v, .int .i64 0, .int .i64 1, .int .i64 1, .int .i64 1]) := HPn1.out.set (j := 1) (.int .i64 v)
      have HRs1 := hide (Row.other (w := xn1) (b := P) (j := 1) HRn1.out (by have := HPR.out; omega) (.int .i64 v))
      have HAs1 := hide (Row.other (w := xn1) (b := P) (j := 1) HAn1.out (by have := HPR.out; omega) (.int .i64 v))
      have HBs1 := hide (HBn1.out.setCell (p := ⟨P, 1, none⟩) (by have := HPR.out; show w.heap.size ≤ P; omega) (.int .i64 v))
      go_wp2_with fail
      obtain ⟨ys, hys⟩ : ∃ y, y = xn1.setCell ⟨P, 1, none⟩ (.int .i64 v) := ⟨_, rfl⟩
      rw [← hys] at HPs1 HRs1 HAs1 HBs1 ⊢
      clear hys cs1 fs1
      refine (is_any R l kn1 93 _ HRs1.out hl (by omega)).mono ?_
      rintro e xc1 ⟨⟨kc1, hkc1, hec1, rfl, hrc1⟩, hkpc1⟩
      have HIc1 := hide hec1
      have HRc1 := hide hrc1
      have HPc1 := hide (hkpc1.row HPs1.out (by have := HPR.out; simp; omega))
      have HAc1 := hide (hkpc1.row HAs1.out (by have := HPR.out; simp; omega))
      have HBc1 := hide (hkpc1.toBelow HBs1.out HBs1.out.size (by have := HPR.out; simp; omega))
      clear hec1 hrc1 hkpc1
      have HE := hide (show optS 91 [93] (l.drop 3) = (v, l.drop kc1) by rw [optS_yes HBB.out, HIa1.out, HIn1.out]; simp only [closeS]; rw [HIc1.out])
      go_wp2_with fail
      go_meet
      exact ⟨_, kc1, v, rfl, hkc1, HE, HPc1, HRc1, HAc1, HBc1⟩
  case rest =>
    obtain ⟨y1, k1, v1, rfl, hkk1, HE1, HPo1, HRo1, HAo1, HBo1⟩ := hcut
    go_wp2_with fail
    refine (is_any R l k1 45 _ HRo1.out hl (by omega)).mono ?_
    rintro e xd ⟨⟨kd, hkd, hed, rfl, hrd⟩, hkpd⟩
    have HId := hide hed
    have HRd := hide hrd
    have HPd := hide (hkpd.row HPo1.out (by have := HPR.out; simp; omega))
    have HAd := hide (hkpd.row HAo1.out (by have := HPR.out; simp; omega))
    have HBd := hide (hkpd.toBelow HBo1.out HBo1.out.size (by have := HPR.out; simp; omega))
    clear hed hrd hkpd
    go_wp2_with fail
    refine (num_any R l kd _ HRd.out hl (by omega)).mono ?_
    rintro e xf ⟨⟨kf, hkf, hef, rfl, hrf⟩, hkpf⟩
    have HIf := hide hef
    have HRf := hide hrf
    have HPf := hide (hkpf.row HPd.out (by have := HPR.out; simp; omega))
    have HAf := hide (hkpf.row HAd.out (by have := HPR.out; simp; omega))
    have HBf := hide (hkpf.toBelow HBd.out HBd.out.size (by have := HPR.out; simp; omega))
    clear hef hrf hkpf
    obtain ⟨vf, hvf⟩ : ∃ v, v = (numS 3 0 (l.drop kd)).1 := ⟨_, rfl⟩
    rw [← hvf]
    rw [← hvf] at HIf
    clear hvf
    have cg := HPf.out.cell 2
    have fg := HPf.out.free 2
    have HPg : Hid (Row (xf.setCell ⟨P, 2, none⟩ (.int .i64 vf)) P 24 [.string sg, .int .i64 v1, .int .i64 vf, .int .i64 1, .int .i64 1, .int .i64 1]) := HPf.out.set (j := 2) (.int .i64 vf)
    have HRg := hide (Row.other (w := xf) (b := P) (j := 2) HRf.out (by have := HPR.out; omega) (.int .i64 vf))
    have HAg := hide (Row.other (w := xf) (b := P) (j := 2) HAf.out (by have := HPR.out; omega) (.int .i64 vf))
    have HBg := hide (HBf.out.setCell (p := ⟨P, 2, none⟩) (by have := HPR.out; show w.heap.size ≤ P; omega) (.int .i64 vf))
    have HEf := hide (show fldS (l.drop k1) = (vf, l.drop kf) by unfold fldS; rw [HId.out]; exact HIf.out)
    go_wp2_with fail
    obtain ⟨yg, hyg⟩ : ∃ y, y = xf.setCell ⟨P, 2, none⟩ (.int .i64 vf) := ⟨_, rfl⟩
    rw [← hyg] at HPg HRg HAg HBg ⊢
    clear hyg cg fg
    refine (is_any R l kf 40 _ HRg.out hl (by omega)).mono ?_
    rintro e xa2 ⟨⟨ka2, hka2, hea2, rfl, hra2⟩, hkpa2⟩
    have HIa2 := hide hea2
    have HRa2 := hide hra2
    have HPa2 := hide (hkpa2.row HPg.out (by have := HPR.out; simp; omega))
    have HAa2 := hide (hkpa2.row HAg.out (by have := HPR.out; simp; omega))
    have HBa2 := hide (hkpa2.toBelow HBg.out HBg.out.size (by have := HPR.out; simp; omega))
    clear hea2 hra2 hkpa2
    go_upto_if 29 with fail
    go_cut [] (fun wz => ∃ (wx : World) (k' : Nat) (v : Int), wx = wz ∧ k' ≤ l.length ∧ Hid (optS 40 [41] (l.drop kf) = (v, l.drop k')) ∧ Hid (Row wx P 24 [.string sg, .int .i64 v1, .int .i64 vf, .int .i64 v, .int .i64 1, .int .i64 1]) ∧ Hid (Row wx R 69 [.string ⟨l.toArray⟩, .int .i64 (k' : Int)]) ∧ Hid (Row wx w.heap.size 24 [.string ⟨#[]⟩, .int .i64 0, .int .i64 0, .int .i64 0, .int .i64 0, .int .i64 0]) ∧ Hid (Below w.heap.size w wx))
    case first =>
      generalize hbb : (isS 40 (l.drop kf)).1 = bb at *
      have HBB := hide hbb
      clear hbb
      cases bb
      · have HE := hide (show optS 40 [41] (l.drop kf) = (1, l.drop ka2) by rw [optS_no HBB.out, HIa2.out])
        go_wp2_with fail
        go_meet
        exact ⟨_, ka2, 1, rfl, hka2, HE, HPa2, HRa2, HAa2, HBa2⟩
      · go_wp2_with fail
        refine (num_any R l ka2 _ HRa2.out hl (by omega)).mono ?_
        rintro e xn2 ⟨⟨kn2, hkn2, hen2, rfl, hrn2⟩, hkpn2⟩
        have HIn2 := hide hen2
        have HRn2 := hide hrn2
        have HPn2 := hide (hkpn2.row HPa2.out (by have := HPR.out; simp; omega))
        have HAn2 := hide (hkpn2.row HAa2.out (by have := HPR.out; simp; omega))
        have HBn2 := hide (hkpn2.toBelow HBa2.out HBa2.out.size (by have := HPR.out; simp; omega))
        clear hen2 hrn2 hkpn2
        obtain ⟨v, hv⟩ : ∃ v, v = (numS 3 0 (l.drop ka2)).1 := ⟨_, rfl⟩
        rw [← hv]
        rw [← hv] at HIn2
        clear hv
        have cs2 := HPn2.out.cell 3
        have fs2 := HPn2.out.free 3
        have HPs2 : Hid (Row (xn2.setCell ⟨P, 3, none⟩ (.int .i64 v)) P 24 [.string sg, .int .i64 v1, .int .i64 vf, .int .i64 v, .int .i64 1, .int .i64 1]) := HPn2.out.set (j := 3) (.int .i64 v)
        have HRs2 := hide (Row.other (w := xn2) (b := P) (j := 3) HRn2.out (by have := HPR.out; omega) (.int .i64 v))
        have HAs2 := hide (Row.other (w := xn2) (b := P) (j := 3) HAn2.out (by have := HPR.out; omega) (.int .i64 v))
        have HBs2 := hide (HBn2.out.setCell (p := ⟨P, 3, none⟩) (by have := HPR.out; show w.heap.size ≤ P; omega) (.int .i64 v))
        go_wp2_with fail
        obtain ⟨ys, hys⟩ : ∃ y, y = xn2.setCell ⟨P, 3, none⟩ (.int .i64 v) := ⟨_, rfl⟩
        rw [← hys] at HPs2 HRs2 HAs2 HBs2 ⊢
        clear hys cs2 fs2
        refine (is_any R l kn2 41 _ HRs2.out hl (by omega)).mono ?_
        rintro e xc2 ⟨⟨kc2, hkc2, hec2, rfl, hrc2⟩, hkpc2⟩
        have HIc2 := hide hec2
        have HRc2 := hide hrc2
        have HPc2 := hide (hkpc2.row HPs2.out (by have := HPR.out; simp; omega))
        have HAc2 := hide (hkpc2.row HAs2.out (by have := HPR.out; simp; omega))
        have HBc2 := hide (hkpc2.toBelow HBs2.out HBs2.out.size (by have := HPR.out; simp; omega))
        clear hec2 hrc2 hkpc2
        have HE := hide (show optS 40 [41] (l.drop kf) = (v, l.drop kc2) by rw [optS_yes HBB.out, HIa2.out, HIn2.out]; simp only [closeS]; rw [HIc2.out])
        go_wp2_with fail
        go_meet
        exact ⟨_, kc2, v, rfl, hkc2, HE, HPc2, HRc2, HAc2, HBc2⟩
    case rest =>
      obtain ⟨y2, k2, v2, rfl, hkk2, HE2, HPo2, HRo2, HAo2, HBo2⟩ := hcut
      go_wp2_with fail
      refine (is_any R l k2 46 _ HRo2.out hl (by omega)).mono ?_
      rintro e xa3 ⟨⟨ka3, hka3, hea3, rfl, hra3⟩, hkpa3⟩
      have HIa3 := hide hea3
      have HRa3 := hide hra3
      have HPa3 := hide (hkpa3.row HPo2.out (by have := HPR.out; simp; omega))
      have HAa3 := hide (hkpa3.row HAo2.out (by have := HPR.out; simp; omega))
      have HBa3 := hide (hkpa3.toBelow HBo2.out HBo2.out.size (by have := HPR.out; simp; omega))
      clear hea3 hra3 hkpa3
      go_upto_if 36 with fail
      go_cut [] (fun wz => ∃ (wx : World) (k' : Nat) (v : Int), wx = wz ∧ k' ≤ l.length ∧ Hid (optS 46 [] (l.drop k2) = (v, l.drop k')) ∧ Hid (Row wx P 24 [.string sg, .int .i64 v1, .int .i64 vf, .int .i64 v2, .int .i64 v, .int .i64 1]) ∧ Hid (Row wx R 69 [.string ⟨l.toArray⟩, .int .i64 (k' : Int)]) ∧ Hid (Row wx w.heap.size 24 [.string ⟨#[]⟩, .int .i64 0, .int .i64 0, .int .i64 0, .int .i64 0, .int .i64 0]) ∧ Hid (Below w.heap.size w wx))
      case first =>
        generalize hbb : (isS 46 (l.drop k2)).1 = bb at *
        have HBB := hide hbb
        clear hbb
        cases bb
        · have HE := hide (show optS 46 [] (l.drop k2) = (1, l.drop ka3) by rw [optS_no HBB.out, HIa3.out])
          go_wp2_with fail
          go_meet
          exact ⟨_, ka3, 1, rfl, hka3, HE, HPa3, HRa3, HAa3, HBa3⟩
        · go_wp2_with fail
          refine (num_any R l ka3 _ HRa3.out hl (by omega)).mono ?_
          rintro e xn3 ⟨⟨kn3, hkn3, hen3, rfl, hrn3⟩, hkpn3⟩
          have HIn3 := hide hen3
          have HRn3 := hide hrn3
          have HPn3 := hide (hkpn3.row HPa3.out (by have := HPR.out; simp; omega))
          have HAn3 := hide (hkpn3.row HAa3.out (by have := HPR.out; simp; omega))
          have HBn3 := hide (hkpn3.toBelow HBa3.out HBa3.out.size (by have := HPR.out; simp; omega))
          clear hen3 hrn3 hkpn3
          obtain ⟨v, hv⟩ : ∃ v, v = (numS 3 0 (l.drop ka3)).1 := ⟨_, rfl⟩
          rw [← hv]
          rw [← hv] at HIn3
          clear hv
          have cs3 := HPn3.out.cell 4
          have fs3 := HPn3.out.free 4
          have HPs3 : Hid (Row (xn3.setCell ⟨P, 4, none⟩ (.int .i64 v)) P 24 [.string sg, .int .i64 v1, .int .i64 vf, .int .i64 v2, .int .i64 v, .int .i64 1]) := HPn3.out.set (j := 4) (.int .i64 v)
          have HRs3 := hide (Row.other (w := xn3) (b := P) (j := 4) HRn3.out (by have := HPR.out; omega) (.int .i64 v))
          have HAs3 := hide (Row.other (w := xn3) (b := P) (j := 4) HAn3.out (by have := HPR.out; omega) (.int .i64 v))
          have HBs3 := hide (HBn3.out.setCell (p := ⟨P, 4, none⟩) (by have := HPR.out; show w.heap.size ≤ P; omega) (.int .i64 v))
          have HE := hide (show optS 46 [] (l.drop k2) = (v, l.drop kn3) by rw [optS_yes HBB.out, HIa3.out, HIn3.out]; simp only [closeS])
          go_wp2_with fail
          go_meet
          exact ⟨_, kn3, v, rfl, hkn3, HE, HPs3, HRs3, HAs3, HBs3⟩
      case rest =>
        obtain ⟨y3, k3, v3, rfl, hkk3, HE3, HPo3, HRo3, HAo3, HBo3⟩ := hcut
        go_wp2_with fail
        refine (is_any R l k3 46 _ HRo3.out hl (by omega)).mono ?_
        rintro e xa4 ⟨⟨ka4, hka4, hea4, rfl, hra4⟩, hkpa4⟩
        have HIa4 := hide hea4
        have HRa4 := hide hra4
        have HPa4 := hide (hkpa4.row HPo3.out (by have := HPR.out; simp; omega))
        have HAa4 := hide (hkpa4.row HAo3.out (by have := HPR.out; simp; omega))
        have HBa4 := hide (hkpa4.toBelow HBo3.out HBo3.out.size (by have := HPR.out; simp; omega))
        clear hea4 hra4 hkpa4
        go_upto_if 41 with fail
        go_cut [] (fun wz => ∃ (wx : World) (k' : Nat) (v : Int), wx = wz ∧ k' ≤ l.length ∧ Hid (optS 46 [] (l.drop k3) = (v, l.drop k')) ∧ Hid (Row wx P 24 [.string sg, .int .i64 v1, .int .i64 vf, .int .i64 v2, .int .i64 v3, .int .i64 v]) ∧ Hid (Row wx R 69 [.string ⟨l.toArray⟩, .int .i64 (k' : Int)]) ∧ Hid (Row wx w.heap.size 24 [.string ⟨#[]⟩, .int .i64 0, .int .i64 0, .int .i64 0, .int .i64 0, .int .i64 0]) ∧ Hid (Below w.heap.size w wx))
        case first =>
          generalize hbb : (isS 46 (l.drop k3)).1 = bb at *
          have HBB := hide hbb
          clear hbb
          cases bb
          · have HE := hide (show optS 46 [] (l.drop k3) = (1, l.drop ka4) by rw [optS_no HBB.out, HIa4.out])
            go_wp2_with fail
            go_meet
            exact ⟨_, ka4, 1, rfl, hka4, HE, HPa4, HRa4, HAa4, HBa4⟩
          · go_wp2_with fail
            refine (num_any R l ka4 _ HRa4.out hl (by omega)).mono ?_
            rintro e xn4 ⟨⟨kn4, hkn4, hen4, rfl, hrn4⟩, hkpn4⟩
            have HIn4 := hide hen4
            have HRn4 := hide hrn4
            have HPn4 := hide (hkpn4.row HPa4.out (by have := HPR.out; simp; omega))
            have HAn4 := hide (hkpn4.row HAa4.out (by have := HPR.out; simp; omega))
            have HBn4 := hide (hkpn4.toBelow HBa4.out HBa4.out.size (by have := HPR.out; simp; omega))
            clear hen4 hrn4 hkpn4
            obtain ⟨v, hv⟩ : ∃ v, v = (numS 3 0 (l.drop ka4)).1 := ⟨_, rfl⟩
            rw [← hv]
            rw [← hv] at HIn4
            clear hv
            have cs4 := HPn4.out.cell 5
            have fs4 := HPn4.out.free 5
            have HPs4 : Hid (Row (xn4.setCell ⟨P, 5, none⟩ (.int .i64 v)) P 24 [.string sg, .int .i64 v1, .int .i64 vf, .int .i64 v2, .int .i64 v3, .int .i64 v]) := HPn4.out.set (j := 5) (.int .i64 v)
            have HRs4 := hide (Row.other (w := xn4) (b := P) (j := 5) HRn4.out (by have := HPR.out; omega) (.int .i64 v))
            have HAs4 := hide (Row.other (w := xn4) (b := P) (j := 5) HAn4.out (by have := HPR.out; omega) (.int .i64 v))
            have HBs4 := hide (HBn4.out.setCell (p := ⟨P, 5, none⟩) (by have := HPR.out; show w.heap.size ≤ P; omega) (.int .i64 v))
            have HE := hide (show optS 46 [] (l.drop k3) = (v, l.drop kn4) by rw [optS_yes HBB.out, HIa4.out, HIn4.out]; simp only [closeS])
            go_wp2_with fail
            go_meet
            exact ⟨_, kn4, v, rfl, hkn4, HE, HPs4, HRs4, HAs4, HBs4⟩
        case rest =>
          obtain ⟨y4, k4, v4, rfl, hkk4, HE4, HPo4, HRo4, HAo4, HBo4⟩ := hcut
          have HF := hide (show Q = ⟨sg, v1, vf, v2, v3, v4⟩ by rw [HQ.out]; simp only [HE1.out, HEf.out, HE2.out, HE3.out, HE4.out])
          have q0 : y4.cell? ⟨P, 0, none⟩ = some (.string sg) := HPo4.out.cell 0
          have q1 : y4.cell? ⟨P, 1, none⟩ = some (.int .i64 v1) := HPo4.out.cell 1
          have q2 : y4.cell? ⟨P, 2, none⟩ = some (.int .i64 vf) := HPo4.out.cell 2
          have q3 : y4.cell? ⟨P, 3, none⟩ = some (.int .i64 v2) := HPo4.out.cell 3
          have q4 : y4.cell? ⟨P, 4, none⟩ = some (.int .i64 v3) := HPo4.out.cell 4
          have q5 : y4.cell? ⟨P, 5, none⟩ = some (.int .i64 v4) := HPo4.out.cell 5
          have HH : Hid (Row (y4.setRow w.heap.size #[.string sg, .int .i64 v1, .int .i64 vf, .int .i64 v2, .int .i64 v3, .int .i64 v4]) w.heap.size 24 [.string sg, .int .i64 v1, .int .i64 vf, .int .i64 v2, .int .i64 v3, .int .i64 v4]) := setRow_heap _ _ _ _ 24 (0, 0) HAo4.out
          have HBF := hide (below_setRow HBo4.out (Nat.le_refl _) #[.string sg, .int .i64 v1, .int .i64 vf, .int .i64 v2, .int .i64 v3, .int .i64 v4])
          go_wp2_with (refine wpList_store_row rfl 24 _ _ rfl w.heap.size #[.string sg, .int .i64 v1, .int .i64 vf, .int .i64 v2, .int .i64 v3, .int .i64 v4] rfl rfl 24 _ HAo4.out (by kernel_rfl) rfl (by first | kernel_rfl | simp [Value.oneCell']) ?_)
          obtain ⟨V, hV⟩ : ∃ V, V = y4.setRow w.heap.size #[.string sg, .int .i64 v1, .int .i64 vf, .int .i64 v2, .int .i64 v3, .int .i64 v4] := ⟨_, rfl⟩
          rw [← hV] at HH HBF ⊢
          clear hV
          have z0 : V.cell? ⟨w.heap.size, 0, none⟩ = some (.string sg) := HH.out.cell 0
          have z1 : V.cell? ⟨w.heap.size, 1, none⟩ = some (.int .i64 v1) := HH.out.cell 1
          have z2 : V.cell? ⟨w.heap.size, 2, none⟩ = some (.int .i64 vf) := HH.out.cell 2
          have z3 : V.cell? ⟨w.heap.size, 3, none⟩ = some (.int .i64 v2) := HH.out.cell 3
          have z4 : V.cell? ⟨w.heap.size, 4, none⟩ = some (.int .i64 v3) := HH.out.cell 4
          have z5 : V.cell? ⟨w.heap.size, 5, none⟩ = some (.int .i64 v4) := HH.out.cell 5
          exact bodyPost_ret (v := (PathM.mk sg v1 vf v2 v3 v4).v) (by simp [results, Tryd.results30, go_sem, PathM.v, z0, z1, z2, z3, z4, z5]) rfl ⟨by rw [HF.out], HBF.out⟩
end Go.Proofs.YtjcbojgomcakeaaDoor
