/- A time: of the program; the law of TimeRight. -/
import Derived.Test.YtfjjbofnfigehaaGreatDoorXG15VTimeK
namespace Go.Proofs.YtfjjbofnfigehaaGreatDoor
open Go.RowKit
theorem woFrac_len (c : List UInt8) (n : Nat) (h : (woFrac c).length ≤ n) : c.length ≤ n + 11 := by
  unfold woFrac at h
  split at h
  · rename_i hc
    simp only [Bool.and_eq_true, decide_eq_true_eq, List.length_drop] at hc
    omega
  · omega
theorem woZone_len (c : List UInt8) (n : Nat) (h : (woZone c).length ≤ n) : c.length ≤ n + 5 := by
  unfold woZone at h
  split at h
  · rw [List.length_take] at h; omega
  · omega
theorem woFrac_le (c : List UInt8) : (woFrac c).length ≤ c.length := by
  unfold woFrac
  split
  · rw [List.length_take]; omega
  · exact Nat.le_refl _
theorem woZone_le (c : List UInt8) : (woZone c).length ≤ c.length := by
  unfold woZone
  split
  · rw [List.length_take]; omega
  · exact Nat.le_refl _
theorem timeI_len (v : Int) (c : List UInt8) (h : timeI v c = true) : c.length ≤ 22 := by
  unfold timeI at h
  have h1 := (clk_len _ _ h).2
  simp only [List.length_cons, List.length_nil] at h1
  by_cases h3 : 3 ≤ v
  · have h2 : 2 ≤ v := by omega
    simp only [h3, h2, if_true] at h1
    have := woZone_len c _ (woFrac_len _ _ h1)
    omega
  · simp only [h3, if_false] at h1
    by_cases h2 : 2 ≤ v
    · simp only [h2, if_true] at h1
      have := woFrac_len c _ h1
      omega
    · simp only [h2, if_false] at h1
      omega
theorem timeB_long (v : Int) (l : List UInt8) (h : 8000 < l.length) : timeB v l = false := by
  cases ht : timeB v l
  · rfl
  · simp only [timeB, Bool.and_eq_true] at ht
    have := timeI_len v (l.drop 8) (by rw [time_eq]; exact ht.2.2.2)
    rw [List.length_drop] at this
    omega
set_option maxHeartbeats 4000000 in
set_option maxRecDepth 100000 in
theorem implTimeRight_any (v : Int) (l : List UInt8) (w : World) (hl : l.length ≤ maxLen) (he : ErrsV w) :
    Calls Tryz.prog 75 #[.int .i64 v, .string ⟨l.toArray⟩] w fun e w' => e = .returned (.bool (timeB v l)) ∧ Below w.heap.size w w' := by
  have HL := hide hl
  unfold maxLen at hl
  have HE := hide he
  clear he
  obtain ⟨R, hR⟩ : ∃ R, R = timeB v l := ⟨_, rfl⟩
  rw [← hR]
  have HR := hide hR
  clear hR
  cases hv : verB v
  · have HN := hide (show R = false by rw [HR.out]; simp [timeB, hv])
    go_enter Tryz.func75, Tryz.ntmps75
    go_wp2_with fail
    refine (versionRight_any v _).mono ?_
    rintro e w1 ⟨rfl, rfl⟩
    rw [hv]
    clear hv
    go_wp2
    go_ret
    exact ⟨ret_bool HN.out.symm, Below.refl _ _⟩
  · by_cases h8 : 8 ≤ l.length
    · have h8I : ¬ (l.length : Int) < 8 := by omega
      have HC := hide (fun X hE => implDayRight_any (l.take 8) X hE)
      go_enter Tryz.func75, Tryz.ntmps75
      go_wp2_with fail
      refine (versionRight_any v _).mono ?_
      rintro e w1 ⟨rfl, rfl⟩
      rw [hv]
      have HV := hide hv
      clear hv
      go_wp2_with fail
      rw [ext_takeV]
      refine (HC.out _ HE.out).mono ?_
      rintro e w2 ⟨rfl, hb⟩
      have HB := hide hb
      have HE2 := hide (HE.out.below hb HE.out.1)
      clear hb HC
      cases hd : dayB (l.take 8)
      · have HN := hide (show R = false by rw [HR.out]; simp [timeB, hd])
        clear hd
        go_wp2
        go_ret
        exact ⟨ret_bool HN.out.symm, HB.out⟩
      · have HY := hide (show R = timeI v (l.drop 8) by rw [HR.out, time_eq]; simp [timeB, hd, HV.out, h8])
        clear hd
        go_upto_region 4 with fail
        rw [ext_dropV]
        obtain ⟨c, hc⟩ : ∃ c, c = l.drop 8 := ⟨_, rfl⟩
        have hcl : Hid (c.length ≤ maxLen) := by rw [hc, List.length_drop]; have := HL.out; exact hide (by omega)
        rw [← hc] at HY ⊢
        clear hc
        have hv3 : v = 1 ∨ v = 2 ∨ v = 3 := by have := HV.out; simp [verB] at this; omega
        rcases hv3 with rfl | rfl | rfl
        · have HN := hide (show R = clk [23, 59, 59] c by rw [HY.out]; rfl)
          go_wp2_with fail
          refine (clockRight_any c _ hcl.out HE2.out).mono ?_
          rintro e w3 ⟨rfl, hb⟩
          have HB3 := hide (HB.out.trans (hb.mono HB.out.size))
          clear hb
          go_wp2
          go_ret
          exact ⟨ret_bool HN.out.symm, HB3.out⟩
        · have HN := hide (show R = clk [23, 59, 59] (woFrac c) by rw [HY.out]; rfl)
          have hfl : Hid ((woFrac c).length ≤ maxLen) := hide (Nat.le_trans (woFrac_le c) hcl.out)
          go_wp2_with fail
          refine (withoutFraction_any c _ hcl.out).mono ?_
          rintro e w3 ⟨rfl, hb⟩
          have HB3 := hide (HB.out.trans (hb.mono HB.out.size))
          have HE3 := hide (HE2.out.below hb HE2.out.1)
          clear hb
          generalize woFrac c = d at *
          go_wp2_with fail
          refine (clockRight_any d _ hfl.out HE3.out).mono ?_
          rintro e w4 ⟨rfl, hb⟩
          have HB4 := hide (HB3.out.trans (hb.mono HB3.out.size))
          clear hb
          go_wp2
          go_ret
          exact ⟨ret_bool HN.out.symm, HB4.out⟩
        · have HN := hide (show R = clk [23, 59, 59] (woFrac (woZone c)) by rw [HY.out]; rfl)
          have hzl : Hid ((woZone c).length ≤ maxLen) := hide (Nat.le_trans (woZone_le c) hcl.out)
          have hfl : Hid ((woFrac (woZone c)).length ≤ maxLen) := hide (Nat.le_trans (woFrac_le (woZone c)) hzl.out)
          go_wp2_with fail
          refine (withoutZone_any c _ hcl.out HE2.out).mono ?_
          rintro e w3 ⟨rfl, hb⟩
          have HB3 := hide (HB.out.trans (hb.mono HB.out.size))
          have HE3 := hide (HE2.out.below hb HE2.out.1)
          clear hb
          generalize woZone c = z at *
          go_wp2_with fail
          refine (withoutFraction_any z _ hzl.out).mono ?_
          rintro e w4 ⟨rfl, hb⟩
          have HB4 := hide (HB3.out.trans (hb.mono HB3.out.size))
          have HE4 := hide (HE3.out.below hb HE3.out.1)
          clear hb
          generalize woFrac z = d at *
          go_wp2_with fail
          refine (clockRight_any d _ hfl.out HE4.out).mono ?_
          rintro e w5 ⟨rfl, hb⟩
          have HB5 := hide (HB4.out.trans (hb.mono HB4.out.size))
          clear hb
          go_wp2
          go_ret
          exact ⟨ret_bool HN.out.symm, HB5.out⟩
    · have h8I : (l.length : Int) < 8 := by omega
      have HN := hide (show R = false by rw [HR.out]; simp [timeB, h8])
      go_enter Tryz.func75, Tryz.ntmps75
      go_wp2_with fail
      refine (versionRight_any v _).mono ?_
      rintro e w1 ⟨rfl, rfl⟩
      rw [hv]
      clear hv
      go_wp2
      go_ret
      exact ⟨ret_bool HN.out.symm, Below.refl _ _⟩
theorem specTimeRight_long (v : Int) (l : List UInt8) (w : World) (hl : 8000 < l.length) :
    Calls Tryz.prog 40 #[.int .i64 v, .string ⟨l.toArray⟩] w fun e w' => e = .returned (.bool (timeB v l)) ∧ Below w.heap.size w w' := by
  have HN := hide (timeB_long v l hl)
  have h80 : 8000 < (l.length : Int) := by omega
  go_enter Tryz.func40, Tryz.ntmps40
  go_wp2
  go_ret
  exact ⟨ret_bool HN.out.symm, Below.refl _ _⟩
theorem specTimeRight_all (v : Int) (l : List UInt8) (w : World) :
    Calls Tryz.prog 40 #[.int .i64 v, .string ⟨l.toArray⟩] w fun e w' => e = .returned (.bool (timeB v l)) ∧ Below w.heap.size w w' := by
  by_cases h : l.length ≤ 8000
  · exact specTimeRight_any v l w h
  · exact specTimeRight_long v l w (by omega)
end Go.Proofs.YtfjjbofnfigehaaGreatDoor
/- A number, of the model and of the program; the law of NumberRight. -/
namespace Go.Proofs.YtfjjbofnfigehaaGreatDoor
open Go.RowKit
theorem below_drewNV {B : Nat} {w w' : World} (h : Below B w w') (n : Nat) : Below B w (w'.drewN n) := ⟨h.os, h.tape, h.output, h.size, h.block⟩
theorem liteCut_any (l : List UInt8) (w : World) (hl : l.length ≤ 100) :
    Calls Tryz.prog 95 #[.string ⟨l.toArray⟩, .string ⟨#[46]⟩] w fun e w' =>
      e = .returned (if 0 ≤ Lib.indexByte l 46 then .tuple #[.string ⟨(l.take (Lib.indexByte l 46).toNat).toArray⟩, .string ⟨(l.drop ((Lib.indexByte l 46).toNat + 1)).toArray⟩, .bool true] else .tuple #[.string ⟨l.toArray⟩, .string ⟨#[]⟩, .bool false]) ∧ Below w.heap.size w w' := by
  have HKS := hide (dot_room l)
  have HKG := hide (Lib.indexByte_ge l 46)
  have C := hide (fun X => Tryz.stringslite_Index_one ⟨l.toArray⟩ 46 X)
  rw [show (⟨l.toArray⟩ : ByteArray).data.toList = l from rfl] at C
  generalize Lib.indexByte l 46 = K at *
  by_cases hk : 0 ≤ K
  · rw [if_pos hk]
    obtain ⟨k, hkk⟩ : ∃ k : Nat, K = (k : Int) := ⟨K.toNat, by omega⟩
    subst hkk
    have hkl : k + 1 ≤ l.length := by have := HKS.out hk; omega
    rw [Int.toNat_natCast]
    go_enter Tryz.func95, Tryz.ntmps95
    go_wp2_with fail
    refine (C.out _).mono ?_
    rintro e w1 ⟨rfl, rfl⟩
    go_wp2_with fail
    go_quiet (fail)
    go_wp2
    exact bodyPost_ret (v := .tuple #[.string ((⟨l.toArray⟩ : ByteArray).extract 0 k), .string ((⟨l.toArray⟩ : ByteArray).extract (k + 1) l.length), .bool true]) (by simp [results, Tryz.results95, go_sem]) rfl ⟨by rw [ext_takeV, ext_dropV], below_drewNV (Below.refl _ _) nq⟩
  · rw [if_neg hk]
    have hkm : K = -1 := by have := HKG.out; omega
    subst hkm
    go_enter Tryz.func95, Tryz.ntmps95
    go_wp2_with fail
    refine (C.out _).mono ?_
    rintro e w1 ⟨rfl, rfl⟩
    go_wp2
    exact bodyPost_ret (v := .tuple #[.string ⟨l.toArray⟩, .string ⟨#[]⟩, .bool false]) (by simp [results, Tryz.results95, go_sem]) rfl ⟨rfl, Below.refl _ _⟩
def cutV (l : List UInt8) : Value := if 0 ≤ Lib.indexByte l 46 then .tuple #[.string ⟨(l.take (Lib.indexByte l 46).toNat).toArray⟩, .string ⟨(l.drop ((Lib.indexByte l 46).toNat + 1)).toArray⟩, .bool true] else .tuple #[.string ⟨l.toArray⟩, .string ⟨#[]⟩, .bool false]
theorem cut_any (l : List UInt8) (w : World) (hl : l.length ≤ 100) :
    Calls Tryz.prog 85 #[.string ⟨l.toArray⟩, .string ⟨#[46]⟩] w fun e w' => e = .returned (cutV l) ∧ Below w.heap.size w w' := by
  unfold cutV
  have C := hide (fun X => liteCut_any l X hl)
  by_cases hk : 0 ≤ Lib.indexByte l 46
  · rw [if_pos hk]
    rw [if_pos hk] at C
    generalize l.take (Lib.indexByte l 46).toNat = a at *
    generalize l.drop ((Lib.indexByte l 46).toNat + 1) = b at *
    clear hk
    go_enter Tryz.func85, Tryz.ntmps85
    go_wp2_with fail
    refine (C.out _).mono ?_
    rintro e w1 ⟨rfl, hb⟩
    have HB := hide hb
    clear hb
    go_wp2
    exact bodyPost_ret (v := .tuple #[.string ⟨a.toArray⟩, .string ⟨b.toArray⟩, .bool true]) (by simp [results, Tryz.results85, go_sem]) rfl ⟨rfl, HB.out⟩
  · rw [if_neg hk]
    rw [if_neg hk] at C
    clear hk
    go_enter Tryz.func85, Tryz.ntmps85
    go_wp2_with fail
    refine (C.out _).mono ?_
    rintro e w1 ⟨rfl, hb⟩
    have HB := hide hb
    clear hb
    go_wp2
    exact bodyPost_ret (v := .tuple #[.string ⟨l.toArray⟩, .string ⟨#[]⟩, .bool false]) (by simp [results, Tryz.results85, go_sem]) rfl ⟨rfl, HB.out⟩
def wholeB (x : List UInt8) : Bool := allD x && !(decide (1 < x.length) && (x.getD 0 0 == 48))
def minusL (l : List UInt8) : List UInt8 := if l.getD 0 0 == 45 then l.drop 1 else l
def pointB (t : List UInt8) : Bool := if 0 ≤ Lib.indexByte t 46 then allD (t.drop ((Lib.indexByte t 46).toNat + 1)) && wholeB (t.take (Lib.indexByte t 46).toNat) else wholeB t
/-- Is it a number? -/
def numberB (l : List UInt8) : Bool := decide (l.length ≤ 16) && pointB (minusL l)
theorem minus_of (l : List UInt8) : Lib.trimPrefix l [45] = minusL l := by
  unfold Lib.trimPrefix Lib.hasPrefix minusL
  cases l with
  | nil => rfl
  | cons b r =>
    by_cases h : b = 45
    · subst h; simp
    · have h1 : (45 == b) = false := by simpa using fun e => h e.symm
      have h2 : (b == 45) = false := by simpa using h
      simp [h2]
      exact fun e => h e.symm
theorem minus_le (l : List UInt8) : (minusL l).length ≤ l.length := by
  unfold minusL
  split
  · rw [List.length_drop]; omega
  · exact Nat.le_refl _
theorem whole_parts (x : List UInt8) : (x.length ≤ 1 ∧ wholeB x = allD x) ∨ (∃ h : 1 < x.length, x[0] = 48 ∧ wholeB x = false) ∨ (∃ h : 1 < x.length, ¬ x[0] = 48 ∧ wholeB x = allD x) := by
  unfold wholeB
  by_cases h1 : 1 < x.length
  · by_cases h2 : x[0] = 48
    · refine .inr (.inl ⟨h1, h2, ?_⟩)
      rw [getD_at x 0 (by omega), h2]
      simp [h1]
    · refine .inr (.inr ⟨h1, h2, ?_⟩)
      rw [getD_at x 0 (by omega)]
      simp [h2]
  · refine .inl ⟨by omega, ?_⟩
    simp [h1]
set_option maxHeartbeats 4000000 in
set_option maxRecDepth 100000 in
theorem implNumberRight_any (l : List UInt8) (w : World) (hl : l.length ≤ maxLen) :
    Calls Tryz.prog 73 #[.string ⟨l.toArray⟩] w fun e w' => e = .returned (.bool (numberB l)) ∧ Below w.heap.size w w' := by
  unfold maxLen at hl
  obtain ⟨R, hR⟩ : ∃ R, R = numberB l := ⟨_, rfl⟩
  rw [← hR]
  have HR := hide hR
  clear hR
  by_cases h16 : l.length ≤ 16
  · have h16I : ¬ 16 < (l.length : Int) := by omega
    have HT := hide (show R = pointB (minusL l) by rw [HR.out]; simp [numberB, h16])
    have htl : Hid ((minusL l).length ≤ 16) := hide (Nat.le_trans (minus_le l) h16)
    go_enter Tryz.func73, Tryz.ntmps73
    go_wp2_with fail
    refine (Tryz.strings_TrimPrefix ⟨l.toArray⟩ ⟨#[45]⟩ _).mono ?_
    rintro e w1 ⟨rfl, rfl⟩
    rw [show Lib.trimPrefix (⟨l.toArray⟩ : ByteArray).data.toList (⟨#[45]⟩ : ByteArray).data.toList = minusL l from minus_of l]
    generalize minusL l = t at *
    have C := hide (fun X => cut_any t X (by have := htl.out; omega))
    go_wp2_with fail
    refine (C.out _).mono ?_
    rintro e w2 ⟨rfl, hb⟩
    have HB := hide hb
    clear hb C
    by_cases hk : 0 ≤ Lib.indexByte t 46
    · have HC := hide (show cutV t = .tuple #[.string ⟨(t.take (Lib.indexByte t 46).toNat).toArray⟩, .string ⟨(t.drop ((Lib.indexByte t 46).toNat + 1)).toArray⟩, .bool true] by unfold cutV; rw [if_pos hk])
      have HP := hide (show R = (allD (t.drop ((Lib.indexByte t 46).toNat + 1)) && wholeB (t.take (Lib.indexByte t 46).toNat)) by rw [HT.out]; unfold pointB; rw [if_pos hk])
      clear hk
      rw [HC.out]
      clear HC HT
      generalize t.take (Lib.indexByte t 46).toNat = a at *
      generalize t.drop ((Lib.indexByte t 46).toNat + 1) = b at *
      have ea := toList_of a
      rcases whole_parts a with ⟨h1, h2⟩ | ⟨h1, h2, h3⟩ | ⟨h1, h2, h3⟩
      · have h1I : ¬ 1 < (a.length : Int) := by omega
        have HWB := hide h2
        clear h2
        go_wp2_with fail
        refine (allDigitsL_any a _).mono ?_
        rintro e w3 ⟨rfl, hb⟩
        have HB3 := hide (HB.out.trans (hb.mono HB.out.size))
        clear hb
        cases hA : allD a
        · have HN := hide (show R = false by rw [HP.out, HWB.out, hA]; simp)
          clear hA
          go_wp2
          go_ret
          exact ⟨ret_bool HN.out.symm, HB3.out⟩
        · have HN := hide (show R = allD b by rw [HP.out, HWB.out, hA]; simp)
          clear hA
          go_wp2_with fail
          refine (allDigitsL_any b _).mono ?_
          rintro e w4 ⟨rfl, hb⟩
          have HB4 := hide (HB3.out.trans (hb.mono HB3.out.size))
          clear hb
          generalize allD b = bb at *
          cases bb
          · go_wp2
            go_ret
            exact ⟨ret_bool HN.out.symm, HB4.out⟩
          · go_wp2
            go_ret
            exact ⟨ret_bool HN.out.symm, HB4.out⟩
      · have h1I : 1 < (a.length : Int) := by omega
        have hg := get_dataV a 0 (by omega)
        have hsz : 0 < (⟨a.toArray⟩ : ByteArray).size := by simp [ByteArray.size]; omega
        have g1 : ((a[0].toNat : Int) == 48) = true := by rw [h2]; decide
        have HWB := hide h3
        clear h2 h3
        go_wp2_with fail
        refine (allDigitsL_any a _).mono ?_
        rintro e w3 ⟨rfl, hb⟩
        have HB3 := hide (HB.out.trans (hb.mono HB.out.size))
        clear hb
        cases hA : allD a
        · have HN := hide (show R = false by rw [HP.out, HWB.out]; simp)
          clear hA
          go_wp2
          go_ret
          exact ⟨ret_bool HN.out.symm, HB3.out⟩
        · have HN := hide (show R = false by rw [HP.out, HWB.out]; simp)
          clear hA
          go_wp2
          go_ret
          exact ⟨ret_bool HN.out.symm, HB3.out⟩
      · have h1I : 1 < (a.length : Int) := by omega
        have hg := get_dataV a 0 (by omega)
        have hsz : 0 < (⟨a.toArray⟩ : ByteArray).size := by simp [ByteArray.size]; omega
        have g1 : ((a[0].toNat : Int) == 48) = false := beq_eq_false_iff_ne.2 (fun e => h2 (UInt8.toNat_inj.1 (show a[0].toNat = (48 : UInt8).toNat by have h48 : (48 : UInt8).toNat = 48 := rfl; omega)))
        have HWB := hide h3
        clear h2 h3
        go_wp2_with fail
        refine (allDigitsL_any a _).mono ?_
        rintro e w3 ⟨rfl, hb⟩
        have HB3 := hide (HB.out.trans (hb.mono HB.out.size))
        clear hb
        cases hA : allD a
        · have HN := hide (show R = false by rw [HP.out, HWB.out, hA]; simp)
          clear hA
          go_wp2
          go_ret
          exact ⟨ret_bool HN.out.symm, HB3.out⟩
        · have HN := hide (show R = allD b by rw [HP.out, HWB.out, hA]; simp)
          clear hA
          go_wp2_with fail
          refine (allDigitsL_any b _).mono ?_
          rintro e w4 ⟨rfl, hb⟩
          have HB4 := hide (HB3.out.trans (hb.mono HB3.out.size))
          clear hb
          generalize allD b = bb at *
          cases bb
          · go_wp2
            go_ret
            exact ⟨ret_bool HN.out.symm, HB4.out⟩
          · go_wp2
            go_ret
            exact ⟨ret_bool HN.out.symm, HB4.out⟩
    · have HC := hide (show cutV t = .tuple #[.string ⟨t.toArray⟩, .string ⟨#[]⟩, .bool false] by unfold cutV; rw [if_neg hk])
      have HP := hide (show R = wholeB t by rw [HT.out]; unfold pointB; rw [if_neg hk])
      clear hk
      rw [HC.out]
      clear HC HT
      obtain ⟨a, ha⟩ : ∃ a, a = t := ⟨_, rfl⟩
      rw [← ha] at HP ⊢
      clear ha
      rcases whole_parts a with ⟨h1, h2⟩ | ⟨h1, h2, h3⟩ | ⟨h1, h2, h3⟩
      · have h1I : ¬ 1 < (a.length : Int) := by omega
        have HWB := hide h2
        clear h2
        go_wp2_with fail
        refine (allDigitsL_any a _).mono ?_
        rintro e w3 ⟨rfl, hb⟩
        have HB3 := hide (HB.out.trans (hb.mono HB.out.size))
        clear hb
        cases hA : allD a
        · have HN := hide (show R = false by rw [HP.out, HWB.out, hA])
          clear hA
          go_wp2
          go_ret
          exact ⟨ret_bool HN.out.symm, HB3.out⟩
        · have HN := hide (show R = true by rw [HP.out, HWB.out, hA])
          clear hA
          go_wp2
          go_ret
          exact ⟨ret_bool HN.out.symm, HB3.out⟩
      · have h1I : 1 < (a.length : Int) := by omega
        have hg := get_dataV a 0 (by omega)
        have hsz : 0 < (⟨a.toArray⟩ : ByteArray).size := by simp [ByteArray.size]; omega
        have g1 : ((a[0].toNat : Int) == 48) = true := by rw [h2]; decide
        have HWB := hide h3
        clear h2 h3
        go_wp2_with fail
        refine (allDigitsL_any a _).mono ?_
        rintro e w3 ⟨rfl, hb⟩
        have HB3 := hide (HB.out.trans (hb.mono HB.out.size))
        clear hb
        cases hA : allD a
        · have HN := hide (show R = false by rw [HP.out, HWB.out])
          clear hA
          go_wp2
          go_ret
          exact ⟨ret_bool HN.out.symm, HB3.out⟩
        · have HN := hide (show R = false by rw [HP.out, HWB.out])
          clear hA
          go_wp2
          go_ret
          exact ⟨ret_bool HN.out.symm, HB3.out⟩
      · have h1I : 1 < (a.length : Int) := by omega
        have hg := get_dataV a 0 (by omega)
        have hsz : 0 < (⟨a.toArray⟩ : ByteArray).size := by simp [ByteArray.size]; omega
        have g1 : ((a[0].toNat : Int) == 48) = false := beq_eq_false_iff_ne.2 (fun e => h2 (UInt8.toNat_inj.1 (show a[0].toNat = (48 : UInt8).toNat by have h48 : (48 : UInt8).toNat = 48 := rfl; omega)))
        have HWB := hide h3
        clear h2 h3
        go_wp2_with fail
        refine (allDigitsL_any a _).mono ?_
        rintro e w3 ⟨rfl, hb⟩
        have HB3 := hide (HB.out.trans (hb.mono HB.out.size))
        clear hb
        cases hA : allD a
        · have HN := hide (show R = false by rw [HP.out, HWB.out, hA])
          clear hA
          go_wp2
          go_ret
          exact ⟨ret_bool HN.out.symm, HB3.out⟩
        · have HN := hide (show R = true by rw [HP.out, HWB.out, hA])
          clear hA
          go_wp2
          go_ret
          exact ⟨ret_bool HN.out.symm, HB3.out⟩
  · have h16I : 16 < (l.length : Int) := by omega
    have HN := hide (show R = false by rw [HR.out]; simp [numberB, h16])
    go_enter Tryz.func73, Tryz.ntmps73
    go_wp2
    go_ret
    exact ⟨ret_bool HN.out.symm, Below.refl _ _⟩
set_option maxHeartbeats 8000000 in
set_option maxRecDepth 100000 in
theorem specNumberRight_any (l : List UInt8) (w : World) (hl : l.length ≤ maxLen) :
    Calls Tryz.prog 38 #[.string ⟨l.toArray⟩] w fun e w' => e = .returned (.bool (numberB l)) ∧ w' = w := by
  unfold maxLen at hl
  obtain ⟨R, hR⟩ : ∃ R, R = numberB l := ⟨_, rfl⟩
  rw [← hR]
  have HR := hide hR
  clear hR
  by_cases h16 : l.length ≤ 16
  · have h16I : ¬ 16 < (l.length : Int) := by omega
    have HT0 := hide (show R = pointB (minusL l) by rw [HR.out]; simp [numberB, h16])
    cases hn : l == []
    · have hne : ¬ l = [] := by simpa using hn
      have hlen0 : 0 < l.length := List.length_pos_iff.2 hne
      have hg := get_dataV l 0 hlen0
      have hsz : 0 < (⟨l.toArray⟩ : ByteArray).size := by simp [ByteArray.size]; omega
      clear hne hn
      by_cases hm : l[0] = 45
      · have g0 : ((l[0].toNat : Int) == 45) = true := by rw [hm]; decide
        have HT0' := hide (show R = pointB (l.drop 1) by rw [HT0.out]; unfold minusL; rw [getD_at l 0 hlen0, hm]; rfl)
        clear hm
        go_enter Tryz.func38, Tryz.ntmps38
        go_upto_region 5 with fail
        rw [ext_dropV]
        obtain ⟨t, ht⟩ : ∃ t, t = l.drop 1 := ⟨_, rfl⟩
        have htl : Hid (t.length ≤ 16) := hide (by rw [ht, List.length_drop]; omega)
        rw [← ht] at HT0' ⊢
        have HT := HT0'
        clear ht HT0 hg hsz g0
        go_wp2_with fail
        have htl' := htl.out
        refine (dotAt_any t _ (by omega)).mono ?_
        rintro e wd ⟨rfl, rfl⟩
        have HKS := hide (dot_room t)
        have HKG := hide (Lib.indexByte_ge t 46)
        have hpt : pointB t = if 0 ≤ Lib.indexByte t 46 then allD (t.drop ((Lib.indexByte t 46).toNat + 1)) && wholeB (t.take (Lib.indexByte t 46).toNat) else wholeB t := rfl
        have HPT := hide (HT.out.trans hpt)
        clear hpt HT
        generalize Lib.indexByte t 46 = K at *
        by_cases hk : 0 ≤ K
        · rw [if_pos hk] at HPT
          obtain ⟨k, hkk⟩ : ∃ k : Nat, K = (k : Int) := ⟨K.toNat, by omega⟩
          subst hkk
          rw [Int.toNat_natCast] at HPT
          have hkr := HKS.out hk
          have hkl : k + 1 ≤ t.length := by omega
          clear HKS HKG
          by_cases hke : k + 1 = t.length
          · have hB : (((k : Int) + 1) == (t.length : Int)) = true := beq_iff_eq.2 (by omega)
            have HN := hide (show R = false by rw [HPT.out, List.drop_eq_nil_of_le (by omega)]; rfl)
            clear hke
            go_wp2
            go_ret
            exact ⟨ret_bool HN.out.symm, rfl⟩
          · have hB : (((k : Int) + 1) == (t.length : Int)) = false := beq_eq_false_iff_ne.2 (by omega)
            have hdl : 0 < (t.drop (k + 1)).length := by rw [List.length_drop]; omega
            have HAD := hide (allD_of (t.drop (k + 1)) hdl)
            have hbl : Hid ((t.drop (k + 1)).length ≤ maxLen) := hide (by unfold maxLen; rw [List.length_drop]; omega)
            clear hke hdl
            go_wp2_with fail
            rw [ext_dropV]
            refine (l06Digits_any (t.drop (k + 1)) _ hbl.out).mono ?_
            rintro e wd ⟨rfl, rfl⟩
            cases hdg : digL (t.drop (k + 1))
            · have HN := hide (show R = false by rw [HPT.out, HAD.out, hdg]; rfl)
              clear hdg
              go_wp2
              go_ret
              exact ⟨ret_bool HN.out.symm, rfl⟩
            · have HW := hide (show R = wholeB (t.take k) by rw [HPT.out, HAD.out, hdg]; rfl)
              clear hdg
              go_upto_region 10 with fail
              rw [ext_takeV]
              obtain ⟨a, ha⟩ : ∃ a, a = t.take k := ⟨_, rfl⟩
              have hal : a.length ≤ 16 := by rw [ha, List.length_take]; omega
              rw [← ha] at HW ⊢
              clear ha
              have ea := toList_of a
              cases hn : a == []
              · have hne : ¬ a = [] := by simpa using hn
                have hlen0 : 0 < a.length := List.length_pos_iff.2 hne
                have HAD := hide (allD_of a hlen0)
                clear hne
                go_wp2_with fail
                refine (l06Digits_any a _ (by unfold maxLen; omega)).mono ?_
                rintro e wd ⟨rfl, rfl⟩
                cases hdg : digL a
                · have HN := hide (show R = false by rw [HW.out]; unfold wholeB; rw [HAD.out, hdg]; rfl)
                  clear hdg
                  go_wp2
                  go_ret
                  exact ⟨ret_bool HN.out.symm, rfl⟩
                · have HA1 := hide (show allD a = true by rw [HAD.out, hdg])
                  clear hdg
                  rcases whole_parts a with ⟨h1, h2⟩ | ⟨h1, h2, h3⟩ | ⟨h1, h2, h3⟩
                  · have HN := hide (show R = true by rw [HW.out, h2, HA1.out])
                    have g1 : ((a.length : Int) == 1) = true := beq_iff_eq.2 (by omega)
                    clear h2
                    go_wp2
                    go_ret
                    exact ⟨ret_bool HN.out.symm, rfl⟩
                  · have HN := hide (show R = false by rw [HW.out, h3])
                    have g1 : ((a.length : Int) == 1) = false := beq_eq_false_iff_ne.2 (by omega)
                    have hg := get_dataV a 0 hlen0
                    have hsz : 0 < (⟨a.toArray⟩ : ByteArray).size := by simp [ByteArray.size]; omega
                    have g2 : ((a[0].toNat : Int) != 48) = false := by rw [h2]; decide
                    clear h2 h3
                    go_wp2
                    go_ret
                    exact ⟨ret_bool HN.out.symm, rfl⟩
                  · have HN := hide (show R = true by rw [HW.out, h3, HA1.out])
                    have g1 : ((a.length : Int) == 1) = false := beq_eq_false_iff_ne.2 (by omega)
                    have hg := get_dataV a 0 hlen0
                    have hsz : 0 < (⟨a.toArray⟩ : ByteArray).size := by simp [ByteArray.size]; omega
                    have g2 : ((a[0].toNat : Int) != 48) = true := bne_iff_ne.2 (fun e => h2 (UInt8.toNat_inj.1 (show a[0].toNat = (48 : UInt8).toNat by have h48 : (48 : UInt8).toNat = 48 := rfl; omega)))
                    clear h2 h3
                    go_wp2
                    go_ret
                    exact ⟨ret_bool HN.out.symm, rfl⟩
              · have HN := hide (show R = false by rw [HW.out, show a = [] by simpa using hn]; rfl)
                go_wp2
                go_ret
                exact ⟨ret_bool HN.out.symm, rfl⟩
        · rw [if_neg hk] at HPT
          have hkm : K = -1 := by have := HKG.out; omega
          subst hkm
          clear HKS HKG hk
          go_upto_region 10 with fail
          have et := toList_of t
          cases hn : t == []
          · have hne : ¬ t = [] := by simpa using hn
            have hlen0 : 0 < t.length := List.length_pos_iff.2 hne
            have HAD := hide (allD_of t hlen0)
            clear hne
            go_wp2_with fail
            refine (l06Digits_any t _ (by unfold maxLen; omega)).mono ?_
            rintro e wd ⟨rfl, rfl⟩
            cases hdg : digL t
            · have HN := hide (show R = false by rw [HPT.out]; unfold wholeB; rw [HAD.out, hdg]; rfl)
              clear hdg
              go_wp2
              go_ret
              exact ⟨ret_bool HN.out.symm, rfl⟩
            · have HA1 := hide (show allD t = true by rw [HAD.out, hdg])
              clear hdg
              rcases whole_parts t with ⟨h1, h2⟩ | ⟨h1, h2, h3⟩ | ⟨h1, h2, h3⟩
              · have HN := hide (show R = true by rw [HPT.out, h2, HA1.out])
                have g1 : ((t.length : Int) == 1) = true := beq_iff_eq.2 (by omega)
                clear h2
                go_wp2
                go_ret
                exact ⟨ret_bool HN.out.symm, rfl⟩
              · have HN := hide (show R = false by rw [HPT.out, h3])
                have g1 : ((t.length : Int) == 1) = false := beq_eq_false_iff_ne.2 (by omega)
                have hg := get_dataV t 0 hlen0
                have hsz : 0 < (⟨t.toArray⟩ : ByteArray).size := by simp [ByteArray.size]; omega
                have g2 : ((t[0].toNat : Int) != 48) = false := by rw [h2]; decide
                clear h2 h3
                go_wp2
                go_ret
                exact ⟨ret_bool HN.out.symm, rfl⟩
              · have HN := hide (show R = true by rw [HPT.out, h3, HA1.out])
                have g1 : ((t.length : Int) == 1) = false := beq_eq_false_iff_ne.2 (by omega)
                have hg := get_dataV t 0 hlen0
                have hsz : 0 < (⟨t.toArray⟩ : ByteArray).size := by simp [ByteArray.size]; omega
                have g2 : ((t[0].toNat : Int) != 48) = true := bne_iff_ne.2 (fun e => h2 (UInt8.toNat_inj.1 (show t[0].toNat = (48 : UInt8).toNat by have h48 : (48 : UInt8).toNat = 48 := rfl; omega)))
                clear h2 h3
                go_wp2
                go_ret
                exact ⟨ret_bool HN.out.symm, rfl⟩
          · have HN := hide (show R = false by rw [HPT.out, show t = [] by simpa using hn]; rfl)
            go_wp2
            go_ret
            exact ⟨ret_bool HN.out.symm, rfl⟩
      · have g0 : ((l[0].toNat : Int) == 45) = false := beq_eq_false_iff_ne.2 (fun e => hm (UInt8.toNat_inj.1 (show l[0].toNat = (45 : UInt8).toNat by have h45 : (45 : UInt8).toNat = 45 := rfl; omega)))
        have HT0' := hide (show R = pointB l by rw [HT0.out]; unfold minusL; rw [getD_at l 0 hlen0, if_neg (by simpa using hm)])
        clear hm
        go_enter Tryz.func38, Tryz.ntmps38
        go_upto_region 5 with fail
        have htl : Hid (l.length ≤ 16) := hide h16
        have HT := HT0'
        clear HT0
        go_wp2_with fail
        have htl' := htl.out
        refine (dotAt_any l _ (by omega)).mono ?_
        rintro e wd ⟨rfl, rfl⟩
        have HKS := hide (dot_room l)
        have HKG := hide (Lib.indexByte_ge l 46)
        have hpt : pointB l = if 0 ≤ Lib.indexByte l 46 then allD (l.drop ((Lib.indexByte l 46).toNat + 1)) && wholeB (l.take (Lib.indexByte l 46).toNat) else wholeB l := rfl
        have HPT := hide (HT.out.trans hpt)
        clear hpt HT
        generalize Lib.indexByte l 46 = K at *
        by_cases hk : 0 ≤ K
        · rw [if_pos hk] at HPT
          obtain ⟨k, hkk⟩ : ∃ k : Nat, K = (k : Int) := ⟨K.toNat, by omega⟩
          subst hkk
          rw [Int.toNat_natCast] at HPT
          have hkr := HKS.out hk
          have hkl : k + 1 ≤ l.length := by omega
          clear HKS HKG
          by_cases hke : k + 1 = l.length
          · have hB : (((k : Int) + 1) == (l.length : Int)) = true := beq_iff_eq.2 (by omega)
            have HN := hide (show R = false by rw [HPT.out, List.drop_eq_nil_of_le (by omega)]; rfl)
            clear hke
            go_wp2
            go_ret
            exact ⟨ret_bool HN.out.symm, rfl⟩
          · have hB : (((k : Int) + 1) == (l.length : Int)) = false := beq_eq_false_iff_ne.2 (by omega)
            have hdl : 0 < (l.drop (k + 1)).length := by rw [List.length_drop]; omega
            have HAD := hide (allD_of (l.drop (k + 1)) hdl)
            have hbl : Hid ((l.drop (k + 1)).length ≤ maxLen) := hide (by unfold maxLen; rw [List.length_drop]; omega)
            clear hke hdl
            go_wp2_with fail
            rw [ext_dropV]
            refine (l06Digits_any (l.drop (k + 1)) _ hbl.out).mono ?_
            rintro e wd ⟨rfl, rfl⟩
            cases hdg : digL (l.drop (k + 1))
            · have HN := hide (show R = false by rw [HPT.out, HAD.out, hdg]; rfl)
              clear hdg
              go_wp2
              go_ret
              exact ⟨ret_bool HN.out.symm, rfl⟩
            · have HW := hide (show R = wholeB (l.take k) by rw [HPT.out, HAD.out, hdg]; rfl)
              clear hdg
              go_upto_region 10 with fail
              rw [ext_takeV]
              obtain ⟨a, ha⟩ : ∃ a, a = l.take k := ⟨_, rfl⟩
              have hal : a.length ≤ 16 := by rw [ha, List.length_take]; omega
              rw [← ha] at HW ⊢
              clear ha
              have ea := toList_of a
              cases hn : a == []
              · have hne : ¬ a = [] := by simpa using hn
                have hlen0 : 0 < a.length := List.length_pos_iff.2 hne
                have HAD := hide (allD_of a hlen0)
                clear hne
                go_wp2_with fail
                refine (l06Digits_any a _ (by unfold maxLen; omega)).mono ?_
                rintro e wd ⟨rfl, rfl⟩
                cases hdg : digL a
                · have HN := hide (show R = false by rw [HW.out]; unfold wholeB; rw [HAD.out, hdg]; rfl)
                  clear hdg
                  go_wp2
                  go_ret
                  exact ⟨ret_bool HN.out.symm, rfl⟩
                · have HA1 := hide (show allD a = true by rw [HAD.out, hdg])
                  clear hdg
                  rcases whole_parts a with ⟨h1, h2⟩ | ⟨h1, h2, h3⟩ | ⟨h1, h2, h3⟩
                  · have HN := hide (show R = true by rw [HW.out, h2, HA1.out])
                    have g1 : ((a.length : Int) == 1) = true := beq_iff_eq.2 (by omega)
                    clear h2
                    go_wp2
                    go_ret
                    exact ⟨ret_bool HN.out.symm, rfl⟩
                  · have HN := hide (show R = false by rw [HW.out, h3])
                    have g1 : ((a.length : Int) == 1) = false := beq_eq_false_iff_ne.2 (by omega)
                    have hg := get_dataV a 0 hlen0
                    have hsz : 0 < (⟨a.toArray⟩ : ByteArray).size := by simp [ByteArray.size]; omega
                    have g2 : ((a[0].toNat : Int) != 48) = false := by rw [h2]; decide
                    clear h2 h3
                    go_wp2
                    go_ret
                    exact ⟨ret_bool HN.out.symm, rfl⟩
                  · have HN := hide (show R = true by rw [HW.out, h3, HA1.out])
                    have g1 : ((a.length : Int) == 1) = false := beq_eq_false_iff_ne.2 (by omega)
                    have hg := get_dataV a 0 hlen0
                    have hsz : 0 < (⟨a.toArray⟩ : ByteArray).size := by simp [ByteArray.size]; omega
                    have g2 : ((a[0].toNat : Int) != 48) = true := bne_iff_ne.2 (fun e => h2 (UInt8.toNat_inj.1 (show a[0].toNat = (48 : UInt8).toNat by have h48 : (48 : UInt8).toNat = 48 := rfl; omega)))
                    clear h2 h3
                    go_wp2
                    go_ret
                    exact ⟨ret_bool HN.out.symm, rfl⟩
              · have HN := hide (show R = false by rw [HW.out, show a = [] by simpa using hn]; rfl)
                go_wp2
                go_ret
                exact ⟨ret_bool HN.out.symm, rfl⟩
        · rw [if_neg hk] at HPT
          have hkm : K = -1 := by have := HKG.out; omega
          subst hkm
          clear HKS HKG hk
          go_upto_region 10 with fail
          have et := toList_of l
          cases hn : l == []
          · have hne : ¬ l = [] := by simpa using hn
            have hlen0 : 0 < l.length := List.length_pos_iff.2 hne
            have HAD := hide (allD_of l hlen0)
            clear hne
            go_wp2_with fail
            refine (l06Digits_any l _ (by unfold maxLen; omega)).mono ?_
            rintro e wd ⟨rfl, rfl⟩
            cases hdg : digL l
            · have HN := hide (show R = false by rw [HPT.out]; unfold wholeB; rw [HAD.out, hdg]; rfl)
              clear hdg
              go_wp2
              go_ret
              exact ⟨ret_bool HN.out.symm, rfl⟩
            · have HA1 := hide (show allD l = true by rw [HAD.out, hdg])
              clear hdg
              rcases whole_parts l with ⟨h1, h2⟩ | ⟨h1, h2, h3⟩ | ⟨h1, h2, h3⟩
              · have HN := hide (show R = true by rw [HPT.out, h2, HA1.out])
                have g1 : ((l.length : Int) == 1) = true := beq_iff_eq.2 (by omega)
                clear h2
                go_wp2
                go_ret
                exact ⟨ret_bool HN.out.symm, rfl⟩
              · have HN := hide (show R = false by rw [HPT.out, h3])
                have g1 : ((l.length : Int) == 1) = false := beq_eq_false_iff_ne.2 (by omega)
                have hg := get_dataV l 0 hlen0
                have hsz : 0 < (⟨l.toArray⟩ : ByteArray).size := by simp [ByteArray.size]; omega
                have g2 : ((l[0].toNat : Int) != 48) = false := by rw [h2]; decide
                clear h2 h3
                go_wp2
                go_ret
                exact ⟨ret_bool HN.out.symm, rfl⟩
              · have HN := hide (show R = true by rw [HPT.out, h3, HA1.out])
                have g1 : ((l.length : Int) == 1) = false := beq_eq_false_iff_ne.2 (by omega)
                have hg := get_dataV l 0 hlen0
                have hsz : 0 < (⟨l.toArray⟩ : ByteArray).size := by simp [ByteArray.size]; omega
                have g2 : ((l[0].toNat : Int) != 48) = true := bne_iff_ne.2 (fun e => h2 (UInt8.toNat_inj.1 (show l[0].toNat = (48 : UInt8).toNat by have h48 : (48 : UInt8).toNat = 48 := rfl; omega)))
                clear h2 h3
                go_wp2
                go_ret
                exact ⟨ret_bool HN.out.symm, rfl⟩
          · have HN := hide (show R = false by rw [HPT.out, show l = [] by simpa using hn]; rfl)
            go_wp2
            go_ret
            exact ⟨ret_bool HN.out.symm, rfl⟩
    · obtain rfl : l = [] := by simpa using hn
      have HN := hide (show R = false by rw [HR.out]; rfl)
      go_enter Tryz.func38, Tryz.ntmps38
      go_wp2_with fail
      refine (dotAt_any [] _ (by simp)).mono ?_
      rintro e wd ⟨rfl, rfl⟩
      rw [show Lib.indexByte [] 46 = -1 from rfl]
      have e0 := toList_of []
      go_wp2
      go_ret
      exact ⟨ret_bool HN.out.symm, rfl⟩
  · have h16I : 16 < (l.length : Int) := by omega
    have HN := hide (show R = false by rw [HR.out]; simp [numberB, h16])
    go_enter Tryz.func38, Tryz.ntmps38
    go_wp2
    go_ret
    exact ⟨ret_bool HN.out.symm, rfl⟩
end Go.Proofs.YtfjjbofnfigehaaGreatDoor
