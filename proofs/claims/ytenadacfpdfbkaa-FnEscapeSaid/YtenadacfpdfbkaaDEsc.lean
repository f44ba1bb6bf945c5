/- Draws: marks, texts, and what stands for them. -/
import Derived.Test.YtenadacfpdfbkaaDPick
import Derived.Test.YtenadacfpdfbkaaFEsc2
namespace Go.Proofs.Ytenadacfpdfbkaa
open Go.RowKit
theorem size_of_memE {xs : List ByteArray} {t : ByteArray} (h : t ∈ xs) (hx : ∀ x ∈ xs, x.size ≤ 20) : t.size ≤ 20 := hx t h

set_option maxHeartbeats 2000000 in
theorem l04Marks_any (v : Value) (bs : List Int) (g : Nat) (w : World) (h : Src v bs g w) (hl : bs.length ≤ 1048576) :
    Calls Try.prog 14 #[.pointer (some ⟨g, 0, none⟩)] w fun e w' => (∃ t : ByteArray, e = .returned (.string t) ∧ t.size ≤ 20) ∧ Src v bs g w' ∧ Kept [g] w w' := by
  obtain ⟨L, hL⟩ : ∃ L, L = w.alloc (.cells #[.string ⟨#[124, 94, 126, 92, 38]⟩, .string ⟨#[124, 94, 126, 92, 38]⟩, .string ⟨#[124, 94, 126, 92, 38]⟩, .string ⟨#[35, 42, 43, 33, 37]⟩] 9) := ⟨_, rfl⟩
  have hlb : Below w.heap.size w L := by rw [hL]; exact (Below.refl _ _).alloc (Nat.le_refl _) _
  have HSl := hide (h.below hlb)
  have HKl := hide ((Kept.refl [g] w).below hlb)
  have HLR : Hid (Row L w.heap.size 9 [.string ⟨#[124, 94, 126, 92, 38]⟩, .string ⟨#[124, 94, 126, 92, 38]⟩, .string ⟨#[124, 94, 126, 92, 38]⟩, .string ⟨#[35, 42, 43, 33, 37]⟩]) := by rw [hL]; exact row_new w _ 9
  have HGN := hide (show w.heap.size ≠ g by have := h.lt; omega)
  clear hlb h
  go_enter Try.func14, Try.ntmps14
  go_wp2_with fail
  rw [← hL]
  clear hL
  refine (pick_any v bs g w.heap.size 4 [⟨#[124, 94, 126, 92, 38]⟩, ⟨#[124, 94, 126, 92, 38]⟩, ⟨#[124, 94, 126, 92, 38]⟩, ⟨#[35, 42, 43, 33, 37]⟩] _ HSl.out hl HLR.out HGN.out (by simp) (by simp)).mono ?_
  rintro e w1 ⟨⟨t, rfl, htm⟩, hs1, hk1⟩
  have HSZ := hide (show t.size ≤ 20 from size_of_memE htm (by decide))
  have HS1 := hide hs1
  have HK1 := hide (HKl.out.trans hk1)
  clear hs1 hk1 htm
  go_wp2
  go_ret
  exact ⟨⟨t, rfl, HSZ.out⟩, HS1.out, HK1.out⟩

set_option maxHeartbeats 2000000 in
theorem l04Bad_any (v : Value) (bs : List Int) (g : Nat) (w : World) (h : Src v bs g w) (hl : bs.length ≤ 1048576) :
    Calls Try.prog 16 #[.pointer (some ⟨g, 0, none⟩)] w fun e w' => (∃ t : ByteArray, e = .returned (.string t) ∧ t.size ≤ 20) ∧ Src v bs g w' ∧ Kept [g] w w' := by
  obtain ⟨L, hL⟩ : ∃ L, L = w.alloc (.cells #[.string ⟨#[]⟩, .string ⟨#[124, 94, 126, 92]⟩, .string ⟨#[124, 94, 126, 92, 124]⟩, .string ⟨#[97, 94, 126, 92, 38]⟩, .string ⟨#[124, 94, 126, 92, 38, 120]⟩, .string ⟨#[124, 94, 126, 32, 38]⟩, .string ⟨#[124, 94, 45, 92, 38]⟩] 9) := ⟨_, rfl⟩
  have hlb : Below w.heap.size w L := by rw [hL]; exact (Below.refl _ _).alloc (Nat.le_refl _) _
  have HSl := hide (h.below hlb)
  have HKl := hide ((Kept.refl [g] w).below hlb)
  have HLR : Hid (Row L w.heap.size 9 [.string ⟨#[]⟩, .string ⟨#[124, 94, 126, 92]⟩, .string ⟨#[124, 94, 126, 92, 124]⟩, .string ⟨#[97, 94, 126, 92, 38]⟩, .string ⟨#[124, 94, 126, 92, 38, 120]⟩, .string ⟨#[124, 94, 126, 32, 38]⟩, .string ⟨#[124, 94, 45, 92, 38]⟩]) := by rw [hL]; exact row_new w _ 9
  have HGN := hide (show w.heap.size ≠ g by have := h.lt; omega)
  clear hlb h
  go_enter Try.func16, Try.ntmps16
  go_wp2_with fail
  rw [← hL]
  clear hL
  refine (pick_any v bs g w.heap.size 7 [⟨#[]⟩, ⟨#[124, 94, 126, 92]⟩, ⟨#[124, 94, 126, 92, 124]⟩, ⟨#[97, 94, 126, 92, 38]⟩, ⟨#[124, 94, 126, 92, 38, 120]⟩, ⟨#[124, 94, 126, 32, 38]⟩, ⟨#[124, 94, 45, 92, 38]⟩] _ HSl.out hl HLR.out HGN.out (by simp) (by simp)).mono ?_
  rintro e w1 ⟨⟨t, rfl, htm⟩, hs1, hk1⟩
  have HSZ := hide (show t.size ≤ 20 from size_of_memE htm (by decide))
  have HS1 := hide hs1
  have HK1 := hide (HKl.out.trans hk1)
  clear hs1 hk1 htm
  go_wp2
  go_ret
  exact ⟨⟨t, rfl, HSZ.out⟩, HS1.out, HK1.out⟩

set_option maxHeartbeats 2000000 in
theorem l04Sub_any (v : Value) (bs : List Int) (g : Nat) (w : World) (h : Src v bs g w) (hl : bs.length ≤ 1048576) :
    Calls Try.prog 18 #[.pointer (some ⟨g, 0, none⟩)] w fun e w' => (∃ t : ByteArray, e = .returned (.string t) ∧ t.size ≤ 20) ∧ Src v bs g w' ∧ Kept [g] w w' := by
  obtain ⟨L, hL⟩ : ∃ L, L = w.alloc (.cells #[.string ⟨#[97]⟩, .string ⟨#[83, 109, 105, 116, 104]⟩, .string ⟨#[49]⟩, .string ⟨#[120, 124, 121]⟩, .string ⟨#[38]⟩, .string ⟨#[92, 70, 92]⟩, .string ⟨#[94, 126]⟩, .string ⟨#[]⟩] 9) := ⟨_, rfl⟩
  have hlb : Below w.heap.size w L := by rw [hL]; exact (Below.refl _ _).alloc (Nat.le_refl _) _
  have HSl := hide (h.below hlb)
  have HKl := hide ((Kept.refl [g] w).below hlb)
  have HLR : Hid (Row L w.heap.size 9 [.string ⟨#[97]⟩, .string ⟨#[83, 109, 105, 116, 104]⟩, .string ⟨#[49]⟩, .string ⟨#[120, 124, 121]⟩, .string ⟨#[38]⟩, .string ⟨#[92, 70, 92]⟩, .string ⟨#[94, 126]⟩, .string ⟨#[]⟩]) := by rw [hL]; exact row_new w _ 9
  have HGN := hide (show w.heap.size ≠ g by have := h.lt; omega)
  clear hlb h
  go_enter Try.func18, Try.ntmps18
  go_wp2_with fail
  rw [← hL]
  clear hL
  refine (pick_any v bs g w.heap.size 8 [⟨#[97]⟩, ⟨#[83, 109, 105, 116, 104]⟩, ⟨#[49]⟩, ⟨#[120, 124, 121]⟩, ⟨#[38]⟩, ⟨#[92, 70, 92]⟩, ⟨#[94, 126]⟩, ⟨#[]⟩] _ HSl.out hl HLR.out HGN.out (by simp) (by simp)).mono ?_
  rintro e w1 ⟨⟨t, rfl, htm⟩, hs1, hk1⟩
  have HSZ := hide (show t.size ≤ 20 from size_of_memE htm (by decide))
  have HS1 := hide hs1
  have HK1 := hide (HKl.out.trans hk1)
  clear hs1 hk1 htm
  go_wp2
  go_ret
  exact ⟨⟨t, rfl, HSZ.out⟩, HS1.out, HK1.out⟩

set_option maxHeartbeats 2000000 in
theorem drawMarksRight_any (v : Value) (bs : List Int) (w : World) (h : ReadsB w v bs) (hl : bs.length ≤ 1048576) :
    Calls Try.prog 8 #[v] w fun e w' => (∃ t : ByteArray, e = .returned (.string t) ∧ t.size ≤ 20) ∧ Below w.heap.size w w' := by
  have HV := hide h
  clear h
  go_enter Try.func8, Try.ntmps8
  go_wp2_with fail
  refine (source_any v bs w HV.out hl).mono ?_
  rintro e w1 ⟨rfl, hs1, hb1⟩
  have HB1 := hide hb1
  have HS1 := hide hs1
  clear hs1 hb1
  obtain ⟨g, hg⟩ : ∃ g, g = w.heap.size := ⟨_, rfl⟩
  rw [← hg] at HS1 ⊢
  have HG := hide (show w.heap.size ≤ g by omega)
  clear hg
  go_wp2_with fail
  refine (one_any v bs g 2 _ HS1.out (by omega) hl).mono ?_
  rintro e w2 ⟨⟨b2, rfl⟩, hs2, hk2⟩
  have HS2 := hide hs2
  have HB2 := hide (hk2.toBelow HB1.out HB1.out.size (by have := HG.out; simp; omega))
  clear hs2 hk2
  cases b2
  · go_wp2_with fail
    refine (l04Marks_any v bs g _ HS2.out hl).mono ?_
    rintro e w3 ⟨⟨t, rfl, ht⟩, hs3, hk3⟩
    have HS3 := hide hs3
    have HB3 := hide (hk3.toBelow HB2.out HB2.out.size (by have := HG.out; simp; omega))
    clear hs3 hk3
    go_wp2
    go_ret
    exact ⟨⟨t, rfl, ht⟩, HB3.out⟩
  · go_wp2_with fail
    refine (l04Bad_any v bs g _ HS2.out hl).mono ?_
    rintro e w3 ⟨⟨t, rfl, ht⟩, hs3, hk3⟩
    have HS3 := hide hs3
    have HB3 := hide (hk3.toBelow HB2.out HB2.out.size (by have := HG.out; simp; omega))
    clear hs3 hk3
    go_wp2
    go_ret
    exact ⟨⟨t, rfl, ht⟩, HB3.out⟩

set_option maxHeartbeats 4000000 in
theorem drawEscapeOf_any (v : Value) (bs : List Int) (w : World) (h : ReadsB w v bs) (hl : bs.length ≤ 1048576) :
    Calls Try.prog 4 #[v] w fun e w' => (∃ m t : ByteArray, e = .returned (.tuple #[.string m, .string t]) ∧ m.size ≤ 20 ∧ t.size ≤ 40) ∧ Below w.heap.size w w' := by
  have HV := hide h
  clear h
  go_enter Try.func4, Try.ntmps4
  go_wp2_with fail
  refine (source_any v bs w HV.out hl).mono ?_
  rintro e w1 ⟨rfl, hs1, hb1⟩
  have HB1 := hide hb1
  have HS1 := hide hs1
  clear hs1 hb1
  obtain ⟨g, hg⟩ : ∃ g, g = w.heap.size := ⟨_, rfl⟩
  rw [← hg] at HS1 ⊢
  have HG := hide (show w.heap.size ≤ g by omega)
  clear hg
  go_wp2_with fail
  refine (l04Marks_any v bs g _ HS1.out hl).mono ?_
  rintro e w2 ⟨⟨m0, rfl, hm0⟩, hs2, hk2⟩
  have HS2 := hide hs2
  have HB2 := hide (hk2.toBelow HB1.out HB1.out.size (by have := HG.out; simp; omega))
  clear hs2 hk2
  go_wp2_with fail
  refine (one_any v bs g 8 _ HS2.out (by omega) hl).mono ?_
  rintro e w3 ⟨⟨b3, rfl⟩, hs3, hk3⟩
  have HS3 := hide hs3
  have HB3 := hide (hk3.toBelow HB2.out HB2.out.size (by have := HG.out; simp; omega))
  clear hs3 hk3
  cases b3
  · go_wp2_with fail
    refine (one_any v bs g 10 _ HS3.out (by omega) hl).mono ?_
    rintro e wx ⟨⟨bx, rfl⟩, hsx, hkx⟩
    have HSx := hide hsx
    have HBx := hide (hkx.toBelow HB3.out HB3.out.size (by have := HG.out; simp; omega))
    clear hsx hkx
    cases bx
    · go_wp2_with fail
      refine (l04Sub_any v bs g _ HSx.out hl).mono ?_
      rintro e wy ⟨⟨ta, rfl, hta⟩, hsy, hky⟩
      have HSy := hide hsy
      have HBy := hide (hky.toBelow HBx.out HBx.out.size (by have := HG.out; simp; omega))
      clear hsy hky
      go_wp2_with fail
      refine (l04Sub_any v bs g _ HSy.out hl).mono ?_
      rintro e wz ⟨⟨tb, rfl, htb⟩, hsz, hkz⟩
      have HSz := hide hsz
      have HBz := hide (hkz.toBelow HBy.out HBy.out.size (by have := HG.out; simp; omega))
      clear hsz hkz
      have HSZ := hide (show (ta ++ tb).size ≤ 40 by rw [ByteArray.size_append]; omega)
      go_wp2
      exact bodyPost_ret (v := .tuple #[.string m0, .string (ta ++ tb)]) (by simp [results, Try.results4, go_sem]) rfl ⟨⟨m0, ta ++ tb, rfl, hm0, HSZ.out⟩, HBz.out⟩
    · obtain ⟨L, hL⟩ : ∃ L, L = wx.alloc (.cells #[.string ⟨#[10]⟩, .string ⟨#[127]⟩] 9) := ⟨_, rfl⟩
      have hlb : Below wx.heap.size wx L := by rw [hL]; exact (Below.refl _ _).alloc (Nat.le_refl _) _
      have HSl := hide (HSx.out.below hlb)
      have HBl := hide (HBx.out.trans (hlb.mono HBx.out.size))
      have HLR : Hid (Row L wx.heap.size 9 [.string ⟨#[10]⟩, .string ⟨#[127]⟩]) := by rw [hL]; exact row_new wx _ 9
      have HGN := hide (show wx.heap.size ≠ g by have := HSx.out.lt; omega)
      clear hlb
      go_wp2_with fail
      rw [← hL]
      clear hL
      generalize wx.heap.size = LB at *
      refine (pick_any v bs g LB 2 [⟨#[10]⟩, ⟨#[127]⟩] _ HSl.out hl HLR.out HGN.out (by simp) (by simp)).mono ?_
      rintro e wy ⟨⟨t', rfl, htm⟩, _, hky⟩
      have HSZ := hide (show t'.size ≤ 20 from size_of_memE htm (by decide))
      have HBy := hide (hky.toBelow HBl.out HBl.out.size (by have := HG.out; simp; omega))
      clear hky htm
      go_wp2
      exact bodyPost_ret (v := .tuple #[.string m0, .string t']) (by simp [results, Try.results4, go_sem]) rfl ⟨⟨m0, t', rfl, hm0, by have := HSZ.out; omega⟩, HBy.out⟩
  · go_wp2_with fail
    refine (l04Bad_any v bs g _ HS3.out hl).mono ?_
    rintro e w4 ⟨⟨m1, rfl, hm1⟩, hs4, hk4⟩
    have HS4 := hide hs4
    have HB4 := hide (hk4.toBelow HB3.out HB3.out.size (by have := HG.out; simp; omega))
    clear hs4 hk4
    go_wp2_with fail
    refine (one_any v bs g 10 _ HS4.out (by omega) hl).mono ?_
    rintro e wx ⟨⟨bx, rfl⟩, hsx, hkx⟩
    have HSx := hide hsx
    have HBx := hide (hkx.toBelow HB4.out HB4.out.size (by have := HG.out; simp; omega))
    clear hsx hkx
    cases bx
    · go_wp2_with fail
      refine (l04Sub_any v bs g _ HSx.out hl).mono ?_
      rintro e wy ⟨⟨ta, rfl, hta⟩, hsy, hky⟩
      have HSy := hide hsy
      have HBy := hide (hky.toBelow HBx.out HBx.out.size (by have := HG.out; simp; omega))
      clear hsy hky
      go_wp2_with fail
      refine (l04Sub_any v bs g _ HSy.out hl).mono ?_
      rintro e wz ⟨⟨tb, rfl, htb⟩, hsz, hkz⟩
      have HSz := hide hsz
      have HBz := hide (hkz.toBelow HBy.out HBy.out.size (by have := HG.out; simp; omega))
      clear hsz hkz
      have HSZ := hide (show (ta ++ tb).size ≤ 40 by rw [ByteArray.size_append]; omega)
      go_wp2
      exact bodyPost_ret (v := .tuple #[.string m1, .string (ta ++ tb)]) (by simp [results, Try.results4, go_sem]) rfl ⟨⟨m1, ta ++ tb, rfl, hm1, HSZ.out⟩, HBz.out⟩
    · obtain ⟨L, hL⟩ : ∃ L, L = wx.alloc (.cells #[.string ⟨#[10]⟩, .string ⟨#[127]⟩] 9) := ⟨_, rfl⟩
      have hlb : Below wx.heap.size wx L := by rw [hL]; exact (Below.refl _ _).alloc (Nat.le_refl _) _
      have HSl := hide (HSx.out.below hlb)
      have HBl := hide (HBx.out.trans (hlb.mono HBx.out.size))
      have HLR : Hid (Row L wx.heap.size 9 [.string ⟨#[10]⟩, .string ⟨#[127]⟩]) := by rw [hL]; exact row_new wx _ 9
      have HGN := hide (show wx.heap.size ≠ g by have := HSx.out.lt; omega)
      clear hlb
      go_wp2_with fail
      rw [← hL]
      clear hL
      generalize wx.heap.size = LB at *
      refine (pick_any v bs g LB 2 [⟨#[10]⟩, ⟨#[127]⟩] _ HSl.out hl HLR.out HGN.out (by simp) (by simp)).mono ?_
      rintro e wy ⟨⟨t', rfl, htm⟩, _, hky⟩
      have HSZ := hide (show t'.size ≤ 20 from size_of_memE htm (by decide))
      have HBy := hide (hky.toBelow HBl.out HBl.out.size (by have := HG.out; simp; omega))
      clear hky htm
      go_wp2
      exact bodyPost_ret (v := .tuple #[.string m1, .string t']) (by simp [results, Try.results4, go_sem]) rfl ⟨⟨m1, t', rfl, hm1, by have := HSZ.out; omega⟩, HBy.out⟩
end Go.Proofs.Ytenadacfpdfbkaa
