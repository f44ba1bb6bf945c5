/- Draws: a time, a day, a number of stage 6. -/
import Derived.Test.YthlonjfjlkoojaaDoorDPick
import Derived.Deep.DeepCutAuto
namespace Go.Proofs.YthlonjfjlkoojaaDoor
open Go.RowKit
theorem size_of_memT {xs : List ByteArray} {t : ByteArray} (h : t ∈ xs) (hx : ∀ x ∈ xs, x.size ≤ 20) : t.size ≤ 20 := hx t h
set_option maxHeartbeats 8000000 in
set_option maxRecDepth 100000 in
theorem l06Time_any (v : Value) (bs : List Int) (g : Nat) (m : Int) (w : World) (h : Src v bs g w) (hl : bs.length ≤ 1048576) :
    Calls Tryd.prog 15 #[.pointer (some ⟨g, 0, none⟩), .int .i64 m] w fun e w' => (∃ t : ByteArray, e = .returned (.string t) ∧ t.size ≤ 100) ∧ Src v bs g w' ∧ Kept [g] w w' := by
  have HS0 := hide h
  have HB0 := hide (Kept.refl [g] w)
  clear h
  obtain ⟨w0, hw0⟩ : ∃ w0, w0 = w := ⟨_, rfl⟩
  go_enter Tryd.func15, Tryd.ntmps15
  rw [← hw0] at HS0 ⊢
  rw [← hw0] at HB0
  clear hw0
  obtain ⟨L1, hL1⟩ : ∃ L, L = w0.alloc (.cells #[.string ⟨#[50, 48, 50, 54, 48, 49, 48, 53]⟩, .string ⟨#[50, 48, 50, 54, 48, 49, 48, 53, 49, 50]⟩, .string ⟨#[50, 48, 50, 54, 48, 49, 48, 53, 49, 50, 51, 48]⟩, .string ⟨#[50, 48, 50, 54, 48, 49, 48, 53, 49, 50, 51, 48, 52, 53]⟩] 9) := ⟨_, rfl⟩
  have hlb : Below w0.heap.size w0 L1 := by rw [hL1]; exact (Below.refl _ _).alloc (Nat.le_refl _) _
  have HSl1 := hide (HS0.out.below hlb)
  have HBl1 := hide (HB0.out.below hlb)
  have HLR1 : Hid (Row L1 w0.heap.size 9 [.string ⟨#[50, 48, 50, 54, 48, 49, 48, 53]⟩, .string ⟨#[50, 48, 50, 54, 48, 49, 48, 53, 49, 50]⟩, .string ⟨#[50, 48, 50, 54, 48, 49, 48, 53, 49, 50, 51, 48]⟩, .string ⟨#[50, 48, 50, 54, 48, 49, 48, 53, 49, 50, 51, 48, 52, 53]⟩]) := by rw [hL1]; exact row_new w0 _ 9
  have HGN1 := hide (show w0.heap.size ≠ g by have h1 := HS0.out.lt; omega)
  clear hlb
  go_wp2_with fail
  rw [← hL1]
  clear hL1
  generalize w0.heap.size = LB1 at *
  refine (pick_any v bs g LB1 4 [⟨#[50, 48, 50, 54, 48, 49, 48, 53]⟩, ⟨#[50, 48, 50, 54, 48, 49, 48, 53, 49, 50]⟩, ⟨#[50, 48, 50, 54, 48, 49, 48, 53, 49, 50, 51, 48]⟩, ⟨#[50, 48, 50, 54, 48, 49, 48, 53, 49, 50, 51, 48, 52, 53]⟩] _ HSl1.out hl HLR1.out HGN1.out (by simp) (by simp)).mono ?_
  rintro e wp1 ⟨⟨t1, rfl, htm⟩, hsp, hkp⟩
  have HSZ1 := hide (show t1.size ≤ 20 from size_of_memT htm (by decide))
  have HSp1 := hide hsp
  have HBp1 := hide (HBl1.out.trans hkp)
  clear hsp hkp htm
  go_wp2_with fail
  refine (one_any v bs g 4 _ HSp1.out (by omega) hl).mono ?_
  rintro e wo2 ⟨⟨b1, rfl⟩, hso, hko⟩
  have HSo2 := hide hso
  have HBo2 := hide (HBp1.out.trans hko)
  clear hso hko
  cases b1
  · go_wp2_with fail
    refine (one_any v bs g 4 _ HSo2.out (by omega) hl).mono ?_
    rintro e wo3 ⟨⟨b2, rfl⟩, hso, hko⟩
    have HSo3 := hide hso
    have HBo3 := hide (HBo2.out.trans hko)
    clear hso hko
    have hpl := HSZ1.out
    by_cases hm3 : 3 ≤ m
    · cases b2
      · go_wp2
        go_ret
        exact ⟨⟨_, rfl, by have := HSZ1.out; omega⟩, HSo3.out, HBo3.out⟩
      · go_wp2
        go_ret
        exact ⟨⟨_, rfl, by have := HSZ1.out; rw [ByteArray.size_append]; have h5 : (⟨#[43, 48, 49, 48, 48]⟩ : ByteArray).size = 5 := rfl; omega⟩, HSo3.out, HBo3.out⟩
    · cases b2
      · go_wp2
        go_ret
        exact ⟨⟨_, rfl, by have := HSZ1.out; omega⟩, HSo3.out, HBo3.out⟩
      · go_wp2
        go_ret
        exact ⟨⟨_, rfl, by have := HSZ1.out; omega⟩, HSo3.out, HBo3.out⟩
  by_cases hm2 : 2 ≤ m
  · obtain ⟨L4, hL4⟩ : ∃ L, L = wo2.alloc (.cells #[.string ⟨#[49]⟩, .string ⟨#[49, 50, 51, 52]⟩] 9) := ⟨_, rfl⟩
    have hlb : Below wo2.heap.size wo2 L4 := by rw [hL4]; exact (Below.refl _ _).alloc (Nat.le_refl _) _
    have HSl4 := hide (HSo2.out.below hlb)
    have HBl4 := hide (HBo2.out.below hlb)
    have HLR4 : Hid (Row L4 wo2.heap.size 9 [.string ⟨#[49]⟩, .string ⟨#[49, 50, 51, 52]⟩]) := by rw [hL4]; exact row_new wo2 _ 9
    have HGN4 := hide (show wo2.heap.size ≠ g by have h1 := HSo2.out.lt; omega)
    clear hlb
    go_wp2_with fail
    rw [← hL4]
    clear hL4
    generalize wo2.heap.size = LB4 at *
    refine (pick_any v bs g LB4 2 [⟨#[49]⟩, ⟨#[49, 50, 51, 52]⟩] _ HSl4.out hl HLR4.out HGN4.out (by simp) (by simp)).mono ?_
    rintro e wp4 ⟨⟨t2, rfl, htm⟩, hsp, hkp⟩
    have HSZ4 := hide (show t2.size ≤ 20 from size_of_memT htm (by decide))
    have HSp4 := hide hsp
    have HBp4 := hide (HBl4.out.trans hkp)
    clear hsp hkp htm
    have HT3 := hide (show ((⟨#[50, 48, 50, 54, 48, 49, 48, 53, 49, 50, 51, 48, 52, 53, 46]⟩ : ByteArray) ++ t2).size ≤ 60 by rw [ByteArray.size_append]; have := HSZ4.out; have h5 : (⟨#[50, 48, 50, 54, 48, 49, 48, 53, 49, 50, 51, 48, 52, 53, 46]⟩ : ByteArray).size = 15 := rfl; omega)
    obtain ⟨t3, ht3⟩ : ∃ t3, t3 = ((⟨#[50, 48, 50, 54, 48, 49, 48, 53, 49, 50, 51, 48, 52, 53, 46]⟩ : ByteArray) ++ t2) := ⟨_, rfl⟩
    rw [← ht3] at HT3
    have hpl2 := HSZ4.out
    go_upto_region 4 with fail
    rw [← ht3]
    clear ht3
    go_wp2_with fail
    refine (one_any v bs g 4 _ HSp4.out (by omega) hl).mono ?_
    rintro e wo5 ⟨⟨b2, rfl⟩, hso, hko⟩
    have HSo5 := hide hso
    have HBo5 := hide (HBp4.out.trans hko)
    clear hso hko
    have hpl := HT3.out
    by_cases hm3 : 3 ≤ m
    · cases b2
      · go_wp2
        go_ret
        exact ⟨⟨_, rfl, by have := HT3.out; omega⟩, HSo5.out, HBo5.out⟩
      · go_wp2
        go_ret
        exact ⟨⟨_, rfl, by have := HT3.out; rw [ByteArray.size_append]; have h5 : (⟨#[43, 48, 49, 48, 48]⟩ : ByteArray).size = 5 := rfl; omega⟩, HSo5.out, HBo5.out⟩
    · cases b2
      · go_wp2
        go_ret
        exact ⟨⟨_, rfl, by have := HT3.out; omega⟩, HSo5.out, HBo5.out⟩
      · go_wp2
        go_ret
        exact ⟨⟨_, rfl, by have := HT3.out; omega⟩, HSo5.out, HBo5.out⟩
  · go_wp2_with fail
    refine (one_any v bs g 4 _ HSo2.out (by omega) hl).mono ?_
    rintro e wo6 ⟨⟨b2, rfl⟩, hso, hko⟩
    have HSo6 := hide hso
    have HBo6 := hide (HBo2.out.trans hko)
    clear hso hko
    have hpl := HSZ1.out
    by_cases hm3 : 3 ≤ m
    · exact absurd hm3 (by omega)
    · cases b2
      · go_wp2
        go_ret
        exact ⟨⟨_, rfl, by have := HSZ1.out; omega⟩, HSo6.out, HBo6.out⟩
      · go_wp2
        go_ret
        exact ⟨⟨_, rfl, by have := HSZ1.out; omega⟩, HSo6.out, HBo6.out⟩
set_option maxHeartbeats 4000000 in
set_option maxRecDepth 100000 in
theorem drawDayRight_any (v : Value) (bs : List Int) (w : World) (h : ReadsB w v bs) (hl : bs.length ≤ 1048576) :
    Calls Tryd.prog 5 #[v] w fun e w' => (∃ t : ByteArray, e = .returned (.string t) ∧ t.size ≤ 100) ∧ Below w.heap.size w w' := by
  have HV := hide h
  clear h
  go_enter Tryd.func5, Tryd.ntmps5
  go_wp2_with fail
  refine (source_any v bs w HV.out hl).mono ?_
  rintro e w1 ⟨rfl, hs1, hb1⟩
  have HB1 := hide hb1
  have HS1 := hide hs1
  clear hs1 hb1
  obtain ⟨g, hg⟩ : ∃ g, g = w.heap.size := ⟨_, rfl⟩
  rw [← hg] at HS1 ⊢
  have HG := hide (show w.heap.size ≤ g by omega)
  have HK1 := hide (Kept.refl [g] w1)
  clear hg
  obtain ⟨L7, hL7⟩ : ∃ L, L = w1.alloc (.cells #[.string ⟨#[50, 48, 50, 54, 48, 50, 50, 56]⟩, .string ⟨#[50, 48, 50, 54, 48, 50, 50, 57]⟩, .string ⟨#[50, 48, 50, 52, 48, 50, 50, 57]⟩, .string ⟨#[49, 57, 48, 48, 48, 50, 50, 57]⟩, .string ⟨#[50, 48, 48, 48, 48, 50, 50, 57]⟩, .string ⟨#[49, 55, 57, 57, 49, 50, 51, 49]⟩, .string ⟨#[49, 56, 48, 48, 48, 49, 48, 49]⟩, .string ⟨#[50, 48, 50, 54, 49, 51, 48, 49]⟩, .string ⟨#[50, 48, 50, 54, 48, 49, 48]⟩, .string ⟨#[50, 48, 50, 54, 48, 49, 48, 97]⟩] 9) := ⟨_, rfl⟩
  have hlb : Below w1.heap.size w1 L7 := by rw [hL7]; exact (Below.refl _ _).alloc (Nat.le_refl _) _
  have HSl7 := hide (HS1.out.below hlb)
  have HBl7 := hide (HK1.out.below hlb)
  have HLR7 : Hid (Row L7 w1.heap.size 9 [.string ⟨#[50, 48, 50, 54, 48, 50, 50, 56]⟩, .string ⟨#[50, 48, 50, 54, 48, 50, 50, 57]⟩, .string ⟨#[50, 48, 50, 52, 48, 50, 50, 57]⟩, .string ⟨#[49, 57, 48, 48, 48, 50, 50, 57]⟩, .string ⟨#[50, 48, 48, 48, 48, 50, 50, 57]⟩, .string ⟨#[49, 55, 57, 57, 49, 50, 51, 49]⟩, .string ⟨#[49, 56, 48, 48, 48, 49, 48, 49]⟩, .string ⟨#[50, 48, 50, 54, 49, 51, 48, 49]⟩, .string ⟨#[50, 48, 50, 54, 48, 49, 48]⟩, .string ⟨#[50, 48, 50, 54, 48, 49, 48, 97]⟩]) := by rw [hL7]; exact row_new w1 _ 9
  have HGN7 := hide (show w1.heap.size ≠ g by have h1 := HS1.out.lt; omega)
  clear hlb
  go_wp2_with fail
  rw [← hL7]
  clear hL7
  generalize w1.heap.size = LB7 at *
  refine (pick_any v bs g LB7 10 [⟨#[50, 48, 50, 54, 48, 50, 50, 56]⟩, ⟨#[50, 48, 50, 54, 48, 50, 50, 57]⟩, ⟨#[50, 48, 50, 52, 48, 50, 50, 57]⟩, ⟨#[49, 57, 48, 48, 48, 50, 50, 57]⟩, ⟨#[50, 48, 48, 48, 48, 50, 50, 57]⟩, ⟨#[49, 55, 57, 57, 49, 50, 51, 49]⟩, ⟨#[49, 56, 48, 48, 48, 49, 48, 49]⟩, ⟨#[50, 48, 50, 54, 49, 51, 48, 49]⟩, ⟨#[50, 48, 50, 54, 48, 49, 48]⟩, ⟨#[50, 48, 50, 54, 48, 49, 48, 97]⟩] _ HSl7.out hl HLR7.out HGN7.out (by simp) (by simp)).mono ?_
  rintro e wp7 ⟨⟨t1, rfl, htm⟩, hsp, hkp⟩
  have HSZ7 := hide (show t1.size ≤ 20 from size_of_memT htm (by decide))
  have HSp7 := hide hsp
  have HBp7 := hide (HBl7.out.trans hkp)
  clear hsp hkp htm
  have HBE := hide (HBp7.out.toBelow HB1.out HB1.out.size (by have := HG.out; simp; omega))
  go_wp2
  go_ret
  exact ⟨⟨_, rfl, by have := HSZ7.out; omega⟩, HBE.out⟩
set_option maxHeartbeats 4000000 in
set_option maxRecDepth 100000 in
theorem drawNumberRight_any (v : Value) (bs : List Int) (w : World) (h : ReadsB w v bs) (hl : bs.length ≤ 1048576) :
    Calls Tryd.prog 6 #[v] w fun e w' => (∃ t : ByteArray, e = .returned (.string t) ∧ t.size ≤ 100) ∧ Below w.heap.size w w' := by
  have HV := hide h
  clear h
  go_enter Tryd.func6, Tryd.ntmps6
  go_wp2_with fail
  refine (source_any v bs w HV.out hl).mono ?_
  rintro e w1 ⟨rfl, hs1, hb1⟩
  have HB1 := hide hb1
  have HS1 := hide hs1
  clear hs1 hb1
  obtain ⟨g, hg⟩ : ∃ g, g = w.heap.size := ⟨_, rfl⟩
  rw [← hg] at HS1 ⊢
  have HG := hide (show w.heap.size ≤ g by omega)
  have HK1 := hide (Kept.refl [g] w1)
  clear hg
  obtain ⟨L8, hL8⟩ : ∃ L, L = w1.alloc (.cells #[.string ⟨#[]⟩, .string ⟨#[48]⟩, .string ⟨#[45, 49]⟩, .string ⟨#[48, 49]⟩, .string ⟨#[49, 46, 53]⟩, .string ⟨#[49, 46]⟩, .string ⟨#[46, 53]⟩, .string ⟨#[45]⟩, .string ⟨#[49, 50, 51, 52, 53, 54, 55, 56, 57, 48, 49, 50, 51, 52, 53, 54]⟩, .string ⟨#[49, 50, 51, 52, 53, 54, 55, 56, 57, 48, 49, 50, 51, 52, 53, 54, 55]⟩, .string ⟨#[49, 97]⟩, .string ⟨#[48, 46, 48]⟩] 9) := ⟨_, rfl⟩
  have hlb : Below w1.heap.size w1 L8 := by rw [hL8]; exact (Below.refl _ _).alloc (Nat.le_refl _) _
  have HSl8 := hide (HS1.out.below hlb)
  have HBl8 := hide (HK1.out.below hlb)
  have HLR8 : Hid (Row L8 w1.heap.size 9 [.string ⟨#[]⟩, .string ⟨#[48]⟩, .string ⟨#[45, 49]⟩, .string ⟨#[48, 49]⟩, .string ⟨#[49, 46, 53]⟩, .string ⟨#[49, 46]⟩, .string ⟨#[46, 53]⟩, .string ⟨#[45]⟩, .string ⟨#[49, 50, 51, 52, 53, 54, 55, 56, 57, 48, 49, 50, 51, 52, 53, 54]⟩, .string ⟨#[49, 50, 51, 52, 53, 54, 55, 56, 57, 48, 49, 50, 51, 52, 53, 54, 55]⟩, .string ⟨#[49, 97]⟩, .string ⟨#[48, 46, 48]⟩]) := by rw [hL8]; exact row_new w1 _ 9
  have HGN8 := hide (show w1.heap.size ≠ g by have h1 := HS1.out.lt; omega)
  clear hlb
  go_wp2_with fail
  rw [← hL8]
  clear hL8
  generalize w1.heap.size = LB8 at *
  refine (pick_any v bs g LB8 12 [⟨#[]⟩, ⟨#[48]⟩, ⟨#[45, 49]⟩, ⟨#[48, 49]⟩, ⟨#[49, 46, 53]⟩, ⟨#[49, 46]⟩, ⟨#[46, 53]⟩, ⟨#[45]⟩, ⟨#[49, 50, 51, 52, 53, 54, 55, 56, 57, 48, 49, 50, 51, 52, 53, 54]⟩, ⟨#[49, 50, 51, 52, 53, 54, 55, 56, 57, 48, 49, 50, 51, 52, 53, 54, 55]⟩, ⟨#[49, 97]⟩, ⟨#[48, 46, 48]⟩] _ HSl8.out hl HLR8.out HGN8.out (by simp) (by simp)).mono ?_
  rintro e wp8 ⟨⟨t1, rfl, htm⟩, hsp, hkp⟩
  have HSZ8 := hide (show t1.size ≤ 20 from size_of_memT htm (by decide))
  have HSp8 := hide hsp
  have HBp8 := hide (HBl8.out.trans hkp)
  clear hsp hkp htm
  have HBE := hide (HBp8.out.toBelow HB1.out HB1.out.size (by have := HG.out; simp; omega))
  go_wp2
  go_ret
  exact ⟨⟨_, rfl, by have := HSZ8.out; omega⟩, HBE.out⟩
set_option maxHeartbeats 8000000 in
set_option maxRecDepth 100000 in
theorem drawTimeRight_any (v : Value) (bs : List Int) (w : World) (h : ReadsB w v bs) (hl : bs.length ≤ 1048576) :
    Calls Tryd.prog 4 #[v] w fun e w' => (∃ (r : Int) (t : ByteArray), e = .returned (.tuple #[.int .i64 r, .string t]) ∧ 0 ≤ r ∧ r < 5 ∧ t.size ≤ 200) ∧ Below w.heap.size w w' := by
  have HV := hide h
  clear h
  go_enter Tryd.func4, Tryd.ntmps4
  go_wp2_with fail
  refine (source_any v bs w HV.out hl).mono ?_
  rintro e w1 ⟨rfl, hs1, hb1⟩
  have HB1 := hide hb1
  have HS1 := hide hs1
  clear hs1 hb1
  obtain ⟨g, hg⟩ : ∃ g, g = w.heap.size := ⟨_, rfl⟩
  rw [← hg] at HS1 ⊢
  have HG := hide (show w.heap.size ≤ g by omega)
  have HK1 := hide (Kept.refl [g] w1)
  clear hg
  go_wp2_with fail
  refine (n_any v bs g 5 _ HS1.out (by omega) hl).mono ?_
  rintro e w2 ⟨⟨r, rfl, hr0, hr1⟩, hs2, hk2⟩
  have HS2 := hide hs2
  have HK2 := hide (HK1.out.trans hk2)
  have HR := hide (show 0 ≤ r ∧ r < 5 by omega)
  clear hs2 hk2 hr0 hr1
  go_wp2_with fail
  refine (n_any v bs g 3 _ HS2.out (by omega) hl).mono ?_
  rintro e w3 ⟨⟨q, rfl, hq0, hq1⟩, hs3, hk3⟩
  have HS3 := hide hs3
  have HK3 := hide (HK2.out.trans hk3)
  have hq3 : q < 3 := by omega
  clear hs3 hk3 hq1
  go_wp2_with fail
  refine (l06Time_any v bs g _ _ HS3.out hl).mono ?_
  rintro e w4 ⟨⟨t, rfl, ht⟩, hs4, hk4⟩
  have HS4 := hide hs4
  have HK4 := hide (HK3.out.trans hk4)
  have HT := hide ht
  clear hs4 hk4 hq0 hq3 ht
  go_wp2_with fail
  refine (n_any v bs g 4 _ HS4.out (by omega) hl).mono ?_
  rintro e w5 ⟨⟨rr, rfl, hr0, hr1⟩, hs5, hk5⟩
  have HS5 := hide hs5
  have HK5 := hide (HK4.out.trans hk5)
  clear hs5 hk5 hr0 hr1
  by_cases ha : rr = 0
  · have t0 : (rr == (0 : Int)) = true := by simp [ha]
    clear ha
    go_wp2_with fail
    refine (spoil_any v bs g t _ HS5.out hl (by have := HT.out; omega)).mono ?_
    rintro e w6 ⟨⟨t', rfl, hts⟩, _, hk6⟩
    have HBE := hide ((HK5.out.trans hk6).toBelow HB1.out HB1.out.size (by have := HG.out; simp; omega))
    have HTS := hide (show t'.size ≤ 200 by have := HT.out; omega)
    clear hk6 hts
    go_wp2
    exact bodyPost_ret (v := .tuple #[.int .i64 r, .string t']) (by simp [results, Tryd.results4, go_sem]) rfl ⟨⟨r, t', rfl, HR.out.1, HR.out.2, HTS.out⟩, HBE.out⟩
  have t0 : (rr == (0 : Int)) = false := by simpa using ha
  by_cases hb : rr = 1
  · have t1' : (rr == (1 : Int)) = true := by simp [hb]
    clear ha hb
    obtain ⟨L9, hL9⟩ : ∃ L, L = w5.alloc (.cells #[.string ⟨#[]⟩, .string ⟨#[50, 48, 50, 54, 48, 49, 48, 53, 50, 52]⟩, .string ⟨#[50, 48, 50, 54, 48, 49, 48, 53, 50, 51, 54, 48]⟩, .string ⟨#[50, 48, 50, 54, 48, 49, 48, 53, 49, 50, 51, 48, 52, 53, 46]⟩, .string ⟨#[50, 48, 50, 54, 48, 49, 48, 53, 46, 49]⟩, .string ⟨#[50, 48, 50, 54, 48, 49, 48, 53, 43, 48, 49, 48, 48]⟩, .string ⟨#[50, 48, 50, 54, 48, 49, 48, 53, 43, 49, 53, 48, 48]⟩, .string ⟨#[50, 48, 50, 54, 48, 49, 48, 53, 49]⟩] 9) := ⟨_, rfl⟩
    have hlb : Below w5.heap.size w5 L9 := by rw [hL9]; exact (Below.refl _ _).alloc (Nat.le_refl _) _
    have HSl9 := hide (HS5.out.below hlb)
    have HBl9 := hide (HK5.out.below hlb)
    have HLR9 : Hid (Row L9 w5.heap.size 9 [.string ⟨#[]⟩, .string ⟨#[50, 48, 50, 54, 48, 49, 48, 53, 50, 52]⟩, .string ⟨#[50, 48, 50, 54, 48, 49, 48, 53, 50, 51, 54, 48]⟩, .string ⟨#[50, 48, 50, 54, 48, 49, 48, 53, 49, 50, 51, 48, 52, 53, 46]⟩, .string ⟨#[50, 48, 50, 54, 48, 49, 48, 53, 46, 49]⟩, .string ⟨#[50, 48, 50, 54, 48, 49, 48, 53, 43, 48, 49, 48, 48]⟩, .string ⟨#[50, 48, 50, 54, 48, 49, 48, 53, 43, 49, 53, 48, 48]⟩, .string ⟨#[50, 48, 50, 54, 48, 49, 48, 53, 49]⟩]) := by rw [hL9]; exact row_new w5 _ 9
    have HGN9 := hide (show w5.heap.size ≠ g by have h1 := HS5.out.lt; omega)
    clear hlb
    go_wp2_with fail
    rw [← hL9]
    clear hL9
    generalize w5.heap.size = LB9 at *
    refine (pick_any v bs g LB9 8 [⟨#[]⟩, ⟨#[50, 48, 50, 54, 48, 49, 48, 53, 50, 52]⟩, ⟨#[50, 48, 50, 54, 48, 49, 48, 53, 50, 51, 54, 48]⟩, ⟨#[50, 48, 50, 54, 48, 49, 48, 53, 49, 50, 51, 48, 52, 53, 46]⟩, ⟨#[50, 48, 50, 54, 48, 49, 48, 53, 46, 49]⟩, ⟨#[50, 48, 50, 54, 48, 49, 48, 53, 43, 48, 49, 48, 48]⟩, ⟨#[50, 48, 50, 54, 48, 49, 48, 53, 43, 49, 53, 48, 48]⟩, ⟨#[50, 48, 50, 54, 48, 49, 48, 53, 49]⟩] _ HSl9.out hl HLR9.out HGN9.out (by simp) (by simp)).mono ?_
    rintro e wp9 ⟨⟨t1, rfl, htm⟩, hsp, hkp⟩
    have HSZ9 := hide (show t1.size ≤ 20 from size_of_memT htm (by decide))
    have HSp9 := hide hsp
    have HBp9 := hide (HBl9.out.trans hkp)
    clear hsp hkp htm
    have HBE := hide (HBp9.out.toBelow HB1.out HB1.out.size (by have := HG.out; simp; omega))
    go_wp2
    exact bodyPost_ret (v := .tuple #[.int .i64 r, .string t1]) (by simp [results, Tryd.results4, go_sem]) rfl ⟨⟨r, t1, rfl, HR.out.1, HR.out.2, by have := HSZ9.out; omega⟩, HBE.out⟩
  have t1' : (rr == (1 : Int)) = false := by simpa using hb
  clear ha hb
  have HBE := hide (HK5.out.toBelow HB1.out HB1.out.size (by have := HG.out; simp; omega))
  go_wp2
  exact bodyPost_ret (v := .tuple #[.int .i64 r, .string t]) (by simp [results, Tryd.results4, go_sem]) rfl ⟨⟨r, t, rfl, HR.out.1, HR.out.2, by have := HT.out; omega⟩, HBE.out⟩
end Go.Proofs.YthlonjfjlkoojaaDoor
