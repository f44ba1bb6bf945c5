/- The model's RepFits. -/
import Derived.Test.YtfjjbofnfigehaaGreatDoorXG18FPartR
import Derived.Test.YtfjjbofnfigehaaGreatDoorXG14FRightS
import Derived.Test.YtfjjbofnfigehaaGreatDoorXG6VKind
import Derived.Test.YtfjjbofnfigehaaGreatDoorXG16Shelf
import Derived.BigQuiet
import Derived.OrdersHeld
import Derived.Deep.RegionHeld3
namespace Go.Proofs.YtfjjbofnfigehaaGreatDoor
open Go.RowKit
set_option maxHeartbeats 2000000 in
set_option maxRecDepth 100000 in
theorem l06Fits_no (v k : Int) (u : Value) (x : List (List ByteArray)) (w : World) (hn : x.length ≤ 1048576) (h1 : (k == 1) = false) (h2 : (k == 2) = false) (h3 : (k == 3) = false) (h4 : (k == 4) = false) (h5 : (k == 5) = false) (h6 : (k == 6) = false) (h7 : (k == 7) = false) (h8 : (k == 8) = false) (h9 : (k == 9) = false) (hr : RRep 0 w u x) :
    Calls Tryz.prog 18 #[.int .i64 v, .int .i64 k, .agg #[u]] w fun e w' => e = .returned (.bool false) ∧ Below w.heap.size w w' := by
  have HB0 := hideF ((Below.refl w.heap.size w).alloc (Nat.le_refl _) (.cells #[u] 29))
  have HRX := hideF (hr.below ((Below.refl w.heap.size w).alloc (Nat.le_refl _) (.cells #[u] 29)))
  obtain ⟨p, cap, rfl⟩ := hr.isSlice
  have r0 := repCell w (.slice p x.length cap)
  clear hr
  go_enter Tryz.func18, Tryz.ntmps18
  go_wp2_with fail
  refine (l06One_any _ x 0 _ hn HRX.out).mono ?_
  rintro e w1 ⟨rfl, hb1⟩
  have HB1 := hideF (HB0.out.trans (hb1.mono HB0.out.size))
  clear hb1 r0
  go_wp2
  go_ret
  exact ⟨rfl, HB1.out⟩
theorem l06Fits_any (v k : Int) (u : Value) (x : List (List ByteArray)) (w : World) (hn : x.length ≤ 1048576) (hr : RRep 0 w u x) :
    Calls Tryz.prog 18 #[.int .i64 v, .int .i64 k, .agg #[u]] w fun e w' => e = .returned (.bool (fitsL v k x)) ∧ Below w.heap.size w w' := by
  by_cases h1 : k = 1; · subst h1; exact l06Fits_1 v u x w hn hr
  by_cases h2 : k = 2; · subst h2; exact l06Fits_2 v u x w hn hr
  by_cases h3 : k = 3; · subst h3; exact l06Fits_3 v u x w hn hr
  by_cases h4 : k = 4; · subst h4; exact l06Fits_4 v u x w hn hr
  by_cases h5 : k = 5; · subst h5; exact l06Fits_5 v u x w hn hr
  by_cases h6 : k = 6; · subst h6; exact l06Fits_6 v u x w hn hr
  by_cases h7 : k = 7; · subst h7; exact l06Fits_7 v u x w hn hr
  by_cases h8 : k = 8; · subst h8; exact l06Fits_8 v u x w hn hr
  by_cases h9 : k = 9; · subst h9; exact l06Fits_9 v u x w hn hr
  have e : fitsL v k x = false := fits_none v k x fun j hj => by omega
  rw [e]
  exact l06Fits_no v k u x w hn (by simpa using h1) (by simpa using h2) (by simpa using h3) (by simpa using h4) (by simpa using h5) (by simpa using h6) (by simpa using h7) (by simpa using h8) (by simpa using h9) hr
set_option maxHeartbeats 2000000 in
set_option maxRecDepth 100000 in
theorem specRepFits_any (v k : Int) (u : Value) (x : List (List ByteArray)) (w : World) (hn : x.length ≤ 1048576) (hm : ∀ i (h : i < x.length), x[i].length ≤ 1048576) (hr : RRep 0 w u x) :
    Calls Tryz.prog 6 #[.int .i64 v, .int .i64 k, .agg #[u]] w fun e w' => e = .returned (.bool (repFitsB v k x)) ∧ Below w.heap.size w w' := by
  have HB0 := hideF ((Below.refl w.heap.size w).alloc (Nat.le_refl _) (.cells #[u] 29))
  have HRX := hideF (hr.below ((Below.refl w.heap.size w).alloc (Nat.le_refl _) (.cells #[u] 29)))
  obtain ⟨p, cap, rfl⟩ := hr.isSlice
  have r0 := repCell w (.slice p x.length cap)
  obtain ⟨R, hR⟩ : ∃ R, R = repFitsB v k x := ⟨_, rfl⟩
  rw [← hR]
  have HR := hideF hR
  clear hR hr
  go_enter Tryz.func6, Tryz.ntmps6
  go_wp2_with fail
  refine (l06Version_any v _).mono ?_
  rintro e w1 ⟨rfl, rfl⟩
  cases hv : verB v
  · have HN := hideF (show R = false by rw [HR.out, repFitsB, hv]; rfl)
    go_wp2
    go_ret
    exact ⟨ret_boolF HN.out.symm, HB0.out⟩
  · go_wp2_with fail
    refine (specRep_any _ x 0 _ hn hm HRX.out).mono ?_
    rintro e w2 ⟨rfl, hb2⟩
    have HB2 := hideF (HB0.out.trans (hb2.mono HB0.out.size))
    have HRY := hideF (HRX.out.below hb2)
    have r2 : w2.cell? ⟨w.heap.size, 0, none⟩ = some (.slice p x.length cap) := by rw [hb2.cell (p := ⟨w.heap.size, 0, none⟩) (by simp [World.size_alloc])]; exact r0
    clear hb2 r0
    cases hrb : repB x
    · have HN := hideF (show R = false by rw [HR.out, repFitsB, hrb]; simp)
      go_wp2
      go_ret
      exact ⟨ret_boolF HN.out.symm, HB2.out⟩
    · have HN := hideF (show R = fitsL v k x by rw [HR.out, repFitsB, hrb, hv]; rfl)
      clear HR hrb hv
      go_wp2_with fail
      refine (l06Fits_any v k _ x _ hn HRY.out).mono ?_
      rintro e w3 ⟨rfl, hb3⟩
      have HB3 := hideF (HB2.out.trans (hb3.mono HB2.out.size))
      clear hb3
      go_wp2
      go_ret
      exact ⟨ret_boolF HN.out.symm, HB3.out⟩
end Go.Proofs.YtfjjbofnfigehaaGreatDoor
/- The program's kindName and kindFits. -/
namespace Go.Proofs.YtfjjbofnfigehaaGreatDoor
open Go.RowKit
theorem soleN {n : Nat} {x : List (List ByteArray)} {B : Nat} {e : Ending} {w : World} (h0 : 0 < n) (h : SoleRes n x B e w) :
    (soleL n x = false ∧ ∃ v, e = .returned (.tuple #[v, .bool false])) ∨
    (soleL n x = true ∧ ∃ g off cap, e = .returned (.tuple #[.slice (some ⟨g, off, none⟩) n cap, .bool true]) ∧ n ≤ cap ∧ cap ≤ 2 ^ 63 - 1 ∧ g < w.heap.size ∧
      ∀ i (hi : i < x.length), w.cell? ⟨g, off + i, none⟩ = some (.string (headT x[i]))) := by
  unfold SoleRes at h
  split at h
  · rename_i hs
    obtain ⟨v, rfl, p, cap, rfl, h1, h2, h4⟩ := h
    have hx : x.length = n := by
      have := hs
      simp [soleL] at this
      exact this.1
    have hl : (textsOf x).length = n := by simp [textsOf, hx]
    obtain ⟨g, off, rfl, hg, _, hc⟩ := h4 (by omega)
    refine .inr ⟨hs, g, off, cap, by rw [hl], by omega, h2, hg, fun i hi => ?_⟩
    obtain ⟨u, hu, rfl, _⟩ := hc i (by omega)
    rw [hu]
    simp [textsOf]
  · rename_i hs
    obtain ⟨v, rfl⟩ := h
    exact .inl ⟨by simpa using hs, v, rfl⟩
theorem join3 (a b : ByteArray) : (⟨((([a, ⟨#[95]⟩, b] : List ByteArray).map (·.data.toList)).flatten).toArray⟩ : ByteArray) = a ++ ⟨#[95]⟩ ++ b := by
  apply ByteArray.ext
  simp [ByteArray.data_append]
set_option maxHeartbeats 2000000 in
theorem kindName_any (a b : ByteArray) (w : World) (ha : a.size ≤ 100) (hb : b.size ≤ 100) :
    Calls Tryz.prog 79 #[.string a, .string b] w fun e w' => e = .returned (.string (a ++ ⟨#[95]⟩ ++ b)) ∧ Below w.heap.size w w' := by
  have HJ := hideF (join3 a b)
  have hl : ((([a, ⟨#[95]⟩, b] : List ByteArray).map (·.data.toList)).flatten).length ≤ 1000 := by
    have e1 : a.data.toList.length = a.size := by simp
    have e2 : b.data.toList.length = b.size := by simp
    simp only [List.map_cons, List.map_nil, List.flatten_cons, List.flatten_nil, List.length_append, List.length_nil]
    rw [e1, e2]
    show a.size + (1 + (b.size + 0)) ≤ 1000
    omega
  have HT := hideF (together_any w.heap.size 3 [a, ⟨#[95]⟩, b] (w.alloc (.cells #[.string a, .string ⟨#[95]⟩, .string b] 9)) (row_new w [.string a, .string ⟨#[95]⟩, .string b] _) (by simp) (by simp) hl)
  rw [HJ.out] at HT
  have HB := hideF ((Below.refl w.heap.size w).alloc (Nat.le_refl _) (.cells #[.string a, .string ⟨#[95]⟩, .string b] 9))
  clear hl
  go_enter Tryz.func79, Tryz.ntmps79
  go_wp2_with fail
  refine HT.out.mono ?_
  rintro e w2 ⟨rfl, hb2⟩
  have HB2 := hideF (HB.out.trans (hb2.mono HB.out.size))
  clear hb2
  go_wp2
  go_ret
  exact ⟨rfl, HB2.out⟩
set_option maxHeartbeats 4000000 in
set_option maxRecDepth 100000 in
theorem kindFits_2 (v : Int) (u : Value) (x : List (List ByteArray)) (w : World) (hvb : (v == 1) = true) (hn : x.length ≤ 1048576) (hr : RRep 0 w u x) :
    Calls Tryz.prog 55 #[.int .i64 v, .agg #[u]] w fun e w' => e = .returned (.bool (kindL 2 x)) ∧ Below w.heap.size w w' := by
  have HB0 := hideF ((Below.refl w.heap.size w).alloc (Nat.le_refl _) (.cells #[u] 29))
  have HRX := hideF (hr.below ((Below.refl w.heap.size w).alloc (Nat.le_refl _) (.cells #[u] 29)))
  obtain ⟨p, cap, rfl⟩ := hr.isSlice
  have r0 := repCell w (.slice p x.length cap)
  obtain ⟨R, hR⟩ : ∃ R, R = kindL 2 x := ⟨_, rfl⟩
  rw [← hR]
  have HR := hideF hR
  clear hR hr
  go_enter Tryz.func55, Tryz.ntmps55
  go_wp2_with fail
  refine (soleTexts_any _ x 2 0 _ hn HRX.out).mono ?_
  rintro e w1 ⟨hres, hb1⟩
  have HB1 := hideF (HB0.out.trans (hb1.mono HB0.out.size))
  clear hb1
  rcases soleN (by decide) hres with ⟨hs, v1, rfl⟩ | ⟨hs, g, off, c1, rfl, hc0, hc1, hg, hcl⟩
  · clear hres
    have HN := hideF (show R = false by rw [HR.out, kindL, hs]; rfl)
    go_wp2
    go_ret
    exact ⟨ret_boolF HN.out.symm, HB1.out⟩
  · clear hres
    have hx : x.length = 2 := by simp [soleL] at hs; exact hs.1
    have HKL := hideF (show R = kindT 2 (textsOf x) by rw [HR.out, kindL, hs, Bool.true_and])
    have i0 : 0 < x.length := by omega
    have i1 : 1 < x.length := by omega
    have e0 := hcl 0 i0
    have e1 := hcl 1 i1
    rw [Nat.add_zero] at e0
    have T0 := hideF (texts_get x 0 i0)
    have T1 := hideF (texts_get x 1 i1)
    clear hcl hx hs
    generalize headT (x[0]'i0) = A0 at *
    generalize headT (x[1]'i1) = A1 at *
    have HE := hideF (show R = kindA 2 A0 A1 ⟨#[]⟩ by rw [HKL.out, kindT, T0.out, T1.out]; rfl)
    clear HKL HR T0 T1
    by_cases h3 : (A0.size : Int) = 3
    · have h3b : ((A0.size : Int) != 3) = false := by simp [h3]
      have HS3 := hideF (show decide (A0.size = 3) = true by simp; omega)
      clear h3
      go_wp2_with fail
      refine (allCapitals_any A0 _).mono ?_
      rintro e w2 ⟨rfl, hb2⟩
      have HB2 := hideF (HB1.out.trans (hb2.mono HB1.out.size))
      have f0 : w2.cell? ⟨g, off, none⟩ = some (.string A0) := by rw [hb2.cell (p := ⟨g, off, none⟩) hg]; exact e0
      have f1 : w2.cell? ⟨g, off + 1, none⟩ = some (.string A1) := by rw [hb2.cell (p := ⟨g, off + 1, none⟩) hg]; exact e1
      have hg2 : g < w2.heap.size := Nat.lt_of_lt_of_le hg hb2.size
      clear hb2 e0 e1
      cases hcap : capA A0
      · have HN := hideF (show R = false by rw [HE.out, kindA, hcap]; simp)
        go_wp2
        go_ret
        exact ⟨ret_boolF HN.out.symm, HB2.out⟩
      · go_wp2_with fail
        refine (nameRight3_any A1 _).mono ?_
        rintro e w3 ⟨rfl, hb3⟩
        have HB3 := hideF (HB2.out.trans (hb3.mono HB2.out.size))
        clear hb3 f0 f1
        cases hnam : name3 A1
        · have HN := hideF (show R = false by rw [HE.out, kindA, hnam]; simp)
          go_wp2
          go_ret
          exact ⟨ret_boolF HN.out.symm, HB3.out⟩
        · have HN := hideF (show R = true by rw [HE.out, kindA, hcap, hnam, HS3.out]; simp)
          clear HE hcap hnam HS3
          go_wp2
          go_quiet (fail)
          go_wp2
          go_ret
          exact ⟨ret_boolF HN.out.symm, ⟨HB3.out.os, HB3.out.tape, HB3.out.output, HB3.out.size, HB3.out.block⟩⟩
    · have h3b : ((A0.size : Int) != 3) = true := by simpa using h3
      have HN := hideF (show R = false by
        have hs : ¬ A0.size = 3 := by omega
        rw [HE.out, kindA]
        simp [hs])
      go_wp2
      go_ret
      exact ⟨ret_boolF HN.out.symm, HB1.out⟩
-- @3
set_option maxHeartbeats 4000000 in
set_option maxRecDepth 100000 in
theorem kindFits_3 (v : Int) (u : Value) (x : List (List ByteArray)) (w : World) (hvb : (v == 1) = false) (hn : x.length ≤ 1048576) (hr : RRep 0 w u x) :
    Calls Tryz.prog 55 #[.int .i64 v, .agg #[u]] w fun e w' => e = .returned (.bool (kindL 3 x)) ∧ Below w.heap.size w w' := by
  have HB0 := hideF ((Below.refl w.heap.size w).alloc (Nat.le_refl _) (.cells #[u] 29))
  have HRX := hideF (hr.below ((Below.refl w.heap.size w).alloc (Nat.le_refl _) (.cells #[u] 29)))
  obtain ⟨p, cap, rfl⟩ := hr.isSlice
  have r0 := repCell w (.slice p x.length cap)
  obtain ⟨R, hR⟩ : ∃ R, R = kindL 3 x := ⟨_, rfl⟩
  rw [← hR]
  have HR := hideF hR
  clear hR hr
  go_enter Tryz.func55, Tryz.ntmps55
  go_wp2_with fail
  refine (soleTexts_any _ x 3 0 _ hn HRX.out).mono ?_
  rintro e w1 ⟨hres, hb1⟩
  have HB1 := hideF (HB0.out.trans (hb1.mono HB0.out.size))
  clear hb1
  rcases soleN (by decide) hres with ⟨hs, v1, rfl⟩ | ⟨hs, g, off, c1, rfl, hc0, hc1, hg, hcl⟩
  · clear hres
    have HN := hideF (show R = false by rw [HR.out, kindL, hs]; rfl)
    go_wp2
    go_ret
    exact ⟨ret_boolF HN.out.symm, HB1.out⟩
  · clear hres
    have hx : x.length = 3 := by simp [soleL] at hs; exact hs.1
    have HKL := hideF (show R = kindT 3 (textsOf x) by rw [HR.out, kindL, hs, Bool.true_and])
    have i0 : 0 < x.length := by omega
    have i1 : 1 < x.length := by omega
    have i2 : 2 < x.length := by omega
    have e0 := hcl 0 i0
    have e1 := hcl 1 i1
    have e2 := hcl 2 i2
    rw [Nat.add_zero] at e0
    have T0 := hideF (texts_get x 0 i0)
    have T1 := hideF (texts_get x 1 i1)
    have T2 := hideF (texts_get x 2 i2)
    clear hcl hx hs
    generalize headT (x[0]'i0) = A0 at *
    generalize headT (x[1]'i1) = A1 at *
    generalize headT (x[2]'i2) = A2 at *
    have HE := hideF (show R = kindA 3 A0 A1 A2 by rw [HKL.out, kindT, T0.out, T1.out, T2.out]; rfl)
    clear HKL HR T0 T1 T2
    by_cases h3 : (A0.size : Int) = 3
    · have h3b : ((A0.size : Int) != 3) = false := by simp [h3]
      have HS3 := hideF (show decide (A0.size = 3) = true by simp; omega)
      clear h3
      go_wp2_with fail
      refine (allCapitals_any A0 _).mono ?_
      rintro e w2 ⟨rfl, hb2⟩
      have HB2 := hideF (HB1.out.trans (hb2.mono HB1.out.size))
      have f0 : w2.cell? ⟨g, off, none⟩ = some (.string A0) := by rw [hb2.cell (p := ⟨g, off, none⟩) hg]; exact e0
      have f1 : w2.cell? ⟨g, off + 1, none⟩ = some (.string A1) := by rw [hb2.cell (p := ⟨g, off + 1, none⟩) hg]; exact e1
      have f2 : w2.cell? ⟨g, off + 2, none⟩ = some (.string A2) := by rw [hb2.cell (p := ⟨g, off + 2, none⟩) hg]; exact e2
      have hg2 : g < w2.heap.size := Nat.lt_of_lt_of_le hg hb2.size
      clear hb2 e0 e1 e2
      cases hcap : capA A0
      · have HN := hideF (show R = false by rw [HE.out, kindA, hcap]; simp)
        go_wp2
        go_ret
        exact ⟨ret_boolF HN.out.symm, HB2.out⟩
      · go_wp2_with fail
        refine (nameRight3_any A1 _).mono ?_
        rintro e w3 ⟨rfl, hb3⟩
        have HB3 := hideF (HB2.out.trans (hb3.mono HB2.out.size))
        have k0 : w3.cell? ⟨g, off, none⟩ = some (.string A0) := by rw [hb3.cell (p := ⟨g, off, none⟩) hg2]; exact f0
        have k1 : w3.cell? ⟨g, off + 1, none⟩ = some (.string A1) := by rw [hb3.cell (p := ⟨g, off + 1, none⟩) hg2]; exact f1
        have k2 : w3.cell? ⟨g, off + 2, none⟩ = some (.string A2) := by rw [hb3.cell (p := ⟨g, off + 2, none⟩) hg2]; exact f2
        have hg3 : g < w3.heap.size := Nat.lt_of_lt_of_le hg2 hb3.size
        have HSS := hideF (show ∀ z, Below w3.heap.size w3 z → (fun z : World => z.cell? ⟨g, off, none⟩ = some (.string A0) ∧ z.cell? ⟨g, off + 1, none⟩ = some (.string A1) ∧ z.cell? ⟨g, off + 2, none⟩ = some (.string A2)) z from fun z h => ⟨(h.cell (p := ⟨g, off, none⟩) hg3).trans k0, (h.cell (p := ⟨g, off + 1, none⟩) hg3).trans k1, (h.cell (p := ⟨g, off + 2, none⟩) hg3).trans k2⟩)
        clear hb3 f0 f1 f2 k0 k1 k2
        cases hnam : name3 A1
        · have HN := hideF (show R = false by rw [HE.out, kindA, hnam]; simp)
          go_wp2
          go_ret
          exact ⟨ret_boolF HN.out.symm, HB3.out⟩
        · have HN := hideF (show R = (A2.toList == (A0 ++ ⟨#[95]⟩ ++ A1).toList) by rw [HE.out, kindA, hcap, hnam, HS3.out]; simp)
          have hs0 : A0.size ≤ 100 := by have := of_decide_eq_true HS3.out; omega
          have hs1 : A1.size ≤ 100 := by have := name3_le hnam; omega
          have HKN := hideF (fun X => kindName_any A0 A1 X hs0 hs1)
          clear HE hcap hnam HS3 hs0 hs1
          generalize (A0 ++ ⟨#[95]⟩ ++ A1) = AB at *
          go_wp2_with fail
          refine wp_region_held (S := fun z : World => z.cell? ⟨g, off, none⟩ = some (.string A0) ∧ z.cell? ⟨g, off + 1, none⟩ = some (.string A1) ∧ z.cell? ⟨g, off + 2, none⟩ = some (.string A2)) (by kernel_rfl) ?_
          have HS := hideF (show (fun z : World => z.cell? ⟨g, off, none⟩ = some (.string A0) ∧ z.cell? ⟨g, off + 1, none⟩ = some (.string A1) ∧ z.cell? ⟨g, off + 2, none⟩ = some (.string A2)) { w3 with drawn := w3.drawn + 1 } from HSS.out _ (Below.refl _ _).drew)
          refine wpAnyH_take (i := 0) (oi := _) (v := .int .i64 v) rfl (by kernel_rfl) (by kernel_rfl) (by kernel_rfl) (fun _ _ _ h => h) (Or.inl ⟨by rfl, by intro w hSw; go_split_ands; go_simp⟩) HS.out ?_
          simp only [Act.put, List.getElem_toArray, List.getElem_cons_zero, List.setIfInBounds_toArray, List.set_cons_zero, List.set_cons_succ]
          refine wpAnyH_take (i := 1) (oi := _) (v := .bool false) rfl (by kernel_rfl) (by kernel_rfl) (by kernel_rfl) (fun _ _ _ h => h) (Or.inl ⟨by rfl, by intro w hSw; go_split_ands; go_simp⟩) HS.out ?_
          simp only [Act.put, List.getElem_toArray, List.getElem_cons_zero, List.getElem_cons_succ, List.setIfInBounds_toArray, List.set_cons_zero, List.set_cons_succ]
          refine wpAnyH_take (i := 2) (oi := _) (v := .bool false) rfl (by kernel_rfl) (by kernel_rfl) (by kernel_rfl) (fun _ _ _ h => h) (Or.inl ⟨by rfl, by intro w hSw; go_split_ands; go_simp⟩) HS.out ?_
          simp only [Act.put, List.getElem_toArray, List.getElem_cons_zero, List.getElem_cons_succ, List.setIfInBounds_toArray, List.set_cons_zero, List.set_cons_succ]
          refine wpAnyH_take (i := 3) (oi := _) (v := .slice (some ⟨g, off, none⟩) 3 c1) rfl (by kernel_rfl) (by kernel_rfl) (by kernel_rfl) (fun _ _ _ h => h) (Or.inl ⟨by rfl, by intro w hSw; go_split_ands; go_simp⟩) HS.out ?_
          simp only [Act.put, List.getElem_toArray, List.getElem_cons_zero, List.getElem_cons_succ, List.setIfInBounds_toArray, List.set_cons_zero, List.set_cons_succ]
          refine wpAnyH_take (i := 4) (oi := _) (v := .pointer (some ⟨g, off + 2, none⟩)) rfl (by kernel_rfl) (by kernel_rfl) (by kernel_rfl) (fun _ _ _ h => h) (Or.inl ⟨by rfl, by intro w hSw; go_split_ands; go_simp⟩) HS.out ?_
          simp only [Act.put, List.getElem_toArray, List.getElem_cons_zero, List.getElem_cons_succ, List.setIfInBounds_toArray, List.set_cons_zero, List.set_cons_succ]
          refine wpAnyH_take (i := 5) (oi := _) (v := .string A2) rfl (by kernel_rfl) (by kernel_rfl) (by kernel_rfl) (fun _ _ _ h => h) (Or.inl ⟨by rfl, by intro w hSw; go_split_ands; go_simp⟩) HS.out ?_
          simp only [Act.put, List.getElem_toArray, List.getElem_cons_zero, List.getElem_cons_succ, List.setIfInBounds_toArray, List.set_cons_zero, List.set_cons_succ]
          refine wpAnyH_take (i := 6) (oi := _) (v := .slice (some ⟨g, off, none⟩) 3 c1) rfl (by kernel_rfl) (by kernel_rfl) (by kernel_rfl) (fun _ _ _ h => h) (Or.inl ⟨by rfl, by intro w hSw; go_split_ands; go_simp⟩) HS.out ?_
          simp only [Act.put, List.getElem_toArray, List.getElem_cons_zero, List.getElem_cons_succ, List.setIfInBounds_toArray, List.set_cons_zero, List.set_cons_succ]
          refine wpAnyH_take (i := 7) (oi := _) (v := .pointer (some ⟨g, off, none⟩)) rfl (by kernel_rfl) (by kernel_rfl) (by kernel_rfl) (fun _ _ _ h => h) (Or.inl ⟨by rfl, by intro w hSw; go_split_ands; go_simp⟩) HS.out ?_
          simp only [Act.put, List.getElem_toArray, List.getElem_cons_zero, List.getElem_cons_succ, List.setIfInBounds_toArray, List.set_cons_zero, List.set_cons_succ]
          refine wpAnyH_take (i := 8) (oi := _) (v := .string A0) rfl (by kernel_rfl) (by kernel_rfl) (by kernel_rfl) (fun _ _ _ h => h) (Or.inl ⟨by rfl, by intro w hSw; go_split_ands; go_simp⟩) HS.out ?_
          simp only [Act.put, List.getElem_toArray, List.getElem_cons_zero, List.getElem_cons_succ, List.setIfInBounds_toArray, List.set_cons_zero, List.set_cons_succ]
          refine wpAnyH_take (i := 9) (oi := _) (v := .slice (some ⟨g, off, none⟩) 3 c1) rfl (by kernel_rfl) (by kernel_rfl) (by kernel_rfl) (fun _ _ _ h => h) (Or.inl ⟨by rfl, by intro w hSw; go_split_ands; go_simp⟩) HS.out ?_
          simp only [Act.put, List.getElem_toArray, List.getElem_cons_zero, List.getElem_cons_succ, List.setIfInBounds_toArray, List.set_cons_zero, List.set_cons_succ]
          refine wpAnyH_take (i := 10) (oi := _) (v := .pointer (some ⟨g, off + 1, none⟩)) rfl (by kernel_rfl) (by kernel_rfl) (by kernel_rfl) (fun _ _ _ h => h) (Or.inl ⟨by rfl, by intro w hSw; go_split_ands; go_simp⟩) HS.out ?_
          simp only [Act.put, List.getElem_toArray, List.getElem_cons_zero, List.getElem_cons_succ, List.setIfInBounds_toArray, List.set_cons_zero, List.set_cons_succ]
          refine wpAnyH_take (i := 11) (oi := _) (v := .string A1) rfl (by kernel_rfl) (by kernel_rfl) (by kernel_rfl) (fun _ _ _ h => h) (Or.inl ⟨by rfl, by intro w hSw; go_split_ands; go_simp⟩) HS.out ?_
          simp only [Act.put, List.getElem_toArray, List.getElem_cons_zero, List.getElem_cons_succ, List.setIfInBounds_toArray, List.set_cons_zero, List.set_cons_succ]
          refine wpAnyH_ready (rs := [12]) (by kernel_rfl) (by simp) ?_
          refine AllReadyH.cons (o := _) rfl (fun K hK => ?_) AllReadyH.nil
          go_simp
          refine (HKN.out _).mono ?_
          rintro e w4 ⟨rfl, hb4⟩
          have HB4 := hideF (below_drew hb4)
          clear hb4
          have HS4 := hideF (show (fun z : World => z.cell? ⟨g, off, none⟩ = some (.string A0) ∧ z.cell? ⟨g, off + 1, none⟩ = some (.string A1) ∧ z.cell? ⟨g, off + 2, none⟩ = some (.string A2)) w4 from HSS.out _ HB4.out)
          refine hK.out _ _ HS4.out (fun _ => ?_)
          clear hK K HS
          have HS := HS4
          clear HS4
          cases heq : (A2.toList == AB.toList)
          · refine wpAnyH_take (i := 13) (oi := _) (v := .bool false) rfl (by kernel_rfl) (by kernel_rfl) (by kernel_rfl) (fun _ _ _ h => h) (Or.inl ⟨by rfl, by intro w hSw; go_split_ands; go_simp⟩) HS.out ?_
            simp only [Act.put, List.getElem_toArray, List.getElem_cons_zero, List.getElem_cons_succ, List.setIfInBounds_toArray, List.set_cons_zero, List.set_cons_succ]
            refine wpAnyH_take (i := 14) (oi := _) (v := .bool false) rfl (by kernel_rfl) (by kernel_rfl) (by kernel_rfl) (fun _ _ _ h => h) (Or.inl ⟨by rfl, by intro w hSw; go_split_ands; go_simp⟩) HS.out ?_
            simp only [Act.put, List.getElem_toArray, List.getElem_cons_zero, List.getElem_cons_succ, List.setIfInBounds_toArray, List.set_cons_zero, List.set_cons_succ]
            refine wpAnyH_take (i := 15) (oi := _) (v := .bool false) rfl (by kernel_rfl) (by kernel_rfl) (by kernel_rfl) (fun _ _ _ h => h) (Or.inl ⟨by rfl, by intro w hSw; go_split_ands; go_simp⟩) HS.out ?_
            simp only [Act.put, List.getElem_toArray, List.getElem_cons_zero, List.getElem_cons_succ, List.setIfInBounds_toArray, List.set_cons_zero, List.set_cons_succ]
            refine wpAnyH_done (by kernel_rfl) ?_ _
            clear HSS HS
            go_wp2
            go_ret
            exact ⟨ret_boolF (by rw [HN.out, heq]), HB3.out.trans (HB4.out.mono HB3.out.size)⟩
          · refine wpAnyH_take (i := 13) (oi := _) (v := .bool true) rfl (by kernel_rfl) (by kernel_rfl) (by kernel_rfl) (fun _ _ _ h => h) (Or.inl ⟨by rfl, by intro w hSw; go_split_ands; go_simp⟩) HS.out ?_
            simp only [Act.put, List.getElem_toArray, List.getElem_cons_zero, List.getElem_cons_succ, List.setIfInBounds_toArray, List.set_cons_zero, List.set_cons_succ]
            refine wpAnyH_take (i := 14) (oi := _) (v := .bool true) rfl (by kernel_rfl) (by kernel_rfl) (by kernel_rfl) (fun _ _ _ h => h) (Or.inl ⟨by rfl, by intro w hSw; go_split_ands; go_simp⟩) HS.out ?_
            simp only [Act.put, List.getElem_toArray, List.getElem_cons_zero, List.getElem_cons_succ, List.setIfInBounds_toArray, List.set_cons_zero, List.set_cons_succ]
            refine wpAnyH_take (i := 15) (oi := _) (v := .bool true) rfl (by kernel_rfl) (by kernel_rfl) (by kernel_rfl) (fun _ _ _ h => h) (Or.inl ⟨by rfl, by intro w hSw; go_split_ands; go_simp⟩) HS.out ?_
            simp only [Act.put, List.getElem_toArray, List.getElem_cons_zero, List.getElem_cons_succ, List.setIfInBounds_toArray, List.set_cons_zero, List.set_cons_succ]
            refine wpAnyH_done (by kernel_rfl) ?_ _
            clear HSS HS
            go_wp2
            go_ret
            exact ⟨ret_boolF (by rw [HN.out, heq]), HB3.out.trans (HB4.out.mono HB3.out.size)⟩
    · have h3b : ((A0.size : Int) != 3) = true := by simpa using h3
      have HN := hideF (show R = false by
        have hs : ¬ A0.size = 3 := by omega
        rw [HE.out, kindA]
        simp [hs])
      go_wp2
      go_ret
      exact ⟨ret_boolF HN.out.symm, HB1.out⟩
theorem kindFits_any (v : Int) (u : Value) (x : List (List ByteArray)) (w : World) (hn : x.length ≤ 1048576) (hr : RRep 0 w u x) :
    Calls Tryz.prog 55 #[.int .i64 v, .agg #[u]] w fun e w' => e = .returned (.bool (kindL (if v = 1 then 2 else 3) x)) ∧ Below w.heap.size w w' := by
  by_cases h : v = 1
  · rw [if_pos h]; exact kindFits_2 v u x w (by simpa using h) hn hr
  · rw [if_neg h]; exact kindFits_3 v u x w (by simpa using h) hn hr
end Go.Proofs.YtfjjbofnfigehaaGreatDoor
