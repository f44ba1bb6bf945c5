/- The model's l06Fits and RepFits. -/
import Derived.Test.YtfjjbofnfigehaaGreatDoorXG10VKind
import Derived.Test.YtfjjbofnfigehaaGreatDoorXG2VRules
import Derived.Test.YtfjjbofnfigehaaGreatDoorXG16VTimeI
import Derived.Test.YtfjjbofnfigehaaGreatDoorXG13VDayI
import Derived.Test.YtfjjbofnfigehaaGreatDoorXG17FText
import Derived.Test.YtfjjbofnfigehaaGreatDoorXG9VCap
import Derived.Test.YtfjjbofnfigehaaGreatDoorXG0Mem
import Derived.BigQuiet
import Derived.OrdersHeld
namespace Go.Proofs.YtfjjbofnfigehaaGreatDoor
open Go.RowKit
def codeB (v : Int) (t : ByteArray) : Bool := decide (1 ≤ t.size) && decide (t.size ≤ 3) && capA t && (decide (1 < v) || (!(t.toList == [65]) && !(t.toList == [78])))
/-- What a right Rep of the kind k fits. -/
def fitsL (v k : Int) (x : List (List ByteArray)) : Bool :=
  if k = 1 then soleL 1 x
  else if k = 2 then soleL 1 x && numberB (oneT x).data.toList
  else if k = 3 then soleL 1 x && dayB (oneT x).data.toList
  else if k = 4 then soleL 1 x && timeB v (oneT x).data.toList
  else if k = 5 then soleL 1 x && codeB v (oneT x)
  else if k = 6 then compsL 5 1 x
  else if k = 7 then (if v = 1 then compsL 3 0 x else compsL 8 10 x)
  else if k = 8 then (if v = 1 then kindL 2 x else kindL 3 x)
  else if k = 9 then (if v < 3 then compsL 6 0 x else compsL 9 0 x)
  else false
theorem txt (t : ByteArray) : (⟨t.data.toList.toArray⟩ : ByteArray) = t := rfl
theorem oneT_size {B : Nat} {w : World} {u : Value} {x : List (List ByteArray)} (h : RRep B w u x) : (oneT x).size ≤ maxLen := by
  unfold oneT
  split
  · rename_i hs
    cases x with
    | nil => simp [soleL] at hs
    | cons c r => exact textsOf_size h _ (by simp [textsOf])
  · exact Nat.zero_le _

set_option maxHeartbeats 2000000 in
set_option maxRecDepth 100000 in
theorem l06Fits_1 (v : Int) (u : Value) (x : List (List ByteArray)) (w : World) (hn : x.length ≤ 1048576) (hr : RRep 0 w u x) :
    Calls Tryz.prog 18 #[.int .i64 v, .int .i64 1, .agg #[u]] w fun e w' => e = .returned (.bool (fitsL v 1 x)) ∧ Below w.heap.size w w' := by
  have HB0 := hideF ((Below.refl w.heap.size w).alloc (Nat.le_refl _) (.cells #[u] 29))
  have HRX := hideF (hr.below ((Below.refl w.heap.size w).alloc (Nat.le_refl _) (.cells #[u] 29)))
  have HSZ := hideF (oneT_size hr)
  obtain ⟨p, cap, rfl⟩ := hr.isSlice
  have r0 := repCell w (.slice p x.length cap)
  obtain ⟨R, hR⟩ : ∃ R, R = fitsL v 1 x := ⟨_, rfl⟩
  rw [← hR]
  have HR := hideF hR
  clear hR hr
  go_enter Tryz.func18, Tryz.ntmps18
  go_wp2_with fail
  refine (l06One_any _ x 0 _ hn HRX.out).mono ?_
  rintro e w1 ⟨rfl, hb1⟩
  have HB1 := hideF (HB0.out.trans (hb1.mono HB0.out.size))
  have HRY := hideF (HRX.out.below hb1)
  have r1 : w1.cell? ⟨w.heap.size, 0, none⟩ = some (.slice p x.length cap) := by rw [hb1.cell (p := ⟨w.heap.size, 0, none⟩) (by simp [World.size_alloc])]; exact r0
  clear hb1 r0
  have HN := hideF (show R = soleL 1 x by rw [HR.out]; rfl)
  generalize soleL 1 x = b at *
  go_wp2
  go_ret
  exact ⟨ret_boolF HN.out.symm, HB1.out⟩

set_option maxHeartbeats 2000000 in
set_option maxRecDepth 100000 in
theorem l06Fits_2 (v : Int) (u : Value) (x : List (List ByteArray)) (w : World) (hn : x.length ≤ 1048576) (hr : RRep 0 w u x) :
    Calls Tryz.prog 18 #[.int .i64 v, .int .i64 2, .agg #[u]] w fun e w' => e = .returned (.bool (fitsL v 2 x)) ∧ Below w.heap.size w w' := by
  have HB0 := hideF ((Below.refl w.heap.size w).alloc (Nat.le_refl _) (.cells #[u] 29))
  have HRX := hideF (hr.below ((Below.refl w.heap.size w).alloc (Nat.le_refl _) (.cells #[u] 29)))
  have HSZ := hideF (oneT_size hr)
  obtain ⟨p, cap, rfl⟩ := hr.isSlice
  have r0 := repCell w (.slice p x.length cap)
  obtain ⟨R, hR⟩ : ∃ R, R = fitsL v 2 x := ⟨_, rfl⟩
  rw [← hR]
  have HR := hideF hR
  clear hR hr
  go_enter Tryz.func18, Tryz.ntmps18
  go_wp2_with fail
  refine (l06One_any _ x 0 _ hn HRX.out).mono ?_
  rintro e w1 ⟨rfl, hb1⟩
  have HB1 := hideF (HB0.out.trans (hb1.mono HB0.out.size))
  have HRY := hideF (HRX.out.below hb1)
  have r1 : w1.cell? ⟨w.heap.size, 0, none⟩ = some (.slice p x.length cap) := by rw [hb1.cell (p := ⟨w.heap.size, 0, none⟩) (by simp [World.size_alloc])]; exact r0
  clear hb1 r0
  cases hs : soleL 1 x
  · have HN := hideF (show R = false by rw [HR.out, show fitsL v 2 x = (soleL 1 x && numberB (oneT x).data.toList) from rfl, hs]; rfl)
    go_wp2
    go_ret
    exact ⟨ret_boolF HN.out.symm, HB1.out⟩
  · have HN := hideF (show R = numberB (oneT x).data.toList by rw [HR.out, show fitsL v 2 x = (soleL 1 x && numberB (oneT x).data.toList) from rfl, hs]; rfl)
    clear HR
    generalize oneT x = t at *
    go_wp2_with fail
    refine (specNumberRight_any t.data.toList _ (by have := HSZ.out; exact this)).mono ?_
    rintro e w2 ⟨rfl, rfl⟩
    go_wp2
    go_ret
    exact ⟨ret_boolF HN.out.symm, HB1.out⟩

set_option maxHeartbeats 2000000 in
set_option maxRecDepth 100000 in
theorem l06Fits_3 (v : Int) (u : Value) (x : List (List ByteArray)) (w : World) (hn : x.length ≤ 1048576) (hr : RRep 0 w u x) :
    Calls Tryz.prog 18 #[.int .i64 v, .int .i64 3, .agg #[u]] w fun e w' => e = .returned (.bool (fitsL v 3 x)) ∧ Below w.heap.size w w' := by
  have HB0 := hideF ((Below.refl w.heap.size w).alloc (Nat.le_refl _) (.cells #[u] 29))
  have HRX := hideF (hr.below ((Below.refl w.heap.size w).alloc (Nat.le_refl _) (.cells #[u] 29)))
  have HSZ := hideF (oneT_size hr)
  obtain ⟨p, cap, rfl⟩ := hr.isSlice
  have r0 := repCell w (.slice p x.length cap)
  obtain ⟨R, hR⟩ : ∃ R, R = fitsL v 3 x := ⟨_, rfl⟩
  rw [← hR]
  have HR := hideF hR
  clear hR hr
  go_enter Tryz.func18, Tryz.ntmps18
  go_wp2_with fail
  refine (l06One_any _ x 0 _ hn HRX.out).mono ?_
  rintro e w1 ⟨rfl, hb1⟩
  have HB1 := hideF (HB0.out.trans (hb1.mono HB0.out.size))
  have HRY := hideF (HRX.out.below hb1)
  have r1 : w1.cell? ⟨w.heap.size, 0, none⟩ = some (.slice p x.length cap) := by rw [hb1.cell (p := ⟨w.heap.size, 0, none⟩) (by simp [World.size_alloc])]; exact r0
  clear hb1 r0
  cases hs : soleL 1 x
  · have HN := hideF (show R = false by rw [HR.out, show fitsL v 3 x = (soleL 1 x && dayB (oneT x).data.toList) from rfl, hs]; rfl)
    go_wp2
    go_ret
    exact ⟨ret_boolF HN.out.symm, HB1.out⟩
  · have HN := hideF (show R = dayB (oneT x).data.toList by rw [HR.out, show fitsL v 3 x = (soleL 1 x && dayB (oneT x).data.toList) from rfl, hs]; rfl)
    clear HR
    generalize oneT x = t at *
    go_wp2_with fail
    refine (specDayRight_any t.data.toList _ (by have := HSZ.out; exact this)).mono ?_
    rintro e w2 ⟨rfl, hb2⟩
    have HB2 := hideF (HB1.out.trans (hb2.mono HB1.out.size))
    clear hb2
    go_wp2
    go_ret
    exact ⟨ret_boolF HN.out.symm, HB2.out⟩

set_option maxHeartbeats 2000000 in
set_option maxRecDepth 100000 in
theorem l06Fits_4 (v : Int) (u : Value) (x : List (List ByteArray)) (w : World) (hn : x.length ≤ 1048576) (hr : RRep 0 w u x) :
    Calls Tryz.prog 18 #[.int .i64 v, .int .i64 4, .agg #[u]] w fun e w' => e = .returned (.bool (fitsL v 4 x)) ∧ Below w.heap.size w w' := by
  have HB0 := hideF ((Below.refl w.heap.size w).alloc (Nat.le_refl _) (.cells #[u] 29))
  have HRX := hideF (hr.below ((Below.refl w.heap.size w).alloc (Nat.le_refl _) (.cells #[u] 29)))
  have HSZ := hideF (oneT_size hr)
  obtain ⟨p, cap, rfl⟩ := hr.isSlice
  have r0 := repCell w (.slice p x.length cap)
  obtain ⟨R, hR⟩ : ∃ R, R = fitsL v 4 x := ⟨_, rfl⟩
  rw [← hR]
  have HR := hideF hR
  clear hR hr
  go_enter Tryz.func18, Tryz.ntmps18
  go_wp2_with fail
  refine (l06One_any _ x 0 _ hn HRX.out).mono ?_
  rintro e w1 ⟨rfl, hb1⟩
  have HB1 := hideF (HB0.out.trans (hb1.mono HB0.out.size))
  have HRY := hideF (HRX.out.below hb1)
  have r1 : w1.cell? ⟨w.heap.size, 0, none⟩ = some (.slice p x.length cap) := by rw [hb1.cell (p := ⟨w.heap.size, 0, none⟩) (by simp [World.size_alloc])]; exact r0
  clear hb1 r0
  cases hs : soleL 1 x
  · have HN := hideF (show R = false by rw [HR.out, show fitsL v 4 x = (soleL 1 x && timeB v (oneT x).data.toList) from rfl, hs]; rfl)
    go_wp2
    go_ret
    exact ⟨ret_boolF HN.out.symm, HB1.out⟩
  · have HN := hideF (show R = timeB v (oneT x).data.toList by rw [HR.out, show fitsL v 4 x = (soleL 1 x && timeB v (oneT x).data.toList) from rfl, hs]; rfl)
    clear HR
    generalize oneT x = t at *
    go_wp2_with fail
    refine (specTimeRight_all v t.data.toList _).mono ?_
    rintro e w2 ⟨rfl, hb2⟩
    have HB2 := hideF (HB1.out.trans (hb2.mono HB1.out.size))
    clear hb2
    go_wp2
    go_ret
    exact ⟨ret_boolF HN.out.symm, HB2.out⟩

set_option maxHeartbeats 2000000 in
set_option maxRecDepth 100000 in
theorem l06Fits_5 (v : Int) (u : Value) (x : List (List ByteArray)) (w : World) (hn : x.length ≤ 1048576) (hr : RRep 0 w u x) :
    Calls Tryz.prog 18 #[.int .i64 v, .int .i64 5, .agg #[u]] w fun e w' => e = .returned (.bool (fitsL v 5 x)) ∧ Below w.heap.size w w' := by
  have HB0 := hideF ((Below.refl w.heap.size w).alloc (Nat.le_refl _) (.cells #[u] 29))
  have HRX := hideF (hr.below ((Below.refl w.heap.size w).alloc (Nat.le_refl _) (.cells #[u] 29)))
  have HSZ := hideF (oneT_size hr)
  obtain ⟨p, cap, rfl⟩ := hr.isSlice
  have r0 := repCell w (.slice p x.length cap)
  obtain ⟨R, hR⟩ : ∃ R, R = fitsL v 5 x := ⟨_, rfl⟩
  rw [← hR]
  have HR := hideF hR
  clear hR hr
  go_enter Tryz.func18, Tryz.ntmps18
  go_wp2_with fail
  refine (l06One_any _ x 0 _ hn HRX.out).mono ?_
  rintro e w1 ⟨rfl, hb1⟩
  have HB1 := hideF (HB0.out.trans (hb1.mono HB0.out.size))
  have HRY := hideF (HRX.out.below hb1)
  have r1 : w1.cell? ⟨w.heap.size, 0, none⟩ = some (.slice p x.length cap) := by rw [hb1.cell (p := ⟨w.heap.size, 0, none⟩) (by simp [World.size_alloc])]; exact r0
  clear hb1 r0
  cases hs : soleL 1 x
  · have HN := hideF (show R = false by rw [HR.out, show fitsL v 5 x = (soleL 1 x && codeB v (oneT x)) from rfl, hs]; rfl)
    go_wp2
    go_ret
    exact ⟨ret_boolF HN.out.symm, HB1.out⟩
  · have HE := hideF (show R = codeB v (oneT x) by rw [HR.out, show fitsL v 5 x = (soleL 1 x && codeB v (oneT x)) from rfl, hs]; rfl)
    clear HR
    generalize oneT x = t at *
    by_cases h1 : 1 ≤ (t.size : Int)
    · have H1 := hideF (show decide (1 ≤ t.size) = true by simp; omega)
      by_cases h3 : (t.size : Int) ≤ 3
      · have H3 := hideF (show decide (t.size ≤ 3) = true by simp; omega)
        go_wp2_with fail
        refine (l06Upper_any t _ HSZ.out).mono ?_
        rintro e w2 ⟨rfl, rfl⟩
        cases hc : capA t
        · have HN := hideF (show R = false by rw [HE.out, codeB, hc]; simp)
          go_wp2
          go_ret
          exact ⟨ret_boolF HN.out.symm, HB1.out⟩
        · by_cases hv : 1 < v
          · have HN := hideF (show R = true by rw [HE.out, codeB, hc, H1.out, H3.out]; simp [hv])
            go_wp2
            go_ret
            exact ⟨ret_boolF HN.out.symm, HB1.out⟩
          · have HV := hideF (show R = (!(t.toList == [65]) && !(t.toList == [78])) by rw [HE.out, codeB, hc, H1.out, H3.out]; simp [hv])
            clear HE hc H1 H3
            cases ha : t.toList == [65]
            · cases hb : t.toList == [78]
              · have HN := hideF (show R = true by rw [HV.out, ha, hb]; rfl)
                go_wp2
                go_ret
                exact ⟨ret_boolF HN.out.symm, HB1.out⟩
              · have HN := hideF (show R = decide (1 < v) by rw [HV.out, ha, hb]; simp [hv])
                go_wp2
                go_ret
                exact ⟨ret_boolF HN.out.symm, HB1.out⟩
            · have HN := hideF (show R = decide (1 < v) by rw [HV.out, ha]; simp [hv])
              go_wp2
              go_ret
              exact ⟨ret_boolF HN.out.symm, HB1.out⟩
      · have HN := hideF (show R = false by rw [HE.out, codeB]; have : ¬ t.size ≤ 3 := (by omega); simp [this])
        go_wp2
        go_ret
        exact ⟨ret_boolF HN.out.symm, HB1.out⟩
    · have HN := hideF (show R = false by rw [HE.out, codeB]; have : ¬ 1 ≤ t.size := (by omega); simp [this])
      go_wp2
      go_ret
      exact ⟨ret_boolF HN.out.symm, HB1.out⟩

set_option maxHeartbeats 2000000 in
set_option maxRecDepth 100000 in
theorem l06Fits_6 (v : Int) (u : Value) (x : List (List ByteArray)) (w : World) (hn : x.length ≤ 1048576) (hr : RRep 0 w u x) :
    Calls Tryz.prog 18 #[.int .i64 v, .int .i64 6, .agg #[u]] w fun e w' => e = .returned (.bool (fitsL v 6 x)) ∧ Below w.heap.size w w' := by
  have HB0 := hideF ((Below.refl w.heap.size w).alloc (Nat.le_refl _) (.cells #[u] 29))
  have HRX := hideF (hr.below ((Below.refl w.heap.size w).alloc (Nat.le_refl _) (.cells #[u] 29)))
  have HSZ := hideF (oneT_size hr)
  obtain ⟨p, cap, rfl⟩ := hr.isSlice
  have r0 := repCell w (.slice p x.length cap)
  obtain ⟨R, hR⟩ : ∃ R, R = fitsL v 6 x := ⟨_, rfl⟩
  rw [← hR]
  have HR := hideF hR
  clear hR hr
  go_enter Tryz.func18, Tryz.ntmps18
  go_wp2_with fail
  refine (l06One_any _ x 0 _ hn HRX.out).mono ?_
  rintro e w1 ⟨rfl, hb1⟩
  have HB1 := hideF (HB0.out.trans (hb1.mono HB0.out.size))
  have HRY := hideF (HRX.out.below hb1)
  have r1 : w1.cell? ⟨w.heap.size, 0, none⟩ = some (.slice p x.length cap) := by rw [hb1.cell (p := ⟨w.heap.size, 0, none⟩) (by simp [World.size_alloc])]; exact r0
  clear hb1 r0
  have HN := hideF (show R = compsL 5 1 x by rw [HR.out]; rfl)
  clear HR
  go_wp2_with fail
  refine (l06Comps_any _ x 5 1 0 _ hn (by omega) (by omega) HRY.out).mono ?_
  rintro e w2 ⟨rfl, hb2⟩
  have HB2 := hideF (HB1.out.trans (hb2.mono HB1.out.size))
  clear hb2
  go_wp2
  go_ret
  exact ⟨ret_boolF HN.out.symm, HB2.out⟩

set_option maxHeartbeats 2000000 in
set_option maxRecDepth 100000 in
theorem l06Fits_7 (v : Int) (u : Value) (x : List (List ByteArray)) (w : World) (hn : x.length ≤ 1048576) (hr : RRep 0 w u x) :
    Calls Tryz.prog 18 #[.int .i64 v, .int .i64 7, .agg #[u]] w fun e w' => e = .returned (.bool (fitsL v 7 x)) ∧ Below w.heap.size w w' := by
  have HB0 := hideF ((Below.refl w.heap.size w).alloc (Nat.le_refl _) (.cells #[u] 29))
  have HRX := hideF (hr.below ((Below.refl w.heap.size w).alloc (Nat.le_refl _) (.cells #[u] 29)))
  have HSZ := hideF (oneT_size hr)
  obtain ⟨p, cap, rfl⟩ := hr.isSlice
  have r0 := repCell w (.slice p x.length cap)
  obtain ⟨R, hR⟩ : ∃ R, R = fitsL v 7 x := ⟨_, rfl⟩
  rw [← hR]
  have HR := hideF hR
  clear hR hr
  go_enter Tryz.func18, Tryz.ntmps18
  go_wp2_with fail
  refine (l06One_any _ x 0 _ hn HRX.out).mono ?_
  rintro e w1 ⟨rfl, hb1⟩
  have HB1 := hideF (HB0.out.trans (hb1.mono HB0.out.size))
  have HRY := hideF (HRX.out.below hb1)
  have r1 : w1.cell? ⟨w.heap.size, 0, none⟩ = some (.slice p x.length cap) := by rw [hb1.cell (p := ⟨w.heap.size, 0, none⟩) (by simp [World.size_alloc])]; exact r0
  clear hb1 r0
  by_cases hv : v = 1
  · have hvb : (v == 1) = true := by simpa using hv
    have HN := hideF (show R = compsL 3 0 x by rw [HR.out]; show (if v = 1 then compsL 3 0 x else compsL 8 10 x) = _; rw [if_pos hv])
    clear HR hv
    go_wp2_with fail
    refine (l06Comps_any _ x 3 0 0 _ hn (by omega) (by omega) HRY.out).mono ?_
    rintro e w2 ⟨rfl, hb2⟩
    have HB2 := hideF (HB1.out.trans (hb2.mono HB1.out.size))
    clear hb2
    go_wp2
    go_ret
    exact ⟨ret_boolF HN.out.symm, HB2.out⟩
  · have hvb : (v == 1) = false := by simpa using hv
    have HN := hideF (show R = compsL 8 10 x by rw [HR.out]; show (if v = 1 then compsL 3 0 x else compsL 8 10 x) = _; rw [if_neg hv])
    clear HR hv
    go_wp2_with fail
    refine (l06Comps_any _ x 8 10 0 _ hn (by omega) (by omega) HRY.out).mono ?_
    rintro e w2 ⟨rfl, hb2⟩
    have HB2 := hideF (HB1.out.trans (hb2.mono HB1.out.size))
    clear hb2
    go_wp2
    go_ret
    exact ⟨ret_boolF HN.out.symm, HB2.out⟩

set_option maxHeartbeats 2000000 in
set_option maxRecDepth 100000 in
theorem l06Fits_8 (v : Int) (u : Value) (x : List (List ByteArray)) (w : World) (hn : x.length ≤ 1048576) (hr : RRep 0 w u x) :
    Calls Tryz.prog 18 #[.int .i64 v, .int .i64 8, .agg #[u]] w fun e w' => e = .returned (.bool (fitsL v 8 x)) ∧ Below w.heap.size w w' := by
  have HB0 := hideF ((Below.refl w.heap.size w).alloc (Nat.le_refl _) (.cells #[u] 29))
  have HRX := hideF (hr.below ((Below.refl w.heap.size w).alloc (Nat.le_refl _) (.cells #[u] 29)))
  have HSZ := hideF (oneT_size hr)
  obtain ⟨p, cap, rfl⟩ := hr.isSlice
  have r0 := repCell w (.slice p x.length cap)
  obtain ⟨R, hR⟩ : ∃ R, R = fitsL v 8 x := ⟨_, rfl⟩
  rw [← hR]
  have HR := hideF hR
  clear hR hr
  go_enter Tryz.func18, Tryz.ntmps18
  go_wp2_with fail
  refine (l06One_any _ x 0 _ hn HRX.out).mono ?_
  rintro e w1 ⟨rfl, hb1⟩
  have HB1 := hideF (HB0.out.trans (hb1.mono HB0.out.size))
  have HRY := hideF (HRX.out.below hb1)
  have r1 : w1.cell? ⟨w.heap.size, 0, none⟩ = some (.slice p x.length cap) := by rw [hb1.cell (p := ⟨w.heap.size, 0, none⟩) (by simp [World.size_alloc])]; exact r0
  clear hb1 r0
  by_cases hv : v = 1
  · have hvb : (v == 1) = true := by simpa using hv
    have HN := hideF (show R = kindL 2 x by rw [HR.out]; show (if v = 1 then kindL 2 x else kindL 3 x) = _; rw [if_pos hv])
    clear HR hv
    go_wp2_with fail
    refine (l06Kind_2 _ x v 0 _ hvb hn HRY.out).mono ?_
    rintro e w2 ⟨rfl, hb2⟩
    have HB2 := hideF (HB1.out.trans (hb2.mono HB1.out.size))
    clear hb2
    go_wp2
    go_ret
    exact ⟨ret_boolF HN.out.symm, HB2.out⟩
  · have hvb : (v == 1) = false := by simpa using hv
    have HN := hideF (show R = kindL 3 x by rw [HR.out]; show (if v = 1 then kindL 2 x else kindL 3 x) = _; rw [if_neg hv])
    clear HR hv
    go_wp2_with fail
    refine (l06Kind_3 _ x v 0 _ hvb hn HRY.out).mono ?_
    rintro e w2 ⟨rfl, hb2⟩
    have HB2 := hideF (HB1.out.trans (hb2.mono HB1.out.size))
    clear hb2
    go_wp2
    go_ret
    exact ⟨ret_boolF HN.out.symm, HB2.out⟩

set_option maxHeartbeats 2000000 in
set_option maxRecDepth 100000 in
theorem l06Fits_9 (v : Int) (u : Value) (x : List (List ByteArray)) (w : World) (hn : x.length ≤ 1048576) (hr : RRep 0 w u x) :
    Calls Tryz.prog 18 #[.int .i64 v, .int .i64 9, .agg #[u]] w fun e w' => e = .returned (.bool (fitsL v 9 x)) ∧ Below w.heap.size w w' := by
  have HB0 := hideF ((Below.refl w.heap.size w).alloc (Nat.le_refl _) (.cells #[u] 29))
  have HRX := hideF (hr.below ((Below.refl w.heap.size w).alloc (Nat.le_refl _) (.cells #[u] 29)))
  have HSZ := hideF (oneT_size hr)
  obtain ⟨p, cap, rfl⟩ := hr.isSlice
  have r0 := repCell w (.slice p x.length cap)
  obtain ⟨R, hR⟩ : ∃ R, R = fitsL v 9 x := ⟨_, rfl⟩
  rw [← hR]
  have HR := hideF hR
  clear hR hr
  go_enter Tryz.func18, Tryz.ntmps18
  go_wp2_with fail
  refine (l06One_any _ x 0 _ hn HRX.out).mono ?_
  rintro e w1 ⟨rfl, hb1⟩
  have HB1 := hideF (HB0.out.trans (hb1.mono HB0.out.size))
  have HRY := hideF (HRX.out.below hb1)
  have r1 : w1.cell? ⟨w.heap.size, 0, none⟩ = some (.slice p x.length cap) := by rw [hb1.cell (p := ⟨w.heap.size, 0, none⟩) (by simp [World.size_alloc])]; exact r0
  clear hb1 r0
  by_cases hv : v < 3
  · skip
    have HN := hideF (show R = compsL 6 0 x by rw [HR.out]; show (if v < 3 then compsL 6 0 x else compsL 9 0 x) = _; rw [if_pos hv])
    clear HR
    go_wp2_with fail
    refine (l06Comps_any _ x 6 0 0 _ hn (by omega) (by omega) HRY.out).mono ?_
    rintro e w2 ⟨rfl, hb2⟩
    have HB2 := hideF (HB1.out.trans (hb2.mono HB1.out.size))
    clear hb2
    go_wp2
    go_ret
    exact ⟨ret_boolF HN.out.symm, HB2.out⟩
  · skip
    have HN := hideF (show R = compsL 9 0 x by rw [HR.out]; show (if v < 3 then compsL 6 0 x else compsL 9 0 x) = _; rw [if_neg hv])
    clear HR
    go_wp2_with fail
    refine (l06Comps_any _ x 9 0 0 _ hn (by omega) (by omega) HRY.out).mono ?_
    rintro e w2 ⟨rfl, hb2⟩
    have HB2 := hideF (HB1.out.trans (hb2.mono HB1.out.size))
    clear hb2
    go_wp2
    go_ret
    exact ⟨ret_boolF HN.out.symm, HB2.out⟩

end Go.Proofs.YtfjjbofnfigehaaGreatDoor
/- A Path: what is right of it, of the model and of the program. -/
namespace Go.Proofs.YtfjjbofnfigehaaGreatDoor
open Go.RowKit

def shiftB (s : ByteArray) : Int := if s.toList == [77, 83, 72] then 3 else 1
def placeB (n : Int) : Bool := decide (1 ≤ n) && decide (n ≤ 20)
structure PathM where
  seg : ByteArray
  nth : Int
  fld : Int
  rep : Int
  comp : Int
  sub : Int
def PathM.v (p : PathM) : Value := .agg #[.string p.seg, .int .i64 p.nth, .int .i64 p.fld, .int .i64 p.rep, .int .i64 p.comp, .int .i64 p.sub]
def PathM.cells (p : PathM) : List Value := [.string p.seg, .int .i64 p.nth, .int .i64 p.fld, .int .i64 p.rep, .int .i64 p.comp, .int .i64 p.sub]
def PathM.right (p : PathM) : Bool := name3 p.seg && placeB p.nth && (decide (shiftB p.seg ≤ p.fld) && decide (p.fld < shiftB p.seg + 30)) && placeB p.rep && placeB p.comp && placeB p.sub

theorem l02Is_b (n lo hi : Int) (w : World) : Calls Tryz.prog 35 #[.int .i64 n, .int .i64 lo, .int .i64 hi] w fun e w' => e = .returned (.bool (decide (lo ≤ n) && decide (n ≤ hi))) ∧ w' = w := by
  by_cases h1 : lo ≤ n
  · by_cases h2 : n ≤ hi
    · go_enter Tryz.func35, Tryz.ntmps35
      go_wp2
      go_ret
      exact ⟨ret_boolF (by rw [decide_eq_true h1, decide_eq_true h2]; rfl), rfl⟩
    · go_enter Tryz.func35, Tryz.ntmps35
      go_wp2
      go_ret
      exact ⟨ret_boolF (by rw [decide_eq_false (by omega : ¬ n ≤ hi)]; first | done | rfl | simp), rfl⟩
  · go_enter Tryz.func35, Tryz.ntmps35
    go_wp2
    go_ret
    exact ⟨ret_boolF (by rw [decide_eq_false (by omega : ¬ lo ≤ n)]; rfl), rfl⟩
end Go.Proofs.YtfjjbofnfigehaaGreatDoor
