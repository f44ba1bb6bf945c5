/- The text of a Path: of the program. -/
import Derived.Test.YtfjjbofnfigehaaGreatDoorXG19PText
import Derived.BigQuiet
import Derived.OrdersHeld
import Derived.Test.YtfjjbofnfigehaaGreatDoorXG18VFits
import Derived.Test.YtfjjbofnfigehaaGreatDoorXG8VSole
namespace Go.Proofs.YtfjjbofnfigehaaGreatDoor
open Go.RowKit
theorem decDigits_digs (n : Nat) (h0 : n ≠ 0) (h1 : n < 100) : Lib.decDigits n = digs n := by
  unfold Lib.decDigits
  by_cases h : n < 10
  · simp [h, digs, h0]
  · rw [dif_neg h]
    unfold Lib.decDigits
    rw [dif_pos (show n / 10 < 10 by omega)]
    simp [digs, h, h0]
theorem join_none (xs : List (List UInt8)) : Lib.join xs [] = xs.flatten := by
  induction xs with
  | nil => rfl
  | cons x r ih => rw [Lib.join_cons]; simp [Lib.joinTail]
/-- Pieces put together, out of a row of the caller's. -/
theorem together_any (g c : Nat) (xs : List ByteArray) (w : World) (hr : Row w g 9 (xs.map Value.string)) (hN : xs.length ≤ 100) (hcap : xs.length ≤ c) (hlen : ((xs.map (·.data.toList)).flatten).length ≤ 1000) :
    Calls Tryz.prog 93 #[.slice (some ⟨g, 0, none⟩) xs.length c] w fun e w' => e = .returned (.string ⟨((xs.map (·.data.toList)).flatten).toArray⟩) ∧ Below w.heap.size w w' := by
  have H := hide (show Lib.join (xs.map (·.data.toList)) (⟨#[]⟩ : ByteArray).data.toList = (xs.map (·.data.toList)).flatten from join_none _)
  have hc : ∀ (j : Nat) x, xs[j]? = some x → w.cell? ⟨g, 0 + j, none⟩ = some (.string x) := fun j x h => by rw [Nat.zero_add, hr.cell j]; simp [h]
  have HC := hide (Tryz.strings_Join g 0 c xs ⟨#[]⟩ w hc hr.lt (by omega) hcap (by rw [H.out]; omega))
  clear hc hr
  go_enter Tryz.func93, Tryz.ntmps93
  go_wp2_with fail
  refine HC.out.mono ?_
  rintro e w1 ⟨rfl, hb1⟩
  rw [H.out]
  have HB := hide hb1
  clear hb1
  go_wp2
  go_ret
  exact ⟨rfl, HB.out⟩
end Go.Proofs.YtfjjbofnfigehaaGreatDoor
/- The program's nine fits. -/
namespace Go.Proofs.YtfjjbofnfigehaaGreatDoor
open Go.RowKit
theorem oneT_texts {x : List (List ByteArray)} (hx : x.length = 1) (hs : soleL 1 x = true) : oneT x = (textsOf x)[0]'(by simp [textsOf, hx]) := by
  match x, hx, hs with
  | [c], _, hs => simp [oneT, hs, textsOf]
theorem sole1 {x : List (List ByteArray)} {B : Nat} {e : Ending} {w : World} (h : SoleRes 1 x B e w) :
    (soleL 1 x = false ∧ ∃ v, e = .returned (.tuple #[v, .bool false])) ∨
    (soleL 1 x = true ∧ ∃ g off cap, e = .returned (.tuple #[.slice (some ⟨g, off, none⟩) 1 cap, .bool true]) ∧ 1 ≤ cap ∧ cap ≤ 2 ^ 63 - 1 ∧ g < w.heap.size ∧ w.cell? ⟨g, off, none⟩ = some (.string (oneT x))) := by
  unfold SoleRes at h
  split at h
  · rename_i hs
    obtain ⟨v, rfl, p, cap, rfl, h1, h2, h4⟩ := h
    have hx : x.length = 1 := by
      have := hs
      simp [soleL] at this
      exact this.1
    have hl : (textsOf x).length = 1 := by simp [textsOf, hx]
    obtain ⟨g, off, rfl, hg, _, hc⟩ := h4 (by omega)
    obtain ⟨u, hu, rfl, _⟩ := hc 0 (by omega)
    refine .inr ⟨hs, g, off, cap, by rw [hl], by omega, h2, hg, ?_⟩
    rw [Nat.add_zero] at hu
    rw [hu]
    have ho : oneT x = (textsOf x)[0] := oneT_texts hx hs
    rw [ho]
  · rename_i hs
    obtain ⟨v, rfl⟩ := h
    exact .inl ⟨by simpa using hs, v, rfl⟩
set_option maxHeartbeats 2000000 in
set_option maxRecDepth 100000 in
theorem textFits_any (v : Int) (u : Value) (x : List (List ByteArray)) (w : World) (hn : x.length ≤ 1048576) (hr : RRep 0 w u x) :
    Calls Tryz.prog 48 #[.int .i64 v, .agg #[u]] w fun e w' => e = .returned (.bool (soleL 1 x)) ∧ Below w.heap.size w w' := by
  have HB0 := hideF ((Below.refl w.heap.size w).alloc (Nat.le_refl _) (.cells #[u] 29))
  have HRX := hideF (hr.below ((Below.refl w.heap.size w).alloc (Nat.le_refl _) (.cells #[u] 29)))
  have HSZ := hideF (oneT_size hr)
  obtain ⟨p, cap, rfl⟩ := hr.isSlice
  have r0 := repCell w (.slice p x.length cap)
  obtain ⟨R, hR⟩ : ∃ R, R = (soleL 1 x) := ⟨_, rfl⟩
  rw [← hR]
  have HR := hideF hR
  clear hR hr
  go_enter Tryz.func48, Tryz.ntmps48
  go_wp2_with fail
  refine (soleTexts_any _ x 1 0 _ hn HRX.out).mono ?_
  rintro e w1 ⟨hres, hb1⟩
  have HB1 := hideF (HB0.out.trans (hb1.mono HB0.out.size))
  clear hb1
  rcases sole1 hres with ⟨hs, v1, rfl⟩ | ⟨hs, g, off, c1, rfl, hc0, hc1, hg, hcl⟩
  · clear hres
    have HN := hideF (show R = false by simp [HR.out, hs])
    go_wp2
    go_ret
    exact ⟨ret_boolF HN.out.symm, HB1.out⟩
  · clear hres
    have HN := hideF (show R = true by rw [HR.out, hs])
    go_wp2
    go_ret
    exact ⟨ret_boolF HN.out.symm, HB1.out⟩
set_option maxHeartbeats 2000000 in
set_option maxRecDepth 100000 in
theorem numberFits_any (v : Int) (u : Value) (x : List (List ByteArray)) (w : World) (hn : x.length ≤ 1048576) (hr : RRep 0 w u x) :
    Calls Tryz.prog 49 #[.int .i64 v, .agg #[u]] w fun e w' => e = .returned (.bool (soleL 1 x && numberB (oneT x).data.toList)) ∧ Below w.heap.size w w' := by
  have HB0 := hideF ((Below.refl w.heap.size w).alloc (Nat.le_refl _) (.cells #[u] 29))
  have HRX := hideF (hr.below ((Below.refl w.heap.size w).alloc (Nat.le_refl _) (.cells #[u] 29)))
  have HSZ := hideF (oneT_size hr)
  obtain ⟨p, cap, rfl⟩ := hr.isSlice
  have r0 := repCell w (.slice p x.length cap)
  obtain ⟨R, hR⟩ : ∃ R, R = (soleL 1 x && numberB (oneT x).data.toList) := ⟨_, rfl⟩
  rw [← hR]
  have HR := hideF hR
  clear hR hr
  go_enter Tryz.func49, Tryz.ntmps49
  go_wp2_with fail
  refine (soleTexts_any _ x 1 0 _ hn HRX.out).mono ?_
  rintro e w1 ⟨hres, hb1⟩
  have HB1 := hideF (HB0.out.trans (hb1.mono HB0.out.size))
  clear hb1
  rcases sole1 hres with ⟨hs, v1, rfl⟩ | ⟨hs, g, off, c1, rfl, hc0, hc1, hg, hcl⟩
  · clear hres
    have HN := hideF (show R = false by simp [HR.out, hs])
    go_wp2
    go_ret
    exact ⟨ret_boolF HN.out.symm, HB1.out⟩
  · clear hres
    have HN := hideF (show R = numberB (oneT x).data.toList by rw [HR.out, hs]; rfl)
    clear HR hs
    generalize oneT x = t at *
    go_wp2_with fail
    refine (implNumberRight_any t.data.toList _ (by have := HSZ.out; exact this)).mono ?_
    rintro e w2 ⟨rfl, hb2⟩
    have HB2 := hideF (HB1.out.trans (hb2.mono HB1.out.size))
    clear hb2
    go_wp2
    go_ret
    exact ⟨ret_boolF HN.out.symm, HB2.out⟩
set_option maxHeartbeats 2000000 in
set_option maxRecDepth 100000 in
theorem dayFits_any (v : Int) (u : Value) (x : List (List ByteArray)) (w : World) (hn : x.length ≤ 1048576) (he : ErrsV w) (hr : RRep 0 w u x) :
    Calls Tryz.prog 50 #[.int .i64 v, .agg #[u]] w fun e w' => e = .returned (.bool (soleL 1 x && dayB (oneT x).data.toList)) ∧ Below w.heap.size w w' := by
  have HB0 := hideF ((Below.refl w.heap.size w).alloc (Nat.le_refl _) (.cells #[u] 29))
  have HRX := hideF (hr.below ((Below.refl w.heap.size w).alloc (Nat.le_refl _) (.cells #[u] 29)))
  have HSZ := hideF (oneT_size hr)
  obtain ⟨p, cap, rfl⟩ := hr.isSlice
  have r0 := repCell w (.slice p x.length cap)
  obtain ⟨R, hR⟩ : ∃ R, R = (soleL 1 x && dayB (oneT x).data.toList) := ⟨_, rfl⟩
  rw [← hR]
  have HR := hideF hR
  clear hR hr
  have HE := hideF he
  clear he
  go_enter Tryz.func50, Tryz.ntmps50
  go_wp2_with fail
  refine (soleTexts_any _ x 1 0 _ hn HRX.out).mono ?_
  rintro e w1 ⟨hres, hb1⟩
  have HB1 := hideF (HB0.out.trans (hb1.mono HB0.out.size))
  clear hb1
  rcases sole1 hres with ⟨hs, v1, rfl⟩ | ⟨hs, g, off, c1, rfl, hc0, hc1, hg, hcl⟩
  · clear hres
    have HN := hideF (show R = false by simp [HR.out, hs])
    go_wp2
    go_ret
    exact ⟨ret_boolF HN.out.symm, HB1.out⟩
  · clear hres
    have HN := hideF (show R = dayB (oneT x).data.toList by rw [HR.out, hs]; rfl)
    clear HR hs
    generalize oneT x = t at *
    go_wp2_with fail
    refine (implDayRight_any t.data.toList _ (HE.out.below HB1.out HE.out.1)).mono ?_
    rintro e w2 ⟨rfl, hb2⟩
    have HB2 := hideF (HB1.out.trans (hb2.mono HB1.out.size))
    clear hb2
    go_wp2
    go_ret
    exact ⟨ret_boolF HN.out.symm, HB2.out⟩
set_option maxHeartbeats 2000000 in
set_option maxRecDepth 100000 in
theorem timeFits_any (v : Int) (u : Value) (x : List (List ByteArray)) (w : World) (hn : x.length ≤ 1048576) (he : ErrsV w) (hr : RRep 0 w u x) :
    Calls Tryz.prog 51 #[.int .i64 v, .agg #[u]] w fun e w' => e = .returned (.bool (soleL 1 x && timeB v (oneT x).data.toList)) ∧ Below w.heap.size w w' := by
  have HB0 := hideF ((Below.refl w.heap.size w).alloc (Nat.le_refl _) (.cells #[u] 29))
  have HRX := hideF (hr.below ((Below.refl w.heap.size w).alloc (Nat.le_refl _) (.cells #[u] 29)))
  have HSZ := hideF (oneT_size hr)
  obtain ⟨p, cap, rfl⟩ := hr.isSlice
  have r0 := repCell w (.slice p x.length cap)
  obtain ⟨R, hR⟩ : ∃ R, R = (soleL 1 x && timeB v (oneT x).data.toList) := ⟨_, rfl⟩
  rw [← hR]
  have HR := hideF hR
  clear hR hr
  have HE := hideF he
  clear he
  go_enter Tryz.func51, Tryz.ntmps51
  go_wp2_with fail
  refine (soleTexts_any _ x 1 0 _ hn HRX.out).mono ?_
  rintro e w1 ⟨hres, hb1⟩
  have HB1 := hideF (HB0.out.trans (hb1.mono HB0.out.size))
  clear hb1
  rcases sole1 hres with ⟨hs, v1, rfl⟩ | ⟨hs, g, off, c1, rfl, hc0, hc1, hg, hcl⟩
  · clear hres
    have HN := hideF (show R = false by simp [HR.out, hs])
    go_wp2
    go_ret
    exact ⟨ret_boolF HN.out.symm, HB1.out⟩
  · clear hres
    have HN := hideF (show R = timeB v (oneT x).data.toList by rw [HR.out, hs]; rfl)
    clear HR hs
    generalize oneT x = t at *
    go_wp2_with fail
    refine (implTimeRight_any v t.data.toList _ (by have := HSZ.out; exact this) (HE.out.below HB1.out HE.out.1)).mono ?_
    rintro e w2 ⟨rfl, hb2⟩
    have HB2 := hideF (HB1.out.trans (hb2.mono HB1.out.size))
    clear hb2
    go_wp2
    go_ret
    exact ⟨ret_boolF HN.out.symm, HB2.out⟩
set_option maxHeartbeats 2000000 in
set_option maxRecDepth 100000 in
theorem codeFits_any (v : Int) (u : Value) (x : List (List ByteArray)) (w : World) (hn : x.length ≤ 1048576) (hver : 1 ≤ v) (hne : soleL 1 x = true → 1 ≤ (oneT x).size) (hr : RRep 0 w u x) :
    Calls Tryz.prog 52 #[.int .i64 v, .agg #[u]] w fun e w' => e = .returned (.bool (soleL 1 x && codeB v (oneT x))) ∧ Below w.heap.size w w' := by
  have HB0 := hideF ((Below.refl w.heap.size w).alloc (Nat.le_refl _) (.cells #[u] 29))
  have HRX := hideF (hr.below ((Below.refl w.heap.size w).alloc (Nat.le_refl _) (.cells #[u] 29)))
  have HSZ := hideF (oneT_size hr)
  obtain ⟨p, cap, rfl⟩ := hr.isSlice
  have r0 := repCell w (.slice p x.length cap)
  obtain ⟨R, hR⟩ : ∃ R, R = (soleL 1 x && codeB v (oneT x)) := ⟨_, rfl⟩
  rw [← hR]
  have HR := hideF hR
  clear hR hr
  go_enter Tryz.func52, Tryz.ntmps52
  go_wp2_with fail
  refine (soleTexts_any _ x 1 0 _ hn HRX.out).mono ?_
  rintro e w1 ⟨hres, hb1⟩
  have HB1 := hideF (HB0.out.trans (hb1.mono HB0.out.size))
  clear hb1
  rcases sole1 hres with ⟨hs, v1, rfl⟩ | ⟨hs, g, off, c1, rfl, hc0, hc1, hg, hcl⟩
  · clear hres
    have HN := hideF (show R = false by simp [HR.out, hs])
    go_wp2
    go_ret
    exact ⟨ret_boolF HN.out.symm, HB1.out⟩
  · clear hres
    have HE := hideF (show R = codeB v (oneT x) by rw [HR.out, hs]; rfl)
    have h1 : 1 ≤ (oneT x).size := hne hs
    clear HR hs hne
    generalize oneT x = t at *
    have H1 := hideF (show decide (1 ≤ t.size) = true by simpa using h1)
    by_cases h3 : 3 < (t.size : Int)
    · have HN := hideF (show R = false by rw [HE.out, codeB]; have : ¬ t.size ≤ 3 := (by omega); simp [this])
      go_wp2
      go_ret
      exact ⟨ret_boolF HN.out.symm, HB1.out⟩
    · have H3 := hideF (show decide (t.size ≤ 3) = true by simp; omega)
      go_wp2_with fail
      refine (allCapitals_any t _).mono ?_
      rintro e w2 ⟨rfl, hb2⟩
      have HB2 := hideF (HB1.out.trans (hb2.mono HB1.out.size))
      have hcl2 : w2.cell? ⟨g, off, none⟩ = some (.string t) := by rw [hb2.cell (p := ⟨g, off, none⟩) hg]; exact hcl
      clear hb2
      cases hc : capA t
      · have HN := hideF (show R = false by rw [HE.out, codeB, hc]; simp)
        go_wp2
        go_ret
        exact ⟨ret_boolF HN.out.symm, HB2.out⟩
      · by_cases hv : v = 1
        · have hvb : (v != 1) = false := by simp [hv]
          have HV := hideF (show R = (!(t.toList == [65]) && !(t.toList == [78])) by rw [HE.out, codeB, hc, H1.out, H3.out]; simp [hv])
          clear HE hc H1 H3 hv hver
          cases ha : t.toList == [65]
          · cases hb : t.toList == [78]
            · have HN := hideF (show R = true by rw [HV.out, ha, hb]; rfl)
              go_wp2
              go_ret
              exact ⟨ret_boolF HN.out.symm, HB2.out⟩
            · have HN := hideF (show R = false by rw [HV.out, ha, hb]; rfl)
              go_wp2
              go_ret
              exact ⟨ret_boolF HN.out.symm, HB2.out⟩
          · have HN := hideF (show R = false by rw [HV.out, ha]; rfl)
            go_wp2
            go_ret
            exact ⟨ret_boolF HN.out.symm, HB2.out⟩
        · have hvb : (v != 1) = true := by simpa using hv
          have HN := hideF (show R = true by rw [HE.out, codeB, hc, H1.out, H3.out]; have : 1 < v := (by omega); simp [this])
          clear hver
          go_wp2
          go_ret
          exact ⟨ret_boolF HN.out.symm, HB2.out⟩
end Go.Proofs.YtfjjbofnfigehaaGreatDoor
