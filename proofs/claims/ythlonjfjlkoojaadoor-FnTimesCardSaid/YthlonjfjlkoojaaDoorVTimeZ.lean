/- A time's zone and fraction taken off: of the program. -/
import Derived.Test.YthlonjfjlkoojaaDoorVTimeC
namespace Go.Proofs.YthlonjfjlkoojaaDoor
open Go.RowKit
theorem allDigitsL_any (l : List UInt8) (w : World) :
    Calls Tryd.prog 32 #[.string ⟨l.toArray⟩] w fun e w' => e = .returned (.bool (allD l)) ∧ Below w.heap.size w w' := allDigits_any ⟨l.toArray⟩ w
theorem getD_at (l : List UInt8) (k : Nat) (h : k < l.length) : l.getD k 0 = l[k] := by
  rw [List.getD, List.getElem?_eq_getElem h]; rfl
set_option maxHeartbeats 4000000 in
set_option maxRecDepth 100000 in
theorem withoutZone_any (l : List UInt8) (w : World) (hl : l.length ≤ maxLen) (he : ErrsV w) :
    Calls Tryd.prog 19 #[.string ⟨l.toArray⟩] w fun e w' => e = .returned (.string ⟨(woZone l).toArray⟩) ∧ Below w.heap.size w w' := by
  unfold maxLen at hl
  have HE := hide he
  clear he
  by_cases h5 : 5 ≤ l.length
  · obtain ⟨p, hp⟩ : ∃ p : Nat, p = l.length - 5 := ⟨_, rfl⟩
    have hpI : ((l.length : Int) - 5) = (p : Int) := by omega
    have hlt : p < l.length := by omega
    have hg := get_dataV l p hlt
    have hsz : p < (⟨l.toArray⟩ : ByteArray).size := by simpa [ByteArray.size] using hlt
    have HG := hide (show hasSgn l = sgn l[p] by unfold hasSgn; rw [← hp, getD_at l p hlt]; simp [h5])
    have HZ := hide (show zoneOk l = (withinB (l.extract (p + 1) (p + 3)) 0 14 && withinB (l.extract (p + 3) l.length) 0 59) by unfold zoneOk; rw [show l.length - 4 = p + 1 by omega, show l.length - 2 = p + 3 by omega])
    have HW := hide (show woZone l = if hasSgn l && zoneOk l then l.take p else l by unfold woZone; rw [← hp])
    have HPL := hide (show p + 5 = l.length by omega)
    have q1 : p + 3 ≤ l.length := by omega
    have C0 := hide (fun Z hE => numberWithin_any (l.extract (p + 1) (p + 3)) 0 14 Z (by rw [List.extract_eq_take_drop, List.length_take]; omega) hE)
    have C1 := hide (fun Z hE => numberWithin_any (l.extract (p + 3) l.length) 0 59 Z (by rw [List.extract_eq_take_drop, List.length_take]; omega) hE)
    have hp0 : decide ((p : Int) < 0) = false := by simp
    clear hp h5
    by_cases hs : sgn l[p] = true
    · have hs' := hs
      simp only [sgn, Bool.or_eq_true, beq_iff_eq] at hs'
      rw [hs] at HG
      have hsg : ((l[p].toNat : Int) != 43) = false ∨ ((l[p].toNat : Int) != 43) = true ∧ ((l[p].toNat : Int) != 45) = false := by
        rcases hs' with e | e <;> rw [e] <;> decide
      clear hs hs'
      rcases hsg with g1 | ⟨g1, g2⟩
      · go_enter Tryd.func19, Tryd.ntmps19
        go_wp2_with fail
        rw [ext_of]
        refine (C0.out _ HE.out).mono ?_
        rintro e w1 ⟨rfl, hb⟩
        have HB1 := hide hb
        have HE1 := hide (HE.out.below hb HE.out.1)
        clear hb C0
        generalize withinB (l.extract (p + 1) (p + 3)) 0 14 = b0 at *
        generalize withinN (l.extract (p + 1) (p + 3)) 0 14 = n0 at *
        go_wp2_with fail
        rw [ext_of]
        refine (C1.out _ HE1.out).mono ?_
        rintro e w2 ⟨rfl, hb⟩
        have HB2 := hide (HB1.out.trans (hb.mono HB1.out.size))
        clear hb C1
        generalize withinB (l.extract (p + 3) l.length) 0 59 = b1 at *
        generalize withinN (l.extract (p + 3) l.length) 0 59 = n1 at *
        cases b0
        · have HN := hide (show woZone l = l by rw [HW.out, HG.out, HZ.out]; rfl)
          clear HW HZ
          go_wp2
          go_ret
          exact ⟨by rw [HN.out] <;> rfl, HB2.out⟩
        · cases b1
          · have HN := hide (show woZone l = l by rw [HW.out, HG.out, HZ.out]; rfl)
            clear HW HZ
            go_wp2
            go_ret
            exact ⟨by rw [HN.out] <;> rfl, HB2.out⟩
          · have HN := hide (show woZone l = l.take p by rw [HW.out, HG.out, HZ.out]; rfl)
            clear HW HZ
            go_wp2
            go_ret
            exact ⟨by rw [HN.out]; exact congrArg (fun b => Ending.returned (.string b)) (ext_takeV l p), HB2.out⟩
      · go_enter Tryd.func19, Tryd.ntmps19
        go_wp2_with fail
        rw [ext_of]
        refine (C0.out _ HE.out).mono ?_
        rintro e w1 ⟨rfl, hb⟩
        have HB1 := hide hb
        have HE1 := hide (HE.out.below hb HE.out.1)
        clear hb C0
        generalize withinB (l.extract (p + 1) (p + 3)) 0 14 = b0 at *
        generalize withinN (l.extract (p + 1) (p + 3)) 0 14 = n0 at *
        go_wp2_with fail
        rw [ext_of]
        refine (C1.out _ HE1.out).mono ?_
        rintro e w2 ⟨rfl, hb⟩
        have HB2 := hide (HB1.out.trans (hb.mono HB1.out.size))
        clear hb C1
        generalize withinB (l.extract (p + 3) l.length) 0 59 = b1 at *
        generalize withinN (l.extract (p + 3) l.length) 0 59 = n1 at *
        cases b0
        · have HN := hide (show woZone l = l by rw [HW.out, HG.out, HZ.out]; rfl)
          clear HW HZ
          go_wp2
          go_ret
          exact ⟨by rw [HN.out] <;> rfl, HB2.out⟩
        · cases b1
          · have HN := hide (show woZone l = l by rw [HW.out, HG.out, HZ.out]; rfl)
            clear HW HZ
            go_wp2
            go_ret
            exact ⟨by rw [HN.out] <;> rfl, HB2.out⟩
          · have HN := hide (show woZone l = l.take p by rw [HW.out, HG.out, HZ.out]; rfl)
            clear HW HZ
            go_wp2
            go_ret
            exact ⟨by rw [HN.out]; exact congrArg (fun b => Ending.returned (.string b)) (ext_takeV l p), HB2.out⟩
    · have hs' : sgn l[p] = false := by simpa using hs
      rw [hs'] at HG
      have HN := hide (show woZone l = l by rw [HW.out, HG.out]; rfl)
      have g1 : ((l[p].toNat : Int) != 43) = true := by
        have : ¬ l[p] = 43 := by intro e; rw [e] at hs'; simp [sgn] at hs'
        have h2 : ¬ l[p].toNat = 43 := fun e => this (UInt8.toNat_inj.1 e)
        simp; omega
      have g2 : ((l[p].toNat : Int) != 45) = true := by
        have : ¬ l[p] = 45 := by intro e; rw [e] at hs'; simp [sgn] at hs'
        have h2 : ¬ l[p].toNat = 45 := fun e => this (UInt8.toNat_inj.1 e)
        simp; omega
      clear hs hs' C0 C1
      go_enter Tryd.func19, Tryd.ntmps19
      go_wp2
      go_ret
      exact ⟨by rw [HN.out] <;> rfl, Below.refl _ _⟩
  · have hn : ((l.length : Int) - 5) < 0 := by omega
    have HN := hide (show woZone l = l by unfold woZone; rw [show hasSgn l = false by unfold hasSgn; simp [h5]]; rfl)
    go_enter Tryd.func19, Tryd.ntmps19
    go_wp2
    go_ret
    exact ⟨by rw [HN.out] <;> rfl, Below.refl _ _⟩
set_option maxHeartbeats 4000000 in
set_option maxRecDepth 100000 in
theorem withoutFraction_any (l : List UInt8) (w : World) (hl : l.length ≤ maxLen) :
    Calls Tryd.prog 20 #[.string ⟨l.toArray⟩] w fun e w' => e = .returned (.string ⟨(woFrac l).toArray⟩) ∧ Below w.heap.size w w' := by
  unfold maxLen at hl
  by_cases h6 : 6 < l.length
  · have hg := get_dataV l 6 h6
    have hsz : 6 < (⟨l.toArray⟩ : ByteArray).size := by simpa [ByteArray.size] using h6
    have h6I : ¬ (l.length : Int) ≤ 6 := by omega
    have HW := hide (show woFrac l = if (l[6] == 46) && (allD (l.drop 7) && decide ((l.drop 7).length ≤ 4)) then l.take 6 else l by unfold woFrac; rw [getD_at l 6 h6]; simp [h6])
    by_cases hd : l[6] = 46
    · have g1 : ((l[6].toNat : Int) != 46) = false := by rw [hd]; decide
      have HB := hide (show (l[6] == 46) = true by rw [hd]; rfl)
      have hdl : (l.drop 7).length = l.length - 7 := List.length_drop
      clear hd
      go_enter Tryd.func20, Tryd.ntmps20
      go_wp2_with fail
      rw [ext_dropV]
      refine (allDigitsL_any (l.drop 7) _).mono ?_
      rintro e w1 ⟨rfl, hb⟩
      have HBb := hide hb
      clear hb
      cases ha : allD (l.drop 7)
      · have HN := hide (show woFrac l = l by rw [HW.out, ha]; simp)
        clear ha
        go_wp2
        go_ret
        exact ⟨by rw [HN.out] <;> rfl, HBb.out⟩
      · by_cases h4 : (l.drop 7).length ≤ 4
        · have HN := hide (show woFrac l = l.take 6 by rw [HW.out, ha, HB.out]; simp only [h4]; rfl)
          have h4I : ¬ 4 < ((l.length - 7 : Nat) : Int) := by omega
          have h4J : ¬ 4 < (l.drop 7).length := by omega
          clear ha
          go_wp2
          go_ret
          exact ⟨by rw [HN.out]; exact congrArg (fun b => Ending.returned (.string b)) (ext_takeV l 6), HBb.out⟩
        · have HN := hide (show woFrac l = l by rw [HW.out, ha]; simp only [h4]; simp)
          have h4I : 4 < ((l.length - 7 : Nat) : Int) := by omega
          have h4J : 4 < (l.drop 7).length := by omega
          clear ha
          go_wp2
          go_ret
          exact ⟨by rw [HN.out] <;> rfl, HBb.out⟩
    · have g1 : ((l[6].toNat : Int) != 46) = true := by
        have h2 : ¬ l[6].toNat = 46 := fun e => hd (UInt8.toNat_inj.1 e)
        simp; omega
      have HN := hide (show woFrac l = l by rw [HW.out, show (l[6] == 46) = false by simpa using hd]; rfl)
      clear hd
      go_enter Tryd.func20, Tryd.ntmps20
      go_wp2
      go_ret
      exact ⟨by rw [HN.out] <;> rfl, Below.refl _ _⟩
  · have hn : (l.length : Int) ≤ 6 := by omega
    have HN := hide (show woFrac l = l by unfold woFrac; simp [h6])
    go_enter Tryd.func20, Tryd.ntmps20
    go_wp2
    go_ret
    exact ⟨by rw [HN.out] <;> rfl, Below.refl _ _⟩
end Go.Proofs.YthlonjfjlkoojaaDoor
