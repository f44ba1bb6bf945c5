/- A day: of the program. -/
import Derived.Test.YtfjjbofnfigehaaGreatDoorXG12VDay
import Derived.Lib.IndexLaws
namespace Go.Proofs.YtfjjbofnfigehaaGreatDoor
open Go.RowKit
theorem list8 {l : List UInt8} (h : l.length = 8) : ∃ b0 b1 b2 b3 b4 b5 b6 b7, l = [b0, b1, b2, b3, b4, b5, b6, b7] := by
  match l, h with
  | [b0, b1, b2, b3, b4, b5, b6, b7], _ => exact ⟨b0, b1, b2, b3, b4, b5, b6, b7, rfl⟩
theorem digL_split (l : List UInt8) (h : l.length = 8) : digL l = (digL (l.extract 0 4) && (digL (l.extract 4 6) && digL (l.extract 6 8))) := by
  obtain ⟨b0, b1, b2, b3, b4, b5, b6, b7, rfl⟩ := list8 h
  simp [digL, Bool.and_assoc]
theorem allD_of (l : List UInt8) (h : 0 < l.length) : allD l = digL l := by
  cases l with
  | nil => simp at h
  | cons b r => rfl
theorem day_eq (l : List UInt8) (h : l.length = 8) : (withinB (l.extract 0 4) 1800 9999 && (withinB (l.extract 4 6) 1 12 && withinB (l.extract 6 8) 1 (daysN (withinN (l.extract 0 4) 1800 9999) (withinN (l.extract 4 6) 1 12)))) = dayB l := by
  have l0 := len_ext l 0 4 (by omega) (by omega)
  have l1 := len_ext l 4 6 (by omega) (by omega)
  have l2 := len_ext l 6 8 (by omega) (by omega)
  have a0 := allD_of (l.extract 0 4) (by omega)
  have a1 := allD_of (l.extract 4 6) (by omega)
  have a2 := allD_of (l.extract 6 8) (by omega)
  unfold dayB
  rw [digL_split l h]
  have n0 : digL (l.extract 0 4) = true → numL (l.extract 0 4) < 10 ^ 4 := fun hd => by have := numL_lt _ hd; rwa [l0] at this
  generalize l.extract 0 4 = y at *
  generalize l.extract 4 6 = m at *
  generalize l.extract 6 8 = d at *
  simp only [h, withinN, withinB, a0, a1, a2]
  cases h0 : digL y
  · simp
  · cases h1 : digL m
    · simp
    · cases h2 : digL d
      · simp
      · have hn := n0 h0
        by_cases k0 : 1800 ≤ numL y
        · have k1 : numL y ≤ 9999 := by omega
          by_cases k2 : 1 ≤ numL m
          · by_cases k3 : numL m ≤ 12
            · simp [k0, k1, k2, k3]
            · simp [k3]
          · simp [k2]
        · simp [k0]
set_option maxHeartbeats 4000000 in
set_option maxRecDepth 100000 in
theorem implDayRight_any (l : List UInt8) (w : World) (he : ErrsV w) :
    Calls Tryz.prog 74 #[.string ⟨l.toArray⟩] w fun e w' => e = .returned (.bool (dayB l)) ∧ Below w.heap.size w w' := by
  have HE := hide he
  clear he
  by_cases h8 : l.length = 8
  · have hne : ((l.length : Int) != 8) = false := by simp; omega
    have HY := hide (day_eq l h8)
    have l0 := len_ext l 0 4 (by omega) (by omega)
    have l1 := len_ext l 4 6 (by omega) (by omega)
    have l2 := len_ext l 6 8 (by omega) (by omega)
    have C0 := hide (fun X hE => numberWithin_any (l.extract 0 4) 1800 9999 X (by omega) hE)
    have C1 := hide (fun X hE => numberWithin_any (l.extract 4 6) 1 12 X (by omega) hE)
    have C2 := hide (fun n X hE => numberWithin_any (l.extract 6 8) 1 n X (by omega) hE)
    clear l0 l1 l2
    have hY : withinN (l.extract 0 4) 1800 9999 ≤ 100000 := by
      unfold withinN withinB
      split
      · rename_i h
        simp only [Bool.and_eq_true, decide_eq_true_eq] at h
        omega
      · omega
    have HYY := hide hY
    clear hY
    generalize withinN (l.extract 0 4) 1800 9999 = Y at *
    generalize withinB (l.extract 0 4) 1800 9999 = yb at *
    generalize withinN (l.extract 4 6) 1 12 = M at *
    generalize withinB (l.extract 4 6) 1 12 = mb at *
    go_enter Tryz.func74, Tryz.ntmps74
    go_wp2_with fail
    rw [ext_of]
    refine (C0.out _ HE.out).mono ?_
    rintro e w1 ⟨rfl, hb1⟩
    have HB1 := hide hb1
    have HE1 := hide (HE.out.below hb1 HE.out.1)
    clear hb1
    go_wp2_with fail
    rw [ext_of]
    refine (C1.out _ HE1.out).mono ?_
    rintro e w2 ⟨rfl, hb2⟩
    have HB2 := hide (HB1.out.trans (hb2.mono HB1.out.size))
    have HE2 := hide (HE1.out.below hb2 HE1.out.1)
    clear hb2
    go_wp2_with fail
    go_region_with (first | (go_at_call 89; refine (daysOf_any Y M _ HYY.out).mono ?_; rintro e w3 ⟨rfl, rfl⟩) | (go_at_call 88; rw [ext_of]; refine (C2.out (daysN Y M) _ ?_).mono ?_; exact HE2.out; rintro e w4 ⟨rfl, hb4⟩))
    all_goals
      have HB4 := hide (HB2.out.trans ((below_drew hb4).mono HB2.out.size))
      clear hb4
      generalize withinB (l.extract 6 8) 1 (daysN Y M) = db at *
      generalize withinN (l.extract 6 8) 1 (daysN Y M) = D at *
      clear C0 C1 C2
      cases yb
      · have HN := hide (show dayB l = false by rw [← HY.out]; rfl)
        clear HY
        go_wp2
        go_ret
        exact ⟨ret_bool HN.out.symm, HB4.out⟩
      · cases mb
        · have HN := hide (show dayB l = false by rw [← HY.out]; rfl)
          clear HY
          go_wp2
          go_ret
          exact ⟨ret_bool HN.out.symm, HB4.out⟩
        · have HN := hide (show dayB l = db by rw [← HY.out]; rfl)
          clear HY
          go_wp2
          go_ret
          exact ⟨ret_bool HN.out.symm, HB4.out⟩
  · have hne : ((l.length : Int) != 8) = true := by simp; omega
    have HN := hide (show dayB l = false by simp [dayB, h8])
    go_enter Tryz.func74, Tryz.ntmps74
    go_wp2
    go_ret
    exact ⟨ret_bool HN.out.symm, Below.refl _ _⟩
end Go.Proofs.YtfjjbofnfigehaaGreatDoor
/- A time, over lists: the program's way and the model's come to the same. -/
namespace Go.Proofs.YtfjjbofnfigehaaGreatDoor
open Go.RowKit
/-- A clock: as many numbers of two digits, within these limits, as are there. -/
def clk : List Nat → List UInt8 → Bool
  | [], l => l.isEmpty
  | m :: ms, l => if l.isEmpty then true else if l.length < 2 then false else withinB (l.take 2) 0 m && clk ms (l.drop 2)
theorem allD_dig {l : List UInt8} (h : allD l = true) : digL l = true := by
  simp only [allD, Bool.and_eq_true] at h
  exact h.2
theorem digL_append (a b : List UInt8) : digL (a ++ b) = (digL a && digL b) := by simp [digL]
theorem clk_dig : ∀ (ms : List Nat) (l : List UInt8), clk ms l = true → digL l = true
  | [], l, h => by
    cases l with
    | nil => rfl
    | cons b r => simp [clk] at h
  | m :: ms, l, h => by
    unfold clk at h
    by_cases h0 : l.isEmpty = true
    · cases l with
      | nil => rfl
      | cons b r => simp at h0
    · rw [if_neg h0] at h
      split at h
      · simp at h
      · simp only [Bool.and_eq_true, withinB] at h
        have h1 := allD_dig h.1.1
        have h2 := clk_dig ms _ h.2
        rw [← List.take_append_drop 2 l, digL_append, h1, h2]
        rfl
theorem clk_no (ms : List Nat) (l : List UInt8) (b : UInt8) (hb : b ∈ l) (hd : dgB b = false) : clk ms l = false := by
  cases h : clk ms l
  · rfl
  · have := clk_dig ms l h
    unfold digL at this
    rw [List.all_eq_true] at this
    rw [this b hb] at hd
    simp at hd
def sgn (b : UInt8) : Bool := b == 43 || b == 45
theorem sgn_dig {b : UInt8} (h : sgn b = true) : dgB b = false := by
  simp only [sgn, Bool.or_eq_true, beq_iff_eq] at h
  rcases h with rfl | rfl <;> decide
/-- Is there a zone's sign? -/
def hasSgn (c : List UInt8) : Bool := decide (5 ≤ c.length) && sgn (c.getD (c.length - 5) 0)
def zoneOk (c : List UInt8) : Bool := withinB (c.extract (c.length - 4) (c.length - 2)) 0 14 && withinB (c.extract (c.length - 2) c.length) 0 59
/-- The program: what is left without a right zone. -/
def woZone (c : List UInt8) : List UInt8 := if hasSgn c && zoneOk c then c.take (c.length - 5) else c
def woFrac (c : List UInt8) : List UInt8 := if decide (6 < c.length) && (c.getD 6 0 == 46) && (allD (c.drop 7) && decide ((c.drop 7).length ≤ 4)) then c.take 6 else c
def timeI (v : Int) (c : List UInt8) : Bool := clk [23, 59, 59] ((fun x => if 2 ≤ v then woFrac x else x) (if 3 ≤ v then woZone c else c))
/-- The model. -/
def fracS (v : Int) (c : List UInt8) : Bool :=
  if decide (2 ≤ v) && decide (0 ≤ Lib.indexByte c 46) then
    (if decide (Lib.indexByte c 46 = 6) && (digL (c.drop 7) && (decide (1 ≤ (c.drop 7).length) && decide ((c.drop 7).length ≤ 4))) then clk [23, 59, 59] (c.take 6) else false)
  else clk [23, 59, 59] c
def timeS (v : Int) (c : List UInt8) : Bool :=
  if decide (3 ≤ v) && hasSgn c then (if clk [14, 59, 59] (c.drop (c.length - 4)) then fracS v (c.take (c.length - 5)) else false) else fracS v c
theorem clk4 (l : List UInt8) (h : l.length = 4) : clk [14, 59, 59] l = (withinB (l.extract 0 2) 0 14 && withinB (l.extract 2 4) 0 59) := by
  match l, h with
  | [a, b, c, d], _ => simp [clk]
theorem clk_at (ms : List Nat) (l : List UInt8) (k : Nat) (b : UInt8) (h : l[k]? = some b) (hd : dgB b = false) : clk ms l = false :=
  clk_no ms l b (List.mem_of_getElem? h) hd
theorem frac_eq (v : Int) (c : List UInt8) : fracS v c = clk [23, 59, 59] (if 2 ≤ v then woFrac c else c) := by
  unfold fracS
  by_cases h2 : 2 ≤ v
  · rw [if_pos h2]
    by_cases hk : 0 ≤ Lib.indexByte c 46
    · obtain ⟨k, hk'⟩ : ∃ k : Nat, Lib.indexByte c 46 = (k : Int) := ⟨(Lib.indexByte c 46).toNat, by omega⟩
      obtain ⟨h46, hfirst⟩ := Lib.indexByte_some hk'
      rw [if_pos (by simp [h2, hk])]
      have hno : clk [23, 59, 59] c = false := clk_at _ c k 46 h46 (by decide)
      by_cases h6 : k = 6
      · subst h6
        have hl : 6 < c.length := by
          obtain ⟨hl, _⟩ := List.getElem?_eq_some_iff.1 h46
          exact hl
        have hg : (c.getD 6 0 == 46) = true := by simp [List.getD, h46]
        unfold woFrac
        rw [hg, hk']
        have ha : allD (c.drop 7) = (digL (c.drop 7) && decide (1 ≤ (c.drop 7).length)) := by
          unfold allD
          cases hd : c.drop 7 with
          | nil => rfl
          | cons b r => simp
        rw [ha]
        simp only [hl, decide_true, Bool.true_and]
        cases hd : digL (c.drop 7)
        · simp [hno]
        · by_cases h1 : 1 ≤ (c.drop 7).length
          · by_cases h4 : (c.drop 7).length ≤ 4
            · simp only [h1, h4]; simp
            · simp only [h1, h4]; simp [hno]
          · simp only [h1]; simp [hno]
      · rw [if_neg (by simp; omega)]
        unfold woFrac
        split
        · rename_i hc
          simp only [Bool.and_eq_true, decide_eq_true_eq, beq_iff_eq] at hc
          have h6' : c[6]? = some 46 := by
            have h1 := hc.1.2
            rw [List.getD, List.getElem?_eq_getElem hc.1.1] at h1
            rw [List.getElem?_eq_getElem hc.1.1]
            simpa using h1
          have hlt : k < 6 := by
            rcases Nat.lt_or_ge k 6 with h | h
            · exact h
            · exact absurd h6' (hfirst 6 (by omega))
          exact (clk_at _ _ k 46 (by rw [List.getElem?_take, if_pos hlt]; exact h46) (by decide)).symm
        · exact hno.symm
    · rw [if_neg (by simp; omega)]
      have hm : Lib.indexByte c 46 = -1 := by have := Lib.indexByte_ge c 46; omega
      have hn := Lib.indexByte_none hm 6
      unfold woFrac
      rw [if_neg]
      intro hc
      simp only [Bool.and_eq_true, decide_eq_true_eq, beq_iff_eq] at hc
      refine hn ?_
      have h1 := hc.1.2
      rw [List.getD, List.getElem?_eq_getElem hc.1.1] at h1
      rw [List.getElem?_eq_getElem hc.1.1]
      simpa using h1
  · rw [if_neg h2, if_neg (by simp [h2])]
theorem sgn_at {c : List UInt8} (h : hasSgn c = true) : ∃ b, 5 ≤ c.length ∧ c[c.length - 5]? = some b ∧ sgn b = true := by
  simp only [hasSgn, Bool.and_eq_true, decide_eq_true_eq] at h
  have hl : c.length - 5 < c.length := by omega
  refine ⟨c[c.length - 5], h.1, List.getElem?_eq_getElem hl, ?_⟩
  have h1 := h.2
  rwa [List.getD, List.getElem?_eq_getElem hl] at h1
theorem sgn_frac {c : List UInt8} (h : hasSgn c = true) : clk [23, 59, 59] (woFrac c) = false := by
  obtain ⟨b, h5, hb, hs⟩ := sgn_at h
  have hd := sgn_dig hs
  unfold woFrac
  split
  · rename_i hc
    simp only [Bool.and_eq_true, decide_eq_true_eq, beq_iff_eq] at hc
    rcases Nat.lt_trichotomy (c.length - 5) 6 with h6 | h6 | h6
    · exact clk_at _ _ (c.length - 5) b (by rw [List.getElem?_take, if_pos h6]; exact hb) hd
    · exfalso
      rw [h6] at hb
      have h1 := hc.1.2
      rw [List.getD, hb] at h1
      simp at h1
      subst h1
      simp [sgn] at hs
    · exfalso
      have ha := allD_dig hc.2.1
      have hm : b ∈ c.drop 7 := by
        refine List.mem_of_getElem? (i := c.length - 5 - 7) ?_
        rw [List.getElem?_drop, show 7 + (c.length - 5 - 7) = c.length - 5 by omega]
        exact hb
      unfold digL at ha
      rw [List.all_eq_true] at ha
      rw [ha b hm] at hd
      simp at hd
  · exact clk_at _ _ _ b hb hd
theorem zone_eq (c : List UInt8) (h : 5 ≤ c.length) : clk [14, 59, 59] (c.drop (c.length - 4)) = zoneOk c := by
  rw [clk4 _ (by rw [List.length_drop]; omega)]
  unfold zoneOk
  congr 2
  · rw [List.extract_eq_take_drop, List.extract_eq_take_drop, List.drop_zero, show c.length - 2 - (c.length - 4) = 2 - 0 by omega]
  · rw [List.extract_eq_take_drop, List.extract_eq_take_drop, List.drop_drop, show c.length - 4 + 2 = c.length - 2 by omega, show c.length - (c.length - 2) = 4 - 2 by omega]
theorem time_eq (v : Int) (c : List UInt8) : timeI v c = timeS v c := by
  unfold timeI timeS
  by_cases h3 : 3 ≤ v
  · have h2 : 2 ≤ v := by omega
    simp only [h3, h2, if_true, decide_true, Bool.true_and]
    cases hs : hasSgn c
    · rw [if_neg (by simp), frac_eq, if_pos h2]
      unfold woZone
      rw [hs, if_neg (by simp)]
    · obtain ⟨b, h5, _, _⟩ := sgn_at hs
      rw [if_pos rfl, zone_eq c h5]
      unfold woZone
      rw [hs]
      cases hz : zoneOk c
      · simp only [Bool.true_and, Bool.false_eq_true, if_false]
        exact sgn_frac hs
      · simp only [Bool.true_and, if_true]
        rw [frac_eq, if_pos h2]
  · simp only [h3, if_false, decide_false, Bool.false_and, Bool.false_eq_true]
    rw [frac_eq]
end Go.Proofs.YtfjjbofnfigehaaGreatDoor
