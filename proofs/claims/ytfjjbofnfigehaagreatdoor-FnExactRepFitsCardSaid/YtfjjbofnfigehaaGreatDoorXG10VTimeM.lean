/- A time, over lists: the program's way and the model's come to the same. -/
import Derived.Test.YtfjjbofnfigehaaGreatDoorXG9VDayS
import Derived.Lib.IndexLaws
namespace Go.Proofs.YtfjjbofnfigehaaGreatDoor
open Go.RowKit
/-- A clock: as many numbers of two digits, within these limits, as are there. -/
def clk : List Nat → List UInt8 → Bool
  | [], l => l.isEmpty
  | m :: ms, l => if l.isEmpty then true else if l.length < 2 then false else withinB (l.take 2) 0 m && clk ms (l.drop 2)
theorem allD_dig {l : List UInt8} (h : allD l = true) : digL l = true := by
  simp only [allD, Bool.and_eq_true] at h
  exact h.2
theorem digL_append (a b : List UInt8) : digL (a ++ b) = (digL a && digL b) := by simp [digL]
theorem clk_dig : ∀ (ms : List Nat) (l : List UInt8), clk ms l = true → digL l = true
  | [], l, h => by
    cases l with
    | nil => rfl
    | cons b r => simp [clk] at h
  | m :: ms, l, h => by
    unfold clk at h
    by_cases h0 : l.isEmpty = true
    · cases l with
      | nil => rfl
      | cons b r => simp at h0
    · rw [if_neg h0] at h
      split at h
      · simp at h
      · simp only [Bool.and_eq_true, withinB] at h
        have h1 := allD_dig h.1.1
        have h2 := clk_dig ms _ h.2
        rw [← List.take_append_drop 2 l, digL_append, h1, h2]
        rfl
theorem clk_no (ms : List Nat) (l : List UInt8) (b : UInt8) (hb : b ∈ l) (hd : dgB b = false) : clk ms l = false := by
  cases h : clk ms l
  · rfl
  · have := clk_dig ms l h
    unfold digL at this
    rw [List.all_eq_true] at this
    rw [this b hb] at hd
    simp at hd
def sgn (b : UInt8) : Bool := b == 43 || b == 45
theorem sgn_dig {b : UInt8} (h : sgn b = true) : dgB b = false := by
  simp only [sgn, Bool.or_eq_true, beq_iff_eq] at h
  rcases h with rfl | rfl <;> decide
/-- Is there a zone's sign? -/
def hasSgn (c : List UInt8) : Bool := decide (5 ≤ c.length) && sgn (c.getD (c.length - 5) 0)
def zoneOk (c : List UInt8) : Bool := withinB (c.extract (c.length - 4) (c.length - 2)) 0 14 && withinB (c.extract (c.length - 2) c.length) 0 59
/-- The program: what is left without a right zone. -/
def woZone (c : List UInt8) : List UInt8 := if hasSgn c && zoneOk c then c.take (c.length - 5) else c
def woFrac (c : List UInt8) : List UInt8 := if decide (6 < c.length) && (c.getD 6 0 == 46) && (allD (c.drop 7) && decide ((c.drop 7).length ≤ 4)) then c.take 6 else c
def timeI (v : Int) (c : List UInt8) : Bool := clk [23, 59, 59] ((fun x => if 2 ≤ v then woFrac x else x) (if 3 ≤ v then woZone c else c))
/-- The model. -/
def fracS (v : Int) (c : List UInt8) : Bool :=
  if decide (2 ≤ v) && decide (0 ≤ Lib.indexByte c 46) then
    (if decide (Lib.indexByte c 46 = 6) && (digL (c.drop 7) && (decide (1 ≤ (c.drop 7).length) && decide ((c.drop 7).length ≤ 4))) then clk [23, 59, 59] (c.take 6) else false)
  else clk [23, 59, 59] c
def timeS (v : Int) (c : List UInt8) : Bool :=
  if decide (3 ≤ v) && hasSgn c then (if clk [14, 59, 59] (c.drop (c.length - 4)) then fracS v (c.take (c.length - 5)) else false) else fracS v c
theorem clk4 (l : List UInt8) (h : l.length = 4) : clk [14, 59, 59] l = (withinB (l.extract 0 2) 0 14 && withinB (l.extract 2 4) 0 59) := by
  match l, h with
  | [a, b, c, d], _ => simp [clk]
theorem clk_at (ms : List Nat) (l : List UInt8) (k : Nat) (b : UInt8) (h : l[k]? = some b) (hd : dgB b = false) : clk ms l = false :=
  clk_no ms l b (List.mem_of_getElem? h) hd
theorem frac_eq (v : Int) (c : List UInt8) : fracS v c = clk [23, 59, 59] (if 2 ≤ v then woFrac c else c) := by
  unfold fracS
  by_cases h2 : 2 ≤ v
  · rw [if_pos h2]
    by_cases hk : 0 ≤ Lib.indexByte c 46
    · obtain ⟨k, hk'⟩ : ∃ k : Nat, Lib.indexByte c 46 = (k : Int) := ⟨(Lib.indexByte c 46).toNat, by omega⟩
      obtain ⟨h46, hfirst⟩ := Lib.indexByte_some hk'
      rw [if_pos (by simp [h2, hk])]
      have hno : clk [23, 59, 59] c = false := clk_at _ c k 46 h46 (by decide)
      by_cases h6 : k = 6
      · subst h6
        have hl : 6 < c.length := by
          obtain ⟨hl, _⟩ := List.getElem?_eq_some_iff.1 h46
          exact hl
        have hg : (c.getD 6 0 == 46) = true := by simp [List.getD, h46]
        unfold woFrac
        rw [hg, hk']
        have ha : allD (c.drop 7) = (digL (c.drop 7) && decide (1 ≤ (c.drop 7).length)) := by
          unfold allD
          cases hd : c.drop 7 with
          | nil => rfl
          | cons b r => simp
        rw [ha]
        simp only [hl, decide_true, Bool.true_and]
        cases hd : digL (c.drop 7)
        · simp [hno]
        · by_cases h1 : 1 ≤ (c.drop 7).length
          · by_cases h4 : (c.drop 7).length ≤ 4
            · simp only [h1, h4]; simp
            · simp only [h1, h4]; simp [hno]
          · simp only [h1]; simp [hno]
      · rw [if_neg (by simp; omega)]
        unfold woFrac
        split
        · rename_i hc
          simp only [Bool.and_eq_true, decide_eq_true_eq, beq_iff_eq] at hc
          have h6' : c[6]? = some 46 := by
            have h1 := hc.1.2
            rw [List.getD, List.getElem?_eq_getElem hc.1.1] at h1
            rw [List.getElem?_eq_getElem hc.1.1]
            simpa using h1
          have hlt : k < 6 := by
            rcases Nat.lt_or_ge k 6 with h | h
            · exact h
            · exact absurd h6' (hfirst 6 (by omega))
          exact (clk_at _ _ k 46 (by rw [List.getElem?_take, if_pos hlt]; exact h46) (by decide)).symm
        · exact hno.symm
    · rw [if_neg (by simp; omega)]
      have hm : Lib.indexByte c 46 = -1 := by have := Lib.indexByte_ge c 46; omega
      have hn := Lib.indexByte_none hm 6
      unfold woFrac
      rw [if_neg]
      intro hc
      simp only [Bool.and_eq_true, decide_eq_true_eq, beq_iff_eq] at hc
      refine hn ?_
      have h1 := hc.1.2
      rw [List.getD, List.getElem?_eq_getElem hc.1.1] at h1
      rw [List.getElem?_eq_getElem hc.1.1]
      simpa using h1
  · rw [if_neg h2, if_neg (by simp [h2])]
theorem sgn_at {c : List UInt8} (h : hasSgn c = true) : ∃ b, 5 ≤ c.length ∧ c[c.length - 5]? = some b ∧ sgn b = true := by
  simp only [hasSgn, Bool.and_eq_true, decide_eq_true_eq] at h
  have hl : c.length - 5 < c.length := by omega
  refine ⟨c[c.length - 5], h.1, List.getElem?_eq_getElem hl, ?_⟩
  have h1 := h.2
  rwa [List.getD, List.getElem?_eq_getElem hl] at h1
theorem sgn_frac {c : List UInt8} (h : hasSgn c = true) : clk [23, 59, 59] (woFrac c) = false := by
  obtain ⟨b, h5, hb, hs⟩ := sgn_at h
  have hd := sgn_dig hs
  unfold woFrac
  split
  · rename_i hc
    simp only [Bool.and_eq_true, decide_eq_true_eq, beq_iff_eq] at hc
    rcases Nat.lt_trichotomy (c.length - 5) 6 with h6 | h6 | h6
    · exact clk_at _ _ (c.length - 5) b (by rw [List.getElem?_take, if_pos h6]; exact hb) hd
    · exfalso
      rw [h6] at hb
      have h1 := hc.1.2
      rw [List.getD, hb] at h1
      simp at h1
      subst h1
      simp [sgn] at hs
    · exfalso
      have ha := allD_dig hc.2.1
      have hm : b ∈ c.drop 7 := by
        refine List.mem_of_getElem? (i := c.length - 5 - 7) ?_
        rw [List.getElem?_drop, show 7 + (c.length - 5 - 7) = c.length - 5 by omega]
        exact hb
      unfold digL at ha
      rw [List.all_eq_true] at ha
      rw [ha b hm] at hd
      simp at hd
  · exact clk_at _ _ _ b hb hd
theorem zone_eq (c : List UInt8) (h : 5 ≤ c.length) : clk [14, 59, 59] (c.drop (c.length - 4)) = zoneOk c := by
  rw [clk4 _ (by rw [List.length_drop]; omega)]
  unfold zoneOk
  congr 2
  · rw [List.extract_eq_take_drop, List.extract_eq_take_drop, List.drop_zero, show c.length - 2 - (c.length - 4) = 2 - 0 by omega]
  · rw [List.extract_eq_take_drop, List.extract_eq_take_drop, List.drop_drop, show c.length - 4 + 2 = c.length - 2 by omega, show c.length - (c.length - 2) = 4 - 2 by omega]
theorem time_eq (v : Int) (c : List UInt8) : timeI v c = timeS v c := by
  unfold timeI timeS
  by_cases h3 : 3 ≤ v
  · have h2 : 2 ≤ v := by omega
    simp only [h3, h2, if_true, decide_true, Bool.true_and]
    cases hs : hasSgn c
    · rw [if_neg (by simp), frac_eq, if_pos h2]
      unfold woZone
      rw [hs, if_neg (by simp)]
    · obtain ⟨b, h5, _, _⟩ := sgn_at hs
      rw [if_pos rfl, zone_eq c h5]
      unfold woZone
      rw [hs]
      cases hz : zoneOk c
      · simp only [Bool.true_and, Bool.false_eq_true, if_false]
        exact sgn_frac hs
      · simp only [Bool.true_and, if_true]
        rw [frac_eq, if_pos h2]
  · simp only [h3, if_false, decide_false, Bool.false_and, Bool.false_eq_true]
    rw [frac_eq]
end Go.Proofs.YtfjjbofnfigehaaGreatDoor
/- A clock, a zone, a fraction: of the program; a clock of the model. -/
namespace Go.Proofs.YtfjjbofnfigehaaGreatDoor
open Go.RowKit
theorem ext_takeV (l : List UInt8) (k : Nat) : (⟨l.toArray⟩ : ByteArray).extract 0 k = ⟨(l.take k).toArray⟩ := by
  rw [ext_of, List.extract_eq_take_drop, List.drop_zero, Nat.sub_zero]
theorem ext_dropV (l : List UInt8) (k : Nat) : (⟨l.toArray⟩ : ByteArray).extract k l.length = ⟨(l.drop k).toArray⟩ := by
  rw [ext_of, List.extract_eq_take_drop, List.take_of_length_le (by rw [List.length_drop]; omega)]
theorem clk_nil (ms : List Nat) : clk ms [] = true := by cases ms <;> rfl
theorem clk_one (m : Nat) (ms : List Nat) (l : List UInt8) (h0 : ¬ l = []) (h : l.length < 2) : clk (m :: ms) l = false := by
  unfold clk
  rw [if_neg (by simpa using h0), if_pos h]
theorem clk_step (m : Nat) (ms : List Nat) (l : List UInt8) (h : ¬ l.length < 2) : clk (m :: ms) l = (withinB (l.take 2) 0 m && clk ms (l.drop 2)) := by
  rw [clk]
  rw [if_neg (by cases l with | nil => simp at h | cons b r => simp), if_neg h]
def limC : List Nat := [23, 59, 59]
set_option maxHeartbeats 2000000 in
set_option maxRecDepth 100000 in
theorem clockRight_any (l : List UInt8) (w : World) (hl : l.length ≤ maxLen) (he : ErrsV w) :
    Calls Tryz.prog 92 #[.string ⟨l.toArray⟩] w fun e w' => e = .returned (.bool (clk [23, 59, 59] l)) ∧ Below w.heap.size w w' := by
  unfold maxLen at hl
  obtain ⟨R, hR⟩ : ∃ R, R = clk [23, 59, 59] l := ⟨_, rfl⟩
  rw [← hR]
  have HR := hide hR
  have HE := hide he
  clear hR he
  have i0 : ∀ w, (Instr.index 119 (.agg #[.int .u64 23, .int .u64 59, .int .u64 59]) (.int .i64 0)).run Tryz.prog w = .ok (.int .u64 23) w := fun _ => by kernel_rfl
  have i1 : ∀ w, (Instr.index 119 (.agg #[.int .u64 23, .int .u64 59, .int .u64 59]) (.int .i64 1)).run Tryz.prog w = .ok (.int .u64 59) w := fun _ => by kernel_rfl
  have i2 : ∀ w, (Instr.index 119 (.agg #[.int .u64 23, .int .u64 59, .int .u64 59]) (.int .i64 2)).run Tryz.prog w = .ok (.int .u64 59) w := fun _ => by kernel_rfl
  go_enter Tryz.func92, Tryz.ntmps92
  go_wp2
  go_loopw [0, 8] (fun t i wr => ∃ (X : World) (k : Nat) (y : List UInt8), X = wr ∧ i = .int .i64 (k : Int) ∧ t = .string ⟨y.toArray⟩ ∧ y.length ≤ 2 ^ 63 - 1 ∧ Hid (k = 0 ∧ R = clk [23, 59, 59] y ∨ k = 1 ∧ R = clk [59, 59] y ∨ k = 2 ∧ R = clk [59] y ∨ k = 3 ∧ R = clk [] y) ∧ Hid (Below w.heap.size w X) ∧ Hid (ErrsV X)) (fun _ i _ => 3 - (intOf i).toNat)
  case atStart => exact ⟨_, 0, l, rfl, rfl, rfl, hl, .inl ⟨rfl, HR.out⟩, Below.refl _ _, HE⟩
  case round =>
    obtain ⟨X, k, y, rfl, rfl, rfl, hy, HK, HB, HX⟩ := hrel
    have e0 := toList_of y
    have hyz : (⟨y.toArray⟩ : ByteArray).size = y.length := by simp [ByteArray.size]
    rcases HK.out with ⟨rfl, h⟩ | ⟨rfl, h⟩ | ⟨rfl, h⟩ | ⟨rfl, h⟩
    · have HC := hide h
      clear HK h
      cases hn : y == []
      · have hne : ¬ y = [] := by simpa using hn
        by_cases h2 : y.length < 2
        · have HZ := hide (show R = false by rw [HC.out]; exact clk_one 23 [59, 59] y hne h2)
          have h2i : (y.length : Int) < 2 := by omega
          clear hne
          go_wp2
          go_ret
          exact ⟨ret_bool HZ.out.symm, HB.out⟩
        · have HS := hide (show R = (withinB (y.take 2) 0 23 && clk [59, 59] (y.drop 2)) by rw [HC.out]; exact clk_step 23 [59, 59] y h2)
          have C0 := hide (fun Z hE => numberWithin_any (y.take 2) 0 23 Z (by rw [List.length_take]; omega) hE)
          have h2i : ¬ (y.length : Int) < 2 := by omega
          have HDL := hide (show (y.drop 2).length ≤ 2 ^ 63 - 1 by rw [List.length_drop]; omega)
          have HM := hide (show (3 - ((0 : Nat) + 1) : Nat) < 3 - (0 : Nat) by decide)
          clear hne
          go_wp2_with fail
          rw [ext_takeV]
          refine (C0.out _ HX.out).mono ?_
          rintro e w1 ⟨rfl, hb⟩
          have HB1 := hide (HB.out.trans (hb.mono HB.out.size))
          have HX1 := hide (HX.out.below hb HX.out.1)
          clear hb C0
          generalize withinN (y.take 2) 0 23 = N at *
          cases hw : withinB (y.take 2) 0 23
          · have HZ := hide (show R = false by rw [HS.out, hw]; rfl)
            clear hw
            go_wp2
            go_ret
            exact ⟨ret_bool HZ.out.symm, HB1.out⟩
          · have HN := hide (show R = clk [59, 59] (y.drop 2) by rw [HS.out, hw]; rfl)
            clear hw
            go_wp2
            go_roundw
            case rel => exact ⟨_, 1, y.drop 2, rfl, rfl, by rw [← ext_dropV], HDL.out, .inr (.inl ⟨rfl, HN.out⟩), HB1, HX1⟩
            case measure => simp [intOf]
      · have HZ := hide (show R = true by rw [HC.out, show y = [] by simpa using hn]; exact clk_nil _)
        go_wp2
        go_ret
        exact ⟨ret_bool HZ.out.symm, HB.out⟩
    · have HC := hide h
      clear HK h
      cases hn : y == []
      · have hne : ¬ y = [] := by simpa using hn
        by_cases h2 : y.length < 2
        · have HZ := hide (show R = false by rw [HC.out]; exact clk_one 59 [59] y hne h2)
          have h2i : (y.length : Int) < 2 := by omega
          clear hne
          go_wp2
          go_ret
          exact ⟨ret_bool HZ.out.symm, HB.out⟩
        · have HS := hide (show R = (withinB (y.take 2) 0 59 && clk [59] (y.drop 2)) by rw [HC.out]; exact clk_step 59 [59] y h2)
          have C0 := hide (fun Z hE => numberWithin_any (y.take 2) 0 59 Z (by rw [List.length_take]; omega) hE)
          have h2i : ¬ (y.length : Int) < 2 := by omega
          have HDL := hide (show (y.drop 2).length ≤ 2 ^ 63 - 1 by rw [List.length_drop]; omega)
          have HM := hide (show (3 - ((1 : Nat) + 1) : Nat) < 3 - (1 : Nat) by decide)
          clear hne
          go_wp2_with fail
          rw [ext_takeV]
          refine (C0.out _ HX.out).mono ?_
          rintro e w1 ⟨rfl, hb⟩
          have HB1 := hide (HB.out.trans (hb.mono HB.out.size))
          have HX1 := hide (HX.out.below hb HX.out.1)
          clear hb C0
          generalize withinN (y.take 2) 0 59 = N at *
          cases hw : withinB (y.take 2) 0 59
          · have HZ := hide (show R = false by rw [HS.out, hw]; rfl)
            clear hw
            go_wp2
            go_ret
            exact ⟨ret_bool HZ.out.symm, HB1.out⟩
          · have HN := hide (show R = clk [59] (y.drop 2) by rw [HS.out, hw]; rfl)
            clear hw
            go_wp2
            go_roundw
            case rel => exact ⟨_, 2, y.drop 2, rfl, rfl, by rw [← ext_dropV], HDL.out, .inr (.inr (.inl ⟨rfl, HN.out⟩)), HB1, HX1⟩
            case measure => simp [intOf]
      · have HZ := hide (show R = true by rw [HC.out, show y = [] by simpa using hn]; exact clk_nil _)
        go_wp2
        go_ret
        exact ⟨ret_bool HZ.out.symm, HB.out⟩
    · have HC := hide h
      clear HK h
      cases hn : y == []
      · have hne : ¬ y = [] := by simpa using hn
        by_cases h2 : y.length < 2
        · have HZ := hide (show R = false by rw [HC.out]; exact clk_one 59 [] y hne h2)
          have h2i : (y.length : Int) < 2 := by omega
          clear hne
          go_wp2
          go_ret
          exact ⟨ret_bool HZ.out.symm, HB.out⟩
        · have HS := hide (show R = (withinB (y.take 2) 0 59 && clk [] (y.drop 2)) by rw [HC.out]; exact clk_step 59 [] y h2)
          have C0 := hide (fun Z hE => numberWithin_any (y.take 2) 0 59 Z (by rw [List.length_take]; omega) hE)
          have h2i : ¬ (y.length : Int) < 2 := by omega
          have HDL := hide (show (y.drop 2).length ≤ 2 ^ 63 - 1 by rw [List.length_drop]; omega)
          have HM := hide (show (3 - ((2 : Nat) + 1) : Nat) < 3 - (2 : Nat) by decide)
          clear hne
          go_wp2_with fail
          rw [ext_takeV]
          refine (C0.out _ HX.out).mono ?_
          rintro e w1 ⟨rfl, hb⟩
          have HB1 := hide (HB.out.trans (hb.mono HB.out.size))
          have HX1 := hide (HX.out.below hb HX.out.1)
          clear hb C0
          generalize withinN (y.take 2) 0 59 = N at *
          cases hw : withinB (y.take 2) 0 59
          · have HZ := hide (show R = false by rw [HS.out, hw]; rfl)
            clear hw
            go_wp2
            go_ret
            exact ⟨ret_bool HZ.out.symm, HB1.out⟩
          · have HN := hide (show R = clk [] (y.drop 2) by rw [HS.out, hw]; rfl)
            clear hw
            go_wp2
            go_roundw
            case rel => exact ⟨_, 3, y.drop 2, rfl, rfl, by rw [← ext_dropV], HDL.out, .inr (.inr (.inr ⟨rfl, HN.out⟩)), HB1, HX1⟩
            case measure => simp [intOf]
      · have HZ := hide (show R = true by rw [HC.out, show y = [] by simpa using hn]; exact clk_nil _)
        go_wp2
        go_ret
        exact ⟨ret_bool HZ.out.symm, HB.out⟩
    · have HN := hide h
      clear HK h
      cases hn : y == []
      · have HZ := hide (show R = false by rw [HN.out]; unfold clk; cases y with | nil => simp at hn | cons b r => rfl)
        go_wp2
        go_ret
        exact ⟨ret_bool HZ.out.symm, HB.out⟩
      · have HZ := hide (show R = true by rw [HN.out, show y = [] by simpa using hn]; rfl)
        go_wp2
        go_ret
        exact ⟨ret_bool HZ.out.symm, HB.out⟩
end Go.Proofs.YtfjjbofnfigehaaGreatDoor
