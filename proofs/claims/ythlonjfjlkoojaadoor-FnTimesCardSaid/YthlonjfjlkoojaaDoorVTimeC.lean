/- A clock, a zone, a fraction: of the program; a clock of the model. -/
import Derived.Test.YthlonjfjlkoojaaDoorVTimeM
namespace Go.Proofs.YthlonjfjlkoojaaDoor
open Go.RowKit
theorem ext_takeV (l : List UInt8) (k : Nat) : (⟨l.toArray⟩ : ByteArray).extract 0 k = ⟨(l.take k).toArray⟩ := by
  rw [ext_of, List.extract_eq_take_drop, List.drop_zero, Nat.sub_zero]
theorem ext_dropV (l : List UInt8) (k : Nat) : (⟨l.toArray⟩ : ByteArray).extract k l.length = ⟨(l.drop k).toArray⟩ := by
  rw [ext_of, List.extract_eq_take_drop, List.take_of_length_le (by rw [List.length_drop]; omega)]
theorem clk_nil (ms : List Nat) : clk ms [] = true := by cases ms <;> rfl
theorem clk_one (m : Nat) (ms : List Nat) (l : List UInt8) (h0 : ¬ l = []) (h : l.length < 2) : clk (m :: ms) l = false := by
  unfold clk
  rw [if_neg (by simpa using h0), if_pos h]
theorem clk_step (m : Nat) (ms : List Nat) (l : List UInt8) (h : ¬ l.length < 2) : clk (m :: ms) l = (withinB (l.take 2) 0 m && clk ms (l.drop 2)) := by
  rw [clk]
  rw [if_neg (by cases l with | nil => simp at h | cons b r => simp), if_neg h]
def limC : List Nat := [23, 59, 59]
set_option maxHeartbeats 2000000 in
set_option maxRecDepth 100000 in
theorem clockRight_any (l : List UInt8) (w : World) (hl : l.length ≤ maxLen) (he : ErrsV w) :
    Calls Tryd.prog 21 #[.string ⟨l.toArray⟩] w fun e w' => e = .returned (.bool (clk [23, 59, 59] l)) ∧ Below w.heap.size w w' := by
  unfold maxLen at hl
  obtain ⟨R, hR⟩ : ∃ R, R = clk [23, 59, 59] l := ⟨_, rfl⟩
  rw [← hR]
  have HR := hide hR
  have HE := hide he
  clear hR he
  have i0 : ∀ w, (Instr.index 52 (.agg #[.int .u64 23, .int .u64 59, .int .u64 59]) (.int .i64 0)).run Tryd.prog w = .ok (.int .u64 23) w := fun _ => by kernel_rfl
  have i1 : ∀ w, (Instr.index 52 (.agg #[.int .u64 23, .int .u64 59, .int .u64 59]) (.int .i64 1)).run Tryd.prog w = .ok (.int .u64 59) w := fun _ => by kernel_rfl
  have i2 : ∀ w, (Instr.index 52 (.agg #[.int .u64 23, .int .u64 59, .int .u64 59]) (.int .i64 2)).run Tryd.prog w = .ok (.int .u64 59) w := fun _ => by kernel_rfl
  go_enter Tryd.func21, Tryd.ntmps21
  go_wp2
  go_loopw [0, 8] (fun t i wr => ∃ (X : World) (k : Nat) (y : List UInt8), X = wr ∧ i = .int .i64 (k : Int) ∧ t = .string ⟨y.toArray⟩ ∧ y.length ≤ 2 ^ 63 - 1 ∧ Hid (k = 0 ∧ R = clk [23, 59, 59] y ∨ k = 1 ∧ R = clk [59, 59] y ∨ k = 2 ∧ R = clk [59] y ∨ k = 3 ∧ R = clk [] y) ∧ Hid (Below w.heap.size w X) ∧ Hid (ErrsV X)) (fun _ i _ => 3 - (intOf i).toNat)
  case atStart => exact ⟨_, 0, l, rfl, rfl, rfl, hl, .inl ⟨rfl, HR.out⟩, Below.refl _ _, HE⟩
  case round =>
    obtain ⟨X, k, y, rfl, rfl, rfl, hy, HK, HB, HX⟩ := hrel
    have e0 := toList_of y
    have hyz : (⟨y.toArray⟩ : ByteArray).size = y.length := by simp [ByteArray.size]
    rcases HK.out with ⟨rfl, h⟩ | ⟨rfl, h⟩ | ⟨rfl, h⟩ | ⟨rfl, h⟩
    · have HC := hide h
      clear HK h
      cases hn : y == []
      · have hne : ¬ y = [] := by simpa using hn
        by_cases h2 : y.length < 2
        · have HZ := hide (show R = false by rw [HC.out]; exact clk_one 23 [59, 59] y hne h2)
          have h2i : (y.length : Int) < 2 := by omega
          clear hne
          go_wp2
          go_ret
          exact ⟨ret_bool HZ.out.symm, HB.out⟩
        · have HS := hide (show R = (withinB (y.take 2) 0 23 && clk [59, 59] (y.drop 2)) by rw [HC.out]; exact clk_step 23 [59, 59] y h2)
          have C0 := hide (fun Z hE => numberWithin_any (y.take 2) 0 23 Z (by rw [List.length_take]; omega) hE)
          have h2i : ¬ (y.length : Int) < 2 := by omega
          have HDL := hide (show (y.drop 2).length ≤ 2 ^ 63 - 1 by rw [List.length_drop]; omega)
          have HM := hide (show (3 - ((0 : Nat) + 1) : Nat) < 3 - (0 : Nat) by decide)
          clear hne
          go_wp2_with fail
          rw [ext_takeV]
          refine (C0.out _ HX.out).mono ?_
          rintro e w1 ⟨rfl, hb⟩
          have HB1 := hide (HB.out.trans (hb.mono HB.out.size))
          have HX1 := hide (HX.out.below hb HX.out.1)
          clear hb C0
          generalize withinN (y.take 2) 0 23 = N at *
          cases hw : withinB (y.take 2) 0 23
          · have HZ := hide (show R = false by rw [HS.out, hw]; rfl)
            clear hw
            go_wp2
            go_ret
            exact ⟨ret_bool HZ.out.symm, HB1.out⟩
          · have HN := hide (show R = clk [59, 59] (y.drop 2) by rw [HS.out, hw]; rfl)
            clear hw
            go_wp2
            go_roundw
            case rel => exact ⟨_, 1, y.drop 2, rfl, rfl, by rw [← ext_dropV], HDL.out, .inr (.inl ⟨rfl, HN.out⟩), HB1, HX1⟩
            case measure => simp [intOf]
      · have HZ := hide (show R = true by rw [HC.out, show y = [] by simpa using hn]; exact clk_nil _)
        go_wp2
        go_ret
        exact ⟨ret_bool HZ.out.symm, HB.out⟩
    · have HC := hide h
      clear HK h
      cases hn : y == []
      · have hne : ¬ y = [] := by simpa using hn
        by_cases h2 : y.length < 2
        · have HZ := hide (show R = false by rw [HC.out]; exact clk_one 59 [59] y hne h2)
          have h2i : (y.length : Int) < 2 := by omega
          clear hne
          go_wp2
          go_ret
          exact ⟨ret_bool HZ.out.symm, HB.out⟩
        · have HS := hide (show R = (withinB (y.take 2) 0 59 && clk [59] (y.drop 2)) by rw [HC.out]; exact clk_step 59 [59] y h2)
          have C0 := hide (fun Z hE => numberWithin_any (y.take 2) 0 59 Z (by rw [List.length_take]; omega) hE)
          have h2i : ¬ (y.length : Int) < 2 := by omega
          have HDL := hide (show (y.drop 2).length ≤ 2 ^ 63 - 1 by rw [List.length_drop]; omega)
          have HM := hide (show (3 - ((1 : Nat) + 1) : Nat) < 3 - (1 : Nat) by decide)
          clear hne
          go_wp2_with fail
          rw [ext_takeV]
          refine (C0.out _ HX.out).mono ?_
          rintro e w1 ⟨rfl, hb⟩
          have HB1 := hide (HB.out.trans (hb.mono HB.out.size))
          have HX1 := hide (HX.out.below hb HX.out.1)
          clear hb C0
          generalize withinN (y.take 2) 0 59 = N at *
          cases hw : withinB (y.take 2) 0 59
          · have HZ := hide (show R = false by rw [HS.out, hw]; rfl)
            clear hw
            go_wp2
            go_ret
            exact ⟨ret_bool HZ.out.symm, HB1.out⟩
          · have HN := hide (show R = clk [59] (y.drop 2) by rw [HS.out, hw]; rfl)
            clear hw
            go_wp2
            go_roundw
            case rel => exact ⟨_, 2, y.drop 2, rfl, rfl, by rw [← ext_dropV], HDL.out, .inr (.inr (.inl ⟨rfl, HN.out⟩)), HB1, HX1⟩
            case measure => simp [intOf]
      · have HZ := hide (show R = true by rw [HC.out, show y = [] by simpa using hn]; exact clk_nil _)
        go_wp2
        go_ret
        exact ⟨ret_bool HZ.out.symm, HB.out⟩
    · have HC := hide h
      clear HK h
      cases hn : y == []
      · have hne : ¬ y = [] := by simpa using hn
        by_cases h2 : y.length < 2
        · have HZ := hide (show R = false by rw [HC.out]; exact clk_one 59 [] y hne h2)
          have h2i : (y.length : Int) < 2 := by omega
          clear hne
          go_wp2
          go_ret
          exact ⟨ret_bool HZ.out.symm, HB.out⟩
        · have HS := hide (show R = (withinB (y.take 2) 0 59 && clk [] (y.drop 2)) by rw [HC.out]; exact clk_step 59 [] y h2)
          have C0 := hide (fun Z hE => numberWithin_any (y.take 2) 0 59 Z (by rw [List.length_take]; omega) hE)
          have h2i : ¬ (y.length : Int) < 2 := by omega
          have HDL := hide (show (y.drop 2).length ≤ 2 ^ 63 - 1 by rw [List.length_drop]; omega)
          have HM := hide (show (3 - ((2 : Nat) + 1) : Nat) < 3 - (2 : Nat) by decide)
          clear hne
          go_wp2_with fail
          rw [ext_takeV]
          refine (C0.out _ HX.out).mono ?_
          rintro e w1 ⟨rfl, hb⟩
          have HB1 := hide (HB.out.trans (hb.mono HB.out.size))
          have HX1 := hide (HX.out.below hb HX.out.1)
          clear hb C0
          generalize withinN (y.take 2) 0 59 = N at *
          cases hw : withinB (y.take 2) 0 59
          · have HZ := hide (show R = false by rw [HS.out, hw]; rfl)
            clear hw
            go_wp2
            go_ret
            exact ⟨ret_bool HZ.out.symm, HB1.out⟩
          · have HN := hide (show R = clk [] (y.drop 2) by rw [HS.out, hw]; rfl)
            clear hw
            go_wp2
            go_roundw
            case rel => exact ⟨_, 3, y.drop 2, rfl, rfl, by rw [← ext_dropV], HDL.out, .inr (.inr (.inr ⟨rfl, HN.out⟩)), HB1, HX1⟩
            case measure => simp [intOf]
      · have HZ := hide (show R = true by rw [HC.out, show y = [] by simpa using hn]; exact clk_nil _)
        go_wp2
        go_ret
        exact ⟨ret_bool HZ.out.symm, HB.out⟩
    · have HN := hide h
      clear HK h
      cases hn : y == []
      · have HZ := hide (show R = false by rw [HN.out]; unfold clk; cases y with | nil => simp at hn | cons b r => rfl)
        go_wp2
        go_ret
        exact ⟨ret_bool HZ.out.symm, HB.out⟩
      · have HZ := hide (show R = true by rw [HN.out, show y = [] by simpa using hn]; rfl)
        go_wp2
        go_ret
        exact ⟨ret_bool HZ.out.symm, HB.out⟩
end Go.Proofs.YthlonjfjlkoojaaDoor
