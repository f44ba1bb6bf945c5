/- The marks looked for again in a list of Rules; the law of Rules. -/
import Derived.Test.YtbmnjjgjmfdpcaaVRulesL
namespace Go.Proofs.Ytbmnjjgjmfdpcaa
open Go.RowKit
theorem bool_ne_same (b : Bool) : (b != b) = false := by cases b <;> rfl
set_option maxHeartbeats 8000000 in
theorem heldRuleS_any (G n : Nat) (k : Nat) (w : World) (hm : n ≤ 100) (hk : k ≤ 1000) (hr : Row w G 32 (rcs (marksR k n))) :
    Calls Try.prog 10 #[.slice (some ⟨G, 0, none⟩) n n, .int .i64 (k : Int)] w fun e w' => e = .returned (.int .i64 ((k + n * 6 : Nat) : Int)) ∧ Below w.heap.size w w' := by
  have HR := hide (show Row w G 32 (rcs (marksR k n) ++ []) by rw [List.append_nil]; exact hr)
  clear hr
  go_enter Try.func10, Try.ntmps10
  go_wp2
  go_loopw [1, 5] (fun x i wr => ∃ j : Nat, j ≤ n ∧ i = .int .i64 (j : Int) ∧ x = .int .i64 ((k : Int) + (j : Int) * 6) ∧ Hid (Below w.heap.size w wr)) (fun _ i _ => n - (intOf i).toNat)
  case atStart => exact ⟨0, Nat.zero_le _, rfl, by simp, Below.refl _ _⟩
  case round =>
    obtain ⟨j, hj, rfl, rfl, HBel⟩ := hrel
    by_cases hlt : j < n
    · have hw := HR.out.lt
      have hcc := rule_row (HR.out.below HBel.out hw) j (by rw [marksR_len]; exact hlt)
      rw [marksR_get] at hcc
      have ek : ((k : Int) + (j : Int) * 6) = ((k + j * 6 : Nat) : Int) := by simp
      obtain ⟨K, hK⟩ : ∃ K : Nat, K = k + j * 6 := ⟨_, rfl⟩
      rw [← hK] at hcc
      rw [ek, ← hK]
      have hKb : K ≤ 2000 := by omega
      have HK := hide hK
      obtain ⟨a0, a1, a2, a3, a4, a5⟩ := hcc
      have a0' : wr.cell? ⟨G, j * 6, none⟩ = some (.string (markOf K)) := a0
      have a1' : wr.cell? ⟨G, j * 6 + 1, none⟩ = some (.int .i64 ((K : Int) + 1)) := a1
      have a2' : wr.cell? ⟨G, j * 6 + 2, none⟩ = some (.int .i64 ((K : Int) + 2)) := a2
      have a3' : wr.cell? ⟨G, j * 6 + 3, none⟩ = some (.bool (((K : Int) + 1 + 1 + 1) % 3 == 0)) := a3
      have a4' : wr.cell? ⟨G, j * 6 + 4, none⟩ = some (.bool (((K : Int) + 1 + 1 + 1 + 1) % 3 == 0)) := a4
      have a5' : wr.cell? ⟨G, j * 6 + 5, none⟩ = some (.int .i64 ((K : Int) + 5)) := a5
      clear a0 a1 a2 a3 a4 a5 ek hK
      have g3 := bool_ne_same (((K : Int) + 1 + 1 + 1) % 3 == 0)
      have g4 := bool_ne_same (((K : Int) + 1 + 1 + 1 + 1) % 3 == 0)
      have gt : ((markOf K).toList == (markOf K).toList) = true := by simp
      have hki : (j : Int) < (n : Int) := by omega
      have hwr : G < wr.heap.size := Nat.lt_of_lt_of_le hw HBel.out.size
      clear hw
      go_wp2_with fail
      go_region_with (go_at_call 16; refine (markText_any K _ (by omega)).mono ?_; rintro e w2 ⟨rfl, hb2⟩; have c0 := (hb2.cell (p := ⟨G, j * 6, none⟩) (by simpa using hwr)).trans a0')
      all_goals
        have c1 := (hb2.cell (p := ⟨G, j * 6 + 1, none⟩) (by simpa using hwr)).trans a1'
        have c2 := (hb2.cell (p := ⟨G, j * 6 + 2, none⟩) (by simpa using hwr)).trans a2'
        have c3 := (hb2.cell (p := ⟨G, j * 6 + 3, none⟩) (by simpa using hwr)).trans a3'
        have c4 := (hb2.cell (p := ⟨G, j * 6 + 4, none⟩) (by simpa using hwr)).trans a4'
        have c5 := (hb2.cell (p := ⟨G, j * 6 + 5, none⟩) (by simpa using hwr)).trans a5'
        have HB2 := hide (HBel.out.trans ((below_drew hb2).mono HBel.out.size))
        clear hb2
        go_wp2
        go_roundw
        case rel => exact ⟨j + 1, by omega, by go_num, by have := HK.out; go_num, HB2⟩
        case measure => simp [intOf]; omega
    · have hjn : j = n := by omega
      subst hjn
      go_wp2
      go_ret
      exact ⟨ret_int (by simp), HBel.out⟩
set_option maxHeartbeats 4000000 in
theorem lawRules (w : World) : Calls Try.prog 3 #[] w fun e w' => e = .returned (.bool true) ∧ Below w.heap.size w w' := by
  have HL := hide rulesL_len
  have HC := hide (show (rcs rulesL).length = 28 * 6 by rw [rcs_len, rulesL_len])
  go_enter Try.func3, Try.ntmps3
  go_wp2_with fail
  refine (specRules_any w).mono ?_
  rintro e w1 ⟨rfl, hr1, hb1⟩
  have HB1 := hide hb1
  have HA1 := hide hr1
  clear hr1 hb1
  obtain ⟨A, hA⟩ : ∃ A, A = w.heap.size := ⟨_, rfl⟩
  rw [← hA] at HA1 ⊢
  have HAW := hide (show w.heap.size ≤ A by omega)
  clear hA
  go_wp2_with fail
  refine (implRules_any w1).mono ?_
  rintro e w2 ⟨rfl, hr2, hb2⟩
  have HB2 := hide (HB1.out.trans (hb2.mono HB1.out.size))
  have HA2 := hide (HA1.out.below hb2 HA1.out.lt)
  have HG2 := hide hr2
  have HAG0 := hide HA1.out.lt
  clear hr2 hb2
  obtain ⟨G, hG⟩ : ∃ G, G = w1.heap.size := ⟨_, rfl⟩
  rw [← hG] at HG2 HAG0 ⊢
  have HGW := hide (show w.heap.size ≤ G by have := HB1.out.size; omega)
  clear hG
  go_wp2_with fail
  refine (eqRuleS_same G A 28 rulesL w2 HL.out (by omega) HG2.out HA2.out).mono ?_
  rintro e w3 ⟨rfl, hb3⟩
  have HB3 := hide (HB2.out.trans (hb3.mono HB2.out.size))
  have HA3 := hide (HA2.out.below hb3 HA2.out.lt)
  have HG3 := hide (HG2.out.below hb3 HG2.out.lt)
  clear hb3
  go_wp2_with fail
  refine (markRuleS_any G 28 (rcs rulesL) 1 w3 HC.out (by omega) (by omega) HG3.out).mono ?_
  rintro e w4 ⟨rfl, hr4, ho4⟩
  have HB4 := hide (ho4.toBelow HB3.out HB3.out.size HGW.out)
  have HA4 := hide (ho4.row HA3.out (by have := HAG0.out; omega))
  have HG4 := hide hr4
  clear hr4 ho4
  rw [show ((1 + 28 * 6 : Nat) : Int) = 169 from rfl]
  go_wp2_with fail
  refine (heldRuleS_any G 28 1 w4 (by omega) (by omega) HG4.out).mono ?_
  rintro e w5 ⟨rfl, hb5⟩
  have HB5 := hide (HB4.out.trans (hb5.mono HB4.out.size))
  have HA5 := hide (HA4.out.below hb5 HA4.out.lt)
  have HG5 := hide (HG4.out.below hb5 HG4.out.lt)
  clear hb5
  rw [show ((1 + 28 * 6 : Nat) : Int) = 169 from rfl]
  go_wp2_with fail
  refine (implRules_any w5).mono ?_
  rintro e w6 ⟨rfl, hr6, hb6⟩
  have HB6 := hide (HB5.out.trans (hb6.mono HB5.out.size))
  have HA6 := hide (HA5.out.below hb6 HA5.out.lt)
  have HG6 := hide (HG5.out.below hb6 HG5.out.lt)
  have HH6 := hide hr6
  clear hr6 hb6
  generalize w5.heap.size = H at *
  go_wp2_with fail
  refine (eqRuleS_same H A 28 rulesL w6 HL.out (by omega) HH6.out HA6.out).mono ?_
  rintro e w7 ⟨rfl, hb7⟩
  have HB7 := hide (HB6.out.trans (hb7.mono HB6.out.size))
  have HG7 := hide (HG6.out.below hb7 HG6.out.lt)
  clear hb7
  go_wp2_with fail
  refine (heldRuleS_any G 28 1 w7 (by omega) (by omega) HG7.out).mono ?_
  rintro e w8 ⟨rfl, hb8⟩
  have HB8 := hide (HB7.out.trans (hb8.mono HB7.out.size))
  clear hb8
  rw [show ((1 + 28 * 6 : Nat) : Int) = 169 from rfl]
  go_wp2
  go_ret
  exact ⟨rfl, HB8.out⟩
end Go.Proofs.Ytbmnjjgjmfdpcaa
