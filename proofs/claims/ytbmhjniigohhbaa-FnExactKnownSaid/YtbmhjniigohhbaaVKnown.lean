/- Known, of the program and of the model; its law. -/
import Derived.Test.YtbmhjniigohhbaaVSch
namespace Go.Proofs.Ytbmhjniigohhbaa
open Go.RowKit
set_option maxHeartbeats 2000000 in
theorem known_any (n : Int) (s : ByteArray) (v : Value) (l : List RuleM) (w : World) (hl : l.length ≤ 28) (hf : ∀ r ∈ l, r.fld ≤ 30) (hr : RRules w v l) :
    Calls Try.prog 9 #[.agg #[.int .i64 n, v], .string s] w fun e w' => e = .returned (.bool (decide (0 < lastL s l))) ∧ Below w.heap.size w w' := by
  have HF := hide hf
  clear hf
  have HR := hide (hr.below ((Below.refl w.heap.size w).alloc (Nat.le_refl _) (.cells #[.int .i64 n, v] 29)) (Nat.le_refl _))
  have HB0 := hide ((Below.refl w.heap.size w).alloc (Nat.le_refl _) (.cells #[.int .i64 n, v] 29))
  obtain ⟨p, cap, rfl, _⟩ := hr
  have HRow := hide (row_new w [.int .i64 n, .slice p l.length cap] 29)
  have c0 : (w.alloc (.cells #[.int .i64 n, .slice p l.length cap] 29)).cell? ⟨w.heap.size, 0, none⟩ = some (.int .i64 n) := HRow.out.cell 0
  have c1 : (w.alloc (.cells #[.int .i64 n, .slice p l.length cap] 29)).cell? ⟨w.heap.size, 1, none⟩ = some (.slice p l.length cap) := HRow.out.cell 1
  go_enter Try.func9, Try.ntmps9
  go_wp2_with fail
  refine (lastRule_any n s _ l _ hl HF.out HR.out).mono ?_
  rintro e w1 ⟨rfl, hb1⟩
  have HB1 := hide (HB0.out.trans (hb1.mono HB0.out.size))
  clear hb1
  obtain ⟨K, hK⟩ : ∃ K, K = lastL s l := ⟨_, rfl⟩
  rw [← hK]
  have HK := hide hK
  clear hK
  by_cases h : 0 < K
  · go_wp2
    go_ret
    exact ⟨ret_bool (by rw [← HK.out]; exact (decide_eq_true h).symm), HB1.out⟩
  · go_wp2
    go_ret
    exact ⟨ret_bool (by rw [← HK.out]; first | done | exact (decide_eq_false (by omega)).symm), HB1.out⟩
theorem schL_len (n : Int) : (schL n).length ≤ 28 := by
  have := List.length_filter_le (fun r : RuleM => decide (r.since ≤ n)) rulesL
  rw [rulesL_len] at this
  exact this
theorem schL_30 (n : Int) : ∀ r ∈ schL n, r.fld ≤ 30 := fun r h => (rulesL_fld r (List.mem_filter.1 h).1).2.1
theorem lastL_nil (s : ByteArray) : lastL s [] = 0 := rfl
set_option maxHeartbeats 2000000 in
theorem implKnown_any (n : Int) (s : ByteArray) (w : World) :
    Calls Try.prog 5 #[.int .i64 n, .string s] w fun e w' => e = .returned (.bool (knownB n s)) ∧ Below w.heap.size w w' := by
  go_enter Try.func5, Try.ntmps5
  go_wp2_with fail
  refine (schemaOf_any n _).mono ?_
  rintro e w1 ⟨v, rfl, hr, hb1⟩
  have HB1 := hide hb1
  have HR := hide hr
  clear hb1 hr
  cases hv : verB n
  · rw [hv] at HR
    have HR' : Hid (RRules w1 v []) := HR
    have e0 : (if false = true then n else (0 : Int)) = 0 := rfl
    rw [e0]
    go_wp2_with fail
    refine (known_any 0 s v [] _ (by simp) (by simp) HR'.out).mono ?_
    rintro e w2 ⟨rfl, hb2⟩
    have HB2 := hide (HB1.out.trans (hb2.mono HB1.out.size))
    have HE : Hid (decide (0 < lastL s []) = knownB n s) := by rw [knownB, hv]; exact rfl
    clear hb2
    rw [HE.out]
    go_wp2
    go_ret
    exact ⟨rfl, HB2.out⟩
  · rw [hv] at HR
    have HR' : Hid (RRules w1 v (schL n)) := HR
    have e0 : (if true = true then n else (0 : Int)) = n := rfl
    rw [e0]
    go_wp2_with fail
    refine (known_any n s v (schL n) _ (schL_len n) (schL_30 n) HR'.out).mono ?_
    rintro e w2 ⟨rfl, hb2⟩
    have HB2 := hide (HB1.out.trans (hb2.mono HB1.out.size))
    have HE : Hid (decide (0 < lastL s (schL n)) = knownB n s) := by rw [knownB, hv, known_eq]; exact rfl
    clear hb2
    rw [HE.out]
    go_wp2
    go_ret
    exact ⟨rfl, HB2.out⟩
set_option maxHeartbeats 2000000 in
set_option maxRecDepth 100000 in
theorem specKnown_any (n : Int) (s : ByteArray) (w : World) :
    Calls Try.prog 4 #[.int .i64 n, .string s] w fun e w' => e = .returned (.bool (knownB n s)) ∧ Below w.heap.size w w' := by
  have HAN := hide (fun k h => any_snoc (hasR n s) rulesL k h)
  have HL28 := hide rulesL_len
  go_enter Try.func4, Try.ntmps4
  go_wp2_with fail
  refine (specRules_any _).mono ?_
  rintro e w1 ⟨rfl, hrow, hb1⟩
  have HB := hide hb1
  have HR := hide hrow
  clear hb1 hrow
  cases hv : verB n
  · have HE : Hid (knownB n s = false) := by rw [knownB, hv]; exact rfl
    have HV := hide (fun X => l06Version_any n X)
    rw [hv] at HV
    go_wp2_with fail
    refine wp_loop_rounds 1 ?_
    rw [rounds_succ]
    go_wp2_with fail
    refine (HV.out _).mono ?_
    rintro e w2 ⟨rfl, rfl⟩
    go_wp2
    go_ret
    exact ⟨ret_bool HE.out.symm, HB.out⟩
  · have HV := hide (fun X => l06Version_any n X)
    rw [hv] at HV
    have HKB := hide (show knownB n s = rulesL.any (hasR n s) by rw [knownB, hv]; exact rfl)
    go_wp2_with fail
    go_loopw [6] (fun i wr => ∃ (X : World) (k : Nat), X = wr ∧ k ≤ 28 ∧ i = .int .i64 (k : Int) ∧ Hid ((rulesL.take k).any (hasR n s) = false) ∧ Hid (Below w.heap.size w X) ∧ Hid (Row X w.heap.size 27 (rcs rulesL))) (fun i _ => 28 - (intOf i).toNat)
    case atStart => exact ⟨_, 0, rfl, Nat.zero_le _, rfl, hide rfl, HB, HR⟩
    case round =>
      obtain ⟨X, k, rfl, hk, rfl, HA, HB, HR⟩ := hrel
      by_cases hlt : k < 28
      · have hkl : k < rulesL.length := hlt
        have HSN := hide (HAN.out k hkl)
        obtain ⟨a0, a1, a2, a3, a4, a5⟩ := rule_row6 HR.out k hkl
        have hki : (k : Int) < 28 := by omega
        generalize (rulesL[k]'hkl) = r at *
        go_wp2_with fail
        refine (HV.out _).mono ?_
        rintro e w2 ⟨rfl, rfl⟩
        cases hs : (r.seg.toList == s.toList)
        · have HN : Hid ((rulesL.take (k + 1)).any (hasR n s) = false) := by rw [HSN.out, HA.out, hasR, hs]; exact rfl
          go_wp2
          go_roundw
          case rel => exact ⟨_, k + 1, rfl, by omega, by go_num, HN, HB, HR⟩
          case measure => simp [intOf]; omega
        · by_cases hsi : r.since ≤ n
          · have HE : Hid (knownB n s = true) := by
              rw [HKB.out]
              refine List.any_eq_true.2 ?_
              have h1 : (rulesL.take (k + 1)).any (hasR n s) = true := by rw [HSN.out, HA.out, hasR, hs, decide_eq_true hsi]; exact rfl
              obtain ⟨x, hx, hp⟩ := List.any_eq_true.1 h1
              exact ⟨x, List.mem_of_mem_take hx, hp⟩
            go_wp2
            go_ret
            exact ⟨ret_bool HE.out.symm, HB.out⟩
          · have HN : Hid ((rulesL.take (k + 1)).any (hasR n s) = false) := by rw [HSN.out, HA.out, hasR, hs, decide_eq_false hsi]; exact rfl
            go_wp2
            go_roundw
            case rel => exact ⟨_, k + 1, rfl, by omega, by go_num, HN, HB, HR⟩
            case measure => simp [intOf]; omega
      · have HE : Hid (knownB n s = false) := by rw [HKB.out]; have := HA.out; rw [List.take_of_length_le (by rw [HL28.out]; omega)] at this; exact this
        go_wp2_with fail
        go_ret
        exact ⟨ret_bool HE.out.symm, HB.out⟩
set_option maxHeartbeats 2000000 in
theorem lawKnown (n : Int) (s : ByteArray) (w : World) :
    Calls Try.prog 3 #[.int .i64 n, .string s] w fun e w' => e = .returned (.bool true) ∧ Below w.heap.size w w' := by
  by_cases h : (s.size : Int) ≤ 1048576
  · go_enter Try.func3, Try.ntmps3
    go_wp2_with fail
    refine (specKnown_any n s _).mono ?_
    rintro e w1 ⟨rfl, hb1⟩
    have HB1 := hide hb1
    clear hb1
    go_wp2_with fail
    refine (implKnown_any n s _).mono ?_
    rintro e w2 ⟨rfl, hb2⟩
    have HB2 := hide (HB1.out.trans (hb2.mono HB1.out.size))
    clear hb2
    have hne : ∀ b : Bool, (b != b) = false := by intro b; cases b <;> rfl
    have h1 := hne (knownB n s)
    generalize knownB n s = K at *
    go_wp2
    go_ret
    exact ⟨rfl, HB2.out⟩
  · go_enter Try.func3, Try.ntmps3
    go_wp2
    go_ret
    exact ⟨rfl, Below.refl _ _⟩
end Go.Proofs.Ytbmhjniigohhbaa
