/- How the law compares lists of Rules, and marks them; the law of Rules. -/
import Derived.Test.YtbmnjjgjmfdpcaaVRules
namespace Go.Proofs.Ytbmnjjgjmfdpcaa
open Go.RowKit
theorem rule_row {w : World} {G : Nat} {l : List RuleM} {Z : List Value} {T : TypeId} (h : Row w G T (rcs l ++ Z)) (k : Nat) (hk : k < l.length) :
    w.cell? ⟨G, k * 6, none⟩ = Option.some (.string l[k].seg) ∧ w.cell? ⟨G, k * 6 + 1, none⟩ = Option.some (.int .i64 l[k].fld) ∧ w.cell? ⟨G, k * 6 + 2, none⟩ = Option.some (.int .i64 l[k].ty) ∧ w.cell? ⟨G, k * 6 + 3, none⟩ = Option.some (.bool l[k].must) ∧ w.cell? ⟨G, k * 6 + 4, none⟩ = Option.some (.bool l[k].many) ∧ w.cell? ⟨G, k * 6 + 5, none⟩ = Option.some (.int .i64 l[k].since) := by
  have hl := rcs_len l
  obtain ⟨p0, p1, p2, p3, p4, p5⟩ := rcs_get l k hk
  refine ⟨?_, ?_, ?_, ?_, ?_, ?_⟩
  all_goals rw [h.cell, List.getElem?_append_left (by omega)]; assumption
set_option maxHeartbeats 4000000 in
theorem eqRuleS_same (G G' n : Nat) (l : List RuleM) (w : World) (hn : l.length = n) (hm : n ≤ 100) (hr : Row w G 32 (rcs l)) (hr' : Row w G' 32 (rcs l)) :
    Calls Try.prog 8 #[.slice (some ⟨G, 0, none⟩) n n, .slice (some ⟨G', 0, none⟩) n n] w fun e w' => e = .returned (.bool true) ∧ Below w.heap.size w w' := by
  have HN := hide hn
  have HR := hide (show Row w G 32 (rcs l ++ []) by rw [List.append_nil]; exact hr)
  have HR' := hide (show Row w G' 32 (rcs l ++ []) by rw [List.append_nil]; exact hr')
  clear hr hr' hn
  go_enter Try.func8, Try.ntmps8
  go_wp2
  go_loopw [5] (fun i wr => ∃ k : Nat, k ≤ n ∧ i = .int .i64 k ∧ Hid (Below w.heap.size w wr)) (fun i _ => n - (intOf i).toNat)
  case atStart => exact ⟨0, Nat.zero_le _, rfl, Below.refl _ _⟩
  case round =>
    obtain ⟨k, hk, rfl, HBel⟩ := hrel
    by_cases hlt : k < n
    · have hkl : k < l.length := by have := HN.out; omega
      obtain ⟨a0, a1, a2, a3, a4, a5⟩ := rule_row (HR.out.below HBel.out HR.out.lt) k hkl
      obtain ⟨b0, b1, b2, b3, b4, b5⟩ := rule_row (HR'.out.below HBel.out HR'.out.lt) k hkl
      have HV : Hid ((l[k]'hkl).v = .agg #[.string (l[k]'hkl).seg, .int .i64 (l[k]'hkl).fld, .int .i64 (l[k]'hkl).ty, .bool (l[k]'hkl).must, .bool (l[k]'hkl).many, .int .i64 (l[k]'hkl).since]) := rfl
      have HE := hide (fun X => eqRule_same (l[k]'hkl) X)
      rw [HV.out] at HE
      generalize (l[k]'hkl) = r at *
      have hki : (k : Int) < (n : Int) := by omega
      go_wp2_with fail
      go_region_with (go_at_call 15; refine (HE.out _).mono ?_; rintro e w2 ⟨rfl, hb2⟩)
      all_goals
        have HB2 := hide (HBel.out.trans ((below_drew hb2).mono HBel.out.size))
        clear hb2
        go_wp2
        go_roundw
        case rel => exact ⟨k + 1, by omega, by go_num, HB2⟩
        case measure => simp [intOf]; omega
    · go_wp2
      go_ret
      exact ⟨rfl, HBel.out⟩
set_option maxHeartbeats 8000000 in
theorem markRuleS_any (G n : Nat) (cs : List Value) (k : Nat) (w : World) (hcap : cs.length = n * 6) (hm : n ≤ 100) (hk : k ≤ 1000) (hr : Row w G 32 cs) :
    Calls Try.prog 9 #[.slice (some ⟨G, 0, none⟩) n n, .int .i64 (k : Int)] w fun e w' =>
      e = .returned (.int .i64 ((k + n * 6 : Nat) : Int)) ∧ Row w' G 32 (rcs (marksR k n)) ∧ Only G w w' := by
  have HR := hide hr
  have HL := hide hcap
  clear hr hcap
  go_enter Try.func9, Try.ntmps9
  go_wp2
  go_loopw [1, 5] (fun x i wr => ∃ j : Nat, j ≤ n ∧ i = .int .i64 (j : Int) ∧ x = .int .i64 ((k : Int) + (j : Int) * 6) ∧ Hid (Row wr G 32 (rcs (marksR k j) ++ cs.drop (j * 6))) ∧ Hid (Only G w wr)) (fun _ i _ => n - (intOf i).toNat)
  case atStart => exact ⟨0, Nat.zero_le _, rfl, by simp, HR.out, Only.refl _ _⟩
  case round =>
    obtain ⟨j, hj, rfl, rfl, HRow, HO⟩ := hrel
    by_cases hlt : j < n
    · have HLEN := hide (markR_len k cs j (by rw [HL.out]; omega))
      have ek : ((k : Int) + (j : Int) * 6) = ((k + j * 6 : Nat) : Int) := by simp
      obtain ⟨K, hK⟩ : ∃ K : Nat, K = k + j * 6 := ⟨_, rfl⟩
      rw [ek, ← hK]
      have hKb : K ≤ 2000 := by omega
      have HK := hide hK
      clear ek hK
      go_wp2_with fail
      refine (markText_any K _ (by omega)).mono ?_
      rintro e w2 ⟨rfl, hb2⟩
      have hrow2 := HRow.out.below hb2 HRow.out.lt
      have hlen : (rcs (marksR k j) ++ cs.drop (j * 6)).length = n * 6 := by rw [HLEN.out, HL.out]
      obtain ⟨u0, hu0⟩ := hrow2.some (j * 6) (by rw [hlen]; omega)
      obtain ⟨u1, hu1⟩ := hrow2.some (j * 6 + 1) (by rw [hlen]; omega)
      obtain ⟨u2, hu2⟩ := hrow2.some (j * 6 + 2) (by rw [hlen]; omega)
      obtain ⟨u3, hu3⟩ := hrow2.some (j * 6 + 3) (by rw [hlen]; omega)
      obtain ⟨u4, hu4⟩ := hrow2.some (j * 6 + 4) (by rw [hlen]; omega)
      obtain ⟨u5, hu5⟩ := hrow2.some (j * 6 + 5) (by rw [hlen]; omega)
      have hf0 := hrow2.free (j * 6)
      have hf1 := hrow2.free (j * 6 + 1)
      have hf2 := hrow2.free (j * 6 + 2)
      have hf3 := hrow2.free (j * 6 + 3)
      have hf4 := hrow2.free (j * 6 + 4)
      have hf5 := hrow2.free (j * 6 + 5)
      have hnext := (((((hrow2.set (j := j * 6) (.string (markOf K))).set (j := j * 6 + 1) (.int .i64 ((K : Int) + 1))).set (j := j * 6 + 2) (.int .i64 ((K : Int) + 2))).set (j := j * 6 + 3) (.bool (((K : Int) + 1 + 1 + 1) % 3 == 0))).set (j := j * 6 + 4) (.bool (((K : Int) + 1 + 1 + 1 + 1) % 3 == 0))).set (j := j * 6 + 5) (.int .i64 ((K : Int) + 5))
      rw [markR_next k cs j (by rw [HL.out]; omega) _ _ _ _ _ _ (by rw [← HK.out]; rfl)] at hnext
      have HN := hide hnext
      have HM := hide (((((((HO.out.below hb2).set (j := j * 6) (.string (markOf K))).set (j := j * 6 + 1) (.int .i64 ((K : Int) + 1))).set (j := j * 6 + 2) (.int .i64 ((K : Int) + 2))).set (j := j * 6 + 3) (.bool (((K : Int) + 1 + 1 + 1) % 3 == 0))).set (j := j * 6 + 4) (.bool (((K : Int) + 1 + 1 + 1 + 1) % 3 == 0))).set (j := j * 6 + 5) (.int .i64 ((K : Int) + 5)))
      clear hnext hrow2 hb2 hlen
      go_wp2
      go_roundw
      case rel => exact ⟨j + 1, by omega, by go_num, by have := HK.out; go_num, HN, HM⟩
      case measure => simp [intOf]; omega
    · have hjn : j = n := by omega
      subst hjn
      have HE := hide (show Row wr G 32 (rcs (marksR k j)) by
        have := HRow.out
        rwa [List.drop_eq_nil_of_le (by rw [HL.out]; omega), List.append_nil] at this)
      go_wp2
      go_ret
      exact ⟨ret_int (by simp), HE.out, HO.out⟩
end Go.Proofs.Ytbmnjjgjmfdpcaa
