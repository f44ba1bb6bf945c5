/- The Name of a Segment: of the model and of the program. -/
import Derived.Test.YtholbhjfmfanbaaGreatFMarks
namespace Go.Proofs.YtholbhjfmfanbaaGreat
open Go.RowKit
def nmAt (s : ByteArray) (j : Nat) : Bool := if h : j < s.size then digCapB ((s[j]'h).toNat : Int) && !(decide (j = 0) && decide (((s[j]'h).toNat : Int) ≤ 57)) else true
def name3 (s : ByteArray) : Bool := decide (s.size = 3) && (List.range s.size).all (nmAt s)
theorem name3_size {s : ByteArray} (h : s.size ≠ 3) : name3 s = false := by simp [name3, h]
theorem name3_yes {s : ByteArray} (h1 : s.size = 3) (h : ∀ j, j < s.size → nmAt s j = true) : name3 s = true := by
  simp only [name3, Bool.and_eq_true, decide_eq_true_eq]
  exact ⟨h1, List.all_eq_true.2 fun j hj => h j (List.mem_range.1 hj)⟩
theorem name3_no {s : ByteArray} (k : Nat) (hk : k < s.size) (h : nmAt s k = false) : name3 s = false := by
  simp only [name3, Bool.and_eq_false_iff]
  exact .inr (List.all_eq_false.2 ⟨k, List.mem_range.2 hk, by simp [h]⟩)
theorem nmAt_eq (s : ByteArray) (k : Nat) (hk : k < s.size) : nmAt s k = (digCapB ((s[k]'hk).toNat : Int) && !(decide (k = 0) && decide (((s[k]'hk).toNat : Int) ≤ 57))) := by simp [nmAt, hk]
theorem nmAt_succ (s : ByteArray) (k : Nat) (h : ∀ j, j < k → nmAt s j = true) (hk : nmAt s k = true) : ∀ j, j < k + 1 → nmAt s j = true := by
  intro j hj
  by_cases e : j = k
  · rw [e]; exact hk
  · exact h j (by omega)
set_option maxHeartbeats 2000000 in
theorem l04Name_any (s : ByteArray) (w : World) :
    Calls Tryz.prog 97 #[.string s] w fun e w' => e = .returned (.bool (name3 s)) ∧ w' = w := by
  by_cases h3 : (s.size : Int) = 3
  · have HS : s.size = 3 := by omega
    have hne : ((s.size : Int) != 3) = false := by simp [h3]
    have b0 : 0 < s.size := by omega
    have H0 := hideF (nmAt_eq s 0 b0)
    by_cases h65 : ((s[0]'b0).toNat : Int) < 65
    · go_enter Tryz.func97, Tryz.ntmps97
      go_wp2
      go_ret
      exact ⟨ret_boolF (name3_no 0 b0 (by rw [H0.out]; simp [digCapB]; omega)).symm, rfl⟩
    by_cases h90 : 90 < ((s[0]'b0).toNat : Int)
    · go_enter Tryz.func97, Tryz.ntmps97
      go_wp2
      go_ret
      exact ⟨ret_boolF (name3_no 0 b0 (by rw [H0.out]; simp [digCapB]; omega)).symm, rfl⟩
    have HZ := hideF (show nmAt s 0 = true by rw [H0.out]; simp [digCapB]; omega)
    go_enter Tryz.func97, Tryz.ntmps97
    go_wp2
    go_loop [3] (fun i => ∃ k : Nat, 1 ≤ k ∧ k ≤ 3 ∧ i = .int .i64 k ∧ Hid (∀ j, j < k → nmAt s j = true)) (fun i => 3 - (intOf i).toNat)
    case atStart => exact ⟨1, Nat.le_refl _, by omega, rfl, fun j hj => by rw [show j = 0 by omega]; exact HZ.out⟩
    case round =>
      obtain ⟨k, hk1, hk, rfl, HA⟩ := hrel
      by_cases hlt : k < 3
      · have hlt' : k < s.size := by omega
        have HO := hideF (nmAt_eq s k hlt')
        rcases rune_parts ((s[k]'hlt').toNat : Int) with h | ⟨h, h'⟩ | ⟨h, h'⟩ | ⟨h, h'⟩ | h
        all_goals go_wp2
        all_goals first
          | (go_ret; exact ⟨ret_boolF (name3_no k hlt' (by rw [HO.out]; simp [digCapB]; omega)).symm, rfl⟩)
          | (go_round
             case rel => exact ⟨k + 1, by omega, by omega, by go_num, nmAt_succ s k HA.out (by rw [HO.out]; simp [digCapB]; omega)⟩
             case measure => simp [intOf]; omega)
          | (exfalso; simp at *; omega)
      · go_wp2
        go_ret
        exact ⟨ret_boolF (name3_yes HS (fun j hj => HA.out j (by omega))).symm, rfl⟩
  · have hne : ((s.size : Int) != 3) = true := by simpa using h3
    go_enter Tryz.func97, Tryz.ntmps97
    go_wp2
    go_ret
    exact ⟨ret_boolF (name3_size (by omega)).symm, rfl⟩

theorem digCap_high (r : Int) (h : 128 ≤ r) : digCapB r = false := by simp [digCapB]; omega
set_option maxHeartbeats 2000000 in
theorem nameRight3_any (s : ByteArray) (w : World) :
    Calls Tryz.prog 114 #[.string s] w fun e w' => e = .returned (.bool (name3 s)) ∧ Below w.heap.size w w' := by
  by_cases h3 : (s.size : Int) = 3
  · have HS : s.size = 3 := by omega
    have hne : ((s.size : Int) != 3) = false := by simp [h3]
    go_enter Tryz.func114, Tryz.ntmps114
    go_wp2
    go_loopw [] (fun w' => ∃ k : Nat, k ≤ 3 ∧ w' = w.iter s k ∧ ∀ j, j < k → nmAt s j = true) (fun w' => s.size - w'.iterPos w.heap.size)
    case atStart => exact ⟨0, Nat.zero_le _, rfl, fun j hj => absurd hj (by omega)⟩
    case round =>
      obtain ⟨k, hk, rfl, hall⟩ := hrel
      have HA := hideF hall
      clear hall
      by_cases hlt : k < s.size
      · have HO := hideF (nmAt_eq s k hlt)
        by_cases hasc : (s[k]'hlt).toNat < 128
        · have hnx : ∀ ty, (Instr.next (.pointer (some ⟨w.heap.size, 0, none⟩)) true ty).run Tryz.prog (w.iter s k) = _ := fun ty => run_next_ascii w s k ty hlt hasc
          go_wp2_with fail
          refine (isDigitOrCapital_any _ _).mono ?_
          rintro e w' ⟨rfl, rfl⟩
          cases hm : digCapB ((s[k]'hlt).toNat : Int)
          · rw [hm] at HO; clear hm
            go_wp2
            go_ret
            exact ⟨ret_boolF (name3_no k hlt (by rw [HO.out]; rfl)).symm, below_iter _ _ _⟩
          · rw [hm] at HO; clear hm
            by_cases hk0 : (k : Int) = 0
            · have hkb : ((k : Int) == 0) = true := by simpa using hk0
              have hkn : k = 0 := by omega
              by_cases h57 : ((s[k]'hlt).toNat : Int) ≤ 57
              · have HN := hideF (show nmAt s k = false by rw [HO.out]; simp [hkn]; subst hkn; omega)
                clear hkn hk0
                go_wp2
                go_ret
                exact ⟨ret_boolF (name3_no k hlt HN.out).symm, below_iter _ _ _⟩
              · have HN := hideF (show nmAt s k = true by rw [HO.out]; simp; omega)
                clear hkn hk0
                go_wp2
                go_roundw
                case rel => exact ⟨k + 1, by omega, rfl, nmAt_succ s k HA.out HN.out⟩
                case measure => simp; omega
            · have hkb : ((k : Int) == 0) = false := by simpa using hk0
              have HN := hideF (show nmAt s k = true by rw [HO.out]; simp; omega)
              clear hk0
              go_wp2
              go_roundw
              case rel => exact ⟨k + 1, by omega, rfl, nmAt_succ s k HA.out HN.out⟩
              case measure => simp; omega
        · have hh := decode_high s k hlt (by omega)
          have hm : digCapB ((Utf8.decode s k).1 : Int) = false := digCap_high _ (by omega)
          have hm2 : digCapB ((s[k]'hlt).toNat : Int) = false := digCap_high _ (by omega)
          rw [hm2] at HO; clear hm2
          have hnx : ∀ ty, (Instr.next (.pointer (some ⟨w.heap.size, 0, none⟩)) true ty).run Tryz.prog (w.iter s k) = _ := fun ty => run_next_any w s k ty hlt
          go_wp2_with fail
          refine (isDigitOrCapital_any _ _).mono ?_
          rintro e w' ⟨rfl, rfl⟩
          rw [hm]
          go_wp2
          go_ret
          exact ⟨ret_boolF (name3_no k hlt (by rw [HO.out]; rfl)).symm, below_iter _ _ _⟩
      · have hnx : ∀ ty, (Instr.next (.pointer (some ⟨w.heap.size, 0, none⟩)) true ty).run Tryz.prog (w.iter s k) = _ := fun ty => run_next_end w s k ty hlt
        go_wp2
        go_ret
        exact ⟨ret_boolF (name3_yes HS (fun j hj => HA.out j (by omega))).symm, below_iter _ _ _⟩
  · have hne : ((s.size : Int) != 3) = true := by simpa using h3
    go_enter Tryz.func114, Tryz.ntmps114
    go_wp2
    go_ret
    exact ⟨ret_boolF (name3_size (by omega)).symm, Below.refl _ _⟩
end Go.Proofs.YtholbhjfmfanbaaGreat
