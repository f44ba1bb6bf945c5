/- VersionOf of the model, and the laws of VersionOf and VersionText. -/
import Derived.Test.YtbmnjjgjmfdpcaaVVer
namespace Go.Proofs.Ytbmnjjgjmfdpcaa
open Go.RowKit
set_option maxHeartbeats 2000000 in
theorem specVersionOf_any (s : ByteArray) (w : World) : Calls Try.prog 11 #[.string s] w fun e w' => e = .returned (.int .i64 (verN s)) ∧ Below w.heap.size w w' := by
  obtain ⟨O, hO⟩ : ∃ O, O = verN s := ⟨_, rfl⟩
  rw [← hO]
  have HO := hideV hO
  clear hO
  go_enter Try.func11, Try.ntmps11
  go_wp2_with fail
  go_loopw [3] (fun i wr => ∃ (X : World) (k : Int), X = wr ∧ 1 ≤ k ∧ k ≤ 4 ∧ i = .int .i64 k ∧ Hid (Below w.heap.size w X) ∧ Hid (k = 1 ∨ (k = 2 ∧ (s.toList == [50, 46, 51]) = false) ∨ (k = 3 ∧ (s.toList == [50, 46, 51]) = false ∧ (s.toList == [50, 46, 53, 46, 49]) = false) ∨ (k = 4 ∧ O = 0))) (fun i _ => (4 - intOf i).toNat)
  case atStart => exact ⟨_, 1, rfl, by omega, by omega, rfl, Below.refl _ _, .inl rfl⟩
  case round =>
    obtain ⟨X, k, rfl, h1, h4, rfl, HB, HC⟩ := hrel
    rcases HC.out with rfl | ⟨rfl, n1⟩ | ⟨rfl, n1, n2⟩ | ⟨rfl, h0⟩
    · clear HC
      go_wp2_with fail
      refine (specVersionText_any _ _).mono ?_
      rintro e w1 ⟨rfl, hb⟩
      have HB1 := hideV (HB.out.trans (hb.mono HB.out.size))
      clear hb
      rw [show verT 1 = ⟨#[50, 46, 51]⟩ from rfl]
      cases h : s.toList == [50, 46, 51]
      · have h' : ([50, 46, 51] == s.toList) = false := by rw [Bool.beq_comm]; exact h
        go_wp2
        go_roundw
        case rel => exact ⟨_, 2, rfl, by omega, by omega, rfl, HB1, .inr (.inl ⟨rfl, h⟩)⟩
        case measure => simp [intOf]
      · have h' : ([50, 46, 51] == s.toList) = true := by rw [Bool.beq_comm]; exact h
        have HN := hideV (show O = 1 by rw [HO.out]; simp only [verN, h, if_true])
        go_wp2
        go_ret
        exact ⟨ret_intV HN.out.symm, HB1.out⟩
    · clear HC
      go_wp2_with fail
      refine (specVersionText_any _ _).mono ?_
      rintro e w1 ⟨rfl, hb⟩
      have HB1 := hideV (HB.out.trans (hb.mono HB.out.size))
      clear hb
      rw [show verT 2 = ⟨#[50, 46, 53, 46, 49]⟩ from rfl]
      cases h : s.toList == [50, 46, 53, 46, 49]
      · have h' : ([50, 46, 53, 46, 49] == s.toList) = false := by rw [Bool.beq_comm]; exact h
        go_wp2
        go_roundw
        case rel => exact ⟨_, 3, rfl, by omega, by omega, rfl, HB1, .inr (.inr (.inl ⟨rfl, n1, h⟩))⟩
        case measure => simp [intOf]
      · have h' : ([50, 46, 53, 46, 49] == s.toList) = true := by rw [Bool.beq_comm]; exact h
        have HN := hideV (show O = 2 by rw [HO.out]; simp only [verN, n1, h, if_true, Bool.false_eq_true, if_false])
        go_wp2
        go_ret
        exact ⟨ret_intV HN.out.symm, HB1.out⟩
    · clear HC
      go_wp2_with fail
      refine (specVersionText_any _ _).mono ?_
      rintro e w1 ⟨rfl, hb⟩
      have HB1 := hideV (HB.out.trans (hb.mono HB.out.size))
      clear hb
      rw [show verT 3 = ⟨#[50, 46, 55]⟩ from rfl]
      cases h : s.toList == [50, 46, 55]
      · have h' : ([50, 46, 55] == s.toList) = false := by rw [Bool.beq_comm]; exact h
        have HN := hideV (show O = 0 by rw [HO.out]; simp only [verN, n1, n2, h, Bool.false_eq_true, if_false])
        go_wp2
        go_roundw
        case rel => exact ⟨_, 4, rfl, by omega, by omega, rfl, HB1, .inr (.inr (.inr ⟨rfl, HN.out⟩))⟩
        case measure => simp [intOf]
      · have h' : ([50, 46, 55] == s.toList) = true := by rw [Bool.beq_comm]; exact h
        have HN := hideV (show O = 3 by rw [HO.out]; simp only [verN, n1, n2, h, if_true, Bool.false_eq_true, if_false])
        go_wp2
        go_ret
        exact ⟨ret_intV HN.out.symm, HB1.out⟩
    · have HN := hideV h0
      clear HC h0
      go_wp2
      go_ret
      exact ⟨ret_intV HN.out.symm, HB.out⟩
theorem lawVersionOf (s : ByteArray) (w : World) : Calls Try.prog 4 #[.string s] w fun e w' => e = .returned (.bool true) ∧ Below w.heap.size w w' := by
  by_cases hl : (1048576 : Int) < (s.size : Int)
  · go_enter Try.func4, Try.ntmps4
    go_wp2
    go_ret
    exact ⟨rfl, Below.refl _ _⟩
  · go_enter Try.func4, Try.ntmps4
    go_wp2_with fail
    refine (specVersionOf_any _ _).mono ?_
    rintro e w1 ⟨rfl, hb⟩
    have HB := hideV hb
    clear hb
    go_wp2_with fail
    refine (implVersionOf_any _ _).mono ?_
    rintro e w2 ⟨rfl, rfl⟩
    go_wp2
    go_ret
    exact ⟨rfl, HB.out⟩
theorem lawVersionText (n : Int) (w : World) : Calls Try.prog 5 #[.int .i64 n] w fun e w' => e = .returned (.bool true) ∧ Below w.heap.size w w' := by
  go_enter Try.func5, Try.ntmps5
  go_wp2_with fail
  refine (specVersionText_any _ _).mono ?_
  rintro e w1 ⟨rfl, hb⟩
  have HB := hideV hb
  clear hb
  go_wp2_with fail
  refine (implVersionText_any _ _).mono ?_
  rintro e w2 ⟨rfl, rfl⟩
  go_wp2
  go_ret
  exact ⟨rfl, HB.out⟩
end Go.Proofs.Ytbmnjjgjmfdpcaa
