/- How the program reads a text back: readCode, escaped, standsForItself. -/
import Derived.Test.YtenadacfpdfbkaaFPlainT
import Derived.Test.YtenadacfpdfbkaaFRune
namespace Go.Proofs.Ytenadacfpdfbkaa
open Go.RowKit

theorem extract_data (s : ByteArray) (k : Nat) : (s.extract k s.size).data.toList = s.data.toList.drop k := by
  rw [ByteArray.data_extract, Array.toList_extract]
  rw [List.extract_eq_take_drop]
  exact List.take_of_length_le (by simp)
theorem escAt_short {m : ByteArray} {l : List UInt8} (h : l.length < 3) : escAt m l = none := by
  unfold escAt
  split
  · simp at h; omega
  · rfl
theorem escAt_get {m s : ByteArray} (h : 3 ≤ s.size) : escAt m s.data.toList = if s[0]'(by omega) = bAt m 3 ∧ s[2]'(by omega) = bAt m 3 ∧ 0 ≤ lidx (s[1]'(by omega)) then some (bAt m (lidx (s[1]'(by omega))).toNat) else none := by
  have e := drop_cons s 0 (by omega)
  rw [List.drop_zero] at e
  rw [e, drop_cons s 1 (by omega), drop_cons s 2 (by omega)]
  rfl

set_option maxHeartbeats 2000000 in
theorem readCode_any (m t : ByteArray) (w : World) (hm : m.size ≤ maxLen) (ht : t.size ≤ maxLen) :
    Calls Try.prog 22 #[.string m, .string t] w fun e w' => e = .returned (.int .i64 (if 8000 < m.size ∨ 8000 < t.size then 2 else if marksB m = false then 1 else 0)) ∧ Below w.heap.size w w' := by
  have hm' := hm
  unfold maxLen at hm ht
  by_cases h8 : 8000 < (m.size : Int)
  · go_enter Try.func22, Try.ntmps22
    go_wp2
    go_ret
    exact ⟨ret_intF rfl, Below.refl _ _⟩
  by_cases h9 : 8000 < (t.size : Int)
  · go_enter Try.func22, Try.ntmps22
    go_wp2
    go_ret
    exact ⟨ret_intF rfl, Below.refl _ _⟩
  obtain ⟨R, hR⟩ : ∃ R : Int, R = (if 8000 < m.size ∨ 8000 < t.size then 2 else if marksB m = false then 1 else 0) := ⟨_, rfl⟩
  rw [← hR]
  rw [if_neg (by omega)] at hR
  have HR := hideF hR
  clear hR
  go_enter Try.func22, Try.ntmps22
  go_wp2_with fail
  refine (implMarksRight_any _ _ hm').mono ?_
  rintro e w1 ⟨rfl, hb1⟩
  cases hq : marksB m
  · rw [hq] at HR
    go_wp2
    go_ret
    exact ⟨ret_intF (by rw [HR.out]; rfl), hb1⟩
  · rw [hq] at HR
    go_wp2
    go_ret
    exact ⟨ret_intF (by rw [HR.out]; rfl), hb1⟩

set_option maxHeartbeats 2000000 in
set_option maxRecDepth 100000 in
theorem escaped_yes (m s : ByteArray) (b : Bool) (x : UInt8) (w : World) (hm : m.size = 5) (h : escAt m s.data.toList = some x) :
    Calls Try.prog 34 #[.agg #[.string m, .bool b], .string s] w fun e w' => e = .returned (.tuple #[.int .u8 (x.toNat : Int), .bool true]) ∧ Below w.heap.size w w' := by
  have h3m : 3 < m.size := by omega
  have hs3 : 3 ≤ s.size := by
    rcases Nat.lt_or_ge s.size 3 with h' | h'
    · rw [escAt_short (by rw [bytes_len]; exact h')] at h; cases h
    · exact h'
  rw [escAt_get hs3] at h
  split at h
  · rename_i hh
    obtain ⟨h0, h2, h1⟩ := hh
    simp only [Option.some.injEq] at h
    obtain ⟨q, hq⟩ : ∃ q : Nat, lidx (s[1]'(by omega)) = q := ⟨_, (Int.toNat_of_nonneg h1).symm⟩
    have hq5 : q < m.size := by have := lidx_lt (s[1]'(by omega)); omega
    have hq5i : (q : Int) < 5 := by omega
    rw [hq, Int.toNat_natCast, bAt_get m q hq5] at h
    rw [bAt_get m 3 h3m] at h0 h2
    have HX := hideF h
    have HQ := hideF hq
    have k0 : (((s[0]'(by omega)).toNat : Int) != ((m[3]'h3m).toNat : Int)) = false := by rw [h0]; simp
    have k2 : (((s[2]'(by omega)).toNat : Int) != ((m[3]'h3m).toNat : Int)) = false := by rw [h2]; simp
    have b0 : 0 < s.size := by omega
    have b1 : 1 < s.size := by omega
    have b2 : 2 < s.size := by omega
    have nb : ¬ (s.size : Int) < 3 := by omega
    clear h0 h2 h1 h hq
    go_enter Try.func34, Try.ntmps34
    go_wp2_with fail
    refine (indexByte_any _ _ _).mono ?_
    rintro e w' ⟨rfl, rfl⟩
    rw [u8_back, letters_data]
    rw [show Lib.indexByte letters (s[1]'b1) = (q : Int) from HQ.out]
    go_wp2
    exact bodyPost_ret (v := .tuple #[.int .u8 ((m[q]'hq5).toNat : Int), .bool true]) (by simp [results, Try.results34, go_sem]) rfl ⟨by rw [HX.out], (Below.refl _ _).alloc (Nat.le_refl _) _⟩
  · cases h

set_option maxHeartbeats 2000000 in
set_option maxRecDepth 100000 in
theorem escaped_no (m s : ByteArray) (b : Bool) (w : World) (hm : m.size = 5) (h : escAt m s.data.toList = none) :
    Calls Try.prog 34 #[.agg #[.string m, .bool b], .string s] w fun e w' => e = .returned (.tuple #[.int .u8 0, .bool false]) ∧ Below w.heap.size w w' := by
  have h3m : 3 < m.size := by omega
  by_cases hs3 : (s.size : Int) < 3
  · go_enter Try.func34, Try.ntmps34
    go_wp2
    exact bodyPost_ret (v := .tuple #[.int .u8 0, .bool false]) (by simp [results, Try.results34, go_sem]) rfl ⟨rfl, (Below.refl _ _).alloc (Nat.le_refl _) _⟩
  have b0 : 0 < s.size := by omega
  have b1 : 1 < s.size := by omega
  have b2 : 2 < s.size := by omega
  rw [escAt_get (by omega), bAt_get m 3 h3m] at h
  cases k0 : (((s[0]'b0).toNat : Int) != ((m[3]'h3m).toNat : Int))
  · cases k2 : (((s[2]'b2).toNat : Int) != ((m[3]'h3m).toNat : Int))
    · have hl : lidx (s[1]'b1) < 0 := by
        by_cases h' : lidx (s[1]'b1) < 0
        · exact h'
        · have h' : 0 ≤ lidx (s[1]'b1) := by omega
          rw [if_pos ⟨u8_eq (by simpa using k0), u8_eq (by simpa using k2), h'⟩] at h
          cases h
      have HL := hideF hl
      clear h hl
      go_enter Try.func34, Try.ntmps34
      go_wp2_with fail
      refine (indexByte_any _ _ _).mono ?_
      rintro e w' ⟨rfl, rfl⟩
      rw [u8_back, letters_data]
      have hneg : Lib.indexByte letters (s[1]'b1) < 0 := HL.out
      generalize Lib.indexByte letters (s[1]'b1) = z at hneg
      go_wp2
      exact bodyPost_ret (v := .tuple #[.int .u8 0, .bool false]) (by simp [results, Try.results34, go_sem]) rfl ⟨rfl, (Below.refl _ _).alloc (Nat.le_refl _) _⟩
    · clear h
      go_enter Try.func34, Try.ntmps34
      go_wp2
      exact bodyPost_ret (v := .tuple #[.int .u8 0, .bool false]) (by simp [results, Try.results34, go_sem]) rfl ⟨rfl, (Below.refl _ _).alloc (Nat.le_refl _) _⟩
  · clear h
    go_enter Try.func34, Try.ntmps34
    go_wp2
    exact bodyPost_ret (v := .tuple #[.int .u8 0, .bool false]) (by simp [results, Try.results34, go_sem]) rfl ⟨rfl, (Below.refl _ _).alloc (Nat.le_refl _) _⟩

set_option maxHeartbeats 2000000 in
set_option maxRecDepth 100000 in
theorem stands_low (m : ByteArray) (a : UInt8) (w : World) (ha : a.toNat < 128) :
    Calls Try.prog 35 #[.agg #[.string m, .bool false], .int .i32 (a.toNat : Int)] w fun e w' => e = .returned (.bool (okSelf m a)) ∧ Below w.heap.size w w' := by
  obtain ⟨R, hR⟩ : ∃ R, R = okSelf m a := ⟨_, rfl⟩
  rw [← hR]
  unfold okSelf at hR
  have HR := hideF hR
  clear hR
  go_enter Try.func35, Try.ntmps35
  go_wp2_with fail
  refine (indexRune_low _ _ _ (by omega) (by omega)).mono ?_
  rintro e w' ⟨rfl, rfl⟩
  rw [u8_back]
  generalize Lib.indexByte m.data.toList a = z at HR
  go_wp2_with fail
  refine (isPlain_any _ _).mono ?_
  rintro e w' ⟨rfl, rfl⟩
  cases hp : plainR (a.toNat : Int)
  · rw [hp] at HR
    clear hp
    go_wp2
    go_ret
    exact ⟨by rw [HR.out]; rfl, (Below.refl _ _).alloc (Nat.le_refl _) _⟩
  · rw [hp] at HR
    clear hp
    by_cases hz : z < 0
    · go_wp2
      go_ret
      exact ⟨by rw [HR.out]; simp [hz], (Below.refl _ _).alloc (Nat.le_refl _) _⟩
    · go_wp2
      go_ret
      exact ⟨by rw [HR.out]; simp, (Below.refl _ _).alloc (Nat.le_refl _) _⟩

set_option maxHeartbeats 2000000 in
set_option maxRecDepth 100000 in
theorem stands_high (m : ByteArray) (b : Bool) (r : Int) (w : World) (hm : m.size = 5) (hlow : ∀ b ∈ m.data.toList, b.toNat < 128) (h0 : 128 ≤ r) :
    Calls Try.prog 35 #[.agg #[.string m, .bool b], .int .i32 r] w fun e w' => e = .returned (.bool false) ∧ Below w.heap.size w w' := by
  have hp := plainR_high r h0
  go_enter Try.func35, Try.ntmps35
  go_wp2_with fail
  refine (indexRune_high m r _ hm hlow h0).mono ?_
  rintro e w1 ⟨⟨i, rfl⟩, hb1⟩
  have HB := hideF (((Below.refl w.heap.size w).alloc (Nat.le_refl _) (.cells #[.string m, .bool b] 43)).trans (hb1.mono (by simp)))
  clear hb1
  go_wp2_with fail
  refine (isPlain_any _ _).mono ?_
  rintro e w' ⟨rfl, rfl⟩
  rw [hp]
  go_wp2
  go_ret
  exact ⟨rfl, HB.out⟩
end Go.Proofs.Ytenadacfpdfbkaa
