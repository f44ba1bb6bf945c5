/- What is read as a number was written so: plain mathematics. -/
import Derived.Test.YtnpbmaajgiapmaaGreatDoorXGGScan
import Derived.Test.YtnpbmaajgiapmaaGreatDoorXGNNum
import Derived.Laws.BytesString
namespace Go.Proofs.YtnpbmaajgiapmaaGreatDoor
open Go.RowKit St2 St3

theorem pow128 (k : Nat) : (128 : Int) ^ (k + 1) = 128 ^ k * 128 := Int.pow_succ _ _
theorem pow128_pos (k : Nat) : (0 : Int) < 128 ^ k := Int.pow_pos (by omega)
theorem fold_unf (v : Int) (h : 0 ≤ v) : fold (unf v) = v := by
  unfold fold unf
  split <;> split <;> omega
theorem pow_le (k : Nat) (h : k ≤ 8) : (128 : Int) ^ (k + 1) ≤ 9223372036854775808 := by
  match k, h with
  | 0, _ => decide
  | 1, _ => decide
  | 2, _ => decide
  | 3, _ => decide
  | 4, _ => decide
  | 5, _ => decide
  | 6, _ => decide
  | 7, _ => decide
  | 8, _ => decide
  | k + 9, h => omega

theorem scan_back (s : ByteArray) (a : Nat) (n p : Int) : ∀ (f k : Nat) (u : Int), k + f = 10 → 0 ≤ u → u < 128 ^ k → scan s a f k u = (n, p, 0) →
    ∃ v : Int, 0 ≤ v ∧ (0 < k → 1 ≤ v) ∧ n = unf (u + v * 128 ^ k) ∧ u + v * 128 ^ k ≤ 18446744073709551615 ∧ p = (a : Int) + k + (encF f v).length ∧ a + k + (encF f v).length ≤ s.size ∧
      ∀ j (h : j < (encF f v).length) (h2 : a + k + j < s.size), ((s[a + k + j]'h2).toNat : Int) = (encF f v)[j]
  | 0, k, u => fun _ _ _ h => by rw [scan] at h; simp at h
  | f + 1, k, u => fun hk hu hu2 h => by
    rw [scan] at h
    by_cases hlt : a + k < s.size
    · rw [dif_pos hlt] at h
      obtain ⟨c, hc⟩ : ∃ c : Int, c = ((s[a + k]'hlt).toNat : Int) := ⟨_, rfl⟩
      have hc0 : 0 ≤ c ∧ c ≤ 255 := by
        have := (s[a + k]'hlt).toNat_lt
        omega
      rw [← hc] at h
      by_cases hl : c < 128 ∨ k = 9
      · rw [if_pos hl] at h
        by_cases hb : (k = 9 ∧ 1 < c) ∨ (0 < k ∧ c = 0)
        · rw [if_pos hb] at h; simp at h
        · rw [if_neg hb] at h
          have hc1 : c < 128 := by omega
          have he : encF (f + 1) c = [c] := encF_last f c hc1
          refine ⟨c, hc0.1, by omega, ?_, ?_, ?_, ?_, ?_⟩
          · have := congrArg Prod.fst h; exact this.symm
          · by_cases h9 : k = 9
            · subst h9
              have : c ≤ 1 := by omega
              have e : (128 : Int) ^ 9 = 9223372036854775808 := by decide
              rw [e] at hu2 ⊢
              omega
            · have hp := pow_le k (by omega)
              rw [pow128] at hp
              have h1 : c * 128 ^ k ≤ 127 * 128 ^ k := Int.mul_le_mul_of_nonneg_right (by omega) (Int.le_of_lt (pow128_pos k))
              omega
          · have := congrArg (fun x => x.2.1) h
            simp only at this
            rw [he]; simp; omega
          · rw [he]; simp; omega
          · intro j hj h2
            rw [he] at hj
            have : j = 0 := by simpa using hj
            subst this
            simp only [he]
            exact hc.symm
      · rw [if_neg hl] at h
        have hk9 : k < 9 := by omega
        have hm : 0 ≤ c % 128 ∧ c % 128 ≤ 127 := by omega
        have hp := pow128_pos k
        have h1 : c % 128 * 128 ^ k ≤ 127 * 128 ^ k := Int.mul_le_mul_of_nonneg_right hm.2 (Int.le_of_lt hp)
        have h0 : 0 ≤ c % 128 * 128 ^ k := Int.mul_nonneg hm.1 (Int.le_of_lt hp)
        obtain ⟨v, hv0, hv1, hn, hbd, hpp, hsz, hall⟩ := scan_back s a n p f (k + 1) _ (by omega) (by omega) (by rw [pow128]; omega) h
        have hv1 := hv1 (by omega)
        have he : encF (f + 1) (c % 128 + 128 * v) = c :: encF f v := by
          rw [encF_more f _ (by omega)]
          have e1 : (c % 128 + 128 * v) % 128 + 128 = c := by omega
          have e2 : (c % 128 + 128 * v) / 128 = v := by omega
          rw [e1, e2]
        have hval : u + (c % 128 + 128 * v) * 128 ^ k = u + c % 128 * 128 ^ k + v * 128 ^ (k + 1) := by
          rw [pow128, Int.add_mul, Int.add_assoc, show 128 * v * 128 ^ k = v * (128 ^ k * 128) by rw [Int.mul_comm 128 v, Int.mul_assoc, Int.mul_comm 128]]
        refine ⟨c % 128 + 128 * v, by omega, by omega, ?_, ?_, ?_, ?_, ?_⟩
        · rw [hval]; exact hn
        · rw [hval]; exact hbd
        · rw [he, hpp]; simp; omega
        · rw [he]; simp only [List.length_cons]; omega
        · intro j hj h2
          match j with
          | 0 => simp only [he, List.getElem_cons_zero]; exact hc.symm
          | j + 1 =>
            have hj' : j < (encF f v).length := by rw [he] at hj; simpa using hj
            have := hall j hj' (by omega)
            simp only [he, List.getElem_cons_succ]
            rw [← this]
            congr 2
            simp [Nat.add_assoc, Nat.add_comm 1 j]
    · rw [dif_neg hlt] at h; simp at h

/-- What is read as n stands there as n's bytes. -/
theorem scan_enc {s : ByteArray} {a : Nat} {n p : Int} (h : scan s a 10 0 0 = (n, p, 0)) :
    p = (a : Int) + (enc n).length ∧ a + (enc n).length ≤ s.size ∧ -9223372036854775808 ≤ n ∧ n ≤ 9223372036854775807 ∧ ∀ j (h : j < (enc n).length) (h2 : a + j < s.size), ((s[a + j]'h2).toNat : Int) = (enc n)[j] := by
  obtain ⟨v, hv0, _, hn, hbd, hpp, hsz, hall⟩ := scan_back s a n p 10 0 0 rfl (by omega) (by decide) h
  simp only [Int.pow_zero, Int.mul_one, Int.zero_add] at hn hbd
  have he : enc n = encF 10 v := by unfold enc; rw [hn, fold_unf v hv0]
  have hb := unf_bd v hv0 hbd
  rw [he, hn]
  refine ⟨by rw [hpp]; simp, by simpa using hsz, hb.1, hb.2, fun j hj h2 => ?_⟩
  exact hall j hj (by simpa using h2)
end Go.Proofs.YtnpbmaajgiapmaaGreatDoor
/- What is written as a number is read so; of bytes that end too early nothing is read: plain mathematics. -/
namespace Go.Proofs.YtnpbmaajgiapmaaGreatDoor.St4
open Go.RowKit St2 St3
theorem pow9 : (128 : Int) ^ 9 = 9223372036854775808 := by decide
theorem top_small (u v : Int) (k : Nat) (hu : 0 ≤ u) (hk : k ≤ 9) (hv : 128 ≤ v) (hb : u + v * 128 ^ k ≤ 18446744073709551615) : k < 9 := by
  rcases Nat.lt_or_ge k 9 with h | h
  · exact h
  · obtain rfl : k = 9 := by omega
    rw [pow9] at hb
    omega
theorem scan_fwd (s : ByteArray) (a : Nat) : ∀ (f k : Nat) (u v : Int), k + (f + 1) = 10 → 0 ≤ u → 0 ≤ v → (0 < k → 1 ≤ v) → u + v * 128 ^ k ≤ 18446744073709551615 → a + k + (encF (f + 1) v).length ≤ s.size →
    (∀ j (h : j < (encF (f + 1) v).length) (h2 : a + k + j < s.size), ((s[a + k + j]'h2).toNat : Int) = (encF (f + 1) v)[j]) → scan s a (f + 1) k u = (unf (u + v * 128 ^ k), (a : Int) + k + (encF (f + 1) v).length, 0)
  | f, k, u, v, hk, hu, hv, hv1, hb, hsz, hall => by
    by_cases hl : v < 128
    · have he := encF_last f v hl
      rw [he] at hsz hall ⊢
      have hlt : a + k < s.size := by simp at hsz; omega
      have hc := hall 0 (by simp) hlt
      simp only [List.getElem_cons_zero, Nat.add_zero] at hc
      have h1 : ((s[a + k]'hlt).toNat : Int) < 128 ∨ k = 9 := .inl (by omega)
      have h2 : ¬ ((k = 9 ∧ 1 < ((s[a + k]'hlt).toNat : Int)) ∨ (0 < k ∧ ((s[a + k]'hlt).toNat : Int) = 0)) := by
        rintro (⟨rfl, h⟩ | ⟨h, h'⟩)
        · rw [pow9] at hb; omega
        · have := hv1 h; omega
      rw [scan_last s a f k u hlt h1 h2, hc]
      rfl
    · have hk9 := top_small u v k hu (by omega) (by omega) hb
      obtain ⟨f', rfl⟩ : ∃ f', f = f' + 1 := ⟨f - 1, by omega⟩
      have he := encF_more (f' + 1) v (by omega)
      rw [he] at hsz hall ⊢
      simp only [List.length_cons] at hsz
      have hlt : a + k < s.size := by omega
      have hc := hall 0 (by simp) hlt
      simp only [List.getElem_cons_zero, Nat.add_zero] at hc
      have hp := pow128_pos k
      have hm : 0 ≤ v % 128 * 128 ^ k := Int.mul_nonneg (by omega) (Int.le_of_lt hp)
      have hval : u + v % 128 * 128 ^ k + v / 128 * 128 ^ (k + 1) = u + v * 128 ^ k := by
        rw [pow128, Int.add_assoc, ← Int.mul_assoc (v / 128), Int.mul_right_comm (v / 128), ← Int.add_mul, show v % 128 + v / 128 * 128 = v by omega]
      rw [scan_more s a (f' + 1) k u hlt (by omega) hk9, show (((s[a + k]'hlt).toNat : Int) % 128) = v % 128 by omega]
      rw [scan_fwd s a f' (k + 1) (u + v % 128 * 128 ^ k) (v / 128) (by omega) (by omega) (by omega) (by omega) (by rw [hval]; exact hb) (by omega) (fun j h h2 => ?_), hval]
      · simp only [List.length_cons, Prod.mk.injEq, and_true, true_and]
        omega
      · have h3 := hall (j + 1) (by simpa using h) (by omega)
        simp only [List.getElem_cons_succ] at h3
        rw [← h3]
        congr 2
        simp [Nat.add_assoc, Nat.add_comm 1 j]
theorem scan_cut (s : ByteArray) (a : Nat) : ∀ (f k : Nat) (u v : Int), k + (f + 1) = 10 → 0 ≤ u → 0 ≤ v → u + v * 128 ^ k ≤ 18446744073709551615 → s.size + 1 = a + k + (encF (f + 1) v).length →
    (∀ j (h : j < (encF (f + 1) v).length) (h2 : a + k + j < s.size), ((s[a + k + j]'h2).toNat : Int) = (encF (f + 1) v)[j]) → scan s a (f + 1) k u = (0, 0, 4)
  | f, k, u, v, hk, hu, hv, hb, hsz, hall => by
    by_cases hl : v < 128
    · have he := encF_last f v hl
      rw [he] at hsz
      exact scan_short s a f k u (by simp at hsz; omega)
    · have hk9 := top_small u v k hu (by omega) (by omega) hb
      obtain ⟨f', rfl⟩ : ∃ f', f = f' + 1 := ⟨f - 1, by omega⟩
      have he := encF_more (f' + 1) v (by omega)
      have hne : 0 < (encF (f' + 1) (v / 128)).length := List.length_pos_iff.2 (encF_ne f' _)
      rw [he] at hsz hall
      simp only [List.length_cons] at hsz
      have hlt : a + k < s.size := by omega
      have hc := hall 0 (by simp) hlt
      simp only [List.getElem_cons_zero, Nat.add_zero] at hc
      have hp := pow128_pos k
      have hm : 0 ≤ v % 128 * 128 ^ k := Int.mul_nonneg (by omega) (Int.le_of_lt hp)
      have hval : u + v % 128 * 128 ^ k + v / 128 * 128 ^ (k + 1) = u + v * 128 ^ k := by
        rw [pow128, Int.add_assoc, ← Int.mul_assoc (v / 128), Int.mul_right_comm (v / 128), ← Int.add_mul, show v % 128 + v / 128 * 128 = v by omega]
      rw [scan_more s a (f' + 1) k u hlt (by omega) hk9, show (((s[a + k]'hlt).toNat : Int) % 128) = v % 128 by omega]
      refine scan_cut s a f' (k + 1) (u + v % 128 * 128 ^ k) (v / 128) (by omega) (by omega) (by omega) (by rw [hval]; exact hb) (by omega) (fun j h h2 => ?_)
      have h3 := hall (j + 1) (by simpa using h) (by omega)
      simp only [List.getElem_cons_succ] at h3
      rw [← h3]
      congr 2
      simp [Nat.add_assoc, Nat.add_comm 1 j]
theorem unf_fold (n : Int) : unf (fold n) = n := by
  unfold unf fold
  split <;> split <;> omega
theorem bytesOf_at (L : List Int) (j : Nat) (h : j < L.length) (hr : ∀ x ∈ L, 0 ≤ x ∧ x ≤ 255) : (((bytesOf L).data.toList[j]'(by simpa [bytesOf] using h)).toNat : Int) = L[j] := by
  have := hr L[j] (List.getElem_mem h)
  simp [bytesOf]
  omega
/-- A number's bytes between two texts are read as it, with the place behind it. -/
theorem scan_in (A Z : List UInt8) (n : Int) (h0 : -9223372036854775808 ≤ n) (h1 : n ≤ 9223372036854775807) :
    scan ⟨(A ++ (bytesOf (enc n)).data.toList ++ Z).toArray⟩ A.length 10 0 0 = (n, (A.length : Int) + (enc n).length, 0) := by
  have hf := fold_bd n h0 h1
  have hr : ∀ x ∈ enc n, 0 ≤ x ∧ x ≤ 255 := encF_rng 10 _ hf.1
  have hbl : (bytesOf (enc n)).data.toList.length = (enc n).length := by simp [bytesOf]
  have h := scan_fwd ⟨(A ++ (bytesOf (enc n)).data.toList ++ Z).toArray⟩ A.length 9 0 0 (fold n) rfl (by omega) hf.1 (by omega) (by simpa using hf.2) (by
    show A.length + 0 + (enc n).length ≤ _
    simp [ByteArray.size, bytesOf] <;> omega) (fun j hj h2 => by
      have hj' : j < (enc n).length := hj
      refine Eq.trans ?_ (bytesOf_at (enc n) j hj' hr)
      congr 1
      simp only [ByteArray.getElem_eq_getElem_data, List.getElem_toArray, Nat.add_zero]
      rw [List.getElem_append_left (by rw [List.length_append, hbl]; omega), List.getElem_append_right (by omega)]
      simp)
  rw [show (9 + 1 : Nat) = 10 from rfl] at h
  rw [h]
  simp only [Int.pow_zero, Int.mul_one, Int.zero_add, unf_fold]
  simp [enc]
/-- Of a number's bytes without the last one nothing is read. -/
theorem scan_torn (n : Int) (h0 : -9223372036854775808 ≤ n) (h1 : n ≤ 9223372036854775807) :
    scan ⟨((bytesOf (enc n)).data.toList.take ((enc n).length - 1)).toArray⟩ 0 10 0 0 = (0, 0, 4) := by
  have hf := fold_bd n h0 h1
  have hr : ∀ x ∈ enc n, 0 ≤ x ∧ x ≤ 255 := encF_rng 10 _ hf.1
  have hbl : (bytesOf (enc n)).data.toList.length = (enc n).length := by simp [bytesOf]
  have hne : 0 < (enc n).length := List.length_pos_iff.2 (encF_ne 9 _)
  have hsz : (⟨((bytesOf (enc n)).data.toList.take ((enc n).length - 1)).toArray⟩ : ByteArray).size = (enc n).length - 1 := by
    simp only [ByteArray.size, List.size_toArray, List.length_take, hbl]; omega
  have h := scan_cut ⟨((bytesOf (enc n)).data.toList.take ((enc n).length - 1)).toArray⟩ 0 9 0 0 (fold n) rfl (by omega) hf.1 (by simpa using hf.2) (by
    rw [hsz]; show (enc n).length - 1 + 1 = 0 + 0 + (enc n).length; omega) (fun j hj h2 => by
      have hj' : j < (enc n).length := hj
      refine Eq.trans ?_ (bytesOf_at (enc n) j hj' hr)
      congr 1
      simp [ByteArray.getElem_eq_getElem_data])
  exact h
end Go.Proofs.YtnpbmaajgiapmaaGreatDoor.St4
