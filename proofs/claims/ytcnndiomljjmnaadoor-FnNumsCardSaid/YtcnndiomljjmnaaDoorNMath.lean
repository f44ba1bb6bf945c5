/- What is written as a number is read so; of bytes that end too early nothing is read: plain mathematics. -/
import Derived.Test.YtcnndiomljjmnaaDoorNumMath
import Derived.Laws.BytesString
namespace Go.Proofs.YtcnndiomljjmnaaDoor.St4
open Go.RowKit St2 St3
theorem pow9 : (128 : Int) ^ 9 = 9223372036854775808 := by decide
theorem top_small (u v : Int) (k : Nat) (hu : 0 ≤ u) (hk : k ≤ 9) (hv : 128 ≤ v) (hb : u + v * 128 ^ k ≤ 18446744073709551615) : k < 9 := by
  rcases Nat.lt_or_ge k 9 with h | h
  · exact h
  · obtain rfl : k = 9 := by omega
    rw [pow9] at hb
    omega
theorem scan_fwd (s : ByteArray) (a : Nat) : ∀ (f k : Nat) (u v : Int), k + (f + 1) = 10 → 0 ≤ u → 0 ≤ v → (0 < k → 1 ≤ v) → u + v * 128 ^ k ≤ 18446744073709551615 → a + k + (encF (f + 1) v).length ≤ s.size →
    (∀ j (h : j < (encF (f + 1) v).length) (h2 : a + k + j < s.size), ((s[a + k + j]'h2).toNat : Int) = (encF (f + 1) v)[j]) → scan s a (f + 1) k u = (unf (u + v * 128 ^ k), (a : Int) + k + (encF (f + 1) v).length, 0)
  | f, k, u, v, hk, hu, hv, hv1, hb, hsz, hall => by
    by_cases hl : v < 128
    · have he := encF_last f v hl
      rw [he] at hsz hall ⊢
      have hlt : a + k < s.size := by simp at hsz; omega
      have hc := hall 0 (by simp) hlt
      simp only [List.getElem_cons_zero, Nat.add_zero] at hc
      have h1 : ((s[a + k]'hlt).toNat : Int) < 128 ∨ k = 9 := .inl (by omega)
      have h2 : ¬ ((k = 9 ∧ 1 < ((s[a + k]'hlt).toNat : Int)) ∨ (0 < k ∧ ((s[a + k]'hlt).toNat : Int) = 0)) := by
        rintro (⟨rfl, h⟩ | ⟨h, h'⟩)
        · rw [pow9] at hb; omega
        · have := hv1 h; omega
      rw [scan_last s a f k u hlt h1 h2, hc]
      rfl
    · have hk9 := top_small u v k hu (by omega) (by omega) hb
      obtain ⟨f', rfl⟩ : ∃ f', f = f' + 1 := ⟨f - 1, by omega⟩
      have he := encF_more (f' + 1) v (by omega)
      rw [he] at hsz hall ⊢
      simp only [List.length_cons] at hsz
      have hlt : a + k < s.size := by omega
      have hc := hall 0 (by simp) hlt
      simp only [List.getElem_cons_zero, Nat.add_zero] at hc
      have hp := pow128_pos k
      have hm : 0 ≤ v % 128 * 128 ^ k := Int.mul_nonneg (by omega) (Int.le_of_lt hp)
      have hval : u + v % 128 * 128 ^ k + v / 128 * 128 ^ (k + 1) = u + v * 128 ^ k := by
        rw [pow128, Int.add_assoc, ← Int.mul_assoc (v / 128), Int.mul_right_comm (v / 128), ← Int.add_mul, show v % 128 + v / 128 * 128 = v by omega]
      rw [scan_more s a (f' + 1) k u hlt (by omega) hk9, show (((s[a + k]'hlt).toNat : Int) % 128) = v % 128 by omega]
      rw [scan_fwd s a f' (k + 1) (u + v % 128 * 128 ^ k) (v / 128) (by omega) (by omega) (by omega) (by omega) (by rw [hval]; exact hb) (by omega) (fun j h h2 => ?_), hval]
      · simp only [List.length_cons, Prod.mk.injEq, and_true, true_and]
        omega
      · have h3 := hall (j + 1) (by simpa using h) (by omega)
        simp only [List.getElem_cons_succ] at h3
        rw [← h3]
        congr 2
        simp [Nat.add_assoc, Nat.add_comm 1 j]
theorem scan_cut (s : ByteArray) (a : Nat) : ∀ (f k : Nat) (u v : Int), k + (f + 1) = 10 → 0 ≤ u → 0 ≤ v → u + v * 128 ^ k ≤ 18446744073709551615 → s.size + 1 = a + k + (encF (f + 1) v).length →
    (∀ j (h : j < (encF (f + 1) v).length) (h2 : a + k + j < s.size), ((s[a + k + j]'h2).toNat : Int) = (encF (f + 1) v)[j]) → scan s a (f + 1) k u = (0, 0, 4)
  | f, k, u, v, hk, hu, hv, hb, hsz, hall => by
    by_cases hl : v < 128
    · have he := encF_last f v hl
      rw [he] at hsz
      exact scan_short s a f k u (by simp at hsz; omega)
    · have hk9 := top_small u v k hu (by omega) (by omega) hb
      obtain ⟨f', rfl⟩ : ∃ f', f = f' + 1 := ⟨f - 1, by omega⟩
      have he := encF_more (f' + 1) v (by omega)
      have hne : 0 < (encF (f' + 1) (v / 128)).length := List.length_pos_iff.2 (encF_ne f' _)
      rw [he] at hsz hall
      simp only [List.length_cons] at hsz
      have hlt : a + k < s.size := by omega
      have hc := hall 0 (by simp) hlt
      simp only [List.getElem_cons_zero, Nat.add_zero] at hc
      have hp := pow128_pos k
      have hm : 0 ≤ v % 128 * 128 ^ k := Int.mul_nonneg (by omega) (Int.le_of_lt hp)
      have hval : u + v % 128 * 128 ^ k + v / 128 * 128 ^ (k + 1) = u + v * 128 ^ k := by
        rw [pow128, Int.add_assoc, ← Int.mul_assoc (v / 128), Int.mul_right_comm (v / 128), ← Int.add_mul, show v % 128 + v / 128 * 128 = v by omega]
      rw [scan_more s a (f' + 1) k u hlt (by omega) hk9, show (((s[a + k]'hlt).toNat : Int) % 128) = v % 128 by omega]
      refine scan_cut s a f' (k + 1) (u + v % 128 * 128 ^ k) (v / 128) (by omega) (by omega) (by omega) (by rw [hval]; exact hb) (by omega) (fun j h h2 => ?_)
      have h3 := hall (j + 1) (by simpa using h) (by omega)
      simp only [List.getElem_cons_succ] at h3
      rw [← h3]
      congr 2
      simp [Nat.add_assoc, Nat.add_comm 1 j]
theorem unf_fold (n : Int) : unf (fold n) = n := by
  unfold unf fold
  split <;> split <;> omega
theorem bytesOf_at (L : List Int) (j : Nat) (h : j < L.length) (hr : ∀ x ∈ L, 0 ≤ x ∧ x ≤ 255) : (((bytesOf L).data.toList[j]'(by simpa [bytesOf] using h)).toNat : Int) = L[j] := by
  have := hr L[j] (List.getElem_mem h)
  simp [bytesOf]
  omega
/-- A number's bytes between two texts are read as it, with the place behind it. -/
theorem scan_in (A Z : List UInt8) (n : Int) (h0 : -9223372036854775808 ≤ n) (h1 : n ≤ 9223372036854775807) :
    scan ⟨(A ++ (bytesOf (enc n)).data.toList ++ Z).toArray⟩ A.length 10 0 0 = (n, (A.length : Int) + (enc n).length, 0) := by
  have hf := fold_bd n h0 h1
  have hr : ∀ x ∈ enc n, 0 ≤ x ∧ x ≤ 255 := encF_rng 10 _ hf.1
  have hbl : (bytesOf (enc n)).data.toList.length = (enc n).length := by simp [bytesOf]
  have h := scan_fwd ⟨(A ++ (bytesOf (enc n)).data.toList ++ Z).toArray⟩ A.length 9 0 0 (fold n) rfl (by omega) hf.1 (by omega) (by simpa using hf.2) (by
    show A.length + 0 + (enc n).length ≤ _
    simp [ByteArray.size, bytesOf] <;> omega) (fun j hj h2 => by
      have hj' : j < (enc n).length := hj
      refine Eq.trans ?_ (bytesOf_at (enc n) j hj' hr)
      congr 1
      simp only [ByteArray.getElem_eq_getElem_data, List.getElem_toArray, Nat.add_zero]
      rw [List.getElem_append_left (by rw [List.length_append, hbl]; omega), List.getElem_append_right (by omega)]
      simp)
  rw [show (9 + 1 : Nat) = 10 from rfl] at h
  rw [h]
  simp only [Int.pow_zero, Int.mul_one, Int.zero_add, unf_fold]
  simp [enc]
/-- Of a number's bytes without the last one nothing is read. -/
theorem scan_torn (n : Int) (h0 : -9223372036854775808 ≤ n) (h1 : n ≤ 9223372036854775807) :
    scan ⟨((bytesOf (enc n)).data.toList.take ((enc n).length - 1)).toArray⟩ 0 10 0 0 = (0, 0, 4) := by
  have hf := fold_bd n h0 h1
  have hr : ∀ x ∈ enc n, 0 ≤ x ∧ x ≤ 255 := encF_rng 10 _ hf.1
  have hbl : (bytesOf (enc n)).data.toList.length = (enc n).length := by simp [bytesOf]
  have hne : 0 < (enc n).length := List.length_pos_iff.2 (encF_ne 9 _)
  have hsz : (⟨((bytesOf (enc n)).data.toList.take ((enc n).length - 1)).toArray⟩ : ByteArray).size = (enc n).length - 1 := by
    simp only [ByteArray.size, List.size_toArray, List.length_take, hbl]; omega
  have h := scan_cut ⟨((bytesOf (enc n)).data.toList.take ((enc n).length - 1)).toArray⟩ 0 9 0 0 (fold n) rfl (by omega) hf.1 (by simpa using hf.2) (by
    rw [hsz]; show (enc n).length - 1 + 1 = 0 + 0 + (enc n).length; omega) (fun j hj h2 => by
      have hj' : j < (enc n).length := hj
      refine Eq.trans ?_ (bytesOf_at (enc n) j hj' hr)
      congr 1
      simp [ByteArray.getElem_eq_getElem_data])
  exact h
end Go.Proofs.YtcnndiomljjmnaaDoor.St4
