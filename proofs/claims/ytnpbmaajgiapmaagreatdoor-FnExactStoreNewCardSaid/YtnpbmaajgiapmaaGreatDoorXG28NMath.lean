/- What is written as a number is read so; of bytes that end too early nothing is read: plain mathematics. -/
import Derived.Test.YtnpbmaajgiapmaaGreatDoorXG1NumMath
import Derived.Laws.BytesString
import Derived.Test.YtnpbmaajgiapmaaGreatDoorRows
import Derived.WalkKit
import Derived.WalkSpells
import Derived.Lib.Bytealg
import Derived.Laws.RangeAny
import Derived.OpenShut
namespace Go.Proofs.YtnpbmaajgiapmaaGreatDoor.St4
open Go.RowKit St2 St3
theorem pow9 : (128 : Int) ^ 9 = 9223372036854775808 := by decide
theorem top_small (u v : Int) (k : Nat) (hu : 0 ≤ u) (hk : k ≤ 9) (hv : 128 ≤ v) (hb : u + v * 128 ^ k ≤ 18446744073709551615) : k < 9 := by
  rcases Nat.lt_or_ge k 9 with h | h
  · exact h
  · obtain rfl : k = 9 := by omega
    rw [pow9] at hb
    omega
theorem scan_fwd (s : ByteArray) (a : Nat) : ∀ (f k : Nat) (u v : Int), k + (f + 1) = 10 → 0 ≤ u → 0 ≤ v → (0 < k → 1 ≤ v) → u + v * 128 ^ k ≤ 18446744073709551615 → a + k + (encF (f + 1) v).length ≤ s.size →
    (∀ j (h : j < (encF (f + 1) v).length) (h2 : a + k + j < s.size), ((s[a + k + j]'h2).toNat : Int) = (encF (f + 1) v)[j]) → scan s a (f + 1) k u = (unf (u + v * 128 ^ k), (a : Int) + k + (encF (f + 1) v).length, 0)
  | f, k, u, v, hk, hu, hv, hv1, hb, hsz, hall => by
    by_cases hl : v < 128
    · have he := encF_last f v hl
      rw [he] at hsz hall ⊢
      have hlt : a + k < s.size := by simp at hsz; omega
      have hc := hall 0 (by simp) hlt
      simp only [List.getElem_cons_zero, Nat.add_zero] at hc
      have h1 : ((s[a + k]'hlt).toNat : Int) < 128 ∨ k = 9 := .inl (by omega)
      have h2 : ¬ ((k = 9 ∧ 1 < ((s[a + k]'hlt).toNat : Int)) ∨ (0 < k ∧ ((s[a + k]'hlt).toNat : Int) = 0)) := by
        rintro (⟨rfl, h⟩ | ⟨h, h'⟩)
        · rw [pow9] at hb; omega
        · have := hv1 h; omega
      rw [scan_last s a f k u hlt h1 h2, hc]
      rfl
    · have hk9 := top_small u v k hu (by omega) (by omega) hb
      obtain ⟨f', rfl⟩ : ∃ f', f = f' + 1 := ⟨f - 1, by omega⟩
      have he := encF_more (f' + 1) v (by omega)
      rw [he] at hsz hall ⊢
      simp only [List.length_cons] at hsz
      have hlt : a + k < s.size := by omega
      have hc := hall 0 (by simp) hlt
      simp only [List.getElem_cons_zero, Nat.add_zero] at hc
      have hp := pow128_pos k
      have hm : 0 ≤ v % 128 * 128 ^ k := Int.mul_nonneg (by omega) (Int.le_of_lt hp)
      have hval : u + v % 128 * 128 ^ k + v / 128 * 128 ^ (k + 1) = u + v * 128 ^ k := by
        rw [pow128, Int.add_assoc, ← Int.mul_assoc (v / 128), Int.mul_right_comm (v / 128), ← Int.add_mul, show v % 128 + v / 128 * 128 = v by omega]
      rw [scan_more s a (f' + 1) k u hlt (by omega) hk9, show (((s[a + k]'hlt).toNat : Int) % 128) = v % 128 by omega]
      rw [scan_fwd s a f' (k + 1) (u + v % 128 * 128 ^ k) (v / 128) (by omega) (by omega) (by omega) (by omega) (by rw [hval]; exact hb) (by omega) (fun j h h2 => ?_), hval]
      · simp only [List.length_cons, Prod.mk.injEq, and_true, true_and]
        omega
      · have h3 := hall (j + 1) (by simpa using h) (by omega)
        simp only [List.getElem_cons_succ] at h3
        rw [← h3]
        congr 2
        simp [Nat.add_assoc, Nat.add_comm 1 j]
theorem scan_cut (s : ByteArray) (a : Nat) : ∀ (f k : Nat) (u v : Int), k + (f + 1) = 10 → 0 ≤ u → 0 ≤ v → u + v * 128 ^ k ≤ 18446744073709551615 → s.size + 1 = a + k + (encF (f + 1) v).length →
    (∀ j (h : j < (encF (f + 1) v).length) (h2 : a + k + j < s.size), ((s[a + k + j]'h2).toNat : Int) = (encF (f + 1) v)[j]) → scan s a (f + 1) k u = (0, 0, 4)
  | f, k, u, v, hk, hu, hv, hb, hsz, hall => by
    by_cases hl : v < 128
    · have he := encF_last f v hl
      rw [he] at hsz
      exact scan_short s a f k u (by simp at hsz; omega)
    · have hk9 := top_small u v k hu (by omega) (by omega) hb
      obtain ⟨f', rfl⟩ : ∃ f', f = f' + 1 := ⟨f - 1, by omega⟩
      have he := encF_more (f' + 1) v (by omega)
      have hne : 0 < (encF (f' + 1) (v / 128)).length := List.length_pos_iff.2 (encF_ne f' _)
      rw [he] at hsz hall
      simp only [List.length_cons] at hsz
      have hlt : a + k < s.size := by omega
      have hc := hall 0 (by simp) hlt
      simp only [List.getElem_cons_zero, Nat.add_zero] at hc
      have hp := pow128_pos k
      have hm : 0 ≤ v % 128 * 128 ^ k := Int.mul_nonneg (by omega) (Int.le_of_lt hp)
      have hval : u + v % 128 * 128 ^ k + v / 128 * 128 ^ (k + 1) = u + v * 128 ^ k := by
        rw [pow128, Int.add_assoc, ← Int.mul_assoc (v / 128), Int.mul_right_comm (v / 128), ← Int.add_mul, show v % 128 + v / 128 * 128 = v by omega]
      rw [scan_more s a (f' + 1) k u hlt (by omega) hk9, show (((s[a + k]'hlt).toNat : Int) % 128) = v % 128 by omega]
      refine scan_cut s a f' (k + 1) (u + v % 128 * 128 ^ k) (v / 128) (by omega) (by omega) (by omega) (by rw [hval]; exact hb) (by omega) (fun j h h2 => ?_)
      have h3 := hall (j + 1) (by simpa using h) (by omega)
      simp only [List.getElem_cons_succ] at h3
      rw [← h3]
      congr 2
      simp [Nat.add_assoc, Nat.add_comm 1 j]
theorem unf_fold (n : Int) : unf (fold n) = n := by
  unfold unf fold
  split <;> split <;> omega
theorem bytesOf_at (L : List Int) (j : Nat) (h : j < L.length) (hr : ∀ x ∈ L, 0 ≤ x ∧ x ≤ 255) : (((bytesOf L).data.toList[j]'(by simpa [bytesOf] using h)).toNat : Int) = L[j] := by
  have := hr L[j] (List.getElem_mem h)
  simp [bytesOf]
  omega
/-- A number's bytes between two texts are read as it, with the place behind it. -/
theorem scan_in (A Z : List UInt8) (n : Int) (h0 : -9223372036854775808 ≤ n) (h1 : n ≤ 9223372036854775807) :
    scan ⟨(A ++ (bytesOf (enc n)).data.toList ++ Z).toArray⟩ A.length 10 0 0 = (n, (A.length : Int) + (enc n).length, 0) := by
  have hf := fold_bd n h0 h1
  have hr : ∀ x ∈ enc n, 0 ≤ x ∧ x ≤ 255 := encF_rng 10 _ hf.1
  have hbl : (bytesOf (enc n)).data.toList.length = (enc n).length := by simp [bytesOf]
  have h := scan_fwd ⟨(A ++ (bytesOf (enc n)).data.toList ++ Z).toArray⟩ A.length 9 0 0 (fold n) rfl (by omega) hf.1 (by omega) (by simpa using hf.2) (by
    show A.length + 0 + (enc n).length ≤ _
    simp [ByteArray.size, bytesOf] <;> omega) (fun j hj h2 => by
      have hj' : j < (enc n).length := hj
      refine Eq.trans ?_ (bytesOf_at (enc n) j hj' hr)
      congr 1
      simp only [ByteArray.getElem_eq_getElem_data, List.getElem_toArray, Nat.add_zero]
      rw [List.getElem_append_left (by rw [List.length_append, hbl]; omega), List.getElem_append_right (by omega)]
      simp)
  rw [show (9 + 1 : Nat) = 10 from rfl] at h
  rw [h]
  simp only [Int.pow_zero, Int.mul_one, Int.zero_add, unf_fold]
  simp [enc]
/-- Of a number's bytes without the last one nothing is read. -/
theorem scan_torn (n : Int) (h0 : -9223372036854775808 ≤ n) (h1 : n ≤ 9223372036854775807) :
    scan ⟨((bytesOf (enc n)).data.toList.take ((enc n).length - 1)).toArray⟩ 0 10 0 0 = (0, 0, 4) := by
  have hf := fold_bd n h0 h1
  have hr : ∀ x ∈ enc n, 0 ≤ x ∧ x ≤ 255 := encF_rng 10 _ hf.1
  have hbl : (bytesOf (enc n)).data.toList.length = (enc n).length := by simp [bytesOf]
  have hne : 0 < (enc n).length := List.length_pos_iff.2 (encF_ne 9 _)
  have hsz : (⟨((bytesOf (enc n)).data.toList.take ((enc n).length - 1)).toArray⟩ : ByteArray).size = (enc n).length - 1 := by
    simp only [ByteArray.size, List.size_toArray, List.length_take, hbl]; omega
  have h := scan_cut ⟨((bytesOf (enc n)).data.toList.take ((enc n).length - 1)).toArray⟩ 0 9 0 0 (fold n) rfl (by omega) hf.1 (by simpa using hf.2) (by
    rw [hsz]; show (enc n).length - 1 + 1 = 0 + 0 + (enc n).length; omega) (fun j hj h2 => by
      have hj' : j < (enc n).length := hj
      refine Eq.trans ?_ (bytesOf_at (enc n) j hj' hr)
      congr 1
      simp [ByteArray.getElem_eq_getElem_data])
  exact h
end Go.Proofs.YtnpbmaajgiapmaaGreatDoor.St4
/- Where a byte stands in a text, as the library's IndexByte, IndexRune (at a rune below 128) and ContainsRune tell it; what a mark may be; what is plain. -/
namespace Go.Proofs.YtnpbmaajgiapmaaGreatDoor
open Go.RowKit
theorem hideF {p : Prop} (h : p) : Hid p := h
theorem ret_intF {k : IntKind} {a b : Int} (h : a = b) : Ending.returned (.int k a) = .returned (.int k b) := by rw [h]
theorem ret_boolF {a b : Bool} (h : a = b) : Ending.returned (.bool a) = .returned (.bool b) := by rw [h]

theorem u8_of_rune {r : Int} (h0 : 0 ≤ r) (h1 : r < 128) : IntKind.u8.wrap r = r := by
  simp [IntKind.wrap, IntKind.signed, IntKind.bits]
  omega

def digCapB (r : Int) : Bool := decide (48 ≤ r ∧ r ≤ 57) || decide (65 ≤ r ∧ r ≤ 90)
def plainR (r : Int) : Bool := decide (32 ≤ r ∧ r ≤ 126)
/-- May this byte be a mark? -/
def markR (r : Int) : Bool := decide (33 ≤ r ∧ r ≤ 126) && !digCapB r && !decide (97 ≤ r ∧ r ≤ 122) && !decide (r = 46) && !decide (r = 45)

theorem rune_parts (c : Int) : c < 48 ∨ (48 ≤ c ∧ c ≤ 57) ∨ (58 ≤ c ∧ c ≤ 64) ∨ (65 ≤ c ∧ c ≤ 90) ∨ (91 ≤ c) := by omega
theorem plain_parts (c : Int) : c < 32 ∨ (32 ≤ c ∧ c ≤ 126) ∨ 127 ≤ c := by omega
end Go.Proofs.YtnpbmaajgiapmaaGreatDoor
/- MarksRight of the program and of the model: both answer the same Lean function of the text's bytes. -/
namespace Go.Proofs.YtnpbmaajgiapmaaGreatDoor
open Go.RowKit

theorem indexByte_at : ∀ (l : List UInt8) (c : UInt8) (k : Nat) (h : k < l.length), l[k] = c → (∀ j (hj : j < k), l[j]'(by omega) ≠ c) → Lib.indexByte l c = k
  | [], _, k, h, _, _ => absurd h (by simp)
  | b :: l, c, 0, _, e, _ => by
    have : b = c := by simpa using e
    simp [Lib.indexByte, this]
  | b :: l, c, k + 1, h, e, hn => by
    have h0 : ¬ b = c := by simpa using hn 0 (by omega)
    have ih := indexByte_at l c k (by simpa using h) (by simpa using e) (fun j hj => by simpa using hn (j + 1) (by omega))
    have : ¬ (k : Int) = -1 := by omega
    simp [Lib.indexByte, h0, ih, this]
theorem indexByte_no : ∀ (l : List UInt8) (c : UInt8), (∀ j (hj : j < l.length), l[j] ≠ c) → Lib.indexByte l c = -1
  | [], _, _ => by simp [Lib.indexByte]
  | b :: l, c, hn => by
    have h0 : ¬ b = c := hn 0 (by simp)
    have ih := indexByte_no l c (fun j hj => hn (j + 1) (by simpa using hj))
    simp [Lib.indexByte, h0, ih]
/-- The first place of what stands at i is i just if none of the bytes ahead of it is the same. -/
theorem indexByte_first : ∀ (l : List UInt8) (i : Nat) (h : i < l.length), (0 ≤ Lib.indexByte (l.take i) l[i]) ↔ Lib.indexByte l l[i] ≠ (i : Int)
  | [], i, h => absurd h (by simp)
  | b :: l, 0, _ => by simp [Lib.indexByte]
  | b :: l, i + 1, h => by
    have ih := indexByte_first l i (by simpa using h)
    have g1 := Lib.indexByte_ge (l.take i) (l[i]'(by simpa using h))
    have g2 := Lib.indexByte_ge l (l[i]'(by simpa using h))
    simp only [List.take_succ_cons, List.getElem_cons_succ, Lib.indexByte]
    by_cases h0 : b = l[i]'(by simpa using h)
    · simp [h0]; omega
    · have h1 : (b == l[i]'(by simpa using h)) = false := by simpa using h0
      rw [h1]
      simp only [Bool.false_eq_true, if_false]
      by_cases e1 : Lib.indexByte (l.take i) (l[i]'(by simpa using h)) = -1 <;> by_cases e2 : Lib.indexByte l (l[i]'(by simpa using h)) = -1 <;> simp [e1, e2] at ih ⊢ <;> omega

theorem data_get (s : ByteArray) (j : Nat) (h : j < s.size) : s.data.toList[j]'(by simpa using h) = s[j]'h := by
  simp [ByteArray.getElem_eq_getElem_data]
theorem u8_ne {a b : UInt8} (h : ((a.toNat : Int) == (b.toNat : Int)) = false) : a ≠ b := by
  intro e; subst e; simp at h
theorem u8_eq {a b : UInt8} (h : ((a.toNat : Int) == (b.toNat : Int)) = true) : a = b := by
  simp at h
  exact UInt8.toNat_inj.1 (by omega)

def letterB (c : Int) : Bool := decide (97 ≤ c ∧ c ≤ 122) || decide (65 ≤ c ∧ c ≤ 90) || decide (48 ≤ c ∧ c ≤ 57)
theorem letter_parts (c : Int) : c < 48 ∨ (48 ≤ c ∧ c ≤ 57) ∨ (58 ≤ c ∧ c ≤ 64) ∨ (65 ≤ c ∧ c ≤ 90) ∨ (91 ≤ c ∧ c ≤ 96) ∨ (97 ≤ c ∧ c ≤ 122) ∨ 123 ≤ c := by omega
/-- Is the byte at j a mark, and none of those ahead of it? -/
def markAt (s : ByteArray) (j : Nat) : Bool := if h : j < s.size then markR ((s[j]'h).toNat : Int) && decide (Lib.indexByte s.data.toList (s[j]'h) = (j : Int)) else true
def marksB (s : ByteArray) : Bool := decide (s.size = 5) && (List.range s.size).all (markAt s)
theorem marksB_size (s : ByteArray) (h : s.size ≠ 5) : marksB s = false := by simp [marksB, h]
theorem marksB_yes (s : ByteArray) (h1 : s.size = 5) (h : ∀ j, j < s.size → markAt s j = true) : marksB s = true := by
  simp only [marksB, Bool.and_eq_true, decide_eq_true_eq]
  exact ⟨h1, List.all_eq_true.2 fun j hj => h j (List.mem_range.1 hj)⟩
theorem marksB_no (s : ByteArray) (k : Nat) (hk : k < s.size) (h : markAt s k = false) : marksB s = false := by
  simp only [marksB, Bool.and_eq_false_iff]
  exact .inr (List.all_eq_false.2 ⟨k, List.mem_range.2 hk, by simp [h]⟩)
theorem markAt_eq (s : ByteArray) (k : Nat) (hk : k < s.size) : markAt s k = (markR ((s[k]'hk).toNat : Int) && decide (Lib.indexByte s.data.toList (s[k]'hk) = (k : Int))) := by
  simp [markAt, hk]
theorem markAt_succ (s : ByteArray) (k : Nat) (h : ∀ j, j < k → markAt s j = true) (hk : markAt s k = true) : ∀ j, j < k + 1 → markAt s j = true := by
  intro j hj
  by_cases e : j = k
  · rw [e]; exact hk
  · exact h j (by omega)
/-- How the model's test parts the bytes. -/
theorem mark_parts (c : Int) : (c < 33 ∧ markR c = false) ∨ (126 < c ∧ ¬ c < 33 ∧ markR c = false) ∨ (33 ≤ c ∧ c ≤ 126 ∧ letterB c = true ∧ markR c = false) ∨ (33 ≤ c ∧ c ≤ 126 ∧ letterB c = false ∧ c = 46 ∧ markR c = false) ∨
    (33 ≤ c ∧ c ≤ 126 ∧ letterB c = false ∧ c = 45 ∧ markR c = false) ∨ (33 ≤ c ∧ c ≤ 126 ∧ letterB c = false ∧ (c == 46) = false ∧ (c == 45) = false ∧ markR c = true) := by
  simp [markR, letterB, digCapB]
  omega

theorem isMark_parts (c : Int) : (c < 33 ∧ markR c = false) ∨ (126 < c ∧ ¬ c < 33 ∧ markR c = false) ∨ (33 ≤ c ∧ c ≤ 126 ∧ digCapB c = true ∧ markR c = false) ∨ (33 ≤ c ∧ c ≤ 126 ∧ digCapB c = false ∧ 97 ≤ c ∧ c ≤ 122 ∧ markR c = false) ∨
    (33 ≤ c ∧ c < 97 ∧ digCapB c = false ∧ c = 46 ∧ markR c = false) ∨ (33 ≤ c ∧ c < 97 ∧ digCapB c = false ∧ c = 45 ∧ markR c = false) ∨
    (33 ≤ c ∧ c < 97 ∧ digCapB c = false ∧ (c != 46) = true ∧ (c != 45) = true ∧ markR c = true) ∨ (122 < c ∧ c ≤ 126 ∧ digCapB c = false ∧ (c != 46) = true ∧ (c != 45) = true ∧ markR c = true) := by
  simp [markR, digCapB]
  omega
theorem width_pos (s : ByteArray) (pos : Nat) (h : pos < s.size) : 1 ≤ (Utf8.decode s pos).2 := by
  by_cases ha : (s[pos]'h).toNat < 128
  · rw [decode_ascii s pos h ha]
    exact Nat.le_refl _
  · exact (decode_high s pos h (by omega)).2
theorem below_iter (w : World) (s : ByteArray) (pos : Nat) : Below w.heap.size w (w.iter s pos) := (Below.refl _ _).alloc (Nat.le_refl _) _
theorem markR_high (r : Int) (h : 128 ≤ r) : markR r = false := by
  simp [markR]; omega
theorem markR_low (r : Int) (h : markR r = true) : 33 ≤ r ∧ r ≤ 126 := by
  simp [markR] at h; omega
theorem u8_back (c : UInt8) : ((c.toNat : Int)).toNat.toUInt8 = c := by simp
/-- The byte at k, as the program asks for it: is it one of those ahead of it? -/
theorem ahead_iff (s : ByteArray) (k : Nat) (hk : k < s.size) : decide (0 ≤ Lib.indexByte (s.extract 0 k).data.toList (s[k]'hk)) = !decide (Lib.indexByte s.data.toList (s[k]'hk) = (k : Int)) := by
  have h := indexByte_first s.data.toList k (by simpa using hk)
  rw [data_get s k hk] at h
  have e : (s.extract 0 k).data.toList = s.data.toList.take k := by simp
  rw [e, Bool.eq_iff_iff]
  simp [h]

end Go.Proofs.YtnpbmaajgiapmaaGreatDoor
