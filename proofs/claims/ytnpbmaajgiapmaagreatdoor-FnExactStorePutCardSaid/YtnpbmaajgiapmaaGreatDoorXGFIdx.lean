/- Where a byte stands in a text, as the library's IndexByte, IndexRune (at a rune below 128) and ContainsRune tell it; what a mark may be; what is plain. -/
import Derived.Test.YtnpbmaajgiapmaaGreatDoorRows
import Derived.WalkKit
import Derived.WalkSpells
import Derived.Lib.Bytealg
import Derived.Laws.RangeAny
import Derived.OpenShut
namespace Go.Proofs.YtnpbmaajgiapmaaGreatDoor
open Go.RowKit
theorem hideF {p : Prop} (h : p) : Hid p := h
theorem ret_intF {k : IntKind} {a b : Int} (h : a = b) : Ending.returned (.int k a) = .returned (.int k b) := by rw [h]
theorem ret_boolF {a b : Bool} (h : a = b) : Ending.returned (.bool a) = .returned (.bool b) := by rw [h]

theorem u8_of_rune {r : Int} (h0 : 0 ≤ r) (h1 : r < 128) : IntKind.u8.wrap r = r := by
  simp [IntKind.wrap, IntKind.signed, IntKind.bits]
  omega

def digCapB (r : Int) : Bool := decide (48 ≤ r ∧ r ≤ 57) || decide (65 ≤ r ∧ r ≤ 90)
def plainR (r : Int) : Bool := decide (32 ≤ r ∧ r ≤ 126)
/-- May this byte be a mark? -/
def markR (r : Int) : Bool := decide (33 ≤ r ∧ r ≤ 126) && !digCapB r && !decide (97 ≤ r ∧ r ≤ 122) && !decide (r = 46) && !decide (r = 45)

theorem rune_parts (c : Int) : c < 48 ∨ (48 ≤ c ∧ c ≤ 57) ∨ (58 ≤ c ∧ c ≤ 64) ∨ (65 ≤ c ∧ c ≤ 90) ∨ (91 ≤ c) := by omega
theorem plain_parts (c : Int) : c < 32 ∨ (32 ≤ c ∧ c ≤ 126) ∨ 127 ≤ c := by omega
end Go.Proofs.YtnpbmaajgiapmaaGreatDoor
/- MarksRight of the program and of the model: both answer the same Lean function of the text's bytes. -/
namespace Go.Proofs.YtnpbmaajgiapmaaGreatDoor
open Go.RowKit

theorem indexByte_at : ∀ (l : List UInt8) (c : UInt8) (k : Nat) (h : k < l.length), l[k] = c → (∀ j (hj : j < k), l[j]'(by omega) ≠ c) → Lib.indexByte l c = k
  | [], _, k, h, _, _ => absurd h (by simp)
  | b :: l, c, 0, _, e, _ => by
    have : b = c := by simpa using e
    simp [Lib.indexByte, this]
  | b :: l, c, k + 1, h, e, hn => by
    have h0 : ¬ b = c := by simpa using hn 0 (by omega)
    have ih := indexByte_at l c k (by simpa using h) (by simpa using e) (fun j hj => by simpa using hn (j + 1) (by omega))
    have : ¬ (k : Int) = -1 := by omega
    simp [Lib.indexByte, h0, ih, this]
theorem indexByte_no : ∀ (l : List UInt8) (c : UInt8), (∀ j (hj : j < l.length), l[j] ≠ c) → Lib.indexByte l c = -1
  | [], _, _ => by simp [Lib.indexByte]
  | b :: l, c, hn => by
    have h0 : ¬ b = c := hn 0 (by simp)
    have ih := indexByte_no l c (fun j hj => hn (j + 1) (by simpa using hj))
    simp [Lib.indexByte, h0, ih]
/-- The first place of what stands at i is i just if none of the bytes ahead of it is the same. -/
theorem indexByte_first : ∀ (l : List UInt8) (i : Nat) (h : i < l.length), (0 ≤ Lib.indexByte (l.take i) l[i]) ↔ Lib.indexByte l l[i] ≠ (i : Int)
  | [], i, h => absurd h (by simp)
  | b :: l, 0, _ => by simp [Lib.indexByte]
  | b :: l, i + 1, h => by
    have ih := indexByte_first l i (by simpa using h)
    have g1 := Lib.indexByte_ge (l.take i) (l[i]'(by simpa using h))
    have g2 := Lib.indexByte_ge l (l[i]'(by simpa using h))
    simp only [List.take_succ_cons, List.getElem_cons_succ, Lib.indexByte]
    by_cases h0 : b = l[i]'(by simpa using h)
    · simp [h0]; omega
    · have h1 : (b == l[i]'(by simpa using h)) = false := by simpa using h0
      rw [h1]
      simp only [Bool.false_eq_true, if_false]
      by_cases e1 : Lib.indexByte (l.take i) (l[i]'(by simpa using h)) = -1 <;> by_cases e2 : Lib.indexByte l (l[i]'(by simpa using h)) = -1 <;> simp [e1, e2] at ih ⊢ <;> omega

theorem data_get (s : ByteArray) (j : Nat) (h : j < s.size) : s.data.toList[j]'(by simpa using h) = s[j]'h := by
  simp [ByteArray.getElem_eq_getElem_data]
theorem u8_ne {a b : UInt8} (h : ((a.toNat : Int) == (b.toNat : Int)) = false) : a ≠ b := by
  intro e; subst e; simp at h
theorem u8_eq {a b : UInt8} (h : ((a.toNat : Int) == (b.toNat : Int)) = true) : a = b := by
  simp at h
  exact UInt8.toNat_inj.1 (by omega)

def letterB (c : Int) : Bool := decide (97 ≤ c ∧ c ≤ 122) || decide (65 ≤ c ∧ c ≤ 90) || decide (48 ≤ c ∧ c ≤ 57)
theorem letter_parts (c : Int) : c < 48 ∨ (48 ≤ c ∧ c ≤ 57) ∨ (58 ≤ c ∧ c ≤ 64) ∨ (65 ≤ c ∧ c ≤ 90) ∨ (91 ≤ c ∧ c ≤ 96) ∨ (97 ≤ c ∧ c ≤ 122) ∨ 123 ≤ c := by omega
/-- Is the byte at j a mark, and none of those ahead of it? -/
def markAt (s : ByteArray) (j : Nat) : Bool := if h : j < s.size then markR ((s[j]'h).toNat : Int) && decide (Lib.indexByte s.data.toList (s[j]'h) = (j : Int)) else true
def marksB (s : ByteArray) : Bool := decide (s.size = 5) && (List.range s.size).all (markAt s)
theorem marksB_size (s : ByteArray) (h : s.size ≠ 5) : marksB s = false := by simp [marksB, h]
theorem marksB_yes (s : ByteArray) (h1 : s.size = 5) (h : ∀ j, j < s.size → markAt s j = true) : marksB s = true := by
  simp only [marksB, Bool.and_eq_true, decide_eq_true_eq]
  exact ⟨h1, List.all_eq_true.2 fun j hj => h j (List.mem_range.1 hj)⟩
theorem marksB_no (s : ByteArray) (k : Nat) (hk : k < s.size) (h : markAt s k = false) : marksB s = false := by
  simp only [marksB, Bool.and_eq_false_iff]
  exact .inr (List.all_eq_false.2 ⟨k, List.mem_range.2 hk, by simp [h]⟩)
theorem markAt_eq (s : ByteArray) (k : Nat) (hk : k < s.size) : markAt s k = (markR ((s[k]'hk).toNat : Int) && decide (Lib.indexByte s.data.toList (s[k]'hk) = (k : Int))) := by
  simp [markAt, hk]
theorem markAt_succ (s : ByteArray) (k : Nat) (h : ∀ j, j < k → markAt s j = true) (hk : markAt s k = true) : ∀ j, j < k + 1 → markAt s j = true := by
  intro j hj
  by_cases e : j = k
  · rw [e]; exact hk
  · exact h j (by omega)
/-- How the model's test parts the bytes. -/
theorem mark_parts (c : Int) : (c < 33 ∧ markR c = false) ∨ (126 < c ∧ ¬ c < 33 ∧ markR c = false) ∨ (33 ≤ c ∧ c ≤ 126 ∧ letterB c = true ∧ markR c = false) ∨ (33 ≤ c ∧ c ≤ 126 ∧ letterB c = false ∧ c = 46 ∧ markR c = false) ∨
    (33 ≤ c ∧ c ≤ 126 ∧ letterB c = false ∧ c = 45 ∧ markR c = false) ∨ (33 ≤ c ∧ c ≤ 126 ∧ letterB c = false ∧ (c == 46) = false ∧ (c == 45) = false ∧ markR c = true) := by
  simp [markR, letterB, digCapB]
  omega

theorem isMark_parts (c : Int) : (c < 33 ∧ markR c = false) ∨ (126 < c ∧ ¬ c < 33 ∧ markR c = false) ∨ (33 ≤ c ∧ c ≤ 126 ∧ digCapB c = true ∧ markR c = false) ∨ (33 ≤ c ∧ c ≤ 126 ∧ digCapB c = false ∧ 97 ≤ c ∧ c ≤ 122 ∧ markR c = false) ∨
    (33 ≤ c ∧ c < 97 ∧ digCapB c = false ∧ c = 46 ∧ markR c = false) ∨ (33 ≤ c ∧ c < 97 ∧ digCapB c = false ∧ c = 45 ∧ markR c = false) ∨
    (33 ≤ c ∧ c < 97 ∧ digCapB c = false ∧ (c != 46) = true ∧ (c != 45) = true ∧ markR c = true) ∨ (122 < c ∧ c ≤ 126 ∧ digCapB c = false ∧ (c != 46) = true ∧ (c != 45) = true ∧ markR c = true) := by
  simp [markR, digCapB]
  omega
theorem width_pos (s : ByteArray) (pos : Nat) (h : pos < s.size) : 1 ≤ (Utf8.decode s pos).2 := by
  by_cases ha : (s[pos]'h).toNat < 128
  · rw [decode_ascii s pos h ha]
    exact Nat.le_refl _
  · exact (decode_high s pos h (by omega)).2
theorem below_iter (w : World) (s : ByteArray) (pos : Nat) : Below w.heap.size w (w.iter s pos) := (Below.refl _ _).alloc (Nat.le_refl _) _
theorem markR_high (r : Int) (h : 128 ≤ r) : markR r = false := by
  simp [markR]; omega
theorem markR_low (r : Int) (h : markR r = true) : 33 ≤ r ∧ r ≤ 126 := by
  simp [markR] at h; omega
theorem u8_back (c : UInt8) : ((c.toNat : Int)).toNat.toUInt8 = c := by simp
/-- The byte at k, as the program asks for it: is it one of those ahead of it? -/
theorem ahead_iff (s : ByteArray) (k : Nat) (hk : k < s.size) : decide (0 ≤ Lib.indexByte (s.extract 0 k).data.toList (s[k]'hk)) = !decide (Lib.indexByte s.data.toList (s[k]'hk) = (k : Int)) := by
  have h := indexByte_first s.data.toList k (by simpa using hk)
  rw [data_get s k hk] at h
  have e : (s.extract 0 k).data.toList = s.data.toList.take k := by simp
  rw [e, Bool.eq_iff_iff]
  simp [h]

end Go.Proofs.YtnpbmaajgiapmaaGreatDoor
/- A byte that a name may have, and NameRight of the program and of the model: both answer the same Lean function of the text's bytes. -/
namespace Go.Proofs.YtnpbmaajgiapmaaGreatDoor
open Go.RowKit

/-- May a byte stand in a name (at its head, if 'first')? -/
def idByte (c : Int) (first : Bool) : Bool := decide (97 ≤ c ∧ c ≤ 122) || (!first && (decide (48 ≤ c ∧ c ≤ 57) || decide (c = 95)))

theorem id_parts2 (c : Int) : (c < 48 ∧ (c != 95) = true) ∨ (48 ≤ c ∧ c ≤ 57) ∨ (58 ≤ c ∧ c ≤ 94 ∧ decide (c ≤ 57) = false ∧ (c != 95) = true) ∨ c = 95 ∨ c = 96 ∨ (97 ≤ c ∧ c ≤ 122) ∨
    (123 ≤ c ∧ decide (c ≤ 122) = false ∧ decide (c ≤ 57) = false ∧ (c != 95) = true) := by
  simp
  omega
theorem id_parts (c : Int) : c < 48 ∨ (48 ≤ c ∧ c ≤ 57) ∨ (58 ≤ c ∧ c ≤ 94) ∨ c = 95 ∨ c = 96 ∨ (97 ≤ c ∧ c ≤ 122) ∨ 123 ≤ c := by omega

set_option maxHeartbeats 400000 in
theorem isNameByte_any (c : Int) (first : Bool) (w : World) (h0 : 0 ≤ c) (h1 : c ≤ 255) :
    Calls Tryz.prog 113 #[.int .u8 c, .bool first] w fun e w' => e = .returned (.bool (idByte c first)) ∧ w' = w := by
  rcases id_parts c with h | ⟨h, h'⟩ | ⟨h, h'⟩ | h | h | ⟨h, h'⟩ | h
  all_goals try subst h
  all_goals cases first
  all_goals
    go_enter Tryz.func113, Tryz.ntmps113
    go_wp2
    go_ret
    refine ⟨ret_boolF ?_, rfl⟩
    rw [Bool.eq_iff_iff]
    simp [idByte] <;> omega

def idAt (s : ByteArray) (j : Nat) : Bool := if h : j < s.size then idByte ((s[j]'h).toNat : Int) ((j : Int) == 0) else true

def idB (s : ByteArray) : Bool := decide (1 ≤ s.size) && decide (s.size ≤ 20) && (List.range s.size).all (idAt s)

theorem idB_short (s : ByteArray) (h : s.size < 1) : idB s = false := by
  have : ¬ 1 ≤ s.size := by omega
  simp [idB, this]
theorem idB_long (s : ByteArray) (h : 20 < s.size) : idB s = false := by
  have : ¬ s.size ≤ 20 := by omega
  simp [idB, this]
theorem idB_yes (s : ByteArray) (h1 : 1 ≤ s.size) (h2 : s.size ≤ 20) (h : ∀ j, j < s.size → idAt s j = true) : idB s = true := by
  simp [idB, h1, h2, List.all_eq_true]
  exact h
theorem idB_no (s : ByteArray) (k : Nat) (hk : k < s.size) (h : idAt s k = false) : idB s = false := by
  simp only [idB, Bool.and_eq_false_iff]
  exact .inr (List.all_eq_false.2 ⟨k, List.mem_range.2 hk, by simp [h]⟩)

theorem idAt_eq (s : ByteArray) (k : Nat) (hk : k < s.size) : idAt s k = idByte ((s[k]'hk).toNat : Int) ((k : Int) == 0) := by
  simp [idAt, hk]


theorem idAt_succ (s : ByteArray) (k : Nat) (h : ∀ j, j < k → idAt s j = true) (hk : idAt s k = true) : ∀ j, j < k + 1 → idAt s j = true := by
  intro j hj
  by_cases e : j = k
  · rw [e]; exact hk
  · exact h j (by omega)

set_option maxHeartbeats 1000000 in
theorem implNameRight_any (s : ByteArray) (w : World) (hs : s.size ≤ maxLen) :
    Calls Tryz.prog 89 #[.string s] w fun e w' => e = .returned (.bool (idB s)) ∧ w' = w := by
  unfold maxLen at hs
  by_cases h1 : s.size < 1
  · go_enter Tryz.func89, Tryz.ntmps89
    go_wp2
    go_ret
    exact ⟨ret_boolF (idB_short s h1).symm, rfl⟩
  by_cases h2 : 20 < s.size
  · go_enter Tryz.func89, Tryz.ntmps89
    go_wp2
    go_ret
    exact ⟨ret_boolF (idB_long s h2).symm, rfl⟩
  go_enter Tryz.func89, Tryz.ntmps89
  go_wp2
  go_loop [3] (fun i => ∃ k : Nat, k ≤ s.size ∧ i = .int .i64 k ∧ ∀ j, j < k → idAt s j = true) (fun i => s.size - (intOf i).toNat)
  case atStart => exact ⟨0, Nat.zero_le _, rfl, fun j hj => absurd hj (by omega)⟩
  case round =>
    obtain ⟨k, hk, rfl, hall⟩ := hrel
    have HA := hideF hall
    clear hall
    by_cases hlt : k < s.size
    · have hc := idAt_eq s k hlt
      have hb : ((s[k]'hlt).toNat : Int) ≤ 255 := by have := (s[k]'hlt).toNat_lt; omega
      have HO := hideF hc
      clear hc
      go_wp2_with fail
      refine (isNameByte_any _ _ _ (by omega) hb).mono ?_
      rintro e w' ⟨rfl, rfl⟩
      cases hv : idByte ((s[k]'hlt).toNat : Int) ((k : Int) == 0)
      · rw [hv] at HO
        clear hv
        go_wp2
        go_ret
        exact ⟨ret_boolF (idB_no s k hlt HO.out).symm, rfl⟩
      · rw [hv] at HO
        clear hv
        go_wp2
        go_round
        case rel => exact ⟨k + 1, by omega, by go_num, idAt_succ s k HA.out HO.out⟩
        case measure => simp [intOf]; omega
    · go_wp2
      go_ret
      exact ⟨ret_boolF (idB_yes s (by omega) (by omega) (fun j hj => HA.out j (by omega))).symm, rfl⟩

set_option maxHeartbeats 1000000 in
theorem specNameRight_any (s : ByteArray) (w : World) (hs : s.size ≤ maxLen) :
    Calls Tryz.prog 60 #[.string s] w fun e w' => e = .returned (.bool (idB s)) ∧ w' = w := by
  unfold maxLen at hs
  by_cases h1 : s.size < 1
  · go_enter Tryz.func60, Tryz.ntmps60
    go_wp2
    go_ret
    exact ⟨ret_boolF (idB_short s h1).symm, rfl⟩
  by_cases h2 : 20 < s.size
  · go_enter Tryz.func60, Tryz.ntmps60
    go_wp2
    go_ret
    exact ⟨ret_boolF (idB_long s h2).symm, rfl⟩
  go_enter Tryz.func60, Tryz.ntmps60
  go_wp2
  go_loop [3] (fun i => ∃ k : Nat, k ≤ s.size ∧ i = .int .i64 k ∧ ∀ j, j < k → idAt s j = true) (fun i => s.size - (intOf i).toNat)
  case atStart => exact ⟨0, Nat.zero_le _, rfl, fun j hj => absurd hj (by omega)⟩
  case round =>
    obtain ⟨k, hk, rfl, hall⟩ := hrel
    have HA := hideF hall
    clear hall
    by_cases hlt : k < s.size
    · have hc := idAt_eq s k hlt
      have hb : ((s[k]'hlt).toNat : Int) ≤ 255 := by have := (s[k]'hlt).toNat_lt; omega
      have HO := hideF hc
      clear hc
      rcases (show k = 0 ∨ 0 < k by omega) with rfl | hk0
      · rcases id_parts2 ((s[0]'hlt).toNat : Int) with ⟨h, h2⟩ | ⟨h, h'⟩ | ⟨h, h', h2, h3⟩ | h | h | ⟨h, h'⟩ | ⟨h, h2, h3, h4⟩
        all_goals go_wp2
        all_goals first
          | (go_ret; exact ⟨ret_boolF (idB_no s 0 hlt (by rw [HO.out]; simp [idByte]; omega)).symm, rfl⟩)
          | (go_round
             case rel => exact ⟨1, by omega, rfl, idAt_succ s 0 HA.out (by rw [HO.out]; simp [idByte]; omega)⟩
             case measure => simp [intOf]; omega)
          | (exfalso; simp at *; omega)
      · have hk1 : ((k : Int) == 0) = false := by simp; omega
        rcases id_parts2 ((s[k]'hlt).toNat : Int) with ⟨h, h2⟩ | ⟨h, h'⟩ | ⟨h, h', h2, h3⟩ | h | h | ⟨h, h'⟩ | ⟨h, h2, h3, h4⟩
        all_goals go_wp2
        all_goals first
          | (go_ret; exact ⟨ret_boolF (idB_no s k hlt (by rw [HO.out]; simp [idByte]; omega)).symm, rfl⟩)
          | (go_round
             case rel => exact ⟨k + 1, by omega, by go_num, idAt_succ s k HA.out (by rw [HO.out]; simp [idByte]; omega)⟩
             case measure => simp [intOf]; omega)
          | (exfalso; simp at *; omega)
    · go_wp2
      go_ret
      exact ⟨ret_boolF (idB_yes s (by omega) (by omega) (fun j hj => HA.out j (by omega))).symm, rfl⟩
end Go.Proofs.YtnpbmaajgiapmaaGreatDoor
