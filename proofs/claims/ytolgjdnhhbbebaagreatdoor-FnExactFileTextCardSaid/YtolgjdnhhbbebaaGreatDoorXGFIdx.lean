/- Where a byte stands in a text, as the library's IndexByte, IndexRune (at a rune below 128) and ContainsRune tell it; what a mark may be; what is plain. -/
import Derived.Test.YtolgjdnhhbbebaaGreatDoorRows
import Derived.WalkKit
import Derived.WalkSpells
import Derived.Lib.Bytealg
import Derived.Laws.RangeAny
import Derived.OpenShut
namespace Go.Proofs.YtolgjdnhhbbebaaGreatDoor
open Go.RowKit
theorem hideF {p : Prop} (h : p) : Hid p := h
theorem ret_intF {k : IntKind} {a b : Int} (h : a = b) : Ending.returned (.int k a) = .returned (.int k b) := by rw [h]
theorem ret_boolF {a b : Bool} (h : a = b) : Ending.returned (.bool a) = .returned (.bool b) := by rw [h]

set_option maxHeartbeats 1000000 in
set_option maxRecDepth 100000 in
theorem liteIndexByte_any (s : ByteArray) (c : Int) (w : World) :
    Calls Tryz.prog 122 #[.string s, .int .u8 c] w fun e w' => e = .returned (.int .i64 (Lib.indexByte s.data.toList c.toNat.toUInt8)) ∧ w' = w := by
  go_enter Tryz.func122, Tryz.ntmps122
  go_wp2
  rw [run_callFunc_extern Tryz.func128 (by kernel_rfl) (by kernel_rfl) (by kernel_rfl) (e := Extern.BytealgIndexByte.indexByte) (by kernel_rfl), Lib.run_indexByteString]
  simp only [Result.andThen]
  rw [Oper.upon_value]
  go_wp2
  go_ret
  exact ⟨rfl, rfl⟩

set_option maxHeartbeats 1000000 in
theorem indexByte_any (s : ByteArray) (c : Int) (w : World) :
    Calls Tryz.prog 110 #[.string s, .int .u8 c] w fun e w' => e = .returned (.int .i64 (Lib.indexByte s.data.toList c.toNat.toUInt8)) ∧ w' = w := by
  go_enter Tryz.func110, Tryz.ntmps110
  go_wp2_with fail
  refine (liteIndexByte_any _ _ _).mono ?_
  rintro e w' ⟨rfl, rfl⟩
  go_wp2
  go_ret
  exact ⟨rfl, rfl⟩

theorem u8_of_rune {r : Int} (h0 : 0 ≤ r) (h1 : r < 128) : IntKind.u8.wrap r = r := by
  simp [IntKind.wrap, IntKind.signed, IntKind.bits]
  omega

set_option maxHeartbeats 1000000 in
set_option maxRecDepth 100000 in
theorem indexRune_low (s : ByteArray) (r : Int) (w : World) (h0 : 0 ≤ r) (h1 : r < 128) :
    Calls Tryz.prog 98 #[.string s, .int .i32 r] w fun e w' => e = .returned (.int .i64 (Lib.indexByte s.data.toList r.toNat.toUInt8)) ∧ w' = w := by
  have hw := u8_of_rune h0 h1
  go_enter Tryz.func98, Tryz.ntmps98
  go_wp2_with fail
  refine (indexByte_any _ _ _).mono ?_
  rintro e w' ⟨rfl, rfl⟩
  go_wp2
  go_ret
  exact ⟨ret_intF rfl, rfl⟩

set_option maxHeartbeats 1000000 in
theorem containsRune_low (s : ByteArray) (r : Int) (w : World) (h0 : 0 ≤ r) (h1 : r < 128) :
    Calls Tryz.prog 81 #[.string s, .int .i32 r] w fun e w' => e = .returned (.bool (decide (0 ≤ Lib.indexByte s.data.toList r.toNat.toUInt8))) ∧ w' = w := by
  go_enter Tryz.func81, Tryz.ntmps81
  go_wp2_with fail
  refine (indexRune_low _ _ _ h0 h1).mono ?_
  rintro e w' ⟨rfl, rfl⟩
  go_wp2
  go_ret
  exact ⟨ret_boolF (by simp), rfl⟩

def digCapB (r : Int) : Bool := decide (48 ≤ r ∧ r ≤ 57) || decide (65 ≤ r ∧ r ≤ 90)
def plainR (r : Int) : Bool := decide (32 ≤ r ∧ r ≤ 126)
/-- May this byte be a mark? -/
def markR (r : Int) : Bool := decide (33 ≤ r ∧ r ≤ 126) && !digCapB r && !decide (97 ≤ r ∧ r ≤ 122) && !decide (r = 46) && !decide (r = 45)

theorem rune_parts (c : Int) : c < 48 ∨ (48 ≤ c ∧ c ≤ 57) ∨ (58 ≤ c ∧ c ≤ 64) ∨ (65 ≤ c ∧ c ≤ 90) ∨ (91 ≤ c) := by omega
set_option maxHeartbeats 1000000 in
theorem isDigitOrCapital_any (r : Int) (w : World) :
    Calls Tryz.prog 97 #[.int .i32 r] w fun e w' => e = .returned (.bool (digCapB r)) ∧ w' = w := by
  rcases rune_parts r with h | ⟨h, h'⟩ | ⟨h, h'⟩ | ⟨h, h'⟩ | h
  all_goals
    go_enter Tryz.func97, Tryz.ntmps97
    go_wp2
    go_ret
    refine ⟨ret_boolF ?_, rfl⟩
    rw [Bool.eq_iff_iff]
    simp [digCapB] <;> omega
theorem plain_parts (c : Int) : c < 32 ∨ (32 ≤ c ∧ c ≤ 126) ∨ 127 ≤ c := by omega
set_option maxHeartbeats 1000000 in
theorem isPlain_any (r : Int) (w : World) :
    Calls Tryz.prog 129 #[.int .i32 r] w fun e w' => e = .returned (.bool (plainR r)) ∧ w' = w := by
  rcases plain_parts r with h | ⟨h, h'⟩ | h
  all_goals
    go_enter Tryz.func129, Tryz.ntmps129
    go_wp2
    go_ret
    refine ⟨ret_boolF ?_, rfl⟩
    rw [Bool.eq_iff_iff]
    simp [plainR] <;> omega
end Go.Proofs.YtolgjdnhhbbebaaGreatDoor
/- MarksRight of the program and of the model: both answer the same Lean function of the text's bytes. -/
namespace Go.Proofs.YtolgjdnhhbbebaaGreatDoor
open Go.RowKit

theorem indexByte_at : ∀ (l : List UInt8) (c : UInt8) (k : Nat) (h : k < l.length), l[k] = c → (∀ j (hj : j < k), l[j]'(by omega) ≠ c) → Lib.indexByte l c = k
  | [], _, k, h, _, _ => absurd h (by simp)
  | b :: l, c, 0, _, e, _ => by
    have : b = c := by simpa using e
    simp [Lib.indexByte, this]
  | b :: l, c, k + 1, h, e, hn => by
    have h0 : ¬ b = c := by simpa using hn 0 (by omega)
    have ih := indexByte_at l c k (by simpa using h) (by simpa using e) (fun j hj => by simpa using hn (j + 1) (by omega))
    have : ¬ (k : Int) = -1 := by omega
    simp [Lib.indexByte, h0, ih, this]
theorem indexByte_no : ∀ (l : List UInt8) (c : UInt8), (∀ j (hj : j < l.length), l[j] ≠ c) → Lib.indexByte l c = -1
  | [], _, _ => by simp [Lib.indexByte]
  | b :: l, c, hn => by
    have h0 : ¬ b = c := hn 0 (by simp)
    have ih := indexByte_no l c (fun j hj => hn (j + 1) (by simpa using hj))
    simp [Lib.indexByte, h0, ih]
/-- The first place of what stands at i is i just if none of the bytes ahead of it is the same. -/
theorem indexByte_first : ∀ (l : List UInt8) (i : Nat) (h : i < l.length), (0 ≤ Lib.indexByte (l.take i) l[i]) ↔ Lib.indexByte l l[i] ≠ (i : Int)
  | [], i, h => absurd h (by simp)
  | b :: l, 0, _ => by simp [Lib.indexByte]
  | b :: l, i + 1, h => by
    have ih := indexByte_first l i (by simpa using h)
    have g1 := Lib.indexByte_ge (l.take i) (l[i]'(by simpa using h))
    have g2 := Lib.indexByte_ge l (l[i]'(by simpa using h))
    simp only [List.take_succ_cons, List.getElem_cons_succ, Lib.indexByte]
    by_cases h0 : b = l[i]'(by simpa using h)
    · simp [h0]; omega
    · have h1 : (b == l[i]'(by simpa using h)) = false := by simpa using h0
      rw [h1]
      simp only [Bool.false_eq_true, if_false]
      by_cases e1 : Lib.indexByte (l.take i) (l[i]'(by simpa using h)) = -1 <;> by_cases e2 : Lib.indexByte l (l[i]'(by simpa using h)) = -1 <;> simp [e1, e2] at ih ⊢ <;> omega

theorem data_get (s : ByteArray) (j : Nat) (h : j < s.size) : s.data.toList[j]'(by simpa using h) = s[j]'h := by
  simp [ByteArray.getElem_eq_getElem_data]
theorem u8_ne {a b : UInt8} (h : ((a.toNat : Int) == (b.toNat : Int)) = false) : a ≠ b := by
  intro e; subst e; simp at h
theorem u8_eq {a b : UInt8} (h : ((a.toNat : Int) == (b.toNat : Int)) = true) : a = b := by
  simp at h
  exact UInt8.toNat_inj.1 (by omega)

set_option maxHeartbeats 1000000 in
theorem l04At_any (s : ByteArray) (c : UInt8) (w : World) (hs : s.size ≤ maxLen) :
    Calls Tryz.prog 73 #[.string s, .int .u8 (c.toNat : Int)] w fun e w' => e = .returned (.int .i64 (Lib.indexByte s.data.toList c)) ∧ w' = w := by
  unfold maxLen at hs
  go_enter Tryz.func73, Tryz.ntmps73
  go_wp2
  go_loop [5] (fun i => ∃ k : Nat, k ≤ s.size ∧ i = .int .i64 k ∧ ∀ j (hj : j < k) (h : j < s.size), s[j]'h ≠ c) (fun i => s.size - (intOf i).toNat)
  case atStart => exact ⟨0, Nat.zero_le _, rfl, fun j hj => absurd hj (by omega)⟩
  case round =>
    obtain ⟨k, hk, rfl, hall⟩ := hrel
    have HA := hideF hall
    clear hall
    by_cases hlt : k < s.size
    · cases hv : ((s[k]'hlt).toNat : Int) == (c.toNat : Int)
      · go_wp2
        go_round
        case rel => exact ⟨k + 1, by omega, by go_num, fun j hj h => by
          by_cases e : j = k
          · subst e; exact u8_ne hv
          · exact HA.out j (by omega) h⟩
        case measure => simp [intOf]; omega
      · go_wp2
        go_ret
        exact ⟨ret_intF (indexByte_at _ _ k (by simpa using hlt) (by rw [data_get s k hlt]; exact u8_eq hv) (fun j hj => by rw [data_get s j (by omega)]; exact HA.out j hj (by omega))).symm, rfl⟩
    · go_wp2
      go_ret
      exact ⟨ret_intF (indexByte_no _ _ (fun j hj => by have h' : j < s.size := (by simpa using hj); rw [data_get s j h']; exact HA.out j (by omega) h')).symm, rfl⟩

def letterB (c : Int) : Bool := decide (97 ≤ c ∧ c ≤ 122) || decide (65 ≤ c ∧ c ≤ 90) || decide (48 ≤ c ∧ c ≤ 57)
theorem letter_parts (c : Int) : c < 48 ∨ (48 ≤ c ∧ c ≤ 57) ∨ (58 ≤ c ∧ c ≤ 64) ∨ (65 ≤ c ∧ c ≤ 90) ∨ (91 ≤ c ∧ c ≤ 96) ∨ (97 ≤ c ∧ c ≤ 122) ∨ 123 ≤ c := by omega
set_option maxHeartbeats 1000000 in
theorem l04Letter_any (c : Int) (w : World) :
    Calls Tryz.prog 72 #[.int .u8 c] w fun e w' => e = .returned (.bool (letterB c)) ∧ w' = w := by
  rcases letter_parts c with h | ⟨h, h'⟩ | ⟨h, h'⟩ | ⟨h, h'⟩ | ⟨h, h'⟩ | ⟨h, h'⟩ | h
  all_goals
    go_enter Tryz.func72, Tryz.ntmps72
    go_wp2
    go_ret
    refine ⟨ret_boolF ?_, rfl⟩
    rw [Bool.eq_iff_iff]
    simp [letterB] <;> omega

/-- Is the byte at j a mark, and none of those ahead of it? -/
def markAt (s : ByteArray) (j : Nat) : Bool := if h : j < s.size then markR ((s[j]'h).toNat : Int) && decide (Lib.indexByte s.data.toList (s[j]'h) = (j : Int)) else true
def marksB (s : ByteArray) : Bool := decide (s.size = 5) && (List.range s.size).all (markAt s)
theorem marksB_size (s : ByteArray) (h : s.size ≠ 5) : marksB s = false := by simp [marksB, h]
theorem marksB_yes (s : ByteArray) (h1 : s.size = 5) (h : ∀ j, j < s.size → markAt s j = true) : marksB s = true := by
  simp only [marksB, Bool.and_eq_true, decide_eq_true_eq]
  exact ⟨h1, List.all_eq_true.2 fun j hj => h j (List.mem_range.1 hj)⟩
theorem marksB_no (s : ByteArray) (k : Nat) (hk : k < s.size) (h : markAt s k = false) : marksB s = false := by
  simp only [marksB, Bool.and_eq_false_iff]
  exact .inr (List.all_eq_false.2 ⟨k, List.mem_range.2 hk, by simp [h]⟩)
theorem markAt_eq (s : ByteArray) (k : Nat) (hk : k < s.size) : markAt s k = (markR ((s[k]'hk).toNat : Int) && decide (Lib.indexByte s.data.toList (s[k]'hk) = (k : Int))) := by
  simp [markAt, hk]
theorem markAt_succ (s : ByteArray) (k : Nat) (h : ∀ j, j < k → markAt s j = true) (hk : markAt s k = true) : ∀ j, j < k + 1 → markAt s j = true := by
  intro j hj
  by_cases e : j = k
  · rw [e]; exact hk
  · exact h j (by omega)
/-- How the model's test parts the bytes. -/
theorem mark_parts (c : Int) : (c < 33 ∧ markR c = false) ∨ (126 < c ∧ ¬ c < 33 ∧ markR c = false) ∨ (33 ≤ c ∧ c ≤ 126 ∧ letterB c = true ∧ markR c = false) ∨ (33 ≤ c ∧ c ≤ 126 ∧ letterB c = false ∧ c = 46 ∧ markR c = false) ∨
    (33 ≤ c ∧ c ≤ 126 ∧ letterB c = false ∧ c = 45 ∧ markR c = false) ∨ (33 ≤ c ∧ c ≤ 126 ∧ letterB c = false ∧ (c == 46) = false ∧ (c == 45) = false ∧ markR c = true) := by
  simp [markR, letterB, digCapB]
  omega

set_option maxHeartbeats 2000000 in
theorem specMarksRight_any (s : ByteArray) (w : World) (hs : s.size ≤ maxLen) :
    Calls Tryz.prog 54 #[.string s] w fun e w' => e = .returned (.bool (marksB s)) ∧ w' = w := by
  have hs' := hs
  unfold maxLen at hs
  by_cases h5 : (s.size : Int) = 5
  · have HS : s.size = 5 := by omega
    have hne : ((s.size : Int) != 5) = false := by simp [h5]
    go_enter Tryz.func54, Tryz.ntmps54
    go_wp2
    go_loop [3] (fun i => ∃ k : Nat, k ≤ 5 ∧ i = .int .i64 k ∧ ∀ j, j < k → markAt s j = true) (fun i => 5 - (intOf i).toNat)
    case atStart => exact ⟨0, Nat.zero_le _, rfl, fun j hj => absurd hj (by omega)⟩
    case round =>
      obtain ⟨k, hk, rfl, hall⟩ := hrel
      have HA := hideF hall
      clear hall
      by_cases hlt : k < 5
      · have hlt' : k < s.size := by omega
        have HO := hideF (markAt_eq s k hlt')
        have hget := data_get s k hlt'
        rcases mark_parts ((s[k]'hlt').toNat : Int) with ⟨p1, p2⟩ | ⟨p1, p0, p2⟩ | ⟨p1, p2, p3, p4⟩ | ⟨p1, p2, p3, p4, p5⟩ | ⟨p1, p2, p3, p4, p5⟩ | ⟨p1, p2, p3, p4, p5, p6⟩
        · rw [p2] at HO; clear p2
          go_wp2
          go_ret
          exact ⟨ret_boolF (marksB_no s k hlt' (by rw [HO.out]; rfl)).symm, rfl⟩
        · rw [p2] at HO; clear p2
          go_wp2
          go_ret
          exact ⟨ret_boolF (marksB_no s k hlt' (by rw [HO.out]; rfl)).symm, rfl⟩
        · rw [p4] at HO; clear p4
          go_wp2_with fail
          refine (l04Letter_any _ _).mono ?_
          rintro e w' ⟨rfl, rfl⟩
          rw [p3]
          go_wp2
          go_ret
          exact ⟨ret_boolF (marksB_no s k hlt' (by rw [HO.out]; rfl)).symm, rfl⟩
        · rw [p5] at HO; clear p5
          have p4' : (((s[k]'hlt').toNat : Int) == 46) = true := by simp [p4]
          clear p4
          go_wp2_with fail
          refine (l04Letter_any _ _).mono ?_
          rintro e w' ⟨rfl, rfl⟩
          rw [p3]
          go_wp2
          go_ret
          exact ⟨ret_boolF (marksB_no s k hlt' (by rw [HO.out]; rfl)).symm, rfl⟩
        · rw [p5] at HO; clear p5
          have p4' : (((s[k]'hlt').toNat : Int) == 45) = true := by simp [p4]
          have p4'' : (((s[k]'hlt').toNat : Int) == 46) = false := by simp [p4]
          clear p4
          go_wp2_with fail
          refine (l04Letter_any _ _).mono ?_
          rintro e w' ⟨rfl, rfl⟩
          rw [p3]
          go_wp2
          go_ret
          exact ⟨ret_boolF (marksB_no s k hlt' (by rw [HO.out]; rfl)).symm, rfl⟩
        · rw [p6] at HO; clear p6
          go_wp2_with fail
          refine (l04Letter_any _ _).mono ?_
          rintro e w' ⟨rfl, rfl⟩
          rw [p3]
          go_wp2_with fail
          refine (l04At_any s (s[k]'hlt') _ hs').mono ?_
          rintro e w' ⟨rfl, rfl⟩
          cases hq : (Lib.indexByte s.data.toList (s[k]'hlt') != (k : Int))
          · go_wp2
            go_round
            case rel => exact ⟨k + 1, by omega, by go_num, markAt_succ s k HA.out (by rw [HO.out]; simpa using hq)⟩
            case measure => simp [intOf]; omega
          · go_wp2
            go_ret
            exact ⟨ret_boolF (marksB_no s k hlt' (by rw [HO.out]; simpa using hq)).symm, rfl⟩
      · go_wp2
        go_ret
        exact ⟨ret_boolF (marksB_yes s HS (fun j hj => HA.out j (by omega))).symm, rfl⟩
  · have hne : ((s.size : Int) != 5) = true := by simpa using h5
    go_enter Tryz.func54, Tryz.ntmps54
    go_wp2
    go_ret
    exact ⟨ret_boolF (marksB_size s (by omega)).symm, rfl⟩

theorem isMark_parts (c : Int) : (c < 33 ∧ markR c = false) ∨ (126 < c ∧ ¬ c < 33 ∧ markR c = false) ∨ (33 ≤ c ∧ c ≤ 126 ∧ digCapB c = true ∧ markR c = false) ∨ (33 ≤ c ∧ c ≤ 126 ∧ digCapB c = false ∧ 97 ≤ c ∧ c ≤ 122 ∧ markR c = false) ∨
    (33 ≤ c ∧ c < 97 ∧ digCapB c = false ∧ c = 46 ∧ markR c = false) ∨ (33 ≤ c ∧ c < 97 ∧ digCapB c = false ∧ c = 45 ∧ markR c = false) ∨
    (33 ≤ c ∧ c < 97 ∧ digCapB c = false ∧ (c != 46) = true ∧ (c != 45) = true ∧ markR c = true) ∨ (122 < c ∧ c ≤ 126 ∧ digCapB c = false ∧ (c != 46) = true ∧ (c != 45) = true ∧ markR c = true) := by
  simp [markR, digCapB]
  omega
set_option maxHeartbeats 2000000 in
theorem isMark_any (c : Int) (w : World) :
    Calls Tryz.prog 80 #[.int .i32 c] w fun e w' => e = .returned (.bool (markR c)) ∧ w' = w := by
  rcases isMark_parts c with ⟨p1, p2⟩ | ⟨p1, p0, p2⟩ | ⟨p1, p2, p3, p4⟩ | ⟨p1, p2, p3, p4, p5, p6⟩ | ⟨p1, p2, p3, p4, p5⟩ | ⟨p1, p2, p3, p4, p5⟩ | ⟨p1, p2, p3, p4, p5, p6⟩ | ⟨p1, p2, p3, p4, p5, p6⟩
  · have HO := hideF p2; clear p2
    go_enter Tryz.func80, Tryz.ntmps80
    go_wp2
    go_ret
    exact ⟨ret_boolF (by rw [HO.out]), rfl⟩
  · have HO := hideF p2; clear p2
    go_enter Tryz.func80, Tryz.ntmps80
    go_wp2
    go_ret
    exact ⟨ret_boolF (by rw [HO.out]), rfl⟩
  · have HO := hideF p4; clear p4
    go_enter Tryz.func80, Tryz.ntmps80
    go_wp2_with fail
    refine (isDigitOrCapital_any _ _).mono ?_
    rintro e w' ⟨rfl, rfl⟩
    rw [p3]
    go_wp2
    go_ret
    exact ⟨ret_boolF (by rw [HO.out]), rfl⟩
  · have HO := hideF p6; clear p6
    go_enter Tryz.func80, Tryz.ntmps80
    go_wp2_with fail
    refine (isDigitOrCapital_any _ _).mono ?_
    rintro e w' ⟨rfl, rfl⟩
    rw [p3]
    go_wp2
    go_ret
    exact ⟨ret_boolF (by rw [HO.out]), rfl⟩
  · have HO := hideF p5; clear p5
    subst p4
    go_enter Tryz.func80, Tryz.ntmps80
    go_wp2_with fail
    refine (isDigitOrCapital_any _ _).mono ?_
    rintro e w' ⟨rfl, rfl⟩
    rw [p3]
    go_wp2
    go_ret
    exact ⟨ret_boolF (by rw [HO.out]), rfl⟩
  · have HO := hideF p5; clear p5
    subst p4
    go_enter Tryz.func80, Tryz.ntmps80
    go_wp2_with fail
    refine (isDigitOrCapital_any _ _).mono ?_
    rintro e w' ⟨rfl, rfl⟩
    rw [p3]
    go_wp2
    go_ret
    exact ⟨ret_boolF (by rw [HO.out]), rfl⟩
  all_goals
    have HO := hideF p6; clear p6
    go_enter Tryz.func80, Tryz.ntmps80
    go_wp2_with fail
    refine (isDigitOrCapital_any _ _).mono ?_
    rintro e w' ⟨rfl, rfl⟩
    rw [p3]
    go_wp2
    go_ret
    exact ⟨ret_boolF (by first | (rw [HO.out]; done) | (rw [HO.out]; simp; omega)), rfl⟩

theorem width_pos (s : ByteArray) (pos : Nat) (h : pos < s.size) : 1 ≤ (Utf8.decode s pos).2 := by
  by_cases ha : (s[pos]'h).toNat < 128
  · rw [decode_ascii s pos h ha]
    exact Nat.le_refl _
  · exact (decode_high s pos h (by omega)).2
theorem below_iter (w : World) (s : ByteArray) (pos : Nat) : Below w.heap.size w (w.iter s pos) := (Below.refl _ _).alloc (Nat.le_refl _) _
theorem markR_high (r : Int) (h : 128 ≤ r) : markR r = false := by
  simp [markR]; omega
theorem markR_low (r : Int) (h : markR r = true) : 33 ≤ r ∧ r ≤ 126 := by
  simp [markR] at h; omega
theorem u8_back (c : UInt8) : ((c.toNat : Int)).toNat.toUInt8 = c := by simp
/-- The byte at k, as the program asks for it: is it one of those ahead of it? -/
theorem ahead_iff (s : ByteArray) (k : Nat) (hk : k < s.size) : decide (0 ≤ Lib.indexByte (s.extract 0 k).data.toList (s[k]'hk)) = !decide (Lib.indexByte s.data.toList (s[k]'hk) = (k : Int)) := by
  have h := indexByte_first s.data.toList k (by simpa using hk)
  rw [data_get s k hk] at h
  have e : (s.extract 0 k).data.toList = s.data.toList.take k := by simp
  rw [e, Bool.eq_iff_iff]
  simp [h]

set_option maxHeartbeats 2000000 in
theorem implMarksRight_any (s : ByteArray) (w : World) (hs : s.size ≤ maxLen) :
    Calls Tryz.prog 64 #[.string s] w fun e w' => e = .returned (.bool (marksB s)) ∧ Below w.heap.size w w' := by
  have hs' := hs
  unfold maxLen at hs
  by_cases h5 : (s.size : Int) = 5
  · have HS : s.size = 5 := by omega
    have hne : ((s.size : Int) != 5) = false := by simp [h5]
    go_enter Tryz.func64, Tryz.ntmps64
    go_wp2
    go_loopw [] (fun w' => ∃ k : Nat, k ≤ 5 ∧ w' = w.iter s k ∧ ∀ j, j < k → markAt s j = true) (fun w' => s.size - w'.iterPos w.heap.size)
    case atStart => exact ⟨0, Nat.zero_le _, rfl, fun j hj => absurd hj (by omega)⟩
    case round =>
      obtain ⟨k, hk, rfl, hall⟩ := hrel
      have HA := hideF hall
      clear hall
      by_cases hlt : k < s.size
      · have HO := hideF (markAt_eq s k hlt)
        by_cases hasc : (s[k]'hlt).toNat < 128
        · have hnx : ∀ ty, (Instr.next (.pointer (some ⟨w.heap.size, 0, none⟩)) true ty).run Tryz.prog (w.iter s k) = _ := fun ty => run_next_ascii w s k ty hlt hasc
          go_wp2_with fail
          refine (isMark_any _ _).mono ?_
          rintro e w' ⟨rfl, rfl⟩
          cases hm : markR ((s[k]'hlt).toNat : Int)
          · rw [hm] at HO; clear hm
            go_wp2
            go_ret
            exact ⟨ret_boolF (marksB_no s k hlt (by rw [HO.out]; rfl)).symm, below_iter _ _ _⟩
          · have hr := markR_low _ hm
            rw [hm] at HO; clear hm
            go_wp2_with fail
            refine (containsRune_low _ _ _ (by omega) (by omega)).mono ?_
            rintro e w' ⟨rfl, rfl⟩
            have hc := ahead_iff s k hlt
            rw [u8_back, hc]
            cases hq : decide (Lib.indexByte s.data.toList (s[k]'hlt) = (k : Int))
            · rw [hq] at HO; clear hq hc
              go_wp2
              go_ret
              exact ⟨ret_boolF (marksB_no s k hlt (by rw [HO.out]; rfl)).symm, below_iter _ _ _⟩
            · rw [hq] at HO; clear hq hc
              go_wp2
              go_roundw
              case rel => exact ⟨k + 1, by omega, rfl, markAt_succ s k HA.out (by rw [HO.out]; rfl)⟩
              case measure => simp; omega
        · have hh := decode_high s k hlt (by omega)
          have hm : markR ((Utf8.decode s k).1 : Int) = false := markR_high _ (by omega)
          have hm2 : markR ((s[k]'hlt).toNat : Int) = false := markR_high _ (by omega)
          rw [hm2] at HO; clear hm2
          have hnx : ∀ ty, (Instr.next (.pointer (some ⟨w.heap.size, 0, none⟩)) true ty).run Tryz.prog (w.iter s k) = _ := fun ty => run_next_any w s k ty hlt
          go_wp2_with fail
          refine (isMark_any _ _).mono ?_
          rintro e w' ⟨rfl, rfl⟩
          rw [hm]
          go_wp2
          go_ret
          exact ⟨ret_boolF (marksB_no s k hlt (by rw [HO.out]; rfl)).symm, below_iter _ _ _⟩
      · have hnx : ∀ ty, (Instr.next (.pointer (some ⟨w.heap.size, 0, none⟩)) true ty).run Tryz.prog (w.iter s k) = _ := fun ty => run_next_end w s k ty hlt
        go_wp2
        go_ret
        exact ⟨ret_boolF (marksB_yes s HS (fun j hj => HA.out j (by omega))).symm, below_iter _ _ _⟩
  · have hne : ((s.size : Int) != 5) = true := by simpa using h5
    go_enter Tryz.func64, Tryz.ntmps64
    go_wp2
    go_ret
    exact ⟨ret_boolF (marksB_size s (by omega)).symm, Below.refl _ _⟩
end Go.Proofs.YtolgjdnhhbbebaaGreatDoor
/- The Name of a Segment: of the model and of the program. -/
namespace Go.Proofs.YtolgjdnhhbbebaaGreatDoor
open Go.RowKit
def nmAt (s : ByteArray) (j : Nat) : Bool := if h : j < s.size then digCapB ((s[j]'h).toNat : Int) && !(decide (j = 0) && decide (((s[j]'h).toNat : Int) ≤ 57)) else true
def name3 (s : ByteArray) : Bool := decide (s.size = 3) && (List.range s.size).all (nmAt s)
theorem name3_size {s : ByteArray} (h : s.size ≠ 3) : name3 s = false := by simp [name3, h]
theorem name3_yes {s : ByteArray} (h1 : s.size = 3) (h : ∀ j, j < s.size → nmAt s j = true) : name3 s = true := by
  simp only [name3, Bool.and_eq_true, decide_eq_true_eq]
  exact ⟨h1, List.all_eq_true.2 fun j hj => h j (List.mem_range.1 hj)⟩
theorem name3_no {s : ByteArray} (k : Nat) (hk : k < s.size) (h : nmAt s k = false) : name3 s = false := by
  simp only [name3, Bool.and_eq_false_iff]
  exact .inr (List.all_eq_false.2 ⟨k, List.mem_range.2 hk, by simp [h]⟩)
theorem nmAt_eq (s : ByteArray) (k : Nat) (hk : k < s.size) : nmAt s k = (digCapB ((s[k]'hk).toNat : Int) && !(decide (k = 0) && decide (((s[k]'hk).toNat : Int) ≤ 57))) := by simp [nmAt, hk]
theorem nmAt_succ (s : ByteArray) (k : Nat) (h : ∀ j, j < k → nmAt s j = true) (hk : nmAt s k = true) : ∀ j, j < k + 1 → nmAt s j = true := by
  intro j hj
  by_cases e : j = k
  · rw [e]; exact hk
  · exact h j (by omega)
set_option maxHeartbeats 2000000 in
theorem l04Name_any (s : ByteArray) (w : World) :
    Calls Tryz.prog 75 #[.string s] w fun e w' => e = .returned (.bool (name3 s)) ∧ w' = w := by
  by_cases h3 : (s.size : Int) = 3
  · have HS : s.size = 3 := by omega
    have hne : ((s.size : Int) != 3) = false := by simp [h3]
    have b0 : 0 < s.size := by omega
    have H0 := hideF (nmAt_eq s 0 b0)
    by_cases h65 : ((s[0]'b0).toNat : Int) < 65
    · go_enter Tryz.func75, Tryz.ntmps75
      go_wp2
      go_ret
      exact ⟨ret_boolF (name3_no 0 b0 (by rw [H0.out]; simp [digCapB]; omega)).symm, rfl⟩
    by_cases h90 : 90 < ((s[0]'b0).toNat : Int)
    · go_enter Tryz.func75, Tryz.ntmps75
      go_wp2
      go_ret
      exact ⟨ret_boolF (name3_no 0 b0 (by rw [H0.out]; simp [digCapB]; omega)).symm, rfl⟩
    have HZ := hideF (show nmAt s 0 = true by rw [H0.out]; simp [digCapB]; omega)
    go_enter Tryz.func75, Tryz.ntmps75
    go_wp2
    go_loop [3] (fun i => ∃ k : Nat, 1 ≤ k ∧ k ≤ 3 ∧ i = .int .i64 k ∧ Hid (∀ j, j < k → nmAt s j = true)) (fun i => 3 - (intOf i).toNat)
    case atStart => exact ⟨1, Nat.le_refl _, by omega, rfl, fun j hj => by rw [show j = 0 by omega]; exact HZ.out⟩
    case round =>
      obtain ⟨k, hk1, hk, rfl, HA⟩ := hrel
      by_cases hlt : k < 3
      · have hlt' : k < s.size := by omega
        have HO := hideF (nmAt_eq s k hlt')
        rcases rune_parts ((s[k]'hlt').toNat : Int) with h | ⟨h, h'⟩ | ⟨h, h'⟩ | ⟨h, h'⟩ | h
        all_goals go_wp2
        all_goals first
          | (go_ret; exact ⟨ret_boolF (name3_no k hlt' (by rw [HO.out]; simp [digCapB]; omega)).symm, rfl⟩)
          | (go_round
             case rel => exact ⟨k + 1, by omega, by omega, by go_num, nmAt_succ s k HA.out (by rw [HO.out]; simp [digCapB]; omega)⟩
             case measure => simp [intOf]; omega)
          | (exfalso; simp at *; omega)
      · go_wp2
        go_ret
        exact ⟨ret_boolF (name3_yes HS (fun j hj => HA.out j (by omega))).symm, rfl⟩
  · have hne : ((s.size : Int) != 3) = true := by simpa using h3
    go_enter Tryz.func75, Tryz.ntmps75
    go_wp2
    go_ret
    exact ⟨ret_boolF (name3_size (by omega)).symm, rfl⟩

theorem digCap_high (r : Int) (h : 128 ≤ r) : digCapB r = false := by simp [digCapB]; omega
set_option maxHeartbeats 2000000 in
theorem nameRight3_any (s : ByteArray) (w : World) :
    Calls Tryz.prog 82 #[.string s] w fun e w' => e = .returned (.bool (name3 s)) ∧ Below w.heap.size w w' := by
  by_cases h3 : (s.size : Int) = 3
  · have HS : s.size = 3 := by omega
    have hne : ((s.size : Int) != 3) = false := by simp [h3]
    go_enter Tryz.func82, Tryz.ntmps82
    go_wp2
    go_loopw [] (fun w' => ∃ k : Nat, k ≤ 3 ∧ w' = w.iter s k ∧ ∀ j, j < k → nmAt s j = true) (fun w' => s.size - w'.iterPos w.heap.size)
    case atStart => exact ⟨0, Nat.zero_le _, rfl, fun j hj => absurd hj (by omega)⟩
    case round =>
      obtain ⟨k, hk, rfl, hall⟩ := hrel
      have HA := hideF hall
      clear hall
      by_cases hlt : k < s.size
      · have HO := hideF (nmAt_eq s k hlt)
        by_cases hasc : (s[k]'hlt).toNat < 128
        · have hnx : ∀ ty, (Instr.next (.pointer (some ⟨w.heap.size, 0, none⟩)) true ty).run Tryz.prog (w.iter s k) = _ := fun ty => run_next_ascii w s k ty hlt hasc
          go_wp2_with fail
          refine (isDigitOrCapital_any _ _).mono ?_
          rintro e w' ⟨rfl, rfl⟩
          cases hm : digCapB ((s[k]'hlt).toNat : Int)
          · rw [hm] at HO; clear hm
            go_wp2
            go_ret
            exact ⟨ret_boolF (name3_no k hlt (by rw [HO.out]; rfl)).symm, below_iter _ _ _⟩
          · rw [hm] at HO; clear hm
            by_cases hk0 : (k : Int) = 0
            · have hkb : ((k : Int) == 0) = true := by simpa using hk0
              have hkn : k = 0 := by omega
              by_cases h57 : ((s[k]'hlt).toNat : Int) ≤ 57
              · have HN := hideF (show nmAt s k = false by rw [HO.out]; simp [hkn]; subst hkn; omega)
                clear hkn hk0
                go_wp2
                go_ret
                exact ⟨ret_boolF (name3_no k hlt HN.out).symm, below_iter _ _ _⟩
              · have HN := hideF (show nmAt s k = true by rw [HO.out]; simp; omega)
                clear hkn hk0
                go_wp2
                go_roundw
                case rel => exact ⟨k + 1, by omega, rfl, nmAt_succ s k HA.out HN.out⟩
                case measure => simp; omega
            · have hkb : ((k : Int) == 0) = false := by simpa using hk0
              have HN := hideF (show nmAt s k = true by rw [HO.out]; simp; omega)
              clear hk0
              go_wp2
              go_roundw
              case rel => exact ⟨k + 1, by omega, rfl, nmAt_succ s k HA.out HN.out⟩
              case measure => simp; omega
        · have hh := decode_high s k hlt (by omega)
          have hm : digCapB ((Utf8.decode s k).1 : Int) = false := digCap_high _ (by omega)
          have hm2 : digCapB ((s[k]'hlt).toNat : Int) = false := digCap_high _ (by omega)
          rw [hm2] at HO; clear hm2
          have hnx : ∀ ty, (Instr.next (.pointer (some ⟨w.heap.size, 0, none⟩)) true ty).run Tryz.prog (w.iter s k) = _ := fun ty => run_next_any w s k ty hlt
          go_wp2_with fail
          refine (isDigitOrCapital_any _ _).mono ?_
          rintro e w' ⟨rfl, rfl⟩
          rw [hm]
          go_wp2
          go_ret
          exact ⟨ret_boolF (name3_no k hlt (by rw [HO.out]; rfl)).symm, below_iter _ _ _⟩
      · have hnx : ∀ ty, (Instr.next (.pointer (some ⟨w.heap.size, 0, none⟩)) true ty).run Tryz.prog (w.iter s k) = _ := fun ty => run_next_end w s k ty hlt
        go_wp2
        go_ret
        exact ⟨ret_boolF (name3_yes HS (fun j hj => HA.out j (by omega))).symm, below_iter _ _ _⟩
  · have hne : ((s.size : Int) != 3) = true := by simpa using h3
    go_enter Tryz.func82, Tryz.ntmps82
    go_wp2
    go_ret
    exact ⟨ret_boolF (name3_size (by omega)).symm, Below.refl _ _⟩
end Go.Proofs.YtolgjdnhhbbebaaGreatDoor
/- A byte that a name may have, and NameRight of the program and of the model: both answer the same Lean function of the text's bytes. -/
namespace Go.Proofs.YtolgjdnhhbbebaaGreatDoor
open Go.RowKit

/-- May a byte stand in a name (at its head, if 'first')? -/
def idByte (c : Int) (first : Bool) : Bool := decide (97 ≤ c ∧ c ≤ 122) || (!first && (decide (48 ≤ c ∧ c ≤ 57) || decide (c = 95)))

theorem id_parts2 (c : Int) : (c < 48 ∧ (c != 95) = true) ∨ (48 ≤ c ∧ c ≤ 57) ∨ (58 ≤ c ∧ c ≤ 94 ∧ decide (c ≤ 57) = false ∧ (c != 95) = true) ∨ c = 95 ∨ c = 96 ∨ (97 ≤ c ∧ c ≤ 122) ∨
    (123 ≤ c ∧ decide (c ≤ 122) = false ∧ decide (c ≤ 57) = false ∧ (c != 95) = true) := by
  simp
  omega
theorem id_parts (c : Int) : c < 48 ∨ (48 ≤ c ∧ c ≤ 57) ∨ (58 ≤ c ∧ c ≤ 94) ∨ c = 95 ∨ c = 96 ∨ (97 ≤ c ∧ c ≤ 122) ∨ 123 ≤ c := by omega

set_option maxHeartbeats 400000 in
theorem isNameByte_any (c : Int) (first : Bool) (w : World) (h0 : 0 ≤ c) (h1 : c ≤ 255) :
    Calls Tryz.prog 40 #[.int .u8 c, .bool first] w fun e w' => e = .returned (.bool (idByte c first)) ∧ w' = w := by
  rcases id_parts c with h | ⟨h, h'⟩ | ⟨h, h'⟩ | h | h | ⟨h, h'⟩ | h
  all_goals try subst h
  all_goals cases first
  all_goals
    go_enter Tryz.func40, Tryz.ntmps40
    go_wp2
    go_ret
    refine ⟨ret_boolF ?_, rfl⟩
    rw [Bool.eq_iff_iff]
    simp [idByte] <;> omega

def idAt (s : ByteArray) (j : Nat) : Bool := if h : j < s.size then idByte ((s[j]'h).toNat : Int) ((j : Int) == 0) else true

def idB (s : ByteArray) : Bool := decide (1 ≤ s.size) && decide (s.size ≤ 20) && (List.range s.size).all (idAt s)

theorem idB_short (s : ByteArray) (h : s.size < 1) : idB s = false := by
  have : ¬ 1 ≤ s.size := by omega
  simp [idB, this]
theorem idB_long (s : ByteArray) (h : 20 < s.size) : idB s = false := by
  have : ¬ s.size ≤ 20 := by omega
  simp [idB, this]
theorem idB_yes (s : ByteArray) (h1 : 1 ≤ s.size) (h2 : s.size ≤ 20) (h : ∀ j, j < s.size → idAt s j = true) : idB s = true := by
  simp [idB, h1, h2, List.all_eq_true]
  exact h
theorem idB_no (s : ByteArray) (k : Nat) (hk : k < s.size) (h : idAt s k = false) : idB s = false := by
  simp only [idB, Bool.and_eq_false_iff]
  exact .inr (List.all_eq_false.2 ⟨k, List.mem_range.2 hk, by simp [h]⟩)

theorem idAt_eq (s : ByteArray) (k : Nat) (hk : k < s.size) : idAt s k = idByte ((s[k]'hk).toNat : Int) ((k : Int) == 0) := by
  simp [idAt, hk]


theorem idAt_succ (s : ByteArray) (k : Nat) (h : ∀ j, j < k → idAt s j = true) (hk : idAt s k = true) : ∀ j, j < k + 1 → idAt s j = true := by
  intro j hj
  by_cases e : j = k
  · rw [e]; exact hk
  · exact h j (by omega)

set_option maxHeartbeats 1000000 in
theorem implNameRight_any (s : ByteArray) (w : World) (hs : s.size ≤ maxLen) :
    Calls Tryz.prog 27 #[.string s] w fun e w' => e = .returned (.bool (idB s)) ∧ w' = w := by
  unfold maxLen at hs
  by_cases h1 : s.size < 1
  · go_enter Tryz.func27, Tryz.ntmps27
    go_wp2
    go_ret
    exact ⟨ret_boolF (idB_short s h1).symm, rfl⟩
  by_cases h2 : 20 < s.size
  · go_enter Tryz.func27, Tryz.ntmps27
    go_wp2
    go_ret
    exact ⟨ret_boolF (idB_long s h2).symm, rfl⟩
  go_enter Tryz.func27, Tryz.ntmps27
  go_wp2
  go_loop [3] (fun i => ∃ k : Nat, k ≤ s.size ∧ i = .int .i64 k ∧ ∀ j, j < k → idAt s j = true) (fun i => s.size - (intOf i).toNat)
  case atStart => exact ⟨0, Nat.zero_le _, rfl, fun j hj => absurd hj (by omega)⟩
  case round =>
    obtain ⟨k, hk, rfl, hall⟩ := hrel
    have HA := hideF hall
    clear hall
    by_cases hlt : k < s.size
    · have hc := idAt_eq s k hlt
      have hb : ((s[k]'hlt).toNat : Int) ≤ 255 := by have := (s[k]'hlt).toNat_lt; omega
      have HO := hideF hc
      clear hc
      go_wp2_with fail
      refine (isNameByte_any _ _ _ (by omega) hb).mono ?_
      rintro e w' ⟨rfl, rfl⟩
      cases hv : idByte ((s[k]'hlt).toNat : Int) ((k : Int) == 0)
      · rw [hv] at HO
        clear hv
        go_wp2
        go_ret
        exact ⟨ret_boolF (idB_no s k hlt HO.out).symm, rfl⟩
      · rw [hv] at HO
        clear hv
        go_wp2
        go_round
        case rel => exact ⟨k + 1, by omega, by go_num, idAt_succ s k HA.out HO.out⟩
        case measure => simp [intOf]; omega
    · go_wp2
      go_ret
      exact ⟨ret_boolF (idB_yes s (by omega) (by omega) (fun j hj => HA.out j (by omega))).symm, rfl⟩

set_option maxHeartbeats 1000000 in
theorem specNameRight_any (s : ByteArray) (w : World) (hs : s.size ≤ maxLen) :
    Calls Tryz.prog 22 #[.string s] w fun e w' => e = .returned (.bool (idB s)) ∧ w' = w := by
  unfold maxLen at hs
  by_cases h1 : s.size < 1
  · go_enter Tryz.func22, Tryz.ntmps22
    go_wp2
    go_ret
    exact ⟨ret_boolF (idB_short s h1).symm, rfl⟩
  by_cases h2 : 20 < s.size
  · go_enter Tryz.func22, Tryz.ntmps22
    go_wp2
    go_ret
    exact ⟨ret_boolF (idB_long s h2).symm, rfl⟩
  go_enter Tryz.func22, Tryz.ntmps22
  go_wp2
  go_loop [3] (fun i => ∃ k : Nat, k ≤ s.size ∧ i = .int .i64 k ∧ ∀ j, j < k → idAt s j = true) (fun i => s.size - (intOf i).toNat)
  case atStart => exact ⟨0, Nat.zero_le _, rfl, fun j hj => absurd hj (by omega)⟩
  case round =>
    obtain ⟨k, hk, rfl, hall⟩ := hrel
    have HA := hideF hall
    clear hall
    by_cases hlt : k < s.size
    · have hc := idAt_eq s k hlt
      have hb : ((s[k]'hlt).toNat : Int) ≤ 255 := by have := (s[k]'hlt).toNat_lt; omega
      have HO := hideF hc
      clear hc
      rcases (show k = 0 ∨ 0 < k by omega) with rfl | hk0
      · rcases id_parts2 ((s[0]'hlt).toNat : Int) with ⟨h, h2⟩ | ⟨h, h'⟩ | ⟨h, h', h2, h3⟩ | h | h | ⟨h, h'⟩ | ⟨h, h2, h3, h4⟩
        all_goals go_wp2
        all_goals first
          | (go_ret; exact ⟨ret_boolF (idB_no s 0 hlt (by rw [HO.out]; simp [idByte]; omega)).symm, rfl⟩)
          | (go_round
             case rel => exact ⟨1, by omega, rfl, idAt_succ s 0 HA.out (by rw [HO.out]; simp [idByte]; omega)⟩
             case measure => simp [intOf]; omega)
          | (exfalso; simp at *; omega)
      · have hk1 : ((k : Int) == 0) = false := by simp; omega
        rcases id_parts2 ((s[k]'hlt).toNat : Int) with ⟨h, h2⟩ | ⟨h, h'⟩ | ⟨h, h', h2, h3⟩ | h | h | ⟨h, h'⟩ | ⟨h, h2, h3, h4⟩
        all_goals go_wp2
        all_goals first
          | (go_ret; exact ⟨ret_boolF (idB_no s k hlt (by rw [HO.out]; simp [idByte]; omega)).symm, rfl⟩)
          | (go_round
             case rel => exact ⟨k + 1, by omega, by go_num, idAt_succ s k HA.out (by rw [HO.out]; simp [idByte]; omega)⟩
             case measure => simp [intOf]; omega)
          | (exfalso; simp at *; omega)
    · go_wp2
      go_ret
      exact ⟨ret_boolF (idB_yes s (by omega) (by omega) (fun j hj => HA.out j (by omega))).symm, rfl⟩
end Go.Proofs.YtolgjdnhhbbebaaGreatDoor
