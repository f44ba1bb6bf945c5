/- A text escaped by marks, as the model and as the program put it together; what is plain. -/
import Derived.Test.YtholbhjfmfanbaaGreatFMarks
import Derived.Test.YtholbhjfmfanbaaGreatFBuf
namespace Go.Proofs.YtholbhjfmfanbaaGreat
open Go.RowKit

def letters : List UInt8 := [70, 83, 82, 69, 84]
def bAt (m : ByteArray) (k : Nat) : UInt8 := m.data.toList.getD k 0
/-- What stands for a byte. -/
def escOne (m : ByteArray) (c : UInt8) : List UInt8 :=
  if 0 ≤ Lib.indexByte m.data.toList c then [bAt m 3, letters.getD (Lib.indexByte m.data.toList c).toNat 0, bAt m 3] else [c]
def escL (m : ByteArray) (t : List UInt8) : List UInt8 := t.flatMap (escOne m)
theorem escOne_len (m : ByteArray) (c : UInt8) : (escOne m c).length ≤ 3 := by unfold escOne; split <;> simp
theorem escL_len (m : ByteArray) : ∀ t : List UInt8, (escL m t).length ≤ 3 * t.length
  | [] => by simp [escL]
  | c :: t => by
    have h1 := escOne_len m c
    have h2 := escL_len m t
    simp only [escL, List.flatMap_cons, List.length_append, List.length_cons] at h2 ⊢
    omega
theorem escL_snoc (m : ByteArray) (t : List UInt8) (c : UInt8) : escL m (t ++ [c]) = escL m t ++ escOne m c := by simp [escL]
theorem take_snoc (s : ByteArray) (k : Nat) (h : k < s.size) : s.data.toList.take (k + 1) = s.data.toList.take k ++ [s[k]'h] := by
  rw [List.take_succ_eq_append_getElem (by simpa using h), data_get s k h]
theorem bAt_get (m : ByteArray) (k : Nat) (h : k < m.size) : bAt m k = m[k]'h := by
  have h' : k < m.data.toList.length := by simpa using h
  unfold bAt
  rw [List.getD_eq_getElem?_getD, List.getElem?_eq_getElem h', Option.getD_some, data_get m k h]
theorem indexByte_lt : ∀ (l : List UInt8) (c : UInt8), Lib.indexByte l c < l.length
  | [], _ => by simp [Lib.indexByte]
  | b :: l, c => by
    have ih := indexByte_lt l c
    have g := Lib.indexByte_ge l c
    unfold Lib.indexByte
    split
    · simp
    · split
      · simp; omega
      · simp; omega

def plainAt (s : ByteArray) (j : Nat) : Bool := if h : j < s.size then plainR ((s[j]'h).toNat : Int) else true
def plainB (s : ByteArray) : Bool := (List.range s.size).all (plainAt s)
theorem plainB_yes (s : ByteArray) (h : ∀ j, j < s.size → plainAt s j = true) : plainB s = true := List.all_eq_true.2 fun j hj => h j (List.mem_range.1 hj)
theorem plainB_no (s : ByteArray) (k : Nat) (hk : k < s.size) (h : plainAt s k = false) : plainB s = false := List.all_eq_false.2 ⟨k, List.mem_range.2 hk, by simp [h]⟩
theorem plainAt_eq (s : ByteArray) (k : Nat) (hk : k < s.size) : plainAt s k = plainR ((s[k]'hk).toNat : Int) := by simp [plainAt, hk]
theorem plainAt_succ (s : ByteArray) (k : Nat) (h : ∀ j, j < k → plainAt s j = true) (hk : plainAt s k = true) : ∀ j, j < k + 1 → plainAt s j = true := by
  intro j hj
  by_cases e : j = k
  · rw [e]; exact hk
  · exact h j (by omega)
theorem plainB_at {s : ByteArray} (h : plainB s = true) (k : Nat) (hk : k < s.size) : 32 ≤ (s[k]'hk).toNat ∧ (s[k]'hk).toNat ≤ 126 := by
  have := List.all_eq_true.1 h k (List.mem_range.2 hk)
  rw [plainAt_eq s k hk] at this
  simp [plainR] at this
  omega
theorem plainR_high (r : Int) (h : 128 ≤ r) : plainR r = false := by simp [plainR]; omega

set_option maxHeartbeats 1000000 in
theorem l04Plain_any (s : ByteArray) (most : Int) (w : World) (hs : s.size ≤ maxLen) :
    Calls Tryz.prog 143 #[.string s, .int .i64 most] w fun e w' => e = .returned (.bool (plainB s && decide ((s.size : Int) ≤ most))) ∧ w' = w := by
  unfold maxLen at hs
  go_enter Tryz.func143, Tryz.ntmps143
  go_wp2
  go_loop [5] (fun i => ∃ k : Nat, k ≤ s.size ∧ i = .int .i64 k ∧ ∀ j, j < k → plainAt s j = true) (fun i => s.size - (intOf i).toNat)
  case atStart => exact ⟨0, Nat.zero_le _, rfl, fun j hj => absurd hj (by omega)⟩
  case round =>
    obtain ⟨k, hk, rfl, hall⟩ := hrel
    have HA := hideF hall
    clear hall
    by_cases hlt : k < s.size
    · have HO := hideF (plainAt_eq s k hlt)
      rcases plain_parts ((s[k]'hlt).toNat : Int) with h | ⟨h, h'⟩ | h
      · go_wp2
        go_ret
        exact ⟨ret_boolF (by rw [plainB_no s k hlt (by rw [HO.out]; simp [plainR]; omega)]; rfl), rfl⟩
      · have h2 : ¬ 126 < ((s[k]'hlt).toNat : Int) := by omega
        go_wp2
        go_round
        case rel => exact ⟨k + 1, by omega, by go_num, plainAt_succ s k HA.out (by rw [HO.out]; simp [plainR]; omega)⟩
        case measure => simp [intOf]; omega
      · have h2 : 126 < ((s[k]'hlt).toNat : Int) := by omega
        go_wp2
        go_ret
        exact ⟨ret_boolF (by rw [plainB_no s k hlt (by rw [HO.out]; simp [plainR]; omega)]; rfl), rfl⟩
    · go_wp2
      go_ret
      exact ⟨ret_boolF (by rw [plainB_yes s (fun j hj => HA.out j (by omega))]; simp), rfl⟩

set_option maxHeartbeats 1000000 in
theorem allPlain_any (s : ByteArray) (w : World) :
    Calls Tryz.prog 146 #[.string s] w fun e w' => e = .returned (.bool (plainB s)) ∧ Below w.heap.size w w' := by
  go_enter Tryz.func146, Tryz.ntmps146
  go_wp2
  go_loopw [] (fun w' => ∃ k : Nat, k ≤ s.size ∧ w' = w.iter s k ∧ ∀ j, j < k → plainAt s j = true) (fun w' => s.size - w'.iterPos w.heap.size)
  case atStart => exact ⟨0, Nat.zero_le _, rfl, fun j hj => absurd hj (by omega)⟩
  case round =>
    obtain ⟨k, hk, rfl, hall⟩ := hrel
    have HA := hideF hall
    clear hall
    by_cases hlt : k < s.size
    · have HO := hideF (plainAt_eq s k hlt)
      by_cases hasc : (s[k]'hlt).toNat < 128
      · have hnx : ∀ ty, (Instr.next (.pointer (some ⟨w.heap.size, 0, none⟩)) true ty).run Tryz.prog (w.iter s k) = _ := fun ty => run_next_ascii w s k ty hlt hasc
        go_wp2_with fail
        refine (isPlain_any _ _).mono ?_
        rintro e w' ⟨rfl, rfl⟩
        cases hm : plainR ((s[k]'hlt).toNat : Int)
        · rw [hm] at HO; clear hm
          go_wp2
          go_ret
          exact ⟨ret_boolF (plainB_no s k hlt HO.out).symm, below_iter _ _ _⟩
        · rw [hm] at HO; clear hm
          go_wp2
          go_roundw
          case rel => exact ⟨k + 1, by omega, rfl, plainAt_succ s k HA.out HO.out⟩
          case measure => simp; omega
      · have hh := decode_high s k hlt (by omega)
        have hm : plainR ((Utf8.decode s k).1 : Int) = false := plainR_high _ (by omega)
        have hm2 : plainR ((s[k]'hlt).toNat : Int) = false := plainR_high _ (by omega)
        rw [hm2] at HO; clear hm2
        have hnx : ∀ ty, (Instr.next (.pointer (some ⟨w.heap.size, 0, none⟩)) true ty).run Tryz.prog (w.iter s k) = _ := fun ty => run_next_any w s k ty hlt
        go_wp2_with fail
        refine (isPlain_any _ _).mono ?_
        rintro e w' ⟨rfl, rfl⟩
        rw [hm]
        go_wp2
        go_ret
        exact ⟨ret_boolF (plainB_no s k hlt HO.out).symm, below_iter _ _ _⟩
    · have hnx : ∀ ty, (Instr.next (.pointer (some ⟨w.heap.size, 0, none⟩)) true ty).run Tryz.prog (w.iter s k) = _ := fun ty => run_next_end w s k ty hlt
      go_wp2
      go_ret
      exact ⟨ret_boolF (plainB_yes s (fun j hj => HA.out j (by omega))).symm, below_iter _ _ _⟩

theorem Tryz.infoByte : (Tryz.prog.info? 5).map (fun i => (i.zero, i.size, i.bytes)) = some (some (.int .u8 0), 1, 1) := by kernel_rfl
theorem iter_kept {e B : Nat} {w w' : World} {v : Value} {L : List UInt8} (h : Buf e B w w' v L) {k : Nat} {s : ByteArray} {pos : Nat} (hk : w.heap[k]? = some (.stringIter s pos)) : w'.heap[k]? = some (.stringIter s pos) :=
  h.kept k _ hk (by simp) (fun _ _ e1 => by cases e1)
theorem alloc_drew_new (w : World) (o : Obj) : (w.alloc o).drew.heap[w.heap.size]? = some o := heap_alloc_new w o
theorem iterPos_of {w : World} {k : Nat} {s : ByteArray} {pos : Nat} (hk : w.heap[k]? = some (.stringIter s pos)) : w.iterPos k = pos := by simp [World.iterPos, hk]
theorem bytes_len (s : ByteArray) : s.data.toList.length = s.size := by simp
theorem letter_get (k : Nat) (h : k < 5) : (⟨#[70, 83, 82, 69, 84]⟩ : ByteArray)[k]'(show k < 5 from h) = letters.getD k 0 := by
  match k, h with
  | 0, _ => rfl
  | 1, _ => rfl
  | 2, _ => rfl
  | 3, _ => rfl
  | 4, _ => rfl

end Go.Proofs.YtholbhjfmfanbaaGreat
