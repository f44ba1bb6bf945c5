/- A text escaped by marks, as the model and as the program put it together; what is plain. -/
import Derived.Test.YtolgjdnhhbbebaaGreatDoorXGFIdx
import Derived.Test.YtolgjdnhhbbebaaGreatDoorXGFBuf
namespace Go.Proofs.YtolgjdnhhbbebaaGreatDoor
open Go.RowKit

def letters : List UInt8 := [70, 83, 82, 69, 84]
def bAt (m : ByteArray) (k : Nat) : UInt8 := m.data.toList.getD k 0
/-- What stands for a byte. -/
def escOne (m : ByteArray) (c : UInt8) : List UInt8 :=
  if 0 ≤ Lib.indexByte m.data.toList c then [bAt m 3, letters.getD (Lib.indexByte m.data.toList c).toNat 0, bAt m 3] else [c]
def escL (m : ByteArray) (t : List UInt8) : List UInt8 := t.flatMap (escOne m)
theorem escOne_len (m : ByteArray) (c : UInt8) : (escOne m c).length ≤ 3 := by unfold escOne; split <;> simp
theorem escL_len (m : ByteArray) : ∀ t : List UInt8, (escL m t).length ≤ 3 * t.length
  | [] => by simp [escL]
  | c :: t => by
    have h1 := escOne_len m c
    have h2 := escL_len m t
    simp only [escL, List.flatMap_cons, List.length_append, List.length_cons] at h2 ⊢
    omega
theorem escL_snoc (m : ByteArray) (t : List UInt8) (c : UInt8) : escL m (t ++ [c]) = escL m t ++ escOne m c := by simp [escL]
theorem take_snoc (s : ByteArray) (k : Nat) (h : k < s.size) : s.data.toList.take (k + 1) = s.data.toList.take k ++ [s[k]'h] := by
  rw [List.take_succ_eq_append_getElem (by simpa using h), data_get s k h]
theorem bAt_get (m : ByteArray) (k : Nat) (h : k < m.size) : bAt m k = m[k]'h := by
  have h' : k < m.data.toList.length := by simpa using h
  unfold bAt
  rw [List.getD_eq_getElem?_getD, List.getElem?_eq_getElem h', Option.getD_some, data_get m k h]
theorem indexByte_lt : ∀ (l : List UInt8) (c : UInt8), Lib.indexByte l c < l.length
  | [], _ => by simp [Lib.indexByte]
  | b :: l, c => by
    have ih := indexByte_lt l c
    have g := Lib.indexByte_ge l c
    unfold Lib.indexByte
    split
    · simp
    · split
      · simp; omega
      · simp; omega

def plainAt (s : ByteArray) (j : Nat) : Bool := if h : j < s.size then plainR ((s[j]'h).toNat : Int) else true
def plainB (s : ByteArray) : Bool := (List.range s.size).all (plainAt s)
theorem plainB_yes (s : ByteArray) (h : ∀ j, j < s.size → plainAt s j = true) : plainB s = true := List.all_eq_true.2 fun j hj => h j (List.mem_range.1 hj)
theorem plainB_no (s : ByteArray) (k : Nat) (hk : k < s.size) (h : plainAt s k = false) : plainB s = false := List.all_eq_false.2 ⟨k, List.mem_range.2 hk, by simp [h]⟩
theorem plainAt_eq (s : ByteArray) (k : Nat) (hk : k < s.size) : plainAt s k = plainR ((s[k]'hk).toNat : Int) := by simp [plainAt, hk]
theorem plainAt_succ (s : ByteArray) (k : Nat) (h : ∀ j, j < k → plainAt s j = true) (hk : plainAt s k = true) : ∀ j, j < k + 1 → plainAt s j = true := by
  intro j hj
  by_cases e : j = k
  · rw [e]; exact hk
  · exact h j (by omega)
theorem plainB_at {s : ByteArray} (h : plainB s = true) (k : Nat) (hk : k < s.size) : 32 ≤ (s[k]'hk).toNat ∧ (s[k]'hk).toNat ≤ 126 := by
  have := List.all_eq_true.1 h k (List.mem_range.2 hk)
  rw [plainAt_eq s k hk] at this
  simp [plainR] at this
  omega
theorem plainR_high (r : Int) (h : 128 ≤ r) : plainR r = false := by simp [plainR]; omega

set_option maxHeartbeats 1000000 in
theorem l04Plain_any (s : ByteArray) (most : Int) (w : World) (hs : s.size ≤ maxLen) :
    Calls Tryz.prog 126 #[.string s, .int .i64 most] w fun e w' => e = .returned (.bool (plainB s && decide ((s.size : Int) ≤ most))) ∧ w' = w := by
  unfold maxLen at hs
  go_enter Tryz.func126, Tryz.ntmps126
  go_wp2
  go_loop [5] (fun i => ∃ k : Nat, k ≤ s.size ∧ i = .int .i64 k ∧ ∀ j, j < k → plainAt s j = true) (fun i => s.size - (intOf i).toNat)
  case atStart => exact ⟨0, Nat.zero_le _, rfl, fun j hj => absurd hj (by omega)⟩
  case round =>
    obtain ⟨k, hk, rfl, hall⟩ := hrel
    have HA := hideF hall
    clear hall
    by_cases hlt : k < s.size
    · have HO := hideF (plainAt_eq s k hlt)
      rcases plain_parts ((s[k]'hlt).toNat : Int) with h | ⟨h, h'⟩ | h
      · go_wp2
        go_ret
        exact ⟨ret_boolF (by rw [plainB_no s k hlt (by rw [HO.out]; simp [plainR]; omega)]; rfl), rfl⟩
      · have h2 : ¬ 126 < ((s[k]'hlt).toNat : Int) := by omega
        go_wp2
        go_round
        case rel => exact ⟨k + 1, by omega, by go_num, plainAt_succ s k HA.out (by rw [HO.out]; simp [plainR]; omega)⟩
        case measure => simp [intOf]; omega
      · have h2 : 126 < ((s[k]'hlt).toNat : Int) := by omega
        go_wp2
        go_ret
        exact ⟨ret_boolF (by rw [plainB_no s k hlt (by rw [HO.out]; simp [plainR]; omega)]; rfl), rfl⟩
    · go_wp2
      go_ret
      exact ⟨ret_boolF (by rw [plainB_yes s (fun j hj => HA.out j (by omega))]; simp), rfl⟩

set_option maxHeartbeats 1000000 in
theorem allPlain_any (s : ByteArray) (w : World) :
    Calls Tryz.prog 123 #[.string s] w fun e w' => e = .returned (.bool (plainB s)) ∧ Below w.heap.size w w' := by
  go_enter Tryz.func123, Tryz.ntmps123
  go_wp2
  go_loopw [] (fun w' => ∃ k : Nat, k ≤ s.size ∧ w' = w.iter s k ∧ ∀ j, j < k → plainAt s j = true) (fun w' => s.size - w'.iterPos w.heap.size)
  case atStart => exact ⟨0, Nat.zero_le _, rfl, fun j hj => absurd hj (by omega)⟩
  case round =>
    obtain ⟨k, hk, rfl, hall⟩ := hrel
    have HA := hideF hall
    clear hall
    by_cases hlt : k < s.size
    · have HO := hideF (plainAt_eq s k hlt)
      by_cases hasc : (s[k]'hlt).toNat < 128
      · have hnx : ∀ ty, (Instr.next (.pointer (some ⟨w.heap.size, 0, none⟩)) true ty).run Tryz.prog (w.iter s k) = _ := fun ty => run_next_ascii w s k ty hlt hasc
        go_wp2_with fail
        refine (isPlain_any _ _).mono ?_
        rintro e w' ⟨rfl, rfl⟩
        cases hm : plainR ((s[k]'hlt).toNat : Int)
        · rw [hm] at HO; clear hm
          go_wp2
          go_ret
          exact ⟨ret_boolF (plainB_no s k hlt HO.out).symm, below_iter _ _ _⟩
        · rw [hm] at HO; clear hm
          go_wp2
          go_roundw
          case rel => exact ⟨k + 1, by omega, rfl, plainAt_succ s k HA.out HO.out⟩
          case measure => simp; omega
      · have hh := decode_high s k hlt (by omega)
        have hm : plainR ((Utf8.decode s k).1 : Int) = false := plainR_high _ (by omega)
        have hm2 : plainR ((s[k]'hlt).toNat : Int) = false := plainR_high _ (by omega)
        rw [hm2] at HO; clear hm2
        have hnx : ∀ ty, (Instr.next (.pointer (some ⟨w.heap.size, 0, none⟩)) true ty).run Tryz.prog (w.iter s k) = _ := fun ty => run_next_any w s k ty hlt
        go_wp2_with fail
        refine (isPlain_any _ _).mono ?_
        rintro e w' ⟨rfl, rfl⟩
        rw [hm]
        go_wp2
        go_ret
        exact ⟨ret_boolF (plainB_no s k hlt HO.out).symm, below_iter _ _ _⟩
    · have hnx : ∀ ty, (Instr.next (.pointer (some ⟨w.heap.size, 0, none⟩)) true ty).run Tryz.prog (w.iter s k) = _ := fun ty => run_next_end w s k ty hlt
      go_wp2
      go_ret
      exact ⟨ret_boolF (plainB_yes s (fun j hj => HA.out j (by omega))).symm, below_iter _ _ _⟩

theorem l04Letters_any (w : World) : Calls Tryz.prog 76 #[] w fun e w' => e = .returned (.string ⟨#[70, 83, 82, 69, 84]⟩) ∧ w' = w := by
  go_enter Tryz.func76, Tryz.ntmps76
  go_wp2
  go_ret
  exact ⟨rfl, rfl⟩

theorem Tryz.infoByte : (Tryz.prog.info? 5).map (fun i => (i.zero, i.size, i.bytes)) = some (some (.int .u8 0), 1, 1) := by kernel_rfl
theorem iter_kept {e B : Nat} {w w' : World} {v : Value} {L : List UInt8} (h : Buf e B w w' v L) {k : Nat} {s : ByteArray} {pos : Nat} (hk : w.heap[k]? = some (.stringIter s pos)) : w'.heap[k]? = some (.stringIter s pos) :=
  h.kept k _ hk (by simp) (fun _ _ e1 => by cases e1)
theorem alloc_drew_new (w : World) (o : Obj) : (w.alloc o).drew.heap[w.heap.size]? = some o := heap_alloc_new w o
theorem iterPos_of {w : World} {k : Nat} {s : ByteArray} {pos : Nat} (hk : w.heap[k]? = some (.stringIter s pos)) : w.iterPos k = pos := by simp [World.iterPos, hk]
theorem bytes_len (s : ByteArray) : s.data.toList.length = s.size := by simp
theorem letter_get (k : Nat) (h : k < 5) : (⟨#[70, 83, 82, 69, 84]⟩ : ByteArray)[k]'(show k < 5 from h) = letters.getD k 0 := by
  match k, h with
  | 0, _ => rfl
  | 1, _ => rfl
  | 2, _ => rfl
  | 3, _ => rfl
  | 4, _ => rfl

set_option maxHeartbeats 4000000 in
set_option maxRecDepth 100000 in
theorem appendEscaped_any (v : Value) (L : List UInt8) (B : Nat) (m s : ByteArray) (w : World) (hm : m.size = 5) (hp : plainB s = true) (hL : L.length + 3 * s.size ≤ 90000000) (hB : B ≤ w.heap.size)
    (ho : w.ownsRow B 5 1 v L.length (u8s L)) :
    Calls Tryz.prog 85 #[v, .string m, .string s] w fun e w' => ∃ v', e = .returned v' ∧ Buf 5 B w w' v' (L ++ escL m s.data.toList) := by
  have HO := hideF ho
  clear ho
  go_enter Tryz.func85, Tryz.ntmps85
  go_wp2
  go_loopw [0] (fun v' w' => ∃ (X : World) (k : Nat), X = w' ∧ k ≤ s.size ∧ w'.heap[w.heap.size]? = some (.stringIter s k) ∧ Buf 5 B w w' v' (L ++ escL m (s.data.toList.take k))) (fun _ w' => s.size - w'.iterPos w.heap.size)
  case atStart =>
    exact ⟨_, 0, rfl, Nat.zero_le _, World.iter_heap _ _ _, by
      have h := (Buf.start HO.out hB).alloc (.stringIter s 0)
      simp only [List.take_zero, escL, List.flatMap_nil, List.append_nil]
      exact h⟩
  case round =>
    obtain ⟨X, k, rfl, hk, hit, hbuf⟩ := hrel
    have HBf := hideF hbuf
    clear hbuf
    by_cases hlt : k < s.size
    · have hpk := plainB_at hp k hlt
      have hnx : ∀ ty, (Instr.next (.pointer (some ⟨w.heap.size, 0, none⟩)) true ty).run Tryz.prog X = _ := fun ty => Lib.run_next_ascii_at X w.heap.size s k ty hit hlt (by omega)
      have hit2 := Lib.iterAt_heap X w.heap.size s k (k + 1) hit
      have HB2 := hideF (HBf.out.iterAt hit (Nat.le_refl _) (k + 1))
      go_wp2_with fail
      refine (indexRune_low _ _ _ (by omega) (by omega)).mono ?_
      rintro e w' ⟨rfl, rfl⟩
      generalize X.iterAt w.heap.size s (k + 1) = Y at *
      rw [u8_back]
      by_cases hneg : Lib.indexByte m.data.toList (s[k]'hlt) < 0
      · have hesc : escOne m (s[k]'hlt) = [s[k]'hlt] := by unfold escOne; rw [if_neg (by omega)]
        have HE := hideF hesc
        clear hesc
        have HB3 := hideF ((Buf.start HB2.out.own HB2.out.size).alloc (.cells #[.int .u8 ((s[k]'hlt).toNat : Int)] 5))
        have HC := hideF (heap_alloc_new Y (.cells #[.int .u8 ((s[k]'hlt).toNat : Int)] 5))
        have hl := escL_len m (s.data.toList.take k)
        rw [List.length_take, bytes_len] at hl
        have hl2 : (L ++ escL m (s.data.toList.take k)).length + [s[k]'hlt].length ≤ 100000000 := by simp only [List.length_append, List.length_cons, List.length_nil]; omega
        clear hl
        have HL2 := hideF hl2
        clear hl2
        go_wp2_with (at_builtin; refine wpList_buf rfl (.tmp 20) (.tmp 23) 63 rfl B 5 Tryz.underlying63 Tryz.infoByte _ _ rfl HB3.out Y.heap.size 1 [s[k]'hlt] rfl rfl ⟨_, HC.out⟩ HL2.out ?_)
        intro v2 w2 hb2
        have hit3 := iter_kept hb2 hit2
        have HB4 := hideF (HB2.out.trans hb2)
        clear hb2
        go_wp2
        go_roundw
        case rel =>
          refine ⟨_, k + 1, rfl, by omega, hit3, ?_⟩
          rw [take_snoc s k hlt, escL_snoc, HE.out]
          simpa only [List.append_assoc] using HB4.out
        case measure => rw [iterPos_of hit3, iterPos_of hit]; omega
      · obtain ⟨q, hq⟩ : ∃ q : Nat, Lib.indexByte m.data.toList (s[k]'hlt) = q := ⟨_, (Int.toNat_of_nonneg (by omega)).symm⟩
        have hq5 : q < 5 := by have := indexByte_lt m.data.toList (s[k]'hlt); rw [bytes_len] at this; omega
        have hesc : escOne m (s[k]'hlt) = [bAt m 3, letters.getD q 0, bAt m 3] := by unfold escOne; rw [if_pos (by omega), hq]; rfl
        have HE := hideF hesc
        clear hesc
        rw [hq]
        clear hq hneg
        have h3 := bAt_get m 3 (by omega)
        have hlq := letter_get q hq5
        have HB3 := hideF (Buf.start HB2.out.own HB2.out.size)
        have hl := escL_len m (s.data.toList.take k)
        rw [List.length_take, bytes_len] at hl
        have hl2 : (L ++ escL m (s.data.toList.take k)).length + [bAt m 3, letters.getD q 0, bAt m 3].length ≤ 100000000 := by simp only [List.length_append, List.length_cons, List.length_nil]; omega
        clear hl
        have HL2 := hideF hl2
        clear hl2
        rw [h3, hlq.symm] at HE
        rw [h3, hlq.symm] at HL2
        clear h3 hlq
        have h3m : 3 < m.size := by omega
        have hq5i : (q : Int) < 5 := by omega
        go_wp2_with fail
        go_region_held3 (fun _ => True) (trivial)
          ((refine step_buf (w0 := Y) ?_ (.tmp 25) (.tmp 32) 63 ?_ B 5 Tryz.underlying63 Tryz.infoByte u0 (L ++ escL m (s.data.toList.take k)) ?_ ?_ Y.heap.size 3 [m[3]'h3m, (⟨#[70, 83, 82, 69, 84]⟩ : ByteArray)[q]'(show q < 5 from hq5), m[3]'h3m] ?_ ?_ ?_ ?_ ?_; rfl; rfl; rfl; exact (HB3.out.alloc _).drew; rfl; rfl; exact ⟨_, alloc_drew_new _ _⟩; exact HL2.out; intro v2 w2 hb2; have HB5 := hideF hb2; clear hb2))
        all_goals
          have hit3 := iter_kept HB5.out hit2
          have HB4 := hideF (HB2.out.trans HB5.out)
          clear HB5
          go_wp2
          go_roundw
          case rel =>
            refine ⟨_, k + 1, rfl, by omega, hit3, ?_⟩
            rw [take_snoc s k hlt, escL_snoc, HE.out]
            simpa only [List.append_assoc] using HB4.out
          case measure => rw [iterPos_of hit3, iterPos_of hit]; omega
    · have hnx : ∀ ty, (Instr.next (.pointer (some ⟨w.heap.size, 0, none⟩)) true ty).run Tryz.prog X = _ := fun ty => Lib.run_next_end_at X w.heap.size s k ty hit hlt
      go_wp2
      go_ret
      have e1 : k = s.size := by omega
      subst e1
      have e2 : s.data.toList.take s.size = s.data.toList := List.take_of_length_le (by simp)
      have := HBf.out
      rw [e2] at this
      exact ⟨_, rfl, this⟩
end Go.Proofs.YtolgjdnhhbbebaaGreatDoor
/- EscapeOf of the program and of the model. -/
namespace Go.Proofs.YtolgjdnhhbbebaaGreatDoor
open Go.RowKit

theorem bufEmpty (e : TypeId) (w : World) : Buf e w.heap.size w (w.alloc (.cells #[] e)) (.slice (some ⟨w.heap.size, 0, none⟩) 0 0) [] :=
  ⟨World.ownsRow_made w #[] 0 (Nat.le_refl _) (by unfold maxLen; omega) rfl, (Below.refl _ _).alloc (Nat.le_refl _) _, Nat.le_refl _, (Lib.OthersKept.refl _ _ _).alloc _⟩

set_option maxHeartbeats 4000000 in
set_option maxRecDepth 100000 in
theorem l04Escape_any (m s : ByteArray) (w : World) (hm : m.size = 5) (hs : s.size ≤ 20000000) :
    Calls Tryz.prog 56 #[.string m, .string s] w fun e w' => e = .returned (.string ⟨(escL m s.data.toList).toArray⟩) ∧ Below w.heap.size w w' := by
  go_enter Tryz.func56, Tryz.ntmps56
  go_wp2
  go_loopw [5, 6] (fun v' i w' => ∃ (X : World) (k : Nat), X = w' ∧ k ≤ s.size ∧ i = .int .i64 k ∧ Buf 5 w.heap.size w w' v' (escL m (s.data.toList.take k))) (fun _ i _ => s.size - (intOf i).toNat)
  case atStart =>
    exact ⟨_, 0, rfl, Nat.zero_le _, rfl, by
      simp only [List.take_zero, escL, List.flatMap_nil]
      exact bufEmpty _ _⟩
  case round =>
    obtain ⟨X, k, rfl, hk, rfl, hbuf⟩ := hrel
    have HBf := hideF hbuf
    clear hbuf
    by_cases hlt : k < s.size
    · go_wp2_with fail
      refine (l04At_any m (s[k]'hlt) _ (by unfold maxLen; omega)).mono ?_
      rintro e w' ⟨rfl, rfl⟩
      have hl := escL_len m (s.data.toList.take k)
      rw [List.length_take, bytes_len] at hl
      by_cases hneg : Lib.indexByte m.data.toList (s[k]'hlt) < 0
      · have hneg2 : ¬ 0 ≤ Lib.indexByte m.data.toList (s[k]'hlt) := by omega
        have hesc : escOne m (s[k]'hlt) = [s[k]'hlt] := by unfold escOne; rw [if_neg (by omega)]
        have HE := hideF hesc
        clear hesc
        have HB3 := hideF (HBf.out.alloc (.cells #[.int .u8 ((s[k]'hlt).toNat : Int)] 5))
        have HC := hideF (heap_alloc_new w' (.cells #[.int .u8 ((s[k]'hlt).toNat : Int)] 5))
        have hl2 : (escL m (s.data.toList.take k)).length + [s[k]'hlt].length ≤ 100000000 := by simp only [List.length_cons, List.length_nil]; omega
        have HL2 := hideF hl2
        clear hl hl2
        go_wp2_with (at_builtin; refine wpList_buf rfl (.tmp 32) (.tmp 36) 63 rfl w.heap.size 5 Tryz.underlying63 Tryz.infoByte _ _ rfl HB3.out w'.heap.size 1 [s[k]'hlt] rfl rfl ⟨_, HC.out⟩ HL2.out ?_)
        intro v2 w2 hb2
        have HB4 := hideF hb2
        clear hb2
        go_wp2
        go_roundw
        case rel =>
          refine ⟨_, k + 1, rfl, by omega, by go_num, ?_⟩
          rw [take_snoc s k hlt, escL_snoc, HE.out]
          exact HB4.out
        case measure => simp [intOf]; omega
      · obtain ⟨q, hq⟩ : ∃ q : Nat, Lib.indexByte m.data.toList (s[k]'hlt) = q := ⟨_, (Int.toNat_of_nonneg (by omega)).symm⟩
        have hq5 : q < 5 := by have := indexByte_lt m.data.toList (s[k]'hlt); rw [bytes_len] at this; omega
        have hesc : escOne m (s[k]'hlt) = [bAt m 3, letters.getD q 0, bAt m 3] := by unfold escOne; rw [if_pos (by omega), hq]; rfl
        have HE := hideF hesc
        clear hesc
        rw [hq]
        clear hq hneg
        have h3 := bAt_get m 3 (by omega)
        have hlq := letter_get q hq5
        have hl2 : (escL m (s.data.toList.take k)).length + [bAt m 3, letters.getD q 0, bAt m 3].length ≤ 100000000 := by simp only [List.length_cons, List.length_nil]; omega
        have HL2 := hideF hl2
        clear hl hl2
        rw [h3, hlq.symm] at HE
        rw [h3, hlq.symm] at HL2
        clear h3 hlq
        have h3m : 3 < m.size := by omega
        have hq5i : (q : Int) < 5 := by omega
        go_wp2_with fail
        go_region_held3 (fun _ => True) (trivial)
          ((first
            | (go_at_call 76; refine (l04Letters_any _).mono ?_; rintro e w3 ⟨rfl, rfl⟩)
            | (refine step_buf (w0 := w) ?_ (.tmp 22) (.tmp 30) 63 ?_ w.heap.size 5 Tryz.underlying63 Tryz.infoByte u5 (escL m (s.data.toList.take k)) ?_ ?_ w'.heap.size 3 [m[3]'h3m, (⟨#[70, 83, 82, 69, 84]⟩ : ByteArray)[q]'(show q < 5 from hq5), m[3]'h3m] ?_ ?_ ?_ ?_ ?_; rfl; rfl; rfl; (repeat (first | with_reducible exact HBf.out | with_reducible refine Buf.drew ?_ | with_reducible refine Buf.alloc ?_ _)); rfl; rfl; exact ⟨_, alloc_drew_new _ _⟩; exact HL2.out; intro v2 w2 hb2; have HB5 := hideF hb2; clear hb2)))
        all_goals
          go_wp2
          go_roundw
          case rel =>
            refine ⟨_, k + 1, rfl, by omega, by go_num, ?_⟩
            rw [take_snoc s k hlt, escL_snoc, HE.out]
            exact HB5.out
          case measure => simp [intOf]; omega
    · have e1 : k = s.size := by omega
      subst e1
      have e2 : s.data.toList.take s.size = s.data.toList := List.take_of_length_le (by simp)
      rw [e2] at HBf
      have hcv := HBf.out.text (P := Tryz.prog) Tryz.underlying63 Tryz.underlying5 Tryz.underlying9
      go_wp2
      go_ret
      exact ⟨rfl, HBf.out.below⟩

def escB (m t : ByteArray) : ByteArray := if marksB m && (plainB t && decide (t.size ≤ 400)) then ⟨(escL m t.data.toList).toArray⟩ else ⟨#[]⟩
theorem escB_yes {m t : ByteArray} (h1 : marksB m = true) (h2 : plainB t = true) (h3 : t.size ≤ 400) : escB m t = ⟨(escL m t.data.toList).toArray⟩ := by simp [escB, h1, h2, h3]
theorem escB_marks {m t : ByteArray} (h1 : marksB m = false) : escB m t = ⟨#[]⟩ := by simp [escB, h1]
theorem escB_plain {m t : ByteArray} (h1 : plainB t = false) : escB m t = ⟨#[]⟩ := by simp [escB, h1]
theorem escB_long {m t : ByteArray} (h1 : 400 < t.size) : escB m t = ⟨#[]⟩ := by
  have : ¬ t.size ≤ 400 := by omega
  simp [escB, this]
theorem marksB_five {m : ByteArray} (h : marksB m = true) : m.size = 5 := by
  simp [marksB] at h
  exact h.1
theorem ret_str {a b : ByteArray} (h : a = b) : Ending.returned (.string a) = .returned (.string b) := by rw [h]

end Go.Proofs.YtolgjdnhhbbebaaGreatDoor
