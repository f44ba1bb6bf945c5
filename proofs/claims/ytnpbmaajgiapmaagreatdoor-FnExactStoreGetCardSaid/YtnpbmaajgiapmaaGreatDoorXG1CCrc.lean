/- The register of the CRC: the program's crcRegister and the model's l01Crc go through the same numbers, bit by bit. -/
import Derived.Test.YtnpbmaajgiapmaaGreatDoorRows
import Derived.WalkKit
import Derived.OpenShut
import Derived.Test.YtnpbmaajgiapmaaGreatDoorXG0Mem
import Derived.Laws.IdiomStrings
import Derived.Laws.BytesString
namespace Go.Proofs.YtnpbmaajgiapmaaGreatDoor.St1
open Go.RowKit
theorem hide {p : Prop} (h : p) : Hid p := h
theorem ret_int {k : IntKind} {a b : Int} (h : a = b) : Ending.returned (.int k a) = .returned (.int k b) := by rw [h]

/-- One bit goes out of the register. -/
def crcBit (R : Int) : Int := if bits .and .u32 R 1 == 1 then bits .xor .u32 (R / 2) 3988292384 else R / 2
def crcBits : Nat → Int → Int
  | 0, R => R
  | n + 1, R => crcBit (crcBits n R)
/-- One byte goes in. -/
def crcByte (R b : Int) : Int := crcBits 8 (bits .xor .u32 R (b % 4294967296))
/-- The first k bytes of s go in. -/
def crcTo (s : ByteArray) : Nat → Int → Int
  | 0, R => R
  | k + 1, R => if h : k < s.size then crcByte (crcTo s k R) ((s[k]'h).toNat : Int) else crcTo s k R
/-- The CRC of what stands behind a text of the CRC c. -/
def crcOf (c : Int) (s : ByteArray) : Int := bits .xor .u32 (crcTo s s.size (bits .xor .u32 c 4294967295)) 4294967295

theorem bits_bd (op : BinOp) (x y : Int) : 0 ≤ bits op .u32 x y ∧ bits op .u32 x y ≤ 4294967295 := bounds_u32 (wf_bits op .u32 x y)
theorem crcBit_yes (R : Int) (h : (bits .and .u32 R 1 == 1) = true) : crcBit R = bits .xor .u32 (R / 2) 3988292384 := by
  unfold crcBit; rw [h]; rfl
theorem crcBit_no (R : Int) (h : (bits .and .u32 R 1 == 1) = false) : crcBit R = R / 2 := by
  unfold crcBit; rw [h]; rfl
theorem crcBit_bd (R : Int) (h0 : 0 ≤ R) (h1 : R ≤ 4294967295) : 0 ≤ crcBit R ∧ crcBit R ≤ 4294967295 := by
  cases h : (bits .and .u32 R 1 == 1)
  · rw [crcBit_no R h]; omega
  · rw [crcBit_yes R h]; exact bits_bd _ _ _
theorem crcTo_succ (s : ByteArray) (k : Nat) (R : Int) (h : k < s.size) : crcTo s (k + 1) R = crcBits 8 (bits .xor .u32 (crcTo s k R) (((s[k]'h).toNat : Int) % 4294967296)) := by
  rw [crcTo, dif_pos h]; rfl
theorem crcOf_bd (c : Int) (s : ByteArray) : 0 ≤ crcOf c s ∧ crcOf c s ≤ 4294967295 := bits_bd _ _ _
theorem xor_turn (c : Int) : bits .xor .u32 IntKind.u32.max c = bits .xor .u32 c 4294967295 := by
  have e : IntKind.u32.max = 4294967295 := by decide
  rw [e]
  unfold bits
  simp only [BitVec.xor_comm]
theorem wrap64_crc (c : Int) (s : ByteArray) : wrap64 (crcOf c s) = crcOf c s := by
  have := crcOf_bd c s
  exact IntWalk.wrap64_in _ ⟨by omega, by omega⟩

set_option maxHeartbeats 1000000 in
theorem specCrc_any (c : Int) (s : ByteArray) (w : World) (hs : s.size ≤ maxLen) (h0 : 0 ≤ c) (h1 : c ≤ 4294967295) :
    Calls Tryz.prog 124 #[.int .i64 c, .string s] w fun e w' => e = .returned (.int .i64 (crcOf c s)) ∧ w' = w := by
  unfold maxLen at hs
  have hb := bits_bd .xor c 4294967295
  obtain ⟨R0, HR0⟩ : ∃ R0, Hid (R0 = bits .xor .u32 c 4294967295) := ⟨_, rfl⟩
  have HF : Hid (crcOf c s = bits .xor .u32 (crcTo s s.size R0) 4294967295) := by rw [HR0.out]; exact rfl
  have HW := hide (wrap64_crc c s)
  go_enter Tryz.func124, Tryz.ntmps124
  go_wp2
  go_loop [5, 6] (fun r i => ∃ k : Nat, k ≤ s.size ∧ i = .int .i64 k ∧ ∃ R : Int, 0 ≤ R ∧ R ≤ 4294967295 ∧ Hid (R = crcTo s k R0) ∧ r = .int .u32 R) (fun _ i => s.size - (intOf i).toNat)
  case atStart => exact ⟨0, Nat.zero_le _, rfl, _, hb.1, hb.2, HR0.out.symm, rfl⟩
  case round =>
    obtain ⟨k, hk, rfl, R, hR0, hR1, HR, rfl⟩ := hrel
    by_cases hlt : k < s.size
    · have hb2 := bits_bd .xor R (((s[k]'hlt).toNat : Int) % 4294967296)
      have HS : Hid (crcTo s (k + 1) R0 = crcBits 8 (bits .xor .u32 R (((s[k]'hlt).toNat : Int) % 4294967296))) := by
        rw [HR.out]; exact crcTo_succ s k R0 hlt
      go_wp2
      go_loop [5, 7] (fun r i => ∃ j : Nat, j ≤ 8 ∧ i = .int .i64 j ∧ ∃ T : Int, 0 ≤ T ∧ T ≤ 4294967295 ∧ Hid (T = crcBits j (bits .xor .u32 R (((s[k]'hlt).toNat : Int) % 4294967296))) ∧ r = .int .u32 T) (fun _ i => 8 - (intOf i).toNat)
      case atStart => exact ⟨0, Nat.zero_le _, rfl, _, hb2.1, hb2.2, rfl, rfl⟩
      case round =>
        obtain ⟨j, hj, rfl, T, hT0, hT1, HT, rfl⟩ := hrel
        by_cases hj8 : j < 8
        · have hb3 := crcBit_bd T hT0 hT1
          have HB : Hid (crcBits (j + 1) (bits .xor .u32 R (((s[k]'hlt).toNat : Int) % 4294967296)) = crcBit T) := by rw [HT.out]; exact rfl
          cases ht : (bits .and .u32 T 1 == 1)
          · have HN := hide (crcBit_no T ht)
            rw [HN.out] at hb3 HB
            go_wp2
            go_round
            case rel => exact ⟨j + 1, by omega, by go_num, _, hb3.1, hb3.2, HB.out.symm, rfl⟩
            case measure => simp [intOf]; omega
          · have HN := hide (crcBit_yes T ht)
            rw [HN.out] at hb3 HB
            go_wp2
            go_round
            case rel => exact ⟨j + 1, by omega, by go_num, _, hb3.1, hb3.2, HB.out.symm, rfl⟩
            case measure => simp [intOf]; omega
        · have e8 : j = 8 := by omega
          subst e8
          go_wp2
          go_round
          case rel => exact ⟨k + 1, by omega, by go_num, _, hT0, hT1, HT.out.trans HS.out.symm, rfl⟩
          case measure => simp [intOf]; omega
    · have ek : k = s.size := by omega
      have HE : Hid (R = crcTo s s.size R0) := by rw [← ek]; exact HR
      clear ek HR
      go_wp2
      go_ret
      refine ⟨ret_int ?_, rfl⟩
      rw [HE.out, ← HF.out]
      exact HW.out

set_option maxHeartbeats 1000000 in
theorem implReg_any (R0 : Int) (s : ByteArray) (w : World) (hs : s.size ≤ maxLen) (h0 : 0 ≤ R0) (h1 : R0 ≤ 4294967295) :
    Calls Tryz.prog 159 #[.int .u32 R0, .string s] w fun e w' => e = .returned (.int .u32 (crcTo s s.size R0)) ∧ w' = w := by
  unfold maxLen at hs
  go_enter Tryz.func159, Tryz.ntmps159
  go_wp2
  go_loop [0, 5] (fun r i => ∃ k : Nat, k ≤ s.size ∧ i = .int .i64 k ∧ ∃ R : Int, 0 ≤ R ∧ R ≤ 4294967295 ∧ Hid (R = crcTo s k R0) ∧ r = .int .u32 R) (fun _ i => s.size - (intOf i).toNat)
  case atStart => exact ⟨0, Nat.zero_le _, rfl, _, h0, h1, rfl, rfl⟩
  case round =>
    obtain ⟨k, hk, rfl, R, hR0, hR1, HR, rfl⟩ := hrel
    by_cases hlt : k < s.size
    · have hb2 := bits_bd .xor R (((s[k]'hlt).toNat : Int) % 4294967296)
      have HS : Hid (crcTo s (k + 1) R0 = crcBits 8 (bits .xor .u32 R (((s[k]'hlt).toNat : Int) % 4294967296))) := by
        rw [HR.out]; exact crcTo_succ s k R0 hlt
      go_wp2
      go_loop [0, 19] (fun r i => ∃ j : Nat, j ≤ 8 ∧ i = .int .i64 j ∧ ∃ T : Int, 0 ≤ T ∧ T ≤ 4294967295 ∧ Hid (T = crcBits j (bits .xor .u32 R (((s[k]'hlt).toNat : Int) % 4294967296))) ∧ r = .int .u32 T) (fun _ i => 8 - (intOf i).toNat)
      case atStart => exact ⟨0, Nat.zero_le _, rfl, _, hb2.1, hb2.2, rfl, rfl⟩
      case round =>
        obtain ⟨j, hj, rfl, T, hT0, hT1, HT, rfl⟩ := hrel
        by_cases hj8 : j < 8
        · have hb3 := crcBit_bd T hT0 hT1
          have HB : Hid (crcBits (j + 1) (bits .xor .u32 R (((s[k]'hlt).toNat : Int) % 4294967296)) = crcBit T) := by rw [HT.out]; exact rfl
          cases ht : (bits .and .u32 T 1 == 1)
          · have HN := hide (crcBit_no T ht)
            rw [HN.out] at hb3 HB
            go_wp2
            go_round
            case rel => exact ⟨j + 1, by omega, by go_num, _, hb3.1, hb3.2, HB.out.symm, rfl⟩
            case measure => simp [intOf]; omega
          · have HN := hide (crcBit_yes T ht)
            rw [HN.out] at hb3 HB
            go_wp2
            go_round
            case rel => exact ⟨j + 1, by omega, by go_num, _, hb3.1, hb3.2, HB.out.symm, rfl⟩
            case measure => simp [intOf]; omega
        · have e8 : j = 8 := by omega
          subst e8
          go_wp2
          go_round
          case rel => exact ⟨k + 1, by omega, by go_num, _, hT0, hT1, HT.out.trans HS.out.symm, rfl⟩
          case measure => simp [intOf]; omega
    · have ek : k = s.size := by omega
      have HE : Hid (R = crcTo s s.size R0) := by rw [← ek]; exact HR
      clear ek HR
      go_wp2
      go_ret
      exact ⟨ret_int HE.out, rfl⟩

set_option maxHeartbeats 1000000 in
theorem implCrcMore_any (c : Int) (s : ByteArray) (w : World) (hs : s.size ≤ 8000) (h0 : 0 ≤ c) (h1 : c ≤ 4294967295) :
    Calls Tryz.prog 148 #[.int .i64 c, .string s] w fun e w' => e = .returned (.int .i64 (crcOf c s)) ∧ w' = w := by
  have HW := hide (wrap64_crc c s)
  have hb := bits_bd .xor c 4294967295
  go_enter Tryz.func148, Tryz.ntmps148
  go_wp2_with fail
  rw [xor_turn]
  refine (implReg_any _ s _ (by unfold maxLen; omega) hb.1 hb.2).mono ?_
  rintro e w' ⟨rfl, rfl⟩
  go_wp2
  go_ret
  refine ⟨ret_int ?_, rfl⟩
  rw [xor_turn]
  exact HW.out

set_option maxHeartbeats 400000 in
theorem implCrcMore_not (c : Int) (s : ByteArray) (w : World) (hs : s.size ≤ maxLen) (h : 8000 < s.size ∨ (s.size ≤ 8000 ∧ c < 0) ∨ (s.size ≤ 8000 ∧ 0 ≤ c ∧ 4294967295 < c)) :
    Calls Tryz.prog 148 #[.int .i64 c, .string s] w fun e w' => e = .returned (.int .i64 0) ∧ w' = w := by
  unfold maxLen at hs
  rcases h with h | ⟨h, h'⟩ | ⟨h, h', h''⟩
  all_goals
    go_enter Tryz.func148, Tryz.ntmps148
    go_wp2
    go_ret
    exact ⟨rfl, rfl⟩

set_option maxHeartbeats 400000 in
theorem implCrcOf_any (s : ByteArray) (w : World) (hs : s.size ≤ 8000) :
    Calls Tryz.prog 129 #[.string s] w fun e w' => e = .returned (.int .i64 (crcOf 0 s)) ∧ w' = w := by
  go_enter Tryz.func129, Tryz.ntmps129
  go_wp2_with fail
  refine (implCrcMore_any _ s _ hs (by omega) (by omega)).mono ?_
  rintro e w' ⟨rfl, rfl⟩
  go_wp2
  go_ret
  exact ⟨rfl, rfl⟩

set_option maxHeartbeats 400000 in
theorem implCrcOf_not (s : ByteArray) (w : World) (hm : s.size ≤ maxLen) (hs : 8000 < s.size) :
    Calls Tryz.prog 129 #[.string s] w fun e w' => e = .returned (.int .i64 0) ∧ w' = w := by
  go_enter Tryz.func129, Tryz.ntmps129
  go_wp2_with fail
  refine (implCrcMore_not _ s _ hm (.inl hs)).mono ?_
  rintro e w' ⟨rfl, rfl⟩
  go_wp2
  go_ret
  exact ⟨rfl, rfl⟩

end Go.Proofs.YtnpbmaajgiapmaaGreatDoor.St1
/- The four bytes of a CRC, and Seal of the program and of the model: both answer the text with the four bytes of its CRC behind it, or the empty text. -/
namespace Go.Proofs.YtnpbmaajgiapmaaGreatDoor.St1
open Go.RowKit

def four (n : Int) : ByteArray := ⟨#[UInt8.ofNat (n % 256).toNat, UInt8.ofNat (n / 256 % 256).toNat, UInt8.ofNat (n / 65536 % 256).toNat, UInt8.ofNat (n / 16777216).toNat]⟩
theorem four_size (n : Int) : (four n).size = 4 := rfl

theorem four_run (w : World) (a b c d : Int) (ha : 0 ≤ a ∧ a < 256) (hb : 0 ≤ b ∧ b < 256) (hc : 0 ≤ c ∧ c < 256) (hd : 0 ≤ d ∧ d < 256) :
    (convert 126 9 (.slice (some ⟨w.heap.size, 0, none⟩) 4 4)).run Tryz.prog (w.alloc (.cells #[.int .u8 a, .int .u8 b, .int .u8 c, .int .u8 d] 5)) =
      .ok (.string ⟨#[UInt8.ofNat a.toNat, UInt8.ofNat b.toNat, UInt8.ofNat c.toNat, UInt8.ofNat d.toNat]⟩) (w.alloc (.cells #[.int .u8 a, .int .u8 b, .int .u8 c, .int .u8 d] 5)) := by
  refine run_convert_bytes_back (P := Tryz.prog) _ 126 9 5 ⟨w.heap.size, 0, none⟩ 4 [UInt8.ofNat a.toNat, UInt8.ofNat b.toNat, UInt8.ofNat c.toNat, UInt8.ofNat d.toNat] Tryz.underlying126 Tryz.underlying5 Tryz.underlying9 (fun j hj => ?_)
  have ea : (⟨w.heap.size, 0, none⟩ : Addr).add j = ⟨w.heap.size, j, none⟩ := by unfold Addr.add; split <;> simp_all
  rw [ea, cell_of_row _ w.heap.size j _ 5 (0, 0) (heap_alloc_new w _)]
  match j, hj with
  | 0, _ => simp; omega
  | 1, _ => simp; omega
  | 2, _ => simp; omega
  | 3, _ => simp; omega

set_option maxHeartbeats 400000 in
theorem specFour_any (n : Int) (w : World) (h0 : 0 ≤ n) (h1 : n ≤ 4294967295) :
    Calls Tryz.prog 123 #[.int .i64 n] w fun e w' => e = .returned (.string (four n)) ∧ Below w.heap.size w w' := by
  have hr := four_run w (n % 256) (n / 256 % 256) (n / 65536 % 256) (n / 16777216) (by omega) (by omega) (by omega) (by omega)
  go_enter Tryz.func123, Tryz.ntmps123
  go_wp2
  go_ret
  exact ⟨rfl, (Below.refl _ _).alloc (Nat.le_refl _) _⟩

set_option maxHeartbeats 400000 in
theorem implFour_any (n : Int) (w : World) (h0 : 0 ≤ n) (h1 : n ≤ 4294967295) :
    Calls Tryz.prog 128 #[.int .i64 n] w fun e w' => e = .returned (.string (four n)) ∧ Below w.heap.size w w' := by
  have hr := four_run w (n % 256) (n / 256 % 256) (n / 65536 % 256) (n / 16777216) (by omega) (by omega) (by omega) (by omega)
  go_enter Tryz.func128, Tryz.ntmps128
  go_wp2
  go_ret
  exact ⟨rfl, (Below.refl _ _).alloc (Nat.le_refl _) _⟩

def sealOf (s : ByteArray) : ByteArray := s ++ four (crcOf 0 s)

set_option maxHeartbeats 400000 in
theorem specSeal_any (s : ByteArray) (w : World) (hs : s.size ≤ 7996) :
    Calls Tryz.prog 97 #[.string s] w fun e w' => e = .returned (.string (sealOf s)) ∧ Below w.heap.size w w' := by
  have hb := crcOf_bd 0 s
  go_enter Tryz.func97, Tryz.ntmps97
  go_wp2_with fail
  refine (specCrc_any _ s _ (by unfold maxLen; omega) (by omega) (by omega)).mono ?_
  rintro e w' ⟨rfl, rfl⟩
  go_wp2_with fail
  refine (specFour_any _ _ hb.1 hb.2).mono ?_
  rintro e w1 ⟨rfl, hb1⟩
  have hf : (four (crcOf 0 s)).size ≤ 4 := Nat.le_of_eq (four_size _)
  go_wp2
  go_ret
  exact ⟨rfl, hb1⟩

set_option maxHeartbeats 400000 in
theorem specSeal_not (s : ByteArray) (w : World) (hm : s.size ≤ maxLen) (hs : 7996 < s.size) :
    Calls Tryz.prog 97 #[.string s] w fun e w' => e = .returned (.string ByteArray.empty) ∧ w' = w := by
  unfold maxLen at hm
  go_enter Tryz.func97, Tryz.ntmps97
  go_wp2
  go_ret
  exact ⟨rfl, rfl⟩

set_option maxHeartbeats 400000 in
theorem implSeal_any (s : ByteArray) (w : World) (hs : s.size ≤ 7996) :
    Calls Tryz.prog 102 #[.string s] w fun e w' => e = .returned (.string (sealOf s)) ∧ Below w.heap.size w w' := by
  have hb := crcOf_bd 0 s
  go_enter Tryz.func102, Tryz.ntmps102
  go_wp2_with fail
  refine (implCrcOf_any s _ (by omega)).mono ?_
  rintro e w' ⟨rfl, rfl⟩
  go_wp2_with fail
  refine (implFour_any _ _ hb.1 hb.2).mono ?_
  rintro e w1 ⟨rfl, hb1⟩
  have hf : (four (crcOf 0 s)).size ≤ 4 := Nat.le_of_eq (four_size _)
  go_wp2_with fail
  refine (joinTexts_any s _ _ (by omega) (by omega)).mono ?_
  rintro e w2 ⟨rfl, hb2⟩
  go_wp2
  go_ret
  exact ⟨rfl, hb1.trans (hb2.mono hb1.size)⟩

set_option maxHeartbeats 400000 in
theorem implSeal_not (s : ByteArray) (w : World) (hm : s.size ≤ maxLen) (hs : 7996 < s.size) :
    Calls Tryz.prog 102 #[.string s] w fun e w' => e = .returned (.string ByteArray.empty) ∧ w' = w := by
  unfold maxLen at hm
  go_enter Tryz.func102, Tryz.ntmps102
  go_wp2
  go_ret
  exact ⟨rfl, rfl⟩
end Go.Proofs.YtnpbmaajgiapmaaGreatDoor.St1
/- A row of bytes that the call itself makes by append: what is owned behind each append, and the text that it is made into. Nothing here speaks of one program. -/
namespace Go.Proofs.YtnpbmaajgiapmaaGreatDoor.St2
open Go.RowKit
theorem hide {p : Prop} (h : p) : Hid p := h

/-- The slice v owns the bytes L in the world w, in blocks from B on; below B all is as in w0. -/
def Own (e : TypeId) (B : Nat) (w0 w : World) (v : Value) (L : List Int) : Prop :=
  w.ownsRow B e 1 v L.length (L.map (Value.int .u8)) ∧ Below B w0 w ∧ B ≤ w.heap.size

theorem own_nil (e : TypeId) (w : World) : Own e w.heap.size w w (.slice none 0 0) [] :=
  ⟨World.ownsRow_nil w _ _ _, Below.refl _ _, Nat.le_refl _⟩
theorem own_empty (e : TypeId) (w : World) : Own e w.heap.size w (w.alloc (.cells #[] e)) (.slice (some ⟨w.heap.size, 0, none⟩) 0 0) [] :=
  ⟨World.ownsRow_made w #[] 0 (Nat.le_refl _) (by unfold maxLen; omega) rfl, (Below.refl _ _).alloc (Nat.le_refl _) _, by simp⟩

/-- 'append(b, c)' of one byte: the byte lies in a block of its own first. -/
theorem wpList_push {P : Program} {w w0 : World} {ops : Array Oper} {rest : List Oper} {o : Oper} {a : Act} {Q : Exit → Act → World → Prop} (hgd : o.guard = none) (s x : Operand) (t : TypeId)
    (ho : o.op = .call { callee := .builtin .append, args := #[s, x], argTypes := #[t, t] })
    (B : Nat) (e : TypeId) (ht : P.underlying t = some (.slice e)) (hi : (P.info? e).map (fun i => (i.zero, i.size, i.bytes)) = some (some (.int .u8 0), 1, 1))
    (v : Value) (L : List Int) (c : Int) (hs : a.eval s = v) (hx : a.eval x = .slice (some ⟨w.heap.size, 0, none⟩) 1 1) (hown : Own e B w0 w v L) (hlen : L.length ≤ 1000000)
    (h : ∀ v' w', Own e B w0 w' v' (L ++ [c]) → wpList P ops Q rest (a.put o.dst v') w') : wpList P ops Q (o :: rest) a (w.alloc (.cells #[.int .u8 c] e)) := by
  obtain ⟨i0, hi0, hz0, hz1, hz2⟩ := info_parts hi
  obtain ⟨h1, h2, h3⟩ := hown
  refine wpList_append_own (w.alloc (.cells #[.int .u8 c] e)) hgd s x t ho B e i0 (.int .u8 0) 1 1 ht hi0 hz0 hz1 hz2 rfl (by decide) v L.length (L.map (Value.int .u8)) hs (h1.alloc _) ⟨w.heap.size, 0, none⟩ 1 1 [.int .u8 c] hx rfl ?_ ?_ ?_ ?_ ?_ ?_
  · intro j u hj
    match j, hj with
    | 0, hj =>
      simp at hj
      subst hj
      have ea : (⟨w.heap.size, 0, none⟩ : Addr).add 0 = ⟨w.heap.size, 0, none⟩ := by simp [Addr.add]
      rw [ea, cell_of_row _ w.heap.size 0 _ e (0, 0) (heap_alloc_new w _)]
      rfl
  · intro u hu
    simp at hu
    subst hu
    rfl
  · unfold maxLen; omega
  · omega
  · simp; omega
  · intro v' w' hown' hgrow _
    refine h v' w' ⟨?_, ?_, ?_⟩
    · simpa using hown'
    · exact (h2.alloc h3 _).grown hgrow (by simp; omega) (fun k hk => (h1.lt k hk).1)
    · have := hgrow.size
      simp at this
      omega

def bytesOf (L : List Int) : ByteArray := ⟨(L.map fun x => UInt8.ofNat x.toNat).toArray⟩

theorem own_string {P : Program} {e t T B : Nat} {w0 w : World} {v : Value} {L : List Int} (h : Own e B w0 w v L) (hr : ∀ x ∈ L, 0 ≤ x ∧ x ≤ 255) (hne : L ≠ [])
    (ht : P.underlying t = some (.slice e)) (he : P.underlying e = some (.int .u8)) (hT : P.underlying T = some .string) :
    (convert t T v).run P w = .ok (.string (bytesOf L)) w := by
  obtain ⟨⟨h0, hv⟩, _, _⟩ := h
  rcases hv with ⟨rfl, hn⟩ | ⟨g, cap, cur, rfl, _, hh, hnc, _, hcs, htk⟩
  · exact absurd (List.eq_nil_of_length_eq_zero hn) hne
  · have := run_convert_bytes_back (P := P) w t T e ⟨g, 0, none⟩ cap (L.map fun x => UInt8.ofNat x.toNat) ht he hT (fun j hj => by
      have hjL : j < L.length := by simpa using hj
      have ea : (⟨g, 0, none⟩ : Addr).add j = ⟨g, j, none⟩ := by unfold Addr.add; split <;> simp_all
      rw [ea, cell_of_row w g j _ e (0, 0) hh]
      have e1 : cur[j]? = (cur.toList.take (L.length * 1))[j]? := by
        rw [List.getElem?_take_of_lt (by omega)]; simp
      rw [e1, htk, List.getElem?_map, List.getElem?_eq_getElem hjL]
      have hb := hr L[j] (List.getElem_mem hjL)
      simp
      omega)
    rw [List.length_map] at this
    exact this
end Go.Proofs.YtnpbmaajgiapmaaGreatDoor.St2
