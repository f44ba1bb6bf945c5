/- What GetNum reads at a place, byte by byte: plain mathematics. -/
import Derived.WalkKit
import Derived.OpenShut
import Derived.Test.YtkmehbgepkilkaaGreatDoorRows
import Derived.WalkMore
import Derived.ScopeJumps
namespace Go.Proofs.YtkmehbgepkilkaaGreatDoor.St3
open Go.RowKit

/-- The number that u stands for. -/
def unf (u : Int) : Int := if u % 2 = 1 then -(u / 2) - 1 else u / 2
theorem unf_bd (u : Int) (h0 : 0 ≤ u) (h1 : u ≤ 18446744073709551615) : -9223372036854775808 ≤ unf u ∧ unf u ≤ 9223372036854775807 := by
  unfold unf; split <;> omega

/-- From byte k on, u being what the bytes ahead of it hold: the number, the place behind it, the code. -/
def scan (s : ByteArray) (a : Nat) : Nat → Nat → Int → Int × Int × Int
  | 0, _, _ => (0, 0, 3)
  | f + 1, k, u =>
    if h : a + k < s.size then
      if ((s[a + k]'h).toNat : Int) < 128 ∨ k = 9 then
        if (k = 9 ∧ 1 < ((s[a + k]'h).toNat : Int)) ∨ (0 < k ∧ ((s[a + k]'h).toNat : Int) = 0) then (0, 0, 3)
        else (unf (u + ((s[a + k]'h).toNat : Int) * 128 ^ k), (a : Int) + k + 1, 0)
      else scan s a f (k + 1) (u + ((s[a + k]'h).toNat : Int) % 128 * 128 ^ k)
    else (0, 0, 4)

theorem scan_short (s : ByteArray) (a f k : Nat) (u : Int) (h : ¬ a + k < s.size) : scan s a (f + 1) k u = (0, 0, 4) := by rw [scan, dif_neg h]
theorem scan_bad (s : ByteArray) (a f k : Nat) (u : Int) (h : a + k < s.size) (h1 : ((s[a + k]'h).toNat : Int) < 128 ∨ k = 9)
    (h2 : (k = 9 ∧ 1 < ((s[a + k]'h).toNat : Int)) ∨ (0 < k ∧ ((s[a + k]'h).toNat : Int) = 0)) : scan s a (f + 1) k u = (0, 0, 3) := by rw [scan, dif_pos h, if_pos h1, if_pos h2]
theorem scan_last (s : ByteArray) (a f k : Nat) (u : Int) (h : a + k < s.size) (h1 : ((s[a + k]'h).toNat : Int) < 128 ∨ k = 9)
    (h2 : ¬ ((k = 9 ∧ 1 < ((s[a + k]'h).toNat : Int)) ∨ (0 < k ∧ ((s[a + k]'h).toNat : Int) = 0))) : scan s a (f + 1) k u = (unf (u + ((s[a + k]'h).toNat : Int) * 128 ^ k), (a : Int) + k + 1, 0) := by
  rw [scan, dif_pos h, if_pos h1, if_neg h2]
theorem scan_more (s : ByteArray) (a f k : Nat) (u : Int) (h : a + k < s.size) (h1 : 128 ≤ ((s[a + k]'h).toNat : Int)) (h9 : k < 9) :
    scan s a (f + 1) k u = scan s a f (k + 1) (u + ((s[a + k]'h).toNat : Int) % 128 * 128 ^ k) := by
  rw [scan, dif_pos h, if_neg (by omega)]

theorem byte_lt (s : ByteArray) (i : Nat) (h : i < s.size) : ((s[i]'h).toNat : Int) ≤ 255 := by have := (s[i]'h).toNat_lt; omega
end Go.Proofs.YtkmehbgepkilkaaGreatDoor.St3

/- The register of the CRC: the program's crcRegister and the model's l01Crc go through the same numbers, bit by bit. -/
namespace Go.Proofs.YtkmehbgepkilkaaGreatDoor.St1
open Go.RowKit
theorem hide {p : Prop} (h : p) : Hid p := h
theorem ret_int {k : IntKind} {a b : Int} (h : a = b) : Ending.returned (.int k a) = .returned (.int k b) := by rw [h]

/-- One bit goes out of the register. -/
def crcBit (R : Int) : Int := if bits .and .u32 R 1 == 1 then bits .xor .u32 (R / 2) 3988292384 else R / 2
def crcBits : Nat → Int → Int
  | 0, R => R
  | n + 1, R => crcBit (crcBits n R)
/-- One byte goes in. -/
def crcByte (R b : Int) : Int := crcBits 8 (bits .xor .u32 R (b % 4294967296))
/-- The first k bytes of s go in. -/
def crcTo (s : ByteArray) : Nat → Int → Int
  | 0, R => R
  | k + 1, R => if h : k < s.size then crcByte (crcTo s k R) ((s[k]'h).toNat : Int) else crcTo s k R
/-- The CRC of what stands behind a text of the CRC c. -/
def crcOf (c : Int) (s : ByteArray) : Int := bits .xor .u32 (crcTo s s.size (bits .xor .u32 c 4294967295)) 4294967295

theorem bits_bd (op : BinOp) (x y : Int) : 0 ≤ bits op .u32 x y ∧ bits op .u32 x y ≤ 4294967295 := bounds_u32 (wf_bits op .u32 x y)
theorem crcBit_yes (R : Int) (h : (bits .and .u32 R 1 == 1) = true) : crcBit R = bits .xor .u32 (R / 2) 3988292384 := by
  unfold crcBit; rw [h]; rfl
theorem crcBit_no (R : Int) (h : (bits .and .u32 R 1 == 1) = false) : crcBit R = R / 2 := by
  unfold crcBit; rw [h]; rfl
theorem crcBit_bd (R : Int) (h0 : 0 ≤ R) (h1 : R ≤ 4294967295) : 0 ≤ crcBit R ∧ crcBit R ≤ 4294967295 := by
  cases h : (bits .and .u32 R 1 == 1)
  · rw [crcBit_no R h]; omega
  · rw [crcBit_yes R h]; exact bits_bd _ _ _
theorem crcTo_succ (s : ByteArray) (k : Nat) (R : Int) (h : k < s.size) : crcTo s (k + 1) R = crcBits 8 (bits .xor .u32 (crcTo s k R) (((s[k]'h).toNat : Int) % 4294967296)) := by
  rw [crcTo, dif_pos h]; rfl
theorem crcOf_bd (c : Int) (s : ByteArray) : 0 ≤ crcOf c s ∧ crcOf c s ≤ 4294967295 := bits_bd _ _ _
theorem xor_turn (c : Int) : bits .xor .u32 IntKind.u32.max c = bits .xor .u32 c 4294967295 := by
  have e : IntKind.u32.max = 4294967295 := by decide
  rw [e]
  unfold bits
  simp only [BitVec.xor_comm]
theorem wrap64_crc (c : Int) (s : ByteArray) : wrap64 (crcOf c s) = crcOf c s := by
  have := crcOf_bd c s
  exact IntWalk.wrap64_in _ ⟨by omega, by omega⟩

set_option maxHeartbeats 1000000 in
theorem specCrc_any (c : Int) (s : ByteArray) (w : World) (hs : s.size ≤ maxLen) (h0 : 0 ≤ c) (h1 : c ≤ 4294967295) :
    Calls Tryz.prog 89 #[.int .i64 c, .string s] w fun e w' => e = .returned (.int .i64 (crcOf c s)) ∧ w' = w := by
  unfold maxLen at hs
  have hb := bits_bd .xor c 4294967295
  obtain ⟨R0, HR0⟩ : ∃ R0, Hid (R0 = bits .xor .u32 c 4294967295) := ⟨_, rfl⟩
  have HF : Hid (crcOf c s = bits .xor .u32 (crcTo s s.size R0) 4294967295) := by rw [HR0.out]; exact rfl
  have HW := hide (wrap64_crc c s)
  go_enter Tryz.func89, Tryz.ntmps89
  go_wp2
  go_loop [5, 6] (fun r i => ∃ k : Nat, k ≤ s.size ∧ i = .int .i64 k ∧ ∃ R : Int, 0 ≤ R ∧ R ≤ 4294967295 ∧ Hid (R = crcTo s k R0) ∧ r = .int .u32 R) (fun _ i => s.size - (intOf i).toNat)
  case atStart => exact ⟨0, Nat.zero_le _, rfl, _, hb.1, hb.2, HR0.out.symm, rfl⟩
  case round =>
    obtain ⟨k, hk, rfl, R, hR0, hR1, HR, rfl⟩ := hrel
    by_cases hlt : k < s.size
    · have hb2 := bits_bd .xor R (((s[k]'hlt).toNat : Int) % 4294967296)
      have HS : Hid (crcTo s (k + 1) R0 = crcBits 8 (bits .xor .u32 R (((s[k]'hlt).toNat : Int) % 4294967296))) := by
        rw [HR.out]; exact crcTo_succ s k R0 hlt
      go_wp2
      go_loop [5, 7] (fun r i => ∃ j : Nat, j ≤ 8 ∧ i = .int .i64 j ∧ ∃ T : Int, 0 ≤ T ∧ T ≤ 4294967295 ∧ Hid (T = crcBits j (bits .xor .u32 R (((s[k]'hlt).toNat : Int) % 4294967296))) ∧ r = .int .u32 T) (fun _ i => 8 - (intOf i).toNat)
      case atStart => exact ⟨0, Nat.zero_le _, rfl, _, hb2.1, hb2.2, rfl, rfl⟩
      case round =>
        obtain ⟨j, hj, rfl, T, hT0, hT1, HT, rfl⟩ := hrel
        by_cases hj8 : j < 8
        · have hb3 := crcBit_bd T hT0 hT1
          have HB : Hid (crcBits (j + 1) (bits .xor .u32 R (((s[k]'hlt).toNat : Int) % 4294967296)) = crcBit T) := by rw [HT.out]; exact rfl
          cases ht : (bits .and .u32 T 1 == 1)
          · have HN := hide (crcBit_no T ht)
            rw [HN.out] at hb3 HB
            go_wp2
            go_round
            case rel => exact ⟨j + 1, by omega, by go_num, _, hb3.1, hb3.2, HB.out.symm, rfl⟩
            case measure => simp [intOf]; omega
          · have HN := hide (crcBit_yes T ht)
            rw [HN.out] at hb3 HB
            go_wp2
            go_round
            case rel => exact ⟨j + 1, by omega, by go_num, _, hb3.1, hb3.2, HB.out.symm, rfl⟩
            case measure => simp [intOf]; omega
        · have e8 : j = 8 := by omega
          subst e8
          go_wp2
          go_round
          case rel => exact ⟨k + 1, by omega, by go_num, _, hT0, hT1, HT.out.trans HS.out.symm, rfl⟩
          case measure => simp [intOf]; omega
    · have ek : k = s.size := by omega
      have HE : Hid (R = crcTo s s.size R0) := by rw [← ek]; exact HR
      clear ek HR
      go_wp2
      go_ret
      refine ⟨ret_int ?_, rfl⟩
      rw [HE.out, ← HF.out]
      exact HW.out

set_option maxHeartbeats 1000000 in
theorem implReg_any (R0 : Int) (s : ByteArray) (w : World) (hs : s.size ≤ maxLen) (h0 : 0 ≤ R0) (h1 : R0 ≤ 4294967295) :
    Calls Tryz.prog 100 #[.int .u32 R0, .string s] w fun e w' => e = .returned (.int .u32 (crcTo s s.size R0)) ∧ w' = w := by
  unfold maxLen at hs
  go_enter Tryz.func100, Tryz.ntmps100
  go_wp2
  go_loop [0, 5] (fun r i => ∃ k : Nat, k ≤ s.size ∧ i = .int .i64 k ∧ ∃ R : Int, 0 ≤ R ∧ R ≤ 4294967295 ∧ Hid (R = crcTo s k R0) ∧ r = .int .u32 R) (fun _ i => s.size - (intOf i).toNat)
  case atStart => exact ⟨0, Nat.zero_le _, rfl, _, h0, h1, rfl, rfl⟩
  case round =>
    obtain ⟨k, hk, rfl, R, hR0, hR1, HR, rfl⟩ := hrel
    by_cases hlt : k < s.size
    · have hb2 := bits_bd .xor R (((s[k]'hlt).toNat : Int) % 4294967296)
      have HS : Hid (crcTo s (k + 1) R0 = crcBits 8 (bits .xor .u32 R (((s[k]'hlt).toNat : Int) % 4294967296))) := by
        rw [HR.out]; exact crcTo_succ s k R0 hlt
      go_wp2
      go_loop [0, 19] (fun r i => ∃ j : Nat, j ≤ 8 ∧ i = .int .i64 j ∧ ∃ T : Int, 0 ≤ T ∧ T ≤ 4294967295 ∧ Hid (T = crcBits j (bits .xor .u32 R (((s[k]'hlt).toNat : Int) % 4294967296))) ∧ r = .int .u32 T) (fun _ i => 8 - (intOf i).toNat)
      case atStart => exact ⟨0, Nat.zero_le _, rfl, _, hb2.1, hb2.2, rfl, rfl⟩
      case round =>
        obtain ⟨j, hj, rfl, T, hT0, hT1, HT, rfl⟩ := hrel
        by_cases hj8 : j < 8
        · have hb3 := crcBit_bd T hT0 hT1
          have HB : Hid (crcBits (j + 1) (bits .xor .u32 R (((s[k]'hlt).toNat : Int) % 4294967296)) = crcBit T) := by rw [HT.out]; exact rfl
          cases ht : (bits .and .u32 T 1 == 1)
          · have HN := hide (crcBit_no T ht)
            rw [HN.out] at hb3 HB
            go_wp2
            go_round
            case rel => exact ⟨j + 1, by omega, by go_num, _, hb3.1, hb3.2, HB.out.symm, rfl⟩
            case measure => simp [intOf]; omega
          · have HN := hide (crcBit_yes T ht)
            rw [HN.out] at hb3 HB
            go_wp2
            go_round
            case rel => exact ⟨j + 1, by omega, by go_num, _, hb3.1, hb3.2, HB.out.symm, rfl⟩
            case measure => simp [intOf]; omega
        · have e8 : j = 8 := by omega
          subst e8
          go_wp2
          go_round
          case rel => exact ⟨k + 1, by omega, by go_num, _, hT0, hT1, HT.out.trans HS.out.symm, rfl⟩
          case measure => simp [intOf]; omega
    · have ek : k = s.size := by omega
      have HE : Hid (R = crcTo s s.size R0) := by rw [← ek]; exact HR
      clear ek HR
      go_wp2
      go_ret
      exact ⟨ret_int HE.out, rfl⟩

set_option maxHeartbeats 1000000 in
theorem implCrcMore_any (c : Int) (s : ByteArray) (w : World) (hs : s.size ≤ 8000) (h0 : 0 ≤ c) (h1 : c ≤ 4294967295) :
    Calls Tryz.prog 96 #[.int .i64 c, .string s] w fun e w' => e = .returned (.int .i64 (crcOf c s)) ∧ w' = w := by
  have HW := hide (wrap64_crc c s)
  have hb := bits_bd .xor c 4294967295
  go_enter Tryz.func96, Tryz.ntmps96
  go_wp2_with fail
  rw [xor_turn]
  refine (implReg_any _ s _ (by unfold maxLen; omega) hb.1 hb.2).mono ?_
  rintro e w' ⟨rfl, rfl⟩
  go_wp2
  go_ret
  refine ⟨ret_int ?_, rfl⟩
  rw [xor_turn]
  exact HW.out

set_option maxHeartbeats 400000 in
theorem implCrcOf_any (s : ByteArray) (w : World) (hs : s.size ≤ 8000) :
    Calls Tryz.prog 86 #[.string s] w fun e w' => e = .returned (.int .i64 (crcOf 0 s)) ∧ w' = w := by
  go_enter Tryz.func86, Tryz.ntmps86
  go_wp2_with fail
  refine (implCrcMore_any _ s _ hs (by omega) (by omega)).mono ?_
  rintro e w' ⟨rfl, rfl⟩
  go_wp2
  go_ret
  exact ⟨rfl, rfl⟩

end Go.Proofs.YtkmehbgepkilkaaGreatDoor.St1

/- A scope in which the run jumps to several labels, forward and back: what holds at each jump, and a measure that each pass lowers. Nothing here speaks of one program. -/
namespace Go.Proofs.YtkmehbgepkilkaaGreatDoor.St3

/-- As Q; by a goto to a label l: J l. -/
def jumps (J : Nat → Act → World → Prop) (Q : Exit → Act → World → Prop) : Exit → Act → World → Prop
  | .goto l, a, w => J l a w
  | e, a, w => Q e a w

section
variable {P : Program} {a : Act} {w : World} {Q : Exit → Act → World → Prop}
theorem wp_scope_many {c : Code} (J : Nat → Act → World → Prop) (μ : Nat → Act → World → Nat)
    (first : c.wp P (jumps J Q) a w)
    (pass : ∀ l a w, J l a w → ∃ rest, findLabel c l = some rest ∧ rest.wp P (jumps (fun l' a' w' => J l' a' w' ∧ μ l' a' w' < μ l a w) Q) a w) : (Code.scope c).wp P Q a w := by
  intro b k cs
  have key : ∀ n l a w, μ l a w = n → J l a w → ∀ rest, findLabel c l = some rest → ∃ e a' w', Q e a' w' ∧ Arrives P (lone (b.at a (.code rest :: .inScope c :: k)) cs w) b k cs e a' w' := by
    intro n
    induction n using Nat.strongRecOn with
    | _ n ih =>
      intro l a w hn hJ rest hrest
      obtain ⟨rest', hf, hwp⟩ := pass l a w hJ
      obtain rfl : rest' = rest := Option.some.inj (hf.symm.trans hrest)
      obtain ⟨e, a₁, w₁, hq, harr⟩ := hwp b (.inScope c :: k) cs
      cases e with
      | normal => exact ⟨.normal, a₁, w₁, hq, Steps.trans harr (.one step_inScope)⟩
      | exit id => exact ⟨.exit id, a₁, w₁, hq, fun k' hk => harr k' (by simp [exitTo, hk])⟩
      | goto l' =>
        obtain ⟨hJ', hlt⟩ := hq
        obtain ⟨rest₂, hf₂, _⟩ := pass l' a₁ w₁ hJ'
        have hg : gotoIn l' (.inScope c :: k) = some (.code rest₂ :: .inScope c :: k) := by simp [gotoIn, hf₂]
        obtain ⟨e₂, a₂, w₂, hq₂, harr₂⟩ := ih _ (by omega) l' a₁ w₁ rfl hJ' rest₂ hf₂
        exact ⟨e₂, a₂, w₂, hq₂, .of_steps (harr _ hg) harr₂⟩
      | ret => exact ⟨_, a₁, w₁, hq, harr⟩
      | panic ch => exact ⟨_, a₁, w₁, hq, harr⟩
      | outgrown => exact ⟨_, a₁, w₁, hq, harr⟩
  obtain ⟨e, a₁, w₁, hq, harr⟩ := first b (.inScope c :: k) cs
  cases e with
  | normal => exact ⟨.normal, a₁, w₁, hq, .head step_scope (Steps.trans harr (.one step_inScope))⟩
  | exit id => exact ⟨.exit id, a₁, w₁, hq, fun k' hk => .head step_scope (harr k' (by simp [exitTo, hk]))⟩
  | goto l' =>
    obtain ⟨rest₂, hf₂, _⟩ := pass l' a₁ w₁ hq
    have hg : gotoIn l' (.inScope c :: k) = some (.code rest₂ :: .inScope c :: k) := by simp [gotoIn, hf₂]
    obtain ⟨e₂, a₂, w₂, hq₂, harr₂⟩ := key _ l' a₁ w₁ rfl hq rest₂ hf₂
    exact ⟨e₂, a₂, w₂, hq₂, .of_steps (.head step_scope (harr _ hg)) harr₂⟩
  | ret => exact ⟨_, a₁, w₁, hq, .of_steps (.one step_scope) harr⟩
  | panic ch => exact ⟨_, a₁, w₁, hq, .of_steps (.one step_scope) harr⟩
  | outgrown => exact ⟨_, a₁, w₁, hq, .of_steps (.one step_scope) harr⟩
end
end Go.Proofs.YtkmehbgepkilkaaGreatDoor.St3
