/- The CRC over numbers from 0: it goes on from text to text; with one byte turned it is another one. -/
import Derived.Test.YtkbmhkgkdfeljaaCCrc
import Derived.Laws.Bits64
namespace Go.Proofs.Ytkbmhkgkdfeljaa.St1
open Go.RowKit
theorem wrap_u32M (n : Int) : IntKind.u32.wrap n = n % 4294967296 := by simp [IntKind.wrap, IntKind.bits, IntKind.signed]
theorem xor32 (a b : Nat) (ha : a < 4294967296) (hb : b < 4294967296) : bits .xor .u32 (a : Int) (b : Int) = ((a ^^^ b : Nat) : Int) := by
  have hx : a ^^^ b < 2 ^ 32 := Nat.xor_lt_two_pow (by omega) (by omega)
  have h1 : (BitVec.ofInt 32 (a : Int)).toNat = a := by
    rw [BitVec.ofInt_natCast, BitVec.toNat_ofNat]; exact Nat.mod_eq_of_lt (by omega)
  have h2 : (BitVec.ofInt 32 (b : Int)).toNat = b := by
    rw [BitVec.ofInt_natCast, BitVec.toNat_ofNat]; exact Nat.mod_eq_of_lt (by omega)
  show IntKind.u32.wrap ((BitVec.ofInt 32 (a : Int) ^^^ BitVec.ofInt 32 (b : Int)).toNat : Int) = _
  rw [BitVec.toNat_xor, h1, h2, wrap_u32M]
  omega
theorem and32 (a b : Nat) (ha : a < 4294967296) (hb : b < 4294967296) : bits .and .u32 (a : Int) (b : Int) = ((a &&& b : Nat) : Int) := by
  have hx : a &&& b < 2 ^ 32 := Nat.and_lt_two_pow _ (by omega)
  have h1 : (BitVec.ofInt 32 (a : Int)).toNat = a := by
    rw [BitVec.ofInt_natCast, BitVec.toNat_ofNat]; exact Nat.mod_eq_of_lt (by omega)
  have h2 : (BitVec.ofInt 32 (b : Int)).toNat = b := by
    rw [BitVec.ofInt_natCast, BitVec.toNat_ofNat]; exact Nat.mod_eq_of_lt (by omega)
  show IntKind.u32.wrap ((BitVec.ofInt 32 (a : Int) &&& BitVec.ofInt 32 (b : Int)).toNat : Int) = _
  rw [BitVec.toNat_and, h1, h2, wrap_u32M]
  omega
theorem xor_back (a b : Nat) : a ^^^ b ^^^ b = a := by rw [Nat.xor_assoc, Nat.xor_self, Nat.xor_zero]
theorem xor_inj {a b c : Nat} (h : a ^^^ c = b ^^^ c) : a = b := by rw [← xor_back a c, h, xor_back]
theorem xor_lt (a b : Nat) (ha : a < 4294967296) (hb : b < 4294967296) : a ^^^ b < 4294967296 := Nat.xor_lt_two_pow (n := 32) (by omega) (by omega)
def nBit (r : Nat) : Nat := if r % 2 = 1 then (r / 2) ^^^ 3988292384 else r / 2
def nBits : Nat → Nat → Nat
  | 0, r => r
  | n + 1, r => nBit (nBits n r)
def nByte (r b : Nat) : Nat := nBits 8 (r ^^^ b)
def nTo (l : List UInt8) (r : Nat) : Nat := l.foldl (fun r b => nByte r b.toNat) r
theorem nBit_lt (r : Nat) (h : r < 4294967296) : nBit r < 4294967296 := by
  unfold nBit
  split
  · exact xor_lt _ _ (by omega) (by omega)
  · omega
theorem nBits_lt : ∀ (n r : Nat), r < 4294967296 → nBits n r < 4294967296
  | 0, _, h => h
  | n + 1, r, h => nBit_lt _ (nBits_lt n r h)
theorem nByte_lt (r b : Nat) (h : r < 4294967296) (hb : b < 256) : nByte r b < 4294967296 := nBits_lt 8 _ (xor_lt r b h (by omega))
theorem nTo_lt : ∀ (l : List UInt8) (r : Nat), r < 4294967296 → nTo l r < 4294967296
  | [], _, h => h
  | b :: l, r, h => nTo_lt l _ (nByte_lt r b.toNat h (UInt8.toNat_lt b))
theorem crcBit_nat (r : Nat) (h : r < 4294967296) : crcBit (r : Int) = (nBit r : Int) := by
  unfold crcBit nBit
  have ha := and32 r 1 h (by omega)
  rw [Nat.and_one_is_mod] at ha
  rw [show bits .and .u32 (r : Int) 1 = ((r % 2 : Nat) : Int) from ha]
  have hd : ((r : Int) / 2) = ((r / 2 : Nat) : Int) := by omega
  by_cases h1 : r % 2 = 1
  · rw [if_pos (by simp [h1]), if_pos h1, hd]
    exact xor32 (r / 2) 3988292384 (by omega) (by omega)
  · rw [if_neg (by simp; omega), if_neg h1, hd]
theorem crcBits_nat : ∀ (n r : Nat), r < 4294967296 → crcBits n (r : Int) = (nBits n r : Int)
  | 0, _, _ => rfl
  | n + 1, r, h => by
    show crcBit (crcBits n (r : Int)) = _
    rw [crcBits_nat n r h]
    exact crcBit_nat _ (nBits_lt n r h)
theorem nTo_append (a b : List UInt8) (r : Nat) : nTo (a ++ b) r = nTo b (nTo a r) := by unfold nTo; rw [List.foldl_append]
theorem crcTo_nat (s : ByteArray) (r : Nat) (h : r < 4294967296) : ∀ k, k ≤ s.size → crcTo s k (r : Int) = (nTo (s.data.toList.take k) r : Int)
  | 0, _ => rfl
  | k + 1, hk => by
    have hlt : k < s.size := by omega
    have hl : k < s.data.toList.length := by simpa using hlt
    rw [crcTo_succ s k _ hlt, crcTo_nat s r h k (by omega), List.take_succ_eq_append_getElem hl, nTo_append]
    have hb := UInt8.toNat_lt (s[k]'hlt)
    have hge : s.data.toList[k]'hl = s[k]'hlt := by simp [ByteArray.getElem_eq_getElem_data]
    have hx := xor32 (nTo (s.data.toList.take k) r) (s[k]'hlt).toNat (nTo_lt _ _ h) (by omega)
    rw [show (((s[k]'hlt).toNat : Int) % 4294967296) = ((s[k]'hlt).toNat : Int) by omega, hx, crcBits_nat _ _ (xor_lt _ _ (nTo_lt _ _ h) (by omega)), hge]
    rfl
theorem crcOf_nat (c : Nat) (s : ByteArray) (h : c < 4294967296) : crcOf (c : Int) s = ((nTo s.data.toList (c ^^^ 4294967295) ^^^ 4294967295 : Nat) : Int) := by
  unfold crcOf
  have h1 := xor32 c 4294967295 h (by omega)
  rw [show bits .xor .u32 (c : Int) 4294967295 = ((c ^^^ 4294967295 : Nat) : Int) from h1, crcTo_nat s _ (xor_lt _ _ h (by omega)) s.size (Nat.le_refl _), List.take_of_length_le (by simp)]
  exact xor32 _ 4294967295 (nTo_lt _ _ (xor_lt _ _ h (by omega))) (by omega)
/-- The CRC goes on from text to text. -/
theorem crcOf_more (t u : ByteArray) : crcOf (crcOf 0 t) u = crcOf 0 (t ++ u) := by
  have h0 := crcOf_nat 0 t (by omega)
  have hl := nTo_lt t.data.toList (0 ^^^ 4294967295) (by decide)
  rw [show crcOf 0 t = _ from h0, crcOf_nat _ u (xor_lt _ _ hl (by omega)), xor_back]
  have h2 := crcOf_nat 0 (t ++ u) (by omega)
  rw [show crcOf 0 (t ++ u) = _ from h2, ByteArray.data_append, Array.toList_append, nTo_append]
theorem nBit_inj (r q : Nat) (hr : r < 4294967296) (hq : q < 4294967296) (h : nBit r = nBit q) : r = q := by
  unfold nBit at h
  have hp : ∀ x y : Nat, x < 2147483648 → y < 2147483648 → x ^^^ 3988292384 = y → False := by
    intro x y hx hy e
    have e2 : 3988292384 = x ^^^ y := by rw [← e, ← Nat.xor_assoc, Nat.xor_self, Nat.zero_xor]
    have := Nat.xor_lt_two_pow (n := 31) (x := x) (y := y) (by omega) (by omega)
    omega
  by_cases h1 : r % 2 = 1
  · by_cases h2 : q % 2 = 1
    · rw [if_pos h1, if_pos h2] at h
      have := xor_inj h
      omega
    · rw [if_pos h1, if_neg h2] at h
      exact (hp (r / 2) (q / 2) (by omega) (by omega) h).elim
  · by_cases h2 : q % 2 = 1
    · rw [if_neg h1, if_pos h2] at h
      exact (hp (q / 2) (r / 2) (by omega) (by omega) h.symm).elim
    · rw [if_neg h1, if_neg h2] at h
      omega
theorem nBits_inj : ∀ (n r q : Nat), r < 4294967296 → q < 4294967296 → nBits n r = nBits n q → r = q
  | 0, _, _, _, _, h => h
  | n + 1, r, q, hr, hq, h => nBits_inj n r q hr hq (nBit_inj _ _ (nBits_lt n r hr) (nBits_lt n q hq) h)
theorem nTo_inj : ∀ (l : List UInt8) (r q : Nat), r < 4294967296 → q < 4294967296 → nTo l r = nTo l q → r = q
  | [], _, _, _, _, h => h
  | b :: l, r, q, hr, hq, h => by
    have hb := UInt8.toNat_lt b
    have h1 := nTo_inj l (nByte r b.toNat) (nByte q b.toNat) (nByte_lt r _ hr hb) (nByte_lt q _ hq hb) h
    exact xor_inj (nBits_inj 8 _ _ (xor_lt r _ hr (by omega)) (xor_lt q _ hq (by omega)) h1)
/-- With one byte turned the CRC is another one. -/
theorem crcOf_turn (a c : List UInt8) (b d : UInt8) (hne : b ≠ d) : crcOf 0 ⟨(a ++ b :: c).toArray⟩ ≠ crcOf 0 ⟨(a ++ d :: c).toArray⟩ := by
  intro h
  have h1 := crcOf_nat 0 ⟨(a ++ b :: c).toArray⟩ (by omega)
  have h2 := crcOf_nat 0 ⟨(a ++ d :: c).toArray⟩ (by omega)
  rw [show crcOf 0 ⟨(a ++ b :: c).toArray⟩ = _ from h1, show crcOf 0 ⟨(a ++ d :: c).toArray⟩ = _ from h2] at h
  have h3 := xor_inj (Int.ofNat.inj h)
  rw [show (⟨(a ++ b :: c).toArray⟩ : ByteArray).data.toList = a ++ b :: c from rfl, show (⟨(a ++ d :: c).toArray⟩ : ByteArray).data.toList = a ++ d :: c from rfl, nTo_append, nTo_append] at h3
  have hr := nTo_lt a (0 ^^^ 4294967295) (by decide)
  generalize nTo a (0 ^^^ 4294967295) = r at *
  have hb := UInt8.toNat_lt b
  have hd := UInt8.toNat_lt d
  have h4 := nTo_inj c (nByte r b.toNat) (nByte r d.toNat) (nByte_lt r _ hr hb) (nByte_lt r _ hr hd) h3
  have h5 := nBits_inj 8 _ _ (xor_lt r _ hr (by omega)) (xor_lt r _ hr (by omega)) h4
  rw [Nat.xor_comm r, Nat.xor_comm r] at h5
  exact hne (UInt8.toNat_inj.1 (xor_inj h5))
end Go.Proofs.Ytkbmhkgkdfeljaa.St1
