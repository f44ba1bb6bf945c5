/- What GetNum reads at a place, byte by byte: plain mathematics. -/
import Derived.WalkKit
import Derived.OpenShut
namespace Go.Proofs.YtnpbmaajgiapmaaGreatDoor.St3
open Go.RowKit

/-- The number that u stands for. -/
def unf (u : Int) : Int := if u % 2 = 1 then -(u / 2) - 1 else u / 2
theorem unf_bd (u : Int) (h0 : 0 ≤ u) (h1 : u ≤ 18446744073709551615) : -9223372036854775808 ≤ unf u ∧ unf u ≤ 9223372036854775807 := by
  unfold unf; split <;> omega

/-- From byte k on, u being what the bytes ahead of it hold: the number, the place behind it, the code. -/
def scan (s : ByteArray) (a : Nat) : Nat → Nat → Int → Int × Int × Int
  | 0, _, _ => (0, 0, 3)
  | f + 1, k, u =>
    if h : a + k < s.size then
      if ((s[a + k]'h).toNat : Int) < 128 ∨ k = 9 then
        if (k = 9 ∧ 1 < ((s[a + k]'h).toNat : Int)) ∨ (0 < k ∧ ((s[a + k]'h).toNat : Int) = 0) then (0, 0, 3)
        else (unf (u + ((s[a + k]'h).toNat : Int) * 128 ^ k), (a : Int) + k + 1, 0)
      else scan s a f (k + 1) (u + ((s[a + k]'h).toNat : Int) % 128 * 128 ^ k)
    else (0, 0, 4)

theorem scan_short (s : ByteArray) (a f k : Nat) (u : Int) (h : ¬ a + k < s.size) : scan s a (f + 1) k u = (0, 0, 4) := by rw [scan, dif_neg h]
theorem scan_bad (s : ByteArray) (a f k : Nat) (u : Int) (h : a + k < s.size) (h1 : ((s[a + k]'h).toNat : Int) < 128 ∨ k = 9)
    (h2 : (k = 9 ∧ 1 < ((s[a + k]'h).toNat : Int)) ∨ (0 < k ∧ ((s[a + k]'h).toNat : Int) = 0)) : scan s a (f + 1) k u = (0, 0, 3) := by rw [scan, dif_pos h, if_pos h1, if_pos h2]
theorem scan_last (s : ByteArray) (a f k : Nat) (u : Int) (h : a + k < s.size) (h1 : ((s[a + k]'h).toNat : Int) < 128 ∨ k = 9)
    (h2 : ¬ ((k = 9 ∧ 1 < ((s[a + k]'h).toNat : Int)) ∨ (0 < k ∧ ((s[a + k]'h).toNat : Int) = 0))) : scan s a (f + 1) k u = (unf (u + ((s[a + k]'h).toNat : Int) * 128 ^ k), (a : Int) + k + 1, 0) := by
  rw [scan, dif_pos h, if_pos h1, if_neg h2]
theorem scan_more (s : ByteArray) (a f k : Nat) (u : Int) (h : a + k < s.size) (h1 : 128 ≤ ((s[a + k]'h).toNat : Int)) (h9 : k < 9) :
    scan s a (f + 1) k u = scan s a f (k + 1) (u + ((s[a + k]'h).toNat : Int) % 128 * 128 ^ k) := by
  rw [scan, dif_pos h, if_neg (by omega)]

theorem byte_lt (s : ByteArray) (i : Nat) (h : i < s.size) : ((s[i]'h).toNat : Int) ≤ 255 := by have := (s[i]'h).toNat_lt; omega
end Go.Proofs.YtnpbmaajgiapmaaGreatDoor.St3
