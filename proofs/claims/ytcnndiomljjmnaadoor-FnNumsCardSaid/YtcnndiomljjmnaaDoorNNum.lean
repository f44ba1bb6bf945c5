/- A number's bytes: PutNum of the program and of the model both answer the same list of bytes, seven bits a byte. -/
import Derived.Test.YtcnndiomljjmnaaDoorRows
import Derived.Test.YtcnndiomljjmnaaDoorNOwn
namespace Go.Proofs.YtcnndiomljjmnaaDoor.St2
open Go.RowKit

/-- The number from 0 to 2^64-1 that stands for n. -/
def fold (n : Int) : Int := if n < 0 then 2 * -(n + 1) + 1 else 2 * n
theorem fold_bd (n : Int) (h0 : -9223372036854775808 ≤ n) (h1 : n ≤ 9223372036854775807) : 0 ≤ fold n ∧ fold n ≤ 18446744073709551615 := by
  unfold fold; split <;> omega

def encF : Nat → Int → List Int
  | 0, _ => []
  | m + 1, u => if u < 128 then [u] else (u % 128 + 128) :: encF m (u / 128)
def enc (n : Int) : List Int := encF 10 (fold n)

theorem encF_last (m : Nat) (u : Int) (h : u < 128) : encF (m + 1) u = [u] := by rw [encF, if_pos h]
theorem encF_more (m : Nat) (u : Int) (h : 128 ≤ u) : encF (m + 1) u = (u % 128 + 128) :: encF m (u / 128) := by rw [encF, if_neg (by omega)]
theorem encF_len (m : Nat) : ∀ u, (encF m u).length ≤ m := by
  induction m with
  | zero => intro u; simp [encF]
  | succ m ih =>
    intro u
    rw [encF]
    split
    · simp
    · have := ih (u / 128)
      simp; omega
theorem encF_rng (m : Nat) : ∀ u, 0 ≤ u → ∀ x ∈ encF m u, 0 ≤ x ∧ x ≤ 255 := by
  induction m with
  | zero => intro u _ x hx; simp [encF] at hx
  | succ m ih =>
    intro u hu x hx
    rw [encF] at hx
    split at hx
    · simp at hx; omega
    · simp at hx
      rcases hx with rfl | hx
      · omega
      · exact ih (u / 128) (by omega) x hx
theorem enc_len (n : Int) : (enc n).length ≤ 10 := encF_len 10 _
theorem encF_ne (m : Nat) (u : Int) : encF (m + 1) u ≠ [] := by rw [encF]; split <;> simp

theorem and127 (u : Int) (h0 : 0 ≤ u) (h1 : u ≤ 18446744073709551615) : bits .and .u64 u 127 = u % 128 := by
  obtain ⟨m, rfl⟩ := Int.eq_ofNat_of_zero_le h0
  have hm : m < 18446744073709551616 := by omega
  have e1 : (BitVec.ofInt 64 (m : Int)).toNat = m := by simp; omega
  have e2 : (BitVec.ofInt 64 127).toNat = 127 := by decide
  have e0 : bits .and .u64 (m : Int) 127 = IntKind.u64.wrap (((BitVec.ofInt 64 (m : Int)) &&& (BitVec.ofInt 64 127)).toNat : Int) := rfl
  rw [e0, BitVec.toNat_and, e1, e2]
  have e3 : m &&& 127 = m % 128 := Nat.and_two_pow_sub_one_eq_mod m 7
  rw [e3]
  have : m % 128 < 128 := Nat.mod_lt _ (by decide)
  simp [IntKind.wrap, IntKind.signed, IntKind.bits]
  omega
theorem or128 (x : Int) (h0 : 0 ≤ x) (h1 : x < 128) : bits .or .u8 x 128 = x + 128 := by
  obtain ⟨m, rfl⟩ := Int.eq_ofNat_of_zero_le h0
  have key : ∀ m : Fin 128, bits .or .u8 (m.val : Int) 128 = (m.val : Int) + 128 := by decide +kernel
  exact key ⟨m, by omega⟩
theorem xorall (x : Int) (h0 : 0 ≤ x) (h1 : x ≤ 18446744073709551615) : bits .xor .u64 IntKind.u64.max x = 18446744073709551615 - x := by
  obtain ⟨m, rfl⟩ := Int.eq_ofNat_of_zero_le h0
  have e0 : BitVec.ofInt 64 IntKind.u64.max = BitVec.allOnes 64 := by decide
  have e2 : bits .xor .u64 IntKind.u64.max (m : Int) = IntKind.u64.wrap (((BitVec.ofInt 64 IntKind.u64.max) ^^^ (BitVec.ofInt 64 (m : Int))).toNat : Int) := rfl
  have e1 : (BitVec.ofInt 64 (m : Int)).toNat = m := by simp; omega
  rw [e2, e0, BitVec.allOnes_xor, BitVec.toNat_not, e1]
  simp [IntKind.wrap, IntKind.signed, IntKind.bits]
  omega
theorem fold_neg (n : Int) (h0 : -9223372036854775808 ≤ n) (h : n < 0) : bits .xor .u64 IntKind.u64.max (IntKind.u64.wrap (IntKind.u64.wrap n * 2)) = 2 * -(n + 1) + 1 := by
  have e : IntKind.u64.wrap (IntKind.u64.wrap n * 2) = (n * 2) % 18446744073709551616 := by
    simp [IntKind.wrap, IntKind.signed, IntKind.bits]
    omega
  rw [e, xorall _ (by omega) (by omega)]
  omega
theorem ret_int {k : IntKind} {a b : Int} (h : a = b) : Ending.returned (.int k a) = .returned (.int k b) := by rw [h]

set_option maxHeartbeats 400000 in
theorem specFold_any (n : Int) (w : World) (h0 : -9223372036854775808 ≤ n) (h1 : n ≤ 9223372036854775807) :
    Calls Tryd.prog 15 #[.int .i64 n] w fun e w' => e = .returned (.int .u64 (fold n)) ∧ w' = w := by
  by_cases hn : n < 0
  · go_enter Tryd.func15, Tryd.ntmps15
    go_wp2
    go_ret
    exact ⟨ret_int (by rw [fold, if_pos hn]), rfl⟩
  · have hn' : 0 ≤ n := by omega
    go_enter Tryd.func15, Tryd.ntmps15
    go_wp2
    go_ret
    exact ⟨ret_int (by rw [fold, if_neg (by omega)]), rfl⟩

set_option maxHeartbeats 400000 in
theorem implFold_any (n : Int) (w : World) (h0 : -9223372036854775808 ≤ n) (h1 : n ≤ 9223372036854775807) :
    Calls Tryd.prog 14 #[.int .i64 n] w fun e w' => e = .returned (.int .u64 (fold n)) ∧ w' = w := by
  by_cases hn : n < 0
  · go_enter Tryd.func14, Tryd.ntmps14
    go_wp2
    go_ret
    exact ⟨ret_int (by rw [fold, if_pos hn]; exact fold_neg n h0 hn), rfl⟩
  · have hn' : 0 ≤ n := by omega
    go_enter Tryd.func14, Tryd.ntmps14
    go_wp2
    go_ret
    exact ⟨ret_int (by rw [fold, if_neg (by omega)]; omega), rfl⟩
end Go.Proofs.YtcnndiomljjmnaaDoor.St2
