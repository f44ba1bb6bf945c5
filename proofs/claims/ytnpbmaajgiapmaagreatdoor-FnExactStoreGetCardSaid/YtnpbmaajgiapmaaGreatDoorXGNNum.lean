/- A number's bytes: PutNum of the program and of the model both answer the same list of bytes, seven bits a byte. -/
import Derived.Test.YtnpbmaajgiapmaaGreatDoorRows
import Derived.Test.YtnpbmaajgiapmaaGreatDoorXGNOwn
namespace Go.Proofs.YtnpbmaajgiapmaaGreatDoor.St2
open Go.RowKit

/-- The number from 0 to 2^64-1 that stands for n. -/
def fold (n : Int) : Int := if n < 0 then 2 * -(n + 1) + 1 else 2 * n
theorem fold_bd (n : Int) (h0 : -9223372036854775808 ≤ n) (h1 : n ≤ 9223372036854775807) : 0 ≤ fold n ∧ fold n ≤ 18446744073709551615 := by
  unfold fold; split <;> omega

def encF : Nat → Int → List Int
  | 0, _ => []
  | m + 1, u => if u < 128 then [u] else (u % 128 + 128) :: encF m (u / 128)
def enc (n : Int) : List Int := encF 10 (fold n)

theorem encF_last (m : Nat) (u : Int) (h : u < 128) : encF (m + 1) u = [u] := by rw [encF, if_pos h]
theorem encF_more (m : Nat) (u : Int) (h : 128 ≤ u) : encF (m + 1) u = (u % 128 + 128) :: encF m (u / 128) := by rw [encF, if_neg (by omega)]
theorem encF_len (m : Nat) : ∀ u, (encF m u).length ≤ m := by
  induction m with
  | zero => intro u; simp [encF]
  | succ m ih =>
    intro u
    rw [encF]
    split
    · simp
    · have := ih (u / 128)
      simp; omega
theorem encF_rng (m : Nat) : ∀ u, 0 ≤ u → ∀ x ∈ encF m u, 0 ≤ x ∧ x ≤ 255 := by
  induction m with
  | zero => intro u _ x hx; simp [encF] at hx
  | succ m ih =>
    intro u hu x hx
    rw [encF] at hx
    split at hx
    · simp at hx; omega
    · simp at hx
      rcases hx with rfl | hx
      · omega
      · exact ih (u / 128) (by omega) x hx
theorem enc_len (n : Int) : (enc n).length ≤ 10 := encF_len 10 _
theorem encF_ne (m : Nat) (u : Int) : encF (m + 1) u ≠ [] := by rw [encF]; split <;> simp

theorem and127 (u : Int) (h0 : 0 ≤ u) (h1 : u ≤ 18446744073709551615) : bits .and .u64 u 127 = u % 128 := by
  obtain ⟨m, rfl⟩ := Int.eq_ofNat_of_zero_le h0
  have hm : m < 18446744073709551616 := by omega
  have e1 : (BitVec.ofInt 64 (m : Int)).toNat = m := by simp; omega
  have e2 : (BitVec.ofInt 64 127).toNat = 127 := by decide
  have e0 : bits .and .u64 (m : Int) 127 = IntKind.u64.wrap (((BitVec.ofInt 64 (m : Int)) &&& (BitVec.ofInt 64 127)).toNat : Int) := rfl
  rw [e0, BitVec.toNat_and, e1, e2]
  have e3 : m &&& 127 = m % 128 := Nat.and_two_pow_sub_one_eq_mod m 7
  rw [e3]
  have : m % 128 < 128 := Nat.mod_lt _ (by decide)
  simp [IntKind.wrap, IntKind.signed, IntKind.bits]
  omega
theorem or128 (x : Int) (h0 : 0 ≤ x) (h1 : x < 128) : bits .or .u8 x 128 = x + 128 := by
  obtain ⟨m, rfl⟩ := Int.eq_ofNat_of_zero_le h0
  have key : ∀ m : Fin 128, bits .or .u8 (m.val : Int) 128 = (m.val : Int) + 128 := by decide +kernel
  exact key ⟨m, by omega⟩
theorem xorall (x : Int) (h0 : 0 ≤ x) (h1 : x ≤ 18446744073709551615) : bits .xor .u64 IntKind.u64.max x = 18446744073709551615 - x := by
  obtain ⟨m, rfl⟩ := Int.eq_ofNat_of_zero_le h0
  have e0 : BitVec.ofInt 64 IntKind.u64.max = BitVec.allOnes 64 := by decide
  have e2 : bits .xor .u64 IntKind.u64.max (m : Int) = IntKind.u64.wrap (((BitVec.ofInt 64 IntKind.u64.max) ^^^ (BitVec.ofInt 64 (m : Int))).toNat : Int) := rfl
  have e1 : (BitVec.ofInt 64 (m : Int)).toNat = m := by simp; omega
  rw [e2, e0, BitVec.allOnes_xor, BitVec.toNat_not, e1]
  simp [IntKind.wrap, IntKind.signed, IntKind.bits]
  omega
theorem fold_neg (n : Int) (h0 : -9223372036854775808 ≤ n) (h : n < 0) : bits .xor .u64 IntKind.u64.max (IntKind.u64.wrap (IntKind.u64.wrap n * 2)) = 2 * -(n + 1) + 1 := by
  have e : IntKind.u64.wrap (IntKind.u64.wrap n * 2) = (n * 2) % 18446744073709551616 := by
    simp [IntKind.wrap, IntKind.signed, IntKind.bits]
    omega
  rw [e, xorall _ (by omega) (by omega)]
  omega
theorem ret_int {k : IntKind} {a b : Int} (h : a = b) : Ending.returned (.int k a) = .returned (.int k b) := by rw [h]

set_option maxHeartbeats 400000 in
theorem specFold_any (n : Int) (w : World) (h0 : -9223372036854775808 ≤ n) (h1 : n ≤ 9223372036854775807) :
    Calls Tryz.prog 98 #[.int .i64 n] w fun e w' => e = .returned (.int .u64 (fold n)) ∧ w' = w := by
  by_cases hn : n < 0
  · go_enter Tryz.func98, Tryz.ntmps98
    go_wp2
    go_ret
    exact ⟨ret_int (by rw [fold, if_pos hn]), rfl⟩
  · have hn' : 0 ≤ n := by omega
    go_enter Tryz.func98, Tryz.ntmps98
    go_wp2
    go_ret
    exact ⟨ret_int (by rw [fold, if_neg (by omega)]), rfl⟩

set_option maxHeartbeats 400000 in
theorem implFold_any (n : Int) (w : World) (h0 : -9223372036854775808 ≤ n) (h1 : n ≤ 9223372036854775807) :
    Calls Tryz.prog 130 #[.int .i64 n] w fun e w' => e = .returned (.int .u64 (fold n)) ∧ w' = w := by
  by_cases hn : n < 0
  · go_enter Tryz.func130, Tryz.ntmps130
    go_wp2
    go_ret
    exact ⟨ret_int (by rw [fold, if_pos hn]; exact fold_neg n h0 hn), rfl⟩
  · have hn' : 0 ≤ n := by omega
    go_enter Tryz.func130, Tryz.ntmps130
    go_wp2
    go_ret
    exact ⟨ret_int (by rw [fold, if_neg (by omega)]; omega), rfl⟩
end Go.Proofs.YtnpbmaajgiapmaaGreatDoor.St2
/- PutNum of the program and of the model: both answer the bytes 'enc' of the number, in new memory. -/
namespace Go.Proofs.YtnpbmaajgiapmaaGreatDoor.St2
open Go.RowKit

theorem Tryz.info5 : (Tryz.prog.info? 5).map (fun i => (i.zero, i.size, i.bytes)) = some (some (.int .u8 0), 1, 1) := by kernel_rfl

/-- What holds at the head of the loop: of the number's bytes the first are in the row, and those of u are left. -/
def Left (n : Int) (w0 w : World) (v : Value) (u : Int) (m : Nat) : Prop :=
  ∃ L, Own 5 w0.heap.size w0 w v L ∧ L.length + m ≤ 9 ∧ (∀ x ∈ L, 0 ≤ x ∧ x ≤ 255) ∧ enc n = L ++ encF (m + 1) u ∧ u < 128 ^ (m + 1)

theorem left_step {n : Int} {w0 w' : World} {v' : Value} {u : Int} {m : Nat} {L : List Int} (h0 : 128 ≤ u) (hown : Own 5 w0.heap.size w0 w' v' (L ++ [u % 128 + 128]))
    (hl : L.length + m ≤ 9) (hr : ∀ x ∈ L, 0 ≤ x ∧ x ≤ 255) (he : enc n = L ++ encF (m + 1) u) (hp : u < 128 ^ (m + 1)) : ∃ m', m = m' + 1 ∧ Left n w0 w' v' (u / 128) m' := by
  cases m with
  | zero => simp at hp; omega
  | succ m' =>
    refine ⟨m', rfl, L ++ [u % 128 + 128], hown, by simp; omega, ?_, ?_, ?_⟩
    · intro x hx
      simp at hx
      rcases hx with hx | rfl
      · exact hr x hx
      · omega
    · rw [he, encF_more _ _ h0]; simp
    · have e : (128 : Int) ^ (m' + 1 + 1) = 128 ^ (m' + 1) * 128 := Int.pow_succ ..
      rw [e] at hp
      exact Int.ediv_lt_of_lt_mul (by omega) hp

theorem left_end {n : Int} {w0 w' : World} {v' : Value} {u : Int} {m : Nat} {L : List Int} (hu : 0 ≤ u) (h0 : u < 128) (hown : Own 5 w0.heap.size w0 w' v' (L ++ [u]))
    (hr : ∀ x ∈ L, 0 ≤ x ∧ x ≤ 255) (he : enc n = L ++ encF (m + 1) u) :
    (convert 126 9 v').run Tryz.prog w' = .ok (.string (bytesOf (enc n))) w' ∧ Below w0.heap.size w0 w' := by
  rw [encF_last _ _ h0] at he
  rw [he]
  refine ⟨own_string hown ?_ (by simp) Tryz.underlying126 Tryz.underlying5 Tryz.underlying9, hown.2.1⟩
  intro x hx
  simp at hx
  rcases hx with hx | rfl
  · exact hr x hx
  · omega

set_option maxHeartbeats 1000000 in
theorem specPutNum_any (n : Int) (w : World) (h0 : -9223372036854775808 ≤ n) (h1 : n ≤ 9223372036854775807) :
    Calls Tryz.prog 74 #[.int .i64 n] w fun e w' => e = .returned (.string (bytesOf (enc n))) ∧ Below w.heap.size w w' := by
  have hb := fold_bd n h0 h1
  have HS : Hid (Left n w (w.alloc (.cells #[] 5)) (.slice (some ⟨w.heap.size, 0, none⟩) 0 0) (fold n) 9) :=
    ⟨[], own_empty 5 w, by simp, by simp, rfl, by have : (128 : Int) ^ (9 + 1) = 1180591620717411303424 := by decide
                                                  omega⟩
  go_enter Tryz.func74, Tryz.ntmps74
  go_wp2_with fail
  refine (specFold_any _ _ h0 h1).mono ?_
  rintro e w' ⟨rfl, rfl⟩
  go_wp2_with fail
  go_loopw [3, 4] (fun x v wr => ∃ u : Int, 0 ≤ u ∧ u ≤ 18446744073709551615 ∧ x = .int .u64 u ∧ ∃ m, Hid (Left n w' wr v u m)) (fun x _ _ => (intOf x).toNat)
  case atStart => exact ⟨_, hb.1, hb.2, rfl, 9, HS⟩
  case round =>
    obtain ⟨u, hu0, hu1, rfl, m, HL⟩ := hrel
    obtain ⟨L, hown, hl, hr, he, hp⟩ := HL.out
    have HR := hide hr
    have HE := hide he
    have HP := hide hp
    clear hr he hp HL
    by_cases hlt : 128 ≤ u
    · go_wp2_with (at_builtin; refine wpList_push rfl (.tmp 10) (.tmp 15) 126 rfl w'.heap.size 5 Tryz.underlying126 Tryz.info5 _ L _ rfl rfl hown (by omega) ?_)
      intro v2 w2 hown2
      obtain ⟨m', em, hL2⟩ := left_step hlt hown2 hl HR.out HE.out HP.out
      have HL2 := hide hL2
      clear hL2 em hown hown2 HE HP HR hl
      go_wp2
      go_roundw
      case rel => exact ⟨u / 128, by omega, by omega, rfl, m', HL2⟩
      case measure => simp [intOf]; omega
    · have hlt' : u < 128 := by omega
      go_wp2_with (at_builtin; refine wpList_push rfl (.tmp 19) (.tmp 22) 126 rfl w'.heap.size 5 Tryz.underlying126 Tryz.info5 _ L _ rfl rfl hown (by omega) ?_)
      intro v2 w2 hown2
      obtain ⟨hcv, hbl⟩ := left_end hu0 hlt' hown2 HR.out HE.out
      clear hown hown2 HE HP HR hl
      go_wp2
      go_ret
      exact ⟨rfl, hbl⟩

set_option maxHeartbeats 1000000 in
theorem implPutNum_any (n : Int) (w : World) (h0 : -9223372036854775808 ≤ n) (h1 : n ≤ 9223372036854775807) :
    Calls Tryz.prog 103 #[.int .i64 n] w fun e w' => e = .returned (.string (bytesOf (enc n))) ∧ Below w.heap.size w w' := by
  have hb := fold_bd n h0 h1
  have HS : Hid (Left n w w (.slice none 0 0) (fold n) 9) :=
    ⟨[], own_nil 5 w, by simp, by simp, rfl, by have : (128 : Int) ^ (9 + 1) = 1180591620717411303424 := by decide
                                                omega⟩
  go_enter Tryz.func103, Tryz.ntmps103
  go_wp2_with fail
  refine (implFold_any _ _ h0 h1).mono ?_
  rintro e w' ⟨rfl, rfl⟩
  go_wp2_with fail
  go_loopw [4, 3] (fun x v wr => ∃ u : Int, 0 ≤ u ∧ u ≤ 18446744073709551615 ∧ x = .int .u64 u ∧ ∃ m, Hid (Left n w' wr v u m)) (fun x _ _ => (intOf x).toNat)
  case atStart => exact ⟨_, hb.1, hb.2, rfl, 9, HS⟩
  case round =>
    obtain ⟨u, hu0, hu1, rfl, m, HL⟩ := hrel
    obtain ⟨L, hown, hl, hr, he, hp⟩ := HL.out
    have HR := hide hr
    have HE := hide he
    have HP := hide hp
    clear hr he hp HL
    have ha := and127 u hu0 hu1
    have hx := or128 (u % 128) (by omega) (by omega)
    by_cases hlt : 128 ≤ u
    · go_wp2_with (at_builtin; refine wpList_push rfl (.tmp 9) (.tmp 14) 126 rfl w'.heap.size 5 Tryz.underlying126 Tryz.info5 _ L _ rfl rfl hown (by omega) ?_)
      intro v2 w2 hown2
      obtain ⟨m', em, hL2⟩ := left_step hlt hown2 hl HR.out HE.out HP.out
      have HL2 := hide hL2
      clear hL2 em hown hown2 HE HP HR hl
      go_wp2
      go_roundw
      case rel => exact ⟨u / 128, by omega, by omega, rfl, m', HL2⟩
      case measure => simp [intOf]; omega
    · have hlt' : u < 128 := by omega
      go_wp2_with (at_builtin; refine wpList_push rfl (.tmp 18) (.tmp 21) 126 rfl w'.heap.size 5 Tryz.underlying126 Tryz.info5 _ L _ rfl rfl hown (by omega) ?_)
      intro v2 w2 hown2
      obtain ⟨hcv, hbl⟩ := left_end hu0 hlt' hown2 HR.out HE.out
      clear hown hown2 HE HP HR hl
      go_wp2
      go_ret
      exact ⟨rfl, hbl⟩
end Go.Proofs.YtnpbmaajgiapmaaGreatDoor.St2
