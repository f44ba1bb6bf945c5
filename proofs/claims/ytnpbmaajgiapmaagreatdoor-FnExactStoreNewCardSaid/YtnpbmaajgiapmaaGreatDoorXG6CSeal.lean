/- The four bytes of a CRC, and Seal of the program and of the model: both answer the text with the four bytes of its CRC behind it, or the empty text. -/
import Derived.Test.YtnpbmaajgiapmaaGreatDoorXG5SRead
import Derived.Test.YtnpbmaajgiapmaaGreatDoorXG0GScan
import Derived.Test.YtnpbmaajgiapmaaGreatDoorXG1NumMath
namespace Go.Proofs.YtnpbmaajgiapmaaGreatDoor.St1
open Go.RowKit

def four (n : Int) : ByteArray := ⟨#[UInt8.ofNat (n % 256).toNat, UInt8.ofNat (n / 256 % 256).toNat, UInt8.ofNat (n / 65536 % 256).toNat, UInt8.ofNat (n / 16777216).toNat]⟩
theorem four_size (n : Int) : (four n).size = 4 := rfl

theorem four_run (w : World) (a b c d : Int) (ha : 0 ≤ a ∧ a < 256) (hb : 0 ≤ b ∧ b < 256) (hc : 0 ≤ c ∧ c < 256) (hd : 0 ≤ d ∧ d < 256) :
    (convert 126 9 (.slice (some ⟨w.heap.size, 0, none⟩) 4 4)).run Tryz.prog (w.alloc (.cells #[.int .u8 a, .int .u8 b, .int .u8 c, .int .u8 d] 5)) =
      .ok (.string ⟨#[UInt8.ofNat a.toNat, UInt8.ofNat b.toNat, UInt8.ofNat c.toNat, UInt8.ofNat d.toNat]⟩) (w.alloc (.cells #[.int .u8 a, .int .u8 b, .int .u8 c, .int .u8 d] 5)) := by
  refine run_convert_bytes_back (P := Tryz.prog) _ 126 9 5 ⟨w.heap.size, 0, none⟩ 4 [UInt8.ofNat a.toNat, UInt8.ofNat b.toNat, UInt8.ofNat c.toNat, UInt8.ofNat d.toNat] Tryz.underlying126 Tryz.underlying5 Tryz.underlying9 (fun j hj => ?_)
  have ea : (⟨w.heap.size, 0, none⟩ : Addr).add j = ⟨w.heap.size, j, none⟩ := by unfold Addr.add; split <;> simp_all
  rw [ea, cell_of_row _ w.heap.size j _ 5 (0, 0) (heap_alloc_new w _)]
  match j, hj with
  | 0, _ => simp; omega
  | 1, _ => simp; omega
  | 2, _ => simp; omega
  | 3, _ => simp; omega

set_option maxHeartbeats 400000 in
theorem specFour_any (n : Int) (w : World) (h0 : 0 ≤ n) (h1 : n ≤ 4294967295) :
    Calls Tryz.prog 123 #[.int .i64 n] w fun e w' => e = .returned (.string (four n)) ∧ Below w.heap.size w w' := by
  have hr := four_run w (n % 256) (n / 256 % 256) (n / 65536 % 256) (n / 16777216) (by omega) (by omega) (by omega) (by omega)
  go_enter Tryz.func123, Tryz.ntmps123
  go_wp2
  go_ret
  exact ⟨rfl, (Below.refl _ _).alloc (Nat.le_refl _) _⟩

set_option maxHeartbeats 400000 in
theorem implFour_any (n : Int) (w : World) (h0 : 0 ≤ n) (h1 : n ≤ 4294967295) :
    Calls Tryz.prog 128 #[.int .i64 n] w fun e w' => e = .returned (.string (four n)) ∧ Below w.heap.size w w' := by
  have hr := four_run w (n % 256) (n / 256 % 256) (n / 65536 % 256) (n / 16777216) (by omega) (by omega) (by omega) (by omega)
  go_enter Tryz.func128, Tryz.ntmps128
  go_wp2
  go_ret
  exact ⟨rfl, (Below.refl _ _).alloc (Nat.le_refl _) _⟩

def sealOf (s : ByteArray) : ByteArray := s ++ four (crcOf 0 s)

set_option maxHeartbeats 400000 in
theorem specSeal_any (s : ByteArray) (w : World) (hs : s.size ≤ 7996) :
    Calls Tryz.prog 97 #[.string s] w fun e w' => e = .returned (.string (sealOf s)) ∧ Below w.heap.size w w' := by
  have hb := crcOf_bd 0 s
  go_enter Tryz.func97, Tryz.ntmps97
  go_wp2_with fail
  refine (specCrc_any _ s _ (by unfold maxLen; omega) (by omega) (by omega)).mono ?_
  rintro e w' ⟨rfl, rfl⟩
  go_wp2_with fail
  refine (specFour_any _ _ hb.1 hb.2).mono ?_
  rintro e w1 ⟨rfl, hb1⟩
  have hf : (four (crcOf 0 s)).size ≤ 4 := Nat.le_of_eq (four_size _)
  go_wp2
  go_ret
  exact ⟨rfl, hb1⟩

set_option maxHeartbeats 400000 in
theorem specSeal_not (s : ByteArray) (w : World) (hm : s.size ≤ maxLen) (hs : 7996 < s.size) :
    Calls Tryz.prog 97 #[.string s] w fun e w' => e = .returned (.string ByteArray.empty) ∧ w' = w := by
  unfold maxLen at hm
  go_enter Tryz.func97, Tryz.ntmps97
  go_wp2
  go_ret
  exact ⟨rfl, rfl⟩

set_option maxHeartbeats 400000 in
theorem implSeal_any (s : ByteArray) (w : World) (hs : s.size ≤ 7996) :
    Calls Tryz.prog 102 #[.string s] w fun e w' => e = .returned (.string (sealOf s)) ∧ Below w.heap.size w w' := by
  have hb := crcOf_bd 0 s
  go_enter Tryz.func102, Tryz.ntmps102
  go_wp2_with fail
  refine (implCrcOf_any s _ (by omega)).mono ?_
  rintro e w' ⟨rfl, rfl⟩
  go_wp2_with fail
  refine (implFour_any _ _ hb.1 hb.2).mono ?_
  rintro e w1 ⟨rfl, hb1⟩
  have hf : (four (crcOf 0 s)).size ≤ 4 := Nat.le_of_eq (four_size _)
  go_wp2_with fail
  refine (joinTexts_any s _ _ (by omega) (by omega)).mono ?_
  rintro e w2 ⟨rfl, hb2⟩
  go_wp2
  go_ret
  exact ⟨rfl, hb1.trans (hb2.mono hb1.size)⟩

set_option maxHeartbeats 400000 in
theorem implSeal_not (s : ByteArray) (w : World) (hm : s.size ≤ maxLen) (hs : 7996 < s.size) :
    Calls Tryz.prog 102 #[.string s] w fun e w' => e = .returned (.string ByteArray.empty) ∧ w' = w := by
  unfold maxLen at hm
  go_enter Tryz.func102, Tryz.ntmps102
  go_wp2
  go_ret
  exact ⟨rfl, rfl⟩
end Go.Proofs.YtnpbmaajgiapmaaGreatDoor.St1
/- PutNum of the program and of the model: both answer the bytes 'enc' of the number, in new memory. -/
namespace Go.Proofs.YtnpbmaajgiapmaaGreatDoor.St2
open Go.RowKit

theorem Tryz.info5 : (Tryz.prog.info? 5).map (fun i => (i.zero, i.size, i.bytes)) = some (some (.int .u8 0), 1, 1) := by kernel_rfl

/-- What holds at the head of the loop: of the number's bytes the first are in the row, and those of u are left. -/
def Left (n : Int) (w0 w : World) (v : Value) (u : Int) (m : Nat) : Prop :=
  ∃ L, Own 5 w0.heap.size w0 w v L ∧ L.length + m ≤ 9 ∧ (∀ x ∈ L, 0 ≤ x ∧ x ≤ 255) ∧ enc n = L ++ encF (m + 1) u ∧ u < 128 ^ (m + 1)

theorem left_step {n : Int} {w0 w' : World} {v' : Value} {u : Int} {m : Nat} {L : List Int} (h0 : 128 ≤ u) (hown : Own 5 w0.heap.size w0 w' v' (L ++ [u % 128 + 128]))
    (hl : L.length + m ≤ 9) (hr : ∀ x ∈ L, 0 ≤ x ∧ x ≤ 255) (he : enc n = L ++ encF (m + 1) u) (hp : u < 128 ^ (m + 1)) : ∃ m', m = m' + 1 ∧ Left n w0 w' v' (u / 128) m' := by
  cases m with
  | zero => simp at hp; omega
  | succ m' =>
    refine ⟨m', rfl, L ++ [u % 128 + 128], hown, by simp; omega, ?_, ?_, ?_⟩
    · intro x hx
      simp at hx
      rcases hx with hx | rfl
      · exact hr x hx
      · omega
    · rw [he, encF_more _ _ h0]; simp
    · have e : (128 : Int) ^ (m' + 1 + 1) = 128 ^ (m' + 1) * 128 := Int.pow_succ ..
      rw [e] at hp
      exact Int.ediv_lt_of_lt_mul (by omega) hp

theorem left_end {n : Int} {w0 w' : World} {v' : Value} {u : Int} {m : Nat} {L : List Int} (hu : 0 ≤ u) (h0 : u < 128) (hown : Own 5 w0.heap.size w0 w' v' (L ++ [u]))
    (hr : ∀ x ∈ L, 0 ≤ x ∧ x ≤ 255) (he : enc n = L ++ encF (m + 1) u) :
    (convert 126 9 v').run Tryz.prog w' = .ok (.string (bytesOf (enc n))) w' ∧ Below w0.heap.size w0 w' := by
  rw [encF_last _ _ h0] at he
  rw [he]
  refine ⟨own_string hown ?_ (by simp) Tryz.underlying126 Tryz.underlying5 Tryz.underlying9, hown.2.1⟩
  intro x hx
  simp at hx
  rcases hx with hx | rfl
  · exact hr x hx
  · omega

set_option maxHeartbeats 1000000 in
theorem specPutNum_any (n : Int) (w : World) (h0 : -9223372036854775808 ≤ n) (h1 : n ≤ 9223372036854775807) :
    Calls Tryz.prog 74 #[.int .i64 n] w fun e w' => e = .returned (.string (bytesOf (enc n))) ∧ Below w.heap.size w w' := by
  have hb := fold_bd n h0 h1
  have HS : Hid (Left n w (w.alloc (.cells #[] 5)) (.slice (some ⟨w.heap.size, 0, none⟩) 0 0) (fold n) 9) :=
    ⟨[], own_empty 5 w, by simp, by simp, rfl, by have : (128 : Int) ^ (9 + 1) = 1180591620717411303424 := by decide
                                                  omega⟩
  go_enter Tryz.func74, Tryz.ntmps74
  go_wp2_with fail
  refine (specFold_any _ _ h0 h1).mono ?_
  rintro e w' ⟨rfl, rfl⟩
  go_wp2_with fail
  go_loopw [3, 4] (fun x v wr => ∃ u : Int, 0 ≤ u ∧ u ≤ 18446744073709551615 ∧ x = .int .u64 u ∧ ∃ m, Hid (Left n w' wr v u m)) (fun x _ _ => (intOf x).toNat)
  case atStart => exact ⟨_, hb.1, hb.2, rfl, 9, HS⟩
  case round =>
    obtain ⟨u, hu0, hu1, rfl, m, HL⟩ := hrel
    obtain ⟨L, hown, hl, hr, he, hp⟩ := HL.out
    have HR := hide hr
    have HE := hide he
    have HP := hide hp
    clear hr he hp HL
    by_cases hlt : 128 ≤ u
    · go_wp2_with (at_builtin; refine wpList_push rfl (.tmp 10) (.tmp 15) 126 rfl w'.heap.size 5 Tryz.underlying126 Tryz.info5 _ L _ rfl rfl hown (by omega) ?_)
      intro v2 w2 hown2
      obtain ⟨m', em, hL2⟩ := left_step hlt hown2 hl HR.out HE.out HP.out
      have HL2 := hide hL2
      clear hL2 em hown hown2 HE HP HR hl
      go_wp2
      go_roundw
      case rel => exact ⟨u / 128, by omega, by omega, rfl, m', HL2⟩
      case measure => simp [intOf]; omega
    · have hlt' : u < 128 := by omega
      go_wp2_with (at_builtin; refine wpList_push rfl (.tmp 19) (.tmp 22) 126 rfl w'.heap.size 5 Tryz.underlying126 Tryz.info5 _ L _ rfl rfl hown (by omega) ?_)
      intro v2 w2 hown2
      obtain ⟨hcv, hbl⟩ := left_end hu0 hlt' hown2 HR.out HE.out
      clear hown hown2 HE HP HR hl
      go_wp2
      go_ret
      exact ⟨rfl, hbl⟩

set_option maxHeartbeats 1000000 in
theorem implPutNum_any (n : Int) (w : World) (h0 : -9223372036854775808 ≤ n) (h1 : n ≤ 9223372036854775807) :
    Calls Tryz.prog 103 #[.int .i64 n] w fun e w' => e = .returned (.string (bytesOf (enc n))) ∧ Below w.heap.size w w' := by
  have hb := fold_bd n h0 h1
  have HS : Hid (Left n w w (.slice none 0 0) (fold n) 9) :=
    ⟨[], own_nil 5 w, by simp, by simp, rfl, by have : (128 : Int) ^ (9 + 1) = 1180591620717411303424 := by decide
                                                omega⟩
  go_enter Tryz.func103, Tryz.ntmps103
  go_wp2_with fail
  refine (implFold_any _ _ h0 h1).mono ?_
  rintro e w' ⟨rfl, rfl⟩
  go_wp2_with fail
  go_loopw [4, 3] (fun x v wr => ∃ u : Int, 0 ≤ u ∧ u ≤ 18446744073709551615 ∧ x = .int .u64 u ∧ ∃ m, Hid (Left n w' wr v u m)) (fun x _ _ => (intOf x).toNat)
  case atStart => exact ⟨_, hb.1, hb.2, rfl, 9, HS⟩
  case round =>
    obtain ⟨u, hu0, hu1, rfl, m, HL⟩ := hrel
    obtain ⟨L, hown, hl, hr, he, hp⟩ := HL.out
    have HR := hide hr
    have HE := hide he
    have HP := hide hp
    clear hr he hp HL
    have ha := and127 u hu0 hu1
    have hx := or128 (u % 128) (by omega) (by omega)
    by_cases hlt : 128 ≤ u
    · go_wp2_with (at_builtin; refine wpList_push rfl (.tmp 9) (.tmp 14) 126 rfl w'.heap.size 5 Tryz.underlying126 Tryz.info5 _ L _ rfl rfl hown (by omega) ?_)
      intro v2 w2 hown2
      obtain ⟨m', em, hL2⟩ := left_step hlt hown2 hl HR.out HE.out HP.out
      have HL2 := hide hL2
      clear hL2 em hown hown2 HE HP HR hl
      go_wp2
      go_roundw
      case rel => exact ⟨u / 128, by omega, by omega, rfl, m', HL2⟩
      case measure => simp [intOf]; omega
    · have hlt' : u < 128 := by omega
      go_wp2_with (at_builtin; refine wpList_push rfl (.tmp 18) (.tmp 21) 126 rfl w'.heap.size 5 Tryz.underlying126 Tryz.info5 _ L _ rfl rfl hown (by omega) ?_)
      intro v2 w2 hown2
      obtain ⟨hcv, hbl⟩ := left_end hu0 hlt' hown2 HR.out HE.out
      clear hown hown2 HE HP HR hl
      go_wp2
      go_ret
      exact ⟨rfl, hbl⟩
end Go.Proofs.YtnpbmaajgiapmaaGreatDoor.St2
/- The specification's small helpers of an area: how many sectors a side has, where a side begins, and a head's text. -/
namespace Go.Proofs.YtnpbmaajgiapmaaGreatDoor
open Go.RowKit

def half (n : Nat) : Int := ((n : Int) - 1) / 2
def numText (n : Int) : ByteArray := St2.bytesOf (St2.enc n)
def headOf (g s z : Int) : ByteArray := St1.sealOf (numText g ++ numText s ++ numText z)

theorem numText_size (n : Int) : (numText n).size ≤ 10 := by
  have := St2.enc_len n
  simp only [numText, St2.bytesOf, ByteArray.size, List.size_toArray, List.length_map]; exact this

set_option maxHeartbeats 400000 in
theorem l03Half_any (vs vp : Value) (xs : List ByteArray) (w : World) (hx : 1 ≤ xs.length) (hn : xs.length ≤ 1048576) (hr : Reads w vs xs) :
    Calls Tryz.prog 68 #[.agg #[vs, vp]] w fun e w' => e = .returned (.int .i64 (half xs.length)) ∧ Below w.heap.size w w' := by
  have hb0 : Below w.heap.size w (w.alloc (.cells #[vs, vp] 30)) := (Below.refl _ _).alloc (Nat.le_refl _) _
  obtain ⟨p1, c1, rfl, hq⟩ := hr
  clear hq
  have h1 : ((xs.length : Int) - 1).tdiv 2 = half xs.length := by unfold half; rw [Int.tdiv_eq_ediv_of_nonneg (by omega)]
  have h0 : IntKind.i64.wrap ((xs.length : Int) - 1) = (xs.length : Int) - 1 := by rw [IntKind.wrap_i64]; omega
  have h2 : IntKind.i64.wrap (half xs.length) = half xs.length := by unfold half; rw [IntKind.wrap_i64]; omega
  go_enter Tryz.func68, Tryz.ntmps68
  go_wp2
  go_ret
  exact ⟨by first | rfl | simp [h1, h2], hb0⟩

set_option maxHeartbeats 400000 in
theorem l03Head_any (g s z : Int) (w : World) (hg : -9223372036854775808 ≤ g ∧ g ≤ 9223372036854775807) (hs : -9223372036854775808 ≤ s ∧ s ≤ 9223372036854775807) (hz : -9223372036854775808 ≤ z ∧ z ≤ 9223372036854775807) :
    Calls Tryz.prog 72 #[.int .i64 g, .int .i64 s, .int .i64 z] w fun e w' => e = .returned (.string (headOf g s z)) ∧ Below w.heap.size w w' := by
  have e1 : (St2.bytesOf (St2.enc g)).size ≤ 10 := numText_size g
  have e2 : (St2.bytesOf (St2.enc s)).size ≤ 10 := numText_size s
  have e3 : (St2.bytesOf (St2.enc z)).size ≤ 10 := numText_size z
  go_enter Tryz.func72, Tryz.ntmps72
  go_wp2_with fail
  refine (St2.specPutNum_any g _ hg.1 hg.2).mono ?_
  rintro e w1 ⟨rfl, hb1⟩
  go_wp2_with fail
  refine (St2.specPutNum_any s _ hs.1 hs.2).mono ?_
  rintro e w2 ⟨rfl, hb2⟩
  go_wp2_with fail
  refine (St2.specPutNum_any z _ hz.1 hz.2).mono ?_
  rintro e w3 ⟨rfl, hb3⟩
  go_wp2_with fail
  refine (St1.specSeal_any _ _ (by simp only [ByteArray.size_append]; omega)).mono ?_
  rintro e w4 ⟨rfl, hb4⟩
  go_wp2
  go_ret
  exact ⟨rfl, ((hb1.trans (hb2.mono hb1.size)).trans (hb3.mono (Nat.le_trans hb1.size hb2.size))).trans (hb4.mono (Nat.le_trans hb1.size (Nat.le_trans hb2.size hb3.size)))⟩
end Go.Proofs.YtnpbmaajgiapmaaGreatDoor
