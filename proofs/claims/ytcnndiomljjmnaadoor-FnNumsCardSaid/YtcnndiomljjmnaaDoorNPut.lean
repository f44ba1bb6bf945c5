/- PutNum of the program and of the model: both answer the bytes 'enc' of the number, in new memory. -/
import Derived.Test.YtcnndiomljjmnaaDoorNNum
namespace Go.Proofs.YtcnndiomljjmnaaDoor.St2
open Go.RowKit

theorem Tryd.info5 : (Tryd.prog.info? 5).map (fun i => (i.zero, i.size, i.bytes)) = some (some (.int .u8 0), 1, 1) := by kernel_rfl

/-- What holds at the head of the loop: of the number's bytes the first are in the row, and those of u are left. -/
def Left (n : Int) (w0 w : World) (v : Value) (u : Int) (m : Nat) : Prop :=
  ∃ L, Own 5 w0.heap.size w0 w v L ∧ L.length + m ≤ 9 ∧ (∀ x ∈ L, 0 ≤ x ∧ x ≤ 255) ∧ enc n = L ++ encF (m + 1) u ∧ u < 128 ^ (m + 1)

theorem left_step {n : Int} {w0 w' : World} {v' : Value} {u : Int} {m : Nat} {L : List Int} (h0 : 128 ≤ u) (hown : Own 5 w0.heap.size w0 w' v' (L ++ [u % 128 + 128]))
    (hl : L.length + m ≤ 9) (hr : ∀ x ∈ L, 0 ≤ x ∧ x ≤ 255) (he : enc n = L ++ encF (m + 1) u) (hp : u < 128 ^ (m + 1)) : ∃ m', m = m' + 1 ∧ Left n w0 w' v' (u / 128) m' := by
  cases m with
  | zero => simp at hp; omega
  | succ m' =>
    refine ⟨m', rfl, L ++ [u % 128 + 128], hown, by simp; omega, ?_, ?_, ?_⟩
    · intro x hx
      simp at hx
      rcases hx with hx | rfl
      · exact hr x hx
      · omega
    · rw [he, encF_more _ _ h0]; simp
    · have e : (128 : Int) ^ (m' + 1 + 1) = 128 ^ (m' + 1) * 128 := Int.pow_succ ..
      rw [e] at hp
      exact Int.ediv_lt_of_lt_mul (by omega) hp

theorem left_end {n : Int} {w0 w' : World} {v' : Value} {u : Int} {m : Nat} {L : List Int} (hu : 0 ≤ u) (h0 : u < 128) (hown : Own 5 w0.heap.size w0 w' v' (L ++ [u]))
    (hr : ∀ x ∈ L, 0 ≤ x ∧ x ≤ 255) (he : enc n = L ++ encF (m + 1) u) :
    (convert 22 9 v').run Tryd.prog w' = .ok (.string (bytesOf (enc n))) w' ∧ Below w0.heap.size w0 w' := by
  rw [encF_last _ _ h0] at he
  rw [he]
  refine ⟨own_string hown ?_ (by simp) Tryd.underlying22 Tryd.underlying5 Tryd.underlying9, hown.2.1⟩
  intro x hx
  simp at hx
  rcases hx with hx | rfl
  · exact hr x hx
  · omega

set_option maxHeartbeats 1000000 in
theorem specPutNum_any (n : Int) (w : World) (h0 : -9223372036854775808 ≤ n) (h1 : n ≤ 9223372036854775807) :
    Calls Tryd.prog 6 #[.int .i64 n] w fun e w' => e = .returned (.string (bytesOf (enc n))) ∧ Below w.heap.size w w' := by
  have hb := fold_bd n h0 h1
  have HS : Hid (Left n w (w.alloc (.cells #[] 5)) (.slice (some ⟨w.heap.size, 0, none⟩) 0 0) (fold n) 9) :=
    ⟨[], own_empty 5 w, by simp, by simp, rfl, by have : (128 : Int) ^ (9 + 1) = 1180591620717411303424 := by decide
                                                  omega⟩
  go_enter Tryd.func6, Tryd.ntmps6
  go_wp2_with fail
  refine (specFold_any _ _ h0 h1).mono ?_
  rintro e w' ⟨rfl, rfl⟩
  go_wp2_with fail
  go_loopw [3, 4] (fun x v wr => ∃ u : Int, 0 ≤ u ∧ u ≤ 18446744073709551615 ∧ x = .int .u64 u ∧ ∃ m, Hid (Left n w' wr v u m)) (fun x _ _ => (intOf x).toNat)
  case atStart => exact ⟨_, hb.1, hb.2, rfl, 9, HS⟩
  case round =>
    obtain ⟨u, hu0, hu1, rfl, m, HL⟩ := hrel
    obtain ⟨L, hown, hl, hr, he, hp⟩ := HL.out
    have HR := hide hr
    have HE := hide he
    have HP := hide hp
    clear hr he hp HL
    by_cases hlt : 128 ≤ u
    · go_wp2_with (at_builtin; refine wpList_push rfl (.tmp 10) (.tmp 15) 22 rfl w'.heap.size 5 Tryd.underlying22 Tryd.info5 _ L _ rfl rfl hown (by omega) ?_)
      intro v2 w2 hown2
      obtain ⟨m', em, hL2⟩ := left_step hlt hown2 hl HR.out HE.out HP.out
      have HL2 := hide hL2
      clear hL2 em hown hown2 HE HP HR hl
      go_wp2
      go_roundw
      case rel => exact ⟨u / 128, by omega, by omega, rfl, m', HL2⟩
      case measure => simp [intOf]; omega
    · have hlt' : u < 128 := by omega
      go_wp2_with (at_builtin; refine wpList_push rfl (.tmp 19) (.tmp 22) 22 rfl w'.heap.size 5 Tryd.underlying22 Tryd.info5 _ L _ rfl rfl hown (by omega) ?_)
      intro v2 w2 hown2
      obtain ⟨hcv, hbl⟩ := left_end hu0 hlt' hown2 HR.out HE.out
      clear hown hown2 HE HP HR hl
      go_wp2
      go_ret
      exact ⟨rfl, hbl⟩

set_option maxHeartbeats 1000000 in
theorem implPutNum_any (n : Int) (w : World) (h0 : -9223372036854775808 ≤ n) (h1 : n ≤ 9223372036854775807) :
    Calls Tryd.prog 5 #[.int .i64 n] w fun e w' => e = .returned (.string (bytesOf (enc n))) ∧ Below w.heap.size w w' := by
  have hb := fold_bd n h0 h1
  have HS : Hid (Left n w w (.slice none 0 0) (fold n) 9) :=
    ⟨[], own_nil 5 w, by simp, by simp, rfl, by have : (128 : Int) ^ (9 + 1) = 1180591620717411303424 := by decide
                                                omega⟩
  go_enter Tryd.func5, Tryd.ntmps5
  go_wp2_with fail
  refine (implFold_any _ _ h0 h1).mono ?_
  rintro e w' ⟨rfl, rfl⟩
  go_wp2_with fail
  go_loopw [4, 3] (fun x v wr => ∃ u : Int, 0 ≤ u ∧ u ≤ 18446744073709551615 ∧ x = .int .u64 u ∧ ∃ m, Hid (Left n w' wr v u m)) (fun x _ _ => (intOf x).toNat)
  case atStart => exact ⟨_, hb.1, hb.2, rfl, 9, HS⟩
  case round =>
    obtain ⟨u, hu0, hu1, rfl, m, HL⟩ := hrel
    obtain ⟨L, hown, hl, hr, he, hp⟩ := HL.out
    have HR := hide hr
    have HE := hide he
    have HP := hide hp
    clear hr he hp HL
    have ha := and127 u hu0 hu1
    have hx := or128 (u % 128) (by omega) (by omega)
    by_cases hlt : 128 ≤ u
    · go_wp2_with (at_builtin; refine wpList_push rfl (.tmp 9) (.tmp 14) 22 rfl w'.heap.size 5 Tryd.underlying22 Tryd.info5 _ L _ rfl rfl hown (by omega) ?_)
      intro v2 w2 hown2
      obtain ⟨m', em, hL2⟩ := left_step hlt hown2 hl HR.out HE.out HP.out
      have HL2 := hide hL2
      clear hL2 em hown hown2 HE HP HR hl
      go_wp2
      go_roundw
      case rel => exact ⟨u / 128, by omega, by omega, rfl, m', HL2⟩
      case measure => simp [intOf]; omega
    · have hlt' : u < 128 := by omega
      go_wp2_with (at_builtin; refine wpList_push rfl (.tmp 18) (.tmp 21) 22 rfl w'.heap.size 5 Tryd.underlying22 Tryd.info5 _ L _ rfl rfl hown (by omega) ?_)
      intro v2 w2 hown2
      obtain ⟨hcv, hbl⟩ := left_end hu0 hlt' hown2 HR.out HE.out
      clear hown hown2 HE HP HR hl
      go_wp2
      go_ret
      exact ⟨rfl, hbl⟩
end Go.Proofs.YtcnndiomljjmnaaDoor.St2
