/- The look for a Segment: of the model and of the program; an item of a list. -/
import Derived.Test.YtnkddbkfbhpinaaPSegM
import Derived.BigQuiet
import Derived.OrdersHeld
namespace Go.Proofs.Ytnkddbkfbhpinaa
open Go.RowKit

theorem toList_eqF {s t : ByteArray} (h : s = t) : (s.toList == t.toList) = true := by rw [h]; simp

set_option maxHeartbeats 2000000 in
theorem l05Seg_any (m : ByteArray) (u : Value) (x : List Seg) (g : ByteArray) (n : Int) (B : Nat) (w : World) (hn1 : 1 ≤ n) (hn2 : n ≤ 20) (hx : x.length ≤ 1048576) (hr : RSegs B w u x) :
    Calls Try.prog 31 #[.agg #[.string m, u], .string g, .int .i64 n] w fun e w' => e = .returned (.int .i64 (segIx x g n 0)) ∧ Below w.heap.size w w' := by
  obtain ⟨p, cap, rfl, h1, h2, h4⟩ := hr
  have H4 := hide h4
  clear h4 h1 h2
  obtain ⟨R, hR⟩ : ∃ R, R = segIx x g n 0 := ⟨_, rfl⟩
  rw [← hR]
  have HR := hide hR
  clear hR
  obtain ⟨W, hW⟩ : ∃ W, W = w.alloc (.cells #[.string m, .slice p x.length cap] 32) := ⟨_, rfl⟩
  have hb0 : Below w.heap.size w W := by rw [hW]; exact (Below.refl _ _).alloc (Nat.le_refl _) _
  have HB0 := hide hb0
  have RW : Row W w.heap.size 32 [.string m, .slice p x.length cap] := by rw [hW]; exact row_new w [.string m, .slice p x.length cap] 32
  have c1 : W.cell? ⟨w.heap.size, 1, none⟩ = some (.slice p x.length cap) := RW.cell 1
  clear RW hb0
  go_enter Try.func31, Try.ntmps31
  go_wp2_with fail
  rw [← hW]
  clear hW
  go_loop [2, 7] (fun a i => ∃ (k : Nat) (n' : Int), k ≤ x.length ∧ i = .int .i64 k ∧ a = .int .i64 n' ∧ 1 ≤ n' ∧ n' ≤ 20 ∧ Hid (R = segIx (x.drop k) g n' k)) (fun a i => x.length - (intOf i).toNat)
  case atStart => exact ⟨0, n, Nat.zero_le _, rfl, rfl, hn1, hn2, by simpa using HR⟩
  case round =>
    obtain ⟨k, n', hk, rfl, rfl, hl, hh, HS⟩ := hrel
    by_cases hlt : k < x.length
    · obtain ⟨gg, off, hp, hg, _, hc⟩ := H4.out (by omega)
      subst hp
      obtain ⟨hu, _, _⟩ := hc k hlt
      have hck : W.cell? ⟨gg, off + k * 2, none⟩ = some (.string (x[k]'hlt).1) := by rw [HB0.out.cell (p := ⟨gg, off + k * 2, none⟩) hg]; exact hu
      clear hu hc
      by_cases he : (x[k]'hlt).1 = g
      · by_cases hz : n' - 1 = 0
        · have HN := hide (show R = (k : Int) by rw [HS.out]; exact segIx_it hlt n' he hz)
          have hz' : IntKind.i64.wrap (n' - 1) = 0 := by rw [hz]; rfl
          rw [he] at hck
          clear he hz
          go_wp2
          go_ret
          exact ⟨ret_intF HN.out.symm, HB0.out⟩
        · have HN := hide (show R = segIx (x.drop (k + 1)) g (n' - 1) (k + 1) by rw [HS.out]; exact segIx_on hlt n' he hz)
          have hz' : IntKind.i64.wrap (n' - 1) = n' - 1 := wrap_small _ (by omega) (by omega)
          have hz2 : ((n' - 1) == (0 : Int)) = false := by simpa using hz
          rw [he] at hck
          clear he
          go_wp2
          go_round
          case rel => exact ⟨k + 1, n' - 1, by omega, by go_num, rfl, by omega, by omega, HN⟩
          case measure => simp [intOf]; omega
      · have HN := hide (show R = segIx (x.drop (k + 1)) g n' (k + 1) by rw [HS.out]; exact segIx_no hlt n' he)
        have he2 := toList_neF he
        have he3 : ((x[k]'hlt).1.toList == g.toList) = false := by simpa using he2
        generalize (x[k]'hlt).1 = nm at *
        clear he he2
        go_wp2
        go_round
        case rel => exact ⟨k + 1, n', by omega, by go_num, rfl, hl, hh, HN⟩
        case measure => simp [intOf]; omega
    · have HN := hide (show R = -1 by rw [HS.out]; exact segIx_end (by omega) _ _)
      go_wp2
      go_ret
      exact ⟨ret_intF HN.out.symm, HB0.out⟩

set_option maxHeartbeats 1000000 in
theorem itemAtField_any (v : Value) (xs : List (List (List (List ByteArray)))) (a : Int) (w : World) (hr : RL 0 (RFld 0) w v xs) :
    Calls Try.prog 41 #[v, .int .i64 a] w fun e w' => ∃ p c, e = .returned (.agg #[.slice p (itemL xs a).length c]) ∧ (RFld 0) w (.slice p (itemL xs a).length c) (itemL xs a) ∧ Below w.heap.size w w' := by
  obtain ⟨p, cap, rfl, h1, h2, h4⟩ := hr
  have H4 := hide h4
  clear h4
  unfold maxLen at h2
  have hA : Below w.heap.size w (w.alloc (.cells #[.slice none 0 0] 44)) := (Below.refl _ _).alloc (Nat.le_refl _) _
  by_cases hin : 0 ≤ a ∧ a < xs.length
  · obtain ⟨k, rfl⟩ := Int.eq_ofNat_of_zero_le hin.1
    have hk : k < xs.length := by omega
    rw [itemL_yes hk]
    obtain ⟨g, off, hp, hg, _, hc⟩ := H4.out (by omega)
    subst hp
    obtain ⟨u, hu, hru⟩ := hc k hk
    obtain ⟨up, uc, rfl⟩ := RL.isSlice hru
    have HRU := hide hru
    have hne : g ≠ w.heap.size := by omega
    have hB : Hid (Below w.heap.size w (w.alloc (.cells #[.slice up (xs[k]'hk).length uc] 44))) := (Below.refl _ _).alloc (Nat.le_refl _) _
    have hi0 : ¬ ((k : Int) < 0) := by omega
    have hi1 : ¬ ((xs.length : Int) ≤ (k : Int)) := by omega
    clear hc hru hin hA
    go_enter Try.func41, Try.ntmps41
    go_wp2
    exact bodyPost_ret (v := .agg #[.slice up (xs[k]'hk).length uc]) (by simp [results, Try.results41, go_sem]) rfl ⟨up, uc, rfl, HRU.out, hB.out⟩
  · rw [itemL_no hin]
    have HZ : Hid ((RFld 0) w (.slice none ([] : List (List (List ByteArray))).length 0) []) := ⟨none, 0, rfl, Nat.le_refl _, Nat.zero_le _, fun h => absurd h (Nat.lt_irrefl 0)⟩
    have HB := hide (hA.alloc (by simp) (.cells #[.slice none 0 0] 44))
    clear hA
    by_cases h0 : a < 0
    · clear hin
      go_enter Try.func41, Try.ntmps41
      go_wp2
      exact bodyPost_ret (v := .agg #[.slice none 0 0]) (by simp [results, Try.results41, go_sem]) rfl ⟨none, 0, rfl, HZ.out, HB.out⟩
    · have h3 : (xs.length : Int) ≤ a := by omega
      clear hin
      go_enter Try.func41, Try.ntmps41
      go_wp2
      exact bodyPost_ret (v := .agg #[.slice none 0 0]) (by simp [results, Try.results41, go_sem]) rfl ⟨none, 0, rfl, HZ.out, HB.out⟩

set_option maxHeartbeats 1000000 in
theorem itemAtRep_any (v : Value) (xs : List (List (List ByteArray))) (a : Int) (w : World) (hr : RL 0 (RRep 0) w v xs) :
    Calls Try.prog 19 #[v, .int .i64 a] w fun e w' => ∃ p c, e = .returned (.agg #[.slice p (itemL xs a).length c]) ∧ (RRep 0) w (.slice p (itemL xs a).length c) (itemL xs a) ∧ Below w.heap.size w w' := by
  obtain ⟨p, cap, rfl, h1, h2, h4⟩ := hr
  have H4 := hide h4
  clear h4
  unfold maxLen at h2
  have hA : Below w.heap.size w (w.alloc (.cells #[.slice none 0 0] 49)) := (Below.refl _ _).alloc (Nat.le_refl _) _
  by_cases hin : 0 ≤ a ∧ a < xs.length
  · obtain ⟨k, rfl⟩ := Int.eq_ofNat_of_zero_le hin.1
    have hk : k < xs.length := by omega
    rw [itemL_yes hk]
    obtain ⟨g, off, hp, hg, _, hc⟩ := H4.out (by omega)
    subst hp
    obtain ⟨u, hu, hru⟩ := hc k hk
    obtain ⟨up, uc, rfl⟩ := RL.isSlice hru
    have HRU := hide hru
    have hne : g ≠ w.heap.size := by omega
    have hB : Hid (Below w.heap.size w (w.alloc (.cells #[.slice up (xs[k]'hk).length uc] 49))) := (Below.refl _ _).alloc (Nat.le_refl _) _
    have hi0 : ¬ ((k : Int) < 0) := by omega
    have hi1 : ¬ ((xs.length : Int) ≤ (k : Int)) := by omega
    clear hc hru hin hA
    go_enter Try.func19, Try.ntmps19
    go_wp2
    exact bodyPost_ret (v := .agg #[.slice up (xs[k]'hk).length uc]) (by simp [results, Try.results19, go_sem]) rfl ⟨up, uc, rfl, HRU.out, hB.out⟩
  · rw [itemL_no hin]
    have HZ : Hid ((RRep 0) w (.slice none ([] : List (List ByteArray)).length 0) []) := ⟨none, 0, rfl, Nat.le_refl _, Nat.zero_le _, fun h => absurd h (Nat.lt_irrefl 0)⟩
    have HB := hide (hA.alloc (by simp) (.cells #[.slice none 0 0] 49))
    clear hA
    by_cases h0 : a < 0
    · clear hin
      go_enter Try.func19, Try.ntmps19
      go_wp2
      exact bodyPost_ret (v := .agg #[.slice none 0 0]) (by simp [results, Try.results19, go_sem]) rfl ⟨none, 0, rfl, HZ.out, HB.out⟩
    · have h3 : (xs.length : Int) ≤ a := by omega
      clear hin
      go_enter Try.func19, Try.ntmps19
      go_wp2
      exact bodyPost_ret (v := .agg #[.slice none 0 0]) (by simp [results, Try.results19, go_sem]) rfl ⟨none, 0, rfl, HZ.out, HB.out⟩

set_option maxHeartbeats 1000000 in
theorem itemAtComp_any (v : Value) (xs : List (List ByteArray)) (a : Int) (w : World) (hr : RL 0 (RComp 0) w v xs) :
    Calls Try.prog 21 #[v, .int .i64 a] w fun e w' => ∃ p c, e = .returned (.agg #[.slice p (itemL xs a).length c]) ∧ (RComp 0) w (.slice p (itemL xs a).length c) (itemL xs a) ∧ Below w.heap.size w w' := by
  obtain ⟨p, cap, rfl, h1, h2, h4⟩ := hr
  have H4 := hide h4
  clear h4
  unfold maxLen at h2
  have hA : Below w.heap.size w (w.alloc (.cells #[.slice none 0 0] 53)) := (Below.refl _ _).alloc (Nat.le_refl _) _
  by_cases hin : 0 ≤ a ∧ a < xs.length
  · obtain ⟨k, rfl⟩ := Int.eq_ofNat_of_zero_le hin.1
    have hk : k < xs.length := by omega
    rw [itemL_yes hk]
    obtain ⟨g, off, hp, hg, _, hc⟩ := H4.out (by omega)
    subst hp
    obtain ⟨u, hu, hru⟩ := hc k hk
    obtain ⟨up, uc, rfl⟩ := RL.isSlice hru
    have HRU := hide hru
    have hne : g ≠ w.heap.size := by omega
    have hB : Hid (Below w.heap.size w (w.alloc (.cells #[.slice up (xs[k]'hk).length uc] 53))) := (Below.refl _ _).alloc (Nat.le_refl _) _
    have hi0 : ¬ ((k : Int) < 0) := by omega
    have hi1 : ¬ ((xs.length : Int) ≤ (k : Int)) := by omega
    clear hc hru hin hA
    go_enter Try.func21, Try.ntmps21
    go_wp2
    exact bodyPost_ret (v := .agg #[.slice up (xs[k]'hk).length uc]) (by simp [results, Try.results21, go_sem]) rfl ⟨up, uc, rfl, HRU.out, hB.out⟩
  · rw [itemL_no hin]
    have HZ : Hid ((RComp 0) w (.slice none ([] : List ByteArray).length 0) []) := ⟨none, 0, rfl, Nat.le_refl _, Nat.zero_le _, fun h => absurd h (Nat.lt_irrefl 0)⟩
    have HB := hide (hA.alloc (by simp) (.cells #[.slice none 0 0] 53))
    clear hA
    by_cases h0 : a < 0
    · clear hin
      go_enter Try.func21, Try.ntmps21
      go_wp2
      exact bodyPost_ret (v := .agg #[.slice none 0 0]) (by simp [results, Try.results21, go_sem]) rfl ⟨none, 0, rfl, HZ.out, HB.out⟩
    · have h3 : (xs.length : Int) ≤ a := by omega
      clear hin
      go_enter Try.func21, Try.ntmps21
      go_wp2
      exact bodyPost_ret (v := .agg #[.slice none 0 0]) (by simp [results, Try.results21, go_sem]) rfl ⟨none, 0, rfl, HZ.out, HB.out⟩

set_option maxHeartbeats 1000000 in
theorem itemAtString_any (v : Value) (xs : List ByteArray) (a : Int) (w : World) (hr : RComp 0 w v xs) :
    Calls Try.prog 23 #[v, .int .i64 a] w fun e w' => e = .returned (.string (itemS xs a)) ∧ w' = w := by
  obtain ⟨p, cap, rfl, h1, h2, h4⟩ := hr
  have H4 := hide h4
  clear h4
  unfold maxLen at h2
  by_cases hin : 0 ≤ a ∧ a < xs.length
  · obtain ⟨k, rfl⟩ := Int.eq_ofNat_of_zero_le hin.1
    have hk : k < xs.length := by omega
    rw [itemS_yes hk]
    obtain ⟨g, off, hp, hg, _, hc⟩ := H4.out (by omega)
    subst hp
    obtain ⟨u, hu, rfl, _⟩ := hc k hk
    have hi0 : ¬ ((k : Int) < 0) := by omega
    have hi1 : ¬ ((xs.length : Int) ≤ (k : Int)) := by omega
    clear hc hin
    go_enter Try.func23, Try.ntmps23
    go_wp2
    go_ret
    exact ⟨rfl, rfl⟩
  · rw [itemS_no hin]
    by_cases h0 : a < 0
    · clear hin
      go_enter Try.func23, Try.ntmps23
      go_wp2
      go_ret
      exact ⟨rfl, rfl⟩
    · have h3 : (xs.length : Int) ≤ a := by omega
      clear hin
      go_enter Try.func23, Try.ntmps23
      go_wp2
      go_ret
      exact ⟨rfl, rfl⟩

set_option maxHeartbeats 1000000 in
theorem itemAtSegment_any (v : Value) (xs : List Seg) (a : Int) (w : World) (hr : RSegs 0 w v xs) :
    Calls Try.prog 39 #[v, .int .i64 a] w fun e w' => ∃ nm p c, e = .returned (.agg #[.string nm, .slice p (fldsAt xs a).length c]) ∧ RFlds 0 w (.slice p (fldsAt xs a).length c) (fldsAt xs a) ∧ Below w.heap.size w w' := by
  obtain ⟨p, cap, rfl, h1, h2, h4⟩ := hr
  have H4 := hide h4
  clear h4
  unfold maxLen at h2
  have hA : Below w.heap.size w (w.alloc (.cells #[.string ⟨#[]⟩, .slice none 0 0] 66)) := (Below.refl _ _).alloc (Nat.le_refl _) _
  by_cases hin : 0 ≤ a ∧ a < xs.length
  · obtain ⟨k, rfl⟩ := Int.eq_ofNat_of_zero_le hin.1
    have hk : k < xs.length := by omega
    rw [show fldsAt xs (k : Int) = (xs[k]'hk).2 by unfold fldsAt; rw [itemL_yes (by simpa using hk)]; simp]
    obtain ⟨g, off, hp, hg, _, hc⟩ := H4.out (by omega)
    subst hp
    obtain ⟨hn, _, u, hu, hru⟩ := hc k hk
    obtain ⟨up, uc, rfl⟩ := RL.isSlice hru
    have HRU := hide hru
    have hne : g ≠ w.heap.size := by omega
    have hB : Hid (Below w.heap.size w (w.alloc (.cells #[.string (xs[k]'hk).1, .slice up (xs[k]'hk).2.length uc] 66))) := (Below.refl _ _).alloc (Nat.le_refl _) _
    have hi0 : ¬ ((k : Int) < 0) := by omega
    have hi1 : ¬ ((xs.length : Int) ≤ (k : Int)) := by omega
    clear hc hru hin hA
    go_enter Try.func39, Try.ntmps39
    go_wp2
    exact bodyPost_ret (v := .agg #[.string (xs[k]'hk).1, .slice up (xs[k]'hk).2.length uc]) (by simp [results, Try.results39, go_sem]) rfl ⟨_, up, uc, rfl, HRU.out, hB.out⟩
  · rw [show fldsAt xs a = [] from itemL_no (by simpa using hin)]
    have HZ : Hid (RFlds 0 w (.slice none ([] : Flds).length 0) []) := ⟨none, 0, rfl, Nat.le_refl _, Nat.zero_le _, fun h => absurd h (Nat.lt_irrefl 0)⟩
    have HB := hide (hA.alloc (by simp) (.cells #[.string ⟨#[]⟩, .slice none 0 0] 66))
    clear hA
    by_cases h0 : a < 0
    · clear hin
      go_enter Try.func39, Try.ntmps39
      go_wp2
      exact bodyPost_ret (v := .agg #[.string ⟨#[]⟩, .slice none 0 0]) (by simp [results, Try.results39, go_sem]) rfl ⟨_, none, 0, rfl, HZ.out, HB.out⟩
    · have h3 : (xs.length : Int) ≤ a := by omega
      clear hin
      go_enter Try.func39, Try.ntmps39
      go_wp2
      exact bodyPost_ret (v := .agg #[.string ⟨#[]⟩, .slice none 0 0]) (by simp [results, Try.results39, go_sem]) rfl ⟨_, none, 0, rfl, HZ.out, HB.out⟩
end Go.Proofs.Ytnkddbkfbhpinaa
