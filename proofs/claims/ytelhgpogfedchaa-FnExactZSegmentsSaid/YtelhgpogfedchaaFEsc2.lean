/- EscapeOf of the program and of the model. -/
import Derived.Test.YtelhgpogfedchaaFEsc
namespace Go.Proofs.Ytelhgpogfedchaa
open Go.RowKit

theorem bufEmpty (e : TypeId) (w : World) : Buf e w.heap.size w (w.alloc (.cells #[] e)) (.slice (some ⟨w.heap.size, 0, none⟩) 0 0) [] :=
  ⟨World.ownsRow_made w #[] 0 (Nat.le_refl _) (by unfold maxLen; omega) rfl, (Below.refl _ _).alloc (Nat.le_refl _) _, Nat.le_refl _, (Lib.OthersKept.refl _ _ _).alloc _⟩

set_option maxHeartbeats 4000000 in
set_option maxRecDepth 100000 in
theorem l04Escape_any (m s : ByteArray) (w : World) (hm : m.size = 5) (hs : s.size ≤ 20000000) :
    Calls Try.prog 39 #[.string m, .string s] w fun e w' => e = .returned (.string ⟨(escL m s.data.toList).toArray⟩) ∧ Below w.heap.size w w' := by
  go_enter Try.func39, Try.ntmps39
  go_wp2
  go_loopw [5, 6] (fun v' i w' => ∃ (X : World) (k : Nat), X = w' ∧ k ≤ s.size ∧ i = .int .i64 k ∧ Buf 5 w.heap.size w w' v' (escL m (s.data.toList.take k))) (fun _ i _ => s.size - (intOf i).toNat)
  case atStart =>
    exact ⟨_, 0, rfl, Nat.zero_le _, rfl, by
      simp only [List.take_zero, escL, List.flatMap_nil]
      exact bufEmpty _ _⟩
  case round =>
    obtain ⟨X, k, rfl, hk, rfl, hbuf⟩ := hrel
    have HBf := hideF hbuf
    clear hbuf
    by_cases hlt : k < s.size
    · go_wp2_with fail
      refine (l04At_any m (s[k]'hlt) _ (by unfold maxLen; omega)).mono ?_
      rintro e w' ⟨rfl, rfl⟩
      have hl := escL_len m (s.data.toList.take k)
      rw [List.length_take, bytes_len] at hl
      by_cases hneg : Lib.indexByte m.data.toList (s[k]'hlt) < 0
      · have hneg2 : ¬ 0 ≤ Lib.indexByte m.data.toList (s[k]'hlt) := by omega
        have hesc : escOne m (s[k]'hlt) = [s[k]'hlt] := by unfold escOne; rw [if_neg (by omega)]
        have HE := hideF hesc
        clear hesc
        have HB3 := hideF (HBf.out.alloc (.cells #[.int .u8 ((s[k]'hlt).toNat : Int)] 5))
        have HC := hideF (heap_alloc_new w' (.cells #[.int .u8 ((s[k]'hlt).toNat : Int)] 5))
        have hl2 : (escL m (s.data.toList.take k)).length + [s[k]'hlt].length ≤ 100000000 := by simp only [List.length_cons, List.length_nil]; omega
        have HL2 := hideF hl2
        clear hl hl2
        go_wp2_with (at_builtin; refine wpList_buf rfl (.tmp 32) (.tmp 36) 59 rfl w.heap.size 5 Try.underlying59 Try.infoByte _ _ rfl HB3.out w'.heap.size 1 [s[k]'hlt] rfl rfl ⟨_, HC.out⟩ HL2.out ?_)
        intro v2 w2 hb2
        have HB4 := hideF hb2
        clear hb2
        go_wp2
        go_roundw
        case rel =>
          refine ⟨_, k + 1, rfl, by omega, by go_num, ?_⟩
          rw [take_snoc s k hlt, escL_snoc, HE.out]
          exact HB4.out
        case measure => simp [intOf]; omega
      · obtain ⟨q, hq⟩ : ∃ q : Nat, Lib.indexByte m.data.toList (s[k]'hlt) = q := ⟨_, (Int.toNat_of_nonneg (by omega)).symm⟩
        have hq5 : q < 5 := by have := indexByte_lt m.data.toList (s[k]'hlt); rw [bytes_len] at this; omega
        have hesc : escOne m (s[k]'hlt) = [bAt m 3, letters.getD q 0, bAt m 3] := by unfold escOne; rw [if_pos (by omega), hq]; rfl
        have HE := hideF hesc
        clear hesc
        rw [hq]
        clear hq hneg
        have h3 := bAt_get m 3 (by omega)
        have hlq := letter_get q hq5
        have hl2 : (escL m (s.data.toList.take k)).length + [bAt m 3, letters.getD q 0, bAt m 3].length ≤ 100000000 := by simp only [List.length_cons, List.length_nil]; omega
        have HL2 := hideF hl2
        clear hl hl2
        rw [h3, hlq.symm] at HE
        rw [h3, hlq.symm] at HL2
        clear h3 hlq
        have h3m : 3 < m.size := by omega
        have hq5i : (q : Int) < 5 := by omega
        go_wp2_with fail
        go_region_held3 (fun _ => True) (trivial)
          ((first
            | (go_at_call 52; refine (l04Letters_any _).mono ?_; rintro e w3 ⟨rfl, rfl⟩)
            | (refine step_buf (w0 := w) ?_ (.tmp 22) (.tmp 30) 59 ?_ w.heap.size 5 Try.underlying59 Try.infoByte u5 (escL m (s.data.toList.take k)) ?_ ?_ w'.heap.size 3 [m[3]'h3m, (⟨#[70, 83, 82, 69, 84]⟩ : ByteArray)[q]'(show q < 5 from hq5), m[3]'h3m] ?_ ?_ ?_ ?_ ?_; rfl; rfl; rfl; (repeat (first | with_reducible exact HBf.out | with_reducible refine Buf.drew ?_ | with_reducible refine Buf.alloc ?_ _)); rfl; rfl; exact ⟨_, alloc_drew_new _ _⟩; exact HL2.out; intro v2 w2 hb2; have HB5 := hideF hb2; clear hb2)))
        all_goals
          go_wp2
          go_roundw
          case rel =>
            refine ⟨_, k + 1, rfl, by omega, by go_num, ?_⟩
            rw [take_snoc s k hlt, escL_snoc, HE.out]
            exact HB5.out
          case measure => simp [intOf]; omega
    · have e1 : k = s.size := by omega
      subst e1
      have e2 : s.data.toList.take s.size = s.data.toList := List.take_of_length_le (by simp)
      rw [e2] at HBf
      have hcv := HBf.out.text (P := Try.prog) Try.underlying59 Try.underlying5 Try.underlying9
      go_wp2
      go_ret
      exact ⟨rfl, HBf.out.below⟩

def escB (m t : ByteArray) : ByteArray := if marksB m && (plainB t && decide (t.size ≤ 400)) then ⟨(escL m t.data.toList).toArray⟩ else ⟨#[]⟩
theorem escB_yes {m t : ByteArray} (h1 : marksB m = true) (h2 : plainB t = true) (h3 : t.size ≤ 400) : escB m t = ⟨(escL m t.data.toList).toArray⟩ := by simp [escB, h1, h2, h3]
theorem escB_marks {m t : ByteArray} (h1 : marksB m = false) : escB m t = ⟨#[]⟩ := by simp [escB, h1]
theorem escB_plain {m t : ByteArray} (h1 : plainB t = false) : escB m t = ⟨#[]⟩ := by simp [escB, h1]
theorem escB_long {m t : ByteArray} (h1 : 400 < t.size) : escB m t = ⟨#[]⟩ := by
  have : ¬ t.size ≤ 400 := by omega
  simp [escB, this]
theorem marksB_five {m : ByteArray} (h : marksB m = true) : m.size = 5 := by
  simp [marksB] at h
  exact h.1
theorem ret_str {a b : ByteArray} (h : a = b) : Ending.returned (.string a) = .returned (.string b) := by rw [h]

end Go.Proofs.Ytelhgpogfedchaa
