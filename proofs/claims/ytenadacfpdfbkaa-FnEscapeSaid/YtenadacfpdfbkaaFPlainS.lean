/- The model's l04Unescape and PlainOf. -/
import Derived.Test.YtenadacfpdfbkaaFPlainM
import Derived.Test.YtenadacfpdfbkaaFEsc2
import Derived.BigQuiet
namespace Go.Proofs.Ytenadacfpdfbkaa
open Go.RowKit

theorem Buf.drewN {e B : Nat} {w0 w : World} {v : Value} {L : List UInt8} (h : Buf e B w0 w v L) (n : Nat) : Buf e B w0 (w.drewN n) v L :=
  ⟨h.own, ⟨h.below.os, h.below.tape, h.below.output, h.below.size, h.below.block⟩, h.le, h.kept⟩
theorem alloc_drewN_new (w : World) (n : Nat) (o : Obj) : ((w.drewN n).alloc o).heap[w.heap.size]? = some o := heap_alloc_new (w.drewN n) o

theorem drop_cons (s : ByteArray) (k : Nat) (h : k < s.size) : s.data.toList.drop k = s[k]'h :: s.data.toList.drop (k + 1) := by
  rw [List.drop_eq_getElem_cons (by simpa using h), data_get s k h]
theorem escAtS_yes {m s : ByteArray} {k : Nat} (h : k + 2 < s.size) (h1 : s[k]'(by omega) = bAt m 3) (q : Nat) (h2 : lidx (s[k+1]'(by omega)) = (q : Int)) : escAtS m (s.data.toList.drop k) = some (bAt m q) := by
  rw [drop_cons s k (by omega), drop_cons s (k + 1) (by omega), drop_cons s (k + 1 + 1) (by omega)]
  show (if _ then _ else _) = _
  rw [if_pos ⟨h1, by rw [h2]; omega⟩, h2]
  rfl
theorem escAtS_no1 {m s : ByteArray} {k : Nat} (h : k < s.size) (h1 : s[k]'h ≠ bAt m 3) : escAtS m (s.data.toList.drop k) = none := by
  rw [drop_cons s k h]
  unfold escAtS
  split
  · rename_i a b d r e3
    simp only [List.cons.injEq] at e3
    rw [if_neg (fun hh => h1 (by rw [e3.1]; exact hh.1))]
  · rfl
theorem escAtS_no2 {m s : ByteArray} {k : Nat} (h : ¬ k + 2 < s.size) : escAtS m (s.data.toList.drop k) = none := by
  unfold escAtS
  split
  · rename_i a b d r e3
    have := congrArg List.length e3
    simp at this
    omega
  · rfl
theorem escAtS_no3 {m s : ByteArray} {k : Nat} (h : k + 2 < s.size) (h2 : lidx (s[k+1]'(by omega)) < 0) : escAtS m (s.data.toList.drop k) = none := by
  rw [drop_cons s k (by omega), drop_cons s (k + 1) (by omega), drop_cons s (k + 1 + 1) (by omega)]
  show (if _ then _ else _) = _
  rw [if_neg (fun hh => by omega)]
theorem unesc_len (m : ByteArray) : ∀ (n : Nat) (l : List UInt8), l.length ≤ n → (unescL m l).length ≤ l.length
  | _, [], _ => by simp [unescL_nil]
  | 0, _ :: _, h => by simp at h
  | n + 1, a :: r, h => by
    cases he : escAtS m (a :: r) with
    | some x =>
      rw [unescL_esc he]
      have := unesc_len m n (r.drop 2) (by simp at h ⊢; omega)
      simp at this ⊢
      omega
    | none =>
      rw [unescL_self he]
      have := unesc_len m n r (by simp at h; omega)
      simp
      omega
theorem l04AtL_any (c : UInt8) (w : World) :
    Calls Try.prog 30 #[.string ⟨#[70, 83, 82, 69, 84]⟩, .int .u8 (c.toNat : Int)] w fun e w' => e = .returned (.int .i64 (lidx c)) ∧ w' = w :=
  l04At_any ⟨#[70, 83, 82, 69, 84]⟩ c w (by show 5 ≤ maxLen; unfold maxLen; omega)
theorem letters_data : (⟨#[70, 83, 82, 69, 84]⟩ : ByteArray).data.toList = letters := rfl

set_option maxHeartbeats 4000000 in
set_option maxRecDepth 100000 in
theorem l04Unescape_any (m s : ByteArray) (w : World) (hm : m.size = 5) (hs : s.size ≤ 20000000) :
    Calls Try.prog 26 #[.string m, .string s] w fun e w' => e = .returned (.string ⟨(unescL m s.data.toList).toArray⟩) ∧ Below w.heap.size w w' := by
  have h3m : 3 < m.size := by omega
  have H3 := hideF (bAt_get m 3 h3m)
  go_enter Try.func26, Try.ntmps26
  go_wp2
  go_loopw [5, 6] (fun v' i w' => ∃ (X : World) (k : Nat) (A : List UInt8), X = w' ∧ k ≤ s.size ∧ i = .int .i64 k ∧ Buf 5 w.heap.size w w' v' A ∧ A.length ≤ k ∧ A ++ unescL m (s.data.toList.drop k) = unescL m s.data.toList) (fun _ i _ => s.size - (intOf i).toNat)
  case atStart =>
    exact ⟨_, 0, [], rfl, Nat.zero_le _, rfl, bufEmpty _ _, by simp, by simp⟩
  case round =>
    obtain ⟨X, k, A, rfl, hk, rfl, hbuf, hA, hun⟩ := hrel
    have HBf := hideF hbuf
    have HU := hideF hun
    clear hbuf hun
    by_cases hlt : k < s.size
    · have hw2 : IntKind.i64.wrap ((k : Int) + 2) = (k : Int) + 2 := wrap_small _ (by omega) (by omega)
      have hw1 : IntKind.i64.wrap ((k : Int) + 1) = (k : Int) + 1 := wrap_small _ (by omega) (by omega)
      have stay : escAtS m (s.data.toList.drop k) = none → A ++ [s[k]'hlt] ++ unescL m (s.data.toList.drop (k + 1)) = unescL m s.data.toList := by
        intro h
        rw [drop_cons s k hlt] at h
        rw [← HU.out, drop_cons s k hlt, unescL_self h]
        simp
      have HST := hideF stay
      clear stay
      have HL2 := hideF (show A.length + [s[k]'hlt].length ≤ 100000000 by simp only [List.length_cons, List.length_nil]; omega)
      cases heq : ((s[k]'hlt).toNat : Int) == ((m[3]'h3m).toNat : Int)
      · have HN := hideF (HST.out (escAtS_no1 hlt (by rw [H3.out]; exact u8_ne heq)))
        go_wp2_with fail
        go_quiet (fail)
        go_wp2_with (at_builtin; refine wpList_buf (w0 := w) rfl (.tmp 49) (.tmp 53) 22 rfl w.heap.size 5 Try.underlying22 Try.infoByte u5 A rfl (by (repeat (first | with_reducible exact HBf.out | with_reducible refine Buf.drewN ?_ _ | with_reducible refine Buf.drew ?_ | with_reducible refine Buf.alloc ?_ _))) X.heap.size 1 [s[k]'hlt] rfl rfl (by first | exact ⟨_, heap_alloc_new _ _⟩ | exact ⟨_, alloc_drew_new _ _⟩) HL2.out ?_)
        intro v2 w2 hb2
        have HB4 := hideF hb2
        clear hb2
        go_wp2
        go_roundw
        case rel => exact ⟨_, k + 1, A ++ [s[k]'hlt], rfl, by omega, by go_num, HB4.out, by simp; omega, HN.out⟩
        case measure => simp [intOf]; omega
      · have HQ := hideF (u8_eq heq)
        by_cases h2 : (k : Int) + 2 < (s.size : Int)
        · have hd2 : decide ((k : Int) + 2 < (s.size : Int)) = true := by simpa using h2
          have b1 : (k : Int) + 1 < (s.size : Int) := by omega
          have b0 : (0 : Int) ≤ (k : Int) + 1 := by omega
          have b2 : ((k : Int) + 1).toNat = k + 1 := by omega
          have b3 : k + 1 < s.size := by omega
          by_cases h3 : 0 ≤ lidx (s[k+1]'b3)
          · obtain ⟨q, hq⟩ : ∃ q : Nat, lidx (s[k+1]'b3) = q := ⟨_, (Int.toNat_of_nonneg h3).symm⟩
            have hq5 : q < m.size := by have := lidx_lt (s[k+1]'b3); omega
            have hq5i : (q : Int) < 5 := by omega
            have HX : Hid (escAtS m (s.data.toList.drop k) = some (m[q]'hq5)) := by
              have := escAtS_yes (m := m) (s := s) (k := k) (by omega) (by rw [H3.out]; exact HQ.out) q hq
              rw [bAt_get m q hq5] at this
              exact this
            have HY := hideF (show A ++ [m[q]'hq5] ++ unescL m (s.data.toList.drop (k + 3)) = unescL m s.data.toList by
              have := HX.out
              rw [drop_cons s k hlt] at this
              rw [← HU.out, drop_cons s k hlt, unescL_esc this]
              simp [List.drop_drop])
            have HL3 := hideF (show A.length + [m[q]'hq5].length ≤ 100000000 by simp only [List.length_cons, List.length_nil]; omega)
            clear h3
            have hw3 : IntKind.i64.wrap ((k : Int) + 2 + 1) = (k : Int) + 2 + 1 := wrap_small _ (by omega) (by omega)
            go_wp2_with fail
            go_quiet ((first | (go_at_call 36; exact Calls.quiet_of_same (l04Letters_any _)) | (go_at_call 30; exact Calls.quiet_of_same (l04AtL_any (s[k+1]'b3) _))))
            rw [hq]
            go_wp2_with fail
            go_region_held3 (fun _ => True) (trivial)
              ((first
                | (go_at_call 36; refine (l04Letters_any _).mono ?_; rintro e w3 ⟨rfl, rfl⟩)
                | (go_at_call 30; refine (l04AtL_any (s[k+1]'b3) _).mono ?_; rintro e w3 ⟨rfl, rfl⟩; rw [hq])
                | (refine step_buf (w0 := w) ?_ (.tmp 36) (.tmp 45) 22 ?_ w.heap.size 5 Try.underlying22 Try.infoByte u5 A ?_ ?_ X.heap.size 1 [m[q]'hq5] ?_ ?_ ?_ ?_ ?_; rfl; rfl; rfl; (repeat (first | with_reducible exact HBf.out | with_reducible refine Buf.drewN ?_ _ | with_reducible refine Buf.drew ?_ | with_reducible refine Buf.alloc ?_ _)); rfl; rfl; exact ⟨_, alloc_drew_new _ _⟩; exact HL3.out; intro v2 w2 hb2; have HB5 := hideF hb2; clear hb2)))
            all_goals
              go_wp2
              go_roundw
              case rel => exact ⟨_, k + 3, A ++ [m[q]'hq5], rfl, by omega, by go_num, HB5.out, by simp; omega, HY.out⟩
              case measure => simp [intOf]; omega
          · have HN := hideF (HST.out (escAtS_no3 (by omega) (by omega)))
            go_wp2_with fail
            go_quiet ((first | (go_at_call 36; exact Calls.quiet_of_same (l04Letters_any _)) | (go_at_call 30; exact Calls.quiet_of_same (l04AtL_any (s[k+1]'b3) _))))
            go_wp2_with (at_builtin; refine wpList_buf (w0 := w) rfl (.tmp 49) (.tmp 53) 22 rfl w.heap.size 5 Try.underlying22 Try.infoByte u5 A rfl (by (repeat (first | with_reducible exact HBf.out | with_reducible refine Buf.drewN ?_ _ | with_reducible refine Buf.drew ?_ | with_reducible refine Buf.alloc ?_ _))) X.heap.size 1 [s[k]'hlt] rfl rfl (by first | exact ⟨_, heap_alloc_new _ _⟩ | exact ⟨_, alloc_drew_new _ _⟩) HL2.out ?_)
            intro v2 w2 hb2
            have HB4 := hideF hb2
            clear hb2
            go_wp2
            go_roundw
            case rel => exact ⟨_, k + 1, A ++ [s[k]'hlt], rfl, by omega, by go_num, HB4.out, by simp; omega, HN.out⟩
            case measure => simp [intOf]; omega
        · have hd2 : decide ((k : Int) + 2 < (s.size : Int)) = false := by simpa using h2
          have HN := hideF (HST.out (escAtS_no2 (by omega)))
          go_wp2_with fail
          go_quiet (fail)
          go_wp2_with (at_builtin; refine wpList_buf (w0 := w) rfl (.tmp 49) (.tmp 53) 22 rfl w.heap.size 5 Try.underlying22 Try.infoByte u5 A rfl (by (repeat (first | with_reducible exact HBf.out | with_reducible refine Buf.drewN ?_ _ | with_reducible refine Buf.drew ?_ | with_reducible refine Buf.alloc ?_ _))) X.heap.size 1 [s[k]'hlt] rfl rfl (by first | exact ⟨_, heap_alloc_new _ _⟩ | exact ⟨_, alloc_drew_new _ _⟩) HL2.out ?_)
          intro v2 w2 hb2
          have HB4 := hideF hb2
          clear hb2
          go_wp2
          go_roundw
          case rel => exact ⟨_, k + 1, A ++ [s[k]'hlt], rfl, by omega, by go_num, HB4.out, by simp; omega, HN.out⟩
          case measure => simp [intOf]; omega
    · have e1 : k = s.size := by omega
      subst e1
      have e2 : s.data.toList.drop s.size = [] := List.drop_eq_nil_of_le (by simp)
      rw [e2, unescL_nil, List.append_nil] at HU
      have hcv := HBf.out.text (P := Try.prog) Try.underlying22 Try.underlying5 Try.underlying9
      rw [HU.out] at hcv
      go_wp2
      go_ret
      exact ⟨rfl, HBf.out.below⟩
end Go.Proofs.Ytenadacfpdfbkaa
