/- The program's cutAt. -/
import Derived.Test.YtckcfjibiidafaaGreatXG7FSplit
import Derived.Test.YtckcfjibiidafaaGreatXG4FTextM
import Derived.Test.YtckcfjibiidafaaGreatXG6FReadM
import Derived.BigQuiet
namespace Go.Proofs.YtckcfjibiidafaaGreat
open Go.RowKit
theorem decode_fits (s : ByteArray) (i : Nat) (h : i < s.size) : i + (Utf8.decode s i).2 ≤ s.size := by
  rw [Lib.decode_at]
  unfold Lib.decodeN
  repeat' split
  all_goals simp_all
  all_goals omega
theorem get_bang (s : ByteArray) (i : Nat) (h : i < s.size) : s.get! i = s[i]'h := by
  obtain ⟨a⟩ := s
  have h' : i < a.size := h
  show a[i]! = a[i]
  exact getElem!_pos a i h'
theorem Cut.goN {s : UInt8} {L : List UInt8} {D : List (List UInt8)} {b k : Nat} (h : Cut s L D b k) : ∀ d : Nat, k + d ≤ L.length → (∀ j (hj : j < L.length), k ≤ j → j < k + d → L[j] ≠ s) → Cut s L D b (k + d)
  | 0, _, _ => h
  | d + 1, hl, hn => (h.goN d (by omega) (fun j hj h1 h2 => hn j hj h1 (by omega))).go (by omega) (hn (k + d) (by omega) (by omega) (by omega))
theorem viter_kept {B : Nat} {w w' : World} {v : Value} {L : List Value} (h : VBuf 9 B w w' v L) {k : Nat} {s : ByteArray} {pos : Nat} (hk : w.heap[k]? = some (.stringIter s pos)) : w'.heap[k]? = some (.stringIter s pos) :=
  h.kept k _ hk (by simp) (fun _ _ e1 => by simp at e1)
def piecesL (c : UInt8) (L : List UInt8) : List (List UInt8) := if L = [] then [] else cutL c L

set_option maxHeartbeats 4000000 in
set_option maxRecDepth 100000 in
theorem cutAt_any (t : ByteArray) (c : UInt8) (w : World) (ht : t.size ≤ 20000000) (hc : c.toNat < 128) :
    Calls Tryz.prog 46 #[.string t, .int .u8 (c.toNat : Int)] w fun e w' => ∃ v, e = .returned v ∧ w'.ownsRow w.heap.size 9 1 v (piecesL c t.data.toList).length ((piecesL c t.data.toList).map asStr) ∧ Below w.heap.size w w' := by
  by_cases h0 : t = ⟨#[]⟩
  · subst h0
    have HN := hide (World.ownsRow_nil w w.heap.size 9 1)
    go_enter Tryz.func46, Tryz.ntmps46
    go_wp2
    go_ret
    exact ⟨_, rfl, HN.out, Below.refl _ _⟩
  have hne0 := toList_neF h0
  have hne : (t.toList == []) = false := by simpa using hne0
  have hpl : piecesL c t.data.toList = cutL c t.data.toList := by
    unfold piecesL
    rw [if_neg]
    intro e
    exact h0 (by apply ByteArray.ext; apply Array.ext'; simpa using e)
  rw [hpl]
  clear hpl hne0 h0
  have hc0 : (c.toNat : Int) < 128 := by omega
  go_enter Tryz.func46, Tryz.ntmps46
  go_wp2
  go_loopw [5, 6] (fun u f wr => ∃ (X : World) (k b : Nat) (D : List (List UInt8)), X = wr ∧ k ≤ t.size ∧ b ≤ k ∧ D.length ≤ b ∧ f = .int .i64 b ∧ X.heap[w.heap.size]? = some (.stringIter t k) ∧ Hid (Cut c t.data.toList D b k) ∧ Hid (VBuf 9 w.heap.size w X u (D.map asStr))) (fun _ _ wr => t.size - wr.iterPos w.heap.size)
  case atStart => exact ⟨_, 0, 0, [], rfl, Nat.zero_le _, Nat.le_refl _, Nat.le_refl _, rfl, World.iter_heap w t 0, Cut.zero _ _, (VBuf.nil _ (Nat.le_refl _)).alloc _⟩
  case round =>
    obtain ⟨X, k, b, D, rfl, hk, hbk, hDb, rfl, hit, HC, HO⟩ := hrel
    by_cases hlt : k < t.size
    · have hll : k < t.data.toList.length := by simpa using hlt
      have HG := hide (data_get t k hlt)
      have hbi : (b : Int) ≤ (k : Int) := by omega
      have hkt : (k : Int) ≤ (t.size : Int) := by omega
      by_cases hlow : (t[k]'hlt).toNat < 128
      · have hnx : ∀ ty, (Instr.next (.pointer (some ⟨w.heap.size, 0, none⟩)) true ty).run Tryz.prog X = _ := fun ty => Lib.run_next_ascii_at X w.heap.size t k ty hit hlt hlow
        have hit2 := Lib.iterAt_heap X w.heap.size t k (k + 1) hit
        have HB2 := hide (HO.out.iterAt hit (Nat.le_refl _) (k + 1))
        by_cases he : t[k]'hlt = c
        · have HC2 := hide (HC.out.mark hll (by rw [HG.out]; exact he))
          have hei : ((t[k]'hlt).toNat : Int) = (c.toNat : Int) := by rw [he]
          have HEX := hide (extract_list t b k)
          clear he
          have HOA := hide ((VBuf.start HB2.out.own HB2.out.size).alloc (.cells #[.string (t.extract b k)] 9))
          have HNC := hide (heap_alloc_new (X.iterAt w.heap.size t (k + 1)) (.cells #[.string (t.extract b k)] 9))
          have HL3 := hide (show (D.map asStr).length + [Value.string (t.extract b k)].length ≤ 100000000 by simp only [List.length_map, List.length_cons, List.length_nil]; omega)
          go_wp2_with (at_builtin; refine wpList_vbuf [.string (t.extract b k)] (w0 := X.iterAt w.heap.size t (k + 1)) rfl (.tmp 21) (.tmp 26) 37 rfl w.heap.size 9 Tryz.underlying37 Tryz.infoStrF rfl (by simp [Value.oneCell']) (by decide) _ (D.map asStr) rfl HOA.out _ 1 rfl rfl ⟨_, HNC.out⟩ HL3.out ?_)
          intro v1 w1 hb1
          have hit3 := viter_kept hb1 hit2
          have HB3 : Hid (VBuf 9 w.heap.size w w1 v1 ((D ++ [(t.data.toList.drop b).take (k - b)]).map asStr)) := by
            rw [List.map_append, List.map_cons, List.map_nil, asStr, ← HEX.out]
            exact HB2.out.trans hb1
          clear hb1
          go_wp2
          go_roundw
          case rel => exact ⟨_, k + 1, k + 1, _, rfl, by omega, Nat.le_refl _, by rw [List.length_append]; simp only [List.length_cons, List.length_nil]; omega, by go_num, hit3, HC2, HB3⟩
          case measure => rw [iterPos_of hit3, iterPos_of hit]; omega
        · have HC2 := hide (HC.out.go hll (by rw [HG.out]; exact he))
          have hei : ¬ ((t[k]'hlt).toNat : Int) = (c.toNat : Int) := fun e => he (UInt8.toNat_inj.1 (by omega))
          go_wp2
          go_roundw
          case rel => exact ⟨_, k + 1, b, _, rfl, by omega, by omega, hDb, rfl, hit2, HC2, HB2⟩
          case measure => rw [iterPos_of hit2, iterPos_of hit]; omega
      · have hh := decode_high t k hlt (by omega)
        have hnx : ∀ ty, (Instr.next (.pointer (some ⟨w.heap.size, 0, none⟩)) true ty).run Tryz.prog X = _ := fun ty => Lib.run_next_any_at X w.heap.size t k ty hit hlt
        have hfit := decode_fits t k hlt
        have HRUN := hide (fun j h1 h2 => decode_run t k j (by rw [get_bang t k hlt]; omega) h1 h2)
        obtain ⟨dw, hdw⟩ : ∃ dw, (Utf8.decode t k).2 = dw := ⟨_, rfl⟩
        rw [hdw] at hnx hh hfit HRUN
        have hit2 := Lib.iterAt_heap X w.heap.size t k (k + dw) hit
        have HB2 := hide (HO.out.iterAt hit (Nat.le_refl _) (k + dw))
        have HC2 := hide (HC.out.goN dw (by simpa using hfit) (fun j hj h1 h2 e => by
          have hj' : j < t.size := by simpa using hj
          have h3 := HRUN.out j h1 h2
          rw [get_bang t j hj', ← data_get t j hj', e] at h3
          omega))
        have hei : ¬ (((Utf8.decode t k).1 : Nat) : Int) = (c.toNat : Int) := by omega
        go_wp2
        go_roundw
        case rel => exact ⟨_, k + dw, b, _, rfl, hfit, by omega, hDb, rfl, hit2, HC2, HB2⟩
        case measure => rw [iterPos_of hit2, iterPos_of hit]; omega
    · have hnx : ∀ ty, (Instr.next (.pointer (some ⟨w.heap.size, 0, none⟩)) true ty).run Tryz.prog X = _ := fun ty => Lib.run_next_end_at X w.heap.size t k ty hit hlt
      have HE := hide (HC.out.end (by simp; omega))
      have hbt : (b : Int) ≤ (t.size : Int) := by omega
      have HEX := hide (extract_listE t b)
      have HOA := hide (HO.out.alloc (.cells #[.string (t.extract b t.size)] 9))
      have HNC := hide (heap_alloc_new X (.cells #[.string (t.extract b t.size)] 9))
      have HL3 := hide (show (D.map asStr).length + [Value.string (t.extract b t.size)].length ≤ 100000000 by simp only [List.length_map, List.length_cons, List.length_nil]; omega)
      go_wp2_with (at_builtin; refine wpList_vbuf [.string (t.extract b t.size)] (w0 := w) rfl (.tmp 30) (.tmp 34) 37 rfl w.heap.size 9 Tryz.underlying37 Tryz.infoStrF rfl (by simp [Value.oneCell']) (by decide) _ (D.map asStr) rfl HOA.out _ 1 rfl rfl ⟨_, HNC.out⟩ HL3.out ?_)
      intro v1 w1 hb1
      have HB3 : Hid (VBuf 9 w.heap.size w w1 v1 ((cutL c t.data.toList).map asStr)) := by
        rw [← HE.out, List.map_append, List.map_cons, List.map_nil, asStr, ← HEX.out]
        exact hb1
      have HO3 : Hid (w1.ownsRow w.heap.size 9 1 v1 (cutL c t.data.toList).length ((cutL c t.data.toList).map asStr)) := by
        have := HB3.out.own
        rw [List.length_map] at this
        exact this
      clear hb1
      go_wp2
      go_ret
      exact ⟨_, rfl, HO3.out, HB3.out.below⟩
end Go.Proofs.YtckcfjibiidafaaGreat
/- The model's l04Unescape and PlainOf. -/
namespace Go.Proofs.YtckcfjibiidafaaGreat
open Go.RowKit

theorem Buf.drewN {e B : Nat} {w0 w : World} {v : Value} {L : List UInt8} (h : Buf e B w0 w v L) (n : Nat) : Buf e B w0 (w.drewN n) v L :=
  ⟨h.own, ⟨h.below.os, h.below.tape, h.below.output, h.below.size, h.below.block⟩, h.le, h.kept⟩
theorem alloc_drewN_new (w : World) (n : Nat) (o : Obj) : ((w.drewN n).alloc o).heap[w.heap.size]? = some o := heap_alloc_new (w.drewN n) o

theorem drop_cons (s : ByteArray) (k : Nat) (h : k < s.size) : s.data.toList.drop k = s[k]'h :: s.data.toList.drop (k + 1) := by
  rw [List.drop_eq_getElem_cons (by simpa using h), data_get s k h]
theorem escAtS_yes {m s : ByteArray} {k : Nat} (h : k + 2 < s.size) (h1 : s[k]'(by omega) = bAt m 3) (q : Nat) (h2 : lidx (s[k+1]'(by omega)) = (q : Int)) : escAtS m (s.data.toList.drop k) = some (bAt m q) := by
  rw [drop_cons s k (by omega), drop_cons s (k + 1) (by omega), drop_cons s (k + 1 + 1) (by omega)]
  show (if _ then _ else _) = _
  rw [if_pos ⟨h1, by rw [h2]; omega⟩, h2]
  rfl
theorem escAtS_no1 {m s : ByteArray} {k : Nat} (h : k < s.size) (h1 : s[k]'h ≠ bAt m 3) : escAtS m (s.data.toList.drop k) = none := by
  rw [drop_cons s k h]
  unfold escAtS
  split
  · rename_i a b d r e3
    simp only [List.cons.injEq] at e3
    rw [if_neg (fun hh => h1 (by rw [e3.1]; exact hh.1))]
  · rfl
theorem escAtS_no2 {m s : ByteArray} {k : Nat} (h : ¬ k + 2 < s.size) : escAtS m (s.data.toList.drop k) = none := by
  unfold escAtS
  split
  · rename_i a b d r e3
    have := congrArg List.length e3
    simp at this
    omega
  · rfl
theorem escAtS_no3 {m s : ByteArray} {k : Nat} (h : k + 2 < s.size) (h2 : lidx (s[k+1]'(by omega)) < 0) : escAtS m (s.data.toList.drop k) = none := by
  rw [drop_cons s k (by omega), drop_cons s (k + 1) (by omega), drop_cons s (k + 1 + 1) (by omega)]
  show (if _ then _ else _) = _
  rw [if_neg (fun hh => by omega)]
theorem unesc_len (m : ByteArray) : ∀ (n : Nat) (l : List UInt8), l.length ≤ n → (unescL m l).length ≤ l.length
  | _, [], _ => by simp [unescL_nil]
  | 0, _ :: _, h => by simp at h
  | n + 1, a :: r, h => by
    cases he : escAtS m (a :: r) with
    | some x =>
      rw [unescL_esc he]
      have := unesc_len m n (r.drop 2) (by simp at h ⊢; omega)
      simp at this ⊢
      omega
    | none =>
      rw [unescL_self he]
      have := unesc_len m n r (by simp at h; omega)
      simp
      omega
theorem l04AtL_any (c : UInt8) (w : World) :
    Calls Tryz.prog 26 #[.string ⟨#[70, 83, 82, 69, 84]⟩, .int .u8 (c.toNat : Int)] w fun e w' => e = .returned (.int .i64 (lidx c)) ∧ w' = w :=
  l04At_any ⟨#[70, 83, 82, 69, 84]⟩ c w (by show 5 ≤ maxLen; unfold maxLen; omega)
theorem letters_data : (⟨#[70, 83, 82, 69, 84]⟩ : ByteArray).data.toList = letters := rfl

set_option maxHeartbeats 4000000 in
set_option maxRecDepth 100000 in
theorem l04Unescape_any (m s : ByteArray) (w : World) (hm : m.size = 5) (hs : s.size ≤ 20000000) :
    Calls Tryz.prog 40 #[.string m, .string s] w fun e w' => e = .returned (.string ⟨(unescL m s.data.toList).toArray⟩) ∧ Below w.heap.size w w' := by
  have h3m : 3 < m.size := by omega
  have H3 := hideF (bAt_get m 3 h3m)
  go_enter Tryz.func40, Tryz.ntmps40
  go_wp2
  go_loopw [5, 6] (fun v' i w' => ∃ (X : World) (k : Nat) (A : List UInt8), X = w' ∧ k ≤ s.size ∧ i = .int .i64 k ∧ Buf 5 w.heap.size w w' v' A ∧ A.length ≤ k ∧ A ++ unescL m (s.data.toList.drop k) = unescL m s.data.toList) (fun _ i _ => s.size - (intOf i).toNat)
  case atStart =>
    exact ⟨_, 0, [], rfl, Nat.zero_le _, rfl, bufEmpty _ _, by simp, by simp⟩
  case round =>
    obtain ⟨X, k, A, rfl, hk, rfl, hbuf, hA, hun⟩ := hrel
    have HBf := hideF hbuf
    have HU := hideF hun
    clear hbuf hun
    by_cases hlt : k < s.size
    · have hw2 : IntKind.i64.wrap ((k : Int) + 2) = (k : Int) + 2 := wrap_small _ (by omega) (by omega)
      have hw1 : IntKind.i64.wrap ((k : Int) + 1) = (k : Int) + 1 := wrap_small _ (by omega) (by omega)
      have stay : escAtS m (s.data.toList.drop k) = none → A ++ [s[k]'hlt] ++ unescL m (s.data.toList.drop (k + 1)) = unescL m s.data.toList := by
        intro h
        rw [drop_cons s k hlt] at h
        rw [← HU.out, drop_cons s k hlt, unescL_self h]
        simp
      have HST := hideF stay
      clear stay
      have HL2 := hideF (show A.length + [s[k]'hlt].length ≤ 100000000 by simp only [List.length_cons, List.length_nil]; omega)
      cases heq : ((s[k]'hlt).toNat : Int) == ((m[3]'h3m).toNat : Int)
      · have HN := hideF (HST.out (escAtS_no1 hlt (by rw [H3.out]; exact u8_ne heq)))
        go_wp2_with fail
        go_quiet (fail)
        go_wp2_with (at_builtin; refine wpList_buf (w0 := w) rfl (.tmp 49) (.tmp 53) 74 rfl w.heap.size 5 Tryz.underlying74 Tryz.infoByte u5 A rfl (by (repeat (first | with_reducible exact HBf.out | with_reducible refine Buf.drewN ?_ _ | with_reducible refine Buf.drew ?_ | with_reducible refine Buf.alloc ?_ _))) X.heap.size 1 [s[k]'hlt] rfl rfl (by first | exact ⟨_, heap_alloc_new _ _⟩ | exact ⟨_, alloc_drew_new _ _⟩) HL2.out ?_)
        intro v2 w2 hb2
        have HB4 := hideF hb2
        clear hb2
        go_wp2
        go_roundw
        case rel => exact ⟨_, k + 1, A ++ [s[k]'hlt], rfl, by omega, by go_num, HB4.out, by simp; omega, HN.out⟩
        case measure => simp [intOf]; omega
      · have HQ := hideF (u8_eq heq)
        by_cases h2 : (k : Int) + 2 < (s.size : Int)
        · have hd2 : decide ((k : Int) + 2 < (s.size : Int)) = true := by simpa using h2
          have b1 : (k : Int) + 1 < (s.size : Int) := by omega
          have b0 : (0 : Int) ≤ (k : Int) + 1 := by omega
          have b2 : ((k : Int) + 1).toNat = k + 1 := by omega
          have b3 : k + 1 < s.size := by omega
          by_cases h3 : 0 ≤ lidx (s[k+1]'b3)
          · obtain ⟨q, hq⟩ : ∃ q : Nat, lidx (s[k+1]'b3) = q := ⟨_, (Int.toNat_of_nonneg h3).symm⟩
            have hq5 : q < m.size := by have := lidx_lt (s[k+1]'b3); omega
            have hq5i : (q : Int) < 5 := by omega
            have HX : Hid (escAtS m (s.data.toList.drop k) = some (m[q]'hq5)) := by
              have := escAtS_yes (m := m) (s := s) (k := k) (by omega) (by rw [H3.out]; exact HQ.out) q hq
              rw [bAt_get m q hq5] at this
              exact this
            have HY := hideF (show A ++ [m[q]'hq5] ++ unescL m (s.data.toList.drop (k + 3)) = unescL m s.data.toList by
              have := HX.out
              rw [drop_cons s k hlt] at this
              rw [← HU.out, drop_cons s k hlt, unescL_esc this]
              simp [List.drop_drop])
            have HL3 := hideF (show A.length + [m[q]'hq5].length ≤ 100000000 by simp only [List.length_cons, List.length_nil]; omega)
            clear h3
            have hw3 : IntKind.i64.wrap ((k : Int) + 2 + 1) = (k : Int) + 2 + 1 := wrap_small _ (by omega) (by omega)
            go_wp2_with fail
            go_quiet ((first | (go_at_call 57; exact Calls.quiet_of_same (l04Letters_any _)) | (go_at_call 26; exact Calls.quiet_of_same (l04AtL_any (s[k+1]'b3) _))))
            rw [hq]
            go_wp2_with fail
            go_region_held3 (fun _ => True) (trivial)
              ((first
                | (go_at_call 57; refine (l04Letters_any _).mono ?_; rintro e w3 ⟨rfl, rfl⟩)
                | (go_at_call 26; refine (l04AtL_any (s[k+1]'b3) _).mono ?_; rintro e w3 ⟨rfl, rfl⟩; rw [hq])
                | (refine step_buf (w0 := w) ?_ (.tmp 36) (.tmp 45) 74 ?_ w.heap.size 5 Tryz.underlying74 Tryz.infoByte u5 A ?_ ?_ X.heap.size 1 [m[q]'hq5] ?_ ?_ ?_ ?_ ?_; rfl; rfl; rfl; (repeat (first | with_reducible exact HBf.out | with_reducible refine Buf.drewN ?_ _ | with_reducible refine Buf.drew ?_ | with_reducible refine Buf.alloc ?_ _)); rfl; rfl; exact ⟨_, alloc_drew_new _ _⟩; exact HL3.out; intro v2 w2 hb2; have HB5 := hideF hb2; clear hb2)))
            all_goals
              go_wp2
              go_roundw
              case rel => exact ⟨_, k + 3, A ++ [m[q]'hq5], rfl, by omega, by go_num, HB5.out, by simp; omega, HY.out⟩
              case measure => simp [intOf]; omega
          · have HN := hideF (HST.out (escAtS_no3 (by omega) (by omega)))
            go_wp2_with fail
            go_quiet ((first | (go_at_call 57; exact Calls.quiet_of_same (l04Letters_any _)) | (go_at_call 26; exact Calls.quiet_of_same (l04AtL_any (s[k+1]'b3) _))))
            go_wp2_with (at_builtin; refine wpList_buf (w0 := w) rfl (.tmp 49) (.tmp 53) 74 rfl w.heap.size 5 Tryz.underlying74 Tryz.infoByte u5 A rfl (by (repeat (first | with_reducible exact HBf.out | with_reducible refine Buf.drewN ?_ _ | with_reducible refine Buf.drew ?_ | with_reducible refine Buf.alloc ?_ _))) X.heap.size 1 [s[k]'hlt] rfl rfl (by first | exact ⟨_, heap_alloc_new _ _⟩ | exact ⟨_, alloc_drew_new _ _⟩) HL2.out ?_)
            intro v2 w2 hb2
            have HB4 := hideF hb2
            clear hb2
            go_wp2
            go_roundw
            case rel => exact ⟨_, k + 1, A ++ [s[k]'hlt], rfl, by omega, by go_num, HB4.out, by simp; omega, HN.out⟩
            case measure => simp [intOf]; omega
        · have hd2 : decide ((k : Int) + 2 < (s.size : Int)) = false := by simpa using h2
          have HN := hideF (HST.out (escAtS_no2 (by omega)))
          go_wp2_with fail
          go_quiet (fail)
          go_wp2_with (at_builtin; refine wpList_buf (w0 := w) rfl (.tmp 49) (.tmp 53) 74 rfl w.heap.size 5 Tryz.underlying74 Tryz.infoByte u5 A rfl (by (repeat (first | with_reducible exact HBf.out | with_reducible refine Buf.drewN ?_ _ | with_reducible refine Buf.drew ?_ | with_reducible refine Buf.alloc ?_ _))) X.heap.size 1 [s[k]'hlt] rfl rfl (by first | exact ⟨_, heap_alloc_new _ _⟩ | exact ⟨_, alloc_drew_new _ _⟩) HL2.out ?_)
          intro v2 w2 hb2
          have HB4 := hideF hb2
          clear hb2
          go_wp2
          go_roundw
          case rel => exact ⟨_, k + 1, A ++ [s[k]'hlt], rfl, by omega, by go_num, HB4.out, by simp; omega, HN.out⟩
          case measure => simp [intOf]; omega
    · have e1 : k = s.size := by omega
      subst e1
      have e2 : s.data.toList.drop s.size = [] := List.drop_eq_nil_of_le (by simp)
      rw [e2, unescL_nil, List.append_nil] at HU
      have hcv := HBf.out.text (P := Tryz.prog) Tryz.underlying74 Tryz.underlying5 Tryz.underlying9
      rw [HU.out] at hcv
      go_wp2
      go_ret
      exact ⟨rfl, HBf.out.below⟩
end Go.Proofs.YtckcfjibiidafaaGreat
