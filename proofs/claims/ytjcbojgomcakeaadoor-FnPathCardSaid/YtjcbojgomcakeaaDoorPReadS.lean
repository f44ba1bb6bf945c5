/- A Path read out of a text: of the model. -/
import Derived.Test.YtjcbojgomcakeaaDoorPReadJ
namespace Go.Proofs.YtjcbojgomcakeaaDoor
open Go.RowKit
theorem below_drewNR {B : Nat} {w w' : World} (h : Below B w w') (n : Nat) : Below B w (w'.drewN n) := ⟨h.os, h.tape, h.output, h.size, h.block⟩
theorem Kept.drewNR {S : List Nat} {w w' : World} (h : Kept S w w') (n : Nat) : Kept S w (w'.drewN n) := ⟨h.os, h.tape, h.output, h.size, h.block⟩
theorem Row.drewNR {w : World} {g : Nat} {T : TypeId} {cs : List Value} (h : Row w g T cs) (n : Nat) : Row (w.drewN n) g T cs := h
/-- How far the model's reader is: what is left of the text. -/
theorem isS_at (c : UInt8) (l : List UInt8) (k : Nat) : isS c (l.drop k) = if h : k < l.length then (if l[k] = c then (true, l.drop (k + 1)) else (false, l.drop k)) else (false, l.drop k) := by
  by_cases h : k < l.length
  · rw [dif_pos h, List.drop_eq_getElem_cons h]
    simp only [isS]
  · rw [dif_neg h, List.drop_eq_nil_of_le (by omega)]
    rfl
theorem get_data (l : List UInt8) (k : Nat) (h : k < l.length) : (⟨l.toArray⟩ : ByteArray)[k]'(by simpa [ByteArray.size] using h) = l[k] := by
  simp [ByteArray.getElem_eq_getElem_data]
set_option maxHeartbeats 2000000 in
set_option maxRecDepth 100000 in
theorem is_any (R : Nat) (l : List UInt8) (k : Nat) (c : UInt8) (w : World) (hR : Row w R 69 [.string ⟨l.toArray⟩, .int .i64 (k : Int)]) (hl : l.length ≤ 8000) (hk : k ≤ l.length) :
    Calls Tryd.prog 41 #[.pointer (some ⟨R, 0, none⟩), .int .u8 (c.toNat : Int)] w fun e w' => (∃ k', k' ≤ l.length ∧ isS c (l.drop k) = ((isS c (l.drop k)).1, l.drop k') ∧ e = .returned (.bool (isS c (l.drop k)).1) ∧ Row w' R 69 [.string ⟨l.toArray⟩, .int .i64 (k' : Int)]) ∧ Kept [R] w w' := by
  have HR := hide hR
  have c0 : w.cell? ⟨R, 0, none⟩ = some (.string ⟨l.toArray⟩) := hR.cell 0
  have c1 : w.cell? ⟨R, 1, none⟩ = some (.int .i64 (k : Int)) := hR.cell 1
  have f1 := hR.free 1
  clear hR
  have HI := hide (isS_at c l k)
  by_cases h : k < l.length
  · have hg := get_data l k h
    have hsz : k < (⟨l.toArray⟩ : ByteArray).size := by simpa [ByteArray.size] using h
    obtain ⟨x, hx⟩ : ∃ x, x = l[k]'h := ⟨_, rfl⟩
    cases he : ((l[k]'h).toNat : Int) == (c.toNat : Int)
    · have HN := hide (show isS c (l.drop k) = (false, l.drop k) by rw [HI.out, dif_pos h, if_neg]; intro e; rw [e] at he; simp at he)
      go_enter Tryd.func41, Tryd.ntmps41
      go_wp2_with fail
      go_quiet (fail)
      go_wp2
      go_ret
      exact ⟨⟨k, hk, by rw [HN.out], by rw [HN.out]; rfl, HR.out.drewNR nq⟩, (Kept.refl _ _).drewNR nq⟩
    · have HN := hide (show isS c (l.drop k) = (true, l.drop (k + 1)) by rw [HI.out, dif_pos h, if_pos]; simp at he; exact UInt8.toNat_inj.1 (by omega))
      have HR2 := hide ((HR.out.set (j := 1) (.int .i64 ((k + 1 : Nat) : Int))))
      have HK2 := hide (show Kept [R] w (w.setCell ⟨R, 1, none⟩ (.int .i64 ((k + 1 : Nat) : Int))) from Kept.ofSet _ _ _ _)
      go_enter Tryd.func41, Tryd.ntmps41
      go_wp2_with fail
      go_quiet (fail)
      go_wp2
      go_ret
      exact ⟨⟨k + 1, by omega, by rw [HN.out], by rw [HN.out]; rfl, HR2.out.drewNR nq⟩, HK2.out.drewNR nq⟩
  · have HN := hide (show isS c (l.drop k) = (false, l.drop k) by rw [HI.out, dif_neg h])
    have hlt : ¬ ((k : Int) < (l.length : Int)) := by omega
    go_enter Tryd.func41, Tryd.ntmps41
    go_wp2_with fail
    go_quiet (fail)
    go_wp2
    go_ret
    exact ⟨⟨k, hk, by rw [HN.out], by rw [HN.out]; rfl, HR.out.drewNR nq⟩, (Kept.refl _ _).drewNR nq⟩

theorem numS_at (j : Nat) (n : Int) (l : List UInt8) (k : Nat) (hj : j < 3) : numS (3 - j) n (l.drop k) = if h : k < l.length then (if 48 ≤ (l[k]).toNat ∧ (l[k]).toNat ≤ 57 then numS (3 - (j + 1)) (10 * n + (((l[k]).toNat : Int) - 48)) (l.drop (k + 1)) else (n, l.drop k)) else (n, l.drop k) := by
  rw [show 3 - j = (3 - (j + 1)) + 1 by omega]
  by_cases h : k < l.length
  · rw [dif_pos h, List.drop_eq_getElem_cons h]
    simp only [numS]
  · rw [dif_neg h, List.drop_eq_nil_of_le (by omega)]
    rfl
def numB (j : Nat) (n : Int) : Prop := 0 ≤ n ∧ (j = 0 → n < 1) ∧ (j = 1 → n < 10) ∧ (j = 2 → n < 100) ∧ n < 1000
set_option maxHeartbeats 4000000 in
set_option maxRecDepth 100000 in
theorem num_any (R : Nat) (l : List UInt8) (k : Nat) (w : World) (hR : Row w R 69 [.string ⟨l.toArray⟩, .int .i64 (k : Int)]) (hl : l.length ≤ 8000) (hk : k ≤ l.length) :
    Calls Tryd.prog 42 #[.pointer (some ⟨R, 0, none⟩)] w fun e w' => (∃ k', k' ≤ l.length ∧ numS 3 0 (l.drop k) = ((numS 3 0 (l.drop k)).1, l.drop k') ∧ e = .returned (.int .i64 (numS 3 0 (l.drop k)).1) ∧ Row w' R 69 [.string ⟨l.toArray⟩, .int .i64 (k' : Int)]) ∧ Kept [R] w w' := by
  have HR := hide hR
  clear hR
  obtain ⟨O, hO⟩ : ∃ O, O = numS 3 0 (l.drop k) := ⟨_, rfl⟩
  rw [← hO]
  have HO := hide hO
  clear hO
  go_enter Tryd.func42, Tryd.ntmps42
  go_wp2_with fail
  go_loopw [3, 4] (fun a i wr => ∃ (X : World) (j k' : Nat) (n' : Int), X = wr ∧ j ≤ 3 ∧ k' ≤ l.length ∧ i = .int .i64 (j : Int) ∧ a = .int .i64 n' ∧ Hid (numB j n') ∧ Hid (O = numS (3 - j) n' (l.drop k')) ∧ Hid (Row X R 69 [.string ⟨l.toArray⟩, .int .i64 (k' : Int)]) ∧ Hid (Kept [R] w X)) (fun a i _ => 3 - (intOf i).toNat)
  case atStart => exact ⟨_, 0, k, 0, rfl, by omega, hk, rfl, rfl, hide (by unfold numB; omega), HO, HR, Kept.refl _ _⟩
  case round =>
    obtain ⟨X, j, k', n', rfl, hj, hk', rfl, rfl, HNB, HS, HX, HK⟩ := hrel
    have c0 : X.cell? ⟨R, 0, none⟩ = some (.string ⟨l.toArray⟩) := HX.out.cell 0
    have c1 : X.cell? ⟨R, 1, none⟩ = some (.int .i64 (k' : Int)) := HX.out.cell 1
    have f1 := HX.out.free 1
    by_cases hj3 : j < 3
    · have HI := hide (numS_at j n' l k' hj3)
      have hjI : (j : Int) < 3 := by omega
      by_cases h : k' < l.length
      · have hg := get_data l k' h
        have hsz : k' < (⟨l.toArray⟩ : ByteArray).size := by simpa [ByteArray.size] using h
        have hkI : (k' : Int) < (l.length : Int) := by omega
        by_cases h48 : ((l[k']'h).toNat : Int) < 48
        · have HN := hide (show O = (n', l.drop k') by rw [HS.out, HI.out, dif_pos h, if_neg (by omega)])
          have hb48 : decide ((48 : Int) ≤ ((l[k']'h).toNat : Int)) = false := decide_eq_false (by omega)
          generalize (l[k']'h) = c at *
          go_wp2_with fail
          go_quiet (fail)
          go_wp2
          go_ret
          exact ⟨⟨k', hk', by rw [HN.out], by rw [HN.out]; rfl, HX.out.drewNR nq⟩, HK.out.drewNR nq⟩
        · by_cases h57 : 57 < ((l[k']'h).toNat : Int)
          · have HN := hide (show O = (n', l.drop k') by rw [HS.out, HI.out, dif_pos h, if_neg (by omega)])
            go_wp2_with fail
            go_quiet (fail)
            go_wp2
            go_ret
            exact ⟨⟨k', hk', by rw [HN.out], by rw [HN.out]; rfl, HX.out.drewNR nq⟩, HK.out.drewNR nq⟩
          · have HN := hide (show O = numS (3 - (j + 1)) (10 * n' + (((l[k']'h).toNat : Int) - 48)) (l.drop (k' + 1)) by rw [HS.out, HI.out, dif_pos h, if_pos (by omega)])
            have HNB2 := hide (show numB (j + 1) (10 * n' + (((l[k']'h).toNat : Int) - 48)) by have := HNB.out; unfold numB at this ⊢; omega)
            have hnb := HNB2.out.1
            have hnb2 := HNB2.out.2.2.2.2
            have hn0 := HNB.out.1
            have hn3 := HNB.out.2.2.2.2
            have HR2 := hide ((HX.out.set (j := 1) (.int .i64 ((k' + 1 : Nat) : Int))))
            have HK2 := hide (show Kept [R] w (X.setCell ⟨R, 1, none⟩ (.int .i64 ((k' + 1 : Nat) : Int))) from HK.out.trans (Kept.ofSet _ _ _ _))
            go_wp2_with fail
            go_quiet (fail)
            go_wp2_with fail
            go_quiet (fail)
            go_wp2
            go_roundw
            case rel => exact ⟨_, j + 1, k' + 1, _, rfl, by omega, by omega, by go_num, rfl, HNB2, HN, HR2.out.drewNR _, HK2.out.drewNR _⟩
            case measure => simp [intOf]; omega
      · have HN := hide (show O = (n', l.drop k') by rw [HS.out, HI.out, dif_neg h])
        have hlt : ¬ ((k' : Int) < (l.length : Int)) := by omega
        go_wp2_with fail
        go_quiet (fail)
        go_wp2
        go_ret
        exact ⟨⟨k', hk', by rw [HN.out], by rw [HN.out]; rfl, HX.out.drewNR nq⟩, HK.out.drewNR nq⟩
    · have HN := hide (show O = (n', l.drop k') by rw [HS.out, show 3 - j = 0 by omega]; rfl)
      have hjI : decide ((j : Int) < 3) = false := decide_eq_false (by omega)
      have hjJ : (3 : Int) ≤ (j : Int) := by omega
      clear hj3
      go_wp2_with fail
      go_quiet (fail)
      go_wp2
      go_ret
      exact ⟨⟨k', hk', by rw [HN.out], by rw [HN.out]; rfl, HX.out.drewNR nq⟩, HK.out.drewNR nq⟩
end Go.Proofs.YtjcbojgomcakeaaDoor
