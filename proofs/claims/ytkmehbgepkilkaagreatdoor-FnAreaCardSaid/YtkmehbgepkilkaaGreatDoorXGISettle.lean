/- What the program's settle lays: sectors in an array of 64, with what was written in their places. -/
import Derived.Test.YtkmehbgepkilkaaGreatDoorXGIClone
import Derived.Test.YtkmehbgepkilkaaGreatDoorXGSCopy
import Derived.Deep.WholeRow
import Derived.Laws.CopyRow
import Derived.Laws.Rows
namespace Go.Proofs.YtkmehbgepkilkaaGreatDoor
open Go.RowKit

theorem row_store (P : Program) {w : World} {g : Nat} {T : TypeId} {old cs : List Value} (hl : old.length = cs.length) (h1 : ∀ v ∈ cs, v.oneCell' = true) (h : Row w g T old) :
    (storeCells ⟨g, 0, none⟩ cs 0).run P w = .ok () (w.setRow g cs.toArray) := by
  have := run_storeCells_from (P := P) g T cs 0 old.toArray w h (by simp [hl]) h1
  simpa using this
theorem new_store (P : Program) (W : World) (T : TypeId) (Z : Array Value) (cs : List Value) (hl : Z.size = cs.length) (h1 : ∀ v ∈ cs, v.oneCell' = true) :
    (storeCells ⟨W.heap.size, 0, none⟩ cs 0).run P (W.alloc (.cells Z T)) = .ok () (W.alloc (.cells cs.toArray T)) := by
  have := run_storeCells_from (P := P) W.heap.size T cs 0 Z (W.alloc (.cells Z T)) (heap_alloc_new _ _) (by simp [hl]) h1
  simpa [World.setRow_alloc_new] using this
theorem Row.setRow {w : World} {g : Nat} {T : TypeId} {old cs : List Value} (h : Row w g T old) : Row (w.setRow g cs.toArray) g T cs := setRow_heap _ _ _ _ T (0, 0) h
theorem Kept.ofSetRow (w : World) (g : Nat) (cs : Array Value) : Kept [g] w (w.setRow g cs) := ⟨rfl, rfl, rfl, by simp, fun k _ hn => setRow_other _ _ _ _ (by simpa using hn)⟩

/-- The cells of a bank: 64 sectors, and how many of them count. -/
def bank (ys : List ByteArray) : List Value := strs ys ++ (strs (List.replicate (64 - ys.length) ⟨#[]⟩) ++ [.int .i64 ys.length])
theorem bank_len {ys : List ByteArray} (h : ys.length ≤ 64) : (bank ys).length = 65 := by
  unfold bank
  simp only [List.length_append, strs_len, List.length_replicate, List.length_singleton]
  omega
theorem strs_one (xs : List ByteArray) : ∀ v ∈ strs xs, v.oneCell' = true := by
  intro v hv
  obtain ⟨x, _, rfl⟩ := List.mem_map.1 hv
  rfl
theorem bank_one (ys : List ByteArray) : ∀ v ∈ bank ys, v.oneCell' = true := by
  intro v hv
  rcases List.mem_append.1 hv with h | h
  · exact strs_one _ v h
  · rcases List.mem_append.1 h with h | h
    · exact strs_one _ v h
    · obtain rfl := List.mem_singleton.1 h; rfl
theorem bank_set (ys : List ByteArray) (m : Nat) (d : ByteArray) (h : m < ys.length) : (bank ys).set m (.string d) = bank (ys.set m d) := by
  unfold bank
  rw [strs_set _ _ _ _ h, List.length_set]
theorem bank_at (ys : List ByteArray) (m : Nat) (h : m < ys.length) : (bank ys)[m]? = some (.string (ys[m]'h)) := by
  unfold bank
  rw [List.getElem?_append_left (by rw [strs_len]; exact h)]
  simp [strs, h]
theorem bank_last {ys : List ByteArray} (h : ys.length ≤ 64) : (bank ys)[64]? = some (.int .i64 ys.length) := by
  unfold bank
  rw [List.getElem?_append_right (by rw [strs_len]; exact h), strs_len, List.getElem?_append_right (by rw [strs_len, List.length_replicate]; omega), strs_len, List.length_replicate]
  simp [show 64 - ys.length - (64 - ys.length) = 0 by omega]
theorem Tryz.zeroBank : Tryz.zeroCells80.toList = strs (List.replicate 64 ⟨#[]⟩) ++ [.int .i64 0] := by kernel_rfl
theorem Tryz.sizeBank : (Tryz.prog.info? 80).map (·.size) = some 65 := by kernel_rfl
theorem zeroBank_set (n : Nat) : Tryz.zeroCells80.toList.set 64 (.int .i64 n) = strs (List.replicate 64 ⟨#[]⟩) ++ [.int .i64 n] := by
  rw [Tryz.zeroBank, List.set_append_right _ _ (by rw [strs_len, List.length_replicate]; exact Nat.le_refl _), strs_len, List.length_replicate]
  rfl
theorem bank_copied (xs : List ByteArray) (h : xs.length ≤ 64) :
    (strs (List.replicate 64 ⟨#[]⟩) ++ [Value.int .i64 (xs.length : Int)]).take 0 ++ strs xs ++ (strs (List.replicate 64 ⟨#[]⟩) ++ [Value.int .i64 (xs.length : Int)]).drop (0 + (strs xs).length) = bank xs := by
  unfold bank
  rw [List.take_zero, List.nil_append, strs_len, Nat.zero_add]
  congr 1
  rw [List.drop_append_of_le_length (by rw [strs_len, List.length_replicate]; exact h)]
  congr 1
  unfold strs
  rw [← List.map_drop, List.drop_replicate]
theorem applyP_len : ∀ (ps : List (Int × ByteArray)) (xs : List ByteArray), (applyP ps xs).length = xs.length
  | [], _ => rfl
  | x :: r, xs => by rw [applyP, applyP_len r, List.length_set]

set_option maxHeartbeats 4000000 in
set_option maxRecDepth 100000 in
theorem settle_any (vs vp : Value) (xs : List ByteArray) (ps : List (Int × ByteArray)) (w : World) (hr : Reads w vs xs) (hp : ReadsP w vp ps) (hn1 : 1 ≤ xs.length) (hn : xs.length ≤ 64) (hn2 : ps.length ≤ 200)
    (hat : ∀ j (hj : j < ps.length), 0 ≤ (ps[j]'hj).1 ∧ (ps[j]'hj).1 ≤ (xs.length : Int) - 1) :
    Calls Tryz.prog 52 #[vs, vp] w fun e w' => e = .returned (.agg (bank (applyP ps xs)).toArray) ∧ Below w.heap.size w w' := by
  have HAT := hide hat
  obtain ⟨C0, hC0⟩ : ∃ C : Array Value, C = (strs (List.replicate 64 ⟨#[]⟩) ++ [Value.int .i64 (xs.length : Int)]).toArray := ⟨_, rfl⟩
  obtain ⟨i0, hi, hz0, hz1, hz2⟩ := info_parts Tryz.infoStr
  have hst := new_store Tryz.prog (w.alloc (.cells Tryz.zeroCells80 80)) 80 Tryz.zeroCells80 (Tryz.zeroCells80.toList.set 64 (.int .i64 (xs.length : Int))) (by simp)
    (by rw [zeroBank_set]; intro v hv; rcases List.mem_append.1 hv with h | h; exact strs_one _ v h; obtain rfl := List.mem_singleton.1 h; rfl)
  rw [show (Tryz.zeroCells80.toList.set 64 (.int .i64 (xs.length : Int))).toArray = C0 by rw [hC0, zeroBank_set]] at hst
  simp only [World.size_alloc] at hst
  obtain ⟨W1, hW1⟩ : ∃ W, W = (w.alloc (.cells Tryz.zeroCells80 80)).alloc (.cells C0 80) := ⟨_, rfl⟩
  rw [← hW1] at hst
  have hb1 : Below w.heap.size w W1 := by rw [hW1]; exact ((Below.refl _ _).alloc (Nat.le_refl _) _).alloc (by simp) _
  have hs1 : W1.heap.size = w.heap.size + 1 + 1 := by rw [hW1]; simp
  have r0 : Row W1 w.heap.size 80 (strs (List.replicate 64 ⟨#[]⟩) ++ [.int .i64 0]) := by
    rw [hW1, ← Tryz.zeroBank]
    have := (row_new w Tryz.zeroCells80.toList 80).alloc (.cells C0 80)
    simpa using this
  have r1 : Row W1 (w.heap.size + 1) 80 (strs (List.replicate 64 ⟨#[]⟩) ++ [.int .i64 (xs.length : Int)]) := by
    rw [hW1, hC0]
    have := row_new (w.alloc (.cells Tryz.zeroCells80 80)) (strs (List.replicate 64 ⟨#[]⟩) ++ [.int .i64 (xs.length : Int)]) 80
    simpa using this
  have HR := hide (hr.below hb1 (Nat.le_refl _))
  have HP := hide (hp.below hb1 (Nat.le_refl _))
  obtain ⟨p1, c1, rfl, h1r⟩ := hr
  obtain ⟨p2, c2, rfl, h2r⟩ := hp
  obtain ⟨g1, o1, rfl, hg1, hc1⟩ : ∃ g off, p1 = some ⟨g, off, none⟩ ∧ _ := by
    obtain ⟨p, cap, he, _, _, _, h4⟩ := HR.out
    cases he
    exact h4 (by omega)
  have hcp := run_copy_row (P := Tryz.prog) W1 23 23 3 9 (w.heap.size + 1) 0 64 64 ⟨g1, o1, none⟩ xs.length c1 _ 80 (strs xs) Tryz.underlying23 (by rw [hi]; simp [hz1]) r1 (by rw [strs_len]; exact (Nat.min_eq_left hn).symm)
    (fun j v hv => by
      obtain ⟨hj, e⟩ := List.getElem?_eq_some_iff.1 hv
      have hj' : j < xs.length := by rw [strs_len] at hj; exact hj
      rw [Addr.add_lit, hc1 j hj', ← e]; simp [strs]) (by simp [strs_len]; omega) (strs_one xs)
  rw [show ((strs (List.replicate 64 ⟨#[]⟩) ++ [Value.int .i64 (xs.length : Int)]).toArray.toList.take 0 ++ strs xs ++ (strs (List.replicate 64 ⟨#[]⟩) ++ [Value.int .i64 (xs.length : Int)]).toArray.toList.drop (0 + (strs xs).length)) = bank xs from bank_copied xs hn] at hcp
  obtain ⟨W2, hW2⟩ : ∃ W, W = W1.setRow (w.heap.size + 1) (bank xs).toArray := ⟨_, rfl⟩
  rw [← hW2, strs_len] at hcp
  have k2 : Kept [w.heap.size + 1] W1 W2 := by rw [hW2]; exact Kept.ofSetRow _ _ _
  have HB2 := hide (k2.toBelow hb1 hb1.size (by simp))
  have HRB := hide (show Row W2 (w.heap.size + 1) 80 (bank xs) by rw [hW2]; exact r1.setRow)
  have HR0 := hide (k2.row r0 (by simp))
  have HS2 := hide (show w.heap.size + 1 + 1 ≤ W2.heap.size by have := k2.size; omega)
  have hl2 : ∀ x ∈ leads (.slice p2 ps.length c2), x ∉ [w.heap.size + 1] := fun x hx => by have := ReadsP.leads (w := w) (v := .slice p2 ps.length c2) ⟨p2, c2, rfl, h2r⟩ x hx; simp; omega
  have HL2 := hide hl2
  have HP2 := hide (k2.readsP HP.out hl2)
  clear hi hz0 hz1 hz2 hC0 hb1 r0 r1 HR HP h1r h2r hc1 hg1 k2 hat hs1 hW1 hW2 hl2
  go_enter Tryz.func52, Tryz.ntmps52
  go_wp2_with fail
  go_loopw [17] (fun i wr => ∃ (k : Nat) (ys : List ByteArray), k ≤ ps.length ∧ i = .int .i64 k ∧ ys.length = xs.length ∧ Hid (applyP ps xs = applyP (ps.drop k) ys) ∧ Hid (Row wr (w.heap.size + 1) 80 (bank ys)) ∧ Hid (Kept [w.heap.size + 1] W2 wr)) (fun i _ => ps.length - (intOf i).toNat)
  case atStart => exact ⟨0, xs, Nat.zero_le _, rfl, rfl, rfl, HRB, Kept.refl _ _⟩
  case round =>
    obtain ⟨k, ys, hk, rfl, hyl, HA, HRow, HK⟩ := hrel
    by_cases hlt : k < ps.length
    · obtain ⟨g, off, hp, hg, hc⟩ : ∃ g off, p2 = some ⟨g, off, none⟩ ∧ _ := by
        obtain ⟨p, cap, he, _, _, _, h4⟩ := (HK.out.readsP HP2.out (HL2.out)) 
        cases he
        exact h4 (by omega)
      subst hp
      obtain ⟨hk0, hk1⟩ := hc k hlt
      obtain ⟨ha0, ha1⟩ := HAT.out k hlt
      have hki : (k : Int) < (ps.length : Int) := by omega
      have HST := hide (applyP_step ps k hlt ys)
      obtain ⟨A, hA⟩ : ∃ A, A = (ps[k]'hlt).1 := ⟨_, rfl⟩
      obtain ⟨D, hD⟩ : ∃ D, D = (ps[k]'hlt).2 := ⟨_, rfl⟩
      rw [← hA] at hk0 HST ha0 ha1
      rw [← hD] at hk1 HST
      clear hA hD hc hg
      obtain ⟨m, rfl⟩ := Int.eq_ofNat_of_zero_le ha0
      have hmn : m < ys.length := by omega
      have i64 : (m : Int) < 64 := by omega
      have bn := below_new wr (.cells #[.int .i64 (m : Int), .string D] 61)
      have Rn := Row.after bn HRow.out
      obtain ⟨u, hu⟩ := Rn.some m (by rw [bank_len (by omega)]; omega)
      have hf := Rn.free m
      have hnext := Rn.set (j := m) (.string D)
      rw [bank_set ys m D hmn] at hnext
      have HN := hide hnext
      have HK2 := hide ((HK.out.below bn).set (G := w.heap.size + 1) (j := m) (by simp) (.string D))
      clear hnext Rn bn
      go_wp2
      go_roundw
      case rel => exact ⟨k + 1, ys.set m D, by omega, by go_num, by simp [hyl], HA.out.trans (by rw [HST.out]; simp), HN, HK2⟩
      case measure => simp [intOf]; omega
    · have HE := hide (show applyP ps xs = ys by rw [HA.out, List.drop_eq_nil_of_le (by omega)]; rfl)
      have HSB := hide (show (Tryz.prog.info? 80).map (·.size) = some (bank ys).toArray.size by rw [Tryz.sizeBank]; simp [bank_len (show ys.length ≤ 64 by omega)])
      have hsr := row_store Tryz.prog (cs := bank ys) (by rw [bank_len (by omega)]; simp [strs_len]) (bank_one ys) (HK.out.row HR0.out (by simp))
      have hbl := bank_len (show ys.length ≤ 64 by omega)
      have RF := (HK.out.row HR0.out (by simp)).setRow (cs := bank ys)
      have HB := hide ((Kept.ofSetRow wr w.heap.size (bank ys).toArray).toBelow (HK.out.toBelow HB2.out HB2.out.size (by simp)) (HK.out.toBelow HB2.out HB2.out.size (by simp)).size (by simp))
      have HRF := hide RF
      clear RF
      go_wp2_with (refine wpList_load_row rfl 80 (.tmp 5) rfl (w.heap.size + 1) rfl 80 (bank ys).toArray (0, 0) _ HRow.out Tryz.underlying80 rfl HSB.out ?_)
      exact bodyPost_ret (v := .agg (bank ys).toArray) (results_cell_row (by exact Tryz.results52) _ _ w.heap.size 80 (bank ys).toArray (0, 0) _ (by rfl) HRF.out Tryz.underlying80 rfl HSB.out) rfl
        ⟨by rw [HE.out], HB.out⟩
end Go.Proofs.YtkmehbgepkilkaaGreatDoor
