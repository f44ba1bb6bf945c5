/- What the program's settle lays: sectors in an array of 64, with what was written in their places. -/
import Derived.Test.YtnpbmaajgiapmaaGreatDoorXG16LAPut
import Derived.Test.YtnpbmaajgiapmaaGreatDoorXG13SFlush
import Derived.Deep.WholeRow
import Derived.Laws.CopyRow
import Derived.Laws.Rows
import Derived.Test.YtnpbmaajgiapmaaGreatDoorXG1NumMath
import Derived.SliceStrings
import Derived.Deep.SlicePairs
import Derived.Lib.SmallJoins
import Derived.Test.YtnpbmaajgiapmaaGreatDoorXG12SSeenAll
import Derived.Test.YtnpbmaajgiapmaaGreatDoorXG9SSeen2
import Derived.BigRegion
namespace Go.Proofs.YtnpbmaajgiapmaaGreatDoor
open Go.RowKit

theorem row_load (P : Program) {w : World} {g : Nat} {T : TypeId} {cs : List Value} (n : Nat) (hn : cs.length = n) (h : Row w g T cs) : (loadCellsFrom ⟨g, 0, none⟩ 0 n #[]).run P w = .ok cs.toArray w := by
  subst hn
  have := run_loadCells_list (P := P) w ⟨g, 0, none⟩ cs (fun j v hv => by rw [Addr.add_lit, Nat.zero_add, h.cell j]; exact hv)
  simpa [loadCells] using this
theorem row_store (P : Program) {w : World} {g : Nat} {T : TypeId} {old cs : List Value} (hl : old.length = cs.length) (h1 : ∀ v ∈ cs, v.oneCell' = true) (h : Row w g T old) :
    (storeCells ⟨g, 0, none⟩ cs 0).run P w = .ok () (w.setRow g cs.toArray) := by
  have := run_storeCells_from (P := P) g T cs 0 old.toArray w h (by simp [hl]) h1
  simpa using this
theorem new_store (P : Program) (W : World) (T : TypeId) (Z : Array Value) (cs : List Value) (hl : Z.size = cs.length) (h1 : ∀ v ∈ cs, v.oneCell' = true) :
    (storeCells ⟨W.heap.size, 0, none⟩ cs 0).run P (W.alloc (.cells Z T)) = .ok () (W.alloc (.cells cs.toArray T)) := by
  have := run_storeCells_from (P := P) W.heap.size T cs 0 Z (W.alloc (.cells Z T)) (heap_alloc_new _ _) (by simp [hl]) h1
  simpa [World.setRow_alloc_new] using this
theorem Row.setRow {w : World} {g : Nat} {T : TypeId} {old cs : List Value} (h : Row w g T old) : Row (w.setRow g cs.toArray) g T cs := setRow_heap _ _ _ _ T (0, 0) h
theorem Kept.ofSetRow (w : World) (g : Nat) (cs : Array Value) : Kept [g] w (w.setRow g cs) := ⟨rfl, rfl, rfl, by simp, fun k _ hn => setRow_other _ _ _ _ (by simpa using hn)⟩

/-- The cells of a bank: 64 sectors, and how many of them count. -/
def bank (ys : List ByteArray) : List Value := strs ys ++ (strs (List.replicate (64 - ys.length) ⟨#[]⟩) ++ [.int .i64 ys.length])
theorem bank_len {ys : List ByteArray} (h : ys.length ≤ 64) : (bank ys).length = 65 := by
  unfold bank
  simp only [List.length_append, strs_len, List.length_replicate, List.length_singleton]
  omega
theorem strs_one (xs : List ByteArray) : ∀ v ∈ strs xs, v.oneCell' = true := by
  intro v hv
  obtain ⟨x, _, rfl⟩ := List.mem_map.1 hv
  rfl
theorem bank_one (ys : List ByteArray) : ∀ v ∈ bank ys, v.oneCell' = true := by
  intro v hv
  rcases List.mem_append.1 hv with h | h
  · exact strs_one _ v h
  · rcases List.mem_append.1 h with h | h
    · exact strs_one _ v h
    · obtain rfl := List.mem_singleton.1 h; rfl
theorem bank_set (ys : List ByteArray) (m : Nat) (d : ByteArray) (h : m < ys.length) : (bank ys).set m (.string d) = bank (ys.set m d) := by
  unfold bank
  rw [strs_set _ _ _ _ h, List.length_set]
theorem bank_at (ys : List ByteArray) (m : Nat) (h : m < ys.length) : (bank ys)[m]? = some (.string (ys[m]'h)) := by
  unfold bank
  rw [List.getElem?_append_left (by rw [strs_len]; exact h)]
  simp [strs, h]
theorem bank_last {ys : List ByteArray} (h : ys.length ≤ 64) : (bank ys)[64]? = some (.int .i64 ys.length) := by
  unfold bank
  rw [List.getElem?_append_right (by rw [strs_len]; exact h), strs_len, List.getElem?_append_right (by rw [strs_len, List.length_replicate]; omega), strs_len, List.length_replicate]
  simp [show 64 - ys.length - (64 - ys.length) = 0 by omega]
theorem Tryz.zeroBank : Tryz.zeroCells153.toList = strs (List.replicate 64 ⟨#[]⟩) ++ [.int .i64 0] := by kernel_rfl
theorem Tryz.sizeBank : (Tryz.prog.info? 153).map (·.size) = some 65 := by kernel_rfl
theorem zeroBank_set (n : Nat) : Tryz.zeroCells153.toList.set 64 (.int .i64 n) = strs (List.replicate 64 ⟨#[]⟩) ++ [.int .i64 n] := by
  rw [Tryz.zeroBank, List.set_append_right _ _ (by rw [strs_len, List.length_replicate]; exact Nat.le_refl _), strs_len, List.length_replicate]
  rfl
theorem bank_copied (xs : List ByteArray) (h : xs.length ≤ 64) :
    (strs (List.replicate 64 ⟨#[]⟩) ++ [Value.int .i64 (xs.length : Int)]).take 0 ++ strs xs ++ (strs (List.replicate 64 ⟨#[]⟩) ++ [Value.int .i64 (xs.length : Int)]).drop (0 + (strs xs).length) = bank xs := by
  unfold bank
  rw [List.take_zero, List.nil_append, strs_len, Nat.zero_add]
  congr 1
  rw [List.drop_append_of_le_length (by rw [strs_len, List.length_replicate]; exact h)]
  congr 1
  unfold strs
  rw [← List.map_drop, List.drop_replicate]
theorem applyP_len : ∀ (ps : List (Int × ByteArray)) (xs : List ByteArray), (applyP ps xs).length = xs.length
  | [], _ => rfl
  | x :: r, xs => by rw [applyP, applyP_len r, List.length_set]

set_option maxHeartbeats 4000000 in
set_option maxRecDepth 100000 in
theorem settle_any (vs vp : Value) (xs : List ByteArray) (ps : List (Int × ByteArray)) (w : World) (hr : Reads w vs xs) (hp : ReadsP w vp ps) (hn1 : 1 ≤ xs.length) (hn : xs.length ≤ 64) (hn2 : ps.length ≤ 200)
    (hat : ∀ j (hj : j < ps.length), 0 ≤ (ps[j]'hj).1 ∧ (ps[j]'hj).1 ≤ (xs.length : Int) - 1) :
    Calls Tryz.prog 118 #[vs, vp] w fun e w' => e = .returned (.agg (bank (applyP ps xs)).toArray) ∧ Below w.heap.size w w' := by
  have HAT := hide hat
  obtain ⟨C0, hC0⟩ : ∃ C : Array Value, C = (strs (List.replicate 64 ⟨#[]⟩) ++ [Value.int .i64 (xs.length : Int)]).toArray := ⟨_, rfl⟩
  obtain ⟨i0, hi, hz0, hz1, hz2⟩ := info_parts Tryz.infoStr
  have hst := new_store Tryz.prog (w.alloc (.cells Tryz.zeroCells153 153)) 153 Tryz.zeroCells153 (Tryz.zeroCells153.toList.set 64 (.int .i64 (xs.length : Int))) (by simp)
    (by rw [zeroBank_set]; intro v hv; rcases List.mem_append.1 hv with h | h; exact strs_one _ v h; obtain rfl := List.mem_singleton.1 h; rfl)
  rw [show (Tryz.zeroCells153.toList.set 64 (.int .i64 (xs.length : Int))).toArray = C0 by rw [hC0, zeroBank_set]] at hst
  simp only [World.size_alloc] at hst
  obtain ⟨W1, hW1⟩ : ∃ W, W = (w.alloc (.cells Tryz.zeroCells153 153)).alloc (.cells C0 153) := ⟨_, rfl⟩
  rw [← hW1] at hst
  have hb1 : Below w.heap.size w W1 := by rw [hW1]; exact ((Below.refl _ _).alloc (Nat.le_refl _) _).alloc (by simp) _
  have hs1 : W1.heap.size = w.heap.size + 1 + 1 := by rw [hW1]; simp
  have r0 : Row W1 w.heap.size 153 (strs (List.replicate 64 ⟨#[]⟩) ++ [.int .i64 0]) := by
    rw [hW1, ← Tryz.zeroBank]
    have := (row_new w Tryz.zeroCells153.toList 153).alloc (.cells C0 153)
    simpa using this
  have r1 : Row W1 (w.heap.size + 1) 153 (strs (List.replicate 64 ⟨#[]⟩) ++ [.int .i64 (xs.length : Int)]) := by
    rw [hW1, hC0]
    have := row_new (w.alloc (.cells Tryz.zeroCells153 153)) (strs (List.replicate 64 ⟨#[]⟩) ++ [.int .i64 (xs.length : Int)]) 153
    simpa using this
  have HR := hide (hr.below hb1 (Nat.le_refl _))
  have HP := hide (hp.below hb1 (Nat.le_refl _))
  obtain ⟨p1, c1, rfl, h1r⟩ := hr
  obtain ⟨p2, c2, rfl, h2r⟩ := hp
  obtain ⟨g1, o1, rfl, hg1, hc1⟩ : ∃ g off, p1 = some ⟨g, off, none⟩ ∧ _ := by
    obtain ⟨p, cap, he, _, _, _, h4⟩ := HR.out
    cases he
    exact h4 (by omega)
  have hcp := run_copy_row (P := Tryz.prog) W1 22 22 3 9 (w.heap.size + 1) 0 64 64 ⟨g1, o1, none⟩ xs.length c1 _ 153 (strs xs) Tryz.underlying22 (by rw [hi]; simp [hz1]) r1 (by rw [strs_len]; exact (Nat.min_eq_left hn).symm)
    (fun j v hv => by
      obtain ⟨hj, e⟩ := List.getElem?_eq_some_iff.1 hv
      have hj' : j < xs.length := by rw [strs_len] at hj; exact hj
      rw [Addr.add_lit, hc1 j hj', ← e]; simp [strs]) (by simp [strs_len]; omega) (strs_one xs)
  rw [show ((strs (List.replicate 64 ⟨#[]⟩) ++ [Value.int .i64 (xs.length : Int)]).toArray.toList.take 0 ++ strs xs ++ (strs (List.replicate 64 ⟨#[]⟩) ++ [Value.int .i64 (xs.length : Int)]).toArray.toList.drop (0 + (strs xs).length)) = bank xs from bank_copied xs hn] at hcp
  obtain ⟨W2, hW2⟩ : ∃ W, W = W1.setRow (w.heap.size + 1) (bank xs).toArray := ⟨_, rfl⟩
  rw [← hW2, strs_len] at hcp
  have k2 : Kept [w.heap.size + 1] W1 W2 := by rw [hW2]; exact Kept.ofSetRow _ _ _
  have HB2 := hide (k2.toBelow hb1 hb1.size (by simp))
  have HRB := hide (show Row W2 (w.heap.size + 1) 153 (bank xs) by rw [hW2]; exact r1.setRow)
  have HR0 := hide (k2.row r0 (by simp))
  have HS2 := hide (show w.heap.size + 1 + 1 ≤ W2.heap.size by have := k2.size; omega)
  have hl2 : ∀ x ∈ leads (.slice p2 ps.length c2), x ∉ [w.heap.size + 1] := fun x hx => by have := ReadsP.leads (w := w) (v := .slice p2 ps.length c2) ⟨p2, c2, rfl, h2r⟩ x hx; simp; omega
  have HL2 := hide hl2
  have HP2 := hide (k2.readsP HP.out hl2)
  clear hi hz0 hz1 hz2 hC0 hb1 r0 r1 HR HP h1r h2r hc1 hg1 k2 hat hs1 hW1 hW2 hl2
  go_enter Tryz.func118, Tryz.ntmps118
  go_wp2_with fail
  go_loopw [17] (fun i wr => ∃ (k : Nat) (ys : List ByteArray), k ≤ ps.length ∧ i = .int .i64 k ∧ ys.length = xs.length ∧ Hid (applyP ps xs = applyP (ps.drop k) ys) ∧ Hid (Row wr (w.heap.size + 1) 153 (bank ys)) ∧ Hid (Kept [w.heap.size + 1] W2 wr)) (fun i _ => ps.length - (intOf i).toNat)
  case atStart => exact ⟨0, xs, Nat.zero_le _, rfl, rfl, rfl, HRB, Kept.refl _ _⟩
  case round =>
    obtain ⟨k, ys, hk, rfl, hyl, HA, HRow, HK⟩ := hrel
    by_cases hlt : k < ps.length
    · obtain ⟨g, off, hp, hg, hc⟩ : ∃ g off, p2 = some ⟨g, off, none⟩ ∧ _ := by
        obtain ⟨p, cap, he, _, _, _, h4⟩ := (HK.out.readsP HP2.out (HL2.out)) 
        cases he
        exact h4 (by omega)
      subst hp
      obtain ⟨hk0, hk1⟩ := hc k hlt
      obtain ⟨ha0, ha1⟩ := HAT.out k hlt
      have hki : (k : Int) < (ps.length : Int) := by omega
      have HST := hide (applyP_step ps k hlt ys)
      obtain ⟨A, hA⟩ : ∃ A, A = (ps[k]'hlt).1 := ⟨_, rfl⟩
      obtain ⟨D, hD⟩ : ∃ D, D = (ps[k]'hlt).2 := ⟨_, rfl⟩
      rw [← hA] at hk0 HST ha0 ha1
      rw [← hD] at hk1 HST
      clear hA hD hc hg
      obtain ⟨m, rfl⟩ := Int.eq_ofNat_of_zero_le ha0
      have hmn : m < ys.length := by omega
      have i64 : (m : Int) < 64 := by omega
      have bn := below_new wr (.cells #[.int .i64 (m : Int), .string D] 92)
      have Rn := Row.after bn HRow.out
      obtain ⟨u, hu⟩ := Rn.some m (by rw [bank_len (by omega)]; omega)
      have hf := Rn.free m
      have hnext := Rn.set (j := m) (.string D)
      rw [bank_set ys m D hmn] at hnext
      have HN := hide hnext
      have HK2 := hide ((HK.out.below bn).set (G := w.heap.size + 1) (j := m) (by simp) (.string D))
      clear hnext Rn bn
      go_wp2
      go_roundw
      case rel => exact ⟨k + 1, ys.set m D, by omega, by go_num, by simp [hyl], HA.out.trans (by rw [HST.out]; simp), HN, HK2⟩
      case measure => simp [intOf]; omega
    · have HE := hide (show applyP ps xs = ys by rw [HA.out, List.drop_eq_nil_of_le (by omega)]; rfl)
      have HSB := hide (show (Tryz.prog.info? 153).map (·.size) = some (bank ys).toArray.size by rw [Tryz.sizeBank]; simp [bank_len (show ys.length ≤ 64 by omega)])
      have hsr := row_store Tryz.prog (cs := bank ys) (by rw [bank_len (by omega)]; simp [strs_len]) (bank_one ys) (HK.out.row HR0.out (by simp))
      have hbl := bank_len (show ys.length ≤ 64 by omega)
      have RF := (HK.out.row HR0.out (by simp)).setRow (cs := bank ys)
      have HB := hide ((Kept.ofSetRow wr w.heap.size (bank ys).toArray).toBelow (HK.out.toBelow HB2.out HB2.out.size (by simp)) (HK.out.toBelow HB2.out HB2.out.size (by simp)).size (by simp))
      have HRF := hide RF
      clear RF
      go_wp2_with (refine wpList_load_row rfl 153 (.tmp 5) rfl (w.heap.size + 1) rfl 153 (bank ys).toArray (0, 0) _ HRow.out Tryz.underlying153 rfl HSB.out ?_)
      exact bodyPost_ret (v := .agg (bank ys).toArray) (results_cell_row (by exact Tryz.results118) _ _ w.heap.size 153 (bank ys).toArray (0, 0) _ (by rfl) HRF.out Tryz.underlying153 rfl HSB.out) rfl
        ⟨by rw [HE.out], HB.out⟩
end Go.Proofs.YtnpbmaajgiapmaaGreatDoor
/- What comes in, read as lists. -/
namespace Go.Proofs.YtnpbmaajgiapmaaGreatDoor
open Go.RowKit Go.ChangeShapes Go.WideShapes

theorem spot_none {w : World} {a : Addr} {v : Value} (h : w.cell? (a.add 0) = some v) : a = ⟨a.block, a.off, none⟩ := by
  obtain ⟨b, o, s⟩ := a
  cases s with
  | none => rfl
  | some x =>
    have h' : w.cell? ⟨b, o, some x⟩ = some v := h
    unfold World.cell? at h'
    split at h' <;> simp at h'
theorem reads_of_trod {H : Type} {enc : TypeId × Value → H} {P : Program} {w : World} {base : Nat} {spare : Nat → Bool} {held : Bool} {t e : TypeId} {fuel : Nat} {v : Value} {x : DataW H × List MemPlace}
    (ht : P.underlying t = some (.slice e)) (he : P.underlying e = some .string) (hc : P.cellsOf e = 1) (h : DataW.trod enc P w base spare held fuel t [v] = some x) : ∃ xs, Reads w v xs := by
  rcases open_strings ht he hc h with ⟨hcs, _⟩ | ⟨a, len, cap, ss, hcs, _, hl, hm, hlen, _, hcell, hsz⟩
  · obtain rfl : v = .slice none 0 0 := by simpa using hcs
    exact ⟨[], none, 0, rfl, Nat.le_refl _, Nat.zero_le _, by simp, fun h0 => absurd h0 (Nat.lt_irrefl 0)⟩
  · obtain rfl : v = .slice (some a) len cap := by simpa using hcs
    have hll : len ≤ ss.length := by rw [hlen]; split <;> omega
    have hL : (ss.take len).length = len := by rw [List.length_take]; omega
    refine ⟨ss.take len, some a, cap, by rw [hL], by omega, hm, fun y hy => hsz y (List.mem_of_mem_take hy), fun h0 => ?_⟩
    have ha := spot_none (hcell 0 (by omega))
    refine ⟨a.block, a.off, by rw [← ha], ?_, fun i hi => ?_⟩
    · have := World.block_lt_of_cell? w _ (hcell 0 (by omega))
      simpa [Addr.add] using this
    · have := hcell i (by omega)
      rw [ha, Addr.add_lit] at this
      rw [this, List.getElem_take, List.getD_eq_getElem?_getD, List.getElem?_eq_getElem (by omega)]
      rfl
def intV : Value → Int
  | .int _ n => n
  | _ => 0
def strV : Value → ByteArray
  | .string s => s
  | _ => ⟨#[]⟩
theorem readsP_of_trod {H : Type} {enc : TypeId × Value → H} {P : Program} {w : World} {base : Nat} {spare : Nat → Bool} {held : Bool} {t e : TypeId} {f0 f1 : Field} {fuel : Nat} {v : Value} {x : DataW H × List MemPlace}
    (ht : P.underlying t = some (.slice e)) (he : P.underlying e = some (.struct #[f0, f1])) (ce : P.cellsOf e = 2) (o0 : f0.offset = 0) (o1 : f1.offset = 1) (c0 : P.cellsOf f0.type = 1) (c1 : P.cellsOf f1.type = 1)
    (u0 : P.underlying f0.type = some (.int .i64)) (u1 : P.underlying f1.type = some .string) (h : DataW.trod enc P w base spare held fuel t [v] = some x) : ∃ ps, ReadsP w v ps := by
  rcases Go.Deep.open_slice_pairs ht he ce o0 o1 c0 c1 h with ⟨hcs, _⟩ | ⟨a, len, cap, m, n, V0, V1, D0, D1, P0, P1, hcs, _, hl, hm, hmm, _, hx⟩
  · obtain rfl : v = .slice none 0 0 := by simpa using hcs
    exact ⟨[], none, 0, rfl, Nat.le_refl _, Nat.zero_le _, by simp, fun h0 => absurd h0 (Nat.lt_irrefl 0)⟩
  · obtain rfl : v = .slice (some a) len cap := by simpa using hcs
    have hll : len ≤ m := by rw [hmm]; split <;> omega
    have each : ∀ i, i < m → w.cell? (a.add (i * 2)) = some (.int .i64 (intV (V0 i))) ∧ w.cell? (a.add (i * 2 + 1)) = some (.string (strV (V1 i))) ∧ (strV (V1 i)).size ≤ maxLen := by
      intro i hi
      obtain ⟨h0, h1, h2, h3⟩ := hx i hi
      obtain ⟨z, e0, _⟩ := DataW.trod_int u0 h2
      obtain ⟨s, e1, _, hs⟩ := DataW.trod_string u1 h3
      obtain e0' : V0 i = .int .i64 z := by simpa using e0
      obtain e1' : V1 i = .string s := by simpa using e1
      rw [h0, h1, e0', e1']
      exact ⟨rfl, rfl, hs⟩
    refine ⟨(List.range len).map fun i => (intV (V0 i), strV (V1 i)), some a, cap, by simp, by simpa using hl, hm, fun y hy => ?_, fun h0 => ?_⟩
    · obtain ⟨i, hi, rfl⟩ := List.mem_map.1 hy
      exact (each i (by have := List.mem_range.1 hi; omega)).2.2
    · have h0' : 0 < len := by simpa using h0
      have ha := spot_none (w := w) (a := a) (v := .int .i64 (intV (V0 0))) (by simpa using (each 0 (by omega)).1)
      refine ⟨a.block, a.off, by rw [← ha], ?_, fun i hi => ?_⟩
      · have := World.block_lt_of_cell? w _ (each 0 (by omega)).1
        simpa [Addr.add] using this
      · have hi' : i < len := by simpa using hi
        obtain ⟨z0, z1, _⟩ := each i (by omega)
        rw [ha, Addr.add_lit] at z0 z1
        simp only [List.getElem_map, List.getElem_range]
        exact ⟨z0, by rw [Nat.add_assoc]; exact z1⟩
end Go.Proofs.YtnpbmaajgiapmaaGreatDoor
/- What the program says of one pending thing. -/
namespace Go.Proofs.YtnpbmaajgiapmaaGreatDoor
open Go.RowKit

/-- The nearest place that is there; the text's first bytes. -/
def fitA (A : Int) (n : Nat) : Int := if (n : Int) - 1 < (if A < 0 then 0 else A) then (n : Int) - 1 else (if A < 0 then 0 else A)
def fitD (D : ByteArray) : ByteArray := D.extract 0 (if 64 < (D.size : Int) then 64 else (D.size : Int)).toNat
theorem fitA_in {A : Int} {n : Nat} (h0 : 0 ≤ A) (h1 : A ≤ (n : Int) - 1) : fitA A n = A := by
  unfold fitA
  rw [if_neg (show ¬ A < 0 by omega), if_neg (by omega)]
theorem fitA_out {A : Int} {n : Nat} (hn : 1 ≤ n) (h : ¬ (0 ≤ A ∧ A ≤ (n : Int) - 1)) : fitA A n ≠ A := by
  unfold fitA
  split <;> split at * <;> omega
theorem fitD_in {D : ByteArray} (h : D.size ≤ 64) : fitD D = D := by
  unfold fitD
  rw [if_neg (by omega)]
  simp
theorem fitD_out {D : ByteArray} (h : ¬ D.size ≤ 64) : fitD D ≠ D := by
  unfold fitD
  rw [if_pos (by omega)]
  intro e
  have := congrArg ByteArray.size e
  simp at this
  omega

set_option maxHeartbeats 2000000 in
theorem fitPending_any (A : Int) (D : ByteArray) (n : Nat) (w : World) (hD : D.size ≤ maxLen) (h1 : 1 ≤ n) (h2 : n ≤ 64) :
    Calls Tryz.prog 147 #[.agg #[.int .i64 A, .string D], .int .i64 n] w fun e w' =>
      e = .returned (.agg #[.int .i64 (fitA A n), .string (fitD D)]) ∧ Below w.heap.size w w' := by
  unfold maxLen at hD
  have e1 : IntKind.i64.wrap ((n : Int) - 1) = (n : Int) - 1 := by rw [IntKind.wrap_i64]; omega
  have HF := hide (show fitA A n = if (n : Int) - 1 < (if A < 0 then 0 else A) then (n : Int) - 1 else (if A < 0 then 0 else A) from rfl)
  have HD := hide (show fitD D = D.extract 0 (if 64 < (D.size : Int) then 64 else (D.size : Int)).toNat from rfl)
  go_enter Tryz.func147, Tryz.ntmps147
  go_wp2
  go_region
  rw [← HF.out, ← HD.out]
  generalize (if A < 0 then 0 else A) = M
  generalize (if 64 < (D.size : Int) then 64 else (D.size : Int)) = L
  go_wp2
  exact bodyPost_ret (v := .agg #[.int .i64 (fitA A n), .string (fitD D)]) (by simp [results, Tryz.results147, go_sem]) rfl
    ⟨rfl, (((Below.refl _ _).alloc (Nat.le_refl _) _).alloc (by simp) _).drew⟩

/-- What is told of a pending thing: nothing, or one of two errors. -/
def pendFault (vF vR : Value) (A : Int) (D : ByteArray) (n : Nat) : Value :=
  if D.size ≤ 64 then (if 0 ≤ A ∧ A ≤ (n : Int) - 1 then .nilIface else vR) else vF

theorem fitD_lists {D : ByteArray} (h : ¬ D.size ≤ 64) : ((fitD D).toList == D.toList) = false := by
  rw [ByteArray.toList_eq, ByteArray.toList_eq]
  exact beq_eq_false_iff_ne.2 fun e => fitD_out h (ByteArray.ext (Array.ext' e))

set_option maxHeartbeats 2000000 in
theorem pendingFault_any (A : Int) (D : ByteArray) (n : Nat) (vF vR : Value) (w : World) (hD : D.size ≤ maxLen) (h1 : 1 ≤ n) (h2 : n ≤ 64)
    (hF : w.cell? ⟨0, 0, none⟩ = some vF) (hR : w.cell? ⟨1, 0, none⟩ = some vR) :
    Calls Tryz.prog 126 #[.agg #[.int .i64 A, .string D], .int .i64 n] w fun e w' =>
      e = .returned (pendFault vF vR A D n) ∧ Below w.heap.size w w' := by
  have hb0 : Below w.heap.size w (w.alloc (.cells #[.int .i64 A, .string D] 92)) := (Below.refl _ _).alloc (Nat.le_refl _) _
  have HB0 := hide hb0
  have HR0 := hide (row_new w [.int .i64 A, .string D] 92)
  have lF : 0 < w.heap.size := World.block_lt_of_cell? w ⟨0, 0, none⟩ hF
  have lR : 1 < w.heap.size := World.block_lt_of_cell? w ⟨1, 0, none⟩ hR
  clear hb0
  have HE := hide (show pendFault vF vR A D n = if D.size ≤ 64 then (if 0 ≤ A ∧ A ≤ (n : Int) - 1 then .nilIface else vR) else vF from rfl)
  by_cases hin : 0 ≤ A ∧ A ≤ (n : Int) - 1
  · by_cases hz : D.size ≤ 64
    · have HA := hide (fitA_in hin.1 hin.2)
      have HD := hide (fitD_in hz)
      rw [if_pos hz, if_pos hin] at HE
      rw [HE.out]
      go_enter Tryz.func126, Tryz.ntmps126
      go_wp2_with fail
      refine (fitPending_any A D n _ hD h1 h2).mono ?_
      try rw [HA.out]
      try rw [HD.out]
      rintro e w1 ⟨rfl, hb1⟩
      have bn := below_new w1 (.cells #[.int .i64 A, .string D] 92)
      have hb2 := hb1.trans (bn.mono hb1.size)
      have R1 := Row.after hb2 HR0.out
      have HB1 := hide (HB0.out.trans (hb2.mono HB0.out.size))
      have a0 : (w1.alloc (.cells #[.int .i64 A, .string D] 92)).cell? ⟨w.heap.size, 0, none⟩ = some (.int .i64 A) := R1.cell 0
      have a1 : (w1.alloc (.cells #[.int .i64 A, .string D] 92)).cell? ⟨w.heap.size, 1, none⟩ = some (.string D) := R1.cell 1
      have f1 : (w1.alloc (.cells #[.int .i64 A, .string D] 92)).cell? ⟨0, 0, none⟩ = some vF := by rw [HB1.out.cell (p := ⟨0, 0, none⟩) lF]; exact hF
      have f2 : (w1.alloc (.cells #[.int .i64 A, .string D] 92)).cell? ⟨1, 0, none⟩ = some vR := by rw [HB1.out.cell (p := ⟨1, 0, none⟩) lR]; exact hR
      clear hb1 hb2 bn R1 HR0
      go_wp2
      go_ret
      exact ⟨rfl, HB1.out⟩
    · have hne := fitD_out hz
      have HA := hide (fitA_in hin.1 hin.2)
      have HD := hide (show fitD D = fitD D from rfl)
      have hdl := fitD_lists hz
      rw [if_neg hz] at HE
      rw [HE.out]
      go_enter Tryz.func126, Tryz.ntmps126
      go_wp2_with fail
      refine (fitPending_any A D n _ hD h1 h2).mono ?_
      try rw [HA.out]
      try rw [HD.out]
      rintro e w1 ⟨rfl, hb1⟩
      have bn := below_new w1 (.cells #[.int .i64 A, .string (fitD D)] 92)
      have hb2 := hb1.trans (bn.mono hb1.size)
      have R1 := Row.after hb2 HR0.out
      have HB1 := hide (HB0.out.trans (hb2.mono HB0.out.size))
      have a0 : (w1.alloc (.cells #[.int .i64 A, .string (fitD D)] 92)).cell? ⟨w.heap.size, 0, none⟩ = some (.int .i64 A) := R1.cell 0
      have a1 : (w1.alloc (.cells #[.int .i64 A, .string (fitD D)] 92)).cell? ⟨w.heap.size, 1, none⟩ = some (.string D) := R1.cell 1
      have f1 : (w1.alloc (.cells #[.int .i64 A, .string (fitD D)] 92)).cell? ⟨0, 0, none⟩ = some vF := by rw [HB1.out.cell (p := ⟨0, 0, none⟩) lF]; exact hF
      have f2 : (w1.alloc (.cells #[.int .i64 A, .string (fitD D)] 92)).cell? ⟨1, 0, none⟩ = some vR := by rw [HB1.out.cell (p := ⟨1, 0, none⟩) lR]; exact hR
      clear hb1 hb2 bn R1 HR0
      go_wp2
      go_ret
      exact ⟨rfl, HB1.out⟩
  · have hna := fitA_out h1 hin
    by_cases hz : D.size ≤ 64
    · have HA := hide (show fitA A n = fitA A n from rfl)
      have HD := hide (fitD_in hz)
      rw [if_pos hz, if_neg hin] at HE
      rw [HE.out]
      go_enter Tryz.func126, Tryz.ntmps126
      go_wp2_with fail
      refine (fitPending_any A D n _ hD h1 h2).mono ?_
      try rw [HA.out]
      try rw [HD.out]
      rintro e w1 ⟨rfl, hb1⟩
      have bn := below_new w1 (.cells #[.int .i64 (fitA A n), .string D] 92)
      have hb2 := hb1.trans (bn.mono hb1.size)
      have R1 := Row.after hb2 HR0.out
      have HB1 := hide (HB0.out.trans (hb2.mono HB0.out.size))
      have a0 : (w1.alloc (.cells #[.int .i64 (fitA A n), .string D] 92)).cell? ⟨w.heap.size, 0, none⟩ = some (.int .i64 A) := R1.cell 0
      have a1 : (w1.alloc (.cells #[.int .i64 (fitA A n), .string D] 92)).cell? ⟨w.heap.size, 1, none⟩ = some (.string D) := R1.cell 1
      have f1 : (w1.alloc (.cells #[.int .i64 (fitA A n), .string D] 92)).cell? ⟨0, 0, none⟩ = some vF := by rw [HB1.out.cell (p := ⟨0, 0, none⟩) lF]; exact hF
      have f2 : (w1.alloc (.cells #[.int .i64 (fitA A n), .string D] 92)).cell? ⟨1, 0, none⟩ = some vR := by rw [HB1.out.cell (p := ⟨1, 0, none⟩) lR]; exact hR
      clear hb1 hb2 bn R1 HR0
      go_wp2
      go_ret
      exact ⟨rfl, HB1.out⟩
    · have hne := fitD_out hz
      have HA := hide (show fitA A n = fitA A n from rfl)
      have HD := hide (show fitD D = fitD D from rfl)
      have hdl := fitD_lists hz
      rw [if_neg hz] at HE
      rw [HE.out]
      go_enter Tryz.func126, Tryz.ntmps126
      go_wp2_with fail
      refine (fitPending_any A D n _ hD h1 h2).mono ?_
      try rw [HA.out]
      try rw [HD.out]
      rintro e w1 ⟨rfl, hb1⟩
      have bn := below_new w1 (.cells #[.int .i64 (fitA A n), .string (fitD D)] 92)
      have hb2 := hb1.trans (bn.mono hb1.size)
      have R1 := Row.after hb2 HR0.out
      have HB1 := hide (HB0.out.trans (hb2.mono HB0.out.size))
      have a0 : (w1.alloc (.cells #[.int .i64 (fitA A n), .string (fitD D)] 92)).cell? ⟨w.heap.size, 0, none⟩ = some (.int .i64 A) := R1.cell 0
      have a1 : (w1.alloc (.cells #[.int .i64 (fitA A n), .string (fitD D)] 92)).cell? ⟨w.heap.size, 1, none⟩ = some (.string D) := R1.cell 1
      have f1 : (w1.alloc (.cells #[.int .i64 (fitA A n), .string (fitD D)] 92)).cell? ⟨0, 0, none⟩ = some vF := by rw [HB1.out.cell (p := ⟨0, 0, none⟩) lF]; exact hF
      have f2 : (w1.alloc (.cells #[.int .i64 (fitA A n), .string (fitD D)] 92)).cell? ⟨1, 0, none⟩ = some vR := by rw [HB1.out.cell (p := ⟨1, 0, none⟩) lR]; exact hR
      clear hb1 hb2 bn R1 HR0
      go_wp2
      go_ret
      exact ⟨rfl, HB1.out⟩
end Go.Proofs.YtnpbmaajgiapmaaGreatDoor
