/- A text copied byte by byte: the same bytes. -/
import Derived.Test.YtkmehbgepkilkaaGreatDoorXGSCopy
import Derived.Lib.Strings
import Derived.Lib.BufferWrite
import Derived.Lib.UnsafeStr
import Derived.Laws.MakeOwn
namespace Go.Proofs.YtkmehbgepkilkaaGreatDoor
open Go.RowKit

theorem Tryz.infoByteK : (Tryz.prog.info? 5).map (fun i => (i.zero, i.size, i.bytes)) = some (some (.int .u8 0), 1, 1) := by kernel_rfl

set_option maxHeartbeats 4000000 in
set_option maxRecDepth 100000 in
theorem inClone_any (s : ByteArray) (w : World) (hlim : s.size ≤ 281474976710656) :
    Calls Tryz.prog 81 #[.string s] w fun e w' => e = .returned (.string s) ∧ Below w.heap.size w w' := by
  by_cases h0 : s.size = 0
  · obtain rfl : s = ⟨#[]⟩ := ByteArray.ext (Array.eq_empty_of_size_eq_zero h0)
    go_enter Tryz.func81, Tryz.ntmps81
    go_wp2
    go_ret
    exact ⟨rfl, Below.refl _ _⟩
  · obtain ⟨i0, hi, hz0, hz1, hz2⟩ := info_parts Tryz.infoByteK
    have hinfo : (Tryz.prog.info? 5).map (·.size) = some 1 := by rw [hi]; simp [hz1]
    have hco : Tryz.prog.cellsOf 5 = 1 := by simp [Program.cellsOf, hi, hz1]
    obtain ⟨M, hM⟩ : ∃ M, M = madeCells (Value.int .u8 0).cells (((s.size : Nat) : Int).toNat * i0.size) := ⟨_, rfl⟩
    have hMs : M.size = s.size := by rw [hM, size_madeCells, hz1]; simp
    have hmk : ∀ W : World, (Instr.makeSlice 22 (.int .i64 (s.size : Int)) (.int .i64 (s.size : Int))).run Tryz.prog W = .ok (.slice (some ⟨W.heap.size, 0, none⟩) s.size s.size) (W.alloc (.cells M 5)) := fun W => by
      have h := run_make (P := Tryz.prog) W 22 5 i0 (.int .u8 0) Tryz.underlying22 hi hz0 .i64 .i64 (s.size : Int) (s.size : Int) (by omega) (by omega) (by rw [hz2]; omega) (by omega)
      rw [← hM] at h
      simpa using h
    clear hM
    have hcp := Lib.run_copy_row_string (P := Tryz.prog) (w.alloc (.cells M 5)) 22 9 3 5 w.heap.size 0 s.size s.size s M 5 Tryz.underlying22 hinfo (heap_alloc_new w _) (Nat.le_refl _) (by omega)
    obtain ⟨Y, hY⟩ : ∃ Y, Y = (M.toList.take 0 ++ Lib.byteCells s.data.toList ++ M.toList.drop (0 + s.size)).toArray := ⟨_, rfl⟩
    rw [← hY] at hcp
    have hYl : Y.toList = Lib.byteCells s.data.toList := by
      rw [hY, List.toList_toArray, List.take_zero, List.nil_append, List.drop_of_length_le (by rw [Array.length_toList]; omega), List.append_nil]
    have hYs : Y.size = s.size := by rw [← Array.length_toList, hYl, Lib.byteCells_length, ← Lib.size_eq]
    have hgY : ((w.alloc (.cells M 5)).setRow w.heap.size Y).heap[w.heap.size]? = some (.cells Y 5 (0, 0)) := setRow_heap _ _ M _ 5 (0, 0) (heap_alloc_new w _)
    have hne : s.data.toList ≠ [] := fun e => h0 (by rw [Lib.size_eq, e]; rfl)
    have hUS := Lib.run_unsafeString_row (P := Tryz.prog) ((w.alloc (.cells M 5)).setRow w.heap.size Y) 123 3 9 5 Tryz.underlying123 hco w.heap.size Y.size (by unfold World.shape?; rw [hgY]) s.data.toList hne (by rw [← Lib.size_eq]; omega) (by rw [← Lib.size_eq]; omega)
      (fun j x hx => Lib.cells_of_row hgY Y.size j _ (by rw [List.take_of_length_le (by rw [Array.length_toList]; exact Nat.le_refl _), hYl]; simp [Lib.byteCells, hx]))
    rw [← Lib.size_eq] at hUS
    clear hY
    go_enter Tryz.func81, Tryz.ntmps81
    go_wp2
    go_ret
    have hb1 : Below w.heap.size w (w.alloc (.cells M 5)) := (Below.refl _ w).alloc (Nat.le_refl _) _
    have hb2 : Below w.heap.size (w.alloc (.cells M 5)) ((w.alloc (.cells M 5)).setRow w.heap.size Y) := ⟨rfl, rfl, rfl, by simp, fun k hk => setRow_other _ _ _ _ (by omega)⟩
    exact ⟨rfl, Lib.below_freeze (hb1.trans hb2) (p := ⟨w.heap.size, 0, none⟩) (Nat.le_refl _) _⟩
theorem clone_any (s : ByteArray) (w : World) (hlim : s.size ≤ 281474976710656) :
    Calls Tryz.prog 65 #[.string s] w fun e w' => e = .returned (.string s) ∧ Below w.heap.size w w' := by
  go_enter Tryz.func65, Tryz.ntmps65
  go_wp2_with fail
  refine (inClone_any s _ hlim).mono ?_
  rintro e w1 ⟨rfl, hb⟩
  have HB := hide hb
  clear hb
  go_wp2
  go_ret
  exact ⟨rfl, HB.out⟩
end Go.Proofs.YtkmehbgepkilkaaGreatDoor

/- The program's copies of lists and disks. -/
namespace Go.Proofs.YtkmehbgepkilkaaGreatDoor
open Go.RowKit

set_option maxHeartbeats 1000000 in
theorem copyTexts_any (v : Value) (xs : List ByteArray) (w : World) (hn : xs.length ≤ 1048576) (hm : ∀ x ∈ xs, x.size ≤ 1048576) (hr : Reads w v xs) :
    Calls Tryz.prog 66 #[v] w fun e w' => e = .returned (.slice (some ⟨w.heap.size, 0, none⟩) xs.length xs.length) ∧ Row w' w.heap.size 9 (strs xs) ∧ Below w.heap.size w w' := by
  obtain ⟨i0, hi, hz0, hz1, hz2⟩ := info_parts Tryz.infoStr
  have HM := hide hm
  obtain ⟨p, cap, rfl, h1, h2, h3, h4⟩ := hr
  have H4 := hide h4
  clear h3 h4 hm
  go_enter Tryz.func66, Tryz.ntmps66
  go_wp2_with (at_make; refine wpList_make_full _ rfl _ _ 23 rfl w.heap.size 9 i0 (.string ⟨#[]⟩) 1 Tryz.underlying23 hi hz0 hz1 _ _ _ _ xs.length rfl rfl rfl rfl ?b2 ?b3 (Nat.le_refl _) ?_)
  case b2 => rw [hz2]; omega
  case b3 => unfold maxLen; omega
  intro w1 hown hgrow
  obtain ⟨Z, hZ, hZl⟩ := own_row hown
  rw [Nat.mul_one] at hZl
  have hb1 : Below w.heap.size w w1 := (Below.refl _ _).grown hgrow (Nat.le_refl _) (by simp)
  have HZ := hide hZ
  have HB := hide hb1
  have HL := hide hZl
  clear hZ hown hgrow hb1 hZl
  go_wp2_with fail
  go_loopw [11] (fun i wr => ∃ k : Nat, k ≤ xs.length ∧ i = .int .i64 k ∧ Hid (Row wr w.heap.size 9 (strs (xs.take k) ++ Z.drop k)) ∧ Hid (Below w.heap.size w wr)) (fun i _ => xs.length - (intOf i).toNat)
  case atStart => exact ⟨0, Nat.zero_le _, rfl, HZ.out, HB⟩
  case round =>
    obtain ⟨k, hk, rfl, HRow, HBel⟩ := hrel
    by_cases hlt : k < xs.length
    · obtain ⟨g, off, hp, hg, hc⟩ := H4.out (by omega)
      subst hp
      have hck : wr.cell? ⟨g, off + k, none⟩ = some (.string (xs[k]'hlt)) := by rw [HBel.out.cell (p := ⟨g, off + k, none⟩) hg]; exact hc k hlt
      have HS := hide (HM.out _ (List.getElem_mem hlt))
      obtain ⟨D, hD⟩ : ∃ D, D = xs[k]'hlt := ⟨_, rfl⟩
      have HD := hide hD
      rw [← hD] at hck HS
      clear hD hc
      go_wp2_with fail
      refine (clone_any D _ (by have := HS.out; omega)).mono ?_
      rintro e w2 ⟨rfl, hb2⟩
      have hrow2 := HRow.out.below hb2 HRow.out.lt
      obtain ⟨u, hu⟩ := hrow2.some k (by rw [len_next xs Z k hk HL.out]; exact hlt)
      have hf := hrow2.free k
      have hnext := hrow2.set (j := k) (.string (xs[k]'hlt))
      rw [set_next xs Z k hlt HL.out, ← HD.out] at hnext
      have HN := hide hnext
      have HB2 := hide ((HBel.out.trans (hb2.mono HBel.out.size)).setCell (p := ⟨w.heap.size, k, none⟩) (Nat.le_refl _) (.string D))
      clear hnext hrow2 hb2 hck
      go_wp2
      go_roundw
      case rel => exact ⟨k + 1, by omega, by go_num, HN, HB2⟩
      case measure => simp [intOf]; omega
    · have HE : Hid (Row wr w.heap.size 9 (strs xs)) := by
        have := HRow.out
        rw [List.take_of_length_le (by omega), List.drop_eq_nil_of_le (by rw [HL.out]; omega), List.append_nil] at this
        exact this
      go_wp2
      go_ret
      exact ⟨rfl, HE.out, HBel.out⟩

set_option maxHeartbeats 4000000 in
theorem copyDisk_own (vs vp : Value) (xs : List ByteArray) (ps : List (Int × ByteArray)) (w : World) (hr : Reads w vs xs) (hp : ReadsP w vp ps) (hs : Small xs ps) :
    Calls Tryz.prog 30 #[.agg #[vs, vp]] w fun e w' => (∃ us up, e = .returned (.agg #[us, up]) ∧ OwnS 9 w.heap.size w' us xs ∧ OwnP 61 w.heap.size w' up ps ∧ (∀ x ∈ leads us, x ∉ leads up) ∧ (ps = [] → ∃ b, up = .slice (some b) 0 0)) ∧ Below w.heap.size w w' := by
  obtain ⟨i0, hi, hz0, hz1, hz2⟩ := info_parts Tryz.infoPend
  obtain ⟨s1, s2, s3, s4⟩ := hs
  have hm1 : ∀ x ∈ xs, x.size ≤ maxLen := fun x hx => by have := s2 x hx; unfold maxLen; omega
  have hm2 : ∀ x ∈ ps, x.2.size ≤ maxLen := fun x hx => by have := s4 x hx; unfold maxLen; omega
  have HM1 := hide hm1
  have HM2 := hide hm2
  have HS2 := hide s2
  have HS4 := hide s4
  clear hm1 hm2 s2 s4
  have hb0 : Below w.heap.size w ((w.alloc (.cells #[vs, vp] 26)).alloc (.cells #[.slice none 0 0, .slice none 0 0] 26)) :=
    ((Below.refl _ _).alloc (Nat.le_refl _) _).alloc (by simp) _
  have HR := hide (hr.below hb0 (Nat.le_refl _))
  have HP := hide (hp.below hb0 (Nat.le_refl _))
  have HB0 := hide hb0
  obtain ⟨p1, c1, rfl, h1r⟩ := hr
  obtain ⟨p2, c2, rfl, h2r⟩ := hp
  have HN0 := hide ((row_new w [.slice p1 xs.length c1, .slice p2 ps.length c2] 26).alloc (.cells #[.slice none 0 0, .slice none 0 0] 26))
  have R1 := row_new (w.alloc (.cells #[.slice p1 xs.length c1, .slice p2 ps.length c2] 26)) [.slice none 0 0, .slice none 0 0] 26
  simp only [World.size_alloc] at R1
  have HN1 := hide R1
  obtain ⟨W0, hW0⟩ : ∃ W0, W0 = ((w.alloc (.cells #[.slice p1 xs.length c1, .slice p2 ps.length c2] 26)).alloc (.cells #[.slice none 0 0, .slice none 0 0] 26)) := ⟨_, rfl⟩
  have hsz : W0.heap.size = w.heap.size + 1 + 1 := by rw [hW0]; simp
  rw [← hW0] at HR HP HB0 HN0 HN1
  have HSZ := hide hsz
  have HW0 := hide hW0
  clear hb0 h1r h2r R1 hsz hW0
  go_enter Tryz.func30, Tryz.ntmps30
  go_wp2_with (at_make; refine wpList_make_full _ rfl _ _ 24 rfl (w.heap.size + 1 + 1) 61 i0 (.agg #[.int .i64 0, .string ⟨#[]⟩]) 2 Tryz.underlying24 hi hz0 hz1 _ _ _ _ ps.length rfl rfl rfl rfl ?b2 ?b3 (by simp) ?_)
  case b2 => rw [hz2]; omega
  case b3 => unfold maxLen; omega
  rw [← HW0.out]
  intro w1 hown hgrow
  obtain ⟨Z, hZ, hZl⟩ := own_row hown
  have hb1 : Below W0.heap.size W0 w1 := (Below.refl _ _).grown hgrow (Nat.le_refl _) (by simp)
  have HZ := hide hZ
  have HB1 := hide hb1
  have HL := hide hZl
  have a1 : w1.cell? ⟨w.heap.size, 1, none⟩ = some (.slice p2 ps.length c2) := (Row.after hb1 HN0.out).cell 1
  clear hZ hown hgrow hb1 hZl hi hz0 hz1 hz2 i0
  go_wp2_with fail
  go_loopw [13] (fun i wr => ∃ k : Nat, k ≤ ps.length ∧ i = .int .i64 k ∧ Hid (Row wr (w.heap.size + 1 + 1) 61 (pcs (ps.take k) ++ Z.drop (k * 2))) ∧ Hid (Below W0.heap.size W0 wr)) (fun i _ => ps.length - (intOf i).toNat)
  case atStart => exact ⟨0, Nat.zero_le _, rfl, HZ.out, HB1⟩
  case round =>
    obtain ⟨k, hk, rfl, HRow, HBel⟩ := hrel
    by_cases hlt : k < ps.length
    · obtain ⟨g, off, hp, hg, hc⟩ : ∃ g off, p2 = some ⟨g, off, none⟩ ∧ _ := by
        obtain ⟨p, cap, he, _, _, _, h4⟩ := HP.out
        cases he
        exact h4 (by omega)
      subst hp
      obtain ⟨hc0, hc1⟩ := hc k hlt
      have hk0 := (HBel.out.cell (p := ⟨g, off + k * 2, none⟩) hg).trans hc0
      have hk1 := (HBel.out.cell (p := ⟨g, off + k * 2 + 1, none⟩) hg).trans hc1
      have HS := hide (HS4.out _ (List.getElem_mem hlt))
      have hki : (k : Int) < (ps.length : Int) := by omega
      have HLN := hide (len_nextP ps Z k hk HL.out)
      have HNX := hide (set_nextP ps Z k hlt HL.out)
      obtain ⟨A, hA⟩ : ∃ A, A = (ps[k]'hlt).1 := ⟨_, rfl⟩
      obtain ⟨D, hD⟩ : ∃ D, D = (ps[k]'hlt).2 := ⟨_, rfl⟩
      rw [← hA] at hk0 HNX
      rw [← hD] at hk1 HS HNX
      have bn := below_new wr (.cells #[.int .i64 A, .string D] 61)
      have HBn := hide (HBel.out.trans (bn.mono HBel.out.size))
      have HRn := hide (Row.after bn HRow.out)
      have HPn := hide (row_new wr [.int .i64 A, .string D] 61)
      clear hA hD hc hc0 hc1 hg bn HBel HRow
      go_wp2_with fail
      go_region_with (go_at_call 65; refine (clone_any D _ (by have := HS.out; omega)).mono ?_; rintro e w2 ⟨rfl, hb2⟩; have HP2 := hide (Row.after hb2 HPn.out); have hrow2 := Row.after hb2 HRn.out; obtain ⟨u0, hu0⟩ := hrow2.some (k * 2) (by have := HLN.out; omega); obtain ⟨u1, hu1⟩ := hrow2.some (k * 2 + 1) (by have := HLN.out; omega); have hf0 := hrow2.free (k * 2); have hf1 := hrow2.free (k * 2 + 1); have q0 : w2.cell? ⟨wr.heap.size, 0, none⟩ = some (.int .i64 A) := HP2.out.cell 0; have q1 : w2.cell? ⟨wr.heap.size, 1, none⟩ = some (.string D) :=HP2.out.cell 1)
      all_goals
        have hnext := (hrow2.set (j := k * 2) (.int .i64 A)).set (j := k * 2 + 1) (.string D)
        rw [HNX.out] at hnext
        have HN := hide hnext
        have HB2 := hide (((HBn.out.trans ((below_drew hb2).mono HBn.out.size)).setCell (p := ⟨w.heap.size + 1 + 1, k * 2, none⟩) (by have := HSZ.out; show W0.heap.size ≤ w.heap.size + 1 + 1; omega) (.int .i64 A)).setCell (p := ⟨w.heap.size + 1 + 1, k * 2 + 1, none⟩) (by have := HSZ.out; show W0.heap.size ≤ w.heap.size + 1 + 1; omega) (.string D))
        clear hnext hrow2 hb2 hk0 hk1 q0 q1 hu0 hu1 hf0 hf1 HP2
        go_wp2
        go_roundw
        case rel => exact ⟨k + 1, by omega, by go_num, HN, HB2⟩
        case measure => simp [intOf]; omega
    · have HE : Hid (Row wr (w.heap.size + 1 + 1) 61 (pcs ps)) := by
        have := HRow.out
        rw [List.take_of_length_le (by omega), List.drop_eq_nil_of_le (by rw [HL.out]; omega), List.append_nil] at this
        exact this
      have a0 : wr.cell? ⟨w.heap.size, 0, none⟩ = some (.slice p1 xs.length c1) := (Row.after HBel.out HN0.out).cell 0
      have HRr := hide (HR.out.below HBel.out (Nat.le_refl _))
      clear HRow a1
      go_wp2_with fail
      refine (copyTexts_any _ xs _ s1 HS2.out HRr.out).mono ?_
      rintro e w3 ⟨rfl, hrow3, hb3⟩
      have HB3 := hide (HBel.out.trans (hb3.mono HBel.out.size))
      have R3 := Row.after HB3.out HN1.out
      have HE3 := hide (Row.after hb3 HE.out)
      have HT3 := hide hrow3
      have hlt3 := HE.out.lt
      have c0 : w3.cell? ⟨w.heap.size + 1, 0, none⟩ = some (.slice none 0 0) := R3.cell 0
      have c1' : w3.cell? ⟨w.heap.size + 1, 1, none⟩ = some (.slice none 0 0) := R3.cell 1
      have f0 := R3.free 0
      have f1 := R3.free 1
      have HR3 := hide R3
      clear hrow3 hb3 R3 a0
      go_wp2
      obtain ⟨z0, z1, KF⟩ := two HR3.out (.slice (some ⟨wr.heap.size, 0, none⟩) xs.length xs.length) (.slice (some ⟨w.heap.size + 1 + 1, 0, none⟩) ps.length ps.length)
      have B3 := HB0.out.trans (HB3.out.mono HB0.out.size)
      refine bodyPost_ret (v := .agg #[.slice (some ⟨wr.heap.size, 0, none⟩) xs.length xs.length, .slice (some ⟨w.heap.size + 1 + 1, 0, none⟩) ps.length ps.length]) (by simp [results, Tryz.results30, go_sem, z0, z1]) rfl
        ⟨⟨_, _, rfl, ⟨HM1.out, .inr ⟨wr.heap.size, [], by simp, by simp; unfold maxLen; omega, by omega, by simpa using KF.row HT3.out (by simp; omega)⟩⟩,
          ⟨HM2.out, .inr ⟨w.heap.size + 1 + 1, ps.length, [], rfl, Nat.le_refl _, by unfold maxLen; omega, by simp, by omega, by simpa using KF.row HE3.out (by simp)⟩⟩,
          fun x hx hy => by have e1 := leads_eq hx; have e2 := leads_eq hy; omega, fun h => ⟨⟨w.heap.size + 1 + 1, 0, none⟩, by rw [h]; rfl⟩⟩, KF.toBelow B3 B3.size (by simp)⟩
theorem copyDisk_any (vs vp : Value) (xs : List ByteArray) (ps : List (Int × ByteArray)) (w : World) (hr : Reads w vs xs) (hp : ReadsP w vp ps) (hs : Small xs ps) :
    Calls Tryz.prog 30 #[.agg #[vs, vp]] w fun e w' => DiskIs w.heap.size e w' xs ps ∧ Below w.heap.size w w' :=
  (copyDisk_own vs vp xs ps w hr hp hs).mono fun _ _ ⟨⟨us, up, e, o1, o2, dd, _⟩, hb⟩ => ⟨⟨us, up, e, o1, o2, dd⟩, hb⟩
end Go.Proofs.YtkmehbgepkilkaaGreatDoor
