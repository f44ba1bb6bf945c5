/- DiskFlush, as the specification does it. -/
import Derived.Test.YtnpbmaajgiapmaaGreatDoorXG20SSeenAll
import Derived.Test.YtnpbmaajgiapmaaGreatDoorXG13Pend
namespace Go.Proofs.YtnpbmaajgiapmaaGreatDoor
open Go.RowKit

theorem wpList_copyS {P : Program} (w : World) {ops : Array Oper} {rest : List Oper} {o : Oper} {a : Act} {Q : Exit → Act → World → Prop} (hgd : o.guard = none) (s x : Operand) (t : TypeId)
    (hop : o.op = Op.call { callee := Callee.builtin Builtin.append, args := #[s, x], argTypes := #[t, t] })
    (e : TypeId) (i : TypeInfo) (z : Value) (ht : P.underlying t = some (.slice e)) (hi : P.info? e = some i) (hz : i.zero = some z) (hs : i.size = 1) (hb : i.bytes = 16) (hzs : z.cells.size = 1)
    (b : Addr) (h1 : a.eval s = .slice (some b) 0 0) (v : Value) (h2 : a.eval x = v) (xs : List ByteArray) (hr : Reads w v xs) (hn : xs.length ≤ 1048576)
    (hK : ∀ p c w', OwnS e w.heap.size w' (.slice p xs.length c) xs → Below w.heap.size w w' → wpList P ops Q rest (a.put o.dst (.slice p xs.length c)) w') : wpList P ops Q (o :: rest) a w := by
  refine wpList_plain hgd fun K hK' => ?_
  obtain ⟨p, c, w', hrun, r1, r2⟩ := run_copyS (P := P) w t o.type e i z ht hi hz hs hb hzs b v xs hr hn
  unfold Oper.wp
  simp [execOp, hop, resolve, invoke, builtin, h1, h2, hrun, Result.andThen]
  exact hK' _ _ (hK p c w' r1 r2)

/-- The sectors with all of ps written to them, in order. -/
def applyP : List (Int × ByteArray) → List ByteArray → List ByteArray
  | [], xs => xs
  | x :: r, xs => applyP r (xs.set x.1.toNat x.2)
theorem applyP_step (ps : List (Int × ByteArray)) (k : Nat) (h : k < ps.length) (xs : List ByteArray) : applyP (ps.drop k) xs = applyP (ps.drop (k + 1)) (xs.set (ps[k]'h).1.toNat (ps[k]'h).2) := by
  rw [List.drop_eq_getElem_cons h]; rfl
def flushOut (xs : List ByteArray) (ps : List (Int × ByteArray)) : Out := if right xs ps then ⟨applyP ps xs, [], ⟨#[]⟩, 0⟩ else illOut 1
theorem right_at {xs : List ByteArray} {ps : List (Int × ByteArray)} (h : right xs ps = true) (j : Nat) (hj : j < ps.length) : 0 ≤ (ps[j]'hj).1 ∧ (ps[j]'hj).1 ≤ (xs.length : Int) - 1 ∧ (ps[j]'hj).2.size ≤ 64 := by
  unfold right at h
  simp only [Bool.and_eq_true] at h
  have := h.2
  unfold okP at this
  rw [List.all_eq_true] at this
  have := this _ (List.getElem_mem hj)
  simp at this
  omega
theorem right_len {xs : List ByteArray} {ps : List (Int × ByteArray)} (h : right xs ps = true) : 1 ≤ xs.length ∧ xs.length ≤ 64 ∧ ps.length ≤ 200 := by
  unfold right at h
  simp at h
  omega

theorem strs_set (ys : List ByteArray) (rest : List Value) (m : Nat) (d : ByteArray) (h : m < ys.length) : (strs ys ++ rest).set m (.string d) = strs (ys.set m d) ++ rest := by
  rw [List.set_append_left _ _ (by rw [strs_len]; exact h)]
  unfold strs
  rw [List.map_set]

set_option maxRecDepth 100000 in
set_option maxHeartbeats 4000000 in
theorem specFlush_nil (vs vp : Value) (xs : List ByteArray) (ps : List (Int × ByteArray)) (w : World) (hn : xs.length ≤ 1048576) (hn2 : ps.length ≤ 1048576) (hr : Reads w vs xs) (hp : ReadsP w vp ps) (hok : right xs ps = true) :
    Calls Tryz.prog 73 #[.agg #[vs, vp]] w fun e w' => (∃ us, e = .returned (.agg #[us, .slice none 0 0, .string ⟨#[]⟩, .int .i64 0]) ∧ OwnS 9 w.heap.size w' us (applyP ps xs)) ∧ Below w.heap.size w w' := by
  obtain ⟨i0, hi, hz0, hz1, hz2⟩ := info_parts Tryz.infoStr
  have hb0 : Below w.heap.size w ((w.alloc (.cells #[vs, vp] 30)).alloc (.cells #[.slice none 0 0, .slice none 0 0, .string ⟨#[]⟩, .int .i64 0] 101)) :=
    ((Below.refl _ _).alloc (Nat.le_refl _) _).alloc (by simp) _
  have HR := hide (hr.below hb0 (Nat.le_refl _))
  have HP := hide (hp.below hb0 (Nat.le_refl _))
  have HB0 := hide hb0
  obtain ⟨p1, c1, rfl, hq⟩ := hr
  obtain ⟨p2, c2, rfl, hq2⟩ := hp
  have R0 := (row_new w [.slice p1 xs.length c1, .slice p2 ps.length c2] 30).alloc (.cells #[.slice none 0 0, .slice none 0 0, .string ⟨#[]⟩, .int .i64 0] 101)
  have R1 := row_new (w.alloc (.cells #[.slice p1 xs.length c1, .slice p2 ps.length c2] 30)) [.slice none 0 0, .slice none 0 0, .string ⟨#[]⟩, .int .i64 0] 101
  simp only [World.size_alloc] at R1
  have HR0 := hide R0
  have HR1 := hide R1
  clear hb0 hq hq2 R1 R0
  go_enter Tryz.func73, Tryz.ntmps73
  go_wp2_with fail
  refine (specRight_any _ _ xs ps _ hn hn2 HR.out HP.out).mono ?_
  rw [hok]
  rintro e w1 ⟨rfl, hb1⟩
  have HB1 := hide (HB0.out.trans (hb1.mono HB0.out.size))
  have HX1 := hide (HR1.out.below hb1 (by simp))
  have HX0 := hide (HR0.out.below hb1 (by simp; omega))
  have HRa := hide (HR.out.below hb1 (Nat.le_refl _))
  have HPa := hide (HP.out.below hb1 (Nat.le_refl _))
  have a0 : w1.cell? ⟨w.heap.size, 0, none⟩ = some (.slice p1 xs.length c1) := HX0.out.cell 0
  have hl1 := HX1.out.lt
  clear hb1 HR HP HR0 HR1 HB0
  have ba : Below w1.heap.size w1 (w1.alloc (.cells #[] 9)) := (Below.refl _ _).alloc (Nat.le_refl _) _
  have HRb := hide (HRa.out.below ba (Nat.le_refl _))
  have a0' : (w1.alloc (.cells #[] 9)).cell? ⟨w.heap.size, 0, none⟩ = some (.slice p1 xs.length c1) := (HX0.out.alloc _).cell 0
  have HBa := hide ba
  clear ba
  go_wp2_with (at_builtin; refine wpList_copyS _ rfl _ _ 22 rfl 9 i0 (.string ⟨#[]⟩) Tryz.underlying22 hi hz0 hz1 hz2 rfl ⟨w1.heap.size, 0, none⟩ rfl (.slice p1 xs.length c1) rfl xs HRb.out hn ?_
               intro q1 d1 w2 ho1 hb2
               have HO1 := hide ho1
               have HB2 := hide hb2
               clear ho1 hb2)
  obtain ⟨l1, l2, l3⟩ := right_len hok
  obtain ⟨hx, ⟨_, _, _, _, hnil⟩ | ⟨U, rest, heq, hmx, hU, hrowU⟩⟩ := HO1.out
  · rw [hnil] at l1; cases l1
  cases heq
  have hU1 : w1.heap.size + 1 ≤ U := by simpa using hU
  have hU2 := hrowU.lt
  have hz : w1.heap.size + 1 ≤ w2.heap.size := by have := HB2.out.size; simpa using this
  obtain ⟨W, hW⟩ : ∃ W, W = w2.alloc (.cells #[.slice (some ⟨U, 0, none⟩) xs.length (xs.length + rest.length), .slice none 0 0] 30) := ⟨_, rfl⟩
  have b12 : Below w1.heap.size w1 W := by
    rw [hW]
    exact (HBa.out.trans (HB2.out.mono HBa.out.size)).alloc (by omega) _
  have RU : Row W U 9 (strs xs ++ rest) := by rw [hW]; exact hrowU.alloc _
  have RG : Row W w2.heap.size 30 [.slice (some ⟨U, 0, none⟩) xs.length (xs.length + rest.length), .slice none 0 0] := by rw [hW]; exact row_new w2 _ _
  have RN := HX1.out.below b12 hl1
  have R0' := HX0.out.below b12 HX0.out.lt
  have HPb := hide (HPa.out.below b12 (Nat.le_refl _))
  have LP := hide HPa.out.leads
  have HBW := hide (HB1.out.trans (b12.mono HB1.out.size))
  have HU := hide RU
  have HG := hide RG
  have HN := hide RN
  have H0 := hide R0'
  have hl0 := HX0.out.lt
  rw [← hW]
  clear hW RU RG RN R0' b12 HO1 HB2 HBa HRa HRb a0 a0' HX0 HX1 HPa HB1 hrowU hU hi hz0 hz1 hz2
  go_loopw [4] (fun i wr => ∃ (k : Nat) (ys : List ByteArray), k ≤ ps.length ∧ i = .int .i64 k ∧ ys.length = xs.length ∧ Hid (∀ y ∈ ys, y.size ≤ maxLen) ∧ Hid (applyP ps xs = applyP (ps.drop k) ys) ∧ Hid (Row wr U 9 (strs ys ++ rest)) ∧ Hid (Kept [U] W wr)) (fun i _ => ps.length - (intOf i).toNat)
  case atStart => exact ⟨0, xs, Nat.zero_le _, rfl, rfl, hx, rfl, HU.out, Kept.refl _ _⟩
  case round =>
    obtain ⟨j, ys, hj, rfl, hyl, HY, HS, HRow, HK⟩ := hrel
    have g0 : wr.cell? ⟨w2.heap.size, 0, none⟩ = some (.slice (some ⟨U, 0, none⟩) xs.length (xs.length + rest.length)) := (HK.out.row HG.out (by simp; omega)).cell 0
    have g1 : wr.cell? ⟨w2.heap.size, 1, none⟩ = some (.slice none 0 0) := (HK.out.row HG.out (by simp; omega)).cell 1
    have n1 : wr.cell? ⟨w.heap.size, 1, none⟩ = some (.slice p2 ps.length c2) := (HK.out.row H0.out (by simp; omega)).cell 1
    by_cases hlt2 : j < ps.length
    · have hpr := HK.out.readsP HPb.out (fun x hx => by have := LP.out x hx; simp; omega)
      obtain ⟨p, cap, he, _, _, _, h4⟩ := hpr
      cases he
      obtain ⟨g2, o2, rfl, hg2, hc2⟩ := h4 (by omega)
      obtain ⟨hk0, hk1⟩ := hc2 j hlt2
      have hgU : g2 < w1.heap.size := LP.out g2 (by obtain ⟨m, hm⟩ : ∃ m, ps.length = m + 1 := ⟨ps.length - 1, by omega⟩; rw [hm]; exact List.mem_singleton.2 rfl)
      have HT := hide (applyP_step ps j hlt2 ys)
      obtain ⟨s1, s2, s3⟩ := right_at hok j hlt2
      have hki : (j : Int) < (ps.length : Int) := by omega
      obtain ⟨A, hA⟩ : ∃ A, A = (ps[j]'hlt2).1 := ⟨_, rfl⟩
      obtain ⟨D, hD⟩ : ∃ D, D = (ps[j]'hlt2).2 := ⟨_, rfl⟩
      rw [← hA] at hk0 s1 s2
      rw [← hD] at hk1 s3
      rw [← hA, ← hD] at HT
      clear hA hD hc2 hg2 h4
      obtain ⟨m, rfl⟩ := Int.eq_ofNat_of_zero_le s1
      have hm : m < ys.length := by omega
      have hmi : (m : Int) < (xs.length : Int) := by omega
      have cU : wr.cell? ⟨U, m, none⟩ = some (.string (ys[m]'hm)) := by
        rw [HRow.out.cell, List.getElem?_append_left (by rw [strs_len]; exact hm)]
        simp [strs, hm]
      have fU := HRow.out.free m
      have HSS := hide (show ∀ x, Kept [U] wr x → x.cell? ⟨w2.heap.size, 0, none⟩ = some (.slice (some ⟨U, 0, none⟩) xs.length (xs.length + rest.length)) ∧ x.cell? ⟨w.heap.size, 1, none⟩ = some (.slice (some ⟨g2, o2, none⟩) ps.length c2) ∧ x.cell? ⟨g2, o2 + j * 2, none⟩ = some (.int .i64 (m : Int)) ∧ x.cell? ⟨g2, o2 + j * 2 + 1, none⟩ = some (.string D) from
        fun x h => ⟨h.cell g0 (by simp; omega), h.cell n1 (by simp; omega), h.cell hk0 (by simp; omega), h.cell hk1 (by simp; omega)⟩)
      go_wp2_with fail
      go_region_held3 (fun x => x.cell? ⟨w2.heap.size, 0, none⟩ = some (.slice (some ⟨U, 0, none⟩) xs.length (xs.length + rest.length)) ∧ x.cell? ⟨w.heap.size, 1, none⟩ = some (.slice (some ⟨g2, o2, none⟩) ps.length c2) ∧ x.cell? ⟨g2, o2 + j * 2, none⟩ = some (.int .i64 (m : Int)) ∧ x.cell? ⟨g2, o2 + j * 2 + 1, none⟩ = some (.string D))
        ((go_split_ands; refine HSS.out _ ?_; repeat (first | with_reducible exact Kept.refl _ _ | with_reducible refine Kept.drew ?_ | with_reducible refine Kept.set ?_ (by simp) _)))
        (fail)
      have HU1 := hide (show applyP ps xs = applyP (ps.drop (j + 1)) (ys.set m D) by rw [HS.out.trans HT.out]; rfl)
      have HR1 := hide (show Row (wr.setCell ⟨U, m, none⟩ (.string D)).drew U 9 (strs (ys.set m D) ++ rest) by rw [← strs_set ys rest m D hm]; exact (HRow.out.set (j := m) (.string D)).drew)
      have HK1 := hide ((HK.out.set (G := U) (j := m) (by simp) (.string D)).drew)
      have HY1 := hide (show ∀ y ∈ ys.set m D, y.size ≤ maxLen from fun y hy => by
        rcases List.mem_or_eq_of_mem_set hy with h | h
        · exact HY.out y h
        · rw [h]; unfold maxLen; omega)
      clear cU fU hk0 hk1
      go_wp2
      go_roundw
      case rel => exact ⟨j + 1, ys.set m D, by omega, by go_num, by rw [List.length_set]; exact hyl, HY1, HU1, HR1, HK1⟩
      case measure => simp [intOf]; omega
    · have HU1 := hide (show applyP ps xs = ys by rw [HS.out, List.drop_eq_nil_of_le (by omega)]; rfl)
      have N3 := HK.out.row HN.out (by simp; omega)
      have c0 : wr.cell? ⟨w.heap.size + 1, 0, none⟩ = some (.slice none 0 0) := N3.cell 0
      have c1' : wr.cell? ⟨w.heap.size + 1, 1, none⟩ = some (.slice none 0 0) := N3.cell 1
      have c2' : wr.cell? ⟨w.heap.size + 1, 2, none⟩ = some (.string ⟨#[]⟩) := N3.cell 2
      have c3 : wr.cell? ⟨w.heap.size + 1, 3, none⟩ = some (.int .i64 0) := N3.cell 3
      have f0 := N3.free 0
      have f1 := N3.free 1
      have f2 := N3.free 2
      have f3 := N3.free 3
      have HN3 := hide N3
      clear N3
      go_wp2
      obtain ⟨z0, z1, z2, z3, KF⟩ := four HN3.out (.slice (some ⟨U, 0, none⟩) xs.length (xs.length + rest.length)) (.slice none 0 0) (.string ⟨#[]⟩) (.int .i64 0)
      have k3 := HK.out.toBelow HBW.out HBW.out.size (by simp; omega)
      have k5 := KF.toBelow k3 k3.size (by simp)
      have RF := KF.row HRow.out (by simp; omega)
      exact bodyPost_ret (v := .agg #[(.slice (some ⟨U, 0, none⟩) xs.length (xs.length + rest.length)), .slice none 0 0, .string ⟨#[]⟩, .int .i64 0]) (by simp [results, Tryz.results73, go_sem, z0, z1, z2, z3]) rfl
        ⟨⟨_, rfl, by rw [HU1.out]; exact ⟨HY.out, .inr ⟨U, rest, by rw [hyl], by rw [hyl]; exact hmx, by omega, RF⟩⟩⟩, k5⟩

theorem specFlush_good (vs vp : Value) (xs : List ByteArray) (ps : List (Int × ByteArray)) (w : World) (hn : xs.length ≤ 1048576) (hn2 : ps.length ≤ 1048576) (hr : Reads w vs xs) (hp : ReadsP w vp ps) (hok : right xs ps = true) :
    Calls Tryz.prog 73 #[.agg #[vs, vp]] w fun e w' => OutIs w.heap.size e w' ⟨applyP ps xs, [], ⟨#[]⟩, 0⟩ ∧ Below w.heap.size w w' :=
  (specFlush_nil vs vp xs ps w hn hn2 hr hp hok).mono fun _ _ ⟨⟨us, e, o⟩, hb⟩ => ⟨⟨us, _, e, o, OwnP.none _ _ _, fun _ _ h => by cases h⟩, hb⟩

set_option maxHeartbeats 4000000 in
theorem specFlush_ill (vs vp : Value) (xs : List ByteArray) (ps : List (Int × ByteArray)) (w : World) (hn : xs.length ≤ 1048576) (hn2 : ps.length ≤ 1048576) (hr : Reads w vs xs) (hp : ReadsP w vp ps) (hok : right xs ps = false) :
    Calls Tryz.prog 73 #[.agg #[vs, vp]] w fun e w' => OutIs w.heap.size e w' (illOut 1) ∧ Below w.heap.size w w' := by
  have hb0 : Below w.heap.size w ((w.alloc (.cells #[vs, vp] 30)).alloc (.cells #[.slice none 0 0, .slice none 0 0, .string ⟨#[]⟩, .int .i64 0] 101)) :=
    ((Below.refl _ _).alloc (Nat.le_refl _) _).alloc (by simp) _
  have HR := hide (hr.below hb0 (Nat.le_refl _))
  have HP := hide (hp.below hb0 (Nat.le_refl _))
  have HB0 := hide hb0
  obtain ⟨p1, c1, rfl, hq⟩ := hr
  obtain ⟨p2, c2, rfl, hq2⟩ := hp
  have R0 := (row_new w [.slice p1 xs.length c1, .slice p2 ps.length c2] 30).alloc (.cells #[.slice none 0 0, .slice none 0 0, .string ⟨#[]⟩, .int .i64 0] 101)
  have R1 := row_new (w.alloc (.cells #[.slice p1 xs.length c1, .slice p2 ps.length c2] 30)) [.slice none 0 0, .slice none 0 0, .string ⟨#[]⟩, .int .i64 0] 101
  simp only [World.size_alloc] at R1
  have HR0 := hide R0
  have HR1 := hide R1
  clear hb0 hq hq2 R1 R0
  go_enter Tryz.func73, Tryz.ntmps73
  go_wp2_with fail
  refine (specRight_any _ _ xs ps _ hn hn2 HR.out HP.out).mono ?_
  rw [hok]
  rintro e w1 ⟨rfl, hb1⟩
  have HB1 := hide (HB0.out.trans (hb1.mono HB0.out.size))
  have HX1 := hide (HR1.out.below hb1 (by simp))
  clear hb1 HR HP HR0 HR1 HB0
  go_wp2_with fail
  refine (l02Ill_any _ _).mono ?_
  rintro e w2 ⟨rfl, hb2⟩
  have R3 := HX1.out.below hb2 HX1.out.lt
  have HB2 := hide (HB1.out.trans (hb2.mono HB1.out.size))
  have c0 : w2.cell? ⟨w.heap.size + 1, 0, none⟩ = some (.slice none 0 0) := R3.cell 0
  have c1' : w2.cell? ⟨w.heap.size + 1, 1, none⟩ = some (.slice none 0 0) := R3.cell 1
  have c2' : w2.cell? ⟨w.heap.size + 1, 2, none⟩ = some (.string ⟨#[]⟩) := R3.cell 2
  have c3 : w2.cell? ⟨w.heap.size + 1, 3, none⟩ = some (.int .i64 0) := R3.cell 3
  have f0 := R3.free 0
  have f1 := R3.free 1
  have f2 := R3.free 2
  have f3 := R3.free 3
  have HR3 := hide R3
  clear hb2 R3
  go_wp2
  obtain ⟨q0, q1, q2, q3, KF⟩ := four HR3.out (.slice none 0 0) (.slice none 0 0) (.string ⟨#[]⟩) (.int .i64 1)
  exact bodyPost_ret (v := .agg #[.slice none 0 0, .slice none 0 0, .string ⟨#[]⟩, .int .i64 1]) (by simp [results, Tryz.results73, go_sem, q0, q1, q2, q3]) rfl
    ⟨⟨_, _, rfl, OwnS.none _ _ _, OwnP.none _ _ _, fun _ h => by cases h⟩, KF.toBelow HB2.out HB2.out.size (by simp)⟩

theorem specFlush_any (vs vp : Value) (xs : List ByteArray) (ps : List (Int × ByteArray)) (w : World) (hn : xs.length ≤ 1048576) (hn2 : ps.length ≤ 1048576) (hr : Reads w vs xs) (hp : ReadsP w vp ps) :
    Calls Tryz.prog 73 #[.agg #[vs, vp]] w fun e w' => OutIs w.heap.size e w' (flushOut xs ps) ∧ Below w.heap.size w w' := by
  unfold flushOut
  cases hok : right xs ps with
  | false => exact specFlush_ill vs vp xs ps w hn hn2 hr hp hok
  | true => exact specFlush_good vs vp xs ps w hn hn2 hr hp hok
end Go.Proofs.YtnpbmaajgiapmaaGreatDoor
/- What is written to the sectors: plain lists. -/
namespace Go.Proofs.YtnpbmaajgiapmaaGreatDoor
open Go.RowKit

theorem small_of_right {xs : List ByteArray} {ps : List (Int × ByteArray)} (h : right xs ps = true) : Small xs ps := by
  obtain ⟨l1, l2, l3⟩ := right_len h
  refine ⟨by omega, fun x hx => ?_, by omega, fun x hx => ?_⟩
  · unfold right at h
    simp only [Bool.and_eq_true] at h
    have := h.1.2
    unfold okS at this
    have := (List.all_eq_true.1 this) x hx
    simp at this
    omega
  · obtain ⟨j, hj, rfl⟩ := List.getElem_of_mem hx
    have := right_at h j hj
    omega
theorem applyP_mem : ∀ (ps : List (Int × ByteArray)) (xs : List ByteArray) (n : Nat), (∀ x ∈ xs, x.size ≤ n) → (∀ x ∈ ps, x.2.size ≤ n) → ∀ x ∈ applyP ps xs, x.size ≤ n
  | [], _, _, h, _ => h
  | p :: r, xs, n, h, h2 => applyP_mem r _ n (fun x hx => by
      rcases List.mem_or_eq_of_mem_set hx with h' | rfl
      · exact h x h'
      · exact h2 p (List.mem_cons_self ..)) (fun x hx => h2 x (List.mem_cons_of_mem _ hx))
theorem applyP_at : ∀ (ps : List (Int × ByteArray)) (xs : List ByteArray) (m : Nat), m < xs.length → (∀ x ∈ ps, 0 ≤ x.1) → (applyP ps xs).getD m ⟨#[]⟩ = lastAt m ps (xs.getD m ⟨#[]⟩)
  | [], _, _, _, _ => rfl
  | p :: r, xs, m, h, h0 => by
      have e := applyP_at r (xs.set p.1.toNat p.2) m (by rw [List.length_set]; exact h) (fun x hx => h0 x (List.mem_cons_of_mem _ hx))
      rw [applyP, e, lastAt]
      congr 1
      have hp := h0 p (List.mem_cons_self ..)
      by_cases he : p.1 = (m : Int)
      · rw [if_pos he, he]
        simp [List.getD, h]
      · rw [if_neg he]
        have : p.1.toNat ≠ m := by omega
        simp [List.getD, this]
end Go.Proofs.YtnpbmaajgiapmaaGreatDoor
/- Steps of an area, one behind the other: plain mathematics. -/
namespace Go.Proofs.YtnpbmaajgiapmaaGreatDoor
open Go.RowKit

theorem rightPush {xs : List ByteArray} {ps : List (Int × ByteArray)} {a : Int} {d : ByteArray} (h : right xs ps = true) (hl : ps.length < 200) (h0 : 0 ≤ a) (h1 : a ≤ (xs.length : Int) - 1) (hd : d.size ≤ 64) : right xs (ps ++ [(a, d)]) = true := by
  unfold right okP at h ⊢
  simp only [Bool.and_eq_true, decide_eq_true_eq] at h ⊢
  refine ⟨⟨⟨⟨h.1.1.1.1, h.1.1.1.2⟩, by simp; omega⟩, h.1.2⟩, ?_⟩
  rw [List.all_append, h.2]
  simp
  omega
/-- A step: is it a flush, the place, the text. -/
def stepOut (s : Bool × Int × ByteArray) (xs : List ByteArray) (ps : List (Int × ByteArray)) : Out := if s.1 = true then flushOut xs ps else writeOut xs ps s.2.1 s.2.2
theorem applyP_lenS : ∀ (ps : List (Int × ByteArray)) (xs : List ByteArray), (applyP ps xs).length = xs.length
  | [], _ => rfl
  | x :: r, xs => by rw [applyP, applyP_lenS r, List.length_set]
theorem rightFlush {xs : List ByteArray} {ps : List (Int × ByteArray)} (h : right xs ps = true) : right (applyP ps xs) [] = true := by
  have hs : ∀ x ∈ xs, x.size ≤ 64 := by
    intro x hx
    unfold right at h
    simp only [Bool.and_eq_true] at h
    have := h.1.2
    unfold okS at this
    simpa using (List.all_eq_true.1 this) x hx
  have hq : ∀ x ∈ ps, x.2.size ≤ 64 := by
    intro x hx
    obtain ⟨j, hj, e⟩ := List.mem_iff_getElem.1 hx
    have := right_at h j hj
    rw [e] at this; exact this.2.2
  have hl := right_len h
  have hm := applyP_mem ps xs 64 hs hq
  unfold right okS okP
  simp only [Bool.and_eq_true, decide_eq_true_eq, applyP_lenS, List.all_eq_true, List.all_nil, List.length_nil]
  exact ⟨⟨⟨⟨by omega, by omega⟩, by omega⟩, fun x hx => by simpa using hm x hx⟩, trivial⟩
theorem stepOut_right {s : Bool × Int × ByteArray} {xs : List ByteArray} {ps : List (Int × ByteArray)} (h : right xs ps = true) (hc : (stepOut s xs ps).c = 0) : right (stepOut s xs ps).xs (stepOut s xs ps).ps = true := by
  unfold stepOut at hc ⊢
  by_cases hf : s.1 = true
  · simp only [if_pos hf, flushOut, h] at hc ⊢
    exact rightFlush h
  · simp only [if_neg hf, writeOut] at hc ⊢
    split at hc
    · simp [illOut] at hc
    · split at hc
      · simp [illOut] at hc
      · split at hc
        · split at hc
          · simp [illOut] at hc
          · rename_i h1 h2 h3 h4
            rw [if_neg h1, if_neg h2, if_pos h3, if_neg h4]
            exact rightPush h (by omega) h3.1 h3.2 (by omega)
        · simp [illOut] at hc
theorem stepOut_len {s : Bool × Int × ByteArray} {xs : List ByteArray} {ps : List (Int × ByteArray)} (hc : (stepOut s xs ps).c = 0) : (stepOut s xs ps).xs.length = xs.length := by
  unfold stepOut at hc ⊢
  by_cases hf : s.1 = true
  · simp only [if_pos hf, flushOut] at hc ⊢
    split at hc
    · rename_i h; rw [if_pos h]; exact applyP_lenS ps xs
    · simp [illOut] at hc
  · simp only [if_neg hf, writeOut] at hc ⊢
    split at hc
    · simp [illOut] at hc
    · split at hc
      · simp [illOut] at hc
      · split at hc
        · split at hc
          · simp [illOut] at hc
          · rename_i h1 h2 h3 h4
            rw [if_neg h1, if_neg h2, if_pos h3, if_neg h4]
        · simp [illOut] at hc
/-- All steps, up to the first that tells a code. -/
def runOut : List (Bool × Int × ByteArray) → List ByteArray → List (Int × ByteArray) → Out
  | [], xs, ps => ⟨xs, ps, ⟨#[]⟩, 0⟩
  | s :: r, xs, ps => if (stepOut s xs ps).c = 0 then runOut r (stepOut s xs ps).xs (stepOut s xs ps).ps else illOut (stepOut s xs ps).c
theorem runOut_step (ss : List (Bool × Int × ByteArray)) (k : Nat) (h : k < ss.length) (xs : List ByteArray) (ps : List (Int × ByteArray)) :
    runOut (ss.drop k) xs ps = if (stepOut ss[k] xs ps).c = 0 then runOut (ss.drop (k + 1)) (stepOut ss[k] xs ps).xs (stepOut ss[k] xs ps).ps else illOut (stepOut ss[k] xs ps).c := by
  rw [List.drop_eq_getElem_cons h]; rfl

end Go.Proofs.YtnpbmaajgiapmaaGreatDoor
