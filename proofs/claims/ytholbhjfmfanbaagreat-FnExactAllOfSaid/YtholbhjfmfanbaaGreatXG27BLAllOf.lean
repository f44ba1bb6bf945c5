/- The law of AllOf. -/
import Derived.Test.YtholbhjfmfanbaaGreatXG26BAllOf
import Derived.Deep.DeepCutAuto
import Derived.Deep.RegionHeld3
import Derived.Test.YtholbhjfmfanbaaGreatXG0Mem
import Derived.SliceStrings
import Derived.Deep.SlicePairs
import Derived.Lib.SmallJoins
namespace Go.Proofs.YtholbhjfmfanbaaGreat
open Go.RowKit
set_option maxHeartbeats 8000000 in
theorem lawAllOf (n : ByteArray) (u : Value) (x : List Bat) (w : World) (hnl : n.size ≤ maxLen) (hr : RBats 0 w u x) :
    Calls Tryz.prog 5 #[.agg #[.string n, u]] w fun e w' => e = .returned (.bool true) ∧ Below w.heap.size w w' := by
  obtain ⟨p, c, rfl⟩ := hr.isSlice
  obtain ⟨W, hW⟩ : ∃ W, W = w.alloc (.cells #[.string n, .slice p x.length c] 24) := ⟨_, rfl⟩
  have hb0 : Below w.heap.size w W := by rw [hW]; exact (Below.refl _ _).alloc (Nat.le_refl _) _
  have HR := hide hr
  have HB0 := hide hb0
  have HRW := hide (show Row W w.heap.size 24 [.string n, .slice p x.length c] by rw [hW]; exact row_new w [.string n, .slice p x.length c] 24)
  clear hb0 hr
  go_enter Tryz.func5, Tryz.ntmps5
  go_wp2_with fail
  rw [← hW]
  refine (szFile_any n _ x 1048576 _ hnl (by omega) (by omega) (HR.out.below HB0.out)).mono ?_
  rintro e w1 ⟨rfl, hb1⟩
  clear hW
  have HB1 := hide (HB0.out.trans (hb1.mono HB0.out.size))
  have HRow1 := hide (HRW.out.below hb1 HRW.out.lt)
  have c1 : w1.cell? ⟨w.heap.size, 1, none⟩ = some (.slice p x.length c) := HRow1.out.cell 1
  have b1 : w1.cell? ⟨w.heap.size, 0, none⟩ = some (.string n) := HRow1.out.cell 0
  clear hb1
  by_cases hsz : (((n.size + wBats x) : Nat) : Int) ≤ 1048576
  case neg =>
    rw [szOf_no hsz]
    go_wp2
    go_ret
    exact ⟨rfl, HB1.out⟩
  rw [szOf_yes hsz]
  have HS := hide (show wBats x ≤ 1048576 by omega)
  have h0 : ¬ (1048576 - (((n.size + wBats x) : Nat) : Int)) < 0 := by omega
  clear hsz
  generalize (1048576 - (((n.size + wBats x) : Nat) : Int)) = L at h0
  obtain ⟨A, hA⟩ : ∃ A, A = allOut n x := ⟨_, rfl⟩
  have HWA := hide (show wMsgs A ≤ 1048576 by rw [hA]; exact allOut_w n x HS.out)
  have HAE := hide hA
  clear hA
  go_wp2_with fail
  refine (toFile_any n _ x _ HS.out (HR.out.below HB1.out)).mono ?_
  rintro e w2 ⟨p2, c2, rfl, hr2, hb2⟩
  have HB2 := hide (HB1.out.trans (hb2.mono HB1.out.size))
  have HC2 := hide (RBats.mono hr2 (Nat.zero_le _))
  have HRow2 := hide (HRow1.out.below hb2 HRow1.out.lt)
  clear hr2 hb2 c1 b1
  go_wp2_with fail
  refine (specAllOf_any n _ x _ hnl HS.out HC2.out).mono ?_
  rintro e w3 ⟨pw, cw, rfl, hrw, hb3⟩
  rw [← HAE.out] at hrw ⊢
  have HB3 := hide (HB2.out.trans (hb3.mono HB2.out.size))
  have HW3 := hide (RMsgs.mono hrw (Nat.zero_le _))
  have HRow3 := hide (HRow2.out.below hb3 HRow2.out.lt)
  have c3 : w3.cell? ⟨w.heap.size, 1, none⟩ = some (.slice p x.length c) := HRow3.out.cell 1
  have b3 : w3.cell? ⟨w.heap.size, 0, none⟩ = some (.string n) := HRow3.out.cell 0
  clear hrw hb3
  go_wp2_with fail
  refine (toFile_own n _ x _ HS.out (HR.out.below HB3.out)).mono ?_
  rintro e w4 ⟨p4, c4, rfl, hr4, hb4⟩
  have hbn : Below w4.heap.size w4 (w4.alloc (.cells #[.string n, .slice p4 x.length c4] 29)) := (Below.refl _ _).alloc (Nat.le_refl _) _
  have hb44 := hb4.trans (hbn.mono hb4.size)
  have HB4 := hide (HB3.out.trans (hb44.mono HB3.out.size))
  have HX4 := hide (hr4.keep (SameIn.ofBelow hbn))
  have HW4 := hide (HW3.out.below hb44)
  have HRow4 := hide (HRow3.out.below hb44 HRow3.out.lt)
  have HRowX := hide (row_new w4 [.string n, .slice p4 x.length c4] 29)
  have HLX := hide (show w3.heap.size ≤ w4.heap.size from hb4.size)
  have HB34 := hide hb44
  clear hr4 hb4 hbn hb44 c3 b3
  go_wp2_with fail
  have HV5 : Hid ((w4.alloc (.cells #[.string n, .slice p4 x.length c4] 29)).heap.size = w4.heap.size + 1) := hide (by simp)
  generalize hV : w4.alloc (.cells #[.string n, .slice p4 x.length c4] 29) = V at *
  generalize hG : w4.heap.size = G at *
  clear hV hG
  refine (implAllOf_any n _ x _ hnl HS.out (RBats.mono HX4.out.rl (Nat.zero_le _))).mono ?_
  rintro e w5 ⟨pg, cg, rfl, ho5, hb5⟩
  rw [← HAE.out] at ho5 ⊢
  have HB5 := hide (HB4.out.trans (hb5.mono HB4.out.size))
  have HB35 := hide (HB34.out.trans (hb5.mono HB34.out.size))
  have HX5 := hide (HX4.out.keep (SameIn.ofBelow hb5))
  have HW5 := hide (HW4.out.below hb5)
  have HRow5 := hide (HRow4.out.below hb5 HRow4.out.lt)
  have HRowX5 := hide (HRowX.out.below hb5 HRowX.out.lt)
  have HO5 := hide ho5
  have HVH := hide (show V.heap.size ≤ w5.heap.size from hb5.size)
  obtain ⟨LO, hLO⟩ : ∃ LO, LO = V.heap.size := ⟨_, rfl⟩
  obtain ⟨HI, hHI⟩ : ∃ HI, HI = w5.heap.size := ⟨_, rfl⟩
  rw [← hLO, ← hHI] at HO5
  rw [← hLO] at HV5
  have HHI := hide (show HI ≤ w5.heap.size from Nat.le_of_eq hHI)
  clear ho5 hb5 hLO hHI
  go_wp2_with fail
  refine (eqMessageS_same _ _ A 0 0 _ HWA.out (RMsgs.mono HO5.out.rl (Nat.zero_le _)) HW5.out).mono ?_
  rintro e w6 ⟨rfl, hb6⟩
  have HB6 := hide (HB5.out.trans (hb6.mono HB5.out.size))
  have HB36 := hide (HB35.out.trans (hb6.mono HB35.out.size))
  have HX6 := hide (HX5.out.keep (SameIn.ofBelow hb6))
  have HW6 := hide (HW5.out.below hb6)
  have HRow6 := hide (HRow5.out.below hb6 HRow5.out.lt)
  have HRowX6 := hide (HRowX5.out.below hb6 HRowX5.out.lt)
  have HO6 := hide (HO5.out.keep (SameIn.ofBelow hb6))
  have HSS := hide (show ∀ y, Below w6.heap.size w6 y → y.cell? ⟨w.heap.size, 0, none⟩ = some (.string n) ∧ y.cell? ⟨w.heap.size, 1, none⟩ = some (.slice p x.length c) ∧ y.cell? ⟨G, 0, none⟩ = some (.string n) ∧ y.cell? ⟨G, 1, none⟩ = some (.slice p4 x.length c4) ∧ Below w6.heap.size w6 y from
    fun y h => ⟨(HRow6.out.below h HRow6.out.lt).cell 0, (HRow6.out.below h HRow6.out.lt).cell 1, (HRowX6.out.below h HRowX6.out.lt).cell 0, (HRowX6.out.below h HRowX6.out.lt).cell 1, h⟩)
  clear hb6 HB5 HB35 HX5 HW5 HRow5 HRowX5 HO5
  go_wp2_with fail
  go_cut [31] (fun t wz => t = .bool false ∧ ∃ wx, wx = wz ∧ Hid (Below w6.heap.size w6 wx))
  case first =>
    go_region_held3 (fun y => y.cell? ⟨w.heap.size, 0, none⟩ = some (.string n) ∧ y.cell? ⟨w.heap.size, 1, none⟩ = some (.slice p x.length c) ∧ y.cell? ⟨G, 0, none⟩ = some (.string n) ∧ y.cell? ⟨G, 1, none⟩ = some (.slice p4 x.length c4) ∧ Below w6.heap.size w6 y)
      ((go_split_ands; refine HSS.out _ ?_; repeat (first | with_reducible assumption | with_reducible exact Below.refl _ _ | with_reducible refine Below.drew ?_)))
      ((first
        | (go_at_call 10; go_split_ands; refine (toFile_any n _ x _ HS.out (HR.out.below (HB6.out.trans (Below.mono (by assumption) HB6.out.size)))).mono ?_; rintro e w7 ⟨p6, c6, rfl, hr6, hbb⟩; have HC7 := hide (RBats.mono hr6 (Nat.zero_le _)); have hB6 : Below w6.heap.size w6 w7 := Below.trans (by assumption) (hbb.mono (Below.size (by assumption))); clear hr6 hbb)
        | (go_at_call 12; go_split_ands; refine (eqFile_same n _ _ x 0 0 _ HS.out (RBats.below (RBats.mono HX6.out.rl (Nat.zero_le _)) (by assumption)) (by first | exact HC7.out | exact HC7.out.below ((Below.refl _ _).drew))).mono ?_; rintro e w8 ⟨rfl, hb7⟩; have hB7 : Below w6.heap.size w6 w8 := Below.trans (by assumption) (hb7.mono (Below.size (by assumption))); clear hb7)))
    all_goals
      have HB7 := hide hB7
      clear hB7
      go_wp2_with fail
      go_meet
      exact ⟨rfl, _, rfl, HB7⟩
  case rest =>
    obtain ⟨rfl, wc, rfl, HBc⟩ := hcut
    have hbc := HBc.out
    have HBwc := hide (HB6.out.trans (hbc.mono HB6.out.size))
    have HXc := hide (HX6.out.keep (SameIn.ofBelow hbc))
    have HWc := hide (HW6.out.below hbc)
    have HRowc := hide (HRow6.out.below hbc HRow6.out.lt)
    have HRowXc := hide (HRowX6.out.below hbc HRowX6.out.lt)
    have HOc := hide (HO6.out.keep (SameIn.ofBelow hbc))
    have HB3c := hide (HB36.out.trans (hbc.mono HB36.out.size))
    have x0 : wc.cell? ⟨G, 0, none⟩ = some (.string n) := HRowXc.out.cell 0
    have x1 : wc.cell? ⟨G, 1, none⟩ = some (.slice p4 x.length c4) := HRowXc.out.cell 1
    have HLW := hide (show w.heap.size < w3.heap.size from HRow3.out.lt)
    clear hbc HBc HSS HX6 HW6 HRow6 HRowX6 HO6 HB6 HB36
    go_wp2_with fail
    refine (markFile_own w3.heap.size G n _ x 1 _ HS.out (by have := HS.out; omega) HXc.out).mono ?_
    rintro e wd ⟨rfl, _, hwd⟩
    have HBd := hide (hwd.toBelow HBwc.out HB3.out.size HBwc.out.size)
    have HB3d := hide (hwd.toBelow HB3c.out (Nat.le_refl _) HB3c.out.size)
    have HRowd := hide (hwd.row HRowc.out (.inl HLW.out))
    have HWd := hide (HW3.out.below HB3d.out)
    have HOd := hide (HOc.out.keep (hwd.same (.inr (by have := HV5.out; omega))))
    have hpos : ¬ ((((1 + cntBats x : Nat)) : Int)) < 0 := by omega
    clear hwd x0 x1 HRowc HRowXc HOc HBwc HB3c HXc HWc
    go_wp2_with fail
    refine (eqMessageS_same _ _ A 0 0 _ HWA.out (RMsgs.mono HOd.out.rl (Nat.zero_le _)) HWd.out).mono ?_
    rintro e we ⟨rfl, hbe⟩
    have HBe := hide (HBd.out.trans (hbe.mono HBd.out.size))
    have HB3e := hide (HB3d.out.trans (hbe.mono HB3d.out.size))
    have HRowe := hide (HRowd.out.below hbe HRowd.out.lt)
    have HOe := hide (HOd.out.keep (SameIn.ofBelow hbe))
    clear hbe HRowd HWd HOd HBd HB3d
    go_wp2_with fail
    refine (markMessageS_own LO HI _ A 1 _ HWA.out (by have := HWA.out; omega) HOe.out).mono ?_
    rintro e wf ⟨rfl, hof, hwf⟩
    have HL3 := hide (show w3.heap.size ≤ LO by have h1 := HV5.out; have h2 := HLX.out; omega)
    have HBf := hide (hwf.toBelow HBe.out (Nat.le_trans HB3.out.size HL3.out) HBe.out.size)
    have HB3f := hide (hwf.toBelow HB3e.out HL3.out HB3e.out.size)
    have HRowf := hide (hwf.row HRowe.out (.inl (Nat.lt_of_lt_of_le HLW.out HL3.out)))
    have HOf := hide hof
    obtain ⟨M, hM⟩ : ∃ M : Nat, M = 1 + cntMsgs A := ⟨_, rfl⟩
    rw [← hM]
    have HMM := hide hM
    have hMp : ¬ ((M : Nat) : Int) < 0 := by omega
    have hMe : (((M : Nat) : Int) != ((M : Nat) : Int)) = false := by simp
    clear hof hwf hM HRowe HOe HBe HB3e
    go_wp2_with fail
    refine (heldMessageS_own LO HI _ A 1 _ HWA.out (by have := HWA.out; omega) HOf.out).mono ?_
    rintro e wg ⟨rfl, hbg⟩
    rw [← HMM.out]
    have HBg := hide (HBf.out.trans (hbg.mono HBf.out.size))
    have HB3g := hide (HB3f.out.trans (hbg.mono HB3f.out.size))
    have HRowg := hide (HRowf.out.below hbg HRowf.out.lt)
    have HOg := hide (HOf.out.keep (SameIn.ofBelow hbg))
    have cg0 : wg.cell? ⟨w.heap.size, 1, none⟩ = some (.slice p x.length c) := HRowg.out.cell 1
    have cg1 : wg.cell? ⟨w.heap.size, 0, none⟩ = some (.string n) := HRowg.out.cell 0
    clear hbg HRowf HOf HBf HB3f
    go_wp2_with fail
    refine (toFile_any n _ x _ HS.out (HR.out.below HBg.out)).mono ?_
    rintro e wh ⟨ph, ch, rfl, hrh, hbh⟩
    have HBh := hide (HBg.out.trans (hbh.mono HBg.out.size))
    have HB3h := hide (HB3g.out.trans (hbh.mono HB3g.out.size))
    have HCh := hide (RBats.mono hrh (Nat.zero_le _))
    have HOh := hide (HOg.out.keep (SameIn.ofBelow hbh))
    clear hrh hbh HRowg HOg HBg HB3g cg0 cg1
    go_wp2_with fail
    refine (implAllOf_any n _ x _ hnl HS.out HCh.out).mono ?_
    rintro e wi ⟨pi, ci, rfl, hoi, hbi⟩
    rw [← HAE.out] at hoi ⊢
    have HBi := hide (HBh.out.trans (hbi.mono HBh.out.size))
    have HB3i := hide (HB3h.out.trans (hbi.mono HB3h.out.size))
    have HOi := hide (HOh.out.keep (SameIn.ofBelow hbi))
    have HHi := hide (RMsgs.mono hoi.rl (Nat.zero_le _))
    have HWi := hide (HW3.out.below HB3i.out)
    clear hoi hbi HOh HBh HB3h HCh
    go_wp2_with fail
    refine (eqMessageS_same _ _ A 0 0 _ HWA.out HHi.out HWi.out).mono ?_
    rintro e wj ⟨rfl, hbj⟩
    have HBj := hide (HBi.out.trans (hbj.mono HBi.out.size))
    have HOj := hide (HOi.out.keep (SameIn.ofBelow hbj))
    clear hbj HOi HBi HB3i HHi HWi
    go_wp2_with fail
    refine (heldMessageS_own LO HI _ A 1 _ HWA.out (by have := HWA.out; omega) HOj.out).mono ?_
    rintro e wk ⟨rfl, hbk⟩
    rw [← HMM.out]
    have HBk := hide (HBj.out.trans (hbk.mono HBj.out.size))
    clear hbk
    go_wp2
    go_ret
    exact ⟨rfl, HBk.out⟩
end Go.Proofs.YtholbhjfmfanbaaGreat
/- What comes in, read as lists. -/
namespace Go.Proofs.YtholbhjfmfanbaaGreat
open Go.RowKit Go.ChangeShapes Go.WideShapes

theorem spot_none {w : World} {a : Addr} {v : Value} (h : w.cell? (a.add 0) = some v) : a = ⟨a.block, a.off, none⟩ := by
  obtain ⟨b, o, s⟩ := a
  cases s with
  | none => rfl
  | some x =>
    have h' : w.cell? ⟨b, o, some x⟩ = some v := h
    unfold World.cell? at h'
    split at h' <;> simp at h'
theorem reads_of_trod {H : Type} {enc : TypeId × Value → H} {P : Program} {w : World} {base : Nat} {spare : Nat → Bool} {held : Bool} {t e : TypeId} {fuel : Nat} {v : Value} {x : DataW H × List MemPlace}
    (ht : P.underlying t = some (.slice e)) (he : P.underlying e = some .string) (hc : P.cellsOf e = 1) (h : DataW.trod enc P w base spare held fuel t [v] = some x) : ∃ xs, Reads w v xs := by
  rcases open_strings ht he hc h with ⟨hcs, _⟩ | ⟨a, len, cap, ss, hcs, _, hl, hm, hlen, _, hcell, hsz⟩
  · obtain rfl : v = .slice none 0 0 := by simpa using hcs
    exact ⟨[], none, 0, rfl, Nat.le_refl _, Nat.zero_le _, by simp, fun h0 => absurd h0 (Nat.lt_irrefl 0)⟩
  · obtain rfl : v = .slice (some a) len cap := by simpa using hcs
    have hll : len ≤ ss.length := by rw [hlen]; split <;> omega
    have hL : (ss.take len).length = len := by rw [List.length_take]; omega
    refine ⟨ss.take len, some a, cap, by rw [hL], by omega, hm, fun y hy => hsz y (List.mem_of_mem_take hy), fun h0 => ?_⟩
    have ha := spot_none (hcell 0 (by omega))
    refine ⟨a.block, a.off, by rw [← ha], ?_, fun i hi => ?_⟩
    · have := World.block_lt_of_cell? w _ (hcell 0 (by omega))
      simpa [Addr.add] using this
    · have := hcell i (by omega)
      rw [ha, Addr.add_lit] at this
      rw [this, List.getElem_take, List.getD_eq_getElem?_getD, List.getElem?_eq_getElem (by omega)]
      rfl
def intV : Value → Int
  | .int _ n => n
  | _ => 0
def strV : Value → ByteArray
  | .string s => s
  | _ => ⟨#[]⟩
theorem readsP_of_trod {H : Type} {enc : TypeId × Value → H} {P : Program} {w : World} {base : Nat} {spare : Nat → Bool} {held : Bool} {t e : TypeId} {f0 f1 : Field} {fuel : Nat} {v : Value} {x : DataW H × List MemPlace}
    (ht : P.underlying t = some (.slice e)) (he : P.underlying e = some (.struct #[f0, f1])) (ce : P.cellsOf e = 2) (o0 : f0.offset = 0) (o1 : f1.offset = 1) (c0 : P.cellsOf f0.type = 1) (c1 : P.cellsOf f1.type = 1)
    (u0 : P.underlying f0.type = some (.int .i64)) (u1 : P.underlying f1.type = some .string) (h : DataW.trod enc P w base spare held fuel t [v] = some x) : ∃ ps, ReadsP w v ps := by
  rcases Go.Deep.open_slice_pairs ht he ce o0 o1 c0 c1 h with ⟨hcs, _⟩ | ⟨a, len, cap, m, n, V0, V1, D0, D1, P0, P1, hcs, _, hl, hm, hmm, _, hx⟩
  · obtain rfl : v = .slice none 0 0 := by simpa using hcs
    exact ⟨[], none, 0, rfl, Nat.le_refl _, Nat.zero_le _, by simp, fun h0 => absurd h0 (Nat.lt_irrefl 0)⟩
  · obtain rfl : v = .slice (some a) len cap := by simpa using hcs
    have hll : len ≤ m := by rw [hmm]; split <;> omega
    have each : ∀ i, i < m → w.cell? (a.add (i * 2)) = some (.int .i64 (intV (V0 i))) ∧ w.cell? (a.add (i * 2 + 1)) = some (.string (strV (V1 i))) ∧ (strV (V1 i)).size ≤ maxLen := by
      intro i hi
      obtain ⟨h0, h1, h2, h3⟩ := hx i hi
      obtain ⟨z, e0, _⟩ := DataW.trod_int u0 h2
      obtain ⟨s, e1, _, hs⟩ := DataW.trod_string u1 h3
      obtain e0' : V0 i = .int .i64 z := by simpa using e0
      obtain e1' : V1 i = .string s := by simpa using e1
      rw [h0, h1, e0', e1']
      exact ⟨rfl, rfl, hs⟩
    refine ⟨(List.range len).map fun i => (intV (V0 i), strV (V1 i)), some a, cap, by simp, by simpa using hl, hm, fun y hy => ?_, fun h0 => ?_⟩
    · obtain ⟨i, hi, rfl⟩ := List.mem_map.1 hy
      exact (each i (by have := List.mem_range.1 hi; omega)).2.2
    · have h0' : 0 < len := by simpa using h0
      have ha := spot_none (w := w) (a := a) (v := .int .i64 (intV (V0 0))) (by simpa using (each 0 (by omega)).1)
      refine ⟨a.block, a.off, by rw [← ha], ?_, fun i hi => ?_⟩
      · have := World.block_lt_of_cell? w _ (each 0 (by omega)).1
        simpa [Addr.add] using this
      · have hi' : i < len := by simpa using hi
        obtain ⟨z0, z1, _⟩ := each i (by omega)
        rw [ha, Addr.add_lit] at z0 z1
        simp only [List.getElem_map, List.getElem_range]
        exact ⟨z0, by rw [Nat.add_assoc]; exact z1⟩
end Go.Proofs.YtholbhjfmfanbaaGreat
