/- The law of RepFits. -/
import Derived.Test.YtfjjbofnfigehaaGreatDoorXG18FPartR
import Derived.Test.YtfjjbofnfigehaaGreatDoorXG19VRepS
import Derived.Test.YtfjjbofnfigehaaGreatDoorXG21FNestT
import Derived.Test.YtfjjbofnfigehaaGreatDoorXG20Str
import Derived.Test.YtfjjbofnfigehaaGreatDoorXG0Mem
import Derived.SliceStrings
import Derived.Deep.SlicePairs
import Derived.Lib.SmallJoins
namespace Go.Proofs.YtfjjbofnfigehaaGreatDoor
open Go.RowKit
theorem wRep_sizes {x : List (List ByteArray)} {N : Nat} (h : wRep x ≤ N) : x.length ≤ N ∧ (∀ i (h : i < x.length), x[i].length ≤ N) := by
  refine ⟨Nat.le_trans (wL_len _ x) h, fun i hi => ?_⟩
  have h1 := wL_mem wComp (List.getElem_mem hi)
  have h2 := wL_len ByteArray.size x[i]
  have : wL wComp x ≤ N := h
  have : wComp x[i] = wL ByteArray.size x[i] := rfl
  omega
theorem fits8 (v : Int) (x : List (List ByteArray)) : kindL (if v = 1 then 2 else 3) x = fitsL v 8 x := by
  show _ = if v = 1 then kindL 2 x else kindL 3 x
  split <;> rfl
set_option maxHeartbeats 4000000 in
theorem lawRepFits (v k : Int) (u : Value) (x : List (List ByteArray)) (w : World) (he : ErrsV w) (hr : RRep 0 w u x) :
    Calls Tryz.prog 3 #[.int .i64 v, .int .i64 k, .agg #[u]] w fun e w' => e = .returned (.bool true) ∧ Below w.heap.size w w' := by
  obtain ⟨p, c, rfl⟩ := hr.isSlice
  obtain ⟨W, hW⟩ : ∃ W, W = w.alloc (.cells #[.slice p x.length c] 24) := ⟨_, rfl⟩
  have hb0 : Below w.heap.size w W := by rw [hW]; exact (Below.refl _ _).alloc (Nat.le_refl _) _
  have HR := hide (hr.below hb0)
  have HB0 := hide hb0
  have RW : Row W w.heap.size 24 [.slice p x.length c] := by rw [hW]; exact row_new w [.slice p x.length c] 24
  have HRW := hide RW
  have HE := hide he
  clear RW hb0 hr he
  go_enter Tryz.func3, Tryz.ntmps3
  go_wp2_with fail
  rw [← hW]
  refine (szRep_any _ x 1048576 _ (by omega) (by omega) HR.out).mono ?_
  rintro e w1 ⟨rfl, hb1⟩
  clear hW
  have HB1 := hide (HB0.out.trans (hb1.mono HB0.out.size))
  have HR1 := hide (HR.out.below hb1)
  have row1 := HRW.out.below hb1 HRW.out.lt
  have c1 : w1.cell? ⟨w.heap.size, 0, none⟩ = some (.slice p x.length c) := row1.cell 0
  have HRow1 := hide row1
  clear hb1 row1
  by_cases hsz : ((wRep x : Nat) : Int) ≤ 1048576
  · rw [szOf_yes hsz]
    have hsz' : wRep x ≤ 1048576 := by omega
    have HS := hide hsz'
    have HSZ := hide (wRep_sizes hsz')
    have h0 : ¬ (1048576 - ((wRep x : Nat) : Int)) < 0 := by omega
    clear hsz hsz'
    generalize (1048576 - ((wRep x : Nat) : Int)) = L at h0
    go_wp2_with fail
    refine (toRep_any _ x _ HS.out HR1.out).mono ?_
    rintro e w2 ⟨p2, c2, rfl, hr2, hb2⟩
    have HB2 := hide (HB1.out.trans (hb2.mono HB1.out.size))
    have HR2 := hide (HR1.out.below hb2)
    have HC2 := hide (RRep.mono hr2 (Nat.zero_le _))
    have HRow2 := hide (HRow1.out.below hb2 HRow1.out.lt)
    clear hr2 hb2 c1
    go_wp2_with fail
    refine (specRepFits_any v k _ x _ HSZ.out.1 HSZ.out.2 HC2.out).mono ?_
    rintro e w3 ⟨rfl, hb3⟩
    have HB3 := hide (HB2.out.trans (hb3.mono HB2.out.size))
    have HR3 := hide (HR2.out.below hb3)
    have row3 := HRow2.out.below hb3 HRow2.out.lt
    have c3 : w3.cell? ⟨w.heap.size, 0, none⟩ = some (.slice p x.length c) := row3.cell 0
    have HRow3 := hide row3
    clear hb3 row3
    go_wp2_with fail
    refine (toRep_any _ x _ HS.out HR3.out).mono ?_
    rintro e w4 ⟨p4, c4, rfl, hr4, hb4⟩
    have hbn : Below w4.heap.size w4 (w4.alloc (.cells #[.slice p4 x.length c4] 29)) := (Below.refl _ _).alloc (Nat.le_refl _) _
    have HB4 := hide ((HB3.out.trans (hb4.mono HB3.out.size)).trans (hbn.mono (HB3.out.trans (hb4.mono HB3.out.size)).size))
    have HR4 := hide ((HR3.out.below hb4).below hbn)
    have HC4 := hide ((RRep.mono hr4 (Nat.zero_le _)).below hbn)
    have HRow4 := hide ((HRow3.out.below hb4 HRow3.out.lt).alloc (.cells #[.slice p4 x.length c4] 29))
    have HRowX := hide (row_new w4 [.slice p4 x.length c4] 29)
    clear hr4 hb4 hbn c3
    go_wp2_with fail
    generalize hV : w4.alloc (.cells #[.slice p4 x.length c4] 29) = V at *
    generalize hG : w4.heap.size = G at *
    clear hV hG
    refine (implRepFits_any v k _ x _ HSZ.out.1 HSZ.out.2 (HE.out.below HB4.out HE.out.1) (fun X h1 h3 hrX => (kindFits_any v _ x X HSZ.out.1 hrX).mono (fun e w' h => ⟨h.1.trans (by rw [fits8]), h.2⟩)) HC4.out).mono ?_
    rintro e w5 ⟨rfl, hb5⟩
    have HB5 := hide (HB4.out.trans (hb5.mono HB4.out.size))
    have HR5 := hide (HR4.out.below hb5)
    have HC5 := hide (HC4.out.below hb5)
    have HRow5 := hide (HRow4.out.below hb5 HRow4.out.lt)
    have HRowX5 := hide (HRowX.out.below hb5 HRowX.out.lt)
    clear hb5
    have HSS := hide (show ∀ y, Below w5.heap.size w5 y → y.cell? ⟨w.heap.size, 0, none⟩ = some (.slice p x.length c) ∧ y.cell? ⟨G, 0, none⟩ = some (.slice p4 x.length c4) ∧ Below w5.heap.size w5 y from
      fun y h => ⟨(HRow5.out.below h HRow5.out.lt).cell 0, (HRowX5.out.below h HRowX5.out.lt).cell 0, h⟩)
    generalize repFitsB v k x = FB
    cases FB
    all_goals
      go_wp2_with fail
      go_region_held3 (fun y => y.cell? ⟨w.heap.size, 0, none⟩ = some (.slice p x.length c) ∧ y.cell? ⟨G, 0, none⟩ = some (.slice p4 x.length c4) ∧ Below w5.heap.size w5 y)
        ((go_split_ands; refine HSS.out _ ?_; repeat (first | with_reducible assumption | with_reducible exact Below.refl _ _ | with_reducible refine Below.drew ?_)))
        ((first
          | (go_at_call 7; go_split_ands; refine (toRep_any _ x _ HS.out (HR5.out.below (by assumption))).mono ?_; rintro e w6 ⟨p6, c6, rfl, hr6, hb6⟩; have HC6 := hide (RRep.mono hr6 (Nat.zero_le _)); have hB6 : Below w5.heap.size w5 w6 := Below.trans (by assumption) (hb6.mono (Below.size (by assumption))); clear hr6 hb6)
          | (go_at_call 9; go_split_ands; refine (eqRep_same _ _ x 0 0 _ HS.out (HC5.out.below (by assumption)) (by first | exact HC6.out | exact HC6.out.below ((Below.refl _ _).drew))).mono ?_; rintro e w7 ⟨rfl, hb7⟩; have hB7 : Below w5.heap.size w5 w7 := Below.trans (by assumption) (hb7.mono (Below.size (by assumption))); clear hb7)))
      all_goals
        have HB7 := hide (HB5.out.trans (hB7.mono HB5.out.size))
        clear hB7
        go_wp2
        go_ret
        exact ⟨rfl, HB7.out⟩
  · rw [szOf_no hsz]
    go_wp2
    go_ret
    exact ⟨rfl, HB1.out⟩
end Go.Proofs.YtfjjbofnfigehaaGreatDoor
/- What comes in, read as lists. -/
namespace Go.Proofs.YtfjjbofnfigehaaGreatDoor
open Go.RowKit Go.ChangeShapes Go.WideShapes

theorem spot_none {w : World} {a : Addr} {v : Value} (h : w.cell? (a.add 0) = some v) : a = ⟨a.block, a.off, none⟩ := by
  obtain ⟨b, o, s⟩ := a
  cases s with
  | none => rfl
  | some x =>
    have h' : w.cell? ⟨b, o, some x⟩ = some v := h
    unfold World.cell? at h'
    split at h' <;> simp at h'
theorem reads_of_trod {H : Type} {enc : TypeId × Value → H} {P : Program} {w : World} {base : Nat} {spare : Nat → Bool} {held : Bool} {t e : TypeId} {fuel : Nat} {v : Value} {x : DataW H × List MemPlace}
    (ht : P.underlying t = some (.slice e)) (he : P.underlying e = some .string) (hc : P.cellsOf e = 1) (h : DataW.trod enc P w base spare held fuel t [v] = some x) : ∃ xs, Reads w v xs := by
  rcases open_strings ht he hc h with ⟨hcs, _⟩ | ⟨a, len, cap, ss, hcs, _, hl, hm, hlen, _, hcell, hsz⟩
  · obtain rfl : v = .slice none 0 0 := by simpa using hcs
    exact ⟨[], none, 0, rfl, Nat.le_refl _, Nat.zero_le _, by simp, fun h0 => absurd h0 (Nat.lt_irrefl 0)⟩
  · obtain rfl : v = .slice (some a) len cap := by simpa using hcs
    have hll : len ≤ ss.length := by rw [hlen]; split <;> omega
    have hL : (ss.take len).length = len := by rw [List.length_take]; omega
    refine ⟨ss.take len, some a, cap, by rw [hL], by omega, hm, fun y hy => hsz y (List.mem_of_mem_take hy), fun h0 => ?_⟩
    have ha := spot_none (hcell 0 (by omega))
    refine ⟨a.block, a.off, by rw [← ha], ?_, fun i hi => ?_⟩
    · have := World.block_lt_of_cell? w _ (hcell 0 (by omega))
      simpa [Addr.add] using this
    · have := hcell i (by omega)
      rw [ha, Addr.add_lit] at this
      rw [this, List.getElem_take, List.getD_eq_getElem?_getD, List.getElem?_eq_getElem (by omega)]
      rfl
def intV : Value → Int
  | .int _ n => n
  | _ => 0
def strV : Value → ByteArray
  | .string s => s
  | _ => ⟨#[]⟩
theorem readsP_of_trod {H : Type} {enc : TypeId × Value → H} {P : Program} {w : World} {base : Nat} {spare : Nat → Bool} {held : Bool} {t e : TypeId} {f0 f1 : Field} {fuel : Nat} {v : Value} {x : DataW H × List MemPlace}
    (ht : P.underlying t = some (.slice e)) (he : P.underlying e = some (.struct #[f0, f1])) (ce : P.cellsOf e = 2) (o0 : f0.offset = 0) (o1 : f1.offset = 1) (c0 : P.cellsOf f0.type = 1) (c1 : P.cellsOf f1.type = 1)
    (u0 : P.underlying f0.type = some (.int .i64)) (u1 : P.underlying f1.type = some .string) (h : DataW.trod enc P w base spare held fuel t [v] = some x) : ∃ ps, ReadsP w v ps := by
  rcases Go.Deep.open_slice_pairs ht he ce o0 o1 c0 c1 h with ⟨hcs, _⟩ | ⟨a, len, cap, m, n, V0, V1, D0, D1, P0, P1, hcs, _, hl, hm, hmm, _, hx⟩
  · obtain rfl : v = .slice none 0 0 := by simpa using hcs
    exact ⟨[], none, 0, rfl, Nat.le_refl _, Nat.zero_le _, by simp, fun h0 => absurd h0 (Nat.lt_irrefl 0)⟩
  · obtain rfl : v = .slice (some a) len cap := by simpa using hcs
    have hll : len ≤ m := by rw [hmm]; split <;> omega
    have each : ∀ i, i < m → w.cell? (a.add (i * 2)) = some (.int .i64 (intV (V0 i))) ∧ w.cell? (a.add (i * 2 + 1)) = some (.string (strV (V1 i))) ∧ (strV (V1 i)).size ≤ maxLen := by
      intro i hi
      obtain ⟨h0, h1, h2, h3⟩ := hx i hi
      obtain ⟨z, e0, _⟩ := DataW.trod_int u0 h2
      obtain ⟨s, e1, _, hs⟩ := DataW.trod_string u1 h3
      obtain e0' : V0 i = .int .i64 z := by simpa using e0
      obtain e1' : V1 i = .string s := by simpa using e1
      rw [h0, h1, e0', e1']
      exact ⟨rfl, rfl, hs⟩
    refine ⟨(List.range len).map fun i => (intV (V0 i), strV (V1 i)), some a, cap, by simp, by simpa using hl, hm, fun y hy => ?_, fun h0 => ?_⟩
    · obtain ⟨i, hi, rfl⟩ := List.mem_map.1 hy
      exact (each i (by have := List.mem_range.1 hi; omega)).2.2
    · have h0' : 0 < len := by simpa using h0
      have ha := spot_none (w := w) (a := a) (v := .int .i64 (intV (V0 0))) (by simpa using (each 0 (by omega)).1)
      refine ⟨a.block, a.off, by rw [← ha], ?_, fun i hi => ?_⟩
      · have := World.block_lt_of_cell? w _ (each 0 (by omega)).1
        simpa [Addr.add] using this
      · have hi' : i < len := by simpa using hi
        obtain ⟨z0, z1, _⟩ := each i (by omega)
        rw [ha, Addr.add_lit] at z0 z1
        simp only [List.getElem_map, List.getElem_range]
        exact ⟨z0, by rw [Nat.add_assoc]; exact z1⟩
end Go.Proofs.YtfjjbofnfigehaaGreatDoor
