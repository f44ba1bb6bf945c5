/- ValueAt of the program and of the model: both answer the same Lean function of the lists. -/
import Derived.Test.YtmkcmajpepehmaaGreatXG20PLook
namespace Go.Proofs.YtmkcmajpepehmaaGreat
open Go.RowKit

theorem itemL_cases {α : Type} (xs : List (List α)) (a : Int) : itemL xs a = [] ∨ itemL xs a ∈ xs := by
  by_cases h : 0 ≤ a ∧ a < xs.length
  · obtain ⟨k, rfl⟩ := Int.eq_ofNat_of_zero_le h.1
    have hk : k < xs.length := by omega
    exact .inr (by rw [itemL_yes hk]; exact List.getElem_mem hk)
  · exact .inl (itemL_no h)
theorem itemS_cases (xs : List ByteArray) (a : Int) : itemS xs a = ⟨#[]⟩ ∨ itemS xs a ∈ xs := by
  by_cases h : 0 ≤ a ∧ a < xs.length
  · obtain ⟨k, rfl⟩ := Int.eq_ofNat_of_zero_le h.1
    have hk : k < xs.length := by omega
    exact .inr (by rw [itemS_yes hk]; exact List.getElem_mem hk)
  · exact .inl (itemS_no h)
theorem itemL_w {α : Type} (g : List α → Nat) (h0 : g [] = 0) (xs : List (List α)) (a : Int) : g (itemL xs a) ≤ wL g xs := by
  rcases itemL_cases xs a with e | e
  · rw [e, h0]; exact Nat.zero_le _
  · have := wL_mem g e; omega
theorem valAt_small {x : List Seg} (h : wSegs x ≤ 1048576) (q : PathM) : (valAt (fldAt x q) q).size ≤ 1048576 := by
  have h1 : wFlds (fldsAt x (segIx x q.seg q.nth 0)) ≤ wSegs x := by
    unfold fldsAt
    rcases itemL_cases (x.map (·.2)) (segIx x q.seg q.nth 0) with e | e
    · rw [e]; exact Nat.zero_le _
    · obtain ⟨s, hs, e2⟩ := List.mem_map.1 e
      rw [← e2]
      have := wL_mem wSeg hs
      have h3 : wSegs x = wL wSeg x := rfl
      have h4 : wSeg s = s.1.size + wFlds s.2 := rfl
      omega
  have h2 : wFld (fldAt x q) ≤ wFlds (fldsAt x (segIx x q.seg q.nth 0)) := itemL_w wFld rfl _ _
  have h3 : wRep (itemL (fldAt x q) (q.rep - 1)) ≤ wFld (fldAt x q) := itemL_w wRep rfl _ _
  have h4 : wComp (itemL (itemL (fldAt x q) (q.rep - 1)) (q.comp - 1)) ≤ wRep (itemL (fldAt x q) (q.rep - 1)) := itemL_w wComp rfl _ _
  have h5 : (valAt (fldAt x q) q).size ≤ wComp (itemL (itemL (fldAt x q) (q.rep - 1)) (q.comp - 1)) := by
    unfold valAt
    rcases itemS_cases (itemL (itemL (fldAt x q) (q.rep - 1)) (q.comp - 1)) (q.sub - 1) with e | e
    · rw [e]; exact Nat.zero_le _
    · have := wL_mem ByteArray.size e
      exact Nat.le_trans (by omega) (Nat.le_refl (wL ByteArray.size _))
  omega
def valOut (m : ByteArray) (x : List Seg) (q : PathM) : ByteArray := if msgB m x && q.right then valAt (fldAt x q) q else ⟨#[]⟩

theorem Tryz.fieldOfField (p : Option Addr) (n c : Nat) (W : World) : (Instr.field 31 (.agg #[.slice p n c]) 0).run Tryz.prog W = .ok (.slice p n c) W := by kernel_rfl
theorem ret_stringP {a b : ByteArray} (h : a = b) : Ending.returned (.string a) = Ending.returned (.string b) := by rw [h]
end Go.Proofs.YtmkcmajpepehmaaGreat
/- ValueAt of the model. -/
namespace Go.Proofs.YtmkcmajpepehmaaGreat
open Go.RowKit

set_option maxHeartbeats 2000000 in
theorem l05Field_from (nm : ByteArray) (v : Value) (xs : Flds) (a : Int) (W w : World) (hb : Below W.heap.size W w) (ha1 : shiftB nm ≤ a) (ha2 : a ≤ 1000) (hr : RFlds 0 W v xs) :
    Calls Tryz.prog 61 #[.agg #[.string nm, v], .int .i64 a] w fun e w' => (∃ p c, e = .returned (.agg #[.slice p (itemL xs (a - shiftB nm)).length c]) ∧ RFld 0 W (.slice p (itemL xs (a - shiftB nm)).length c) (itemL xs (a - shiftB nm))) ∧ Below w.heap.size w w' := by
  obtain ⟨p, cap, rfl, h1, h2, h4⟩ := hr
  have H4 := hide h4
  have HBB := hide hb
  clear h4 hb
  unfold maxLen at h2
  have hsh := shiftB_small nm
  obtain ⟨D, hD⟩ : ∃ D, D = a - shiftB nm := ⟨_, rfl⟩
  have hwr : IntKind.i64.wrap (a - shiftB nm) = D := by rw [hD]; exact wrap_small _ (by omega) (by omega)
  rw [← hD]
  obtain ⟨RES, hRES⟩ : ∃ R, R = itemL xs D := ⟨_, rfl⟩
  rw [← hRES]
  have HRES := hide hRES
  clear hRES
  obtain ⟨X, hX⟩ : ∃ X, X = (w.alloc (.cells #[.string nm, .slice p xs.length cap] 83)).alloc (.cells #[.slice none 0 0] 31) := ⟨_, rfl⟩
  have hB0 : Below w.heap.size w X := by rw [hX]; exact ((Below.refl _ _).alloc (Nat.le_refl _) _).alloc (by simp) _
  have HB0 := hide hB0
  have HM : Hid (Row X w.heap.size 83 [.string nm, .slice p xs.length cap]) := by rw [hX]; exact (row_new w [.string nm, .slice p xs.length cap] 83).alloc _
  have HF : Hid (Row X (w.heap.size + 1) 31 [.slice none 0 0]) := by
    rw [hX]
    have := row_new (w.alloc (.cells #[.string nm, .slice p xs.length cap] 83)) [.slice none 0 0] 31
    exact hide (by simpa using this)
  have c0 : X.cell? ⟨w.heap.size, 0, none⟩ = some (.string nm) := HM.out.cell 0
  have c1 : X.cell? ⟨w.heap.size, 1, none⟩ = some (.slice p xs.length cap) := HM.out.cell 1
  have d0 : X.cell? ⟨w.heap.size + 1, 0, none⟩ = some (.slice none 0 0) := HF.out.cell 0
  have e0 := HF.out.free 0
  have HXs := hide (show w.heap.size + 1 < X.heap.size from HF.out.lt)
  clear hB0
  go_enter Tryz.func61, Tryz.ntmps61
  go_wp2_with fail
  rw [← hX]
  refine (shift_any nm _).mono ?_
  rintro e w1 ⟨rfl, rfl⟩
  clear hX
  have HD := hide hD
  clear hD ha1 ha2
  generalize shiftB nm = SH at *
  by_cases hin : 0 ≤ D ∧ D < xs.length
  · obtain ⟨k, rfl⟩ := Int.eq_ofNat_of_zero_le hin.1
    have hk : k < xs.length := by omega
    have HE := hide (show RES = xs[k] by rw [HRES.out]; exact itemL_yes hk)
    obtain ⟨g, off, hp, hg, _, hc⟩ := H4.out (by omega)
    subst hp
    obtain ⟨u, hu0, hru⟩ := hc k hk
    obtain ⟨up, uc, rfl⟩ := RL.isSlice hru
    have HRU := hide hru
    have hgw := Nat.lt_of_lt_of_le hg HBB.out.size
    have hu1 := (HBB.out.cell (p := ⟨g, off + k, none⟩) hg).trans hu0
    have hu := (HB0.out.cell (p := ⟨g, off + k, none⟩) hgw).trans hu1
    have HB2 := hide (HB0.out.setCell (p := ⟨w.heap.size + 1, 0, none⟩) (show w.heap.size ≤ w.heap.size + 1 by omega) (.slice up (xs[k]'hk).length uc))
    have HR2 := hide (HF.out.set (j := 0) (.slice up (xs[k]'hk).length uc))
    have hi0 : ¬ ((k : Int) < 0) := by omega
    have hi1 : ¬ ((xs.length : Int) ≤ (k : Int)) := by omega
    clear hc hru hin hu0 hu1 hsh
    go_wp2
    generalize hY : World.setCell _ _ _ = Y at HR2 HB2 ⊢
    clear hY
    have q0 : Y.cell? ⟨w.heap.size + 1, 0, none⟩ = some (.slice up (xs[k]'hk).length uc) := HR2.out.cell 0
    exact bodyPost_ret (v := .agg #[.slice up (xs[k]'hk).length uc]) (by simp [results, Tryz.results61, go_sem, q0]) rfl ⟨⟨up, uc, by rw [HE.out], by rw [HE.out]; exact HRU.out⟩, HB2.out⟩
  · have HE := hide (show RES = [] by rw [HRES.out]; exact itemL_no hin)
    have HZ : Hid (RFld 0 W (.slice none ([] : List (List (List ByteArray))).length 0) []) := ⟨none, 0, rfl, Nat.le_refl _, Nat.zero_le _, fun h => absurd h (Nat.lt_irrefl 0)⟩
    have HB2 := hide (HB0.out.setCell (p := ⟨w.heap.size + 1, 0, none⟩) (show w.heap.size ≤ w.heap.size + 1 by omega) (.slice none 0 0))
    have HR2 := hide (HF.out.set (j := 0) (.slice none 0 0))
    by_cases h0 : D < 0
    · clear hin
      go_wp2
      generalize hY : World.setCell _ _ _ = Y at HR2 HB2 ⊢
      clear hY
      have q0 : Y.cell? ⟨w.heap.size + 1, 0, none⟩ = some (.slice none 0 0) := HR2.out.cell 0
      exact bodyPost_ret (v := .agg #[.slice none 0 0]) (by simp [results, Tryz.results61, go_sem, q0]) rfl ⟨⟨none, 0, by rw [HE.out]; rfl, by rw [HE.out]; exact HZ.out⟩, HB2.out⟩
    · have h3 : (xs.length : Int) ≤ D := by omega
      clear hin
      go_wp2
      generalize hY : World.setCell _ _ _ = Y at HR2 HB2 ⊢
      clear hY
      have q0 : Y.cell? ⟨w.heap.size + 1, 0, none⟩ = some (.slice none 0 0) := HR2.out.cell 0
      exact bodyPost_ret (v := .agg #[.slice none 0 0]) (by simp [results, Tryz.results61, go_sem, q0]) rfl ⟨⟨none, 0, by rw [HE.out]; rfl, by rw [HE.out]; exact HZ.out⟩, HB2.out⟩

theorem itemS_nil (a : Int) : itemS [] a = ⟨#[]⟩ := itemS_no (by simp)
theorem itemL_nil {α : Type} (a : Int) : itemL ([] : List (List α)) a = [] := itemL_no (by simp)
theorem valAt_r {f : List (List (List ByteArray))} {q : PathM} (h : (f.length : Int) < q.rep) : valAt f q = ⟨#[]⟩ := by
  unfold valAt; rw [itemL_no (by omega : ¬ (0 ≤ q.rep - 1 ∧ q.rep - 1 < f.length)), itemL_nil, itemS_nil]
theorem valAt_c {f : List (List (List ByteArray))} {q : PathM} {i : Nat} (hi : i < f.length) (e : q.rep - 1 = i) (h : ((f[i]'hi).length : Int) < q.comp) : valAt f q = ⟨#[]⟩ := by
  unfold valAt; rw [e, itemL_yes hi, itemL_no (by omega : ¬ (0 ≤ q.comp - 1 ∧ q.comp - 1 < (f[i]'hi).length)), itemS_nil]
theorem valAt_s {f : List (List (List ByteArray))} {q : PathM} {i j : Nat} (hi : i < f.length) (e : q.rep - 1 = i) (hj : j < (f[i]'hi).length) (e2 : q.comp - 1 = j) : valAt f q = itemS ((f[i]'hi)[j]'hj) (q.sub - 1) := by
  unfold valAt; rw [e, itemL_yes hi, e2, itemL_yes hj]

theorem segIx_at {x : List Seg} {g : ByteArray} {n : Int} {j : Nat} (e : segIx x g n 0 = (j : Int)) : ∃ h : j < x.length, (x[j]'h).1 = g := by
  rcases segIx_name x g n 0 with e2 | ⟨k, hk, e2, e3⟩
  · rw [e] at e2; omega
  · rw [e, Nat.zero_add] at e2
    have : j = k := by omega
    subst this
    exact ⟨hk, e3⟩

set_option maxHeartbeats 4000000 in
set_option maxRecDepth 100000 in
theorem l05At_from (m : ByteArray) (u : Value) (x : List Seg) (q : PathM) (W0 w : World) (hb : Below W0.heap.size W0 w) (hq : q.right = true) (hx : x.length ≤ 1048576) (hr : RSegs 0 W0 u x) :
    Calls Tryz.prog 30 #[.agg #[.string m, u], q.v] w fun e w' => (∃ p c, e = .returned (.agg #[.slice p (fldAt x q).length c]) ∧ RFld 0 W0 (.slice p (fldAt x q).length c) (fldAt x q)) ∧ Below w.heap.size w w' := by
  obtain ⟨⟨n1, n2⟩, ⟨f1, f2⟩, _, _, _⟩ := right_nums hq
  have hsh := shiftB_small q.seg
  have HBB := hide hb
  have HR := hide hr
  obtain ⟨p, c, rfl⟩ := hr.isSlice
  clear hb hr hq
  obtain ⟨RES, hRES⟩ : ∃ R, R = fldAt x q := ⟨_, rfl⟩
  rw [← hRES]
  have HRES := hide hRES
  clear hRES
  obtain ⟨W, hW⟩ : ∃ W, W = ((w.alloc (.cells #[.string m, .slice p x.length c] 35)).alloc (.cells #[.string q.seg, .int .i64 q.nth, .int .i64 q.fld, .int .i64 q.rep, .int .i64 q.comp, .int .i64 q.sub] 37)).alloc (.cells #[.slice none 0 0] 31) := ⟨_, rfl⟩
  have hB0 : Below w.heap.size w W := by rw [hW]; exact (((Below.refl _ _).alloc (Nat.le_refl _) _).alloc (by simp) _).alloc (by simp; omega) _
  have HB0 := hide hB0
  have HWs := hide (show W.heap.size = w.heap.size + 1 + 1 + 1 by rw [hW]; simp)
  have HM : Hid (Row W w.heap.size 35 [.string m, .slice p x.length c]) := by rw [hW]; exact ((row_new w [.string m, .slice p x.length c] 35).alloc _).alloc _
  have HP : Hid (Row W (w.heap.size + 1) 37 [.string q.seg, .int .i64 q.nth, .int .i64 q.fld, .int .i64 q.rep, .int .i64 q.comp, .int .i64 q.sub]) := by
    rw [hW]
    have := row_new (w.alloc (.cells #[.string m, .slice p x.length c] 35)) [.string q.seg, .int .i64 q.nth, .int .i64 q.fld, .int .i64 q.rep, .int .i64 q.comp, .int .i64 q.sub] 37
    exact Row.alloc (by simpa using this) _
  have HF : Hid (Row W (w.heap.size + 1 + 1) 31 [.slice none 0 0]) := by
    rw [hW]
    have := row_new ((w.alloc (.cells #[.string m, .slice p x.length c] 35)).alloc (.cells #[.string q.seg, .int .i64 q.nth, .int .i64 q.fld, .int .i64 q.rep, .int .i64 q.comp, .int .i64 q.sub] 37)) [.slice none 0 0] 31
    exact hide (by simpa using this)
  clear hB0
  rw [show q.v = .agg #[.string q.seg, .int .i64 q.nth, .int .i64 q.fld, .int .i64 q.rep, .int .i64 q.comp, .int .i64 q.sub] from rfl]
  go_enter Tryz.func30, Tryz.ntmps30
  go_wp2_with fail
  rw [← hW]
  clear hW
  generalize hK1 : w.heap.size + 1 = K1 at *
  generalize hK2 : K1 + 1 = K2 at *
  have HK := hide (show w.heap.size < K1 ∧ K1 < K2 ∧ K2 < W.heap.size by have := HWs.out; omega)
  clear hK1 hK2 HWs
  refine (l05Seg_any m _ x q.seg q.nth 0 _ n1 n2 hx (HR.out.below (HBB.out.trans (HB0.out.mono HBB.out.size)))).mono ?_
  rintro e w1 ⟨rfl, hb1⟩
  have HB1 := hide (HB0.out.trans (hb1.mono HB0.out.size))
  have HM1 := hide (HM.out.below hb1 HM.out.lt)
  have HP1 := hide (HP.out.below hb1 HP.out.lt)
  have HF1 := hide (HF.out.below hb1 HF.out.lt)
  have hK := HK.out
  clear hb1
  obtain ⟨IX, hIX⟩ : ∃ IX, IX = segIx x q.seg q.nth 0 := ⟨_, rfl⟩
  rw [← hIX]
  have HIX := hide hIX
  by_cases h0 : IX < 0
  · have HE := hide (show RES = [] by
      rw [HRES.out]
      unfold fldAt fldsAt
      rw [← HIX.out, itemL_no (xs := x.map (·.2)) (a := IX) (by omega), itemL_nil])
    have HZ : Hid (RFld 0 W0 (.slice none ([] : List (List (List ByteArray))).length 0) []) := ⟨none, 0, rfl, Nat.le_refl _, Nat.zero_le _, fun h => absurd h (Nat.lt_irrefl 0)⟩
    have r0 : w1.cell? ⟨K2, 0, none⟩ = some (.slice none 0 0) := HF1.out.cell 0
    have p0 := HF1.out.free 0
    have HB2 := hide (HB1.out.setCell (p := ⟨K2, 0, none⟩) (show w.heap.size ≤ K2 by omega) (.slice none 0 0))
    have HR2 := hide (HF1.out.set (j := 0) (.slice none 0 0))
    clear hIX hsh hK
    go_wp2
    generalize hY : World.setCell _ _ _ = Y at HR2 HB2 ⊢
    clear hY
    have q0 : Y.cell? ⟨K2, 0, none⟩ = some (.slice none 0 0) := HR2.out.cell 0
    exact bodyPost_ret (v := .agg #[.slice none 0 0]) (by simp [results, Tryz.results30, go_sem, q0]) rfl ⟨⟨none, 0, by rw [HE.out]; rfl, by rw [HE.out]; exact HZ.out⟩, HB2.out⟩
  · obtain ⟨j, hj⟩ := Int.eq_ofNat_of_zero_le (show 0 ≤ IX by omega)
    obtain ⟨hjl, hnm⟩ := segIx_at (hIX.symm.trans hj)
    subst hj
    have HE := hide (show RES = itemL (x[j]'hjl).2 (q.fld - shiftB (x[j]'hjl).1) by
      rw [HRES.out]
      unfold fldAt fldsAt
      rw [← HIX.out, itemL_yes (by simpa using hjl), hnm]
      simp)
    obtain ⟨p', cap', e', h1, h2, h4⟩ := HR.out
    cases e'
    obtain ⟨g, off, hp, hg, _, hc⟩ := h4 (by omega)
    subst hp
    obtain ⟨hn0, _, u, hu0, hru⟩ := hc j hjl
    obtain ⟨up, uc, rfl⟩ := RL.isSlice hru
    have HRU := hide hru
    have hgw := Nat.lt_of_lt_of_le hg HBB.out.size
    have hgn : g ∉ [K2] := by simp; omega
    have HN1 := hide ((HB1.out.cell (p := ⟨g, off + j * 2, none⟩) hgw).trans ((HBB.out.cell (p := ⟨g, off + j * 2, none⟩) hg).trans hn0))
    have HU1 := hide ((HB1.out.cell (p := ⟨g, off + j * 2 + 1, none⟩) hgw).trans ((HBB.out.cell (p := ⟨g, off + j * 2 + 1, none⟩) hg).trans hu0))
    have hi1 : ¬ ((x.length : Int) ≤ (j : Int)) := by omega
    have hi0 : ¬ ((j : Int) < 0) := by omega
    have HNM := hide hnm
    have HFS := hide (show shiftB (x[j]'hjl).1 ≤ q.fld by rw [hnm]; exact f1)
    clear hc hru hn0 hu0 h4 h1 h2 hIX hnm HIX HRES
    generalize (x[j]'hjl).1 = nm at *
    generalize (x[j]'hjl).2 = fs at *
    go_wp2_with fail
    have HSS := hide (show ∀ y, Kept [K2] w1 y → (fun y : World => y.cell? ⟨w.heap.size, 1, none⟩ = some (.slice (some ⟨g, off, none⟩) x.length c) ∧ y.cell? ⟨g, off + j * 2, none⟩ = some (.string nm) ∧ y.cell? ⟨g, off + j * 2 + 1, none⟩ = some (.slice up fs.length uc) ∧ y.cell? ⟨K1, 2, none⟩ = some (.int .i64 q.fld)) y from fun y h => ⟨(h.row HM1.out (by simp; omega)).cell 1, h.cell HN1.out hgn, h.cell HU1.out hgn, (h.row HP1.out (by simp; omega)).cell 2⟩)
    refine wp_region_held (S := fun y : World => y.cell? ⟨w.heap.size, 1, none⟩ = some (.slice (some ⟨g, off, none⟩) x.length c) ∧ y.cell? ⟨g, off + j * 2, none⟩ = some (.string nm) ∧ y.cell? ⟨g, off + j * 2 + 1, none⟩ = some (.slice up fs.length uc) ∧ y.cell? ⟨K1, 2, none⟩ = some (.int .i64 q.fld)) (by kernel_rfl) ?_
    have HX : Hid (Kept [K2] w1 { w1 with drawn := w1.drawn + 1 }) := (Kept.refl _ _).drewP
    have HF0 : Hid (Row { w1 with drawn := w1.drawn + 1 } K2 31 [.slice none 0 0]) := HF1.out
    generalize ({ w1 with drawn := w1.drawn + 1 } : World) = X0 at HX HF0 ⊢
    have HS := hide (HSS.out _ HX.out)
    refine wpAnyH_take (i := 0) (oi := _) (v := .pointer (some ⟨w.heap.size, 1, none⟩)) rfl (by kernel_rfl) (by kernel_rfl) (by kernel_rfl) (fun _ _ _ h => h) (Or.inl ⟨by rfl, by intro w hSw; go_split_ands; go_simp⟩) HS.out ?_
    simp only [Act.put, List.getElem_toArray, List.getElem_cons_zero, List.setIfInBounds_toArray, List.set_cons_zero, List.set_cons_succ]
    refine wpAnyH_take (i := 1) (oi := _) (v := .slice (some ⟨g, off, none⟩) x.length c) rfl (by kernel_rfl) (by kernel_rfl) (by kernel_rfl) (fun _ _ _ h => h) (Or.inl ⟨by rfl, by intro w hSw; go_split_ands; go_simp⟩) HS.out ?_
    simp only [Act.put, List.getElem_toArray, List.getElem_cons_zero, List.getElem_cons_succ, List.setIfInBounds_toArray, List.set_cons_zero, List.set_cons_succ]
    refine wpAnyH_take (i := 2) (oi := _) (v := .int .i64 (j : Int)) rfl (by kernel_rfl) (by kernel_rfl) (by kernel_rfl) (fun _ _ _ h => h) (Or.inl ⟨by rfl, by intro w hSw; go_split_ands; go_simp⟩) HS.out ?_
    simp only [Act.put, List.getElem_toArray, List.getElem_cons_zero, List.getElem_cons_succ, List.setIfInBounds_toArray, List.set_cons_zero, List.set_cons_succ]
    refine wpAnyH_take (i := 3) (oi := _) (v := .pointer (some ⟨g, off + j * 2, none⟩)) rfl (by kernel_rfl) (by kernel_rfl) (by kernel_rfl) (fun _ _ _ h => h) (Or.inl ⟨by rfl, by intro w hSw; go_split_ands; go_simp⟩) HS.out ?_
    simp only [Act.put, List.getElem_toArray, List.getElem_cons_zero, List.getElem_cons_succ, List.setIfInBounds_toArray, List.set_cons_zero, List.set_cons_succ]
    refine wpAnyH_take (i := 4) (oi := _) (v := .agg #[.string nm, .slice up fs.length uc]) rfl (by kernel_rfl) (by kernel_rfl) (by kernel_rfl) (fun _ _ _ h => h) (Or.inl ⟨by rfl, by intro w hSw; go_split_ands; go_simp⟩) HS.out ?_
    simp only [Act.put, List.getElem_toArray, List.getElem_cons_zero, List.getElem_cons_succ, List.setIfInBounds_toArray, List.set_cons_zero, List.set_cons_succ]
    refine wpAnyH_take (i := 5) (oi := _) (v := .pointer (some ⟨K1, 2, none⟩)) rfl (by kernel_rfl) (by kernel_rfl) (by kernel_rfl) (fun _ _ _ h => h) (Or.inl ⟨by rfl, by intro w hSw; go_split_ands; go_simp⟩) HS.out ?_
    simp only [Act.put, List.getElem_toArray, List.getElem_cons_zero, List.getElem_cons_succ, List.setIfInBounds_toArray, List.set_cons_zero, List.set_cons_succ]
    refine wpAnyH_take (i := 6) (oi := _) (v := .int .i64 q.fld) rfl (by kernel_rfl) (by kernel_rfl) (by kernel_rfl) (fun _ _ _ h => h) (Or.inl ⟨by rfl, by intro w hSw; go_split_ands; go_simp⟩) HS.out ?_
    simp only [Act.put, List.getElem_toArray, List.getElem_cons_zero, List.getElem_cons_succ, List.setIfInBounds_toArray, List.set_cons_zero, List.set_cons_succ]
    refine wpAnyH_ready (rs := [7]) (by kernel_rfl) (by simp) ?_
    refine AllReadyH.cons (o := _) rfl (fun K hK => ?_) AllReadyH.nil
    go_simp
    refine (l05Field_from nm _ fs q.fld W0 _ (HBB.out.trans ((HX.out.toBelow HB1.out HB1.out.size (by simp; omega)).mono HBB.out.size)) HFS.out (by omega) HRU.out).mono ?_
    rintro e X3 ⟨⟨p3, c3, rfl, hf3⟩, hbc⟩
    have HX2 := hide (HX.out.below hbc)
    rw [← HE.out] at hf3 ⊢
    have HF3 := hide hf3
    have HRF := hide (HF0.out.below hbc HF0.out.lt)
    clear hf3
    refine hK.out _ _ (HSS.out _ HX2.out) (fun _ => ?_)
    clear hK K HS HX hbc 
    have HX := HX2
    have HS := hide (HSS.out _ HX.out)
    clear HX2
    refine wpAnyH_ready (rs := [8]) (by kernel_rfl) (by simp) ?_
    refine AllReadyH.cons (o := _) rfl (fun K hK => ?_) AllReadyH.nil
    have r0 := HRF.out.cell 0
    have p0 := HRF.out.free 0
    go_simp
    have HX2 := hide (HX.out.setOwn (G := K2) (j := 0) (.inr (by simp)) (.slice p3 RES.length c3))
    have HR2 := hide (HRF.out.set (j := 0) (.slice p3 RES.length c3))
    refine hK.out _ _ (HSS.out _ HX2.out) (fun _ => ?_)
    refine wpAnyH_done (by kernel_rfl) ?_ _
    clear hK K r0 p0
    have HBF := hide (HX2.out.toBelow HB1.out HB1.out.size (by simp; omega))
    generalize hY : World.setCell _ _ _ = Y at HR2 HBF ⊢
    clear hY
    have q0 : Y.cell? ⟨K2, 0, none⟩ = some (.slice p3 RES.length c3) := HR2.out.cell 0
    go_wp2
    exact bodyPost_ret (v := .agg #[.slice p3 RES.length c3]) (by simp [results, Tryz.results30, go_sem, q0]) rfl ⟨⟨p3, c3, rfl, HF3.out⟩, HBF.out⟩

end Go.Proofs.YtmkcmajpepehmaaGreat
