/- CheckField of the model. -/
import Derived.Test.YtfjjbofnfigehaaGreatDoorXG26ShelfP
import Derived.Test.YtfjjbofnfigehaaGreatDoorXG23VRepS
import Derived.Deep.RegionWith
import Derived.Test.YtfjjbofnfigehaaGreatDoorXG24FNestT
import Derived.Deep.RegionHeld3
namespace Go.Proofs.YtfjjbofnfigehaaGreatDoor
open Go.RowKit
theorem own_eq (s : ByteArray) (h : 0 < s.size) : ownB s = ((s[0]'h).toNat == 90) := by
  obtain ⟨⟨l⟩⟩ := s
  match l, h with
  | a :: r, h =>
    show ([90] : List UInt8).isPrefixOf (a :: r) = (a.toNat == 90)
    simp only [List.isPrefixOf, Bool.and_true]
    by_cases e : a = 90
    · subst e; rfl
    · have e2 : ¬ a.toNat = 90 := fun h => e (UInt8.toNat_inj.1 h)
      rw [beq_eq_false_iff_ne.2 e2, beq_eq_false_iff_ne.2 (fun h => e h.symm)]
theorem fld_reps {x : List (List (List ByteArray))} (h : fldB x = true) : ∀ q ∈ x, repB q = true := by
  simp only [fldB, rightB, Bool.and_eq_true] at h
  exact List.all_eq_true.1 h.1.1
set_option maxHeartbeats 8000000 in
set_option maxRecDepth 100000 in
theorem l06Check_any (v : Int) (s : ByteArray) (f : Int) (u : Value) (x : List (List (List ByteArray))) (w : World) (hs : s.size = 3) (hv : verB v = true) (hfx : fldB x = true) (hn : wFld x ≤ 1048576) (hx : RFld 0 w u x) :
    Calls Tryz.prog 27 #[.int .i64 v, .string s, .int .i64 f, .agg #[u]] w fun e w' => e = .returned (.int .i64 (fieldCodeB v s (ruleL v s f) x)) ∧ Below w.heap.size w w' := by
  obtain ⟨R, hR⟩ : ∃ R, R = fieldCodeB v s (ruleL v s f) x := ⟨_, rfl⟩
  rw [← hR]
  have HSZ := hideF (wFld_sizes hn)
  have HR := hideF hR
  have HV := hideF hv
  have HRP := hideF (fld_reps hfx)
  have HZ := hideF (rule_mem v s f)
  clear hR hn hfx
  obtain ⟨p, cap, rfl, x1, x2, x4⟩ := hx
  have HX := hideF (show RFld 0 w (.slice p x.length cap) x from ⟨_, _, rfl, x1, x2, x4⟩)
  clear x4
  unfold maxLen at x2
  have h0s : 0 < s.size := by omega
  have HOW := hideF (own_eq s h0s)
  have HB0 := hideF ((Below.refl w.heap.size w).alloc (Nat.le_refl _) (.cells #[.slice p x.length cap] 40))
  have HRa := hideF (row_new w [.slice p x.length cap] 40)
  have hsi : (0 : Int) < (s.size : Int) := by omega
  cases ho : ownB s
  · have hob : (((s[0]'h0s).toNat : Int) == 90) = false := by
      have := HOW.out
      rw [ho] at this
      have h2 : ¬ (s[0]'h0s).toNat = 90 := by simpa using this.symm
      exact beq_eq_false_iff_ne.2 (by omega)
    have HF := hideF (show R = codeL v (ruleL v s f) x by rw [HR.out, fieldCodeB, ho]; rfl)
    clear HR ho HOW
    go_enter Tryz.func27, Tryz.ntmps27
    go_wp2_with fail
    refine (specRuleOf_any v s f _).mono ?_
    rintro e w1 ⟨rfl, hb1⟩
    have HB1 := hideF (HB0.out.trans (hb1.mono HB0.out.size))
    have HRa1 := hideF (HRa.out.below hb1 HRa.out.lt)
    clear hb1 HRa HB0
    obtain ⟨r, hr⟩ : ∃ r, r = ruleL v s f := ⟨_, rfl⟩
    rw [← hr] at HF HZ ⊢
    clear hr
    unfold RuleM.v
    have HRr := hideF (row6 w1 r 88)
    have HRa2 := hideF (HRa1.out.alloc (.cells #[.string r.seg, .int .i64 r.fld, .int .i64 r.ty, .bool r.must, .bool r.many, .int .i64 r.since] 88))
    have HB2 := hideF (HB1.out.alloc HB1.out.size (.cells #[.string r.seg, .int .i64 r.fld, .int .i64 r.ty, .bool r.must, .bool r.many, .int .i64 r.since] 88))
    have HTY := hideF (show 0 ≤ r.ty ∧ r.ty ≤ 9 by
      rcases HZ.out with h | h
      · rw [h]; exact ⟨Int.le_refl 0, by show (0 : Int) ≤ 9; omega⟩
      · have := rulesL_ty r h; omega)
    clear HRa1 HB1 HZ
    go_upto_region 4 with fail
    obtain ⟨G, hG⟩ : ∃ G, G = w1.heap.size := ⟨_, rfl⟩
    rw [← hG] at HRr ⊢
    clear hG
    obtain ⟨X, hX⟩ : ∃ X, X = w1.alloc (.cells #[.string r.seg, .int .i64 r.fld, .int .i64 r.ty, .bool r.must, .bool r.many, .int .i64 r.since] 88) := ⟨_, rfl⟩
    rw [← hX] at HRr HRa2 HB2 ⊢
    clear hX
    have b0 : X.cell? ⟨w.heap.size, 0, none⟩ = some (.slice p x.length cap) := HRa2.out.cell 0
    have g2 : X.cell? ⟨G, 2, none⟩ = some (.int .i64 r.ty) := HRr.out.cell 2
    have g3 : X.cell? ⟨G, 3, none⟩ = some (.bool r.must) := HRr.out.cell 3
    have g4 : X.cell? ⟨G, 4, none⟩ = some (.bool r.many) := HRr.out.cell 4
    by_cases h0 : x.length = 0
    · have hb : ((x.length : Int) == 0) = true := by simp [h0]
      have hb2 : decide (0 < (x.length : Int)) = false := by simp [h0]
      have hb3 : decide (1 < (x.length : Int)) = false := by simp [h0]
      have hb4 : ¬ (0 : Int) < (x.length : Int) := by omega
      have hb5 : ¬ (1 : Int) < (x.length : Int) := by omega
      obtain ⟨mu, hmu⟩ : ∃ mu, mu = r.must := ⟨_, rfl⟩
      rw [← hmu] at g3
      have HMU := hideF hmu
      clear hmu
      cases mu
      · have HN := hideF (show R = 0 by rw [HF.out, codeL, if_neg (by rw [← HMU.out]; simp), if_neg (by omega), if_neg (by omega), List.eq_nil_of_length_eq_zero h0]; rfl)
        clear h0
        go_wp2
        refine wp_loop_rounds 1 ?_
        rw [rounds_succ]
        go_wp2
        go_ret
        exact ⟨ret_int HN.out.symm, HB2.out⟩
      · have HN := hideF (show R = 12 by rw [HF.out, codeL, if_pos ⟨h0, HMU.out.symm⟩])
        clear h0
        go_wp2
        go_ret
        exact ⟨ret_int HN.out.symm, HB2.out⟩
    · have hb : ((x.length : Int) == 0) = false := beq_eq_false_iff_ne.2 (by omega)
      have hb2 : decide (0 < (x.length : Int)) = true := decide_eq_true (by omega)
      have hb6 : (0 : Int) < (x.length : Int) := by omega
      by_cases hz : r.ty = 0
      · have hzb : (r.ty == 0) = true := by simpa using hz
        have HN := hideF (show R = 12 by rw [HF.out, codeL, if_neg (fun h => h0 h.1), if_pos ⟨by omega, hz⟩])
        clear hz
        go_wp2
        go_ret
        exact ⟨ret_int HN.out.symm, HB2.out⟩
      · have hzb : (r.ty == 0) = false := by simpa using hz
        by_cases h1 : 1 < x.length
        · have hb3 : decide (1 < (x.length : Int)) = true := decide_eq_true (by omega)
          have hb4 : (1 : Int) < (x.length : Int) := by omega
          obtain ⟨ma, hma⟩ : ∃ ma, ma = r.many := ⟨_, rfl⟩
          rw [← hma] at g4
          have HMA := hideF hma
          clear hma
          cases ma
          · have HN := hideF (show R = 12 by rw [HF.out, codeL, if_neg (fun h => h0 h.1), if_neg (fun h => hz h.2), if_pos ⟨h1, HMA.out.symm⟩])
            clear h1 hz
            go_wp2
            go_ret
            exact ⟨ret_int HN.out.symm, HB2.out⟩
          · have HS12 := hideF (show R = if x.all (fun p => repFitsB v r.ty p) = true then 0 else 12 by rw [HF.out, codeL, if_neg (fun h => h0 h.1), if_neg (fun h => hz h.2), if_neg (fun h => by have := h.2; rw [← HMA.out] at this; exact absurd this (by decide))])
            clear HF hz
            go_wp2
            go_loopw [11] (fun i wr => ∃ (Y : World) (j : Nat), Y = wr ∧ j ≤ x.length ∧ i = .int .i64 (j : Int) ∧ Hid (∀ q ∈ x.take j, repFitsB v r.ty q = true) ∧ Hid (Below X.heap.size X Y)) (fun i _ => x.length - (intOf i).toNat)
            case atStart => exact ⟨_, 0, rfl, Nat.zero_le _, rfl, hideF (by simp), hideF (Below.refl _ _)⟩
            case round =>
              obtain ⟨Y, j, rfl, hj, rfl, HA, HBY⟩ := hrel
              by_cases hlt : j < x.length
              · obtain ⟨_, _, e1, _, _, x4⟩ := HX.out
                cases e1
                obtain ⟨g, off, hp, hg, _, hc⟩ := x4 (by omega)
                subst hp
                obtain ⟨u, hu, hru⟩ := hc j hlt
                have HBW := hideF (HB2.out.trans (HBY.out.mono HB2.out.size))
                have HRU := hideF (hru.below HBW.out)
                obtain ⟨up, uc, rfl⟩ := hru.isSlice
                have HZ1 := hideF (HSZ.out.2.1 j hlt)
                have hji : (j : Int) < (x.length : Int) := by omega
                have HSS := hideF (show ∀ y, Below Y.heap.size Y y → y.cell? ⟨w.heap.size, 0, none⟩ = some (.slice (some ⟨g, off, none⟩) x.length cap) ∧ y.cell? ⟨G, 2, none⟩ = some (.int .i64 r.ty) ∧ y.cell? ⟨g, off + j, none⟩ = some (.slice up (x[j]'hlt).length uc) ∧ Below Y.heap.size Y y from
                  fun y h => ⟨((HRa2.out.below HBY.out HRa2.out.lt).below h (HRa2.out.below HBY.out HRa2.out.lt).lt).cell 0, ((HRr.out.below HBY.out HRr.out.lt).below h (HRr.out.below HBY.out HRr.out.lt).lt).cell 2, by
                    have hb := HBW.out.trans (h.mono HBW.out.size)
                    rw [hb.cell (p := ⟨g, off + j, none⟩) hg]; exact hu, h⟩)
                have HT : Hid (∀ b, fitsL v r.ty (x[j]'hlt) = b → (b = true → ∀ q ∈ x.take (j + 1), repFitsB v r.ty q = true) ∧ (b = false → R = 12)) := by
                  intro b hb
                  have hrf : repFitsB v r.ty (x[j]'hlt) = b := by rw [repFitsB, HV.out, HRP.out _ (List.getElem_mem hlt), hb]; cases b <;> rfl
                  refine ⟨fun h => ?_, fun h => ?_⟩
                  · rw [List.take_succ_eq_append_getElem hlt]
                    intro q hq
                    rcases List.mem_append.1 hq with hq | hq
                    · exact HA.out q hq
                    · rw [List.mem_singleton.1 hq, hrf, h]
                  · rw [HS12.out, if_neg]
                    intro ha
                    have := List.all_eq_true.1 ha (x[j]'hlt) (List.getElem_mem hlt)
                    rw [hrf, h] at this
                    exact absurd this (by decide)
                clear hu hru hc x4
                generalize (x[j]'hlt) = rp at *
                cases hq : fitsL v r.ty rp
                · have HN := hideF ((HT.out _ hq).2 rfl)
                  have HCF : Hid (∀ (u : Value) (Z : World), RRep 0 Z u rp → Calls Tryz.prog 18 #[.int .i64 v, .int .i64 r.ty, .agg #[u]] Z fun e w' => e = .returned (.bool false) ∧ Below Z.heap.size Z w') := by
                    intro u Z hz; rw [← hq]; exact l06Fits_any v r.ty u rp Z HZ1.out hz
                  clear hq
                  go_wp2_with fail
                  go_region_held3 (fun y => y.cell? ⟨w.heap.size, 0, none⟩ = some (.slice (some ⟨g, off, none⟩) x.length cap) ∧ y.cell? ⟨G, 2, none⟩ = some (.int .i64 r.ty) ∧ y.cell? ⟨g, off + j, none⟩ = some (.slice up rp.length uc) ∧ Below Y.heap.size Y y)
                    ((go_split_ands; refine HSS.out _ ?_; repeat (first | with_reducible assumption | with_reducible exact Below.refl _ _ | with_reducible refine Below.drew ?_)))
                    ((go_at_call 18; go_split_ands; refine (HCF.out _ _ (HRU.out.below (by assumption))).mono ?_; rintro e w7 ⟨rfl, hb7⟩; have hB7 : Below Y.heap.size Y w7 := Below.trans (by assumption) (hb7.mono (Below.size (by assumption))); clear hb7))
                  all_goals
                    have HB7 := hideF (HBW.out.trans (hB7.mono HBW.out.size))
                    clear hB7
                    go_wp2
                    go_ret
                    exact ⟨ret_int HN.out.symm, HB7.out⟩
                · have HN := hideF ((HT.out _ hq).1 rfl)
                  have HCF : Hid (∀ (u : Value) (Z : World), RRep 0 Z u rp → Calls Tryz.prog 18 #[.int .i64 v, .int .i64 r.ty, .agg #[u]] Z fun e w' => e = .returned (.bool true) ∧ Below Z.heap.size Z w') := by
                    intro u Z hz; rw [← hq]; exact l06Fits_any v r.ty u rp Z HZ1.out hz
                  clear hq
                  go_wp2_with fail
                  go_region_held3 (fun y => y.cell? ⟨w.heap.size, 0, none⟩ = some (.slice (some ⟨g, off, none⟩) x.length cap) ∧ y.cell? ⟨G, 2, none⟩ = some (.int .i64 r.ty) ∧ y.cell? ⟨g, off + j, none⟩ = some (.slice up rp.length uc) ∧ Below Y.heap.size Y y)
                    ((go_split_ands; refine HSS.out _ ?_; repeat (first | with_reducible assumption | with_reducible exact Below.refl _ _ | with_reducible refine Below.drew ?_)))
                    ((go_at_call 18; go_split_ands; refine (HCF.out _ _ (HRU.out.below (by assumption))).mono ?_; rintro e w7 ⟨rfl, hb7⟩; have hB7 : Below Y.heap.size Y w7 := Below.trans (by assumption) (hb7.mono (Below.size (by assumption))); clear hb7))
                  all_goals
                    have HB7 := hideF (HBY.out.trans (hB7.mono HBY.out.size))
                    clear hB7
                    go_wp2
                    go_roundw
                    case rel => exact ⟨_, j + 1, rfl, by omega, by go_num, HN, HB7⟩
                    case measure => simp [intOf]; omega
              · have HN := hideF (show R = 0 by
                  rw [HS12.out, if_pos]
                  have := HA.out
                  rw [List.take_of_length_le (by omega)] at this
                  exact List.all_eq_true.2 this)
                have HBW := hideF (HB2.out.trans (HBY.out.mono HB2.out.size))
                go_wp2
                go_ret
                exact ⟨ret_int HN.out.symm, HBW.out⟩
        · have hb3 : decide (1 < (x.length : Int)) = false := decide_eq_false (by omega)
          have hb4 : ¬ (1 : Int) < (x.length : Int) := by omega
          have HS12 := hideF (show R = if x.all (fun p => repFitsB v r.ty p) = true then 0 else 12 by rw [HF.out, codeL, if_neg (fun h => h0 h.1), if_neg (fun h => hz h.2), if_neg (fun h => h1 h.1)])
          clear HF hz
          go_wp2
          go_loopw [11] (fun i wr => ∃ (Y : World) (j : Nat), Y = wr ∧ j ≤ x.length ∧ i = .int .i64 (j : Int) ∧ Hid (∀ q ∈ x.take j, repFitsB v r.ty q = true) ∧ Hid (Below X.heap.size X Y)) (fun i _ => x.length - (intOf i).toNat)
          case atStart => exact ⟨_, 0, rfl, Nat.zero_le _, rfl, hideF (by simp), hideF (Below.refl _ _)⟩
          case round =>
            obtain ⟨Y, j, rfl, hj, rfl, HA, HBY⟩ := hrel
            by_cases hlt : j < x.length
            · obtain ⟨_, _, e1, _, _, x4⟩ := HX.out
              cases e1
              obtain ⟨g, off, hp, hg, _, hc⟩ := x4 (by omega)
              subst hp
              obtain ⟨u, hu, hru⟩ := hc j hlt
              have HBW := hideF (HB2.out.trans (HBY.out.mono HB2.out.size))
              have HRU := hideF (hru.below HBW.out)
              obtain ⟨up, uc, rfl⟩ := hru.isSlice
              have HZ1 := hideF (HSZ.out.2.1 j hlt)
              have hji : (j : Int) < (x.length : Int) := by omega
              have HSS := hideF (show ∀ y, Below Y.heap.size Y y → y.cell? ⟨w.heap.size, 0, none⟩ = some (.slice (some ⟨g, off, none⟩) x.length cap) ∧ y.cell? ⟨G, 2, none⟩ = some (.int .i64 r.ty) ∧ y.cell? ⟨g, off + j, none⟩ = some (.slice up (x[j]'hlt).length uc) ∧ Below Y.heap.size Y y from
                fun y h => ⟨((HRa2.out.below HBY.out HRa2.out.lt).below h (HRa2.out.below HBY.out HRa2.out.lt).lt).cell 0, ((HRr.out.below HBY.out HRr.out.lt).below h (HRr.out.below HBY.out HRr.out.lt).lt).cell 2, by
                  have hb := HBW.out.trans (h.mono HBW.out.size)
                  rw [hb.cell (p := ⟨g, off + j, none⟩) hg]; exact hu, h⟩)
              have HT : Hid (∀ b, fitsL v r.ty (x[j]'hlt) = b → (b = true → ∀ q ∈ x.take (j + 1), repFitsB v r.ty q = true) ∧ (b = false → R = 12)) := by
                intro b hb
                have hrf : repFitsB v r.ty (x[j]'hlt) = b := by rw [repFitsB, HV.out, HRP.out _ (List.getElem_mem hlt), hb]; cases b <;> rfl
                refine ⟨fun h => ?_, fun h => ?_⟩
                · rw [List.take_succ_eq_append_getElem hlt]
                  intro q hq
                  rcases List.mem_append.1 hq with hq | hq
                  · exact HA.out q hq
                  · rw [List.mem_singleton.1 hq, hrf, h]
                · rw [HS12.out, if_neg]
                  intro ha
                  have := List.all_eq_true.1 ha (x[j]'hlt) (List.getElem_mem hlt)
                  rw [hrf, h] at this
                  exact absurd this (by decide)
              clear hu hru hc x4
              generalize (x[j]'hlt) = rp at *
              cases hq : fitsL v r.ty rp
              · have HN := hideF ((HT.out _ hq).2 rfl)
                have HCF : Hid (∀ (u : Value) (Z : World), RRep 0 Z u rp → Calls Tryz.prog 18 #[.int .i64 v, .int .i64 r.ty, .agg #[u]] Z fun e w' => e = .returned (.bool false) ∧ Below Z.heap.size Z w') := by
                  intro u Z hz; rw [← hq]; exact l06Fits_any v r.ty u rp Z HZ1.out hz
                clear hq
                go_wp2_with fail
                go_region_held3 (fun y => y.cell? ⟨w.heap.size, 0, none⟩ = some (.slice (some ⟨g, off, none⟩) x.length cap) ∧ y.cell? ⟨G, 2, none⟩ = some (.int .i64 r.ty) ∧ y.cell? ⟨g, off + j, none⟩ = some (.slice up rp.length uc) ∧ Below Y.heap.size Y y)
                  ((go_split_ands; refine HSS.out _ ?_; repeat (first | with_reducible assumption | with_reducible exact Below.refl _ _ | with_reducible refine Below.drew ?_)))
                  ((go_at_call 18; go_split_ands; refine (HCF.out _ _ (HRU.out.below (by assumption))).mono ?_; rintro e w7 ⟨rfl, hb7⟩; have hB7 : Below Y.heap.size Y w7 := Below.trans (by assumption) (hb7.mono (Below.size (by assumption))); clear hb7))
                all_goals
                  have HB7 := hideF (HBW.out.trans (hB7.mono HBW.out.size))
                  clear hB7
                  go_wp2
                  go_ret
                  exact ⟨ret_int HN.out.symm, HB7.out⟩
              · have HN := hideF ((HT.out _ hq).1 rfl)
                have HCF : Hid (∀ (u : Value) (Z : World), RRep 0 Z u rp → Calls Tryz.prog 18 #[.int .i64 v, .int .i64 r.ty, .agg #[u]] Z fun e w' => e = .returned (.bool true) ∧ Below Z.heap.size Z w') := by
                  intro u Z hz; rw [← hq]; exact l06Fits_any v r.ty u rp Z HZ1.out hz
                clear hq
                go_wp2_with fail
                go_region_held3 (fun y => y.cell? ⟨w.heap.size, 0, none⟩ = some (.slice (some ⟨g, off, none⟩) x.length cap) ∧ y.cell? ⟨G, 2, none⟩ = some (.int .i64 r.ty) ∧ y.cell? ⟨g, off + j, none⟩ = some (.slice up rp.length uc) ∧ Below Y.heap.size Y y)
                  ((go_split_ands; refine HSS.out _ ?_; repeat (first | with_reducible assumption | with_reducible exact Below.refl _ _ | with_reducible refine Below.drew ?_)))
                  ((go_at_call 18; go_split_ands; refine (HCF.out _ _ (HRU.out.below (by assumption))).mono ?_; rintro e w7 ⟨rfl, hb7⟩; have hB7 : Below Y.heap.size Y w7 := Below.trans (by assumption) (hb7.mono (Below.size (by assumption))); clear hb7))
                all_goals
                  have HB7 := hideF (HBY.out.trans (hB7.mono HBY.out.size))
                  clear hB7
                  go_wp2
                  go_roundw
                  case rel => exact ⟨_, j + 1, rfl, by omega, by go_num, HN, HB7⟩
                  case measure => simp [intOf]; omega
            · have HN := hideF (show R = 0 by
                rw [HS12.out, if_pos]
                have := HA.out
                rw [List.take_of_length_le (by omega)] at this
                exact List.all_eq_true.2 this)
              have HBW := hideF (HB2.out.trans (HBY.out.mono HB2.out.size))
              go_wp2
              go_ret
              exact ⟨ret_int HN.out.symm, HBW.out⟩
  · have hob : (((s[0]'h0s).toNat : Int) == 90) = true := by
      have := HOW.out
      rw [ho] at this
      have h2 : (s[0]'h0s).toNat = 90 := by simpa using this.symm
      exact beq_iff_eq.2 (by omega)
    have HN := hideF (show R = 0 by rw [HR.out, fieldCodeB, ho]; rfl)
    clear HR ho HOW
    go_enter Tryz.func27, Tryz.ntmps27
    go_wp2
    go_ret
    exact ⟨ret_int HN.out.symm, HB0.out⟩
end Go.Proofs.YtfjjbofnfigehaaGreatDoor
/- CheckField of the model; the law. -/
namespace Go.Proofs.YtfjjbofnfigehaaGreatDoor
open Go.RowKit
theorem name3_three {s : ByteArray} (h : name3 s = true) : s.size = 3 := by
  simp only [name3, Bool.and_eq_true, decide_eq_true_eq] at h
  exact h.1
set_option maxHeartbeats 8000000 in
set_option maxRecDepth 100000 in
theorem specCheckField_any (v : Int) (s : ByteArray) (f : Int) (u : Value) (x : List (List (List ByteArray))) (w : World) (hn : wFld x ≤ 1048576) (hx : RFld 0 w u x) :
    Calls Tryz.prog 11 #[.int .i64 v, .string s, .int .i64 f, .agg #[u]] w fun e w' => e = .returned (.int .i64 (checkB v s f x)) ∧ Below w.heap.size w w' := by
  obtain ⟨R, hR⟩ : ∃ R, R = checkB v s f x := ⟨_, rfl⟩
  rw [← hR]
  have HR := hideF hR
  have HSZ := hideF (wFld_sizes hn)
  have HWN := hideF hn
  clear hR hn
  obtain ⟨p, cap, rfl⟩ := hx.isSlice
  have hb0 : Below w.heap.size w (w.alloc (.cells #[.slice p x.length cap] 40)) := (Below.refl _ _).alloc (Nat.le_refl _) _
  have HB0 := hideF hb0
  have HX0 := hideF (hx.below hb0)
  have HRW := hideF (row_new w [.slice p x.length cap] 40)
  obtain ⟨W, hW⟩ : ∃ W, W = w.alloc (.cells #[.slice p x.length cap] 40) := ⟨_, rfl⟩
  rw [← hW] at HB0 HX0 HRW
  have c0 : W.cell? ⟨w.heap.size, 0, none⟩ = some (.slice p x.length cap) := HRW.out.cell 0
  clear hb0 hx
  by_cases h8 : 8000 < s.size
  · have h8' : (8000 : Int) < (s.size : Int) := by omega
    have HN := hideF (show R = 2 by rw [HR.out, checkB, if_pos h8])
    go_enter Tryz.func11, Tryz.ntmps11
    go_wp2_with fail
    rw [← hW]
    go_wp2
    go_ret
    exact ⟨ret_int HN.out.symm, HB0.out⟩
  · have h8' : ¬ (8000 : Int) < (s.size : Int) := by omega
    have HC := hideF (show R = if (fldB x && verB v && name3 s) = false then 1 else fieldCodeB v s (ruleL v s f) x by rw [HR.out, checkB, if_neg h8])
    clear HR h8
    go_enter Tryz.func11, Tryz.ntmps11
    go_wp2_with fail
    rw [← hW]
    clear hW
    go_wp2_with fail
    refine (specField_any _ x 0 _ HSZ.out.1 HSZ.out.2.1 HSZ.out.2.2 HX0.out).mono ?_
    rintro e w1 ⟨rfl, hb1⟩
    have HB1 := hideF (HB0.out.trans (hb1.mono HB0.out.size))
    have HX1 := hideF (HX0.out.below hb1)
    have HR1 := hideF (HRW.out.below hb1 HRW.out.lt)
    have c1 : w1.cell? ⟨w.heap.size, 0, none⟩ = some (.slice p x.length cap) := HR1.out.cell 0
    clear hb1 c0 HRW HX0 HB0
    cases hf : fldB x
    · have HN := hideF (show R = 1 by rw [HC.out, hf]; rfl)
      go_wp2
      go_ret
      exact ⟨ret_int HN.out.symm, HB1.out⟩
    · go_wp2_with fail
      refine (l06Version_any v _).mono ?_
      rintro e w2 ⟨rfl, rfl⟩
      cases hv : verB v
      · have HN := hideF (show R = 1 by rw [HC.out, hf, hv]; rfl)
        go_wp2
        go_ret
        exact ⟨ret_int HN.out.symm, HB1.out⟩
      · go_wp2_with fail
        refine (l04Name_any s _).mono ?_
        rintro e w3 ⟨rfl, rfl⟩
        cases hm : name3 s
        · have HN := hideF (show R = 1 by rw [HC.out, hf, hv, hm]; rfl)
          go_wp2
          go_ret
          exact ⟨ret_int HN.out.symm, HB1.out⟩
        · have HN := hideF (show R = fieldCodeB v s (ruleL v s f) x by rw [HC.out, hf, hv, hm]; rfl)
          have HCK := hideF (fun u X hz => l06Check_any v s f u x X (name3_three hm) hv hf HWN.out hz)
          clear hf hv hm HC
          go_wp2_with fail
          refine (HCK.out _ _ HX1.out).mono ?_
          rintro e w5 ⟨rfl, hb5⟩
          have HB5 := hideF (HB1.out.trans (hb5.mono HB1.out.size))
          clear hb5
          rw [← HN.out]
          go_wp2
          go_ret
          exact ⟨rfl, HB5.out⟩
set_option maxHeartbeats 4000000 in
theorem lawCheckField (v : Int) (s : ByteArray) (f : Int) (u : Value) (x : List (List (List ByteArray))) (w : World) (he : ErrsV w) (hr : RFld 0 w u x) :
    Calls Tryz.prog 4 #[.int .i64 v, .string s, .int .i64 f, .agg #[u]] w fun e w' => e = .returned (.bool true) ∧ Below w.heap.size w w' := by
  obtain ⟨p, c, rfl⟩ := hr.isSlice
  obtain ⟨W, hW⟩ : ∃ W, W = w.alloc (.cells #[.slice p x.length c] 35) := ⟨_, rfl⟩
  have hb0 : Below w.heap.size w W := by rw [hW]; exact (Below.refl _ _).alloc (Nat.le_refl _) _
  have HR := hide (hr.below hb0)
  have HB0 := hide hb0
  have RW : Row W w.heap.size 35 [.slice p x.length c] := by rw [hW]; exact row_new w [.slice p x.length c] 35
  have HRW := hide RW
  have HE := hide he
  clear RW hb0 hr he
  by_cases hsb : 1048576 < s.size
  · have hsb' : (1048576 : Int) < (s.size : Int) := by omega
    go_enter Tryz.func4, Tryz.ntmps4
    go_wp2_with fail
    rw [← hW]
    go_wp2
    go_ret
    exact ⟨rfl, HB0.out⟩
  have hsb' : ¬ (1048576 : Int) < (s.size : Int) := by omega
  clear hsb
  go_enter Tryz.func4, Tryz.ntmps4
  go_wp2_with fail
  rw [← hW]
  refine (szField_any _ x 1048576 _ (by omega) (by omega) HR.out).mono ?_
  rintro e w1 ⟨rfl, hb1⟩
  clear hW
  have HB1 := hide (HB0.out.trans (hb1.mono HB0.out.size))
  have HR1 := hide (HR.out.below hb1)
  have row1 := HRW.out.below hb1 HRW.out.lt
  have c1 : w1.cell? ⟨w.heap.size, 0, none⟩ = some (.slice p x.length c) := row1.cell 0
  have HRow1 := hide row1
  clear hb1 row1
  by_cases hsz : ((wFld x : Nat) : Int) ≤ 1048576
  · rw [szOf_yes hsz]
    have hsz' : wFld x ≤ 1048576 := by omega
    have HS := hide hsz'
    have HSZ := hide (wFld_sizes hsz')
    have h0 : ¬ (1048576 - ((wFld x : Nat) : Int)) < 0 := by omega
    clear hsz hsz'
    generalize (1048576 - ((wFld x : Nat) : Int)) = L at h0
    go_wp2_with fail
    refine (toField_any _ x _ HS.out HR1.out).mono ?_
    rintro e w2 ⟨p2, c2, rfl, hr2, hb2⟩
    have HB2 := hide (HB1.out.trans (hb2.mono HB1.out.size))
    have HR2 := hide (HR1.out.below hb2)
    have HC2 := hide (RFld.mono hr2 (Nat.zero_le _))
    have HRow2 := hide (HRow1.out.below hb2 HRow1.out.lt)
    clear hr2 hb2 c1
    go_wp2_with fail
    refine (specCheckField_any v s f _ x _ HS.out HC2.out).mono ?_
    rintro e w3 ⟨rfl, hb3⟩
    have HB3 := hide (HB2.out.trans (hb3.mono HB2.out.size))
    have HR3 := hide (HR2.out.below hb3)
    have row3 := HRow2.out.below hb3 HRow2.out.lt
    have c3 : w3.cell? ⟨w.heap.size, 0, none⟩ = some (.slice p x.length c) := row3.cell 0
    have HRow3 := hide row3
    clear hb3 row3
    go_wp2_with fail
    refine (toField_any _ x _ HS.out HR3.out).mono ?_
    rintro e w4 ⟨p4, c4, rfl, hr4, hb4⟩
    have hbn : Below w4.heap.size w4 (w4.alloc (.cells #[.slice p4 x.length c4] 40)) := (Below.refl _ _).alloc (Nat.le_refl _) _
    have HB4 := hide ((HB3.out.trans (hb4.mono HB3.out.size)).trans (hbn.mono (HB3.out.trans (hb4.mono HB3.out.size)).size))
    have HR4 := hide ((HR3.out.below hb4).below hbn)
    have HC4 := hide ((RFld.mono hr4 (Nat.zero_le _)).below hbn)
    have HRow4 := hide ((HRow3.out.below hb4 HRow3.out.lt).alloc (.cells #[.slice p4 x.length c4] 40))
    have HRowX := hide (row_new w4 [.slice p4 x.length c4] 40)
    clear hr4 hb4 hbn c3
    go_wp2_with fail
    generalize hV : w4.alloc (.cells #[.slice p4 x.length c4] 40) = V at *
    generalize hG : w4.heap.size = G at *
    clear hV hG
    refine (implCheckField_any v s f _ x _ (HE.out.below HB4.out HE.out.1) HS.out HC4.out).mono ?_
    rintro e w5 ⟨rfl, hb5⟩
    have HB5 := hide (HB4.out.trans (hb5.mono HB4.out.size))
    have HR5 := hide (HR4.out.below hb5)
    have HC5 := hide (HC4.out.below hb5)
    have HRow5 := hide (HRow4.out.below hb5 HRow4.out.lt)
    have HRowX5 := hide (HRowX.out.below hb5 HRowX.out.lt)
    clear hb5
    have HSS := hide (show ∀ y, Below w5.heap.size w5 y → y.cell? ⟨w.heap.size, 0, none⟩ = some (.slice p x.length c) ∧ y.cell? ⟨G, 0, none⟩ = some (.slice p4 x.length c4) ∧ Below w5.heap.size w5 y from
      fun y h => ⟨(HRow5.out.below h HRow5.out.lt).cell 0, (HRowX5.out.below h HRowX5.out.lt).cell 0, h⟩)
    generalize checkB v s f x = FB
    have hfb : (FB != FB) = false := by simp
    go_wp2_with fail
    go_region_held3 (fun y => y.cell? ⟨w.heap.size, 0, none⟩ = some (.slice p x.length c) ∧ y.cell? ⟨G, 0, none⟩ = some (.slice p4 x.length c4) ∧ Below w5.heap.size w5 y)
      ((go_split_ands; refine HSS.out _ ?_; repeat (first | with_reducible assumption | with_reducible exact Below.refl _ _ | with_reducible refine Below.drew ?_)))
      ((first
        | (go_at_call 12; go_split_ands; refine (toField_any _ x _ HS.out (HR5.out.below (by assumption))).mono ?_; rintro e w6 ⟨p6, c6, rfl, hr6, hb6⟩; have HC6 := hide (RFld.mono hr6 (Nat.zero_le _)); have hB6 : Below w5.heap.size w5 w6 := Below.trans (by assumption) (hb6.mono (Below.size (by assumption))); clear hr6 hb6)
        | (go_at_call 14; go_split_ands; refine (eqField_same _ _ x 0 0 _ HS.out (HC5.out.below (by assumption)) (by first | exact HC6.out | exact HC6.out.below ((Below.refl _ _).drew))).mono ?_; rintro e w7 ⟨rfl, hb7⟩; have hB7 : Below w5.heap.size w5 w7 := Below.trans (by assumption) (hb7.mono (Below.size (by assumption))); clear hb7)))
    all_goals
      have HB7 := hide (HB5.out.trans (hB7.mono HB5.out.size))
      clear hB7
      go_wp2
      go_ret
      exact ⟨rfl, HB7.out⟩
  · rw [szOf_no hsz]
    go_wp2
    go_ret
    exact ⟨rfl, HB1.out⟩
end Go.Proofs.YtfjjbofnfigehaaGreatDoor
