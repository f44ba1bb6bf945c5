/- FileRight of the model. -/
import Derived.Test.YtholbhjfmfanbaaGreatBFileM
import Derived.Deep.RegionHeld3
namespace Go.Proofs.YtholbhjfmfanbaaGreat
open Go.RowKit
set_option maxHeartbeats 1000000 in
theorem l08Own_any (n : ByteArray) (w : World) :
    Calls Tryz.prog 58 #[.string n] w fun e w' => e = .returned (.bool (lineB n)) ∧ w' = w := by
  unfold lineB
  cases h1 : (n.toList == [70, 72, 83])
  case true =>
    go_enter Tryz.func58, Tryz.ntmps58
    go_wp2
    go_ret
    exact ⟨rfl, rfl⟩
  cases h2 : (n.toList == [66, 72, 83])
  case true =>
    go_enter Tryz.func58, Tryz.ntmps58
    go_wp2
    go_ret
    exact ⟨rfl, rfl⟩
  cases h3 : (n.toList == [66, 84, 83])
  case true =>
    go_enter Tryz.func58, Tryz.ntmps58
    go_wp2
    go_ret
    exact ⟨rfl, rfl⟩
  cases h4 : (n.toList == [70, 84, 83])
  all_goals
    go_enter Tryz.func58, Tryz.ntmps58
    go_wp2
    go_ret
    exact ⟨rfl, rfl⟩
theorem l08Marks_any (w : World) :
    Calls Tryz.prog 57 #[] w fun e w' => e = .returned (.string ⟨#[124, 94, 126, 92, 38]⟩) ∧ w' = w := by
  go_enter Tryz.func57, Tryz.ntmps57
  go_wp2
  go_ret
  exact ⟨rfl, rfl⟩
set_option maxHeartbeats 4000000 in
theorem l08Message_any (m : ByteArray) (u : Value) (x : List Seg) (w : World) (hm : m.size ≤ maxLen) (hf : FitsM x) (hr : RSegs 0 w u x) :
    Calls Tryz.prog 30 #[.agg #[.string m, u]] w fun e w' => e = .returned (.bool (fmB (m, x))) ∧ Below w.heap.size w w' := by
  obtain ⟨R, hR⟩ : ∃ R, R = fmB (m, x) := ⟨_, rfl⟩
  rw [← hR]
  have HR := hideF hR
  clear hR
  have HX := hideF hr
  have hl := hf.1
  have HF := hideF hf
  obtain ⟨p, cap, rfl, h1, h2, h4⟩ := hr
  have H4 := hideF h4
  unfold maxLen at h2
  clear h4 hf
  obtain ⟨W, hW⟩ : ∃ W, W = w.alloc (.cells #[.string m, .slice p x.length cap] 53) := ⟨_, rfl⟩
  have hb0 : Below w.heap.size w W := by rw [hW]; exact (Below.refl _ _).alloc (Nat.le_refl _) _
  have HB0 := hideF hb0
  have HRow0 : Hid (Row W w.heap.size 53 [.string m, .slice p x.length cap]) := by rw [hW]; exact row_new w [.string m, .slice p x.length cap] 53
  have HSS := hideF (show ∀ y, Below W.heap.size W y → y.cell? ⟨w.heap.size, 0, none⟩ = some (.string m) ∧ y.cell? ⟨w.heap.size, 1, none⟩ = some (.slice p x.length cap) from
    fun y h => ⟨(HRow0.out.below h HRow0.out.lt).cell 0, (HRow0.out.below h HRow0.out.lt).cell 1⟩)
  clear hb0
  -- @GEN
  cases hq : msgB m x
  · have HC := hideF (fun (X : World) (hX : Below W.heap.size W X) => by
      have := specMessage_any m _ x 0 X hm HF.out (HX.out.below (HB0.out.trans (hX.mono HB0.out.size)))
      rw [hq] at this
      exact this)
    have HN := hideF (show false = R by rw [HR.out]; exact (fmB_right (m := (m, x)) hq).symm)
    clear hq
    go_enter Tryz.func30, Tryz.ntmps30
    go_wp2_with fail
    rw [← hW]
    clear hW
    refine wp_region_held (S := (fun y : World => y.cell? ⟨w.heap.size, 0, none⟩ = some (.string m) ∧ y.cell? ⟨w.heap.size, 1, none⟩ = some (.slice p x.length cap))) (by kernel_rfl) ?_
    have HX0 : Hid (Below W.heap.size W { W with drawn := W.drawn + 1 }) := (Below.refl _ _).drew
    generalize ({ W with drawn := W.drawn + 1 } : World) = X0 at HX0 ⊢
    have HS := hideF (HSS.out _ HX0.out)
    refine wpAnyH_take (i := 0) (oi := _) (v := .agg #[.string m, .slice p x.length cap]) rfl (by kernel_rfl) (by kernel_rfl) (by kernel_rfl) (fun _ _ _ h => h) (Or.inl ⟨by rfl, by intro w hSw; go_split_ands; go_simp⟩) HS.out ?_
    simp only [Act.put, List.getElem_toArray, List.getElem_cons_zero, List.setIfInBounds_toArray, List.set_cons_zero, List.set_cons_succ]
    refine wpAnyH_ready (rs := [1]) (by kernel_rfl) (by simp) ?_
    refine AllReadyH.cons (o := _) rfl (fun K hK => ?_) AllReadyH.nil
    go_simp
    refine (HC.out X0 HX0.out).mono ?_
    rintro e X1 ⟨rfl, hb1⟩
    have HX1 := hideF (HX0.out.trans (hb1.mono HX0.out.size))
    refine hK.out _ _ (HSS.out _ HX1.out) (fun _ => ?_)
    clear hK K HS hb1 HX0
    have HS := hideF (HSS.out _ HX1.out)
    try simp only [Act.put, List.getElem_toArray, List.getElem_cons_zero, List.getElem_cons_succ, List.setIfInBounds_toArray, List.set_cons_zero, List.set_cons_succ]
    refine wpAnyH_take (i := 2) (oi := _) (v := .bool true) rfl (by kernel_rfl) (by kernel_rfl) (by kernel_rfl) (fun _ _ _ h => h) (Or.inl ⟨by rfl, by intro w hSw; go_split_ands; go_simp⟩) HS.out ?_
    simp only [Act.put, List.getElem_toArray, List.getElem_cons_zero, List.getElem_cons_succ, List.setIfInBounds_toArray, List.set_cons_zero, List.set_cons_succ]
    refine wpAnyH_take (i := 3) (oi := _) (v := .bool true) rfl (by kernel_rfl) (by kernel_rfl) (by kernel_rfl) (fun _ _ _ h => h) (Or.inl ⟨by rfl, by intro w hSw; go_split_ands; go_simp⟩) HS.out ?_
    simp only [Act.put, List.getElem_toArray, List.getElem_cons_zero, List.getElem_cons_succ, List.setIfInBounds_toArray, List.set_cons_zero, List.set_cons_succ]
    refine wpAnyH_take (i := 4) (oi := _) (v := undef) rfl (by kernel_rfl) (by kernel_rfl) (by kernel_rfl) (fun _ _ _ h => h) (Or.inr ⟨by rfl, rfl⟩) HS.out ?_
    simp only [Act.put, List.getElem_toArray, List.getElem_cons_zero, List.getElem_cons_succ, List.setIfInBounds_toArray, List.set_cons_zero, List.set_cons_succ]
    refine wpAnyH_take (i := 5) (oi := _) (v := undef) rfl (by kernel_rfl) (by kernel_rfl) (by kernel_rfl) (fun _ _ _ h => h) (Or.inr ⟨by rfl, rfl⟩) HS.out ?_
    simp only [Act.put, List.getElem_toArray, List.getElem_cons_zero, List.getElem_cons_succ, List.setIfInBounds_toArray, List.set_cons_zero, List.set_cons_succ]
    refine wpAnyH_take (i := 6) (oi := _) (v := undef) rfl (by kernel_rfl) (by kernel_rfl) (by kernel_rfl) (fun _ _ _ h => h) (Or.inr ⟨by rfl, rfl⟩) HS.out ?_
    simp only [Act.put, List.getElem_toArray, List.getElem_cons_zero, List.getElem_cons_succ, List.setIfInBounds_toArray, List.set_cons_zero, List.set_cons_succ]
    refine wpAnyH_take (i := 7) (oi := _) (v := undef) rfl (by kernel_rfl) (by kernel_rfl) (by kernel_rfl) (fun _ _ _ h => h) (Or.inr ⟨by rfl, rfl⟩) HS.out ?_
    simp only [Act.put, List.getElem_toArray, List.getElem_cons_zero, List.getElem_cons_succ, List.setIfInBounds_toArray, List.set_cons_zero, List.set_cons_succ]
    refine wpAnyH_take (i := 8) (oi := _) (v := .bool true) rfl (by kernel_rfl) (by kernel_rfl) (by kernel_rfl) (fun _ _ _ h => h) (Or.inl ⟨by rfl, by intro w hSw; go_split_ands; go_simp⟩) HS.out ?_
    simp only [Act.put, List.getElem_toArray, List.getElem_cons_zero, List.getElem_cons_succ, List.setIfInBounds_toArray, List.set_cons_zero, List.set_cons_succ]
    refine wpAnyH_done (by kernel_rfl) ?_ _
    have HB6 := hideF (HB0.out.trans (HX1.out.mono HB0.out.size))
    go_wp2
    go_ret
    exact ⟨ret_boolF HN.out, HB6.out⟩
  · have HC := hideF (fun (X : World) (hX : Below W.heap.size W X) => by
      have := specMessage_any m _ x 0 X hm HF.out (HX.out.below (HB0.out.trans (hX.mono HB0.out.size)))
      rw [hq] at this
      exact this)
    have HQ := hideF hq
    clear hq
    cases hu : (m.toList == [124, 94, 126, 92, 38])
    · have HN := hideF (show false = R by rw [HR.out]; exact (fmB_marks (m := (m, x)) hu).symm)
      go_enter Tryz.func30, Tryz.ntmps30
      go_wp2_with fail
      rw [← hW]
      clear hW
      refine wp_region_held (S := (fun y : World => y.cell? ⟨w.heap.size, 0, none⟩ = some (.string m) ∧ y.cell? ⟨w.heap.size, 1, none⟩ = some (.slice p x.length cap))) (by kernel_rfl) ?_
      have HX0 : Hid (Below W.heap.size W { W with drawn := W.drawn + 1 }) := (Below.refl _ _).drew
      generalize ({ W with drawn := W.drawn + 1 } : World) = X0 at HX0 ⊢
      have HS := hideF (HSS.out _ HX0.out)
      refine wpAnyH_take (i := 0) (oi := _) (v := .agg #[.string m, .slice p x.length cap]) rfl (by kernel_rfl) (by kernel_rfl) (by kernel_rfl) (fun _ _ _ h => h) (Or.inl ⟨by rfl, by intro w hSw; go_split_ands; go_simp⟩) HS.out ?_
      simp only [Act.put, List.getElem_toArray, List.getElem_cons_zero, List.setIfInBounds_toArray, List.set_cons_zero, List.set_cons_succ]
      refine wpAnyH_ready (rs := [1]) (by kernel_rfl) (by simp) ?_
      refine AllReadyH.cons (o := _) rfl (fun K hK => ?_) AllReadyH.nil
      go_simp
      refine (HC.out X0 HX0.out).mono ?_
      rintro e X1 ⟨rfl, hb1⟩
      have HX1 := hideF (HX0.out.trans (hb1.mono HX0.out.size))
      refine hK.out _ _ (HSS.out _ HX1.out) (fun _ => ?_)
      clear hK K HS hb1 HX0
      have HS := hideF (HSS.out _ HX1.out)
      try simp only [Act.put, List.getElem_toArray, List.getElem_cons_zero, List.getElem_cons_succ, List.setIfInBounds_toArray, List.set_cons_zero, List.set_cons_succ]
      refine wpAnyH_take (i := 2) (oi := _) (v := .bool false) rfl (by kernel_rfl) (by kernel_rfl) (by kernel_rfl) (fun _ _ _ h => h) (Or.inl ⟨by rfl, by intro w hSw; go_split_ands; go_simp⟩) HS.out ?_
      simp only [Act.put, List.getElem_toArray, List.getElem_cons_zero, List.getElem_cons_succ, List.setIfInBounds_toArray, List.set_cons_zero, List.set_cons_succ]
      refine wpAnyH_take (i := 3) (oi := _) (v := .bool false) rfl (by kernel_rfl) (by kernel_rfl) (by kernel_rfl) (fun _ _ _ h => h) (Or.inl ⟨by rfl, by intro w hSw; go_split_ands; go_simp⟩) HS.out ?_
      simp only [Act.put, List.getElem_toArray, List.getElem_cons_zero, List.getElem_cons_succ, List.setIfInBounds_toArray, List.set_cons_zero, List.set_cons_succ]
      refine wpAnyH_take (i := 4) (oi := _) (v := .pointer (some ⟨w.heap.size, 0, none⟩)) rfl (by kernel_rfl) (by kernel_rfl) (by kernel_rfl) (fun _ _ _ h => h) (Or.inl ⟨by rfl, by intro w hSw; go_split_ands; go_simp⟩) HS.out ?_
      simp only [Act.put, List.getElem_toArray, List.getElem_cons_zero, List.getElem_cons_succ, List.setIfInBounds_toArray, List.set_cons_zero, List.set_cons_succ]
      refine wpAnyH_take (i := 5) (oi := _) (v := .string m) rfl (by kernel_rfl) (by kernel_rfl) (by kernel_rfl) (fun _ _ _ h => h) (Or.inl ⟨by rfl, by intro w hSw; go_split_ands; go_simp⟩) HS.out ?_
      simp only [Act.put, List.getElem_toArray, List.getElem_cons_zero, List.getElem_cons_succ, List.setIfInBounds_toArray, List.set_cons_zero, List.set_cons_succ]
      refine wpAnyH_ready (rs := [6]) (by kernel_rfl) (by simp) ?_
      refine AllReadyH.cons (o := _) rfl (fun K hK => ?_) AllReadyH.nil
      go_simp
      refine (l08Marks_any _).mono ?_
      rintro e _ ⟨rfl, rfl⟩
      refine hK.out _ _ HS.out (fun _ => ?_)
      clear hK K
      try simp only [Act.put, List.getElem_toArray, List.getElem_cons_zero, List.getElem_cons_succ, List.setIfInBounds_toArray, List.set_cons_zero, List.set_cons_succ]
      refine wpAnyH_take (i := 7) (oi := _) (v := .bool true) rfl (by kernel_rfl) (by kernel_rfl) (by kernel_rfl) (fun _ _ _ h => h) (Or.inl ⟨by rfl, by intro w hSw; go_split_ands; go_simp⟩) HS.out ?_
      simp only [Act.put, List.getElem_toArray, List.getElem_cons_zero, List.getElem_cons_succ, List.setIfInBounds_toArray, List.set_cons_zero, List.set_cons_succ]
      refine wpAnyH_take (i := 8) (oi := _) (v := .bool true) rfl (by kernel_rfl) (by kernel_rfl) (by kernel_rfl) (fun _ _ _ h => h) (Or.inl ⟨by rfl, by intro w hSw; go_split_ands; go_simp⟩) HS.out ?_
      simp only [Act.put, List.getElem_toArray, List.getElem_cons_zero, List.getElem_cons_succ, List.setIfInBounds_toArray, List.set_cons_zero, List.set_cons_succ]
      refine wpAnyH_done (by kernel_rfl) ?_ _
      have HB6 := hideF (HB0.out.trans (HX1.out.mono HB0.out.size))
      go_wp2
      go_ret
      exact ⟨ret_boolF HN.out, HB6.out⟩
    · have HU := hideF hu
      go_enter Tryz.func30, Tryz.ntmps30
      go_wp2_with fail
      rw [← hW]
      clear hW
      refine wp_region_held (S := (fun y : World => y.cell? ⟨w.heap.size, 0, none⟩ = some (.string m) ∧ y.cell? ⟨w.heap.size, 1, none⟩ = some (.slice p x.length cap))) (by kernel_rfl) ?_
      have HX0 : Hid (Below W.heap.size W { W with drawn := W.drawn + 1 }) := (Below.refl _ _).drew
      generalize ({ W with drawn := W.drawn + 1 } : World) = X0 at HX0 ⊢
      have HS := hideF (HSS.out _ HX0.out)
      refine wpAnyH_take (i := 0) (oi := _) (v := .agg #[.string m, .slice p x.length cap]) rfl (by kernel_rfl) (by kernel_rfl) (by kernel_rfl) (fun _ _ _ h => h) (Or.inl ⟨by rfl, by intro w hSw; go_split_ands; go_simp⟩) HS.out ?_
      simp only [Act.put, List.getElem_toArray, List.getElem_cons_zero, List.setIfInBounds_toArray, List.set_cons_zero, List.set_cons_succ]
      refine wpAnyH_ready (rs := [1]) (by kernel_rfl) (by simp) ?_
      refine AllReadyH.cons (o := _) rfl (fun K hK => ?_) AllReadyH.nil
      go_simp
      refine (HC.out X0 HX0.out).mono ?_
      rintro e X1 ⟨rfl, hb1⟩
      have HX1 := hideF (HX0.out.trans (hb1.mono HX0.out.size))
      refine hK.out _ _ (HSS.out _ HX1.out) (fun _ => ?_)
      clear hK K HS hb1 HX0
      have HS := hideF (HSS.out _ HX1.out)
      try simp only [Act.put, List.getElem_toArray, List.getElem_cons_zero, List.getElem_cons_succ, List.setIfInBounds_toArray, List.set_cons_zero, List.set_cons_succ]
      refine wpAnyH_take (i := 2) (oi := _) (v := .bool false) rfl (by kernel_rfl) (by kernel_rfl) (by kernel_rfl) (fun _ _ _ h => h) (Or.inl ⟨by rfl, by intro w hSw; go_split_ands; go_simp⟩) HS.out ?_
      simp only [Act.put, List.getElem_toArray, List.getElem_cons_zero, List.getElem_cons_succ, List.setIfInBounds_toArray, List.set_cons_zero, List.set_cons_succ]
      refine wpAnyH_take (i := 3) (oi := _) (v := .bool false) rfl (by kernel_rfl) (by kernel_rfl) (by kernel_rfl) (fun _ _ _ h => h) (Or.inl ⟨by rfl, by intro w hSw; go_split_ands; go_simp⟩) HS.out ?_
      simp only [Act.put, List.getElem_toArray, List.getElem_cons_zero, List.getElem_cons_succ, List.setIfInBounds_toArray, List.set_cons_zero, List.set_cons_succ]
      refine wpAnyH_take (i := 4) (oi := _) (v := .pointer (some ⟨w.heap.size, 0, none⟩)) rfl (by kernel_rfl) (by kernel_rfl) (by kernel_rfl) (fun _ _ _ h => h) (Or.inl ⟨by rfl, by intro w hSw; go_split_ands; go_simp⟩) HS.out ?_
      simp only [Act.put, List.getElem_toArray, List.getElem_cons_zero, List.getElem_cons_succ, List.setIfInBounds_toArray, List.set_cons_zero, List.set_cons_succ]
      refine wpAnyH_take (i := 5) (oi := _) (v := .string m) rfl (by kernel_rfl) (by kernel_rfl) (by kernel_rfl) (fun _ _ _ h => h) (Or.inl ⟨by rfl, by intro w hSw; go_split_ands; go_simp⟩) HS.out ?_
      simp only [Act.put, List.getElem_toArray, List.getElem_cons_zero, List.getElem_cons_succ, List.setIfInBounds_toArray, List.set_cons_zero, List.set_cons_succ]
      refine wpAnyH_ready (rs := [6]) (by kernel_rfl) (by simp) ?_
      refine AllReadyH.cons (o := _) rfl (fun K hK => ?_) AllReadyH.nil
      go_simp
      refine (l08Marks_any _).mono ?_
      rintro e _ ⟨rfl, rfl⟩
      refine hK.out _ _ HS.out (fun _ => ?_)
      clear hK K
      try simp only [Act.put, List.getElem_toArray, List.getElem_cons_zero, List.getElem_cons_succ, List.setIfInBounds_toArray, List.set_cons_zero, List.set_cons_succ]
      refine wpAnyH_take (i := 7) (oi := _) (v := .bool false) rfl (by kernel_rfl) (by kernel_rfl) (by kernel_rfl) (fun _ _ _ h => h) (Or.inl ⟨by rfl, by intro w hSw; go_split_ands; go_simp⟩) HS.out ?_
      simp only [Act.put, List.getElem_toArray, List.getElem_cons_zero, List.getElem_cons_succ, List.setIfInBounds_toArray, List.set_cons_zero, List.set_cons_succ]
      refine wpAnyH_take (i := 8) (oi := _) (v := .bool false) rfl (by kernel_rfl) (by kernel_rfl) (by kernel_rfl) (fun _ _ _ h => h) (Or.inl ⟨by rfl, by intro w hSw; go_split_ands; go_simp⟩) HS.out ?_
      simp only [Act.put, List.getElem_toArray, List.getElem_cons_zero, List.getElem_cons_succ, List.setIfInBounds_toArray, List.set_cons_zero, List.set_cons_succ]
      refine wpAnyH_done (by kernel_rfl) ?_ _
      have HB1 := hideF (HB0.out.trans (HX1.out.mono HB0.out.size))
      have HRow1 := hideF (HRow0.out.below HX1.out HRow0.out.lt)
      clear HX1 HS hu HC HSS
      go_wp2_with fail
      go_loopw [3] (fun i wr => ∃ (X : World) (k : Nat), X = wr ∧ k ≤ x.length ∧ i = .int .i64 k ∧ Hid (Row X w.heap.size 53 [.string m, .slice p x.length cap]) ∧ Hid (∀ j (hj : j < x.length), j < k → lineB x[j].1 = false) ∧ Hid (Below w.heap.size w X)) (fun i _ => x.length - (intOf i).toNat)
      case atStart => exact ⟨_, 0, rfl, Nat.zero_le _, rfl, HRow1, fun j _ h => absurd h (by omega), HB1⟩
      case round =>
        obtain ⟨X, k, rfl, hk, rfl, HRow, HA, HB⟩ := hrel
        have c1 : X.cell? ⟨w.heap.size, 1, none⟩ = some (.slice p x.length cap) := HRow.out.cell 1
        by_cases hlt : k < x.length
        · obtain ⟨g, off, hp, hg, _, hc⟩ := H4.out (by omega)
          subst hp
          obtain ⟨ha, _, v, hv, hrv⟩ := hc k hlt
          have hk0 := (HB.out.cell (p := ⟨g, off + k * 2, none⟩) hg).trans ha
          clear hv hrv hc ha
          go_wp2_with fail
          refine (l08Own_any (x[k]'hlt).1 _).mono ?_
          rintro e w2 ⟨rfl, rfl⟩
          cases ho : lineB (x[k]'hlt).1
          · have HA2 : Hid (∀ j (hj : j < x.length), j < k + 1 → lineB x[j].1 = false) := by
              intro j hj hjk
              by_cases e : j = k
              · subst e; exact ho
              · exact HA.out j hj (by omega)
            go_wp2
            go_roundw
            case rel => exact ⟨_, k + 1, rfl, by omega, by go_num, HRow, HA2, HB⟩
            case measure => simp [intOf]; omega
          · have HN := hideF (show false = R by rw [HR.out]; exact (fmB_line (m := (m, x)) k hlt ho).symm)
            go_wp2
            go_ret
            exact ⟨ret_boolF HN.out, HB.out⟩
        · have HY := hideF (show true = R by rw [HR.out]; exact (fmB_yes (m := (m, x)) HU.out HQ.out (fun j hj => HA.out j hj (by have hj2 : j < x.length := hj; omega))).symm)
          go_wp2
          go_ret
          exact ⟨ret_boolF HY.out, HB.out⟩

set_option maxHeartbeats 4000000 in
theorem specFileRight_any (n : ByteArray) (u : Value) (x : List Bat) (w : World) (hm : n.size ≤ maxLen) (hf : FitsF x) (hr : RBats 0 w u x) :
    Calls Tryz.prog 9 #[.agg #[.string n, u]] w fun e w' => e = .returned (.bool (filB n x)) ∧ Below w.heap.size w w' := by
  obtain ⟨R, hR⟩ : ∃ R, R = filB n x := ⟨_, rfl⟩
  rw [← hR]
  have HR := hideF hR
  clear hR
  have hl := hf.1
  have HF := hideF hf
  obtain ⟨p, cap, rfl, h1, h2, h4⟩ := hr
  have H4 := hideF h4
  unfold maxLen at h2
  clear h4 hf
  have HB0 := hideF ((Below.refl w.heap.size w).alloc (Nat.le_refl _) (.cells #[.string n, .slice p x.length cap] 29))
  have HRow0 := hideF (row_new w [.string n, .slice p x.length cap] 29)
  go_enter Tryz.func9, Tryz.ntmps9
  go_wp2_with fail
  refine (specNameRight_any n _ hm).mono ?_
  rintro e w1 ⟨rfl, rfl⟩
  cases hq : idB n
  · have HN := hideF (show false = R by rw [HR.out]; exact (filB_id hq).symm)
    go_wp2
    go_ret
    exact ⟨ret_boolF HN.out, HB0.out⟩
  by_cases hl2 : 10 < (x.length : Int)
  · have HN := hideF (show false = R by rw [HR.out]; exact (filB_len (by omega)).symm)
    go_wp2
    go_ret
    exact ⟨ret_boolF HN.out, HB0.out⟩
  have hl10 : x.length ≤ 10 := by omega
  have HQ := hideF hq
  clear hq
  go_wp2_with fail
  go_loopw [3] (fun i wr => ∃ (X : World) (k : Nat), X = wr ∧ k ≤ x.length ∧ i = .int .i64 k ∧ Hid (Row X w.heap.size 29 [.string n, .slice p x.length cap]) ∧ Hid (∀ j (hj : j < x.length), j < k → batB x[j] = true) ∧ Hid (Below w.heap.size w X)) (fun i _ => x.length - (intOf i).toNat)
  case atStart => exact ⟨_, 0, rfl, Nat.zero_le _, rfl, HRow0, fun j _ h => absurd h (by omega), HB0⟩
  case round =>
    obtain ⟨X, k, rfl, hk, rfl, HRow, HA, HB⟩ := hrel
    have c1 : X.cell? ⟨w.heap.size, 1, none⟩ = some (.slice p x.length cap) := HRow.out.cell 1
    by_cases hlt : k < x.length
    · obtain ⟨g, off, hp, hg, _, hc⟩ := H4.out (by omega)
      subst hp
      obtain ⟨ha, hns, v, hv, hrv⟩ := hc k hlt
      have hk0 := (HB.out.cell (p := ⟨g, off + k * 2, none⟩) hg).trans ha
      have hk1 := (HB.out.cell (p := ⟨g, off + k * 2 + 1, none⟩) hg).trans hv
      obtain ⟨vp, vc, rfl⟩ := hrv.isSlice
      obtain ⟨bat, hbat⟩ : ∃ bat, bat = x[k]'hlt := ⟨_, rfl⟩
      rw [← hbat] at hk0 hk1 hns hrv
      have hfb : FitsB bat.2 := by rw [hbat]; exact HF.out.2 k hlt
      have HBAT := hideF hbat
      have hXa : Below w.heap.size w (X.alloc (.cells #[.string bat.1, .slice vp bat.2.length vc] 49)) := HB.out.alloc HB.out.size _
      have HXA := hideF hXa
      have HRV := hideF hrv
      have HRowX := hideF (HRow.out.alloc (.cells #[.string bat.1, .slice vp bat.2.length vc] 49))
      have HRowB := hideF (row_new X [.string bat.1, .slice vp bat.2.length vc] 49)
      have HXB := hideF HB.out.size
      clear hv hrv hc ha hXa hbat
      go_wp2_with fail
      generalize hY : X.alloc (.cells #[.string bat.1, .slice vp bat.2.length vc] 49) = Y at *
      generalize hB : X.heap.size = GB at *
      clear hY hB hk0 hk1 c1
      refine (specNameRight_any bat.1 _ hns).mono ?_
      rintro e w2 ⟨rfl, rfl⟩
      cases hq : idB bat.1
      · have HN := hideF (show false = R by rw [HR.out]; exact (filB_no k hlt (by rw [← HBAT.out]; exact batB_id hq)).symm)
        go_wp2
        go_ret
        exact ⟨ret_boolF HN.out, HXA.out⟩
      by_cases hl3 : 30 < (bat.2.length : Int)
      · have d1 : w2.cell? ⟨GB, 1, none⟩ = some (.slice vp bat.2.length vc) := HRowB.out.cell 1
        have HN := hideF (show false = R by rw [HR.out]; exact (filB_no k hlt (by rw [← HBAT.out]; exact batB_len (by omega))).symm)
        go_wp2
        go_ret
        exact ⟨ret_boolF HN.out, HXA.out⟩
      have hl30 : bat.2.length ≤ 30 := by omega
      have d1 : w2.cell? ⟨GB, 1, none⟩ = some (.slice vp bat.2.length vc) := HRowB.out.cell 1
      have HQB := hideF hq
      clear hq
      go_wp2_with fail
      clear d1
      go_loopw [5] (fun i wr => ∃ (Z : World) (j : Nat), Z = wr ∧ j ≤ bat.2.length ∧ i = .int .i64 j ∧ Hid (Row Z w.heap.size 29 [.string n, .slice (some ⟨g, off, none⟩) x.length cap]) ∧ Hid (Row Z GB 49 [.string bat.1, .slice vp bat.2.length vc]) ∧ Hid (∀ i (hi : i < bat.2.length), i < j → fmB bat.2[i] = true) ∧ Hid (Below w.heap.size w Z)) (fun i _ => bat.2.length - (intOf i).toNat)
      case atStart => exact ⟨_, 0, rfl, Nat.zero_le _, rfl, HRowX, HRowB, fun j _ h => absurd h (by omega), HXA⟩
      case round =>
        obtain ⟨Z, j, rfl, hj, rfl, HRowZ, HRowZB, HAZ, HBZ⟩ := hrel
        have d1 : Z.cell? ⟨GB, 1, none⟩ = some (.slice vp bat.2.length vc) := HRowZB.out.cell 1
        have HRZ := hideF (HRV.out.below HBZ.out)
        by_cases hjl : j < bat.2.length
        · obtain ⟨q, qc, he, _, _, hq4⟩ := HRZ.out
          cases he
          obtain ⟨g2, off2, rfl, hg2, _, hc2⟩ := hq4 (by omega)
          obtain ⟨ha2, hns2, v2, hv2, hrv2⟩ := hc2 j hjl
          obtain ⟨vp2, vc2, rfl⟩ := hrv2.isSlice
          have HNS2 := hideF hns2
          have HRV2 := hideF hrv2
          have hfm := hfb.2 j hjl
          clear hc2 hrv2 hq4 hns2
          go_wp2_with fail
          refine (l08Message_any (bat.2[j]'hjl).1 _ (bat.2[j]'hjl).2 _ HNS2.out hfm HRV2.out).mono ?_
          rintro e w3 ⟨rfl, hb3⟩
          have HB3 := hideF (HBZ.out.trans (hb3.mono HBZ.out.size))
          have HRow3 := hideF (HRowZ.out.below hb3 HRowZ.out.lt)
          have HRowB3 := hideF (HRowZB.out.below hb3 HRowZB.out.lt)
          clear hb3 ha2 hv2 d1
          cases ho : fmB ((bat.2[j]'hjl).1, (bat.2[j]'hjl).2)
          · have HN := hideF (show false = R by rw [HR.out]; exact (filB_no k hlt (by rw [← HBAT.out]; exact batB_no j hjl ho)).symm)
            go_wp2
            go_ret
            exact ⟨ret_boolF HN.out, HB3.out⟩
          · have HA3 := hideF (allF_succ (f := fmB) j HAZ.out (fun _ => ho))
            go_wp2
            go_roundw
            case rel => exact ⟨_, j + 1, rfl, by omega, by go_num, HRow3, HRowB3, HA3, HB3⟩
            case measure => simp [intOf]; omega
        · have hbt : batB (x[k]'hlt) = true := by rw [← HBAT.out]; exact batB_yes HQB.out hl30 (fun i hi => HAZ.out i hi (by omega))
          have HA3 := hideF (allF_succ (f := batB) k HA.out (fun _ => hbt))
          clear hbt
          go_wp2
          go_roundw
          case rel => exact ⟨_, k + 1, rfl, by omega, by go_num, HRowZ, HA3, HBZ⟩
          case measure => simp [intOf]; omega
    · have HY := hideF (show true = R by rw [HR.out]; exact (filB_yes HQ.out hl10 (fun j hj => HA.out j hj (by omega))).symm)
      go_wp2
      go_ret
      exact ⟨ret_boolF HY.out, HB.out⟩
end Go.Proofs.YtholbhjfmfanbaaGreat
