/- The program's partRight and FieldRight. -/
import Derived.Test.YtholbhjfmfanbaaGreatFParts
namespace Go.Proofs.YtholbhjfmfanbaaGreat
open Go.RowKit
theorem right_many {α : Type} {f emp : α → Bool} {most : Nat} {xs : List α} (h : most < xs.length) : rightB f emp most xs = false := by
  have : ¬ xs.length ≤ most := by omega
  simp [rightB, this]
theorem right_end {α : Type} {f emp : α → Bool} {most : Nat} {xs : List α} (h : endEmpty emp xs = true) : rightB f emp most xs = false := by simp [rightB, h]
theorem right_yes {α : Type} {f emp : α → Bool} {most : Nat} {xs : List α} (h1 : xs.length ≤ most) (h2 : endEmpty emp xs = false) (h : ∀ k (hk : k < xs.length), f xs[k] = true) : rightB f emp most xs = true := by
  rw [right_all h]
  simp [h1, h2]

set_option maxHeartbeats 1000000 in
theorem subRight_any (s : ByteArray) (w : World) :
    Calls Tryz.prog 138 #[.string s] w fun e w' => e = .returned (.bool (subB s)) ∧ Below w.heap.size w w' := by
  by_cases h6 : (s.size : Int) ≤ 60
  · have HS := hide (show subB s = plainB s by simp [subB, h6])
    go_enter Tryz.func138, Tryz.ntmps138
    go_wp2_with fail
    refine (allPlain_any s _).mono ?_
    rintro e w1 ⟨rfl, hb1⟩
    go_wp2
    go_ret
    exact ⟨ret_boolF HS.out.symm, hb1⟩
  · have HS := hide (show subB s = false by simp [subB, h6])
    go_enter Tryz.func138, Tryz.ntmps138
    go_wp2
    go_ret
    exact ⟨ret_boolF HS.out.symm, Below.refl _ _⟩

set_option maxHeartbeats 1000000 in
set_option maxRecDepth 100000 in
theorem rightSub (u : Value) (x : ByteArray) (w : World) (hr : PSub w u x) :
    Calls Tryz.prog 128 #[u] w fun e w' => e = .returned (.bool (subB x)) ∧ Below w.heap.size w w' := by
  obtain ⟨rfl, _⟩ := hr
  have a1 := Tryz.assubPartsubPart
  go_enter Tryz.func128, Tryz.ntmps128
  go_wp2_with fail
  refine (subRight_any x _).mono ?_
  rintro e w1 ⟨rfl, hb1⟩
  go_wp2
  go_ret
  exact ⟨rfl, hb1⟩

set_option maxHeartbeats 4000000 in
set_option maxRecDepth 100000 in
theorem rightComp (u : Value) (x : List (ByteArray)) (w : World) (hn : x.length ≤ 1048576) (hr : PComp w u x) :
    Calls Tryz.prog 128 #[u] w fun e w' => e = .returned (.bool (compB x)) ∧ Below w.heap.size w w' := by
  obtain ⟨v, rfl, hv⟩ := hr
  have HV := hide hv
  obtain ⟨vp, vc, rfl⟩ := hv.isSlice
  clear hv
  obtain ⟨R, hR⟩ : ∃ R, R = compB x := ⟨_, rfl⟩
  rw [← hR]
  have HR := hide hR
  clear hR
  have a1 := Tryz.asCompsubPart
  have a2 := Tryz.innerComp
  go_enter Tryz.func128, Tryz.ntmps128
  go_wp2_with fail
  refine (limitsComp _ _).mono ?_
  rintro e w1 ⟨rfl, rfl⟩
  go_wp2_with fail
  refine (innerComp_any _ x _ hn HV.out).mono ?_
  rintro e w1 ⟨p1, c1, rfl, hr1, hb1⟩
  have HB1 := hide hb1
  have HL := hide hr1
  clear hb1 hr1
  by_cases h5 : 5 < (x.length : Int)
  · have HN := hide (show R = false by rw [HR.out]; exact right_many (by omega))
    go_wp2
    go_ret
    exact ⟨ret_boolF HN.out.symm, HB1.out⟩
  go_wp2_with fail
  refine (leaveOut_any PSub empS x (fun X u i h hu => emptySub u _ X hu) _ _ HL.out).mono ?_
  rintro e w2 ⟨⟨p2, c2, k2, rfl, hk2, hiff⟩, hb2⟩
  have HB2 := hide (HB1.out.trans (hb2.mono HB1.out.size))
  have HL2 := hide (HL.out.below hb2)
  have HI := hide hiff
  clear hb2 hiff
  by_cases hke : k2 = x.length
  · have HEE := hide (HI.out.1 hke)
    subst hke
    have hlm : x.length ≤ 5 := by omega
    obtain ⟨q, cap, hqe, h1, h2, h4⟩ := HL2.out
    have H4 := hide h4
    simp only [Value.slice.injEq, true_and] at hqe
    obtain ⟨rfl, rfl⟩ := hqe
    clear h4
    go_wp2
    go_loopw [39] (fun i wr => ∃ (X : World) (k : Nat), X = wr ∧ k ≤ x.length ∧ i = .int .i64 k ∧ Hid (Below w2.heap.size w2 X) ∧ Hid (∀ j (hj : j < x.length), j < k → subB x[j] = true)) (fun i _ => x.length - (intOf i).toNat)
    case atStart => exact ⟨_, 0, rfl, Nat.zero_le _, rfl, Below.refl _ _, fun j _ h => absurd h (by omega)⟩
    case round =>
      obtain ⟨X, k, rfl, hk, rfl, HB, HA⟩ := hrel
      by_cases hlt : k < x.length
      · obtain ⟨g, off, hp, hg, _, hc⟩ := H4.out (by omega)
        subst hp
        obtain ⟨u, hu, hru⟩ := hc k hlt
        have hck : X.cell? ⟨g, off + k, none⟩ = some u := by rw [HB.out.cell (p := ⟨g, off + k, none⟩) hg]; exact hu
        have HRU : Hid (PSub X u x[k]) := Lasts.go (B := 0) (Same.of HB.out) hru
        clear hu hru hc
        go_wp2_with fail
        refine (rightSub u (x[k]'hlt) _ HRU.out).mono ?_
        rintro e w3 ⟨rfl, hb3⟩
        have HB3 := hide (HB.out.trans (hb3.mono HB.out.size))
        clear hb3
        cases ho : subB (x[k]'hlt)
        · have HN := hide (show R = false by rw [HR.out]; exact right_no k hlt ho)
          go_wp2
          go_ret
          exact ⟨ret_boolF HN.out.symm, HB2.out.trans (HB3.out.mono HB2.out.size)⟩
        · have HA2 := hide (all_succ HA.out (fun _ => ho))
          go_wp2
          go_roundw
          case rel => exact ⟨_, k + 1, rfl, by omega, by go_num, HB3, HA2⟩
          case measure => simp [intOf]; omega
      · have HY := hide (show R = true by rw [HR.out]; exact right_yes hlm HEE.out (fun j hj => HA.out j hj (by omega)))
        go_wp2
        go_ret
        exact ⟨ret_boolF HY.out.symm, HB2.out.trans (HB.out.mono HB2.out.size)⟩
  · have HN := hide (show R = false by
      rw [HR.out]
      refine right_end ?_
      cases h : endEmpty empS x
      · exact absurd (HI.out.2 h) hke
      · rfl)
    have hne : ((x.length : Int) != (k2 : Int)) = true := by simp; omega
    go_wp2
    go_ret
    exact ⟨ret_boolF HN.out.symm, HB2.out⟩

set_option maxHeartbeats 4000000 in
set_option maxRecDepth 100000 in
theorem rightRep (u : Value) (x : List (List ByteArray)) (w : World) (hn : x.length ≤ 1048576) (hm : ∀ i (h : i < x.length), x[i].length ≤ 1048576) (hr : PRep w u x) :
    Calls Tryz.prog 128 #[u] w fun e w' => e = .returned (.bool (repB x)) ∧ Below w.heap.size w w' := by
  obtain ⟨v, rfl, hv⟩ := hr
  have HV := hide hv
  obtain ⟨vp, vc, rfl⟩ := hv.isSlice
  clear hv
  have HM := hide hm
  clear hm
  obtain ⟨R, hR⟩ : ∃ R, R = repB x := ⟨_, rfl⟩
  rw [← hR]
  have HR := hide hR
  clear hR
  have a1 := Tryz.asRepsubPart
  have a2 := Tryz.innerRep
  go_enter Tryz.func128, Tryz.ntmps128
  go_wp2_with fail
  refine (limitsRep _ _).mono ?_
  rintro e w1 ⟨rfl, rfl⟩
  go_wp2_with fail
  refine (innerRep_any _ x _ hn HV.out).mono ?_
  rintro e w1 ⟨p1, c1, rfl, hr1, hb1⟩
  have HB1 := hide hb1
  have HL := hide hr1
  clear hb1 hr1
  by_cases h5 : 10 < (x.length : Int)
  · have HN := hide (show R = false by rw [HR.out]; exact right_many (by omega))
    go_wp2
    go_ret
    exact ⟨ret_boolF HN.out.symm, HB1.out⟩
  go_wp2_with fail
  refine (leaveOut_any PComp empL x (fun X u i h hu => emptyComp u _ X (HM.out i h) hu) _ _ HL.out).mono ?_
  rintro e w2 ⟨⟨p2, c2, k2, rfl, hk2, hiff⟩, hb2⟩
  have HB2 := hide (HB1.out.trans (hb2.mono HB1.out.size))
  have HL2 := hide (HL.out.below hb2)
  have HI := hide hiff
  clear hb2 hiff
  by_cases hke : k2 = x.length
  · have HEE := hide (HI.out.1 hke)
    subst hke
    have hlm : x.length ≤ 10 := by omega
    obtain ⟨q, cap, hqe, h1, h2, h4⟩ := HL2.out
    have H4 := hide h4
    simp only [Value.slice.injEq, true_and] at hqe
    obtain ⟨rfl, rfl⟩ := hqe
    clear h4
    go_wp2
    go_loopw [39] (fun i wr => ∃ (X : World) (k : Nat), X = wr ∧ k ≤ x.length ∧ i = .int .i64 k ∧ Hid (Below w2.heap.size w2 X) ∧ Hid (∀ j (hj : j < x.length), j < k → compB x[j] = true)) (fun i _ => x.length - (intOf i).toNat)
    case atStart => exact ⟨_, 0, rfl, Nat.zero_le _, rfl, Below.refl _ _, fun j _ h => absurd h (by omega)⟩
    case round =>
      obtain ⟨X, k, rfl, hk, rfl, HB, HA⟩ := hrel
      by_cases hlt : k < x.length
      · obtain ⟨g, off, hp, hg, _, hc⟩ := H4.out (by omega)
        subst hp
        obtain ⟨u, hu, hru⟩ := hc k hlt
        have hck : X.cell? ⟨g, off + k, none⟩ = some u := by rw [HB.out.cell (p := ⟨g, off + k, none⟩) hg]; exact hu
        have HRU : Hid (PComp X u x[k]) := Lasts.go (B := 0) (Same.of HB.out) hru
        clear hu hru hc
        go_wp2_with fail
        refine (rightComp u (x[k]'hlt) _ (HM.out k hlt) HRU.out).mono ?_
        rintro e w3 ⟨rfl, hb3⟩
        have HB3 := hide (HB.out.trans (hb3.mono HB.out.size))
        clear hb3
        cases ho : compB (x[k]'hlt)
        · have HN := hide (show R = false by rw [HR.out]; exact right_no k hlt ho)
          go_wp2
          go_ret
          exact ⟨ret_boolF HN.out.symm, HB2.out.trans (HB3.out.mono HB2.out.size)⟩
        · have HA2 := hide (all_succ HA.out (fun _ => ho))
          go_wp2
          go_roundw
          case rel => exact ⟨_, k + 1, rfl, by omega, by go_num, HB3, HA2⟩
          case measure => simp [intOf]; omega
      · have HY := hide (show R = true by rw [HR.out]; exact right_yes hlm HEE.out (fun j hj => HA.out j hj (by omega)))
        go_wp2
        go_ret
        exact ⟨ret_boolF HY.out.symm, HB2.out.trans (HB.out.mono HB2.out.size)⟩
  · have HN := hide (show R = false by
      rw [HR.out]
      refine right_end ?_
      cases h : endEmpty empL x
      · exact absurd (HI.out.2 h) hke
      · rfl)
    have hne : ((x.length : Int) != (k2 : Int)) = true := by simp; omega
    go_wp2
    go_ret
    exact ⟨ret_boolF HN.out.symm, HB2.out⟩

set_option maxHeartbeats 4000000 in
set_option maxRecDepth 100000 in
theorem rightField (u : Value) (x : List (List (List ByteArray))) (w : World) (hn : x.length ≤ 1048576) (hm : ∀ i (h : i < x.length), x[i].length ≤ 1048576) (hm2 : ∀ i (h : i < x.length) j (hj : j < x[i].length), x[i][j].length ≤ 1048576) (hr : PField w u x) :
    Calls Tryz.prog 128 #[u] w fun e w' => e = .returned (.bool (fldB x)) ∧ Below w.heap.size w w' := by
  obtain ⟨v, rfl, hv⟩ := hr
  have HV := hide hv
  obtain ⟨vp, vc, rfl⟩ := hv.isSlice
  clear hv
  have HM := hide hm
  have HM2 := hide hm2
  clear hm hm2
  obtain ⟨R, hR⟩ : ∃ R, R = fldB x := ⟨_, rfl⟩
  rw [← hR]
  have HR := hide hR
  clear hR
  have a1 := Tryz.asFieldsubPart
  have a2 := Tryz.innerField
  go_enter Tryz.func128, Tryz.ntmps128
  go_wp2_with fail
  refine (limitsField _ _).mono ?_
  rintro e w1 ⟨rfl, rfl⟩
  go_wp2_with fail
  refine (innerField_any _ x _ hn HV.out).mono ?_
  rintro e w1 ⟨p1, c1, rfl, hr1, hb1⟩
  have HB1 := hide hb1
  have HL := hide hr1
  clear hb1 hr1
  by_cases h5 : 5 < (x.length : Int)
  · have HN := hide (show R = false by rw [HR.out]; exact right_many (by omega))
    go_wp2
    go_ret
    exact ⟨ret_boolF HN.out.symm, HB1.out⟩
  go_wp2_with fail
  refine (leaveOut_any PRep empL x (fun X u i h hu => emptyRep u _ X (HM.out i h) hu) _ _ HL.out).mono ?_
  rintro e w2 ⟨⟨p2, c2, k2, rfl, hk2, hiff⟩, hb2⟩
  have HB2 := hide (HB1.out.trans (hb2.mono HB1.out.size))
  have HL2 := hide (HL.out.below hb2)
  have HI := hide hiff
  clear hb2 hiff
  by_cases hke : k2 = x.length
  · have HEE := hide (HI.out.1 hke)
    subst hke
    have hlm : x.length ≤ 5 := by omega
    obtain ⟨q, cap, hqe, h1, h2, h4⟩ := HL2.out
    have H4 := hide h4
    simp only [Value.slice.injEq, true_and] at hqe
    obtain ⟨rfl, rfl⟩ := hqe
    clear h4
    go_wp2
    go_loopw [39] (fun i wr => ∃ (X : World) (k : Nat), X = wr ∧ k ≤ x.length ∧ i = .int .i64 k ∧ Hid (Below w2.heap.size w2 X) ∧ Hid (∀ j (hj : j < x.length), j < k → repB x[j] = true)) (fun i _ => x.length - (intOf i).toNat)
    case atStart => exact ⟨_, 0, rfl, Nat.zero_le _, rfl, Below.refl _ _, fun j _ h => absurd h (by omega)⟩
    case round =>
      obtain ⟨X, k, rfl, hk, rfl, HB, HA⟩ := hrel
      by_cases hlt : k < x.length
      · obtain ⟨g, off, hp, hg, _, hc⟩ := H4.out (by omega)
        subst hp
        obtain ⟨u, hu, hru⟩ := hc k hlt
        have hck : X.cell? ⟨g, off + k, none⟩ = some u := by rw [HB.out.cell (p := ⟨g, off + k, none⟩) hg]; exact hu
        have HRU : Hid (PRep X u x[k]) := Lasts.go (B := 0) (Same.of HB.out) hru
        clear hu hru hc
        go_wp2_with fail
        refine (rightRep u (x[k]'hlt) _ (HM.out k hlt) (HM2.out k hlt) HRU.out).mono ?_
        rintro e w3 ⟨rfl, hb3⟩
        have HB3 := hide (HB.out.trans (hb3.mono HB.out.size))
        clear hb3
        cases ho : repB (x[k]'hlt)
        · have HN := hide (show R = false by rw [HR.out]; exact right_no k hlt ho)
          go_wp2
          go_ret
          exact ⟨ret_boolF HN.out.symm, HB2.out.trans (HB3.out.mono HB2.out.size)⟩
        · have HA2 := hide (all_succ HA.out (fun _ => ho))
          go_wp2
          go_roundw
          case rel => exact ⟨_, k + 1, rfl, by omega, by go_num, HB3, HA2⟩
          case measure => simp [intOf]; omega
      · have HY := hide (show R = true by rw [HR.out]; exact right_yes hlm HEE.out (fun j hj => HA.out j hj (by omega)))
        go_wp2
        go_ret
        exact ⟨ret_boolF HY.out.symm, HB2.out.trans (HB.out.mono HB2.out.size)⟩
  · have HN := hide (show R = false by
      rw [HR.out]
      refine right_end ?_
      cases h : endEmpty empL x
      · exact absurd (HI.out.2 h) hke
      · rfl)
    have hne : ((x.length : Int) != (k2 : Int)) = true := by simp; omega
    go_wp2
    go_ret
    exact ⟨ret_boolF HN.out.symm, HB2.out⟩

set_option maxHeartbeats 1000000 in
theorem implFieldRight_any (u : Value) (x : List (List (List ByteArray))) (w : World) (hn : x.length ≤ 1048576) (hm : ∀ i (h : i < x.length), x[i].length ≤ 1048576) (hm2 : ∀ i (h : i < x.length) j (hj : j < x[i].length), x[i][j].length ≤ 1048576) (hr : RFld 0 w u x) :
    Calls Tryz.prog 116 #[.agg #[u]] w fun e w' => e = .returned (.bool (fldB x)) ∧ Below w.heap.size w w' := by
  have HR := hide hr
  obtain ⟨p, c, rfl⟩ := hr.isSlice
  have HM := hide hm
  have HM2 := hide hm2
  clear hr hm hm2
  go_enter Tryz.func116, Tryz.ntmps116
  go_wp2_with fail
  refine (rightField _ x _ hn HM.out HM2.out ⟨_, rfl, HR.out.below ((Below.refl _ _).alloc (Nat.le_refl _) _)⟩).mono ?_
  rintro e w1 ⟨rfl, hb1⟩
  have HB := hide (((Below.refl w.heap.size w).alloc (Nat.le_refl _) (.cells #[.slice p x.length c] 108)).trans (hb1.mono (by simp)))
  clear hb1
  go_wp2
  go_ret
  exact ⟨rfl, HB.out⟩
end Go.Proofs.YtholbhjfmfanbaaGreat
