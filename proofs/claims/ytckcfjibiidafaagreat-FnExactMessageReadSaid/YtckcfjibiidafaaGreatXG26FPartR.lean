/- The program's partRight and FieldRight. -/
import Derived.Test.YtckcfjibiidafaaGreatXG25OReadL
namespace Go.Proofs.YtckcfjibiidafaaGreat
open Go.RowKit
theorem right_many {α : Type} {f emp : α → Bool} {most : Nat} {xs : List α} (h : most < xs.length) : rightB f emp most xs = false := by
  have : ¬ xs.length ≤ most := by omega
  simp [rightB, this]
theorem right_end {α : Type} {f emp : α → Bool} {most : Nat} {xs : List α} (h : endEmpty emp xs = true) : rightB f emp most xs = false := by simp [rightB, h]
theorem right_yes {α : Type} {f emp : α → Bool} {most : Nat} {xs : List α} (h1 : xs.length ≤ most) (h2 : endEmpty emp xs = false) (h : ∀ k (hk : k < xs.length), f xs[k] = true) : rightB f emp most xs = true := by
  rw [right_all h]
  simp [h1, h2]

set_option maxHeartbeats 1000000 in
theorem subRight_any (s : ByteArray) (w : World) :
    Calls Tryz.prog 90 #[.string s] w fun e w' => e = .returned (.bool (subB s)) ∧ Below w.heap.size w w' := by
  by_cases h6 : (s.size : Int) ≤ 60
  · have HS := hide (show subB s = plainB s by simp [subB, h6])
    go_enter Tryz.func90, Tryz.ntmps90
    go_wp2_with fail
    refine (allPlain_any s _).mono ?_
    rintro e w1 ⟨rfl, hb1⟩
    go_wp2
    go_ret
    exact ⟨ret_boolF HS.out.symm, hb1⟩
  · have HS := hide (show subB s = false by simp [subB, h6])
    go_enter Tryz.func90, Tryz.ntmps90
    go_wp2
    go_ret
    exact ⟨ret_boolF HS.out.symm, Below.refl _ _⟩

set_option maxHeartbeats 1000000 in
set_option maxRecDepth 100000 in
theorem rightSub (u : Value) (x : ByteArray) (w : World) (hr : PSub w u x) :
    Calls Tryz.prog 78 #[u] w fun e w' => e = .returned (.bool (subB x)) ∧ Below w.heap.size w w' := by
  obtain ⟨rfl, _⟩ := hr
  have a1 := Tryz.assubPartsubPart
  go_enter Tryz.func78, Tryz.ntmps78
  go_wp2_with fail
  refine (subRight_any x _).mono ?_
  rintro e w1 ⟨rfl, hb1⟩
  go_wp2
  go_ret
  exact ⟨rfl, hb1⟩

set_option maxHeartbeats 4000000 in
set_option maxRecDepth 100000 in
theorem rightComp (u : Value) (x : List (ByteArray)) (w : World) (hn : x.length ≤ 1048576) (hr : PComp w u x) :
    Calls Tryz.prog 78 #[u] w fun e w' => e = .returned (.bool (compB x)) ∧ Below w.heap.size w w' := by
  obtain ⟨v, rfl, hv⟩ := hr
  have HV := hide hv
  obtain ⟨vp, vc, rfl⟩ := hv.isSlice
  clear hv
  obtain ⟨R, hR⟩ : ∃ R, R = compB x := ⟨_, rfl⟩
  rw [← hR]
  have HR := hide hR
  clear hR
  have a1 := Tryz.asCompsubPart
  have a2 := Tryz.innerComp
  go_enter Tryz.func78, Tryz.ntmps78
  go_wp2_with fail
  refine (limitsComp _ _).mono ?_
  rintro e w1 ⟨rfl, rfl⟩
  go_wp2_with fail
  refine (innerComp_any _ x _ hn HV.out).mono ?_
  rintro e w1 ⟨p1, c1, rfl, hr1, hb1⟩
  have HB1 := hide hb1
  have HL := hide hr1
  clear hb1 hr1
  by_cases h5 : 5 < (x.length : Int)
  · have HN := hide (show R = false by rw [HR.out]; exact right_many (by omega))
    go_wp2
    go_ret
    exact ⟨ret_boolF HN.out.symm, HB1.out⟩
  go_wp2_with fail
  refine (leaveOut_any PSub empS x (fun X u i h hu => emptySub u _ X hu) _ _ HL.out).mono ?_
  rintro e w2 ⟨⟨p2, c2, k2, rfl, hk2, hiff⟩, hb2⟩
  have HB2 := hide (HB1.out.trans (hb2.mono HB1.out.size))
  have HL2 := hide (HL.out.below hb2)
  have HI := hide hiff
  clear hb2 hiff
  by_cases hke : k2 = x.length
  · have HEE := hide (HI.out.1 hke)
    subst hke
    have hlm : x.length ≤ 5 := by omega
    obtain ⟨q, cap, hqe, h1, h2, h4⟩ := HL2.out
    have H4 := hide h4
    simp only [Value.slice.injEq, true_and] at hqe
    obtain ⟨rfl, rfl⟩ := hqe
    clear h4
    go_wp2
    go_loopw [39] (fun i wr => ∃ (X : World) (k : Nat), X = wr ∧ k ≤ x.length ∧ i = .int .i64 k ∧ Hid (Below w2.heap.size w2 X) ∧ Hid (∀ j (hj : j < x.length), j < k → subB x[j] = true)) (fun i _ => x.length - (intOf i).toNat)
    case atStart => exact ⟨_, 0, rfl, Nat.zero_le _, rfl, Below.refl _ _, fun j _ h => absurd h (by omega)⟩
    case round =>
      obtain ⟨X, k, rfl, hk, rfl, HB, HA⟩ := hrel
      by_cases hlt : k < x.length
      · obtain ⟨g, off, hp, hg, _, hc⟩ := H4.out (by omega)
        subst hp
        obtain ⟨u, hu, hru⟩ := hc k hlt
        have hck : X.cell? ⟨g, off + k, none⟩ = some u := by rw [HB.out.cell (p := ⟨g, off + k, none⟩) hg]; exact hu
        have HRU : Hid (PSub X u x[k]) := Lasts.go (B := 0) (Same.of HB.out) hru
        clear hu hru hc
        go_wp2_with fail
        refine (rightSub u (x[k]'hlt) _ HRU.out).mono ?_
        rintro e w3 ⟨rfl, hb3⟩
        have HB3 := hide (HB.out.trans (hb3.mono HB.out.size))
        clear hb3
        cases ho : subB (x[k]'hlt)
        · have HN := hide (show R = false by rw [HR.out]; exact right_no k hlt ho)
          go_wp2
          go_ret
          exact ⟨ret_boolF HN.out.symm, HB2.out.trans (HB3.out.mono HB2.out.size)⟩
        · have HA2 := hide (all_succ HA.out (fun _ => ho))
          go_wp2
          go_roundw
          case rel => exact ⟨_, k + 1, rfl, by omega, by go_num, HB3, HA2⟩
          case measure => simp [intOf]; omega
      · have HY := hide (show R = true by rw [HR.out]; exact right_yes hlm HEE.out (fun j hj => HA.out j hj (by omega)))
        go_wp2
        go_ret
        exact ⟨ret_boolF HY.out.symm, HB2.out.trans (HB.out.mono HB2.out.size)⟩
  · have HN := hide (show R = false by
      rw [HR.out]
      refine right_end ?_
      cases h : endEmpty empS x
      · exact absurd (HI.out.2 h) hke
      · rfl)
    have hne : ((x.length : Int) != (k2 : Int)) = true := by simp; omega
    go_wp2
    go_ret
    exact ⟨ret_boolF HN.out.symm, HB2.out⟩

set_option maxHeartbeats 4000000 in
set_option maxRecDepth 100000 in
theorem rightRep (u : Value) (x : List (List ByteArray)) (w : World) (hn : x.length ≤ 1048576) (hm : ∀ i (h : i < x.length), x[i].length ≤ 1048576) (hr : PRep w u x) :
    Calls Tryz.prog 78 #[u] w fun e w' => e = .returned (.bool (repB x)) ∧ Below w.heap.size w w' := by
  obtain ⟨v, rfl, hv⟩ := hr
  have HV := hide hv
  obtain ⟨vp, vc, rfl⟩ := hv.isSlice
  clear hv
  have HM := hide hm
  clear hm
  obtain ⟨R, hR⟩ : ∃ R, R = repB x := ⟨_, rfl⟩
  rw [← hR]
  have HR := hide hR
  clear hR
  have a1 := Tryz.asRepsubPart
  have a2 := Tryz.innerRep
  go_enter Tryz.func78, Tryz.ntmps78
  go_wp2_with fail
  refine (limitsRep _ _).mono ?_
  rintro e w1 ⟨rfl, rfl⟩
  go_wp2_with fail
  refine (innerRep_any _ x _ hn HV.out).mono ?_
  rintro e w1 ⟨p1, c1, rfl, hr1, hb1⟩
  have HB1 := hide hb1
  have HL := hide hr1
  clear hb1 hr1
  by_cases h5 : 10 < (x.length : Int)
  · have HN := hide (show R = false by rw [HR.out]; exact right_many (by omega))
    go_wp2
    go_ret
    exact ⟨ret_boolF HN.out.symm, HB1.out⟩
  go_wp2_with fail
  refine (leaveOut_any PComp empL x (fun X u i h hu => emptyComp u _ X (HM.out i h) hu) _ _ HL.out).mono ?_
  rintro e w2 ⟨⟨p2, c2, k2, rfl, hk2, hiff⟩, hb2⟩
  have HB2 := hide (HB1.out.trans (hb2.mono HB1.out.size))
  have HL2 := hide (HL.out.below hb2)
  have HI := hide hiff
  clear hb2 hiff
  by_cases hke : k2 = x.length
  · have HEE := hide (HI.out.1 hke)
    subst hke
    have hlm : x.length ≤ 10 := by omega
    obtain ⟨q, cap, hqe, h1, h2, h4⟩ := HL2.out
    have H4 := hide h4
    simp only [Value.slice.injEq, true_and] at hqe
    obtain ⟨rfl, rfl⟩ := hqe
    clear h4
    go_wp2
    go_loopw [39] (fun i wr => ∃ (X : World) (k : Nat), X = wr ∧ k ≤ x.length ∧ i = .int .i64 k ∧ Hid (Below w2.heap.size w2 X) ∧ Hid (∀ j (hj : j < x.length), j < k → compB x[j] = true)) (fun i _ => x.length - (intOf i).toNat)
    case atStart => exact ⟨_, 0, rfl, Nat.zero_le _, rfl, Below.refl _ _, fun j _ h => absurd h (by omega)⟩
    case round =>
      obtain ⟨X, k, rfl, hk, rfl, HB, HA⟩ := hrel
      by_cases hlt : k < x.length
      · obtain ⟨g, off, hp, hg, _, hc⟩ := H4.out (by omega)
        subst hp
        obtain ⟨u, hu, hru⟩ := hc k hlt
        have hck : X.cell? ⟨g, off + k, none⟩ = some u := by rw [HB.out.cell (p := ⟨g, off + k, none⟩) hg]; exact hu
        have HRU : Hid (PComp X u x[k]) := Lasts.go (B := 0) (Same.of HB.out) hru
        clear hu hru hc
        go_wp2_with fail
        refine (rightComp u (x[k]'hlt) _ (HM.out k hlt) HRU.out).mono ?_
        rintro e w3 ⟨rfl, hb3⟩
        have HB3 := hide (HB.out.trans (hb3.mono HB.out.size))
        clear hb3
        cases ho : compB (x[k]'hlt)
        · have HN := hide (show R = false by rw [HR.out]; exact right_no k hlt ho)
          go_wp2
          go_ret
          exact ⟨ret_boolF HN.out.symm, HB2.out.trans (HB3.out.mono HB2.out.size)⟩
        · have HA2 := hide (all_succ HA.out (fun _ => ho))
          go_wp2
          go_roundw
          case rel => exact ⟨_, k + 1, rfl, by omega, by go_num, HB3, HA2⟩
          case measure => simp [intOf]; omega
      · have HY := hide (show R = true by rw [HR.out]; exact right_yes hlm HEE.out (fun j hj => HA.out j hj (by omega)))
        go_wp2
        go_ret
        exact ⟨ret_boolF HY.out.symm, HB2.out.trans (HB.out.mono HB2.out.size)⟩
  · have HN := hide (show R = false by
      rw [HR.out]
      refine right_end ?_
      cases h : endEmpty empL x
      · exact absurd (HI.out.2 h) hke
      · rfl)
    have hne : ((x.length : Int) != (k2 : Int)) = true := by simp; omega
    go_wp2
    go_ret
    exact ⟨ret_boolF HN.out.symm, HB2.out⟩

set_option maxHeartbeats 4000000 in
set_option maxRecDepth 100000 in
theorem rightField (u : Value) (x : List (List (List ByteArray))) (w : World) (hn : x.length ≤ 1048576) (hm : ∀ i (h : i < x.length), x[i].length ≤ 1048576) (hm2 : ∀ i (h : i < x.length) j (hj : j < x[i].length), x[i][j].length ≤ 1048576) (hr : PField w u x) :
    Calls Tryz.prog 78 #[u] w fun e w' => e = .returned (.bool (fldB x)) ∧ Below w.heap.size w w' := by
  obtain ⟨v, rfl, hv⟩ := hr
  have HV := hide hv
  obtain ⟨vp, vc, rfl⟩ := hv.isSlice
  clear hv
  have HM := hide hm
  have HM2 := hide hm2
  clear hm hm2
  obtain ⟨R, hR⟩ : ∃ R, R = fldB x := ⟨_, rfl⟩
  rw [← hR]
  have HR := hide hR
  clear hR
  have a1 := Tryz.asFieldsubPart
  have a2 := Tryz.innerField
  go_enter Tryz.func78, Tryz.ntmps78
  go_wp2_with fail
  refine (limitsField _ _).mono ?_
  rintro e w1 ⟨rfl, rfl⟩
  go_wp2_with fail
  refine (innerField_any _ x _ hn HV.out).mono ?_
  rintro e w1 ⟨p1, c1, rfl, hr1, hb1⟩
  have HB1 := hide hb1
  have HL := hide hr1
  clear hb1 hr1
  by_cases h5 : 5 < (x.length : Int)
  · have HN := hide (show R = false by rw [HR.out]; exact right_many (by omega))
    go_wp2
    go_ret
    exact ⟨ret_boolF HN.out.symm, HB1.out⟩
  go_wp2_with fail
  refine (leaveOut_any PRep empL x (fun X u i h hu => emptyRep u _ X (HM.out i h) hu) _ _ HL.out).mono ?_
  rintro e w2 ⟨⟨p2, c2, k2, rfl, hk2, hiff⟩, hb2⟩
  have HB2 := hide (HB1.out.trans (hb2.mono HB1.out.size))
  have HL2 := hide (HL.out.below hb2)
  have HI := hide hiff
  clear hb2 hiff
  by_cases hke : k2 = x.length
  · have HEE := hide (HI.out.1 hke)
    subst hke
    have hlm : x.length ≤ 5 := by omega
    obtain ⟨q, cap, hqe, h1, h2, h4⟩ := HL2.out
    have H4 := hide h4
    simp only [Value.slice.injEq, true_and] at hqe
    obtain ⟨rfl, rfl⟩ := hqe
    clear h4
    go_wp2
    go_loopw [39] (fun i wr => ∃ (X : World) (k : Nat), X = wr ∧ k ≤ x.length ∧ i = .int .i64 k ∧ Hid (Below w2.heap.size w2 X) ∧ Hid (∀ j (hj : j < x.length), j < k → repB x[j] = true)) (fun i _ => x.length - (intOf i).toNat)
    case atStart => exact ⟨_, 0, rfl, Nat.zero_le _, rfl, Below.refl _ _, fun j _ h => absurd h (by omega)⟩
    case round =>
      obtain ⟨X, k, rfl, hk, rfl, HB, HA⟩ := hrel
      by_cases hlt : k < x.length
      · obtain ⟨g, off, hp, hg, _, hc⟩ := H4.out (by omega)
        subst hp
        obtain ⟨u, hu, hru⟩ := hc k hlt
        have hck : X.cell? ⟨g, off + k, none⟩ = some u := by rw [HB.out.cell (p := ⟨g, off + k, none⟩) hg]; exact hu
        have HRU : Hid (PRep X u x[k]) := Lasts.go (B := 0) (Same.of HB.out) hru
        clear hu hru hc
        go_wp2_with fail
        refine (rightRep u (x[k]'hlt) _ (HM.out k hlt) (HM2.out k hlt) HRU.out).mono ?_
        rintro e w3 ⟨rfl, hb3⟩
        have HB3 := hide (HB.out.trans (hb3.mono HB.out.size))
        clear hb3
        cases ho : repB (x[k]'hlt)
        · have HN := hide (show R = false by rw [HR.out]; exact right_no k hlt ho)
          go_wp2
          go_ret
          exact ⟨ret_boolF HN.out.symm, HB2.out.trans (HB3.out.mono HB2.out.size)⟩
        · have HA2 := hide (all_succ HA.out (fun _ => ho))
          go_wp2
          go_roundw
          case rel => exact ⟨_, k + 1, rfl, by omega, by go_num, HB3, HA2⟩
          case measure => simp [intOf]; omega
      · have HY := hide (show R = true by rw [HR.out]; exact right_yes hlm HEE.out (fun j hj => HA.out j hj (by omega)))
        go_wp2
        go_ret
        exact ⟨ret_boolF HY.out.symm, HB2.out.trans (HB.out.mono HB2.out.size)⟩
  · have HN := hide (show R = false by
      rw [HR.out]
      refine right_end ?_
      cases h : endEmpty empL x
      · exact absurd (HI.out.2 h) hke
      · rfl)
    have hne : ((x.length : Int) != (k2 : Int)) = true := by simp; omega
    go_wp2
    go_ret
    exact ⟨ret_boolF HN.out.symm, HB2.out⟩

set_option maxHeartbeats 1000000 in
theorem implFieldRight_any (u : Value) (x : List (List (List ByteArray))) (w : World) (hn : x.length ≤ 1048576) (hm : ∀ i (h : i < x.length), x[i].length ≤ 1048576) (hm2 : ∀ i (h : i < x.length) j (hj : j < x[i].length), x[i][j].length ≤ 1048576) (hr : RFld 0 w u x) :
    Calls Tryz.prog 68 #[.agg #[u]] w fun e w' => e = .returned (.bool (fldB x)) ∧ Below w.heap.size w w' := by
  have HR := hide hr
  obtain ⟨p, c, rfl⟩ := hr.isSlice
  have HM := hide hm
  have HM2 := hide hm2
  clear hr hm hm2
  go_enter Tryz.func68, Tryz.ntmps68
  go_wp2_with fail
  refine (rightField _ x _ hn HM.out HM2.out ⟨_, rfl, HR.out.below ((Below.refl _ _).alloc (Nat.le_refl _) _)⟩).mono ?_
  rintro e w1 ⟨rfl, hb1⟩
  have HB := hide (((Below.refl w.heap.size w).alloc (Nat.le_refl _) (.cells #[.slice p x.length c] 54)).trans (hb1.mono (by simp)))
  clear hb1
  go_wp2
  go_ret
  exact ⟨rfl, HB.out⟩
end Go.Proofs.YtckcfjibiidafaaGreat
/- A Field that is read: of the program. -/
namespace Go.Proofs.YtckcfjibiidafaaGreat
open Go.RowKit
def fldQ (m : ByteArray) (L : List UInt8) : Option (List (List (List ByteArray))) := (fldP m L).bind (fun f => if fldB f then some f else none)
theorem readL_small {β : Type} {c : UInt8} {rd : List UInt8 → Option β} {L : List UInt8} {xs : List β} (h : readL c rd L = some xs) : xs.length ≤ L.length + 1 ∧ ∀ x ∈ xs, ∃ p, p.length ≤ L.length ∧ rd p = some x := by
  have e : mapO rd (piecesL c L) = some xs := by
    rw [← h]
    unfold readL piecesL
    split <;> rfl
  have h1 := mapO_len _ _ e
  have h2 := piecesL_len c L
  refine ⟨by omega, fun x hx => ?_⟩
  obtain ⟨p, hp, e2⟩ := mapO_mem _ _ e x hx
  exact ⟨p, h2.2 p hp, e2⟩
theorem fldP_small (m : ByteArray) (L : List UInt8) (xs : List (List (List ByteArray))) (hL : L.length ≤ 900000) (h : fldP m L = some xs) :
    xs.length ≤ 1048576 ∧ (∀ i (h : i < xs.length), xs[i].length ≤ 1048576) ∧ ∀ i (h : i < xs.length) j (hj : j < xs[i].length), xs[i][j].length ≤ 1048576 := by
  obtain ⟨h1, h2⟩ := readL_small h
  refine ⟨by omega, fun i hi => ?_, fun i hi j hj => ?_⟩
  · obtain ⟨p, hp, e⟩ := h2 _ (List.getElem_mem hi)
    have := (readL_small e).1
    omega
  · obtain ⟨p, hp, e⟩ := h2 _ (List.getElem_mem hi)
    obtain ⟨q, hq, e2⟩ := (readL_small e).2 _ (List.getElem_mem hj)
    have := (readL_small e2).1
    omega
set_option maxHeartbeats 8000000 in
set_option maxRecDepth 100000 in
theorem fieldR_any (m s : ByteArray) (w : World) (hm : marksB m = true) (hs : s.size ≤ 900000) :
    Calls Tryz.prog 65 #[.agg #[.string m, .bool false], .string s] w fun e w' => ItemRes OFld w.heap.size (fldQ m s.data.toList) e w' ∧ Below w.heap.size w w' := by
  have h5 := marksB_five hm
  have h4 : 2 < m.size := by omega
  have hc : (m[2]'h4).toNat < 128 := by
    have := mark_plain hm 2 (by omega)
    rw [bAt_get m 2 h4] at this
    simp only [plainR, decide_eq_true_eq] at this
    omega
  obtain ⟨R, hR⟩ : ∃ R, R = fldP m s.data.toList := ⟨_, rfl⟩
  have hl : s.data.toList.length = s.size := bytes_len s
  have HPL := hide (piecesL_len (m[2]'h4) s.data.toList)
  rw [hl] at HPL
  have HRP := hide (show mapO (fun p : ByteArray => repP m p.data.toList) ((piecesL (m[2]'h4) s.data.toList).map asB) = R by rw [hR, ← bAt_get m 2 h4]; exact read_pieces _ _ _)
  have HQ := hide (show fldQ m s.data.toList = R.bind (fun f => if fldB f then some f else none) by rw [hR]; rfl)
  have HSZ := hide (show ∀ xs, R = some xs → xs.length ≤ 1048576 ∧ (∀ i (h : i < xs.length), xs[i].length ≤ 1048576) ∧ ∀ i (h : i < xs.length) j (hj : j < xs[i].length), xs[i][j].length ≤ 1048576 from fun xs e => fldP_small m _ xs (by rw [hl]; exact hs) (hR.symm.trans e))
  rw [HQ.out]
  clear hR hl
  have HC := hide hc
  clear hc
  obtain ⟨c4, hc4⟩ : ∃ c4, c4 = m[2]'h4 := ⟨_, rfl⟩
  have HC4 := hide hc4
  obtain ⟨P, hP⟩ : ∃ P, P = piecesL (m[2]'h4) s.data.toList := ⟨_, rfl⟩
  have HP := hide hP
  clear hc4 hP
  obtain ⟨W, hW⟩ : ∃ W, W = (w.alloc (.cells #[.string m, .bool false] 47)).alloc (.cells #[.slice none 0 0] 54) := ⟨_, rfl⟩
  have HBW := hide (show Below w.heap.size w W by rw [hW]; exact ((Below.refl _ _).alloc (Nat.le_refl _) _).alloc (by simp) _)
  have HWs := hide (show W.heap.size = w.heap.size + 2 by rw [hW]; simp)
  have HR1 := hide (show Row W w.heap.size 47 [.string m, .bool false] by rw [hW]; exact (row_new w [.string m, .bool false] 47).alloc _)
  have HR2 := hide (show Row W (w.heap.size + 1) 54 [.slice none 0 0] by
    rw [hW]
    have := row_new (w.alloc (.cells #[.string m, .bool false] 47)) [.slice none 0 0] 54
    simpa using this)
  have HSS := hide (show ∀ y, Below W.heap.size W y → (fun y : World => y.cell? ⟨w.heap.size, 0, none⟩ = some (.string m) ∧ y.cell? ⟨w.heap.size, 1, none⟩ = some (.bool false)) y from fun y h => ⟨(HR1.out.below h HR1.out.lt).cell 0, (HR1.out.below h HR1.out.lt).cell 1⟩)
  go_enter Tryz.func65, Tryz.ntmps65
  go_wp2_with fail
  rw [← hW]
  clear hW
  refine wp_region_held (S := (fun y : World => y.cell? ⟨w.heap.size, 0, none⟩ = some (.string m) ∧ y.cell? ⟨w.heap.size, 1, none⟩ = some (.bool false))) (by kernel_rfl) ?_
  have HX := hide (show Below W.heap.size W { W with drawn := W.drawn + 1 } from (Below.refl _ _).drew)
  generalize ({ W with drawn := W.drawn + 1 } : World) = Z0 at HX ⊢
  have HS := hide (HSS.out _ HX.out)
  refine wpAnyH_take (i := 0) (oi := _) (v := .agg #[.string m, .bool false]) rfl (by kernel_rfl) (by kernel_rfl) (by kernel_rfl) (fun _ _ _ h => h) (Or.inl ⟨by rfl, by intro w hSw; go_split_ands; go_simp⟩) HS.out ?_
  simp only [Act.put, List.getElem_toArray, List.getElem_cons_zero, List.setIfInBounds_toArray, List.set_cons_zero, List.set_cons_succ]
  refine wpAnyH_take (i := 1) (oi := _) (v := .string s) rfl (by kernel_rfl) (by kernel_rfl) (by kernel_rfl) (fun _ _ _ h => h) (Or.inl ⟨by rfl, by intro w hSw; go_split_ands; go_simp⟩) HS.out ?_
  simp only [Act.put, List.getElem_toArray, List.getElem_cons_zero, List.getElem_cons_succ, List.setIfInBounds_toArray, List.set_cons_zero, List.set_cons_succ]
  refine wpAnyH_take (i := 2) (oi := _) (v := .pointer (some ⟨w.heap.size, 0, none⟩)) rfl (by kernel_rfl) (by kernel_rfl) (by kernel_rfl) (fun _ _ _ h => h) (Or.inl ⟨by rfl, by intro w hSw; go_split_ands; go_simp⟩) HS.out ?_
  simp only [Act.put, List.getElem_toArray, List.getElem_cons_zero, List.getElem_cons_succ, List.setIfInBounds_toArray, List.set_cons_zero, List.set_cons_succ]
  refine wpAnyH_take (i := 3) (oi := _) (v := .string m) rfl (by kernel_rfl) (by kernel_rfl) (by kernel_rfl) (fun _ _ _ h => h) (Or.inl ⟨by rfl, by intro w hSw; go_split_ands; go_simp⟩) HS.out ?_
  simp only [Act.put, List.getElem_toArray, List.getElem_cons_zero, List.getElem_cons_succ, List.setIfInBounds_toArray, List.set_cons_zero, List.set_cons_succ]
  refine wpAnyH_take (i := 4) (oi := _) (v := .int .u8 ((m[2]'h4).toNat : Int)) rfl (by kernel_rfl) (by kernel_rfl) (by kernel_rfl) (fun _ _ _ h => h) (Or.inl ⟨by rfl, by intro w hSw; go_split_ands; go_simp⟩) HS.out ?_
  simp only [Act.put, List.getElem_toArray, List.getElem_cons_zero, List.getElem_cons_succ, List.setIfInBounds_toArray, List.set_cons_zero, List.set_cons_succ]
  refine wpAnyH_take (i := 6) (oi := _) (v := .agg #[.string m, .bool false]) rfl (by kernel_rfl) (by kernel_rfl) (by kernel_rfl) (fun _ _ _ h => h) (Or.inl ⟨by rfl, by intro w hSw; go_split_ands; go_simp⟩) HS.out ?_
  simp only [Act.put, List.getElem_toArray, List.getElem_cons_zero, List.getElem_cons_succ, List.setIfInBounds_toArray, List.set_cons_zero, List.set_cons_succ]
  refine wpAnyH_take (i := 7) (oi := _) (v := .func (.func 77) #[.agg #[.string m, .bool false]] #[]) rfl (by kernel_rfl) (by kernel_rfl) (by kernel_rfl) (fun _ _ _ h => h) (Or.inl ⟨by rfl, by intro w hSw; go_split_ands; go_simp⟩) HS.out ?_
  simp only [Act.put, List.getElem_toArray, List.getElem_cons_zero, List.getElem_cons_succ, List.setIfInBounds_toArray, List.set_cons_zero, List.set_cons_succ]
  refine wpAnyH_ready (rs := [5]) (by kernel_rfl) (by simp) ?_
  refine AllReadyH.cons (o := _) rfl (fun K hK => ?_) AllReadyH.nil
  go_simp
  refine (cutAt_any s (m[2]'h4) _ (by omega) HC.out).mono ?_
  rintro e Z1 ⟨v1, rfl, ho1, hb1⟩
  have HX1 := hide (HX.out.trans (hb1.mono HX.out.size))
  have HO1 := hide (show RComp 0 Z1 v1 ((piecesL (m[2]'h4) s.data.toList).map asB) from RComp.mono (OS.rl (os_of_own (by rw [strs_pieces, List.length_map]; exact ho1) (fun x hx => by
    obtain ⟨p, hp, rfl⟩ := List.mem_map.1 hx
    rw [asB_size]
    have := HPL.out.2 p hp
    unfold maxLen; omega))) (Nat.zero_le _))
  clear ho1 hb1
  refine hK.out _ _ (HSS.out _ HX1.out) (fun _ => ?_)
  clear hK K HS
  have HS := hide (HSS.out _ HX1.out)
  refine wpAnyH_ready (rs := [8]) (by kernel_rfl) (by simp) ?_
  refine AllReadyH.cons (o := _) rfl (fun K hK => ?_) AllReadyH.nil
  go_simp
  refine (readList_rep m v1 _ _ hm (by rw [List.length_map]; have := HPL.out.1; omega) (fun x hx => by
    obtain ⟨p, hp, rfl⟩ := List.mem_map.1 hx
    rw [asB_size]
    have := HPL.out.2 p hp
    omega) HO1.out).mono ?_
  rw [HRP.out]
  rintro e Z2 ⟨⟨u, b, xs, rfl, hxs, hRb⟩, hb2⟩
  obtain ⟨p3, c3, rfl⟩ := hxs.isSlice
  have HX2 := hide (HX1.out.trans (hb2.mono HX1.out.size))
  have HXS := hide (show OL 69 ORep W.heap.size Z2.heap.size Z2 (.slice p3 xs.length c3) xs from Keeps.wide HX1.out.size (Nat.le_refl _) hxs)
  have HRB := hide hRb
  clear hb2 hxs hRb
  refine hK.out _ _ (HSS.out _ HX2.out) (fun _ => ?_)
  clear hK K HS
  have HS := hide (HSS.out _ HX2.out)
  refine wpAnyH_take (i := 9) (oi := _) (v := .tuple #[.slice p3 xs.length c3, .bool b]) rfl (by kernel_rfl) (by kernel_rfl) (by kernel_rfl) (fun _ _ _ h => h) (Or.inl ⟨by rfl, by intro w hSw; go_split_ands; go_simp⟩) HS.out ?_
  simp only [Act.put, List.getElem_toArray, List.getElem_cons_zero, List.getElem_cons_succ, List.setIfInBounds_toArray, List.set_cons_zero, List.set_cons_succ]
  refine wpAnyH_take (i := 10) (oi := _) (v := .slice p3 xs.length c3) rfl (by kernel_rfl) (by kernel_rfl) (by kernel_rfl) (fun _ _ _ h => h) (Or.inl ⟨by rfl, by intro w hSw; go_split_ands; go_simp⟩) HS.out ?_
  simp only [Act.put, List.getElem_toArray, List.getElem_cons_zero, List.getElem_cons_succ, List.setIfInBounds_toArray, List.set_cons_zero, List.set_cons_succ]
  refine wpAnyH_take (i := 11) (oi := _) (v := .bool b) rfl (by kernel_rfl) (by kernel_rfl) (by kernel_rfl) (fun _ _ _ h => h) (Or.inl ⟨by rfl, by intro w hSw; go_split_ands; go_simp⟩) HS.out ?_
  simp only [Act.put, List.getElem_toArray, List.getElem_cons_zero, List.getElem_cons_succ, List.setIfInBounds_toArray, List.set_cons_zero, List.set_cons_succ]
  refine wpAnyH_take (i := 12) (oi := _) (v := .slice p3 xs.length c3) rfl (by kernel_rfl) (by kernel_rfl) (by kernel_rfl) (fun _ _ _ h => h) (Or.inl ⟨by rfl, by intro w hSw; go_split_ands; go_simp⟩) HS.out ?_
  simp only [Act.put, List.getElem_toArray, List.getElem_cons_zero, List.getElem_cons_succ, List.setIfInBounds_toArray, List.set_cons_zero, List.set_cons_succ]
  refine wpAnyH_take (i := 13) (oi := _) (v := .bool b) rfl (by kernel_rfl) (by kernel_rfl) (by kernel_rfl) (fun _ _ _ h => h) (Or.inl ⟨by rfl, by intro w hSw; go_split_ands; go_simp⟩) HS.out ?_
  simp only [Act.put, List.getElem_toArray, List.getElem_cons_zero, List.getElem_cons_succ, List.setIfInBounds_toArray, List.set_cons_zero, List.set_cons_succ]
  refine wpAnyH_done (by kernel_rfl) ?_ _
  have hWs := HWs.out
  have HROZ := hide (HR2.out.below HX2.out HR2.out.lt)
  have hzs := HX2.out.size
  obtain ⟨Y, hY⟩ : ∃ Y, Y = Z2.alloc (.cells #[.slice p3 xs.length c3] 54) := ⟨_, rfl⟩
  have hba : Below Z2.heap.size Z2 Y := by rw [hY]; exact (Below.refl _ _).alloc (Nat.le_refl _) _
  have HBY := hide (HX2.out.trans (hba.mono HX2.out.size))
  have HRF := hide (show Row Y Z2.heap.size 54 [.slice p3 xs.length c3] by rw [hY]; exact row_new Z2 [.slice p3 xs.length c3] _)
  have HROY := hide (HROZ.out.below hba HROZ.out.lt)
  have HOY := hide (Keeps.go (SameIn.ofBelow hba) HXS.out)
  clear hba
  go_wp2_with fail
  rw [← hY]
  clear hY HX2 HROZ HXS
  generalize Z2.heap.size = FB at *
  refine wp_region_held (S := (fun y : World => y.cell? ⟨FB, 0, none⟩ = some (.slice p3 xs.length c3))) (by kernel_rfl) ?_
  have HD := hide (show Below Y.heap.size Y { Y with drawn := Y.drawn + 1 } from (Below.refl _ _).drew)
  generalize ({ Y with drawn := Y.drawn + 1 } : World) = Z at HD ⊢
  have HSY := hide (show ∀ y, Below Y.heap.size Y y → (fun y : World => y.cell? ⟨FB, 0, none⟩ = some (.slice p3 xs.length c3)) y from fun y h => (HRF.out.below h HRF.out.lt).cell 0)
  have HRL := hide (show ∀ y, Below Y.heap.size Y y → RFld 0 y (.slice p3 xs.length c3) xs from fun y h => RFld.mono (OFld.rl (Keeps.go (SameIn.ofBelow h) HOY.out)) (Nat.zero_le _))
  obtain ⟨FP, hFP⟩ : ∃ FP : World → Prop, FP = (fun V => Row V (w.heap.size + 1) 54 [.slice p3 xs.length c3] ∧ Below w.heap.size w V ∧ OFld w.heap.size V.heap.size V (.slice p3 xs.length c3) xs ∧ Row V FB 54 [.slice p3 xs.length c3]) := ⟨_, rfl⟩
  have HF1 : Hid (∀ Z, Below Y.heap.size Y Z → FP (Z.setCell ⟨w.heap.size + 1, 0, none⟩ (.slice p3 xs.length c3))) := hide (by
    rw [hFP]
    intro Z h
    have hsz := h.size
    have hfl := HRF.out.lt
    have es : (Z.setCell ⟨w.heap.size + 1, 0, none⟩ (.slice p3 xs.length c3)).heap.size = Z.heap.size := by simp [World.setCell]
    refine ⟨(HROY.out.below h HROY.out.lt).set (j := 0) _, (HBW.out.trans ((HBY.out.trans (h.mono HBY.out.size)).mono HBW.out.size)).setCell (p := ⟨w.heap.size + 1, 0, none⟩) (by show w.heap.size ≤ w.heap.size + 1; omega) _, ?_, (HRF.out.below h HRF.out.lt).other (b := w.heap.size + 1) (j := 0) (by omega) _⟩
    rw [es]
    exact Keeps.wide (by omega : w.heap.size ≤ W.heap.size) (by omega) (Keeps.go (SameIn.set Z (.slice p3 xs.length c3) (by omega)) (Keeps.go (SameIn.ofBelow h) HOY.out)))
  have HF2 : Hid (∀ V V', FP V → Below V.heap.size V V' → FP V') := hide (by
    rw [hFP]
    rintro V V' ⟨a, b, c, d⟩ h
    exact ⟨a.below h a.lt, b.trans (h.mono b.size), Keeps.wide (Nat.le_refl _) h.size (Keeps.go (SameIn.ofBelow h) c), d.below h d.lt⟩)
  have HFS : Hid (∀ V, FP V → (fun y : World => y.cell? ⟨FB, 0, none⟩ = some (.slice p3 xs.length c3)) V) := hide (by rw [hFP]; exact fun V h => h.2.2.2.cell 0)
  have HRV : Hid (∀ V, FP V → RFld 0 V (.slice p3 xs.length c3) xs) := hide (by rw [hFP]; exact fun V h => RFld.mono (OFld.rl h.2.2.1) (Nat.zero_le _))
  have HF0 : Hid (∀ V, FP V → Row V (w.heap.size + 1) 54 [.slice p3 xs.length c3] ∧ Below w.heap.size w V ∧ OFld w.heap.size V.heap.size V (.slice p3 xs.length c3) xs) := hide (by rw [hFP]; exact fun V h => ⟨h.1, h.2.1, h.2.2.1⟩)
  clear hFP HOY HRF
  have HS := hide (HSY.out _ HD.out)
  cases b with
  | false =>
    refine wpAnyH_take (i := 0) (oi := _) (v := .agg #[.slice p3 xs.length c3]) rfl (by kernel_rfl) (by kernel_rfl) (by kernel_rfl) (fun _ _ _ h => h) (Or.inl ⟨by rfl, by intro w hSw; go_split_ands; go_simp⟩) HS.out ?_
    simp only [Act.put, List.getElem_toArray, List.getElem_cons_zero, List.setIfInBounds_toArray, List.set_cons_zero, List.set_cons_succ]
    refine wpAnyH_take (i := 1) (oi := _) (v := .bool false) rfl (by kernel_rfl) (by kernel_rfl) (by kernel_rfl) (fun _ _ _ h => h) (Or.inl ⟨by rfl, by intro w hSw; go_split_ands; go_simp⟩) HS.out ?_
    simp only [Act.put, List.getElem_toArray, List.getElem_cons_zero, List.getElem_cons_succ, List.setIfInBounds_toArray, List.set_cons_zero, List.set_cons_succ]
    refine wpAnyH_take (i := 2) (oi := _) (v := .bool false) rfl (by kernel_rfl) (by kernel_rfl) (by kernel_rfl) (fun _ _ _ h => h) (Or.inl ⟨by rfl, by intro w hSw; go_split_ands; go_simp⟩) HS.out ?_
    simp only [Act.put, List.getElem_toArray, List.getElem_cons_zero, List.getElem_cons_succ, List.setIfInBounds_toArray, List.set_cons_zero, List.set_cons_succ]
    refine wpAnyH_take (i := 3) (oi := _) (v := undef) rfl (by kernel_rfl) (by kernel_rfl) (by kernel_rfl) (fun _ _ _ h => h) (Or.inr ⟨by rfl, rfl⟩) HS.out ?_
    simp only [Act.put, List.getElem_toArray, List.getElem_cons_zero, List.getElem_cons_succ, List.setIfInBounds_toArray, List.set_cons_zero, List.set_cons_succ]
    refine wpAnyH_take (i := 4) (oi := _) (v := undef) rfl (by kernel_rfl) (by kernel_rfl) (by kernel_rfl) (fun _ _ _ h => h) (Or.inr ⟨by rfl, rfl⟩) HS.out ?_
    simp only [Act.put, List.getElem_toArray, List.getElem_cons_zero, List.getElem_cons_succ, List.setIfInBounds_toArray, List.set_cons_zero, List.set_cons_succ]
    refine wpAnyH_take (i := 5) (oi := _) (v := undef) rfl (by kernel_rfl) (by kernel_rfl) (by kernel_rfl) (fun _ _ _ h => h) (Or.inr ⟨by rfl, rfl⟩) HS.out ?_
    simp only [Act.put, List.getElem_toArray, List.getElem_cons_zero, List.getElem_cons_succ, List.setIfInBounds_toArray, List.set_cons_zero, List.set_cons_succ]
    refine wpAnyH_take (i := 6) (oi := _) (v := .bool false) rfl (by kernel_rfl) (by kernel_rfl) (by kernel_rfl) (fun _ _ _ h => h) (Or.inl ⟨by rfl, by intro w hSw; go_split_ands; go_simp⟩) HS.out ?_
    simp only [Act.put, List.getElem_toArray, List.getElem_cons_zero, List.getElem_cons_succ, List.setIfInBounds_toArray, List.set_cons_zero, List.set_cons_succ]
    refine wpAnyH_ready (rs := [7]) (by kernel_rfl) (by simp) ?_
    refine AllReadyH.cons (o := _) rfl (fun K hK => ?_) AllReadyH.nil
    have c5 : Z.cell? ⟨w.heap.size + 1, 0, none⟩ = some (.slice none 0 0) := (HROY.out.below HD.out HROY.out.lt).cell 0
    have f5 := (HROY.out.below HD.out HROY.out.lt).free 0
    go_simp
    have HFP := hide (HF1.out _ HD.out)
    obtain ⟨V, hV⟩ : ∃ V, V = Z.setCell ⟨w.heap.size + 1, 0, none⟩ (.slice p3 xs.length c3) := ⟨_, rfl⟩
    rw [← hV] at HFP ⊢
    clear hV
    refine hK.out _ _ (HFS.out _ HFP.out) (fun _ => ?_)
    clear hK K HS c5 f5
    have HS := hide (HFS.out _ HFP.out)
    refine wpAnyH_take (i := 8) (oi := _) (v := .bool false) rfl (by kernel_rfl) (by kernel_rfl) (by kernel_rfl) (fun _ _ _ h => h) (Or.inl ⟨by rfl, by intro w hSw; go_split_ands; go_simp⟩) HS.out ?_
    simp only [Act.put, List.getElem_toArray, List.getElem_cons_zero, List.getElem_cons_succ, List.setIfInBounds_toArray, List.set_cons_zero, List.set_cons_succ]
    refine wpAnyH_done (by kernel_rfl) ?_ _
    obtain ⟨e1, e2, e3⟩ := HF0.out _ HFP.out
    have HE2 := hide e2
    have HE3 := hide e3
    have v0 : V.cell? ⟨w.heap.size + 1, 0, none⟩ = some (.slice p3 xs.length c3) := e1.cell 0
    clear e1 e2 e3
    go_wp2
    exact bodyPost_ret (v := .tuple #[.agg #[.slice p3 xs.length c3], .bool false]) (by simp [results, Tryz.results65, go_sem, v0]) rfl ⟨⟨_, false, xs, rfl, HE3.out, by rw [HRB.out]; rfl⟩, HE2.out⟩
  | true =>
    refine wpAnyH_take (i := 0) (oi := _) (v := .agg #[.slice p3 xs.length c3]) rfl (by kernel_rfl) (by kernel_rfl) (by kernel_rfl) (fun _ _ _ h => h) (Or.inl ⟨by rfl, by intro w hSw; go_split_ands; go_simp⟩) HS.out ?_
    simp only [Act.put, List.getElem_toArray, List.getElem_cons_zero, List.setIfInBounds_toArray, List.set_cons_zero, List.set_cons_succ]
    refine wpAnyH_take (i := 1) (oi := _) (v := .bool true) rfl (by kernel_rfl) (by kernel_rfl) (by kernel_rfl) (fun _ _ _ h => h) (Or.inl ⟨by rfl, by intro w hSw; go_split_ands; go_simp⟩) HS.out ?_
    simp only [Act.put, List.getElem_toArray, List.getElem_cons_zero, List.getElem_cons_succ, List.setIfInBounds_toArray, List.set_cons_zero, List.set_cons_succ]
    refine wpAnyH_take (i := 2) (oi := _) (v := .bool true) rfl (by kernel_rfl) (by kernel_rfl) (by kernel_rfl) (fun _ _ _ h => h) (Or.inl ⟨by rfl, by intro w hSw; go_split_ands; go_simp⟩) HS.out ?_
    simp only [Act.put, List.getElem_toArray, List.getElem_cons_zero, List.getElem_cons_succ, List.setIfInBounds_toArray, List.set_cons_zero, List.set_cons_succ]
    refine wpAnyH_take (i := 3) (oi := _) (v := .agg #[.slice p3 xs.length c3]) rfl (by kernel_rfl) (by kernel_rfl) (by kernel_rfl) (fun _ _ _ h => h) (Or.inl ⟨by rfl, by intro w hSw; go_split_ands; go_simp⟩) HS.out ?_
    simp only [Act.put, List.getElem_toArray, List.getElem_cons_zero, List.getElem_cons_succ, List.setIfInBounds_toArray, List.set_cons_zero, List.set_cons_succ]
    refine wpAnyH_take (i := 4) (oi := _) (v := .iface 54 (.agg #[.slice p3 xs.length c3])) rfl (by kernel_rfl) (by kernel_rfl) (by kernel_rfl) (fun _ _ _ h => h) (Or.inl ⟨by rfl, by intro w hSw; go_split_ands; go_simp⟩) HS.out ?_
    simp only [Act.put, List.getElem_toArray, List.getElem_cons_zero, List.getElem_cons_succ, List.setIfInBounds_toArray, List.set_cons_zero, List.set_cons_succ]
    obtain ⟨hz1, hz2, hz3⟩ := HSZ.out xs (by rw [HRB.out]; rfl)
    have HZ1 := hide hz1
    have HZ2 := hide hz2
    have HZ3 := hide hz3
    clear hz1 hz2 hz3
    refine wpAnyH_ready (rs := [5]) (by kernel_rfl) (by simp) ?_
    refine AllReadyH.cons (o := _) rfl (fun K hK => ?_) AllReadyH.nil
    go_simp
    refine (rightField _ xs _ HZ1.out HZ2.out HZ3.out ⟨_, rfl, HRL.out _ HD.out⟩).mono ?_
    rintro e Z1 ⟨rfl, hb1⟩
    have HD1 := hide (HD.out.trans (hb1.mono HD.out.size))
    clear hb1
    refine hK.out _ _ (HSY.out _ HD1.out) (fun _ => ?_)
    clear hK K HS
    have HS := hide (HSY.out _ HD1.out)
    refine wpAnyH_take (i := 6) (oi := _) (v := .bool (fldB xs)) rfl (by kernel_rfl) (by kernel_rfl) (by kernel_rfl) (fun _ _ _ h => h) (Or.inl ⟨by rfl, by intro w hSw; go_split_ands; go_simp⟩) HS.out ?_
    simp only [Act.put, List.getElem_toArray, List.getElem_cons_zero, List.getElem_cons_succ, List.setIfInBounds_toArray, List.set_cons_zero, List.set_cons_succ]
    refine wpAnyH_ready (rs := [7]) (by kernel_rfl) (by simp) ?_
    refine AllReadyH.cons (o := _) rfl (fun K hK => ?_) AllReadyH.nil
    have c5 : Z1.cell? ⟨w.heap.size + 1, 0, none⟩ = some (.slice none 0 0) := (HROY.out.below HD1.out HROY.out.lt).cell 0
    have f5 := (HROY.out.below HD1.out HROY.out.lt).free 0
    go_simp
    have HFP := hide (HF1.out _ HD1.out)
    obtain ⟨V, hV⟩ : ∃ V, V = Z1.setCell ⟨w.heap.size + 1, 0, none⟩ (.slice p3 xs.length c3) := ⟨_, rfl⟩
    rw [← hV] at HFP ⊢
    clear hV
    refine hK.out _ _ (HFS.out _ HFP.out) (fun _ => ?_)
    clear hK K HS c5 f5
    have HS := hide (HFS.out _ HFP.out)
    refine wpAnyH_take (i := 8) (oi := _) (v := .bool (fldB xs)) rfl (by kernel_rfl) (by kernel_rfl) (by kernel_rfl) (fun _ _ _ h => h) (Or.inl ⟨by rfl, by intro w hSw; go_split_ands; go_simp⟩) HS.out ?_
    simp only [Act.put, List.getElem_toArray, List.getElem_cons_zero, List.getElem_cons_succ, List.setIfInBounds_toArray, List.set_cons_zero, List.set_cons_succ]
    refine wpAnyH_done (by kernel_rfl) ?_ _
    obtain ⟨e1, e2, e3⟩ := HF0.out _ HFP.out
    have HE2 := hide e2
    have HE3 := hide e3
    have v0 : V.cell? ⟨w.heap.size + 1, 0, none⟩ = some (.slice p3 xs.length c3) := e1.cell 0
    clear e1 e2 e3
    go_wp2
    exact bodyPost_ret (v := .tuple #[.agg #[.slice p3 xs.length c3], .bool (fldB xs)]) (by simp [results, Tryz.results65, go_sem, v0]) rfl ⟨⟨_, (fldB xs), xs, rfl, HE3.out, by rw [HRB.out]; rfl⟩, HE2.out⟩
end Go.Proofs.YtckcfjibiidafaaGreat
