/- The program's partRight and FieldRight. -/
import Derived.Test.YtfjjbofnfigehaaGreatDoorXG17VAsk
import Derived.Test.YtfjjbofnfigehaaGreatDoorXG6VKind
import Derived.Test.YtfjjbofnfigehaaGreatDoorXG7VVer
import Derived.Laws.CopyOwn
import Derived.Laws.Tables
namespace Go.Proofs.YtfjjbofnfigehaaGreatDoor
open Go.RowKit
theorem right_many {α : Type} {f emp : α → Bool} {most : Nat} {xs : List α} (h : most < xs.length) : rightB f emp most xs = false := by
  have : ¬ xs.length ≤ most := by omega
  simp [rightB, this]
theorem right_end {α : Type} {f emp : α → Bool} {most : Nat} {xs : List α} (h : endEmpty emp xs = true) : rightB f emp most xs = false := by simp [rightB, h]
theorem right_yes {α : Type} {f emp : α → Bool} {most : Nat} {xs : List α} (h1 : xs.length ≤ most) (h2 : endEmpty emp xs = false) (h : ∀ k (hk : k < xs.length), f xs[k] = true) : rightB f emp most xs = true := by
  rw [right_all h]
  simp [h1, h2]

set_option maxHeartbeats 1000000 in
theorem subRight_any (s : ByteArray) (w : World) :
    Calls Tryz.prog 45 #[.string s] w fun e w' => e = .returned (.bool (subB s)) ∧ Below w.heap.size w w' := by
  by_cases h6 : (s.size : Int) ≤ 60
  · have HS := hide (show subB s = plainB s by simp [subB, h6])
    go_enter Tryz.func45, Tryz.ntmps45
    go_wp2_with fail
    refine (allPlain_any s _).mono ?_
    rintro e w1 ⟨rfl, hb1⟩
    go_wp2
    go_ret
    exact ⟨ret_boolF HS.out.symm, hb1⟩
  · have HS := hide (show subB s = false by simp [subB, h6])
    go_enter Tryz.func45, Tryz.ntmps45
    go_wp2
    go_ret
    exact ⟨ret_boolF HS.out.symm, Below.refl _ _⟩

set_option maxHeartbeats 1000000 in
set_option maxRecDepth 100000 in
theorem rightSub (u : Value) (x : ByteArray) (w : World) (hr : PSub w u x) :
    Calls Tryz.prog 21 #[u] w fun e w' => e = .returned (.bool (subB x)) ∧ Below w.heap.size w w' := by
  obtain ⟨rfl, _⟩ := hr
  have a1 := Tryz.assubPartsubPart
  go_enter Tryz.func21, Tryz.ntmps21
  go_wp2_with fail
  refine (subRight_any x _).mono ?_
  rintro e w1 ⟨rfl, hb1⟩
  go_wp2
  go_ret
  exact ⟨rfl, hb1⟩

set_option maxHeartbeats 4000000 in
set_option maxRecDepth 100000 in
theorem rightComp (u : Value) (x : List (ByteArray)) (w : World) (hn : x.length ≤ 1048576) (hr : PComp w u x) :
    Calls Tryz.prog 21 #[u] w fun e w' => e = .returned (.bool (compB x)) ∧ Below w.heap.size w w' := by
  obtain ⟨v, rfl, hv⟩ := hr
  have HV := hide hv
  obtain ⟨vp, vc, rfl⟩ := hv.isSlice
  clear hv
  obtain ⟨R, hR⟩ : ∃ R, R = compB x := ⟨_, rfl⟩
  rw [← hR]
  have HR := hide hR
  clear hR
  have a1 := Tryz.asCompsubPart
  have a2 := Tryz.innerComp
  go_enter Tryz.func21, Tryz.ntmps21
  go_wp2_with fail
  refine (limitsComp _ _).mono ?_
  rintro e w1 ⟨rfl, rfl⟩
  go_wp2_with fail
  refine (innerComp_any _ x _ hn HV.out).mono ?_
  rintro e w1 ⟨p1, c1, rfl, hr1, hb1⟩
  have HB1 := hide hb1
  have HL := hide hr1
  clear hb1 hr1
  by_cases h5 : 5 < (x.length : Int)
  · have HN := hide (show R = false by rw [HR.out]; exact right_many (by omega))
    go_wp2
    go_ret
    exact ⟨ret_boolF HN.out.symm, HB1.out⟩
  go_wp2_with fail
  refine (leaveOut_any PSub empS x (fun X u i h hu => emptySub u _ X hu) _ _ HL.out).mono ?_
  rintro e w2 ⟨⟨p2, c2, k2, rfl, hk2, hiff⟩, hb2⟩
  have HB2 := hide (HB1.out.trans (hb2.mono HB1.out.size))
  have HL2 := hide (HL.out.below hb2)
  have HI := hide hiff
  clear hb2 hiff
  by_cases hke : k2 = x.length
  · have HEE := hide (HI.out.1 hke)
    subst hke
    have hlm : x.length ≤ 5 := by omega
    obtain ⟨q, cap, hqe, h1, h2, h4⟩ := HL2.out
    have H4 := hide h4
    simp only [Value.slice.injEq, true_and] at hqe
    obtain ⟨rfl, rfl⟩ := hqe
    clear h4
    go_wp2
    go_loopw [39] (fun i wr => ∃ (X : World) (k : Nat), X = wr ∧ k ≤ x.length ∧ i = .int .i64 k ∧ Hid (Below w2.heap.size w2 X) ∧ Hid (∀ j (hj : j < x.length), j < k → subB x[j] = true)) (fun i _ => x.length - (intOf i).toNat)
    case atStart => exact ⟨_, 0, rfl, Nat.zero_le _, rfl, Below.refl _ _, fun j _ h => absurd h (by omega)⟩
    case round =>
      obtain ⟨X, k, rfl, hk, rfl, HB, HA⟩ := hrel
      by_cases hlt : k < x.length
      · obtain ⟨g, off, hp, hg, _, hc⟩ := H4.out (by omega)
        subst hp
        obtain ⟨u, hu, hru⟩ := hc k hlt
        have hck : X.cell? ⟨g, off + k, none⟩ = some u := by rw [HB.out.cell (p := ⟨g, off + k, none⟩) hg]; exact hu
        have HRU : Hid (PSub X u x[k]) := Lasts.go (B := 0) (Same.of HB.out) hru
        clear hu hru hc
        go_wp2_with fail
        refine (rightSub u (x[k]'hlt) _ HRU.out).mono ?_
        rintro e w3 ⟨rfl, hb3⟩
        have HB3 := hide (HB.out.trans (hb3.mono HB.out.size))
        clear hb3
        cases ho : subB (x[k]'hlt)
        · have HN := hide (show R = false by rw [HR.out]; exact right_no k hlt ho)
          go_wp2
          go_ret
          exact ⟨ret_boolF HN.out.symm, HB2.out.trans (HB3.out.mono HB2.out.size)⟩
        · have HA2 := hide (all_succ HA.out (fun _ => ho))
          go_wp2
          go_roundw
          case rel => exact ⟨_, k + 1, rfl, by omega, by go_num, HB3, HA2⟩
          case measure => simp [intOf]; omega
      · have HY := hide (show R = true by rw [HR.out]; exact right_yes hlm HEE.out (fun j hj => HA.out j hj (by omega)))
        go_wp2
        go_ret
        exact ⟨ret_boolF HY.out.symm, HB2.out.trans (HB.out.mono HB2.out.size)⟩
  · have HN := hide (show R = false by
      rw [HR.out]
      refine right_end ?_
      cases h : endEmpty empS x
      · exact absurd (HI.out.2 h) hke
      · rfl)
    have hne : ((x.length : Int) != (k2 : Int)) = true := by simp; omega
    go_wp2
    go_ret
    exact ⟨ret_boolF HN.out.symm, HB2.out⟩

set_option maxHeartbeats 4000000 in
set_option maxRecDepth 100000 in
theorem rightRep (u : Value) (x : List (List ByteArray)) (w : World) (hn : x.length ≤ 1048576) (hm : ∀ i (h : i < x.length), x[i].length ≤ 1048576) (hr : PRep w u x) :
    Calls Tryz.prog 21 #[u] w fun e w' => e = .returned (.bool (repB x)) ∧ Below w.heap.size w w' := by
  obtain ⟨v, rfl, hv⟩ := hr
  have HV := hide hv
  obtain ⟨vp, vc, rfl⟩ := hv.isSlice
  clear hv
  have HM := hide hm
  clear hm
  obtain ⟨R, hR⟩ : ∃ R, R = repB x := ⟨_, rfl⟩
  rw [← hR]
  have HR := hide hR
  clear hR
  have a1 := Tryz.asRepsubPart
  have a2 := Tryz.innerRep
  go_enter Tryz.func21, Tryz.ntmps21
  go_wp2_with fail
  refine (limitsRep _ _).mono ?_
  rintro e w1 ⟨rfl, rfl⟩
  go_wp2_with fail
  refine (innerRep_any _ x _ hn HV.out).mono ?_
  rintro e w1 ⟨p1, c1, rfl, hr1, hb1⟩
  have HB1 := hide hb1
  have HL := hide hr1
  clear hb1 hr1
  by_cases h5 : 10 < (x.length : Int)
  · have HN := hide (show R = false by rw [HR.out]; exact right_many (by omega))
    go_wp2
    go_ret
    exact ⟨ret_boolF HN.out.symm, HB1.out⟩
  go_wp2_with fail
  refine (leaveOut_any PComp empL x (fun X u i h hu => emptyComp u _ X (HM.out i h) hu) _ _ HL.out).mono ?_
  rintro e w2 ⟨⟨p2, c2, k2, rfl, hk2, hiff⟩, hb2⟩
  have HB2 := hide (HB1.out.trans (hb2.mono HB1.out.size))
  have HL2 := hide (HL.out.below hb2)
  have HI := hide hiff
  clear hb2 hiff
  by_cases hke : k2 = x.length
  · have HEE := hide (HI.out.1 hke)
    subst hke
    have hlm : x.length ≤ 10 := by omega
    obtain ⟨q, cap, hqe, h1, h2, h4⟩ := HL2.out
    have H4 := hide h4
    simp only [Value.slice.injEq, true_and] at hqe
    obtain ⟨rfl, rfl⟩ := hqe
    clear h4
    go_wp2
    go_loopw [39] (fun i wr => ∃ (X : World) (k : Nat), X = wr ∧ k ≤ x.length ∧ i = .int .i64 k ∧ Hid (Below w2.heap.size w2 X) ∧ Hid (∀ j (hj : j < x.length), j < k → compB x[j] = true)) (fun i _ => x.length - (intOf i).toNat)
    case atStart => exact ⟨_, 0, rfl, Nat.zero_le _, rfl, Below.refl _ _, fun j _ h => absurd h (by omega)⟩
    case round =>
      obtain ⟨X, k, rfl, hk, rfl, HB, HA⟩ := hrel
      by_cases hlt : k < x.length
      · obtain ⟨g, off, hp, hg, _, hc⟩ := H4.out (by omega)
        subst hp
        obtain ⟨u, hu, hru⟩ := hc k hlt
        have hck : X.cell? ⟨g, off + k, none⟩ = some u := by rw [HB.out.cell (p := ⟨g, off + k, none⟩) hg]; exact hu
        have HRU : Hid (PComp X u x[k]) := Lasts.go (B := 0) (Same.of HB.out) hru
        clear hu hru hc
        go_wp2_with fail
        refine (rightComp u (x[k]'hlt) _ (HM.out k hlt) HRU.out).mono ?_
        rintro e w3 ⟨rfl, hb3⟩
        have HB3 := hide (HB.out.trans (hb3.mono HB.out.size))
        clear hb3
        cases ho : compB (x[k]'hlt)
        · have HN := hide (show R = false by rw [HR.out]; exact right_no k hlt ho)
          go_wp2
          go_ret
          exact ⟨ret_boolF HN.out.symm, HB2.out.trans (HB3.out.mono HB2.out.size)⟩
        · have HA2 := hide (all_succ HA.out (fun _ => ho))
          go_wp2
          go_roundw
          case rel => exact ⟨_, k + 1, rfl, by omega, by go_num, HB3, HA2⟩
          case measure => simp [intOf]; omega
      · have HY := hide (show R = true by rw [HR.out]; exact right_yes hlm HEE.out (fun j hj => HA.out j hj (by omega)))
        go_wp2
        go_ret
        exact ⟨ret_boolF HY.out.symm, HB2.out.trans (HB.out.mono HB2.out.size)⟩
  · have HN := hide (show R = false by
      rw [HR.out]
      refine right_end ?_
      cases h : endEmpty empL x
      · exact absurd (HI.out.2 h) hke
      · rfl)
    have hne : ((x.length : Int) != (k2 : Int)) = true := by simp; omega
    go_wp2
    go_ret
    exact ⟨ret_boolF HN.out.symm, HB2.out⟩

set_option maxHeartbeats 4000000 in
set_option maxRecDepth 100000 in
theorem rightField (u : Value) (x : List (List (List ByteArray))) (w : World) (hn : x.length ≤ 1048576) (hm : ∀ i (h : i < x.length), x[i].length ≤ 1048576) (hm2 : ∀ i (h : i < x.length) j (hj : j < x[i].length), x[i][j].length ≤ 1048576) (hr : PField w u x) :
    Calls Tryz.prog 21 #[u] w fun e w' => e = .returned (.bool (fldB x)) ∧ Below w.heap.size w w' := by
  obtain ⟨v, rfl, hv⟩ := hr
  have HV := hide hv
  obtain ⟨vp, vc, rfl⟩ := hv.isSlice
  clear hv
  have HM := hide hm
  have HM2 := hide hm2
  clear hm hm2
  obtain ⟨R, hR⟩ : ∃ R, R = fldB x := ⟨_, rfl⟩
  rw [← hR]
  have HR := hide hR
  clear hR
  have a1 := Tryz.asFieldsubPart
  have a2 := Tryz.innerField
  go_enter Tryz.func21, Tryz.ntmps21
  go_wp2_with fail
  refine (limitsField _ _).mono ?_
  rintro e w1 ⟨rfl, rfl⟩
  go_wp2_with fail
  refine (innerField_any _ x _ hn HV.out).mono ?_
  rintro e w1 ⟨p1, c1, rfl, hr1, hb1⟩
  have HB1 := hide hb1
  have HL := hide hr1
  clear hb1 hr1
  by_cases h5 : 5 < (x.length : Int)
  · have HN := hide (show R = false by rw [HR.out]; exact right_many (by omega))
    go_wp2
    go_ret
    exact ⟨ret_boolF HN.out.symm, HB1.out⟩
  go_wp2_with fail
  refine (leaveOut_any PRep empL x (fun X u i h hu => emptyRep u _ X (HM.out i h) hu) _ _ HL.out).mono ?_
  rintro e w2 ⟨⟨p2, c2, k2, rfl, hk2, hiff⟩, hb2⟩
  have HB2 := hide (HB1.out.trans (hb2.mono HB1.out.size))
  have HL2 := hide (HL.out.below hb2)
  have HI := hide hiff
  clear hb2 hiff
  by_cases hke : k2 = x.length
  · have HEE := hide (HI.out.1 hke)
    subst hke
    have hlm : x.length ≤ 5 := by omega
    obtain ⟨q, cap, hqe, h1, h2, h4⟩ := HL2.out
    have H4 := hide h4
    simp only [Value.slice.injEq, true_and] at hqe
    obtain ⟨rfl, rfl⟩ := hqe
    clear h4
    go_wp2
    go_loopw [39] (fun i wr => ∃ (X : World) (k : Nat), X = wr ∧ k ≤ x.length ∧ i = .int .i64 k ∧ Hid (Below w2.heap.size w2 X) ∧ Hid (∀ j (hj : j < x.length), j < k → repB x[j] = true)) (fun i _ => x.length - (intOf i).toNat)
    case atStart => exact ⟨_, 0, rfl, Nat.zero_le _, rfl, Below.refl _ _, fun j _ h => absurd h (by omega)⟩
    case round =>
      obtain ⟨X, k, rfl, hk, rfl, HB, HA⟩ := hrel
      by_cases hlt : k < x.length
      · obtain ⟨g, off, hp, hg, _, hc⟩ := H4.out (by omega)
        subst hp
        obtain ⟨u, hu, hru⟩ := hc k hlt
        have hck : X.cell? ⟨g, off + k, none⟩ = some u := by rw [HB.out.cell (p := ⟨g, off + k, none⟩) hg]; exact hu
        have HRU : Hid (PRep X u x[k]) := Lasts.go (B := 0) (Same.of HB.out) hru
        clear hu hru hc
        go_wp2_with fail
        refine (rightRep u (x[k]'hlt) _ (HM.out k hlt) (HM2.out k hlt) HRU.out).mono ?_
        rintro e w3 ⟨rfl, hb3⟩
        have HB3 := hide (HB.out.trans (hb3.mono HB.out.size))
        clear hb3
        cases ho : repB (x[k]'hlt)
        · have HN := hide (show R = false by rw [HR.out]; exact right_no k hlt ho)
          go_wp2
          go_ret
          exact ⟨ret_boolF HN.out.symm, HB2.out.trans (HB3.out.mono HB2.out.size)⟩
        · have HA2 := hide (all_succ HA.out (fun _ => ho))
          go_wp2
          go_roundw
          case rel => exact ⟨_, k + 1, rfl, by omega, by go_num, HB3, HA2⟩
          case measure => simp [intOf]; omega
      · have HY := hide (show R = true by rw [HR.out]; exact right_yes hlm HEE.out (fun j hj => HA.out j hj (by omega)))
        go_wp2
        go_ret
        exact ⟨ret_boolF HY.out.symm, HB2.out.trans (HB.out.mono HB2.out.size)⟩
  · have HN := hide (show R = false by
      rw [HR.out]
      refine right_end ?_
      cases h : endEmpty empL x
      · exact absurd (HI.out.2 h) hke
      · rfl)
    have hne : ((x.length : Int) != (k2 : Int)) = true := by simp; omega
    go_wp2
    go_ret
    exact ⟨ret_boolF HN.out.symm, HB2.out⟩

set_option maxHeartbeats 1000000 in
theorem implFieldRight_any (u : Value) (x : List (List (List ByteArray))) (w : World) (hn : x.length ≤ 1048576) (hm : ∀ i (h : i < x.length), x[i].length ≤ 1048576) (hm2 : ∀ i (h : i < x.length) j (hj : j < x[i].length), x[i][j].length ≤ 1048576) (hr : RFld 0 w u x) :
    Calls Tryz.prog 29 #[.agg #[u]] w fun e w' => e = .returned (.bool (fldB x)) ∧ Below w.heap.size w w' := by
  have HR := hide hr
  obtain ⟨p, c, rfl⟩ := hr.isSlice
  have HM := hide hm
  have HM2 := hide hm2
  clear hr hm hm2
  go_enter Tryz.func29, Tryz.ntmps29
  go_wp2_with fail
  refine (rightField _ x _ hn HM.out HM2.out ⟨_, rfl, HR.out.below ((Below.refl _ _).alloc (Nat.le_refl _) _)⟩).mono ?_
  rintro e w1 ⟨rfl, hb1⟩
  have HB := hide (((Below.refl w.heap.size w).alloc (Nat.le_refl _) (.cells #[.slice p x.length c] 40)).trans (hb1.mono (by simp)))
  clear hb1
  go_wp2
  go_ret
  exact ⟨rfl, HB.out⟩
end Go.Proofs.YtfjjbofnfigehaaGreatDoor
/- The program's list of types and what fits them; RepFits (kindFits is a premise here). -/
namespace Go.Proofs.YtfjjbofnfigehaaGreatDoor
open Go.RowKit
def askFns : List Nat := [48, 49, 50, 51, 52, 53, 54, 55, 56]
theorem askFns_len : askFns.length = 9 := rfl
def askRow : List Value := [.int .i64 1, .func (.func 48) #[] #[], .int .i64 2, .func (.func 49) #[] #[], .int .i64 3, .func (.func 50) #[] #[], .int .i64 4, .func (.func 51) #[] #[], .int .i64 5, .func (.func 52) #[] #[], .int .i64 6, .func (.func 53) #[] #[], .int .i64 7, .func (.func 54) #[] #[], .int .i64 8, .func (.func 55) #[] #[], .int .i64 9, .func (.func 56) #[] #[]]
theorem askRow_at : ∀ j, j < 9 → askRow[j * 2]? = some (.int .i64 ((j : Int) + 1)) ∧ ∀ (h : j < askFns.length), askRow[j * 2 + 1]? = some (.func (.func askFns[j]) #[] #[]) := by
  intro j hj
  rcases (by omega : j = 0 ∨ j = 1 ∨ j = 2 ∨ j = 3 ∨ j = 4 ∨ j = 5 ∨ j = 6 ∨ j = 7 ∨ j = 8) with rfl | rfl | rfl | rfl | rfl | rfl | rfl | rfl | rfl
  all_goals exact ⟨rfl, fun _ => rfl⟩
set_option maxHeartbeats 1000000 in
set_option maxRecDepth 100000 in
theorem typeAsks_any (w : World) :
    Calls Tryz.prog 22 #[] w fun e w' => e = .returned (.slice (some ⟨w.heap.size, 0, none⟩) 9 9) ∧ Row w' w.heap.size 53 askRow ∧ Below w.heap.size w w' := by
  have HR := hide (row_new w askRow 53)
  have HB := hide ((Below.refl w.heap.size w).alloc (Nat.le_refl _) (.cells askRow.toArray 53))
  go_enter Tryz.func22, Tryz.ntmps22
  go_wp2
  go_ret
  exact ⟨rfl, HR.out, HB.out⟩
theorem sole_size {x : List (List ByteArray)} (h : repB x = true) (hs : soleL 1 x = true) : 1 ≤ (oneT x).size := by
  match x, hs, h with
  | [], hs, _ => simp [soleL] at hs
  | [c], hs, h =>
    have hc : c.length = 1 := by simpa [soleL] using hs
    match c, hc, hs, h with
    | [t], _, hs, h =>
      have ht : empS t = false := by
        simp [repB, compB, rightB, endEmpty] at h
        simpa using h.1.2
      have ho : oneT [[t]] = t := by simp [oneT, hs, headT]
      rw [ho]
      have h0 : ¬ t.size = 0 := of_decide_eq_false ht
      omega
  | a :: b :: r, hs, _ => simp [soleL] at hs
theorem asks_any (v : Int) (u : Value) (x : List (List ByteArray)) (w : World) (hn : x.length ≤ 1048576) (he : ErrsV w) (h1 : 1 ≤ v) (h3 : v ≤ 3) (hx : repB x = true)
    (hk : Calls Tryz.prog 55 #[.int .i64 v, .agg #[u]] w fun e w' => e = .returned (.bool (fitsL v 8 x)) ∧ Below w.heap.size w w')
    (hr : RRep 0 w u x) (j : Nat) (hj : j < askFns.length) :
    Calls Tryz.prog askFns[j] #[.int .i64 v, .agg #[u]] w fun e w' => e = .returned (.bool (fitsL v ((j : Int) + 1) x)) ∧ Below w.heap.size w w' := by
  rcases (by have : j < 9 := hj; omega : j = 0 ∨ j = 1 ∨ j = 2 ∨ j = 3 ∨ j = 4 ∨ j = 5 ∨ j = 6 ∨ j = 7 ∨ j = 8) with rfl | rfl | rfl | rfl | rfl | rfl | rfl | rfl | rfl
  · exact textFits_any v u x w hn hr
  · exact numberFits_any v u x w hn hr
  · exact dayFits_any v u x w hn he hr
  · exact timeFits_any v u x w hn he hr
  · exact codeFits_any v u x w hn h1 (sole_size hx) hr
  · exact nameFits_any v u x w hn hr
  · exact personFits_any v u x w hn hr
  · exact hk
  · refine (codedFits_any v u x w hn hr).mono ?_
    rintro e w1 ⟨rfl, hb⟩
    refine ⟨?_, hb⟩
    congr 2
    show _ = if v < 3 then compsL 6 0 x else compsL 9 0 x
    by_cases hv : v = 3
    · rw [if_pos hv, if_neg (by omega)]
    · rw [if_neg hv, if_pos (by omega)]
theorem wpList_store_rowA {P : Program} {ops : Array Oper} {rest : List Oper} {o : Oper} {a : Act} {w : World} {Q : Exit → Act → World → Prop} (hgd : o.guard = none) (ty : TypeId) (x y : Operand) (ho : o.op = .store ty x y)
    (g : Nat) (cells : Array Value) (hx : a.eval x = .pointer (some ⟨g, 0, none⟩)) (hy : a.eval y = .agg cells) (t : TypeId) (old : Array Value) (hg : w.heap[g]? = some (.cells old t (0, 0))) (hi : (P.info? ty).map (·.size) = some cells.size)
    (hold : old.size = cells.size) (h1 : cells.all (·.oneCell') = true) (h : wpList P ops Q rest (a.put o.dst undef) (w.setRow g cells)) : wpList P ops Q (o :: rest) a w :=
  wpList_plain hgd fun _ hK => wp_store_row ty x y ho g cells hx hy t old hg hi hold h1 (hK _ _ h)
theorem fits_none (v k : Int) (x : List (List ByteArray)) (h : ∀ j : Nat, j < 9 → (j : Int) + 1 ≠ k) : fitsL v k x = false := by
  have a := h 0 (by omega); have b := h 1 (by omega); have c := h 2 (by omega); have d := h 3 (by omega); have e := h 4 (by omega)
  have f := h 5 (by omega); have g := h 6 (by omega); have i := h 7 (by omega); have l := h 8 (by omega)
  unfold fitsL
  rw [if_neg (by omega), if_neg (by omega), if_neg (by omega), if_neg (by omega), if_neg (by omega), if_neg (by omega), if_neg (by omega), if_neg (by omega), if_neg (by omega)]
def repFitsB (v k : Int) (x : List (List ByteArray)) : Bool := verB v && repB x && fitsL v k x
set_option maxHeartbeats 4000000 in
set_option maxRecDepth 100000 in
theorem implRepFits_any (v k : Int) (u : Value) (x : List (List ByteArray)) (w : World) (hn : x.length ≤ 1048576) (hm : ∀ i (h : i < x.length), x[i].length ≤ 1048576) (he : ErrsV w)
    (hk : ∀ (X : World), 1 ≤ v → v ≤ 3 → RRep 0 X u x → Calls Tryz.prog 55 #[.int .i64 v, .agg #[u]] X fun e w' => e = .returned (.bool (fitsL v 8 x)) ∧ Below X.heap.size X w')
    (hr : RRep 0 w u x) :
    Calls Tryz.prog 8 #[.int .i64 v, .int .i64 k, .agg #[u]] w fun e w' => e = .returned (.bool (repFitsB v k x)) ∧ Below w.heap.size w w' := by
  have HB0 := hideF ((Below.refl w.heap.size w).alloc (Nat.le_refl _) (.cells #[u] 29))
  have HRX := hideF (hr.below ((Below.refl w.heap.size w).alloc (Nat.le_refl _) (.cells #[u] 29)))
  have HK := hideF hk
  have HE := hideF he
  clear hk he
  obtain ⟨p, cap, rfl⟩ := hr.isSlice
  have r0 := repCell w (.slice p x.length cap)
  obtain ⟨R, hR⟩ : ∃ R, R = repFitsB v k x := ⟨_, rfl⟩
  rw [← hR]
  have HR := hideF hR
  clear hR hr
  go_enter Tryz.func8, Tryz.ntmps8
  go_wp2_with fail
  refine (versionRight_any v _).mono ?_
  rintro e w1 ⟨rfl, rfl⟩
  cases hv : verB v
  · have HN := hideF (show R = false by rw [HR.out, repFitsB, hv]; rfl)
    go_wp2
    go_ret
    exact ⟨ret_boolF HN.out.symm, HB0.out⟩
  · have HV1 := hideF (show 1 ≤ v ∧ v ≤ 3 by simpa [verB] using hv)
    go_wp2_with fail
    refine (rightRep _ x _ hn hm ⟨_, rfl, HRX.out⟩).mono ?_
    rintro e w2 ⟨rfl, hb2⟩
    have HB2 := hideF (HB0.out.trans (hb2.mono HB0.out.size))
    have HRY := hideF (HRX.out.below hb2)
    have r2 : w2.cell? ⟨w.heap.size, 0, none⟩ = some (.slice p x.length cap) := by rw [hb2.cell (p := ⟨w.heap.size, 0, none⟩) (by simp [World.size_alloc])]; exact r0
    have hs2 : w.heap.size < w2.heap.size := by have := hb2.size; rw [World.size_alloc] at this; omega
    clear hb2 r0
    cases hrb : repB x
    · have HN := hideF (show R = false by rw [HR.out, repFitsB, hrb]; simp)
      go_wp2
      go_ret
      exact ⟨ret_boolF HN.out.symm, HB2.out⟩
    · have HF := hideF (show R = fitsL v k x by rw [HR.out, repFitsB, hrb, hv]; rfl)
      have HRB := hideF hrb
      clear HR hrb hv
      go_wp2_with fail
      refine (typeAsks_any _).mono ?_
      rintro e w3 ⟨rfl, hrow, hb3⟩
      have HROW := hideF hrow
      have HB3 := hideF (HB2.out.trans (hb3.mono HB2.out.size))
      have HRZ := hideF (HRY.out.below hb3)
      have r3 : w3.cell? ⟨w.heap.size, 0, none⟩ = some (.slice p x.length cap) := by rw [hb3.cell (p := ⟨w.heap.size, 0, none⟩) hs2]; exact r2
      have hs3 : w2.heap.size < w3.heap.size := hrow.lt
      clear hb3 hrow r2
      go_wp2
      go_loopw [20] (fun i wr => ∃ (X : World) (j : Nat), X = wr ∧ j ≤ 9 ∧ i = .int .i64 (j : Int) ∧ Hid (Below w3.heap.size w3 X) ∧ Hid (∀ i : Nat, i < j → (i : Int) + 1 ≠ k)) (fun i _ => 9 - (intOf i).toNat)
      case atStart => exact ⟨_, 0, rfl, Nat.zero_le _, rfl, Below.refl _ _, fun i h => absurd h (by omega)⟩
      case round =>
        obtain ⟨X, j, rfl, hj, rfl, HBX, HA⟩ := hrel
        by_cases hlt : j < 9
        · have hjl : j < askFns.length := hlt
          have c0 : X.cell? ⟨w2.heap.size, 0 + j * 2, none⟩ = some (.int .i64 ((j : Int) + 1)) := by
            rw [HBX.out.cell (p := ⟨w2.heap.size, 0 + j * 2, none⟩) hs3, Nat.zero_add, HROW.out.cell]
            exact (askRow_at j hlt).1
          have c1 : X.cell? ⟨w2.heap.size, 0 + j * 2 + 1, none⟩ = some (.func (.func askFns[j]) #[] #[]) := by
            rw [HBX.out.cell (p := ⟨w2.heap.size, 0 + j * 2 + 1, none⟩) hs3, Nat.zero_add, HROW.out.cell]
            exact (askRow_at j hlt).2 hjl
          have c0' := c0
          have c1' := c1
          rw [Nat.zero_add] at c0' c1'
          have hXs := HBX.out.size
          have r4 : X.cell? ⟨w.heap.size, 0, none⟩ = some (.slice p x.length cap) := by rw [HBX.out.cell (p := ⟨w.heap.size, 0, none⟩) (by show w.heap.size < w3.heap.size; omega)]; exact r3
          have HHz := hideF (heap_alloc_new X (.cells #[.int .i64 0, .nilFunc] 53))
          have HF0 := hideF (setRow_heap _ _ #[.int .i64 0, .nilFunc] #[.int .i64 ((j : Int) + 1), .func (.func askFns[j]) #[] #[]] 53 (0, 0) HHz.out)
          have HAY := hideF (below_setRow (HBX.out.alloc HBX.out.size (.cells #[.int .i64 0, .nilFunc] 53)) HBX.out.size #[.int .i64 ((j : Int) + 1), .func (.func askFns[j]) #[] #[]])
          have HROWT : Hid (Row ((X.alloc (.cells #[.int .i64 0, .nilFunc] 53)).setRow X.heap.size #[.int .i64 ((j : Int) + 1), .func (.func askFns[j]) #[] #[]]) X.heap.size 53 [.int .i64 ((j : Int) + 1), .func (.func askFns[j]) #[] #[]]) := HF0
          have HR4 := hideF r3
          have hw3 : w.heap.size < w3.heap.size := by omega
          by_cases hjk : (j : Int) + 1 = k
          · have hjb : ((j : Int) + 1 == k) = true := by simpa using hjk
            have HN := hideF (show R = fitsL v ((j : Int) + 1) x by rw [HF.out, hjk])
            have HBW := hideF (HB3.out.trans (HAY.out.mono HB3.out.size))
            have HCALL := hideF (asks_any v (.slice p x.length cap) x _ hn (HE.out.below HBW.out HE.out.1) HV1.out.1 HV1.out.2 HRB.out (HK.out _ HV1.out.1 HV1.out.2 (Lasts.go (B := 0) (R := RComp 0 |> RL 0) (Same.of HAY.out) HRZ.out)) (Lasts.go (B := 0) (R := RComp 0 |> RL 0) (Same.of HAY.out) HRZ.out) j hjl)
            clear hjk
            obtain ⟨F, hF⟩ : ∃ F, F = askFns[j] := ⟨_, rfl⟩
            rw [← hF] at c1 c1' HAY HROWT HCALL HBW HF0
            have hF9 : F ∈ askFns := by rw [hF]; exact List.getElem_mem _
            clear hF
            have a0 : World.cell? ((X.alloc (.cells #[.int .i64 0, .nilFunc] 53)).setRow X.heap.size #[.int .i64 ((j : Int) + 1), .func (.func F) #[] #[]]) ⟨X.heap.size, 0, none⟩ = some (.int .i64 ((j : Int) + 1)) := HROWT.out.cell 0
            have a1 : World.cell? ((X.alloc (.cells #[.int .i64 0, .nilFunc] 53)).setRow X.heap.size #[.int .i64 ((j : Int) + 1), .func (.func F) #[] #[]]) ⟨X.heap.size, 1, none⟩ = some (.func (.func F) #[] #[]) := HROWT.out.cell 1
            have r5 : World.cell? ((X.alloc (.cells #[.int .i64 0, .nilFunc] 53)).setRow X.heap.size #[.int .i64 ((j : Int) + 1), .func (.func F) #[] #[]]) ⟨w.heap.size, 0, none⟩ = some (.slice p x.length cap) := by rw [HAY.out.cell (p := ⟨w.heap.size, 0, none⟩) hw3]; exact HR4.out
            clear HROWT HF0
            simp only [askFns, List.mem_cons, List.not_mem_nil, or_false] at hF9
            rcases hF9 with rfl | rfl | rfl | rfl | rfl | rfl | rfl | rfl | rfl
            · go_wp2_with (first | (refine wpList_store_rowA rfl 53 _ _ rfl X.heap.size #[.int .i64 ((j : Int) + 1), .func (.func 48) #[] #[]] rfl rfl 53 #[.int .i64 0, .nilFunc] HHz.out (by kernel_rfl) rfl (by simp [Value.oneCell']) ?_) | fail)
              refine HCALL.out.mono ?_
              rintro e w5 ⟨rfl, hb5⟩
              have HB5 := hideF (HBW.out.trans (hb5.mono HBW.out.size))
              clear hb5
              go_wp2
              go_ret
              exact ⟨ret_boolF HN.out.symm, HB5.out⟩
            · go_wp2_with (first | (refine wpList_store_rowA rfl 53 _ _ rfl X.heap.size #[.int .i64 ((j : Int) + 1), .func (.func 49) #[] #[]] rfl rfl 53 #[.int .i64 0, .nilFunc] HHz.out (by kernel_rfl) rfl (by simp [Value.oneCell']) ?_) | fail)
              refine HCALL.out.mono ?_
              rintro e w5 ⟨rfl, hb5⟩
              have HB5 := hideF (HBW.out.trans (hb5.mono HBW.out.size))
              clear hb5
              go_wp2
              go_ret
              exact ⟨ret_boolF HN.out.symm, HB5.out⟩
            · go_wp2_with (first | (refine wpList_store_rowA rfl 53 _ _ rfl X.heap.size #[.int .i64 ((j : Int) + 1), .func (.func 50) #[] #[]] rfl rfl 53 #[.int .i64 0, .nilFunc] HHz.out (by kernel_rfl) rfl (by simp [Value.oneCell']) ?_) | fail)
              refine HCALL.out.mono ?_
              rintro e w5 ⟨rfl, hb5⟩
              have HB5 := hideF (HBW.out.trans (hb5.mono HBW.out.size))
              clear hb5
              go_wp2
              go_ret
              exact ⟨ret_boolF HN.out.symm, HB5.out⟩
            · go_wp2_with (first | (refine wpList_store_rowA rfl 53 _ _ rfl X.heap.size #[.int .i64 ((j : Int) + 1), .func (.func 51) #[] #[]] rfl rfl 53 #[.int .i64 0, .nilFunc] HHz.out (by kernel_rfl) rfl (by simp [Value.oneCell']) ?_) | fail)
              refine HCALL.out.mono ?_
              rintro e w5 ⟨rfl, hb5⟩
              have HB5 := hideF (HBW.out.trans (hb5.mono HBW.out.size))
              clear hb5
              go_wp2
              go_ret
              exact ⟨ret_boolF HN.out.symm, HB5.out⟩
            · go_wp2_with (first | (refine wpList_store_rowA rfl 53 _ _ rfl X.heap.size #[.int .i64 ((j : Int) + 1), .func (.func 52) #[] #[]] rfl rfl 53 #[.int .i64 0, .nilFunc] HHz.out (by kernel_rfl) rfl (by simp [Value.oneCell']) ?_) | fail)
              refine HCALL.out.mono ?_
              rintro e w5 ⟨rfl, hb5⟩
              have HB5 := hideF (HBW.out.trans (hb5.mono HBW.out.size))
              clear hb5
              go_wp2
              go_ret
              exact ⟨ret_boolF HN.out.symm, HB5.out⟩
            · go_wp2_with (first | (refine wpList_store_rowA rfl 53 _ _ rfl X.heap.size #[.int .i64 ((j : Int) + 1), .func (.func 53) #[] #[]] rfl rfl 53 #[.int .i64 0, .nilFunc] HHz.out (by kernel_rfl) rfl (by simp [Value.oneCell']) ?_) | fail)
              refine HCALL.out.mono ?_
              rintro e w5 ⟨rfl, hb5⟩
              have HB5 := hideF (HBW.out.trans (hb5.mono HBW.out.size))
              clear hb5
              go_wp2
              go_ret
              exact ⟨ret_boolF HN.out.symm, HB5.out⟩
            · go_wp2_with (first | (refine wpList_store_rowA rfl 53 _ _ rfl X.heap.size #[.int .i64 ((j : Int) + 1), .func (.func 54) #[] #[]] rfl rfl 53 #[.int .i64 0, .nilFunc] HHz.out (by kernel_rfl) rfl (by simp [Value.oneCell']) ?_) | fail)
              refine HCALL.out.mono ?_
              rintro e w5 ⟨rfl, hb5⟩
              have HB5 := hideF (HBW.out.trans (hb5.mono HBW.out.size))
              clear hb5
              go_wp2
              go_ret
              exact ⟨ret_boolF HN.out.symm, HB5.out⟩
            · go_wp2_with (first | (refine wpList_store_rowA rfl 53 _ _ rfl X.heap.size #[.int .i64 ((j : Int) + 1), .func (.func 55) #[] #[]] rfl rfl 53 #[.int .i64 0, .nilFunc] HHz.out (by kernel_rfl) rfl (by simp [Value.oneCell']) ?_) | fail)
              refine HCALL.out.mono ?_
              rintro e w5 ⟨rfl, hb5⟩
              have HB5 := hideF (HBW.out.trans (hb5.mono HBW.out.size))
              clear hb5
              go_wp2
              go_ret
              exact ⟨ret_boolF HN.out.symm, HB5.out⟩
            · go_wp2_with (first | (refine wpList_store_rowA rfl 53 _ _ rfl X.heap.size #[.int .i64 ((j : Int) + 1), .func (.func 56) #[] #[]] rfl rfl 53 #[.int .i64 0, .nilFunc] HHz.out (by kernel_rfl) rfl (by simp [Value.oneCell']) ?_) | fail)
              refine HCALL.out.mono ?_
              rintro e w5 ⟨rfl, hb5⟩
              have HB5 := hideF (HBW.out.trans (hb5.mono HBW.out.size))
              clear hb5
              go_wp2
              go_ret
              exact ⟨ret_boolF HN.out.symm, HB5.out⟩
          · have hjb : ((j : Int) + 1 == k) = false := by simpa using hjk
            have HA2 := hideF (show ∀ i : Nat, i < j + 1 → (i : Int) + 1 ≠ k from fun i hi => by
              by_cases e : i = j
              · subst e; exact hjk
              · exact HA.out i (by omega))
            clear hjk
            obtain ⟨F, hF⟩ : ∃ F, F = askFns[j] := ⟨_, rfl⟩
            rw [← hF] at c1 c1' HAY HROWT HF0
            clear hF
            have a0 : World.cell? ((X.alloc (.cells #[.int .i64 0, .nilFunc] 53)).setRow X.heap.size #[.int .i64 ((j : Int) + 1), .func (.func F) #[] #[]]) ⟨X.heap.size, 0, none⟩ = some (.int .i64 ((j : Int) + 1)) := HROWT.out.cell 0
            have a1 : World.cell? ((X.alloc (.cells #[.int .i64 0, .nilFunc] 53)).setRow X.heap.size #[.int .i64 ((j : Int) + 1), .func (.func F) #[] #[]]) ⟨X.heap.size, 1, none⟩ = some (.func (.func F) #[] #[]) := HROWT.out.cell 1
            have r5 : World.cell? ((X.alloc (.cells #[.int .i64 0, .nilFunc] 53)).setRow X.heap.size #[.int .i64 ((j : Int) + 1), .func (.func F) #[] #[]]) ⟨w.heap.size, 0, none⟩ = some (.slice p x.length cap) := by rw [HAY.out.cell (p := ⟨w.heap.size, 0, none⟩) hw3]; exact HR4.out
            clear HROWT HF0
            go_wp2_with (refine wpList_store_rowA rfl 53 _ _ rfl X.heap.size #[.int .i64 ((j : Int) + 1), .func (.func F) #[] #[]] rfl rfl 53 #[.int .i64 0, .nilFunc] HHz.out (by kernel_rfl) rfl (by simp [Value.oneCell']) ?_)
            go_roundw
            case rel => exact ⟨_, j + 1, rfl, by omega, by go_num, HAY.out, HA2.out⟩
            case measure => simp [intOf]; omega
        · have HN := hideF (show R = false by rw [HF.out]; exact fits_none v k x (fun i hi => HA.out i (by omega)))
          have HBY := hideF (HB3.out.trans (HBX.out.mono HB3.out.size))
          go_wp2
          go_ret
          exact ⟨ret_boolF HN.out.symm, HBY.out⟩
end Go.Proofs.YtfjjbofnfigehaaGreatDoor
