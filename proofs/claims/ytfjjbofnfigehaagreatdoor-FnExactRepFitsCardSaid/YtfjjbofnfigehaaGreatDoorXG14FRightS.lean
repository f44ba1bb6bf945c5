/- What a right Field is, as the model asks it. -/
import Derived.Test.YtfjjbofnfigehaaGreatDoorXG0Mem
import Derived.Test.YtfjjbofnfigehaaGreatDoorXG2FBuf
import Derived.Test.YtfjjbofnfigehaaGreatDoorXG13VNum
import Derived.Laws.Runes
import Derived.Test.YtfjjbofnfigehaaGreatDoorXG6VKind
import Derived.Test.YtfjjbofnfigehaaGreatDoorXG7VVer
import Derived.Test.YtfjjbofnfigehaaGreatDoorXG9VDayS
import Derived.Test.YtfjjbofnfigehaaGreatDoorXG12VTimeS
namespace Go.Proofs.YtfjjbofnfigehaaGreatDoor
open Go.RowKit

/-- Is the last one empty? -/
def endEmpty {α : Type} (emp : α → Bool) (xs : List α) : Bool := match xs.getLast? with | some x => emp x | none => false
/-- A list of right ones, not too many, the last one not empty. -/
def rightB {α : Type} (f : α → Bool) (emp : α → Bool) (most : Nat) (xs : List α) : Bool := xs.all f && decide (xs.length ≤ most) && !endEmpty emp xs
def subB (s : ByteArray) : Bool := plainB s && decide ((s.size : Int) ≤ 60)
def empS (s : ByteArray) : Bool := decide (s.size = 0)
def empL {α : Type} (xs : List α) : Bool := decide (xs.length = 0)
def compB : List ByteArray → Bool := rightB subB empS 5
def repB : List (List ByteArray) → Bool := rightB compB empL 10
def fldB : List (List (List ByteArray)) → Bool := rightB repB empL 5
theorem right_no {α : Type} {f emp : α → Bool} {most : Nat} {xs : List α} (k : Nat) (hk : k < xs.length) (h : f xs[k] = false) : rightB f emp most xs = false := by
  have : xs.all f = false := List.all_eq_false.2 ⟨xs[k], List.getElem_mem hk, by simp [h]⟩
  simp [rightB, this]
theorem right_all {α : Type} {f emp : α → Bool} {most : Nat} {xs : List α} (h : ∀ k (hk : k < xs.length), f xs[k] = true) : rightB f emp most xs = (decide (xs.length ≤ most) && !endEmpty emp xs) := by
  have : xs.all f = true := List.all_eq_true.2 fun x hx => by
    obtain ⟨i, hi, rfl⟩ := List.getElem_of_mem hx
    exact h i hi
  simp [rightB, this]
theorem endEmpty_nil {α : Type} {emp : α → Bool} {xs : List α} (h : xs.length = 0) : endEmpty emp xs = false := by
  obtain rfl := List.eq_nil_of_length_eq_zero h
  rfl
theorem endEmpty_last {α : Type} {emp : α → Bool} {xs : List α} (k : Nat) (hk : k < xs.length) (h : xs.length = k + 1) : endEmpty emp xs = emp (xs[k]'hk) := by
  unfold endEmpty
  have hl : 0 < xs.length := by omega
  rw [List.getLast?_eq_getElem?, show xs.length - 1 = k by omega, List.getElem?_eq_getElem (by omega)]
theorem all_succ {α : Type} {f : α → Bool} {xs : List α} {k : Nat} (h : ∀ j (hj : j < xs.length), j < k → f xs[j] = true) (hk : ∀ hk : k < xs.length, f xs[k] = true) : ∀ j (hj : j < xs.length), j < k + 1 → f xs[j] = true := by
  intro j hj h1
  by_cases e : j = k
  · subst e; exact hk hj
  · exact h j hj (by omega)

set_option maxHeartbeats 400000 in
theorem l04Sub_any (s : ByteArray) (w : World) (hs : s.size ≤ maxLen) :
    Calls Tryz.prog 64 #[.string s] w fun e w' => e = .returned (.bool (subB s)) ∧ Below w.heap.size w w' := by
  go_enter Tryz.func64, Tryz.ntmps64
  go_wp2_with fail
  refine (l04Plain_any s 60 _ hs).mono ?_
  rintro e w' ⟨rfl, rfl⟩
  go_wp2
  go_ret
  exact ⟨rfl, Below.refl _ _⟩

set_option maxHeartbeats 4000000 in
theorem specComp_any (u : Value) (x : List ByteArray) (B : Nat) (w : World) (hn : x.length ≤ 1048576) (hr : RComp B w u x) :
    Calls Tryz.prog 36 #[.agg #[u]] w fun e w' => e = .returned (.bool (compB x)) ∧ Below w.heap.size w w' := by
  obtain ⟨R, hR⟩ : ∃ R, R = compB x := ⟨_, rfl⟩
  rw [← hR]
  have HR := hideF hR
  clear hR
  obtain ⟨p, cap, rfl, h1, h2, h4⟩ := hr
  unfold maxLen at h2
  have H4 := hideF h4
  clear h4
  have r0 : (w.alloc (.cells #[.slice p x.length cap] 71)).cell? ⟨w.heap.size, 0, none⟩ = some (.slice p x.length cap) := (row_new w [.slice p x.length cap] 71).cell 0
  go_enter Tryz.func36, Tryz.ntmps36
  go_wp2
  go_loopw [4] (fun i wr => ∃ (X : World) (k : Nat), X = wr ∧ k ≤ x.length ∧ i = .int .i64 k ∧ Hid (Below w.heap.size w X) ∧ Hid (Row X w.heap.size 71 [.slice p x.length cap]) ∧ Hid (∀ j (hj : j < x.length), j < k → subB x[j] = true)) (fun i _ => x.length - (intOf i).toNat)
  case atStart => exact ⟨_, 0, rfl, Nat.zero_le _, rfl, (Below.refl _ _).alloc (Nat.le_refl _) _, row_new w [.slice p x.length cap] 71, fun j _ h => absurd h (by omega)⟩
  case round =>
    obtain ⟨X, k, rfl, hk, rfl, HB, HRow, HA⟩ := hrel
    have c0 : X.cell? ⟨w.heap.size, 0, none⟩ = some (.slice p x.length cap) := HRow.out.cell 0
    by_cases hlt : k < x.length
    · obtain ⟨g, off, hp, hg, _, hc⟩ := H4.out (by omega)
      subst hp
      obtain ⟨v, hv, hrv⟩ := hc k hlt
      have hck : X.cell? ⟨g, off + k, none⟩ = some v := by rw [HB.out.cell (p := ⟨g, off + k, none⟩) hg]; exact hv
      obtain ⟨rfl, hvs⟩ := hrv
      clear hv hc
      go_wp2_with fail
      refine (l04Sub_any (x[k]'hlt) _ hvs).mono ?_
      rintro e w2 ⟨rfl, hb2⟩
      have HB2 := hideF (HB.out.trans (hb2.mono HB.out.size))
      have HRow2 := hideF (HRow.out.below hb2 HRow.out.lt)
      clear hb2
      cases ho : subB (x[k]'hlt)
      · have HN := hideF (show R = false by rw [HR.out]; exact right_no k hlt ho)
        go_wp2
        go_ret
        exact ⟨ret_boolF HN.out.symm, HB2.out⟩
      · have HA2 := hideF (all_succ HA.out (fun _ => ho))
        go_wp2
        go_roundw
        case rel => exact ⟨_, k + 1, rfl, by omega, by go_num, HB2, HRow2, HA2⟩
        case measure => simp [intOf]; omega
    · have HALL := hideF (show R = (decide (x.length ≤ 5) && !endEmpty empS x) by rw [HR.out]; exact right_all (fun j hj => HA.out j hj (by omega)))
      by_cases h5 : (x.length : Int) ≤ 5
      · have h5' : x.length ≤ 5 := by omega
        by_cases h0 : (x.length : Int) = 0
        · have hz : ((x.length : Int) == 0) = true := by simpa using h0
          have HE := hideF (endEmpty_nil (emp := empS) (xs := x) (by omega))
          go_wp2
          go_ret
          exact ⟨ret_boolF (by rw [HALL.out, HE.out]; simp [h5']), HB.out⟩
        · have hz : ((x.length : Int) == 0) = false := by simpa using h0
          obtain ⟨n, hn1⟩ : ∃ n, x.length = n + 1 := ⟨x.length - 1, by omega⟩
          have hnl : n < x.length := by omega
          have HE := hideF (endEmpty_last (emp := empS) n hnl hn1)
          obtain ⟨g, off, hp, hg, _, hc⟩ := H4.out (by omega)
          subst hp
          obtain ⟨v, hv, hrv⟩ := hc n hnl
          have hck : X.cell? ⟨g, off + n, none⟩ = some v := by rw [HB.out.cell (p := ⟨g, off + n, none⟩) hg]; exact hv
          have hw1 : IntKind.i64.wrap ((x.length : Int) - 1) = (n : Int) := by rw [show ((x.length : Int) - 1) = (n : Int) by omega]; exact wrap_small _ (by omega) (by omega)
          have hlt1 : (n : Int) < (x.length : Int) := by omega
          have HN1 := hideF hn1
          obtain ⟨rfl, _⟩ := hrv
          clear hv hc
          clear hn1
          by_cases he : (x[n]'hnl).size = 0
          · have he2 : x[n]'hnl = ⟨#[]⟩ := ByteArray.ext (Array.eq_empty_of_size_eq_zero he)
            have HX := hideF (show R = false by rw [HALL.out, HE.out]; simp [empS, he])
            rw [he2] at hck
            clear he he2
            go_wp2
            go_ret
            exact ⟨ret_boolF (by rw [HX.out]), HB.out⟩
          · have he2 : x[n]'hnl ≠ ⟨#[]⟩ := fun h => he (by rw [h]; rfl)
            have he3 := toList_neF he2
            have HX := hideF (show R = true by rw [HALL.out, HE.out]; simp [empS, he, h5'])
            clear he he2
            generalize x[n]'hnl = Y at *
            go_wp2
            go_ret
            exact ⟨ret_boolF (by rw [HX.out]; first | done | simpa using he3), HB.out⟩
      · have h5' : ¬ x.length ≤ 5 := by omega
        go_wp2
        go_ret
        exact ⟨ret_boolF (by rw [HALL.out]; simp [h5']), HB.out⟩

set_option maxHeartbeats 4000000 in
theorem specRep_any (u : Value) (x : List (List ByteArray)) (B : Nat) (w : World) (hn : x.length ≤ 1048576) (hm : ∀ i (h : i < x.length), x[i].length ≤ 1048576) (hr : RRep B w u x) :
    Calls Tryz.prog 17 #[.agg #[u]] w fun e w' => e = .returned (.bool (repB x)) ∧ Below w.heap.size w w' := by
  obtain ⟨R, hR⟩ : ∃ R, R = repB x := ⟨_, rfl⟩
  rw [← hR]
  have HR := hideF hR
  have HM := hideF hm
  clear hm
  clear hR
  obtain ⟨p, cap, rfl, h1, h2, h4⟩ := hr
  unfold maxLen at h2
  have H4 := hideF h4
  clear h4
  have r0 : (w.alloc (.cells #[.slice p x.length cap] 29)).cell? ⟨w.heap.size, 0, none⟩ = some (.slice p x.length cap) := (row_new w [.slice p x.length cap] 29).cell 0
  go_enter Tryz.func17, Tryz.ntmps17
  go_wp2
  go_loopw [4] (fun i wr => ∃ (X : World) (k : Nat), X = wr ∧ k ≤ x.length ∧ i = .int .i64 k ∧ Hid (Below w.heap.size w X) ∧ Hid (Row X w.heap.size 29 [.slice p x.length cap]) ∧ Hid (∀ j (hj : j < x.length), j < k → compB x[j] = true)) (fun i _ => x.length - (intOf i).toNat)
  case atStart => exact ⟨_, 0, rfl, Nat.zero_le _, rfl, (Below.refl _ _).alloc (Nat.le_refl _) _, row_new w [.slice p x.length cap] 29, fun j _ h => absurd h (by omega)⟩
  case round =>
    obtain ⟨X, k, rfl, hk, rfl, HB, HRow, HA⟩ := hrel
    have c0 : X.cell? ⟨w.heap.size, 0, none⟩ = some (.slice p x.length cap) := HRow.out.cell 0
    by_cases hlt : k < x.length
    · obtain ⟨g, off, hp, hg, _, hc⟩ := H4.out (by omega)
      subst hp
      obtain ⟨v, hv, hrv⟩ := hc k hlt
      have hck : X.cell? ⟨g, off + k, none⟩ = some v := by rw [HB.out.cell (p := ⟨g, off + k, none⟩) hg]; exact hv
      have HRV := hideF (hrv.below HB.out)
      obtain ⟨vp, vc, rfl⟩ := hrv.isSlice
      clear hv hrv hc
      go_wp2_with fail
      refine (specComp_any _ (x[k]'hlt) B _ (HM.out k hlt) HRV.out).mono ?_
      rintro e w2 ⟨rfl, hb2⟩
      have HB2 := hideF (HB.out.trans (hb2.mono HB.out.size))
      have HRow2 := hideF (HRow.out.below hb2 HRow.out.lt)
      clear hb2
      cases ho : compB (x[k]'hlt)
      · have HN := hideF (show R = false by rw [HR.out]; exact right_no k hlt ho)
        go_wp2
        go_ret
        exact ⟨ret_boolF HN.out.symm, HB2.out⟩
      · have HA2 := hideF (all_succ HA.out (fun _ => ho))
        go_wp2
        go_roundw
        case rel => exact ⟨_, k + 1, rfl, by omega, by go_num, HB2, HRow2, HA2⟩
        case measure => simp [intOf]; omega
    · have HALL := hideF (show R = (decide (x.length ≤ 10) && !endEmpty empL x) by rw [HR.out]; exact right_all (fun j hj => HA.out j hj (by omega)))
      by_cases h5 : (x.length : Int) ≤ 10
      · have h5' : x.length ≤ 10 := by omega
        by_cases h0 : (x.length : Int) = 0
        · have hz : ((x.length : Int) == 0) = true := by simpa using h0
          have HE := hideF (endEmpty_nil (emp := empL) (xs := x) (by omega))
          go_wp2
          go_ret
          exact ⟨ret_boolF (by rw [HALL.out, HE.out]; simp [h5']), HB.out⟩
        · have hz : ((x.length : Int) == 0) = false := by simpa using h0
          obtain ⟨n, hn1⟩ : ∃ n, x.length = n + 1 := ⟨x.length - 1, by omega⟩
          have hnl : n < x.length := by omega
          have HE := hideF (endEmpty_last (emp := empL) n hnl hn1)
          obtain ⟨g, off, hp, hg, _, hc⟩ := H4.out (by omega)
          subst hp
          obtain ⟨v, hv, hrv⟩ := hc n hnl
          have hck : X.cell? ⟨g, off + n, none⟩ = some v := by rw [HB.out.cell (p := ⟨g, off + n, none⟩) hg]; exact hv
          have hw1 : IntKind.i64.wrap ((x.length : Int) - 1) = (n : Int) := by rw [show ((x.length : Int) - 1) = (n : Int) by omega]; exact wrap_small _ (by omega) (by omega)
          have hlt1 : (n : Int) < (x.length : Int) := by omega
          have HN1 := hideF hn1
          obtain ⟨vp, vc, rfl⟩ := hrv.isSlice
          clear hv hrv hc
          clear hn1
          by_cases he : (x[n]'hnl).length = 0
          · have he' : ¬ 0 < ((x[n]'hnl).length : Int) := by omega
            have HX := hideF (show R = false by rw [HALL.out, HE.out]; simp [empL, he])
            clear he
            go_wp2
            go_ret
            exact ⟨ret_boolF (by rw [HX.out]; exact decide_eq_false (by omega)), HB.out⟩
          · have he' : 0 < ((x[n]'hnl).length : Int) := by omega
            have HX := hideF (show R = true by rw [HALL.out, HE.out]; simp [empL, he, h5'])
            clear he
            go_wp2
            go_ret
            exact ⟨ret_boolF (by rw [HX.out]; exact decide_eq_true (by omega)), HB.out⟩
      · have h5' : ¬ x.length ≤ 10 := by omega
        go_wp2
        go_ret
        exact ⟨ret_boolF (by rw [HALL.out]; simp [h5']), HB.out⟩

set_option maxHeartbeats 4000000 in
theorem specField_any (u : Value) (x : List (List (List ByteArray))) (B : Nat) (w : World) (hn : x.length ≤ 1048576) (hm : ∀ i (h : i < x.length), x[i].length ≤ 1048576) (hm2 : ∀ i (h : i < x.length) j (hj : j < x[i].length), x[i][j].length ≤ 1048576) (hr : RFld B w u x) :
    Calls Tryz.prog 25 #[.agg #[u]] w fun e w' => e = .returned (.bool (fldB x)) ∧ Below w.heap.size w w' := by
  obtain ⟨R, hR⟩ : ∃ R, R = fldB x := ⟨_, rfl⟩
  rw [← hR]
  have HR := hideF hR
  have HM := hideF hm
  have HM2 := hideF hm2
  clear hm hm2
  clear hR
  obtain ⟨p, cap, rfl, h1, h2, h4⟩ := hr
  unfold maxLen at h2
  have H4 := hideF h4
  clear h4
  have r0 : (w.alloc (.cells #[.slice p x.length cap] 40)).cell? ⟨w.heap.size, 0, none⟩ = some (.slice p x.length cap) := (row_new w [.slice p x.length cap] 40).cell 0
  go_enter Tryz.func25, Tryz.ntmps25
  go_wp2
  go_loopw [4] (fun i wr => ∃ (X : World) (k : Nat), X = wr ∧ k ≤ x.length ∧ i = .int .i64 k ∧ Hid (Below w.heap.size w X) ∧ Hid (Row X w.heap.size 40 [.slice p x.length cap]) ∧ Hid (∀ j (hj : j < x.length), j < k → repB x[j] = true)) (fun i _ => x.length - (intOf i).toNat)
  case atStart => exact ⟨_, 0, rfl, Nat.zero_le _, rfl, (Below.refl _ _).alloc (Nat.le_refl _) _, row_new w [.slice p x.length cap] 40, fun j _ h => absurd h (by omega)⟩
  case round =>
    obtain ⟨X, k, rfl, hk, rfl, HB, HRow, HA⟩ := hrel
    have c0 : X.cell? ⟨w.heap.size, 0, none⟩ = some (.slice p x.length cap) := HRow.out.cell 0
    by_cases hlt : k < x.length
    · obtain ⟨g, off, hp, hg, _, hc⟩ := H4.out (by omega)
      subst hp
      obtain ⟨v, hv, hrv⟩ := hc k hlt
      have hck : X.cell? ⟨g, off + k, none⟩ = some v := by rw [HB.out.cell (p := ⟨g, off + k, none⟩) hg]; exact hv
      have HRV := hideF (hrv.below HB.out)
      obtain ⟨vp, vc, rfl⟩ := hrv.isSlice
      clear hv hrv hc
      go_wp2_with fail
      refine (specRep_any _ (x[k]'hlt) B _ (HM.out k hlt) (HM2.out k hlt) HRV.out).mono ?_
      rintro e w2 ⟨rfl, hb2⟩
      have HB2 := hideF (HB.out.trans (hb2.mono HB.out.size))
      have HRow2 := hideF (HRow.out.below hb2 HRow.out.lt)
      clear hb2
      cases ho : repB (x[k]'hlt)
      · have HN := hideF (show R = false by rw [HR.out]; exact right_no k hlt ho)
        go_wp2
        go_ret
        exact ⟨ret_boolF HN.out.symm, HB2.out⟩
      · have HA2 := hideF (all_succ HA.out (fun _ => ho))
        go_wp2
        go_roundw
        case rel => exact ⟨_, k + 1, rfl, by omega, by go_num, HB2, HRow2, HA2⟩
        case measure => simp [intOf]; omega
    · have HALL := hideF (show R = (decide (x.length ≤ 5) && !endEmpty empL x) by rw [HR.out]; exact right_all (fun j hj => HA.out j hj (by omega)))
      by_cases h5 : (x.length : Int) ≤ 5
      · have h5' : x.length ≤ 5 := by omega
        by_cases h0 : (x.length : Int) = 0
        · have hz : ((x.length : Int) == 0) = true := by simpa using h0
          have HE := hideF (endEmpty_nil (emp := empL) (xs := x) (by omega))
          go_wp2
          go_ret
          exact ⟨ret_boolF (by rw [HALL.out, HE.out]; simp [h5']), HB.out⟩
        · have hz : ((x.length : Int) == 0) = false := by simpa using h0
          obtain ⟨n, hn1⟩ : ∃ n, x.length = n + 1 := ⟨x.length - 1, by omega⟩
          have hnl : n < x.length := by omega
          have HE := hideF (endEmpty_last (emp := empL) n hnl hn1)
          obtain ⟨g, off, hp, hg, _, hc⟩ := H4.out (by omega)
          subst hp
          obtain ⟨v, hv, hrv⟩ := hc n hnl
          have hck : X.cell? ⟨g, off + n, none⟩ = some v := by rw [HB.out.cell (p := ⟨g, off + n, none⟩) hg]; exact hv
          have hw1 : IntKind.i64.wrap ((x.length : Int) - 1) = (n : Int) := by rw [show ((x.length : Int) - 1) = (n : Int) by omega]; exact wrap_small _ (by omega) (by omega)
          have hlt1 : (n : Int) < (x.length : Int) := by omega
          have HN1 := hideF hn1
          obtain ⟨vp, vc, rfl⟩ := hrv.isSlice
          clear hv hrv hc
          clear hn1
          by_cases he : (x[n]'hnl).length = 0
          · have he' : ¬ 0 < ((x[n]'hnl).length : Int) := by omega
            have HX := hideF (show R = false by rw [HALL.out, HE.out]; simp [empL, he])
            clear he
            go_wp2
            go_ret
            exact ⟨ret_boolF (by rw [HX.out]; exact decide_eq_false (by omega)), HB.out⟩
          · have he' : 0 < ((x[n]'hnl).length : Int) := by omega
            have HX := hideF (show R = true by rw [HALL.out, HE.out]; simp [empL, he, h5'])
            clear he
            go_wp2
            go_ret
            exact ⟨ret_boolF (by rw [HX.out]; exact decide_eq_true (by omega)), HB.out⟩
      · have h5' : ¬ x.length ≤ 5 := by omega
        go_wp2
        go_ret
        exact ⟨ret_boolF (by rw [HALL.out]; simp [h5']), HB.out⟩
end Go.Proofs.YtfjjbofnfigehaaGreatDoor
/- The model's l06Fits and RepFits. -/
namespace Go.Proofs.YtfjjbofnfigehaaGreatDoor
open Go.RowKit
def codeB (v : Int) (t : ByteArray) : Bool := decide (1 ≤ t.size) && decide (t.size ≤ 3) && capA t && (decide (1 < v) || (!(t.toList == [65]) && !(t.toList == [78])))
/-- What a right Rep of the kind k fits. -/
def fitsL (v k : Int) (x : List (List ByteArray)) : Bool :=
  if k = 1 then soleL 1 x
  else if k = 2 then soleL 1 x && numberB (oneT x).data.toList
  else if k = 3 then soleL 1 x && dayB (oneT x).data.toList
  else if k = 4 then soleL 1 x && timeB v (oneT x).data.toList
  else if k = 5 then soleL 1 x && codeB v (oneT x)
  else if k = 6 then compsL 5 1 x
  else if k = 7 then (if v = 1 then compsL 3 0 x else compsL 8 10 x)
  else if k = 8 then (if v = 1 then kindL 2 x else kindL 3 x)
  else if k = 9 then (if v < 3 then compsL 6 0 x else compsL 9 0 x)
  else false
theorem txt (t : ByteArray) : (⟨t.data.toList.toArray⟩ : ByteArray) = t := rfl
theorem oneT_size {B : Nat} {w : World} {u : Value} {x : List (List ByteArray)} (h : RRep B w u x) : (oneT x).size ≤ maxLen := by
  unfold oneT
  split
  · rename_i hs
    cases x with
    | nil => simp [soleL] at hs
    | cons c r => exact textsOf_size h _ (by simp [textsOf])
  · exact Nat.zero_le _

set_option maxHeartbeats 2000000 in
set_option maxRecDepth 100000 in
theorem l06Fits_1 (v : Int) (u : Value) (x : List (List ByteArray)) (w : World) (hn : x.length ≤ 1048576) (hr : RRep 0 w u x) :
    Calls Tryz.prog 18 #[.int .i64 v, .int .i64 1, .agg #[u]] w fun e w' => e = .returned (.bool (fitsL v 1 x)) ∧ Below w.heap.size w w' := by
  have HB0 := hideF ((Below.refl w.heap.size w).alloc (Nat.le_refl _) (.cells #[u] 29))
  have HRX := hideF (hr.below ((Below.refl w.heap.size w).alloc (Nat.le_refl _) (.cells #[u] 29)))
  have HSZ := hideF (oneT_size hr)
  obtain ⟨p, cap, rfl⟩ := hr.isSlice
  have r0 := repCell w (.slice p x.length cap)
  obtain ⟨R, hR⟩ : ∃ R, R = fitsL v 1 x := ⟨_, rfl⟩
  rw [← hR]
  have HR := hideF hR
  clear hR hr
  go_enter Tryz.func18, Tryz.ntmps18
  go_wp2_with fail
  refine (l06One_any _ x 0 _ hn HRX.out).mono ?_
  rintro e w1 ⟨rfl, hb1⟩
  have HB1 := hideF (HB0.out.trans (hb1.mono HB0.out.size))
  have HRY := hideF (HRX.out.below hb1)
  have r1 : w1.cell? ⟨w.heap.size, 0, none⟩ = some (.slice p x.length cap) := by rw [hb1.cell (p := ⟨w.heap.size, 0, none⟩) (by simp [World.size_alloc])]; exact r0
  clear hb1 r0
  have HN := hideF (show R = soleL 1 x by rw [HR.out]; rfl)
  generalize soleL 1 x = b at *
  go_wp2
  go_ret
  exact ⟨ret_boolF HN.out.symm, HB1.out⟩

set_option maxHeartbeats 2000000 in
set_option maxRecDepth 100000 in
theorem l06Fits_2 (v : Int) (u : Value) (x : List (List ByteArray)) (w : World) (hn : x.length ≤ 1048576) (hr : RRep 0 w u x) :
    Calls Tryz.prog 18 #[.int .i64 v, .int .i64 2, .agg #[u]] w fun e w' => e = .returned (.bool (fitsL v 2 x)) ∧ Below w.heap.size w w' := by
  have HB0 := hideF ((Below.refl w.heap.size w).alloc (Nat.le_refl _) (.cells #[u] 29))
  have HRX := hideF (hr.below ((Below.refl w.heap.size w).alloc (Nat.le_refl _) (.cells #[u] 29)))
  have HSZ := hideF (oneT_size hr)
  obtain ⟨p, cap, rfl⟩ := hr.isSlice
  have r0 := repCell w (.slice p x.length cap)
  obtain ⟨R, hR⟩ : ∃ R, R = fitsL v 2 x := ⟨_, rfl⟩
  rw [← hR]
  have HR := hideF hR
  clear hR hr
  go_enter Tryz.func18, Tryz.ntmps18
  go_wp2_with fail
  refine (l06One_any _ x 0 _ hn HRX.out).mono ?_
  rintro e w1 ⟨rfl, hb1⟩
  have HB1 := hideF (HB0.out.trans (hb1.mono HB0.out.size))
  have HRY := hideF (HRX.out.below hb1)
  have r1 : w1.cell? ⟨w.heap.size, 0, none⟩ = some (.slice p x.length cap) := by rw [hb1.cell (p := ⟨w.heap.size, 0, none⟩) (by simp [World.size_alloc])]; exact r0
  clear hb1 r0
  cases hs : soleL 1 x
  · have HN := hideF (show R = false by rw [HR.out, show fitsL v 2 x = (soleL 1 x && numberB (oneT x).data.toList) from rfl, hs]; rfl)
    go_wp2
    go_ret
    exact ⟨ret_boolF HN.out.symm, HB1.out⟩
  · have HN := hideF (show R = numberB (oneT x).data.toList by rw [HR.out, show fitsL v 2 x = (soleL 1 x && numberB (oneT x).data.toList) from rfl, hs]; rfl)
    clear HR
    generalize oneT x = t at *
    go_wp2_with fail
    refine (specNumberRight_any t.data.toList _ (by have := HSZ.out; exact this)).mono ?_
    rintro e w2 ⟨rfl, rfl⟩
    go_wp2
    go_ret
    exact ⟨ret_boolF HN.out.symm, HB1.out⟩

set_option maxHeartbeats 2000000 in
set_option maxRecDepth 100000 in
theorem l06Fits_3 (v : Int) (u : Value) (x : List (List ByteArray)) (w : World) (hn : x.length ≤ 1048576) (hr : RRep 0 w u x) :
    Calls Tryz.prog 18 #[.int .i64 v, .int .i64 3, .agg #[u]] w fun e w' => e = .returned (.bool (fitsL v 3 x)) ∧ Below w.heap.size w w' := by
  have HB0 := hideF ((Below.refl w.heap.size w).alloc (Nat.le_refl _) (.cells #[u] 29))
  have HRX := hideF (hr.below ((Below.refl w.heap.size w).alloc (Nat.le_refl _) (.cells #[u] 29)))
  have HSZ := hideF (oneT_size hr)
  obtain ⟨p, cap, rfl⟩ := hr.isSlice
  have r0 := repCell w (.slice p x.length cap)
  obtain ⟨R, hR⟩ : ∃ R, R = fitsL v 3 x := ⟨_, rfl⟩
  rw [← hR]
  have HR := hideF hR
  clear hR hr
  go_enter Tryz.func18, Tryz.ntmps18
  go_wp2_with fail
  refine (l06One_any _ x 0 _ hn HRX.out).mono ?_
  rintro e w1 ⟨rfl, hb1⟩
  have HB1 := hideF (HB0.out.trans (hb1.mono HB0.out.size))
  have HRY := hideF (HRX.out.below hb1)
  have r1 : w1.cell? ⟨w.heap.size, 0, none⟩ = some (.slice p x.length cap) := by rw [hb1.cell (p := ⟨w.heap.size, 0, none⟩) (by simp [World.size_alloc])]; exact r0
  clear hb1 r0
  cases hs : soleL 1 x
  · have HN := hideF (show R = false by rw [HR.out, show fitsL v 3 x = (soleL 1 x && dayB (oneT x).data.toList) from rfl, hs]; rfl)
    go_wp2
    go_ret
    exact ⟨ret_boolF HN.out.symm, HB1.out⟩
  · have HN := hideF (show R = dayB (oneT x).data.toList by rw [HR.out, show fitsL v 3 x = (soleL 1 x && dayB (oneT x).data.toList) from rfl, hs]; rfl)
    clear HR
    generalize oneT x = t at *
    go_wp2_with fail
    refine (specDayRight_any t.data.toList _ (by have := HSZ.out; exact this)).mono ?_
    rintro e w2 ⟨rfl, hb2⟩
    have HB2 := hideF (HB1.out.trans (hb2.mono HB1.out.size))
    clear hb2
    go_wp2
    go_ret
    exact ⟨ret_boolF HN.out.symm, HB2.out⟩

set_option maxHeartbeats 2000000 in
set_option maxRecDepth 100000 in
theorem l06Fits_4 (v : Int) (u : Value) (x : List (List ByteArray)) (w : World) (hn : x.length ≤ 1048576) (hr : RRep 0 w u x) :
    Calls Tryz.prog 18 #[.int .i64 v, .int .i64 4, .agg #[u]] w fun e w' => e = .returned (.bool (fitsL v 4 x)) ∧ Below w.heap.size w w' := by
  have HB0 := hideF ((Below.refl w.heap.size w).alloc (Nat.le_refl _) (.cells #[u] 29))
  have HRX := hideF (hr.below ((Below.refl w.heap.size w).alloc (Nat.le_refl _) (.cells #[u] 29)))
  have HSZ := hideF (oneT_size hr)
  obtain ⟨p, cap, rfl⟩ := hr.isSlice
  have r0 := repCell w (.slice p x.length cap)
  obtain ⟨R, hR⟩ : ∃ R, R = fitsL v 4 x := ⟨_, rfl⟩
  rw [← hR]
  have HR := hideF hR
  clear hR hr
  go_enter Tryz.func18, Tryz.ntmps18
  go_wp2_with fail
  refine (l06One_any _ x 0 _ hn HRX.out).mono ?_
  rintro e w1 ⟨rfl, hb1⟩
  have HB1 := hideF (HB0.out.trans (hb1.mono HB0.out.size))
  have HRY := hideF (HRX.out.below hb1)
  have r1 : w1.cell? ⟨w.heap.size, 0, none⟩ = some (.slice p x.length cap) := by rw [hb1.cell (p := ⟨w.heap.size, 0, none⟩) (by simp [World.size_alloc])]; exact r0
  clear hb1 r0
  cases hs : soleL 1 x
  · have HN := hideF (show R = false by rw [HR.out, show fitsL v 4 x = (soleL 1 x && timeB v (oneT x).data.toList) from rfl, hs]; rfl)
    go_wp2
    go_ret
    exact ⟨ret_boolF HN.out.symm, HB1.out⟩
  · have HN := hideF (show R = timeB v (oneT x).data.toList by rw [HR.out, show fitsL v 4 x = (soleL 1 x && timeB v (oneT x).data.toList) from rfl, hs]; rfl)
    clear HR
    generalize oneT x = t at *
    go_wp2_with fail
    refine (specTimeRight_all v t.data.toList _).mono ?_
    rintro e w2 ⟨rfl, hb2⟩
    have HB2 := hideF (HB1.out.trans (hb2.mono HB1.out.size))
    clear hb2
    go_wp2
    go_ret
    exact ⟨ret_boolF HN.out.symm, HB2.out⟩

set_option maxHeartbeats 2000000 in
set_option maxRecDepth 100000 in
theorem l06Fits_5 (v : Int) (u : Value) (x : List (List ByteArray)) (w : World) (hn : x.length ≤ 1048576) (hr : RRep 0 w u x) :
    Calls Tryz.prog 18 #[.int .i64 v, .int .i64 5, .agg #[u]] w fun e w' => e = .returned (.bool (fitsL v 5 x)) ∧ Below w.heap.size w w' := by
  have HB0 := hideF ((Below.refl w.heap.size w).alloc (Nat.le_refl _) (.cells #[u] 29))
  have HRX := hideF (hr.below ((Below.refl w.heap.size w).alloc (Nat.le_refl _) (.cells #[u] 29)))
  have HSZ := hideF (oneT_size hr)
  obtain ⟨p, cap, rfl⟩ := hr.isSlice
  have r0 := repCell w (.slice p x.length cap)
  obtain ⟨R, hR⟩ : ∃ R, R = fitsL v 5 x := ⟨_, rfl⟩
  rw [← hR]
  have HR := hideF hR
  clear hR hr
  go_enter Tryz.func18, Tryz.ntmps18
  go_wp2_with fail
  refine (l06One_any _ x 0 _ hn HRX.out).mono ?_
  rintro e w1 ⟨rfl, hb1⟩
  have HB1 := hideF (HB0.out.trans (hb1.mono HB0.out.size))
  have HRY := hideF (HRX.out.below hb1)
  have r1 : w1.cell? ⟨w.heap.size, 0, none⟩ = some (.slice p x.length cap) := by rw [hb1.cell (p := ⟨w.heap.size, 0, none⟩) (by simp [World.size_alloc])]; exact r0
  clear hb1 r0
  cases hs : soleL 1 x
  · have HN := hideF (show R = false by rw [HR.out, show fitsL v 5 x = (soleL 1 x && codeB v (oneT x)) from rfl, hs]; rfl)
    go_wp2
    go_ret
    exact ⟨ret_boolF HN.out.symm, HB1.out⟩
  · have HE := hideF (show R = codeB v (oneT x) by rw [HR.out, show fitsL v 5 x = (soleL 1 x && codeB v (oneT x)) from rfl, hs]; rfl)
    clear HR
    generalize oneT x = t at *
    by_cases h1 : 1 ≤ (t.size : Int)
    · have H1 := hideF (show decide (1 ≤ t.size) = true by simp; omega)
      by_cases h3 : (t.size : Int) ≤ 3
      · have H3 := hideF (show decide (t.size ≤ 3) = true by simp; omega)
        go_wp2_with fail
        refine (l06Upper_any t _ HSZ.out).mono ?_
        rintro e w2 ⟨rfl, rfl⟩
        cases hc : capA t
        · have HN := hideF (show R = false by rw [HE.out, codeB, hc]; simp)
          go_wp2
          go_ret
          exact ⟨ret_boolF HN.out.symm, HB1.out⟩
        · by_cases hv : 1 < v
          · have HN := hideF (show R = true by rw [HE.out, codeB, hc, H1.out, H3.out]; simp [hv])
            go_wp2
            go_ret
            exact ⟨ret_boolF HN.out.symm, HB1.out⟩
          · have HV := hideF (show R = (!(t.toList == [65]) && !(t.toList == [78])) by rw [HE.out, codeB, hc, H1.out, H3.out]; simp [hv])
            clear HE hc H1 H3
            cases ha : t.toList == [65]
            · cases hb : t.toList == [78]
              · have HN := hideF (show R = true by rw [HV.out, ha, hb]; rfl)
                go_wp2
                go_ret
                exact ⟨ret_boolF HN.out.symm, HB1.out⟩
              · have HN := hideF (show R = decide (1 < v) by rw [HV.out, ha, hb]; simp [hv])
                go_wp2
                go_ret
                exact ⟨ret_boolF HN.out.symm, HB1.out⟩
            · have HN := hideF (show R = decide (1 < v) by rw [HV.out, ha]; simp [hv])
              go_wp2
              go_ret
              exact ⟨ret_boolF HN.out.symm, HB1.out⟩
      · have HN := hideF (show R = false by rw [HE.out, codeB]; have : ¬ t.size ≤ 3 := (by omega); simp [this])
        go_wp2
        go_ret
        exact ⟨ret_boolF HN.out.symm, HB1.out⟩
    · have HN := hideF (show R = false by rw [HE.out, codeB]; have : ¬ 1 ≤ t.size := (by omega); simp [this])
      go_wp2
      go_ret
      exact ⟨ret_boolF HN.out.symm, HB1.out⟩

set_option maxHeartbeats 2000000 in
set_option maxRecDepth 100000 in
theorem l06Fits_6 (v : Int) (u : Value) (x : List (List ByteArray)) (w : World) (hn : x.length ≤ 1048576) (hr : RRep 0 w u x) :
    Calls Tryz.prog 18 #[.int .i64 v, .int .i64 6, .agg #[u]] w fun e w' => e = .returned (.bool (fitsL v 6 x)) ∧ Below w.heap.size w w' := by
  have HB0 := hideF ((Below.refl w.heap.size w).alloc (Nat.le_refl _) (.cells #[u] 29))
  have HRX := hideF (hr.below ((Below.refl w.heap.size w).alloc (Nat.le_refl _) (.cells #[u] 29)))
  have HSZ := hideF (oneT_size hr)
  obtain ⟨p, cap, rfl⟩ := hr.isSlice
  have r0 := repCell w (.slice p x.length cap)
  obtain ⟨R, hR⟩ : ∃ R, R = fitsL v 6 x := ⟨_, rfl⟩
  rw [← hR]
  have HR := hideF hR
  clear hR hr
  go_enter Tryz.func18, Tryz.ntmps18
  go_wp2_with fail
  refine (l06One_any _ x 0 _ hn HRX.out).mono ?_
  rintro e w1 ⟨rfl, hb1⟩
  have HB1 := hideF (HB0.out.trans (hb1.mono HB0.out.size))
  have HRY := hideF (HRX.out.below hb1)
  have r1 : w1.cell? ⟨w.heap.size, 0, none⟩ = some (.slice p x.length cap) := by rw [hb1.cell (p := ⟨w.heap.size, 0, none⟩) (by simp [World.size_alloc])]; exact r0
  clear hb1 r0
  have HN := hideF (show R = compsL 5 1 x by rw [HR.out]; rfl)
  clear HR
  go_wp2_with fail
  refine (l06Comps_any _ x 5 1 0 _ hn (by omega) (by omega) HRY.out).mono ?_
  rintro e w2 ⟨rfl, hb2⟩
  have HB2 := hideF (HB1.out.trans (hb2.mono HB1.out.size))
  clear hb2
  go_wp2
  go_ret
  exact ⟨ret_boolF HN.out.symm, HB2.out⟩

set_option maxHeartbeats 2000000 in
set_option maxRecDepth 100000 in
theorem l06Fits_7 (v : Int) (u : Value) (x : List (List ByteArray)) (w : World) (hn : x.length ≤ 1048576) (hr : RRep 0 w u x) :
    Calls Tryz.prog 18 #[.int .i64 v, .int .i64 7, .agg #[u]] w fun e w' => e = .returned (.bool (fitsL v 7 x)) ∧ Below w.heap.size w w' := by
  have HB0 := hideF ((Below.refl w.heap.size w).alloc (Nat.le_refl _) (.cells #[u] 29))
  have HRX := hideF (hr.below ((Below.refl w.heap.size w).alloc (Nat.le_refl _) (.cells #[u] 29)))
  have HSZ := hideF (oneT_size hr)
  obtain ⟨p, cap, rfl⟩ := hr.isSlice
  have r0 := repCell w (.slice p x.length cap)
  obtain ⟨R, hR⟩ : ∃ R, R = fitsL v 7 x := ⟨_, rfl⟩
  rw [← hR]
  have HR := hideF hR
  clear hR hr
  go_enter Tryz.func18, Tryz.ntmps18
  go_wp2_with fail
  refine (l06One_any _ x 0 _ hn HRX.out).mono ?_
  rintro e w1 ⟨rfl, hb1⟩
  have HB1 := hideF (HB0.out.trans (hb1.mono HB0.out.size))
  have HRY := hideF (HRX.out.below hb1)
  have r1 : w1.cell? ⟨w.heap.size, 0, none⟩ = some (.slice p x.length cap) := by rw [hb1.cell (p := ⟨w.heap.size, 0, none⟩) (by simp [World.size_alloc])]; exact r0
  clear hb1 r0
  by_cases hv : v = 1
  · have hvb : (v == 1) = true := by simpa using hv
    have HN := hideF (show R = compsL 3 0 x by rw [HR.out]; show (if v = 1 then compsL 3 0 x else compsL 8 10 x) = _; rw [if_pos hv])
    clear HR hv
    go_wp2_with fail
    refine (l06Comps_any _ x 3 0 0 _ hn (by omega) (by omega) HRY.out).mono ?_
    rintro e w2 ⟨rfl, hb2⟩
    have HB2 := hideF (HB1.out.trans (hb2.mono HB1.out.size))
    clear hb2
    go_wp2
    go_ret
    exact ⟨ret_boolF HN.out.symm, HB2.out⟩
  · have hvb : (v == 1) = false := by simpa using hv
    have HN := hideF (show R = compsL 8 10 x by rw [HR.out]; show (if v = 1 then compsL 3 0 x else compsL 8 10 x) = _; rw [if_neg hv])
    clear HR hv
    go_wp2_with fail
    refine (l06Comps_any _ x 8 10 0 _ hn (by omega) (by omega) HRY.out).mono ?_
    rintro e w2 ⟨rfl, hb2⟩
    have HB2 := hideF (HB1.out.trans (hb2.mono HB1.out.size))
    clear hb2
    go_wp2
    go_ret
    exact ⟨ret_boolF HN.out.symm, HB2.out⟩

set_option maxHeartbeats 2000000 in
set_option maxRecDepth 100000 in
theorem l06Fits_8 (v : Int) (u : Value) (x : List (List ByteArray)) (w : World) (hn : x.length ≤ 1048576) (hr : RRep 0 w u x) :
    Calls Tryz.prog 18 #[.int .i64 v, .int .i64 8, .agg #[u]] w fun e w' => e = .returned (.bool (fitsL v 8 x)) ∧ Below w.heap.size w w' := by
  have HB0 := hideF ((Below.refl w.heap.size w).alloc (Nat.le_refl _) (.cells #[u] 29))
  have HRX := hideF (hr.below ((Below.refl w.heap.size w).alloc (Nat.le_refl _) (.cells #[u] 29)))
  have HSZ := hideF (oneT_size hr)
  obtain ⟨p, cap, rfl⟩ := hr.isSlice
  have r0 := repCell w (.slice p x.length cap)
  obtain ⟨R, hR⟩ : ∃ R, R = fitsL v 8 x := ⟨_, rfl⟩
  rw [← hR]
  have HR := hideF hR
  clear hR hr
  go_enter Tryz.func18, Tryz.ntmps18
  go_wp2_with fail
  refine (l06One_any _ x 0 _ hn HRX.out).mono ?_
  rintro e w1 ⟨rfl, hb1⟩
  have HB1 := hideF (HB0.out.trans (hb1.mono HB0.out.size))
  have HRY := hideF (HRX.out.below hb1)
  have r1 : w1.cell? ⟨w.heap.size, 0, none⟩ = some (.slice p x.length cap) := by rw [hb1.cell (p := ⟨w.heap.size, 0, none⟩) (by simp [World.size_alloc])]; exact r0
  clear hb1 r0
  by_cases hv : v = 1
  · have hvb : (v == 1) = true := by simpa using hv
    have HN := hideF (show R = kindL 2 x by rw [HR.out]; show (if v = 1 then kindL 2 x else kindL 3 x) = _; rw [if_pos hv])
    clear HR hv
    go_wp2_with fail
    refine (l06Kind_2 _ x v 0 _ hvb hn HRY.out).mono ?_
    rintro e w2 ⟨rfl, hb2⟩
    have HB2 := hideF (HB1.out.trans (hb2.mono HB1.out.size))
    clear hb2
    go_wp2
    go_ret
    exact ⟨ret_boolF HN.out.symm, HB2.out⟩
  · have hvb : (v == 1) = false := by simpa using hv
    have HN := hideF (show R = kindL 3 x by rw [HR.out]; show (if v = 1 then kindL 2 x else kindL 3 x) = _; rw [if_neg hv])
    clear HR hv
    go_wp2_with fail
    refine (l06Kind_3 _ x v 0 _ hvb hn HRY.out).mono ?_
    rintro e w2 ⟨rfl, hb2⟩
    have HB2 := hideF (HB1.out.trans (hb2.mono HB1.out.size))
    clear hb2
    go_wp2
    go_ret
    exact ⟨ret_boolF HN.out.symm, HB2.out⟩

set_option maxHeartbeats 2000000 in
set_option maxRecDepth 100000 in
theorem l06Fits_9 (v : Int) (u : Value) (x : List (List ByteArray)) (w : World) (hn : x.length ≤ 1048576) (hr : RRep 0 w u x) :
    Calls Tryz.prog 18 #[.int .i64 v, .int .i64 9, .agg #[u]] w fun e w' => e = .returned (.bool (fitsL v 9 x)) ∧ Below w.heap.size w w' := by
  have HB0 := hideF ((Below.refl w.heap.size w).alloc (Nat.le_refl _) (.cells #[u] 29))
  have HRX := hideF (hr.below ((Below.refl w.heap.size w).alloc (Nat.le_refl _) (.cells #[u] 29)))
  have HSZ := hideF (oneT_size hr)
  obtain ⟨p, cap, rfl⟩ := hr.isSlice
  have r0 := repCell w (.slice p x.length cap)
  obtain ⟨R, hR⟩ : ∃ R, R = fitsL v 9 x := ⟨_, rfl⟩
  rw [← hR]
  have HR := hideF hR
  clear hR hr
  go_enter Tryz.func18, Tryz.ntmps18
  go_wp2_with fail
  refine (l06One_any _ x 0 _ hn HRX.out).mono ?_
  rintro e w1 ⟨rfl, hb1⟩
  have HB1 := hideF (HB0.out.trans (hb1.mono HB0.out.size))
  have HRY := hideF (HRX.out.below hb1)
  have r1 : w1.cell? ⟨w.heap.size, 0, none⟩ = some (.slice p x.length cap) := by rw [hb1.cell (p := ⟨w.heap.size, 0, none⟩) (by simp [World.size_alloc])]; exact r0
  clear hb1 r0
  by_cases hv : v < 3
  · skip
    have HN := hideF (show R = compsL 6 0 x by rw [HR.out]; show (if v < 3 then compsL 6 0 x else compsL 9 0 x) = _; rw [if_pos hv])
    clear HR
    go_wp2_with fail
    refine (l06Comps_any _ x 6 0 0 _ hn (by omega) (by omega) HRY.out).mono ?_
    rintro e w2 ⟨rfl, hb2⟩
    have HB2 := hideF (HB1.out.trans (hb2.mono HB1.out.size))
    clear hb2
    go_wp2
    go_ret
    exact ⟨ret_boolF HN.out.symm, HB2.out⟩
  · skip
    have HN := hideF (show R = compsL 9 0 x by rw [HR.out]; show (if v < 3 then compsL 6 0 x else compsL 9 0 x) = _; rw [if_neg hv])
    clear HR
    go_wp2_with fail
    refine (l06Comps_any _ x 9 0 0 _ hn (by omega) (by omega) HRY.out).mono ?_
    rintro e w2 ⟨rfl, hb2⟩
    have HB2 := hideF (HB1.out.trans (hb2.mono HB1.out.size))
    clear hb2
    go_wp2
    go_ret
    exact ⟨ret_boolF HN.out.symm, HB2.out⟩

end Go.Proofs.YtfjjbofnfigehaaGreatDoor
