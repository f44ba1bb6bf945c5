/- What a right Field is, as the model asks it. -/
import Derived.Test.YtolgjdnhhbbebaaGreatDoorXGMem
import Derived.Test.YtolgjdnhhbbebaaGreatDoorXGFEsc
import Derived.Test.YtolgjdnhhbbebaaGreatDoorXGFText
import Derived.Laws.Runes
import Derived.Lib.AppendStr
namespace Go.Proofs.YtolgjdnhhbbebaaGreatDoor
open Go.RowKit

/-- Is the last one empty? -/
def endEmpty {α : Type} (emp : α → Bool) (xs : List α) : Bool := match xs.getLast? with | some x => emp x | none => false
/-- A list of right ones, not too many, the last one not empty. -/
def rightB {α : Type} (f : α → Bool) (emp : α → Bool) (most : Nat) (xs : List α) : Bool := xs.all f && decide (xs.length ≤ most) && !endEmpty emp xs
def subB (s : ByteArray) : Bool := plainB s && decide ((s.size : Int) ≤ 60)
def empS (s : ByteArray) : Bool := decide (s.size = 0)
def empL {α : Type} (xs : List α) : Bool := decide (xs.length = 0)
def compB : List ByteArray → Bool := rightB subB empS 5
def repB : List (List ByteArray) → Bool := rightB compB empL 10
def fldB : List (List (List ByteArray)) → Bool := rightB repB empL 5
theorem right_no {α : Type} {f emp : α → Bool} {most : Nat} {xs : List α} (k : Nat) (hk : k < xs.length) (h : f xs[k] = false) : rightB f emp most xs = false := by
  have : xs.all f = false := List.all_eq_false.2 ⟨xs[k], List.getElem_mem hk, by simp [h]⟩
  simp [rightB, this]
theorem right_all {α : Type} {f emp : α → Bool} {most : Nat} {xs : List α} (h : ∀ k (hk : k < xs.length), f xs[k] = true) : rightB f emp most xs = (decide (xs.length ≤ most) && !endEmpty emp xs) := by
  have : xs.all f = true := List.all_eq_true.2 fun x hx => by
    obtain ⟨i, hi, rfl⟩ := List.getElem_of_mem hx
    exact h i hi
  simp [rightB, this]
theorem endEmpty_nil {α : Type} {emp : α → Bool} {xs : List α} (h : xs.length = 0) : endEmpty emp xs = false := by
  obtain rfl := List.eq_nil_of_length_eq_zero h
  rfl
theorem endEmpty_last {α : Type} {emp : α → Bool} {xs : List α} (k : Nat) (hk : k < xs.length) (h : xs.length = k + 1) : endEmpty emp xs = emp (xs[k]'hk) := by
  unfold endEmpty
  have hl : 0 < xs.length := by omega
  rw [List.getLast?_eq_getElem?, show xs.length - 1 = k by omega, List.getElem?_eq_getElem (by omega)]
theorem all_succ {α : Type} {f : α → Bool} {xs : List α} {k : Nat} (h : ∀ j (hj : j < xs.length), j < k → f xs[j] = true) (hk : ∀ hk : k < xs.length, f xs[k] = true) : ∀ j (hj : j < xs.length), j < k + 1 → f xs[j] = true := by
  intro j hj h1
  by_cases e : j = k
  · subst e; exact hk hj
  · exact h j hj (by omega)

set_option maxHeartbeats 400000 in
theorem l04Sub_any (s : ByteArray) (w : World) (hs : s.size ≤ maxLen) :
    Calls Tryz.prog 120 #[.string s] w fun e w' => e = .returned (.bool (subB s)) ∧ Below w.heap.size w w' := by
  go_enter Tryz.func120, Tryz.ntmps120
  go_wp2_with fail
  refine (l04Plain_any s 60 _ hs).mono ?_
  rintro e w' ⟨rfl, rfl⟩
  go_wp2
  go_ret
  exact ⟨rfl, Below.refl _ _⟩

set_option maxHeartbeats 4000000 in
theorem specComp_any (u : Value) (x : List ByteArray) (B : Nat) (w : World) (hn : x.length ≤ 1048576) (hr : RComp B w u x) :
    Calls Tryz.prog 108 #[.agg #[u]] w fun e w' => e = .returned (.bool (compB x)) ∧ Below w.heap.size w w' := by
  obtain ⟨R, hR⟩ : ∃ R, R = compB x := ⟨_, rfl⟩
  rw [← hR]
  have HR := hideF hR
  clear hR
  obtain ⟨p, cap, rfl, h1, h2, h4⟩ := hr
  unfold maxLen at h2
  have H4 := hideF h4
  clear h4
  have r0 : (w.alloc (.cells #[.slice p x.length cap] 104)).cell? ⟨w.heap.size, 0, none⟩ = some (.slice p x.length cap) := (row_new w [.slice p x.length cap] 104).cell 0
  go_enter Tryz.func108, Tryz.ntmps108
  go_wp2
  go_loopw [4] (fun i wr => ∃ (X : World) (k : Nat), X = wr ∧ k ≤ x.length ∧ i = .int .i64 k ∧ Hid (Below w.heap.size w X) ∧ Hid (Row X w.heap.size 104 [.slice p x.length cap]) ∧ Hid (∀ j (hj : j < x.length), j < k → subB x[j] = true)) (fun i _ => x.length - (intOf i).toNat)
  case atStart => exact ⟨_, 0, rfl, Nat.zero_le _, rfl, (Below.refl _ _).alloc (Nat.le_refl _) _, row_new w [.slice p x.length cap] 104, fun j _ h => absurd h (by omega)⟩
  case round =>
    obtain ⟨X, k, rfl, hk, rfl, HB, HRow, HA⟩ := hrel
    have c0 : X.cell? ⟨w.heap.size, 0, none⟩ = some (.slice p x.length cap) := HRow.out.cell 0
    by_cases hlt : k < x.length
    · obtain ⟨g, off, hp, hg, _, hc⟩ := H4.out (by omega)
      subst hp
      obtain ⟨v, hv, hrv⟩ := hc k hlt
      have hck : X.cell? ⟨g, off + k, none⟩ = some v := by rw [HB.out.cell (p := ⟨g, off + k, none⟩) hg]; exact hv
      obtain ⟨rfl, hvs⟩ := hrv
      clear hv hc
      go_wp2_with fail
      refine (l04Sub_any (x[k]'hlt) _ hvs).mono ?_
      rintro e w2 ⟨rfl, hb2⟩
      have HB2 := hideF (HB.out.trans (hb2.mono HB.out.size))
      have HRow2 := hideF (HRow.out.below hb2 HRow.out.lt)
      clear hb2
      cases ho : subB (x[k]'hlt)
      · have HN := hideF (show R = false by rw [HR.out]; exact right_no k hlt ho)
        go_wp2
        go_ret
        exact ⟨ret_boolF HN.out.symm, HB2.out⟩
      · have HA2 := hideF (all_succ HA.out (fun _ => ho))
        go_wp2
        go_roundw
        case rel => exact ⟨_, k + 1, rfl, by omega, by go_num, HB2, HRow2, HA2⟩
        case measure => simp [intOf]; omega
    · have HALL := hideF (show R = (decide (x.length ≤ 5) && !endEmpty empS x) by rw [HR.out]; exact right_all (fun j hj => HA.out j hj (by omega)))
      by_cases h5 : (x.length : Int) ≤ 5
      · have h5' : x.length ≤ 5 := by omega
        by_cases h0 : (x.length : Int) = 0
        · have hz : ((x.length : Int) == 0) = true := by simpa using h0
          have HE := hideF (endEmpty_nil (emp := empS) (xs := x) (by omega))
          go_wp2
          go_ret
          exact ⟨ret_boolF (by rw [HALL.out, HE.out]; simp [h5']), HB.out⟩
        · have hz : ((x.length : Int) == 0) = false := by simpa using h0
          obtain ⟨n, hn1⟩ : ∃ n, x.length = n + 1 := ⟨x.length - 1, by omega⟩
          have hnl : n < x.length := by omega
          have HE := hideF (endEmpty_last (emp := empS) n hnl hn1)
          obtain ⟨g, off, hp, hg, _, hc⟩ := H4.out (by omega)
          subst hp
          obtain ⟨v, hv, hrv⟩ := hc n hnl
          have hck : X.cell? ⟨g, off + n, none⟩ = some v := by rw [HB.out.cell (p := ⟨g, off + n, none⟩) hg]; exact hv
          have hw1 : IntKind.i64.wrap ((x.length : Int) - 1) = (n : Int) := by rw [show ((x.length : Int) - 1) = (n : Int) by omega]; exact wrap_small _ (by omega) (by omega)
          have hlt1 : (n : Int) < (x.length : Int) := by omega
          have HN1 := hideF hn1
          obtain ⟨rfl, _⟩ := hrv
          clear hv hc
          clear hn1
          by_cases he : (x[n]'hnl).size = 0
          · have he2 : x[n]'hnl = ⟨#[]⟩ := ByteArray.ext (Array.eq_empty_of_size_eq_zero he)
            have HX := hideF (show R = false by rw [HALL.out, HE.out]; simp [empS, he])
            rw [he2] at hck
            clear he he2
            go_wp2
            go_ret
            exact ⟨ret_boolF (by rw [HX.out]), HB.out⟩
          · have he2 : x[n]'hnl ≠ ⟨#[]⟩ := fun h => he (by rw [h]; rfl)
            have he3 := toList_neF he2
            have HX := hideF (show R = true by rw [HALL.out, HE.out]; simp [empS, he, h5'])
            clear he he2
            generalize x[n]'hnl = Y at *
            go_wp2
            go_ret
            exact ⟨ret_boolF (by rw [HX.out]; first | done | simpa using he3), HB.out⟩
      · have h5' : ¬ x.length ≤ 5 := by omega
        go_wp2
        go_ret
        exact ⟨ret_boolF (by rw [HALL.out]; simp [h5']), HB.out⟩

set_option maxHeartbeats 4000000 in
theorem specRep_any (u : Value) (x : List (List ByteArray)) (B : Nat) (w : World) (hn : x.length ≤ 1048576) (hm : ∀ i (h : i < x.length), x[i].length ≤ 1048576) (hr : RRep B w u x) :
    Calls Tryz.prog 95 #[.agg #[u]] w fun e w' => e = .returned (.bool (repB x)) ∧ Below w.heap.size w w' := by
  obtain ⟨R, hR⟩ : ∃ R, R = repB x := ⟨_, rfl⟩
  rw [← hR]
  have HR := hideF hR
  have HM := hideF hm
  clear hm
  clear hR
  obtain ⟨p, cap, rfl, h1, h2, h4⟩ := hr
  unfold maxLen at h2
  have H4 := hideF h4
  clear h4
  have r0 : (w.alloc (.cells #[.slice p x.length cap] 102)).cell? ⟨w.heap.size, 0, none⟩ = some (.slice p x.length cap) := (row_new w [.slice p x.length cap] 102).cell 0
  go_enter Tryz.func95, Tryz.ntmps95
  go_wp2
  go_loopw [4] (fun i wr => ∃ (X : World) (k : Nat), X = wr ∧ k ≤ x.length ∧ i = .int .i64 k ∧ Hid (Below w.heap.size w X) ∧ Hid (Row X w.heap.size 102 [.slice p x.length cap]) ∧ Hid (∀ j (hj : j < x.length), j < k → compB x[j] = true)) (fun i _ => x.length - (intOf i).toNat)
  case atStart => exact ⟨_, 0, rfl, Nat.zero_le _, rfl, (Below.refl _ _).alloc (Nat.le_refl _) _, row_new w [.slice p x.length cap] 102, fun j _ h => absurd h (by omega)⟩
  case round =>
    obtain ⟨X, k, rfl, hk, rfl, HB, HRow, HA⟩ := hrel
    have c0 : X.cell? ⟨w.heap.size, 0, none⟩ = some (.slice p x.length cap) := HRow.out.cell 0
    by_cases hlt : k < x.length
    · obtain ⟨g, off, hp, hg, _, hc⟩ := H4.out (by omega)
      subst hp
      obtain ⟨v, hv, hrv⟩ := hc k hlt
      have hck : X.cell? ⟨g, off + k, none⟩ = some v := by rw [HB.out.cell (p := ⟨g, off + k, none⟩) hg]; exact hv
      have HRV := hideF (hrv.below HB.out)
      obtain ⟨vp, vc, rfl⟩ := hrv.isSlice
      clear hv hrv hc
      go_wp2_with fail
      refine (specComp_any _ (x[k]'hlt) B _ (HM.out k hlt) HRV.out).mono ?_
      rintro e w2 ⟨rfl, hb2⟩
      have HB2 := hideF (HB.out.trans (hb2.mono HB.out.size))
      have HRow2 := hideF (HRow.out.below hb2 HRow.out.lt)
      clear hb2
      cases ho : compB (x[k]'hlt)
      · have HN := hideF (show R = false by rw [HR.out]; exact right_no k hlt ho)
        go_wp2
        go_ret
        exact ⟨ret_boolF HN.out.symm, HB2.out⟩
      · have HA2 := hideF (all_succ HA.out (fun _ => ho))
        go_wp2
        go_roundw
        case rel => exact ⟨_, k + 1, rfl, by omega, by go_num, HB2, HRow2, HA2⟩
        case measure => simp [intOf]; omega
    · have HALL := hideF (show R = (decide (x.length ≤ 10) && !endEmpty empL x) by rw [HR.out]; exact right_all (fun j hj => HA.out j hj (by omega)))
      by_cases h5 : (x.length : Int) ≤ 10
      · have h5' : x.length ≤ 10 := by omega
        by_cases h0 : (x.length : Int) = 0
        · have hz : ((x.length : Int) == 0) = true := by simpa using h0
          have HE := hideF (endEmpty_nil (emp := empL) (xs := x) (by omega))
          go_wp2
          go_ret
          exact ⟨ret_boolF (by rw [HALL.out, HE.out]; simp [h5']), HB.out⟩
        · have hz : ((x.length : Int) == 0) = false := by simpa using h0
          obtain ⟨n, hn1⟩ : ∃ n, x.length = n + 1 := ⟨x.length - 1, by omega⟩
          have hnl : n < x.length := by omega
          have HE := hideF (endEmpty_last (emp := empL) n hnl hn1)
          obtain ⟨g, off, hp, hg, _, hc⟩ := H4.out (by omega)
          subst hp
          obtain ⟨v, hv, hrv⟩ := hc n hnl
          have hck : X.cell? ⟨g, off + n, none⟩ = some v := by rw [HB.out.cell (p := ⟨g, off + n, none⟩) hg]; exact hv
          have hw1 : IntKind.i64.wrap ((x.length : Int) - 1) = (n : Int) := by rw [show ((x.length : Int) - 1) = (n : Int) by omega]; exact wrap_small _ (by omega) (by omega)
          have hlt1 : (n : Int) < (x.length : Int) := by omega
          have HN1 := hideF hn1
          obtain ⟨vp, vc, rfl⟩ := hrv.isSlice
          clear hv hrv hc
          clear hn1
          by_cases he : (x[n]'hnl).length = 0
          · have he' : ¬ 0 < ((x[n]'hnl).length : Int) := by omega
            have HX := hideF (show R = false by rw [HALL.out, HE.out]; simp [empL, he])
            clear he
            go_wp2
            go_ret
            exact ⟨ret_boolF (by rw [HX.out]; exact decide_eq_false (by omega)), HB.out⟩
          · have he' : 0 < ((x[n]'hnl).length : Int) := by omega
            have HX := hideF (show R = true by rw [HALL.out, HE.out]; simp [empL, he, h5'])
            clear he
            go_wp2
            go_ret
            exact ⟨ret_boolF (by rw [HX.out]; exact decide_eq_true (by omega)), HB.out⟩
      · have h5' : ¬ x.length ≤ 10 := by omega
        go_wp2
        go_ret
        exact ⟨ret_boolF (by rw [HALL.out]; simp [h5']), HB.out⟩

set_option maxHeartbeats 4000000 in
theorem specField_any (u : Value) (x : List (List (List ByteArray))) (B : Nat) (w : World) (hn : x.length ≤ 1048576) (hm : ∀ i (h : i < x.length), x[i].length ≤ 1048576) (hm2 : ∀ i (h : i < x.length) j (hj : j < x[i].length), x[i][j].length ≤ 1048576) (hr : RFld B w u x) :
    Calls Tryz.prog 74 #[.agg #[u]] w fun e w' => e = .returned (.bool (fldB x)) ∧ Below w.heap.size w w' := by
  obtain ⟨R, hR⟩ : ∃ R, R = fldB x := ⟨_, rfl⟩
  rw [← hR]
  have HR := hideF hR
  have HM := hideF hm
  have HM2 := hideF hm2
  clear hm hm2
  clear hR
  obtain ⟨p, cap, rfl, h1, h2, h4⟩ := hr
  unfold maxLen at h2
  have H4 := hideF h4
  clear h4
  have r0 : (w.alloc (.cells #[.slice p x.length cap] 76)).cell? ⟨w.heap.size, 0, none⟩ = some (.slice p x.length cap) := (row_new w [.slice p x.length cap] 76).cell 0
  go_enter Tryz.func74, Tryz.ntmps74
  go_wp2
  go_loopw [4] (fun i wr => ∃ (X : World) (k : Nat), X = wr ∧ k ≤ x.length ∧ i = .int .i64 k ∧ Hid (Below w.heap.size w X) ∧ Hid (Row X w.heap.size 76 [.slice p x.length cap]) ∧ Hid (∀ j (hj : j < x.length), j < k → repB x[j] = true)) (fun i _ => x.length - (intOf i).toNat)
  case atStart => exact ⟨_, 0, rfl, Nat.zero_le _, rfl, (Below.refl _ _).alloc (Nat.le_refl _) _, row_new w [.slice p x.length cap] 76, fun j _ h => absurd h (by omega)⟩
  case round =>
    obtain ⟨X, k, rfl, hk, rfl, HB, HRow, HA⟩ := hrel
    have c0 : X.cell? ⟨w.heap.size, 0, none⟩ = some (.slice p x.length cap) := HRow.out.cell 0
    by_cases hlt : k < x.length
    · obtain ⟨g, off, hp, hg, _, hc⟩ := H4.out (by omega)
      subst hp
      obtain ⟨v, hv, hrv⟩ := hc k hlt
      have hck : X.cell? ⟨g, off + k, none⟩ = some v := by rw [HB.out.cell (p := ⟨g, off + k, none⟩) hg]; exact hv
      have HRV := hideF (hrv.below HB.out)
      obtain ⟨vp, vc, rfl⟩ := hrv.isSlice
      clear hv hrv hc
      go_wp2_with fail
      refine (specRep_any _ (x[k]'hlt) B _ (HM.out k hlt) (HM2.out k hlt) HRV.out).mono ?_
      rintro e w2 ⟨rfl, hb2⟩
      have HB2 := hideF (HB.out.trans (hb2.mono HB.out.size))
      have HRow2 := hideF (HRow.out.below hb2 HRow.out.lt)
      clear hb2
      cases ho : repB (x[k]'hlt)
      · have HN := hideF (show R = false by rw [HR.out]; exact right_no k hlt ho)
        go_wp2
        go_ret
        exact ⟨ret_boolF HN.out.symm, HB2.out⟩
      · have HA2 := hideF (all_succ HA.out (fun _ => ho))
        go_wp2
        go_roundw
        case rel => exact ⟨_, k + 1, rfl, by omega, by go_num, HB2, HRow2, HA2⟩
        case measure => simp [intOf]; omega
    · have HALL := hideF (show R = (decide (x.length ≤ 5) && !endEmpty empL x) by rw [HR.out]; exact right_all (fun j hj => HA.out j hj (by omega)))
      by_cases h5 : (x.length : Int) ≤ 5
      · have h5' : x.length ≤ 5 := by omega
        by_cases h0 : (x.length : Int) = 0
        · have hz : ((x.length : Int) == 0) = true := by simpa using h0
          have HE := hideF (endEmpty_nil (emp := empL) (xs := x) (by omega))
          go_wp2
          go_ret
          exact ⟨ret_boolF (by rw [HALL.out, HE.out]; simp [h5']), HB.out⟩
        · have hz : ((x.length : Int) == 0) = false := by simpa using h0
          obtain ⟨n, hn1⟩ : ∃ n, x.length = n + 1 := ⟨x.length - 1, by omega⟩
          have hnl : n < x.length := by omega
          have HE := hideF (endEmpty_last (emp := empL) n hnl hn1)
          obtain ⟨g, off, hp, hg, _, hc⟩ := H4.out (by omega)
          subst hp
          obtain ⟨v, hv, hrv⟩ := hc n hnl
          have hck : X.cell? ⟨g, off + n, none⟩ = some v := by rw [HB.out.cell (p := ⟨g, off + n, none⟩) hg]; exact hv
          have hw1 : IntKind.i64.wrap ((x.length : Int) - 1) = (n : Int) := by rw [show ((x.length : Int) - 1) = (n : Int) by omega]; exact wrap_small _ (by omega) (by omega)
          have hlt1 : (n : Int) < (x.length : Int) := by omega
          have HN1 := hideF hn1
          obtain ⟨vp, vc, rfl⟩ := hrv.isSlice
          clear hv hrv hc
          clear hn1
          by_cases he : (x[n]'hnl).length = 0
          · have he' : ¬ 0 < ((x[n]'hnl).length : Int) := by omega
            have HX := hideF (show R = false by rw [HALL.out, HE.out]; simp [empL, he])
            clear he
            go_wp2
            go_ret
            exact ⟨ret_boolF (by rw [HX.out]; exact decide_eq_false (by omega)), HB.out⟩
          · have he' : 0 < ((x[n]'hnl).length : Int) := by omega
            have HX := hideF (show R = true by rw [HALL.out, HE.out]; simp [empL, he, h5'])
            clear he
            go_wp2
            go_ret
            exact ⟨ret_boolF (by rw [HX.out]; exact decide_eq_true (by omega)), HB.out⟩
      · have h5' : ¬ x.length ≤ 5 := by omega
        go_wp2
        go_ret
        exact ⟨ret_boolF (by rw [HALL.out]; simp [h5']), HB.out⟩
end Go.Proofs.YtolgjdnhhbbebaaGreatDoor
/- What stands within what, behind the program's interface: inner, partEmpty, partLimits, leaveOutEnd. -/
namespace Go.Proofs.YtolgjdnhhbbebaaGreatDoor
open Go.RowKit

/-- A part that holds a list. -/
def RI {α : Type} (T : TypeId) (R : World → Value → α → Prop) (w : World) (v : Value) (x : α) : Prop := ∃ u, v = .iface T (.agg #[u]) ∧ R w u x
def RIs (_ : World) (v : Value) (x : ByteArray) : Prop := v = .iface 124 (.string x) ∧ x.size ≤ maxLen
instance {α : Type} (B : Nat) (T : TypeId) (R : World → Value → α → Prop) [Lasts B R] : Lasts B (RI T R) := ⟨fun hs ⟨u, e, h⟩ => ⟨u, e, Lasts.go hs h⟩⟩
instance (B : Nat) : Lasts B RIs := ⟨fun _ h => h⟩
abbrev PSub : World → Value → ByteArray → Prop := RIs
abbrev PComp : World → Value → List ByteArray → Prop := RI 104 (RComp 0)
abbrev PRep : World → Value → List (List ByteArray) → Prop := RI 102 (RRep 0)
abbrev PField : World → Value → List (List (List ByteArray)) → Prop := RI 76 (RFld 0)

theorem Tryz.infoPart : (Tryz.prog.info? 123).map (fun i => (i.zero, i.size, i.bytes)) = some (some .nilIface, 1, 16) := by kernel_rfl
def lenOf : Value → Nat
  | .slice _ n _ => n
  | _ => 0
theorem set_snocP (vs Z : List Value) (k n : Nat) (u : Value) (h : vs.length = k) (hk : k < n) (hZ : Z.length = n) : (vs ++ Z.drop k).set k u = (vs ++ [u]) ++ Z.drop (k + 1) := by
  rw [List.set_append_right _ _ (by omega), h, Nat.sub_self, List.drop_eq_getElem_cons (by omega : k < Z.length), List.set_cons_zero, List.append_assoc]
  rfl
theorem Tryz.innerField (v : Value) (w : World) : (Go.method 313 76 v "loop.example/g00416/impl.inner").run Tryz.prog w = .ok (159, v) w := by kernel_rfl
theorem Tryz.asFieldField (v : Value) (xT : TypeId) (w : World) : (Instr.typeAssert (.iface 76 v) xT 76 true).run Tryz.prog w = .ok (.tuple #[v, .bool true]) w := by kernel_rfl
theorem Tryz.asFieldRep (v : Value) (xT : TypeId) (w : World) : (Instr.typeAssert (.iface 76 v) xT 102 true).run Tryz.prog w = .ok (.tuple #[.agg #[.slice none 0 0], .bool false]) w := by kernel_rfl
theorem Tryz.asFieldComp (v : Value) (xT : TypeId) (w : World) : (Instr.typeAssert (.iface 76 v) xT 104 true).run Tryz.prog w = .ok (.tuple #[.agg #[.slice none 0 0], .bool false]) w := by kernel_rfl
theorem Tryz.asFieldsubPart (v : Value) (xT : TypeId) (w : World) : (Instr.typeAssert (.iface 76 v) xT 124 true).run Tryz.prog w = .ok (.tuple #[.string ⟨#[]⟩, .bool false]) w := by kernel_rfl
theorem Tryz.innerRep (v : Value) (w : World) : (Go.method 313 102 v "loop.example/g00416/impl.inner").run Tryz.prog w = .ok (163, v) w := by kernel_rfl
theorem Tryz.asRepField (v : Value) (xT : TypeId) (w : World) : (Instr.typeAssert (.iface 102 v) xT 76 true).run Tryz.prog w = .ok (.tuple #[.agg #[.slice none 0 0], .bool false]) w := by kernel_rfl
theorem Tryz.asRepRep (v : Value) (xT : TypeId) (w : World) : (Instr.typeAssert (.iface 102 v) xT 102 true).run Tryz.prog w = .ok (.tuple #[v, .bool true]) w := by kernel_rfl
theorem Tryz.asRepComp (v : Value) (xT : TypeId) (w : World) : (Instr.typeAssert (.iface 102 v) xT 104 true).run Tryz.prog w = .ok (.tuple #[.agg #[.slice none 0 0], .bool false]) w := by kernel_rfl
theorem Tryz.asRepsubPart (v : Value) (xT : TypeId) (w : World) : (Instr.typeAssert (.iface 102 v) xT 124 true).run Tryz.prog w = .ok (.tuple #[.string ⟨#[]⟩, .bool false]) w := by kernel_rfl
theorem Tryz.innerComp (v : Value) (w : World) : (Go.method 313 104 v "loop.example/g00416/impl.inner").run Tryz.prog w = .ok (165, v) w := by kernel_rfl
theorem Tryz.asCompField (v : Value) (xT : TypeId) (w : World) : (Instr.typeAssert (.iface 104 v) xT 76 true).run Tryz.prog w = .ok (.tuple #[.agg #[.slice none 0 0], .bool false]) w := by kernel_rfl
theorem Tryz.asCompRep (v : Value) (xT : TypeId) (w : World) : (Instr.typeAssert (.iface 104 v) xT 102 true).run Tryz.prog w = .ok (.tuple #[.agg #[.slice none 0 0], .bool false]) w := by kernel_rfl
theorem Tryz.asCompComp (v : Value) (xT : TypeId) (w : World) : (Instr.typeAssert (.iface 104 v) xT 104 true).run Tryz.prog w = .ok (.tuple #[v, .bool true]) w := by kernel_rfl
theorem Tryz.asCompsubPart (v : Value) (xT : TypeId) (w : World) : (Instr.typeAssert (.iface 104 v) xT 124 true).run Tryz.prog w = .ok (.tuple #[.string ⟨#[]⟩, .bool false]) w := by kernel_rfl
theorem Tryz.innersubPart (v : Value) (w : World) : (Go.method 313 124 v "loop.example/g00416/impl.inner").run Tryz.prog w = .ok (168, v) w := by kernel_rfl
theorem Tryz.assubPartField (v : Value) (xT : TypeId) (w : World) : (Instr.typeAssert (.iface 124 v) xT 76 true).run Tryz.prog w = .ok (.tuple #[.agg #[.slice none 0 0], .bool false]) w := by kernel_rfl
theorem Tryz.assubPartRep (v : Value) (xT : TypeId) (w : World) : (Instr.typeAssert (.iface 124 v) xT 102 true).run Tryz.prog w = .ok (.tuple #[.agg #[.slice none 0 0], .bool false]) w := by kernel_rfl
theorem Tryz.assubPartComp (v : Value) (xT : TypeId) (w : World) : (Instr.typeAssert (.iface 124 v) xT 104 true).run Tryz.prog w = .ok (.tuple #[.agg #[.slice none 0 0], .bool false]) w := by kernel_rfl
theorem Tryz.assubPartsubPart (v : Value) (xT : TypeId) (w : World) : (Instr.typeAssert (.iface 124 v) xT 124 true).run Tryz.prog w = .ok (.tuple #[v, .bool true]) w := by kernel_rfl

set_option maxHeartbeats 400000 in
set_option maxRecDepth 100000 in
theorem limitsField (v : Value) (w : World) : Calls Tryz.prog 86 #[.iface 76 v] w fun e w' => e = .returned (.tuple #[.int .i64 5, .int .i64 2]) ∧ w' = w := by
  have a1 := Tryz.asFieldField
  have a2 := Tryz.asFieldRep
  have a3 := Tryz.asFieldComp
  go_enter Tryz.func86, Tryz.ntmps86
  go_wp2
  exact bodyPost_ret (v := .tuple #[.int .i64 5, .int .i64 2]) (by simp [results, Tryz.results86, go_sem]) rfl ⟨rfl, rfl⟩

set_option maxHeartbeats 400000 in
set_option maxRecDepth 100000 in
theorem limitsRep (v : Value) (w : World) : Calls Tryz.prog 86 #[.iface 102 v] w fun e w' => e = .returned (.tuple #[.int .i64 10, .int .i64 1]) ∧ w' = w := by
  have a1 := Tryz.asRepField
  have a2 := Tryz.asRepRep
  have a3 := Tryz.asRepComp
  go_enter Tryz.func86, Tryz.ntmps86
  go_wp2
  exact bodyPost_ret (v := .tuple #[.int .i64 10, .int .i64 1]) (by simp [results, Tryz.results86, go_sem]) rfl ⟨rfl, rfl⟩

set_option maxHeartbeats 400000 in
set_option maxRecDepth 100000 in
theorem limitsComp (v : Value) (w : World) : Calls Tryz.prog 86 #[.iface 104 v] w fun e w' => e = .returned (.tuple #[.int .i64 5, .int .i64 4]) ∧ w' = w := by
  have a1 := Tryz.asCompField
  have a2 := Tryz.asCompRep
  have a3 := Tryz.asCompComp
  go_enter Tryz.func86, Tryz.ntmps86
  go_wp2
  exact bodyPost_ret (v := .tuple #[.int .i64 5, .int .i64 4]) (by simp [results, Tryz.results86, go_sem]) rfl ⟨rfl, rfl⟩

set_option maxHeartbeats 2000000 in
theorem partsOfRep_row {R : World → Value → List (List ByteArray) → Prop} [Lasts 0 R] (hsl : ∀ w u x, R w u x → ∃ p c, u = .slice p x.length c) (v : Value) (xs : List (List (List ByteArray))) (w : World) (hn : xs.length ≤ 1048576) (hr : RL 0 R w v xs) :
    Calls Tryz.prog 160 #[v] w fun e w' => ∃ g vs, e = .returned (.slice (some ⟨g, 0, none⟩) xs.length xs.length) ∧ Row w' g 123 vs ∧ w.heap.size ≤ g ∧ vs.length = xs.length ∧ (∀ j (h1 : j < vs.length) (h2 : j < xs.length), RI 102 R w' vs[j] xs[j]) ∧ Below w.heap.size w w' := by
  obtain ⟨i0, hi, hz0, hz1, hz2⟩ := info_parts Tryz.infoPart
  obtain ⟨p, cap, rfl, h1, h2, h4⟩ := hr
  have H4 := hide h4
  have HSL := hide hsl
  clear h4 hsl
  go_enter Tryz.func160, Tryz.ntmps160
  go_wp2_with (at_make; refine wpList_make_full _ rfl _ _ 129 rfl w.heap.size 123 i0 .nilIface 1 Tryz.underlying129 hi hz0 hz1 _ _ _ _ xs.length rfl rfl rfl rfl ?b2 ?b3 (Nat.le_refl _) ?_)
  case b2 => rw [hz2]; omega
  case b3 => unfold maxLen; omega
  intro w1 hown hgrow
  obtain ⟨Z, hZ, hZl⟩ := own_row hown
  rw [Nat.mul_one] at hZl
  have hb1 : Below w.heap.size w w1 := (Below.refl _ _).grown hgrow (Nat.le_refl _) (by simp)
  have HZ := hide hZ
  have HB := hide hb1
  have HL := hide hZl
  clear hZ hown hgrow hb1 hZl
  go_wp2_with fail
  go_loopw [11] (fun i wr => ∃ (X : World) (k : Nat) (vs : List Value), X = wr ∧ k ≤ xs.length ∧ i = .int .i64 k ∧ Hid (Row X w.heap.size 123 (vs ++ Z.drop k)) ∧ Hid (Below w.heap.size w X) ∧ Hid (vs.length = k) ∧ Hid (∀ j (h1 : j < vs.length) (h2 : j < xs.length), RI 102 R w vs[j] xs[j])) (fun i _ => xs.length - (intOf i).toNat)
  case atStart => exact ⟨_, 0, [], rfl, Nat.zero_le _, rfl, hide (by simpa using HZ.out), HB, hide rfl, hide (fun j h1 _ => absurd h1 (by simp))⟩
  case round =>
    obtain ⟨X, k, vs, rfl, hk, rfl, HRow, HBel, HLn, HEl⟩ := hrel
    by_cases hlt : k < xs.length
    · obtain ⟨g, off, hp, hg, _, hc⟩ := H4.out (by omega)
      subst hp
      obtain ⟨u, hu, hru⟩ := hc k hlt
      have hck : X.cell? ⟨g, off + k, none⟩ = some u := by rw [HBel.out.cell (p := ⟨g, off + k, none⟩) hg]; exact hu
      have HRU := hide hru
      obtain ⟨up, uc, rfl⟩ := HSL.out _ _ _ hru
      have hlt0 := HRow.out.lt
      clear hu hru hc
      have hX1 : Below X.heap.size X (X.alloc (.cells #[.slice up (xs[k]'hlt).length uc] 102)) := (Below.refl _ _).alloc (Nat.le_refl _) _
      have row2 := HRow.out.below hX1 hlt0
      have hll : (vs ++ Z.drop k).length = xs.length := by rw [List.length_append, HLn.out, List.length_drop, HL.out]; omega
      obtain ⟨z, hz⟩ := row2.some k (by rw [hll]; exact hlt)
      have hf := row2.free k
      have hnext := row2.set (j := k) (.iface 102 (.agg #[.slice up (xs[k]'hlt).length uc]))
      rw [set_snocP vs Z k xs.length _ HLn.out hlt HL.out] at hnext
      clear hnext
      have hnext := HRow.out.set (j := k) (.iface 102 (.agg #[.slice up (xs[k]'hlt).length uc]))
      rw [set_snocP vs Z k xs.length _ HLn.out hlt HL.out] at hnext
      have HN := hide (hnext.alloc (.cells #[.slice up (xs[k]'hlt).length uc] 102))
      have HMB := hide ((HBel.out.setCell (p := ⟨w.heap.size, k, none⟩) (Nat.le_refl _) (.iface 102 (.agg #[.slice up (xs[k]'hlt).length uc]))).alloc (by have := HBel.out.size; simpa [World.setCell] using this) (.cells #[.slice up (xs[k]'hlt).length uc] 102))
      have HLn2 : Hid ((vs ++ [Value.iface 102 (.agg #[.slice up (xs[k]'hlt).length uc])]).length = k + 1) := by rw [List.length_append, HLn.out]; exact rfl
      have HEl2 : Hid (∀ j (h1 : j < (vs ++ [Value.iface 102 (.agg #[.slice up (xs[k]'hlt).length uc])]).length) (h2 : j < xs.length), RI 102 R w (vs ++ [Value.iface 102 (.agg #[.slice up (xs[k]'hlt).length uc])])[j] xs[j]) := by
        intro j h1 h2
        rw [HLn2.out] at h1
        by_cases hj : j < k
        · rw [List.getElem_append_left (by rw [HLn.out]; exact hj)]
          exact HEl.out j (by rw [HLn.out]; exact hj) h2
        · have e : j = k := by omega
          subst e
          rw [List.getElem_append_right (by rw [HLn.out]; exact Nat.le_refl _)]
          simp only [HLn.out, Nat.sub_self, List.getElem_cons_zero]
          exact ⟨_, rfl, HRU.out⟩
      clear hnext row2 hll hX1
      go_wp2
      go_roundw
      case rel => exact ⟨_, k + 1, _, rfl, by omega, by go_num, HN, HMB, HLn2, HEl2⟩
      case measure => simp [intOf]; omega
    · have HE : Hid (Row X w.heap.size 123 vs) := by
        have := HRow.out
        rw [List.drop_eq_nil_of_le (by rw [HL.out]; omega), List.append_nil] at this
        exact this
      have HLn3 : Hid (vs.length = xs.length) := by rw [HLn.out]; exact (show k = xs.length by omega)
      go_wp2
      go_ret
      exact ⟨_, vs, rfl, HE.out, Nat.le_refl _, HLn3.out, fun j h1 h2 => Lasts.go (B := 0) (Same.of HBel.out) (HEl.out j h1 h2), HBel.out⟩

set_option maxHeartbeats 1000000 in
theorem innerField_row {R : World → Value → List (List ByteArray) → Prop} [Lasts 0 R] (hsl : ∀ w u x, R w u x → ∃ p c, u = .slice p x.length c) (u : Value) (xs : List (List (List ByteArray))) (w : World) (hn : xs.length ≤ 1048576) (hr : RL 0 R w u xs) :
    Calls Tryz.prog 159 #[.agg #[u]] w fun e w' => ∃ g vs, e = .returned (.slice (some ⟨g, 0, none⟩) xs.length xs.length) ∧ Row w' g 123 vs ∧ w.heap.size ≤ g ∧ vs.length = xs.length ∧ (∀ j (h1 : j < vs.length) (h2 : j < xs.length), RI 102 R w' vs[j] xs[j]) ∧ Below w.heap.size w w' := by
  have HR := hide hr
  obtain ⟨p, c, rfl⟩ := hr.isSlice
  clear hr
  go_enter Tryz.func159, Tryz.ntmps159
  go_wp2_with fail
  refine (partsOfRep_row hsl _ xs _ hn (HR.out.below ((Below.refl _ _).alloc (Nat.le_refl _) _))).mono ?_
  rintro e w1 ⟨g1, vs1, rfl, hrow1, hg1, hl1, hel1, hb1⟩
  have HB := hide (((Below.refl w.heap.size w).alloc (Nat.le_refl _) (.cells #[.slice p xs.length c] 76)).trans (hb1.mono (by simp)))
  have HR1 := hide hrow1
  have HG1 : Hid (w.heap.size ≤ g1) := by simp at hg1; exact (by omega : w.heap.size ≤ g1)
  have HL1 := hide hl1
  have HEL := hide hel1
  clear hb1 hrow1 hl1 hel1 hg1
  go_wp2
  go_ret
  exact ⟨_, vs1, rfl, HR1.out, HG1.out, HL1.out, HEL.out, HB.out⟩

theorem innerField_any (u : Value) (xs : List (List (List ByteArray))) (w : World) (hn : xs.length ≤ 1048576) (hr : RL 0 (RRep 0) w u xs) :
    Calls Tryz.prog 159 #[.agg #[u]] w fun e w' => ∃ p c, e = .returned (.slice p xs.length c) ∧ RL 0 PRep w' (.slice p xs.length c) xs ∧ Below w.heap.size w w' := by
  refine (innerField_row (fun _ _ _ h => RL.isSlice h) u xs w hn hr).mono ?_
  rintro e w' ⟨g, vs, rfl, hrow, _, hl, hel, hb⟩
  exact ⟨_, _, rfl, rl_row hrow hl (by unfold maxLen; omega) (Nat.zero_le _) (fun i hi => hel i (by omega) hi), hb⟩

set_option maxHeartbeats 2000000 in
theorem partsOfComp_row {R : World → Value → List ByteArray → Prop} [Lasts 0 R] (hsl : ∀ w u x, R w u x → ∃ p c, u = .slice p x.length c) (v : Value) (xs : List (List ByteArray)) (w : World) (hn : xs.length ≤ 1048576) (hr : RL 0 R w v xs) :
    Calls Tryz.prog 164 #[v] w fun e w' => ∃ g vs, e = .returned (.slice (some ⟨g, 0, none⟩) xs.length xs.length) ∧ Row w' g 123 vs ∧ w.heap.size ≤ g ∧ vs.length = xs.length ∧ (∀ j (h1 : j < vs.length) (h2 : j < xs.length), RI 104 R w' vs[j] xs[j]) ∧ Below w.heap.size w w' := by
  obtain ⟨i0, hi, hz0, hz1, hz2⟩ := info_parts Tryz.infoPart
  obtain ⟨p, cap, rfl, h1, h2, h4⟩ := hr
  have H4 := hide h4
  have HSL := hide hsl
  clear h4 hsl
  go_enter Tryz.func164, Tryz.ntmps164
  go_wp2_with (at_make; refine wpList_make_full _ rfl _ _ 129 rfl w.heap.size 123 i0 .nilIface 1 Tryz.underlying129 hi hz0 hz1 _ _ _ _ xs.length rfl rfl rfl rfl ?b2 ?b3 (Nat.le_refl _) ?_)
  case b2 => rw [hz2]; omega
  case b3 => unfold maxLen; omega
  intro w1 hown hgrow
  obtain ⟨Z, hZ, hZl⟩ := own_row hown
  rw [Nat.mul_one] at hZl
  have hb1 : Below w.heap.size w w1 := (Below.refl _ _).grown hgrow (Nat.le_refl _) (by simp)
  have HZ := hide hZ
  have HB := hide hb1
  have HL := hide hZl
  clear hZ hown hgrow hb1 hZl
  go_wp2_with fail
  go_loopw [11] (fun i wr => ∃ (X : World) (k : Nat) (vs : List Value), X = wr ∧ k ≤ xs.length ∧ i = .int .i64 k ∧ Hid (Row X w.heap.size 123 (vs ++ Z.drop k)) ∧ Hid (Below w.heap.size w X) ∧ Hid (vs.length = k) ∧ Hid (∀ j (h1 : j < vs.length) (h2 : j < xs.length), RI 104 R w vs[j] xs[j])) (fun i _ => xs.length - (intOf i).toNat)
  case atStart => exact ⟨_, 0, [], rfl, Nat.zero_le _, rfl, hide (by simpa using HZ.out), HB, hide rfl, hide (fun j h1 _ => absurd h1 (by simp))⟩
  case round =>
    obtain ⟨X, k, vs, rfl, hk, rfl, HRow, HBel, HLn, HEl⟩ := hrel
    by_cases hlt : k < xs.length
    · obtain ⟨g, off, hp, hg, _, hc⟩ := H4.out (by omega)
      subst hp
      obtain ⟨u, hu, hru⟩ := hc k hlt
      have hck : X.cell? ⟨g, off + k, none⟩ = some u := by rw [HBel.out.cell (p := ⟨g, off + k, none⟩) hg]; exact hu
      have HRU := hide hru
      obtain ⟨up, uc, rfl⟩ := HSL.out _ _ _ hru
      have hlt0 := HRow.out.lt
      clear hu hru hc
      have hX1 : Below X.heap.size X (X.alloc (.cells #[.slice up (xs[k]'hlt).length uc] 104)) := (Below.refl _ _).alloc (Nat.le_refl _) _
      have row2 := HRow.out.below hX1 hlt0
      have hll : (vs ++ Z.drop k).length = xs.length := by rw [List.length_append, HLn.out, List.length_drop, HL.out]; omega
      obtain ⟨z, hz⟩ := row2.some k (by rw [hll]; exact hlt)
      have hf := row2.free k
      have hnext := row2.set (j := k) (.iface 104 (.agg #[.slice up (xs[k]'hlt).length uc]))
      rw [set_snocP vs Z k xs.length _ HLn.out hlt HL.out] at hnext
      clear hnext
      have hnext := HRow.out.set (j := k) (.iface 104 (.agg #[.slice up (xs[k]'hlt).length uc]))
      rw [set_snocP vs Z k xs.length _ HLn.out hlt HL.out] at hnext
      have HN := hide (hnext.alloc (.cells #[.slice up (xs[k]'hlt).length uc] 104))
      have HMB := hide ((HBel.out.setCell (p := ⟨w.heap.size, k, none⟩) (Nat.le_refl _) (.iface 104 (.agg #[.slice up (xs[k]'hlt).length uc]))).alloc (by have := HBel.out.size; simpa [World.setCell] using this) (.cells #[.slice up (xs[k]'hlt).length uc] 104))
      have HLn2 : Hid ((vs ++ [Value.iface 104 (.agg #[.slice up (xs[k]'hlt).length uc])]).length = k + 1) := by rw [List.length_append, HLn.out]; exact rfl
      have HEl2 : Hid (∀ j (h1 : j < (vs ++ [Value.iface 104 (.agg #[.slice up (xs[k]'hlt).length uc])]).length) (h2 : j < xs.length), RI 104 R w (vs ++ [Value.iface 104 (.agg #[.slice up (xs[k]'hlt).length uc])])[j] xs[j]) := by
        intro j h1 h2
        rw [HLn2.out] at h1
        by_cases hj : j < k
        · rw [List.getElem_append_left (by rw [HLn.out]; exact hj)]
          exact HEl.out j (by rw [HLn.out]; exact hj) h2
        · have e : j = k := by omega
          subst e
          rw [List.getElem_append_right (by rw [HLn.out]; exact Nat.le_refl _)]
          simp only [HLn.out, Nat.sub_self, List.getElem_cons_zero]
          exact ⟨_, rfl, HRU.out⟩
      clear hnext row2 hll hX1
      go_wp2
      go_roundw
      case rel => exact ⟨_, k + 1, _, rfl, by omega, by go_num, HN, HMB, HLn2, HEl2⟩
      case measure => simp [intOf]; omega
    · have HE : Hid (Row X w.heap.size 123 vs) := by
        have := HRow.out
        rw [List.drop_eq_nil_of_le (by rw [HL.out]; omega), List.append_nil] at this
        exact this
      have HLn3 : Hid (vs.length = xs.length) := by rw [HLn.out]; exact (show k = xs.length by omega)
      go_wp2
      go_ret
      exact ⟨_, vs, rfl, HE.out, Nat.le_refl _, HLn3.out, fun j h1 h2 => Lasts.go (B := 0) (Same.of HBel.out) (HEl.out j h1 h2), HBel.out⟩

set_option maxHeartbeats 1000000 in
theorem innerRep_row {R : World → Value → List ByteArray → Prop} [Lasts 0 R] (hsl : ∀ w u x, R w u x → ∃ p c, u = .slice p x.length c) (u : Value) (xs : List (List ByteArray)) (w : World) (hn : xs.length ≤ 1048576) (hr : RL 0 R w u xs) :
    Calls Tryz.prog 163 #[.agg #[u]] w fun e w' => ∃ g vs, e = .returned (.slice (some ⟨g, 0, none⟩) xs.length xs.length) ∧ Row w' g 123 vs ∧ w.heap.size ≤ g ∧ vs.length = xs.length ∧ (∀ j (h1 : j < vs.length) (h2 : j < xs.length), RI 104 R w' vs[j] xs[j]) ∧ Below w.heap.size w w' := by
  have HR := hide hr
  obtain ⟨p, c, rfl⟩ := hr.isSlice
  clear hr
  go_enter Tryz.func163, Tryz.ntmps163
  go_wp2_with fail
  refine (partsOfComp_row hsl _ xs _ hn (HR.out.below ((Below.refl _ _).alloc (Nat.le_refl _) _))).mono ?_
  rintro e w1 ⟨g1, vs1, rfl, hrow1, hg1, hl1, hel1, hb1⟩
  have HB := hide (((Below.refl w.heap.size w).alloc (Nat.le_refl _) (.cells #[.slice p xs.length c] 102)).trans (hb1.mono (by simp)))
  have HR1 := hide hrow1
  have HG1 : Hid (w.heap.size ≤ g1) := by simp at hg1; exact (by omega : w.heap.size ≤ g1)
  have HL1 := hide hl1
  have HEL := hide hel1
  clear hb1 hrow1 hl1 hel1 hg1
  go_wp2
  go_ret
  exact ⟨_, vs1, rfl, HR1.out, HG1.out, HL1.out, HEL.out, HB.out⟩

theorem innerRep_any (u : Value) (xs : List (List ByteArray)) (w : World) (hn : xs.length ≤ 1048576) (hr : RL 0 (RComp 0) w u xs) :
    Calls Tryz.prog 163 #[.agg #[u]] w fun e w' => ∃ p c, e = .returned (.slice p xs.length c) ∧ RL 0 PComp w' (.slice p xs.length c) xs ∧ Below w.heap.size w w' := by
  refine (innerRep_row (fun _ _ _ h => RL.isSlice h) u xs w hn hr).mono ?_
  rintro e w' ⟨g, vs, rfl, hrow, _, hl, hel, hb⟩
  exact ⟨_, _, rfl, rl_row hrow hl (by unfold maxLen; omega) (Nat.zero_le _) (fun i hi => hel i (by omega) hi), hb⟩

theorem Tryz.infoSub : (Tryz.prog.info? 124).map (fun i => (i.zero, i.size, i.bytes)) = some (some (.string ⟨#[]⟩), 1, 16) := by kernel_rfl
set_option maxHeartbeats 2000000 in
theorem subsOf_row (u : Value) (xs : List ByteArray) (w : World) (hn : xs.length ≤ 1048576) (hr : RComp 0 w u xs) :
    Calls Tryz.prog 167 #[.agg #[u]] w fun e w' => ∃ g vs, e = .returned (.slice (some ⟨g, 0, none⟩) xs.length xs.length) ∧ Row w' g 124 vs ∧ w.heap.size ≤ g ∧ vs.length = xs.length ∧ (∀ j (h1 : j < vs.length) (h2 : j < xs.length), RS w' vs[j] xs[j]) ∧ Below w.heap.size w w' := by
  obtain ⟨i0, hi, hz0, hz1, hz2⟩ := info_parts Tryz.infoSub
  obtain ⟨p, cap, rfl, h1, h2, h4⟩ := hr
  have H4 := hide h4
  clear h4
  obtain ⟨W, hW⟩ : ∃ W, W = w.alloc (.cells #[.slice p xs.length cap] 104) := ⟨_, rfl⟩
  have HW := hide (show Below w.heap.size w W by rw [hW]; exact (Below.refl _ _).alloc (Nat.le_refl _) _)
  have RW : Row W w.heap.size 104 [.slice p xs.length cap] := by rw [hW]; exact row_new w [.slice p xs.length cap] 104
  have HRW := hide RW
  have c0 : W.cell? ⟨w.heap.size, 0, none⟩ = some (.slice p xs.length cap) := RW.cell 0
  have hWs : W.heap.size = w.heap.size + 1 := by rw [hW]; simp
  have HWs := hide hWs
  clear RW hWs
  go_enter Tryz.func167, Tryz.ntmps167
  go_wp2_with (at_make; refine wpList_make_full _ rfl _ _ 211 rfl W.heap.size 124 i0 (.string ⟨#[]⟩) 1 Tryz.underlying211 hi hz0 hz1 _ _ _ _ xs.length rfl rfl rfl rfl ?b2 ?b3 (by rw [hW]; exact Nat.le_refl _) ?_)
  case b2 => rw [hz2]; omega
  case b3 => unfold maxLen; omega
  intro w1 hown hgrow
  rw [← hW] at hgrow
  clear hW
  obtain ⟨Z, hZ, hZl⟩ := own_row hown
  rw [Nat.mul_one] at hZl
  have hb0 : Below W.heap.size W w1 := (Below.refl _ _).grown hgrow (Nat.le_refl _) (by simp)
  have hb1 : Below w.heap.size w w1 := HW.out.trans (hb0.mono HW.out.size)
  have row1 := HRW.out.below hb0 HRW.out.lt
  have c1 : w1.cell? ⟨w.heap.size, 0, none⟩ = some (.slice p xs.length cap) := row1.cell 0
  have HZ := hide hZ
  have HB := hide hb1
  have HL := hide hZl
  clear hZ hown hgrow hb1 hZl hb0 row1
  go_wp2_with fail
  go_loopw [13] (fun i wr => ∃ (X : World) (k : Nat) (vs : List Value), X = wr ∧ k ≤ xs.length ∧ i = .int .i64 k ∧ Hid (Row X (w.heap.size + 1) 124 (vs ++ Z.drop k)) ∧ Hid (Below w.heap.size w X) ∧ Hid (vs.length = k) ∧ Hid (∀ j (h1 : j < vs.length) (h2 : j < xs.length), RS w vs[j] xs[j])) (fun i _ => xs.length - (intOf i).toNat)
  case atStart => exact ⟨_, 0, [], rfl, Nat.zero_le _, rfl, hide (by simpa using HZ.out), HB, hide rfl, hide (fun j h1 _ => absurd h1 (by simp))⟩
  case round =>
    obtain ⟨X, k, vs, rfl, hk, rfl, HRow, HBel, HLn, HEl⟩ := hrel
    by_cases hlt : k < xs.length
    · obtain ⟨g, off, hp, hg, _, hc⟩ := H4.out (by omega)
      subst hp
      obtain ⟨u, hu, rfl, hus⟩ := hc k hlt
      have hck : X.cell? ⟨g, off + k, none⟩ = some (.string (xs[k]'hlt)) := by rw [HBel.out.cell (p := ⟨g, off + k, none⟩) hg]; exact hu
      have hlt0 := HRow.out.lt
      clear hu hc
      have hll : (vs ++ Z.drop k).length = xs.length := by rw [List.length_append, HLn.out, List.length_drop, HL.out]; omega
      obtain ⟨z, hz⟩ := HRow.out.some k (by rw [hll]; exact hlt)
      have hf := HRow.out.free k
      have hnext := HRow.out.set (j := k) (.string (xs[k]'hlt))
      rw [set_snocP vs Z k xs.length _ HLn.out hlt HL.out] at hnext
      have HN := hide hnext
      have HMB := hide (HBel.out.setCell (p := ⟨w.heap.size + 1, k, none⟩) (by show w.heap.size ≤ w.heap.size + 1; omega) (.string (xs[k]'hlt)))
      have HLn2 : Hid ((vs ++ [Value.string (xs[k]'hlt)]).length = k + 1) := by rw [List.length_append, HLn.out]; exact rfl
      have HEl2 : Hid (∀ j (h1 : j < (vs ++ [Value.string (xs[k]'hlt)]).length) (h2 : j < xs.length), RS w (vs ++ [Value.string (xs[k]'hlt)])[j] xs[j]) := by
        intro j h1 h2
        rw [HLn2.out] at h1
        by_cases hj : j < k
        · rw [List.getElem_append_left (by rw [HLn.out]; exact hj)]
          exact HEl.out j (by rw [HLn.out]; exact hj) h2
        · have e : j = k := by omega
          subst e
          rw [List.getElem_append_right (by rw [HLn.out]; exact Nat.le_refl _)]
          simp only [HLn.out, Nat.sub_self, List.getElem_cons_zero]
          exact ⟨rfl, hus⟩
      clear hnext hll
      go_wp2
      go_roundw
      case rel => exact ⟨_, k + 1, _, rfl, by omega, by go_num, HN, HMB, HLn2, HEl2⟩
      case measure => simp [intOf]; omega
    · have HE : Hid (Row X (w.heap.size + 1) 124 vs) := by
        have := HRow.out
        rw [List.drop_eq_nil_of_le (by rw [HL.out]; omega), List.append_nil] at this
        exact this
      have HLn3 : Hid (vs.length = xs.length) := by rw [HLn.out]; exact (show k = xs.length by omega)
      go_wp2
      go_ret
      exact ⟨_, vs, rfl, HE.out, by omega, HLn3.out, HEl.out, HBel.out⟩


set_option maxHeartbeats 2000000 in
theorem partsOfSub_row (u : Value) (xs : List ByteArray) (w : World) (hn : xs.length ≤ 1048576) (hr : RComp 0 w u xs) :
    Calls Tryz.prog 166 #[u] w fun e w' => ∃ g vs, e = .returned (.slice (some ⟨g, 0, none⟩) xs.length xs.length) ∧ Row w' g 123 vs ∧ w.heap.size ≤ g ∧ vs.length = xs.length ∧ (∀ j (h1 : j < vs.length) (h2 : j < xs.length), PSub w' vs[j] xs[j]) ∧ Below w.heap.size w w' := by
  obtain ⟨i0, hi, hz0, hz1, hz2⟩ := info_parts Tryz.infoPart
  obtain ⟨p, cap, rfl, h1, h2, h4⟩ := hr
  have H4 := hide h4
  clear h4
  go_enter Tryz.func166, Tryz.ntmps166
  go_wp2_with (at_make; refine wpList_make_full _ rfl _ _ 129 rfl w.heap.size 123 i0 .nilIface 1 Tryz.underlying129 hi hz0 hz1 _ _ _ _ xs.length rfl rfl rfl rfl ?b2 ?b3 (Nat.le_refl _) ?_)
  case b2 => rw [hz2]; omega
  case b3 => unfold maxLen; omega
  intro w1 hown hgrow
  obtain ⟨Z, hZ, hZl⟩ := own_row hown
  rw [Nat.mul_one] at hZl
  have hb1 : Below w.heap.size w w1 := (Below.refl _ _).grown hgrow (Nat.le_refl _) (by simp)
  have HZ := hide hZ
  have HB := hide hb1
  have HL := hide hZl
  clear hZ hown hgrow hb1 hZl
  go_wp2_with fail
  go_loopw [11] (fun i wr => ∃ (X : World) (k : Nat) (vs : List Value), X = wr ∧ k ≤ xs.length ∧ i = .int .i64 k ∧ Hid (Row X w.heap.size 123 (vs ++ Z.drop k)) ∧ Hid (Below w.heap.size w X) ∧ Hid (vs.length = k) ∧ Hid (∀ j (h1 : j < vs.length) (h2 : j < xs.length), PSub w vs[j] xs[j])) (fun i _ => xs.length - (intOf i).toNat)
  case atStart => exact ⟨_, 0, [], rfl, Nat.zero_le _, rfl, hide (by simpa using HZ.out), HB, hide rfl, hide (fun j h1 _ => absurd h1 (by simp))⟩
  case round =>
    obtain ⟨X, k, vs, rfl, hk, rfl, HRow, HBel, HLn, HEl⟩ := hrel
    by_cases hlt : k < xs.length
    · obtain ⟨g, off, hp, hg, _, hc⟩ := H4.out (by omega)
      subst hp
      obtain ⟨u, hu, rfl, hus⟩ := hc k hlt
      have hck : X.cell? ⟨g, off + k, none⟩ = some (.string (xs[k]'hlt)) := by rw [HBel.out.cell (p := ⟨g, off + k, none⟩) hg]; exact hu
      have hlt0 := HRow.out.lt
      clear hu hc
      have hll : (vs ++ Z.drop k).length = xs.length := by rw [List.length_append, HLn.out, List.length_drop, HL.out]; omega
      obtain ⟨z, hz⟩ := HRow.out.some k (by rw [hll]; exact hlt)
      have hf := HRow.out.free k
      have hnext := HRow.out.set (j := k) (.iface 124 (.string (xs[k]'hlt)))
      rw [set_snocP vs Z k xs.length _ HLn.out hlt HL.out] at hnext
      have HN := hide hnext
      have HMB := hide (HBel.out.setCell (p := ⟨w.heap.size, k, none⟩) (Nat.le_refl _) (.iface 124 (.string (xs[k]'hlt))))
      have HLn2 : Hid ((vs ++ [Value.iface 124 (.string (xs[k]'hlt))]).length = k + 1) := by rw [List.length_append, HLn.out]; exact rfl
      have HEl2 : Hid (∀ j (h1 : j < (vs ++ [Value.iface 124 (.string (xs[k]'hlt))]).length) (h2 : j < xs.length), PSub w (vs ++ [Value.iface 124 (.string (xs[k]'hlt))])[j] xs[j]) := by
        intro j h1 h2
        rw [HLn2.out] at h1
        by_cases hj : j < k
        · rw [List.getElem_append_left (by rw [HLn.out]; exact hj)]
          exact HEl.out j (by rw [HLn.out]; exact hj) h2
        · have e : j = k := by omega
          subst e
          rw [List.getElem_append_right (by rw [HLn.out]; exact Nat.le_refl _)]
          simp only [HLn.out, Nat.sub_self, List.getElem_cons_zero]
          exact ⟨rfl, hus⟩
      clear hnext hll
      go_wp2
      go_roundw
      case rel => exact ⟨_, k + 1, _, rfl, by omega, by go_num, HN, HMB, HLn2, HEl2⟩
      case measure => simp [intOf]; omega
    · have HE : Hid (Row X w.heap.size 123 vs) := by
        have := HRow.out
        rw [List.drop_eq_nil_of_le (by rw [HL.out]; omega), List.append_nil] at this
        exact this
      have HLn3 : Hid (vs.length = xs.length) := by rw [HLn.out]; exact (show k = xs.length by omega)
      go_wp2
      go_ret
      exact ⟨_, vs, rfl, HE.out, Nat.le_refl _, HLn3.out, HEl.out, HBel.out⟩


set_option maxHeartbeats 1000000 in
theorem innerComp_row (u : Value) (xs : List ByteArray) (w : World) (hn : xs.length ≤ 1048576) (hr : RComp 0 w u xs) :
    Calls Tryz.prog 165 #[.agg #[u]] w fun e w' => ∃ g vs, e = .returned (.slice (some ⟨g, 0, none⟩) xs.length xs.length) ∧ Row w' g 123 vs ∧ w.heap.size ≤ g ∧ vs.length = xs.length ∧ (∀ j (h1 : j < vs.length) (h2 : j < xs.length), PSub w' vs[j] xs[j]) ∧ Below w.heap.size w w' := by
  have HR := hide hr
  obtain ⟨p, c, rfl⟩ := hr.isSlice
  clear hr
  go_enter Tryz.func165, Tryz.ntmps165
  go_wp2_with fail
  refine (subsOf_row _ xs _ hn (HR.out.below ((Below.refl _ _).alloc (Nat.le_refl _) _))).mono ?_
  rintro e w1 ⟨g1, vs1, rfl, hrow1, hg1, hl1, hel1, hb1⟩
  have HB := hide (((Below.refl w.heap.size w).alloc (Nat.le_refl _) (.cells #[.slice p xs.length c] 104)).trans (hb1.mono (by simp)))
  have HR1 : Hid (RComp 0 w1 (.slice (some ⟨g1, 0, none⟩) xs.length xs.length) xs) := rl_row hrow1 hl1 (by unfold maxLen; omega) (Nat.zero_le _) (fun i hi => hel1 i (by omega) hi)
  clear hb1 hrow1 hl1 hel1 hg1
  go_wp2_with fail
  refine (partsOfSub_row _ xs _ hn HR1.out).mono ?_
  rintro e w2 ⟨g2, vs2, rfl, hrow2, hg2, hl2, hel2, hb2⟩
  have HB2 := hide (HB.out.trans (hb2.mono HB.out.size))
  have HR2 := hide hrow2
  have HG2 : Hid (w.heap.size ≤ g2) := Nat.le_trans HB.out.size hg2
  have HL2 := hide hl2
  have HEL := hide hel2
  clear hb2 hrow2 hl2 hel2 hg2
  go_wp2
  go_ret
  exact ⟨_, vs2, rfl, HR2.out, HG2.out, HL2.out, HEL.out, HB2.out⟩

theorem innerComp_any (u : Value) (xs : List ByteArray) (w : World) (hn : xs.length ≤ 1048576) (hr : RComp 0 w u xs) :
    Calls Tryz.prog 165 #[.agg #[u]] w fun e w' => ∃ p c, e = .returned (.slice p xs.length c) ∧ RL 0 PSub w' (.slice p xs.length c) xs ∧ Below w.heap.size w w' := by
  refine (innerComp_row u xs w hn hr).mono ?_
  rintro e w' ⟨g, vs, rfl, hrow, _, hl, hel, hb⟩
  exact ⟨_, _, rfl, rl_row hrow hl (by unfold maxLen; omega) (Nat.zero_le _) (fun i hi => hel i (by omega) hi), hb⟩

set_option maxHeartbeats 1000000 in
set_option maxRecDepth 100000 in
theorem emptySub (u : Value) (x : ByteArray) (w : World) (hr : PSub w u x) :
    Calls Tryz.prog 99 #[u] w fun e w' => e = .returned (.bool (empS x)) ∧ Below w.heap.size w w' := by
  obtain ⟨rfl, _⟩ := hr
  have a1 := Tryz.assubPartsubPart
  by_cases he : x.size = 0
  · have he2 : x = ⟨#[]⟩ := ByteArray.ext (Array.eq_empty_of_size_eq_zero he)
    subst he2
    go_enter Tryz.func99, Tryz.ntmps99
    go_wp2
    go_ret
    exact ⟨ret_boolF rfl, Below.refl _ _⟩
  · have he2 : x ≠ ⟨#[]⟩ := fun h => he (by rw [h]; rfl)
    have he3 := toList_neF he2
    have HE := hide (show empS x = false by simp [empS, he])
    clear he2
    go_enter Tryz.func99, Tryz.ntmps99
    go_wp2
    go_ret
    exact ⟨ret_boolF (by rw [HE.out]; first | done | simpa using he3), Below.refl _ _⟩

set_option maxHeartbeats 1000000 in
set_option maxRecDepth 100000 in
theorem emptyComp (u : Value) (x : List (ByteArray)) (w : World) (hn : x.length ≤ 1048576) (hr : PComp w u x) :
    Calls Tryz.prog 99 #[u] w fun e w' => e = .returned (.bool (empL x)) ∧ Below w.heap.size w w' := by
  obtain ⟨v, rfl, hv⟩ := hr
  have a1 := Tryz.asCompsubPart
  have a2 := Tryz.innerComp
  go_enter Tryz.func99, Tryz.ntmps99
  go_wp2_with fail
  refine (innerComp_any _ x _ hn hv).mono ?_
  rintro e w1 ⟨p1, c1, rfl, hr1, hb1⟩
  have HB := hide hb1
  clear hb1 hr1
  by_cases he : x.length = 0
  · have he' : ((x.length : Int) == 0) = true := by simp [he]
    have HE := hide (show empL x = true by simp [empL, he])
    clear he
    go_wp2
    go_ret
    exact ⟨ret_boolF (by rw [HE.out]; first | done | exact he'), HB.out⟩
  · have he' : ((x.length : Int) == 0) = false := by simpa using he
    have HE := hide (show empL x = false by simp [empL, he])
    clear he
    go_wp2
    go_ret
    exact ⟨ret_boolF (by rw [HE.out]; first | done | exact he'), HB.out⟩

set_option maxHeartbeats 1000000 in
set_option maxRecDepth 100000 in
theorem emptyRep (u : Value) (x : List (List ByteArray)) (w : World) (hn : x.length ≤ 1048576) (hr : PRep w u x) :
    Calls Tryz.prog 99 #[u] w fun e w' => e = .returned (.bool (empL x)) ∧ Below w.heap.size w w' := by
  obtain ⟨v, rfl, hv⟩ := hr
  have a1 := Tryz.asRepsubPart
  have a2 := Tryz.innerRep
  go_enter Tryz.func99, Tryz.ntmps99
  go_wp2_with fail
  refine (innerRep_any _ x _ hn hv).mono ?_
  rintro e w1 ⟨p1, c1, rfl, hr1, hb1⟩
  have HB := hide hb1
  clear hb1 hr1
  by_cases he : x.length = 0
  · have he' : ((x.length : Int) == 0) = true := by simp [he]
    have HE := hide (show empL x = true by simp [empL, he])
    clear he
    go_wp2
    go_ret
    exact ⟨ret_boolF (by rw [HE.out]; first | done | exact he'), HB.out⟩
  · have he' : ((x.length : Int) == 0) = false := by simpa using he
    have HE := hide (show empL x = false by simp [empL, he])
    clear he
    go_wp2
    go_ret
    exact ⟨ret_boolF (by rw [HE.out]; first | done | exact he'), HB.out⟩

set_option maxHeartbeats 2000000 in
set_option maxRecDepth 100000 in
theorem leaveOut_any {α : Type} (RE : World → Value → α → Prop) [Lasts 0 RE] (emp : α → Bool) (xs : List α)
    (hE : ∀ (X : World) (u : Value) (i : Nat) (h : i < xs.length), RE X u xs[i] → Calls Tryz.prog 99 #[u] X fun e w' => e = .returned (.bool (emp xs[i])) ∧ Below X.heap.size X w')
    (v : Value) (w : World) (hr : RL 0 RE w v xs) :
    Calls Tryz.prog 115 #[v] w fun e w' => (∃ p c k, e = .returned (.slice p k c) ∧ k ≤ xs.length ∧ (k = xs.length ↔ endEmpty emp xs = false)) ∧ Below w.heap.size w w' := by
  have HEE := hide hE
  clear hE
  obtain ⟨p, cap, rfl, h1, h2, h4⟩ := hr
  have H4 := hide h4
  clear h4
  unfold maxLen at h2
  go_enter Tryz.func115, Tryz.ntmps115
  go_wp2
  go_loopw [0] (fun l wr => ∃ (X : World) (k : Nat), X = wr ∧ k ≤ xs.length ∧ l = .slice p k cap ∧ Hid (Below w.heap.size w X) ∧ Hid (k < xs.length → endEmpty emp xs = true)) (fun l _ => lenOf l)
  case atStart => exact ⟨_, _, rfl, Nat.le_refl _, rfl, Below.refl _ _, fun h => absurd h (by omega)⟩
  case round =>
    obtain ⟨X, k, rfl, hk, rfl, HB, HK⟩ := hrel
    by_cases h0 : k = 0
    · subst h0
      have HZ := hide (show (0 = xs.length ↔ endEmpty emp xs = false) from ⟨fun h => endEmpty_nil h.symm, fun h => by
        rcases Nat.eq_zero_or_pos xs.length with e | e
        · exact e.symm
        · rw [HK.out e] at h; cases h⟩)
      go_wp2
      go_ret
      exact ⟨⟨_, _, _, rfl, hk, HZ.out⟩, HB.out⟩
    · obtain ⟨n, rfl⟩ : ∃ n, k = n + 1 := ⟨k - 1, by omega⟩
      obtain ⟨g, off, hp, hg, _, hc⟩ := H4.out (by omega)
      subst hp
      have hnl : n < xs.length := by omega
      obtain ⟨u, hu, hru⟩ := hc n hnl
      have hck : X.cell? ⟨g, off + n, none⟩ = some u := by rw [HB.out.cell (p := ⟨g, off + n, none⟩) hg]; exact hu
      have HRU : Hid (RE X u xs[n]) := Lasts.go (B := 0) (Same.of HB.out) hru
      have hw1 : IntKind.i64.wrap (((n + 1 : Nat) : Int) - 1) = (n : Int) := by rw [show (((n + 1 : Nat) : Int) - 1) = (n : Int) by omega]; exact wrap_small _ (by omega) (by omega)
      have hpos : (0 : Int) < ((n + 1 : Nat) : Int) := by omega
      clear hu hru hc h0
      go_wp2_with fail
      refine (HEE.out _ u n hnl HRU.out).mono ?_
      rintro e w2 ⟨rfl, hb2⟩
      have HB2 := hide (HB.out.trans (hb2.mono HB.out.size))
      clear hb2
      cases he : emp (xs[n]'hnl)
      · have HZ := hide (show (n + 1 = xs.length ↔ endEmpty emp xs = false) from ⟨fun h => by rw [endEmpty_last n hnl h.symm]; exact he, fun h => by
          rcases Nat.lt_or_ge (n + 1) xs.length with e | e
          · rw [HK.out e] at h; cases h
          · omega⟩)
        go_wp2
        go_ret
        exact ⟨⟨_, _, _, rfl, hk, HZ.out⟩, HB2.out⟩
      · have HK2 : Hid (n < xs.length → endEmpty emp xs = true) := fun _ => by
          rcases Nat.lt_or_ge (n + 1) xs.length with e | e
          · exact HK.out e
          · rw [endEmpty_last n hnl (by omega)]; exact he
        go_wp2
        go_roundw
        case rel => exact ⟨_, n, rfl, by omega, rfl, HB2, HK2⟩
        case measure => simp [lenOf]
end Go.Proofs.YtolgjdnhhbbebaaGreatDoor
/- The program's partRight and FieldRight. -/
namespace Go.Proofs.YtolgjdnhhbbebaaGreatDoor
open Go.RowKit
theorem right_many {α : Type} {f emp : α → Bool} {most : Nat} {xs : List α} (h : most < xs.length) : rightB f emp most xs = false := by
  have : ¬ xs.length ≤ most := by omega
  simp [rightB, this]
theorem right_end {α : Type} {f emp : α → Bool} {most : Nat} {xs : List α} (h : endEmpty emp xs = true) : rightB f emp most xs = false := by simp [rightB, h]
theorem right_yes {α : Type} {f emp : α → Bool} {most : Nat} {xs : List α} (h1 : xs.length ≤ most) (h2 : endEmpty emp xs = false) (h : ∀ k (hk : k < xs.length), f xs[k] = true) : rightB f emp most xs = true := by
  rw [right_all h]
  simp [h1, h2]

set_option maxHeartbeats 1000000 in
theorem subRight_any (s : ByteArray) (w : World) :
    Calls Tryz.prog 114 #[.string s] w fun e w' => e = .returned (.bool (subB s)) ∧ Below w.heap.size w w' := by
  by_cases h6 : (s.size : Int) ≤ 60
  · have HS := hide (show subB s = plainB s by simp [subB, h6])
    go_enter Tryz.func114, Tryz.ntmps114
    go_wp2_with fail
    refine (allPlain_any s _).mono ?_
    rintro e w1 ⟨rfl, hb1⟩
    go_wp2
    go_ret
    exact ⟨ret_boolF HS.out.symm, hb1⟩
  · have HS := hide (show subB s = false by simp [subB, h6])
    go_enter Tryz.func114, Tryz.ntmps114
    go_wp2
    go_ret
    exact ⟨ret_boolF HS.out.symm, Below.refl _ _⟩

set_option maxHeartbeats 1000000 in
set_option maxRecDepth 100000 in
theorem rightSub (u : Value) (x : ByteArray) (w : World) (hr : PSub w u x) :
    Calls Tryz.prog 100 #[u] w fun e w' => e = .returned (.bool (subB x)) ∧ Below w.heap.size w w' := by
  obtain ⟨rfl, _⟩ := hr
  have a1 := Tryz.assubPartsubPart
  go_enter Tryz.func100, Tryz.ntmps100
  go_wp2_with fail
  refine (subRight_any x _).mono ?_
  rintro e w1 ⟨rfl, hb1⟩
  go_wp2
  go_ret
  exact ⟨rfl, hb1⟩

set_option maxHeartbeats 4000000 in
set_option maxRecDepth 100000 in
theorem rightComp (u : Value) (x : List (ByteArray)) (w : World) (hn : x.length ≤ 1048576) (hr : PComp w u x) :
    Calls Tryz.prog 100 #[u] w fun e w' => e = .returned (.bool (compB x)) ∧ Below w.heap.size w w' := by
  obtain ⟨v, rfl, hv⟩ := hr
  have HV := hide hv
  obtain ⟨vp, vc, rfl⟩ := hv.isSlice
  clear hv
  obtain ⟨R, hR⟩ : ∃ R, R = compB x := ⟨_, rfl⟩
  rw [← hR]
  have HR := hide hR
  clear hR
  have a1 := Tryz.asCompsubPart
  have a2 := Tryz.innerComp
  go_enter Tryz.func100, Tryz.ntmps100
  go_wp2_with fail
  refine (limitsComp _ _).mono ?_
  rintro e w1 ⟨rfl, rfl⟩
  go_wp2_with fail
  refine (innerComp_any _ x _ hn HV.out).mono ?_
  rintro e w1 ⟨p1, c1, rfl, hr1, hb1⟩
  have HB1 := hide hb1
  have HL := hide hr1
  clear hb1 hr1
  by_cases h5 : 5 < (x.length : Int)
  · have HN := hide (show R = false by rw [HR.out]; exact right_many (by omega))
    go_wp2
    go_ret
    exact ⟨ret_boolF HN.out.symm, HB1.out⟩
  go_wp2_with fail
  refine (leaveOut_any PSub empS x (fun X u i h hu => emptySub u _ X hu) _ _ HL.out).mono ?_
  rintro e w2 ⟨⟨p2, c2, k2, rfl, hk2, hiff⟩, hb2⟩
  have HB2 := hide (HB1.out.trans (hb2.mono HB1.out.size))
  have HL2 := hide (HL.out.below hb2)
  have HI := hide hiff
  clear hb2 hiff
  by_cases hke : k2 = x.length
  · have HEE := hide (HI.out.1 hke)
    subst hke
    have hlm : x.length ≤ 5 := by omega
    obtain ⟨q, cap, hqe, h1, h2, h4⟩ := HL2.out
    have H4 := hide h4
    simp only [Value.slice.injEq, true_and] at hqe
    obtain ⟨rfl, rfl⟩ := hqe
    clear h4
    go_wp2
    go_loopw [39] (fun i wr => ∃ (X : World) (k : Nat), X = wr ∧ k ≤ x.length ∧ i = .int .i64 k ∧ Hid (Below w2.heap.size w2 X) ∧ Hid (∀ j (hj : j < x.length), j < k → subB x[j] = true)) (fun i _ => x.length - (intOf i).toNat)
    case atStart => exact ⟨_, 0, rfl, Nat.zero_le _, rfl, Below.refl _ _, fun j _ h => absurd h (by omega)⟩
    case round =>
      obtain ⟨X, k, rfl, hk, rfl, HB, HA⟩ := hrel
      by_cases hlt : k < x.length
      · obtain ⟨g, off, hp, hg, _, hc⟩ := H4.out (by omega)
        subst hp
        obtain ⟨u, hu, hru⟩ := hc k hlt
        have hck : X.cell? ⟨g, off + k, none⟩ = some u := by rw [HB.out.cell (p := ⟨g, off + k, none⟩) hg]; exact hu
        have HRU : Hid (PSub X u x[k]) := Lasts.go (B := 0) (Same.of HB.out) hru
        clear hu hru hc
        go_wp2_with fail
        refine (rightSub u (x[k]'hlt) _ HRU.out).mono ?_
        rintro e w3 ⟨rfl, hb3⟩
        have HB3 := hide (HB.out.trans (hb3.mono HB.out.size))
        clear hb3
        cases ho : subB (x[k]'hlt)
        · have HN := hide (show R = false by rw [HR.out]; exact right_no k hlt ho)
          go_wp2
          go_ret
          exact ⟨ret_boolF HN.out.symm, HB2.out.trans (HB3.out.mono HB2.out.size)⟩
        · have HA2 := hide (all_succ HA.out (fun _ => ho))
          go_wp2
          go_roundw
          case rel => exact ⟨_, k + 1, rfl, by omega, by go_num, HB3, HA2⟩
          case measure => simp [intOf]; omega
      · have HY := hide (show R = true by rw [HR.out]; exact right_yes hlm HEE.out (fun j hj => HA.out j hj (by omega)))
        go_wp2
        go_ret
        exact ⟨ret_boolF HY.out.symm, HB2.out.trans (HB.out.mono HB2.out.size)⟩
  · have HN := hide (show R = false by
      rw [HR.out]
      refine right_end ?_
      cases h : endEmpty empS x
      · exact absurd (HI.out.2 h) hke
      · rfl)
    have hne : ((x.length : Int) != (k2 : Int)) = true := by simp; omega
    go_wp2
    go_ret
    exact ⟨ret_boolF HN.out.symm, HB2.out⟩

set_option maxHeartbeats 4000000 in
set_option maxRecDepth 100000 in
theorem rightRep (u : Value) (x : List (List ByteArray)) (w : World) (hn : x.length ≤ 1048576) (hm : ∀ i (h : i < x.length), x[i].length ≤ 1048576) (hr : PRep w u x) :
    Calls Tryz.prog 100 #[u] w fun e w' => e = .returned (.bool (repB x)) ∧ Below w.heap.size w w' := by
  obtain ⟨v, rfl, hv⟩ := hr
  have HV := hide hv
  obtain ⟨vp, vc, rfl⟩ := hv.isSlice
  clear hv
  have HM := hide hm
  clear hm
  obtain ⟨R, hR⟩ : ∃ R, R = repB x := ⟨_, rfl⟩
  rw [← hR]
  have HR := hide hR
  clear hR
  have a1 := Tryz.asRepsubPart
  have a2 := Tryz.innerRep
  go_enter Tryz.func100, Tryz.ntmps100
  go_wp2_with fail
  refine (limitsRep _ _).mono ?_
  rintro e w1 ⟨rfl, rfl⟩
  go_wp2_with fail
  refine (innerRep_any _ x _ hn HV.out).mono ?_
  rintro e w1 ⟨p1, c1, rfl, hr1, hb1⟩
  have HB1 := hide hb1
  have HL := hide hr1
  clear hb1 hr1
  by_cases h5 : 10 < (x.length : Int)
  · have HN := hide (show R = false by rw [HR.out]; exact right_many (by omega))
    go_wp2
    go_ret
    exact ⟨ret_boolF HN.out.symm, HB1.out⟩
  go_wp2_with fail
  refine (leaveOut_any PComp empL x (fun X u i h hu => emptyComp u _ X (HM.out i h) hu) _ _ HL.out).mono ?_
  rintro e w2 ⟨⟨p2, c2, k2, rfl, hk2, hiff⟩, hb2⟩
  have HB2 := hide (HB1.out.trans (hb2.mono HB1.out.size))
  have HL2 := hide (HL.out.below hb2)
  have HI := hide hiff
  clear hb2 hiff
  by_cases hke : k2 = x.length
  · have HEE := hide (HI.out.1 hke)
    subst hke
    have hlm : x.length ≤ 10 := by omega
    obtain ⟨q, cap, hqe, h1, h2, h4⟩ := HL2.out
    have H4 := hide h4
    simp only [Value.slice.injEq, true_and] at hqe
    obtain ⟨rfl, rfl⟩ := hqe
    clear h4
    go_wp2
    go_loopw [39] (fun i wr => ∃ (X : World) (k : Nat), X = wr ∧ k ≤ x.length ∧ i = .int .i64 k ∧ Hid (Below w2.heap.size w2 X) ∧ Hid (∀ j (hj : j < x.length), j < k → compB x[j] = true)) (fun i _ => x.length - (intOf i).toNat)
    case atStart => exact ⟨_, 0, rfl, Nat.zero_le _, rfl, Below.refl _ _, fun j _ h => absurd h (by omega)⟩
    case round =>
      obtain ⟨X, k, rfl, hk, rfl, HB, HA⟩ := hrel
      by_cases hlt : k < x.length
      · obtain ⟨g, off, hp, hg, _, hc⟩ := H4.out (by omega)
        subst hp
        obtain ⟨u, hu, hru⟩ := hc k hlt
        have hck : X.cell? ⟨g, off + k, none⟩ = some u := by rw [HB.out.cell (p := ⟨g, off + k, none⟩) hg]; exact hu
        have HRU : Hid (PComp X u x[k]) := Lasts.go (B := 0) (Same.of HB.out) hru
        clear hu hru hc
        go_wp2_with fail
        refine (rightComp u (x[k]'hlt) _ (HM.out k hlt) HRU.out).mono ?_
        rintro e w3 ⟨rfl, hb3⟩
        have HB3 := hide (HB.out.trans (hb3.mono HB.out.size))
        clear hb3
        cases ho : compB (x[k]'hlt)
        · have HN := hide (show R = false by rw [HR.out]; exact right_no k hlt ho)
          go_wp2
          go_ret
          exact ⟨ret_boolF HN.out.symm, HB2.out.trans (HB3.out.mono HB2.out.size)⟩
        · have HA2 := hide (all_succ HA.out (fun _ => ho))
          go_wp2
          go_roundw
          case rel => exact ⟨_, k + 1, rfl, by omega, by go_num, HB3, HA2⟩
          case measure => simp [intOf]; omega
      · have HY := hide (show R = true by rw [HR.out]; exact right_yes hlm HEE.out (fun j hj => HA.out j hj (by omega)))
        go_wp2
        go_ret
        exact ⟨ret_boolF HY.out.symm, HB2.out.trans (HB.out.mono HB2.out.size)⟩
  · have HN := hide (show R = false by
      rw [HR.out]
      refine right_end ?_
      cases h : endEmpty empL x
      · exact absurd (HI.out.2 h) hke
      · rfl)
    have hne : ((x.length : Int) != (k2 : Int)) = true := by simp; omega
    go_wp2
    go_ret
    exact ⟨ret_boolF HN.out.symm, HB2.out⟩

set_option maxHeartbeats 4000000 in
set_option maxRecDepth 100000 in
theorem rightField (u : Value) (x : List (List (List ByteArray))) (w : World) (hn : x.length ≤ 1048576) (hm : ∀ i (h : i < x.length), x[i].length ≤ 1048576) (hm2 : ∀ i (h : i < x.length) j (hj : j < x[i].length), x[i][j].length ≤ 1048576) (hr : PField w u x) :
    Calls Tryz.prog 100 #[u] w fun e w' => e = .returned (.bool (fldB x)) ∧ Below w.heap.size w w' := by
  obtain ⟨v, rfl, hv⟩ := hr
  have HV := hide hv
  obtain ⟨vp, vc, rfl⟩ := hv.isSlice
  clear hv
  have HM := hide hm
  have HM2 := hide hm2
  clear hm hm2
  obtain ⟨R, hR⟩ : ∃ R, R = fldB x := ⟨_, rfl⟩
  rw [← hR]
  have HR := hide hR
  clear hR
  have a1 := Tryz.asFieldsubPart
  have a2 := Tryz.innerField
  go_enter Tryz.func100, Tryz.ntmps100
  go_wp2_with fail
  refine (limitsField _ _).mono ?_
  rintro e w1 ⟨rfl, rfl⟩
  go_wp2_with fail
  refine (innerField_any _ x _ hn HV.out).mono ?_
  rintro e w1 ⟨p1, c1, rfl, hr1, hb1⟩
  have HB1 := hide hb1
  have HL := hide hr1
  clear hb1 hr1
  by_cases h5 : 5 < (x.length : Int)
  · have HN := hide (show R = false by rw [HR.out]; exact right_many (by omega))
    go_wp2
    go_ret
    exact ⟨ret_boolF HN.out.symm, HB1.out⟩
  go_wp2_with fail
  refine (leaveOut_any PRep empL x (fun X u i h hu => emptyRep u _ X (HM.out i h) hu) _ _ HL.out).mono ?_
  rintro e w2 ⟨⟨p2, c2, k2, rfl, hk2, hiff⟩, hb2⟩
  have HB2 := hide (HB1.out.trans (hb2.mono HB1.out.size))
  have HL2 := hide (HL.out.below hb2)
  have HI := hide hiff
  clear hb2 hiff
  by_cases hke : k2 = x.length
  · have HEE := hide (HI.out.1 hke)
    subst hke
    have hlm : x.length ≤ 5 := by omega
    obtain ⟨q, cap, hqe, h1, h2, h4⟩ := HL2.out
    have H4 := hide h4
    simp only [Value.slice.injEq, true_and] at hqe
    obtain ⟨rfl, rfl⟩ := hqe
    clear h4
    go_wp2
    go_loopw [39] (fun i wr => ∃ (X : World) (k : Nat), X = wr ∧ k ≤ x.length ∧ i = .int .i64 k ∧ Hid (Below w2.heap.size w2 X) ∧ Hid (∀ j (hj : j < x.length), j < k → repB x[j] = true)) (fun i _ => x.length - (intOf i).toNat)
    case atStart => exact ⟨_, 0, rfl, Nat.zero_le _, rfl, Below.refl _ _, fun j _ h => absurd h (by omega)⟩
    case round =>
      obtain ⟨X, k, rfl, hk, rfl, HB, HA⟩ := hrel
      by_cases hlt : k < x.length
      · obtain ⟨g, off, hp, hg, _, hc⟩ := H4.out (by omega)
        subst hp
        obtain ⟨u, hu, hru⟩ := hc k hlt
        have hck : X.cell? ⟨g, off + k, none⟩ = some u := by rw [HB.out.cell (p := ⟨g, off + k, none⟩) hg]; exact hu
        have HRU : Hid (PRep X u x[k]) := Lasts.go (B := 0) (Same.of HB.out) hru
        clear hu hru hc
        go_wp2_with fail
        refine (rightRep u (x[k]'hlt) _ (HM.out k hlt) (HM2.out k hlt) HRU.out).mono ?_
        rintro e w3 ⟨rfl, hb3⟩
        have HB3 := hide (HB.out.trans (hb3.mono HB.out.size))
        clear hb3
        cases ho : repB (x[k]'hlt)
        · have HN := hide (show R = false by rw [HR.out]; exact right_no k hlt ho)
          go_wp2
          go_ret
          exact ⟨ret_boolF HN.out.symm, HB2.out.trans (HB3.out.mono HB2.out.size)⟩
        · have HA2 := hide (all_succ HA.out (fun _ => ho))
          go_wp2
          go_roundw
          case rel => exact ⟨_, k + 1, rfl, by omega, by go_num, HB3, HA2⟩
          case measure => simp [intOf]; omega
      · have HY := hide (show R = true by rw [HR.out]; exact right_yes hlm HEE.out (fun j hj => HA.out j hj (by omega)))
        go_wp2
        go_ret
        exact ⟨ret_boolF HY.out.symm, HB2.out.trans (HB.out.mono HB2.out.size)⟩
  · have HN := hide (show R = false by
      rw [HR.out]
      refine right_end ?_
      cases h : endEmpty empL x
      · exact absurd (HI.out.2 h) hke
      · rfl)
    have hne : ((x.length : Int) != (k2 : Int)) = true := by simp; omega
    go_wp2
    go_ret
    exact ⟨ret_boolF HN.out.symm, HB2.out⟩

set_option maxHeartbeats 1000000 in
theorem implFieldRight_any (u : Value) (x : List (List (List ByteArray))) (w : World) (hn : x.length ≤ 1048576) (hm : ∀ i (h : i < x.length), x[i].length ≤ 1048576) (hm2 : ∀ i (h : i < x.length) j (hj : j < x[i].length), x[i][j].length ≤ 1048576) (hr : RFld 0 w u x) :
    Calls Tryz.prog 84 #[.agg #[u]] w fun e w' => e = .returned (.bool (fldB x)) ∧ Below w.heap.size w w' := by
  have HR := hide hr
  obtain ⟨p, c, rfl⟩ := hr.isSlice
  have HM := hide hm
  have HM2 := hide hm2
  clear hr hm hm2
  go_enter Tryz.func84, Tryz.ntmps84
  go_wp2_with fail
  refine (rightField _ x _ hn HM.out HM2.out ⟨_, rfl, HR.out.below ((Below.refl _ _).alloc (Nat.le_refl _) _)⟩).mono ?_
  rintro e w1 ⟨rfl, hb1⟩
  have HB := hide (((Below.refl w.heap.size w).alloc (Nat.le_refl _) (.cells #[.slice p x.length c] 76)).trans (hb1.mono (by simp)))
  clear hb1
  go_wp2
  go_ret
  exact ⟨rfl, HB.out⟩
end Go.Proofs.YtolgjdnhhbbebaaGreatDoor
/- The text of a Field, as a list of bytes; how it is put together piece by piece. Lists alone. -/
namespace Go.Proofs.YtolgjdnhhbbebaaGreatDoor
open Go.RowKit

/-- What stands behind the first i: each with the mark ahead of it, but the very first. -/
def jnF {α : Type} (s : UInt8) (f : α → List UInt8) : Nat → List α → List UInt8
  | _, [] => []
  | i, x :: r => (if 0 < i then [s] else []) ++ f x ++ jnF s f (i + 1) r
def subT (m : ByteArray) (s : ByteArray) : List UInt8 := escL m s.data.toList
def compT (m : ByteArray) : List ByteArray → List UInt8 := jnF (bAt m 4) (subT m) 0
def repT (m : ByteArray) : List (List ByteArray) → List UInt8 := jnF (bAt m 1) (compT m) 0
def fldT (m : ByteArray) : List (List (List ByteArray)) → List UInt8 := jnF (bAt m 2) (repT m) 0

theorem jnF_step {α : Type} (s : UInt8) (f : α → List UInt8) (xs : List α) (k : Nat) (h : k < xs.length) : jnF s f k (xs.drop k) = (if 0 < k then [s] else []) ++ f xs[k] ++ jnF s f (k + 1) (xs.drop (k + 1)) := by
  rw [List.drop_eq_getElem_cons h, jnF]
theorem jnF_len {α : Type} (s : UInt8) (f : α → List UInt8) (N : Nat) : ∀ (i : Nat) (xs : List α), (∀ x ∈ xs, (f x).length ≤ N) → (jnF s f i xs).length ≤ xs.length * (N + 1)
  | _, [], _ => by simp [jnF]
  | i, x :: r, h => by
    have h1 := jnF_len s f N (i + 1) r (fun y hy => h y (List.mem_cons_of_mem _ hy))
    have h2 := h x (List.mem_cons_self ..)
    rw [jnF, List.length_append, List.length_append, List.length_cons, Nat.succ_mul]
    have h3 : (if 0 < i then [s] else []).length ≤ 1 := by split <;> simp
    omega
/-- D is what stands of the first k. -/
def Done {α : Type} (s : UInt8) (f : α → List UInt8) (xs : List α) (k : Nat) (D : List UInt8) : Prop := D ++ jnF s f k (xs.drop k) = jnF s f 0 xs
theorem Done.zero {α : Type} (s : UInt8) (f : α → List UInt8) (xs : List α) : Done s f xs 0 [] := by simp [Done]
theorem Done.first {α : Type} {s : UInt8} {f : α → List UInt8} {xs : List α} {D : List UInt8} (h : Done s f xs 0 D) (hk : 0 < xs.length) : Done s f xs 1 (D ++ f xs[0]) := by
  unfold Done at h ⊢
  rw [← h, jnF_step s f xs 0 hk]
  simp
theorem Done.first' {α : Type} {s : UInt8} {f : α → List UInt8} {xs : List α} {D : List UInt8} {k : Nat} (h : Done s f xs k D) (h0 : k = 0) (hk : k < xs.length) : Done s f xs (k + 1) (D ++ f xs[k]) := by
  subst h0
  exact h.first hk
theorem Done.next {α : Type} {s : UInt8} {f : α → List UInt8} {xs : List α} {D : List UInt8} {k : Nat} (h : Done s f xs k D) (h0 : 0 < k) (hk : k < xs.length) : Done s f xs (k + 1) (D ++ [s] ++ f xs[k]) := by
  unfold Done at h ⊢
  rw [← h, jnF_step s f xs k hk, if_pos h0]
  simp
theorem Done.all {α : Type} {s : UInt8} {f : α → List UInt8} {xs : List α} {D : List UInt8} {k : Nat} (h : Done s f xs k D) (hk : xs.length ≤ k) : D = jnF s f 0 xs := by
  unfold Done at h
  rw [List.drop_eq_nil_of_le hk] at h
  simpa [jnF] using h
theorem Done.len {α : Type} {s : UInt8} {f : α → List UInt8} {xs : List α} {D : List UInt8} {k : Nat} (h : Done s f xs k D) : D.length ≤ (jnF s f 0 xs).length := by
  unfold Done at h
  rw [← h, List.length_append]
  omega
theorem Done.room {α : Type} {s : UInt8} {f : α → List UInt8} {xs : List α} {D : List UInt8} {k : Nat} (h : Done s f xs k D) (hk : k < xs.length) : D.length + (if 0 < k then 1 else 0) + (f xs[k]).length ≤ (jnF s f 0 xs).length := by
  unfold Done at h
  rw [← h, jnF_step s f xs k hk]
  simp only [List.length_append]
  split <;> simp <;> omega

theorem right_mem {α : Type} {f emp : α → Bool} {most : Nat} {xs : List α} (h : rightB f emp most xs = true) : (∀ i (hi : i < xs.length), f xs[i] = true) ∧ xs.length ≤ most := by
  simp only [rightB, Bool.and_eq_true, decide_eq_true_eq] at h
  exact ⟨fun i hi => List.all_eq_true.1 h.1.1 _ (List.getElem_mem hi), h.1.2⟩
theorem subB_plain {s : ByteArray} (h : subB s = true) : plainB s = true ∧ s.size ≤ 60 := by
  simp only [subB, Bool.and_eq_true, decide_eq_true_eq] at h
  exact ⟨h.1, by omega⟩
theorem subT_len {m s : ByteArray} (h : subB s = true) : (subT m s).length ≤ 180 := by
  have h1 := escL_len m s.data.toList
  have h2 := (subB_plain h).2
  rw [bytes_len] at h1
  unfold subT
  omega
theorem compT_len {m : ByteArray} {x : List ByteArray} (h : compB x = true) : (compT m x).length ≤ 905 := by
  obtain ⟨h1, h2⟩ := right_mem h
  have := jnF_len (bAt m 4) (subT m) 180 0 x (fun y hy => by obtain ⟨i, hi, rfl⟩ := List.getElem_of_mem hy; exact subT_len (h1 i hi))
  have e : x.length * (180 + 1) ≤ 5 * 181 := Nat.mul_le_mul h2 (Nat.le_refl _)
  exact Nat.le_trans this e
theorem repT_len {m : ByteArray} {x : List (List ByteArray)} (h : repB x = true) : (repT m x).length ≤ 9060 := by
  obtain ⟨h1, h2⟩ := right_mem h
  have := jnF_len (bAt m 1) (compT m) 905 0 x (fun y hy => by obtain ⟨i, hi, rfl⟩ := List.getElem_of_mem hy; exact compT_len (h1 i hi))
  have e : x.length * (905 + 1) ≤ 10 * 906 := Nat.mul_le_mul h2 (Nat.le_refl _)
  exact Nat.le_trans this e
theorem fldT_len {m : ByteArray} {x : List (List (List ByteArray))} (h : fldB x = true) : (fldT m x).length ≤ 45305 := by
  obtain ⟨h1, h2⟩ := right_mem h
  have := jnF_len (bAt m 2) (repT m) 9060 0 x (fun y hy => by obtain ⟨i, hi, rfl⟩ := List.getElem_of_mem hy; exact repT_len (h1 i hi))
  have e : x.length * (9060 + 1) ≤ 5 * 9061 := Nat.mul_le_mul h2 (Nat.le_refl _)
  exact Nat.le_trans this e

/-- A list that lies ahead of block U. -/
def RU {α : Type} (U : Nat) (R : World → Value → α → Prop) (w : World) (v : Value) (xs : List α) : Prop :=
  ∃ p cap, v = .slice p xs.length cap ∧ xs.length ≤ cap ∧ cap ≤ maxLen ∧
    (0 < xs.length → ∃ g off, p = some ⟨g, off, none⟩ ∧ g < U ∧ ∀ i (h : i < xs.length), ∃ u, w.cell? ⟨g, off + i, none⟩ = some u ∧ R w u xs[i])
class Under {α : Type} (U : Nat) (R : World → Value → α → Prop) : Prop where
  go : ∀ {w w' : World} {v : Value} {x : α}, Below U w w' → R w v x → R w' v x
instance (U : Nat) : Under U RS := ⟨fun _ h => h⟩
instance {α : Type} (U : Nat) (R : World → Value → α → Prop) [Under U R] : Under U (RU U R) := ⟨fun {w w' v xs} hb h => by
  obtain ⟨p, cap, rfl, h1, h2, h4⟩ := h
  refine ⟨p, cap, rfl, h1, h2, fun h0 => ?_⟩
  obtain ⟨g, off, rfl, hg, hc⟩ := h4 h0
  refine ⟨g, off, rfl, hg, fun i hi => ?_⟩
  obtain ⟨u, hu, hR⟩ := hc i hi
  exact ⟨u, by rw [hb.cell (p := ⟨g, off + i, none⟩) hg]; exact hu, Under.go hb hR⟩⟩
instance {α : Type} (U : Nat) (R : World → Value → α → Prop) [Lasts 0 R] : Lasts 0 (RU U R) := ⟨fun {w w' v xs} hs h => by
  obtain ⟨p, cap, rfl, h1, h2, h4⟩ := h
  refine ⟨p, cap, rfl, h1, h2, fun h0 => ?_⟩
  obtain ⟨g, off, rfl, hg, hc⟩ := h4 h0
  refine ⟨g, off, rfl, hg, fun i hi => ?_⟩
  obtain ⟨u, hu, hR⟩ := hc i hi
  exact ⟨u, by rw [hs.cell (Nat.zero_le _) (World.block_lt_of_cell? w _ hu)]; exact hu, Lasts.go hs hR⟩⟩
theorem RU.isSlice {α : Type} {U : Nat} {R : World → Value → α → Prop} {w : World} {v : Value} {xs : List α} (h : RU U R w v xs) : ∃ p c, v = .slice p xs.length c := by
  obtain ⟨p, c, e, _⟩ := h
  exact ⟨p, c, e⟩
theorem RU.rl {α : Type} {U : Nat} {R : World → Value → α → Prop} {w : World} {v : Value} {xs : List α} (h : RU U R w v xs) : RL 0 R w v xs := by
  obtain ⟨p, cap, rfl, h1, h2, h4⟩ := h
  refine ⟨p, cap, rfl, h1, h2, fun h0 => ?_⟩
  obtain ⟨g, off, rfl, hg, hc⟩ := h4 h0
  refine ⟨g, off, rfl, ?_, Nat.zero_le _, hc⟩
  obtain ⟨u, hu, _⟩ := hc 0 h0
  exact World.block_lt_of_cell? w _ hu
theorem RL.ru {α : Type} {R R' : World → Value → α → Prop} {w : World} {v : Value} {xs : List α} (h : RL 0 R w v xs) (hR : ∀ u x, R w u x → R' w u x) : RU w.heap.size R' w v xs := by
  obtain ⟨p, cap, rfl, h1, h2, h4⟩ := h
  refine ⟨p, cap, rfl, h1, h2, fun h0 => ?_⟩
  obtain ⟨g, off, rfl, hg, _, hc⟩ := h4 h0
  exact ⟨g, off, rfl, hg, fun i hi => by obtain ⟨u, hu, hr⟩ := hc i hi; exact ⟨u, hu, hR _ _ hr⟩⟩
theorem RL.mapped {α : Type} {R R' : World → Value → α → Prop} {w : World} {v : Value} {xs : List α} (h : RL 0 R w v xs) (hR : ∀ u x, R w u x → R' w u x) : RL 0 R' w v xs := RL.mono h (Nat.le_refl _) hR
abbrev UComp (U : Nat) : World → Value → List ByteArray → Prop := RU U RS
abbrev URep (U : Nat) : World → Value → List (List ByteArray) → Prop := RU U (UComp U)
abbrev UFld (U : Nat) : World → Value → List (List (List ByteArray)) → Prop := RU U (URep U)
theorem fld_under {w : World} {v : Value} {x : List (List (List ByteArray))} (h : RFld 0 w v x) : UFld w.heap.size w v x := RL.ru h fun _ _ h => RL.ru h fun _ _ h => RL.ru h fun _ _ h => h
theorem RU.mono {α : Type} {U U' : Nat} {R R' : World → Value → α → Prop} {w : World} {v : Value} {xs : List α} (h : RU U R w v xs) (hU : U ≤ U') (hR : ∀ u x, R w u x → R' w u x) : RU U' R' w v xs := by
  obtain ⟨p, cap, rfl, h1, h2, h4⟩ := h
  refine ⟨p, cap, rfl, h1, h2, fun h0 => ?_⟩
  obtain ⟨g, off, rfl, hg, hc⟩ := h4 h0
  exact ⟨g, off, rfl, Nat.lt_of_lt_of_le hg hU, fun i hi => by obtain ⟨u, hu, hr⟩ := hc i hi; exact ⟨u, hu, hR _ _ hr⟩⟩
end Go.Proofs.YtolgjdnhhbbebaaGreatDoor
/- The model's l04Text and FieldText. -/
namespace Go.Proofs.YtolgjdnhhbbebaaGreatDoor
open Go.RowKit

theorem wpList_bufS {P : Program} {ops : Array Oper} {rest : List Oper} {o : Oper} {a : Act} {w w0 : World} {Q : Exit → Act → World → Prop}
    (hg : o.guard = none) (s x : Operand) (t u : TypeId) (hop : o.op = Op.call { callee := Callee.builtin Builtin.append, args := #[s, x], argTypes := #[t, u] })
    (B : Nat) (e : TypeId) (ht : P.underlying t = some (.slice e)) (hu : P.underlying u = some .string) (hi : (P.info? e).map (fun i => (i.zero, i.size, i.bytes)) = some (some (.int .u8 0), 1, 1))
    (v : Value) (L : List UInt8) (hs : a.eval s = v) (hB : Buf e B w0 w v L) (S : ByteArray) (hx : a.eval x = .string S) (hlen : L.length + S.size ≤ 100000000)
    (hK : ∀ v' w', Buf e B w0 w' v' (L ++ S.data.toList) → wpList P ops Q rest (a.put o.dst v') w') : wpList P ops Q (o :: rest) a w := by
  obtain ⟨i0, hi0, hz0, hz1, hz2⟩ := info_parts hi
  refine Lib.wpList_append_own_string w hg s x t u hop B e i0 ht hu hi0 hz0 hz1 hz2 v L.length (u8s L) hs hB.own S hx (by unfold maxLen; omega) (by omega) hB.size ?_
  intro v' w' ho hgr _
  refine hK v' w' ⟨?_, hB.below.grown hgr hB.size (fun k hk => (hB.own.lt k hk).1), hB.le, hB.kept.grown hgr (own_kindB hB.own)⟩
  have e1 : u8s (L ++ S.data.toList) = u8s L ++ Lib.strCells S := by simp [u8s, Lib.strCells, u8v]
  rw [e1, List.length_append, bytes_len]
  exact ho
theorem fieldRow_kept {B : Nat} {w w' : World} {v : Value} {L : List UInt8} {g : Nat} {vs : List Value} (h : Buf 5 B w w' v L) (hr : Row w g 76 vs) : Row w' g 76 vs :=
  h.kept g _ hr (by simp) (fun _ _ e1 => by simp at e1)

set_option maxHeartbeats 8000000 in
set_option maxRecDepth 100000 in
theorem l04Text_any (m : ByteArray) (u : Value) (x : List (List (List ByteArray))) (w : World) (hm : m.size = 5) (hx : fldB x = true) (hr : RFld 0 w u x) :
    Calls Tryz.prog 38 #[.string m, .agg #[u]] w fun e w' => e = .returned (.string ⟨(fldT m x).toArray⟩) ∧ Below w.heap.size w w' := by
  have HLT := hideF (fldT_len (m := m) hx)
  obtain ⟨p, cap, rfl, h1, h2, h4⟩ := fld_under hr
  have H4 := hideF h4
  obtain ⟨hxe, hxl⟩ := right_mem hx
  have HXE := hideF hxe
  clear h4 hr hxe
  unfold maxLen at h2
  have hm2 : 2 < m.size := by omega
  have hm1 : 1 < m.size := by omega
  have hm4 : 4 < m.size := by omega
  have HM2 := hideF (bAt_get m 2 hm2)
  have HM1 := hideF (bAt_get m 1 hm1)
  have HM4 := hideF (bAt_get m 4 hm4)
  have HR0 := hideF (row_new w [.slice p x.length cap] 76)
  have HBE := hideF (bufEmpty 5 (w.alloc (.cells #[.slice p x.length cap] 76)))
  have HB0 : Hid (Buf 5 w.heap.size w ((w.alloc (.cells #[.slice p x.length cap] 76)).alloc (.cells #[] 5)) (.slice (some ⟨w.heap.size + 1, 0, none⟩) 0 0) []) := by
    have h := HBE.out
    refine ⟨?_, ((Below.refl _ _).alloc (Nat.le_refl _) _).alloc (by simp) _, Nat.le_refl _, ((Lib.OthersKept.refl _ _ _).alloc _).alloc _⟩
    have e : (w.alloc (.cells #[.slice p x.length cap] 76)).heap.size = w.heap.size + 1 := by simp
    have ho := h.own
    rw [e] at ho
    exact ⟨ho.1, ho.2.imp id fun ⟨g, c, cu, a1, a2, a3⟩ => ⟨g, c, cu, a1, Nat.le_trans (by omega) a2, a3⟩⟩
  have HR1 := hideF (HR0.out.alloc (.cells #[] 5))
  clear HBE HR0
  go_enter Tryz.func38, Tryz.ntmps38
  go_wp2
  go_loopw [5, 6] (fun v' i wr => ∃ (X : World) (k : Nat) (D : List UInt8), X = wr ∧ k ≤ x.length ∧ i = .int .i64 k ∧ Hid (Buf 5 w.heap.size w X v' D) ∧ Hid (Row X w.heap.size 76 [.slice p x.length cap]) ∧ Hid (Done (bAt m 2) (repT m) x k D)) (fun _ i _ => x.length - (intOf i).toNat)
  case atStart => exact ⟨_, 0, [], rfl, Nat.zero_le _, rfl, HB0, HR1, Done.zero _ _ _⟩
  case round =>
    obtain ⟨X, k, D, rfl, hk, rfl, HBf, HRw, HD⟩ := hrel
    have c0 : X.cell? ⟨w.heap.size, 0, none⟩ = some (.slice p x.length cap) := HRw.out.cell 0
    by_cases hlt : k < x.length
    · obtain ⟨g, off, hp, hg, hc⟩ := H4.out (by omega)
      subst hp
      obtain ⟨yu, hyu, hyr⟩ := hc k hlt
      obtain ⟨y, hy⟩ : ∃ y, y = x[k]'hlt := ⟨_, rfl⟩
      rw [← hy] at hyr
      have HYE := hideF (show ∀ i (hi : i < y.length), compB y[i] = true by rw [hy]; exact (right_mem (HXE.out k hlt)).1)
      have HLR := hideF (show (repT m y).length ≤ 9060 by rw [hy]; exact repT_len (HXE.out k hlt))
      have hy10 : y.length ≤ 10 := by rw [hy]; exact (right_mem (HXE.out k hlt)).2
      obtain ⟨yp, yc, rfl, hy1, hy2, hy4⟩ := hyr
      have HY4 := hideF hy4
      have HUK := hideF hyu
      have hcx : X.cell? ⟨g, off + k, none⟩ = some (.slice yp y.length yc) := by rw [HBf.out.below.cell (p := ⟨g, off + k, none⟩) hg]; exact hyu
      have HRM := hideF (HD.out.room hlt)
      have HLA := hideF (show D.length ≤ 46000 by have h1 := HRM.out; have h2 := HLT.out; have h4 : (fldT m x) = jnF (bAt m 2) (repT m) 0 x := rfl; rw [h4] at h2; omega)
      unfold maxLen at hy2
      clear hy4 hyu hc
      by_cases h0 : k = 0
      · have hneg : ¬ (0 : Int) < (k : Int) := by omega
        have HNX := hideF (HD.out.first' h0 hlt)
        clear h0
        rw [← hy] at HNX
        obtain ⟨A1, hA1⟩ : ∃ A1, A1 = D := ⟨_, rfl⟩
        have HN1 : Hid (∃ G, A1 ++ repT m y = G ∧ Done (bAt m 2) (repT m) x (k + 1) G) := ⟨D ++ repT m y, by rw [hA1], HNX.out⟩
        have HB1 : Hid (Buf 5 w.heap.size w X u5 A1) := by rw [hA1]; exact HBf
        have HLA1 : Hid (A1.length ≤ 47000) := by rw [hA1]; exact (by have := HLA.out; omega : D.length ≤ 47000)
        have HR1' := hideF HRw.out
        clear hA1 HNX hy
        go_wp2_with fail
        go_loopw [5, 7] (fun v' i wr => ∃ (Y : World) (l : Nat) (E : List UInt8), Y = wr ∧ l ≤ y.length ∧ i = .int .i64 l ∧ Hid (Buf 5 w.heap.size w Y v' (A1 ++ E)) ∧ Hid (Row Y w.heap.size 76 [.slice (some ⟨g, off, none⟩) x.length cap]) ∧ Hid (Done (bAt m 1) (compT m) y l E)) (fun _ i _ => y.length - (intOf i).toNat)
        case atStart => exact ⟨_, 0, [], rfl, Nat.zero_le _, rfl, by rw [List.append_nil]; exact HB1, HR1', Done.zero _ _ _⟩
        case round =>
          obtain ⟨Y, l, E, rfl, hl, rfl, HBy, HRy, HDy⟩ := hrel
          have c0 : Y.cell? ⟨w.heap.size, 0, none⟩ = some (.slice (some ⟨g, off, none⟩) x.length cap) := HRy.out.cell 0
          have hcy : Y.cell? ⟨g, off + k, none⟩ = some (.slice yp y.length yc) := by rw [HBy.out.below.cell (p := ⟨g, off + k, none⟩) hg]; exact HUK.out
          by_cases hlt2 : l < y.length
          · obtain ⟨g2, off2, hp2, hg2, hc2⟩ := HY4.out (by omega)
            subst hp2
            obtain ⟨zu, hzu, hzr⟩ := hc2 l hlt2
            obtain ⟨z, hz⟩ : ∃ z, z = y[l]'hlt2 := ⟨_, rfl⟩
            rw [← hz] at hzr
            have HZE := hideF (show ∀ i (hi : i < z.length), subB z[i] = true by rw [hz]; exact (right_mem (HYE.out l hlt2)).1)
            have HLC := hideF (show (compT m z).length ≤ 905 by rw [hz]; exact compT_len (HYE.out l hlt2))
            have hz5 : z.length ≤ 5 := by rw [hz]; exact (right_mem (HYE.out l hlt2)).2
            obtain ⟨zp, zc, rfl, hz1, hz2, hz4⟩ := hzr
            have HZ := hideF hz4
            have HZU := hideF hzu
            have hck2 : Y.cell? ⟨g2, off2 + l, none⟩ = some (.slice zp z.length zc) := by rw [HBy.out.below.cell (p := ⟨g2, off2 + l, none⟩) hg2]; exact hzu
            have HRMy := hideF (HDy.out.room hlt2)
            have HLA := hideF (show (A1 ++ E).length ≤ 58000 by have h1 := HRMy.out; have h2 := HLR.out; have h3 := HLA1.out; have h4 : (repT m y) = jnF (bAt m 1) (compT m) 0 y := rfl; rw [h4] at h2; rw [List.length_append]; omega)
            unfold maxLen at hz2
            clear hz4 hzu hc2
            by_cases h0 : l = 0
            · have hneg2 : ¬ (0 : Int) < (l : Int) := by omega
              have HNX := hideF (HDy.out.first' h0 hlt2)
              clear h0
              rw [← hz] at HNX
              obtain ⟨A2, hA2⟩ : ∃ A2, A2 = A1 ++ E := ⟨_, rfl⟩
              have HN2 : Hid (∃ G, A2 ++ compT m z = A1 ++ G ∧ Done (bAt m 1) (compT m) y (l + 1) G) := ⟨E ++ compT m z, by rw [hA2]; simp, HNX.out⟩
              have HB2 : Hid (Buf 5 w.heap.size w Y u5 A2) := by rw [hA2]; exact HBy
              have HLA2 : Hid (A2.length ≤ 59000) := by rw [hA2]; exact (by have := HLA.out; omega : (A1 ++ E).length ≤ 59000)
              have HR2 := hideF HRy.out
              clear hA2 HNX hz
              go_wp2_with fail
              go_loopw [5, 9] (fun v' i wr => ∃ (Z : World) (t : Nat) (F : List UInt8), Z = wr ∧ t ≤ z.length ∧ i = .int .i64 t ∧ Hid (Buf 5 w.heap.size w Z v' (A2 ++ F)) ∧ Hid (Row Z w.heap.size 76 [.slice (some ⟨g, off, none⟩) x.length cap]) ∧ Hid (Done (bAt m 4) (subT m) z t F)) (fun _ i _ => z.length - (intOf i).toNat)
              case atStart => exact ⟨_, 0, [], rfl, Nat.zero_le _, rfl, by rw [List.append_nil]; exact HB2, HR2, Done.zero _ _ _⟩
              case round =>
                obtain ⟨Z, t, F, rfl, ht, rfl, HB3, HR3, HD3⟩ := hrel
                by_cases hlt3 : t < z.length
                · obtain ⟨g3, off3, hp3, hg3, hc3⟩ := HZ.out (by omega)
                  subst hp3
                  obtain ⟨sv, hsv, rfl, _⟩ := hc3 t hlt3
                  have hck3 : Z.cell? ⟨g3, off3 + t, none⟩ = some (.string (z[t]'hlt3)) := by rw [HB3.out.below.cell (p := ⟨g3, off3 + t, none⟩) hg3]; exact hsv
                  have HOK3 := hideF (HZE.out t hlt3)
                  have HRM3 := hideF (HD3.out.room hlt3)
                  have HLA3 := hideF (show (A2 ++ F).length ≤ 60000 by have h1 := HRM3.out; have h2 := HLC.out; have h3 := HLA2.out; have h4 : (compT m z) = jnF (bAt m 4) (subT m) 0 z := rfl; rw [h4] at h2; rw [List.length_append]; omega)
                  clear hsv hc3
                  by_cases h0 : t = 0
                  · have hneg3 : ¬ (0 : Int) < (t : Int) := by omega
                    have HNX := hideF (HD3.out.first' h0 hlt3)
                    clear h0
                    have HBA := hideF HB3.out
                    have HRA := hideF HR3.out
                    obtain ⟨A3, hA3⟩ : ∃ A3, A3 = A2 ++ F := ⟨_, rfl⟩
                    have HNY : Hid (∃ G, A3 ++ subT m (z[t]'hlt3) = A2 ++ G ∧ Done (bAt m 4) (subT m) z (t + 1) G) := ⟨F ++ subT m (z[t]'hlt3), by rw [hA3]; simp, HNX.out⟩
                    rw [← hA3] at HBA HLA3
                    clear hA3 HNX
                    go_wp2_with fail
                    refine (l04Escape_any m (z[t]'hlt3) _ hm (by have := (subB_plain HOK3.out).2; omega)).mono ?_
                    rintro e w7 ⟨rfl, hb7⟩
                    have HB7 := hideF (HBA.out.onBelow hb7)
                    have HR7 := hideF (HRA.out.below hb7 HRA.out.lt)
                    have HBs7 := hideF (Buf.start HB7.out.own HB7.out.size)
                    have hSz : (⟨(escL m (z[t]'hlt3).data.toList).toArray⟩ : ByteArray).size = (subT m (z[t]'hlt3)).length := by simp [ByteArray.size, subT]
                    have HL7 := hideF (show A3.length + (⟨(escL m (z[t]'hlt3).data.toList).toArray⟩ : ByteArray).size ≤ 100000000 by have h1 := subT_len (m := m) HOK3.out; have h2 := HLA3.out; rw [hSz]; omega)
                    clear hb7 hSz
                    go_wp2_with (at_builtin; refine wpList_bufS (w0 := w7) rfl (.tmp 66) (.tmp 72) 63 9 rfl w.heap.size 5 Tryz.underlying63 Tryz.underlying9 Tryz.infoByte _ A3 rfl HBs7.out _ rfl HL7.out ?_)
                    intro v8 w8 hb8
                    have HB8 := hideF (HB7.out.trans hb8)
                    have HR8 := hideF (fieldRow_kept hb8 HR7.out)
                    clear hb8
                    obtain ⟨G', hg1, hg2⟩ := HNY.out
                    have HG1 := hideF hg1
                    have HG2 := hideF hg2
                    clear hg1 hg2
                    go_wp2
                    go_roundw
                    case rel => exact ⟨_, t + 1, G', rfl, by omega, by go_num, by rw [← HG1.out]; exact HB8, HR8, HG2⟩
                    case measure => simp [intOf]; omega
                  · have hpos : (0 : Int) < (t : Int) := by omega
                    have hk0 : 0 < t := by omega
                    have HNX := hideF (HD3.out.next hk0 hlt3)
                    have HBs := hideF (HB3.out.alloc (.cells #[.int .u8 ((m[4]'hm4).toNat : Int)] 5))
                    have HBt := hideF ((Buf.start HB3.out.own HB3.out.size).alloc (.cells #[.int .u8 ((m[4]'hm4).toNat : Int)] 5))
                    have HC := hideF (heap_alloc_new Z (.cells #[.int .u8 ((m[4]'hm4).toNat : Int)] 5))
                    have HL3 := hideF (show (A2 ++ F).length + [m[4]'hm4].length ≤ 100000000 by have h1 := HLA3.out; simp only [List.length_cons, List.length_nil]; omega)
                    go_wp2_with (at_builtin; refine wpList_buf (w0 := Z) rfl (.tmp 61) (.tmp 64) 63 rfl w.heap.size 5 Tryz.underlying63 Tryz.infoByte _ (A2 ++ F) rfl HBt.out Z.heap.size 1 [m[4]'hm4] rfl rfl ⟨_, HC.out⟩ HL3.out ?_)
                    clear HBs HBt HC HL3
                    intro v6 w6 hb6
                    have HBA := hideF (HB3.out.trans hb6)
                    have HRA := hideF (fieldRow_kept hb6 HR3.out)
                    have hck6 : w6.cell? ⟨g3, off3 + t, none⟩ = some (.string (z[t]'hlt3)) := by rw [hb6.below.cell (p := ⟨g3, off3 + t, none⟩) hg3]; exact hck3
                    clear hb6 hck3
                    obtain ⟨A3, hA3⟩ : ∃ A3, A3 = A2 ++ F ++ [m[4]'hm4] := ⟨_, rfl⟩
                    have HNY : Hid (∃ G, A3 ++ subT m (z[t]'hlt3) = A2 ++ G ∧ Done (bAt m 4) (subT m) z (t + 1) G) := ⟨F ++ [bAt m 4] ++ subT m (z[t]'hlt3), by rw [hA3, HM4.out]; simp, HNX.out⟩
                    have HLA4 := hideF (show A3.length ≤ 60001 by have := HLA3.out; rw [hA3, List.length_append]; simp only [List.length_cons, List.length_nil]; omega)
                    have HBA' : Hid (Buf 5 w.heap.size w w6 v6 A3) := by rw [hA3]; first | exact HBA | simpa only [List.append_assoc] using HBA
                    clear hA3 HNX HBA
                    go_wp2_with fail
                    refine (l04Escape_any m (z[t]'hlt3) _ hm (by have := (subB_plain HOK3.out).2; omega)).mono ?_
                    rintro e w7 ⟨rfl, hb7⟩
                    have HB7 := hideF (HBA'.out.onBelow hb7)
                    have HR7 := hideF (HRA.out.below hb7 HRA.out.lt)
                    have HBs7 := hideF (Buf.start HB7.out.own HB7.out.size)
                    have hSz : (⟨(escL m (z[t]'hlt3).data.toList).toArray⟩ : ByteArray).size = (subT m (z[t]'hlt3)).length := by simp [ByteArray.size, subT]
                    have HL7 := hideF (show A3.length + (⟨(escL m (z[t]'hlt3).data.toList).toArray⟩ : ByteArray).size ≤ 100000000 by have h1 := subT_len (m := m) HOK3.out; have h2 := HLA4.out; rw [hSz]; omega)
                    clear hb7 hSz
                    go_wp2_with (at_builtin; refine wpList_bufS (w0 := w7) rfl (.tmp 66) (.tmp 72) 63 9 rfl w.heap.size 5 Tryz.underlying63 Tryz.underlying9 Tryz.infoByte _ A3 rfl HBs7.out _ rfl HL7.out ?_)
                    intro v8 w8 hb8
                    have HB8 := hideF (HB7.out.trans hb8)
                    have HR8 := hideF (fieldRow_kept hb8 HR7.out)
                    clear hb8
                    obtain ⟨G', hg1, hg2⟩ := HNY.out
                    have HG1 := hideF hg1
                    have HG2 := hideF hg2
                    clear hg1 hg2
                    go_wp2
                    go_roundw
                    case rel => exact ⟨_, t + 1, G', rfl, by omega, by go_num, by rw [← HG1.out]; exact HB8, HR8, HG2⟩
                    case measure => simp [intOf]; omega
                · have HAL := hideF (HD3.out.all (by omega))
                  have HB3' : Hid (Buf 5 w.heap.size w Z u5 (A2 ++ compT m z)) := by rw [HAL.out] at HB3; exact HB3
                  obtain ⟨E', he1, he2⟩ := HN2.out
                  have HEQ := hideF he1
                  have HED := hideF he2
                  clear he1 he2
                  go_wp2
                  go_roundw
                  case rel => exact ⟨_, l + 1, E', rfl, by omega, by go_num, by rw [← HEQ.out]; exact HB3', HR3, HED⟩
                  case measure => simp [intOf]; omega
            · have hpos : (0 : Int) < (l : Int) := by omega
              have hk0 : 0 < l := by omega
              have HNX := hideF (HDy.out.next hk0 hlt2)
              rw [← hz] at HNX
              have HBs := hideF (HBy.out.alloc (.cells #[.int .u8 ((m[1]'hm1).toNat : Int)] 5))
              have HBt := hideF ((Buf.start HBy.out.own HBy.out.size).alloc (.cells #[.int .u8 ((m[1]'hm1).toNat : Int)] 5))
              have HC := hideF (heap_alloc_new Y (.cells #[.int .u8 ((m[1]'hm1).toNat : Int)] 5))
              have HL3 := hideF (show (A1 ++ E).length + [m[1]'hm1].length ≤ 100000000 by have h1 := HLA.out; simp only [List.length_cons, List.length_nil]; omega)
              go_wp2_with (at_builtin; refine wpList_buf (w0 := Y) rfl (.tmp 38) (.tmp 41) 63 rfl w.heap.size 5 Tryz.underlying63 Tryz.infoByte _ (A1 ++ E) rfl HBt.out Y.heap.size 1 [m[1]'hm1] rfl rfl ⟨_, HC.out⟩ HL3.out ?_)
              clear HBs HBt HC HL3
              intro v5 w5 hb5
              have HBA := hideF (HBy.out.trans hb5)
              have HR2 := hideF (fieldRow_kept hb5 HRy.out)
              have c5 : w5.cell? ⟨w.heap.size, 0, none⟩ = some (.slice (some ⟨g, off, none⟩) x.length cap) := HR2.out.cell 0
              have hcy5 : w5.cell? ⟨g, off + k, none⟩ = some (.slice (some ⟨g2, off2, none⟩) y.length yc) := by rw [HBA.out.below.cell (p := ⟨g, off + k, none⟩) hg]; exact HUK.out
              have hck5 : w5.cell? ⟨g2, off2 + l, none⟩ = some (.slice zp z.length zc) := by rw [HBA.out.below.cell (p := ⟨g2, off2 + l, none⟩) hg2]; exact HZU.out
              clear hb5 c0 hcy hck2
              obtain ⟨A2, hA2⟩ : ∃ A2, A2 = A1 ++ E ++ [m[1]'hm1] := ⟨_, rfl⟩
              have HN2 : Hid (∃ G, A2 ++ compT m z = A1 ++ G ∧ Done (bAt m 1) (compT m) y (l + 1) G) := ⟨E ++ [bAt m 1] ++ compT m z, by rw [hA2, HM1.out]; simp, HNX.out⟩
              have HB2 : Hid (Buf 5 w.heap.size w w5 v5 A2) := by rw [hA2]; first | exact HBA | simpa only [List.append_assoc] using HBA
              have HLA2 : Hid (A2.length ≤ 59000) := by rw [hA2]; exact (by have := HLA.out; rw [List.length_append]; simp only [List.length_cons, List.length_nil]; omega : (A1 ++ E ++ [m[1]'hm1]).length ≤ 59000)
              clear hA2 HNX hz HBA
              go_wp2_with fail
              go_loopw [5, 9] (fun v' i wr => ∃ (Z : World) (t : Nat) (F : List UInt8), Z = wr ∧ t ≤ z.length ∧ i = .int .i64 t ∧ Hid (Buf 5 w.heap.size w Z v' (A2 ++ F)) ∧ Hid (Row Z w.heap.size 76 [.slice (some ⟨g, off, none⟩) x.length cap]) ∧ Hid (Done (bAt m 4) (subT m) z t F)) (fun _ i _ => z.length - (intOf i).toNat)
              case atStart => exact ⟨_, 0, [], rfl, Nat.zero_le _, rfl, by rw [List.append_nil]; exact HB2, HR2, Done.zero _ _ _⟩
              case round =>
                obtain ⟨Z, t, F, rfl, ht, rfl, HB3, HR3, HD3⟩ := hrel
                by_cases hlt3 : t < z.length
                · obtain ⟨g3, off3, hp3, hg3, hc3⟩ := HZ.out (by omega)
                  subst hp3
                  obtain ⟨sv, hsv, rfl, _⟩ := hc3 t hlt3
                  have hck3 : Z.cell? ⟨g3, off3 + t, none⟩ = some (.string (z[t]'hlt3)) := by rw [HB3.out.below.cell (p := ⟨g3, off3 + t, none⟩) hg3]; exact hsv
                  have HOK3 := hideF (HZE.out t hlt3)
                  have HRM3 := hideF (HD3.out.room hlt3)
                  have HLA3 := hideF (show (A2 ++ F).length ≤ 60000 by have h1 := HRM3.out; have h2 := HLC.out; have h3 := HLA2.out; have h4 : (compT m z) = jnF (bAt m 4) (subT m) 0 z := rfl; rw [h4] at h2; rw [List.length_append]; omega)
                  clear hsv hc3
                  by_cases h0 : t = 0
                  · have hneg3 : ¬ (0 : Int) < (t : Int) := by omega
                    have HNX := hideF (HD3.out.first' h0 hlt3)
                    clear h0
                    have HBA := hideF HB3.out
                    have HRA := hideF HR3.out
                    obtain ⟨A3, hA3⟩ : ∃ A3, A3 = A2 ++ F := ⟨_, rfl⟩
                    have HNY : Hid (∃ G, A3 ++ subT m (z[t]'hlt3) = A2 ++ G ∧ Done (bAt m 4) (subT m) z (t + 1) G) := ⟨F ++ subT m (z[t]'hlt3), by rw [hA3]; simp, HNX.out⟩
                    rw [← hA3] at HBA HLA3
                    clear hA3 HNX
                    go_wp2_with fail
                    refine (l04Escape_any m (z[t]'hlt3) _ hm (by have := (subB_plain HOK3.out).2; omega)).mono ?_
                    rintro e w7 ⟨rfl, hb7⟩
                    have HB7 := hideF (HBA.out.onBelow hb7)
                    have HR7 := hideF (HRA.out.below hb7 HRA.out.lt)
                    have HBs7 := hideF (Buf.start HB7.out.own HB7.out.size)
                    have hSz : (⟨(escL m (z[t]'hlt3).data.toList).toArray⟩ : ByteArray).size = (subT m (z[t]'hlt3)).length := by simp [ByteArray.size, subT]
                    have HL7 := hideF (show A3.length + (⟨(escL m (z[t]'hlt3).data.toList).toArray⟩ : ByteArray).size ≤ 100000000 by have h1 := subT_len (m := m) HOK3.out; have h2 := HLA3.out; rw [hSz]; omega)
                    clear hb7 hSz
                    go_wp2_with (at_builtin; refine wpList_bufS (w0 := w7) rfl (.tmp 66) (.tmp 72) 63 9 rfl w.heap.size 5 Tryz.underlying63 Tryz.underlying9 Tryz.infoByte _ A3 rfl HBs7.out _ rfl HL7.out ?_)
                    intro v8 w8 hb8
                    have HB8 := hideF (HB7.out.trans hb8)
                    have HR8 := hideF (fieldRow_kept hb8 HR7.out)
                    clear hb8
                    obtain ⟨G', hg1, hg2⟩ := HNY.out
                    have HG1 := hideF hg1
                    have HG2 := hideF hg2
                    clear hg1 hg2
                    go_wp2
                    go_roundw
                    case rel => exact ⟨_, t + 1, G', rfl, by omega, by go_num, by rw [← HG1.out]; exact HB8, HR8, HG2⟩
                    case measure => simp [intOf]; omega
                  · have hpos : (0 : Int) < (t : Int) := by omega
                    have hk0 : 0 < t := by omega
                    have HNX := hideF (HD3.out.next hk0 hlt3)
                    have HBs := hideF (HB3.out.alloc (.cells #[.int .u8 ((m[4]'hm4).toNat : Int)] 5))
                    have HBt := hideF ((Buf.start HB3.out.own HB3.out.size).alloc (.cells #[.int .u8 ((m[4]'hm4).toNat : Int)] 5))
                    have HC := hideF (heap_alloc_new Z (.cells #[.int .u8 ((m[4]'hm4).toNat : Int)] 5))
                    have HL3 := hideF (show (A2 ++ F).length + [m[4]'hm4].length ≤ 100000000 by have h1 := HLA3.out; simp only [List.length_cons, List.length_nil]; omega)
                    go_wp2_with (at_builtin; refine wpList_buf (w0 := Z) rfl (.tmp 61) (.tmp 64) 63 rfl w.heap.size 5 Tryz.underlying63 Tryz.infoByte _ (A2 ++ F) rfl HBt.out Z.heap.size 1 [m[4]'hm4] rfl rfl ⟨_, HC.out⟩ HL3.out ?_)
                    clear HBs HBt HC HL3
                    intro v6 w6 hb6
                    have HBA := hideF (HB3.out.trans hb6)
                    have HRA := hideF (fieldRow_kept hb6 HR3.out)
                    have hck6 : w6.cell? ⟨g3, off3 + t, none⟩ = some (.string (z[t]'hlt3)) := by rw [hb6.below.cell (p := ⟨g3, off3 + t, none⟩) hg3]; exact hck3
                    clear hb6 hck3
                    obtain ⟨A3, hA3⟩ : ∃ A3, A3 = A2 ++ F ++ [m[4]'hm4] := ⟨_, rfl⟩
                    have HNY : Hid (∃ G, A3 ++ subT m (z[t]'hlt3) = A2 ++ G ∧ Done (bAt m 4) (subT m) z (t + 1) G) := ⟨F ++ [bAt m 4] ++ subT m (z[t]'hlt3), by rw [hA3, HM4.out]; simp, HNX.out⟩
                    have HLA4 := hideF (show A3.length ≤ 60001 by have := HLA3.out; rw [hA3, List.length_append]; simp only [List.length_cons, List.length_nil]; omega)
                    have HBA' : Hid (Buf 5 w.heap.size w w6 v6 A3) := by rw [hA3]; first | exact HBA | simpa only [List.append_assoc] using HBA
                    clear hA3 HNX HBA
                    go_wp2_with fail
                    refine (l04Escape_any m (z[t]'hlt3) _ hm (by have := (subB_plain HOK3.out).2; omega)).mono ?_
                    rintro e w7 ⟨rfl, hb7⟩
                    have HB7 := hideF (HBA'.out.onBelow hb7)
                    have HR7 := hideF (HRA.out.below hb7 HRA.out.lt)
                    have HBs7 := hideF (Buf.start HB7.out.own HB7.out.size)
                    have hSz : (⟨(escL m (z[t]'hlt3).data.toList).toArray⟩ : ByteArray).size = (subT m (z[t]'hlt3)).length := by simp [ByteArray.size, subT]
                    have HL7 := hideF (show A3.length + (⟨(escL m (z[t]'hlt3).data.toList).toArray⟩ : ByteArray).size ≤ 100000000 by have h1 := subT_len (m := m) HOK3.out; have h2 := HLA4.out; rw [hSz]; omega)
                    clear hb7 hSz
                    go_wp2_with (at_builtin; refine wpList_bufS (w0 := w7) rfl (.tmp 66) (.tmp 72) 63 9 rfl w.heap.size 5 Tryz.underlying63 Tryz.underlying9 Tryz.infoByte _ A3 rfl HBs7.out _ rfl HL7.out ?_)
                    intro v8 w8 hb8
                    have HB8 := hideF (HB7.out.trans hb8)
                    have HR8 := hideF (fieldRow_kept hb8 HR7.out)
                    clear hb8
                    obtain ⟨G', hg1, hg2⟩ := HNY.out
                    have HG1 := hideF hg1
                    have HG2 := hideF hg2
                    clear hg1 hg2
                    go_wp2
                    go_roundw
                    case rel => exact ⟨_, t + 1, G', rfl, by omega, by go_num, by rw [← HG1.out]; exact HB8, HR8, HG2⟩
                    case measure => simp [intOf]; omega
                · have HAL := hideF (HD3.out.all (by omega))
                  have HB3' : Hid (Buf 5 w.heap.size w Z u5 (A2 ++ compT m z)) := by rw [HAL.out] at HB3; exact HB3
                  obtain ⟨E', he1, he2⟩ := HN2.out
                  have HEQ := hideF he1
                  have HED := hideF he2
                  clear he1 he2
                  go_wp2
                  go_roundw
                  case rel => exact ⟨_, l + 1, E', rfl, by omega, by go_num, by rw [← HEQ.out]; exact HB3', HR3, HED⟩
                  case measure => simp [intOf]; omega
          · have HAL := hideF (HDy.out.all (by omega))
            have HBy' : Hid (Buf 5 w.heap.size w Y u5 (A1 ++ repT m y)) := by rw [HAL.out] at HBy; exact HBy
            obtain ⟨D', he1, he2⟩ := HN1.out
            have HEQ := hideF he1
            have HED := hideF he2
            clear he1 he2
            go_wp2
            go_roundw
            case rel => exact ⟨_, k + 1, D', rfl, by omega, by go_num, by rw [← HEQ.out]; exact HBy', HRy, HED⟩
            case measure => simp [intOf]; omega
      · have hpos : (0 : Int) < (k : Int) := by omega
        have hk0 : 0 < k := by omega
        have HNX := hideF (HD.out.next hk0 hlt)
        rw [← hy] at HNX
        have HBs := hideF (HBf.out.alloc (.cells #[.int .u8 ((m[2]'hm2).toNat : Int)] 5))
        have HBt := hideF ((Buf.start HBf.out.own HBf.out.size).alloc (.cells #[.int .u8 ((m[2]'hm2).toNat : Int)] 5))
        have HC := hideF (heap_alloc_new X (.cells #[.int .u8 ((m[2]'hm2).toNat : Int)] 5))
        have HL3 := hideF (show (D).length + [m[2]'hm2].length ≤ 100000000 by have h1 := HLA.out; simp only [List.length_cons, List.length_nil]; omega)
        go_wp2_with (at_builtin; refine wpList_buf (w0 := X) rfl (.tmp 20) (.tmp 23) 63 rfl w.heap.size 5 Tryz.underlying63 Tryz.infoByte _ (D) rfl HBt.out X.heap.size 1 [m[2]'hm2] rfl rfl ⟨_, HC.out⟩ HL3.out ?_)
        clear HBs HBt HC HL3
        intro v4 w4 hb4
        have HBA := hideF (HBf.out.trans hb4)
        have HR1' := hideF (fieldRow_kept hb4 HRw.out)
        clear hb4 c0 hcx
        obtain ⟨A1, hA1⟩ : ∃ A1, A1 = D ++ [m[2]'hm2] := ⟨_, rfl⟩
        have HN1 : Hid (∃ G, A1 ++ repT m y = G ∧ Done (bAt m 2) (repT m) x (k + 1) G) := ⟨D ++ [bAt m 2] ++ repT m y, by rw [hA1, HM2.out], HNX.out⟩
        have HB1 : Hid (Buf 5 w.heap.size w w4 v4 A1) := by rw [hA1]; exact HBA
        have HLA1 : Hid (A1.length ≤ 47000) := by rw [hA1]; exact (by have := HLA.out; rw [List.length_append]; simp only [List.length_cons, List.length_nil]; omega : (D ++ [m[2]'hm2]).length ≤ 47000)
        clear hA1 HNX hy HBA
        go_wp2_with fail
        go_loopw [5, 7] (fun v' i wr => ∃ (Y : World) (l : Nat) (E : List UInt8), Y = wr ∧ l ≤ y.length ∧ i = .int .i64 l ∧ Hid (Buf 5 w.heap.size w Y v' (A1 ++ E)) ∧ Hid (Row Y w.heap.size 76 [.slice (some ⟨g, off, none⟩) x.length cap]) ∧ Hid (Done (bAt m 1) (compT m) y l E)) (fun _ i _ => y.length - (intOf i).toNat)
        case atStart => exact ⟨_, 0, [], rfl, Nat.zero_le _, rfl, by rw [List.append_nil]; exact HB1, HR1', Done.zero _ _ _⟩
        case round =>
          obtain ⟨Y, l, E, rfl, hl, rfl, HBy, HRy, HDy⟩ := hrel
          have c0 : Y.cell? ⟨w.heap.size, 0, none⟩ = some (.slice (some ⟨g, off, none⟩) x.length cap) := HRy.out.cell 0
          have hcy : Y.cell? ⟨g, off + k, none⟩ = some (.slice yp y.length yc) := by rw [HBy.out.below.cell (p := ⟨g, off + k, none⟩) hg]; exact HUK.out
          by_cases hlt2 : l < y.length
          · obtain ⟨g2, off2, hp2, hg2, hc2⟩ := HY4.out (by omega)
            subst hp2
            obtain ⟨zu, hzu, hzr⟩ := hc2 l hlt2
            obtain ⟨z, hz⟩ : ∃ z, z = y[l]'hlt2 := ⟨_, rfl⟩
            rw [← hz] at hzr
            have HZE := hideF (show ∀ i (hi : i < z.length), subB z[i] = true by rw [hz]; exact (right_mem (HYE.out l hlt2)).1)
            have HLC := hideF (show (compT m z).length ≤ 905 by rw [hz]; exact compT_len (HYE.out l hlt2))
            have hz5 : z.length ≤ 5 := by rw [hz]; exact (right_mem (HYE.out l hlt2)).2
            obtain ⟨zp, zc, rfl, hz1, hz2, hz4⟩ := hzr
            have HZ := hideF hz4
            have HZU := hideF hzu
            have hck2 : Y.cell? ⟨g2, off2 + l, none⟩ = some (.slice zp z.length zc) := by rw [HBy.out.below.cell (p := ⟨g2, off2 + l, none⟩) hg2]; exact hzu
            have HRMy := hideF (HDy.out.room hlt2)
            have HLA := hideF (show (A1 ++ E).length ≤ 58000 by have h1 := HRMy.out; have h2 := HLR.out; have h3 := HLA1.out; have h4 : (repT m y) = jnF (bAt m 1) (compT m) 0 y := rfl; rw [h4] at h2; rw [List.length_append]; omega)
            unfold maxLen at hz2
            clear hz4 hzu hc2
            by_cases h0 : l = 0
            · have hneg2 : ¬ (0 : Int) < (l : Int) := by omega
              have HNX := hideF (HDy.out.first' h0 hlt2)
              clear h0
              rw [← hz] at HNX
              obtain ⟨A2, hA2⟩ : ∃ A2, A2 = A1 ++ E := ⟨_, rfl⟩
              have HN2 : Hid (∃ G, A2 ++ compT m z = A1 ++ G ∧ Done (bAt m 1) (compT m) y (l + 1) G) := ⟨E ++ compT m z, by rw [hA2]; simp, HNX.out⟩
              have HB2 : Hid (Buf 5 w.heap.size w Y u5 A2) := by rw [hA2]; exact HBy
              have HLA2 : Hid (A2.length ≤ 59000) := by rw [hA2]; exact (by have := HLA.out; omega : (A1 ++ E).length ≤ 59000)
              have HR2 := hideF HRy.out
              clear hA2 HNX hz
              go_wp2_with fail
              go_loopw [5, 9] (fun v' i wr => ∃ (Z : World) (t : Nat) (F : List UInt8), Z = wr ∧ t ≤ z.length ∧ i = .int .i64 t ∧ Hid (Buf 5 w.heap.size w Z v' (A2 ++ F)) ∧ Hid (Row Z w.heap.size 76 [.slice (some ⟨g, off, none⟩) x.length cap]) ∧ Hid (Done (bAt m 4) (subT m) z t F)) (fun _ i _ => z.length - (intOf i).toNat)
              case atStart => exact ⟨_, 0, [], rfl, Nat.zero_le _, rfl, by rw [List.append_nil]; exact HB2, HR2, Done.zero _ _ _⟩
              case round =>
                obtain ⟨Z, t, F, rfl, ht, rfl, HB3, HR3, HD3⟩ := hrel
                by_cases hlt3 : t < z.length
                · obtain ⟨g3, off3, hp3, hg3, hc3⟩ := HZ.out (by omega)
                  subst hp3
                  obtain ⟨sv, hsv, rfl, _⟩ := hc3 t hlt3
                  have hck3 : Z.cell? ⟨g3, off3 + t, none⟩ = some (.string (z[t]'hlt3)) := by rw [HB3.out.below.cell (p := ⟨g3, off3 + t, none⟩) hg3]; exact hsv
                  have HOK3 := hideF (HZE.out t hlt3)
                  have HRM3 := hideF (HD3.out.room hlt3)
                  have HLA3 := hideF (show (A2 ++ F).length ≤ 60000 by have h1 := HRM3.out; have h2 := HLC.out; have h3 := HLA2.out; have h4 : (compT m z) = jnF (bAt m 4) (subT m) 0 z := rfl; rw [h4] at h2; rw [List.length_append]; omega)
                  clear hsv hc3
                  by_cases h0 : t = 0
                  · have hneg3 : ¬ (0 : Int) < (t : Int) := by omega
                    have HNX := hideF (HD3.out.first' h0 hlt3)
                    clear h0
                    have HBA := hideF HB3.out
                    have HRA := hideF HR3.out
                    obtain ⟨A3, hA3⟩ : ∃ A3, A3 = A2 ++ F := ⟨_, rfl⟩
                    have HNY : Hid (∃ G, A3 ++ subT m (z[t]'hlt3) = A2 ++ G ∧ Done (bAt m 4) (subT m) z (t + 1) G) := ⟨F ++ subT m (z[t]'hlt3), by rw [hA3]; simp, HNX.out⟩
                    rw [← hA3] at HBA HLA3
                    clear hA3 HNX
                    go_wp2_with fail
                    refine (l04Escape_any m (z[t]'hlt3) _ hm (by have := (subB_plain HOK3.out).2; omega)).mono ?_
                    rintro e w7 ⟨rfl, hb7⟩
                    have HB7 := hideF (HBA.out.onBelow hb7)
                    have HR7 := hideF (HRA.out.below hb7 HRA.out.lt)
                    have HBs7 := hideF (Buf.start HB7.out.own HB7.out.size)
                    have hSz : (⟨(escL m (z[t]'hlt3).data.toList).toArray⟩ : ByteArray).size = (subT m (z[t]'hlt3)).length := by simp [ByteArray.size, subT]
                    have HL7 := hideF (show A3.length + (⟨(escL m (z[t]'hlt3).data.toList).toArray⟩ : ByteArray).size ≤ 100000000 by have h1 := subT_len (m := m) HOK3.out; have h2 := HLA3.out; rw [hSz]; omega)
                    clear hb7 hSz
                    go_wp2_with (at_builtin; refine wpList_bufS (w0 := w7) rfl (.tmp 66) (.tmp 72) 63 9 rfl w.heap.size 5 Tryz.underlying63 Tryz.underlying9 Tryz.infoByte _ A3 rfl HBs7.out _ rfl HL7.out ?_)
                    intro v8 w8 hb8
                    have HB8 := hideF (HB7.out.trans hb8)
                    have HR8 := hideF (fieldRow_kept hb8 HR7.out)
                    clear hb8
                    obtain ⟨G', hg1, hg2⟩ := HNY.out
                    have HG1 := hideF hg1
                    have HG2 := hideF hg2
                    clear hg1 hg2
                    go_wp2
                    go_roundw
                    case rel => exact ⟨_, t + 1, G', rfl, by omega, by go_num, by rw [← HG1.out]; exact HB8, HR8, HG2⟩
                    case measure => simp [intOf]; omega
                  · have hpos : (0 : Int) < (t : Int) := by omega
                    have hk0 : 0 < t := by omega
                    have HNX := hideF (HD3.out.next hk0 hlt3)
                    have HBs := hideF (HB3.out.alloc (.cells #[.int .u8 ((m[4]'hm4).toNat : Int)] 5))
                    have HBt := hideF ((Buf.start HB3.out.own HB3.out.size).alloc (.cells #[.int .u8 ((m[4]'hm4).toNat : Int)] 5))
                    have HC := hideF (heap_alloc_new Z (.cells #[.int .u8 ((m[4]'hm4).toNat : Int)] 5))
                    have HL3 := hideF (show (A2 ++ F).length + [m[4]'hm4].length ≤ 100000000 by have h1 := HLA3.out; simp only [List.length_cons, List.length_nil]; omega)
                    go_wp2_with (at_builtin; refine wpList_buf (w0 := Z) rfl (.tmp 61) (.tmp 64) 63 rfl w.heap.size 5 Tryz.underlying63 Tryz.infoByte _ (A2 ++ F) rfl HBt.out Z.heap.size 1 [m[4]'hm4] rfl rfl ⟨_, HC.out⟩ HL3.out ?_)
                    clear HBs HBt HC HL3
                    intro v6 w6 hb6
                    have HBA := hideF (HB3.out.trans hb6)
                    have HRA := hideF (fieldRow_kept hb6 HR3.out)
                    have hck6 : w6.cell? ⟨g3, off3 + t, none⟩ = some (.string (z[t]'hlt3)) := by rw [hb6.below.cell (p := ⟨g3, off3 + t, none⟩) hg3]; exact hck3
                    clear hb6 hck3
                    obtain ⟨A3, hA3⟩ : ∃ A3, A3 = A2 ++ F ++ [m[4]'hm4] := ⟨_, rfl⟩
                    have HNY : Hid (∃ G, A3 ++ subT m (z[t]'hlt3) = A2 ++ G ∧ Done (bAt m 4) (subT m) z (t + 1) G) := ⟨F ++ [bAt m 4] ++ subT m (z[t]'hlt3), by rw [hA3, HM4.out]; simp, HNX.out⟩
                    have HLA4 := hideF (show A3.length ≤ 60001 by have := HLA3.out; rw [hA3, List.length_append]; simp only [List.length_cons, List.length_nil]; omega)
                    have HBA' : Hid (Buf 5 w.heap.size w w6 v6 A3) := by rw [hA3]; first | exact HBA | simpa only [List.append_assoc] using HBA
                    clear hA3 HNX HBA
                    go_wp2_with fail
                    refine (l04Escape_any m (z[t]'hlt3) _ hm (by have := (subB_plain HOK3.out).2; omega)).mono ?_
                    rintro e w7 ⟨rfl, hb7⟩
                    have HB7 := hideF (HBA'.out.onBelow hb7)
                    have HR7 := hideF (HRA.out.below hb7 HRA.out.lt)
                    have HBs7 := hideF (Buf.start HB7.out.own HB7.out.size)
                    have hSz : (⟨(escL m (z[t]'hlt3).data.toList).toArray⟩ : ByteArray).size = (subT m (z[t]'hlt3)).length := by simp [ByteArray.size, subT]
                    have HL7 := hideF (show A3.length + (⟨(escL m (z[t]'hlt3).data.toList).toArray⟩ : ByteArray).size ≤ 100000000 by have h1 := subT_len (m := m) HOK3.out; have h2 := HLA4.out; rw [hSz]; omega)
                    clear hb7 hSz
                    go_wp2_with (at_builtin; refine wpList_bufS (w0 := w7) rfl (.tmp 66) (.tmp 72) 63 9 rfl w.heap.size 5 Tryz.underlying63 Tryz.underlying9 Tryz.infoByte _ A3 rfl HBs7.out _ rfl HL7.out ?_)
                    intro v8 w8 hb8
                    have HB8 := hideF (HB7.out.trans hb8)
                    have HR8 := hideF (fieldRow_kept hb8 HR7.out)
                    clear hb8
                    obtain ⟨G', hg1, hg2⟩ := HNY.out
                    have HG1 := hideF hg1
                    have HG2 := hideF hg2
                    clear hg1 hg2
                    go_wp2
                    go_roundw
                    case rel => exact ⟨_, t + 1, G', rfl, by omega, by go_num, by rw [← HG1.out]; exact HB8, HR8, HG2⟩
                    case measure => simp [intOf]; omega
                · have HAL := hideF (HD3.out.all (by omega))
                  have HB3' : Hid (Buf 5 w.heap.size w Z u5 (A2 ++ compT m z)) := by rw [HAL.out] at HB3; exact HB3
                  obtain ⟨E', he1, he2⟩ := HN2.out
                  have HEQ := hideF he1
                  have HED := hideF he2
                  clear he1 he2
                  go_wp2
                  go_roundw
                  case rel => exact ⟨_, l + 1, E', rfl, by omega, by go_num, by rw [← HEQ.out]; exact HB3', HR3, HED⟩
                  case measure => simp [intOf]; omega
            · have hpos : (0 : Int) < (l : Int) := by omega
              have hk0 : 0 < l := by omega
              have HNX := hideF (HDy.out.next hk0 hlt2)
              rw [← hz] at HNX
              have HBs := hideF (HBy.out.alloc (.cells #[.int .u8 ((m[1]'hm1).toNat : Int)] 5))
              have HBt := hideF ((Buf.start HBy.out.own HBy.out.size).alloc (.cells #[.int .u8 ((m[1]'hm1).toNat : Int)] 5))
              have HC := hideF (heap_alloc_new Y (.cells #[.int .u8 ((m[1]'hm1).toNat : Int)] 5))
              have HL3 := hideF (show (A1 ++ E).length + [m[1]'hm1].length ≤ 100000000 by have h1 := HLA.out; simp only [List.length_cons, List.length_nil]; omega)
              go_wp2_with (at_builtin; refine wpList_buf (w0 := Y) rfl (.tmp 38) (.tmp 41) 63 rfl w.heap.size 5 Tryz.underlying63 Tryz.infoByte _ (A1 ++ E) rfl HBt.out Y.heap.size 1 [m[1]'hm1] rfl rfl ⟨_, HC.out⟩ HL3.out ?_)
              clear HBs HBt HC HL3
              intro v5 w5 hb5
              have HBA := hideF (HBy.out.trans hb5)
              have HR2 := hideF (fieldRow_kept hb5 HRy.out)
              have c5 : w5.cell? ⟨w.heap.size, 0, none⟩ = some (.slice (some ⟨g, off, none⟩) x.length cap) := HR2.out.cell 0
              have hcy5 : w5.cell? ⟨g, off + k, none⟩ = some (.slice (some ⟨g2, off2, none⟩) y.length yc) := by rw [HBA.out.below.cell (p := ⟨g, off + k, none⟩) hg]; exact HUK.out
              have hck5 : w5.cell? ⟨g2, off2 + l, none⟩ = some (.slice zp z.length zc) := by rw [HBA.out.below.cell (p := ⟨g2, off2 + l, none⟩) hg2]; exact HZU.out
              clear hb5 c0 hcy hck2
              obtain ⟨A2, hA2⟩ : ∃ A2, A2 = A1 ++ E ++ [m[1]'hm1] := ⟨_, rfl⟩
              have HN2 : Hid (∃ G, A2 ++ compT m z = A1 ++ G ∧ Done (bAt m 1) (compT m) y (l + 1) G) := ⟨E ++ [bAt m 1] ++ compT m z, by rw [hA2, HM1.out]; simp, HNX.out⟩
              have HB2 : Hid (Buf 5 w.heap.size w w5 v5 A2) := by rw [hA2]; first | exact HBA | simpa only [List.append_assoc] using HBA
              have HLA2 : Hid (A2.length ≤ 59000) := by rw [hA2]; exact (by have := HLA.out; rw [List.length_append]; simp only [List.length_cons, List.length_nil]; omega : (A1 ++ E ++ [m[1]'hm1]).length ≤ 59000)
              clear hA2 HNX hz HBA
              go_wp2_with fail
              go_loopw [5, 9] (fun v' i wr => ∃ (Z : World) (t : Nat) (F : List UInt8), Z = wr ∧ t ≤ z.length ∧ i = .int .i64 t ∧ Hid (Buf 5 w.heap.size w Z v' (A2 ++ F)) ∧ Hid (Row Z w.heap.size 76 [.slice (some ⟨g, off, none⟩) x.length cap]) ∧ Hid (Done (bAt m 4) (subT m) z t F)) (fun _ i _ => z.length - (intOf i).toNat)
              case atStart => exact ⟨_, 0, [], rfl, Nat.zero_le _, rfl, by rw [List.append_nil]; exact HB2, HR2, Done.zero _ _ _⟩
              case round =>
                obtain ⟨Z, t, F, rfl, ht, rfl, HB3, HR3, HD3⟩ := hrel
                by_cases hlt3 : t < z.length
                · obtain ⟨g3, off3, hp3, hg3, hc3⟩ := HZ.out (by omega)
                  subst hp3
                  obtain ⟨sv, hsv, rfl, _⟩ := hc3 t hlt3
                  have hck3 : Z.cell? ⟨g3, off3 + t, none⟩ = some (.string (z[t]'hlt3)) := by rw [HB3.out.below.cell (p := ⟨g3, off3 + t, none⟩) hg3]; exact hsv
                  have HOK3 := hideF (HZE.out t hlt3)
                  have HRM3 := hideF (HD3.out.room hlt3)
                  have HLA3 := hideF (show (A2 ++ F).length ≤ 60000 by have h1 := HRM3.out; have h2 := HLC.out; have h3 := HLA2.out; have h4 : (compT m z) = jnF (bAt m 4) (subT m) 0 z := rfl; rw [h4] at h2; rw [List.length_append]; omega)
                  clear hsv hc3
                  by_cases h0 : t = 0
                  · have hneg3 : ¬ (0 : Int) < (t : Int) := by omega
                    have HNX := hideF (HD3.out.first' h0 hlt3)
                    clear h0
                    have HBA := hideF HB3.out
                    have HRA := hideF HR3.out
                    obtain ⟨A3, hA3⟩ : ∃ A3, A3 = A2 ++ F := ⟨_, rfl⟩
                    have HNY : Hid (∃ G, A3 ++ subT m (z[t]'hlt3) = A2 ++ G ∧ Done (bAt m 4) (subT m) z (t + 1) G) := ⟨F ++ subT m (z[t]'hlt3), by rw [hA3]; simp, HNX.out⟩
                    rw [← hA3] at HBA HLA3
                    clear hA3 HNX
                    go_wp2_with fail
                    refine (l04Escape_any m (z[t]'hlt3) _ hm (by have := (subB_plain HOK3.out).2; omega)).mono ?_
                    rintro e w7 ⟨rfl, hb7⟩
                    have HB7 := hideF (HBA.out.onBelow hb7)
                    have HR7 := hideF (HRA.out.below hb7 HRA.out.lt)
                    have HBs7 := hideF (Buf.start HB7.out.own HB7.out.size)
                    have hSz : (⟨(escL m (z[t]'hlt3).data.toList).toArray⟩ : ByteArray).size = (subT m (z[t]'hlt3)).length := by simp [ByteArray.size, subT]
                    have HL7 := hideF (show A3.length + (⟨(escL m (z[t]'hlt3).data.toList).toArray⟩ : ByteArray).size ≤ 100000000 by have h1 := subT_len (m := m) HOK3.out; have h2 := HLA3.out; rw [hSz]; omega)
                    clear hb7 hSz
                    go_wp2_with (at_builtin; refine wpList_bufS (w0 := w7) rfl (.tmp 66) (.tmp 72) 63 9 rfl w.heap.size 5 Tryz.underlying63 Tryz.underlying9 Tryz.infoByte _ A3 rfl HBs7.out _ rfl HL7.out ?_)
                    intro v8 w8 hb8
                    have HB8 := hideF (HB7.out.trans hb8)
                    have HR8 := hideF (fieldRow_kept hb8 HR7.out)
                    clear hb8
                    obtain ⟨G', hg1, hg2⟩ := HNY.out
                    have HG1 := hideF hg1
                    have HG2 := hideF hg2
                    clear hg1 hg2
                    go_wp2
                    go_roundw
                    case rel => exact ⟨_, t + 1, G', rfl, by omega, by go_num, by rw [← HG1.out]; exact HB8, HR8, HG2⟩
                    case measure => simp [intOf]; omega
                  · have hpos : (0 : Int) < (t : Int) := by omega
                    have hk0 : 0 < t := by omega
                    have HNX := hideF (HD3.out.next hk0 hlt3)
                    have HBs := hideF (HB3.out.alloc (.cells #[.int .u8 ((m[4]'hm4).toNat : Int)] 5))
                    have HBt := hideF ((Buf.start HB3.out.own HB3.out.size).alloc (.cells #[.int .u8 ((m[4]'hm4).toNat : Int)] 5))
                    have HC := hideF (heap_alloc_new Z (.cells #[.int .u8 ((m[4]'hm4).toNat : Int)] 5))
                    have HL3 := hideF (show (A2 ++ F).length + [m[4]'hm4].length ≤ 100000000 by have h1 := HLA3.out; simp only [List.length_cons, List.length_nil]; omega)
                    go_wp2_with (at_builtin; refine wpList_buf (w0 := Z) rfl (.tmp 61) (.tmp 64) 63 rfl w.heap.size 5 Tryz.underlying63 Tryz.infoByte _ (A2 ++ F) rfl HBt.out Z.heap.size 1 [m[4]'hm4] rfl rfl ⟨_, HC.out⟩ HL3.out ?_)
                    clear HBs HBt HC HL3
                    intro v6 w6 hb6
                    have HBA := hideF (HB3.out.trans hb6)
                    have HRA := hideF (fieldRow_kept hb6 HR3.out)
                    have hck6 : w6.cell? ⟨g3, off3 + t, none⟩ = some (.string (z[t]'hlt3)) := by rw [hb6.below.cell (p := ⟨g3, off3 + t, none⟩) hg3]; exact hck3
                    clear hb6 hck3
                    obtain ⟨A3, hA3⟩ : ∃ A3, A3 = A2 ++ F ++ [m[4]'hm4] := ⟨_, rfl⟩
                    have HNY : Hid (∃ G, A3 ++ subT m (z[t]'hlt3) = A2 ++ G ∧ Done (bAt m 4) (subT m) z (t + 1) G) := ⟨F ++ [bAt m 4] ++ subT m (z[t]'hlt3), by rw [hA3, HM4.out]; simp, HNX.out⟩
                    have HLA4 := hideF (show A3.length ≤ 60001 by have := HLA3.out; rw [hA3, List.length_append]; simp only [List.length_cons, List.length_nil]; omega)
                    have HBA' : Hid (Buf 5 w.heap.size w w6 v6 A3) := by rw [hA3]; first | exact HBA | simpa only [List.append_assoc] using HBA
                    clear hA3 HNX HBA
                    go_wp2_with fail
                    refine (l04Escape_any m (z[t]'hlt3) _ hm (by have := (subB_plain HOK3.out).2; omega)).mono ?_
                    rintro e w7 ⟨rfl, hb7⟩
                    have HB7 := hideF (HBA'.out.onBelow hb7)
                    have HR7 := hideF (HRA.out.below hb7 HRA.out.lt)
                    have HBs7 := hideF (Buf.start HB7.out.own HB7.out.size)
                    have hSz : (⟨(escL m (z[t]'hlt3).data.toList).toArray⟩ : ByteArray).size = (subT m (z[t]'hlt3)).length := by simp [ByteArray.size, subT]
                    have HL7 := hideF (show A3.length + (⟨(escL m (z[t]'hlt3).data.toList).toArray⟩ : ByteArray).size ≤ 100000000 by have h1 := subT_len (m := m) HOK3.out; have h2 := HLA4.out; rw [hSz]; omega)
                    clear hb7 hSz
                    go_wp2_with (at_builtin; refine wpList_bufS (w0 := w7) rfl (.tmp 66) (.tmp 72) 63 9 rfl w.heap.size 5 Tryz.underlying63 Tryz.underlying9 Tryz.infoByte _ A3 rfl HBs7.out _ rfl HL7.out ?_)
                    intro v8 w8 hb8
                    have HB8 := hideF (HB7.out.trans hb8)
                    have HR8 := hideF (fieldRow_kept hb8 HR7.out)
                    clear hb8
                    obtain ⟨G', hg1, hg2⟩ := HNY.out
                    have HG1 := hideF hg1
                    have HG2 := hideF hg2
                    clear hg1 hg2
                    go_wp2
                    go_roundw
                    case rel => exact ⟨_, t + 1, G', rfl, by omega, by go_num, by rw [← HG1.out]; exact HB8, HR8, HG2⟩
                    case measure => simp [intOf]; omega
                · have HAL := hideF (HD3.out.all (by omega))
                  have HB3' : Hid (Buf 5 w.heap.size w Z u5 (A2 ++ compT m z)) := by rw [HAL.out] at HB3; exact HB3
                  obtain ⟨E', he1, he2⟩ := HN2.out
                  have HEQ := hideF he1
                  have HED := hideF he2
                  clear he1 he2
                  go_wp2
                  go_roundw
                  case rel => exact ⟨_, l + 1, E', rfl, by omega, by go_num, by rw [← HEQ.out]; exact HB3', HR3, HED⟩
                  case measure => simp [intOf]; omega
          · have HAL := hideF (HDy.out.all (by omega))
            have HBy' : Hid (Buf 5 w.heap.size w Y u5 (A1 ++ repT m y)) := by rw [HAL.out] at HBy; exact HBy
            obtain ⟨D', he1, he2⟩ := HN1.out
            have HEQ := hideF he1
            have HED := hideF he2
            clear he1 he2
            go_wp2
            go_roundw
            case rel => exact ⟨_, k + 1, D', rfl, by omega, by go_num, by rw [← HEQ.out]; exact HBy', HRy, HED⟩
            case measure => simp [intOf]; omega
    · have HA := hideF (HD.out.all (by omega))
      rw [HA.out] at HBf
      have hcv := HBf.out.text (P := Tryz.prog) Tryz.underlying63 Tryz.underlying5 Tryz.underlying9
      go_wp2
      go_ret
      exact ⟨rfl, HBf.out.below⟩
end Go.Proofs.YtolgjdnhhbbebaaGreatDoor
/- The program's appendPart. -/
namespace Go.Proofs.YtolgjdnhhbbebaaGreatDoor
open Go.RowKit
instance {α : Type} (U : Nat) (T : TypeId) (R : World → Value → α → Prop) [Under U R] : Under U (RI T R) := ⟨fun hb ⟨u, e, h⟩ => ⟨u, e, Under.go hb h⟩⟩
instance (U : Nat) : Under U RIs := ⟨fun _ h => h⟩
abbrev VSub (_ : Nat) : World → Value → ByteArray → Prop := RIs
abbrev VComp (U : Nat) : World → Value → List ByteArray → Prop := RI 104 (UComp U)
abbrev VRep (U : Nat) : World → Value → List (List ByteArray) → Prop := RI 102 (URep U)
abbrev VField (U : Nat) : World → Value → List (List (List ByteArray)) → Prop := RI 76 (UFld U)
theorem part_kept {B : Nat} {w w' : World} {v : Value} {L : List UInt8} {g : Nat} {vs : List Value} (h : Buf 5 B w w' v L) (hr : Row w g 123 vs) : Row w' g 123 vs :=
  h.kept g _ hr (by simp) (fun _ _ e1 => by simp at e1)

set_option maxHeartbeats 1000000 in
set_option maxRecDepth 100000 in
theorem appSub (v : Value) (L : List UInt8) (B : Nat) (m : ByteArray) (u : Value) (x : ByteArray) (w : World) (hm : m.size = 5) (hx : subB x = true) (hL : L.length + (subT m x).length + 45305 ≤ 80000000) (hB : B ≤ w.heap.size) (ho : w.ownsRow B 5 1 v L.length (u8s L)) (hr : VSub B w u x) :
    Calls Tryz.prog 66 #[v, .string m, u] w fun e w' => ∃ v', e = .returned v' ∧ Buf 5 B w w' v' (L ++ subT m x) := by
  obtain ⟨rfl, _⟩ := hr
  have HO := hide ho
  clear ho
  obtain ⟨hp, h6⟩ := subB_plain hx
  have a1 := Tryz.assubPartsubPart
  go_enter Tryz.func66, Tryz.ntmps66
  go_wp2_with fail
  refine (appendEscaped_any v L B m x _ hm hp (by omega) hB HO.out).mono ?_
  rintro e w1 ⟨v1, rfl, hb1⟩
  have HB := hide hb1
  clear hb1
  go_wp2
  go_ret
  exact ⟨_, rfl, HB.out⟩

set_option maxHeartbeats 4000000 in
set_option maxRecDepth 100000 in
theorem appComp (v : Value) (L : List UInt8) (B : Nat) (m : ByteArray) (u : Value) (x : List (ByteArray)) (w : World) (hm : m.size = 5) (hx : compB x = true) (hL : L.length + (compT m x).length + 45305 ≤ 80000000) (hB : B ≤ w.heap.size) (ho : w.ownsRow B 5 1 v L.length (u8s L)) (hr : VComp B w u x) :
    Calls Tryz.prog 66 #[v, .string m, u] w fun e w' => ∃ v', e = .returned v' ∧ Buf 5 B w w' v' (L ++ compT m x) := by
  obtain ⟨y, rfl, hy⟩ := hr
  have HY := hide hy
  obtain ⟨yp, yc, rfl⟩ := hy.isSlice
  clear hy
  have HO := hide ho
  clear ho
  obtain ⟨hxe, hxl⟩ := right_mem hx
  have HXE := hide hxe
  have hn : x.length ≤ 1048576 := by omega
  clear hxe hx
  have HLL := hide (show L.length + (jnF (bAt m 4) (subT m) 0 x).length + 45305 ≤ 80000000 from hL)
  clear hL
  have hmk : 4 < m.size := by omega
  have HMK := hide (bAt_get m 4 hmk)
  have a1 := Tryz.asCompsubPart
  have a2 := Tryz.innerComp
  go_enter Tryz.func66, Tryz.ntmps66
  go_wp2_with fail
  refine (limitsComp _ _).mono ?_
  rintro e w1 ⟨rfl, rfl⟩
  go_wp2_with fail
  refine (innerComp_row _ x _ hn HY.out.rl).mono ?_
  rintro e w2 ⟨g, vs, rfl, hrow, _, hvl, hel, hb2⟩
  have HBf0 := hide ((Buf.start HO.out hB).onBelow hb2)
  have HROW := hide hrow
  have HVL := hide hvl
  have HEL := hide hel
  clear hrow hvl hel hb2
  go_wp2_with fail
  go_loopw [0, 31] (fun v' i wr => ∃ (X : World) (k : Nat) (D : List UInt8), X = wr ∧ k ≤ x.length ∧ i = .int .i64 k ∧ Hid (Buf 5 B w1 X v' (L ++ D)) ∧ Hid (Row X g 123 vs) ∧ Hid (Done (bAt m 4) (subT m) x k D) ∧ Hid (Below B w2 X)) (fun _ i _ => x.length - (intOf i).toNat)
  case atStart => exact ⟨_, 0, [], rfl, Nat.zero_le _, rfl, by rw [List.append_nil]; exact HBf0, HROW, Done.zero _ _ _, Below.refl _ _⟩
  case round =>
    obtain ⟨X, k, D, rfl, hk, rfl, HBf, HRw, HD, HW2⟩ := hrel
    by_cases hlt : k < x.length
    · have hck : X.cell? ⟨g, k, none⟩ = some (vs[k]'(by rw [HVL.out]; exact hlt)) := HRw.out.at k (by rw [HVL.out]; exact hlt)
      have HRU : Hid (VSub B X (vs[k]'(by rw [HVL.out]; exact hlt)) x[k]) := Under.go HW2.out (HEL.out k (by rw [HVL.out]; exact hlt) hlt)
      generalize vs[k]'(by rw [HVL.out]; exact hlt) = uk at hck HRU
      have HRM := hide (HD.out.room hlt)
      have HOK := hide (HXE.out k hlt)
      by_cases h0 : k = 0
      · subst h0
        have HD1 := hide (HD.out.first hlt)
        go_wp2_with fail
        refine (appSub _ (L ++ D) B m uk (x[0]'hlt) _ hm HOK.out (by have h1 := HRM.out; have h2 := HLL.out; simp only [List.length_append] at *; simp at h1; omega) HBf.out.size HBf.out.own HRU.out).mono ?_
        rintro e w3 ⟨v3, rfl, hb3⟩
        have HB3 := hide (HBf.out.trans hb3)
        have HRw3 := hide (part_kept hb3 HRw.out)
        have HW3 := hide (HW2.out.trans hb3.below)
        clear hb3
        go_wp2
        go_roundw
        case rel => exact ⟨_, 1, _, rfl, by omega, by go_num, by rw [← List.append_assoc]; exact HB3, HRw3, HD1, HW3⟩
        case measure => simp [intOf]; omega
      · have hpos : (0 : Int) < (k : Int) := by omega
        have hk0 : 0 < k := by omega
        have HD1 := hide (HD.out.next hk0 hlt)
        have HBs := hide ((Buf.start HBf.out.own HBf.out.size).alloc (.cells #[.int .u8 ((m[4]'hmk).toNat : Int)] 5))
        have HC := hide (heap_alloc_new X (.cells #[.int .u8 ((m[4]'hmk).toNat : Int)] 5))
        have HL3 := hide (show (L ++ D).length + [m[4]'hmk].length ≤ 100000000 by have h1 := HRM.out; have h2 := HLL.out; rw [if_pos hk0] at h1; simp only [List.length_append, List.length_cons, List.length_nil] at *; omega)
        go_wp2_with (at_builtin; refine wpList_buf (w0 := X) rfl (.tmp 38) (.tmp 42) 63 rfl B 5 Tryz.underlying63 Tryz.infoByte u0 (L ++ D) rfl HBs.out X.heap.size 1 [m[4]'hmk] rfl rfl ⟨_, HC.out⟩ HL3.out ?_)
        intro v3 w3 hb3
        have HB3 := hide (HBf.out.trans hb3)
        have HRw3 := hide (part_kept hb3 HRw.out)
        have HW3 := hide (HW2.out.trans hb3.below)
        have HRU3 : Hid (VSub B w3 uk x[k]) := Under.go hb3.below HRU.out
        clear hb3
        go_wp2_with fail
        refine (appSub _ (L ++ (D ++ [m[4]'hmk])) B m uk (x[k]'hlt) _ hm HOK.out (by have h1 := HRM.out; have h2 := HLL.out; rw [if_pos hk0] at h1; simp only [List.length_append, List.length_cons, List.length_nil] at *; omega) HB3.out.size HB3.out.own HRU3.out).mono ?_
        rintro e w4 ⟨v4, rfl, hb4⟩
        have HB4 := hide (HB3.out.trans hb4)
        have HRw4 := hide (part_kept hb4 HRw3.out)
        have HW4 := hide (HW3.out.trans hb4.below)
        clear hb4
        go_wp2
        go_roundw
        case rel =>
          refine ⟨_, k + 1, _, rfl, by omega, by go_num, ?_, HRw4, HD1, HW4⟩
          rw [HMK.out]
          have := HB4.out
          simp only [List.append_assoc] at this ⊢
          exact this
        case measure => simp [intOf]; omega
    · have HA := hide (HD.out.all (by omega))
      rw [HA.out] at HBf
      go_wp2
      go_ret
      exact ⟨_, rfl, HBf.out⟩

set_option maxHeartbeats 4000000 in
set_option maxRecDepth 100000 in
theorem appRep (v : Value) (L : List UInt8) (B : Nat) (m : ByteArray) (u : Value) (x : List (List ByteArray)) (w : World) (hm : m.size = 5) (hx : repB x = true) (hL : L.length + (repT m x).length + 45305 ≤ 80000000) (hB : B ≤ w.heap.size) (ho : w.ownsRow B 5 1 v L.length (u8s L)) (hr : VRep B w u x) :
    Calls Tryz.prog 66 #[v, .string m, u] w fun e w' => ∃ v', e = .returned v' ∧ Buf 5 B w w' v' (L ++ repT m x) := by
  obtain ⟨y, rfl, hy⟩ := hr
  have HY := hide hy
  obtain ⟨yp, yc, rfl⟩ := hy.isSlice
  clear hy
  have HO := hide ho
  clear ho
  obtain ⟨hxe, hxl⟩ := right_mem hx
  have HXE := hide hxe
  have hn : x.length ≤ 1048576 := by omega
  clear hxe hx
  have HLL := hide (show L.length + (jnF (bAt m 1) (compT m) 0 x).length + 45305 ≤ 80000000 from hL)
  clear hL
  have hmk : 1 < m.size := by omega
  have HMK := hide (bAt_get m 1 hmk)
  have a1 := Tryz.asRepsubPart
  have a2 := Tryz.innerRep
  go_enter Tryz.func66, Tryz.ntmps66
  go_wp2_with fail
  refine (limitsRep _ _).mono ?_
  rintro e w1 ⟨rfl, rfl⟩
  go_wp2_with fail
  refine (innerRep_row (R := UComp B) (fun _ _ _ h => RU.isSlice h) _ x _ hn HY.out.rl).mono ?_
  rintro e w2 ⟨g, vs, rfl, hrow, _, hvl, hel, hb2⟩
  have HBf0 := hide ((Buf.start HO.out hB).onBelow hb2)
  have HROW := hide hrow
  have HVL := hide hvl
  have HEL := hide hel
  clear hrow hvl hel hb2
  go_wp2_with fail
  go_loopw [0, 31] (fun v' i wr => ∃ (X : World) (k : Nat) (D : List UInt8), X = wr ∧ k ≤ x.length ∧ i = .int .i64 k ∧ Hid (Buf 5 B w1 X v' (L ++ D)) ∧ Hid (Row X g 123 vs) ∧ Hid (Done (bAt m 1) (compT m) x k D) ∧ Hid (Below B w2 X)) (fun _ i _ => x.length - (intOf i).toNat)
  case atStart => exact ⟨_, 0, [], rfl, Nat.zero_le _, rfl, by rw [List.append_nil]; exact HBf0, HROW, Done.zero _ _ _, Below.refl _ _⟩
  case round =>
    obtain ⟨X, k, D, rfl, hk, rfl, HBf, HRw, HD, HW2⟩ := hrel
    by_cases hlt : k < x.length
    · have hck : X.cell? ⟨g, k, none⟩ = some (vs[k]'(by rw [HVL.out]; exact hlt)) := HRw.out.at k (by rw [HVL.out]; exact hlt)
      have HRU : Hid (VComp B X (vs[k]'(by rw [HVL.out]; exact hlt)) x[k]) := Under.go HW2.out (HEL.out k (by rw [HVL.out]; exact hlt) hlt)
      generalize vs[k]'(by rw [HVL.out]; exact hlt) = uk at hck HRU
      have HRM := hide (HD.out.room hlt)
      have HOK := hide (HXE.out k hlt)
      by_cases h0 : k = 0
      · subst h0
        have HD1 := hide (HD.out.first hlt)
        go_wp2_with fail
        refine (appComp _ (L ++ D) B m uk (x[0]'hlt) _ hm HOK.out (by have h1 := HRM.out; have h2 := HLL.out; simp only [List.length_append] at *; simp at h1; omega) HBf.out.size HBf.out.own HRU.out).mono ?_
        rintro e w3 ⟨v3, rfl, hb3⟩
        have HB3 := hide (HBf.out.trans hb3)
        have HRw3 := hide (part_kept hb3 HRw.out)
        have HW3 := hide (HW2.out.trans hb3.below)
        clear hb3
        go_wp2
        go_roundw
        case rel => exact ⟨_, 1, _, rfl, by omega, by go_num, by rw [← List.append_assoc]; exact HB3, HRw3, HD1, HW3⟩
        case measure => simp [intOf]; omega
      · have hpos : (0 : Int) < (k : Int) := by omega
        have hk0 : 0 < k := by omega
        have HD1 := hide (HD.out.next hk0 hlt)
        have HBs := hide ((Buf.start HBf.out.own HBf.out.size).alloc (.cells #[.int .u8 ((m[1]'hmk).toNat : Int)] 5))
        have HC := hide (heap_alloc_new X (.cells #[.int .u8 ((m[1]'hmk).toNat : Int)] 5))
        have HL3 := hide (show (L ++ D).length + [m[1]'hmk].length ≤ 100000000 by have h1 := HRM.out; have h2 := HLL.out; rw [if_pos hk0] at h1; simp only [List.length_append, List.length_cons, List.length_nil] at *; omega)
        go_wp2_with (at_builtin; refine wpList_buf (w0 := X) rfl (.tmp 38) (.tmp 42) 63 rfl B 5 Tryz.underlying63 Tryz.infoByte u0 (L ++ D) rfl HBs.out X.heap.size 1 [m[1]'hmk] rfl rfl ⟨_, HC.out⟩ HL3.out ?_)
        intro v3 w3 hb3
        have HB3 := hide (HBf.out.trans hb3)
        have HRw3 := hide (part_kept hb3 HRw.out)
        have HW3 := hide (HW2.out.trans hb3.below)
        have HRU3 : Hid (VComp B w3 uk x[k]) := Under.go hb3.below HRU.out
        clear hb3
        go_wp2_with fail
        refine (appComp _ (L ++ (D ++ [m[1]'hmk])) B m uk (x[k]'hlt) _ hm HOK.out (by have h1 := HRM.out; have h2 := HLL.out; rw [if_pos hk0] at h1; simp only [List.length_append, List.length_cons, List.length_nil] at *; omega) HB3.out.size HB3.out.own HRU3.out).mono ?_
        rintro e w4 ⟨v4, rfl, hb4⟩
        have HB4 := hide (HB3.out.trans hb4)
        have HRw4 := hide (part_kept hb4 HRw3.out)
        have HW4 := hide (HW3.out.trans hb4.below)
        clear hb4
        go_wp2
        go_roundw
        case rel =>
          refine ⟨_, k + 1, _, rfl, by omega, by go_num, ?_, HRw4, HD1, HW4⟩
          rw [HMK.out]
          have := HB4.out
          simp only [List.append_assoc] at this ⊢
          exact this
        case measure => simp [intOf]; omega
    · have HA := hide (HD.out.all (by omega))
      rw [HA.out] at HBf
      go_wp2
      go_ret
      exact ⟨_, rfl, HBf.out⟩

set_option maxHeartbeats 4000000 in
set_option maxRecDepth 100000 in
theorem appField (v : Value) (L : List UInt8) (B : Nat) (m : ByteArray) (u : Value) (x : List (List (List ByteArray))) (w : World) (hm : m.size = 5) (hx : fldB x = true) (hL : L.length + (fldT m x).length + 45305 ≤ 80000000) (hB : B ≤ w.heap.size) (ho : w.ownsRow B 5 1 v L.length (u8s L)) (hr : VField B w u x) :
    Calls Tryz.prog 66 #[v, .string m, u] w fun e w' => ∃ v', e = .returned v' ∧ Buf 5 B w w' v' (L ++ fldT m x) := by
  obtain ⟨y, rfl, hy⟩ := hr
  have HY := hide hy
  obtain ⟨yp, yc, rfl⟩ := hy.isSlice
  clear hy
  have HO := hide ho
  clear ho
  obtain ⟨hxe, hxl⟩ := right_mem hx
  have HXE := hide hxe
  have hn : x.length ≤ 1048576 := by omega
  clear hxe hx
  have HLL := hide (show L.length + (jnF (bAt m 2) (repT m) 0 x).length + 45305 ≤ 80000000 from hL)
  clear hL
  have hmk : 2 < m.size := by omega
  have HMK := hide (bAt_get m 2 hmk)
  have a1 := Tryz.asFieldsubPart
  have a2 := Tryz.innerField
  go_enter Tryz.func66, Tryz.ntmps66
  go_wp2_with fail
  refine (limitsField _ _).mono ?_
  rintro e w1 ⟨rfl, rfl⟩
  go_wp2_with fail
  refine (innerField_row (R := URep B) (fun _ _ _ h => RU.isSlice h) _ x _ hn HY.out.rl).mono ?_
  rintro e w2 ⟨g, vs, rfl, hrow, _, hvl, hel, hb2⟩
  have HBf0 := hide ((Buf.start HO.out hB).onBelow hb2)
  have HROW := hide hrow
  have HVL := hide hvl
  have HEL := hide hel
  clear hrow hvl hel hb2
  go_wp2_with fail
  go_loopw [0, 31] (fun v' i wr => ∃ (X : World) (k : Nat) (D : List UInt8), X = wr ∧ k ≤ x.length ∧ i = .int .i64 k ∧ Hid (Buf 5 B w1 X v' (L ++ D)) ∧ Hid (Row X g 123 vs) ∧ Hid (Done (bAt m 2) (repT m) x k D) ∧ Hid (Below B w2 X)) (fun _ i _ => x.length - (intOf i).toNat)
  case atStart => exact ⟨_, 0, [], rfl, Nat.zero_le _, rfl, by rw [List.append_nil]; exact HBf0, HROW, Done.zero _ _ _, Below.refl _ _⟩
  case round =>
    obtain ⟨X, k, D, rfl, hk, rfl, HBf, HRw, HD, HW2⟩ := hrel
    by_cases hlt : k < x.length
    · have hck : X.cell? ⟨g, k, none⟩ = some (vs[k]'(by rw [HVL.out]; exact hlt)) := HRw.out.at k (by rw [HVL.out]; exact hlt)
      have HRU : Hid (VRep B X (vs[k]'(by rw [HVL.out]; exact hlt)) x[k]) := Under.go HW2.out (HEL.out k (by rw [HVL.out]; exact hlt) hlt)
      generalize vs[k]'(by rw [HVL.out]; exact hlt) = uk at hck HRU
      have HRM := hide (HD.out.room hlt)
      have HOK := hide (HXE.out k hlt)
      by_cases h0 : k = 0
      · subst h0
        have HD1 := hide (HD.out.first hlt)
        go_wp2_with fail
        refine (appRep _ (L ++ D) B m uk (x[0]'hlt) _ hm HOK.out (by have h1 := HRM.out; have h2 := HLL.out; simp only [List.length_append] at *; simp at h1; omega) HBf.out.size HBf.out.own HRU.out).mono ?_
        rintro e w3 ⟨v3, rfl, hb3⟩
        have HB3 := hide (HBf.out.trans hb3)
        have HRw3 := hide (part_kept hb3 HRw.out)
        have HW3 := hide (HW2.out.trans hb3.below)
        clear hb3
        go_wp2
        go_roundw
        case rel => exact ⟨_, 1, _, rfl, by omega, by go_num, by rw [← List.append_assoc]; exact HB3, HRw3, HD1, HW3⟩
        case measure => simp [intOf]; omega
      · have hpos : (0 : Int) < (k : Int) := by omega
        have hk0 : 0 < k := by omega
        have HD1 := hide (HD.out.next hk0 hlt)
        have HBs := hide ((Buf.start HBf.out.own HBf.out.size).alloc (.cells #[.int .u8 ((m[2]'hmk).toNat : Int)] 5))
        have HC := hide (heap_alloc_new X (.cells #[.int .u8 ((m[2]'hmk).toNat : Int)] 5))
        have HL3 := hide (show (L ++ D).length + [m[2]'hmk].length ≤ 100000000 by have h1 := HRM.out; have h2 := HLL.out; rw [if_pos hk0] at h1; simp only [List.length_append, List.length_cons, List.length_nil] at *; omega)
        go_wp2_with (at_builtin; refine wpList_buf (w0 := X) rfl (.tmp 38) (.tmp 42) 63 rfl B 5 Tryz.underlying63 Tryz.infoByte u0 (L ++ D) rfl HBs.out X.heap.size 1 [m[2]'hmk] rfl rfl ⟨_, HC.out⟩ HL3.out ?_)
        intro v3 w3 hb3
        have HB3 := hide (HBf.out.trans hb3)
        have HRw3 := hide (part_kept hb3 HRw.out)
        have HW3 := hide (HW2.out.trans hb3.below)
        have HRU3 : Hid (VRep B w3 uk x[k]) := Under.go hb3.below HRU.out
        clear hb3
        go_wp2_with fail
        refine (appRep _ (L ++ (D ++ [m[2]'hmk])) B m uk (x[k]'hlt) _ hm HOK.out (by have h1 := HRM.out; have h2 := HLL.out; rw [if_pos hk0] at h1; simp only [List.length_append, List.length_cons, List.length_nil] at *; omega) HB3.out.size HB3.out.own HRU3.out).mono ?_
        rintro e w4 ⟨v4, rfl, hb4⟩
        have HB4 := hide (HB3.out.trans hb4)
        have HRw4 := hide (part_kept hb4 HRw3.out)
        have HW4 := hide (HW3.out.trans hb4.below)
        clear hb4
        go_wp2
        go_roundw
        case rel =>
          refine ⟨_, k + 1, _, rfl, by omega, by go_num, ?_, HRw4, HD1, HW4⟩
          rw [HMK.out]
          have := HB4.out
          simp only [List.append_assoc] at this ⊢
          exact this
        case measure => simp [intOf]; omega
    · have HA := hide (HD.out.all (by omega))
      rw [HA.out] at HBf
      go_wp2
      go_ret
      exact ⟨_, rfl, HBf.out⟩
end Go.Proofs.YtolgjdnhhbbebaaGreatDoor
