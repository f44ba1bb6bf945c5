/- An answer of three cells: a text and two numbers. Nothing here speaks of one program. -/
import Derived.WalkKit
import Derived.OpenShut
import Derived.Lib.Strings
import Derived.Test.YtckcfjibiidafaaGreatXG0Mem
import Derived.Test.YtckcfjibiidafaaGreatXG2FBuf
import Derived.Laws.Runes
namespace Go.Proofs.YtckcfjibiidafaaGreat
open Go.RowKit
theorem bcellF {W w1 : World} (hb : Below W.heap.size W w1) : (∀ b o, b < W.heap.size → w1.cell? ⟨b, o, none⟩ = W.cell? ⟨b, o, none⟩) ∧ (∀ b o, b < W.heap.size → w1.frozen? ⟨b, o, none⟩ = W.frozen? ⟨b, o, none⟩) :=
  ⟨fun b o h => hb.cell (p := ⟨b, o, none⟩) h, fun b o h => hb.frozen (p := ⟨b, o, none⟩) h⟩
theorem threeF {w1 : World} {B : Nat} {u0 u1 u2 : Value} (h0 : w1.cell? ⟨B, 0, none⟩ = some u0) (h1 : w1.cell? ⟨B, 1, none⟩ = some u1) (h2 : w1.cell? ⟨B, 2, none⟩ = some u2) (v0 v1 v2 : Value) :
    (w1.setCell ⟨B, 0, none⟩ v0).cell? ⟨B, 0, none⟩ = some v0 ∧ ((w1.setCell ⟨B, 0, none⟩ v0).setCell ⟨B, 1, none⟩ v1).cell? ⟨B, 1, none⟩ = some v1 ∧
    (((w1.setCell ⟨B, 0, none⟩ v0).setCell ⟨B, 1, none⟩ v1).setCell ⟨B, 2, none⟩ v2).cell? ⟨B, 2, none⟩ = some v2 := by
  refine ⟨World.cell?_setCell_same _ _ _ h0, World.cell?_setCell_same (u := u1) _ _ _ ?_, World.cell?_setCell_same (u := u2) _ _ _ ?_⟩
  · rw [World.cell?_setCell_other _ _ _ _ (by simp)]; exact h1
  · rw [World.cell?_setCell_other _ _ _ _ (by simp), World.cell?_setCell_other _ _ _ _ (by simp)]; exact h2
theorem three_belowF {w w1 : World} {o : Obj} (h : Below (w.alloc o).heap.size (w.alloc o) w1) (v0 v1 v2 : Value) :
    Below w.heap.size w (((w1.setCell ⟨w.heap.size, 0, none⟩ v0).setCell ⟨w.heap.size, 1, none⟩ v1).setCell ⟨w.heap.size, 2, none⟩ v2) :=
  (((((Below.refl _ _).alloc (Nat.le_refl _) o).trans (h.mono (by simp))).setCell (Nat.le_refl _) _).setCell (Nat.le_refl _) _).setCell (Nat.le_refl _) _
theorem out_cellsF {w w1 : World} (c0 c1 c2 : Value) (t : TypeId) (h : Below (w.alloc (.cells #[c0, c1, c2] t)).heap.size (w.alloc (.cells #[c0, c1, c2] t)) w1) :
    w1.cell? ⟨w.heap.size, 0, none⟩ = some c0 ∧ w1.cell? ⟨w.heap.size, 1, none⟩ = some c1 ∧ w1.cell? ⟨w.heap.size, 2, none⟩ = some c2 := by
  have hn := heap_alloc_new w (.cells #[c0, c1, c2] t)
  refine ⟨?_, ?_, ?_⟩
  all_goals
    rw [h.cell (by simp), cell_of_row _ _ _ _ t (0, 0) hn]
    rfl
theorem toList_neF {a b : ByteArray} (h : a ≠ b) : (a.toList == b.toList) = false := by
  rw [beq_eq_false_iff_ne]
  intro e
  exact h (ByteArray.ext (by rw [← Array.toList_inj, ← Lib.toList_data, ← Lib.toList_data]; exact e))
end Go.Proofs.YtckcfjibiidafaaGreat
/- What a right Field is, as the model asks it. -/
namespace Go.Proofs.YtckcfjibiidafaaGreat
open Go.RowKit

/-- Is the last one empty? -/
def endEmpty {α : Type} (emp : α → Bool) (xs : List α) : Bool := match xs.getLast? with | some x => emp x | none => false
/-- A list of right ones, not too many, the last one not empty. -/
def rightB {α : Type} (f : α → Bool) (emp : α → Bool) (most : Nat) (xs : List α) : Bool := xs.all f && decide (xs.length ≤ most) && !endEmpty emp xs
def subB (s : ByteArray) : Bool := plainB s && decide ((s.size : Int) ≤ 60)
def empS (s : ByteArray) : Bool := decide (s.size = 0)
def empL {α : Type} (xs : List α) : Bool := decide (xs.length = 0)
def compB : List ByteArray → Bool := rightB subB empS 5
def repB : List (List ByteArray) → Bool := rightB compB empL 10
def fldB : List (List (List ByteArray)) → Bool := rightB repB empL 5
theorem right_no {α : Type} {f emp : α → Bool} {most : Nat} {xs : List α} (k : Nat) (hk : k < xs.length) (h : f xs[k] = false) : rightB f emp most xs = false := by
  have : xs.all f = false := List.all_eq_false.2 ⟨xs[k], List.getElem_mem hk, by simp [h]⟩
  simp [rightB, this]
theorem right_all {α : Type} {f emp : α → Bool} {most : Nat} {xs : List α} (h : ∀ k (hk : k < xs.length), f xs[k] = true) : rightB f emp most xs = (decide (xs.length ≤ most) && !endEmpty emp xs) := by
  have : xs.all f = true := List.all_eq_true.2 fun x hx => by
    obtain ⟨i, hi, rfl⟩ := List.getElem_of_mem hx
    exact h i hi
  simp [rightB, this]
theorem endEmpty_nil {α : Type} {emp : α → Bool} {xs : List α} (h : xs.length = 0) : endEmpty emp xs = false := by
  obtain rfl := List.eq_nil_of_length_eq_zero h
  rfl
theorem endEmpty_last {α : Type} {emp : α → Bool} {xs : List α} (k : Nat) (hk : k < xs.length) (h : xs.length = k + 1) : endEmpty emp xs = emp (xs[k]'hk) := by
  unfold endEmpty
  have hl : 0 < xs.length := by omega
  rw [List.getLast?_eq_getElem?, show xs.length - 1 = k by omega, List.getElem?_eq_getElem (by omega)]
theorem all_succ {α : Type} {f : α → Bool} {xs : List α} {k : Nat} (h : ∀ j (hj : j < xs.length), j < k → f xs[j] = true) (hk : ∀ hk : k < xs.length, f xs[k] = true) : ∀ j (hj : j < xs.length), j < k + 1 → f xs[j] = true := by
  intro j hj h1
  by_cases e : j = k
  · subst e; exact hk hj
  · exact h j hj (by omega)

set_option maxHeartbeats 400000 in
theorem l04Sub_any (s : ByteArray) (w : World) (hs : s.size ≤ maxLen) :
    Calls Tryz.prog 85 #[.string s] w fun e w' => e = .returned (.bool (subB s)) ∧ Below w.heap.size w w' := by
  go_enter Tryz.func85, Tryz.ntmps85
  go_wp2_with fail
  refine (l04Plain_any s 60 _ hs).mono ?_
  rintro e w' ⟨rfl, rfl⟩
  go_wp2
  go_ret
  exact ⟨rfl, Below.refl _ _⟩

set_option maxHeartbeats 4000000 in
theorem specComp_any (u : Value) (x : List ByteArray) (B : Nat) (w : World) (hn : x.length ≤ 1048576) (hr : RComp B w u x) :
    Calls Tryz.prog 73 #[.agg #[u]] w fun e w' => e = .returned (.bool (compB x)) ∧ Below w.heap.size w w' := by
  obtain ⟨R, hR⟩ : ∃ R, R = compB x := ⟨_, rfl⟩
  rw [← hR]
  have HR := hideF hR
  clear hR
  obtain ⟨p, cap, rfl, h1, h2, h4⟩ := hr
  unfold maxLen at h2
  have H4 := hideF h4
  clear h4
  have r0 : (w.alloc (.cells #[.slice p x.length cap] 71)).cell? ⟨w.heap.size, 0, none⟩ = some (.slice p x.length cap) := (row_new w [.slice p x.length cap] 71).cell 0
  go_enter Tryz.func73, Tryz.ntmps73
  go_wp2
  go_loopw [4] (fun i wr => ∃ (X : World) (k : Nat), X = wr ∧ k ≤ x.length ∧ i = .int .i64 k ∧ Hid (Below w.heap.size w X) ∧ Hid (Row X w.heap.size 71 [.slice p x.length cap]) ∧ Hid (∀ j (hj : j < x.length), j < k → subB x[j] = true)) (fun i _ => x.length - (intOf i).toNat)
  case atStart => exact ⟨_, 0, rfl, Nat.zero_le _, rfl, (Below.refl _ _).alloc (Nat.le_refl _) _, row_new w [.slice p x.length cap] 71, fun j _ h => absurd h (by omega)⟩
  case round =>
    obtain ⟨X, k, rfl, hk, rfl, HB, HRow, HA⟩ := hrel
    have c0 : X.cell? ⟨w.heap.size, 0, none⟩ = some (.slice p x.length cap) := HRow.out.cell 0
    by_cases hlt : k < x.length
    · obtain ⟨g, off, hp, hg, _, hc⟩ := H4.out (by omega)
      subst hp
      obtain ⟨v, hv, hrv⟩ := hc k hlt
      have hck : X.cell? ⟨g, off + k, none⟩ = some v := by rw [HB.out.cell (p := ⟨g, off + k, none⟩) hg]; exact hv
      obtain ⟨rfl, hvs⟩ := hrv
      clear hv hc
      go_wp2_with fail
      refine (l04Sub_any (x[k]'hlt) _ hvs).mono ?_
      rintro e w2 ⟨rfl, hb2⟩
      have HB2 := hideF (HB.out.trans (hb2.mono HB.out.size))
      have HRow2 := hideF (HRow.out.below hb2 HRow.out.lt)
      clear hb2
      cases ho : subB (x[k]'hlt)
      · have HN := hideF (show R = false by rw [HR.out]; exact right_no k hlt ho)
        go_wp2
        go_ret
        exact ⟨ret_boolF HN.out.symm, HB2.out⟩
      · have HA2 := hideF (all_succ HA.out (fun _ => ho))
        go_wp2
        go_roundw
        case rel => exact ⟨_, k + 1, rfl, by omega, by go_num, HB2, HRow2, HA2⟩
        case measure => simp [intOf]; omega
    · have HALL := hideF (show R = (decide (x.length ≤ 5) && !endEmpty empS x) by rw [HR.out]; exact right_all (fun j hj => HA.out j hj (by omega)))
      by_cases h5 : (x.length : Int) ≤ 5
      · have h5' : x.length ≤ 5 := by omega
        by_cases h0 : (x.length : Int) = 0
        · have hz : ((x.length : Int) == 0) = true := by simpa using h0
          have HE := hideF (endEmpty_nil (emp := empS) (xs := x) (by omega))
          go_wp2
          go_ret
          exact ⟨ret_boolF (by rw [HALL.out, HE.out]; simp [h5']), HB.out⟩
        · have hz : ((x.length : Int) == 0) = false := by simpa using h0
          obtain ⟨n, hn1⟩ : ∃ n, x.length = n + 1 := ⟨x.length - 1, by omega⟩
          have hnl : n < x.length := by omega
          have HE := hideF (endEmpty_last (emp := empS) n hnl hn1)
          obtain ⟨g, off, hp, hg, _, hc⟩ := H4.out (by omega)
          subst hp
          obtain ⟨v, hv, hrv⟩ := hc n hnl
          have hck : X.cell? ⟨g, off + n, none⟩ = some v := by rw [HB.out.cell (p := ⟨g, off + n, none⟩) hg]; exact hv
          have hw1 : IntKind.i64.wrap ((x.length : Int) - 1) = (n : Int) := by rw [show ((x.length : Int) - 1) = (n : Int) by omega]; exact wrap_small _ (by omega) (by omega)
          have hlt1 : (n : Int) < (x.length : Int) := by omega
          have HN1 := hideF hn1
          obtain ⟨rfl, _⟩ := hrv
          clear hv hc
          clear hn1
          by_cases he : (x[n]'hnl).size = 0
          · have he2 : x[n]'hnl = ⟨#[]⟩ := ByteArray.ext (Array.eq_empty_of_size_eq_zero he)
            have HX := hideF (show R = false by rw [HALL.out, HE.out]; simp [empS, he])
            rw [he2] at hck
            clear he he2
            go_wp2
            go_ret
            exact ⟨ret_boolF (by rw [HX.out]), HB.out⟩
          · have he2 : x[n]'hnl ≠ ⟨#[]⟩ := fun h => he (by rw [h]; rfl)
            have he3 := toList_neF he2
            have HX := hideF (show R = true by rw [HALL.out, HE.out]; simp [empS, he, h5'])
            clear he he2
            generalize x[n]'hnl = Y at *
            go_wp2
            go_ret
            exact ⟨ret_boolF (by rw [HX.out]; first | done | simpa using he3), HB.out⟩
      · have h5' : ¬ x.length ≤ 5 := by omega
        go_wp2
        go_ret
        exact ⟨ret_boolF (by rw [HALL.out]; simp [h5']), HB.out⟩

set_option maxHeartbeats 4000000 in
theorem specRep_any (u : Value) (x : List (List ByteArray)) (B : Nat) (w : World) (hn : x.length ≤ 1048576) (hm : ∀ i (h : i < x.length), x[i].length ≤ 1048576) (hr : RRep B w u x) :
    Calls Tryz.prog 58 #[.agg #[u]] w fun e w' => e = .returned (.bool (repB x)) ∧ Below w.heap.size w w' := by
  obtain ⟨R, hR⟩ : ∃ R, R = repB x := ⟨_, rfl⟩
  rw [← hR]
  have HR := hideF hR
  have HM := hideF hm
  clear hm
  clear hR
  obtain ⟨p, cap, rfl, h1, h2, h4⟩ := hr
  unfold maxLen at h2
  have H4 := hideF h4
  clear h4
  have r0 : (w.alloc (.cells #[.slice p x.length cap] 69)).cell? ⟨w.heap.size, 0, none⟩ = some (.slice p x.length cap) := (row_new w [.slice p x.length cap] 69).cell 0
  go_enter Tryz.func58, Tryz.ntmps58
  go_wp2
  go_loopw [4] (fun i wr => ∃ (X : World) (k : Nat), X = wr ∧ k ≤ x.length ∧ i = .int .i64 k ∧ Hid (Below w.heap.size w X) ∧ Hid (Row X w.heap.size 69 [.slice p x.length cap]) ∧ Hid (∀ j (hj : j < x.length), j < k → compB x[j] = true)) (fun i _ => x.length - (intOf i).toNat)
  case atStart => exact ⟨_, 0, rfl, Nat.zero_le _, rfl, (Below.refl _ _).alloc (Nat.le_refl _) _, row_new w [.slice p x.length cap] 69, fun j _ h => absurd h (by omega)⟩
  case round =>
    obtain ⟨X, k, rfl, hk, rfl, HB, HRow, HA⟩ := hrel
    have c0 : X.cell? ⟨w.heap.size, 0, none⟩ = some (.slice p x.length cap) := HRow.out.cell 0
    by_cases hlt : k < x.length
    · obtain ⟨g, off, hp, hg, _, hc⟩ := H4.out (by omega)
      subst hp
      obtain ⟨v, hv, hrv⟩ := hc k hlt
      have hck : X.cell? ⟨g, off + k, none⟩ = some v := by rw [HB.out.cell (p := ⟨g, off + k, none⟩) hg]; exact hv
      have HRV := hideF (hrv.below HB.out)
      obtain ⟨vp, vc, rfl⟩ := hrv.isSlice
      clear hv hrv hc
      go_wp2_with fail
      refine (specComp_any _ (x[k]'hlt) B _ (HM.out k hlt) HRV.out).mono ?_
      rintro e w2 ⟨rfl, hb2⟩
      have HB2 := hideF (HB.out.trans (hb2.mono HB.out.size))
      have HRow2 := hideF (HRow.out.below hb2 HRow.out.lt)
      clear hb2
      cases ho : compB (x[k]'hlt)
      · have HN := hideF (show R = false by rw [HR.out]; exact right_no k hlt ho)
        go_wp2
        go_ret
        exact ⟨ret_boolF HN.out.symm, HB2.out⟩
      · have HA2 := hideF (all_succ HA.out (fun _ => ho))
        go_wp2
        go_roundw
        case rel => exact ⟨_, k + 1, rfl, by omega, by go_num, HB2, HRow2, HA2⟩
        case measure => simp [intOf]; omega
    · have HALL := hideF (show R = (decide (x.length ≤ 10) && !endEmpty empL x) by rw [HR.out]; exact right_all (fun j hj => HA.out j hj (by omega)))
      by_cases h5 : (x.length : Int) ≤ 10
      · have h5' : x.length ≤ 10 := by omega
        by_cases h0 : (x.length : Int) = 0
        · have hz : ((x.length : Int) == 0) = true := by simpa using h0
          have HE := hideF (endEmpty_nil (emp := empL) (xs := x) (by omega))
          go_wp2
          go_ret
          exact ⟨ret_boolF (by rw [HALL.out, HE.out]; simp [h5']), HB.out⟩
        · have hz : ((x.length : Int) == 0) = false := by simpa using h0
          obtain ⟨n, hn1⟩ : ∃ n, x.length = n + 1 := ⟨x.length - 1, by omega⟩
          have hnl : n < x.length := by omega
          have HE := hideF (endEmpty_last (emp := empL) n hnl hn1)
          obtain ⟨g, off, hp, hg, _, hc⟩ := H4.out (by omega)
          subst hp
          obtain ⟨v, hv, hrv⟩ := hc n hnl
          have hck : X.cell? ⟨g, off + n, none⟩ = some v := by rw [HB.out.cell (p := ⟨g, off + n, none⟩) hg]; exact hv
          have hw1 : IntKind.i64.wrap ((x.length : Int) - 1) = (n : Int) := by rw [show ((x.length : Int) - 1) = (n : Int) by omega]; exact wrap_small _ (by omega) (by omega)
          have hlt1 : (n : Int) < (x.length : Int) := by omega
          have HN1 := hideF hn1
          obtain ⟨vp, vc, rfl⟩ := hrv.isSlice
          clear hv hrv hc
          clear hn1
          by_cases he : (x[n]'hnl).length = 0
          · have he' : ¬ 0 < ((x[n]'hnl).length : Int) := by omega
            have HX := hideF (show R = false by rw [HALL.out, HE.out]; simp [empL, he])
            clear he
            go_wp2
            go_ret
            exact ⟨ret_boolF (by rw [HX.out]; exact decide_eq_false (by omega)), HB.out⟩
          · have he' : 0 < ((x[n]'hnl).length : Int) := by omega
            have HX := hideF (show R = true by rw [HALL.out, HE.out]; simp [empL, he, h5'])
            clear he
            go_wp2
            go_ret
            exact ⟨ret_boolF (by rw [HX.out]; exact decide_eq_true (by omega)), HB.out⟩
      · have h5' : ¬ x.length ≤ 10 := by omega
        go_wp2
        go_ret
        exact ⟨ret_boolF (by rw [HALL.out]; simp [h5']), HB.out⟩

set_option maxHeartbeats 4000000 in
theorem specField_any (u : Value) (x : List (List (List ByteArray))) (B : Nat) (w : World) (hn : x.length ≤ 1048576) (hm : ∀ i (h : i < x.length), x[i].length ≤ 1048576) (hm2 : ∀ i (h : i < x.length) j (hj : j < x[i].length), x[i][j].length ≤ 1048576) (hr : RFld B w u x) :
    Calls Tryz.prog 41 #[.agg #[u]] w fun e w' => e = .returned (.bool (fldB x)) ∧ Below w.heap.size w w' := by
  obtain ⟨R, hR⟩ : ∃ R, R = fldB x := ⟨_, rfl⟩
  rw [← hR]
  have HR := hideF hR
  have HM := hideF hm
  have HM2 := hideF hm2
  clear hm hm2
  clear hR
  obtain ⟨p, cap, rfl, h1, h2, h4⟩ := hr
  unfold maxLen at h2
  have H4 := hideF h4
  clear h4
  have r0 : (w.alloc (.cells #[.slice p x.length cap] 54)).cell? ⟨w.heap.size, 0, none⟩ = some (.slice p x.length cap) := (row_new w [.slice p x.length cap] 54).cell 0
  go_enter Tryz.func41, Tryz.ntmps41
  go_wp2
  go_loopw [4] (fun i wr => ∃ (X : World) (k : Nat), X = wr ∧ k ≤ x.length ∧ i = .int .i64 k ∧ Hid (Below w.heap.size w X) ∧ Hid (Row X w.heap.size 54 [.slice p x.length cap]) ∧ Hid (∀ j (hj : j < x.length), j < k → repB x[j] = true)) (fun i _ => x.length - (intOf i).toNat)
  case atStart => exact ⟨_, 0, rfl, Nat.zero_le _, rfl, (Below.refl _ _).alloc (Nat.le_refl _) _, row_new w [.slice p x.length cap] 54, fun j _ h => absurd h (by omega)⟩
  case round =>
    obtain ⟨X, k, rfl, hk, rfl, HB, HRow, HA⟩ := hrel
    have c0 : X.cell? ⟨w.heap.size, 0, none⟩ = some (.slice p x.length cap) := HRow.out.cell 0
    by_cases hlt : k < x.length
    · obtain ⟨g, off, hp, hg, _, hc⟩ := H4.out (by omega)
      subst hp
      obtain ⟨v, hv, hrv⟩ := hc k hlt
      have hck : X.cell? ⟨g, off + k, none⟩ = some v := by rw [HB.out.cell (p := ⟨g, off + k, none⟩) hg]; exact hv
      have HRV := hideF (hrv.below HB.out)
      obtain ⟨vp, vc, rfl⟩ := hrv.isSlice
      clear hv hrv hc
      go_wp2_with fail
      refine (specRep_any _ (x[k]'hlt) B _ (HM.out k hlt) (HM2.out k hlt) HRV.out).mono ?_
      rintro e w2 ⟨rfl, hb2⟩
      have HB2 := hideF (HB.out.trans (hb2.mono HB.out.size))
      have HRow2 := hideF (HRow.out.below hb2 HRow.out.lt)
      clear hb2
      cases ho : repB (x[k]'hlt)
      · have HN := hideF (show R = false by rw [HR.out]; exact right_no k hlt ho)
        go_wp2
        go_ret
        exact ⟨ret_boolF HN.out.symm, HB2.out⟩
      · have HA2 := hideF (all_succ HA.out (fun _ => ho))
        go_wp2
        go_roundw
        case rel => exact ⟨_, k + 1, rfl, by omega, by go_num, HB2, HRow2, HA2⟩
        case measure => simp [intOf]; omega
    · have HALL := hideF (show R = (decide (x.length ≤ 5) && !endEmpty empL x) by rw [HR.out]; exact right_all (fun j hj => HA.out j hj (by omega)))
      by_cases h5 : (x.length : Int) ≤ 5
      · have h5' : x.length ≤ 5 := by omega
        by_cases h0 : (x.length : Int) = 0
        · have hz : ((x.length : Int) == 0) = true := by simpa using h0
          have HE := hideF (endEmpty_nil (emp := empL) (xs := x) (by omega))
          go_wp2
          go_ret
          exact ⟨ret_boolF (by rw [HALL.out, HE.out]; simp [h5']), HB.out⟩
        · have hz : ((x.length : Int) == 0) = false := by simpa using h0
          obtain ⟨n, hn1⟩ : ∃ n, x.length = n + 1 := ⟨x.length - 1, by omega⟩
          have hnl : n < x.length := by omega
          have HE := hideF (endEmpty_last (emp := empL) n hnl hn1)
          obtain ⟨g, off, hp, hg, _, hc⟩ := H4.out (by omega)
          subst hp
          obtain ⟨v, hv, hrv⟩ := hc n hnl
          have hck : X.cell? ⟨g, off + n, none⟩ = some v := by rw [HB.out.cell (p := ⟨g, off + n, none⟩) hg]; exact hv
          have hw1 : IntKind.i64.wrap ((x.length : Int) - 1) = (n : Int) := by rw [show ((x.length : Int) - 1) = (n : Int) by omega]; exact wrap_small _ (by omega) (by omega)
          have hlt1 : (n : Int) < (x.length : Int) := by omega
          have HN1 := hideF hn1
          obtain ⟨vp, vc, rfl⟩ := hrv.isSlice
          clear hv hrv hc
          clear hn1
          by_cases he : (x[n]'hnl).length = 0
          · have he' : ¬ 0 < ((x[n]'hnl).length : Int) := by omega
            have HX := hideF (show R = false by rw [HALL.out, HE.out]; simp [empL, he])
            clear he
            go_wp2
            go_ret
            exact ⟨ret_boolF (by rw [HX.out]; exact decide_eq_false (by omega)), HB.out⟩
          · have he' : 0 < ((x[n]'hnl).length : Int) := by omega
            have HX := hideF (show R = true by rw [HALL.out, HE.out]; simp [empL, he, h5'])
            clear he
            go_wp2
            go_ret
            exact ⟨ret_boolF (by rw [HX.out]; exact decide_eq_true (by omega)), HB.out⟩
      · have h5' : ¬ x.length ≤ 5 := by omega
        go_wp2
        go_ret
        exact ⟨ret_boolF (by rw [HALL.out]; simp [h5']), HB.out⟩
end Go.Proofs.YtckcfjibiidafaaGreat
