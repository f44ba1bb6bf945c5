/- The model's RepFits. -/
import Derived.Test.YtfjjbofnfigehaaGreatDoorXG22VAskR
import Derived.Test.YtfjjbofnfigehaaGreatDoorXG18VFits
import Derived.Test.YtfjjbofnfigehaaGreatDoorXG4VRuleOf
import Derived.Test.YtfjjbofnfigehaaGreatDoorXG0Mem
namespace Go.Proofs.YtfjjbofnfigehaaGreatDoor
open Go.RowKit
set_option maxHeartbeats 2000000 in
set_option maxRecDepth 100000 in
theorem l06Fits_no (v k : Int) (u : Value) (x : List (List ByteArray)) (w : World) (hn : x.length ≤ 1048576) (h1 : (k == 1) = false) (h2 : (k == 2) = false) (h3 : (k == 3) = false) (h4 : (k == 4) = false) (h5 : (k == 5) = false) (h6 : (k == 6) = false) (h7 : (k == 7) = false) (h8 : (k == 8) = false) (h9 : (k == 9) = false) (hr : RRep 0 w u x) :
    Calls Tryz.prog 18 #[.int .i64 v, .int .i64 k, .agg #[u]] w fun e w' => e = .returned (.bool false) ∧ Below w.heap.size w w' := by
  have HB0 := hideF ((Below.refl w.heap.size w).alloc (Nat.le_refl _) (.cells #[u] 29))
  have HRX := hideF (hr.below ((Below.refl w.heap.size w).alloc (Nat.le_refl _) (.cells #[u] 29)))
  obtain ⟨p, cap, rfl⟩ := hr.isSlice
  have r0 := repCell w (.slice p x.length cap)
  clear hr
  go_enter Tryz.func18, Tryz.ntmps18
  go_wp2_with fail
  refine (l06One_any _ x 0 _ hn HRX.out).mono ?_
  rintro e w1 ⟨rfl, hb1⟩
  have HB1 := hideF (HB0.out.trans (hb1.mono HB0.out.size))
  clear hb1 r0
  go_wp2
  go_ret
  exact ⟨rfl, HB1.out⟩
theorem l06Fits_any (v k : Int) (u : Value) (x : List (List ByteArray)) (w : World) (hn : x.length ≤ 1048576) (hr : RRep 0 w u x) :
    Calls Tryz.prog 18 #[.int .i64 v, .int .i64 k, .agg #[u]] w fun e w' => e = .returned (.bool (fitsL v k x)) ∧ Below w.heap.size w w' := by
  by_cases h1 : k = 1; · subst h1; exact l06Fits_1 v u x w hn hr
  by_cases h2 : k = 2; · subst h2; exact l06Fits_2 v u x w hn hr
  by_cases h3 : k = 3; · subst h3; exact l06Fits_3 v u x w hn hr
  by_cases h4 : k = 4; · subst h4; exact l06Fits_4 v u x w hn hr
  by_cases h5 : k = 5; · subst h5; exact l06Fits_5 v u x w hn hr
  by_cases h6 : k = 6; · subst h6; exact l06Fits_6 v u x w hn hr
  by_cases h7 : k = 7; · subst h7; exact l06Fits_7 v u x w hn hr
  by_cases h8 : k = 8; · subst h8; exact l06Fits_8 v u x w hn hr
  by_cases h9 : k = 9; · subst h9; exact l06Fits_9 v u x w hn hr
  have e : fitsL v k x = false := fits_none v k x fun j hj => by omega
  rw [e]
  exact l06Fits_no v k u x w hn (by simpa using h1) (by simpa using h2) (by simpa using h3) (by simpa using h4) (by simpa using h5) (by simpa using h6) (by simpa using h7) (by simpa using h8) (by simpa using h9) hr
set_option maxHeartbeats 2000000 in
set_option maxRecDepth 100000 in
theorem specRepFits_any (v k : Int) (u : Value) (x : List (List ByteArray)) (w : World) (hn : x.length ≤ 1048576) (hm : ∀ i (h : i < x.length), x[i].length ≤ 1048576) (hr : RRep 0 w u x) :
    Calls Tryz.prog 6 #[.int .i64 v, .int .i64 k, .agg #[u]] w fun e w' => e = .returned (.bool (repFitsB v k x)) ∧ Below w.heap.size w w' := by
  have HB0 := hideF ((Below.refl w.heap.size w).alloc (Nat.le_refl _) (.cells #[u] 29))
  have HRX := hideF (hr.below ((Below.refl w.heap.size w).alloc (Nat.le_refl _) (.cells #[u] 29)))
  obtain ⟨p, cap, rfl⟩ := hr.isSlice
  have r0 := repCell w (.slice p x.length cap)
  obtain ⟨R, hR⟩ : ∃ R, R = repFitsB v k x := ⟨_, rfl⟩
  rw [← hR]
  have HR := hideF hR
  clear hR hr
  go_enter Tryz.func6, Tryz.ntmps6
  go_wp2_with fail
  refine (l06Version_any v _).mono ?_
  rintro e w1 ⟨rfl, rfl⟩
  cases hv : verB v
  · have HN := hideF (show R = false by rw [HR.out, repFitsB, hv]; rfl)
    go_wp2
    go_ret
    exact ⟨ret_boolF HN.out.symm, HB0.out⟩
  · go_wp2_with fail
    refine (specRep_any _ x 0 _ hn hm HRX.out).mono ?_
    rintro e w2 ⟨rfl, hb2⟩
    have HB2 := hideF (HB0.out.trans (hb2.mono HB0.out.size))
    have HRY := hideF (HRX.out.below hb2)
    have r2 : w2.cell? ⟨w.heap.size, 0, none⟩ = some (.slice p x.length cap) := by rw [hb2.cell (p := ⟨w.heap.size, 0, none⟩) (by simp [World.size_alloc])]; exact r0
    clear hb2 r0
    cases hrb : repB x
    · have HN := hideF (show R = false by rw [HR.out, repFitsB, hrb]; simp)
      go_wp2
      go_ret
      exact ⟨ret_boolF HN.out.symm, HB2.out⟩
    · have HN := hideF (show R = fitsL v k x by rw [HR.out, repFitsB, hrb, hv]; rfl)
      clear HR hrb hv
      go_wp2_with fail
      refine (l06Fits_any v k _ x _ hn HRY.out).mono ?_
      rintro e w3 ⟨rfl, hb3⟩
      have HB3 := hideF (HB2.out.trans (hb3.mono HB2.out.size))
      clear hb3
      go_wp2
      go_ret
      exact ⟨ret_boolF HN.out.symm, HB3.out⟩
end Go.Proofs.YtfjjbofnfigehaaGreatDoor
/- The laws' own measure of a Field. -/
namespace Go.Proofs.YtfjjbofnfigehaaGreatDoor
open Go.RowKit

theorem szStrs_eq (xs : List ByteArray) (left : Int) : szStrs xs left = szOf (wComp xs) left := by
  have key : ∀ (ys : List ByteArray) (L : Int), 0 ≤ L → szS ys L = szOf (ys.map ByteArray.size).sum L := by
    intro ys
    induction ys with
    | nil => intro L hL; simp [szS, szOf, hL]
    | cons y r ih =>
      intro L hL
      rw [szS]
      simp only [List.map_cons, List.sum_cons]
      by_cases hy : L - (y.size : Int) < 0
      · rw [if_pos hy, szOf_no (by omega)]
      · rw [if_neg hy, ih _ (by omega)]
        unfold szOf
        split <;> split <;> omega
  unfold szStrs wComp wL
  by_cases hx : left - (xs.length : Int) < 0
  · rw [if_pos hx, szOf_no (by omega)]
  · rw [if_neg hx, key _ _ (by omega)]
    unfold szOf
    split <;> split <;> omega

theorem below_newF (w : World) (o : Obj) : Below w.heap.size w (w.alloc o) := (Below.refl _ _).alloc (Nat.le_refl _) _
theorem szStringS2_any (v : Value) (xs : List ByteArray) (left : Int) (w : World) (hl0 : 0 ≤ left) (hl : left ≤ 1048576) (hr : RComp 0 w v xs) :
    Calls Tryz.prog 63 #[v, .int .i64 left] w fun e w' => e = .returned (.int .i64 (szOf (wComp xs) left)) ∧ Below w.heap.size w w' :=
  (szStringS_any v xs left w hl0 hl hr.reads).mono fun e w' h => ⟨by rw [h.1, szStrs_eq xs left], by rw [h.2]; exact Below.refl _ _⟩

set_option maxHeartbeats 1000000 in
theorem szComp_any (u : Value) (x : List ByteArray) (left : Int) (w : World) (hl0 : 0 ≤ left) (hl : left ≤ 1048576) (hr : RComp 0 w u x) :
    Calls Tryz.prog 34 #[.agg #[u], .int .i64 left] w fun e w' => e = .returned (.int .i64 (szOf (wComp x) left)) ∧ Below w.heap.size w w' := by
  have HR := hide hr
  obtain ⟨p, c, rfl⟩ := hr.isSlice
  clear hr
  go_enter Tryz.func34, Tryz.ntmps34
  go_wp2_with fail
  refine (szStringS2_any _ x left _ hl0 hl (HR.out.below (below_newF _ _))).mono ?_
  rintro e w1 ⟨rfl, hb1⟩
  have HB := hide (((Below.refl w.heap.size w).alloc (Nat.le_refl _) (.cells #[.slice p x.length c] 68)).trans (hb1.mono (by simp)))
  clear hb1
  by_cases h : ((wComp x : Nat) : Int) ≤ left
  · have HS := hide (szOf_yes h)
    rw [szOf_yes h]
    go_wp2
    go_ret
    exact ⟨ret_int HS.out.symm, HB.out⟩
  · have HS := hide (szOf_no h)
    rw [szOf_no h]
    go_wp2
    go_ret
    exact ⟨ret_int HS.out.symm, HB.out⟩

set_option maxHeartbeats 2000000 in
theorem szCompS_any (v : Value) (xs : List (List ByteArray)) (left : Int) (w : World) (hl0 : 0 ≤ left) (hl : left ≤ 1048576) (hr : RL 0 (RComp 0) w v xs) :
    Calls Tryz.prog 15 #[v, .int .i64 left] w fun e w' => e = .returned (.int .i64 (szOf (wRep xs) left)) ∧ Below w.heap.size w w' := by
  obtain ⟨p, cap, rfl, h1, h2, h4⟩ := hr
  unfold maxLen at h2
  have hW : wRep xs = xs.length + (xs.map wComp).sum := rfl
  obtain ⟨R, hR⟩ : ∃ R, R = szOf (wRep xs) left := ⟨_, rfl⟩
  rw [← hR]
  by_cases h0 : left - xs.length < 0
  · have HF : Hid (R = -1) := by rw [hR]; exact szOf_no (by rw [hW]; omega)
    have hx : 0 < xs.length := by omega
    clear h4 hR hW
    go_enter Tryz.func15, Tryz.ntmps15
    go_wp2
    go_ret
    exact ⟨ret_int HF.out.symm, Below.refl _ _⟩
  · have HF : Hid (R = szOf ((xs.drop 0).map wComp).sum (left - xs.length)) := by
      rw [hR, List.drop_zero, hW]
      by_cases hc : ((xs.length + (xs.map wComp).sum : Nat) : Int) ≤ left
      · rw [szOf_yes hc, szOf_yes (by omega)]
        show _ = _
        omega
      · rw [szOf_no hc, szOf_no (by omega)]
        exact rfl
    clear hR hW
    by_cases hn : xs.length = 0
    · have hxs : xs = [] := List.eq_nil_of_length_eq_zero hn
      subst hxs
      clear h4
      go_enter Tryz.func15, Tryz.ntmps15
      go_wp2
      refine wp_loop_rounds 1 ?_
      rw [rounds_succ]
      go_wp2
      go_ret
      exact ⟨ret_int (by rw [HF.out]; simp [szOf, hl0]), Below.refl _ _⟩
    · obtain ⟨g, off, rfl, hg, _, hc⟩ := h4 (by omega)
      have HC := hide hc
      clear hc h4
      go_enter Tryz.func15, Tryz.ntmps15
      go_wp2
      go_loopw [1, 5] (fun l i wr => ∃ (X : World) (k : Nat) (L : Int), X = wr ∧ k ≤ xs.length ∧ i = .int .i64 k ∧ l = .int .i64 L ∧ 0 ≤ L ∧ L ≤ 1048576 ∧ Hid (R = szOf ((xs.drop k).map wComp).sum L) ∧ Hid (Below w.heap.size w X)) (fun _ i _ => xs.length - (intOf i).toNat)
      case atStart => exact ⟨_, 0, _, rfl, Nat.zero_le _, rfl, rfl, by omega, by omega, HF.out, Below.refl _ _⟩
      case round =>
        obtain ⟨X, k, L, rfl, hk, rfl, rfl, hL0, hL1, HS, HB⟩ := hrel
        by_cases hlt : k < xs.length
        · obtain ⟨u, hu, hru⟩ := HC.out k hlt
          have hck : X.cell? ⟨g, off + k, none⟩ = some u := by rw [HB.out.cell (p := ⟨g, off + k, none⟩) hg]; exact hu
          have HRU := hide (hru.below HB.out)
          obtain ⟨up, uc, rfl⟩ := hru.isSlice
          have HT := hide (szOf_step wComp xs k hlt L)
          clear hu hru
          go_wp2_with fail
          refine (szComp_any _ (xs[k]'hlt) L _ hL0 hL1 HRU.out).mono ?_
          rintro e w1 ⟨rfl, hb1⟩
          have HB1 := hide (HB.out.trans (hb1.mono HB.out.size))
          clear hb1
          by_cases hneg : ((wComp (xs[k]'hlt) : Nat) : Int) ≤ L
          · rw [szOf_yes hneg]
            have HU : Hid (R = szOf ((xs.drop (k + 1)).map wComp).sum (L - ((wComp (xs[k]'hlt) : Nat) : Int))) := by rw [HS.out, HT.out]; exact if_pos hneg
            go_wp2
            go_roundw
            case rel => exact ⟨_, k + 1, _, rfl, by omega, by go_num, rfl, by omega, by omega, HU, HB1⟩
            case measure => simp [intOf]; omega
          · rw [szOf_no hneg]
            have HU : Hid (R = -1) := by rw [HS.out, HT.out]; exact if_neg hneg
            go_wp2
            go_ret
            exact ⟨ret_int HU.out.symm, HB1.out⟩
        · have HU : Hid (R = L) := by rw [HS.out, List.drop_eq_nil_of_le (by omega)]; exact szOf_zero hL0
          go_wp2
          go_ret
          exact ⟨ret_int HU.out.symm, HB.out⟩

set_option maxHeartbeats 1000000 in
theorem szRep_any (u : Value) (x : List (List ByteArray)) (left : Int) (w : World) (hl0 : 0 ≤ left) (hl : left ≤ 1048576) (hr : RRep 0 w u x) :
    Calls Tryz.prog 5 #[.agg #[u], .int .i64 left] w fun e w' => e = .returned (.int .i64 (szOf (wRep x) left)) ∧ Below w.heap.size w w' := by
  have HR := hide hr
  obtain ⟨p, c, rfl⟩ := hr.isSlice
  clear hr
  go_enter Tryz.func5, Tryz.ntmps5
  go_wp2_with fail
  refine (szCompS_any _ x left _ hl0 hl (HR.out.below (below_newF _ _))).mono ?_
  rintro e w1 ⟨rfl, hb1⟩
  have HB := hide (((Below.refl w.heap.size w).alloc (Nat.le_refl _) (.cells #[.slice p x.length c] 24)).trans (hb1.mono (by simp)))
  clear hb1
  by_cases h : ((wRep x : Nat) : Int) ≤ left
  · have HS := hide (szOf_yes h)
    rw [szOf_yes h]
    go_wp2
    go_ret
    exact ⟨ret_int HS.out.symm, HB.out⟩
  · have HS := hide (szOf_no h)
    rw [szOf_no h]
    go_wp2
    go_ret
    exact ⟨ret_int HS.out.symm, HB.out⟩

set_option maxHeartbeats 2000000 in
theorem szRepS_any (v : Value) (xs : List (List (List ByteArray))) (left : Int) (w : World) (hl0 : 0 ≤ left) (hl : left ≤ 1048576) (hr : RL 0 (RRep 0) w v xs) :
    Calls Tryz.prog 24 #[v, .int .i64 left] w fun e w' => e = .returned (.int .i64 (szOf (wFld xs) left)) ∧ Below w.heap.size w w' := by
  obtain ⟨p, cap, rfl, h1, h2, h4⟩ := hr
  unfold maxLen at h2
  have hW : wFld xs = xs.length + (xs.map wRep).sum := rfl
  obtain ⟨R, hR⟩ : ∃ R, R = szOf (wFld xs) left := ⟨_, rfl⟩
  rw [← hR]
  by_cases h0 : left - xs.length < 0
  · have HF : Hid (R = -1) := by rw [hR]; exact szOf_no (by rw [hW]; omega)
    have hx : 0 < xs.length := by omega
    clear h4 hR hW
    go_enter Tryz.func24, Tryz.ntmps24
    go_wp2
    go_ret
    exact ⟨ret_int HF.out.symm, Below.refl _ _⟩
  · have HF : Hid (R = szOf ((xs.drop 0).map wRep).sum (left - xs.length)) := by
      rw [hR, List.drop_zero, hW]
      by_cases hc : ((xs.length + (xs.map wRep).sum : Nat) : Int) ≤ left
      · rw [szOf_yes hc, szOf_yes (by omega)]
        show _ = _
        omega
      · rw [szOf_no hc, szOf_no (by omega)]
        exact rfl
    clear hR hW
    by_cases hn : xs.length = 0
    · have hxs : xs = [] := List.eq_nil_of_length_eq_zero hn
      subst hxs
      clear h4
      go_enter Tryz.func24, Tryz.ntmps24
      go_wp2
      refine wp_loop_rounds 1 ?_
      rw [rounds_succ]
      go_wp2
      go_ret
      exact ⟨ret_int (by rw [HF.out]; simp [szOf, hl0]), Below.refl _ _⟩
    · obtain ⟨g, off, rfl, hg, _, hc⟩ := h4 (by omega)
      have HC := hide hc
      clear hc h4
      go_enter Tryz.func24, Tryz.ntmps24
      go_wp2
      go_loopw [1, 5] (fun l i wr => ∃ (X : World) (k : Nat) (L : Int), X = wr ∧ k ≤ xs.length ∧ i = .int .i64 k ∧ l = .int .i64 L ∧ 0 ≤ L ∧ L ≤ 1048576 ∧ Hid (R = szOf ((xs.drop k).map wRep).sum L) ∧ Hid (Below w.heap.size w X)) (fun _ i _ => xs.length - (intOf i).toNat)
      case atStart => exact ⟨_, 0, _, rfl, Nat.zero_le _, rfl, rfl, by omega, by omega, HF.out, Below.refl _ _⟩
      case round =>
        obtain ⟨X, k, L, rfl, hk, rfl, rfl, hL0, hL1, HS, HB⟩ := hrel
        by_cases hlt : k < xs.length
        · obtain ⟨u, hu, hru⟩ := HC.out k hlt
          have hck : X.cell? ⟨g, off + k, none⟩ = some u := by rw [HB.out.cell (p := ⟨g, off + k, none⟩) hg]; exact hu
          have HRU := hide (hru.below HB.out)
          obtain ⟨up, uc, rfl⟩ := hru.isSlice
          have HT := hide (szOf_step wRep xs k hlt L)
          clear hu hru
          go_wp2_with fail
          refine (szRep_any _ (xs[k]'hlt) L _ hL0 hL1 HRU.out).mono ?_
          rintro e w1 ⟨rfl, hb1⟩
          have HB1 := hide (HB.out.trans (hb1.mono HB.out.size))
          clear hb1
          by_cases hneg : ((wRep (xs[k]'hlt) : Nat) : Int) ≤ L
          · rw [szOf_yes hneg]
            have HU : Hid (R = szOf ((xs.drop (k + 1)).map wRep).sum (L - ((wRep (xs[k]'hlt) : Nat) : Int))) := by rw [HS.out, HT.out]; exact if_pos hneg
            go_wp2
            go_roundw
            case rel => exact ⟨_, k + 1, _, rfl, by omega, by go_num, rfl, by omega, by omega, HU, HB1⟩
            case measure => simp [intOf]; omega
          · rw [szOf_no hneg]
            have HU : Hid (R = -1) := by rw [HS.out, HT.out]; exact if_neg hneg
            go_wp2
            go_ret
            exact ⟨ret_int HU.out.symm, HB1.out⟩
        · have HU : Hid (R = L) := by rw [HS.out, List.drop_eq_nil_of_le (by omega)]; exact szOf_zero hL0
          go_wp2
          go_ret
          exact ⟨ret_int HU.out.symm, HB.out⟩

set_option maxHeartbeats 1000000 in
theorem szField_any (u : Value) (x : List (List (List ByteArray))) (left : Int) (w : World) (hl0 : 0 ≤ left) (hl : left ≤ 1048576) (hr : RFld 0 w u x) :
    Calls Tryz.prog 10 #[.agg #[u], .int .i64 left] w fun e w' => e = .returned (.int .i64 (szOf (wFld x) left)) ∧ Below w.heap.size w w' := by
  have HR := hide hr
  obtain ⟨p, c, rfl⟩ := hr.isSlice
  clear hr
  go_enter Tryz.func10, Tryz.ntmps10
  go_wp2_with fail
  refine (szRepS_any _ x left _ hl0 hl (HR.out.below (below_newF _ _))).mono ?_
  rintro e w1 ⟨rfl, hb1⟩
  have HB := hide (((Below.refl w.heap.size w).alloc (Nat.le_refl _) (.cells #[.slice p x.length c] 35)).trans (hb1.mono (by simp)))
  clear hb1
  by_cases h : ((wFld x : Nat) : Int) ≤ left
  · have HS := hide (szOf_yes h)
    rw [szOf_yes h]
    go_wp2
    go_ret
    exact ⟨ret_int HS.out.symm, HB.out⟩
  · have HS := hide (szOf_no h)
    rw [szOf_no h]
    go_wp2
    go_ret
    exact ⟨ret_int HS.out.symm, HB.out⟩
end Go.Proofs.YtfjjbofnfigehaaGreatDoor
