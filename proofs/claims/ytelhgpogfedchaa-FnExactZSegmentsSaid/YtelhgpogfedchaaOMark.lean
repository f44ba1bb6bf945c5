/- How the laws mark lists of lists that are one's own, and look for the marks. -/
import Derived.Test.YtelhgpogfedchaaOTree
import Derived.Deep.RegionWith
namespace Go.Proofs.Ytelhgpogfedchaa
open Go.RowKit
abbrev OFlds := OL 56 OFld
def cntFs : List (List (List (List ByteArray))) → Nat := cntL cntF
def mkFs : Nat → List (List (List (List ByteArray))) → List (List (List (List ByteArray))) := mkL cntF mkF
theorem cnt_step {α : Type} (c f : α → Nat) (h : ∀ x, c x ≤ f x) : ∀ (xs : List α) (i : Nat) (hi : i < xs.length), cntL c (xs.take i) + f xs[i] ≤ wL f xs
  | x :: r, 0, _ => by
    have := wL_mem f (show x ∈ x :: r by simp)
    simp only [List.take_zero, cntL, List.map_nil, List.sum_nil, List.getElem_cons_zero]
    omega
  | x :: r, i + 1, hi => by
    have h1 := h x
    have h2 := cnt_step c f h r i (by simpa using hi)
    simp only [List.take_succ_cons, cntL, List.map_cons, List.sum_cons, List.getElem_cons_succ, wL, List.length_cons] at h2 ⊢
    omega
theorem markS_ownW (lo hi : Nat) (v : Value) (xs : List ByteArray) (k : Nat) (w : World) (hn : wComp xs ≤ 1048576) (hk : k + wComp xs ≤ 4000000) (hr : OComp lo hi w v xs) :
    Calls Try.prog 11 #[v, .int .i64 (k : Int)] w fun e w' => e = .returned (.int .i64 ((k + cntC xs : Nat) : Int)) ∧ OComp lo hi w' v (mkC k xs) ∧ Within lo hi w w' :=
  markT_own lo hi v xs k w (Nat.le_trans (wL_len _ xs) hn) (by omega) hr
theorem heldS_ownW (lo hi : Nat) (v : Value) (xs : List ByteArray) (k : Nat) (w : World) (hn : wComp xs ≤ 1048576) (hk : k + wComp xs ≤ 4000000) (hr : OComp lo hi w v (mkC k xs)) :
    Calls Try.prog 12 #[v, .int .i64 (k : Int)] w fun e w' => e = .returned (.int .i64 ((k + cntC xs : Nat) : Int)) ∧ Below w.heap.size w w' :=
  heldT_own lo hi v xs k w (Nat.le_trans (wL_len _ xs) hn) (by omega) hr
theorem OL.mk {α : Type} {T : TypeId} {R : Nat → Nat → World → Value → α → Prop} {lo hi g cap : Nat} {w : World} {vs rest : List Value} {A B : Nat → Nat} {xs : List α} (hc : xs.length ≤ cap) (hm : cap ≤ maxLen) (hl : vs.length = xs.length)
    (a : lo ≤ g) (b : g < hi) (hr : Row w g T (vs ++ rest)) (hE : ∀ i (h1 : i < vs.length) (h2 : i < xs.length), lo ≤ A i ∧ B i ≤ hi ∧ (B i ≤ g ∨ g < A i) ∧ R (A i) (B i) w vs[i] xs[i]) (hD : ∀ i j, i < j → j < xs.length → B i ≤ A j) :
    OL T R lo hi w (.slice (some ⟨g, 0, none⟩) xs.length cap) xs := ⟨_, _, rfl, hc, hm, fun _ => ⟨g, vs, rest, A, B, rfl, a, b, hr, hl, hE, hD⟩⟩
set_option maxHeartbeats 2000000 in
theorem markCompS_own (lo hi : Nat) (v : Value) (xs : List (List ByteArray)) (k : Nat) (w : World) (hn : wL wComp xs ≤ 1048576) (hk : k + wL wComp xs ≤ 4000000) (hr : OL 71 OComp lo hi w v xs) :
    Calls Try.prog 61 #[v, .int .i64 (k : Int)] w fun e w' => e = .returned (.int .i64 ((k + cntL cntC xs : Nat) : Int)) ∧ OL 71 OComp lo hi w' v (mkL cntC mkC k xs) ∧ Within lo hi w w' := by
  have hl : xs.length ≤ 1048576 := Nat.le_trans (wL_len _ xs) hn
  have HC := hide (fun i h => cnt_step cntC wComp cntC_le xs i h)
  have HSN := hide (fun i h => cntL_snoc cntC xs i h)
  have HM := hide (fun i h => wL_mem wComp (List.getElem_mem (l := xs) (n := i) h))
  obtain ⟨p, cap, rfl, h1, h2, h4⟩ := hr
  by_cases h0 : xs.length = 0
  · obtain rfl : xs = [] := List.eq_nil_of_length_eq_zero h0
    clear h4 HC HM HSN
    go_enter Try.func61, Try.ntmps61
    go_wp2
    refine wp_loop_rounds 1 ?_
    rw [rounds_succ]
    go_wp2
    go_ret
    exact ⟨rfl, ⟨p, cap, rfl, h1, h2, fun h => absurd h (by simp [mkL])⟩, Within.refl _ _ _⟩
  obtain ⟨g, vs, rest, A, B, rfl, ga, gb, hrow, hvl, hE, hD⟩ := h4 (by omega)
  have HK := hide hk
  have HN := hide hn
  have HR := hide hrow
  have HV := hide hvl
  have HE := hide hE
  have HD := hide hD
  have HG := hide (show lo ≤ g ∧ g < hi from ⟨ga, gb⟩)
  have HCP := hide (show xs.length ≤ cap ∧ cap ≤ maxLen from ⟨h1, h2⟩)
  unfold maxLen at h2
  clear h4 hrow hvl hE hD hk hn ga gb
  go_enter Try.func61, Try.ntmps61
  go_wp2
  go_loopw [1, 5] (fun x i wr => ∃ (X : World) (j K : Nat), X = wr ∧ j ≤ xs.length ∧ i = .int .i64 (j : Int) ∧ x = .int .i64 (K : Int) ∧ Hid (K = k + cntL cntC (xs.take j)) ∧ Hid (Row X g 71 (vs ++ rest)) ∧ Hid (∀ i (h1 : i < vs.length) (h2 : i < xs.length), lo ≤ A i ∧ B i ≤ hi ∧ (B i ≤ g ∨ g < A i) ∧ OComp (A i) (B i) X vs[i] (if i < j then mkC (k + cntL cntC (xs.take i)) xs[i] else xs[i])) ∧ Hid (Within lo hi w X)) (fun _ i _ => xs.length - (intOf i).toNat)
  case atStart => exact ⟨_, 0, k, rfl, Nat.zero_le _, rfl, rfl, hide (by simp [cntL]), HR, hide (fun i h1 h2 => by rw [if_neg (by omega)]; exact HE.out i h1 h2), hide (Within.refl _ _ _)⟩
  case round =>
    obtain ⟨X, j, K, rfl, hj, rfl, rfl, HKE, HRX, HEX, HW⟩ := hrel
    by_cases hlt : j < xs.length
    · have hjv : j < vs.length := by rw [HV.out]; exact hlt
      obtain ⟨e1, e2, e3, e4⟩ := HEX.out j hjv hlt
      rw [if_neg (by omega)] at e4
      have hcell : X.cell? ⟨g, j, none⟩ = some (vs[j]'hjv) := by rw [HRX.out.cell, List.getElem?_append_left hjv, List.getElem?_eq_getElem hjv]
      have hKb : K + wComp (xs[j]'hlt) ≤ 4000000 := by have h1 := HC.out j hlt; have h2 := HK.out; rw [HKE.out]; omega
      have hwb : wComp (xs[j]'hlt) ≤ 1048576 := by have h1 := HM.out j hlt; have h2 := HN.out; omega
      have HOK := hide e4
      have HEB := hide (show lo ≤ A j ∧ B j ≤ hi ∧ (B j ≤ g ∨ g < A j) from ⟨e1, e2, e3⟩)
      have HVJ := hide (show ∃ p c, (vs[j]'hjv) = .slice p (xs[j]'hlt).length c from e4.isSlice)
      obtain ⟨vp, vc, hvj⟩ := HVJ.out
      rw [hvj] at hcell HOK
      have HVJ2 := hide hvj
      clear e1 e2 e3 e4 HVJ hvj
      go_wp2_with fail
      refine (markS_ownW (A j) (B j) _ (xs[j]'hlt) K _ hwb hKb HOK.out).mono ?_
      rintro e w2 ⟨rfl, hok, hw⟩
      have HK2 : Hid (K + cntC (xs[j]'hlt) = k + cntL cntC (xs.take (j + 1))) := by rw [HSN.out j hlt, HKE.out, Nat.add_assoc]; exact rfl
      have HR2 := hide (hw.row HRX.out (by have := HEB.out.2.2; omega))
      have HW2 := hide (HW.out.trans (hw.mono HEB.out.1 HEB.out.2.1))
      have HE2 : Hid (∀ i (h1 : i < vs.length) (h2 : i < xs.length), lo ≤ A i ∧ B i ≤ hi ∧ (B i ≤ g ∨ g < A i) ∧ OComp (A i) (B i) w2 vs[i] (if i < j + 1 then mkC (k + cntL cntC (xs.take i)) xs[i] else xs[i])) := by
        intro i h1 h2
        obtain ⟨f1, f2, f3, f4⟩ := HEX.out i h1 h2
        refine ⟨f1, f2, f3, ?_⟩
        by_cases hij : i = j
        · subst hij
          rw [if_pos (by omega), HVJ2.out, ← HKE.out]
          exact hok
        · have hd : B i ≤ A j ∨ B j ≤ A i := by
            rcases Nat.lt_or_gt_of_ne hij with h | h
            · exact .inl (HD.out i j h hlt)
            · exact .inr (HD.out j i h h2)
          have e : (if i < j + 1 then mkC (k + cntL cntC (xs.take i)) xs[i] else xs[i]) = (if i < j then mkC (k + cntL cntC (xs.take i)) xs[i] else xs[i]) := by
            by_cases h : i < j
            · rw [if_pos h, if_pos (by omega)]
            · rw [if_neg h, if_neg (by omega)]
          rw [e]
          exact Keeps.go (hw.same hd) f4
      clear hok hw
      go_wp2
      go_roundw
      case rel => exact ⟨_, j + 1, _, rfl, by omega, by go_num, rfl, HK2, HR2, HE2, HW2⟩
      case measure => simp [intOf]; omega
    · have hje : j = xs.length := by omega
      have HKF : Hid (K = k + cntL cntC xs) := by have := HKE.out; rw [List.take_of_length_le (by omega)] at this; exact this
      have hml := mkL_len cntC mkC xs k
      have HF : Hid (OL 71 OComp lo hi X (.slice (some ⟨g, 0, none⟩) xs.length cap) (mkL cntC mkC k xs)) := by
        have := OL.mk (T := 71) (R := OComp) (lo := lo) (hi := hi) (g := g) (cap := cap) (w := X) (vs := vs) (rest := rest) (A := A) (B := B) (xs := mkL cntC mkC k xs) (by rw [hml]; exact HCP.out.1) HCP.out.2 (by rw [hml]; exact HV.out) HG.out.1 HG.out.2 HRX.out
          (fun i h1 h2 => by
            have h3 : i < xs.length := by rw [hml] at h2; exact h2
            obtain ⟨f1, f2, f3, f4⟩ := HEX.out i h1 h3
            rw [if_pos (by omega)] at f4
            rw [mkL_get cntC mkC xs k i h3 h2]
            exact ⟨f1, f2, f3, f4⟩)
          (fun i j h1 h2 => HD.out i j h1 (by rw [hml] at h2; exact h2))
        rw [hml] at this
        exact this
      clear hml
      go_wp2
      go_ret
      exact ⟨ret_int (by rw [HKF.out]), HF.out, HW.out⟩
set_option maxHeartbeats 2000000 in
theorem markRepS_own (lo hi : Nat) (v : Value) (xs : List (List (List ByteArray))) (k : Nat) (w : World) (hn : wL wRep xs ≤ 1048576) (hk : k + wL wRep xs ≤ 4000000) (hr : OL 69 ORep lo hi w v xs) :
    Calls Try.prog 49 #[v, .int .i64 (k : Int)] w fun e w' => e = .returned (.int .i64 ((k + cntL cntR xs : Nat) : Int)) ∧ OL 69 ORep lo hi w' v (mkL cntR mkR k xs) ∧ Within lo hi w w' := by
  have hl : xs.length ≤ 1048576 := Nat.le_trans (wL_len _ xs) hn
  have HC := hide (fun i h => cnt_step cntR wRep cntR_le xs i h)
  have HSN := hide (fun i h => cntL_snoc cntR xs i h)
  have HM := hide (fun i h => wL_mem wRep (List.getElem_mem (l := xs) (n := i) h))
  obtain ⟨p, cap, rfl, h1, h2, h4⟩ := hr
  by_cases h0 : xs.length = 0
  · obtain rfl : xs = [] := List.eq_nil_of_length_eq_zero h0
    clear h4 HC HM HSN
    go_enter Try.func49, Try.ntmps49
    go_wp2
    refine wp_loop_rounds 1 ?_
    rw [rounds_succ]
    go_wp2
    go_ret
    exact ⟨rfl, ⟨p, cap, rfl, h1, h2, fun h => absurd h (by simp [mkL])⟩, Within.refl _ _ _⟩
  obtain ⟨g, vs, rest, A, B, rfl, ga, gb, hrow, hvl, hE, hD⟩ := h4 (by omega)
  have HK := hide hk
  have HN := hide hn
  have HR := hide hrow
  have HV := hide hvl
  have HE := hide hE
  have HD := hide hD
  have HG := hide (show lo ≤ g ∧ g < hi from ⟨ga, gb⟩)
  have HCP := hide (show xs.length ≤ cap ∧ cap ≤ maxLen from ⟨h1, h2⟩)
  unfold maxLen at h2
  clear h4 hrow hvl hE hD hk hn ga gb
  go_enter Try.func49, Try.ntmps49
  go_wp2
  go_loopw [1, 5] (fun x i wr => ∃ (X : World) (j K : Nat), X = wr ∧ j ≤ xs.length ∧ i = .int .i64 (j : Int) ∧ x = .int .i64 (K : Int) ∧ Hid (K = k + cntL cntR (xs.take j)) ∧ Hid (Row X g 69 (vs ++ rest)) ∧ Hid (∀ i (h1 : i < vs.length) (h2 : i < xs.length), lo ≤ A i ∧ B i ≤ hi ∧ (B i ≤ g ∨ g < A i) ∧ ORep (A i) (B i) X vs[i] (if i < j then mkR (k + cntL cntR (xs.take i)) xs[i] else xs[i])) ∧ Hid (Within lo hi w X)) (fun _ i _ => xs.length - (intOf i).toNat)
  case atStart => exact ⟨_, 0, k, rfl, Nat.zero_le _, rfl, rfl, hide (by simp [cntL]), HR, hide (fun i h1 h2 => by rw [if_neg (by omega)]; exact HE.out i h1 h2), hide (Within.refl _ _ _)⟩
  case round =>
    obtain ⟨X, j, K, rfl, hj, rfl, rfl, HKE, HRX, HEX, HW⟩ := hrel
    by_cases hlt : j < xs.length
    · have hjv : j < vs.length := by rw [HV.out]; exact hlt
      obtain ⟨e1, e2, e3, e4⟩ := HEX.out j hjv hlt
      rw [if_neg (by omega)] at e4
      have hcell : X.cell? ⟨g, j, none⟩ = some (vs[j]'hjv) := by rw [HRX.out.cell, List.getElem?_append_left hjv, List.getElem?_eq_getElem hjv]
      have hKb : K + wRep (xs[j]'hlt) ≤ 4000000 := by have h1 := HC.out j hlt; have h2 := HK.out; rw [HKE.out]; omega
      have hwb : wRep (xs[j]'hlt) ≤ 1048576 := by have h1 := HM.out j hlt; have h2 := HN.out; omega
      have HOK := hide e4
      have HEB := hide (show lo ≤ A j ∧ B j ≤ hi ∧ (B j ≤ g ∨ g < A j) from ⟨e1, e2, e3⟩)
      have HVJ := hide (show ∃ p c, (vs[j]'hjv) = .slice p (xs[j]'hlt).length c from e4.isSlice)
      obtain ⟨vp, vc, hvj⟩ := HVJ.out
      rw [hvj] at hcell HOK
      have HVJ2 := hide hvj
      clear e1 e2 e3 e4 HVJ hvj
      go_wp2_with fail
      refine (markCompS_own (A j) (B j) _ (xs[j]'hlt) K _ hwb hKb HOK.out).mono ?_
      rintro e w2 ⟨rfl, hok, hw⟩
      have HK2 : Hid (K + cntR (xs[j]'hlt) = k + cntL cntR (xs.take (j + 1))) := by rw [HSN.out j hlt, HKE.out, Nat.add_assoc]; exact rfl
      have HR2 := hide (hw.row HRX.out (by have := HEB.out.2.2; omega))
      have HW2 := hide (HW.out.trans (hw.mono HEB.out.1 HEB.out.2.1))
      have HE2 : Hid (∀ i (h1 : i < vs.length) (h2 : i < xs.length), lo ≤ A i ∧ B i ≤ hi ∧ (B i ≤ g ∨ g < A i) ∧ ORep (A i) (B i) w2 vs[i] (if i < j + 1 then mkR (k + cntL cntR (xs.take i)) xs[i] else xs[i])) := by
        intro i h1 h2
        obtain ⟨f1, f2, f3, f4⟩ := HEX.out i h1 h2
        refine ⟨f1, f2, f3, ?_⟩
        by_cases hij : i = j
        · subst hij
          rw [if_pos (by omega), HVJ2.out, ← HKE.out]
          exact hok
        · have hd : B i ≤ A j ∨ B j ≤ A i := by
            rcases Nat.lt_or_gt_of_ne hij with h | h
            · exact .inl (HD.out i j h hlt)
            · exact .inr (HD.out j i h h2)
          have e : (if i < j + 1 then mkR (k + cntL cntR (xs.take i)) xs[i] else xs[i]) = (if i < j then mkR (k + cntL cntR (xs.take i)) xs[i] else xs[i]) := by
            by_cases h : i < j
            · rw [if_pos h, if_pos (by omega)]
            · rw [if_neg h, if_neg (by omega)]
          rw [e]
          exact Keeps.go (hw.same hd) f4
      clear hok hw
      go_wp2
      go_roundw
      case rel => exact ⟨_, j + 1, _, rfl, by omega, by go_num, rfl, HK2, HR2, HE2, HW2⟩
      case measure => simp [intOf]; omega
    · have hje : j = xs.length := by omega
      have HKF : Hid (K = k + cntL cntR xs) := by have := HKE.out; rw [List.take_of_length_le (by omega)] at this; exact this
      have hml := mkL_len cntR mkR xs k
      have HF : Hid (OL 69 ORep lo hi X (.slice (some ⟨g, 0, none⟩) xs.length cap) (mkL cntR mkR k xs)) := by
        have := OL.mk (T := 69) (R := ORep) (lo := lo) (hi := hi) (g := g) (cap := cap) (w := X) (vs := vs) (rest := rest) (A := A) (B := B) (xs := mkL cntR mkR k xs) (by rw [hml]; exact HCP.out.1) HCP.out.2 (by rw [hml]; exact HV.out) HG.out.1 HG.out.2 HRX.out
          (fun i h1 h2 => by
            have h3 : i < xs.length := by rw [hml] at h2; exact h2
            obtain ⟨f1, f2, f3, f4⟩ := HEX.out i h1 h3
            rw [if_pos (by omega)] at f4
            rw [mkL_get cntR mkR xs k i h3 h2]
            exact ⟨f1, f2, f3, f4⟩)
          (fun i j h1 h2 => HD.out i j h1 (by rw [hml] at h2; exact h2))
        rw [hml] at this
        exact this
      clear hml
      go_wp2
      go_ret
      exact ⟨ret_int (by rw [HKF.out]), HF.out, HW.out⟩
set_option maxHeartbeats 2000000 in
theorem markFieldS_own (lo hi : Nat) (v : Value) (xs : List (List (List (List ByteArray)))) (k : Nat) (w : World) (hn : wL wFld xs ≤ 1048576) (hk : k + wL wFld xs ≤ 4000000) (hr : OL 56 OFld lo hi w v xs) :
    Calls Try.prog 33 #[v, .int .i64 (k : Int)] w fun e w' => e = .returned (.int .i64 ((k + cntL cntF xs : Nat) : Int)) ∧ OL 56 OFld lo hi w' v (mkL cntF mkF k xs) ∧ Within lo hi w w' := by
  have hl : xs.length ≤ 1048576 := Nat.le_trans (wL_len _ xs) hn
  have HC := hide (fun i h => cnt_step cntF wFld cntF_le xs i h)
  have HSN := hide (fun i h => cntL_snoc cntF xs i h)
  have HM := hide (fun i h => wL_mem wFld (List.getElem_mem (l := xs) (n := i) h))
  obtain ⟨p, cap, rfl, h1, h2, h4⟩ := hr
  by_cases h0 : xs.length = 0
  · obtain rfl : xs = [] := List.eq_nil_of_length_eq_zero h0
    clear h4 HC HM HSN
    go_enter Try.func33, Try.ntmps33
    go_wp2
    refine wp_loop_rounds 1 ?_
    rw [rounds_succ]
    go_wp2
    go_ret
    exact ⟨rfl, ⟨p, cap, rfl, h1, h2, fun h => absurd h (by simp [mkL])⟩, Within.refl _ _ _⟩
  obtain ⟨g, vs, rest, A, B, rfl, ga, gb, hrow, hvl, hE, hD⟩ := h4 (by omega)
  have HK := hide hk
  have HN := hide hn
  have HR := hide hrow
  have HV := hide hvl
  have HE := hide hE
  have HD := hide hD
  have HG := hide (show lo ≤ g ∧ g < hi from ⟨ga, gb⟩)
  have HCP := hide (show xs.length ≤ cap ∧ cap ≤ maxLen from ⟨h1, h2⟩)
  unfold maxLen at h2
  clear h4 hrow hvl hE hD hk hn ga gb
  go_enter Try.func33, Try.ntmps33
  go_wp2
  go_loopw [1, 5] (fun x i wr => ∃ (X : World) (j K : Nat), X = wr ∧ j ≤ xs.length ∧ i = .int .i64 (j : Int) ∧ x = .int .i64 (K : Int) ∧ Hid (K = k + cntL cntF (xs.take j)) ∧ Hid (Row X g 56 (vs ++ rest)) ∧ Hid (∀ i (h1 : i < vs.length) (h2 : i < xs.length), lo ≤ A i ∧ B i ≤ hi ∧ (B i ≤ g ∨ g < A i) ∧ OFld (A i) (B i) X vs[i] (if i < j then mkF (k + cntL cntF (xs.take i)) xs[i] else xs[i])) ∧ Hid (Within lo hi w X)) (fun _ i _ => xs.length - (intOf i).toNat)
  case atStart => exact ⟨_, 0, k, rfl, Nat.zero_le _, rfl, rfl, hide (by simp [cntL]), HR, hide (fun i h1 h2 => by rw [if_neg (by omega)]; exact HE.out i h1 h2), hide (Within.refl _ _ _)⟩
  case round =>
    obtain ⟨X, j, K, rfl, hj, rfl, rfl, HKE, HRX, HEX, HW⟩ := hrel
    by_cases hlt : j < xs.length
    · have hjv : j < vs.length := by rw [HV.out]; exact hlt
      obtain ⟨e1, e2, e3, e4⟩ := HEX.out j hjv hlt
      rw [if_neg (by omega)] at e4
      have hcell : X.cell? ⟨g, j, none⟩ = some (vs[j]'hjv) := by rw [HRX.out.cell, List.getElem?_append_left hjv, List.getElem?_eq_getElem hjv]
      have hKb : K + wFld (xs[j]'hlt) ≤ 4000000 := by have h1 := HC.out j hlt; have h2 := HK.out; rw [HKE.out]; omega
      have hwb : wFld (xs[j]'hlt) ≤ 1048576 := by have h1 := HM.out j hlt; have h2 := HN.out; omega
      have HOK := hide e4
      have HEB := hide (show lo ≤ A j ∧ B j ≤ hi ∧ (B j ≤ g ∨ g < A j) from ⟨e1, e2, e3⟩)
      have HVJ := hide (show ∃ p c, (vs[j]'hjv) = .slice p (xs[j]'hlt).length c from e4.isSlice)
      obtain ⟨vp, vc, hvj⟩ := HVJ.out
      rw [hvj] at hcell HOK
      have HVJ2 := hide hvj
      clear e1 e2 e3 e4 HVJ hvj
      go_wp2_with fail
      refine (markRepS_own (A j) (B j) _ (xs[j]'hlt) K _ hwb hKb HOK.out).mono ?_
      rintro e w2 ⟨rfl, hok, hw⟩
      have HK2 : Hid (K + cntF (xs[j]'hlt) = k + cntL cntF (xs.take (j + 1))) := by rw [HSN.out j hlt, HKE.out, Nat.add_assoc]; exact rfl
      have HR2 := hide (hw.row HRX.out (by have := HEB.out.2.2; omega))
      have HW2 := hide (HW.out.trans (hw.mono HEB.out.1 HEB.out.2.1))
      have HE2 : Hid (∀ i (h1 : i < vs.length) (h2 : i < xs.length), lo ≤ A i ∧ B i ≤ hi ∧ (B i ≤ g ∨ g < A i) ∧ OFld (A i) (B i) w2 vs[i] (if i < j + 1 then mkF (k + cntL cntF (xs.take i)) xs[i] else xs[i])) := by
        intro i h1 h2
        obtain ⟨f1, f2, f3, f4⟩ := HEX.out i h1 h2
        refine ⟨f1, f2, f3, ?_⟩
        by_cases hij : i = j
        · subst hij
          rw [if_pos (by omega), HVJ2.out, ← HKE.out]
          exact hok
        · have hd : B i ≤ A j ∨ B j ≤ A i := by
            rcases Nat.lt_or_gt_of_ne hij with h | h
            · exact .inl (HD.out i j h hlt)
            · exact .inr (HD.out j i h h2)
          have e : (if i < j + 1 then mkF (k + cntL cntF (xs.take i)) xs[i] else xs[i]) = (if i < j then mkF (k + cntL cntF (xs.take i)) xs[i] else xs[i]) := by
            by_cases h : i < j
            · rw [if_pos h, if_pos (by omega)]
            · rw [if_neg h, if_neg (by omega)]
          rw [e]
          exact Keeps.go (hw.same hd) f4
      clear hok hw
      go_wp2
      go_roundw
      case rel => exact ⟨_, j + 1, _, rfl, by omega, by go_num, rfl, HK2, HR2, HE2, HW2⟩
      case measure => simp [intOf]; omega
    · have hje : j = xs.length := by omega
      have HKF : Hid (K = k + cntL cntF xs) := by have := HKE.out; rw [List.take_of_length_le (by omega)] at this; exact this
      have hml := mkL_len cntF mkF xs k
      have HF : Hid (OL 56 OFld lo hi X (.slice (some ⟨g, 0, none⟩) xs.length cap) (mkL cntF mkF k xs)) := by
        have := OL.mk (T := 56) (R := OFld) (lo := lo) (hi := hi) (g := g) (cap := cap) (w := X) (vs := vs) (rest := rest) (A := A) (B := B) (xs := mkL cntF mkF k xs) (by rw [hml]; exact HCP.out.1) HCP.out.2 (by rw [hml]; exact HV.out) HG.out.1 HG.out.2 HRX.out
          (fun i h1 h2 => by
            have h3 : i < xs.length := by rw [hml] at h2; exact h2
            obtain ⟨f1, f2, f3, f4⟩ := HEX.out i h1 h3
            rw [if_pos (by omega)] at f4
            rw [mkL_get cntF mkF xs k i h3 h2]
            exact ⟨f1, f2, f3, f4⟩)
          (fun i j h1 h2 => HD.out i j h1 (by rw [hml] at h2; exact h2))
        rw [hml] at this
        exact this
      clear hml
      go_wp2
      go_ret
      exact ⟨ret_int (by rw [HKF.out]), HF.out, HW.out⟩
end Go.Proofs.Ytelhgpogfedchaa
