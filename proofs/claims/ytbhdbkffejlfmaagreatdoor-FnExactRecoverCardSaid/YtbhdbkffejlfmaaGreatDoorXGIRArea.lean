/- The program's readArea: what it tells of a right disk. -/
import Derived.Test.YtbhdbkffejlfmaaGreatDoorXGIRSide
import Derived.Test.YtbhdbkffejlfmaaGreatDoorXGIHead2
import Derived.Test.YtbhdbkffejlfmaaGreatDoorXGIPutSteps
import Derived.Test.YtbhdbkffejlfmaaGreatDoorXGIARead
import Derived.Test.YtbhdbkffejlfmaaGreatDoorXGISettle
import Derived.Test.YtbhdbkffejlfmaaGreatDoorXGIRoom
import Derived.Test.YtbhdbkffejlfmaaGreatDoorXGSCopy
import Derived.OrdersHeld
import Derived.Deep.RegionHeld3
import Derived.Test.YtbhdbkffejlfmaaGreatDoorXGSARead
import Derived.Test.YtbhdbkffejlfmaaGreatDoorXGIAPut
namespace Go.Proofs.YtbhdbkffejlfmaaGreatDoor
open Go.RowKit

theorem gath_more {f : Nat → ByteArray} {size m : Nat} (h : size ≤ 64 * m) : ∀ d, gath f size (m + d) = gath f size m
  | 0 => rfl
  | d + 1 => by
    rw [show m + (d + 1) = (m + d) + 1 from rfl, gath, gath_more h d, show want size (m + d) = 0 by unfold want; omega]
    simp
theorem full_more {f : Nat → ByteArray} {size m : Nat} (h : size ≤ 64 * m) : ∀ d, full f size (m + d) = full f size m
  | 0 => rfl
  | d + 1 => by
    rw [show m + (d + 1) = (m + d) + 1 from rfl, full_step, full_more h d, show want size (m + d) = 0 by unfold want; omega]
    simp
theorem gath_congr {f g : Nat → ByteArray} {size : Nat} : ∀ m, (∀ j, j < m → f j = g j) → gath f size m = gath g size m
  | 0, _ => rfl
  | m + 1, h => by rw [gath, gath, gath_congr m (fun j hj => h j (by omega)), h m (by omega)]
theorem full_congr {f g : Nat → ByteArray} {size : Nat} : ∀ m, (∀ j, j < m → f j = g j) → full f size m = full g size m
  | 0, _ => rfl
  | m + 1, h => by rw [full_step, full_step, full_congr m (fun j hj => h j (by omega)), h m (by omega)]

/-- The sectors of a side, of which there are n. -/
def sideOf (xs : List ByteArray) (ps : List (Int × ByteArray)) (a n : Nat) : List ByteArray := ((applyP ps xs).drop a).take n
theorem sideOf_len (xs : List ByteArray) (ps : List (Int × ByteArray)) (a n : Nat) (h : a + n ≤ xs.length) : (sideOf xs ps a n).length = n := by
  unfold sideOf
  rw [List.length_take, List.length_drop, applyP_len]
  omega
theorem sideOf_at (xs : List ByteArray) (ps : List (Int × ByteArray)) (a n j : Nat) (h : a + n ≤ xs.length) (hj : j < n) (h0 : ∀ x ∈ ps, 0 ≤ x.1) : (sideOf xs ps a n).getD j ⟨#[]⟩ = secAt xs ps (a + j) := by
  unfold sideOf secAt
  rw [← applyP_at ps xs (a + j) (by omega) h0]
  simp [List.getD, hj, List.getElem?_drop]
theorem area_side {xs : List ByteArray} {ps : List (Int × ByteArray)} {gen side : Int} {size n : Nat} (hok : right xs ps = true) (hs : seen xs ps = (gen, side, (size : Int), 0)) (hn : (n : Int) = half xs.length) (hz : size ≤ 64 * n) (h1 : 1 + side.toNat * n + n ≤ xs.length) :
    areaOut xs ps = if full (fun j => (sideOf xs ps (1 + side.toNat * n) n).getD j ⟨#[]⟩) size n then ⟨xs, ps, gath (fun j => (sideOf xs ps (1 + side.toNat * n) n).getD j ⟨#[]⟩) size n, gen, 0⟩ else aill 5 := by
  have h0 : ∀ x ∈ ps, 0 ≤ x.1 := fun x hx => by obtain ⟨j, hj, rfl⟩ := List.getElem_of_mem hx; exact (right_at hok j hj).1
  have e : ∀ j, j < n → (sideOf xs ps (1 + side.toNat * n) n).getD j ⟨#[]⟩ = sideAt xs ps side j := fun j hj => by
    rw [sideOf_at xs ps _ n j h1 hj h0]
    unfold sideAt
    rw [← hn, Int.toNat_natCast]
  rw [full_congr n e, gath_congr n e]
  obtain ⟨d, hd⟩ : ∃ d, n = (size + 63) / 64 + d := ⟨n - (size + 63) / 64, by omega⟩
  have hm : size ≤ 64 * ((size + 63) / 64) := by omega
  unfold areaOut
  rw [hok, if_neg (by simp), hs]
  simp only [ne_eq, not_true_eq_false, if_false, Int.toNat_natCast]
  rw [hd, full_more hm d, gath_more hm d]
theorem side_reads {w : World} {B a n : Nat} {T : TypeId} {xs : List ByteArray} {ps : List (Int × ByteArray)} (h : Row w B T (bank (applyP ps xs))) (hl : xs.length ≤ 64) (ha : a + n ≤ xs.length) (hx : ∀ x ∈ applyP ps xs, x.size ≤ 1048576) :
    Reads w (.slice (some ⟨B, a, none⟩) n (64 - a)) (sideOf xs ps a n) := by
  have hsl := sideOf_len xs ps a n ha
  refine ⟨_, _, by rw [hsl], by rw [hsl]; omega, by unfold maxLen; omega, fun x hx' => ?_, fun _ => ⟨B, a, rfl, h.lt, fun i hi => ?_⟩⟩
  · have := hx x (List.mem_of_mem_drop (List.mem_of_mem_take hx')); unfold maxLen; omega
  · rw [hsl] at hi
    rw [h.cell, bank_at _ _ (by rw [applyP_len]; omega)]
    simp [sideOf]

set_option maxRecDepth 100000 in
set_option maxHeartbeats 4000000 in
theorem readArea_any (vs vp : Value) (xs : List ByteArray) (ps : List (Int × ByteArray)) (w : World) (hr : Reads w vs xs) (hp : ReadsP w vp ps) (hok : right xs ps = true) (hg : St3.Laid w) :
    Calls Tryz.prog 98 #[.agg #[vs, vp]] w fun e w' => AreaIs e xs ps ∧ Below w.heap.size w w' := by
  obtain ⟨l1, l2, l3⟩ := right_len hok
  have HOK := hide hok
  have HSM := hide (small_of_right hok)
  have HAT := hide (fun j hj => And.intro (right_at hok j hj).1 (right_at hok j hj).2.1)
  have hal : 0 < (applyP ps xs).length := by rw [applyP_len]; omega
  have HT0 := hide (show (applyP ps xs)[0]'hal = headText xs ps by
    have := applyP_at ps xs 0 (by omega) (fun x hx => by obtain ⟨j, hj, rfl⟩ := List.getElem_of_mem hx; exact (right_at hok j hj).1)
    unfold headText
    rw [show ((0 : Int)) = ((0 : Nat) : Int) from rfl, ← this]
    simp [List.getD, hal])
  have HAM := hide (applyP_mem ps xs _ HSM.out.2.1 HSM.out.2.2.2)
  have HBA := hide (bank_at (applyP ps xs) 0 hal)
  rw [HT0.out] at HBA
  have HSH := hide (seen_head xs ps)
  have hts := headText_size hok
  obtain ⟨s, hs⟩ : ∃ s, s = headText xs ps := ⟨_, rfl⟩
  rw [← hs] at HBA HSH hts
  have hbl := bank_len (ys := applyP ps xs) (by rw [applyP_len]; exact l2)
  obtain ⟨L, hL⟩ : ∃ L, L = bank (applyP ps xs) := ⟨_, rfl⟩
  have HL1 := hide (show ∀ v ∈ L, v.oneCell' = true by rw [hL]; exact bank_one _)
  have HLE := hide hL
  rw [← hL] at hbl HBA
  have hb0 : Below w.heap.size w ((w.alloc (.cells #[vs, vp] 29)).alloc (.cells #[.int .i64 0, .int .i64 0, .int .i64 0] 137)) :=
    ((Below.refl _ _).alloc (Nat.le_refl _) _).alloc (by simp) _
  have HR := hide (hr.below hb0 (Nat.le_refl _))
  have HP := hide (hp.below hb0 (Nat.le_refl _))
  have HRw := hide hr
  have HG := hide (Stab.go hb0 hg)
  have HB0 := hide hb0
  obtain ⟨p1, c1, rfl, hq⟩ := hr
  obtain ⟨p2, c2, rfl, hq2⟩ := hp
  have HN0 := hide ((row_new w [.slice p1 xs.length c1, .slice p2 ps.length c2] 29).alloc (.cells #[.int .i64 0, .int .i64 0, .int .i64 0] 137))
  have R1 := row_new (w.alloc (.cells #[.slice p1 xs.length c1, .slice p2 ps.length c2] 29)) [.int .i64 0, .int .i64 0, .int .i64 0] 137
  simp only [World.size_alloc] at R1
  have HR1 := hide R1
  clear hb0 hq hq2 R1 hg hok HT0 hL hs hal
  go_enter Tryz.func98, Tryz.ntmps98
  go_wp2_with fail
  refine (settle_any _ _ xs ps _ HR.out HP.out l1 l2 l3 HAT.out).mono ?_
  rw [← HLE.out]
  rintro e w2 ⟨rfl, hb2⟩
  have hst := new_store Tryz.prog w2 92 Tryz.zeroCells92 L (by rw [hbl, ← Array.length_toList, Tryz.zeroBank]; simp [strs_len]) HL1.out
  have hl2 := (Row.after hb2 HR1.out).lt
  have bn := below_new w2 (.cells L.toArray 92)
  have hb3 := hb2.trans (bn.mono hb2.size)
  have HB3 := hide (HB0.out.trans (hb3.mono HB0.out.size))
  have HX3 := hide (Row.after hb3 HR1.out)
  have HM3 := hide (Row.after hb3 HN0.out)
  have HG3 := hide (Stab.go hb3 HG.out)
  have HK3 := hide (row_new w2 L 92)
  have k0 : (w2.alloc (.cells L.toArray 92)).cell? ⟨w2.heap.size, 0, none⟩ = some (.string s) := by rw [HK3.out.cell 0]; exact HBA.out
  clear hb2 hb3 bn HB0 HR1 HN0 HG HR HP
  go_wp2_with fail
  refine (readHead_any s _ (by omega) HG3.out).mono ?_
  obtain ⟨r, Hr⟩ : ∃ r, Hid (r = headSeen s) := ⟨_, rfl⟩
  rw [← Hr.out] at HSH ⊢
  obtain ⟨gen, side, size, code⟩ := r
  rintro e w3 ⟨hH, hb3⟩
  have HB4 := hide (HB3.out.trans (hb3.mono HB3.out.size))
  have HX4 := hide (Row.after hb3 HX3.out)
  have HM4 := hide (Row.after hb3 HM3.out)
  have HK4 := hide (Row.after hb3 HK3.out)
  clear hb3 k0 HX3 HM3 HK3 HG3
  unfold HeadIs at hH
  simp only at hH
  rcases hH with ⟨hc, rfl⟩ | ⟨hc, rfl⟩
  · subst hc
    obtain ⟨W, hW⟩ : ∃ W, W = w3.alloc (.cells #[.int .i64 gen, .int .i64 side, .int .i64 size] 137) := ⟨_, rfl⟩
    have HBW := hide (show Below w.heap.size w W by rw [hW]; exact HB4.out.alloc HB4.out.size _)
    have HXW := hide (show Row W (w.heap.size + 1) 137 [.int .i64 0, .int .i64 0, .int .i64 0] by rw [hW]; exact HX4.out.alloc _)
    have HMW := hide (show Row W w.heap.size 29 [.slice p1 xs.length c1, .slice p2 ps.length c2] by rw [hW]; exact HM4.out.alloc _)
    have HKW := hide (show Row W w2.heap.size 92 L by rw [hW]; exact HK4.out.alloc _)
    have HHW := hide (show Row W w3.heap.size 137 [.int .i64 gen, .int .i64 side, .int .i64 size] by rw [hW]; exact row_new w3 _ _)
    have HX4' := hide HX4.out
    clear HX4 HM4 HK4 HB4
    have hl3 := HX4'.out.lt
    have HSS := hide (show ∀ x', Kept [w.heap.size + 1] W x' → x'.cell? ⟨w.heap.size, 0, none⟩ = some (.slice p1 xs.length c1) ∧ x'.cell? ⟨w.heap.size, 1, none⟩ = some (.slice p2 ps.length c2) ∧ x'.cell? ⟨w3.heap.size, 0, none⟩ = some (.int .i64 gen) ∧ x'.cell? ⟨w3.heap.size, 1, none⟩ = some (.int .i64 side) ∧ x'.cell? ⟨w3.heap.size, 2, none⟩ = some (.int .i64 size) ∧ Kept [w.heap.size + 1] W x' from
      fun x' h => ⟨(h.row HMW.out (by simp)).cell 0, (h.row HMW.out (by simp)).cell 1, (h.row HHW.out (by simp; omega)).cell 0, (h.row HHW.out (by simp; omega)).cell 1, (h.row HHW.out (by simp; omega)).cell 2, h⟩)
    have HRd := hide (HRw.out.below HBW.out.drew (Nat.le_refl _))
    go_wp2_with fail
    rw [← hW]
    clear hW
    refine wp_region_held (S := fun x' : World => x'.cell? ⟨w.heap.size, 0, none⟩ = some (.slice p1 xs.length c1) ∧ x'.cell? ⟨w.heap.size, 1, none⟩ = some (.slice p2 ps.length c2) ∧ x'.cell? ⟨w3.heap.size, 0, none⟩ = some (.int .i64 gen) ∧ x'.cell? ⟨w3.heap.size, 1, none⟩ = some (.int .i64 side) ∧ x'.cell? ⟨w3.heap.size, 2, none⟩ = some (.int .i64 size) ∧ Kept [w.heap.size + 1] W x') (by kernel_rfl) ?_
    have HS := hide (HSS.out { W with drawn := W.drawn + 1 } ((Kept.refl _ _).drew))
    refine wpAnyH_take (i := 0) (oi := _) (v := .pointer (some ⟨w3.heap.size, 2, none⟩)) rfl (by kernel_rfl) (by kernel_rfl) (by kernel_rfl) (fun _ _ _ h => h) (Or.inl ⟨by rfl, by intro w hSw; go_split_ands; go_simp <;> omega⟩) HS.out ?_
    simp only [Act.put, List.getElem_toArray, List.getElem_cons_zero, List.setIfInBounds_toArray, List.set_cons_zero, List.set_cons_succ]
    refine wpAnyH_take (i := 1) (oi := _) (v := .int .i64 size) rfl (by kernel_rfl) (by kernel_rfl) (by kernel_rfl) (fun _ _ _ h => h) (Or.inl ⟨by rfl, by intro w hSw; go_split_ands; go_simp <;> omega⟩) HS.out ?_
    simp only [Act.put, List.getElem_toArray, List.getElem_cons_zero, List.getElem_cons_succ, List.setIfInBounds_toArray, List.set_cons_zero, List.set_cons_succ]
    refine wpAnyH_take (i := 2) (oi := _) (v := .agg #[.slice p1 xs.length c1, .slice p2 ps.length c2]) rfl (by kernel_rfl) (by kernel_rfl) (by kernel_rfl) (fun _ _ _ h => h) (Or.inl ⟨by rfl, by intro w hSw; go_split_ands; go_simp <;> omega⟩) HS.out ?_
    simp only [Act.put, List.getElem_toArray, List.getElem_cons_zero, List.getElem_cons_succ, List.setIfInBounds_toArray, List.set_cons_zero, List.set_cons_succ]
    refine wpAnyH_ready (rs := [3]) (by kernel_rfl) (by simp) ?_
    refine AllReadyH.cons (o := _) rfl (fun K hK => ?_) AllReadyH.nil
    go_simp
    refine (sideRoom_any _ _ xs _ l1 (by omega) HRd.out).mono ?_
    rintro e w5 ⟨rfl, hb5⟩
    have hK5 : Kept [w.heap.size + 1] W w5 := (Kept.ofBelow (below_drew hb5)).mono (by simp)
    have HB5 := hide (below_drew hb5)
    clear hb5
    refine hK.out _ _ (HSS.out _ hK5) (fun _ => ?_)
    clear hK K HS
    have HS := hide (HSS.out _ hK5)
    by_cases hroom : 64 * half xs.length < size
    · have hrd : decide (64 * half xs.length < size) = true := decide_eq_true hroom
      have HA := hide (show areaOut xs ps = aill 3 by
        have e1 : seen xs ps = (0, 0, 0, 3) := by rw [HSH.out]; simp only [ne_eq, not_true_eq_false, if_false]; rw [if_neg (by omega)]
        unfold areaOut
        rw [HOK.out, if_neg (by simp), e1, if_pos (by simp)])
      refine wpAnyH_take (i := 4) (oi := _) (v := .bool true) rfl (by kernel_rfl) (by kernel_rfl) (by kernel_rfl) (fun _ _ _ h => h) (Or.inl ⟨by rfl, by intro w hSw; go_split_ands; go_simp <;> omega⟩) HS.out ?_
      simp only [Act.put, List.getElem_toArray, List.getElem_cons_zero, List.getElem_cons_succ, List.setIfInBounds_toArray, List.set_cons_zero, List.set_cons_succ]
      refine wpAnyH_ready (rs := [5]) (by kernel_rfl) (by simp) ?_
      refine AllReadyH.cons (o := _) rfl (fun K hK => ?_) AllReadyH.nil
      go_simp
      refine (refuse_yes 3 _).mono ?_
      rintro e w6 ⟨rfl, rfl⟩
      exact ⟨rfl, .inr (by rw [HA.out]; exact ⟨by decide, rfl⟩), HBW.out.trans (HB5.out.mono HBW.out.size)⟩
    · have hrd : decide (64 * half xs.length < size) = false := decide_eq_false hroom
      refine wpAnyH_take (i := 4) (oi := _) (v := .bool false) rfl (by kernel_rfl) (by kernel_rfl) (by kernel_rfl) (fun _ _ _ h => h) (Or.inl ⟨by rfl, by intro w hSw; go_split_ands; go_simp <;> omega⟩) HS.out ?_
      simp only [Act.put, List.getElem_toArray, List.getElem_cons_zero, List.getElem_cons_succ, List.setIfInBounds_toArray, List.set_cons_zero, List.set_cons_succ]
      refine wpAnyH_ready (rs := [5]) (by kernel_rfl) (by simp) ?_
      refine AllReadyH.cons (o := _) rfl (fun K hK => ?_) AllReadyH.nil
      go_simp
      refine (refuse_no 3 _).mono ?_
      rintro e w6 ⟨rfl, rfl⟩
      refine hK.out _ _ (HSS.out _ hK5) (fun _ => ?_)
      clear hK K HS hrd
      refine wpAnyH_done (by kernel_rfl) ?_ _
      have HE0 := hide (show seen xs ps = (gen, side, size, 0) by rw [HSH.out]; simp only [ne_eq, not_true_eq_false, if_false]; rw [if_pos (by omega)])
      have hsk := seen_ok (xs := xs) (ps := ps) (by rw [HE0.out])
      rw [HE0.out] at hsk
      obtain ⟨hg0, ⟨hs0, hs1⟩, hz0, hz1⟩ := hsk
      simp only at hg0 hs0 hs1 hz0 hz1
      obtain ⟨sz, rfl⟩ := Int.eq_ofNat_of_zero_le hz0
      have hh : 0 ≤ half xs.length ∧ 2 * half xs.length ≤ (xs.length : Int) - 1 := by unfold half; omega
      obtain ⟨n, hn⟩ := Int.eq_ofNat_of_zero_le hh.1
      have HSI := hide (And.intro hs0 hs1)
      obtain ⟨a, ha⟩ : ∃ a, a = 1 + side.toNat * n := ⟨_, rfl⟩
      have hsx : a + n ≤ 1 + 2 * n ∧ 1 + side * half xs.length = (a : Int) := by
        rw [hn, ha]
        rcases (show side = 0 ∨ side = 1 by omega) with rfl | rfl
        · simp
          omega
        · simp
          omega
      have hsz : sz ≤ 64 * n ∧ n ≤ 32 := by omega
      have hal : a + n ≤ xs.length := by omega
      have HAR := hide (area_side (n := n) HOK.out HE0.out hn.symm (by omega) (by rw [← ha]; omega))
      rw [← ha] at HAR
      have HST := hide hsx.2
      have HHN := hide hn
      have HKS := hide (show ∀ x', Kept [w.heap.size + 1] W x' → Row x' w2.heap.size 92 (bank (applyP ps xs)) from fun x' h => by rw [← HLE.out]; exact h.row HKW.out (by simp; omega))
      have HSL := hide (sideOf_len xs ps a n hal)
      have hw6 : IntKind.i64.wrap ((a : Int) + (n : Int)) = (a : Int) + (n : Int) := by rw [IntKind.wrap_i64]; omega
      have g0 : w6.cell? ⟨w.heap.size, 0, none⟩ = some (.slice p1 xs.length c1) := (HSS.out _ hK5).1
      have g1 : w6.cell? ⟨w.heap.size, 1, none⟩ = some (.slice p2 ps.length c2) := (HSS.out _ hK5).2.1
      have g2 : w6.cell? ⟨w3.heap.size, 1, none⟩ = some (.int .i64 side) := (HSS.out _ hK5).2.2.2.1
      have ha0 : (0 : Int) ≤ (a : Int) := by omega
      have ha1 : (a : Int) ≤ (a : Int) + (n : Int) := by omega
      have ha2 : (a : Int) + (n : Int) ≤ 64 := by omega
      have ha3 : ((a : Int) + (n : Int)).toNat = a + n := by omega
      have ha5 : a ≤ 33 := by omega
      have ha4 : ((a : Int) + (n : Int)).toNat - a = n := by omega
      clear hh hz0 hz1 hs0 hs1 hn hsx ha hroom
      go_wp2_with fail
      refine (sideStart_any _ _ xs side _ l1 (by omega) HSI.out (HRw.out.below (HBW.out.trans (HB5.out.mono HBW.out.size)) (Nat.le_refl _)) ⟨_, _, _, rfl⟩).mono ?_
      rw [HST.out]
      rintro e w7 ⟨rfl, hb7⟩
      have hK7 : Kept [w.heap.size + 1] W w7 := hK5.below hb7
      have HB7 := hide (hK7.toBelow HBW.out HBW.out.size (by simp))
      have HX7 := hide (Row.after hb7 (Row.after HB5.out HXW.out))
      clear hb7 g0 g1 g2
      go_wp2_with fail
      refine wp_region_held (S := fun x' : World => x'.cell? ⟨w.heap.size, 0, none⟩ = some (.slice p1 xs.length c1) ∧ x'.cell? ⟨w.heap.size, 1, none⟩ = some (.slice p2 ps.length c2) ∧ x'.cell? ⟨w3.heap.size, 0, none⟩ = some (.int .i64 gen) ∧ x'.cell? ⟨w3.heap.size, 1, none⟩ = some (.int .i64 side) ∧ x'.cell? ⟨w3.heap.size, 2, none⟩ = some (.int .i64 (sz : Int)) ∧ Kept [w.heap.size + 1] W x') (by kernel_rfl) ?_
      have HS := hide (HSS.out { w7 with drawn := w7.drawn + 1 } hK7.drew)
      refine wpAnyH_take (i := 0) (oi := _) (v := .agg #[.int .i64 gen, .int .i64 side, .int .i64 (sz : Int)]) rfl (by kernel_rfl) (by kernel_rfl) (by kernel_rfl) (fun _ _ _ h => h) (Or.inl ⟨by rfl, by intro w hSw; go_split_ands; go_simp <;> omega⟩) HS.out ?_
      simp only [Act.put, List.getElem_toArray, List.getElem_cons_zero, List.setIfInBounds_toArray, List.set_cons_zero, List.set_cons_succ]
      refine wpAnyH_take (i := 1) (oi := _) (v := .pointer (some ⟨w2.heap.size, 0, none⟩)) rfl (by kernel_rfl) (by kernel_rfl) (by kernel_rfl) (fun _ _ _ h => h) (Or.inl ⟨by rfl, by intro w hSw; go_split_ands; go_simp <;> omega⟩) HS.out ?_
      simp only [Act.put, List.getElem_toArray, List.getElem_cons_zero, List.getElem_cons_succ, List.setIfInBounds_toArray, List.set_cons_zero, List.set_cons_succ]
      refine wpAnyH_take (i := 2) (oi := _) (v := .int .i64 (a : Int)) rfl (by kernel_rfl) (by kernel_rfl) (by kernel_rfl) (fun _ _ _ h => h) (Or.inl ⟨by rfl, by intro w hSw; go_split_ands; go_simp <;> omega⟩) HS.out ?_
      simp only [Act.put, List.getElem_toArray, List.getElem_cons_zero, List.getElem_cons_succ, List.setIfInBounds_toArray, List.set_cons_zero, List.set_cons_succ]
      refine wpAnyH_take (i := 3) (oi := _) (v := .int .i64 (a : Int)) rfl (by kernel_rfl) (by kernel_rfl) (by kernel_rfl) (fun _ _ _ h => h) (Or.inl ⟨by rfl, by intro w hSw; go_split_ands; go_simp <;> omega⟩) HS.out ?_
      simp only [Act.put, List.getElem_toArray, List.getElem_cons_zero, List.getElem_cons_succ, List.setIfInBounds_toArray, List.set_cons_zero, List.set_cons_succ]
      refine wpAnyH_take (i := 4) (oi := _) (v := .agg #[.slice p1 xs.length c1, .slice p2 ps.length c2]) rfl (by kernel_rfl) (by kernel_rfl) (by kernel_rfl) (fun _ _ _ h => h) (Or.inl ⟨by rfl, by intro w hSw; go_split_ands; go_simp <;> omega⟩) HS.out ?_
      simp only [Act.put, List.getElem_toArray, List.getElem_cons_zero, List.getElem_cons_succ, List.setIfInBounds_toArray, List.set_cons_zero, List.set_cons_succ]
      refine wpAnyH_take (i := 8) (oi := _) (v := .pointer (some ⟨w3.heap.size, 2, none⟩)) rfl (by kernel_rfl) (by kernel_rfl) (by kernel_rfl) (fun _ _ _ h => h) (Or.inl ⟨by rfl, by intro w hSw; go_split_ands; go_simp <;> omega⟩) HS.out ?_
      simp only [Act.put, List.getElem_toArray, List.getElem_cons_zero, List.getElem_cons_succ, List.setIfInBounds_toArray, List.set_cons_zero, List.set_cons_succ]
      refine wpAnyH_take (i := 9) (oi := _) (v := .int .i64 (sz : Int)) rfl (by kernel_rfl) (by kernel_rfl) (by kernel_rfl) (fun _ _ _ h => h) (Or.inl ⟨by rfl, by intro w hSw; go_split_ands; go_simp <;> omega⟩) HS.out ?_
      simp only [Act.put, List.getElem_toArray, List.getElem_cons_zero, List.getElem_cons_succ, List.setIfInBounds_toArray, List.set_cons_zero, List.set_cons_succ]
      refine wpAnyH_ready (rs := [5]) (by kernel_rfl) (by simp) ?_
      refine AllReadyH.cons (o := _) rfl (fun K hK => ?_) AllReadyH.nil
      go_simp
      refine (sideSectors_any _ _ xs _ l1 (by omega) (HRw.out.below HB7.out.drew (Nat.le_refl _))).mono ?_
      rw [HHN.out]
      rintro e w8 ⟨rfl, hb8⟩
      have hK8 : Kept [w.heap.size + 1] W w8 := hK7.trans ((Kept.ofBelow (below_drew hb8)).mono (by simp))
      have HB8 := hide (hK8.toBelow HBW.out HBW.out.size (by simp))
      have HX8 := hide (Row.after hb8 HX7.out.drew)
      clear hb8
      refine hK.out _ _ (HSS.out _ hK8) (fun _ => ?_)
      clear hK K HS
      have HS := hide (HSS.out _ hK8)
      refine wpAnyH_take (i := 6) (oi := _) (v := .int .i64 ((a : Int) + (n : Int))) rfl (by kernel_rfl) (by kernel_rfl) (by kernel_rfl) (fun _ _ _ h => h) (Or.inl ⟨by rfl, by intro w hSw; go_split_ands; go_simp <;> omega⟩) HS.out ?_
      simp only [Act.put, List.getElem_toArray, List.getElem_cons_zero, List.getElem_cons_succ, List.setIfInBounds_toArray, List.set_cons_zero, List.set_cons_succ]
      refine wpAnyH_take (i := 7) (oi := _) (v := .slice (some ⟨w2.heap.size, a, none⟩) n (64 - a)) rfl (by kernel_rfl) (by kernel_rfl) (by kernel_rfl) (fun _ _ _ h => h) (Or.inl ⟨by rfl, by intro w hSw; go_split_ands; go_simp <;> omega⟩) HS.out ?_
      simp only [Act.put, List.getElem_toArray, List.getElem_cons_zero, List.getElem_cons_succ, List.setIfInBounds_toArray, List.set_cons_zero, List.set_cons_succ]
      refine wpAnyH_ready (rs := [10]) (by kernel_rfl) (by simp) ?_
      refine AllReadyH.cons (o := _) rfl (fun K hK => ?_) AllReadyH.nil
      go_simp
      refine (readSide_any _ (sideOf xs ps a n) sz _ (side_reads (HKS.out _ hK8) (by omega) hal HAM.out) (by rw [HSL.out]; omega) (by omega)).mono ?_
      rw [HSL.out]
      rintro e w9 ⟨hF, hb9⟩
      rcases hF with ⟨hf, rfl⟩ | ⟨hf, rfl⟩
      · have HA := hide HAR.out
        rw [hf, if_pos rfl] at HA
        obtain ⟨t, ht⟩ : ∃ t, t = gath (fun j => (sideOf xs ps a n).getD j ⟨#[]⟩) sz n := ⟨_, rfl⟩
        rw [← ht] at HA ⊢
        have hK9 : Kept [w.heap.size + 1] W w9 := hK8.below hb9
        have HB9 := hide (HB8.out.trans (hb9.mono HB8.out.size))
        have r9 : Row w9 (w.heap.size + 1) 137 [.int .i64 0, .int .i64 0, .int .i64 0] := Row.after hb9 HX8.out
        have d0 : w9.cell? ⟨w.heap.size + 1, 0, none⟩ = some (.int .i64 0) := r9.cell 0
        have d1 : w9.cell? ⟨w.heap.size + 1, 1, none⟩ = some (.int .i64 0) := r9.cell 1
        have d2 : w9.cell? ⟨w.heap.size + 1, 2, none⟩ = some (.int .i64 0) := r9.cell 2
        have f0 := r9.free 0
        have f1 := r9.free 1
        have f2 := r9.free 2
        have HR9 := hide r9
        obtain ⟨q0, q1, q2, KF⟩ := three' r9 (.int .i64 gen) (.int .i64 side) (.int .i64 (sz : Int))
        have HKF := hide KF
        have HQ := hide (And.intro q0 (And.intro q1 q2))
        clear hb9 r9 ht hf q0 q1 q2 KF
        refine hK.out _ _ (HSS.out _ hK9) (fun _ => ?_)
        clear hK K HS
        refine wpAnyH_ready (rs := [11]) (by kernel_rfl) (by simp) ?_
        refine AllReadyH.cons (o := _) rfl (fun K hK => ?_) AllReadyH.nil
        go_simp
        refine hK.out _ _ (HSS.out _ (hK9.trans HKF.out)) (fun _ => ?_)
        clear hK K d0 d1 d2 f0 f1 f2
        have HS := hide (HSS.out _ (hK9.trans HKF.out))
        refine wpAnyH_take (i := 12) (oi := _) (v := .string t) rfl (by kernel_rfl) (by kernel_rfl) (by kernel_rfl) (fun _ _ _ h => h) (Or.inl ⟨by rfl, by intro w hSw; go_split_ands; go_simp <;> omega⟩) HS.out ?_
        simp only [Act.put, List.getElem_toArray, List.getElem_cons_zero, List.getElem_cons_succ, List.setIfInBounds_toArray, List.set_cons_zero, List.set_cons_succ]
        refine wpAnyH_done (by kernel_rfl) ?_ _
        have q0 := HQ.out.1
        have q1 := HQ.out.2.1
        have q2 := HQ.out.2.2
        go_wp2
        exact bodyPost_ret (v := .tuple #[.agg #[.int .i64 gen, .int .i64 side, .int .i64 (sz : Int)], .string t]) (by simp [results, Tryz.results98, go_sem, q0, q1, q2]) rfl
          ⟨.inl (by rw [HA.out, HE0.out]; exact ⟨rfl, rfl⟩), HKF.out.toBelow HB9.out HB9.out.size (by simp)⟩
      · have HA := hide HAR.out
        rw [hf] at HA
        simp only [Bool.false_eq_true, if_false] at HA
        exact ⟨rfl, .inr (by rw [HA.out]; exact ⟨by decide, rfl⟩), HB8.out.trans (hb9.mono HB8.out.size)⟩
  · have HA := hide (show areaOut xs ps = aill code by
      have e1 : seen xs ps = (0, 0, 0, code) := by rw [HSH.out]; exact if_pos hc
      unfold areaOut
      rw [HOK.out, if_neg (by simp), e1, if_pos hc])
    go_wp2
    exact ⟨rfl, .inr (by rw [HA.out]; exact ⟨hc, rfl⟩), HB4.out⟩
end Go.Proofs.YtbhdbkffejlfmaaGreatDoor

/- The law of AreaPut from the program's contracts. -/
namespace Go.Proofs.YtbhdbkffejlfmaaGreatDoor
open Go.RowKit

theorem runOut_right : ∀ (ss : List (Bool × Int × ByteArray)) (xs : List ByteArray) (ps : List (Int × ByteArray)), right xs ps = true → (runOut ss xs ps).c = 0 → right (runOut ss xs ps).xs (runOut ss xs ps).ps = true
  | [], xs, ps, h, _ => h
  | s :: r, xs, ps, h, hc => by
    rw [runOut] at hc ⊢
    split
    · rename_i h0
      rw [if_pos h0] at hc
      exact runOut_right r _ _ (stepOut_right h h0) hc
    · rename_i h0
      rw [if_neg h0] at hc
      exact absurd hc h0
theorem putOut_len {xs : List ByteArray} {ps : List (Int × ByteArray)} (d : ByteArray) (a : Int) : (putOut xs ps d a).xs.length ≤ 1048576 ∧ (putOut xs ps d a).ps.length ≤ 1048576 := by
  unfold putOut
  split
  · exact ⟨by simp [aill], by simp [aill]⟩
  · split
    · exact ⟨by simp [aill], by simp [aill]⟩
    · rename_i hok
      split
      · exact ⟨by simp [aill], by simp [aill]⟩
      · split
        · exact ⟨by simp [aill], by simp [aill]⟩
        · split
          · rename_i hc
            have := right_len (runOut_right _ _ _ (by simpa using hok) hc)
            exact ⟨by show (runOut _ _ _).xs.length ≤ _; omega, by show (runOut _ _ _).ps.length ≤ _; omega⟩
          · exact ⟨by simp [aill], by simp [aill]⟩
end Go.Proofs.YtbhdbkffejlfmaaGreatDoor

/- putStore of the program: AreaPut of what storeText tells. -/
namespace Go.Proofs.YtbhdbkffejlfmaaGreatDoor
open Go.RowKit

/-- The answer of a store's face: a disk, a text, a code. -/
structure KOut where
  xs : List ByteArray
  ps : List (Int × ByteArray)
  t : ByteArray
  c : Int
def kill (c : Int) : KOut := ⟨[], [], ⟨#[]⟩, c⟩
/-- The call ended with the answer o, in memory of its own. -/
def KOutIs (B : Nat) (e : Ending) (w : World) (o : KOut) : Prop :=
  ∃ us up, e = .returned (.agg #[us, up, .string o.t, .int .i64 o.c]) ∧ OwnS 9 B w us o.xs ∧ OwnP 73 B w up o.ps ∧ ∀ x ∈ leads us, x ∉ leads up
theorem KOutIs.ill (B : Nat) (w : World) (c : Int) : KOutIs B (.returned (.agg #[.slice none 0 0, .slice none 0 0, .string ⟨#[]⟩, .int .i64 c])) w (kill c) :=
  ⟨_, _, rfl, OwnS.none _ _ _, OwnP.none _ _ _, fun _ h => by cases h⟩
def kput (xs : List ByteArray) (ps : List (Int × ByteArray)) (d : ByteArray) (a : Int) : KOut := ⟨(putOut xs ps d a).xs, (putOut xs ps d a).ps, ⟨#[]⟩, (putOut xs ps d a).c⟩
theorem putEnd {w W Z V V2 : World} {E5 : Nat} {us up : Value} {y : AOut} (h0 : Below w.heap.size w W) (hz : Below W.heap.size W Z) (hge : w.heap.size + 2 ≤ E5) (hws : w.heap.size + 2 = W.heap.size) (k1 : Kept [E5] Z V) (k2 : Kept [w.heap.size + 1] V V2)
    (o1 : OwnS 9 (w.heap.size + 2) Z us y.xs) (o2 : OwnP 73 (w.heap.size + 2) Z up y.ps) (dd : ∀ x ∈ leads us, x ∉ leads up) (l1 : ∀ x ∈ leads us, x ≠ E5) (l2 : ∀ x ∈ leads up, x ≠ E5) :
    KOutIs w.heap.size (.returned (.agg #[us, up, .string ⟨#[]⟩, .int .i64 y.c])) V2 ⟨y.xs, y.ps, ⟨#[]⟩, y.c⟩ ∧ Below w.heap.size w V2 := by
  have K := (k1.mono (S' := [E5, w.heap.size + 1]) (by simp)).trans (k2.mono (S' := [E5, w.heap.size + 1]) (by simp))
  have hb := h0.trans (hz.mono h0.size)
  refine ⟨⟨us, up, rfl, (o1.kept K ?_).mono (by omega), (o2.kept K ?_).mono (by omega), dd⟩, K.toBelow hb hb.size ?_⟩
  · intro x hx
    have := l1 x hx
    have := (o1.leads x hx).1
    simp
    omega
  · intro x hx
    have := l2 x hx
    have := (o2.leads x hx).1
    simp
    omega
  · simp
    omega

set_option maxHeartbeats 8000000 in
set_option maxRecDepth 100000 in
theorem putStore_any (T : ByteArray) (m vs vp : Value) (xs : List ByteArray) (ps : List (Int × ByteArray)) (a : Int) (aF aR aU : Addr) (w : World) (hn : xs.length ≤ 1048576) (hn2 : ps.length ≤ 1048576) (hd : T.size ≤ 1048576) (hr : Reads w vs xs) (hp : ReadsP w vp ps) (hS : Sents aF aR aU w) (hG : St3.Laid w)
    (HT : ∀ w', Below w.heap.size w w' → Calls Tryz.prog 74 #[m] w' fun e w'' => e = .returned (.string T) ∧ Below w'.heap.size w' w'') :
    Calls Tryz.prog 57 #[.agg #[vs, vp], m, .int .i64 a] w fun e w' => KOutIs w.heap.size e w' (kput xs ps T a) ∧ Below w.heap.size w w' := by
  obtain ⟨y, HY⟩ : ∃ y, Hid (y = putOut xs ps T a) := ⟨_, rfl⟩
  have HKO : kput xs ps T a = ⟨y.xs, y.ps, ⟨#[]⟩, y.c⟩ := by rw [HY.out]; rfl
  rw [HKO]
  clear HKO
  have HTS := hide hd
  have HSw := hide hS
  have HR := hide hr
  have HP := hide hp
  have HTh := hide HT
  have HGh := hide hG
  clear hS hd hG HT
  obtain ⟨p1, c1, rfl, _⟩ := hr
  obtain ⟨p2, c2, rfl, _⟩ := hp
  obtain ⟨W, hW⟩ : ∃ W, W = (w.alloc (.cells #[.slice p1 xs.length c1, .slice p2 ps.length c2] 29)).alloc (.cells #[.slice none 0 0, .slice none 0 0, .string ⟨#[]⟩, .int .i64 0] 51) := ⟨_, rfl⟩
  have HB0 := hide (show Below w.heap.size w W by rw [hW]; exact ((Below.refl _ _).alloc (Nat.le_refl _) _).alloc (by simp) _)
  have HWS := hide (show w.heap.size + 2 = W.heap.size by rw [hW]; simp)
  have HRD := hide (show Row W w.heap.size 29 [.slice p1 xs.length c1, .slice p2 ps.length c2] by rw [hW]; exact (row_new w _ _).alloc _)
  have HRO := hide (show Row W (w.heap.size + 1) 51 [.slice none 0 0, .slice none 0 0, .string ⟨#[]⟩, .int .i64 0] by
    rw [hW]
    have := row_new (w.alloc (.cells #[.slice p1 xs.length c1, .slice p2 ps.length c2] 29)) [.slice none 0 0, .slice none 0 0, .string ⟨#[]⟩, .int .i64 0] 51
    simpa using this)
  go_enter Tryz.func57, Tryz.ntmps57
  go_upto_region 1 with fail
  rw [← hW]
  clear hW
  have HT := HTh
  have HG := HGh
  clear HTh HGh
  have HSS := hide (show ∀ y : World, Below W.heap.size W y → (y.cell? ⟨w.heap.size, 0, none⟩ = some (.slice p1 xs.length c1) ∧ y.cell? ⟨w.heap.size, 1, none⟩ = some (.slice p2 ps.length c2)) from
    fun y hb => ⟨(HRD.out.below hb HRD.out.lt).cell 0, (HRD.out.below hb HRD.out.lt).cell 1⟩)
  have HSK := hide (show ∀ (y v : World) {E : Nat}, Below W.heap.size W y → Kept [E] y v → w.heap.size + 2 ≤ E → (v.cell? ⟨w.heap.size, 0, none⟩ = some (.slice p1 xs.length c1) ∧ v.cell? ⟨w.heap.size, 1, none⟩ = some (.slice p2 ps.length c2)) from
    fun y v E hb k hE => ⟨(k.row (HRD.out.below hb HRD.out.lt) (by simp; omega)).cell 0, (k.row (HRD.out.below hb HRD.out.lt) (by simp; omega)).cell 1⟩)
  refine wp_region_held (S := fun y : World => y.cell? ⟨w.heap.size, 0, none⟩ = some (.slice p1 xs.length c1) ∧ y.cell? ⟨w.heap.size, 1, none⟩ = some (.slice p2 ps.length c2)) (by kernel_rfl) ?_
  have HZ1 := hide (show Below W.heap.size W { W with drawn := W.drawn + 1 } from (Below.refl _ W).drew)
  generalize ({ W with drawn := W.drawn + 1 } : World) = Z1 at HZ1 ⊢
  have HS := hide (HSS.out _ HZ1.out)
  refine wpAnyH_take (i := 0) (oi := _) (v := .agg #[.slice p1 xs.length c1, .slice p2 ps.length c2]) rfl (by kernel_rfl) (by kernel_rfl) (by kernel_rfl) (fun _ _ _ h => h) (Or.inl ⟨by rfl, by intro w hSw; go_split_ands; go_simp⟩) HS.out ?_
  simp only [Act.put, List.getElem_toArray, List.getElem_cons_zero, List.setIfInBounds_toArray, List.set_cons_zero, List.set_cons_succ]
  refine wpAnyH_take (i := 1) (oi := _) (v := m) rfl (by kernel_rfl) (by kernel_rfl) (by kernel_rfl) (fun _ _ _ h => h) (Or.inl ⟨by rfl, by intro w hSw; go_split_ands; go_simp⟩) HS.out ?_
  simp only [Act.put, List.getElem_toArray, List.getElem_cons_zero, List.getElem_cons_succ, List.setIfInBounds_toArray, List.set_cons_zero, List.set_cons_succ]
  refine wpAnyH_take (i := 3) (oi := _) (v := .int .i64 a) rfl (by kernel_rfl) (by kernel_rfl) (by kernel_rfl) (fun _ _ _ h => h) (Or.inl ⟨by rfl, by intro w hSw; go_split_ands; go_simp⟩) HS.out ?_
  simp only [Act.put, List.getElem_toArray, List.getElem_cons_zero, List.getElem_cons_succ, List.setIfInBounds_toArray, List.set_cons_zero, List.set_cons_succ]
  refine wpAnyH_ready (rs := [2, 5]) (by kernel_rfl) (by simp) ?_
  refine AllReadyH.cons (o := _) rfl (fun K hK => ?_) (AllReadyH.cons (o := _) rfl (fun K hK => ?_) AllReadyH.nil)
  · go_simp
    refine (HT.out _ (HB0.out.trans (HZ1.out.mono HB0.out.size))).mono ?_
    rintro e Z2 ⟨rfl, hbc⟩
    have HZ2 := hide (HZ1.out.trans (hbc.mono HZ1.out.size))
    clear hbc
    refine hK.out _ _ (HSS.out _ HZ2.out) (fun _ => ?_)
    clear hK K HS
    have HS := hide (HSS.out _ HZ2.out)
    try simp only [Act.put, List.getElem_toArray, List.getElem_cons_zero, List.getElem_cons_succ, List.setIfInBounds_toArray, List.set_cons_zero, List.set_cons_succ]
    refine wpAnyH_ready (rs := [4, 5]) (by kernel_rfl) (by simp) ?_
    refine AllReadyH.cons (o := _) rfl (fun K hK => ?_) (AllReadyH.cons (o := _) rfl (fun K hK => ?_) AllReadyH.nil)
    · have hbx := HB0.out.trans (HZ2.out.mono HB0.out.size)
      have HBX := hide hbx
      clear hbx
      go_simp
      refine (implAPut_any _ _ xs ps T a aF aR aU _ hn hn2 HTS.out (HR.out.below HBX.out (Nat.le_refl _)) (HP.out.below HBX.out (Nat.le_refl _)) (Stab.go HBX.out HSw.out) (fun hok vs vp w'' hb' hr hp => readArea_any vs vp xs ps w'' hr hp hok (Stab.go hb' (Stab.go HBX.out HG.out)))).mono ?_
      rw [← HY.out]
      rintro e Z3 ⟨⟨us, up, rfl, o1, o2, dd⟩, hbc⟩
      obtain ⟨s1, s2, s3, rfl⟩ := o1.isSlice
      obtain ⟨s4, s5, s6, rfl⟩ := o2.isSlice
      have HZ3 := hide (HZ2.out.trans (hbc.mono HZ2.out.size))
      have HW := hide HBX.out.size
      have O1 := hide (o1.mono (by have := HWS.out; have := HZ2.out.size; omega : w.heap.size + 2 ≤ Z2.heap.size))
      have O2 := hide (o2.mono (by have := HWS.out; have := HZ2.out.size; omega : w.heap.size + 2 ≤ Z2.heap.size))
      have DD := hide dd
      clear hbc o1 o2 dd HBX HW
      refine hK.out _ _ (HSS.out _ HZ3.out) (fun _ => ?_)
      clear hK K HS
      have HS := hide (HSS.out _ HZ3.out)
      try simp only [Act.put, List.getElem_toArray, List.getElem_cons_zero, List.getElem_cons_succ, List.setIfInBounds_toArray, List.set_cons_zero, List.set_cons_succ]
      refine wpAnyH_ready (rs := [5]) (by kernel_rfl) (by simp) ?_
      refine AllReadyH.cons (o := _) rfl (fun K hK => ?_) AllReadyH.nil
      go_simp
      have HZ4 := hide (HZ3.out.alloc HZ3.out.size (.cells #[.slice none 0 0, .slice none 0 0, .string ⟨#[]⟩, .int .i64 0, .int .i64 0] 105))
      have HRA := hide (row_new Z3 [.slice none 0 0, .slice none 0 0, .string ⟨#[]⟩, .int .i64 0, .int .i64 0] 105)
      have HGE := hide (show w.heap.size + 2 ≤ Z3.heap.size from Nat.le_trans (Nat.le_of_eq HWS.out) HZ3.out.size)
      refine hK.out _ _ (HSS.out _ HZ4.out) (fun _ => ?_)
      clear hK K HS
      have L1 := hide (show ∀ x ∈ leads (.slice s1 s2 s3), x ≠ Z3.heap.size from fun x hx => by have := (O1.out.leads x hx).2; omega)
      have L2 := hide (show ∀ x ∈ leads (.slice s4 s5 s6), x ≠ Z3.heap.size from fun x hx => by have := (O2.out.leads x hx).2; omega)
      have hbn := below_new Z3 (.cells #[.slice none 0 0, .slice none 0 0, .string ⟨#[]⟩, .int .i64 0, .int .i64 0] 105)
      have O1 := hide (O1.out.below hbn (Nat.le_refl _))
      have O2 := hide (O2.out.below hbn (Nat.le_refl _))
      clear hbn
      generalize hZ : Z3.alloc (.cells #[.slice none 0 0, .slice none 0 0, .string ⟨#[]⟩, .int .i64 0, .int .i64 0] 105) = Z4 at HZ4 HRA O1 O2 ⊢
      generalize Z3.heap.size = E5 at HRA HGE L1 L2 ⊢
      clear hZ
      have HS := hide (HSS.out _ HZ4.out)
      try simp only [Act.put, List.getElem_toArray, List.getElem_cons_zero, List.getElem_cons_succ, List.setIfInBounds_toArray, List.set_cons_zero, List.set_cons_succ]
      refine wpAnyH_ready (rs := [6]) (by kernel_rfl) (by simp) ?_
      refine AllReadyH.cons (o := _) rfl (fun K hK => ?_) AllReadyH.nil
      have d0 : Z4.cell? ⟨E5, 0, none⟩ = some (.slice none 0 0) := HRA.out.cell 0
      have d1 : Z4.cell? ⟨E5, 1, none⟩ = some (.slice none 0 0) := HRA.out.cell 1
      have d2 : Z4.cell? ⟨E5, 2, none⟩ = some (.string ⟨#[]⟩) := HRA.out.cell 2
      have d3 : Z4.cell? ⟨E5, 3, none⟩ = some (.int .i64 0) := HRA.out.cell 3
      have d4 : Z4.cell? ⟨E5, 4, none⟩ = some (.int .i64 0) := HRA.out.cell 4
      have f0 := HRA.out.free 0
      have f1 := HRA.out.free 1
      have f2 := HRA.out.free 2
      have f3 := HRA.out.free 3
      have f4 := HRA.out.free 4
      obtain ⟨q0, q1, q2, q3, q4, KF⟩ := five HRA.out (.slice s1 s2 s3) (.slice s4 s5 s6) (.string y.t) (.int .i64 y.g) (.int .i64 y.c)
      have HKF := hide KF
      have HRow := hide (((((HRA.out.set (j := 0) (.slice s1 s2 s3)).set (j := 1) (.slice s4 s5 s6)).set (j := 2) (.string y.t)).set (j := 3) (.int .i64 y.g)).set (j := 4) (.int .i64 y.c))
      have HSF := hide (HSK.out _ _ HZ4.out HKF.out HGE.out)
      clear q0 q1 q2 q3 q4 KF
      go_simp
      refine hK.out _ _ HSF.out (fun _ => ?_)
      clear hK K d0 d1 d2 d3 d4 f0 f1 f2 f3 f4 HS
      refine wpAnyH_done (by kernel_rfl) ?_ _
      have HR9 := hide (HKF.out.row (HRO.out.below HZ4.out HRO.out.lt) (by have := HGE.out; simp; omega))
      generalize hV : World.setCell (World.setCell (World.setCell (World.setCell (World.setCell Z4 ⟨E5, 0, none⟩ (.slice s1 s2 s3)) ⟨E5, 1, none⟩ (.slice s4 s5 s6)) ⟨E5, 2, none⟩ (.string y.t)) ⟨E5, 3, none⟩ (.int .i64 y.g)) ⟨E5, 4, none⟩ (.int .i64 y.c) = V at HRow HKF HR9 ⊢
      clear hV HSF
      have q0 : V.cell? ⟨E5, 0, none⟩ = some (.slice s1 s2 s3) := HRow.out.cell 0
      have q1 : V.cell? ⟨E5, 1, none⟩ = some (.slice s4 s5 s6) := HRow.out.cell 1
      have q4 : V.cell? ⟨E5, 4, none⟩ = some (.int .i64 y.c) := HRow.out.cell 4
      have g0 : V.cell? ⟨w.heap.size + 1, 0, none⟩ = some (.slice none 0 0) := HR9.out.cell 0
      have g1 : V.cell? ⟨w.heap.size + 1, 1, none⟩ = some (.slice none 0 0) := HR9.out.cell 1
      have g2 : V.cell? ⟨w.heap.size + 1, 2, none⟩ = some (.string ⟨#[]⟩) := HR9.out.cell 2
      have g3 : V.cell? ⟨w.heap.size + 1, 3, none⟩ = some (.int .i64 0) := HR9.out.cell 3
      have h0 := HR9.out.free 0
      have h1 := HR9.out.free 1
      have h2 := HR9.out.free 2
      have h3 := HR9.out.free 3
      go_wp2
      obtain ⟨r0, r1, r2, r3, KG⟩ := four HR9.out (.slice s1 s2 s3) (.slice s4 s5 s6) (.string ⟨#[]⟩) (.int .i64 y.c)
      exact bodyPost_ret (v := .agg #[.slice s1 s2 s3, .slice s4 s5 s6, .string ⟨#[]⟩, .int .i64 y.c]) (by simp [results, Tryz.results57, go_sem, r0, r1, r2, r3]) rfl
        (putEnd HB0.out HZ4.out HGE.out HWS.out HKF.out KG O1.out O2.out DD.out L1.out L2.out)
    · go_simp
      have HZ3 := hide (HZ2.out.alloc HZ2.out.size (.cells #[.slice none 0 0, .slice none 0 0, .string ⟨#[]⟩, .int .i64 0, .int .i64 0] 105))
      have HRA := hide (row_new Z2 [.slice none 0 0, .slice none 0 0, .string ⟨#[]⟩, .int .i64 0, .int .i64 0] 105)
      have HGE := hide (show w.heap.size + 2 ≤ Z2.heap.size from Nat.le_trans (Nat.le_of_eq HWS.out) HZ2.out.size)
      refine hK.out _ _ (HSS.out _ HZ3.out) (fun _ => ?_)
      clear hK K HS
      generalize hZ : Z2.alloc (.cells #[.slice none 0 0, .slice none 0 0, .string ⟨#[]⟩, .int .i64 0, .int .i64 0] 105) = Z3 at HZ3 HRA ⊢
      generalize Z2.heap.size = E5 at HRA HGE ⊢
      clear hZ
      have HS := hide (HSS.out _ HZ3.out)
      try simp only [Act.put, List.getElem_toArray, List.getElem_cons_zero, List.getElem_cons_succ, List.setIfInBounds_toArray, List.set_cons_zero, List.set_cons_succ]
      refine wpAnyH_ready (rs := [4]) (by kernel_rfl) (by simp) ?_
      refine AllReadyH.cons (o := _) rfl (fun K hK => ?_) AllReadyH.nil
      have hbx := HB0.out.trans (HZ3.out.mono HB0.out.size)
      have HBX := hide hbx
      clear hbx
      go_simp
      refine (implAPut_any _ _ xs ps T a aF aR aU _ hn hn2 HTS.out (HR.out.below HBX.out (Nat.le_refl _)) (HP.out.below HBX.out (Nat.le_refl _)) (Stab.go HBX.out HSw.out) (fun hok vs vp w'' hb' hr hp => readArea_any vs vp xs ps w'' hr hp hok (Stab.go hb' (Stab.go HBX.out HG.out)))).mono ?_
      rw [← HY.out]
      rintro e Z4 ⟨⟨us, up, rfl, o1, o2, dd⟩, hbc⟩
      obtain ⟨s1, s2, s3, rfl⟩ := o1.isSlice
      obtain ⟨s4, s5, s6, rfl⟩ := o2.isSlice
      have HZ4 := hide (HZ3.out.trans (hbc.mono HZ3.out.size))
      have HW := hide HBX.out.size
      have O1 := hide (o1.mono (by have := HWS.out; have := HZ3.out.size; omega : w.heap.size + 2 ≤ Z3.heap.size))
      have O2 := hide (o2.mono (by have := HWS.out; have := HZ3.out.size; omega : w.heap.size + 2 ≤ Z3.heap.size))
      have DD := hide dd
      have L1 := hide (show ∀ x ∈ leads (.slice s1 s2 s3), x ≠ E5 from fun x hx => by have := (o1.leads x hx).1; have := HRA.out.lt; omega)
      have L2 := hide (show ∀ x ∈ leads (.slice s4 s5 s6), x ≠ E5 from fun x hx => by have := (o2.leads x hx).1; have := HRA.out.lt; omega)
      have HRA := hide (HRA.out.below hbc HRA.out.lt)
      clear hbc o1 o2 dd HBX HW
      refine hK.out _ _ (HSS.out _ HZ4.out) (fun _ => ?_)
      clear hK K HS
      have HS := hide (HSS.out _ HZ4.out)
      try simp only [Act.put, List.getElem_toArray, List.getElem_cons_zero, List.getElem_cons_succ, List.setIfInBounds_toArray, List.set_cons_zero, List.set_cons_succ]
      refine wpAnyH_ready (rs := [6]) (by kernel_rfl) (by simp) ?_
      refine AllReadyH.cons (o := _) rfl (fun K hK => ?_) AllReadyH.nil
      have d0 : Z4.cell? ⟨E5, 0, none⟩ = some (.slice none 0 0) := HRA.out.cell 0
      have d1 : Z4.cell? ⟨E5, 1, none⟩ = some (.slice none 0 0) := HRA.out.cell 1
      have d2 : Z4.cell? ⟨E5, 2, none⟩ = some (.string ⟨#[]⟩) := HRA.out.cell 2
      have d3 : Z4.cell? ⟨E5, 3, none⟩ = some (.int .i64 0) := HRA.out.cell 3
      have d4 : Z4.cell? ⟨E5, 4, none⟩ = some (.int .i64 0) := HRA.out.cell 4
      have f0 := HRA.out.free 0
      have f1 := HRA.out.free 1
      have f2 := HRA.out.free 2
      have f3 := HRA.out.free 3
      have f4 := HRA.out.free 4
      obtain ⟨q0, q1, q2, q3, q4, KF⟩ := five HRA.out (.slice s1 s2 s3) (.slice s4 s5 s6) (.string y.t) (.int .i64 y.g) (.int .i64 y.c)
      have HKF := hide KF
      have HRow := hide (((((HRA.out.set (j := 0) (.slice s1 s2 s3)).set (j := 1) (.slice s4 s5 s6)).set (j := 2) (.string y.t)).set (j := 3) (.int .i64 y.g)).set (j := 4) (.int .i64 y.c))
      have HSF := hide (HSK.out _ _ HZ4.out HKF.out HGE.out)
      clear q0 q1 q2 q3 q4 KF
      go_simp
      refine hK.out _ _ HSF.out (fun _ => ?_)
      clear hK K d0 d1 d2 d3 d4 f0 f1 f2 f3 f4 HS
      refine wpAnyH_done (by kernel_rfl) ?_ _
      have HR9 := hide (HKF.out.row (HRO.out.below HZ4.out HRO.out.lt) (by have := HGE.out; simp; omega))
      generalize hV : World.setCell (World.setCell (World.setCell (World.setCell (World.setCell Z4 ⟨E5, 0, none⟩ (.slice s1 s2 s3)) ⟨E5, 1, none⟩ (.slice s4 s5 s6)) ⟨E5, 2, none⟩ (.string y.t)) ⟨E5, 3, none⟩ (.int .i64 y.g)) ⟨E5, 4, none⟩ (.int .i64 y.c) = V at HRow HKF HR9 ⊢
      clear hV HSF
      have q0 : V.cell? ⟨E5, 0, none⟩ = some (.slice s1 s2 s3) := HRow.out.cell 0
      have q1 : V.cell? ⟨E5, 1, none⟩ = some (.slice s4 s5 s6) := HRow.out.cell 1
      have q4 : V.cell? ⟨E5, 4, none⟩ = some (.int .i64 y.c) := HRow.out.cell 4
      have g0 : V.cell? ⟨w.heap.size + 1, 0, none⟩ = some (.slice none 0 0) := HR9.out.cell 0
      have g1 : V.cell? ⟨w.heap.size + 1, 1, none⟩ = some (.slice none 0 0) := HR9.out.cell 1
      have g2 : V.cell? ⟨w.heap.size + 1, 2, none⟩ = some (.string ⟨#[]⟩) := HR9.out.cell 2
      have g3 : V.cell? ⟨w.heap.size + 1, 3, none⟩ = some (.int .i64 0) := HR9.out.cell 3
      have h0 := HR9.out.free 0
      have h1 := HR9.out.free 1
      have h2 := HR9.out.free 2
      have h3 := HR9.out.free 3
      go_wp2
      obtain ⟨r0, r1, r2, r3, KG⟩ := four HR9.out (.slice s1 s2 s3) (.slice s4 s5 s6) (.string ⟨#[]⟩) (.int .i64 y.c)
      exact bodyPost_ret (v := .agg #[.slice s1 s2 s3, .slice s4 s5 s6, .string ⟨#[]⟩, .int .i64 y.c]) (by simp [results, Tryz.results57, go_sem, r0, r1, r2, r3]) rfl
        (putEnd HB0.out HZ4.out HGE.out HWS.out HKF.out KG O1.out O2.out DD.out L1.out L2.out)
  · go_simp
    have HZ2 := hide (HZ1.out.alloc HZ1.out.size (.cells #[.slice none 0 0, .slice none 0 0, .string ⟨#[]⟩, .int .i64 0, .int .i64 0] 105))
    have HRA := hide (row_new Z1 [.slice none 0 0, .slice none 0 0, .string ⟨#[]⟩, .int .i64 0, .int .i64 0] 105)
    have HGE := hide (show w.heap.size + 2 ≤ Z1.heap.size from Nat.le_trans (Nat.le_of_eq HWS.out) HZ1.out.size)
    refine hK.out _ _ (HSS.out _ HZ2.out) (fun _ => ?_)
    clear hK K HS
    generalize hZ : Z1.alloc (.cells #[.slice none 0 0, .slice none 0 0, .string ⟨#[]⟩, .int .i64 0, .int .i64 0] 105) = Z2 at HZ2 HRA ⊢
    generalize Z1.heap.size = E5 at HRA HGE ⊢
    clear hZ
    have HS := hide (HSS.out _ HZ2.out)
    try simp only [Act.put, List.getElem_toArray, List.getElem_cons_zero, List.getElem_cons_succ, List.setIfInBounds_toArray, List.set_cons_zero, List.set_cons_succ]
    refine wpAnyH_ready (rs := [2]) (by kernel_rfl) (by simp) ?_
    refine AllReadyH.cons (o := _) rfl (fun K hK => ?_) AllReadyH.nil
    go_simp
    refine (HT.out _ (HB0.out.trans (HZ2.out.mono HB0.out.size))).mono ?_
    rintro e Z3 ⟨rfl, hbc⟩
    have HZ3 := hide (HZ2.out.trans (hbc.mono HZ2.out.size))
    have HRA := hide (HRA.out.below hbc HRA.out.lt)
    clear hbc
    refine hK.out _ _ (HSS.out _ HZ3.out) (fun _ => ?_)
    clear hK K HS
    have HS := hide (HSS.out _ HZ3.out)
    try simp only [Act.put, List.getElem_toArray, List.getElem_cons_zero, List.getElem_cons_succ, List.setIfInBounds_toArray, List.set_cons_zero, List.set_cons_succ]
    refine wpAnyH_ready (rs := [4]) (by kernel_rfl) (by simp) ?_
    refine AllReadyH.cons (o := _) rfl (fun K hK => ?_) AllReadyH.nil
    have hbx := HB0.out.trans (HZ3.out.mono HB0.out.size)
    have HBX := hide hbx
    clear hbx
    go_simp
    refine (implAPut_any _ _ xs ps T a aF aR aU _ hn hn2 HTS.out (HR.out.below HBX.out (Nat.le_refl _)) (HP.out.below HBX.out (Nat.le_refl _)) (Stab.go HBX.out HSw.out) (fun hok vs vp w'' hb' hr hp => readArea_any vs vp xs ps w'' hr hp hok (Stab.go hb' (Stab.go HBX.out HG.out)))).mono ?_
    rw [← HY.out]
    rintro e Z4 ⟨⟨us, up, rfl, o1, o2, dd⟩, hbc⟩
    obtain ⟨s1, s2, s3, rfl⟩ := o1.isSlice
    obtain ⟨s4, s5, s6, rfl⟩ := o2.isSlice
    have HZ4 := hide (HZ3.out.trans (hbc.mono HZ3.out.size))
    have HW := hide HBX.out.size
    have O1 := hide (o1.mono (by have := HWS.out; have := HZ3.out.size; omega : w.heap.size + 2 ≤ Z3.heap.size))
    have O2 := hide (o2.mono (by have := HWS.out; have := HZ3.out.size; omega : w.heap.size + 2 ≤ Z3.heap.size))
    have DD := hide dd
    have L1 := hide (show ∀ x ∈ leads (.slice s1 s2 s3), x ≠ E5 from fun x hx => by have := (o1.leads x hx).1; have := HRA.out.lt; omega)
    have L2 := hide (show ∀ x ∈ leads (.slice s4 s5 s6), x ≠ E5 from fun x hx => by have := (o2.leads x hx).1; have := HRA.out.lt; omega)
    have HRA := hide (HRA.out.below hbc HRA.out.lt)
    clear hbc o1 o2 dd HBX HW
    refine hK.out _ _ (HSS.out _ HZ4.out) (fun _ => ?_)
    clear hK K HS
    have HS := hide (HSS.out _ HZ4.out)
    try simp only [Act.put, List.getElem_toArray, List.getElem_cons_zero, List.getElem_cons_succ, List.setIfInBounds_toArray, List.set_cons_zero, List.set_cons_succ]
    refine wpAnyH_ready (rs := [6]) (by kernel_rfl) (by simp) ?_
    refine AllReadyH.cons (o := _) rfl (fun K hK => ?_) AllReadyH.nil
    have d0 : Z4.cell? ⟨E5, 0, none⟩ = some (.slice none 0 0) := HRA.out.cell 0
    have d1 : Z4.cell? ⟨E5, 1, none⟩ = some (.slice none 0 0) := HRA.out.cell 1
    have d2 : Z4.cell? ⟨E5, 2, none⟩ = some (.string ⟨#[]⟩) := HRA.out.cell 2
    have d3 : Z4.cell? ⟨E5, 3, none⟩ = some (.int .i64 0) := HRA.out.cell 3
    have d4 : Z4.cell? ⟨E5, 4, none⟩ = some (.int .i64 0) := HRA.out.cell 4
    have f0 := HRA.out.free 0
    have f1 := HRA.out.free 1
    have f2 := HRA.out.free 2
    have f3 := HRA.out.free 3
    have f4 := HRA.out.free 4
    obtain ⟨q0, q1, q2, q3, q4, KF⟩ := five HRA.out (.slice s1 s2 s3) (.slice s4 s5 s6) (.string y.t) (.int .i64 y.g) (.int .i64 y.c)
    have HKF := hide KF
    have HRow := hide (((((HRA.out.set (j := 0) (.slice s1 s2 s3)).set (j := 1) (.slice s4 s5 s6)).set (j := 2) (.string y.t)).set (j := 3) (.int .i64 y.g)).set (j := 4) (.int .i64 y.c))
    have HSF := hide (HSK.out _ _ HZ4.out HKF.out HGE.out)
    clear q0 q1 q2 q3 q4 KF
    go_simp
    refine hK.out _ _ HSF.out (fun _ => ?_)
    clear hK K d0 d1 d2 d3 d4 f0 f1 f2 f3 f4 HS
    refine wpAnyH_done (by kernel_rfl) ?_ _
    have HR9 := hide (HKF.out.row (HRO.out.below HZ4.out HRO.out.lt) (by have := HGE.out; simp; omega))
    generalize hV : World.setCell (World.setCell (World.setCell (World.setCell (World.setCell Z4 ⟨E5, 0, none⟩ (.slice s1 s2 s3)) ⟨E5, 1, none⟩ (.slice s4 s5 s6)) ⟨E5, 2, none⟩ (.string y.t)) ⟨E5, 3, none⟩ (.int .i64 y.g)) ⟨E5, 4, none⟩ (.int .i64 y.c) = V at HRow HKF HR9 ⊢
    clear hV HSF
    have q0 : V.cell? ⟨E5, 0, none⟩ = some (.slice s1 s2 s3) := HRow.out.cell 0
    have q1 : V.cell? ⟨E5, 1, none⟩ = some (.slice s4 s5 s6) := HRow.out.cell 1
    have q4 : V.cell? ⟨E5, 4, none⟩ = some (.int .i64 y.c) := HRow.out.cell 4
    have g0 : V.cell? ⟨w.heap.size + 1, 0, none⟩ = some (.slice none 0 0) := HR9.out.cell 0
    have g1 : V.cell? ⟨w.heap.size + 1, 1, none⟩ = some (.slice none 0 0) := HR9.out.cell 1
    have g2 : V.cell? ⟨w.heap.size + 1, 2, none⟩ = some (.string ⟨#[]⟩) := HR9.out.cell 2
    have g3 : V.cell? ⟨w.heap.size + 1, 3, none⟩ = some (.int .i64 0) := HR9.out.cell 3
    have h0 := HR9.out.free 0
    have h1 := HR9.out.free 1
    have h2 := HR9.out.free 2
    have h3 := HR9.out.free 3
    go_wp2
    obtain ⟨r0, r1, r2, r3, KG⟩ := four HR9.out (.slice s1 s2 s3) (.slice s4 s5 s6) (.string ⟨#[]⟩) (.int .i64 y.c)
    exact bodyPost_ret (v := .agg #[.slice s1 s2 s3, .slice s4 s5 s6, .string ⟨#[]⟩, .int .i64 y.c]) (by simp [results, Tryz.results57, go_sem, r0, r1, r2, r3]) rfl
      (putEnd HB0.out HZ4.out HGE.out HWS.out HKF.out KG O1.out O2.out DD.out L1.out L2.out)
end Go.Proofs.YtbhdbkffejlfmaaGreatDoor

/- The law of AreaRead from the program's contracts. -/
namespace Go.Proofs.YtbhdbkffejlfmaaGreatDoor
open Go.RowKit

end Go.Proofs.YtbhdbkffejlfmaaGreatDoor
