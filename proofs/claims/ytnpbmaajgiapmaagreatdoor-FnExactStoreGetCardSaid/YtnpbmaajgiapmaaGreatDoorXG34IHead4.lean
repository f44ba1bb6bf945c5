/- The program's readHead, whole, and how it stands to the specification's l03Seen. -/
import Derived.Test.YtnpbmaajgiapmaaGreatDoorXG33IRSide
import Derived.Test.YtnpbmaajgiapmaaGreatDoorXG32IRoom
import Derived.Test.YtnpbmaajgiapmaaGreatDoorXG29IPanic
import Derived.Test.YtnpbmaajgiapmaaGreatDoorXG25ISettle
import Derived.Test.YtnpbmaajgiapmaaGreatDoorXG21SFlush
import Derived.OrdersHeld
import Derived.Deep.RegionHeld3
import Derived.Test.YtnpbmaajgiapmaaGreatDoorXG24LAPut
namespace Go.Proofs.YtnpbmaajgiapmaaGreatDoor
open Go.RowKit

theorem readHead_any (s : ByteArray) (w : World) (hs : s.size ≤ 8000) (hg : St3.Laid w) :
    Calls Tryz.prog 119 #[.string s] w fun e w' => HeadIs e (headSeen s) ∧ Below w.heap.size w w' := by
  unfold headSeen
  by_cases h4 : s.size < 4
  · rw [if_pos h4]
    exact (readHead_bad s 4 w (by omega) (fun W => St1.implUnseal_short s W h4)).mono fun e w' ⟨he, hb⟩ => ⟨.inr ⟨by simp, he⟩, hb⟩
  · rw [if_neg h4]
    by_cases h5 : St1.sealOf (s.extract 0 (s.size - 4)) = s
    · rw [if_neg (fun h => h h5)]
      have hU := fun W => St1.implUnseal_ok s W (by omega) hs h5
      obtain ⟨t, ht⟩ : ∃ t, t = s.extract 0 (s.size - 4) := ⟨_, rfl⟩
      have hts : t.size ≤ 8000 := by rw [ht]; simp; omega
      rw [← ht] at hU ⊢
      obtain ⟨s1, s2, s3⟩ := scan_at t 0
      obtain ⟨R1, e1⟩ : ∃ R, R = St3.scan t 0 10 0 0 := ⟨_, rfl⟩
      obtain ⟨A1, q1, A3⟩ := R1
      rw [← e1] at s1 s2 s3
      obtain ⟨n1, rfl⟩ := Int.eq_ofNat_of_zero_le s1
      obtain ⟨R2, e2⟩ : ∃ R, R = St3.scan t n1 10 0 0 := ⟨_, rfl⟩
      obtain ⟨B1, q2, B3⟩ := R2
      obtain ⟨r1, r2, r3⟩ := scan_at t n1
      rw [← e2] at r1 r2 r3
      obtain ⟨n2, rfl⟩ := Int.eq_ofNat_of_zero_le r1
      obtain ⟨R3, e3⟩ : ∃ R, R = St3.scan t n2 10 0 0 := ⟨_, rfl⟩
      obtain ⟨C1, n3, C3⟩ := R3
      have en : nums t = ((A1, (n1 : Int), A3), (B1, (n2 : Int), B3), (C1, n3, C3)) := by
        unfold nums
        simp only [← e1, Int.toNat_natCast, ← e2, ← e3]
      rw [en]
      simp only at s2 s3 r2 r3 ⊢
      exact readHead_ok s t A1 A3 B1 B3 C1 C3 n3 n1 n2 w hts (by omega) (by omega) hg e1.symm e2.symm e3.symm hU
    · rw [if_pos h5]
      exact (readHead_bad s 5 w (by omega) (fun W => St1.implUnseal_sum s W (by omega) hs h5)).mono fun e w' ⟨he, hb⟩ => ⟨.inr ⟨by simp, he⟩, hb⟩

theorem seen_head (xs : List ByteArray) (ps : List (Int × ByteArray)) :
    seen xs ps = if (headSeen (headText xs ps)).2.2.2 ≠ 0 then (0, 0, 0, (headSeen (headText xs ps)).2.2.2) else if (headSeen (headText xs ps)).2.2.1 ≤ 64 * half xs.length then headSeen (headText xs ps) else (0, 0, 0, 3) := by
  obtain ⟨s, hs⟩ : ∃ s, s = headText xs ps := ⟨_, rfl⟩
  unfold seen headSeen
  rw [← hs]
  simp only
  by_cases h4 : s.size < 4
  · simp only [if_pos h4]; simp
  · simp only [if_neg h4]
    by_cases h5 : St1.sealOf (s.extract 0 (s.size - 4)) = s
    · simp only [if_neg (fun h : ¬ _ => h h5)]
      obtain ⟨t, ht⟩ : ∃ t, t = s.extract 0 (s.size - 4) := ⟨_, rfl⟩
      rw [← ht] at h5 ⊢
      obtain ⟨s1, _, _⟩ := scan_at t 0
      obtain ⟨R1, e1⟩ : ∃ R, R = St3.scan t 0 10 0 0 := ⟨_, rfl⟩
      obtain ⟨A1, q1, A3⟩ := R1
      rw [← e1] at s1
      obtain ⟨R2, e2⟩ : ∃ R, R = St3.scan t q1.toNat 10 0 0 := ⟨_, rfl⟩
      obtain ⟨B1, q2, B3⟩ := R2
      obtain ⟨R3, e3⟩ : ∃ R, R = St3.scan t q2.toNat 10 0 0 := ⟨_, rfl⟩
      obtain ⟨C1, n3, C3⟩ := R3
      have en : nums t = ((A1, q1, A3), (B1, q2, B3), (C1, n3, C3)) := by
        unfold nums
        simp only [← e1, ← e2, ← e3]
      rw [en]
      simp only
      by_cases hp : A3 = 0 ∧ B3 = 0 ∧ C3 = 0 ∧ (0 ≤ A1 ∧ 0 ≤ B1 ∧ B1 ≤ 1 ∧ 0 ≤ C1) ∧ n3 = (t.size : Int)
      · obtain ⟨h1, h2, h3, hr, hl⟩ := id hp
        have hh := (head_iff (A1 := A1) (B1 := B1) (C1 := C1) (by rw [← e1, h1]) (by rw [← e2, h2]) (by rw [← e3, h3])).2 hl
        rw [h5] at hh
        have E1 : (if A3 = 0 ∧ B3 = 0 ∧ C3 = 0 ∧ (0 ≤ A1 ∧ 0 ≤ B1 ∧ B1 ≤ 1 ∧ 0 ≤ C1) ∧ n3 = (t.size : Int) then (A1, B1, C1, (0 : Int)) else (0, 0, 0, 3)) = (A1, B1, C1, 0) := if_pos hp
        rw [E1]
        by_cases hc : C1 ≤ 64 * half xs.length
        · have E2 : (if A3 = 0 ∧ B3 = 0 ∧ C3 = 0 ∧ headOf A1 B1 C1 = s ∧ 0 ≤ A1 ∧ (0 ≤ B1 ∧ B1 ≤ 1) ∧ 0 ≤ C1 ∧ C1 ≤ 64 * half xs.length then (A1, B1, C1, (0 : Int)) else (0, 0, 0, 3)) = (A1, B1, C1, 0) := if_pos ⟨h1, h2, h3, hh, hr.1, ⟨hr.2.1, hr.2.2.1⟩, hr.2.2.2, hc⟩
          rw [E2]; simp [hc]
        · have E2 : (if A3 = 0 ∧ B3 = 0 ∧ C3 = 0 ∧ headOf A1 B1 C1 = s ∧ 0 ≤ A1 ∧ (0 ≤ B1 ∧ B1 ≤ 1) ∧ 0 ≤ C1 ∧ C1 ≤ 64 * half xs.length then (A1, B1, C1, (0 : Int)) else (0, 0, 0, 3)) = (0, 0, 0, 3) := if_neg (fun h => hc h.2.2.2.2.2.2.2)
          rw [E2]; simp [hc]
      · have E1 : (if A3 = 0 ∧ B3 = 0 ∧ C3 = 0 ∧ (0 ≤ A1 ∧ 0 ≤ B1 ∧ B1 ≤ 1 ∧ 0 ≤ C1) ∧ n3 = (t.size : Int) then (A1, B1, C1, (0 : Int)) else (0, 0, 0, 3)) = (0, 0, 0, 3) := if_neg hp
        have E2 : (if A3 = 0 ∧ B3 = 0 ∧ C3 = 0 ∧ headOf A1 B1 C1 = s ∧ 0 ≤ A1 ∧ (0 ≤ B1 ∧ B1 ≤ 1) ∧ 0 ≤ C1 ∧ C1 ≤ 64 * half xs.length then (A1, B1, C1, (0 : Int)) else (0, 0, 0, 3)) = (0, 0, 0, 3) := if_neg (fun h => hp ⟨h.1, h.2.1, h.2.2.1, ⟨h.2.2.2.2.1, h.2.2.2.2.2.1.1, h.2.2.2.2.2.1.2, h.2.2.2.2.2.2.1⟩,
          (head_iff (A1 := A1) (B1 := B1) (C1 := C1) (by rw [← e1, h.1]) (by rw [← e2, h.2.1]) (by rw [← e3, h.2.2.1])).1 (by rw [h5]; exact h.2.2.2.1)⟩)
        rw [E1, E2]; simp
    · simp only [if_pos h5]; simp
end Go.Proofs.YtnpbmaajgiapmaaGreatDoor
/- The program's readArea: what it tells of a right disk. -/
namespace Go.Proofs.YtnpbmaajgiapmaaGreatDoor
open Go.RowKit

theorem gath_more {f : Nat → ByteArray} {size m : Nat} (h : size ≤ 64 * m) : ∀ d, gath f size (m + d) = gath f size m
  | 0 => rfl
  | d + 1 => by
    rw [show m + (d + 1) = (m + d) + 1 from rfl, gath, gath_more h d, show want size (m + d) = 0 by unfold want; omega]
    simp
theorem full_more {f : Nat → ByteArray} {size m : Nat} (h : size ≤ 64 * m) : ∀ d, full f size (m + d) = full f size m
  | 0 => rfl
  | d + 1 => by
    rw [show m + (d + 1) = (m + d) + 1 from rfl, full_step, full_more h d, show want size (m + d) = 0 by unfold want; omega]
    simp
theorem gath_congr {f g : Nat → ByteArray} {size : Nat} : ∀ m, (∀ j, j < m → f j = g j) → gath f size m = gath g size m
  | 0, _ => rfl
  | m + 1, h => by rw [gath, gath, gath_congr m (fun j hj => h j (by omega)), h m (by omega)]
theorem full_congr {f g : Nat → ByteArray} {size : Nat} : ∀ m, (∀ j, j < m → f j = g j) → full f size m = full g size m
  | 0, _ => rfl
  | m + 1, h => by rw [full_step, full_step, full_congr m (fun j hj => h j (by omega)), h m (by omega)]

/-- The sectors of a side, of which there are n. -/
def sideOf (xs : List ByteArray) (ps : List (Int × ByteArray)) (a n : Nat) : List ByteArray := ((applyP ps xs).drop a).take n
theorem sideOf_len (xs : List ByteArray) (ps : List (Int × ByteArray)) (a n : Nat) (h : a + n ≤ xs.length) : (sideOf xs ps a n).length = n := by
  unfold sideOf
  rw [List.length_take, List.length_drop, applyP_len]
  omega
theorem sideOf_at (xs : List ByteArray) (ps : List (Int × ByteArray)) (a n j : Nat) (h : a + n ≤ xs.length) (hj : j < n) (h0 : ∀ x ∈ ps, 0 ≤ x.1) : (sideOf xs ps a n).getD j ⟨#[]⟩ = secAt xs ps (a + j) := by
  unfold sideOf secAt
  rw [← applyP_at ps xs (a + j) (by omega) h0]
  simp [List.getD, hj, List.getElem?_drop]
theorem area_side {xs : List ByteArray} {ps : List (Int × ByteArray)} {gen side : Int} {size n : Nat} (hok : right xs ps = true) (hs : seen xs ps = (gen, side, (size : Int), 0)) (hn : (n : Int) = half xs.length) (hz : size ≤ 64 * n) (h1 : 1 + side.toNat * n + n ≤ xs.length) :
    areaOut xs ps = if full (fun j => (sideOf xs ps (1 + side.toNat * n) n).getD j ⟨#[]⟩) size n then ⟨xs, ps, gath (fun j => (sideOf xs ps (1 + side.toNat * n) n).getD j ⟨#[]⟩) size n, gen, 0⟩ else aill 5 := by
  have h0 : ∀ x ∈ ps, 0 ≤ x.1 := fun x hx => by obtain ⟨j, hj, rfl⟩ := List.getElem_of_mem hx; exact (right_at hok j hj).1
  have e : ∀ j, j < n → (sideOf xs ps (1 + side.toNat * n) n).getD j ⟨#[]⟩ = sideAt xs ps side j := fun j hj => by
    rw [sideOf_at xs ps _ n j h1 hj h0]
    unfold sideAt
    rw [← hn, Int.toNat_natCast]
  rw [full_congr n e, gath_congr n e]
  obtain ⟨d, hd⟩ : ∃ d, n = (size + 63) / 64 + d := ⟨n - (size + 63) / 64, by omega⟩
  have hm : size ≤ 64 * ((size + 63) / 64) := by omega
  unfold areaOut
  rw [hok, if_neg (by simp), hs]
  simp only [ne_eq, not_true_eq_false, if_false, Int.toNat_natCast]
  rw [hd, full_more hm d, gath_more hm d]
theorem side_reads {w : World} {B a n : Nat} {T : TypeId} {xs : List ByteArray} {ps : List (Int × ByteArray)} (h : Row w B T (bank (applyP ps xs))) (hl : xs.length ≤ 64) (ha : a + n ≤ xs.length) (hx : ∀ x ∈ applyP ps xs, x.size ≤ 1048576) :
    Reads w (.slice (some ⟨B, a, none⟩) n (64 - a)) (sideOf xs ps a n) := by
  have hsl := sideOf_len xs ps a n ha
  refine ⟨_, _, by rw [hsl], by rw [hsl]; omega, by unfold maxLen; omega, fun x hx' => ?_, fun _ => ⟨B, a, rfl, h.lt, fun i hi => ?_⟩⟩
  · have := hx x (List.mem_of_mem_drop (List.mem_of_mem_take hx')); unfold maxLen; omega
  · rw [hsl] at hi
    rw [h.cell, bank_at _ _ (by rw [applyP_len]; omega)]
    simp [sideOf]

set_option maxRecDepth 100000 in
set_option maxHeartbeats 4000000 in
theorem readArea_any (vs vp : Value) (xs : List ByteArray) (ps : List (Int × ByteArray)) (w : World) (hr : Reads w vs xs) (hp : ReadsP w vp ps) (hok : right xs ps = true) (hg : St3.Laid w) :
    Calls Tryz.prog 94 #[.agg #[vs, vp]] w fun e w' => AreaIs e xs ps ∧ Below w.heap.size w w' := by
  obtain ⟨l1, l2, l3⟩ := right_len hok
  have HOK := hide hok
  have HSM := hide (small_of_right hok)
  have HAT := hide (fun j hj => And.intro (right_at hok j hj).1 (right_at hok j hj).2.1)
  have hal : 0 < (applyP ps xs).length := by rw [applyP_len]; omega
  have HT0 := hide (show (applyP ps xs)[0]'hal = headText xs ps by
    have := applyP_at ps xs 0 (by omega) (fun x hx => by obtain ⟨j, hj, rfl⟩ := List.getElem_of_mem hx; exact (right_at hok j hj).1)
    unfold headText
    rw [show ((0 : Int)) = ((0 : Nat) : Int) from rfl, ← this]
    simp [List.getD, hal])
  have HAM := hide (applyP_mem ps xs _ HSM.out.2.1 HSM.out.2.2.2)
  have HBA := hide (bank_at (applyP ps xs) 0 hal)
  rw [HT0.out] at HBA
  have HSH := hide (seen_head xs ps)
  have hts := headText_size hok
  obtain ⟨s, hs⟩ : ∃ s, s = headText xs ps := ⟨_, rfl⟩
  rw [← hs] at HBA HSH hts
  have hbl := bank_len (ys := applyP ps xs) (by rw [applyP_len]; exact l2)
  obtain ⟨L, hL⟩ : ∃ L, L = bank (applyP ps xs) := ⟨_, rfl⟩
  have HL1 := hide (show ∀ v ∈ L, v.oneCell' = true by rw [hL]; exact bank_one _)
  have HLE := hide hL
  rw [← hL] at hbl HBA
  have hb0 : Below w.heap.size w ((w.alloc (.cells #[vs, vp] 30)).alloc (.cells #[.int .i64 0, .int .i64 0, .int .i64 0] 114)) :=
    ((Below.refl _ _).alloc (Nat.le_refl _) _).alloc (by simp) _
  have HR := hide (hr.below hb0 (Nat.le_refl _))
  have HP := hide (hp.below hb0 (Nat.le_refl _))
  have HRw := hide hr
  have HG := hide (Stab.go hb0 hg)
  have HB0 := hide hb0
  obtain ⟨p1, c1, rfl, hq⟩ := hr
  obtain ⟨p2, c2, rfl, hq2⟩ := hp
  have HN0 := hide ((row_new w [.slice p1 xs.length c1, .slice p2 ps.length c2] 30).alloc (.cells #[.int .i64 0, .int .i64 0, .int .i64 0] 114))
  have R1 := row_new (w.alloc (.cells #[.slice p1 xs.length c1, .slice p2 ps.length c2] 30)) [.int .i64 0, .int .i64 0, .int .i64 0] 114
  simp only [World.size_alloc] at R1
  have HR1 := hide R1
  clear hb0 hq hq2 R1 hg hok HT0 hL hs hal
  go_enter Tryz.func94, Tryz.ntmps94
  go_wp2_with fail
  refine (settle_any _ _ xs ps _ HR.out HP.out l1 l2 l3 HAT.out).mono ?_
  rw [← HLE.out]
  rintro e w2 ⟨rfl, hb2⟩
  have hst := new_store Tryz.prog w2 153 Tryz.zeroCells153 L (by rw [hbl, ← Array.length_toList, Tryz.zeroBank]; simp [strs_len]) HL1.out
  have hl2 := (Row.after hb2 HR1.out).lt
  have bn := below_new w2 (.cells L.toArray 153)
  have hb3 := hb2.trans (bn.mono hb2.size)
  have HB3 := hide (HB0.out.trans (hb3.mono HB0.out.size))
  have HX3 := hide (Row.after hb3 HR1.out)
  have HM3 := hide (Row.after hb3 HN0.out)
  have HG3 := hide (Stab.go hb3 HG.out)
  have HK3 := hide (row_new w2 L 153)
  have k0 : (w2.alloc (.cells L.toArray 153)).cell? ⟨w2.heap.size, 0, none⟩ = some (.string s) := by rw [HK3.out.cell 0]; exact HBA.out
  clear hb2 hb3 bn HB0 HR1 HN0 HG HR HP
  go_wp2_with fail
  refine (readHead_any s _ (by omega) HG3.out).mono ?_
  obtain ⟨r, Hr⟩ : ∃ r, Hid (r = headSeen s) := ⟨_, rfl⟩
  rw [← Hr.out] at HSH ⊢
  obtain ⟨gen, side, size, code⟩ := r
  rintro e w3 ⟨hH, hb3⟩
  have HB4 := hide (HB3.out.trans (hb3.mono HB3.out.size))
  have HX4 := hide (Row.after hb3 HX3.out)
  have HM4 := hide (Row.after hb3 HM3.out)
  have HK4 := hide (Row.after hb3 HK3.out)
  clear hb3 k0 HX3 HM3 HK3 HG3
  unfold HeadIs at hH
  simp only at hH
  rcases hH with ⟨hc, rfl⟩ | ⟨hc, rfl⟩
  · subst hc
    obtain ⟨W, hW⟩ : ∃ W, W = w3.alloc (.cells #[.int .i64 gen, .int .i64 side, .int .i64 size] 114) := ⟨_, rfl⟩
    have HBW := hide (show Below w.heap.size w W by rw [hW]; exact HB4.out.alloc HB4.out.size _)
    have HXW := hide (show Row W (w.heap.size + 1) 114 [.int .i64 0, .int .i64 0, .int .i64 0] by rw [hW]; exact HX4.out.alloc _)
    have HMW := hide (show Row W w.heap.size 30 [.slice p1 xs.length c1, .slice p2 ps.length c2] by rw [hW]; exact HM4.out.alloc _)
    have HKW := hide (show Row W w2.heap.size 153 L by rw [hW]; exact HK4.out.alloc _)
    have HHW := hide (show Row W w3.heap.size 114 [.int .i64 gen, .int .i64 side, .int .i64 size] by rw [hW]; exact row_new w3 _ _)
    have HX4' := hide HX4.out
    clear HX4 HM4 HK4 HB4
    have hl3 := HX4'.out.lt
    have HSS := hide (show ∀ x', Kept [w.heap.size + 1] W x' → x'.cell? ⟨w.heap.size, 0, none⟩ = some (.slice p1 xs.length c1) ∧ x'.cell? ⟨w.heap.size, 1, none⟩ = some (.slice p2 ps.length c2) ∧ x'.cell? ⟨w3.heap.size, 0, none⟩ = some (.int .i64 gen) ∧ x'.cell? ⟨w3.heap.size, 1, none⟩ = some (.int .i64 side) ∧ x'.cell? ⟨w3.heap.size, 2, none⟩ = some (.int .i64 size) ∧ Kept [w.heap.size + 1] W x' from
      fun x' h => ⟨(h.row HMW.out (by simp)).cell 0, (h.row HMW.out (by simp)).cell 1, (h.row HHW.out (by simp; omega)).cell 0, (h.row HHW.out (by simp; omega)).cell 1, (h.row HHW.out (by simp; omega)).cell 2, h⟩)
    have HRd := hide (HRw.out.below HBW.out.drew (Nat.le_refl _))
    go_wp2_with fail
    rw [← hW]
    clear hW
    refine wp_region_held (S := fun x' : World => x'.cell? ⟨w.heap.size, 0, none⟩ = some (.slice p1 xs.length c1) ∧ x'.cell? ⟨w.heap.size, 1, none⟩ = some (.slice p2 ps.length c2) ∧ x'.cell? ⟨w3.heap.size, 0, none⟩ = some (.int .i64 gen) ∧ x'.cell? ⟨w3.heap.size, 1, none⟩ = some (.int .i64 side) ∧ x'.cell? ⟨w3.heap.size, 2, none⟩ = some (.int .i64 size) ∧ Kept [w.heap.size + 1] W x') (by kernel_rfl) ?_
    have HS := hide (HSS.out { W with drawn := W.drawn + 1 } ((Kept.refl _ _).drew))
    refine wpAnyH_take (i := 0) (oi := _) (v := .pointer (some ⟨w3.heap.size, 2, none⟩)) rfl (by kernel_rfl) (by kernel_rfl) (by kernel_rfl) (fun _ _ _ h => h) (Or.inl ⟨by rfl, by intro w hSw; go_split_ands; go_simp <;> omega⟩) HS.out ?_
    simp only [Act.put, List.getElem_toArray, List.getElem_cons_zero, List.setIfInBounds_toArray, List.set_cons_zero, List.set_cons_succ]
    refine wpAnyH_take (i := 1) (oi := _) (v := .int .i64 size) rfl (by kernel_rfl) (by kernel_rfl) (by kernel_rfl) (fun _ _ _ h => h) (Or.inl ⟨by rfl, by intro w hSw; go_split_ands; go_simp <;> omega⟩) HS.out ?_
    simp only [Act.put, List.getElem_toArray, List.getElem_cons_zero, List.getElem_cons_succ, List.setIfInBounds_toArray, List.set_cons_zero, List.set_cons_succ]
    refine wpAnyH_take (i := 2) (oi := _) (v := .agg #[.slice p1 xs.length c1, .slice p2 ps.length c2]) rfl (by kernel_rfl) (by kernel_rfl) (by kernel_rfl) (fun _ _ _ h => h) (Or.inl ⟨by rfl, by intro w hSw; go_split_ands; go_simp <;> omega⟩) HS.out ?_
    simp only [Act.put, List.getElem_toArray, List.getElem_cons_zero, List.getElem_cons_succ, List.setIfInBounds_toArray, List.set_cons_zero, List.set_cons_succ]
    refine wpAnyH_ready (rs := [3]) (by kernel_rfl) (by simp) ?_
    refine AllReadyH.cons (o := _) rfl (fun K hK => ?_) AllReadyH.nil
    go_simp
    refine (sideRoom_any _ _ xs _ l1 (by omega) HRd.out).mono ?_
    rintro e w5 ⟨rfl, hb5⟩
    have hK5 : Kept [w.heap.size + 1] W w5 := (Kept.ofBelow (below_drew hb5)).mono (by simp)
    have HB5 := hide (below_drew hb5)
    clear hb5
    refine hK.out _ _ (HSS.out _ hK5) (fun _ => ?_)
    clear hK K HS
    have HS := hide (HSS.out _ hK5)
    by_cases hroom : 64 * half xs.length < size
    · have hrd : decide (64 * half xs.length < size) = true := decide_eq_true hroom
      have HA := hide (show areaOut xs ps = aill 3 by
        have e1 : seen xs ps = (0, 0, 0, 3) := by rw [HSH.out]; simp only [ne_eq, not_true_eq_false, if_false]; rw [if_neg (by omega)]
        unfold areaOut
        rw [HOK.out, if_neg (by simp), e1, if_pos (by simp)])
      refine wpAnyH_take (i := 4) (oi := _) (v := .bool true) rfl (by kernel_rfl) (by kernel_rfl) (by kernel_rfl) (fun _ _ _ h => h) (Or.inl ⟨by rfl, by intro w hSw; go_split_ands; go_simp <;> omega⟩) HS.out ?_
      simp only [Act.put, List.getElem_toArray, List.getElem_cons_zero, List.getElem_cons_succ, List.setIfInBounds_toArray, List.set_cons_zero, List.set_cons_succ]
      refine wpAnyH_ready (rs := [5]) (by kernel_rfl) (by simp) ?_
      refine AllReadyH.cons (o := _) rfl (fun K hK => ?_) AllReadyH.nil
      go_simp
      refine (refuse_yes 3 _).mono ?_
      rintro e w6 ⟨rfl, rfl⟩
      exact ⟨rfl, .inr (by rw [HA.out]; exact ⟨by decide, rfl⟩), HBW.out.trans (HB5.out.mono HBW.out.size)⟩
    · have hrd : decide (64 * half xs.length < size) = false := decide_eq_false hroom
      refine wpAnyH_take (i := 4) (oi := _) (v := .bool false) rfl (by kernel_rfl) (by kernel_rfl) (by kernel_rfl) (fun _ _ _ h => h) (Or.inl ⟨by rfl, by intro w hSw; go_split_ands; go_simp <;> omega⟩) HS.out ?_
      simp only [Act.put, List.getElem_toArray, List.getElem_cons_zero, List.getElem_cons_succ, List.setIfInBounds_toArray, List.set_cons_zero, List.set_cons_succ]
      refine wpAnyH_ready (rs := [5]) (by kernel_rfl) (by simp) ?_
      refine AllReadyH.cons (o := _) rfl (fun K hK => ?_) AllReadyH.nil
      go_simp
      refine (refuse_no 3 _).mono ?_
      rintro e w6 ⟨rfl, rfl⟩
      refine hK.out _ _ (HSS.out _ hK5) (fun _ => ?_)
      clear hK K HS hrd
      refine wpAnyH_done (by kernel_rfl) ?_ _
      have HE0 := hide (show seen xs ps = (gen, side, size, 0) by rw [HSH.out]; simp only [ne_eq, not_true_eq_false, if_false]; rw [if_pos (by omega)])
      have hsk := seen_ok (xs := xs) (ps := ps) (by rw [HE0.out])
      rw [HE0.out] at hsk
      obtain ⟨hg0, ⟨hs0, hs1⟩, hz0, hz1⟩ := hsk
      simp only at hg0 hs0 hs1 hz0 hz1
      obtain ⟨sz, rfl⟩ := Int.eq_ofNat_of_zero_le hz0
      have hh : 0 ≤ half xs.length ∧ 2 * half xs.length ≤ (xs.length : Int) - 1 := by unfold half; omega
      obtain ⟨n, hn⟩ := Int.eq_ofNat_of_zero_le hh.1
      have HSI := hide (And.intro hs0 hs1)
      obtain ⟨a, ha⟩ : ∃ a, a = 1 + side.toNat * n := ⟨_, rfl⟩
      have hsx : a + n ≤ 1 + 2 * n ∧ 1 + side * half xs.length = (a : Int) := by
        rw [hn, ha]
        rcases (show side = 0 ∨ side = 1 by omega) with rfl | rfl
        · simp
          omega
        · simp
          omega
      have hsz : sz ≤ 64 * n ∧ n ≤ 32 := by omega
      have hal : a + n ≤ xs.length := by omega
      have HAR := hide (area_side (n := n) HOK.out HE0.out hn.symm (by omega) (by rw [← ha]; omega))
      rw [← ha] at HAR
      have HST := hide hsx.2
      have HHN := hide hn
      have HKS := hide (show ∀ x', Kept [w.heap.size + 1] W x' → Row x' w2.heap.size 153 (bank (applyP ps xs)) from fun x' h => by rw [← HLE.out]; exact h.row HKW.out (by simp; omega))
      have HSL := hide (sideOf_len xs ps a n hal)
      have hw6 : IntKind.i64.wrap ((a : Int) + (n : Int)) = (a : Int) + (n : Int) := by rw [IntKind.wrap_i64]; omega
      have g0 : w6.cell? ⟨w.heap.size, 0, none⟩ = some (.slice p1 xs.length c1) := (HSS.out _ hK5).1
      have g1 : w6.cell? ⟨w.heap.size, 1, none⟩ = some (.slice p2 ps.length c2) := (HSS.out _ hK5).2.1
      have g2 : w6.cell? ⟨w3.heap.size, 1, none⟩ = some (.int .i64 side) := (HSS.out _ hK5).2.2.2.1
      have ha0 : (0 : Int) ≤ (a : Int) := by omega
      have ha1 : (a : Int) ≤ (a : Int) + (n : Int) := by omega
      have ha2 : (a : Int) + (n : Int) ≤ 64 := by omega
      have ha3 : ((a : Int) + (n : Int)).toNat = a + n := by omega
      have ha5 : a ≤ 33 := by omega
      have ha4 : ((a : Int) + (n : Int)).toNat - a = n := by omega
      clear hh hz0 hz1 hs0 hs1 hn hsx ha hroom
      go_wp2_with fail
      refine (sideStart_any _ _ xs side _ l1 (by omega) HSI.out (HRw.out.below (HBW.out.trans (HB5.out.mono HBW.out.size)) (Nat.le_refl _)) ⟨_, _, _, rfl⟩).mono ?_
      rw [HST.out]
      rintro e w7 ⟨rfl, hb7⟩
      have hK7 : Kept [w.heap.size + 1] W w7 := hK5.below hb7
      have HB7 := hide (hK7.toBelow HBW.out HBW.out.size (by simp))
      have HX7 := hide (Row.after hb7 (Row.after HB5.out HXW.out))
      clear hb7 g0 g1 g2
      go_wp2_with fail
      refine wp_region_held (S := fun x' : World => x'.cell? ⟨w.heap.size, 0, none⟩ = some (.slice p1 xs.length c1) ∧ x'.cell? ⟨w.heap.size, 1, none⟩ = some (.slice p2 ps.length c2) ∧ x'.cell? ⟨w3.heap.size, 0, none⟩ = some (.int .i64 gen) ∧ x'.cell? ⟨w3.heap.size, 1, none⟩ = some (.int .i64 side) ∧ x'.cell? ⟨w3.heap.size, 2, none⟩ = some (.int .i64 (sz : Int)) ∧ Kept [w.heap.size + 1] W x') (by kernel_rfl) ?_
      have HS := hide (HSS.out { w7 with drawn := w7.drawn + 1 } hK7.drew)
      refine wpAnyH_take (i := 0) (oi := _) (v := .agg #[.int .i64 gen, .int .i64 side, .int .i64 (sz : Int)]) rfl (by kernel_rfl) (by kernel_rfl) (by kernel_rfl) (fun _ _ _ h => h) (Or.inl ⟨by rfl, by intro w hSw; go_split_ands; go_simp <;> omega⟩) HS.out ?_
      simp only [Act.put, List.getElem_toArray, List.getElem_cons_zero, List.setIfInBounds_toArray, List.set_cons_zero, List.set_cons_succ]
      refine wpAnyH_take (i := 1) (oi := _) (v := .pointer (some ⟨w2.heap.size, 0, none⟩)) rfl (by kernel_rfl) (by kernel_rfl) (by kernel_rfl) (fun _ _ _ h => h) (Or.inl ⟨by rfl, by intro w hSw; go_split_ands; go_simp <;> omega⟩) HS.out ?_
      simp only [Act.put, List.getElem_toArray, List.getElem_cons_zero, List.getElem_cons_succ, List.setIfInBounds_toArray, List.set_cons_zero, List.set_cons_succ]
      refine wpAnyH_take (i := 2) (oi := _) (v := .int .i64 (a : Int)) rfl (by kernel_rfl) (by kernel_rfl) (by kernel_rfl) (fun _ _ _ h => h) (Or.inl ⟨by rfl, by intro w hSw; go_split_ands; go_simp <;> omega⟩) HS.out ?_
      simp only [Act.put, List.getElem_toArray, List.getElem_cons_zero, List.getElem_cons_succ, List.setIfInBounds_toArray, List.set_cons_zero, List.set_cons_succ]
      refine wpAnyH_take (i := 3) (oi := _) (v := .int .i64 (a : Int)) rfl (by kernel_rfl) (by kernel_rfl) (by kernel_rfl) (fun _ _ _ h => h) (Or.inl ⟨by rfl, by intro w hSw; go_split_ands; go_simp <;> omega⟩) HS.out ?_
      simp only [Act.put, List.getElem_toArray, List.getElem_cons_zero, List.getElem_cons_succ, List.setIfInBounds_toArray, List.set_cons_zero, List.set_cons_succ]
      refine wpAnyH_take (i := 4) (oi := _) (v := .agg #[.slice p1 xs.length c1, .slice p2 ps.length c2]) rfl (by kernel_rfl) (by kernel_rfl) (by kernel_rfl) (fun _ _ _ h => h) (Or.inl ⟨by rfl, by intro w hSw; go_split_ands; go_simp <;> omega⟩) HS.out ?_
      simp only [Act.put, List.getElem_toArray, List.getElem_cons_zero, List.getElem_cons_succ, List.setIfInBounds_toArray, List.set_cons_zero, List.set_cons_succ]
      refine wpAnyH_take (i := 8) (oi := _) (v := .pointer (some ⟨w3.heap.size, 2, none⟩)) rfl (by kernel_rfl) (by kernel_rfl) (by kernel_rfl) (fun _ _ _ h => h) (Or.inl ⟨by rfl, by intro w hSw; go_split_ands; go_simp <;> omega⟩) HS.out ?_
      simp only [Act.put, List.getElem_toArray, List.getElem_cons_zero, List.getElem_cons_succ, List.setIfInBounds_toArray, List.set_cons_zero, List.set_cons_succ]
      refine wpAnyH_take (i := 9) (oi := _) (v := .int .i64 (sz : Int)) rfl (by kernel_rfl) (by kernel_rfl) (by kernel_rfl) (fun _ _ _ h => h) (Or.inl ⟨by rfl, by intro w hSw; go_split_ands; go_simp <;> omega⟩) HS.out ?_
      simp only [Act.put, List.getElem_toArray, List.getElem_cons_zero, List.getElem_cons_succ, List.setIfInBounds_toArray, List.set_cons_zero, List.set_cons_succ]
      refine wpAnyH_ready (rs := [5]) (by kernel_rfl) (by simp) ?_
      refine AllReadyH.cons (o := _) rfl (fun K hK => ?_) AllReadyH.nil
      go_simp
      refine (sideSectors_any _ _ xs _ l1 (by omega) (HRw.out.below HB7.out.drew (Nat.le_refl _))).mono ?_
      rw [HHN.out]
      rintro e w8 ⟨rfl, hb8⟩
      have hK8 : Kept [w.heap.size + 1] W w8 := hK7.trans ((Kept.ofBelow (below_drew hb8)).mono (by simp))
      have HB8 := hide (hK8.toBelow HBW.out HBW.out.size (by simp))
      have HX8 := hide (Row.after hb8 HX7.out.drew)
      clear hb8
      refine hK.out _ _ (HSS.out _ hK8) (fun _ => ?_)
      clear hK K HS
      have HS := hide (HSS.out _ hK8)
      refine wpAnyH_take (i := 6) (oi := _) (v := .int .i64 ((a : Int) + (n : Int))) rfl (by kernel_rfl) (by kernel_rfl) (by kernel_rfl) (fun _ _ _ h => h) (Or.inl ⟨by rfl, by intro w hSw; go_split_ands; go_simp <;> omega⟩) HS.out ?_
      simp only [Act.put, List.getElem_toArray, List.getElem_cons_zero, List.getElem_cons_succ, List.setIfInBounds_toArray, List.set_cons_zero, List.set_cons_succ]
      refine wpAnyH_take (i := 7) (oi := _) (v := .slice (some ⟨w2.heap.size, a, none⟩) n (64 - a)) rfl (by kernel_rfl) (by kernel_rfl) (by kernel_rfl) (fun _ _ _ h => h) (Or.inl ⟨by rfl, by intro w hSw; go_split_ands; go_simp <;> omega⟩) HS.out ?_
      simp only [Act.put, List.getElem_toArray, List.getElem_cons_zero, List.getElem_cons_succ, List.setIfInBounds_toArray, List.set_cons_zero, List.set_cons_succ]
      refine wpAnyH_ready (rs := [10]) (by kernel_rfl) (by simp) ?_
      refine AllReadyH.cons (o := _) rfl (fun K hK => ?_) AllReadyH.nil
      go_simp
      refine (readSide_any _ (sideOf xs ps a n) sz _ (side_reads (HKS.out _ hK8) (by omega) hal HAM.out) (by rw [HSL.out]; omega) (by omega)).mono ?_
      rw [HSL.out]
      rintro e w9 ⟨hF, hb9⟩
      rcases hF with ⟨hf, rfl⟩ | ⟨hf, rfl⟩
      · have HA := hide HAR.out
        rw [hf, if_pos rfl] at HA
        obtain ⟨t, ht⟩ : ∃ t, t = gath (fun j => (sideOf xs ps a n).getD j ⟨#[]⟩) sz n := ⟨_, rfl⟩
        rw [← ht] at HA ⊢
        have hK9 : Kept [w.heap.size + 1] W w9 := hK8.below hb9
        have HB9 := hide (HB8.out.trans (hb9.mono HB8.out.size))
        have r9 : Row w9 (w.heap.size + 1) 114 [.int .i64 0, .int .i64 0, .int .i64 0] := Row.after hb9 HX8.out
        have d0 : w9.cell? ⟨w.heap.size + 1, 0, none⟩ = some (.int .i64 0) := r9.cell 0
        have d1 : w9.cell? ⟨w.heap.size + 1, 1, none⟩ = some (.int .i64 0) := r9.cell 1
        have d2 : w9.cell? ⟨w.heap.size + 1, 2, none⟩ = some (.int .i64 0) := r9.cell 2
        have f0 := r9.free 0
        have f1 := r9.free 1
        have f2 := r9.free 2
        have HR9 := hide r9
        obtain ⟨q0, q1, q2, KF⟩ := three' r9 (.int .i64 gen) (.int .i64 side) (.int .i64 (sz : Int))
        have HKF := hide KF
        have HQ := hide (And.intro q0 (And.intro q1 q2))
        clear hb9 r9 ht hf q0 q1 q2 KF
        refine hK.out _ _ (HSS.out _ hK9) (fun _ => ?_)
        clear hK K HS
        refine wpAnyH_ready (rs := [11]) (by kernel_rfl) (by simp) ?_
        refine AllReadyH.cons (o := _) rfl (fun K hK => ?_) AllReadyH.nil
        go_simp
        refine hK.out _ _ (HSS.out _ (hK9.trans HKF.out)) (fun _ => ?_)
        clear hK K d0 d1 d2 f0 f1 f2
        have HS := hide (HSS.out _ (hK9.trans HKF.out))
        refine wpAnyH_take (i := 12) (oi := _) (v := .string t) rfl (by kernel_rfl) (by kernel_rfl) (by kernel_rfl) (fun _ _ _ h => h) (Or.inl ⟨by rfl, by intro w hSw; go_split_ands; go_simp <;> omega⟩) HS.out ?_
        simp only [Act.put, List.getElem_toArray, List.getElem_cons_zero, List.getElem_cons_succ, List.setIfInBounds_toArray, List.set_cons_zero, List.set_cons_succ]
        refine wpAnyH_done (by kernel_rfl) ?_ _
        have q0 := HQ.out.1
        have q1 := HQ.out.2.1
        have q2 := HQ.out.2.2
        go_wp2
        exact bodyPost_ret (v := .tuple #[.agg #[.int .i64 gen, .int .i64 side, .int .i64 (sz : Int)], .string t]) (by simp [results, Tryz.results94, go_sem, q0, q1, q2]) rfl
          ⟨.inl (by rw [HA.out, HE0.out]; exact ⟨rfl, rfl⟩), HKF.out.toBelow HB9.out HB9.out.size (by simp)⟩
      · have HA := hide HAR.out
        rw [hf] at HA
        simp only [Bool.false_eq_true, if_false] at HA
        exact ⟨rfl, .inr (by rw [HA.out]; exact ⟨by decide, rfl⟩), HB8.out.trans (hb9.mono HB8.out.size)⟩
  · have HA := hide (show areaOut xs ps = aill code by
      have e1 : seen xs ps = (0, 0, 0, code) := by rw [HSH.out]; exact if_pos hc
      unfold areaOut
      rw [HOK.out, if_neg (by simp), e1, if_pos hc])
    go_wp2
    exact ⟨rfl, .inr (by rw [HA.out]; exact ⟨hc, rfl⟩), HB4.out⟩
end Go.Proofs.YtnpbmaajgiapmaaGreatDoor
/- The law of AreaPut from the program's contracts. -/
namespace Go.Proofs.YtnpbmaajgiapmaaGreatDoor
open Go.RowKit

theorem runOut_right : ∀ (ss : List (Bool × Int × ByteArray)) (xs : List ByteArray) (ps : List (Int × ByteArray)), right xs ps = true → (runOut ss xs ps).c = 0 → right (runOut ss xs ps).xs (runOut ss xs ps).ps = true
  | [], xs, ps, h, _ => h
  | s :: r, xs, ps, h, hc => by
    rw [runOut] at hc ⊢
    split
    · rename_i h0
      rw [if_pos h0] at hc
      exact runOut_right r _ _ (stepOut_right h h0) hc
    · rename_i h0
      rw [if_neg h0] at hc
      exact absurd hc h0
theorem putOut_len {xs : List ByteArray} {ps : List (Int × ByteArray)} (d : ByteArray) (a : Int) : (putOut xs ps d a).xs.length ≤ 1048576 ∧ (putOut xs ps d a).ps.length ≤ 1048576 := by
  unfold putOut
  split
  · exact ⟨by simp [aill], by simp [aill]⟩
  · split
    · exact ⟨by simp [aill], by simp [aill]⟩
    · rename_i hok
      split
      · exact ⟨by simp [aill], by simp [aill]⟩
      · split
        · exact ⟨by simp [aill], by simp [aill]⟩
        · split
          · rename_i hc
            have := right_len (runOut_right _ _ _ (by simpa using hok) hc)
            exact ⟨by show (runOut _ _ _).xs.length ≤ _; omega, by show (runOut _ _ _).ps.length ≤ _; omega⟩
          · exact ⟨by simp [aill], by simp [aill]⟩
end Go.Proofs.YtnpbmaajgiapmaaGreatDoor
