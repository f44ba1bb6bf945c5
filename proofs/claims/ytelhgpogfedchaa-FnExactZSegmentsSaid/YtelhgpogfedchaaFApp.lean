/- The program's appendPart. -/
import Derived.Test.YtelhgpogfedchaaFTextM
import Derived.Test.YtelhgpogfedchaaFParts
namespace Go.Proofs.Ytelhgpogfedchaa
open Go.RowKit
instance {α : Type} (U : Nat) (T : TypeId) (R : World → Value → α → Prop) [Under U R] : Under U (RI T R) := ⟨fun hb ⟨u, e, h⟩ => ⟨u, e, Under.go hb h⟩⟩
instance (U : Nat) : Under U RIs := ⟨fun _ h => h⟩
abbrev VSub (_ : Nat) : World → Value → ByteArray → Prop := RIs
abbrev VComp (U : Nat) : World → Value → List ByteArray → Prop := RI 71 (UComp U)
abbrev VRep (U : Nat) : World → Value → List (List ByteArray) → Prop := RI 69 (URep U)
abbrev VField (U : Nat) : World → Value → List (List (List ByteArray)) → Prop := RI 56 (UFld U)
theorem part_kept {B : Nat} {w w' : World} {v : Value} {L : List UInt8} {g : Nat} {vs : List Value} (h : Buf 5 B w w' v L) (hr : Row w g 90 vs) : Row w' g 90 vs :=
  h.kept g _ hr (by simp) (fun _ _ e1 => by simp at e1)

set_option maxHeartbeats 1000000 in
set_option maxRecDepth 100000 in
theorem appSub (v : Value) (L : List UInt8) (B : Nat) (m : ByteArray) (u : Value) (x : ByteArray) (w : World) (hm : m.size = 5) (hx : subB x = true) (hL : L.length + (subT m x).length + 45305 ≤ 80000000) (hB : B ≤ w.heap.size) (ho : w.ownsRow B 5 1 v L.length (u8s L)) (hr : VSub B w u x) :
    Calls Try.prog 47 #[v, .string m, u] w fun e w' => ∃ v', e = .returned v' ∧ Buf 5 B w w' v' (L ++ subT m x) := by
  obtain ⟨rfl, _⟩ := hr
  have HO := hide ho
  clear ho
  obtain ⟨hp, h6⟩ := subB_plain hx
  have a1 := Try.assubPartsubPart
  go_enter Try.func47, Try.ntmps47
  go_wp2_with fail
  refine (appendEscaped_any v L B m x _ hm hp (by omega) hB HO.out).mono ?_
  rintro e w1 ⟨v1, rfl, hb1⟩
  have HB := hide hb1
  clear hb1
  go_wp2
  go_ret
  exact ⟨_, rfl, HB.out⟩

set_option maxHeartbeats 4000000 in
set_option maxRecDepth 100000 in
theorem appComp (v : Value) (L : List UInt8) (B : Nat) (m : ByteArray) (u : Value) (x : List (ByteArray)) (w : World) (hm : m.size = 5) (hx : compB x = true) (hL : L.length + (compT m x).length + 45305 ≤ 80000000) (hB : B ≤ w.heap.size) (ho : w.ownsRow B 5 1 v L.length (u8s L)) (hr : VComp B w u x) :
    Calls Try.prog 47 #[v, .string m, u] w fun e w' => ∃ v', e = .returned v' ∧ Buf 5 B w w' v' (L ++ compT m x) := by
  obtain ⟨y, rfl, hy⟩ := hr
  have HY := hide hy
  obtain ⟨yp, yc, rfl⟩ := hy.isSlice
  clear hy
  have HO := hide ho
  clear ho
  obtain ⟨hxe, hxl⟩ := right_mem hx
  have HXE := hide hxe
  have hn : x.length ≤ 1048576 := by omega
  clear hxe hx
  have HLL := hide (show L.length + (jnF (bAt m 4) (subT m) 0 x).length + 45305 ≤ 80000000 from hL)
  clear hL
  have hmk : 4 < m.size := by omega
  have HMK := hide (bAt_get m 4 hmk)
  have a1 := Try.asCompsubPart
  have a2 := Try.innerComp
  go_enter Try.func47, Try.ntmps47
  go_wp2_with fail
  refine (limitsComp _ _).mono ?_
  rintro e w1 ⟨rfl, rfl⟩
  go_wp2_with fail
  refine (innerComp_row _ x _ hn HY.out.rl).mono ?_
  rintro e w2 ⟨g, vs, rfl, hrow, _, hvl, hel, hb2⟩
  have HBf0 := hide ((Buf.start HO.out hB).onBelow hb2)
  have HROW := hide hrow
  have HVL := hide hvl
  have HEL := hide hel
  clear hrow hvl hel hb2
  go_wp2_with fail
  go_loopw [0, 31] (fun v' i wr => ∃ (X : World) (k : Nat) (D : List UInt8), X = wr ∧ k ≤ x.length ∧ i = .int .i64 k ∧ Hid (Buf 5 B w1 X v' (L ++ D)) ∧ Hid (Row X g 90 vs) ∧ Hid (Done (bAt m 4) (subT m) x k D) ∧ Hid (Below B w2 X)) (fun _ i _ => x.length - (intOf i).toNat)
  case atStart => exact ⟨_, 0, [], rfl, Nat.zero_le _, rfl, by rw [List.append_nil]; exact HBf0, HROW, Done.zero _ _ _, Below.refl _ _⟩
  case round =>
    obtain ⟨X, k, D, rfl, hk, rfl, HBf, HRw, HD, HW2⟩ := hrel
    by_cases hlt : k < x.length
    · have hck : X.cell? ⟨g, k, none⟩ = some (vs[k]'(by rw [HVL.out]; exact hlt)) := HRw.out.at k (by rw [HVL.out]; exact hlt)
      have HRU : Hid (VSub B X (vs[k]'(by rw [HVL.out]; exact hlt)) x[k]) := Under.go HW2.out (HEL.out k (by rw [HVL.out]; exact hlt) hlt)
      generalize vs[k]'(by rw [HVL.out]; exact hlt) = uk at hck HRU
      have HRM := hide (HD.out.room hlt)
      have HOK := hide (HXE.out k hlt)
      by_cases h0 : k = 0
      · subst h0
        have HD1 := hide (HD.out.first hlt)
        go_wp2_with fail
        refine (appSub _ (L ++ D) B m uk (x[0]'hlt) _ hm HOK.out (by have h1 := HRM.out; have h2 := HLL.out; simp only [List.length_append] at *; simp at h1; omega) HBf.out.size HBf.out.own HRU.out).mono ?_
        rintro e w3 ⟨v3, rfl, hb3⟩
        have HB3 := hide (HBf.out.trans hb3)
        have HRw3 := hide (part_kept hb3 HRw.out)
        have HW3 := hide (HW2.out.trans hb3.below)
        clear hb3
        go_wp2
        go_roundw
        case rel => exact ⟨_, 1, _, rfl, by omega, by go_num, by rw [← List.append_assoc]; exact HB3, HRw3, HD1, HW3⟩
        case measure => simp [intOf]; omega
      · have hpos : (0 : Int) < (k : Int) := by omega
        have hk0 : 0 < k := by omega
        have HD1 := hide (HD.out.next hk0 hlt)
        have HBs := hide ((Buf.start HBf.out.own HBf.out.size).alloc (.cells #[.int .u8 ((m[4]'hmk).toNat : Int)] 5))
        have HC := hide (heap_alloc_new X (.cells #[.int .u8 ((m[4]'hmk).toNat : Int)] 5))
        have HL3 := hide (show (L ++ D).length + [m[4]'hmk].length ≤ 100000000 by have h1 := HRM.out; have h2 := HLL.out; rw [if_pos hk0] at h1; simp only [List.length_append, List.length_cons, List.length_nil] at *; omega)
        go_wp2_with (at_builtin; refine wpList_buf (w0 := X) rfl (.tmp 38) (.tmp 42) 59 rfl B 5 Try.underlying59 Try.infoByte u0 (L ++ D) rfl HBs.out X.heap.size 1 [m[4]'hmk] rfl rfl ⟨_, HC.out⟩ HL3.out ?_)
        intro v3 w3 hb3
        have HB3 := hide (HBf.out.trans hb3)
        have HRw3 := hide (part_kept hb3 HRw.out)
        have HW3 := hide (HW2.out.trans hb3.below)
        have HRU3 : Hid (VSub B w3 uk x[k]) := Under.go hb3.below HRU.out
        clear hb3
        go_wp2_with fail
        refine (appSub _ (L ++ (D ++ [m[4]'hmk])) B m uk (x[k]'hlt) _ hm HOK.out (by have h1 := HRM.out; have h2 := HLL.out; rw [if_pos hk0] at h1; simp only [List.length_append, List.length_cons, List.length_nil] at *; omega) HB3.out.size HB3.out.own HRU3.out).mono ?_
        rintro e w4 ⟨v4, rfl, hb4⟩
        have HB4 := hide (HB3.out.trans hb4)
        have HRw4 := hide (part_kept hb4 HRw3.out)
        have HW4 := hide (HW3.out.trans hb4.below)
        clear hb4
        go_wp2
        go_roundw
        case rel =>
          refine ⟨_, k + 1, _, rfl, by omega, by go_num, ?_, HRw4, HD1, HW4⟩
          rw [HMK.out]
          have := HB4.out
          simp only [List.append_assoc] at this ⊢
          exact this
        case measure => simp [intOf]; omega
    · have HA := hide (HD.out.all (by omega))
      rw [HA.out] at HBf
      go_wp2
      go_ret
      exact ⟨_, rfl, HBf.out⟩

set_option maxHeartbeats 4000000 in
set_option maxRecDepth 100000 in
theorem appRep (v : Value) (L : List UInt8) (B : Nat) (m : ByteArray) (u : Value) (x : List (List ByteArray)) (w : World) (hm : m.size = 5) (hx : repB x = true) (hL : L.length + (repT m x).length + 45305 ≤ 80000000) (hB : B ≤ w.heap.size) (ho : w.ownsRow B 5 1 v L.length (u8s L)) (hr : VRep B w u x) :
    Calls Try.prog 47 #[v, .string m, u] w fun e w' => ∃ v', e = .returned v' ∧ Buf 5 B w w' v' (L ++ repT m x) := by
  obtain ⟨y, rfl, hy⟩ := hr
  have HY := hide hy
  obtain ⟨yp, yc, rfl⟩ := hy.isSlice
  clear hy
  have HO := hide ho
  clear ho
  obtain ⟨hxe, hxl⟩ := right_mem hx
  have HXE := hide hxe
  have hn : x.length ≤ 1048576 := by omega
  clear hxe hx
  have HLL := hide (show L.length + (jnF (bAt m 1) (compT m) 0 x).length + 45305 ≤ 80000000 from hL)
  clear hL
  have hmk : 1 < m.size := by omega
  have HMK := hide (bAt_get m 1 hmk)
  have a1 := Try.asRepsubPart
  have a2 := Try.innerRep
  go_enter Try.func47, Try.ntmps47
  go_wp2_with fail
  refine (limitsRep _ _).mono ?_
  rintro e w1 ⟨rfl, rfl⟩
  go_wp2_with fail
  refine (innerRep_row (R := UComp B) (fun _ _ _ h => RU.isSlice h) _ x _ hn HY.out.rl).mono ?_
  rintro e w2 ⟨g, vs, rfl, hrow, _, hvl, hel, hb2⟩
  have HBf0 := hide ((Buf.start HO.out hB).onBelow hb2)
  have HROW := hide hrow
  have HVL := hide hvl
  have HEL := hide hel
  clear hrow hvl hel hb2
  go_wp2_with fail
  go_loopw [0, 31] (fun v' i wr => ∃ (X : World) (k : Nat) (D : List UInt8), X = wr ∧ k ≤ x.length ∧ i = .int .i64 k ∧ Hid (Buf 5 B w1 X v' (L ++ D)) ∧ Hid (Row X g 90 vs) ∧ Hid (Done (bAt m 1) (compT m) x k D) ∧ Hid (Below B w2 X)) (fun _ i _ => x.length - (intOf i).toNat)
  case atStart => exact ⟨_, 0, [], rfl, Nat.zero_le _, rfl, by rw [List.append_nil]; exact HBf0, HROW, Done.zero _ _ _, Below.refl _ _⟩
  case round =>
    obtain ⟨X, k, D, rfl, hk, rfl, HBf, HRw, HD, HW2⟩ := hrel
    by_cases hlt : k < x.length
    · have hck : X.cell? ⟨g, k, none⟩ = some (vs[k]'(by rw [HVL.out]; exact hlt)) := HRw.out.at k (by rw [HVL.out]; exact hlt)
      have HRU : Hid (VComp B X (vs[k]'(by rw [HVL.out]; exact hlt)) x[k]) := Under.go HW2.out (HEL.out k (by rw [HVL.out]; exact hlt) hlt)
      generalize vs[k]'(by rw [HVL.out]; exact hlt) = uk at hck HRU
      have HRM := hide (HD.out.room hlt)
      have HOK := hide (HXE.out k hlt)
      by_cases h0 : k = 0
      · subst h0
        have HD1 := hide (HD.out.first hlt)
        go_wp2_with fail
        refine (appComp _ (L ++ D) B m uk (x[0]'hlt) _ hm HOK.out (by have h1 := HRM.out; have h2 := HLL.out; simp only [List.length_append] at *; simp at h1; omega) HBf.out.size HBf.out.own HRU.out).mono ?_
        rintro e w3 ⟨v3, rfl, hb3⟩
        have HB3 := hide (HBf.out.trans hb3)
        have HRw3 := hide (part_kept hb3 HRw.out)
        have HW3 := hide (HW2.out.trans hb3.below)
        clear hb3
        go_wp2
        go_roundw
        case rel => exact ⟨_, 1, _, rfl, by omega, by go_num, by rw [← List.append_assoc]; exact HB3, HRw3, HD1, HW3⟩
        case measure => simp [intOf]; omega
      · have hpos : (0 : Int) < (k : Int) := by omega
        have hk0 : 0 < k := by omega
        have HD1 := hide (HD.out.next hk0 hlt)
        have HBs := hide ((Buf.start HBf.out.own HBf.out.size).alloc (.cells #[.int .u8 ((m[1]'hmk).toNat : Int)] 5))
        have HC := hide (heap_alloc_new X (.cells #[.int .u8 ((m[1]'hmk).toNat : Int)] 5))
        have HL3 := hide (show (L ++ D).length + [m[1]'hmk].length ≤ 100000000 by have h1 := HRM.out; have h2 := HLL.out; rw [if_pos hk0] at h1; simp only [List.length_append, List.length_cons, List.length_nil] at *; omega)
        go_wp2_with (at_builtin; refine wpList_buf (w0 := X) rfl (.tmp 38) (.tmp 42) 59 rfl B 5 Try.underlying59 Try.infoByte u0 (L ++ D) rfl HBs.out X.heap.size 1 [m[1]'hmk] rfl rfl ⟨_, HC.out⟩ HL3.out ?_)
        intro v3 w3 hb3
        have HB3 := hide (HBf.out.trans hb3)
        have HRw3 := hide (part_kept hb3 HRw.out)
        have HW3 := hide (HW2.out.trans hb3.below)
        have HRU3 : Hid (VComp B w3 uk x[k]) := Under.go hb3.below HRU.out
        clear hb3
        go_wp2_with fail
        refine (appComp _ (L ++ (D ++ [m[1]'hmk])) B m uk (x[k]'hlt) _ hm HOK.out (by have h1 := HRM.out; have h2 := HLL.out; rw [if_pos hk0] at h1; simp only [List.length_append, List.length_cons, List.length_nil] at *; omega) HB3.out.size HB3.out.own HRU3.out).mono ?_
        rintro e w4 ⟨v4, rfl, hb4⟩
        have HB4 := hide (HB3.out.trans hb4)
        have HRw4 := hide (part_kept hb4 HRw3.out)
        have HW4 := hide (HW3.out.trans hb4.below)
        clear hb4
        go_wp2
        go_roundw
        case rel =>
          refine ⟨_, k + 1, _, rfl, by omega, by go_num, ?_, HRw4, HD1, HW4⟩
          rw [HMK.out]
          have := HB4.out
          simp only [List.append_assoc] at this ⊢
          exact this
        case measure => simp [intOf]; omega
    · have HA := hide (HD.out.all (by omega))
      rw [HA.out] at HBf
      go_wp2
      go_ret
      exact ⟨_, rfl, HBf.out⟩

set_option maxHeartbeats 4000000 in
set_option maxRecDepth 100000 in
theorem appField (v : Value) (L : List UInt8) (B : Nat) (m : ByteArray) (u : Value) (x : List (List (List ByteArray))) (w : World) (hm : m.size = 5) (hx : fldB x = true) (hL : L.length + (fldT m x).length + 45305 ≤ 80000000) (hB : B ≤ w.heap.size) (ho : w.ownsRow B 5 1 v L.length (u8s L)) (hr : VField B w u x) :
    Calls Try.prog 47 #[v, .string m, u] w fun e w' => ∃ v', e = .returned v' ∧ Buf 5 B w w' v' (L ++ fldT m x) := by
  obtain ⟨y, rfl, hy⟩ := hr
  have HY := hide hy
  obtain ⟨yp, yc, rfl⟩ := hy.isSlice
  clear hy
  have HO := hide ho
  clear ho
  obtain ⟨hxe, hxl⟩ := right_mem hx
  have HXE := hide hxe
  have hn : x.length ≤ 1048576 := by omega
  clear hxe hx
  have HLL := hide (show L.length + (jnF (bAt m 2) (repT m) 0 x).length + 45305 ≤ 80000000 from hL)
  clear hL
  have hmk : 2 < m.size := by omega
  have HMK := hide (bAt_get m 2 hmk)
  have a1 := Try.asFieldsubPart
  have a2 := Try.innerField
  go_enter Try.func47, Try.ntmps47
  go_wp2_with fail
  refine (limitsField _ _).mono ?_
  rintro e w1 ⟨rfl, rfl⟩
  go_wp2_with fail
  refine (innerField_row (R := URep B) (fun _ _ _ h => RU.isSlice h) _ x _ hn HY.out.rl).mono ?_
  rintro e w2 ⟨g, vs, rfl, hrow, _, hvl, hel, hb2⟩
  have HBf0 := hide ((Buf.start HO.out hB).onBelow hb2)
  have HROW := hide hrow
  have HVL := hide hvl
  have HEL := hide hel
  clear hrow hvl hel hb2
  go_wp2_with fail
  go_loopw [0, 31] (fun v' i wr => ∃ (X : World) (k : Nat) (D : List UInt8), X = wr ∧ k ≤ x.length ∧ i = .int .i64 k ∧ Hid (Buf 5 B w1 X v' (L ++ D)) ∧ Hid (Row X g 90 vs) ∧ Hid (Done (bAt m 2) (repT m) x k D) ∧ Hid (Below B w2 X)) (fun _ i _ => x.length - (intOf i).toNat)
  case atStart => exact ⟨_, 0, [], rfl, Nat.zero_le _, rfl, by rw [List.append_nil]; exact HBf0, HROW, Done.zero _ _ _, Below.refl _ _⟩
  case round =>
    obtain ⟨X, k, D, rfl, hk, rfl, HBf, HRw, HD, HW2⟩ := hrel
    by_cases hlt : k < x.length
    · have hck : X.cell? ⟨g, k, none⟩ = some (vs[k]'(by rw [HVL.out]; exact hlt)) := HRw.out.at k (by rw [HVL.out]; exact hlt)
      have HRU : Hid (VRep B X (vs[k]'(by rw [HVL.out]; exact hlt)) x[k]) := Under.go HW2.out (HEL.out k (by rw [HVL.out]; exact hlt) hlt)
      generalize vs[k]'(by rw [HVL.out]; exact hlt) = uk at hck HRU
      have HRM := hide (HD.out.room hlt)
      have HOK := hide (HXE.out k hlt)
      by_cases h0 : k = 0
      · subst h0
        have HD1 := hide (HD.out.first hlt)
        go_wp2_with fail
        refine (appRep _ (L ++ D) B m uk (x[0]'hlt) _ hm HOK.out (by have h1 := HRM.out; have h2 := HLL.out; simp only [List.length_append] at *; simp at h1; omega) HBf.out.size HBf.out.own HRU.out).mono ?_
        rintro e w3 ⟨v3, rfl, hb3⟩
        have HB3 := hide (HBf.out.trans hb3)
        have HRw3 := hide (part_kept hb3 HRw.out)
        have HW3 := hide (HW2.out.trans hb3.below)
        clear hb3
        go_wp2
        go_roundw
        case rel => exact ⟨_, 1, _, rfl, by omega, by go_num, by rw [← List.append_assoc]; exact HB3, HRw3, HD1, HW3⟩
        case measure => simp [intOf]; omega
      · have hpos : (0 : Int) < (k : Int) := by omega
        have hk0 : 0 < k := by omega
        have HD1 := hide (HD.out.next hk0 hlt)
        have HBs := hide ((Buf.start HBf.out.own HBf.out.size).alloc (.cells #[.int .u8 ((m[2]'hmk).toNat : Int)] 5))
        have HC := hide (heap_alloc_new X (.cells #[.int .u8 ((m[2]'hmk).toNat : Int)] 5))
        have HL3 := hide (show (L ++ D).length + [m[2]'hmk].length ≤ 100000000 by have h1 := HRM.out; have h2 := HLL.out; rw [if_pos hk0] at h1; simp only [List.length_append, List.length_cons, List.length_nil] at *; omega)
        go_wp2_with (at_builtin; refine wpList_buf (w0 := X) rfl (.tmp 38) (.tmp 42) 59 rfl B 5 Try.underlying59 Try.infoByte u0 (L ++ D) rfl HBs.out X.heap.size 1 [m[2]'hmk] rfl rfl ⟨_, HC.out⟩ HL3.out ?_)
        intro v3 w3 hb3
        have HB3 := hide (HBf.out.trans hb3)
        have HRw3 := hide (part_kept hb3 HRw.out)
        have HW3 := hide (HW2.out.trans hb3.below)
        have HRU3 : Hid (VRep B w3 uk x[k]) := Under.go hb3.below HRU.out
        clear hb3
        go_wp2_with fail
        refine (appRep _ (L ++ (D ++ [m[2]'hmk])) B m uk (x[k]'hlt) _ hm HOK.out (by have h1 := HRM.out; have h2 := HLL.out; rw [if_pos hk0] at h1; simp only [List.length_append, List.length_cons, List.length_nil] at *; omega) HB3.out.size HB3.out.own HRU3.out).mono ?_
        rintro e w4 ⟨v4, rfl, hb4⟩
        have HB4 := hide (HB3.out.trans hb4)
        have HRw4 := hide (part_kept hb4 HRw3.out)
        have HW4 := hide (HW3.out.trans hb4.below)
        clear hb4
        go_wp2
        go_roundw
        case rel =>
          refine ⟨_, k + 1, _, rfl, by omega, by go_num, ?_, HRw4, HD1, HW4⟩
          rw [HMK.out]
          have := HB4.out
          simp only [List.append_assoc] at this ⊢
          exact this
        case measure => simp [intOf]; omega
    · have HA := hide (HD.out.all (by omega))
      rw [HA.out] at HBf
      go_wp2
      go_ret
      exact ⟨_, rfl, HBf.out⟩
end Go.Proofs.Ytelhgpogfedchaa
