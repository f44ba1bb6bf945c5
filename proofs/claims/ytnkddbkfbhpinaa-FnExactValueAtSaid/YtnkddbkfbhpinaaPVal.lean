/- What stands at a place of a Message: of the program. -/
import Derived.Test.YtnkddbkfbhpinaaPLook
import Derived.Test.YtnkddbkfbhpinaaIClone
import Derived.Deep.DeepCutAuto
namespace Go.Proofs.Ytnkddbkfbhpinaa
open Go.RowKit

theorem Kept.drewP {S : List Nat} {a b : World} (h : Kept S a b) : Kept S a { b with drawn := b.drawn + 1 } := ⟨h.os, h.tape, h.output, h.size, h.block⟩
theorem Kept.allocP {S : List Nat} {a b : World} (h : Kept S a b) (o : Obj) : Kept S a (b.alloc o) := h.below ((Below.refl b.heap.size b).alloc (Nat.le_refl _) o)
theorem Kept.setOwn {S : List Nat} {a b : World} {G j : Nat} (h : Kept S a b) (hG : a.heap.size ≤ G ∨ G ∈ S) (v : Value) : Kept S a (b.setCell ⟨G, j, none⟩ v) := by
  refine ⟨h.os, h.tape, h.output, ?_, fun k hk hn => ?_⟩
  · simpa [World.setCell] using h.size
  · rw [Below.heap_setCell b ⟨G, j, none⟩ v k (by rcases hG with h1 | h1; · show k ≠ G; omega
                                                  · show k ≠ G; intro e; exact hn (e ▸ h1))]
    exact h.block k hk hn
theorem newP {S : List Nat} {a b : World} (_ : Kept S a b) (cs : List Value) (T : TypeId) : Row (b.alloc (.cells cs.toArray T)) b.heap.size T cs := row_new b cs T

set_option maxHeartbeats 1000000 in
theorem itemAtField_from (v : Value) (xs : List (List (List (List ByteArray)))) (a : Int) (W w : World) (hb : Below W.heap.size W w) (hr : RL 0 (RFld 0) W v xs) :
    Calls Try.prog 41 #[v, .int .i64 a] w fun e w' => (∃ p c, e = .returned (.agg #[.slice p (itemL xs a).length c]) ∧ (RFld 0) W (.slice p (itemL xs a).length c) (itemL xs a)) ∧ Below w.heap.size w w' := by
  obtain ⟨p, cap, rfl, h1, h2, h4⟩ := hr
  have H4 := hide h4
  have HBB := hide hb
  clear h4 hb
  unfold maxLen at h2
  have hA : Below w.heap.size w (w.alloc (.cells #[.slice none 0 0] 44)) := (Below.refl _ _).alloc (Nat.le_refl _) _
  by_cases hin : 0 ≤ a ∧ a < xs.length
  · obtain ⟨k, rfl⟩ := Int.eq_ofNat_of_zero_le hin.1
    have hk : k < xs.length := by omega
    rw [itemL_yes hk]
    obtain ⟨g, off, hp, hg, _, hc⟩ := H4.out (by omega)
    subst hp
    obtain ⟨u, hu0, hru⟩ := hc k hk
    obtain ⟨up, uc, rfl⟩ := RL.isSlice hru
    have HRU := hide hru
    have hu := (HBB.out.cell (p := ⟨g, off + k, none⟩) hg).trans hu0
    have hgw := Nat.lt_of_lt_of_le hg HBB.out.size
    have hne : g ≠ w.heap.size := by omega
    have hB : Hid (Below w.heap.size w (w.alloc (.cells #[.slice up (xs[k]'hk).length uc] 44))) := (Below.refl _ _).alloc (Nat.le_refl _) _
    have hi0 : ¬ ((k : Int) < 0) := by omega
    have hi1 : ¬ ((xs.length : Int) ≤ (k : Int)) := by omega
    clear hc hru hin hA hu0
    go_enter Try.func41, Try.ntmps41
    go_wp2
    exact bodyPost_ret (v := .agg #[.slice up (xs[k]'hk).length uc]) (by simp [results, Try.results41, go_sem]) rfl ⟨⟨up, uc, rfl, HRU.out⟩, hB.out⟩
  · rw [itemL_no hin]
    have HZ : Hid ((RFld 0) W (.slice none ([] : List (List (List ByteArray))).length 0) []) := ⟨none, 0, rfl, Nat.le_refl _, Nat.zero_le _, fun h => absurd h (Nat.lt_irrefl 0)⟩
    have HB := hide (hA.alloc (by simp) (.cells #[.slice none 0 0] 44))
    clear hA
    by_cases h0 : a < 0
    · clear hin
      go_enter Try.func41, Try.ntmps41
      go_wp2
      exact bodyPost_ret (v := .agg #[.slice none 0 0]) (by simp [results, Try.results41, go_sem]) rfl ⟨⟨none, 0, rfl, HZ.out⟩, HB.out⟩
    · have h3 : (xs.length : Int) ≤ a := by omega
      clear hin
      go_enter Try.func41, Try.ntmps41
      go_wp2
      exact bodyPost_ret (v := .agg #[.slice none 0 0]) (by simp [results, Try.results41, go_sem]) rfl ⟨⟨none, 0, rfl, HZ.out⟩, HB.out⟩

set_option maxHeartbeats 1000000 in
theorem itemAtRep_from (v : Value) (xs : List (List (List ByteArray))) (a : Int) (W w : World) (hb : Below W.heap.size W w) (hr : RL 0 (RRep 0) W v xs) :
    Calls Try.prog 19 #[v, .int .i64 a] w fun e w' => (∃ p c, e = .returned (.agg #[.slice p (itemL xs a).length c]) ∧ (RRep 0) W (.slice p (itemL xs a).length c) (itemL xs a)) ∧ Below w.heap.size w w' := by
  obtain ⟨p, cap, rfl, h1, h2, h4⟩ := hr
  have H4 := hide h4
  have HBB := hide hb
  clear h4 hb
  unfold maxLen at h2
  have hA : Below w.heap.size w (w.alloc (.cells #[.slice none 0 0] 49)) := (Below.refl _ _).alloc (Nat.le_refl _) _
  by_cases hin : 0 ≤ a ∧ a < xs.length
  · obtain ⟨k, rfl⟩ := Int.eq_ofNat_of_zero_le hin.1
    have hk : k < xs.length := by omega
    rw [itemL_yes hk]
    obtain ⟨g, off, hp, hg, _, hc⟩ := H4.out (by omega)
    subst hp
    obtain ⟨u, hu0, hru⟩ := hc k hk
    obtain ⟨up, uc, rfl⟩ := RL.isSlice hru
    have HRU := hide hru
    have hu := (HBB.out.cell (p := ⟨g, off + k, none⟩) hg).trans hu0
    have hgw := Nat.lt_of_lt_of_le hg HBB.out.size
    have hne : g ≠ w.heap.size := by omega
    have hB : Hid (Below w.heap.size w (w.alloc (.cells #[.slice up (xs[k]'hk).length uc] 49))) := (Below.refl _ _).alloc (Nat.le_refl _) _
    have hi0 : ¬ ((k : Int) < 0) := by omega
    have hi1 : ¬ ((xs.length : Int) ≤ (k : Int)) := by omega
    clear hc hru hin hA hu0
    go_enter Try.func19, Try.ntmps19
    go_wp2
    exact bodyPost_ret (v := .agg #[.slice up (xs[k]'hk).length uc]) (by simp [results, Try.results19, go_sem]) rfl ⟨⟨up, uc, rfl, HRU.out⟩, hB.out⟩
  · rw [itemL_no hin]
    have HZ : Hid ((RRep 0) W (.slice none ([] : List (List ByteArray)).length 0) []) := ⟨none, 0, rfl, Nat.le_refl _, Nat.zero_le _, fun h => absurd h (Nat.lt_irrefl 0)⟩
    have HB := hide (hA.alloc (by simp) (.cells #[.slice none 0 0] 49))
    clear hA
    by_cases h0 : a < 0
    · clear hin
      go_enter Try.func19, Try.ntmps19
      go_wp2
      exact bodyPost_ret (v := .agg #[.slice none 0 0]) (by simp [results, Try.results19, go_sem]) rfl ⟨⟨none, 0, rfl, HZ.out⟩, HB.out⟩
    · have h3 : (xs.length : Int) ≤ a := by omega
      clear hin
      go_enter Try.func19, Try.ntmps19
      go_wp2
      exact bodyPost_ret (v := .agg #[.slice none 0 0]) (by simp [results, Try.results19, go_sem]) rfl ⟨⟨none, 0, rfl, HZ.out⟩, HB.out⟩

set_option maxHeartbeats 1000000 in
theorem itemAtComp_from (v : Value) (xs : List (List ByteArray)) (a : Int) (W w : World) (hb : Below W.heap.size W w) (hr : RL 0 (RComp 0) W v xs) :
    Calls Try.prog 21 #[v, .int .i64 a] w fun e w' => (∃ p c, e = .returned (.agg #[.slice p (itemL xs a).length c]) ∧ (RComp 0) W (.slice p (itemL xs a).length c) (itemL xs a)) ∧ Below w.heap.size w w' := by
  obtain ⟨p, cap, rfl, h1, h2, h4⟩ := hr
  have H4 := hide h4
  have HBB := hide hb
  clear h4 hb
  unfold maxLen at h2
  have hA : Below w.heap.size w (w.alloc (.cells #[.slice none 0 0] 53)) := (Below.refl _ _).alloc (Nat.le_refl _) _
  by_cases hin : 0 ≤ a ∧ a < xs.length
  · obtain ⟨k, rfl⟩ := Int.eq_ofNat_of_zero_le hin.1
    have hk : k < xs.length := by omega
    rw [itemL_yes hk]
    obtain ⟨g, off, hp, hg, _, hc⟩ := H4.out (by omega)
    subst hp
    obtain ⟨u, hu0, hru⟩ := hc k hk
    obtain ⟨up, uc, rfl⟩ := RL.isSlice hru
    have HRU := hide hru
    have hu := (HBB.out.cell (p := ⟨g, off + k, none⟩) hg).trans hu0
    have hgw := Nat.lt_of_lt_of_le hg HBB.out.size
    have hne : g ≠ w.heap.size := by omega
    have hB : Hid (Below w.heap.size w (w.alloc (.cells #[.slice up (xs[k]'hk).length uc] 53))) := (Below.refl _ _).alloc (Nat.le_refl _) _
    have hi0 : ¬ ((k : Int) < 0) := by omega
    have hi1 : ¬ ((xs.length : Int) ≤ (k : Int)) := by omega
    clear hc hru hin hA hu0
    go_enter Try.func21, Try.ntmps21
    go_wp2
    exact bodyPost_ret (v := .agg #[.slice up (xs[k]'hk).length uc]) (by simp [results, Try.results21, go_sem]) rfl ⟨⟨up, uc, rfl, HRU.out⟩, hB.out⟩
  · rw [itemL_no hin]
    have HZ : Hid ((RComp 0) W (.slice none ([] : List ByteArray).length 0) []) := ⟨none, 0, rfl, Nat.le_refl _, Nat.zero_le _, fun h => absurd h (Nat.lt_irrefl 0)⟩
    have HB := hide (hA.alloc (by simp) (.cells #[.slice none 0 0] 53))
    clear hA
    by_cases h0 : a < 0
    · clear hin
      go_enter Try.func21, Try.ntmps21
      go_wp2
      exact bodyPost_ret (v := .agg #[.slice none 0 0]) (by simp [results, Try.results21, go_sem]) rfl ⟨⟨none, 0, rfl, HZ.out⟩, HB.out⟩
    · have h3 : (xs.length : Int) ≤ a := by omega
      clear hin
      go_enter Try.func21, Try.ntmps21
      go_wp2
      exact bodyPost_ret (v := .agg #[.slice none 0 0]) (by simp [results, Try.results21, go_sem]) rfl ⟨⟨none, 0, rfl, HZ.out⟩, HB.out⟩

theorem itemAtSegment_from (v : Value) (xs : List Seg) (a : Int) (W w : World) (hb : Below W.heap.size W w) (hr : RSegs 0 W v xs) :
    Calls Try.prog 39 #[v, .int .i64 a] w fun e w' => (∃ nm p c, e = .returned (.agg #[.string nm, .slice p (fldsAt xs a).length c]) ∧ RFlds 0 W (.slice p (fldsAt xs a).length c) (fldsAt xs a)) ∧ Below w.heap.size w w' := by
  by_cases hin : 0 ≤ a ∧ a < xs.length
  · obtain ⟨k, rfl⟩ := Int.eq_ofNat_of_zero_le hin.1
    have hk : k < xs.length := by omega
    have e1 : fldsAt xs (k : Int) = (xs[k]'hk).2 := by unfold fldsAt; rw [itemL_yes (by simpa using hk)]; simp
    rw [e1]
    obtain ⟨p, cap, rfl, h1, h2, h4⟩ := hr
    have H4 := hide h4
    have HBB := hide hb
    clear h4 hb
    unfold maxLen at h2
    obtain ⟨g, off, hp, hg, _, hc⟩ := H4.out (by omega)
    subst hp
    obtain ⟨hn0, _, u, hu0, hru⟩ := hc k hk
    obtain ⟨up, uc, rfl⟩ := RL.isSlice hru
    have HRU := hide hru
    have hn := (HBB.out.cell (p := ⟨g, off + k * 2, none⟩) hg).trans hn0
    have hu := (HBB.out.cell (p := ⟨g, off + k * 2 + 1, none⟩) hg).trans hu0
    have hgw := Nat.lt_of_lt_of_le hg HBB.out.size
    have hne : g ≠ w.heap.size := by omega
    have hB : Hid (Below w.heap.size w (w.alloc (.cells #[.string (xs[k]'hk).1, .slice up (xs[k]'hk).2.length uc] 66))) := (Below.refl _ _).alloc (Nat.le_refl _) _
    have hi0 : ¬ ((k : Int) < 0) := by omega
    have hi1 : ¬ ((xs.length : Int) ≤ (k : Int)) := by omega
    clear hc hru hin hn0 hu0 e1
    go_enter Try.func39, Try.ntmps39
    go_wp2
    exact bodyPost_ret (v := .agg #[.string (xs[k]'hk).1, .slice up (xs[k]'hk).2.length uc]) (by simp [results, Try.results39, go_sem]) rfl ⟨⟨_, up, uc, rfl, HRU.out⟩, hB.out⟩
  · refine (itemAtSegment_any v xs a w (hr.below hb)).mono ?_
    rintro e w' ⟨nm, p, c, rfl, hR, hb'⟩
    rw [show fldsAt xs a = [] from itemL_no (by simpa using hin)] at hR ⊢
    obtain ⟨p', c', e', h1, h2, _⟩ := hR
    cases e'
    exact ⟨⟨nm, p, c, rfl, p, c, rfl, h1, h2, fun h => absurd h (Nat.lt_irrefl 0)⟩, hb'⟩

set_option maxHeartbeats 4000000 in
set_option maxRecDepth 100000 in
theorem fieldThere_from (m : ByteArray) (u : Value) (x : List Seg) (q : PathM) (W0 w : World) (hb : Below W0.heap.size W0 w) (hq : q.right = true) (hx : x.length ≤ 1048576) (hr : RSegs 0 W0 u x) :
    Calls Try.prog 20 #[.agg #[.string m, u], q.v] w fun e w' => (∃ p c, e = .returned (.agg #[.slice p (fldAt x q).length c]) ∧ RFld 0 W0 (.slice p (fldAt x q).length c) (fldAt x q)) ∧ Below w.heap.size w w' := by
  obtain ⟨⟨n1, n2⟩, ⟨f1, f2⟩, _, _, _⟩ := right_nums hq
  have hsh := shiftB_small q.seg
  have HBB := hide hb
  have HR := hide hr
  obtain ⟨p, c, rfl⟩ := hr.isSlice
  clear hb hr hq
  obtain ⟨W, hW⟩ : ∃ W, W = ((w.alloc (.cells #[.string m, .slice p x.length c] 32)).alloc (.cells #[.string q.seg, .int .i64 q.nth, .int .i64 q.fld, .int .i64 q.rep, .int .i64 q.comp, .int .i64 q.sub] 34)).alloc (.cells #[.slice none 0 0] 44) := ⟨_, rfl⟩
  have hB0 : Below w.heap.size w W := by rw [hW]; exact (((Below.refl _ _).alloc (Nat.le_refl _) _).alloc (by simp) _).alloc (by simp; omega) _
  have HB0 := hide hB0
  have HWs := hide (show W.heap.size = w.heap.size + 1 + 1 + 1 by rw [hW]; simp)
  have HM : Hid (Row W w.heap.size 32 [.string m, .slice p x.length c]) := by rw [hW]; exact ((row_new w [.string m, .slice p x.length c] 32).alloc _).alloc _
  have HP : Hid (Row W (w.heap.size + 1) 34 [.string q.seg, .int .i64 q.nth, .int .i64 q.fld, .int .i64 q.rep, .int .i64 q.comp, .int .i64 q.sub]) := by
    rw [hW]
    have := row_new (w.alloc (.cells #[.string m, .slice p x.length c] 32)) [.string q.seg, .int .i64 q.nth, .int .i64 q.fld, .int .i64 q.rep, .int .i64 q.comp, .int .i64 q.sub] 34
    exact Row.alloc (by simpa using this) _
  have HF : Hid (Row W (w.heap.size + 1 + 1) 44 [.slice none 0 0]) := by
    rw [hW]
    have := row_new ((w.alloc (.cells #[.string m, .slice p x.length c] 32)).alloc (.cells #[.string q.seg, .int .i64 q.nth, .int .i64 q.fld, .int .i64 q.rep, .int .i64 q.comp, .int .i64 q.sub] 34)) [.slice none 0 0] 44
    exact hide (by simpa using this)
  clear hB0
  rw [show q.v = .agg #[.string q.seg, .int .i64 q.nth, .int .i64 q.fld, .int .i64 q.rep, .int .i64 q.comp, .int .i64 q.sub] from rfl]
  go_enter Try.func20, Try.ntmps20
  go_wp2_with fail
  rw [← hW]
  clear hW
  generalize hK1 : w.heap.size + 1 = K1 at *
  generalize hK2 : K1 + 1 = K2 at *
  have HK := hide (show w.heap.size < K1 ∧ K1 < K2 ∧ K2 < W.heap.size by have := HWs.out; omega)
  clear hK1 hK2 HWs
  go_cut [5] (fun t5 wz => ∃ (wx : World) (G : Nat) (nm : ByteArray) (p2 : Option Addr) (c2 : Nat), wx = wz ∧ t5 = .pointer (some ⟨G, 0, none⟩) ∧ Hid (W.heap.size ≤ G) ∧ Hid (Row wx G 66 [.string nm, .slice p2 (fldsAt x (segIx x q.seg q.nth 0)).length c2]) ∧ Hid (RFlds 0 W0 (.slice p2 (fldsAt x (segIx x q.seg q.nth 0)).length c2) (fldsAt x (segIx x q.seg q.nth 0))) ∧ Hid (Kept [] W wx))
  case first =>
    have HSS := hide (show ∀ y, Kept [] W y → (fun y : World => y.cell? ⟨w.heap.size, 0, none⟩ = some (.string m) ∧ y.cell? ⟨w.heap.size, 1, none⟩ = some (.slice p x.length c) ∧ y.cell? ⟨K1, 0, none⟩ = some (.string q.seg) ∧ y.cell? ⟨K1, 1, none⟩ = some (.int .i64 q.nth) ∧ y.cell? ⟨K1, 2, none⟩ = some (.int .i64 q.fld)) y from fun y h => ⟨(h.row HM.out (by simp)).cell 0, (h.row HM.out (by simp)).cell 1, (h.row HP.out (by simp)).cell 0, (h.row HP.out (by simp)).cell 1, (h.row HP.out (by simp)).cell 2⟩)
    refine wp_region_held (S := fun y => y.cell? ⟨w.heap.size, 0, none⟩ = some (.string m) ∧ y.cell? ⟨w.heap.size, 1, none⟩ = some (.slice p x.length c) ∧ y.cell? ⟨K1, 0, none⟩ = some (.string q.seg) ∧ y.cell? ⟨K1, 1, none⟩ = some (.int .i64 q.nth) ∧ y.cell? ⟨K1, 2, none⟩ = some (.int .i64 q.fld)) (by kernel_rfl) ?_
    have HX : Hid (Kept [] W { W with drawn := W.drawn + 1 }) := (Kept.refl _ _).drewP
    generalize ({ W with drawn := W.drawn + 1 } : World) = X0 at HX ⊢
    have HS := hide (HSS.out _ HX.out)
    refine wpAnyH_take (i := 0) (oi := _) (v := .pointer (some ⟨w.heap.size, 1, none⟩)) rfl (by kernel_rfl) (by kernel_rfl) (by kernel_rfl) (fun _ _ _ h => h) (Or.inl ⟨by rfl, by intro w hSw; go_split_ands; go_simp⟩) HS.out ?_
    simp only [Act.put, List.getElem_toArray, List.getElem_cons_zero, List.setIfInBounds_toArray, List.set_cons_zero, List.set_cons_succ]
    refine wpAnyH_take (i := 1) (oi := _) (v := .slice p x.length c) rfl (by kernel_rfl) (by kernel_rfl) (by kernel_rfl) (fun _ _ _ h => h) (Or.inl ⟨by rfl, by intro w hSw; go_split_ands; go_simp⟩) HS.out ?_
    simp only [Act.put, List.getElem_toArray, List.getElem_cons_zero, List.getElem_cons_succ, List.setIfInBounds_toArray, List.set_cons_zero, List.set_cons_succ]
    refine wpAnyH_take (i := 2) (oi := _) (v := .agg #[.string m, .slice p x.length c]) rfl (by kernel_rfl) (by kernel_rfl) (by kernel_rfl) (fun _ _ _ h => h) (Or.inl ⟨by rfl, by intro w hSw; go_split_ands; go_simp⟩) HS.out ?_
    simp only [Act.put, List.getElem_toArray, List.getElem_cons_zero, List.getElem_cons_succ, List.setIfInBounds_toArray, List.set_cons_zero, List.set_cons_succ]
    refine wpAnyH_take (i := 3) (oi := _) (v := .pointer (some ⟨K1, 0, none⟩)) rfl (by kernel_rfl) (by kernel_rfl) (by kernel_rfl) (fun _ _ _ h => h) (Or.inl ⟨by rfl, by intro w hSw; go_split_ands; go_simp⟩) HS.out ?_
    simp only [Act.put, List.getElem_toArray, List.getElem_cons_zero, List.getElem_cons_succ, List.setIfInBounds_toArray, List.set_cons_zero, List.set_cons_succ]
    refine wpAnyH_take (i := 4) (oi := _) (v := .string q.seg) rfl (by kernel_rfl) (by kernel_rfl) (by kernel_rfl) (fun _ _ _ h => h) (Or.inl ⟨by rfl, by intro w hSw; go_split_ands; go_simp⟩) HS.out ?_
    simp only [Act.put, List.getElem_toArray, List.getElem_cons_zero, List.getElem_cons_succ, List.setIfInBounds_toArray, List.set_cons_zero, List.set_cons_succ]
    refine wpAnyH_take (i := 5) (oi := _) (v := .pointer (some ⟨K1, 1, none⟩)) rfl (by kernel_rfl) (by kernel_rfl) (by kernel_rfl) (fun _ _ _ h => h) (Or.inl ⟨by rfl, by intro w hSw; go_split_ands; go_simp⟩) HS.out ?_
    simp only [Act.put, List.getElem_toArray, List.getElem_cons_zero, List.getElem_cons_succ, List.setIfInBounds_toArray, List.set_cons_zero, List.set_cons_succ]
    refine wpAnyH_take (i := 6) (oi := _) (v := .int .i64 q.nth) rfl (by kernel_rfl) (by kernel_rfl) (by kernel_rfl) (fun _ _ _ h => h) (Or.inl ⟨by rfl, by intro w hSw; go_split_ands; go_simp⟩) HS.out ?_
    simp only [Act.put, List.getElem_toArray, List.getElem_cons_zero, List.getElem_cons_succ, List.setIfInBounds_toArray, List.set_cons_zero, List.set_cons_succ]
    refine wpAnyH_ready (rs := [7, 9]) (by kernel_rfl) (by simp) ?_
    refine AllReadyH.cons (o := _) rfl (fun K hK => ?_) (AllReadyH.cons (o := _) rfl (fun K hK => ?_) AllReadyH.nil)
    · go_simp
      refine (segmentPlace_any m _ x q.seg q.nth _ n1 n2 hx (HR.out.below (HBB.out.trans ((HX.out.toBelow HB0.out HB0.out.size (by simp)).mono HBB.out.size)))).mono ?_
      rintro e X2 ⟨rfl, hbc⟩
      have HX2 := hide (HX.out.below hbc)
      refine hK.out _ _ (HSS.out _ HX2.out) (fun _ => ?_)
      clear hK K HS HX hbc 
      have HX := HX2
      have HS := hide (HSS.out _ HX.out)
      clear HX2
      refine wpAnyH_ready (rs := [8, 9]) (by kernel_rfl) (by simp) ?_
      refine AllReadyH.cons (o := _) rfl (fun K hK => ?_) (AllReadyH.cons (o := _) rfl (fun K hK => ?_) AllReadyH.nil)
      · go_simp
        refine (itemAtSegment_from _ x (segIx x q.seg q.nth 0) W0 _ (HBB.out.trans ((HX.out.toBelow HB0.out HB0.out.size (by simp)).mono HBB.out.size)) HR.out).mono ?_
        rintro e X3 ⟨⟨nm, p2, c2, rfl, hfs⟩, hbc⟩
        have HX2 := hide (HX.out.below hbc)
        have HFS := hide hfs
        clear hfs
        refine hK.out _ _ (HSS.out _ HX2.out) (fun _ => ?_)
        clear hK K HS HX hbc 
        have HX := HX2
        have HS := hide (HSS.out _ HX.out)
        clear HX2
        refine wpAnyH_ready (rs := [9]) (by kernel_rfl) (by simp) ?_
        refine AllReadyH.cons (o := _) rfl (fun K hK => ?_) AllReadyH.nil
        go_simp
        refine hK.out _ _ (HSS.out _ (HX.out.allocP (.cells #[.string ⟨#[]⟩, .slice none 0 0] 66))) (fun _ => ?_)
        clear hK K HS
        have HG := hide (newP HX.out [.string ⟨#[]⟩, .slice none 0 0] 66)
        have HGB := hide HX.out.size
        have HX2 := hide (HX.out.allocP (.cells #[.string ⟨#[]⟩, .slice none 0 0] 66))
        clear HX
        generalize hY : World.alloc _ (Obj.cells #[.string ⟨#[]⟩, .slice none 0 0] 66) = X4 at HX2 ⊢
        rw [show (List.toArray [.string ⟨#[]⟩, .slice none 0 0] : Array Value) = #[.string ⟨#[]⟩, .slice none 0 0] from rfl, hY] at HG
        clear hY
        generalize Array.size (World.heap _) = G at HG HGB ⊢
        have HX := HX2
        clear HX2
        have HS := hide (HSS.out _ HX.out)
        refine wpAnyH_ready (rs := [10]) (by kernel_rfl) (by simp) ?_
        refine AllReadyH.cons (o := _) rfl (fun K hK => ?_) AllReadyH.nil
        have r0 := HG.out.cell 0
        have r1 := HG.out.cell 1
        have p0 := HG.out.free 0
        have p1 := HG.out.free 1
        go_simp
        have HX2 := hide ((HX.out.setOwn (G := G) (j := 0) (.inl HGB.out) (.string nm)).setOwn (G := G) (j := 1) (.inl HGB.out) (.slice p2 (fldsAt x (segIx x q.seg q.nth 0)).length c2))
        have HG2 := hide ((HG.out.set (j := 0) (.string nm)).set (j := 1) (.slice p2 (fldsAt x (segIx x q.seg q.nth 0)).length c2))
        refine hK.out _ _ (HSS.out _ HX2.out) (fun _ => ?_)
        refine wpAnyH_done (by kernel_rfl) ?_ _
        clear hK K r0 r1 p0 p1
        go_wp2_with fail
        go_meet
        exact ⟨_, G, nm, p2, c2, rfl, rfl, HGB, HG2, HFS, HX2⟩
      · go_simp
        refine hK.out _ _ (HSS.out _ (HX.out.allocP (.cells #[.string ⟨#[]⟩, .slice none 0 0] 66))) (fun _ => ?_)
        clear hK K HS
        have HG := hide (newP HX.out [.string ⟨#[]⟩, .slice none 0 0] 66)
        have HGB := hide HX.out.size
        have HX2 := hide (HX.out.allocP (.cells #[.string ⟨#[]⟩, .slice none 0 0] 66))
        clear HX
        generalize hY : World.alloc _ (Obj.cells #[.string ⟨#[]⟩, .slice none 0 0] 66) = X4 at HX2 ⊢
        rw [show (List.toArray [.string ⟨#[]⟩, .slice none 0 0] : Array Value) = #[.string ⟨#[]⟩, .slice none 0 0] from rfl, hY] at HG
        clear hY
        generalize Array.size (World.heap _) = G at HG HGB ⊢
        have HX := HX2
        clear HX2
        have HS := hide (HSS.out _ HX.out)
        refine wpAnyH_ready (rs := [8]) (by kernel_rfl) (by simp) ?_
        refine AllReadyH.cons (o := _) rfl (fun K hK => ?_) AllReadyH.nil
        go_simp
        refine (itemAtSegment_from _ x (segIx x q.seg q.nth 0) W0 _ (HBB.out.trans ((HX.out.toBelow HB0.out HB0.out.size (by simp)).mono HBB.out.size)) HR.out).mono ?_
        rintro e X3 ⟨⟨nm, p2, c2, rfl, hfs⟩, hbc⟩
        have HX2 := hide (HX.out.below hbc)
        have HG2 := hide (HG.out.below hbc HG.out.lt)
        have HFS := hide hfs
        clear hfs
        refine hK.out _ _ (HSS.out _ HX2.out) (fun _ => ?_)
        clear hK K HS HX hbc HG
        have HX := HX2
        have HS := hide (HSS.out _ HX.out)
        clear HX2
        have HG := HG2
        clear HG2
        refine wpAnyH_ready (rs := [10]) (by kernel_rfl) (by simp) ?_
        refine AllReadyH.cons (o := _) rfl (fun K hK => ?_) AllReadyH.nil
        have r0 := HG.out.cell 0
        have r1 := HG.out.cell 1
        have p0 := HG.out.free 0
        have p1 := HG.out.free 1
        go_simp
        have HX2 := hide ((HX.out.setOwn (G := G) (j := 0) (.inl HGB.out) (.string nm)).setOwn (G := G) (j := 1) (.inl HGB.out) (.slice p2 (fldsAt x (segIx x q.seg q.nth 0)).length c2))
        have HG2 := hide ((HG.out.set (j := 0) (.string nm)).set (j := 1) (.slice p2 (fldsAt x (segIx x q.seg q.nth 0)).length c2))
        refine hK.out _ _ (HSS.out _ HX2.out) (fun _ => ?_)
        refine wpAnyH_done (by kernel_rfl) ?_ _
        clear hK K r0 r1 p0 p1
        go_wp2_with fail
        go_meet
        exact ⟨_, G, nm, p2, c2, rfl, rfl, HGB, HG2, HFS, HX2⟩
    · go_simp
      refine hK.out _ _ (HSS.out _ (HX.out.allocP (.cells #[.string ⟨#[]⟩, .slice none 0 0] 66))) (fun _ => ?_)
      clear hK K HS
      have HG := hide (newP HX.out [.string ⟨#[]⟩, .slice none 0 0] 66)
      have HGB := hide HX.out.size
      have HX2 := hide (HX.out.allocP (.cells #[.string ⟨#[]⟩, .slice none 0 0] 66))
      clear HX
      generalize hY : World.alloc _ (Obj.cells #[.string ⟨#[]⟩, .slice none 0 0] 66) = X4 at HX2 ⊢
      rw [show (List.toArray [.string ⟨#[]⟩, .slice none 0 0] : Array Value) = #[.string ⟨#[]⟩, .slice none 0 0] from rfl, hY] at HG
      clear hY
      generalize Array.size (World.heap _) = G at HG HGB ⊢
      have HX := HX2
      clear HX2
      have HS := hide (HSS.out _ HX.out)
      refine wpAnyH_ready (rs := [7]) (by kernel_rfl) (by simp) ?_
      refine AllReadyH.cons (o := _) rfl (fun K hK => ?_) AllReadyH.nil
      go_simp
      refine (segmentPlace_any m _ x q.seg q.nth _ n1 n2 hx (HR.out.below (HBB.out.trans ((HX.out.toBelow HB0.out HB0.out.size (by simp)).mono HBB.out.size)))).mono ?_
      rintro e X2 ⟨rfl, hbc⟩
      have HX2 := hide (HX.out.below hbc)
      have HG2 := hide (HG.out.below hbc HG.out.lt)
      refine hK.out _ _ (HSS.out _ HX2.out) (fun _ => ?_)
      clear hK K HS HX hbc HG
      have HX := HX2
      have HS := hide (HSS.out _ HX.out)
      clear HX2
      have HG := HG2
      clear HG2
      refine wpAnyH_ready (rs := [8]) (by kernel_rfl) (by simp) ?_
      refine AllReadyH.cons (o := _) rfl (fun K hK => ?_) AllReadyH.nil
      go_simp
      refine (itemAtSegment_from _ x (segIx x q.seg q.nth 0) W0 _ (HBB.out.trans ((HX.out.toBelow HB0.out HB0.out.size (by simp)).mono HBB.out.size)) HR.out).mono ?_
      rintro e X3 ⟨⟨nm, p2, c2, rfl, hfs⟩, hbc⟩
      have HX2 := hide (HX.out.below hbc)
      have HG2 := hide (HG.out.below hbc HG.out.lt)
      have HFS := hide hfs
      clear hfs
      refine hK.out _ _ (HSS.out _ HX2.out) (fun _ => ?_)
      clear hK K HS HX hbc HG
      have HX := HX2
      have HS := hide (HSS.out _ HX.out)
      clear HX2
      have HG := HG2
      clear HG2
      refine wpAnyH_ready (rs := [10]) (by kernel_rfl) (by simp) ?_
      refine AllReadyH.cons (o := _) rfl (fun K hK => ?_) AllReadyH.nil
      have r0 := HG.out.cell 0
      have r1 := HG.out.cell 1
      have p0 := HG.out.free 0
      have p1 := HG.out.free 1
      go_simp
      have HX2 := hide ((HX.out.setOwn (G := G) (j := 0) (.inl HGB.out) (.string nm)).setOwn (G := G) (j := 1) (.inl HGB.out) (.slice p2 (fldsAt x (segIx x q.seg q.nth 0)).length c2))
      have HG2 := hide ((HG.out.set (j := 0) (.string nm)).set (j := 1) (.slice p2 (fldsAt x (segIx x q.seg q.nth 0)).length c2))
      refine hK.out _ _ (HSS.out _ HX2.out) (fun _ => ?_)
      refine wpAnyH_done (by kernel_rfl) ?_ _
      clear hK K r0 r1 p0 p1
      go_wp2_with fail
      go_meet
      exact ⟨_, G, nm, p2, c2, rfl, rfl, HGB, HG2, HFS, HX2⟩
  case rest =>
    obtain ⟨wx, G, nm, p2, c2, rfl, rfl, HGB, HRG, HFS, HXK⟩ := hcut
    have hK := HK.out
    have hGB := HGB.out
    have HFX := hide (HXK.out.row HF.out (by simp))
    have HPX := hide (HXK.out.row HP.out (by simp))
    have HB1 := hide (HXK.out.toBelow HB0.out HB0.out.size (by simp))
    have hwr : IntKind.i64.wrap (q.fld - shiftB q.seg) = q.fld - shiftB q.seg := wrap_small _ (by omega) (by omega)
    have HNG := hide (show G ∉ [K2] by simp; omega)
    have HNP := hide (show K1 ∉ [K2] by simp; omega)
    have HSS := hide (show ∀ y, Kept [K2] wx y → (fun y : World => y.cell? ⟨G, 1, none⟩ = some (.slice p2 (fldsAt x (segIx x q.seg q.nth 0)).length c2) ∧ y.cell? ⟨K1, 0, none⟩ = some (.string q.seg) ∧ y.cell? ⟨K1, 2, none⟩ = some (.int .i64 q.fld)) y from fun y h => ⟨(h.row HRG.out HNG.out).cell 1, (h.row HPX.out HNP.out).cell 0, (h.row HPX.out HNP.out).cell 2⟩)
    go_wp2_with fail
    refine wp_region_held (S := fun y => y.cell? ⟨G, 1, none⟩ = some (.slice p2 (fldsAt x (segIx x q.seg q.nth 0)).length c2) ∧ y.cell? ⟨K1, 0, none⟩ = some (.string q.seg) ∧ y.cell? ⟨K1, 2, none⟩ = some (.int .i64 q.fld)) (by kernel_rfl) ?_
    have HX : Hid (Kept [K2] wx { wx with drawn := wx.drawn + 1 }) := (Kept.refl _ _).drewP
    have HF0 : Hid (Row { wx with drawn := wx.drawn + 1 } K2 44 [.slice none 0 0]) := HFX.out
    generalize ({ wx with drawn := wx.drawn + 1 } : World) = X0 at HX HF0 ⊢
    have HS := hide (HSS.out _ HX.out)
    refine wpAnyH_take (i := 0) (oi := _) (v := .pointer (some ⟨G, 1, none⟩)) rfl (by kernel_rfl) (by kernel_rfl) (by kernel_rfl) (fun _ _ _ h => h) (Or.inl ⟨by rfl, by intro w hSw; go_split_ands; go_simp⟩) HS.out ?_
    simp only [Act.put, List.getElem_toArray, List.getElem_cons_zero, List.setIfInBounds_toArray, List.set_cons_zero, List.set_cons_succ]
    refine wpAnyH_take (i := 1) (oi := _) (v := .slice p2 (fldsAt x (segIx x q.seg q.nth 0)).length c2) rfl (by kernel_rfl) (by kernel_rfl) (by kernel_rfl) (fun _ _ _ h => h) (Or.inl ⟨by rfl, by intro w hSw; go_split_ands; go_simp⟩) HS.out ?_
    simp only [Act.put, List.getElem_toArray, List.getElem_cons_zero, List.getElem_cons_succ, List.setIfInBounds_toArray, List.set_cons_zero, List.set_cons_succ]
    refine wpAnyH_take (i := 2) (oi := _) (v := .pointer (some ⟨K1, 2, none⟩)) rfl (by kernel_rfl) (by kernel_rfl) (by kernel_rfl) (fun _ _ _ h => h) (Or.inl ⟨by rfl, by intro w hSw; go_split_ands; go_simp⟩) HS.out ?_
    simp only [Act.put, List.getElem_toArray, List.getElem_cons_zero, List.getElem_cons_succ, List.setIfInBounds_toArray, List.set_cons_zero, List.set_cons_succ]
    refine wpAnyH_take (i := 3) (oi := _) (v := .int .i64 q.fld) rfl (by kernel_rfl) (by kernel_rfl) (by kernel_rfl) (fun _ _ _ h => h) (Or.inl ⟨by rfl, by intro w hSw; go_split_ands; go_simp⟩) HS.out ?_
    simp only [Act.put, List.getElem_toArray, List.getElem_cons_zero, List.getElem_cons_succ, List.setIfInBounds_toArray, List.set_cons_zero, List.set_cons_succ]
    refine wpAnyH_take (i := 4) (oi := _) (v := .pointer (some ⟨K1, 0, none⟩)) rfl (by kernel_rfl) (by kernel_rfl) (by kernel_rfl) (fun _ _ _ h => h) (Or.inl ⟨by rfl, by intro w hSw; go_split_ands; go_simp⟩) HS.out ?_
    simp only [Act.put, List.getElem_toArray, List.getElem_cons_zero, List.getElem_cons_succ, List.setIfInBounds_toArray, List.set_cons_zero, List.set_cons_succ]
    refine wpAnyH_take (i := 5) (oi := _) (v := .string q.seg) rfl (by kernel_rfl) (by kernel_rfl) (by kernel_rfl) (fun _ _ _ h => h) (Or.inl ⟨by rfl, by intro w hSw; go_split_ands; go_simp⟩) HS.out ?_
    simp only [Act.put, List.getElem_toArray, List.getElem_cons_zero, List.getElem_cons_succ, List.setIfInBounds_toArray, List.set_cons_zero, List.set_cons_succ]
    refine wpAnyH_ready (rs := [6]) (by kernel_rfl) (by simp) ?_
    refine AllReadyH.cons (o := _) rfl (fun K hK => ?_) AllReadyH.nil
    go_simp
    refine (firstField_any q.seg _).mono ?_
    rintro e _ ⟨rfl, rfl⟩
    refine hK.out _ _ HS.out (fun _ => ?_)
    clear hK K
    refine wpAnyH_take (i := 7) (oi := _) (v := .int .i64 (q.fld - shiftB q.seg)) rfl (by kernel_rfl) (by kernel_rfl) (by kernel_rfl) (fun _ _ _ h => h) (Or.inl ⟨by rfl, by intro w hSw; go_split_ands; go_simp⟩) HS.out ?_
    simp only [Act.put, List.getElem_toArray, List.getElem_cons_zero, List.getElem_cons_succ, List.setIfInBounds_toArray, List.set_cons_zero, List.set_cons_succ]
    refine wpAnyH_ready (rs := [8]) (by kernel_rfl) (by simp) ?_
    refine AllReadyH.cons (o := _) rfl (fun K hK => ?_) AllReadyH.nil
    go_simp
    refine (itemAtField_from _ (fldsAt x (segIx x q.seg q.nth 0)) (q.fld - shiftB q.seg) W0 _ (HBB.out.trans ((HX.out.toBelow HB1.out HB1.out.size (by simp; omega)).mono HBB.out.size)) HFS.out).mono ?_
    rintro e X3 ⟨⟨p3, c3, rfl, hf3⟩, hbc⟩
    have HX2 := hide (HX.out.below hbc)
    have HF3 := hide hf3
    have HRF := hide (HF0.out.below hbc HF0.out.lt)
    clear hf3
    refine hK.out _ _ (HSS.out _ HX2.out) (fun _ => ?_)
    clear hK K HS HX hbc 
    have HX := HX2
    have HS := hide (HSS.out _ HX.out)
    clear HX2
    refine wpAnyH_ready (rs := [9]) (by kernel_rfl) (by simp) ?_
    refine AllReadyH.cons (o := _) rfl (fun K hK => ?_) AllReadyH.nil
    have r0 := HRF.out.cell 0
    have p0 := HRF.out.free 0
    go_simp
    have HX2 := hide (HX.out.setOwn (G := K2) (j := 0) (.inr (by simp)) (.slice p3 (fldAt x q).length c3))
    have HR2 := hide (HRF.out.set (j := 0) (.slice p3 (fldAt x q).length c3))
    refine hK.out _ _ (HSS.out _ HX2.out) (fun _ => ?_)
    refine wpAnyH_done (by kernel_rfl) ?_ _
    clear hK K r0 p0
    have HBF := hide (HX2.out.toBelow HB1.out HB1.out.size (by simp; omega))
    rw [show itemL (fldsAt x (segIx x q.seg q.nth 0)) (q.fld - shiftB q.seg) = fldAt x q from rfl] at *
    generalize hY : World.setCell _ _ _ = Y at HR2 HBF ⊢
    clear hY
    have q0 : Y.cell? ⟨K2, 0, none⟩ = some (.slice p3 (fldAt x q).length c3) := HR2.out.cell 0
    go_wp2
    exact bodyPost_ret (v := .agg #[.slice p3 (fldAt x q).length c3]) (by simp [results, Try.results20, go_sem, q0]) rfl ⟨⟨p3, c3, rfl, HF3.out⟩, HBF.out⟩
end Go.Proofs.Ytnkddbkfbhpinaa
