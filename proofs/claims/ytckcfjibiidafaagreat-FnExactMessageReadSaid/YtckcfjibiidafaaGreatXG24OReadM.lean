/- What is read, in rows of its own: the small facts. -/
import Derived.Test.YtckcfjibiidafaaGreatXG11FRList
import Derived.Test.YtckcfjibiidafaaGreatXG23OCopy
namespace Go.Proofs.YtckcfjibiidafaaGreat
open Go.RowKit
theorem cutL_len (s : UInt8) : ∀ L : List UInt8, (cutL s L).length ≤ L.length + 1 ∧ ∀ p ∈ cutL s L, p.length ≤ L.length
  | [] => by simp [cutL]
  | a :: r => by
    obtain ⟨h1, h2⟩ := cutL_len s r
    by_cases h : a = s
    · rw [cutL, if_pos h]
      refine ⟨by simp only [List.length_cons]; omega, fun p hp => ?_⟩
      rcases List.mem_cons.1 hp with rfl | hp
      · simp
      · have := h2 p hp
        simp only [List.length_cons]; omega
    · obtain ⟨p, ps, e⟩ := cutL_some s r
      rw [cutL_ne s a r p ps h e]
      rw [e] at h1 h2
      refine ⟨by simp only [List.length_cons] at h1 ⊢; omega, fun q hq => ?_⟩
      rcases List.mem_cons.1 hq with rfl | hq
      · have := h2 p (List.mem_cons_self ..)
        simp only [List.length_cons]; omega
      · have := h2 q (List.mem_cons_of_mem _ hq)
        simp only [List.length_cons]; omega
theorem piecesL_len (s : UInt8) (L : List UInt8) : (piecesL s L).length ≤ L.length + 1 ∧ ∀ p ∈ piecesL s L, p.length ≤ L.length := by
  unfold piecesL
  split
  · exact ⟨by simp, fun p hp => by simp at hp⟩
  · exact cutL_len s L
theorem plainL_len (m : ByteArray) : ∀ (n : Nat) (l u : List UInt8), l.length ≤ n → plainL m l = some u → u.length ≤ l.length := by
  intro n
  induction n with
  | zero =>
    intro l u hl h
    cases l with
    | nil => rw [plainL_nil] at h; cases h; exact Nat.le_refl _
    | cons a r => simp at hl
  | succ n ih =>
    intro l u hl h
    cases l with
    | nil => rw [plainL_nil] at h; cases h; exact Nat.le_refl _
    | cons a r =>
      simp only [List.length_cons] at hl
      cases he : escAt m (a :: r) with
      | some x =>
        rw [plainL_esc he] at h
        cases hp : plainL m (r.drop 2) with
        | none => rw [hp] at h; cases h
        | some t =>
          rw [hp] at h
          cases h
          have := ih _ t (by rw [List.length_drop]; omega) hp
          rw [List.length_drop] at this
          simp only [List.length_cons]; omega
      | none =>
        cases ho : okSelf m a with
        | false => rw [plainL_no he ho] at h; cases h
        | true =>
          rw [plainL_self he ho] at h
          cases hp : plainL m r with
          | none => rw [hp] at h; cases h
          | some t =>
            rw [hp] at h
            cases h
            have := ih _ t (by omega) hp
            simp only [List.length_cons]; omega
theorem mapO_mem {γ β : Type} {f : γ → Option β} : ∀ (ps : List γ) (xs : List β), mapO f ps = some xs → ∀ x ∈ xs, ∃ p ∈ ps, f p = some x
  | [], xs, h, x, hx => by simp [mapO] at h; subst h; simp at hx
  | p :: r, xs, h, x, hx => by
    simp only [mapO] at h
    cases hp : f p with
    | none => rw [hp] at h; simp at h
    | some y =>
      rw [hp] at h
      cases hr : mapO f r with
      | none => rw [hr] at h; simp at h
      | some ys =>
        rw [hr] at h
        simp at h
        subst h
        rcases List.mem_cons.1 hx with rfl | hx
        · exact ⟨p, List.mem_cons_self .., hp⟩
        · obtain ⟨q, hq, e⟩ := mapO_mem r ys hr x hx
          exact ⟨q, List.mem_cons_of_mem _ hq, e⟩
theorem mapO_comp {γ δ β : Type} (f : γ → Option β) (g : δ → γ) : ∀ xs : List δ, mapO f (xs.map g) = mapO (fun x => f (g x)) xs
  | [] => rfl
  | x :: r => by simp only [List.map_cons, mapO, mapO_comp f g r]
def asB (p : List UInt8) : ByteArray := ⟨p.toArray⟩
theorem asB_size (p : List UInt8) : (asB p).size = p.length := by simp [asB, ByteArray.size]
theorem strs_pieces (P : List (List UInt8)) : strs (P.map asB) = P.map asStr := by
  unfold strs
  rw [List.map_map]
  rfl
theorem subO_asB (m : ByteArray) (p : List UInt8) : subO m (asB p) = subP m p := by simp [subO, subP, asB]
theorem comp_read (m : ByteArray) (L : List UInt8) : mapO (subO m) ((piecesL (bAt m 4) L).map asB) = compP m L := by
  rw [mapO_comp]
  simp only [subO_asB]
  unfold compP readL piecesL
  split
  · rfl
  · rfl
theorem comp_small (m : ByteArray) (L : List UInt8) (xs : List ByteArray) (h : compP m L = some xs) : ∀ x ∈ xs, x.size ≤ L.length := by
  intro x hx
  rw [← comp_read, mapO_comp] at h
  simp only [subO_asB] at h
  obtain ⟨p, hp, e⟩ := mapO_mem _ _ h x hx
  unfold subP at e
  cases hu : plainL m p with
  | none => rw [hu] at e; cases e
  | some u =>
    rw [hu] at e
    cases e
    have h1 := plainL_len m _ p u (Nat.le_refl _) hu
    have h2 := (piecesL_len (bAt m 4) L).2 p hp
    simp [ByteArray.size]
    omega
theorem os_of_own {T : TypeId} {w : World} {B : Nat} {v : Value} {xs : List ByteArray} (h : w.ownsRow B T 1 v xs.length (strs xs)) (hs : ∀ x ∈ xs, x.size ≤ maxLen) : OS T B w.heap.size w v xs := by
  rcases own_block h with ⟨hn, rfl⟩ | ⟨g, cap, rest, rfl, hbg, hgs, hnc, hcm, hcr, hrow⟩
  · exact ⟨none, 0, by rw [hn], by omega, by unfold maxLen; omega, hs, fun h => by omega⟩
  · exact ⟨_, _, rfl, hnc, hcm, hs, fun _ => ⟨g, rest, rfl, hbg, hgs, hcr, hrow⟩⟩
theorem mapO_len {γ β : Type} {f : γ → Option β} : ∀ (ps : List γ) (xs : List β), mapO f ps = some xs → xs.length = ps.length
  | [], xs, h => by simp [mapO] at h; subst h; rfl
  | p :: r, xs, h => by
    simp only [mapO] at h
    cases hp : f p with
    | none => rw [hp] at h; simp at h
    | some y =>
      rw [hp] at h
      cases hr : mapO f r with
      | none => rw [hr] at h; simp at h
      | some ys =>
        rw [hr] at h
        simp at h
        subst h
        simp [mapO_len r ys hr]
theorem readSub_parts {T : TypeId} {b0 : Nat} {R : Option (List ByteArray)} {e : Ending} {w' : World} (h : ReadRes T b0 (R.map (·.map Value.string)) e w') (hs : ∀ xs, R = some xs → xs.length ≤ 1000000 ∧ ∀ x ∈ xs, x.size ≤ 900000) :
    ∃ u b xs, e = .returned (.tuple #[u, .bool b]) ∧ RComp 0 w' u xs ∧ R = (if b then some xs else none) ∧ xs.length ≤ 1000000 ∧ ∀ x ∈ xs, x.size ≤ 900000 := by
  cases R with
  | none => exact ⟨_, false, [], h, ⟨none, 0, rfl, Nat.le_refl _, by unfold maxLen; omega, fun h => by simp at h⟩, rfl, by simp, fun x hx => by simp at hx⟩
  | some xs =>
    obtain ⟨u, B, rfl, _, ho⟩ := h
    have h2 : OS T B w'.heap.size w' u xs := os_of_own (by simpa [strs] using ho) (fun x hx => by have := (hs xs rfl).2 x hx; unfold maxLen; omega)
    exact ⟨u, true, xs, rfl, RComp.mono (OS.rl h2) (Nat.zero_le B), rfl, (hs xs rfl).1, (hs xs rfl).2⟩
/-- What comp hands back. -/
def CompRes (b0 : Nat) (R : Option (List ByteArray)) (e : Ending) (w' : World) : Prop :=
  ∃ u b xs, e = .returned (.tuple #[.agg #[u], .bool b]) ∧ OComp b0 w'.heap.size w' u xs ∧ R = (if b then some xs else none)
end Go.Proofs.YtckcfjibiidafaaGreat
/- A Comp that is read: of the program. -/
namespace Go.Proofs.YtckcfjibiidafaaGreat
open Go.RowKit
set_option maxHeartbeats 8000000 in
set_option maxRecDepth 100000 in
theorem compR_any (m s : ByteArray) (w : World) (hm : marksB m = true) (hs : s.size ≤ 900000) :
    Calls Tryz.prog 89 #[.agg #[.string m, .bool false], .string s] w fun e w' => CompRes w.heap.size (compP m s.data.toList) e w' ∧ Below w.heap.size w w' := by
  have h5 := marksB_five hm
  have h4 : 4 < m.size := by omega
  have hc : (m[4]'h4).toNat < 128 := by
    have := mark_plain hm 4 (by omega)
    rw [bAt_get m 4 h4] at this
    simp only [plainR, decide_eq_true_eq] at this
    omega
  obtain ⟨R, hR⟩ : ∃ R, R = compP m s.data.toList := ⟨_, rfl⟩
  have hl : s.data.toList.length = s.size := bytes_len s
  have HPL := hide (piecesL_len (m[4]'h4) s.data.toList)
  rw [hl] at HPL
  have HRP := hide (show mapO (subO m) ((piecesL (m[4]'h4) s.data.toList).map asB) = R by rw [hR, ← bAt_get m 4 h4]; exact comp_read m _)
  have HSM := hide (show ∀ xs, R = some xs → xs.length ≤ 1000000 ∧ ∀ x ∈ xs, x.size ≤ 900000 from fun xs e => ⟨by have h1 := mapO_len _ xs (HRP.out.trans e); rw [List.length_map] at h1; have := HPL.out.1; omega, fun x hx => by have := comp_small m _ xs (hR.symm.trans e) x hx; rw [hl] at this; omega⟩)
  rw [← hR]
  clear hR hl
  have HC := hide hc
  clear hc
  obtain ⟨c4, hc4⟩ : ∃ c4, c4 = m[4]'h4 := ⟨_, rfl⟩
  have HC4 := hide hc4
  obtain ⟨P, hP⟩ : ∃ P, P = piecesL (m[4]'h4) s.data.toList := ⟨_, rfl⟩
  have HP := hide hP
  clear hc4 hP
  obtain ⟨W, hW⟩ : ∃ W, W = (w.alloc (.cells #[.string m, .bool false] 47)).alloc (.cells #[.slice none 0 0] 71) := ⟨_, rfl⟩
  have HBW := hide (show Below w.heap.size w W by rw [hW]; exact ((Below.refl _ _).alloc (Nat.le_refl _) _).alloc (by simp) _)
  have HWs := hide (show W.heap.size = w.heap.size + 2 by rw [hW]; simp)
  have HR1 := hide (show Row W w.heap.size 47 [.string m, .bool false] by rw [hW]; exact (row_new w [.string m, .bool false] 47).alloc _)
  have HR2 := hide (show Row W (w.heap.size + 1) 71 [.slice none 0 0] by
    rw [hW]
    have := row_new (w.alloc (.cells #[.string m, .bool false] 47)) [.slice none 0 0] 71
    simpa using this)
  have HSS := hide (show ∀ y, Below W.heap.size W y → (fun y : World => y.cell? ⟨w.heap.size, 0, none⟩ = some (.string m) ∧ y.cell? ⟨w.heap.size, 1, none⟩ = some (.bool false)) y from fun y h => ⟨(HR1.out.below h HR1.out.lt).cell 0, (HR1.out.below h HR1.out.lt).cell 1⟩)
  go_enter Tryz.func89, Tryz.ntmps89
  go_wp2_with fail
  rw [← hW]
  clear hW
  refine wp_region_held (S := (fun y : World => y.cell? ⟨w.heap.size, 0, none⟩ = some (.string m) ∧ y.cell? ⟨w.heap.size, 1, none⟩ = some (.bool false))) (by kernel_rfl) ?_
  have HX := hide (show Below W.heap.size W { W with drawn := W.drawn + 1 } from (Below.refl _ _).drew)
  generalize ({ W with drawn := W.drawn + 1 } : World) = Z0 at HX ⊢
  have HS := hide (HSS.out _ HX.out)
  refine wpAnyH_take (i := 0) (oi := _) (v := .agg #[.string m, .bool false]) rfl (by kernel_rfl) (by kernel_rfl) (by kernel_rfl) (fun _ _ _ h => h) (Or.inl ⟨by rfl, by intro w hSw; go_split_ands; go_simp⟩) HS.out ?_
  simp only [Act.put, List.getElem_toArray, List.getElem_cons_zero, List.setIfInBounds_toArray, List.set_cons_zero, List.set_cons_succ]
  refine wpAnyH_take (i := 1) (oi := _) (v := .string s) rfl (by kernel_rfl) (by kernel_rfl) (by kernel_rfl) (fun _ _ _ h => h) (Or.inl ⟨by rfl, by intro w hSw; go_split_ands; go_simp⟩) HS.out ?_
  simp only [Act.put, List.getElem_toArray, List.getElem_cons_zero, List.getElem_cons_succ, List.setIfInBounds_toArray, List.set_cons_zero, List.set_cons_succ]
  refine wpAnyH_take (i := 2) (oi := _) (v := .pointer (some ⟨w.heap.size, 0, none⟩)) rfl (by kernel_rfl) (by kernel_rfl) (by kernel_rfl) (fun _ _ _ h => h) (Or.inl ⟨by rfl, by intro w hSw; go_split_ands; go_simp⟩) HS.out ?_
  simp only [Act.put, List.getElem_toArray, List.getElem_cons_zero, List.getElem_cons_succ, List.setIfInBounds_toArray, List.set_cons_zero, List.set_cons_succ]
  refine wpAnyH_take (i := 3) (oi := _) (v := .string m) rfl (by kernel_rfl) (by kernel_rfl) (by kernel_rfl) (fun _ _ _ h => h) (Or.inl ⟨by rfl, by intro w hSw; go_split_ands; go_simp⟩) HS.out ?_
  simp only [Act.put, List.getElem_toArray, List.getElem_cons_zero, List.getElem_cons_succ, List.setIfInBounds_toArray, List.set_cons_zero, List.set_cons_succ]
  refine wpAnyH_take (i := 4) (oi := _) (v := .int .u8 ((m[4]'h4).toNat : Int)) rfl (by kernel_rfl) (by kernel_rfl) (by kernel_rfl) (fun _ _ _ h => h) (Or.inl ⟨by rfl, by intro w hSw; go_split_ands; go_simp⟩) HS.out ?_
  simp only [Act.put, List.getElem_toArray, List.getElem_cons_zero, List.getElem_cons_succ, List.setIfInBounds_toArray, List.set_cons_zero, List.set_cons_succ]
  refine wpAnyH_take (i := 6) (oi := _) (v := .agg #[.string m, .bool false]) rfl (by kernel_rfl) (by kernel_rfl) (by kernel_rfl) (fun _ _ _ h => h) (Or.inl ⟨by rfl, by intro w hSw; go_split_ands; go_simp⟩) HS.out ?_
  simp only [Act.put, List.getElem_toArray, List.getElem_cons_zero, List.getElem_cons_succ, List.setIfInBounds_toArray, List.set_cons_zero, List.set_cons_succ]
  refine wpAnyH_take (i := 7) (oi := _) (v := .func (.func 96) #[.agg #[.string m, .bool false]] #[]) rfl (by kernel_rfl) (by kernel_rfl) (by kernel_rfl) (fun _ _ _ h => h) (Or.inl ⟨by rfl, by intro w hSw; go_split_ands; go_simp⟩) HS.out ?_
  simp only [Act.put, List.getElem_toArray, List.getElem_cons_zero, List.getElem_cons_succ, List.setIfInBounds_toArray, List.set_cons_zero, List.set_cons_succ]
  refine wpAnyH_ready (rs := [5]) (by kernel_rfl) (by simp) ?_
  refine AllReadyH.cons (o := _) rfl (fun K hK => ?_) AllReadyH.nil
  go_simp
  refine (cutAt_any s (m[4]'h4) _ (by omega) HC.out).mono ?_
  rintro e Z1 ⟨v1, rfl, ho1, hb1⟩
  have HX1 := hide (HX.out.trans (hb1.mono HX.out.size))
  have HO1 := hide (show RComp 0 Z1 v1 ((piecesL (m[4]'h4) s.data.toList).map asB) from RComp.mono (OS.rl (os_of_own (by rw [strs_pieces, List.length_map]; exact ho1) (fun x hx => by
    obtain ⟨p, hp, rfl⟩ := List.mem_map.1 hx
    rw [asB_size]
    have := HPL.out.2 p hp
    unfold maxLen; omega))) (Nat.zero_le _))
  clear ho1 hb1
  refine hK.out _ _ (HSS.out _ HX1.out) (fun _ => ?_)
  clear hK K HS
  have HS := hide (HSS.out _ HX1.out)
  refine wpAnyH_ready (rs := [8]) (by kernel_rfl) (by simp) ?_
  refine AllReadyH.cons (o := _) rfl (fun K hK => ?_) AllReadyH.nil
  go_simp
  refine (readListSub_any m v1 _ _ hm (by rw [List.length_map]; have := HPL.out.1; omega) (fun x hx => by
    obtain ⟨p, hp, rfl⟩ := List.mem_map.1 hx
    rw [asB_size]
    have := HPL.out.2 p hp
    omega) HO1.out).mono ?_
  rw [HRP.out]
  rintro e Z2 ⟨hr2, hb2⟩
  obtain ⟨u, b, xs, rfl, hxs, hRb, hln, hsz⟩ := readSub_parts hr2 HSM.out
  have HSZ := hide hsz
  clear hsz
  have HX2 := hide (HX1.out.trans (hb2.mono HX1.out.size))
  have HXS := hide hxs
  have HRB := hide hRb
  clear hr2 hb2 hxs hRb
  refine hK.out _ _ (HSS.out _ HX2.out) (fun _ => ?_)
  clear hK K HS
  have HS := hide (HSS.out _ HX2.out)
  refine wpAnyH_take (i := 9) (oi := _) (v := .tuple #[u, .bool b]) rfl (by kernel_rfl) (by kernel_rfl) (by kernel_rfl) (fun _ _ _ h => h) (Or.inl ⟨by rfl, by intro w hSw; go_split_ands; go_simp⟩) HS.out ?_
  simp only [Act.put, List.getElem_toArray, List.getElem_cons_zero, List.getElem_cons_succ, List.setIfInBounds_toArray, List.set_cons_zero, List.set_cons_succ]
  refine wpAnyH_take (i := 10) (oi := _) (v := u) rfl (by kernel_rfl) (by kernel_rfl) (by kernel_rfl) (fun _ _ _ h => h) (Or.inl ⟨by rfl, by intro w hSw; go_split_ands; go_simp⟩) HS.out ?_
  simp only [Act.put, List.getElem_toArray, List.getElem_cons_zero, List.getElem_cons_succ, List.setIfInBounds_toArray, List.set_cons_zero, List.set_cons_succ]
  refine wpAnyH_take (i := 11) (oi := _) (v := .bool b) rfl (by kernel_rfl) (by kernel_rfl) (by kernel_rfl) (fun _ _ _ h => h) (Or.inl ⟨by rfl, by intro w hSw; go_split_ands; go_simp⟩) HS.out ?_
  simp only [Act.put, List.getElem_toArray, List.getElem_cons_zero, List.getElem_cons_succ, List.setIfInBounds_toArray, List.set_cons_zero, List.set_cons_succ]
  refine wpAnyH_take (i := 12) (oi := _) (v := u) rfl (by kernel_rfl) (by kernel_rfl) (by kernel_rfl) (fun _ _ _ h => h) (Or.inl ⟨by rfl, by intro w hSw; go_split_ands; go_simp⟩) HS.out ?_
  simp only [Act.put, List.getElem_toArray, List.getElem_cons_zero, List.getElem_cons_succ, List.setIfInBounds_toArray, List.set_cons_zero, List.set_cons_succ]
  refine wpAnyH_take (i := 13) (oi := _) (v := .bool b) rfl (by kernel_rfl) (by kernel_rfl) (by kernel_rfl) (fun _ _ _ h => h) (Or.inl ⟨by rfl, by intro w hSw; go_split_ands; go_simp⟩) HS.out ?_
  simp only [Act.put, List.getElem_toArray, List.getElem_cons_zero, List.getElem_cons_succ, List.setIfInBounds_toArray, List.set_cons_zero, List.set_cons_succ]
  refine wpAnyH_done (by kernel_rfl) ?_ _
  go_wp2_with fail
  refine (compOf_any u xs _ hln HXS.out).mono ?_
  rintro e Z3 ⟨⟨q, B, rfl, hB, ho⟩, hb3⟩
  obtain ⟨p3, c3, rfl⟩ := own_sliceC ho
  have hWs := HWs.out
  have HX3 := hide (HX2.out.trans (hb3.mono HX2.out.size))
  have HRO := hide (HR2.out.below HX3.out HR2.out.lt)
  have HOC := hide (show OComp B Z3.heap.size Z3 (.slice p3 (xs.map Value.string).length c3) xs from os_of_own (by rw [List.length_map] at ho ⊢; exact ho) (fun x hx => by have := HSZ.out x hx; unfold maxLen; omega))
  have hBZ : W.heap.size ≤ B := Nat.le_trans HX2.out.size hB
  have hfr := HRO.out.free 0
  have hw0 : Z3.cell? ⟨w.heap.size + 1, 0, none⟩ = some (.slice none 0 0) := HRO.out.cell 0
  rw [List.length_map] at HOC
  have HTT := hide (HRO.out.set (j := 0) (.slice p3 xs.length c3))
  have HBF := hide ((HBW.out.trans (HX3.out.mono HBW.out.size)).setCell (p := ⟨w.heap.size + 1, 0, none⟩) (by show w.heap.size ≤ w.heap.size + 1; omega) (.slice p3 xs.length c3))
  have HOF := hide (show OComp w.heap.size (Z3.setCell ⟨w.heap.size + 1, 0, none⟩ (.slice p3 xs.length c3)).heap.size (Z3.setCell ⟨w.heap.size + 1, 0, none⟩ (.slice p3 xs.length c3)) (.slice p3 xs.length c3) xs by
    have es : (Z3.setCell ⟨w.heap.size + 1, 0, none⟩ (.slice p3 xs.length c3)).heap.size = Z3.heap.size := by simp [World.setCell]
    rw [es]
    exact Keeps.wide (by omega) (Nat.le_refl _) (Keeps.go (SameIn.set Z3 (.slice p3 xs.length c3) (by omega)) HOC.out))
  clear ho hb3 HOC hBZ hB
  go_wp2
  obtain ⟨V, hV⟩ : ∃ V, V = Z3.setCell ⟨w.heap.size + 1, 0, none⟩ (.slice p3 xs.length c3) := ⟨_, rfl⟩
  rw [← hV] at HTT HBF HOF ⊢
  clear hV
  have v0 : V.cell? ⟨w.heap.size + 1, 0, none⟩ = some (.slice p3 xs.length c3) := HTT.out.cell 0
  exact bodyPost_ret (v := .tuple #[.agg #[.slice p3 xs.length c3], .bool b]) (by simp [results, Tryz.results89, go_sem, v0]) rfl ⟨⟨_, b, xs, rfl, HOF.out, HRB.out⟩, HBF.out⟩
end Go.Proofs.YtckcfjibiidafaaGreat
