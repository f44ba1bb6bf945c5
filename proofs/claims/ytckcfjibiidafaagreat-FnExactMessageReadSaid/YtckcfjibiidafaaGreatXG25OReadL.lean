/- Lists that are read, one level up: of the program. -/
import Derived.Test.YtckcfjibiidafaaGreatXG24OReadM
import Derived.Test.YtckcfjibiidafaaGreatXG3FText
namespace Go.Proofs.YtckcfjibiidafaaGreat
open Go.RowKit
/-- What readList hands back. -/
def ListRes {α : Type} (T : TypeId) (RR : Nat → Nat → World → Value → α → Prop) (b0 : Nat) (R : Option (List α)) (e : Ending) (w' : World) : Prop :=
  ∃ u b xs, e = .returned (.tuple #[u, .bool b]) ∧ OL T RR b0 w'.heap.size w' u xs ∧ R = (if b then some xs else none)
/-- What rep hands back. -/
def ItemRes {α : Type} (RR : Nat → Nat → World → Value → α → Prop) (b0 : Nat) (R : Option α) (e : Ending) (w' : World) : Prop :=
  ∃ u b xs, e = .returned (.tuple #[.agg #[u], .bool b]) ∧ RR b0 w'.heap.size w' u xs ∧ R = (if b then some xs else none)
theorem read_pieces {β : Type} (rd : List UInt8 → Option β) (c : UInt8) (L : List UInt8) : mapO (fun p : ByteArray => rd p.data.toList) ((piecesL c L).map asB) = readL c rd L := by
  rw [mapO_comp]
  unfold readL piecesL
  split
  · rfl
  · simp [asB]

theorem enters_comp : ∀ args w, (callFunc 89 args).run Tryz.prog w = .ok (.enter 89 args) w := enters_of Tryz.func89 (by kernel_rfl) rfl
set_option maxHeartbeats 8000000 in
set_option maxRecDepth 100000 in
theorem readList_comp (m : ByteArray) (v : Value) (ps : List ByteArray) (w : World) (hm : marksB m = true) (hn : ps.length ≤ 1000000) (hsz : ∀ x ∈ ps, x.size ≤ 900000) (hr : RComp 0 w v ps) :
    Calls Tryz.prog 88 #[.agg #[.string m, .bool false], v, .func (.func 89) #[.agg #[.string m, .bool false]] #[]] w fun e w' =>
      ListRes 71 OComp w.heap.size (mapO (fun p : ByteArray => compP m p.data.toList) ps) e w' ∧ Below w.heap.size w w' := by
  obtain ⟨i0, hi, hz0, hz1, hz2⟩ := info_parts Tryz.infoCopyComp
  have HZC := hide (show (Value.agg #[.slice none 0 0]).cells.size = 1 from rfl)
  obtain ⟨p, cap, rfl, q1, q2, q4⟩ := hr
  have H4 := hide q4
  have HSZ := hide hsz
  clear q4 q1 q2 hsz
  obtain ⟨F, hF⟩ : ∃ F : ByteArray → Option (List ByteArray), F = (fun p : ByteArray => compP m p.data.toList) := ⟨_, rfl⟩
  have HF := hide (show ∀ x, F x = compP m x.data.toList from fun x => by rw [hF])
  rw [← hF]
  clear hF
  obtain ⟨R, hR⟩ : ∃ R, R = mapO F ps := ⟨_, rfl⟩
  rw [← hR]
  have HR0 := hide (show R = (mapO F (ps.drop 0)).map ([] ++ ·) by rw [hR, List.drop_zero]; cases mapO F ps <;> simp)
  clear hR
  obtain ⟨W, hW⟩ : ∃ W, W = w.alloc (.cells #[.string m, .bool false] 47) := ⟨_, rfl⟩
  have HBW := hide (show Below w.heap.size w W by rw [hW]; exact (Below.refl _ _).alloc (Nat.le_refl _) _)
  have HWs := hide (show W.heap.size = w.heap.size + 1 by rw [hW]; simp)
  have HBX : Hid (Row W w.heap.size 47 [.string m, .bool false]) := by rw [hW]; exact row_new w _ _
  have HO := hide (World.ownsRow_nil W W.heap.size 71 1)
  have eg := enters_comp
  go_enter Tryz.func88, Tryz.ntmps88
  go_wp2_with fail
  rw [← hW]
  clear hW
  go_loopw [8, 15] (fun l i wr => ∃ (X : World) (k : Nat) (D : List (List ByteArray)) (vs : List Value), X = wr ∧ k ≤ ps.length ∧ i = .int .i64 (k : Int) ∧ Hid (D.length = k) ∧ Hid (R = (mapO F (ps.drop k)).map (D ++ ·)) ∧ Hid (X.ownsRow W.heap.size 71 1 l k vs) ∧ Hid (Below W.heap.size W X) ∧ Hid (vs.length = k) ∧ Hid (∃ A B : Nat → Nat, (∀ j (h1 : j < vs.length) (h2 : j < D.length), W.heap.size ≤ A j ∧ B j ≤ X.heap.size ∧ (∀ g, l.ownBlock = some g → B j ≤ g ∨ g < A j) ∧ OComp (A j) (B j) X vs[j] D[j]) ∧ ∀ i j, i < j → j < k → B i ≤ A j)) (fun _ i _ => ps.length - (intOf i).toNat)
  case atStart => exact ⟨_, 0, [], [], rfl, Nat.zero_le _, rfl, hide rfl, HR0, HO, hide (Below.refl _ _), hide rfl, hide ⟨fun _ => 0, fun _ => 0, fun j h1 _ => absurd h1 (by simp), fun i j _ h => absurd h (by omega)⟩⟩
  case round =>
    obtain ⟨X, k, D, vs, rfl, hk, rfl, HD, HS, HOw, HB, HLn, HEl⟩ := hrel
    have HBw := hide (HBW.out.trans (HB.out.mono HBW.out.size))
    by_cases hlt : k < ps.length
    · obtain ⟨gg, off, hp, hg, _, hc⟩ := H4.out (by omega)
      subst hp
      obtain ⟨u0, hu, rfl, _⟩ := hc k hlt
      have hck : X.cell? ⟨gg, off + k, none⟩ = some (.string (ps[k]'hlt)) := by rw [HBw.out.cell (p := ⟨gg, off + k, none⟩) hg]; exact hu
      have HSP := hide (HSZ.out _ (List.getElem_mem hlt))
      have HST := hide (mapO_step F ps k hlt D R HS.out)
      clear hu hc
      generalize hpk : (ps[k]'hlt) = pk at *
      clear hpk
      go_wp2_with fail
      refine (compR_any m pk _ hm HSP.out).mono ?_
      rintro e X2 ⟨⟨u2, b2, y, rfl, hy, hRy⟩, hb2⟩
      obtain ⟨p2, c2, rfl⟩ := hy.isSlice
      rw [← HF.out] at hRy
      have HB22 := hide hb2
      have HBm := hide (HB.out.trans (hb2.mono HB.out.size))
      have HBA := hide (HBm.out.alloc HBm.out.size (.cells #[.slice p2 y.length c2] 71))
      cases b2 with
      | false =>
        have HN := hide (HST.out.1 (by simpa using hRy))
        have HBE := hide (HBW.out.trans (HBA.out.mono HBW.out.size))
        clear hb2 hy hRy
        go_wp2
        exact bodyPost_ret (v := .tuple #[.slice none 0 0, .bool false]) (by simp [results, Tryz.results88, go_sem]) rfl ⟨⟨_, false, [], rfl, ⟨none, 0, rfl, Nat.le_refl _, by unfold maxLen; omega, fun h => by simp at h⟩, by rw [HN.out]; rfl⟩, HBE.out⟩
      | true =>
        have HN := hide (HST.out.2 y (by simpa using hRy))
        have HR2 := hide hy
        have HLT := hide HOw.out.lt
        have hba : Below X2.heap.size X2 (X2.alloc (.cells #[.slice p2 y.length c2] 71)) := (Below.refl _ _).alloc (Nat.le_refl _) _
        have HO2 := hide (((own_below HOw.out hb2).alloc (.cells #[.slice p2 y.length c2] 71)).alloc (.cells #[.slice p2 y.length c2] 71))
        have HB2 := hide (HBA.out.alloc HBA.out.size (.cells #[.slice p2 y.length c2] 71))
        have HSA : Hid ((X2.alloc (.cells #[.slice p2 y.length c2] 71)).heap.size = X2.heap.size + 1) := hide (by simp)
        have HSI : Hid (∀ a b, SameIn a b X2 (X2.alloc (.cells #[.slice p2 y.length c2] 71))) := hide (fun a b => SameIn.ofBelow hba)
        have HC1 := hide (cell_one_new (X2.alloc (.cells #[.slice p2 y.length c2] 71)) (.slice p2 y.length c2) 71)
        rw [HSA.out] at HC1
        have hlk : k ≤ 1000000 := by omega
        have hL3 : Hid (w.heap.size ≤ W.heap.size ∧ W.heap.size ≤ X.heap.size) := hide ⟨HBW.out.size, HB.out.size⟩
        clear hb2 hy hRy hba
        go_wp2_with (at_builtin; refine wpList_append_own_at ((X2.alloc (.cells #[.slice p2 y.length c2] 71)).alloc (.cells #[.slice p2 y.length c2] 71)) rfl (.tmp 27) (.tmp 29) 67 rfl W.heap.size 71 i0 _ 1 24 Tryz.underlying67 hi hz0 hz1 hz2 HZC.out (by omega) _ k vs rfl HO2.out ⟨X2.heap.size + 1, 0, none⟩ 1 _ [.slice p2 y.length c2] rfl rfl HC1.out (by simp [Value.oneCell']) (by unfold maxLen; omega) (by omega) (by have := HB2.out.size; exact this) ?_)
        intro v' w3 hown hgrow _ hat
        have HO3 := hide hown
        have HB3 := hide (HB2.out.grown hgrow HB2.out.size (fun k hk => (HO2.out.lt k hk).1))
        have HLn2 : Hid ((vs ++ [Value.slice p2 y.length c2]).length = k + 1) := by rw [List.length_append, HLn.out]; exact rfl
        have HD2 : Hid ((D ++ [y]).length = k + 1) := by rw [List.length_append, HD.out]; exact rfl
        have HEl2 : Hid (∃ A B : Nat → Nat, (∀ j (h1 : j < (vs ++ [Value.slice p2 y.length c2]).length) (h2 : j < (D ++ [y]).length), W.heap.size ≤ A j ∧ B j ≤ w3.heap.size ∧ (∀ g, v'.ownBlock = some g → B j ≤ g ∨ g < A j) ∧ OComp (A j) (B j) w3 (vs ++ [Value.slice p2 y.length c2])[j] (D ++ [y])[j]) ∧ ∀ i j, i < j → j < k + 1 → B i ≤ A j) := by
          obtain ⟨A, B, hE, hD⟩ := HEl.out
          have hs2 := HB22.out.size
          have hs3 := hgrow.size
          have hsA := HSA.out
          have hsa : ((X2.alloc (.cells #[.slice p2 y.length c2] 71)).alloc (.cells #[.slice p2 y.length c2] 71)).heap.size = X2.heap.size + 2 := by simp
          have hwX := hL3.out
          refine ⟨fun i => if i = k then X.heap.size else A i, fun i => if i = k then X2.heap.size else B i, fun j h1 h2 => ?_, fun i j hij hj => ?_⟩
          · rw [HLn2.out] at h1
            dsimp only
            by_cases hj : j = k
            · subst hj
              rw [if_pos rfl, if_pos rfl, List.getElem_append_right (by rw [HLn.out]; exact Nat.le_refl _)]
              simp only [HLn.out, Nat.sub_self, List.getElem_cons_zero]
              rw [List.getElem_append_right (by rw [HD.out]; exact Nat.le_refl _)]
              simp only [HD.out, Nat.sub_self, List.getElem_cons_zero]
              refine ⟨by omega, by omega, fun g hg => ?_, ?_⟩
              · rcases hat with h | h
                · rw [h] at hg
                  exact .inr (by have := (HLT.out g hg).2; omega)
                · rw [h] at hg
                  cases hg
                  exact .inl (by first | omega | (rw [hsa]; omega))
              · exact Keeps.go (grown_in hgrow (fun g hg => .inr (by have := (HLT.out g hg).2; omega))) (Keeps.go (SameIn.ofBelow ((Below.refl _ _).alloc (Nat.le_refl _) _)) (Keeps.go (HSI.out _ _) HR2.out))
            · have hjk : j < vs.length := by rw [HLn.out]; omega
              have hjd : j < D.length := by rw [HD.out]; omega
              obtain ⟨f1, f2, f3, f4⟩ := hE j hjk hjd
              rw [if_neg hj, if_neg hj, List.getElem_append_left hjk, List.getElem_append_left hjd]
              refine ⟨f1, by omega, fun g hg => ?_, ?_⟩
              · rcases hat with h | h
                · rw [h] at hg
                  exact f3 g hg
                · rw [h] at hg
                  cases hg
                  exact .inl (by first | omega | (rw [hsa]; omega))
              · exact Keeps.go (grown_in hgrow f3) (Keeps.go (SameIn.ofBelow ((Below.refl _ _).alloc (Nat.le_refl _) _)) (Keeps.go (HSI.out _ _) (Keeps.go (SameIn.ofBelow HB22.out) f4)))
          · have hik : i < vs.length := by rw [HLn.out]; omega
            have hid : i < D.length := by rw [HD.out]; omega
            obtain ⟨f1, f2, f3, f4⟩ := hE i hik hid
            dsimp only
            by_cases hjk : j = k
            · rw [if_pos hjk, if_neg (by omega)]; omega
            · rw [if_neg hjk, if_neg (by omega)]; exact hD i j hij (by omega)
        clear hown hgrow hat
        go_wp2
        go_roundw
        case rel => exact ⟨_, k + 1, D ++ [y], _, rfl, by omega, by go_num, HD2, HN, HO3, HB3, HLn2, HEl2⟩
        case measure => simp [intOf]; omega
    · have ek : k = ps.length := by omega
      have HN := hide (mapO_end F ps k (by omega) D R HS.out)
      have HBR := hide (HBX.out.below HB.out (by have := HWs.out; omega))
      have hcl : X.cell? ⟨w.heap.size, 1, none⟩ = some (.bool false) := HBR.out.cell 1
      have HOL := hide (show OL 71 OComp w.heap.size X.heap.size X _ D from Keeps.wide HBW.out.size (Nat.le_refl _) (ol_of_own HOw.out HD.out.symm HLn.out HEl.out))
      have hkI : (ps.length : Int) ≤ (k : Int) := by omega
      obtain ⟨pl, cl, hl⟩ := own_slice1 HOw.out
      subst hl
      clear ek
      go_wp2
      exact bodyPost_ret (v := .tuple #[.slice pl k cl, .bool true]) (by simp [results, Tryz.results88, go_sem]) rfl ⟨⟨_, true, D, rfl, HOL.out, by rw [HN.out]; rfl⟩, HBw.out⟩
set_option maxHeartbeats 8000000 in
set_option maxRecDepth 100000 in
theorem repR_any (m s : ByteArray) (w : World) (hm : marksB m = true) (hs : s.size ≤ 900000) :
    Calls Tryz.prog 77 #[.agg #[.string m, .bool false], .string s] w fun e w' => ItemRes ORep w.heap.size (repP m s.data.toList) e w' ∧ Below w.heap.size w w' := by
  have h5 := marksB_five hm
  have h4 : 1 < m.size := by omega
  have hc : (m[1]'h4).toNat < 128 := by
    have := mark_plain hm 1 (by omega)
    rw [bAt_get m 1 h4] at this
    simp only [plainR, decide_eq_true_eq] at this
    omega
  obtain ⟨R, hR⟩ : ∃ R, R = repP m s.data.toList := ⟨_, rfl⟩
  have hl : s.data.toList.length = s.size := bytes_len s
  have HPL := hide (piecesL_len (m[1]'h4) s.data.toList)
  rw [hl] at HPL
  have HRP := hide (show mapO (fun p : ByteArray => compP m p.data.toList) ((piecesL (m[1]'h4) s.data.toList).map asB) = R by rw [hR, ← bAt_get m 1 h4]; exact read_pieces _ _ _)
  rw [← hR]
  clear hR hl
  have HC := hide hc
  clear hc
  obtain ⟨c4, hc4⟩ : ∃ c4, c4 = m[1]'h4 := ⟨_, rfl⟩
  have HC4 := hide hc4
  obtain ⟨P, hP⟩ : ∃ P, P = piecesL (m[1]'h4) s.data.toList := ⟨_, rfl⟩
  have HP := hide hP
  clear hc4 hP
  obtain ⟨W, hW⟩ : ∃ W, W = (w.alloc (.cells #[.string m, .bool false] 47)).alloc (.cells #[.slice none 0 0] 69) := ⟨_, rfl⟩
  have HBW := hide (show Below w.heap.size w W by rw [hW]; exact ((Below.refl _ _).alloc (Nat.le_refl _) _).alloc (by simp) _)
  have HWs := hide (show W.heap.size = w.heap.size + 2 by rw [hW]; simp)
  have HR1 := hide (show Row W w.heap.size 47 [.string m, .bool false] by rw [hW]; exact (row_new w [.string m, .bool false] 47).alloc _)
  have HR2 := hide (show Row W (w.heap.size + 1) 69 [.slice none 0 0] by
    rw [hW]
    have := row_new (w.alloc (.cells #[.string m, .bool false] 47)) [.slice none 0 0] 69
    simpa using this)
  have HSS := hide (show ∀ y, Below W.heap.size W y → (fun y : World => y.cell? ⟨w.heap.size, 0, none⟩ = some (.string m) ∧ y.cell? ⟨w.heap.size, 1, none⟩ = some (.bool false)) y from fun y h => ⟨(HR1.out.below h HR1.out.lt).cell 0, (HR1.out.below h HR1.out.lt).cell 1⟩)
  go_enter Tryz.func77, Tryz.ntmps77
  go_wp2_with fail
  rw [← hW]
  clear hW
  refine wp_region_held (S := (fun y : World => y.cell? ⟨w.heap.size, 0, none⟩ = some (.string m) ∧ y.cell? ⟨w.heap.size, 1, none⟩ = some (.bool false))) (by kernel_rfl) ?_
  have HX := hide (show Below W.heap.size W { W with drawn := W.drawn + 1 } from (Below.refl _ _).drew)
  generalize ({ W with drawn := W.drawn + 1 } : World) = Z0 at HX ⊢
  have HS := hide (HSS.out _ HX.out)
  refine wpAnyH_take (i := 0) (oi := _) (v := .agg #[.string m, .bool false]) rfl (by kernel_rfl) (by kernel_rfl) (by kernel_rfl) (fun _ _ _ h => h) (Or.inl ⟨by rfl, by intro w hSw; go_split_ands; go_simp⟩) HS.out ?_
  simp only [Act.put, List.getElem_toArray, List.getElem_cons_zero, List.setIfInBounds_toArray, List.set_cons_zero, List.set_cons_succ]
  refine wpAnyH_take (i := 1) (oi := _) (v := .string s) rfl (by kernel_rfl) (by kernel_rfl) (by kernel_rfl) (fun _ _ _ h => h) (Or.inl ⟨by rfl, by intro w hSw; go_split_ands; go_simp⟩) HS.out ?_
  simp only [Act.put, List.getElem_toArray, List.getElem_cons_zero, List.getElem_cons_succ, List.setIfInBounds_toArray, List.set_cons_zero, List.set_cons_succ]
  refine wpAnyH_take (i := 2) (oi := _) (v := .pointer (some ⟨w.heap.size, 0, none⟩)) rfl (by kernel_rfl) (by kernel_rfl) (by kernel_rfl) (fun _ _ _ h => h) (Or.inl ⟨by rfl, by intro w hSw; go_split_ands; go_simp⟩) HS.out ?_
  simp only [Act.put, List.getElem_toArray, List.getElem_cons_zero, List.getElem_cons_succ, List.setIfInBounds_toArray, List.set_cons_zero, List.set_cons_succ]
  refine wpAnyH_take (i := 3) (oi := _) (v := .string m) rfl (by kernel_rfl) (by kernel_rfl) (by kernel_rfl) (fun _ _ _ h => h) (Or.inl ⟨by rfl, by intro w hSw; go_split_ands; go_simp⟩) HS.out ?_
  simp only [Act.put, List.getElem_toArray, List.getElem_cons_zero, List.getElem_cons_succ, List.setIfInBounds_toArray, List.set_cons_zero, List.set_cons_succ]
  refine wpAnyH_take (i := 4) (oi := _) (v := .int .u8 ((m[1]'h4).toNat : Int)) rfl (by kernel_rfl) (by kernel_rfl) (by kernel_rfl) (fun _ _ _ h => h) (Or.inl ⟨by rfl, by intro w hSw; go_split_ands; go_simp⟩) HS.out ?_
  simp only [Act.put, List.getElem_toArray, List.getElem_cons_zero, List.getElem_cons_succ, List.setIfInBounds_toArray, List.set_cons_zero, List.set_cons_succ]
  refine wpAnyH_take (i := 6) (oi := _) (v := .agg #[.string m, .bool false]) rfl (by kernel_rfl) (by kernel_rfl) (by kernel_rfl) (fun _ _ _ h => h) (Or.inl ⟨by rfl, by intro w hSw; go_split_ands; go_simp⟩) HS.out ?_
  simp only [Act.put, List.getElem_toArray, List.getElem_cons_zero, List.getElem_cons_succ, List.setIfInBounds_toArray, List.set_cons_zero, List.set_cons_succ]
  refine wpAnyH_take (i := 7) (oi := _) (v := .func (.func 89) #[.agg #[.string m, .bool false]] #[]) rfl (by kernel_rfl) (by kernel_rfl) (by kernel_rfl) (fun _ _ _ h => h) (Or.inl ⟨by rfl, by intro w hSw; go_split_ands; go_simp⟩) HS.out ?_
  simp only [Act.put, List.getElem_toArray, List.getElem_cons_zero, List.getElem_cons_succ, List.setIfInBounds_toArray, List.set_cons_zero, List.set_cons_succ]
  refine wpAnyH_ready (rs := [5]) (by kernel_rfl) (by simp) ?_
  refine AllReadyH.cons (o := _) rfl (fun K hK => ?_) AllReadyH.nil
  go_simp
  refine (cutAt_any s (m[1]'h4) _ (by omega) HC.out).mono ?_
  rintro e Z1 ⟨v1, rfl, ho1, hb1⟩
  have HX1 := hide (HX.out.trans (hb1.mono HX.out.size))
  have HO1 := hide (show RComp 0 Z1 v1 ((piecesL (m[1]'h4) s.data.toList).map asB) from RComp.mono (OS.rl (os_of_own (by rw [strs_pieces, List.length_map]; exact ho1) (fun x hx => by
    obtain ⟨p, hp, rfl⟩ := List.mem_map.1 hx
    rw [asB_size]
    have := HPL.out.2 p hp
    unfold maxLen; omega))) (Nat.zero_le _))
  clear ho1 hb1
  refine hK.out _ _ (HSS.out _ HX1.out) (fun _ => ?_)
  clear hK K HS
  have HS := hide (HSS.out _ HX1.out)
  refine wpAnyH_ready (rs := [8]) (by kernel_rfl) (by simp) ?_
  refine AllReadyH.cons (o := _) rfl (fun K hK => ?_) AllReadyH.nil
  go_simp
  refine (readList_comp m v1 _ _ hm (by rw [List.length_map]; have := HPL.out.1; omega) (fun x hx => by
    obtain ⟨p, hp, rfl⟩ := List.mem_map.1 hx
    rw [asB_size]
    have := HPL.out.2 p hp
    omega) HO1.out).mono ?_
  rw [HRP.out]
  rintro e Z2 ⟨⟨u, b, xs, rfl, hxs, hRb⟩, hb2⟩
  obtain ⟨p3, c3, rfl⟩ := hxs.isSlice
  have HX2 := hide (HX1.out.trans (hb2.mono HX1.out.size))
  have HXS := hide (show OL 71 OComp W.heap.size Z2.heap.size Z2 (.slice p3 xs.length c3) xs from Keeps.wide HX1.out.size (Nat.le_refl _) hxs)
  have HRB := hide hRb
  clear hb2 hxs hRb
  refine hK.out _ _ (HSS.out _ HX2.out) (fun _ => ?_)
  clear hK K HS
  have HS := hide (HSS.out _ HX2.out)
  refine wpAnyH_take (i := 9) (oi := _) (v := .tuple #[.slice p3 xs.length c3, .bool b]) rfl (by kernel_rfl) (by kernel_rfl) (by kernel_rfl) (fun _ _ _ h => h) (Or.inl ⟨by rfl, by intro w hSw; go_split_ands; go_simp⟩) HS.out ?_
  simp only [Act.put, List.getElem_toArray, List.getElem_cons_zero, List.getElem_cons_succ, List.setIfInBounds_toArray, List.set_cons_zero, List.set_cons_succ]
  refine wpAnyH_take (i := 10) (oi := _) (v := .slice p3 xs.length c3) rfl (by kernel_rfl) (by kernel_rfl) (by kernel_rfl) (fun _ _ _ h => h) (Or.inl ⟨by rfl, by intro w hSw; go_split_ands; go_simp⟩) HS.out ?_
  simp only [Act.put, List.getElem_toArray, List.getElem_cons_zero, List.getElem_cons_succ, List.setIfInBounds_toArray, List.set_cons_zero, List.set_cons_succ]
  refine wpAnyH_take (i := 11) (oi := _) (v := .bool b) rfl (by kernel_rfl) (by kernel_rfl) (by kernel_rfl) (fun _ _ _ h => h) (Or.inl ⟨by rfl, by intro w hSw; go_split_ands; go_simp⟩) HS.out ?_
  simp only [Act.put, List.getElem_toArray, List.getElem_cons_zero, List.getElem_cons_succ, List.setIfInBounds_toArray, List.set_cons_zero, List.set_cons_succ]
  refine wpAnyH_take (i := 12) (oi := _) (v := .slice p3 xs.length c3) rfl (by kernel_rfl) (by kernel_rfl) (by kernel_rfl) (fun _ _ _ h => h) (Or.inl ⟨by rfl, by intro w hSw; go_split_ands; go_simp⟩) HS.out ?_
  simp only [Act.put, List.getElem_toArray, List.getElem_cons_zero, List.getElem_cons_succ, List.setIfInBounds_toArray, List.set_cons_zero, List.set_cons_succ]
  refine wpAnyH_take (i := 13) (oi := _) (v := .bool b) rfl (by kernel_rfl) (by kernel_rfl) (by kernel_rfl) (fun _ _ _ h => h) (Or.inl ⟨by rfl, by intro w hSw; go_split_ands; go_simp⟩) HS.out ?_
  simp only [Act.put, List.getElem_toArray, List.getElem_cons_zero, List.getElem_cons_succ, List.setIfInBounds_toArray, List.set_cons_zero, List.set_cons_succ]
  refine wpAnyH_done (by kernel_rfl) ?_ _
  have hWs := HWs.out
  have HRO := hide (HR2.out.below HX2.out HR2.out.lt)
  have hfr := HRO.out.free 0
  have hw0 : Z2.cell? ⟨w.heap.size + 1, 0, none⟩ = some (.slice none 0 0) := HRO.out.cell 0
  have HTT := hide (HRO.out.set (j := 0) (.slice p3 xs.length c3))
  have HBF := hide ((HBW.out.trans (HX2.out.mono HBW.out.size)).setCell (p := ⟨w.heap.size + 1, 0, none⟩) (by show w.heap.size ≤ w.heap.size + 1; omega) (.slice p3 xs.length c3))
  have HOF := hide (show ORep w.heap.size (Z2.setCell ⟨w.heap.size + 1, 0, none⟩ (.slice p3 xs.length c3)).heap.size (Z2.setCell ⟨w.heap.size + 1, 0, none⟩ (.slice p3 xs.length c3)) (.slice p3 xs.length c3) xs by
    have es : (Z2.setCell ⟨w.heap.size + 1, 0, none⟩ (.slice p3 xs.length c3)).heap.size = Z2.heap.size := by simp [World.setCell]
    rw [es]
    exact Keeps.wide (by omega : w.heap.size ≤ W.heap.size) (Nat.le_refl _) (Keeps.go (SameIn.set Z2 (.slice p3 xs.length c3) (by omega)) HXS.out))
  go_wp2
  obtain ⟨V, hV⟩ : ∃ V, V = Z2.setCell ⟨w.heap.size + 1, 0, none⟩ (.slice p3 xs.length c3) := ⟨_, rfl⟩
  rw [← hV] at HTT HBF HOF ⊢
  clear hV
  have v0 : V.cell? ⟨w.heap.size + 1, 0, none⟩ = some (.slice p3 xs.length c3) := HTT.out.cell 0
  exact bodyPost_ret (v := .tuple #[.agg #[.slice p3 xs.length c3], .bool b]) (by simp [results, Tryz.results77, go_sem, v0]) rfl ⟨⟨_, b, xs, rfl, HOF.out, HRB.out⟩, HBF.out⟩

theorem enters_rep : ∀ args w, (callFunc 77 args).run Tryz.prog w = .ok (.enter 77 args) w := enters_of Tryz.func77 (by kernel_rfl) rfl
set_option maxHeartbeats 8000000 in
set_option maxRecDepth 100000 in
theorem readList_rep (m : ByteArray) (v : Value) (ps : List ByteArray) (w : World) (hm : marksB m = true) (hn : ps.length ≤ 1000000) (hsz : ∀ x ∈ ps, x.size ≤ 900000) (hr : RComp 0 w v ps) :
    Calls Tryz.prog 76 #[.agg #[.string m, .bool false], v, .func (.func 77) #[.agg #[.string m, .bool false]] #[]] w fun e w' =>
      ListRes 69 ORep w.heap.size (mapO (fun p : ByteArray => repP m p.data.toList) ps) e w' ∧ Below w.heap.size w w' := by
  obtain ⟨i0, hi, hz0, hz1, hz2⟩ := info_parts Tryz.infoCopyRep
  have HZC := hide (show (Value.agg #[.slice none 0 0]).cells.size = 1 from rfl)
  obtain ⟨p, cap, rfl, q1, q2, q4⟩ := hr
  have H4 := hide q4
  have HSZ := hide hsz
  clear q4 q1 q2 hsz
  obtain ⟨F, hF⟩ : ∃ F : ByteArray → Option (List (List ByteArray)), F = (fun p : ByteArray => repP m p.data.toList) := ⟨_, rfl⟩
  have HF := hide (show ∀ x, F x = repP m x.data.toList from fun x => by rw [hF])
  rw [← hF]
  clear hF
  obtain ⟨R, hR⟩ : ∃ R, R = mapO F ps := ⟨_, rfl⟩
  rw [← hR]
  have HR0 := hide (show R = (mapO F (ps.drop 0)).map ([] ++ ·) by rw [hR, List.drop_zero]; cases mapO F ps <;> simp)
  clear hR
  obtain ⟨W, hW⟩ : ∃ W, W = w.alloc (.cells #[.string m, .bool false] 47) := ⟨_, rfl⟩
  have HBW := hide (show Below w.heap.size w W by rw [hW]; exact (Below.refl _ _).alloc (Nat.le_refl _) _)
  have HWs := hide (show W.heap.size = w.heap.size + 1 by rw [hW]; simp)
  have HBX : Hid (Row W w.heap.size 47 [.string m, .bool false]) := by rw [hW]; exact row_new w _ _
  have HO := hide (World.ownsRow_nil W W.heap.size 69 1)
  have eg := enters_rep
  go_enter Tryz.func76, Tryz.ntmps76
  go_wp2_with fail
  rw [← hW]
  clear hW
  go_loopw [8, 15] (fun l i wr => ∃ (X : World) (k : Nat) (D : List (List (List ByteArray))) (vs : List Value), X = wr ∧ k ≤ ps.length ∧ i = .int .i64 (k : Int) ∧ Hid (D.length = k) ∧ Hid (R = (mapO F (ps.drop k)).map (D ++ ·)) ∧ Hid (X.ownsRow W.heap.size 69 1 l k vs) ∧ Hid (Below W.heap.size W X) ∧ Hid (vs.length = k) ∧ Hid (∃ A B : Nat → Nat, (∀ j (h1 : j < vs.length) (h2 : j < D.length), W.heap.size ≤ A j ∧ B j ≤ X.heap.size ∧ (∀ g, l.ownBlock = some g → B j ≤ g ∨ g < A j) ∧ ORep (A j) (B j) X vs[j] D[j]) ∧ ∀ i j, i < j → j < k → B i ≤ A j)) (fun _ i _ => ps.length - (intOf i).toNat)
  case atStart => exact ⟨_, 0, [], [], rfl, Nat.zero_le _, rfl, hide rfl, HR0, HO, hide (Below.refl _ _), hide rfl, hide ⟨fun _ => 0, fun _ => 0, fun j h1 _ => absurd h1 (by simp), fun i j _ h => absurd h (by omega)⟩⟩
  case round =>
    obtain ⟨X, k, D, vs, rfl, hk, rfl, HD, HS, HOw, HB, HLn, HEl⟩ := hrel
    have HBw := hide (HBW.out.trans (HB.out.mono HBW.out.size))
    by_cases hlt : k < ps.length
    · obtain ⟨gg, off, hp, hg, _, hc⟩ := H4.out (by omega)
      subst hp
      obtain ⟨u0, hu, rfl, _⟩ := hc k hlt
      have hck : X.cell? ⟨gg, off + k, none⟩ = some (.string (ps[k]'hlt)) := by rw [HBw.out.cell (p := ⟨gg, off + k, none⟩) hg]; exact hu
      have HSP := hide (HSZ.out _ (List.getElem_mem hlt))
      have HST := hide (mapO_step F ps k hlt D R HS.out)
      clear hu hc
      generalize hpk : (ps[k]'hlt) = pk at *
      clear hpk
      go_wp2_with fail
      refine (repR_any m pk _ hm HSP.out).mono ?_
      rintro e X2 ⟨⟨u2, b2, y, rfl, hy, hRy⟩, hb2⟩
      obtain ⟨p2, c2, rfl⟩ := hy.isSlice
      rw [← HF.out] at hRy
      have HB22 := hide hb2
      have HBm := hide (HB.out.trans (hb2.mono HB.out.size))
      have HBA := hide (HBm.out.alloc HBm.out.size (.cells #[.slice p2 y.length c2] 69))
      cases b2 with
      | false =>
        have HN := hide (HST.out.1 (by simpa using hRy))
        have HBE := hide (HBW.out.trans (HBA.out.mono HBW.out.size))
        clear hb2 hy hRy
        go_wp2
        exact bodyPost_ret (v := .tuple #[.slice none 0 0, .bool false]) (by simp [results, Tryz.results76, go_sem]) rfl ⟨⟨_, false, [], rfl, ⟨none, 0, rfl, Nat.le_refl _, by unfold maxLen; omega, fun h => by simp at h⟩, by rw [HN.out]; rfl⟩, HBE.out⟩
      | true =>
        have HN := hide (HST.out.2 y (by simpa using hRy))
        have HR2 := hide hy
        have HLT := hide HOw.out.lt
        have hba : Below X2.heap.size X2 (X2.alloc (.cells #[.slice p2 y.length c2] 69)) := (Below.refl _ _).alloc (Nat.le_refl _) _
        have HO2 := hide (((own_below HOw.out hb2).alloc (.cells #[.slice p2 y.length c2] 69)).alloc (.cells #[.slice p2 y.length c2] 69))
        have HB2 := hide (HBA.out.alloc HBA.out.size (.cells #[.slice p2 y.length c2] 69))
        have HSA : Hid ((X2.alloc (.cells #[.slice p2 y.length c2] 69)).heap.size = X2.heap.size + 1) := hide (by simp)
        have HSI : Hid (∀ a b, SameIn a b X2 (X2.alloc (.cells #[.slice p2 y.length c2] 69))) := hide (fun a b => SameIn.ofBelow hba)
        have HC1 := hide (cell_one_new (X2.alloc (.cells #[.slice p2 y.length c2] 69)) (.slice p2 y.length c2) 69)
        rw [HSA.out] at HC1
        have hlk : k ≤ 1000000 := by omega
        have hL3 : Hid (w.heap.size ≤ W.heap.size ∧ W.heap.size ≤ X.heap.size) := hide ⟨HBW.out.size, HB.out.size⟩
        clear hb2 hy hRy hba
        go_wp2_with (at_builtin; refine wpList_append_own_at ((X2.alloc (.cells #[.slice p2 y.length c2] 69)).alloc (.cells #[.slice p2 y.length c2] 69)) rfl (.tmp 27) (.tmp 29) 52 rfl W.heap.size 69 i0 _ 1 24 Tryz.underlying52 hi hz0 hz1 hz2 HZC.out (by omega) _ k vs rfl HO2.out ⟨X2.heap.size + 1, 0, none⟩ 1 _ [.slice p2 y.length c2] rfl rfl HC1.out (by simp [Value.oneCell']) (by unfold maxLen; omega) (by omega) (by have := HB2.out.size; exact this) ?_)
        intro v' w3 hown hgrow _ hat
        have HO3 := hide hown
        have HB3 := hide (HB2.out.grown hgrow HB2.out.size (fun k hk => (HO2.out.lt k hk).1))
        have HLn2 : Hid ((vs ++ [Value.slice p2 y.length c2]).length = k + 1) := by rw [List.length_append, HLn.out]; exact rfl
        have HD2 : Hid ((D ++ [y]).length = k + 1) := by rw [List.length_append, HD.out]; exact rfl
        have HEl2 : Hid (∃ A B : Nat → Nat, (∀ j (h1 : j < (vs ++ [Value.slice p2 y.length c2]).length) (h2 : j < (D ++ [y]).length), W.heap.size ≤ A j ∧ B j ≤ w3.heap.size ∧ (∀ g, v'.ownBlock = some g → B j ≤ g ∨ g < A j) ∧ ORep (A j) (B j) w3 (vs ++ [Value.slice p2 y.length c2])[j] (D ++ [y])[j]) ∧ ∀ i j, i < j → j < k + 1 → B i ≤ A j) := by
          obtain ⟨A, B, hE, hD⟩ := HEl.out
          have hs2 := HB22.out.size
          have hs3 := hgrow.size
          have hsA := HSA.out
          have hsa : ((X2.alloc (.cells #[.slice p2 y.length c2] 69)).alloc (.cells #[.slice p2 y.length c2] 69)).heap.size = X2.heap.size + 2 := by simp
          have hwX := hL3.out
          refine ⟨fun i => if i = k then X.heap.size else A i, fun i => if i = k then X2.heap.size else B i, fun j h1 h2 => ?_, fun i j hij hj => ?_⟩
          · rw [HLn2.out] at h1
            dsimp only
            by_cases hj : j = k
            · subst hj
              rw [if_pos rfl, if_pos rfl, List.getElem_append_right (by rw [HLn.out]; exact Nat.le_refl _)]
              simp only [HLn.out, Nat.sub_self, List.getElem_cons_zero]
              rw [List.getElem_append_right (by rw [HD.out]; exact Nat.le_refl _)]
              simp only [HD.out, Nat.sub_self, List.getElem_cons_zero]
              refine ⟨by omega, by omega, fun g hg => ?_, ?_⟩
              · rcases hat with h | h
                · rw [h] at hg
                  exact .inr (by have := (HLT.out g hg).2; omega)
                · rw [h] at hg
                  cases hg
                  exact .inl (by first | omega | (rw [hsa]; omega))
              · exact Keeps.go (grown_in hgrow (fun g hg => .inr (by have := (HLT.out g hg).2; omega))) (Keeps.go (SameIn.ofBelow ((Below.refl _ _).alloc (Nat.le_refl _) _)) (Keeps.go (HSI.out _ _) HR2.out))
            · have hjk : j < vs.length := by rw [HLn.out]; omega
              have hjd : j < D.length := by rw [HD.out]; omega
              obtain ⟨f1, f2, f3, f4⟩ := hE j hjk hjd
              rw [if_neg hj, if_neg hj, List.getElem_append_left hjk, List.getElem_append_left hjd]
              refine ⟨f1, by omega, fun g hg => ?_, ?_⟩
              · rcases hat with h | h
                · rw [h] at hg
                  exact f3 g hg
                · rw [h] at hg
                  cases hg
                  exact .inl (by first | omega | (rw [hsa]; omega))
              · exact Keeps.go (grown_in hgrow f3) (Keeps.go (SameIn.ofBelow ((Below.refl _ _).alloc (Nat.le_refl _) _)) (Keeps.go (HSI.out _ _) (Keeps.go (SameIn.ofBelow HB22.out) f4)))
          · have hik : i < vs.length := by rw [HLn.out]; omega
            have hid : i < D.length := by rw [HD.out]; omega
            obtain ⟨f1, f2, f3, f4⟩ := hE i hik hid
            dsimp only
            by_cases hjk : j = k
            · rw [if_pos hjk, if_neg (by omega)]; omega
            · rw [if_neg hjk, if_neg (by omega)]; exact hD i j hij (by omega)
        clear hown hgrow hat
        go_wp2
        go_roundw
        case rel => exact ⟨_, k + 1, D ++ [y], _, rfl, by omega, by go_num, HD2, HN, HO3, HB3, HLn2, HEl2⟩
        case measure => simp [intOf]; omega
    · have ek : k = ps.length := by omega
      have HN := hide (mapO_end F ps k (by omega) D R HS.out)
      have HBR := hide (HBX.out.below HB.out (by have := HWs.out; omega))
      have hcl : X.cell? ⟨w.heap.size, 1, none⟩ = some (.bool false) := HBR.out.cell 1
      have HOL := hide (show OL 69 ORep w.heap.size X.heap.size X _ D from Keeps.wide HBW.out.size (Nat.le_refl _) (ol_of_own HOw.out HD.out.symm HLn.out HEl.out))
      have hkI : (ps.length : Int) ≤ (k : Int) := by omega
      obtain ⟨pl, cl, hl⟩ := own_slice1 HOw.out
      subst hl
      clear ek
      go_wp2
      exact bodyPost_ret (v := .tuple #[.slice pl k cl, .bool true]) (by simp [results, Tryz.results76, go_sem]) rfl ⟨⟨_, true, D, rfl, HOL.out, by rw [HN.out]; rfl⟩, HBw.out⟩
end Go.Proofs.YtckcfjibiidafaaGreat
/- What stands within what, behind the program's interface: inner, partEmpty, partLimits, leaveOutEnd. -/
namespace Go.Proofs.YtckcfjibiidafaaGreat
open Go.RowKit

/-- A part that holds a list. -/
def RI {α : Type} (T : TypeId) (R : World → Value → α → Prop) (w : World) (v : Value) (x : α) : Prop := ∃ u, v = .iface T (.agg #[u]) ∧ R w u x
def RIs (_ : World) (v : Value) (x : ByteArray) : Prop := v = .iface 105 (.string x) ∧ x.size ≤ maxLen
instance {α : Type} (B : Nat) (T : TypeId) (R : World → Value → α → Prop) [Lasts B R] : Lasts B (RI T R) := ⟨fun hs ⟨u, e, h⟩ => ⟨u, e, Lasts.go hs h⟩⟩
instance (B : Nat) : Lasts B RIs := ⟨fun _ h => h⟩
abbrev PSub : World → Value → ByteArray → Prop := RIs
abbrev PComp : World → Value → List ByteArray → Prop := RI 71 (RComp 0)
abbrev PRep : World → Value → List (List ByteArray) → Prop := RI 69 (RRep 0)
abbrev PField : World → Value → List (List (List ByteArray)) → Prop := RI 54 (RFld 0)

theorem Tryz.infoPart : (Tryz.prog.info? 104).map (fun i => (i.zero, i.size, i.bytes)) = some (some .nilIface, 1, 16) := by kernel_rfl
def lenOf : Value → Nat
  | .slice _ n _ => n
  | _ => 0
theorem set_snocP (vs Z : List Value) (k n : Nat) (u : Value) (h : vs.length = k) (hk : k < n) (hZ : Z.length = n) : (vs ++ Z.drop k).set k u = (vs ++ [u]) ++ Z.drop (k + 1) := by
  rw [List.set_append_right _ _ (by omega), h, Nat.sub_self, List.drop_eq_getElem_cons (by omega : k < Z.length), List.set_cons_zero, List.append_assoc]
  rfl
theorem Tryz.innerField (v : Value) (w : World) : (Go.method 255 54 v "loop.example/g00416/impl.inner").run Tryz.prog w = .ok (122, v) w := by kernel_rfl
theorem Tryz.asFieldField (v : Value) (xT : TypeId) (w : World) : (Instr.typeAssert (.iface 54 v) xT 54 true).run Tryz.prog w = .ok (.tuple #[v, .bool true]) w := by kernel_rfl
theorem Tryz.asFieldRep (v : Value) (xT : TypeId) (w : World) : (Instr.typeAssert (.iface 54 v) xT 69 true).run Tryz.prog w = .ok (.tuple #[.agg #[.slice none 0 0], .bool false]) w := by kernel_rfl
theorem Tryz.asFieldComp (v : Value) (xT : TypeId) (w : World) : (Instr.typeAssert (.iface 54 v) xT 71 true).run Tryz.prog w = .ok (.tuple #[.agg #[.slice none 0 0], .bool false]) w := by kernel_rfl
theorem Tryz.asFieldsubPart (v : Value) (xT : TypeId) (w : World) : (Instr.typeAssert (.iface 54 v) xT 105 true).run Tryz.prog w = .ok (.tuple #[.string ⟨#[]⟩, .bool false]) w := by kernel_rfl
theorem Tryz.innerRep (v : Value) (w : World) : (Go.method 255 69 v "loop.example/g00416/impl.inner").run Tryz.prog w = .ok (124, v) w := by kernel_rfl
theorem Tryz.asRepField (v : Value) (xT : TypeId) (w : World) : (Instr.typeAssert (.iface 69 v) xT 54 true).run Tryz.prog w = .ok (.tuple #[.agg #[.slice none 0 0], .bool false]) w := by kernel_rfl
theorem Tryz.asRepRep (v : Value) (xT : TypeId) (w : World) : (Instr.typeAssert (.iface 69 v) xT 69 true).run Tryz.prog w = .ok (.tuple #[v, .bool true]) w := by kernel_rfl
theorem Tryz.asRepComp (v : Value) (xT : TypeId) (w : World) : (Instr.typeAssert (.iface 69 v) xT 71 true).run Tryz.prog w = .ok (.tuple #[.agg #[.slice none 0 0], .bool false]) w := by kernel_rfl
theorem Tryz.asRepsubPart (v : Value) (xT : TypeId) (w : World) : (Instr.typeAssert (.iface 69 v) xT 105 true).run Tryz.prog w = .ok (.tuple #[.string ⟨#[]⟩, .bool false]) w := by kernel_rfl
theorem Tryz.innerComp (v : Value) (w : World) : (Go.method 255 71 v "loop.example/g00416/impl.inner").run Tryz.prog w = .ok (126, v) w := by kernel_rfl
theorem Tryz.asCompField (v : Value) (xT : TypeId) (w : World) : (Instr.typeAssert (.iface 71 v) xT 54 true).run Tryz.prog w = .ok (.tuple #[.agg #[.slice none 0 0], .bool false]) w := by kernel_rfl
theorem Tryz.asCompRep (v : Value) (xT : TypeId) (w : World) : (Instr.typeAssert (.iface 71 v) xT 69 true).run Tryz.prog w = .ok (.tuple #[.agg #[.slice none 0 0], .bool false]) w := by kernel_rfl
theorem Tryz.asCompComp (v : Value) (xT : TypeId) (w : World) : (Instr.typeAssert (.iface 71 v) xT 71 true).run Tryz.prog w = .ok (.tuple #[v, .bool true]) w := by kernel_rfl
theorem Tryz.asCompsubPart (v : Value) (xT : TypeId) (w : World) : (Instr.typeAssert (.iface 71 v) xT 105 true).run Tryz.prog w = .ok (.tuple #[.string ⟨#[]⟩, .bool false]) w := by kernel_rfl
theorem Tryz.innersubPart (v : Value) (w : World) : (Go.method 255 105 v "loop.example/g00416/impl.inner").run Tryz.prog w = .ok (129, v) w := by kernel_rfl
theorem Tryz.assubPartField (v : Value) (xT : TypeId) (w : World) : (Instr.typeAssert (.iface 105 v) xT 54 true).run Tryz.prog w = .ok (.tuple #[.agg #[.slice none 0 0], .bool false]) w := by kernel_rfl
theorem Tryz.assubPartRep (v : Value) (xT : TypeId) (w : World) : (Instr.typeAssert (.iface 105 v) xT 69 true).run Tryz.prog w = .ok (.tuple #[.agg #[.slice none 0 0], .bool false]) w := by kernel_rfl
theorem Tryz.assubPartComp (v : Value) (xT : TypeId) (w : World) : (Instr.typeAssert (.iface 105 v) xT 71 true).run Tryz.prog w = .ok (.tuple #[.agg #[.slice none 0 0], .bool false]) w := by kernel_rfl
theorem Tryz.assubPartsubPart (v : Value) (xT : TypeId) (w : World) : (Instr.typeAssert (.iface 105 v) xT 105 true).run Tryz.prog w = .ok (.tuple #[v, .bool true]) w := by kernel_rfl

set_option maxHeartbeats 400000 in
set_option maxRecDepth 100000 in
theorem limitsField (v : Value) (w : World) : Calls Tryz.prog 81 #[.iface 54 v] w fun e w' => e = .returned (.tuple #[.int .i64 5, .int .i64 2]) ∧ w' = w := by
  have a1 := Tryz.asFieldField
  have a2 := Tryz.asFieldRep
  have a3 := Tryz.asFieldComp
  go_enter Tryz.func81, Tryz.ntmps81
  go_wp2
  exact bodyPost_ret (v := .tuple #[.int .i64 5, .int .i64 2]) (by simp [results, Tryz.results81, go_sem]) rfl ⟨rfl, rfl⟩

set_option maxHeartbeats 400000 in
set_option maxRecDepth 100000 in
theorem limitsRep (v : Value) (w : World) : Calls Tryz.prog 81 #[.iface 69 v] w fun e w' => e = .returned (.tuple #[.int .i64 10, .int .i64 1]) ∧ w' = w := by
  have a1 := Tryz.asRepField
  have a2 := Tryz.asRepRep
  have a3 := Tryz.asRepComp
  go_enter Tryz.func81, Tryz.ntmps81
  go_wp2
  exact bodyPost_ret (v := .tuple #[.int .i64 10, .int .i64 1]) (by simp [results, Tryz.results81, go_sem]) rfl ⟨rfl, rfl⟩

set_option maxHeartbeats 400000 in
set_option maxRecDepth 100000 in
theorem limitsComp (v : Value) (w : World) : Calls Tryz.prog 81 #[.iface 71 v] w fun e w' => e = .returned (.tuple #[.int .i64 5, .int .i64 4]) ∧ w' = w := by
  have a1 := Tryz.asCompField
  have a2 := Tryz.asCompRep
  have a3 := Tryz.asCompComp
  go_enter Tryz.func81, Tryz.ntmps81
  go_wp2
  exact bodyPost_ret (v := .tuple #[.int .i64 5, .int .i64 4]) (by simp [results, Tryz.results81, go_sem]) rfl ⟨rfl, rfl⟩

set_option maxHeartbeats 2000000 in
theorem partsOfRep_row {R : World → Value → List (List ByteArray) → Prop} [Lasts 0 R] (hsl : ∀ w u x, R w u x → ∃ p c, u = .slice p x.length c) (v : Value) (xs : List (List (List ByteArray))) (w : World) (hn : xs.length ≤ 1048576) (hr : RL 0 R w v xs) :
    Calls Tryz.prog 123 #[v] w fun e w' => ∃ g vs, e = .returned (.slice (some ⟨g, 0, none⟩) xs.length xs.length) ∧ Row w' g 104 vs ∧ w.heap.size ≤ g ∧ vs.length = xs.length ∧ (∀ j (h1 : j < vs.length) (h2 : j < xs.length), RI 69 R w' vs[j] xs[j]) ∧ Below w.heap.size w w' := by
  obtain ⟨i0, hi, hz0, hz1, hz2⟩ := info_parts Tryz.infoPart
  obtain ⟨p, cap, rfl, h1, h2, h4⟩ := hr
  have H4 := hide h4
  have HSL := hide hsl
  clear h4 hsl
  go_enter Tryz.func123, Tryz.ntmps123
  go_wp2_with (at_make; refine wpList_make_full _ rfl _ _ 110 rfl w.heap.size 104 i0 .nilIface 1 Tryz.underlying110 hi hz0 hz1 _ _ _ _ xs.length rfl rfl rfl rfl ?b2 ?b3 (Nat.le_refl _) ?_)
  case b2 => rw [hz2]; omega
  case b3 => unfold maxLen; omega
  intro w1 hown hgrow
  obtain ⟨Z, hZ, hZl⟩ := own_row hown
  rw [Nat.mul_one] at hZl
  have hb1 : Below w.heap.size w w1 := (Below.refl _ _).grown hgrow (Nat.le_refl _) (by simp)
  have HZ := hide hZ
  have HB := hide hb1
  have HL := hide hZl
  clear hZ hown hgrow hb1 hZl
  go_wp2_with fail
  go_loopw [11] (fun i wr => ∃ (X : World) (k : Nat) (vs : List Value), X = wr ∧ k ≤ xs.length ∧ i = .int .i64 k ∧ Hid (Row X w.heap.size 104 (vs ++ Z.drop k)) ∧ Hid (Below w.heap.size w X) ∧ Hid (vs.length = k) ∧ Hid (∀ j (h1 : j < vs.length) (h2 : j < xs.length), RI 69 R w vs[j] xs[j])) (fun i _ => xs.length - (intOf i).toNat)
  case atStart => exact ⟨_, 0, [], rfl, Nat.zero_le _, rfl, hide (by simpa using HZ.out), HB, hide rfl, hide (fun j h1 _ => absurd h1 (by simp))⟩
  case round =>
    obtain ⟨X, k, vs, rfl, hk, rfl, HRow, HBel, HLn, HEl⟩ := hrel
    by_cases hlt : k < xs.length
    · obtain ⟨g, off, hp, hg, _, hc⟩ := H4.out (by omega)
      subst hp
      obtain ⟨u, hu, hru⟩ := hc k hlt
      have hck : X.cell? ⟨g, off + k, none⟩ = some u := by rw [HBel.out.cell (p := ⟨g, off + k, none⟩) hg]; exact hu
      have HRU := hide hru
      obtain ⟨up, uc, rfl⟩ := HSL.out _ _ _ hru
      have hlt0 := HRow.out.lt
      clear hu hru hc
      have hX1 : Below X.heap.size X (X.alloc (.cells #[.slice up (xs[k]'hlt).length uc] 69)) := (Below.refl _ _).alloc (Nat.le_refl _) _
      have row2 := HRow.out.below hX1 hlt0
      have hll : (vs ++ Z.drop k).length = xs.length := by rw [List.length_append, HLn.out, List.length_drop, HL.out]; omega
      obtain ⟨z, hz⟩ := row2.some k (by rw [hll]; exact hlt)
      have hf := row2.free k
      have hnext := row2.set (j := k) (.iface 69 (.agg #[.slice up (xs[k]'hlt).length uc]))
      rw [set_snocP vs Z k xs.length _ HLn.out hlt HL.out] at hnext
      clear hnext
      have hnext := HRow.out.set (j := k) (.iface 69 (.agg #[.slice up (xs[k]'hlt).length uc]))
      rw [set_snocP vs Z k xs.length _ HLn.out hlt HL.out] at hnext
      have HN := hide (hnext.alloc (.cells #[.slice up (xs[k]'hlt).length uc] 69))
      have HMB := hide ((HBel.out.setCell (p := ⟨w.heap.size, k, none⟩) (Nat.le_refl _) (.iface 69 (.agg #[.slice up (xs[k]'hlt).length uc]))).alloc (by have := HBel.out.size; simpa [World.setCell] using this) (.cells #[.slice up (xs[k]'hlt).length uc] 69))
      have HLn2 : Hid ((vs ++ [Value.iface 69 (.agg #[.slice up (xs[k]'hlt).length uc])]).length = k + 1) := by rw [List.length_append, HLn.out]; exact rfl
      have HEl2 : Hid (∀ j (h1 : j < (vs ++ [Value.iface 69 (.agg #[.slice up (xs[k]'hlt).length uc])]).length) (h2 : j < xs.length), RI 69 R w (vs ++ [Value.iface 69 (.agg #[.slice up (xs[k]'hlt).length uc])])[j] xs[j]) := by
        intro j h1 h2
        rw [HLn2.out] at h1
        by_cases hj : j < k
        · rw [List.getElem_append_left (by rw [HLn.out]; exact hj)]
          exact HEl.out j (by rw [HLn.out]; exact hj) h2
        · have e : j = k := by omega
          subst e
          rw [List.getElem_append_right (by rw [HLn.out]; exact Nat.le_refl _)]
          simp only [HLn.out, Nat.sub_self, List.getElem_cons_zero]
          exact ⟨_, rfl, HRU.out⟩
      clear hnext row2 hll hX1
      go_wp2
      go_roundw
      case rel => exact ⟨_, k + 1, _, rfl, by omega, by go_num, HN, HMB, HLn2, HEl2⟩
      case measure => simp [intOf]; omega
    · have HE : Hid (Row X w.heap.size 104 vs) := by
        have := HRow.out
        rw [List.drop_eq_nil_of_le (by rw [HL.out]; omega), List.append_nil] at this
        exact this
      have HLn3 : Hid (vs.length = xs.length) := by rw [HLn.out]; exact (show k = xs.length by omega)
      go_wp2
      go_ret
      exact ⟨_, vs, rfl, HE.out, Nat.le_refl _, HLn3.out, fun j h1 h2 => Lasts.go (B := 0) (Same.of HBel.out) (HEl.out j h1 h2), HBel.out⟩

set_option maxHeartbeats 1000000 in
theorem innerField_row {R : World → Value → List (List ByteArray) → Prop} [Lasts 0 R] (hsl : ∀ w u x, R w u x → ∃ p c, u = .slice p x.length c) (u : Value) (xs : List (List (List ByteArray))) (w : World) (hn : xs.length ≤ 1048576) (hr : RL 0 R w u xs) :
    Calls Tryz.prog 122 #[.agg #[u]] w fun e w' => ∃ g vs, e = .returned (.slice (some ⟨g, 0, none⟩) xs.length xs.length) ∧ Row w' g 104 vs ∧ w.heap.size ≤ g ∧ vs.length = xs.length ∧ (∀ j (h1 : j < vs.length) (h2 : j < xs.length), RI 69 R w' vs[j] xs[j]) ∧ Below w.heap.size w w' := by
  have HR := hide hr
  obtain ⟨p, c, rfl⟩ := hr.isSlice
  clear hr
  go_enter Tryz.func122, Tryz.ntmps122
  go_wp2_with fail
  refine (partsOfRep_row hsl _ xs _ hn (HR.out.below ((Below.refl _ _).alloc (Nat.le_refl _) _))).mono ?_
  rintro e w1 ⟨g1, vs1, rfl, hrow1, hg1, hl1, hel1, hb1⟩
  have HB := hide (((Below.refl w.heap.size w).alloc (Nat.le_refl _) (.cells #[.slice p xs.length c] 54)).trans (hb1.mono (by simp)))
  have HR1 := hide hrow1
  have HG1 : Hid (w.heap.size ≤ g1) := by simp at hg1; exact (by omega : w.heap.size ≤ g1)
  have HL1 := hide hl1
  have HEL := hide hel1
  clear hb1 hrow1 hl1 hel1 hg1
  go_wp2
  go_ret
  exact ⟨_, vs1, rfl, HR1.out, HG1.out, HL1.out, HEL.out, HB.out⟩

theorem innerField_any (u : Value) (xs : List (List (List ByteArray))) (w : World) (hn : xs.length ≤ 1048576) (hr : RL 0 (RRep 0) w u xs) :
    Calls Tryz.prog 122 #[.agg #[u]] w fun e w' => ∃ p c, e = .returned (.slice p xs.length c) ∧ RL 0 PRep w' (.slice p xs.length c) xs ∧ Below w.heap.size w w' := by
  refine (innerField_row (fun _ _ _ h => RL.isSlice h) u xs w hn hr).mono ?_
  rintro e w' ⟨g, vs, rfl, hrow, _, hl, hel, hb⟩
  exact ⟨_, _, rfl, rl_row hrow hl (by unfold maxLen; omega) (Nat.zero_le _) (fun i hi => hel i (by omega) hi), hb⟩

set_option maxHeartbeats 2000000 in
theorem partsOfComp_row {R : World → Value → List ByteArray → Prop} [Lasts 0 R] (hsl : ∀ w u x, R w u x → ∃ p c, u = .slice p x.length c) (v : Value) (xs : List (List ByteArray)) (w : World) (hn : xs.length ≤ 1048576) (hr : RL 0 R w v xs) :
    Calls Tryz.prog 125 #[v] w fun e w' => ∃ g vs, e = .returned (.slice (some ⟨g, 0, none⟩) xs.length xs.length) ∧ Row w' g 104 vs ∧ w.heap.size ≤ g ∧ vs.length = xs.length ∧ (∀ j (h1 : j < vs.length) (h2 : j < xs.length), RI 71 R w' vs[j] xs[j]) ∧ Below w.heap.size w w' := by
  obtain ⟨i0, hi, hz0, hz1, hz2⟩ := info_parts Tryz.infoPart
  obtain ⟨p, cap, rfl, h1, h2, h4⟩ := hr
  have H4 := hide h4
  have HSL := hide hsl
  clear h4 hsl
  go_enter Tryz.func125, Tryz.ntmps125
  go_wp2_with (at_make; refine wpList_make_full _ rfl _ _ 110 rfl w.heap.size 104 i0 .nilIface 1 Tryz.underlying110 hi hz0 hz1 _ _ _ _ xs.length rfl rfl rfl rfl ?b2 ?b3 (Nat.le_refl _) ?_)
  case b2 => rw [hz2]; omega
  case b3 => unfold maxLen; omega
  intro w1 hown hgrow
  obtain ⟨Z, hZ, hZl⟩ := own_row hown
  rw [Nat.mul_one] at hZl
  have hb1 : Below w.heap.size w w1 := (Below.refl _ _).grown hgrow (Nat.le_refl _) (by simp)
  have HZ := hide hZ
  have HB := hide hb1
  have HL := hide hZl
  clear hZ hown hgrow hb1 hZl
  go_wp2_with fail
  go_loopw [11] (fun i wr => ∃ (X : World) (k : Nat) (vs : List Value), X = wr ∧ k ≤ xs.length ∧ i = .int .i64 k ∧ Hid (Row X w.heap.size 104 (vs ++ Z.drop k)) ∧ Hid (Below w.heap.size w X) ∧ Hid (vs.length = k) ∧ Hid (∀ j (h1 : j < vs.length) (h2 : j < xs.length), RI 71 R w vs[j] xs[j])) (fun i _ => xs.length - (intOf i).toNat)
  case atStart => exact ⟨_, 0, [], rfl, Nat.zero_le _, rfl, hide (by simpa using HZ.out), HB, hide rfl, hide (fun j h1 _ => absurd h1 (by simp))⟩
  case round =>
    obtain ⟨X, k, vs, rfl, hk, rfl, HRow, HBel, HLn, HEl⟩ := hrel
    by_cases hlt : k < xs.length
    · obtain ⟨g, off, hp, hg, _, hc⟩ := H4.out (by omega)
      subst hp
      obtain ⟨u, hu, hru⟩ := hc k hlt
      have hck : X.cell? ⟨g, off + k, none⟩ = some u := by rw [HBel.out.cell (p := ⟨g, off + k, none⟩) hg]; exact hu
      have HRU := hide hru
      obtain ⟨up, uc, rfl⟩ := HSL.out _ _ _ hru
      have hlt0 := HRow.out.lt
      clear hu hru hc
      have hX1 : Below X.heap.size X (X.alloc (.cells #[.slice up (xs[k]'hlt).length uc] 71)) := (Below.refl _ _).alloc (Nat.le_refl _) _
      have row2 := HRow.out.below hX1 hlt0
      have hll : (vs ++ Z.drop k).length = xs.length := by rw [List.length_append, HLn.out, List.length_drop, HL.out]; omega
      obtain ⟨z, hz⟩ := row2.some k (by rw [hll]; exact hlt)
      have hf := row2.free k
      have hnext := row2.set (j := k) (.iface 71 (.agg #[.slice up (xs[k]'hlt).length uc]))
      rw [set_snocP vs Z k xs.length _ HLn.out hlt HL.out] at hnext
      clear hnext
      have hnext := HRow.out.set (j := k) (.iface 71 (.agg #[.slice up (xs[k]'hlt).length uc]))
      rw [set_snocP vs Z k xs.length _ HLn.out hlt HL.out] at hnext
      have HN := hide (hnext.alloc (.cells #[.slice up (xs[k]'hlt).length uc] 71))
      have HMB := hide ((HBel.out.setCell (p := ⟨w.heap.size, k, none⟩) (Nat.le_refl _) (.iface 71 (.agg #[.slice up (xs[k]'hlt).length uc]))).alloc (by have := HBel.out.size; simpa [World.setCell] using this) (.cells #[.slice up (xs[k]'hlt).length uc] 71))
      have HLn2 : Hid ((vs ++ [Value.iface 71 (.agg #[.slice up (xs[k]'hlt).length uc])]).length = k + 1) := by rw [List.length_append, HLn.out]; exact rfl
      have HEl2 : Hid (∀ j (h1 : j < (vs ++ [Value.iface 71 (.agg #[.slice up (xs[k]'hlt).length uc])]).length) (h2 : j < xs.length), RI 71 R w (vs ++ [Value.iface 71 (.agg #[.slice up (xs[k]'hlt).length uc])])[j] xs[j]) := by
        intro j h1 h2
        rw [HLn2.out] at h1
        by_cases hj : j < k
        · rw [List.getElem_append_left (by rw [HLn.out]; exact hj)]
          exact HEl.out j (by rw [HLn.out]; exact hj) h2
        · have e : j = k := by omega
          subst e
          rw [List.getElem_append_right (by rw [HLn.out]; exact Nat.le_refl _)]
          simp only [HLn.out, Nat.sub_self, List.getElem_cons_zero]
          exact ⟨_, rfl, HRU.out⟩
      clear hnext row2 hll hX1
      go_wp2
      go_roundw
      case rel => exact ⟨_, k + 1, _, rfl, by omega, by go_num, HN, HMB, HLn2, HEl2⟩
      case measure => simp [intOf]; omega
    · have HE : Hid (Row X w.heap.size 104 vs) := by
        have := HRow.out
        rw [List.drop_eq_nil_of_le (by rw [HL.out]; omega), List.append_nil] at this
        exact this
      have HLn3 : Hid (vs.length = xs.length) := by rw [HLn.out]; exact (show k = xs.length by omega)
      go_wp2
      go_ret
      exact ⟨_, vs, rfl, HE.out, Nat.le_refl _, HLn3.out, fun j h1 h2 => Lasts.go (B := 0) (Same.of HBel.out) (HEl.out j h1 h2), HBel.out⟩

set_option maxHeartbeats 1000000 in
theorem innerRep_row {R : World → Value → List ByteArray → Prop} [Lasts 0 R] (hsl : ∀ w u x, R w u x → ∃ p c, u = .slice p x.length c) (u : Value) (xs : List (List ByteArray)) (w : World) (hn : xs.length ≤ 1048576) (hr : RL 0 R w u xs) :
    Calls Tryz.prog 124 #[.agg #[u]] w fun e w' => ∃ g vs, e = .returned (.slice (some ⟨g, 0, none⟩) xs.length xs.length) ∧ Row w' g 104 vs ∧ w.heap.size ≤ g ∧ vs.length = xs.length ∧ (∀ j (h1 : j < vs.length) (h2 : j < xs.length), RI 71 R w' vs[j] xs[j]) ∧ Below w.heap.size w w' := by
  have HR := hide hr
  obtain ⟨p, c, rfl⟩ := hr.isSlice
  clear hr
  go_enter Tryz.func124, Tryz.ntmps124
  go_wp2_with fail
  refine (partsOfComp_row hsl _ xs _ hn (HR.out.below ((Below.refl _ _).alloc (Nat.le_refl _) _))).mono ?_
  rintro e w1 ⟨g1, vs1, rfl, hrow1, hg1, hl1, hel1, hb1⟩
  have HB := hide (((Below.refl w.heap.size w).alloc (Nat.le_refl _) (.cells #[.slice p xs.length c] 69)).trans (hb1.mono (by simp)))
  have HR1 := hide hrow1
  have HG1 : Hid (w.heap.size ≤ g1) := by simp at hg1; exact (by omega : w.heap.size ≤ g1)
  have HL1 := hide hl1
  have HEL := hide hel1
  clear hb1 hrow1 hl1 hel1 hg1
  go_wp2
  go_ret
  exact ⟨_, vs1, rfl, HR1.out, HG1.out, HL1.out, HEL.out, HB.out⟩

theorem innerRep_any (u : Value) (xs : List (List ByteArray)) (w : World) (hn : xs.length ≤ 1048576) (hr : RL 0 (RComp 0) w u xs) :
    Calls Tryz.prog 124 #[.agg #[u]] w fun e w' => ∃ p c, e = .returned (.slice p xs.length c) ∧ RL 0 PComp w' (.slice p xs.length c) xs ∧ Below w.heap.size w w' := by
  refine (innerRep_row (fun _ _ _ h => RL.isSlice h) u xs w hn hr).mono ?_
  rintro e w' ⟨g, vs, rfl, hrow, _, hl, hel, hb⟩
  exact ⟨_, _, rfl, rl_row hrow hl (by unfold maxLen; omega) (Nat.zero_le _) (fun i hi => hel i (by omega) hi), hb⟩

theorem Tryz.infoSub : (Tryz.prog.info? 105).map (fun i => (i.zero, i.size, i.bytes)) = some (some (.string ⟨#[]⟩), 1, 16) := by kernel_rfl
set_option maxHeartbeats 2000000 in
theorem subsOf_row (u : Value) (xs : List ByteArray) (w : World) (hn : xs.length ≤ 1048576) (hr : RComp 0 w u xs) :
    Calls Tryz.prog 128 #[.agg #[u]] w fun e w' => ∃ g vs, e = .returned (.slice (some ⟨g, 0, none⟩) xs.length xs.length) ∧ Row w' g 105 vs ∧ w.heap.size ≤ g ∧ vs.length = xs.length ∧ (∀ j (h1 : j < vs.length) (h2 : j < xs.length), RS w' vs[j] xs[j]) ∧ Below w.heap.size w w' := by
  obtain ⟨i0, hi, hz0, hz1, hz2⟩ := info_parts Tryz.infoSub
  obtain ⟨p, cap, rfl, h1, h2, h4⟩ := hr
  have H4 := hide h4
  clear h4
  obtain ⟨W, hW⟩ : ∃ W, W = w.alloc (.cells #[.slice p xs.length cap] 71) := ⟨_, rfl⟩
  have HW := hide (show Below w.heap.size w W by rw [hW]; exact (Below.refl _ _).alloc (Nat.le_refl _) _)
  have RW : Row W w.heap.size 71 [.slice p xs.length cap] := by rw [hW]; exact row_new w [.slice p xs.length cap] 71
  have HRW := hide RW
  have c0 : W.cell? ⟨w.heap.size, 0, none⟩ = some (.slice p xs.length cap) := RW.cell 0
  have hWs : W.heap.size = w.heap.size + 1 := by rw [hW]; simp
  have HWs := hide hWs
  clear RW hWs
  go_enter Tryz.func128, Tryz.ntmps128
  go_wp2_with (at_make; refine wpList_make_full _ rfl _ _ 124 rfl W.heap.size 105 i0 (.string ⟨#[]⟩) 1 Tryz.underlying124 hi hz0 hz1 _ _ _ _ xs.length rfl rfl rfl rfl ?b2 ?b3 (by rw [hW]; exact Nat.le_refl _) ?_)
  case b2 => rw [hz2]; omega
  case b3 => unfold maxLen; omega
  intro w1 hown hgrow
  rw [← hW] at hgrow
  clear hW
  obtain ⟨Z, hZ, hZl⟩ := own_row hown
  rw [Nat.mul_one] at hZl
  have hb0 : Below W.heap.size W w1 := (Below.refl _ _).grown hgrow (Nat.le_refl _) (by simp)
  have hb1 : Below w.heap.size w w1 := HW.out.trans (hb0.mono HW.out.size)
  have row1 := HRW.out.below hb0 HRW.out.lt
  have c1 : w1.cell? ⟨w.heap.size, 0, none⟩ = some (.slice p xs.length cap) := row1.cell 0
  have HZ := hide hZ
  have HB := hide hb1
  have HL := hide hZl
  clear hZ hown hgrow hb1 hZl hb0 row1
  go_wp2_with fail
  go_loopw [13] (fun i wr => ∃ (X : World) (k : Nat) (vs : List Value), X = wr ∧ k ≤ xs.length ∧ i = .int .i64 k ∧ Hid (Row X (w.heap.size + 1) 105 (vs ++ Z.drop k)) ∧ Hid (Below w.heap.size w X) ∧ Hid (vs.length = k) ∧ Hid (∀ j (h1 : j < vs.length) (h2 : j < xs.length), RS w vs[j] xs[j])) (fun i _ => xs.length - (intOf i).toNat)
  case atStart => exact ⟨_, 0, [], rfl, Nat.zero_le _, rfl, hide (by simpa using HZ.out), HB, hide rfl, hide (fun j h1 _ => absurd h1 (by simp))⟩
  case round =>
    obtain ⟨X, k, vs, rfl, hk, rfl, HRow, HBel, HLn, HEl⟩ := hrel
    by_cases hlt : k < xs.length
    · obtain ⟨g, off, hp, hg, _, hc⟩ := H4.out (by omega)
      subst hp
      obtain ⟨u, hu, rfl, hus⟩ := hc k hlt
      have hck : X.cell? ⟨g, off + k, none⟩ = some (.string (xs[k]'hlt)) := by rw [HBel.out.cell (p := ⟨g, off + k, none⟩) hg]; exact hu
      have hlt0 := HRow.out.lt
      clear hu hc
      have hll : (vs ++ Z.drop k).length = xs.length := by rw [List.length_append, HLn.out, List.length_drop, HL.out]; omega
      obtain ⟨z, hz⟩ := HRow.out.some k (by rw [hll]; exact hlt)
      have hf := HRow.out.free k
      have hnext := HRow.out.set (j := k) (.string (xs[k]'hlt))
      rw [set_snocP vs Z k xs.length _ HLn.out hlt HL.out] at hnext
      have HN := hide hnext
      have HMB := hide (HBel.out.setCell (p := ⟨w.heap.size + 1, k, none⟩) (by show w.heap.size ≤ w.heap.size + 1; omega) (.string (xs[k]'hlt)))
      have HLn2 : Hid ((vs ++ [Value.string (xs[k]'hlt)]).length = k + 1) := by rw [List.length_append, HLn.out]; exact rfl
      have HEl2 : Hid (∀ j (h1 : j < (vs ++ [Value.string (xs[k]'hlt)]).length) (h2 : j < xs.length), RS w (vs ++ [Value.string (xs[k]'hlt)])[j] xs[j]) := by
        intro j h1 h2
        rw [HLn2.out] at h1
        by_cases hj : j < k
        · rw [List.getElem_append_left (by rw [HLn.out]; exact hj)]
          exact HEl.out j (by rw [HLn.out]; exact hj) h2
        · have e : j = k := by omega
          subst e
          rw [List.getElem_append_right (by rw [HLn.out]; exact Nat.le_refl _)]
          simp only [HLn.out, Nat.sub_self, List.getElem_cons_zero]
          exact ⟨rfl, hus⟩
      clear hnext hll
      go_wp2
      go_roundw
      case rel => exact ⟨_, k + 1, _, rfl, by omega, by go_num, HN, HMB, HLn2, HEl2⟩
      case measure => simp [intOf]; omega
    · have HE : Hid (Row X (w.heap.size + 1) 105 vs) := by
        have := HRow.out
        rw [List.drop_eq_nil_of_le (by rw [HL.out]; omega), List.append_nil] at this
        exact this
      have HLn3 : Hid (vs.length = xs.length) := by rw [HLn.out]; exact (show k = xs.length by omega)
      go_wp2
      go_ret
      exact ⟨_, vs, rfl, HE.out, by omega, HLn3.out, HEl.out, HBel.out⟩


set_option maxHeartbeats 2000000 in
theorem partsOfSub_row (u : Value) (xs : List ByteArray) (w : World) (hn : xs.length ≤ 1048576) (hr : RComp 0 w u xs) :
    Calls Tryz.prog 127 #[u] w fun e w' => ∃ g vs, e = .returned (.slice (some ⟨g, 0, none⟩) xs.length xs.length) ∧ Row w' g 104 vs ∧ w.heap.size ≤ g ∧ vs.length = xs.length ∧ (∀ j (h1 : j < vs.length) (h2 : j < xs.length), PSub w' vs[j] xs[j]) ∧ Below w.heap.size w w' := by
  obtain ⟨i0, hi, hz0, hz1, hz2⟩ := info_parts Tryz.infoPart
  obtain ⟨p, cap, rfl, h1, h2, h4⟩ := hr
  have H4 := hide h4
  clear h4
  go_enter Tryz.func127, Tryz.ntmps127
  go_wp2_with (at_make; refine wpList_make_full _ rfl _ _ 110 rfl w.heap.size 104 i0 .nilIface 1 Tryz.underlying110 hi hz0 hz1 _ _ _ _ xs.length rfl rfl rfl rfl ?b2 ?b3 (Nat.le_refl _) ?_)
  case b2 => rw [hz2]; omega
  case b3 => unfold maxLen; omega
  intro w1 hown hgrow
  obtain ⟨Z, hZ, hZl⟩ := own_row hown
  rw [Nat.mul_one] at hZl
  have hb1 : Below w.heap.size w w1 := (Below.refl _ _).grown hgrow (Nat.le_refl _) (by simp)
  have HZ := hide hZ
  have HB := hide hb1
  have HL := hide hZl
  clear hZ hown hgrow hb1 hZl
  go_wp2_with fail
  go_loopw [11] (fun i wr => ∃ (X : World) (k : Nat) (vs : List Value), X = wr ∧ k ≤ xs.length ∧ i = .int .i64 k ∧ Hid (Row X w.heap.size 104 (vs ++ Z.drop k)) ∧ Hid (Below w.heap.size w X) ∧ Hid (vs.length = k) ∧ Hid (∀ j (h1 : j < vs.length) (h2 : j < xs.length), PSub w vs[j] xs[j])) (fun i _ => xs.length - (intOf i).toNat)
  case atStart => exact ⟨_, 0, [], rfl, Nat.zero_le _, rfl, hide (by simpa using HZ.out), HB, hide rfl, hide (fun j h1 _ => absurd h1 (by simp))⟩
  case round =>
    obtain ⟨X, k, vs, rfl, hk, rfl, HRow, HBel, HLn, HEl⟩ := hrel
    by_cases hlt : k < xs.length
    · obtain ⟨g, off, hp, hg, _, hc⟩ := H4.out (by omega)
      subst hp
      obtain ⟨u, hu, rfl, hus⟩ := hc k hlt
      have hck : X.cell? ⟨g, off + k, none⟩ = some (.string (xs[k]'hlt)) := by rw [HBel.out.cell (p := ⟨g, off + k, none⟩) hg]; exact hu
      have hlt0 := HRow.out.lt
      clear hu hc
      have hll : (vs ++ Z.drop k).length = xs.length := by rw [List.length_append, HLn.out, List.length_drop, HL.out]; omega
      obtain ⟨z, hz⟩ := HRow.out.some k (by rw [hll]; exact hlt)
      have hf := HRow.out.free k
      have hnext := HRow.out.set (j := k) (.iface 105 (.string (xs[k]'hlt)))
      rw [set_snocP vs Z k xs.length _ HLn.out hlt HL.out] at hnext
      have HN := hide hnext
      have HMB := hide (HBel.out.setCell (p := ⟨w.heap.size, k, none⟩) (Nat.le_refl _) (.iface 105 (.string (xs[k]'hlt))))
      have HLn2 : Hid ((vs ++ [Value.iface 105 (.string (xs[k]'hlt))]).length = k + 1) := by rw [List.length_append, HLn.out]; exact rfl
      have HEl2 : Hid (∀ j (h1 : j < (vs ++ [Value.iface 105 (.string (xs[k]'hlt))]).length) (h2 : j < xs.length), PSub w (vs ++ [Value.iface 105 (.string (xs[k]'hlt))])[j] xs[j]) := by
        intro j h1 h2
        rw [HLn2.out] at h1
        by_cases hj : j < k
        · rw [List.getElem_append_left (by rw [HLn.out]; exact hj)]
          exact HEl.out j (by rw [HLn.out]; exact hj) h2
        · have e : j = k := by omega
          subst e
          rw [List.getElem_append_right (by rw [HLn.out]; exact Nat.le_refl _)]
          simp only [HLn.out, Nat.sub_self, List.getElem_cons_zero]
          exact ⟨rfl, hus⟩
      clear hnext hll
      go_wp2
      go_roundw
      case rel => exact ⟨_, k + 1, _, rfl, by omega, by go_num, HN, HMB, HLn2, HEl2⟩
      case measure => simp [intOf]; omega
    · have HE : Hid (Row X w.heap.size 104 vs) := by
        have := HRow.out
        rw [List.drop_eq_nil_of_le (by rw [HL.out]; omega), List.append_nil] at this
        exact this
      have HLn3 : Hid (vs.length = xs.length) := by rw [HLn.out]; exact (show k = xs.length by omega)
      go_wp2
      go_ret
      exact ⟨_, vs, rfl, HE.out, Nat.le_refl _, HLn3.out, HEl.out, HBel.out⟩


set_option maxHeartbeats 1000000 in
theorem innerComp_row (u : Value) (xs : List ByteArray) (w : World) (hn : xs.length ≤ 1048576) (hr : RComp 0 w u xs) :
    Calls Tryz.prog 126 #[.agg #[u]] w fun e w' => ∃ g vs, e = .returned (.slice (some ⟨g, 0, none⟩) xs.length xs.length) ∧ Row w' g 104 vs ∧ w.heap.size ≤ g ∧ vs.length = xs.length ∧ (∀ j (h1 : j < vs.length) (h2 : j < xs.length), PSub w' vs[j] xs[j]) ∧ Below w.heap.size w w' := by
  have HR := hide hr
  obtain ⟨p, c, rfl⟩ := hr.isSlice
  clear hr
  go_enter Tryz.func126, Tryz.ntmps126
  go_wp2_with fail
  refine (subsOf_row _ xs _ hn (HR.out.below ((Below.refl _ _).alloc (Nat.le_refl _) _))).mono ?_
  rintro e w1 ⟨g1, vs1, rfl, hrow1, hg1, hl1, hel1, hb1⟩
  have HB := hide (((Below.refl w.heap.size w).alloc (Nat.le_refl _) (.cells #[.slice p xs.length c] 71)).trans (hb1.mono (by simp)))
  have HR1 : Hid (RComp 0 w1 (.slice (some ⟨g1, 0, none⟩) xs.length xs.length) xs) := rl_row hrow1 hl1 (by unfold maxLen; omega) (Nat.zero_le _) (fun i hi => hel1 i (by omega) hi)
  clear hb1 hrow1 hl1 hel1 hg1
  go_wp2_with fail
  refine (partsOfSub_row _ xs _ hn HR1.out).mono ?_
  rintro e w2 ⟨g2, vs2, rfl, hrow2, hg2, hl2, hel2, hb2⟩
  have HB2 := hide (HB.out.trans (hb2.mono HB.out.size))
  have HR2 := hide hrow2
  have HG2 : Hid (w.heap.size ≤ g2) := Nat.le_trans HB.out.size hg2
  have HL2 := hide hl2
  have HEL := hide hel2
  clear hb2 hrow2 hl2 hel2 hg2
  go_wp2
  go_ret
  exact ⟨_, vs2, rfl, HR2.out, HG2.out, HL2.out, HEL.out, HB2.out⟩

theorem innerComp_any (u : Value) (xs : List ByteArray) (w : World) (hn : xs.length ≤ 1048576) (hr : RComp 0 w u xs) :
    Calls Tryz.prog 126 #[.agg #[u]] w fun e w' => ∃ p c, e = .returned (.slice p xs.length c) ∧ RL 0 PSub w' (.slice p xs.length c) xs ∧ Below w.heap.size w w' := by
  refine (innerComp_row u xs w hn hr).mono ?_
  rintro e w' ⟨g, vs, rfl, hrow, _, hl, hel, hb⟩
  exact ⟨_, _, rfl, rl_row hrow hl (by unfold maxLen; omega) (Nat.zero_le _) (fun i hi => hel i (by omega) hi), hb⟩

set_option maxHeartbeats 1000000 in
set_option maxRecDepth 100000 in
theorem emptySub (u : Value) (x : ByteArray) (w : World) (hr : PSub w u x) :
    Calls Tryz.prog 79 #[u] w fun e w' => e = .returned (.bool (empS x)) ∧ Below w.heap.size w w' := by
  obtain ⟨rfl, _⟩ := hr
  have a1 := Tryz.assubPartsubPart
  by_cases he : x.size = 0
  · have he2 : x = ⟨#[]⟩ := ByteArray.ext (Array.eq_empty_of_size_eq_zero he)
    subst he2
    go_enter Tryz.func79, Tryz.ntmps79
    go_wp2
    go_ret
    exact ⟨ret_boolF rfl, Below.refl _ _⟩
  · have he2 : x ≠ ⟨#[]⟩ := fun h => he (by rw [h]; rfl)
    have he3 := toList_neF he2
    have HE := hide (show empS x = false by simp [empS, he])
    clear he2
    go_enter Tryz.func79, Tryz.ntmps79
    go_wp2
    go_ret
    exact ⟨ret_boolF (by rw [HE.out]; first | done | simpa using he3), Below.refl _ _⟩

set_option maxHeartbeats 1000000 in
set_option maxRecDepth 100000 in
theorem emptyComp (u : Value) (x : List (ByteArray)) (w : World) (hn : x.length ≤ 1048576) (hr : PComp w u x) :
    Calls Tryz.prog 79 #[u] w fun e w' => e = .returned (.bool (empL x)) ∧ Below w.heap.size w w' := by
  obtain ⟨v, rfl, hv⟩ := hr
  have a1 := Tryz.asCompsubPart
  have a2 := Tryz.innerComp
  go_enter Tryz.func79, Tryz.ntmps79
  go_wp2_with fail
  refine (innerComp_any _ x _ hn hv).mono ?_
  rintro e w1 ⟨p1, c1, rfl, hr1, hb1⟩
  have HB := hide hb1
  clear hb1 hr1
  by_cases he : x.length = 0
  · have he' : ((x.length : Int) == 0) = true := by simp [he]
    have HE := hide (show empL x = true by simp [empL, he])
    clear he
    go_wp2
    go_ret
    exact ⟨ret_boolF (by rw [HE.out]; first | done | exact he'), HB.out⟩
  · have he' : ((x.length : Int) == 0) = false := by simpa using he
    have HE := hide (show empL x = false by simp [empL, he])
    clear he
    go_wp2
    go_ret
    exact ⟨ret_boolF (by rw [HE.out]; first | done | exact he'), HB.out⟩

set_option maxHeartbeats 1000000 in
set_option maxRecDepth 100000 in
theorem emptyRep (u : Value) (x : List (List ByteArray)) (w : World) (hn : x.length ≤ 1048576) (hr : PRep w u x) :
    Calls Tryz.prog 79 #[u] w fun e w' => e = .returned (.bool (empL x)) ∧ Below w.heap.size w w' := by
  obtain ⟨v, rfl, hv⟩ := hr
  have a1 := Tryz.asRepsubPart
  have a2 := Tryz.innerRep
  go_enter Tryz.func79, Tryz.ntmps79
  go_wp2_with fail
  refine (innerRep_any _ x _ hn hv).mono ?_
  rintro e w1 ⟨p1, c1, rfl, hr1, hb1⟩
  have HB := hide hb1
  clear hb1 hr1
  by_cases he : x.length = 0
  · have he' : ((x.length : Int) == 0) = true := by simp [he]
    have HE := hide (show empL x = true by simp [empL, he])
    clear he
    go_wp2
    go_ret
    exact ⟨ret_boolF (by rw [HE.out]; first | done | exact he'), HB.out⟩
  · have he' : ((x.length : Int) == 0) = false := by simpa using he
    have HE := hide (show empL x = false by simp [empL, he])
    clear he
    go_wp2
    go_ret
    exact ⟨ret_boolF (by rw [HE.out]; first | done | exact he'), HB.out⟩

set_option maxHeartbeats 2000000 in
set_option maxRecDepth 100000 in
theorem leaveOut_any {α : Type} (RE : World → Value → α → Prop) [Lasts 0 RE] (emp : α → Bool) (xs : List α)
    (hE : ∀ (X : World) (u : Value) (i : Nat) (h : i < xs.length), RE X u xs[i] → Calls Tryz.prog 79 #[u] X fun e w' => e = .returned (.bool (emp xs[i])) ∧ Below X.heap.size X w')
    (v : Value) (w : World) (hr : RL 0 RE w v xs) :
    Calls Tryz.prog 91 #[v] w fun e w' => (∃ p c k, e = .returned (.slice p k c) ∧ k ≤ xs.length ∧ (k = xs.length ↔ endEmpty emp xs = false)) ∧ Below w.heap.size w w' := by
  have HEE := hide hE
  clear hE
  obtain ⟨p, cap, rfl, h1, h2, h4⟩ := hr
  have H4 := hide h4
  clear h4
  unfold maxLen at h2
  go_enter Tryz.func91, Tryz.ntmps91
  go_wp2
  go_loopw [0] (fun l wr => ∃ (X : World) (k : Nat), X = wr ∧ k ≤ xs.length ∧ l = .slice p k cap ∧ Hid (Below w.heap.size w X) ∧ Hid (k < xs.length → endEmpty emp xs = true)) (fun l _ => lenOf l)
  case atStart => exact ⟨_, _, rfl, Nat.le_refl _, rfl, Below.refl _ _, fun h => absurd h (by omega)⟩
  case round =>
    obtain ⟨X, k, rfl, hk, rfl, HB, HK⟩ := hrel
    by_cases h0 : k = 0
    · subst h0
      have HZ := hide (show (0 = xs.length ↔ endEmpty emp xs = false) from ⟨fun h => endEmpty_nil h.symm, fun h => by
        rcases Nat.eq_zero_or_pos xs.length with e | e
        · exact e.symm
        · rw [HK.out e] at h; cases h⟩)
      go_wp2
      go_ret
      exact ⟨⟨_, _, _, rfl, hk, HZ.out⟩, HB.out⟩
    · obtain ⟨n, rfl⟩ : ∃ n, k = n + 1 := ⟨k - 1, by omega⟩
      obtain ⟨g, off, hp, hg, _, hc⟩ := H4.out (by omega)
      subst hp
      have hnl : n < xs.length := by omega
      obtain ⟨u, hu, hru⟩ := hc n hnl
      have hck : X.cell? ⟨g, off + n, none⟩ = some u := by rw [HB.out.cell (p := ⟨g, off + n, none⟩) hg]; exact hu
      have HRU : Hid (RE X u xs[n]) := Lasts.go (B := 0) (Same.of HB.out) hru
      have hw1 : IntKind.i64.wrap (((n + 1 : Nat) : Int) - 1) = (n : Int) := by rw [show (((n + 1 : Nat) : Int) - 1) = (n : Int) by omega]; exact wrap_small _ (by omega) (by omega)
      have hpos : (0 : Int) < ((n + 1 : Nat) : Int) := by omega
      clear hu hru hc h0
      go_wp2_with fail
      refine (HEE.out _ u n hnl HRU.out).mono ?_
      rintro e w2 ⟨rfl, hb2⟩
      have HB2 := hide (HB.out.trans (hb2.mono HB.out.size))
      clear hb2
      cases he : emp (xs[n]'hnl)
      · have HZ := hide (show (n + 1 = xs.length ↔ endEmpty emp xs = false) from ⟨fun h => by rw [endEmpty_last n hnl h.symm]; exact he, fun h => by
          rcases Nat.lt_or_ge (n + 1) xs.length with e | e
          · rw [HK.out e] at h; cases h
          · omega⟩)
        go_wp2
        go_ret
        exact ⟨⟨_, _, _, rfl, hk, HZ.out⟩, HB2.out⟩
      · have HK2 : Hid (n < xs.length → endEmpty emp xs = true) := fun _ => by
          rcases Nat.lt_or_ge (n + 1) xs.length with e | e
          · exact HK.out e
          · rw [endEmpty_last n hnl (by omega)]; exact he
        go_wp2
        go_roundw
        case rel => exact ⟨_, n, rfl, by omega, rfl, HB2, HK2⟩
        case measure => simp [lenOf]
end Go.Proofs.YtckcfjibiidafaaGreat
