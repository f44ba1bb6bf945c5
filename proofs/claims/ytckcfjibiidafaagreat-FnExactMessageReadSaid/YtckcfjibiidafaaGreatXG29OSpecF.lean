/- FieldRead of the model, and the law of FieldRead. -/
import Derived.Test.YtckcfjibiidafaaGreatXG28OSpecR
import Derived.Test.YtckcfjibiidafaaGreatXG13OTree
import Derived.Test.YtckcfjibiidafaaGreatXG26FPartR
namespace Go.Proofs.YtckcfjibiidafaaGreat
open Go.RowKit
theorem OFld.isSlice {lo hi : Nat} {w : World} {v : Value} {x : List (List (List ByteArray))} (h : OFld lo hi w v x) : ∃ p c, v = .slice p x.length c := OL.isSlice h
theorem marks_five {m : ByteArray} (h : marksB m = true) : m.size = 5 := Classical.byContradiction (fun hn => by rw [marksB_size m hn] at h; cases h)
theorem fldQ_yes {m : ByteArray} {L : List UInt8} (h : marksB m = true) (hb : fldB (fldM m L) = true) (ht : fldT m (fldM m L) = L) : fldQ m L = some (fldM m L) := by
  have := (fldP_iff h L _).2 ⟨hb, ht⟩
  unfold fldQ
  rw [this.1]
  simp [hb]
theorem fldQ_no {m : ByteArray} {L : List UInt8} (h : marksB m = true) (hn : ¬ (fldB (fldM m L) = true ∧ fldT m (fldM m L) = L)) : fldQ m L = none := by
  cases hq : fldQ m L with
  | none => rfl
  | some g =>
    exfalso
    unfold fldQ at hq
    obtain ⟨f, hf, hg⟩ := Option.bind_eq_some_iff.1 hq
    by_cases hb : fldB f = true
    · have h1 := (fldP_iff h L f).1 ⟨hf, hb⟩
      have h2 := (fldM_iff h L f).2 h1
      rw [h2.1] at hn
      exact hn h1
    · rw [if_neg hb] at hg
      cases hg
theorem trimR_sub {α : Type} (emp : α → Bool) : ∀ xs : List α, (trimR emp xs).length ≤ xs.length ∧ ∀ x ∈ trimR emp xs, x ∈ xs
  | [] => ⟨Nat.le_refl _, fun x h => h⟩
  | y :: r => by
    obtain ⟨h1, h2⟩ := trimR_sub emp r
    rw [trimR]
    cases hr : trimR emp r with
    | nil =>
      by_cases he : emp y = true
      · simp [he]
      · simp [he]
    | cons z t =>
      rw [hr] at h1 h2
      refine ⟨by simp only [List.length_cons] at h1 ⊢; omega, fun x hx => ?_⟩
      rcases List.mem_cons.1 hx with rfl | hx
      · exact List.mem_cons_self
      · exact List.mem_cons_of_mem _ (h2 x hx)
theorem cutM_small {β : Type} (emp : β → Bool) (c : UInt8) (rd : List UInt8 → β) (L : List UInt8) : (trimR emp ((cutL c L).map rd)).length ≤ L.length + 1 ∧ ∀ x ∈ trimR emp ((cutL c L).map rd), ∃ p, p.length ≤ L.length ∧ x = rd p := by
  obtain ⟨h1, h2⟩ := trimR_sub emp ((cutL c L).map rd)
  obtain ⟨h3, h4⟩ := cutL_len c L
  refine ⟨by rw [List.length_map] at h1; omega, fun x hx => ?_⟩
  obtain ⟨p, hp, rfl⟩ := List.mem_map.1 (h2 x hx)
  exact ⟨p, h4 p hp, rfl⟩
theorem fldM_small (m : ByteArray) (L : List UInt8) (hL : L.length ≤ 8000) :
    (fldM m L).length ≤ 1048576 ∧ (∀ i (h : i < (fldM m L).length), (fldM m L)[i].length ≤ 1048576) ∧ ∀ i (h : i < (fldM m L).length) j (hj : j < (fldM m L)[i].length), (fldM m L)[i][j].length ≤ 1048576 := by
  obtain ⟨h1, h2⟩ := cutM_small empL (bAt m 2) (repM m) L
  refine ⟨by show (trimR empL ((cutL (bAt m 2) L).map (repM m))).length ≤ _; omega, fun i hi => ?_, fun i hi j hj => ?_⟩
  · obtain ⟨p, hp, e⟩ := h2 _ (List.getElem_mem hi)
    have e2 : (fldM m L)[i] = repM m p := e
    rw [e2]
    have := (cutM_small empL (bAt m 1) (compM m) p).1
    show (trimR empL ((cutL (bAt m 1) p).map (compM m))).length ≤ _
    omega
  · obtain ⟨p, hp, e⟩ := h2 _ (List.getElem_mem hi)
    have e2 : (fldM m L)[i] = repM m p := e
    have hm : (fldM m L)[i][j] ∈ repM m p := by rw [← e2]; exact List.getElem_mem hj
    obtain ⟨q, hq, e3⟩ := (cutM_small empL (bAt m 1) (compM m) p).2 _ hm
    rw [e3]
    have := (cutM_small empS (bAt m 4) (subM m) q).1
    show (trimR empS ((cutL (bAt m 4) q).map (subM m))).length ≤ _
    omega
theorem sum_le {α : Type} (f : α → Nat) (c : Nat) : ∀ xs : List α, (∀ x ∈ xs, f x ≤ c) → (xs.map f).sum ≤ xs.length * c
  | [], _ => by simp
  | x :: r, h => by
    have h1 := h x List.mem_cons_self
    have h2 := sum_le f c r (fun y hy => h y (List.mem_cons_of_mem _ hy))
    simp only [List.map_cons, List.sum_cons, List.length_cons, Nat.succ_mul]
    omega
theorem right_w {α : Type} {f emp : α → Bool} {w : α → Nat} {most c : Nat} (hw : ∀ x, f x = true → w x ≤ c) {xs : List α} (h : rightB f emp most xs = true) : wL w xs ≤ most + most * c := by
  have hp := right_parts h
  have hl : xs.length ≤ most := by
    simp only [rightB, Bool.and_eq_true, decide_eq_true_eq] at h
    exact h.1.2
  have hs := sum_le w c xs (fun x hx => hw x (hp.1 x hx))
  have := Nat.mul_le_mul_right c hl
  unfold wL
  omega
theorem fldB_w {x : List (List (List ByteArray))} (h : fldB x = true) : wFld x ≤ 1048576 := by
  have h1 : ∀ s : ByteArray, subB s = true → s.size ≤ 60 := fun s hs => by
    simp only [subB, Bool.and_eq_true, decide_eq_true_eq] at hs; omega
  have h2 : ∀ c : List ByteArray, compB c = true → wComp c ≤ 305 := fun c hc => right_w h1 hc
  have h3 : ∀ r : List (List ByteArray), repB r = true → wRep r ≤ 3060 := fun r hr => right_w h2 hr
  have h4 : wFld x ≤ 15305 := right_w h3 h
  omega
theorem fldQ_w {m : ByteArray} {L : List UInt8} {f : List (List (List ByteArray))} (h : fldQ m L = some f) : wFld f ≤ 1048576 := by
  unfold fldQ at h
  obtain ⟨g, _, hg⟩ := Option.bind_eq_some_iff.1 h
  by_cases hb : fldB g = true
  · rw [if_pos hb] at hg
    cases hg
    exact fldB_w hb
  · rw [if_neg hb] at hg
    cases hg
theorem fldOut_w (m t : ByteArray) : wFld (fldOut m t).2 ≤ 1048576 := by
  unfold fldOut
  split
  · split
    · rename_i f hf
      exact fldQ_w hf
    · simp [wFld, wL]
  · simp [wFld, wL]
theorem rfld_nil (B : Nat) (w : World) (p : Option Addr) : RFld B w (.slice p 0 0) [] := ⟨p, 0, rfl, Nat.le_refl _, Nat.zero_le _, fun h => absurd h (Nat.lt_irrefl 0)⟩
def foF (R : Int × List (List (List ByteArray))) (u : Value) : Value := .agg #[u, .int .i64 R.1]
theorem _root_.Go.Proofs.YtckcfjibiidafaaGreat.RFld.isSlice2 {B : Nat} {w : World} {v : Value} {x : List (List (List ByteArray))} (h : RFld B w v x) : ∃ p c, v = .slice p x.length c := RL.isSlice h

end Go.Proofs.YtckcfjibiidafaaGreat
/- A list of Fields that is read: of the program. -/
namespace Go.Proofs.YtckcfjibiidafaaGreat
open Go.RowKit

theorem enters_field : ∀ args w, (callFunc 65 args).run Tryz.prog w = .ok (.enter 65 args) w := enters_of Tryz.func65 (by kernel_rfl) rfl
set_option maxHeartbeats 8000000 in
set_option maxRecDepth 100000 in
theorem readList_field (m : ByteArray) (v : Value) (ps : List ByteArray) (w : World) (hm : marksB m = true) (hn : ps.length ≤ 1000000) (hsz : ∀ x ∈ ps, x.size ≤ 900000) (hr : RComp 0 w v ps) :
    Calls Tryz.prog 64 #[.agg #[.string m, .bool false], v, .func (.func 65) #[.agg #[.string m, .bool false]] #[]] w fun e w' =>
      ListRes 54 OFld w.heap.size (mapO (fun p : ByteArray => fldQ m p.data.toList) ps) e w' ∧ Below w.heap.size w w' := by
  obtain ⟨i0, hi, hz0, hz1, hz2⟩ := info_parts Tryz.infoCopyField
  have HZC := hide (show (Value.agg #[.slice none 0 0]).cells.size = 1 from rfl)
  obtain ⟨p, cap, rfl, q1, q2, q4⟩ := hr
  have H4 := hide q4
  have HSZ := hide hsz
  clear q4 q1 q2 hsz
  obtain ⟨F, hF⟩ : ∃ F : ByteArray → Option (List (List (List ByteArray))), F = (fun p : ByteArray => fldQ m p.data.toList) := ⟨_, rfl⟩
  have HF := hide (show ∀ x, F x = fldQ m x.data.toList from fun x => by rw [hF])
  rw [← hF]
  clear hF
  obtain ⟨R, hR⟩ : ∃ R, R = mapO F ps := ⟨_, rfl⟩
  rw [← hR]
  have HR0 := hide (show R = (mapO F (ps.drop 0)).map ([] ++ ·) by rw [hR, List.drop_zero]; cases mapO F ps <;> simp)
  clear hR
  obtain ⟨W, hW⟩ : ∃ W, W = w.alloc (.cells #[.string m, .bool false] 47) := ⟨_, rfl⟩
  have HBW := hide (show Below w.heap.size w W by rw [hW]; exact (Below.refl _ _).alloc (Nat.le_refl _) _)
  have HWs := hide (show W.heap.size = w.heap.size + 1 by rw [hW]; simp)
  have HBX : Hid (Row W w.heap.size 47 [.string m, .bool false]) := by rw [hW]; exact row_new w _ _
  have HO := hide (World.ownsRow_nil W W.heap.size 54 1)
  have eg := enters_field
  go_enter Tryz.func64, Tryz.ntmps64
  go_wp2_with fail
  rw [← hW]
  clear hW
  go_loopw [8, 15] (fun l i wr => ∃ (X : World) (k : Nat) (D : List (List (List (List ByteArray)))) (vs : List Value), X = wr ∧ k ≤ ps.length ∧ i = .int .i64 (k : Int) ∧ Hid (D.length = k) ∧ Hid (R = (mapO F (ps.drop k)).map (D ++ ·)) ∧ Hid (X.ownsRow W.heap.size 54 1 l k vs) ∧ Hid (Below W.heap.size W X) ∧ Hid (vs.length = k) ∧ Hid (∃ A B : Nat → Nat, (∀ j (h1 : j < vs.length) (h2 : j < D.length), W.heap.size ≤ A j ∧ B j ≤ X.heap.size ∧ (∀ g, l.ownBlock = some g → B j ≤ g ∨ g < A j) ∧ OFld (A j) (B j) X vs[j] D[j]) ∧ ∀ i j, i < j → j < k → B i ≤ A j)) (fun _ i _ => ps.length - (intOf i).toNat)
  case atStart => exact ⟨_, 0, [], [], rfl, Nat.zero_le _, rfl, hide rfl, HR0, HO, hide (Below.refl _ _), hide rfl, hide ⟨fun _ => 0, fun _ => 0, fun j h1 _ => absurd h1 (by simp), fun i j _ h => absurd h (by omega)⟩⟩
  case round =>
    obtain ⟨X, k, D, vs, rfl, hk, rfl, HD, HS, HOw, HB, HLn, HEl⟩ := hrel
    have HBw := hide (HBW.out.trans (HB.out.mono HBW.out.size))
    by_cases hlt : k < ps.length
    · obtain ⟨gg, off, hp, hg, _, hc⟩ := H4.out (by omega)
      subst hp
      obtain ⟨u0, hu, rfl, _⟩ := hc k hlt
      have hck : X.cell? ⟨gg, off + k, none⟩ = some (.string (ps[k]'hlt)) := by rw [HBw.out.cell (p := ⟨gg, off + k, none⟩) hg]; exact hu
      have HSP := hide (HSZ.out _ (List.getElem_mem hlt))
      have HST := hide (mapO_step F ps k hlt D R HS.out)
      clear hu hc
      generalize hpk : (ps[k]'hlt) = pk at *
      clear hpk
      go_wp2_with fail
      refine (fieldR_any m pk _ hm HSP.out).mono ?_
      rintro e X2 ⟨⟨u2, b2, y, rfl, hy, hRy⟩, hb2⟩
      obtain ⟨p2, c2, rfl⟩ := hy.isSlice
      rw [← HF.out] at hRy
      have HB22 := hide hb2
      have HBm := hide (HB.out.trans (hb2.mono HB.out.size))
      have HBA := hide (HBm.out.alloc HBm.out.size (.cells #[.slice p2 y.length c2] 54))
      cases b2 with
      | false =>
        have HN := hide (HST.out.1 (by simpa using hRy))
        have HBE := hide (HBW.out.trans (HBA.out.mono HBW.out.size))
        clear hb2 hy hRy
        go_wp2
        exact bodyPost_ret (v := .tuple #[.slice none 0 0, .bool false]) (by simp [results, Tryz.results64, go_sem]) rfl ⟨⟨_, false, [], rfl, ⟨none, 0, rfl, Nat.le_refl _, by unfold maxLen; omega, fun h => by simp at h⟩, by rw [HN.out]; rfl⟩, HBE.out⟩
      | true =>
        have HN := hide (HST.out.2 y (by simpa using hRy))
        have HR2 := hide hy
        have HLT := hide HOw.out.lt
        have hba : Below X2.heap.size X2 (X2.alloc (.cells #[.slice p2 y.length c2] 54)) := (Below.refl _ _).alloc (Nat.le_refl _) _
        have HO2 := hide (((own_below HOw.out hb2).alloc (.cells #[.slice p2 y.length c2] 54)).alloc (.cells #[.slice p2 y.length c2] 54))
        have HB2 := hide (HBA.out.alloc HBA.out.size (.cells #[.slice p2 y.length c2] 54))
        have HSA : Hid ((X2.alloc (.cells #[.slice p2 y.length c2] 54)).heap.size = X2.heap.size + 1) := hide (by simp)
        have HSI : Hid (∀ a b, SameIn a b X2 (X2.alloc (.cells #[.slice p2 y.length c2] 54))) := hide (fun a b => SameIn.ofBelow hba)
        have HC1 := hide (cell_one_new (X2.alloc (.cells #[.slice p2 y.length c2] 54)) (.slice p2 y.length c2) 54)
        rw [HSA.out] at HC1
        have hlk : k ≤ 1000000 := by omega
        have hL3 : Hid (w.heap.size ≤ W.heap.size ∧ W.heap.size ≤ X.heap.size) := hide ⟨HBW.out.size, HB.out.size⟩
        clear hb2 hy hRy hba
        go_wp2_with (at_builtin; refine wpList_append_own_at ((X2.alloc (.cells #[.slice p2 y.length c2] 54)).alloc (.cells #[.slice p2 y.length c2] 54)) rfl (.tmp 27) (.tmp 29) 39 rfl W.heap.size 54 i0 _ 1 24 Tryz.underlying39 hi hz0 hz1 hz2 HZC.out (by omega) _ k vs rfl HO2.out ⟨X2.heap.size + 1, 0, none⟩ 1 _ [.slice p2 y.length c2] rfl rfl HC1.out (by simp [Value.oneCell']) (by unfold maxLen; omega) (by omega) (by have := HB2.out.size; exact this) ?_)
        intro v' w3 hown hgrow _ hat
        have HO3 := hide hown
        have HB3 := hide (HB2.out.grown hgrow HB2.out.size (fun k hk => (HO2.out.lt k hk).1))
        have HLn2 : Hid ((vs ++ [Value.slice p2 y.length c2]).length = k + 1) := by rw [List.length_append, HLn.out]; exact rfl
        have HD2 : Hid ((D ++ [y]).length = k + 1) := by rw [List.length_append, HD.out]; exact rfl
        have HEl2 : Hid (∃ A B : Nat → Nat, (∀ j (h1 : j < (vs ++ [Value.slice p2 y.length c2]).length) (h2 : j < (D ++ [y]).length), W.heap.size ≤ A j ∧ B j ≤ w3.heap.size ∧ (∀ g, v'.ownBlock = some g → B j ≤ g ∨ g < A j) ∧ OFld (A j) (B j) w3 (vs ++ [Value.slice p2 y.length c2])[j] (D ++ [y])[j]) ∧ ∀ i j, i < j → j < k + 1 → B i ≤ A j) := by
          obtain ⟨A, B, hE, hD⟩ := HEl.out
          have hs2 := HB22.out.size
          have hs3 := hgrow.size
          have hsA := HSA.out
          have hsa : ((X2.alloc (.cells #[.slice p2 y.length c2] 54)).alloc (.cells #[.slice p2 y.length c2] 54)).heap.size = X2.heap.size + 2 := by simp
          have hwX := hL3.out
          refine ⟨fun i => if i = k then X.heap.size else A i, fun i => if i = k then X2.heap.size else B i, fun j h1 h2 => ?_, fun i j hij hj => ?_⟩
          · rw [HLn2.out] at h1
            dsimp only
            by_cases hj : j = k
            · subst hj
              rw [if_pos rfl, if_pos rfl, List.getElem_append_right (by rw [HLn.out]; exact Nat.le_refl _)]
              simp only [HLn.out, Nat.sub_self, List.getElem_cons_zero]
              rw [List.getElem_append_right (by rw [HD.out]; exact Nat.le_refl _)]
              simp only [HD.out, Nat.sub_self, List.getElem_cons_zero]
              refine ⟨by omega, by omega, fun g hg => ?_, ?_⟩
              · rcases hat with h | h
                · rw [h] at hg
                  exact .inr (by have := (HLT.out g hg).2; omega)
                · rw [h] at hg
                  cases hg
                  exact .inl (by first | omega | (rw [hsa]; omega))
              · exact Keeps.go (grown_in hgrow (fun g hg => .inr (by have := (HLT.out g hg).2; omega))) (Keeps.go (SameIn.ofBelow ((Below.refl _ _).alloc (Nat.le_refl _) _)) (Keeps.go (HSI.out _ _) HR2.out))
            · have hjk : j < vs.length := by rw [HLn.out]; omega
              have hjd : j < D.length := by rw [HD.out]; omega
              obtain ⟨f1, f2, f3, f4⟩ := hE j hjk hjd
              rw [if_neg hj, if_neg hj, List.getElem_append_left hjk, List.getElem_append_left hjd]
              refine ⟨f1, by omega, fun g hg => ?_, ?_⟩
              · rcases hat with h | h
                · rw [h] at hg
                  exact f3 g hg
                · rw [h] at hg
                  cases hg
                  exact .inl (by first | omega | (rw [hsa]; omega))
              · exact Keeps.go (grown_in hgrow f3) (Keeps.go (SameIn.ofBelow ((Below.refl _ _).alloc (Nat.le_refl _) _)) (Keeps.go (HSI.out _ _) (Keeps.go (SameIn.ofBelow HB22.out) f4)))
          · have hik : i < vs.length := by rw [HLn.out]; omega
            have hid : i < D.length := by rw [HD.out]; omega
            obtain ⟨f1, f2, f3, f4⟩ := hE i hik hid
            dsimp only
            by_cases hjk : j = k
            · rw [if_pos hjk, if_neg (by omega)]; omega
            · rw [if_neg hjk, if_neg (by omega)]; exact hD i j hij (by omega)
        clear hown hgrow hat
        go_wp2
        go_roundw
        case rel => exact ⟨_, k + 1, D ++ [y], _, rfl, by omega, by go_num, HD2, HN, HO3, HB3, HLn2, HEl2⟩
        case measure => simp [intOf]; omega
    · have ek : k = ps.length := by omega
      have HN := hide (mapO_end F ps k (by omega) D R HS.out)
      have HBR := hide (HBX.out.below HB.out (by have := HWs.out; omega))
      have hcl : X.cell? ⟨w.heap.size, 1, none⟩ = some (.bool false) := HBR.out.cell 1
      have HOL := hide (show OL 54 OFld w.heap.size X.heap.size X _ D from Keeps.wide HBW.out.size (Nat.le_refl _) (ol_of_own HOw.out HD.out.symm HLn.out HEl.out))
      have hkI : (ps.length : Int) ≤ (k : Int) := by omega
      obtain ⟨pl, cl, hl⟩ := own_slice1 HOw.out
      subst hl
      clear ek
      go_wp2
      exact bodyPost_ret (v := .tuple #[.slice pl k cl, .bool true]) (by simp [results, Tryz.results64, go_sem]) rfl ⟨⟨_, true, D, rfl, HOL.out, by rw [HN.out]; rfl⟩, HBw.out⟩
end Go.Proofs.YtckcfjibiidafaaGreat
