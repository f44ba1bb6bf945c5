/- The pieces of a File's text, of the program. -/
import Derived.Test.YtolgjdnhhbbebaaGreatDoorXGFSegU
import Derived.Test.YtolgjdnhhbbebaaGreatDoorXGBRight
import Derived.Test.YtolgjdnhhbbebaaGreatDoorXGPTextI
import Derived.Maps.AppendAt
namespace Go.Proofs.YtolgjdnhhbbebaaGreatDoor
open Go.RowKit
theorem Tryz.infoStrT : (Tryz.prog.info? 9).map (fun i => (i.zero, i.size, i.bytes)) = some (some (.string ⟨#[]⟩), 1, 16) := by kernel_rfl
def strT (xs : List ByteArray) : List Value := xs.map Value.string
theorem new_cellT (w : World) (v : Value) (e : TypeId) : ∀ j u, ([v] : List Value)[j]? = some u → (w.alloc (.cells #[v] e)).cell? ((⟨w.heap.size, 0, none⟩ : Addr).add j) = some u := fun j u hu => by
  have ea : (⟨w.heap.size, 0, none⟩ : Addr).add j = ⟨w.heap.size, j, none⟩ := by unfold Addr.add; split <;> simp_all
  rw [ea, (row_new w [v] e).cell]
  exact hu
theorem own_sliceT {w : World} {B : Nat} {T : TypeId} {sz n : Nat} {v : Value} {xs : List Value} (h : w.ownsRow B T sz v n xs) : ∃ p c, v = .slice p n c := by
  obtain ⟨_, ⟨rfl, rfl⟩ | ⟨g, cap, cur, rfl, _⟩⟩ := h
  · exact ⟨none, 0, rfl⟩
  · exact ⟨_, cap, rfl⟩
theorem own_belowT {w w' : World} {B n sz : Nat} {T : TypeId} {v : Value} {xs : List Value} (h : w.ownsRow B T sz v n xs) (hb : Below w.heap.size w w') : w'.ownsRow B T sz v n xs := by
  obtain ⟨h1, h2⟩ := h
  refine ⟨h1, ?_⟩
  rcases h2 with h2 | ⟨g, cap, cur, rfl, hB, hh, h3⟩
  · exact .inl h2
  · exact .inr ⟨g, cap, cur, rfl, hB, by rw [hb.block g (Array.getElem?_eq_some_iff.1 hh).1]; exact hh, h3⟩
/-- Pieces put together, out of a row of the caller's own. -/
theorem together_ownT (base : Nat) (v : Value) (xs : List ByteArray) (w : World) (hown : w.ownsRow base 9 1 v xs.length (strT xs)) (h0 : 0 < xs.length) (hN : xs.length ≤ 1000) (hlen : ((xs.map (·.data.toList)).flatten).length ≤ 100000000000) :
    Calls Tryz.prog 18 #[v] w fun e w' => e = .returned (.string ⟨((xs.map (·.data.toList)).flatten).toArray⟩) ∧ Below w.heap.size w w' := by
  have hown' := hown
  obtain ⟨_, ⟨_, h1⟩ | ⟨g, cap, cur, rfl, _, hh, hcap, hcm, _, _⟩⟩ := hown'
  · omega
  have H := hide (show Lib.join (xs.map (·.data.toList)) (⟨#[]⟩ : ByteArray).data.toList = (xs.map (·.data.toList)).flatten from join_none _)
  have hc : ∀ (j : Nat) x, xs[j]? = some x → w.cell? ⟨g, 0 + j, none⟩ = some (.string x) := fun j x h => by
    have hj : j < xs.length := (List.getElem?_eq_some_iff.1 h).1
    rw [Nat.zero_add, hown.cellAt j (by omega)]
    simp [strT, h]
  have HC := hide (Tryz.strings_Join g 0 cap xs ⟨#[]⟩ w hc (Array.getElem?_eq_some_iff.1 hh).1 (by omega) hcap (by rw [H.out]; omega))
  clear hc hown hh
  go_enter Tryz.func18, Tryz.ntmps18
  go_wp2_with fail
  refine HC.out.mono ?_
  rintro e w1 ⟨rfl, hb1⟩
  rw [H.out]
  have HB := hide hb1
  clear hb1
  go_wp2
  go_ret
  exact ⟨rfl, HB.out⟩
set_option maxHeartbeats 2000000 in
theorem digitsNb_any (n : Nat) (w : World) (h1 : n < 100) :
    Calls Tryz.prog 33 #[.int .i64 (n : Int)] w fun e w' => e = .returned (.string ⟨(nbL n).toArray⟩) ∧ w' = w := by
  by_cases h0 : n = 0
  · have H := hide (show Lib.decDigits n = nbL n by subst h0; unfold Lib.decDigits; simp [nbL])
    clear h0
    go_enter Tryz.func33, Tryz.ntmps33
    go_wp2_with fail
    refine (Tryz.strconv_FormatInt_10_small n h1 _).mono ?_
    rintro e w1 ⟨rfl, rfl⟩
    rw [H.out]
    go_wp2
    go_ret
    exact ⟨rfl, rfl⟩
  · have e : nbL n = digs n := by simp [nbL, h0]
    rw [e]
    exact digitsOf_any n w h0 h1
set_option maxHeartbeats 2000000 in
theorem fileLine_any (a b : ByteArray) (w : World) (ha : a.size ≤ 100) (hb : b.size ≤ 100) :
    Calls Tryz.prog 16 #[.string a, .string b] w fun e w' => e = .returned (.string ⟨(a.data.toList ++ b.data.toList ++ [13]).toArray⟩) ∧ Below w.heap.size w w' := by
  have HL := hide (show (([a, b, ⟨#[13]⟩] : List ByteArray).map (·.data.toList)).flatten = a.data.toList ++ b.data.toList ++ [13] by simp)
  have HT := hide (together_any w.heap.size 3 [a, b, ⟨#[13]⟩] (w.alloc (.cells #[.string a, .string b, .string ⟨#[13]⟩] 9)) (row_new w _ _) (by simp) (by simp) (by
    rw [HL.out]
    simp only [List.length_append, List.length_cons, List.length_nil, bytesZ_len]; omega))
  rw [HL.out] at HT
  clear HL
  obtain ⟨R, hR⟩ : ∃ R : ByteArray, R = ⟨(a.data.toList ++ b.data.toList ++ [13]).toArray⟩ := ⟨_, rfl⟩
  rw [← hR] at HT ⊢
  clear hR
  have HB := hide (show Below w.heap.size w (w.alloc (.cells #[.string a, .string b, .string ⟨#[13]⟩] 9)) from (Below.refl _ _).alloc (Nat.le_refl _) _)
  go_enter Tryz.func16, Tryz.ntmps16
  go_wp2_with fail
  refine HT.out.mono ?_
  rintro e w2 ⟨rfl, hb2⟩
  have HB2 := hide (HB.out.trans (hb2.mono HB.out.size))
  clear hb2
  go_wp2
  go_ret
  exact ⟨rfl, HB2.out⟩
set_option maxHeartbeats 2000000 in
theorem countLine_any (a : ByteArray) (n : Nat) (w : World) (ha : a.size ≤ 100) (hn : n < 100) :
    Calls Tryz.prog 19 #[.string a, .int .i64 (n : Int)] w fun e w' => e = .returned (.string ⟨(ftL a.data.toList n).toArray⟩) ∧ Below w.heap.size w w' := by
  obtain ⟨NB, hNB⟩ : ∃ NB : ByteArray, NB = ⟨(nbL n).toArray⟩ := ⟨_, rfl⟩
  have hs : NB.size ≤ 100 := by have := nbL_len n hn; rw [hNB, bsize]; omega
  have HD := hide (fun y : World => by
    have := digitsNb_any n y hn
    rw [← hNB] at this
    exact this)
  have HF := hide (fun y : World => by
    have := fileLine_any a NB y ha hs
    rw [show a.data.toList ++ NB.data.toList ++ [13] = ftL a.data.toList n by rw [hNB]; rfl] at this
    exact this)
  clear hNB hs
  go_enter Tryz.func19, Tryz.ntmps19
  go_wp2_with fail
  refine (HD.out _).mono ?_
  rintro e w1 ⟨rfl, rfl⟩
  go_wp2_with fail
  refine (HF.out _).mono ?_
  rintro e w2 ⟨rfl, hb2⟩
  have HB2 := hide hb2
  clear hb2
  go_wp2
  go_ret
  exact ⟨rfl, HB2.out⟩
def okM (m : Msg) : Bool := decide ((wholeT m.1 m.2).length ≤ 8000)
def msgP (ms : List Msg) : List ByteArray := ms.map fun m => ⟨(wholeT m.1 m.2).toArray⟩
def hdP (h : List UInt8) (n : ByteArray) : ByteArray := ⟨(hdL h n).toArray⟩
def ftP (h : List UInt8) (n : Nat) : ByteArray := ⟨(ftL h n).toArray⟩
def batP (b : Bat) : List ByteArray := hdP [66, 72, 83] b.1 :: (msgP b.2 ++ [ftP [66, 84, 83, 124] b.2.length])
theorem msgP_next (ms : List Msg) (k : Nat) (h : k < ms.length) : msgP (ms.take (k + 1)) = msgP (ms.take k) ++ [⟨(wholeT ms[k].1 ms[k].2).toArray⟩] := by
  unfold msgP
  rw [List.take_succ_eq_append_getElem h, List.map_append]
  simp
theorem msgP_len (ms : List Msg) : (msgP ms).length = ms.length := by simp [msgP]
theorem msgP_flat : ∀ ms : List Msg, ((msgP ms).map (·.data.toList)).flatten = msgsL ms
  | [] => rfl
  | m :: r => by
    have i := msgP_flat r
    simp only [msgP, msgsL, List.map_cons, List.flatten_cons, List.flatMap_cons] at i ⊢
    rw [i]
theorem batP_flat (b : Bat) : ((batP b).map (·.data.toList)).flatten = batL b := by
  simp only [batP, batL, hdP, ftP, List.map_cons, List.map_append, List.flatten_cons, List.flatten_append, msgP_flat, List.map_nil, List.flatten_nil, List.append_nil, List.append_assoc]
theorem batP_len (b : Bat) : (batP b).length = b.2.length + 2 := by simp [batP, msgP_len]
theorem msgT_ok {m : Msg} (h : fmB m = true) (ho : okM m = true) : msgT m.1 m.2 = ⟨(wholeT m.1 m.2).toArray⟩ := msgT_yes (fmB_parts h).2.2.2.2 (of_decide_eq_true ho)
theorem msgT_off {m : Msg} (ho : okM m = false) : msgT m.1 m.2 = ⟨#[]⟩ := msgT_long (by have := of_decide_eq_false ho; omega)
theorem whole_some {m : Msg} (h : fmB m = true) : wholeT m.1 m.2 ≠ [] := by
  have h1 := (fmB_parts h).2.2.2.2
  simp only [msgB, Bool.and_eq_true, decide_eq_true_eq] at h1
  have h2 := h1.1.2.1
  cases hx : m.2 with
  | nil => rw [hx] at h2; simp at h2
  | cons s r => simp [wholeT]
end Go.Proofs.YtolgjdnhhbbebaaGreatDoor
/- batchPieces of the program. -/
namespace Go.Proofs.YtolgjdnhhbbebaaGreatDoor
open Go.RowKit
theorem own_low {w : World} {B C n sz : Nat} {T : TypeId} {v : Value} {xs : List Value} (h : w.ownsRow C T sz v n xs) (hb : B ≤ C) : w.ownsRow B T sz v n xs := by
  obtain ⟨h1, h2⟩ := h
  refine ⟨h1, ?_⟩
  rcases h2 with h2 | ⟨g, cap, cur, rfl, hB, hh, h3⟩
  · exact .inl h2
  · exact .inr ⟨g, cap, cur, rfl, Nat.le_trans hb hB, hh, h3⟩
set_option maxHeartbeats 16000000 in
set_option maxRecDepth 100000 in
theorem batchPieces_any (n : ByteArray) (u : Value) (x : List Msg) (w : World) (hbt : batB (n, x) = true) (hn : wMsgs x ≤ 1048576) (hr : RMsgs 0 w u x) :
    Calls Tryz.prog 17 #[.agg #[.string n, u]] w fun e w' => ((x.all okM = true ∧ ∃ v, e = .returned (.tuple #[v, .bool true]) ∧ w'.ownsRow w.heap.size 9 1 v (batP (n, x)).length (strT (batP (n, x)))) ∨ (x.all okM = false ∧ e = .returned (.tuple #[.slice none 0 0, .bool false]))) ∧ Below w.heap.size w w' := by
  obtain ⟨i0, hi, hz0, hz1, hz2⟩ := info_parts Tryz.infoStrT
  have HZC := hide (show (Value.string ⟨#[]⟩).cells.size = 1 from rfl)
  obtain ⟨hn20, hx30, hms⟩ := batB_parts hbt
  have HMS := hide hms
  have HWM := hide (wMsgs_mem hn).2
  clear hms hbt hn
  have hn20 : n.size ≤ 20 := hn20
  have hx30 : x.length ≤ 30 := hx30
  obtain ⟨p, cap, rfl, h1, h2, h4⟩ := hr
  have H4 := hide h4
  unfold maxLen at h2
  clear h4
  obtain ⟨W, hW⟩ : ∃ W, W = w.alloc (.cells #[.string n, .slice p x.length cap] 38) := ⟨_, rfl⟩
  have HBW := hide (show Below w.heap.size w W by rw [hW]; exact (Below.refl _ _).alloc (Nat.le_refl _) _)
  have HRow0 := hide (show Row W w.heap.size 38 [.string n, .slice p x.length cap] by rw [hW]; exact row_new w [.string n, .slice p x.length cap] 38)
  obtain ⟨HP, hHP⟩ : ∃ HP, HP = hdP [66, 72, 83] n := ⟨_, rfl⟩
  obtain ⟨FP, hFP⟩ : ∃ FP, FP = ftP [66, 84, 83, 124] x.length := ⟨_, rfl⟩
  have HBP := hide (show batP (n, x) = HP :: (msgP x ++ [FP]) by rw [hHP, hFP]; rfl)
  have HCH : Hid (∀ y : World, Calls Tryz.prog 16 #[.string ⟨#[66, 72, 83, 124, 94, 126, 92, 38, 124]⟩, .string n] y fun e w' => e = .returned (.string HP) ∧ Below y.heap.size y w') := hide (fun y => by
    rw [hHP]
    exact fileLine_any ⟨#[66, 72, 83, 124, 94, 126, 92, 38, 124]⟩ n y (by decide) (by omega))
  have HCF : Hid (∀ y : World, Calls Tryz.prog 19 #[.string ⟨#[66, 84, 83, 124]⟩, .int .i64 (x.length : Int)] y fun e w' => e = .returned (.string FP) ∧ Below y.heap.size y w') := hide (fun y => by
    rw [hFP]
    exact countLine_any ⟨#[66, 84, 83, 124]⟩ x.length y (by decide) (by omega))
  clear hHP hFP
  go_enter Tryz.func17, Tryz.ntmps17
  have c0 : W.cell? ⟨w.heap.size, 0, none⟩ = some (.string n) := HRow0.out.cell 0
  go_wp2_with fail
  rw [← hW]
  clear hW
  refine (HCH.out _).mono ?_
  rintro e w1 ⟨rfl, hb1⟩
  have HB1 := hide hb1
  clear c0
  have HO2 := hide (show (w1.alloc (.cells #[.string HP] 9)).ownsRow W.heap.size 9 1 (.slice (some ⟨w1.heap.size, 0, none⟩) 1 1) 1 [.string HP] from by
    have := World.ownsRow_lit (e := 9) (base := W.heap.size) (size := 1) w1 #[.string HP] 1 HB1.out.size (by unfold maxLen; omega) rfl
    simpa using this)
  have HB2 := hide (HB1.out.alloc HB1.out.size (.cells #[.string HP] 9))
  have HRow2 := hide (HRow0.out.below HB2.out HRow0.out.lt)
  have c1 : (w1.alloc (.cells #[.string HP] 9)).cell? ⟨w.heap.size, 1, none⟩ = some (.slice p x.length cap) := HRow2.out.cell 1
  clear hb1
  go_wp2_with fail
  clear c1
  go_loopw [4, 15] (fun l i wr => ∃ (X : World) (k : Nat) (pp : Option Addr) (cp : Nat), X = wr ∧ k ≤ x.length ∧ l = .slice pp (1 + k) cp ∧ i = .int .i64 (k : Int) ∧ Hid (X.ownsRow W.heap.size 9 1 (.slice pp (1 + k) cp) (1 + k) (strT (HP :: msgP (x.take k)))) ∧ Hid (∀ j (hj : j < x.length), j < k → okM x[j] = true) ∧ Hid (Below W.heap.size W X)) (fun _ i _ => x.length - (intOf i).toNat)
  case atStart => exact ⟨_, 0, _, _, rfl, Nat.zero_le _, rfl, rfl, HO2, hide (fun j _ h => absurd h (by omega)), HB2⟩
  case round =>
    obtain ⟨X, k, pp, cp, rfl, hk, rfl, rfl, HO, HA, HB⟩ := hrel
    by_cases hlt : k < x.length
    · obtain ⟨g, off, hp, hg, _, hc⟩ := H4.out (by omega)
      subst hp
      obtain ⟨ha, hns, v, hv, hrv⟩ := hc k hlt
      have HBX := hide (HBW.out.trans (HB.out.mono HBW.out.size))
      have hk0 := (HBX.out.cell (p := ⟨g, off + k * 2, none⟩) hg).trans ha
      have hk1 := (HBX.out.cell (p := ⟨g, off + k * 2 + 1, none⟩) hg).trans hv
      obtain ⟨vp, vc, rfl⟩ := hrv.isSlice
      have hfm := HMS.out k hlt
      have hwm := (HWM.out k hlt).1
      have HNX := hide (msgP_next x k hlt)
      have HAN := hide (fun (h : okM (x[k]'hlt) = true) => allF_succ (f := okM) (xs := x) k HA.out (fun _ => h))
      have HAL := hide (fun (h : okM (x[k]'hlt) = false) => allF_no (f := okM) (xs := x) k hlt h)
      obtain ⟨mg, hmg⟩ : ∃ mg, mg = x[k]'hlt := ⟨_, rfl⟩
      rw [← hmg] at hk0 hk1 hns hrv hfm hwm HNX HAN HAL
      have HXA := hide (HB.out.alloc HB.out.size (.cells #[.string mg.1, .slice vp mg.2.length vc] 42))
      have HRV := hide (hrv.below (HBX.out.alloc HBX.out.size (.cells #[.string mg.1, .slice vp mg.2.length vc] 42)))
      have HOX := hide (HO.out.alloc (.cells #[.string mg.1, .slice vp mg.2.length vc] 42))
      have HC := hide (fun y (hr : RSegs 0 y (.slice vp mg.2.length vc) mg.2) => implMessageText_any mg.1 _ mg.2 y hns hwm hr)
      clear hmg ha hv hrv hc hns hwm
      go_wp2_with fail
      refine (HC.out _ HRV.out).mono ?_
      rintro e w3 ⟨rfl, hb3⟩
      have HB3 := hide (HXA.out.trans (hb3.mono HXA.out.size))
      have HO3 := hide (own_belowT HOX.out hb3)
      clear hb3 hk0 hk1
      cases ho : okM mg
      · have HN := hide (HAL.out ho)
        rw [msgT_off ho]
        clear ho hfm
        go_wp2
        exact bodyPost_ret (v := .tuple #[.slice none 0 0, .bool false]) (by simp [results, Tryz.results17, go_sem]) rfl ⟨Or.inr ⟨HN.out, rfl⟩, HBW.out.trans (HB3.out.mono HBW.out.size)⟩
      · rw [msgT_ok hfm ho]
        have HA2 := hide (HAN.out ho)
        have hne := whole_some hfm
        obtain ⟨S, hS⟩ : ∃ S : ByteArray, S = ⟨(wholeT mg.1 mg.2).toArray⟩ := ⟨_, rfl⟩
        rw [← hS] at HNX ⊢
        have hS2 : S ≠ ⟨#[]⟩ := by
          rw [hS]
          intro h
          exact hne (by have := congrArg (fun b : ByteArray => b.data.toList) h; simpa using this)
        have hS1 : S.toList.isEmpty = false := by simpa using toList_neF hS2
        clear hS hne ho hfm
        have HOA := hide (HO3.out.alloc (.cells #[.string S] 9))
        have HBA := hide (HB3.out.alloc HB3.out.size (.cells #[.string S] 9))
        have HNC := hide (new_cellT w3 (.string S) 9)
        go_wp2_with (at_builtin; refine wpList_append_own_at _ rfl _ _ 46 rfl W.heap.size 9 i0 (.string ⟨#[]⟩) 1 16 Tryz.underlying46 hi hz0 hz1 hz2 rfl (by omega) _ (1 + k) (strT (HP :: msgP (x.take k))) rfl HOA.out ⟨w3.heap.size, 0, none⟩ 1 1 [.string S] rfl rfl HNC.out (by simp [Value.oneCell']) (by unfold maxLen; omega) (by omega) HBA.out.size ?_
                     intro v' w4 ho1 hg1 _ _
                     obtain ⟨pv, cv, hv9⟩ := own_sliceT ho1
                     subst hv9
                     have HO4 := hide ho1
                     have HB4 := hide (HBA.out.grown hg1 HBA.out.size (fun j hj => (HOA.out.lt j hj).1))
                     clear ho1 hg1)
        have HO5 : Hid (w4.ownsRow W.heap.size 9 1 (.slice pv (1 + (k + 1)) cv) (1 + (k + 1)) (strT (HP :: msgP (x.take (k + 1))))) := hide (by
          have e : strT (HP :: msgP (x.take (k + 1))) = strT (HP :: msgP (x.take k)) ++ [.string S] := by rw [HNX.out]; simp [strT]
          rw [e, show 1 + (k + 1) = 1 + k + 1 by omega]
          exact HO4.out)
        go_roundw
        case rel => exact ⟨_, k + 1, pv, cv, rfl, by omega, by rw [show 1 + (k + 1) = 1 + k + 1 by omega], by go_num, HO5, HA2, HB4⟩
        case measure => simp [intOf]; omega
    · have hkn : k = x.length := by omega
      subst hkn
      have HALL := hide (show x.all okM = true from allF_yes fun j hj => HA.out j hj hj)
      have HRowE := hide (HRow0.out.below HB.out HRow0.out.lt)
      have c1 : X.cell? ⟨w.heap.size, 1, none⟩ = some (.slice p x.length cap) := HRowE.out.cell 1
      go_wp2_with fail
      refine (HCF.out _).mono ?_
      rintro e w3 ⟨rfl, hb3⟩
      have HB3 := hide (HB.out.trans (hb3.mono HB.out.size))
      have HO3 := hide (own_belowT HO.out hb3)
      clear hb3 c1
      have HOA := hide (HO3.out.alloc (.cells #[.string FP] 9))
      have HBA := hide (HB3.out.alloc HB3.out.size (.cells #[.string FP] 9))
      have HNC := hide (new_cellT w3 (.string FP) 9)
      go_wp2_with (at_builtin; refine wpList_append_own_at _ rfl _ _ 46 rfl W.heap.size 9 i0 (.string ⟨#[]⟩) 1 16 Tryz.underlying46 hi hz0 hz1 hz2 rfl (by omega) _ (1 + x.length) (strT (HP :: msgP (x.take x.length))) rfl HOA.out ⟨w3.heap.size, 0, none⟩ 1 1 [.string FP] rfl rfl HNC.out (by simp [Value.oneCell']) (by unfold maxLen; omega) (by omega) HBA.out.size ?_
                   intro v' w4 ho1 hg1 _ _
                   have HO4 := hide ho1
                   have HB4 := hide (HBA.out.grown hg1 HBA.out.size (fun j hj => (HOA.out.lt j hj).1))
                   clear ho1 hg1)
      have HO5 : Hid (w4.ownsRow W.heap.size 9 1 v' (batP (n, x)).length (strT (batP (n, x)))) := hide (by
        have e : strT (batP (n, x)) = strT (HP :: msgP (x.take x.length)) ++ [.string FP] := by rw [HBP.out, List.take_length]; simp [strT]
        rw [e, batP_len]
        have := HO4.out
        rwa [show 1 + x.length + 1 = x.length + 2 by omega] at this)
      exact bodyPost_ret (v := .tuple #[v', .bool true]) (by simp [results, Tryz.results17, go_sem]) rfl ⟨Or.inl ⟨HALL.out, _, rfl, own_low HO5.out HBW.out.size⟩, HBW.out.trans (HB4.out.mono HBW.out.size)⟩
end Go.Proofs.YtolgjdnhhbbebaaGreatDoor
/- FileText of the program. -/
namespace Go.Proofs.YtolgjdnhhbbebaaGreatDoor
open Go.RowKit
def batsP (xs : List Bat) : List ByteArray := xs.flatMap batP
theorem batsP_next (xs : List Bat) (k : Nat) (h : k < xs.length) : batsP (xs.take (k + 1)) = batsP (xs.take k) ++ batP xs[k] := by
  unfold batsP
  rw [List.take_succ_eq_append_getElem h, List.flatMap_append]
  simp
theorem batsP_flat : ∀ xs : List Bat, ((batsP xs).map (·.data.toList)).flatten = batsL xs
  | [] => rfl
  | b :: r => by
    have i := batsP_flat r
    simp only [batsP, batsL, List.flatMap_cons, List.map_append, List.flatten_append] at i ⊢
    rw [i, batP_flat]
theorem batsP_len : ∀ xs : List Bat, (∀ b ∈ xs, batB b = true) → (batsP xs).length ≤ xs.length * 32
  | [], _ => by simp [batsP]
  | b :: r, h => by
    have i := batsP_len r fun x hx => h x (List.mem_cons_of_mem _ hx)
    have e : batsP (b :: r) = batP b ++ batsP r := by simp [batsP]
    have := (batB_parts (h b List.mem_cons_self)).2.1
    rw [e, List.length_append, List.length_cons, batP_len]
    omega
theorem batsP_takes {n : ByteArray} {xs : List Bat} (h : filB n xs = true) (k : Nat) : (batsP (xs.take k)).length ≤ 320 := by
  obtain ⟨_, hl, ha⟩ := filB_parts h
  have := batsP_len (xs.take k) fun m hm => by
    obtain ⟨i, hi, rfl⟩ := List.getElem_of_mem (List.mem_of_mem_take hm)
    exact ha i hi
  have h2 : (xs.take k).length ≤ 10 := by rw [List.length_take]; omega
  have h3 := Nat.mul_le_mul_right 32 h2
  omega
theorem filP_flat (n : ByteArray) (xs : List Bat) : (((hdP [70, 72, 83] n :: batsP xs) ++ [ftP [70, 84, 83, 124] xs.length]).map (·.data.toList)).flatten = filL n xs := by
  simp only [filL, hdP, ftP, List.map_cons, List.map_append, List.flatten_cons, List.flatten_append, batsP_flat, List.map_nil, List.flatten_nil, List.append_nil, List.append_assoc, List.cons_append]
theorem mem_flat {α β : Type} (f : α → List β) : ∀ (xs : List α) (a : α), a ∈ xs → (f a).length ≤ (xs.flatMap f).length
  | b :: r, a, h => by
    rw [List.flatMap_cons, List.length_append]
    rcases List.mem_cons.1 h with rfl | h
    · omega
    · have := mem_flat f r a h; omega
theorem filT_off {n : ByteArray} {x : List Bat} (k : Nat) (hk : k < x.length) (h : (x[k]'hk).2.all okM = false) : filT n x = ⟨#[]⟩ := by
  obtain ⟨m, hm, ho⟩ := List.all_eq_false.1 h
  have h1 : ¬ (wholeT m.1 m.2).length ≤ 8000 := by simpa [okM] using ho
  have h2 : (wholeT m.1 m.2).length ≤ (msgsL (x[k]'hk).2).length := mem_flat (fun m : Msg => wholeT m.1 m.2) _ m hm
  have h3 : (batL (x[k]'hk)).length ≤ (batsL x).length := mem_flat batL _ _ (List.getElem_mem hk)
  have h4 : (msgsL (x[k]'hk).2).length ≤ (batL (x[k]'hk)).length := by simp only [batL, List.length_append]; omega
  exact filT_long (by simp only [filL, List.length_append]; omega)
theorem filL_len {n : ByteArray} {x : List Bat} (h : filB n x = true) : (filL n x).length ≤ 100000000000 := by
  have h1 := batsL_takes h x.length
  rw [List.take_length] at h1
  have h2 := hdL_len [70, 72, 83] n
  obtain ⟨h3, h5, _⟩ := filB_parts h
  have h4 := ftL_len [70, 84, 83, 124] x.length (by omega)
  simp only [filL, List.length_append]
  simp only [List.length_cons, List.length_nil] at h2 h4
  omega
set_option maxHeartbeats 16000000 in
set_option maxRecDepth 100000 in
theorem implFileText_any (n : ByteArray) (u : Value) (x : List Bat) (w : World) (hm : n.size ≤ maxLen) (hn : wBats x ≤ 1048576) (hr : RBats 0 w u x) :
    Calls Tryz.prog 7 #[.agg #[.string n, u]] w fun e w' => e = .returned (.string (filT n x)) ∧ Below w.heap.size w w' := by
  obtain ⟨i0, hi, hz0, hz1, hz2⟩ := info_parts Tryz.infoStrT
  have HX := hide hr
  have HF := hide (fitsF_of hn)
  have HWB := hide (wBats_mem hn).2
  have hl : x.length ≤ 1048576 := (wBats_mem hn).1
  clear hn
  obtain ⟨p, cap, rfl, h1, h2, h4⟩ := hr
  have H4 := hide h4
  unfold maxLen at h2
  clear h4
  obtain ⟨W, hW⟩ : ∃ W, W = w.alloc (.cells #[.string n, .slice p x.length cap] 29) := ⟨_, rfl⟩
  have HBW := hide (show Below w.heap.size w W by rw [hW]; exact (Below.refl _ _).alloc (Nat.le_refl _) _)
  have HRow0 := hide (show Row W w.heap.size 29 [.string n, .slice p x.length cap] by rw [hW]; exact row_new w [.string n, .slice p x.length cap] 29)
  have HXR := hide (HX.out.below HBW.out)
  go_enter Tryz.func7, Tryz.ntmps7
  go_wp2_with fail
  rw [← hW]
  clear hW
  refine (fileRight_any n _ x _ hm HF.out HXR.out).mono ?_
  rintro e w1 ⟨rfl, hb1⟩
  have HB1 := hide (hb1.mono (Nat.le_refl _))
  clear hb1 HXR
  cases hq : filB n x
  · have HN := hide (filT_no hq)
    clear hq
    go_wp2
    go_ret
    exact ⟨ret_str HN.out.symm, HBW.out.trans (HB1.out.mono HBW.out.size)⟩
  obtain ⟨hn20, hx10, hbat⟩ := filB_parts hq
  have HQ := hide hq
  have HBAT := hide hbat
  clear hq hbat
  have HBL := hide (fun k => batsP_takes HQ.out k)
  obtain ⟨HP, hHP⟩ : ∃ HP, HP = hdP [70, 72, 83] n := ⟨_, rfl⟩
  obtain ⟨FP, hFP⟩ : ∃ FP, FP = ftP [70, 84, 83, 124] x.length := ⟨_, rfl⟩
  have HFL := hide (show (((HP :: batsP x) ++ [FP]).map (·.data.toList)).flatten = filL n x by rw [hHP, hFP]; exact filP_flat n x)
  have HCH : Hid (∀ y : World, Calls Tryz.prog 16 #[.string ⟨#[70, 72, 83, 124, 94, 126, 92, 38, 124]⟩, .string n] y fun e w' => e = .returned (.string HP) ∧ Below y.heap.size y w') := hide (fun y => by
    rw [hHP]
    exact fileLine_any ⟨#[70, 72, 83, 124, 94, 126, 92, 38, 124]⟩ n y (by decide) (by omega))
  have HCF : Hid (∀ y : World, Calls Tryz.prog 19 #[.string ⟨#[70, 84, 83, 124]⟩, .int .i64 (x.length : Int)] y fun e w' => e = .returned (.string FP) ∧ Below y.heap.size y w') := hide (fun y => by
    rw [hFP]
    exact countLine_any ⟨#[70, 84, 83, 124]⟩ x.length y (by decide) (by omega))
  clear hHP hFP
  have HRow1 := hide (HRow0.out.below HB1.out HRow0.out.lt)
  have c0 : w1.cell? ⟨w.heap.size, 0, none⟩ = some (.string n) := HRow1.out.cell 0
  go_wp2_with fail
  refine (HCH.out _).mono ?_
  rintro e w2 ⟨rfl, hb2⟩
  have HB2 := hide (HB1.out.trans (hb2.mono HB1.out.size))
  clear hb2 c0
  have HO2 := hide (show (w2.alloc (.cells #[.string HP] 9)).ownsRow W.heap.size 9 1 (.slice (some ⟨w2.heap.size, 0, none⟩) 1 1) 1 [.string HP] from by
    have := World.ownsRow_lit (e := 9) (base := W.heap.size) (size := 1) w2 #[.string HP] 1 HB2.out.size (by unfold maxLen; omega) rfl
    simpa using this)
  have HB2a := hide (HB2.out.alloc HB2.out.size (.cells #[.string HP] 9))
  have HRow2 := hide (HRow0.out.below HB2a.out HRow0.out.lt)
  have c1 : (w2.alloc (.cells #[.string HP] 9)).cell? ⟨w.heap.size, 1, none⟩ = some (.slice p x.length cap) := HRow2.out.cell 1
  go_wp2_with fail
  clear c1
  go_loopw [3, 19] (fun l i wr => ∃ (X : World) (k : Nat) (pp : Option Addr) (cp D : Nat), X = wr ∧ k ≤ x.length ∧ l = .slice pp D cp ∧ i = .int .i64 (k : Int) ∧ Hid (D = (HP :: batsP (x.take k)).length) ∧ Hid (X.ownsRow W.heap.size 9 1 (.slice pp D cp) D (strT (HP :: batsP (x.take k)))) ∧ Hid (Below W.heap.size W X)) (fun _ i _ => x.length - (intOf i).toNat)
  case atStart => exact ⟨_, 0, _, _, 1, rfl, Nat.zero_le _, rfl, rfl, hide rfl, HO2, HB2a⟩
  case round =>
    obtain ⟨X, k, pp, cp, D, rfl, hk, rfl, rfl, HD, HO, HB⟩ := hrel
    have hD : D ≤ 321 := by have := HBL.out k; rw [HD.out, List.length_cons]; omega
    by_cases hlt : k < x.length
    · obtain ⟨g, off, hp, hg, _, hc⟩ := H4.out (by omega)
      subst hp
      obtain ⟨ha, hns, v, hv, hrv⟩ := hc k hlt
      have HBX := hide (HBW.out.trans (HB.out.mono HBW.out.size))
      have hk0 := (HBX.out.cell (p := ⟨g, off + k * 2, none⟩) hg).trans ha
      have hk1 := (HBX.out.cell (p := ⟨g, off + k * 2 + 1, none⟩) hg).trans hv
      obtain ⟨vp, vc, rfl⟩ := hrv.isSlice
      have hbt := HBAT.out k hlt
      have hwm := (HWB.out k hlt).1
      have HNX := hide (batsP_next x k hlt)
      have HOF := hide (fun (h : (x[k]'hlt).2.all okM = false) => filT_off (n := n) k hlt h)
      obtain ⟨bt, hbe⟩ : ∃ bt, bt = x[k]'hlt := ⟨_, rfl⟩
      rw [← hbe] at hk0 hk1 hns hrv hbt hwm HNX HOF
      have hb30 := (batB_parts hbt).2.1
      have HXA := hide (HB.out.alloc HB.out.size (.cells #[.string bt.1, .slice vp bt.2.length vc] 38))
      have HRV := hide (hrv.below (HBX.out.alloc HBX.out.size (.cells #[.string bt.1, .slice vp bt.2.length vc] 38)))
      have HOX := hide (HO.out.alloc (.cells #[.string bt.1, .slice vp bt.2.length vc] 38))
      have HC := hide (fun y (hr : RMsgs 0 y (.slice vp bt.2.length vc) bt.2) => batchPieces_any bt.1 _ bt.2 y hbt hwm hr)
      clear hbe ha hv hrv hc hns hwm hbt
      go_wp2_with fail
      refine (HC.out _ HRV.out).mono ?_
      rintro e w3 ⟨hres, hb3⟩
      have HB3 := hide (HXA.out.trans (hb3.mono HXA.out.size))
      have HO3 := hide (own_belowT HOX.out hb3)
      clear hb3 hk0 hk1
      rcases hres with ⟨_, v, rfl, hown⟩ | ⟨hno, rfl⟩
      · obtain ⟨g2, c2, rfl, hcells⟩ : ∃ g2 c2, v = .slice (some ⟨g2, 0, none⟩) (bt.2.length + 2) c2 ∧ ∀ j u, (strT (batP (bt.1, bt.2)))[j]? = some u → w3.cell? ((⟨g2, 0, none⟩ : Addr).add j) = some u := by
          have hlen : (batP (bt.1, bt.2)).length = bt.2.length + 2 := batP_len bt
          rw [hlen] at hown
          obtain ⟨_, ⟨_, h1⟩ | ⟨g2, c2, cur, rfl, _⟩⟩ := id hown
          · omega
          · refine ⟨g2, c2, rfl, fun j u hu => ?_⟩
            have hj : j < bt.2.length + 2 := by
              have := (List.getElem?_eq_some_iff.1 hu).1
              rw [strT, List.length_map, hlen] at this
              exact this
            have ea : (⟨g2, 0, none⟩ : Addr).add j = ⟨g2, j, none⟩ := by unfold Addr.add; split <;> simp_all
            have hj2 : j < (bt.2.length + 2) * 1 := by omega
            rw [ea, hown.cellAt j hj2]
            exact hu
        have HCL := hide hcells
        have HOL := hide (show (strT (batP (bt.1, bt.2))).length = (bt.2.length + 2) * 1 by rw [strT, List.length_map, batP_len]; exact (Nat.mul_one _).symm)
        have HONE := hide (show ∀ u ∈ strT (batP (bt.1, bt.2)), u.oneCell' = true from fun u hu => by
          obtain ⟨b, _, rfl⟩ := List.mem_map.1 hu
          rfl)
        clear hcells hown
        go_wp2_with (at_builtin; refine wpList_append_own_at _ rfl _ _ 46 rfl W.heap.size 9 i0 (.string ⟨#[]⟩) 1 16 Tryz.underlying46 hi hz0 hz1 hz2 rfl (by omega) _ D (strT (HP :: batsP (x.take k))) rfl HO3.out ⟨g2, 0, none⟩ (bt.2.length + 2) c2 (strT (batP (bt.1, bt.2))) rfl HOL.out HCL.out HONE.out (by unfold maxLen; omega) (by omega) HB3.out.size ?_
                     intro v' w4 ho1 hg1 _ _
                     obtain ⟨pv, cv, hv9⟩ := own_sliceT ho1
                     subst hv9
                     have HO4 := hide ho1
                     have HB4 := hide (HB3.out.grown hg1 HB3.out.size (fun j hj => (HO3.out.lt j hj).1))
                     clear ho1 hg1)
        have HD2 : Hid (D + (bt.2.length + 2) = (HP :: batsP (x.take (k + 1))).length) := hide (by
          have h1 := HD.out
          have h2 : (batP bt).length = bt.2.length + 2 := batP_len bt
          rw [List.length_cons] at h1
          rw [HNX.out, List.length_cons, List.length_append, h2]
          omega)
        have HO5 : Hid (w4.ownsRow W.heap.size 9 1 (.slice pv (D + (bt.2.length + 2)) cv) (D + (bt.2.length + 2)) (strT (HP :: batsP (x.take (k + 1))))) := hide (by
          have e : strT (HP :: batsP (x.take (k + 1))) = strT (HP :: batsP (x.take k)) ++ strT (batP (bt.1, bt.2)) := by rw [HNX.out]; simp [strT]
          rw [e]
          exact HO4.out)
        go_roundw
        case rel => exact ⟨_, k + 1, pv, cv, D + (bt.2.length + 2), rfl, by omega, rfl, by go_num, HD2, HO5, HB4⟩
        case measure => simp [intOf]; omega
      · have HN := hide (HOF.out hno)
        clear hno
        go_wp2
        go_ret
        exact ⟨ret_str HN.out.symm, HBW.out.trans (HB3.out.mono HBW.out.size)⟩
    · have hkn : k = x.length := by omega
      subst hkn
      have HRowE := hide (HRow0.out.below HB.out HRow0.out.lt)
      have c1 : X.cell? ⟨w.heap.size, 1, none⟩ = some (.slice p x.length cap) := HRowE.out.cell 1
      go_wp2_with fail
      refine (HCF.out _).mono ?_
      rintro e w3 ⟨rfl, hb3⟩
      have HB3 := hide (HB.out.trans (hb3.mono HB.out.size))
      have HO3 := hide (own_belowT HO.out hb3)
      clear hb3 c1
      have HOA := hide (HO3.out.alloc (.cells #[.string FP] 9))
      have HBA := hide (HB3.out.alloc HB3.out.size (.cells #[.string FP] 9))
      have HNC := hide (new_cellT w3 (.string FP) 9)
      go_wp2_with (at_builtin; refine wpList_append_own_at _ rfl _ _ 46 rfl W.heap.size 9 i0 (.string ⟨#[]⟩) 1 16 Tryz.underlying46 hi hz0 hz1 hz2 rfl (by omega) _ D (strT (HP :: batsP (x.take x.length))) rfl HOA.out ⟨w3.heap.size, 0, none⟩ 1 1 [.string FP] rfl rfl HNC.out (by simp [Value.oneCell']) (by unfold maxLen; omega) (by omega) HBA.out.size ?_
                   intro v' w4 ho1 hg1 _ _
                   have HO4 := hide ho1
                   have HB4 := hide (HBA.out.grown hg1 HBA.out.size (fun j hj => (HOA.out.lt j hj).1))
                   clear ho1 hg1)
      have HO5 : Hid (w4.ownsRow W.heap.size 9 1 v' ((HP :: batsP x) ++ [FP]).length (strT ((HP :: batsP x) ++ [FP]))) := hide (by
        have e : strT ((HP :: batsP x) ++ [FP]) = strT (HP :: batsP (x.take x.length)) ++ [.string FP] := by rw [List.take_length]; simp [strT]
        have e2 : ((HP :: batsP x) ++ [FP]).length = D + 1 := by rw [HD.out, List.take_length, List.length_append]; rfl
        rw [e, e2]
        exact HO4.out)
      have hn1 : ((HP :: batsP x) ++ [FP]).length ≤ 1000 := by
        have := HBL.out x.length
        rw [List.take_length] at this
        rw [List.length_append, List.length_cons, List.length_cons, List.length_nil]; omega
      refine (together_ownT W.heap.size v' ((HP :: batsP x) ++ [FP]) w4 HO5.out (by simp) hn1 (by rw [HFL.out]; exact filL_len HQ.out)).mono ?_
      rw [HFL.out]
      rintro e w5 ⟨rfl, hb5⟩
      have HB5 := hide (HB4.out.trans (hb5.mono HB4.out.size))
      clear hb5 hn1
      obtain ⟨S, hS⟩ : ∃ S : ByteArray, S = ⟨(filL n x).toArray⟩ := ⟨_, rfl⟩
      rw [← hS]
      have hSz : S.size = (filL n x).length := by rw [hS, bsize]
      by_cases hbig : 8000 < (S.size : Int)
      · have HN := hide (show filT n x = ⟨#[]⟩ from filT_long (by omega))
        go_wp2
        go_ret
        exact ⟨ret_str HN.out.symm, HBW.out.trans (HB5.out.mono HBW.out.size)⟩
      · have HN := hide (show filT n x = S by rw [hS]; exact filT_yes HQ.out (by omega))
        clear hS
        go_wp2
        go_ret
        exact ⟨ret_str HN.out.symm, HBW.out.trans (HB5.out.mono HBW.out.size)⟩
end Go.Proofs.YtolgjdnhhbbebaaGreatDoor
/- The law of FileText out of the two contracts. -/
namespace Go.Proofs.YtolgjdnhhbbebaaGreatDoor
open Go.RowKit
set_option maxHeartbeats 4000000 in
theorem lawFileText (n : ByteArray) (u : Value) (x : List Bat) (w : World) (hnl : n.size ≤ maxLen) (hr : RBats 0 w u x) :
    Calls Tryz.prog 3 #[.agg #[.string n, u]] w fun e w' => e = .returned (.bool true) ∧ Below w.heap.size w w' := by
  obtain ⟨p, c, rfl⟩ := hr.isSlice
  obtain ⟨W, hW⟩ : ∃ W, W = w.alloc (.cells #[.string n, .slice p x.length c] 24) := ⟨_, rfl⟩
  have hb0 : Below w.heap.size w W := by rw [hW]; exact (Below.refl _ _).alloc (Nat.le_refl _) _
  have HR := hide (hr.below hb0)
  have HB0 := hide hb0
  have RW : Row W w.heap.size 24 [.string n, .slice p x.length c] := by rw [hW]; exact row_new w [.string n, .slice p x.length c] 24
  have HRW := hide RW
  clear RW hb0 hr
  go_enter Tryz.func3, Tryz.ntmps3
  go_wp2_with fail
  rw [← hW]
  refine (szFile_any n _ x 1048576 _ hnl (by omega) (by omega) HR.out).mono ?_
  rintro e w1 ⟨rfl, hb1⟩
  clear hW
  have HB1 := hide (HB0.out.trans (hb1.mono HB0.out.size))
  have HR1 := hide (HR.out.below hb1)
  have row1 := HRW.out.below hb1 HRW.out.lt
  have c1 : w1.cell? ⟨w.heap.size, 1, none⟩ = some (.slice p x.length c) := row1.cell 1
  have b1 : w1.cell? ⟨w.heap.size, 0, none⟩ = some (.string n) := row1.cell 0
  have HRow1 := hide row1
  clear hb1 row1
  by_cases hsz : (((n.size + wBats x) : Nat) : Int) ≤ 1048576
  · rw [szOf_yes hsz]
    have hsz' : wBats x ≤ 1048576 := by omega
    have HS := hide hsz'
    have HSZ := hide (fitsF_of hsz')
    have h0 : ¬ (1048576 - (((n.size + wBats x) : Nat) : Int)) < 0 := by omega
    clear hsz hsz'
    generalize (1048576 - (((n.size + wBats x) : Nat) : Int)) = L at h0
    go_wp2_with fail
    refine (toFile_any n _ x _ HS.out HR1.out).mono ?_
    rintro e w2 ⟨p2, c2, rfl, hr2, hb2⟩
    have HB2 := hide (HB1.out.trans (hb2.mono HB1.out.size))
    have HR2 := hide (HR1.out.below hb2)
    have HC2 := hide (RBats.mono hr2 (Nat.zero_le _))
    have HRow2 := hide (HRow1.out.below hb2 HRow1.out.lt)
    clear hr2 hb2 c1 b1
    go_wp2_with fail
    refine (specFileText_any n _ x _ hnl HSZ.out HC2.out).mono ?_
    rintro e w3 ⟨rfl, hb3⟩
    have HB3 := hide (HB2.out.trans (hb3.mono HB2.out.size))
    have HR3 := hide (HR2.out.below hb3)
    have row3 := HRow2.out.below hb3 HRow2.out.lt
    have c3 : w3.cell? ⟨w.heap.size, 1, none⟩ = some (.slice p x.length c) := row3.cell 1
    have b3 : w3.cell? ⟨w.heap.size, 0, none⟩ = some (.string n) := row3.cell 0
    have HRow3 := hide row3
    clear hb3 row3
    go_wp2_with fail
    refine (toFile_any n _ x _ HS.out HR3.out).mono ?_
    rintro e w4 ⟨p4, c4, rfl, hr4, hb4⟩
    have hbn : Below w4.heap.size w4 (w4.alloc (.cells #[.string n, .slice p4 x.length c4] 29)) := (Below.refl _ _).alloc (Nat.le_refl _) _
    have HB4 := hide ((HB3.out.trans (hb4.mono HB3.out.size)).trans (hbn.mono (HB3.out.trans (hb4.mono HB3.out.size)).size))
    have HR4 := hide ((HR3.out.below hb4).below hbn)
    have HC4 := hide ((RBats.mono hr4 (Nat.zero_le _)).below hbn)
    have HRow4 := hide ((HRow3.out.below hb4 HRow3.out.lt).alloc (.cells #[.string n, .slice p4 x.length c4] 29))
    have HRowX := hide (row_new w4 [.string n, .slice p4 x.length c4] 29)
    clear hr4 hb4 hbn c3 b3
    go_wp2_with fail
    generalize hV : w4.alloc (.cells #[.string n, .slice p4 x.length c4] 29) = V at *
    generalize hG : w4.heap.size = G at *
    clear hV hG
    refine (implFileText_any n _ x _ hnl HS.out HC4.out).mono ?_
    rintro e w5 ⟨rfl, hb5⟩
    have HB5 := hide (HB4.out.trans (hb5.mono HB4.out.size))
    have HR5 := hide (HR4.out.below hb5)
    have HC5 := hide (HC4.out.below hb5)
    have HRow5 := hide (HRow4.out.below hb5 HRow4.out.lt)
    have HRowX5 := hide (HRowX.out.below hb5 HRowX.out.lt)
    clear hb5
    have HSS := hide (show ∀ y, Below w5.heap.size w5 y → y.cell? ⟨w.heap.size, 0, none⟩ = some (.string n) ∧ y.cell? ⟨w.heap.size, 1, none⟩ = some (.slice p x.length c) ∧ y.cell? ⟨G, 0, none⟩ = some (.string n) ∧ y.cell? ⟨G, 1, none⟩ = some (.slice p4 x.length c4) ∧ Below w5.heap.size w5 y from
      fun y h => ⟨(HRow5.out.below h HRow5.out.lt).cell 0, (HRow5.out.below h HRow5.out.lt).cell 1, (HRowX5.out.below h HRowX5.out.lt).cell 0, (HRowX5.out.below h HRowX5.out.lt).cell 1, h⟩)
    generalize filT n x = FB
    all_goals
      go_wp2_with fail
      go_region_held3 (fun y => y.cell? ⟨w.heap.size, 0, none⟩ = some (.string n) ∧ y.cell? ⟨w.heap.size, 1, none⟩ = some (.slice p x.length c) ∧ y.cell? ⟨G, 0, none⟩ = some (.string n) ∧ y.cell? ⟨G, 1, none⟩ = some (.slice p4 x.length c4) ∧ Below w5.heap.size w5 y)
        ((go_split_ands; refine HSS.out _ ?_; repeat (first | with_reducible assumption | with_reducible exact Below.refl _ _ | with_reducible refine Below.drew ?_)))
        ((first
          | (go_at_call 6; go_split_ands; refine (toFile_any n _ x _ HS.out (HR5.out.below (by assumption))).mono ?_; rintro e w6 ⟨p6, c6, rfl, hr6, hb6⟩; have HC6 := hide (RBats.mono hr6 (Nat.zero_le _)); have hB6 : Below w5.heap.size w5 w6 := Below.trans (by assumption) (hb6.mono (Below.size (by assumption))); clear hr6 hb6)
          | (go_at_call 8; go_split_ands; refine (eqFile_same n _ _ x 0 0 _ HS.out (HC5.out.below (by assumption)) (by first | exact HC6.out | exact HC6.out.below ((Below.refl _ _).drew))).mono ?_; rintro e w7 ⟨rfl, hb7⟩; have hB7 : Below w5.heap.size w5 w7 := Below.trans (by assumption) (hb7.mono (Below.size (by assumption))); clear hb7)))
      all_goals
        have HB7 := hide (HB5.out.trans (hB7.mono HB5.out.size))
        clear hB7
        go_wp2
        go_ret
        exact ⟨rfl, HB7.out⟩
  · rw [szOf_no hsz]
    go_wp2
    go_ret
    exact ⟨rfl, HB1.out⟩
end Go.Proofs.YtolgjdnhhbbebaaGreatDoor
