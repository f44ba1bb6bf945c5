/- A Message that is read: of the model. -/
import Derived.Test.YtckcfjibiidafaaGreatXG40OMsgT
import Derived.OrdersHeld
import Derived.Deep.DeepCutAuto
import Derived.Deep.RegionHeld3
namespace Go.Proofs.YtckcfjibiidafaaGreat
open Go.RowKit
def MdRes (lo : Nat) (R : Option (ByteArray × List Seg)) (e : Ending) (w' : World) : Prop :=
  ∃ n u b xs, e = .returned (.tuple #[.agg #[.string n, u], .bool b]) ∧ RSegs lo w' u xs ∧ R = (if b then some (n, xs) else none)
theorem rsegs_nil (B : Nat) (w : World) (p : Option Addr) : RSegs B w (.slice p 0 0) [] := ⟨p, 0, rfl, Nat.le_refl _, Nat.zero_le _, fun h => absurd h (Nat.lt_irrefl 0)⟩
theorem fitsM_snoc {xs : List Seg} {s : Seg} (h : FitsM xs) (hl : xs.length < 1048576) (hs : Fits s.2) : FitsM (xs ++ [s]) := by
  refine ⟨by rw [List.length_append, List.length_singleton]; omega, fun i hi => ?_⟩
  by_cases e : i < xs.length
  · rw [List.getElem_append_left e]; exact h.2 i e
  · rw [List.length_append, List.length_singleton] at hi
    have : i = xs.length := by omega
    subst this
    rw [List.getElem_append_right (Nat.le_refl _)]
    simpa using hs
def MdA (m : ByteArray) (L : List (List UInt8)) (k : Nat) (xs : List Seg) : Prop := mdL m 0 L = (mdL m k (L.drop k)).map (xs ++ ·)
theorem md_start (m : ByteArray) (L : List (List UInt8)) : MdA m L 0 [] := by
  unfold MdA
  rw [List.drop_zero]
  cases mdL m 0 L <;> rfl
theorem md_end {m : ByteArray} {L : List (List UInt8)} {k : Nat} {xs : List Seg} (h : MdA m L k xs) (hk : L.length ≤ k) : mdL m 0 L = some xs := by
  unfold MdA at h
  rw [h, List.drop_eq_nil_of_le hk]
  simp [mdL]
theorem md_open {m : ByteArray} {L : List (List UInt8)} {k : Nat} {xs : List Seg} (h : MdA m L k xs) (hk : k < L.length) (hn : ¬ (k + 1 = L.length ∧ feedL k L[k] = [])) :
    mdL m 0 L = ((segMd m (feedL k L[k])).bind fun s => if 20 ≤ k then none else (mdL m (k + 1) (L.drop (k + 1))).map (s :: ·)).map (xs ++ ·) := by
  unfold MdA at h
  rw [h, List.drop_eq_getElem_cons hk, mdL, if_neg (fun e => hn ⟨by
    have h2 := congrArg List.length e.1
    rw [List.length_drop] at h2
    simp at h2
    omega, e.2⟩)]
theorem md_stop {m : ByteArray} {L : List (List UInt8)} {k : Nat} {xs : List Seg} (h : MdA m L k xs) (hk : k < L.length) (h1 : k + 1 = L.length) (h2 : feedL k L[k] = []) : mdL m 0 L = some xs := by
  unfold MdA at h
  rw [h, List.drop_eq_getElem_cons hk, mdL, if_pos ⟨List.drop_eq_nil_of_le (by omega), h2⟩]
  simp
theorem md_none {m : ByteArray} {L : List (List UInt8)} {k : Nat} {xs : List Seg} (h : MdA m L k xs) (hk : k < L.length) (hn : ¬ (k + 1 = L.length ∧ feedL k L[k] = [])) (h2 : segMd m (feedL k L[k]) = none) : mdL m 0 L = none := by
  rw [md_open h hk hn, h2]; rfl
theorem md_full {m : ByteArray} {L : List (List UInt8)} {k : Nat} {xs : List Seg} {s : Seg} (h : MdA m L k xs) (hk : k < L.length) (hn : ¬ (k + 1 = L.length ∧ feedL k L[k] = [])) (h2 : segMd m (feedL k L[k]) = some s) (h3 : 20 ≤ k) : mdL m 0 L = none := by
  rw [md_open h hk hn, h2]
  show Option.map _ (if 20 ≤ k then none else _) = none
  rw [if_pos h3]; rfl
theorem md_go {m : ByteArray} {L : List (List UInt8)} {k : Nat} {xs : List Seg} {s : Seg} (h : MdA m L k xs) (hk : k < L.length) (hn : ¬ (k + 1 = L.length ∧ feedL k L[k] = [])) (h2 : segMd m (feedL k L[k]) = some s) (h3 : ¬ 20 ≤ k) : MdA m L (k + 1) (xs ++ [s]) := by
  unfold MdA
  rw [md_open h hk hn, h2]
  show Option.map _ (if 20 ≤ k then none else _) = _
  rw [if_neg h3, Option.map_map]
  congr 1
  funext ys
  simp
theorem segMd_name {m : ByteArray} {T : List UInt8} {s : ByteArray × Flds} (h : segMd m T = some s) : s.1.size ≤ 3 := by
  unfold segMd headR at h
  obtain ⟨hd, h1, h2⟩ := Option.bind_eq_some_iff.1 h
  obtain ⟨fs, h3, h4⟩ := Option.bind_eq_some_iff.1 h2
  cases h4
  have hb : (⟨(T.take 3).toArray⟩ : ByteArray).size ≤ 3 := by
    rw [bsize, List.length_take]; omega
  split at h1
  · cases h1
  · split at h1
    · split at h1
      · cases h1; exact hb
      · cases h1
    · cases h1; exact hb

set_option maxHeartbeats 64000000 in
set_option maxRecDepth 100000 in
theorem l04Message_any (t : ByteArray) (w : World) (ht : t.size ≤ 8000) :
    Calls Tryz.prog 9 #[.string t] w fun e w' => MdRes (w.heap.size + 1) (msgMd t.data.toList) e w' ∧ Below w.heap.size w w' := by
  obtain ⟨i0, hi, hz0, hz1, hz2⟩ := info_parts Tryz.infoSegment
  have HZC := hide (show (Value.agg #[.string ⟨#[]⟩, .slice none 0 0]).cells.size = 2 from rfl)
  have htl : t.data.toList.length = t.size := by simp
  obtain ⟨R, hR⟩ : ∃ R, R = msgMd t.data.toList := ⟨_, rfl⟩
  rw [← hR]
  have HRX := hide hR
  clear hR
  by_cases h8 : t.size < 8
  · obtain rfl : R = none := by rw [HRX.out]; unfold msgMd; rw [if_pos (.inl (by omega))]
    have h8i : (t.size : Int) < 8 := by omega
    go_enter Tryz.func9, Tryz.ntmps9
    go_wp2
    refine bodyPost_ret (v := .tuple #[.agg #[.string ⟨#[]⟩, .slice none 0 0], .bool false]) (by simp [results, Tryz.results9, go_sem]) rfl ⟨?_, ?_⟩
    · exact ⟨⟨#[]⟩, _, false, [], rfl, rsegs_nil _ _ _, rfl⟩
    · first
        | exact ((Below.refl _ _).alloc (Nat.le_refl _) _).alloc (by simp) _
        | exact (((Below.refl _ _).alloc (Nat.le_refl _) _).alloc (by simp) _).drewN _
  have h8i : ¬ (t.size : Int) < 8 := by omega
  have h8j : (8 : Int) ≤ (t.size : Int) := by omega
  have h3j : (3 : Int) ≤ (t.size : Int) := by omega
  have HN3 := hide (show (t.extract 0 3 : ByteArray) = ⟨(t.data.toList.take 3).toArray⟩ by rw [extract_list]; rfl)
  by_cases h3 : (t.extract 0 3 : ByteArray) = msh
  case neg =>
    have hb : ((t.extract 0 3 : ByteArray).toList == [77, 83, 72]) = false := by simpa [msh] using toList_neF h3
    obtain rfl : R = none := by
      rw [HRX.out]; unfold msgMd
      rw [if_pos (.inr (.inl (fun e => h3 (by rw [HN3.out, e]; rfl))))]
    clear h3
    go_enter Tryz.func9, Tryz.ntmps9
    go_wp2
    refine bodyPost_ret (v := .tuple #[.agg #[.string ⟨#[]⟩, .slice none 0 0], .bool false]) (by simp [results, Tryz.results9, go_sem]) rfl ⟨?_, ?_⟩
    · exact ⟨⟨#[]⟩, _, false, [], rfl, rsegs_nil _ _ _, rfl⟩
    · first
        | exact ((Below.refl _ _).alloc (Nat.le_refl _) _).alloc (by simp) _
        | exact (((Below.refl _ _).alloc (Nat.le_refl _) _).alloc (by simp) _).drewN _
  have hb : ((t.extract 0 3 : ByteArray).toList == [77, 83, 72]) = true := by rw [h3]; unfold msh; simp
  have HT3 := hide (show t.data.toList.take 3 = [77, 83, 72] by
    have h9 := congrArg (fun b : ByteArray => b.data.toList) h3
    rw [HN3.out] at h9
    simpa [msh] using h9)
  clear h3
  obtain ⟨MK, hMK⟩ : ∃ MK, MK = t.extract 3 8 := ⟨_, rfl⟩
  have HMK := hide (show mk5 t.data.toList = MK by rw [hMK, extract_list]; rfl)
  have HMS := hide (show MK.size ≤ maxLen by rw [hMK, ByteArray.size_extract]; unfold maxLen; omega)
  obtain ⟨W, hW⟩ : ∃ W, W = (w.alloc (.cells #[.string ⟨#[]⟩, .slice none 0 0] 24)).alloc (.cells #[.string ⟨#[]⟩, .slice none 0 0] 24) := ⟨_, rfl⟩
  have HBW := hide (show Below w.heap.size w W by rw [hW]; exact ((Below.refl _ _).alloc (Nat.le_refl _) _).alloc (by simp) _)
  have HRES := hide (show Row W w.heap.size 24 [.string ⟨#[]⟩, .slice none 0 0] by rw [hW]; exact (row_new w [.string ⟨#[]⟩, .slice none 0 0] 24).alloc _)
  obtain ⟨M, hM⟩ : ∃ M, M = w.heap.size + 1 := ⟨_, rfl⟩
  have HRM := hide (show Row W M 24 [.string ⟨#[]⟩, .slice none 0 0] by
    rw [hW, hM]
    have := row_new (w.alloc (.cells #[.string ⟨#[]⟩, .slice none 0 0] 24)) [.string ⟨#[]⟩, .slice none 0 0] 24
    simpa using this)
  go_enter Tryz.func9, Tryz.ntmps9
  go_wp2_with fail
  rw [← hW, ← hM, ← hMK]
  have HMe := hide hM
  have HME := hide hMK
  have hMK2 := hMK.symm
  clear hW hM hMK
  refine (specMarksRight_any MK _ HMS.out).mono ?_
  rintro e w1 ⟨rfl, h9⟩
  obtain rfl := h9.symm
  clear h9
  have c60 : W.cell? ⟨M, 0, none⟩ = some (.string ⟨#[]⟩) := HRM.out.cell 0
  have f60 := HRM.out.free 0
  cases hq : marksB MK with
  | false =>
    clear c60 f60
    obtain rfl : R = none := by rw [HRX.out]; unfold msgMd; rw [if_pos (.inr (.inr (by rw [HMK.out]; exact hq)))]
    have k0 : W.cell? ⟨w.heap.size, 0, none⟩ = some (.string ⟨#[]⟩) := HRES.out.cell 0
    have k1 : W.cell? ⟨w.heap.size, 1, none⟩ = some (.slice none 0 0) := HRES.out.cell 1
    have f0 := HRES.out.free 0
    have f1 := HRES.out.free 1
    have s0 : W.cell? ⟨M, 0, none⟩ = some (.string ⟨#[]⟩) := HRM.out.cell 0
    have s1 : W.cell? ⟨M, 1, none⟩ = some (.slice none 0 0) := HRM.out.cell 1
    have t2 := (HRES.out.set (j := 0) (.string ⟨#[]⟩)).set (j := 1) (.slice none 0 0)
    have q0 : ((W.setCell ⟨w.heap.size, 0, none⟩ (.string ⟨#[]⟩)).setCell ⟨w.heap.size, 1, none⟩ (.slice none 0 0)).cell? ⟨w.heap.size, 0, none⟩ = some (.string ⟨#[]⟩) := t2.cell 0
    have q1 : ((W.setCell ⟨w.heap.size, 0, none⟩ (.string ⟨#[]⟩)).setCell ⟨w.heap.size, 1, none⟩ (.slice none 0 0)).cell? ⟨w.heap.size, 1, none⟩ = some (.slice none 0 0) := t2.cell 1
    have HBF := hide ((HBW.out.setCell (p := ⟨w.heap.size, 0, none⟩) (Nat.le_refl _) (.string ⟨#[]⟩)).setCell (p := ⟨w.heap.size, 1, none⟩) (Nat.le_refl _) (.slice none 0 0))
    have HRE := hide (show RSegs (w.heap.size + 1) ((W.setCell ⟨w.heap.size, 0, none⟩ (.string ⟨#[]⟩)).setCell ⟨w.heap.size, 1, none⟩ (.slice none 0 0)) (.slice none 0 0) _ from (RSegs.same (RSegs.same (rsegs_nil _ _ none) (Same.set _ _ (by omega))) (Same.set _ _ (by omega))))
    clear t2
    go_wp2
    exact bodyPost_ret (v := .tuple #[.agg #[.string ⟨#[]⟩, .slice none 0 0], .bool false]) (by simp [results, Tryz.results9, go_sem, q0, q1]) rfl ⟨⟨⟨#[]⟩, _, false, _, rfl, HRE.out, rfl⟩, HBF.out⟩
  | true =>
    have HM5 := hide (marks_five hq)
    obtain ⟨L, hL⟩ : ∃ L, L = cutL 13 t.data.toList := ⟨_, rfl⟩
    have HRD := hide (show msgMd t.data.toList = (mdL MK 0 L).bind fun xs => if msgB MK xs then some (MK, xs) else none by
      unfold msgMd
      rw [if_neg (by
        rintro (h | h | h)
        · omega
        · exact h HT3.out
        · rw [HMK.out, hq] at h; cases h), HMK.out, hL])
    have HPL := hide (cutL_len 13 t.data.toList)
    have HLL := hide hL
    clear hL hq
    go_wp2_with fail
    try rw [hMK2]
    obtain ⟨X1, hX1⟩ : ∃ X, X = W.setCell ⟨M, 0, none⟩ (.string MK) := ⟨_, rfl⟩
    rw [← hX1]
    have HBX := hide (show Below w.heap.size w X1 by rw [hX1]; exact HBW.out.setCell (p := ⟨M, 0, none⟩) (by have := HMe.out; show w.heap.size ≤ M; omega) _)
    have HRMx := hide (show Row X1 M 24 [.string MK, .slice none 0 0] by rw [hX1]; exact HRM.out.set (j := 0) _)
    have HRESx := hide (show Row X1 w.heap.size 24 [.string ⟨#[]⟩, .slice none 0 0] by rw [hX1]; exact HRES.out.other (b := M) (j := 0) (by have := HMe.out; omega) _)
    clear hX1 c60 f60
    refine (l01Split_any t 13 _ (by omega)).mono ?_
    rintro e w2 ⟨v8, rfl, ho8, hb8⟩
    obtain ⟨g, c, rfl, hc1, hc2, hg1, hg2, cs, hrow, hcell⟩ := pieces_row ho8
    have hL := HLL.out
    rw [← hL] at hcell hc2 HPL ⊢
    obtain ⟨K, hK⟩ : ∃ K, L.length = K + 1 := by
      obtain ⟨p, ps, e⟩ := cutL_some 13 t.data.toList
      exact ⟨ps.length, by rw [hL, e]; rfl⟩
    have HK := hide hK
    have HCE := hide hcell
    have HB2 := hide (HBX.out.trans (hb8.mono HBX.out.size))
    have HRM2 := hide (HRMx.out.below hb8 HRMx.out.lt)
    have HRES2 := hide (HRESx.out.below hb8 HRESx.out.lt)
    have HRL := hide hrow
    have HM9 := hide (show w.heap.size + 1 = M ∧ M < w2.heap.size from ⟨HMe.out.symm, HRM2.out.lt⟩)
    have HGM := hide (show M < g from Nat.lt_of_lt_of_le HRMx.out.lt hg2)
    have hKn : K ≤ 8000 := by have h1 := HPL.out.1; omega
    unfold maxLen at hc1
    rw [hK] at hc2 ⊢
    have hsub : ((K + 1 : Nat) : Int) - 1 = (K : Int) := by omega
    clear hL ho8 hb8 hrow hcell hg1 hg2 hK
    go_wp2_with fail
    go_loopw [6] (fun i wr => ∃ (Z : World) (k : Nat) (lf : Value) (vs : List Value) (xs : List Seg), Z = wr ∧ k ≤ K + 1 ∧ i = .int .i64 (k : Int) ∧ Hid (Row Z M 24 [.string MK, lf]) ∧ Hid (Z.ownsRow w2.heap.size 41 2 lf xs.length vs) ∧ Hid (GrowT w2.heap.size Z lf vs xs) ∧ Hid (MdA MK L k xs) ∧ Hid (Only M w2 Z) ∧ Hid (FitsM xs) ∧ Hid (xs.length = k)) (fun i _ => K + 1 - (intOf i).toNat)
    case atStart => exact ⟨_, 0, _, [], [], rfl, Nat.zero_le _, rfl, HRM2, hide (World.ownsRow_nil w2 w2.heap.size 41 2), hide GrowT.nil, hide (md_start MK L), hide (Only.refl _ _), hide ⟨by simp, fun i h => absurd h (by simp)⟩, hide rfl⟩
    case round =>
      obtain ⟨Z, k, lf, vs, xs, rfl, hk, rfl, HRM, HOF, HGF, HMA, HNZ, HFT, HXK⟩ := hrel
      obtain ⟨pl, cl, hlf⟩ := own_slice1 HOF.out
      subst hlf
      have HBZ := hide (HNZ.out.toBelow HB2.out HB2.out.size (by have := HM9.out; omega))
      have HRES := hide (HNZ.out.row HRES2.out (by have := HM9.out; omega))
      have HRLI := hide (HNZ.out.row HRL.out (by have := HGM.out; omega))
      have hxk : (xs.length : Int) ≤ 8001 := by have := HXK.out; omega
      have s0 : Z.cell? ⟨M, 0, none⟩ = some (.string MK) := HRM.out.cell 0
      have s1 : Z.cell? ⟨M, 1, none⟩ = some (.slice pl xs.length cl) := HRM.out.cell 1
      by_cases hltK : k < K + 1
      · have hltk : k < L.length := by have := HK.out; omega
        have hki0 : (0 : Int) ≤ (k : Int) := by omega
        have hki : (k : Int) < ((K + 1 : Nat) : Int) := by omega
        have ck : Z.cell? ⟨g, k, none⟩ = some (.string (asB (L[k]'hltk))) := by rw [HRLI.out.cell]; exact HCE.out k hltk
        have HLF0 := hide (show (L[k]'hltk).length ≤ 8000 by have := HPL.out.2 _ (List.getElem_mem hltk); omega)
        have HLF := hide (show (feedL k (L[k]'hltk)).length ≤ 8000 by
          unfold feedL
          split
          · rw [List.length_tail]; have := HLF0.out; omega
          · exact HLF0.out)
        obtain ⟨AL, hAL⟩ : ∃ AL, AL = asB (L[k]'hltk) := ⟨_, rfl⟩
        have HAL := hide (show AL.data.toList = L[k]'hltk by rw [hAL]; simp [asB])
        rw [← hAL] at ck
        clear hAL
        have hal : AL.data.toList.length = AL.size := by simp
        by_cases hk0 : 0 < k
        · have hkp : (0 : Int) < (k : Int) := by omega
          by_cases hz0' : AL.size = 0
          · have hz : ¬ (0 : Int) < (AL.size : Int) := by omega
            have HFE := hide (show feedL k (L[k]'hltk) = L[k]'hltk by
              have h9 : L[k]'hltk = [] := by rw [← HAL.out]; exact List.eq_nil_of_length_eq_zero (by omega)
              rw [h9]; simp [feedL])
            clear hal hk0 hz0'
            obtain ⟨LN, hLN⟩ : ∃ LN, LN = AL := ⟨_, rfl⟩
            subst hLN
            have HLN := hide (show LN.data.toList = feedL k (L[k]'hltk) by rw [HFE.out, HAL.out])
            have HLZ := hide (show LN.size ≤ 8000 by
              have h1 : LN.data.toList.length = LN.size := by simp
              rw [← h1, HLN.out]
              exact HLF.out)
            go_upto_region 12 with fail
            clear ck hz hkp
            by_cases hkK : k = K
            · have hkb : ((k : Int) == (K : Int)) = true := by simp [hkK]
              have hkz : (k : Int) = (K : Int) := by omega
              by_cases hLE : LN = ⟨#[]⟩
              · have hle : (LN.toList == []) = true := by rw [hLE]; simp
                have HMD := hide (md_stop HMA.out hltk (by have := HK.out; omega) (by rw [← HLN.out, hLE]))
                clear hLE
                have HRE := hide (show R = (if msgB MK xs then some (MK, xs) else none) by rw [HRX.out, HRD.out, HMD.out]; rfl)
                have HOS := hide (show RSegs (w.heap.size + 1) Z (.slice pl xs.length cl) xs from RSegs.mono (HGF.out.rsegs HOF.out) (by have := HM9.out; omega))
                clear HMD
                go_wp2_with fail
                refine wp_region_held (S := (fun y : World => y.cell? ⟨M, 0, none⟩ = some (.string MK) ∧ y.cell? ⟨M, 1, none⟩ = some (.slice pl xs.length cl))) (by kernel_rfl) ?_
                have HD := hide (show Below Z.heap.size Z { Z with drawn := Z.drawn + 1 } from (Below.refl _ _).drew)
                generalize ({ Z with drawn := Z.drawn + 1 } : World) = D0 at HD ⊢
                have HSY := hide (show ∀ y, Below Z.heap.size Z y → (fun y : World => y.cell? ⟨M, 0, none⟩ = some (.string MK) ∧ y.cell? ⟨M, 1, none⟩ = some (.slice pl xs.length cl)) y from fun y h => ⟨(HRM.out.below h HRM.out.lt).cell 0, (HRM.out.below h HRM.out.lt).cell 1⟩)
                have HRL := hide (show ∀ y, Below Z.heap.size Z y → RSegs (w.heap.size + 1) y (.slice pl xs.length cl) xs from fun y h => HOS.out.below h)
                obtain ⟨FP, hFP⟩ : ∃ FP : World → Prop, FP = (fun V => Row V w.heap.size 24 [.string MK, .slice pl xs.length cl] ∧ Below w.heap.size w V ∧ RSegs (w.heap.size + 1) V (.slice pl xs.length cl) xs ∧ Row V M 24 [.string MK, .slice pl xs.length cl]) := ⟨_, rfl⟩
                have HF1 : Hid (∀ Y, Below Z.heap.size Z Y → FP ((Y.setCell ⟨w.heap.size, 0, none⟩ (.string MK)).setCell ⟨w.heap.size, 1, none⟩ (.slice pl xs.length cl))) := hide (by
                  rw [hFP]
                  intro Y h
                  have hM := HM9.out
                  exact ⟨((HRES.out.below h HRES.out.lt).set (j := 0) _).set (j := 1) _, ((HBZ.out.trans (h.mono HBZ.out.size)).setCell (p := ⟨w.heap.size, 0, none⟩) (Nat.le_refl _) _).setCell (p := ⟨w.heap.size, 1, none⟩) (Nat.le_refl _) _, RSegs.same (RSegs.same (HRL.out Y h) (Same.set _ _ (by omega))) (Same.set _ _ (by omega)), ((HRM.out.below h HRM.out.lt).other (b := w.heap.size) (j := 0) (by omega) _).other (b := w.heap.size) (j := 1) (by omega) _⟩)
                have HFS : Hid (∀ V, FP V → (fun y : World => y.cell? ⟨M, 0, none⟩ = some (.string MK) ∧ y.cell? ⟨M, 1, none⟩ = some (.slice pl xs.length cl)) V) := hide (by rw [hFP]; exact fun V h => ⟨h.2.2.2.cell 0, h.2.2.2.cell 1⟩)
                have HF0 : Hid (∀ V, FP V → Row V w.heap.size 24 [.string MK, .slice pl xs.length cl] ∧ Below w.heap.size w V ∧ RSegs (w.heap.size + 1) V (.slice pl xs.length cl) xs) := hide (by rw [hFP]; exact fun V h => ⟨h.1, h.2.1, h.2.2.1⟩)
                clear hFP
                have HS := hide (HSY.out _ HD.out)
                refine wpAnyH_take (i := 0) (oi := _) (v := .agg #[.string MK, .slice pl xs.length cl]) rfl (by kernel_rfl) (by kernel_rfl) (by kernel_rfl) (fun _ _ _ h => h) (Or.inl ⟨by rfl, by intro w hSw; go_split_ands; go_simp⟩) HS.out ?_
                simp only [Act.put, List.getElem_toArray, List.getElem_cons_zero, List.setIfInBounds_toArray, List.set_cons_zero, List.set_cons_succ]
                refine wpAnyH_take (i := 1) (oi := _) (v := .agg #[.string MK, .slice pl xs.length cl]) rfl (by kernel_rfl) (by kernel_rfl) (by kernel_rfl) (fun _ _ _ h => h) (Or.inl ⟨by rfl, by intro w hSw; go_split_ands; go_simp⟩) HS.out ?_
                simp only [Act.put, List.getElem_toArray, List.getElem_cons_zero, List.getElem_cons_succ, List.setIfInBounds_toArray, List.set_cons_zero, List.set_cons_succ]
                refine wpAnyH_ready (rs := [2]) (by kernel_rfl) (by simp) ?_
                refine AllReadyH.cons (o := _) rfl (fun K hK => ?_) AllReadyH.nil
                go_simp
                refine (specMessage_any MK _ xs _ _ (by have := HM5.out; unfold maxLen; omega) HFT.out (HRL.out _ HD.out)).mono ?_
                rintro e Z9 ⟨rfl, hb9⟩
                have HD1 := hide (HD.out.trans (hb9.mono HD.out.size))
                clear hb9
                refine hK.out _ _ (HSY.out _ HD1.out) (fun _ => ?_)
                clear hK K HS
                have HS := hide (HSY.out _ HD1.out)
                obtain ⟨BB, hBB⟩ : ∃ BB : Bool, BB = msgB MK xs := ⟨_, rfl⟩
                rw [← hBB] at HRE ⊢
                clear hBB
                try simp only [Act.put, List.getElem_toArray, List.getElem_cons_zero, List.getElem_cons_succ, List.setIfInBounds_toArray, List.set_cons_zero, List.set_cons_succ]
                refine wpAnyH_ready (rs := [3]) (by kernel_rfl) (by simp) ?_
                refine AllReadyH.cons (o := _) rfl (fun K hK => ?_) AllReadyH.nil
                have c5 : Z9.cell? ⟨w.heap.size, 0, none⟩ = some (.string ⟨#[]⟩) := (HRES.out.below HD1.out HRES.out.lt).cell 0
                have f5 := (HRES.out.below HD1.out HRES.out.lt).free 0
                have c6 : Z9.cell? ⟨w.heap.size, 1, none⟩ = some (.slice none 0 0) := (HRES.out.below HD1.out HRES.out.lt).cell 1
                have f6 := (HRES.out.below HD1.out HRES.out.lt).free 1
                go_simp
                have HFP := hide (HF1.out _ HD1.out)
                obtain ⟨V9, hV9⟩ : ∃ V, V = (Z9.setCell ⟨w.heap.size, 0, none⟩ (.string MK)).setCell ⟨w.heap.size, 1, none⟩ (.slice pl xs.length cl) := ⟨_, rfl⟩
                rw [← hV9] at HFP
                try rw [← hV9]
                clear hV9
                refine hK.out _ _ (HFS.out _ HFP.out) (fun _ => ?_)
                clear hK K HS c5 f5 c6 f6
                have HS := hide (HFS.out _ HFP.out)
                try simp only [Act.put, List.getElem_toArray, List.getElem_cons_zero, List.getElem_cons_succ, List.setIfInBounds_toArray, List.set_cons_zero, List.set_cons_succ]
                refine wpAnyH_take (i := 4) (oi := _) (v := .bool BB) rfl (by kernel_rfl) (by kernel_rfl) (by kernel_rfl) (fun _ _ _ h => h) (Or.inl ⟨by rfl, by intro w hSw; go_split_ands; go_simp⟩) HS.out ?_
                simp only [Act.put, List.getElem_toArray, List.getElem_cons_zero, List.getElem_cons_succ, List.setIfInBounds_toArray, List.set_cons_zero, List.set_cons_succ]
                refine wpAnyH_done (by kernel_rfl) ?_ _
                obtain ⟨e1, e2, e3⟩ := HF0.out _ HFP.out
                have HE2 := hide e2
                have HE3 := hide e3
                have v0 : V9.cell? ⟨w.heap.size, 0, none⟩ = some (.string MK) := e1.cell 0
                have v1 : V9.cell? ⟨w.heap.size, 1, none⟩ = some (.slice pl xs.length cl) := e1.cell 1
                clear e1 e2 e3
                go_wp2
                exact bodyPost_ret (v := .tuple #[.agg #[.string MK, .slice pl xs.length cl], .bool BB]) (by simp [results, Tryz.results9, go_sem, v0, v1]) rfl ⟨⟨MK, _, BB, xs, rfl, HE3.out, HRE.out⟩, HE2.out⟩
              · have hle : (LN.toList == []) = false := by simpa using toList_neF hLE
                have HNS := hide (show ¬ (k + 1 = L.length ∧ feedL k (L[k]'hltk) = []) from fun e => hLE (by
                  apply ByteArray.ext
                  apply Array.ext'
                  rw [HLN.out, e.2]))
                clear hLE
                have hLs : LN.size ≤ 8000 := HLZ.out
                go_wp2_with fail
                refine (l04ReadSeg_any MK LN _ HM5.out hLs).mono ?_
                rintro e Z1 ⟨hq2, hb3⟩
                obtain ⟨QM, hQM⟩ : ∃ QM, QM = segMd MK LN.data.toList := ⟨_, rfl⟩
                rw [← hQM] at hq2
                have HQM := hide (show segMd MK (feedL k (L[k]'hltk)) = QM by rw [← HLN.out]; exact hQM.symm)
                have HZ3 := hide hb3
                have HBZ1 := hide (HBZ.out.trans (hb3.mono HBZ.out.size))
                have HRM1 := hide (HRM.out.below hb3 HRM.out.lt)
                have HRES1 := hide (HRES.out.below hb3 HRES.out.lt)
                clear hb3 hQM hLs
                cases QM with
                | none =>
                  obtain ⟨n', rfl⟩ := hq2
                  have HMN := hide (md_none HMA.out hltk HNS.out HQM.out)
                  have HBY := hide (HBZ1.out.trans (((Below.refl Z1.heap.size Z1).alloc (Nat.le_refl _) (.cells #[.string n', .slice none 0 0] 41)).mono HBZ1.out.size))
                  have HRESy := hide (HRES1.out.alloc (.cells #[.string n', .slice none 0 0] 41))
                  have HRMy := hide (HRM1.out.alloc (.cells #[.string n', .slice none 0 0] 41))
                  have HOSy := hide (((RSegs.mono (HGF.out.rsegs HOF.out) (by have := HM9.out; omega : w.heap.size + 1 ≤ w2.heap.size)).below HZ3.out).below ((Below.refl Z1.heap.size Z1).alloc (Nat.le_refl _) (.cells #[.string n', .slice none 0 0] 41)))
                  obtain rfl : R = none := by rw [HRX.out]; rw [HRD.out, HMN.out]; rfl
                  have k0 : (Z1.alloc (.cells #[.string n', .slice none 0 0] 41)).cell? ⟨w.heap.size, 0, none⟩ = some (.string ⟨#[]⟩) := HRESy.out.cell 0
                  have k1 : (Z1.alloc (.cells #[.string n', .slice none 0 0] 41)).cell? ⟨w.heap.size, 1, none⟩ = some (.slice none 0 0) := HRESy.out.cell 1
                  have f0 := HRESy.out.free 0
                  have f1 := HRESy.out.free 1
                  have s0 : (Z1.alloc (.cells #[.string n', .slice none 0 0] 41)).cell? ⟨M, 0, none⟩ = some (.string MK) := HRMy.out.cell 0
                  have s1 : (Z1.alloc (.cells #[.string n', .slice none 0 0] 41)).cell? ⟨M, 1, none⟩ = some (.slice pl xs.length cl) := HRMy.out.cell 1
                  have t2 := (HRESy.out.set (j := 0) (.string MK)).set (j := 1) (.slice pl xs.length cl)
                  have q0 : (((Z1.alloc (.cells #[.string n', .slice none 0 0] 41)).setCell ⟨w.heap.size, 0, none⟩ (.string MK)).setCell ⟨w.heap.size, 1, none⟩ (.slice pl xs.length cl)).cell? ⟨w.heap.size, 0, none⟩ = some (.string MK) := t2.cell 0
                  have q1 : (((Z1.alloc (.cells #[.string n', .slice none 0 0] 41)).setCell ⟨w.heap.size, 0, none⟩ (.string MK)).setCell ⟨w.heap.size, 1, none⟩ (.slice pl xs.length cl)).cell? ⟨w.heap.size, 1, none⟩ = some (.slice pl xs.length cl) := t2.cell 1
                  have HBF := hide ((HBY.out.setCell (p := ⟨w.heap.size, 0, none⟩) (Nat.le_refl _) (.string MK)).setCell (p := ⟨w.heap.size, 1, none⟩) (Nat.le_refl _) (.slice pl xs.length cl))
                  have HRE := hide (show RSegs (w.heap.size + 1) (((Z1.alloc (.cells #[.string n', .slice none 0 0] 41)).setCell ⟨w.heap.size, 0, none⟩ (.string MK)).setCell ⟨w.heap.size, 1, none⟩ (.slice pl xs.length cl)) (.slice pl xs.length cl) _ from (RSegs.same (RSegs.same (HOSy.out) (Same.set _ _ (by omega))) (Same.set _ _ (by omega))))
                  clear t2
                  go_wp2
                  exact bodyPost_ret (v := .tuple #[.agg #[.string MK, .slice pl xs.length cl], .bool false]) (by simp [results, Tryz.results9, go_sem, q0, q1]) rfl ⟨⟨MK, _, false, _, rfl, HRE.out, rfl⟩, HBF.out⟩

                | some sf =>
                  obtain ⟨n2, x⟩ := sf
                  obtain ⟨p4, c4, rfl, hrf⟩ := hq2
                  have HRF := hide hrf
                  clear hrf
                  obtain ⟨Y1, hY1⟩ : ∃ Y, Y = Z1.alloc (.cells #[.string n2, .slice p4 x.length c4] 41) := ⟨_, rfl⟩
                  have hy1 : Below Z1.heap.size Z1 Y1 := by rw [hY1]; exact (Below.refl _ _).alloc (Nat.le_refl _) _
                  by_cases h20 : 20 ≤ xs.length
                  · have HMN := hide (md_full HMA.out hltk HNS.out HQM.out (by have := HXK.out; omega))
                    have h20i : (20 : Int) ≤ (xs.length : Int) := by omega
                    have HBY := hide (HBZ1.out.trans (hy1.mono HBZ1.out.size))
                    have HRESy := hide (HRES1.out.below hy1 HRES1.out.lt)
                    have HRMy := hide (HRM1.out.below hy1 HRM1.out.lt)
                    have HOSy := hide (((RSegs.mono (HGF.out.rsegs HOF.out) (by have := HM9.out; omega : w.heap.size + 1 ≤ w2.heap.size)).below HZ3.out).below hy1)
                    subst hY1
                    obtain rfl : R = none := by rw [HRX.out]; rw [HRD.out, HMN.out]; rfl
                    have k0 : (Z1.alloc (.cells #[.string n2, .slice p4 x.length c4] 41)).cell? ⟨w.heap.size, 0, none⟩ = some (.string ⟨#[]⟩) := HRESy.out.cell 0
                    have k1 : (Z1.alloc (.cells #[.string n2, .slice p4 x.length c4] 41)).cell? ⟨w.heap.size, 1, none⟩ = some (.slice none 0 0) := HRESy.out.cell 1
                    have f0 := HRESy.out.free 0
                    have f1 := HRESy.out.free 1
                    have s0 : (Z1.alloc (.cells #[.string n2, .slice p4 x.length c4] 41)).cell? ⟨M, 0, none⟩ = some (.string MK) := HRMy.out.cell 0
                    have s1 : (Z1.alloc (.cells #[.string n2, .slice p4 x.length c4] 41)).cell? ⟨M, 1, none⟩ = some (.slice pl xs.length cl) := HRMy.out.cell 1
                    have t2 := (HRESy.out.set (j := 0) (.string MK)).set (j := 1) (.slice pl xs.length cl)
                    have q0 : (((Z1.alloc (.cells #[.string n2, .slice p4 x.length c4] 41)).setCell ⟨w.heap.size, 0, none⟩ (.string MK)).setCell ⟨w.heap.size, 1, none⟩ (.slice pl xs.length cl)).cell? ⟨w.heap.size, 0, none⟩ = some (.string MK) := t2.cell 0
                    have q1 : (((Z1.alloc (.cells #[.string n2, .slice p4 x.length c4] 41)).setCell ⟨w.heap.size, 0, none⟩ (.string MK)).setCell ⟨w.heap.size, 1, none⟩ (.slice pl xs.length cl)).cell? ⟨w.heap.size, 1, none⟩ = some (.slice pl xs.length cl) := t2.cell 1
                    have HBF := hide ((HBY.out.setCell (p := ⟨w.heap.size, 0, none⟩) (Nat.le_refl _) (.string MK)).setCell (p := ⟨w.heap.size, 1, none⟩) (Nat.le_refl _) (.slice pl xs.length cl))
                    have HRE := hide (show RSegs (w.heap.size + 1) (((Z1.alloc (.cells #[.string n2, .slice p4 x.length c4] 41)).setCell ⟨w.heap.size, 0, none⟩ (.string MK)).setCell ⟨w.heap.size, 1, none⟩ (.slice pl xs.length cl)) (.slice pl xs.length cl) _ from (RSegs.same (RSegs.same (HOSy.out) (Same.set _ _ (by omega))) (Same.set _ _ (by omega))))
                    clear t2
                    go_wp2
                    exact bodyPost_ret (v := .tuple #[.agg #[.string MK, .slice pl xs.length cl], .bool false]) (by simp [results, Tryz.results9, go_sem, q0, q1]) rfl ⟨⟨MK, _, false, _, rfl, HRE.out, rfl⟩, HBF.out⟩

                  · have h20i : ¬ (20 : Int) ≤ (xs.length : Int) := by omega
                    have HMG := hide (md_go HMA.out hltk HNS.out HQM.out (by have := HXK.out; omega))
                    have HFX := hide (show Fits x from segMd_fits (s := (n2, x)) HLF.out HQM.out)
                    obtain ⟨Y2, hY2⟩ : ∃ Y, Y = Y1.alloc (.cells #[.string n2, .slice p4 x.length c4] 41) := ⟨_, rfl⟩
                    have hy2 : Below Y1.heap.size Y1 Y2 := by rw [hY2]; exact (Below.refl _ _).alloc (Nat.le_refl _) _
                    have hy12 := hy1.trans (hy2.mono hy1.size)
                    have HZY := hide (HZ3.out.trans (hy12.mono HZ3.out.size))
                    have HROW := hide (show Row Y2 (Z1.heap.size + 1) 41 [.string n2, .slice p4 x.length c4] by rw [show Z1.heap.size + 1 = Y1.heap.size by rw [hY1]; simp, hY2]; exact row_new Y1 [.string n2, .slice p4 x.length c4] 41)
                    have HRMY := hide (HRM1.out.below hy12 HRM1.out.lt)
                    have m1 : ((Z1.alloc (.cells #[.string n2, .slice p4 x.length c4] 41)).alloc (.cells #[.string n2, .slice p4 x.length c4] 41)).cell? ⟨M, 1, none⟩ = some (.slice pl xs.length cl) := by have := HRMY.out.cell 1; rw [hY2, hY1] at this; exact this
                    have m2 : (Z1.alloc (.cells #[.string n2, .slice p4 x.length c4] 41)).cell? ⟨M, 1, none⟩ = some (.slice pl xs.length cl) := by have := (HRM1.out.below hy1 HRM1.out.lt).cell 1; rw [hY1] at this; exact this
                    have HOY := hide (own_below HOF.out HZY.out)
                    have HOR := hide (show ORF (Z.heap.size + 1) Z1.heap.size Y2 (.slice p4 x.length c4) x from ⟨Z1, Nat.le_refl _, HRF.out, SameIn.ofBelow hy12, hy12.size⟩)
                    have HSZ := hide (show Z1.heap.size ≤ Y2.heap.size from hy12.size)
                    have HVY := hide (show w2.heap.size ≤ Z.heap.size ∧ w2.heap.size ≤ Y2.heap.size by have h1 := HNZ.out.size; have h2 := HZY.out.size; omega)
                    have HNY := hide (HNZ.out.below HZY.out)
                    clear hy1 hy2 hy12
                    go_wp2_with (rw [← hY1, ← hY2]; at_builtin; refine wpList_append_own_at Y2 rfl (.tmp 81) (.tmp 83) 22 rfl w2.heap.size 41 i0 _ 2 40 Tryz.underlying22 hi hz0 hz1 hz2 HZC.out (by omega) _ xs.length vs rfl HOY.out ⟨Z1.heap.size + 1, 0, none⟩ 1 _ [.string n2, .slice p4 x.length c4] rfl rfl (row_cellsP HROW.out) (by simp [Value.oneCell']) (by unfold maxLen; omega) (by omega) (by exact HVY.out.2) ?_)
                    intro v' w3 hown hgrow0 hnil hat0
                    have hgrow : Y2.grownBy w3 (.slice pl xs.length cl : Value).ownBlock := by rw [hY2, hY1]; exact hgrow0
                    have hat : v'.ownBlock = (.slice pl xs.length cl : Value).ownBlock ∨ v'.ownBlock = some Y2.heap.size := by rw [hY2, hY1]; simpa using hat0
                    clear hgrow0 hat0
                    obtain ⟨p9, c9, hv9⟩ := own_slice1 hown
                    subst hv9
                    have HO3 := hide (show w3.ownsRow w2.heap.size 41 2 (.slice p9 (xs.length + 1) c9) (xs ++ [(n2, x)]).length (vs ++ [.string n2, .slice p4 x.length c4]) by rw [List.length_append]; exact hown)
                    have HG3 := hide (show GrowT w2.heap.size w3 (.slice p9 (xs.length + 1) c9) (vs ++ [.string n2, .slice p4 x.length c4]) (xs ++ [(n2, x)]) from
                      HGF.out.snoc HOF.out.1 HZY.out (by have := HVY.out.1; omega) HSZ.out (fun g hg => .inr (by have := (HOF.out.lt g hg).2; omega)) (by have h1 : n2.size ≤ 3 := segMd_name HQM.out; unfold maxLen; omega) HOR.out hgrow hat)
                    have HN9 := hide (HNY.out.grownB hgrow (fun k hk => (HOY.out.lt k hk).1))
                    have HRM3 := hide (row_grown HRMY.out hgrow (fun k hk => (HOY.out.lt k hk).1) HM9.out.2)
                    have c9a : w3.cell? ⟨M, 1, none⟩ = some (.slice pl xs.length cl) := HRM3.out.cell 1
                    have f9a := HRM3.out.free 1
                    have HS9 := hide (Same.set w3 (g := M) (j := 1) (.slice p9 (xs.length + 1) c9) HM9.out.2)
                    have HOF9 := hide (own_sameB HO3.out HS9.out)
                    have HGF9 := hide (HG3.out.same HS9.out)
                    have HRM9 := hide (HRM3.out.set (j := 1) (.slice p9 (xs.length + 1) c9))
                    have HNF := hide (HN9.out.set (j := 1) (.slice p9 (xs.length + 1) c9))
                    have HFT9 := hide (fitsM_snoc HFT.out (by omega) (s := (n2, x)) HFX.out)
                    have HXK9 := hide (show (xs ++ [(n2, x)]).length = k + 1 by rw [List.length_append, HXK.out]; rfl)
                    clear hown hgrow hnil hat m1 m2 hY1 hY2 h20 h20i
                    go_wp2
                    go_roundw
                    case rel => exact ⟨_, k + 1, _, _, _, rfl, by omega, by go_num, HRM9, HOF9, HGF9, HMG, HNF, HFT9, HXK9⟩
                    case measure => simp [intOf]; omega
            · have hkb : ((k : Int) == (K : Int)) = false := by simpa using (by omega : ¬ (k : Int) = (K : Int))
              have hkz : ¬ (k : Int) = (K : Int) := by omega
              have HNS := hide (show ¬ (k + 1 = L.length ∧ feedL k (L[k]'hltk) = []) from fun e => hkK (by have := HK.out; omega))
              have hLs : LN.size ≤ 8000 := HLZ.out
              go_wp2_with fail
              refine (l04ReadSeg_any MK LN _ HM5.out hLs).mono ?_
              rintro e Z1 ⟨hq2, hb3⟩
              obtain ⟨QM, hQM⟩ : ∃ QM, QM = segMd MK LN.data.toList := ⟨_, rfl⟩
              rw [← hQM] at hq2
              have HQM := hide (show segMd MK (feedL k (L[k]'hltk)) = QM by rw [← HLN.out]; exact hQM.symm)
              have HZ3 := hide hb3
              have HBZ1 := hide (HBZ.out.trans (hb3.mono HBZ.out.size))
              have HRM1 := hide (HRM.out.below hb3 HRM.out.lt)
              have HRES1 := hide (HRES.out.below hb3 HRES.out.lt)
              clear hb3 hQM hLs
              cases QM with
              | none =>
                obtain ⟨n', rfl⟩ := hq2
                have HMN := hide (md_none HMA.out hltk HNS.out HQM.out)
                have HBY := hide (HBZ1.out.trans (((Below.refl Z1.heap.size Z1).alloc (Nat.le_refl _) (.cells #[.string n', .slice none 0 0] 41)).mono HBZ1.out.size))
                have HRESy := hide (HRES1.out.alloc (.cells #[.string n', .slice none 0 0] 41))
                have HRMy := hide (HRM1.out.alloc (.cells #[.string n', .slice none 0 0] 41))
                have HOSy := hide (((RSegs.mono (HGF.out.rsegs HOF.out) (by have := HM9.out; omega : w.heap.size + 1 ≤ w2.heap.size)).below HZ3.out).below ((Below.refl Z1.heap.size Z1).alloc (Nat.le_refl _) (.cells #[.string n', .slice none 0 0] 41)))
                obtain rfl : R = none := by rw [HRX.out]; rw [HRD.out, HMN.out]; rfl
                have k0 : (Z1.alloc (.cells #[.string n', .slice none 0 0] 41)).cell? ⟨w.heap.size, 0, none⟩ = some (.string ⟨#[]⟩) := HRESy.out.cell 0
                have k1 : (Z1.alloc (.cells #[.string n', .slice none 0 0] 41)).cell? ⟨w.heap.size, 1, none⟩ = some (.slice none 0 0) := HRESy.out.cell 1
                have f0 := HRESy.out.free 0
                have f1 := HRESy.out.free 1
                have s0 : (Z1.alloc (.cells #[.string n', .slice none 0 0] 41)).cell? ⟨M, 0, none⟩ = some (.string MK) := HRMy.out.cell 0
                have s1 : (Z1.alloc (.cells #[.string n', .slice none 0 0] 41)).cell? ⟨M, 1, none⟩ = some (.slice pl xs.length cl) := HRMy.out.cell 1
                have t2 := (HRESy.out.set (j := 0) (.string MK)).set (j := 1) (.slice pl xs.length cl)
                have q0 : (((Z1.alloc (.cells #[.string n', .slice none 0 0] 41)).setCell ⟨w.heap.size, 0, none⟩ (.string MK)).setCell ⟨w.heap.size, 1, none⟩ (.slice pl xs.length cl)).cell? ⟨w.heap.size, 0, none⟩ = some (.string MK) := t2.cell 0
                have q1 : (((Z1.alloc (.cells #[.string n', .slice none 0 0] 41)).setCell ⟨w.heap.size, 0, none⟩ (.string MK)).setCell ⟨w.heap.size, 1, none⟩ (.slice pl xs.length cl)).cell? ⟨w.heap.size, 1, none⟩ = some (.slice pl xs.length cl) := t2.cell 1
                have HBF := hide ((HBY.out.setCell (p := ⟨w.heap.size, 0, none⟩) (Nat.le_refl _) (.string MK)).setCell (p := ⟨w.heap.size, 1, none⟩) (Nat.le_refl _) (.slice pl xs.length cl))
                have HRE := hide (show RSegs (w.heap.size + 1) (((Z1.alloc (.cells #[.string n', .slice none 0 0] 41)).setCell ⟨w.heap.size, 0, none⟩ (.string MK)).setCell ⟨w.heap.size, 1, none⟩ (.slice pl xs.length cl)) (.slice pl xs.length cl) _ from (RSegs.same (RSegs.same (HOSy.out) (Same.set _ _ (by omega))) (Same.set _ _ (by omega))))
                clear t2
                go_wp2
                exact bodyPost_ret (v := .tuple #[.agg #[.string MK, .slice pl xs.length cl], .bool false]) (by simp [results, Tryz.results9, go_sem, q0, q1]) rfl ⟨⟨MK, _, false, _, rfl, HRE.out, rfl⟩, HBF.out⟩

              | some sf =>
                obtain ⟨n2, x⟩ := sf
                obtain ⟨p4, c4, rfl, hrf⟩ := hq2
                have HRF := hide hrf
                clear hrf
                obtain ⟨Y1, hY1⟩ : ∃ Y, Y = Z1.alloc (.cells #[.string n2, .slice p4 x.length c4] 41) := ⟨_, rfl⟩
                have hy1 : Below Z1.heap.size Z1 Y1 := by rw [hY1]; exact (Below.refl _ _).alloc (Nat.le_refl _) _
                by_cases h20 : 20 ≤ xs.length
                · have HMN := hide (md_full HMA.out hltk HNS.out HQM.out (by have := HXK.out; omega))
                  have h20i : (20 : Int) ≤ (xs.length : Int) := by omega
                  have HBY := hide (HBZ1.out.trans (hy1.mono HBZ1.out.size))
                  have HRESy := hide (HRES1.out.below hy1 HRES1.out.lt)
                  have HRMy := hide (HRM1.out.below hy1 HRM1.out.lt)
                  have HOSy := hide (((RSegs.mono (HGF.out.rsegs HOF.out) (by have := HM9.out; omega : w.heap.size + 1 ≤ w2.heap.size)).below HZ3.out).below hy1)
                  subst hY1
                  obtain rfl : R = none := by rw [HRX.out]; rw [HRD.out, HMN.out]; rfl
                  have k0 : (Z1.alloc (.cells #[.string n2, .slice p4 x.length c4] 41)).cell? ⟨w.heap.size, 0, none⟩ = some (.string ⟨#[]⟩) := HRESy.out.cell 0
                  have k1 : (Z1.alloc (.cells #[.string n2, .slice p4 x.length c4] 41)).cell? ⟨w.heap.size, 1, none⟩ = some (.slice none 0 0) := HRESy.out.cell 1
                  have f0 := HRESy.out.free 0
                  have f1 := HRESy.out.free 1
                  have s0 : (Z1.alloc (.cells #[.string n2, .slice p4 x.length c4] 41)).cell? ⟨M, 0, none⟩ = some (.string MK) := HRMy.out.cell 0
                  have s1 : (Z1.alloc (.cells #[.string n2, .slice p4 x.length c4] 41)).cell? ⟨M, 1, none⟩ = some (.slice pl xs.length cl) := HRMy.out.cell 1
                  have t2 := (HRESy.out.set (j := 0) (.string MK)).set (j := 1) (.slice pl xs.length cl)
                  have q0 : (((Z1.alloc (.cells #[.string n2, .slice p4 x.length c4] 41)).setCell ⟨w.heap.size, 0, none⟩ (.string MK)).setCell ⟨w.heap.size, 1, none⟩ (.slice pl xs.length cl)).cell? ⟨w.heap.size, 0, none⟩ = some (.string MK) := t2.cell 0
                  have q1 : (((Z1.alloc (.cells #[.string n2, .slice p4 x.length c4] 41)).setCell ⟨w.heap.size, 0, none⟩ (.string MK)).setCell ⟨w.heap.size, 1, none⟩ (.slice pl xs.length cl)).cell? ⟨w.heap.size, 1, none⟩ = some (.slice pl xs.length cl) := t2.cell 1
                  have HBF := hide ((HBY.out.setCell (p := ⟨w.heap.size, 0, none⟩) (Nat.le_refl _) (.string MK)).setCell (p := ⟨w.heap.size, 1, none⟩) (Nat.le_refl _) (.slice pl xs.length cl))
                  have HRE := hide (show RSegs (w.heap.size + 1) (((Z1.alloc (.cells #[.string n2, .slice p4 x.length c4] 41)).setCell ⟨w.heap.size, 0, none⟩ (.string MK)).setCell ⟨w.heap.size, 1, none⟩ (.slice pl xs.length cl)) (.slice pl xs.length cl) _ from (RSegs.same (RSegs.same (HOSy.out) (Same.set _ _ (by omega))) (Same.set _ _ (by omega))))
                  clear t2
                  go_wp2
                  exact bodyPost_ret (v := .tuple #[.agg #[.string MK, .slice pl xs.length cl], .bool false]) (by simp [results, Tryz.results9, go_sem, q0, q1]) rfl ⟨⟨MK, _, false, _, rfl, HRE.out, rfl⟩, HBF.out⟩

                · have h20i : ¬ (20 : Int) ≤ (xs.length : Int) := by omega
                  have HMG := hide (md_go HMA.out hltk HNS.out HQM.out (by have := HXK.out; omega))
                  have HFX := hide (show Fits x from segMd_fits (s := (n2, x)) HLF.out HQM.out)
                  obtain ⟨Y2, hY2⟩ : ∃ Y, Y = Y1.alloc (.cells #[.string n2, .slice p4 x.length c4] 41) := ⟨_, rfl⟩
                  have hy2 : Below Y1.heap.size Y1 Y2 := by rw [hY2]; exact (Below.refl _ _).alloc (Nat.le_refl _) _
                  have hy12 := hy1.trans (hy2.mono hy1.size)
                  have HZY := hide (HZ3.out.trans (hy12.mono HZ3.out.size))
                  have HROW := hide (show Row Y2 (Z1.heap.size + 1) 41 [.string n2, .slice p4 x.length c4] by rw [show Z1.heap.size + 1 = Y1.heap.size by rw [hY1]; simp, hY2]; exact row_new Y1 [.string n2, .slice p4 x.length c4] 41)
                  have HRMY := hide (HRM1.out.below hy12 HRM1.out.lt)
                  have m1 : ((Z1.alloc (.cells #[.string n2, .slice p4 x.length c4] 41)).alloc (.cells #[.string n2, .slice p4 x.length c4] 41)).cell? ⟨M, 1, none⟩ = some (.slice pl xs.length cl) := by have := HRMY.out.cell 1; rw [hY2, hY1] at this; exact this
                  have m2 : (Z1.alloc (.cells #[.string n2, .slice p4 x.length c4] 41)).cell? ⟨M, 1, none⟩ = some (.slice pl xs.length cl) := by have := (HRM1.out.below hy1 HRM1.out.lt).cell 1; rw [hY1] at this; exact this
                  have HOY := hide (own_below HOF.out HZY.out)
                  have HOR := hide (show ORF (Z.heap.size + 1) Z1.heap.size Y2 (.slice p4 x.length c4) x from ⟨Z1, Nat.le_refl _, HRF.out, SameIn.ofBelow hy12, hy12.size⟩)
                  have HSZ := hide (show Z1.heap.size ≤ Y2.heap.size from hy12.size)
                  have HVY := hide (show w2.heap.size ≤ Z.heap.size ∧ w2.heap.size ≤ Y2.heap.size by have h1 := HNZ.out.size; have h2 := HZY.out.size; omega)
                  have HNY := hide (HNZ.out.below HZY.out)
                  clear hy1 hy2 hy12
                  go_wp2_with (rw [← hY1, ← hY2]; at_builtin; refine wpList_append_own_at Y2 rfl (.tmp 81) (.tmp 83) 22 rfl w2.heap.size 41 i0 _ 2 40 Tryz.underlying22 hi hz0 hz1 hz2 HZC.out (by omega) _ xs.length vs rfl HOY.out ⟨Z1.heap.size + 1, 0, none⟩ 1 _ [.string n2, .slice p4 x.length c4] rfl rfl (row_cellsP HROW.out) (by simp [Value.oneCell']) (by unfold maxLen; omega) (by omega) (by exact HVY.out.2) ?_)
                  intro v' w3 hown hgrow0 hnil hat0
                  have hgrow : Y2.grownBy w3 (.slice pl xs.length cl : Value).ownBlock := by rw [hY2, hY1]; exact hgrow0
                  have hat : v'.ownBlock = (.slice pl xs.length cl : Value).ownBlock ∨ v'.ownBlock = some Y2.heap.size := by rw [hY2, hY1]; simpa using hat0
                  clear hgrow0 hat0
                  obtain ⟨p9, c9, hv9⟩ := own_slice1 hown
                  subst hv9
                  have HO3 := hide (show w3.ownsRow w2.heap.size 41 2 (.slice p9 (xs.length + 1) c9) (xs ++ [(n2, x)]).length (vs ++ [.string n2, .slice p4 x.length c4]) by rw [List.length_append]; exact hown)
                  have HG3 := hide (show GrowT w2.heap.size w3 (.slice p9 (xs.length + 1) c9) (vs ++ [.string n2, .slice p4 x.length c4]) (xs ++ [(n2, x)]) from
                    HGF.out.snoc HOF.out.1 HZY.out (by have := HVY.out.1; omega) HSZ.out (fun g hg => .inr (by have := (HOF.out.lt g hg).2; omega)) (by have h1 : n2.size ≤ 3 := segMd_name HQM.out; unfold maxLen; omega) HOR.out hgrow hat)
                  have HN9 := hide (HNY.out.grownB hgrow (fun k hk => (HOY.out.lt k hk).1))
                  have HRM3 := hide (row_grown HRMY.out hgrow (fun k hk => (HOY.out.lt k hk).1) HM9.out.2)
                  have c9a : w3.cell? ⟨M, 1, none⟩ = some (.slice pl xs.length cl) := HRM3.out.cell 1
                  have f9a := HRM3.out.free 1
                  have HS9 := hide (Same.set w3 (g := M) (j := 1) (.slice p9 (xs.length + 1) c9) HM9.out.2)
                  have HOF9 := hide (own_sameB HO3.out HS9.out)
                  have HGF9 := hide (HG3.out.same HS9.out)
                  have HRM9 := hide (HRM3.out.set (j := 1) (.slice p9 (xs.length + 1) c9))
                  have HNF := hide (HN9.out.set (j := 1) (.slice p9 (xs.length + 1) c9))
                  have HFT9 := hide (fitsM_snoc HFT.out (by omega) (s := (n2, x)) HFX.out)
                  have HXK9 := hide (show (xs ++ [(n2, x)]).length = k + 1 by rw [List.length_append, HXK.out]; rfl)
                  clear hown hgrow hnil hat m1 m2 hY1 hY2 h20 h20i
                  go_wp2
                  go_roundw
                  case rel => exact ⟨_, k + 1, _, _, _, rfl, by omega, by go_num, HRM9, HOF9, HGF9, HMG, HNF, HFT9, HXK9⟩
                  case measure => simp [intOf]; omega
          · have h0A : 0 < AL.size := by omega
            have hz : (0 : Int) < (AL.size : Int) := by omega
            have hz1 : (1 : Int) ≤ (AL.size : Int) := by omega
            have hcons : L[k]'hltk = (AL[0]'h0A) :: (L[k]'hltk).tail := by
              have h9 : 0 < AL.data.toList.length := by omega
              have e := List.drop_eq_getElem_cons h9
              rw [List.drop_zero] at e
              have e2 : AL.data.toList.drop (0 + 1) = AL.data.toList.tail := by simp
              rw [e2] at e
              rw [← HAL.out]
              exact e
            have HCO := hide hcons
            clear hcons
            by_cases h10 : AL[0]'h0A = 10
            · have hb10 : ((AL[0]'h0A).toNat : Int) = 10 := by rw [h10]; rfl
              have HFE := hide (show feedL k (L[k]'hltk) = (L[k]'hltk).tail by
                unfold feedL
                rw [if_pos ⟨hk0, by rw [HCO.out, h10]; rfl⟩])
              clear hal hk0 hz0' h10 HCO
              go_upto_region 12 with fail
              obtain ⟨LN, hLN⟩ : ∃ LN, LN = AL.extract 1 AL.size := ⟨_, rfl⟩
              have HLN := hide (show LN.data.toList = feedL k (L[k]'hltk) by rw [hLN, extract_listE, HFE.out, HAL.out, List.drop_one])
              have HLZ := hide (show LN.size ≤ 8000 by
                have h1 : LN.data.toList.length = LN.size := by simp
                rw [← h1, HLN.out]
                exact HLF.out)
              rw [← hLN]
              clear hLN ck hz hz1 hb10 hkp
              by_cases hkK : k = K
              · have hkb : ((k : Int) == (K : Int)) = true := by simp [hkK]
                have hkz : (k : Int) = (K : Int) := by omega
                by_cases hLE : LN = ⟨#[]⟩
                · have hle : (LN.toList == []) = true := by rw [hLE]; simp
                  have HMD := hide (md_stop HMA.out hltk (by have := HK.out; omega) (by rw [← HLN.out, hLE]))
                  clear hLE
                  have HRE := hide (show R = (if msgB MK xs then some (MK, xs) else none) by rw [HRX.out, HRD.out, HMD.out]; rfl)
                  have HOS := hide (show RSegs (w.heap.size + 1) Z (.slice pl xs.length cl) xs from RSegs.mono (HGF.out.rsegs HOF.out) (by have := HM9.out; omega))
                  clear HMD
                  go_wp2_with fail
                  refine wp_region_held (S := (fun y : World => y.cell? ⟨M, 0, none⟩ = some (.string MK) ∧ y.cell? ⟨M, 1, none⟩ = some (.slice pl xs.length cl))) (by kernel_rfl) ?_
                  have HD := hide (show Below Z.heap.size Z { Z with drawn := Z.drawn + 1 } from (Below.refl _ _).drew)
                  generalize ({ Z with drawn := Z.drawn + 1 } : World) = D0 at HD ⊢
                  have HSY := hide (show ∀ y, Below Z.heap.size Z y → (fun y : World => y.cell? ⟨M, 0, none⟩ = some (.string MK) ∧ y.cell? ⟨M, 1, none⟩ = some (.slice pl xs.length cl)) y from fun y h => ⟨(HRM.out.below h HRM.out.lt).cell 0, (HRM.out.below h HRM.out.lt).cell 1⟩)
                  have HRL := hide (show ∀ y, Below Z.heap.size Z y → RSegs (w.heap.size + 1) y (.slice pl xs.length cl) xs from fun y h => HOS.out.below h)
                  obtain ⟨FP, hFP⟩ : ∃ FP : World → Prop, FP = (fun V => Row V w.heap.size 24 [.string MK, .slice pl xs.length cl] ∧ Below w.heap.size w V ∧ RSegs (w.heap.size + 1) V (.slice pl xs.length cl) xs ∧ Row V M 24 [.string MK, .slice pl xs.length cl]) := ⟨_, rfl⟩
                  have HF1 : Hid (∀ Y, Below Z.heap.size Z Y → FP ((Y.setCell ⟨w.heap.size, 0, none⟩ (.string MK)).setCell ⟨w.heap.size, 1, none⟩ (.slice pl xs.length cl))) := hide (by
                    rw [hFP]
                    intro Y h
                    have hM := HM9.out
                    exact ⟨((HRES.out.below h HRES.out.lt).set (j := 0) _).set (j := 1) _, ((HBZ.out.trans (h.mono HBZ.out.size)).setCell (p := ⟨w.heap.size, 0, none⟩) (Nat.le_refl _) _).setCell (p := ⟨w.heap.size, 1, none⟩) (Nat.le_refl _) _, RSegs.same (RSegs.same (HRL.out Y h) (Same.set _ _ (by omega))) (Same.set _ _ (by omega)), ((HRM.out.below h HRM.out.lt).other (b := w.heap.size) (j := 0) (by omega) _).other (b := w.heap.size) (j := 1) (by omega) _⟩)
                  have HFS : Hid (∀ V, FP V → (fun y : World => y.cell? ⟨M, 0, none⟩ = some (.string MK) ∧ y.cell? ⟨M, 1, none⟩ = some (.slice pl xs.length cl)) V) := hide (by rw [hFP]; exact fun V h => ⟨h.2.2.2.cell 0, h.2.2.2.cell 1⟩)
                  have HF0 : Hid (∀ V, FP V → Row V w.heap.size 24 [.string MK, .slice pl xs.length cl] ∧ Below w.heap.size w V ∧ RSegs (w.heap.size + 1) V (.slice pl xs.length cl) xs) := hide (by rw [hFP]; exact fun V h => ⟨h.1, h.2.1, h.2.2.1⟩)
                  clear hFP
                  have HS := hide (HSY.out _ HD.out)
                  refine wpAnyH_take (i := 0) (oi := _) (v := .agg #[.string MK, .slice pl xs.length cl]) rfl (by kernel_rfl) (by kernel_rfl) (by kernel_rfl) (fun _ _ _ h => h) (Or.inl ⟨by rfl, by intro w hSw; go_split_ands; go_simp⟩) HS.out ?_
                  simp only [Act.put, List.getElem_toArray, List.getElem_cons_zero, List.setIfInBounds_toArray, List.set_cons_zero, List.set_cons_succ]
                  refine wpAnyH_take (i := 1) (oi := _) (v := .agg #[.string MK, .slice pl xs.length cl]) rfl (by kernel_rfl) (by kernel_rfl) (by kernel_rfl) (fun _ _ _ h => h) (Or.inl ⟨by rfl, by intro w hSw; go_split_ands; go_simp⟩) HS.out ?_
                  simp only [Act.put, List.getElem_toArray, List.getElem_cons_zero, List.getElem_cons_succ, List.setIfInBounds_toArray, List.set_cons_zero, List.set_cons_succ]
                  refine wpAnyH_ready (rs := [2]) (by kernel_rfl) (by simp) ?_
                  refine AllReadyH.cons (o := _) rfl (fun K hK => ?_) AllReadyH.nil
                  go_simp
                  refine (specMessage_any MK _ xs _ _ (by have := HM5.out; unfold maxLen; omega) HFT.out (HRL.out _ HD.out)).mono ?_
                  rintro e Z9 ⟨rfl, hb9⟩
                  have HD1 := hide (HD.out.trans (hb9.mono HD.out.size))
                  clear hb9
                  refine hK.out _ _ (HSY.out _ HD1.out) (fun _ => ?_)
                  clear hK K HS
                  have HS := hide (HSY.out _ HD1.out)
                  obtain ⟨BB, hBB⟩ : ∃ BB : Bool, BB = msgB MK xs := ⟨_, rfl⟩
                  rw [← hBB] at HRE ⊢
                  clear hBB
                  try simp only [Act.put, List.getElem_toArray, List.getElem_cons_zero, List.getElem_cons_succ, List.setIfInBounds_toArray, List.set_cons_zero, List.set_cons_succ]
                  refine wpAnyH_ready (rs := [3]) (by kernel_rfl) (by simp) ?_
                  refine AllReadyH.cons (o := _) rfl (fun K hK => ?_) AllReadyH.nil
                  have c5 : Z9.cell? ⟨w.heap.size, 0, none⟩ = some (.string ⟨#[]⟩) := (HRES.out.below HD1.out HRES.out.lt).cell 0
                  have f5 := (HRES.out.below HD1.out HRES.out.lt).free 0
                  have c6 : Z9.cell? ⟨w.heap.size, 1, none⟩ = some (.slice none 0 0) := (HRES.out.below HD1.out HRES.out.lt).cell 1
                  have f6 := (HRES.out.below HD1.out HRES.out.lt).free 1
                  go_simp
                  have HFP := hide (HF1.out _ HD1.out)
                  obtain ⟨V9, hV9⟩ : ∃ V, V = (Z9.setCell ⟨w.heap.size, 0, none⟩ (.string MK)).setCell ⟨w.heap.size, 1, none⟩ (.slice pl xs.length cl) := ⟨_, rfl⟩
                  rw [← hV9] at HFP
                  try rw [← hV9]
                  clear hV9
                  refine hK.out _ _ (HFS.out _ HFP.out) (fun _ => ?_)
                  clear hK K HS c5 f5 c6 f6
                  have HS := hide (HFS.out _ HFP.out)
                  try simp only [Act.put, List.getElem_toArray, List.getElem_cons_zero, List.getElem_cons_succ, List.setIfInBounds_toArray, List.set_cons_zero, List.set_cons_succ]
                  refine wpAnyH_take (i := 4) (oi := _) (v := .bool BB) rfl (by kernel_rfl) (by kernel_rfl) (by kernel_rfl) (fun _ _ _ h => h) (Or.inl ⟨by rfl, by intro w hSw; go_split_ands; go_simp⟩) HS.out ?_
                  simp only [Act.put, List.getElem_toArray, List.getElem_cons_zero, List.getElem_cons_succ, List.setIfInBounds_toArray, List.set_cons_zero, List.set_cons_succ]
                  refine wpAnyH_done (by kernel_rfl) ?_ _
                  obtain ⟨e1, e2, e3⟩ := HF0.out _ HFP.out
                  have HE2 := hide e2
                  have HE3 := hide e3
                  have v0 : V9.cell? ⟨w.heap.size, 0, none⟩ = some (.string MK) := e1.cell 0
                  have v1 : V9.cell? ⟨w.heap.size, 1, none⟩ = some (.slice pl xs.length cl) := e1.cell 1
                  clear e1 e2 e3
                  go_wp2
                  exact bodyPost_ret (v := .tuple #[.agg #[.string MK, .slice pl xs.length cl], .bool BB]) (by simp [results, Tryz.results9, go_sem, v0, v1]) rfl ⟨⟨MK, _, BB, xs, rfl, HE3.out, HRE.out⟩, HE2.out⟩
                · have hle : (LN.toList == []) = false := by simpa using toList_neF hLE
                  have HNS := hide (show ¬ (k + 1 = L.length ∧ feedL k (L[k]'hltk) = []) from fun e => hLE (by
                    apply ByteArray.ext
                    apply Array.ext'
                    rw [HLN.out, e.2]))
                  clear hLE
                  have hLs : LN.size ≤ 8000 := HLZ.out
                  go_wp2_with fail
                  refine (l04ReadSeg_any MK LN _ HM5.out hLs).mono ?_
                  rintro e Z1 ⟨hq2, hb3⟩
                  obtain ⟨QM, hQM⟩ : ∃ QM, QM = segMd MK LN.data.toList := ⟨_, rfl⟩
                  rw [← hQM] at hq2
                  have HQM := hide (show segMd MK (feedL k (L[k]'hltk)) = QM by rw [← HLN.out]; exact hQM.symm)
                  have HZ3 := hide hb3
                  have HBZ1 := hide (HBZ.out.trans (hb3.mono HBZ.out.size))
                  have HRM1 := hide (HRM.out.below hb3 HRM.out.lt)
                  have HRES1 := hide (HRES.out.below hb3 HRES.out.lt)
                  clear hb3 hQM hLs
                  cases QM with
                  | none =>
                    obtain ⟨n', rfl⟩ := hq2
                    have HMN := hide (md_none HMA.out hltk HNS.out HQM.out)
                    have HBY := hide (HBZ1.out.trans (((Below.refl Z1.heap.size Z1).alloc (Nat.le_refl _) (.cells #[.string n', .slice none 0 0] 41)).mono HBZ1.out.size))
                    have HRESy := hide (HRES1.out.alloc (.cells #[.string n', .slice none 0 0] 41))
                    have HRMy := hide (HRM1.out.alloc (.cells #[.string n', .slice none 0 0] 41))
                    have HOSy := hide (((RSegs.mono (HGF.out.rsegs HOF.out) (by have := HM9.out; omega : w.heap.size + 1 ≤ w2.heap.size)).below HZ3.out).below ((Below.refl Z1.heap.size Z1).alloc (Nat.le_refl _) (.cells #[.string n', .slice none 0 0] 41)))
                    obtain rfl : R = none := by rw [HRX.out]; rw [HRD.out, HMN.out]; rfl
                    have k0 : (Z1.alloc (.cells #[.string n', .slice none 0 0] 41)).cell? ⟨w.heap.size, 0, none⟩ = some (.string ⟨#[]⟩) := HRESy.out.cell 0
                    have k1 : (Z1.alloc (.cells #[.string n', .slice none 0 0] 41)).cell? ⟨w.heap.size, 1, none⟩ = some (.slice none 0 0) := HRESy.out.cell 1
                    have f0 := HRESy.out.free 0
                    have f1 := HRESy.out.free 1
                    have s0 : (Z1.alloc (.cells #[.string n', .slice none 0 0] 41)).cell? ⟨M, 0, none⟩ = some (.string MK) := HRMy.out.cell 0
                    have s1 : (Z1.alloc (.cells #[.string n', .slice none 0 0] 41)).cell? ⟨M, 1, none⟩ = some (.slice pl xs.length cl) := HRMy.out.cell 1
                    have t2 := (HRESy.out.set (j := 0) (.string MK)).set (j := 1) (.slice pl xs.length cl)
                    have q0 : (((Z1.alloc (.cells #[.string n', .slice none 0 0] 41)).setCell ⟨w.heap.size, 0, none⟩ (.string MK)).setCell ⟨w.heap.size, 1, none⟩ (.slice pl xs.length cl)).cell? ⟨w.heap.size, 0, none⟩ = some (.string MK) := t2.cell 0
                    have q1 : (((Z1.alloc (.cells #[.string n', .slice none 0 0] 41)).setCell ⟨w.heap.size, 0, none⟩ (.string MK)).setCell ⟨w.heap.size, 1, none⟩ (.slice pl xs.length cl)).cell? ⟨w.heap.size, 1, none⟩ = some (.slice pl xs.length cl) := t2.cell 1
                    have HBF := hide ((HBY.out.setCell (p := ⟨w.heap.size, 0, none⟩) (Nat.le_refl _) (.string MK)).setCell (p := ⟨w.heap.size, 1, none⟩) (Nat.le_refl _) (.slice pl xs.length cl))
                    have HRE := hide (show RSegs (w.heap.size + 1) (((Z1.alloc (.cells #[.string n', .slice none 0 0] 41)).setCell ⟨w.heap.size, 0, none⟩ (.string MK)).setCell ⟨w.heap.size, 1, none⟩ (.slice pl xs.length cl)) (.slice pl xs.length cl) _ from (RSegs.same (RSegs.same (HOSy.out) (Same.set _ _ (by omega))) (Same.set _ _ (by omega))))
                    clear t2
                    go_wp2
                    exact bodyPost_ret (v := .tuple #[.agg #[.string MK, .slice pl xs.length cl], .bool false]) (by simp [results, Tryz.results9, go_sem, q0, q1]) rfl ⟨⟨MK, _, false, _, rfl, HRE.out, rfl⟩, HBF.out⟩

                  | some sf =>
                    obtain ⟨n2, x⟩ := sf
                    obtain ⟨p4, c4, rfl, hrf⟩ := hq2
                    have HRF := hide hrf
                    clear hrf
                    obtain ⟨Y1, hY1⟩ : ∃ Y, Y = Z1.alloc (.cells #[.string n2, .slice p4 x.length c4] 41) := ⟨_, rfl⟩
                    have hy1 : Below Z1.heap.size Z1 Y1 := by rw [hY1]; exact (Below.refl _ _).alloc (Nat.le_refl _) _
                    by_cases h20 : 20 ≤ xs.length
                    · have HMN := hide (md_full HMA.out hltk HNS.out HQM.out (by have := HXK.out; omega))
                      have h20i : (20 : Int) ≤ (xs.length : Int) := by omega
                      have HBY := hide (HBZ1.out.trans (hy1.mono HBZ1.out.size))
                      have HRESy := hide (HRES1.out.below hy1 HRES1.out.lt)
                      have HRMy := hide (HRM1.out.below hy1 HRM1.out.lt)
                      have HOSy := hide (((RSegs.mono (HGF.out.rsegs HOF.out) (by have := HM9.out; omega : w.heap.size + 1 ≤ w2.heap.size)).below HZ3.out).below hy1)
                      subst hY1
                      obtain rfl : R = none := by rw [HRX.out]; rw [HRD.out, HMN.out]; rfl
                      have k0 : (Z1.alloc (.cells #[.string n2, .slice p4 x.length c4] 41)).cell? ⟨w.heap.size, 0, none⟩ = some (.string ⟨#[]⟩) := HRESy.out.cell 0
                      have k1 : (Z1.alloc (.cells #[.string n2, .slice p4 x.length c4] 41)).cell? ⟨w.heap.size, 1, none⟩ = some (.slice none 0 0) := HRESy.out.cell 1
                      have f0 := HRESy.out.free 0
                      have f1 := HRESy.out.free 1
                      have s0 : (Z1.alloc (.cells #[.string n2, .slice p4 x.length c4] 41)).cell? ⟨M, 0, none⟩ = some (.string MK) := HRMy.out.cell 0
                      have s1 : (Z1.alloc (.cells #[.string n2, .slice p4 x.length c4] 41)).cell? ⟨M, 1, none⟩ = some (.slice pl xs.length cl) := HRMy.out.cell 1
                      have t2 := (HRESy.out.set (j := 0) (.string MK)).set (j := 1) (.slice pl xs.length cl)
                      have q0 : (((Z1.alloc (.cells #[.string n2, .slice p4 x.length c4] 41)).setCell ⟨w.heap.size, 0, none⟩ (.string MK)).setCell ⟨w.heap.size, 1, none⟩ (.slice pl xs.length cl)).cell? ⟨w.heap.size, 0, none⟩ = some (.string MK) := t2.cell 0
                      have q1 : (((Z1.alloc (.cells #[.string n2, .slice p4 x.length c4] 41)).setCell ⟨w.heap.size, 0, none⟩ (.string MK)).setCell ⟨w.heap.size, 1, none⟩ (.slice pl xs.length cl)).cell? ⟨w.heap.size, 1, none⟩ = some (.slice pl xs.length cl) := t2.cell 1
                      have HBF := hide ((HBY.out.setCell (p := ⟨w.heap.size, 0, none⟩) (Nat.le_refl _) (.string MK)).setCell (p := ⟨w.heap.size, 1, none⟩) (Nat.le_refl _) (.slice pl xs.length cl))
                      have HRE := hide (show RSegs (w.heap.size + 1) (((Z1.alloc (.cells #[.string n2, .slice p4 x.length c4] 41)).setCell ⟨w.heap.size, 0, none⟩ (.string MK)).setCell ⟨w.heap.size, 1, none⟩ (.slice pl xs.length cl)) (.slice pl xs.length cl) _ from (RSegs.same (RSegs.same (HOSy.out) (Same.set _ _ (by omega))) (Same.set _ _ (by omega))))
                      clear t2
                      go_wp2
                      exact bodyPost_ret (v := .tuple #[.agg #[.string MK, .slice pl xs.length cl], .bool false]) (by simp [results, Tryz.results9, go_sem, q0, q1]) rfl ⟨⟨MK, _, false, _, rfl, HRE.out, rfl⟩, HBF.out⟩

                    · have h20i : ¬ (20 : Int) ≤ (xs.length : Int) := by omega
                      have HMG := hide (md_go HMA.out hltk HNS.out HQM.out (by have := HXK.out; omega))
                      have HFX := hide (show Fits x from segMd_fits (s := (n2, x)) HLF.out HQM.out)
                      obtain ⟨Y2, hY2⟩ : ∃ Y, Y = Y1.alloc (.cells #[.string n2, .slice p4 x.length c4] 41) := ⟨_, rfl⟩
                      have hy2 : Below Y1.heap.size Y1 Y2 := by rw [hY2]; exact (Below.refl _ _).alloc (Nat.le_refl _) _
                      have hy12 := hy1.trans (hy2.mono hy1.size)
                      have HZY := hide (HZ3.out.trans (hy12.mono HZ3.out.size))
                      have HROW := hide (show Row Y2 (Z1.heap.size + 1) 41 [.string n2, .slice p4 x.length c4] by rw [show Z1.heap.size + 1 = Y1.heap.size by rw [hY1]; simp, hY2]; exact row_new Y1 [.string n2, .slice p4 x.length c4] 41)
                      have HRMY := hide (HRM1.out.below hy12 HRM1.out.lt)
                      have m1 : ((Z1.alloc (.cells #[.string n2, .slice p4 x.length c4] 41)).alloc (.cells #[.string n2, .slice p4 x.length c4] 41)).cell? ⟨M, 1, none⟩ = some (.slice pl xs.length cl) := by have := HRMY.out.cell 1; rw [hY2, hY1] at this; exact this
                      have m2 : (Z1.alloc (.cells #[.string n2, .slice p4 x.length c4] 41)).cell? ⟨M, 1, none⟩ = some (.slice pl xs.length cl) := by have := (HRM1.out.below hy1 HRM1.out.lt).cell 1; rw [hY1] at this; exact this
                      have HOY := hide (own_below HOF.out HZY.out)
                      have HOR := hide (show ORF (Z.heap.size + 1) Z1.heap.size Y2 (.slice p4 x.length c4) x from ⟨Z1, Nat.le_refl _, HRF.out, SameIn.ofBelow hy12, hy12.size⟩)
                      have HSZ := hide (show Z1.heap.size ≤ Y2.heap.size from hy12.size)
                      have HVY := hide (show w2.heap.size ≤ Z.heap.size ∧ w2.heap.size ≤ Y2.heap.size by have h1 := HNZ.out.size; have h2 := HZY.out.size; omega)
                      have HNY := hide (HNZ.out.below HZY.out)
                      clear hy1 hy2 hy12
                      go_wp2_with (rw [← hY1, ← hY2]; at_builtin; refine wpList_append_own_at Y2 rfl (.tmp 81) (.tmp 83) 22 rfl w2.heap.size 41 i0 _ 2 40 Tryz.underlying22 hi hz0 hz1 hz2 HZC.out (by omega) _ xs.length vs rfl HOY.out ⟨Z1.heap.size + 1, 0, none⟩ 1 _ [.string n2, .slice p4 x.length c4] rfl rfl (row_cellsP HROW.out) (by simp [Value.oneCell']) (by unfold maxLen; omega) (by omega) (by exact HVY.out.2) ?_)
                      intro v' w3 hown hgrow0 hnil hat0
                      have hgrow : Y2.grownBy w3 (.slice pl xs.length cl : Value).ownBlock := by rw [hY2, hY1]; exact hgrow0
                      have hat : v'.ownBlock = (.slice pl xs.length cl : Value).ownBlock ∨ v'.ownBlock = some Y2.heap.size := by rw [hY2, hY1]; simpa using hat0
                      clear hgrow0 hat0
                      obtain ⟨p9, c9, hv9⟩ := own_slice1 hown
                      subst hv9
                      have HO3 := hide (show w3.ownsRow w2.heap.size 41 2 (.slice p9 (xs.length + 1) c9) (xs ++ [(n2, x)]).length (vs ++ [.string n2, .slice p4 x.length c4]) by rw [List.length_append]; exact hown)
                      have HG3 := hide (show GrowT w2.heap.size w3 (.slice p9 (xs.length + 1) c9) (vs ++ [.string n2, .slice p4 x.length c4]) (xs ++ [(n2, x)]) from
                        HGF.out.snoc HOF.out.1 HZY.out (by have := HVY.out.1; omega) HSZ.out (fun g hg => .inr (by have := (HOF.out.lt g hg).2; omega)) (by have h1 : n2.size ≤ 3 := segMd_name HQM.out; unfold maxLen; omega) HOR.out hgrow hat)
                      have HN9 := hide (HNY.out.grownB hgrow (fun k hk => (HOY.out.lt k hk).1))
                      have HRM3 := hide (row_grown HRMY.out hgrow (fun k hk => (HOY.out.lt k hk).1) HM9.out.2)
                      have c9a : w3.cell? ⟨M, 1, none⟩ = some (.slice pl xs.length cl) := HRM3.out.cell 1
                      have f9a := HRM3.out.free 1
                      have HS9 := hide (Same.set w3 (g := M) (j := 1) (.slice p9 (xs.length + 1) c9) HM9.out.2)
                      have HOF9 := hide (own_sameB HO3.out HS9.out)
                      have HGF9 := hide (HG3.out.same HS9.out)
                      have HRM9 := hide (HRM3.out.set (j := 1) (.slice p9 (xs.length + 1) c9))
                      have HNF := hide (HN9.out.set (j := 1) (.slice p9 (xs.length + 1) c9))
                      have HFT9 := hide (fitsM_snoc HFT.out (by omega) (s := (n2, x)) HFX.out)
                      have HXK9 := hide (show (xs ++ [(n2, x)]).length = k + 1 by rw [List.length_append, HXK.out]; rfl)
                      clear hown hgrow hnil hat m1 m2 hY1 hY2 h20 h20i
                      go_wp2
                      go_roundw
                      case rel => exact ⟨_, k + 1, _, _, _, rfl, by omega, by go_num, HRM9, HOF9, HGF9, HMG, HNF, HFT9, HXK9⟩
                      case measure => simp [intOf]; omega
              · have hkb : ((k : Int) == (K : Int)) = false := by simpa using (by omega : ¬ (k : Int) = (K : Int))
                have hkz : ¬ (k : Int) = (K : Int) := by omega
                have HNS := hide (show ¬ (k + 1 = L.length ∧ feedL k (L[k]'hltk) = []) from fun e => hkK (by have := HK.out; omega))
                have hLs : LN.size ≤ 8000 := HLZ.out
                go_wp2_with fail
                refine (l04ReadSeg_any MK LN _ HM5.out hLs).mono ?_
                rintro e Z1 ⟨hq2, hb3⟩
                obtain ⟨QM, hQM⟩ : ∃ QM, QM = segMd MK LN.data.toList := ⟨_, rfl⟩
                rw [← hQM] at hq2
                have HQM := hide (show segMd MK (feedL k (L[k]'hltk)) = QM by rw [← HLN.out]; exact hQM.symm)
                have HZ3 := hide hb3
                have HBZ1 := hide (HBZ.out.trans (hb3.mono HBZ.out.size))
                have HRM1 := hide (HRM.out.below hb3 HRM.out.lt)
                have HRES1 := hide (HRES.out.below hb3 HRES.out.lt)
                clear hb3 hQM hLs
                cases QM with
                | none =>
                  obtain ⟨n', rfl⟩ := hq2
                  have HMN := hide (md_none HMA.out hltk HNS.out HQM.out)
                  have HBY := hide (HBZ1.out.trans (((Below.refl Z1.heap.size Z1).alloc (Nat.le_refl _) (.cells #[.string n', .slice none 0 0] 41)).mono HBZ1.out.size))
                  have HRESy := hide (HRES1.out.alloc (.cells #[.string n', .slice none 0 0] 41))
                  have HRMy := hide (HRM1.out.alloc (.cells #[.string n', .slice none 0 0] 41))
                  have HOSy := hide (((RSegs.mono (HGF.out.rsegs HOF.out) (by have := HM9.out; omega : w.heap.size + 1 ≤ w2.heap.size)).below HZ3.out).below ((Below.refl Z1.heap.size Z1).alloc (Nat.le_refl _) (.cells #[.string n', .slice none 0 0] 41)))
                  obtain rfl : R = none := by rw [HRX.out]; rw [HRD.out, HMN.out]; rfl
                  have k0 : (Z1.alloc (.cells #[.string n', .slice none 0 0] 41)).cell? ⟨w.heap.size, 0, none⟩ = some (.string ⟨#[]⟩) := HRESy.out.cell 0
                  have k1 : (Z1.alloc (.cells #[.string n', .slice none 0 0] 41)).cell? ⟨w.heap.size, 1, none⟩ = some (.slice none 0 0) := HRESy.out.cell 1
                  have f0 := HRESy.out.free 0
                  have f1 := HRESy.out.free 1
                  have s0 : (Z1.alloc (.cells #[.string n', .slice none 0 0] 41)).cell? ⟨M, 0, none⟩ = some (.string MK) := HRMy.out.cell 0
                  have s1 : (Z1.alloc (.cells #[.string n', .slice none 0 0] 41)).cell? ⟨M, 1, none⟩ = some (.slice pl xs.length cl) := HRMy.out.cell 1
                  have t2 := (HRESy.out.set (j := 0) (.string MK)).set (j := 1) (.slice pl xs.length cl)
                  have q0 : (((Z1.alloc (.cells #[.string n', .slice none 0 0] 41)).setCell ⟨w.heap.size, 0, none⟩ (.string MK)).setCell ⟨w.heap.size, 1, none⟩ (.slice pl xs.length cl)).cell? ⟨w.heap.size, 0, none⟩ = some (.string MK) := t2.cell 0
                  have q1 : (((Z1.alloc (.cells #[.string n', .slice none 0 0] 41)).setCell ⟨w.heap.size, 0, none⟩ (.string MK)).setCell ⟨w.heap.size, 1, none⟩ (.slice pl xs.length cl)).cell? ⟨w.heap.size, 1, none⟩ = some (.slice pl xs.length cl) := t2.cell 1
                  have HBF := hide ((HBY.out.setCell (p := ⟨w.heap.size, 0, none⟩) (Nat.le_refl _) (.string MK)).setCell (p := ⟨w.heap.size, 1, none⟩) (Nat.le_refl _) (.slice pl xs.length cl))
                  have HRE := hide (show RSegs (w.heap.size + 1) (((Z1.alloc (.cells #[.string n', .slice none 0 0] 41)).setCell ⟨w.heap.size, 0, none⟩ (.string MK)).setCell ⟨w.heap.size, 1, none⟩ (.slice pl xs.length cl)) (.slice pl xs.length cl) _ from (RSegs.same (RSegs.same (HOSy.out) (Same.set _ _ (by omega))) (Same.set _ _ (by omega))))
                  clear t2
                  go_wp2
                  exact bodyPost_ret (v := .tuple #[.agg #[.string MK, .slice pl xs.length cl], .bool false]) (by simp [results, Tryz.results9, go_sem, q0, q1]) rfl ⟨⟨MK, _, false, _, rfl, HRE.out, rfl⟩, HBF.out⟩

                | some sf =>
                  obtain ⟨n2, x⟩ := sf
                  obtain ⟨p4, c4, rfl, hrf⟩ := hq2
                  have HRF := hide hrf
                  clear hrf
                  obtain ⟨Y1, hY1⟩ : ∃ Y, Y = Z1.alloc (.cells #[.string n2, .slice p4 x.length c4] 41) := ⟨_, rfl⟩
                  have hy1 : Below Z1.heap.size Z1 Y1 := by rw [hY1]; exact (Below.refl _ _).alloc (Nat.le_refl _) _
                  by_cases h20 : 20 ≤ xs.length
                  · have HMN := hide (md_full HMA.out hltk HNS.out HQM.out (by have := HXK.out; omega))
                    have h20i : (20 : Int) ≤ (xs.length : Int) := by omega
                    have HBY := hide (HBZ1.out.trans (hy1.mono HBZ1.out.size))
                    have HRESy := hide (HRES1.out.below hy1 HRES1.out.lt)
                    have HRMy := hide (HRM1.out.below hy1 HRM1.out.lt)
                    have HOSy := hide (((RSegs.mono (HGF.out.rsegs HOF.out) (by have := HM9.out; omega : w.heap.size + 1 ≤ w2.heap.size)).below HZ3.out).below hy1)
                    subst hY1
                    obtain rfl : R = none := by rw [HRX.out]; rw [HRD.out, HMN.out]; rfl
                    have k0 : (Z1.alloc (.cells #[.string n2, .slice p4 x.length c4] 41)).cell? ⟨w.heap.size, 0, none⟩ = some (.string ⟨#[]⟩) := HRESy.out.cell 0
                    have k1 : (Z1.alloc (.cells #[.string n2, .slice p4 x.length c4] 41)).cell? ⟨w.heap.size, 1, none⟩ = some (.slice none 0 0) := HRESy.out.cell 1
                    have f0 := HRESy.out.free 0
                    have f1 := HRESy.out.free 1
                    have s0 : (Z1.alloc (.cells #[.string n2, .slice p4 x.length c4] 41)).cell? ⟨M, 0, none⟩ = some (.string MK) := HRMy.out.cell 0
                    have s1 : (Z1.alloc (.cells #[.string n2, .slice p4 x.length c4] 41)).cell? ⟨M, 1, none⟩ = some (.slice pl xs.length cl) := HRMy.out.cell 1
                    have t2 := (HRESy.out.set (j := 0) (.string MK)).set (j := 1) (.slice pl xs.length cl)
                    have q0 : (((Z1.alloc (.cells #[.string n2, .slice p4 x.length c4] 41)).setCell ⟨w.heap.size, 0, none⟩ (.string MK)).setCell ⟨w.heap.size, 1, none⟩ (.slice pl xs.length cl)).cell? ⟨w.heap.size, 0, none⟩ = some (.string MK) := t2.cell 0
                    have q1 : (((Z1.alloc (.cells #[.string n2, .slice p4 x.length c4] 41)).setCell ⟨w.heap.size, 0, none⟩ (.string MK)).setCell ⟨w.heap.size, 1, none⟩ (.slice pl xs.length cl)).cell? ⟨w.heap.size, 1, none⟩ = some (.slice pl xs.length cl) := t2.cell 1
                    have HBF := hide ((HBY.out.setCell (p := ⟨w.heap.size, 0, none⟩) (Nat.le_refl _) (.string MK)).setCell (p := ⟨w.heap.size, 1, none⟩) (Nat.le_refl _) (.slice pl xs.length cl))
                    have HRE := hide (show RSegs (w.heap.size + 1) (((Z1.alloc (.cells #[.string n2, .slice p4 x.length c4] 41)).setCell ⟨w.heap.size, 0, none⟩ (.string MK)).setCell ⟨w.heap.size, 1, none⟩ (.slice pl xs.length cl)) (.slice pl xs.length cl) _ from (RSegs.same (RSegs.same (HOSy.out) (Same.set _ _ (by omega))) (Same.set _ _ (by omega))))
                    clear t2
                    go_wp2
                    exact bodyPost_ret (v := .tuple #[.agg #[.string MK, .slice pl xs.length cl], .bool false]) (by simp [results, Tryz.results9, go_sem, q0, q1]) rfl ⟨⟨MK, _, false, _, rfl, HRE.out, rfl⟩, HBF.out⟩

                  · have h20i : ¬ (20 : Int) ≤ (xs.length : Int) := by omega
                    have HMG := hide (md_go HMA.out hltk HNS.out HQM.out (by have := HXK.out; omega))
                    have HFX := hide (show Fits x from segMd_fits (s := (n2, x)) HLF.out HQM.out)
                    obtain ⟨Y2, hY2⟩ : ∃ Y, Y = Y1.alloc (.cells #[.string n2, .slice p4 x.length c4] 41) := ⟨_, rfl⟩
                    have hy2 : Below Y1.heap.size Y1 Y2 := by rw [hY2]; exact (Below.refl _ _).alloc (Nat.le_refl _) _
                    have hy12 := hy1.trans (hy2.mono hy1.size)
                    have HZY := hide (HZ3.out.trans (hy12.mono HZ3.out.size))
                    have HROW := hide (show Row Y2 (Z1.heap.size + 1) 41 [.string n2, .slice p4 x.length c4] by rw [show Z1.heap.size + 1 = Y1.heap.size by rw [hY1]; simp, hY2]; exact row_new Y1 [.string n2, .slice p4 x.length c4] 41)
                    have HRMY := hide (HRM1.out.below hy12 HRM1.out.lt)
                    have m1 : ((Z1.alloc (.cells #[.string n2, .slice p4 x.length c4] 41)).alloc (.cells #[.string n2, .slice p4 x.length c4] 41)).cell? ⟨M, 1, none⟩ = some (.slice pl xs.length cl) := by have := HRMY.out.cell 1; rw [hY2, hY1] at this; exact this
                    have m2 : (Z1.alloc (.cells #[.string n2, .slice p4 x.length c4] 41)).cell? ⟨M, 1, none⟩ = some (.slice pl xs.length cl) := by have := (HRM1.out.below hy1 HRM1.out.lt).cell 1; rw [hY1] at this; exact this
                    have HOY := hide (own_below HOF.out HZY.out)
                    have HOR := hide (show ORF (Z.heap.size + 1) Z1.heap.size Y2 (.slice p4 x.length c4) x from ⟨Z1, Nat.le_refl _, HRF.out, SameIn.ofBelow hy12, hy12.size⟩)
                    have HSZ := hide (show Z1.heap.size ≤ Y2.heap.size from hy12.size)
                    have HVY := hide (show w2.heap.size ≤ Z.heap.size ∧ w2.heap.size ≤ Y2.heap.size by have h1 := HNZ.out.size; have h2 := HZY.out.size; omega)
                    have HNY := hide (HNZ.out.below HZY.out)
                    clear hy1 hy2 hy12
                    go_wp2_with (rw [← hY1, ← hY2]; at_builtin; refine wpList_append_own_at Y2 rfl (.tmp 81) (.tmp 83) 22 rfl w2.heap.size 41 i0 _ 2 40 Tryz.underlying22 hi hz0 hz1 hz2 HZC.out (by omega) _ xs.length vs rfl HOY.out ⟨Z1.heap.size + 1, 0, none⟩ 1 _ [.string n2, .slice p4 x.length c4] rfl rfl (row_cellsP HROW.out) (by simp [Value.oneCell']) (by unfold maxLen; omega) (by omega) (by exact HVY.out.2) ?_)
                    intro v' w3 hown hgrow0 hnil hat0
                    have hgrow : Y2.grownBy w3 (.slice pl xs.length cl : Value).ownBlock := by rw [hY2, hY1]; exact hgrow0
                    have hat : v'.ownBlock = (.slice pl xs.length cl : Value).ownBlock ∨ v'.ownBlock = some Y2.heap.size := by rw [hY2, hY1]; simpa using hat0
                    clear hgrow0 hat0
                    obtain ⟨p9, c9, hv9⟩ := own_slice1 hown
                    subst hv9
                    have HO3 := hide (show w3.ownsRow w2.heap.size 41 2 (.slice p9 (xs.length + 1) c9) (xs ++ [(n2, x)]).length (vs ++ [.string n2, .slice p4 x.length c4]) by rw [List.length_append]; exact hown)
                    have HG3 := hide (show GrowT w2.heap.size w3 (.slice p9 (xs.length + 1) c9) (vs ++ [.string n2, .slice p4 x.length c4]) (xs ++ [(n2, x)]) from
                      HGF.out.snoc HOF.out.1 HZY.out (by have := HVY.out.1; omega) HSZ.out (fun g hg => .inr (by have := (HOF.out.lt g hg).2; omega)) (by have h1 : n2.size ≤ 3 := segMd_name HQM.out; unfold maxLen; omega) HOR.out hgrow hat)
                    have HN9 := hide (HNY.out.grownB hgrow (fun k hk => (HOY.out.lt k hk).1))
                    have HRM3 := hide (row_grown HRMY.out hgrow (fun k hk => (HOY.out.lt k hk).1) HM9.out.2)
                    have c9a : w3.cell? ⟨M, 1, none⟩ = some (.slice pl xs.length cl) := HRM3.out.cell 1
                    have f9a := HRM3.out.free 1
                    have HS9 := hide (Same.set w3 (g := M) (j := 1) (.slice p9 (xs.length + 1) c9) HM9.out.2)
                    have HOF9 := hide (own_sameB HO3.out HS9.out)
                    have HGF9 := hide (HG3.out.same HS9.out)
                    have HRM9 := hide (HRM3.out.set (j := 1) (.slice p9 (xs.length + 1) c9))
                    have HNF := hide (HN9.out.set (j := 1) (.slice p9 (xs.length + 1) c9))
                    have HFT9 := hide (fitsM_snoc HFT.out (by omega) (s := (n2, x)) HFX.out)
                    have HXK9 := hide (show (xs ++ [(n2, x)]).length = k + 1 by rw [List.length_append, HXK.out]; rfl)
                    clear hown hgrow hnil hat m1 m2 hY1 hY2 h20 h20i
                    go_wp2
                    go_roundw
                    case rel => exact ⟨_, k + 1, _, _, _, rfl, by omega, by go_num, HRM9, HOF9, HGF9, HMG, HNF, HFT9, HXK9⟩
                    case measure => simp [intOf]; omega
            · have hb10 : ¬ ((AL[0]'h0A).toNat : Int) = 10 := fun e => h10 (UInt8.toNat_inj.1 (by have : (10 : UInt8).toNat = 10 := rfl; omega))
              have HFE := hide (show feedL k (L[k]'hltk) = L[k]'hltk by
                unfold feedL
                rw [if_neg (fun e => h10 (by have h := e.2; rw [HCO.out] at h; simpa using h))])
              clear hal hk0 hz0' h10 HCO
              obtain ⟨LN, hLN⟩ : ∃ LN, LN = AL := ⟨_, rfl⟩
              subst hLN
              have HLN := hide (show LN.data.toList = feedL k (L[k]'hltk) by rw [HFE.out, HAL.out])
              have HLZ := hide (show LN.size ≤ 8000 by
                have h1 : LN.data.toList.length = LN.size := by simp
                rw [← h1, HLN.out]
                exact HLF.out)
              go_upto_region 12 with fail
              clear ck hz hz1 hb10 hkp
              by_cases hkK : k = K
              · have hkb : ((k : Int) == (K : Int)) = true := by simp [hkK]
                have hkz : (k : Int) = (K : Int) := by omega
                by_cases hLE : LN = ⟨#[]⟩
                · have hle : (LN.toList == []) = true := by rw [hLE]; simp
                  have HMD := hide (md_stop HMA.out hltk (by have := HK.out; omega) (by rw [← HLN.out, hLE]))
                  clear hLE
                  have HRE := hide (show R = (if msgB MK xs then some (MK, xs) else none) by rw [HRX.out, HRD.out, HMD.out]; rfl)
                  have HOS := hide (show RSegs (w.heap.size + 1) Z (.slice pl xs.length cl) xs from RSegs.mono (HGF.out.rsegs HOF.out) (by have := HM9.out; omega))
                  clear HMD
                  go_wp2_with fail
                  refine wp_region_held (S := (fun y : World => y.cell? ⟨M, 0, none⟩ = some (.string MK) ∧ y.cell? ⟨M, 1, none⟩ = some (.slice pl xs.length cl))) (by kernel_rfl) ?_
                  have HD := hide (show Below Z.heap.size Z { Z with drawn := Z.drawn + 1 } from (Below.refl _ _).drew)
                  generalize ({ Z with drawn := Z.drawn + 1 } : World) = D0 at HD ⊢
                  have HSY := hide (show ∀ y, Below Z.heap.size Z y → (fun y : World => y.cell? ⟨M, 0, none⟩ = some (.string MK) ∧ y.cell? ⟨M, 1, none⟩ = some (.slice pl xs.length cl)) y from fun y h => ⟨(HRM.out.below h HRM.out.lt).cell 0, (HRM.out.below h HRM.out.lt).cell 1⟩)
                  have HRL := hide (show ∀ y, Below Z.heap.size Z y → RSegs (w.heap.size + 1) y (.slice pl xs.length cl) xs from fun y h => HOS.out.below h)
                  obtain ⟨FP, hFP⟩ : ∃ FP : World → Prop, FP = (fun V => Row V w.heap.size 24 [.string MK, .slice pl xs.length cl] ∧ Below w.heap.size w V ∧ RSegs (w.heap.size + 1) V (.slice pl xs.length cl) xs ∧ Row V M 24 [.string MK, .slice pl xs.length cl]) := ⟨_, rfl⟩
                  have HF1 : Hid (∀ Y, Below Z.heap.size Z Y → FP ((Y.setCell ⟨w.heap.size, 0, none⟩ (.string MK)).setCell ⟨w.heap.size, 1, none⟩ (.slice pl xs.length cl))) := hide (by
                    rw [hFP]
                    intro Y h
                    have hM := HM9.out
                    exact ⟨((HRES.out.below h HRES.out.lt).set (j := 0) _).set (j := 1) _, ((HBZ.out.trans (h.mono HBZ.out.size)).setCell (p := ⟨w.heap.size, 0, none⟩) (Nat.le_refl _) _).setCell (p := ⟨w.heap.size, 1, none⟩) (Nat.le_refl _) _, RSegs.same (RSegs.same (HRL.out Y h) (Same.set _ _ (by omega))) (Same.set _ _ (by omega)), ((HRM.out.below h HRM.out.lt).other (b := w.heap.size) (j := 0) (by omega) _).other (b := w.heap.size) (j := 1) (by omega) _⟩)
                  have HFS : Hid (∀ V, FP V → (fun y : World => y.cell? ⟨M, 0, none⟩ = some (.string MK) ∧ y.cell? ⟨M, 1, none⟩ = some (.slice pl xs.length cl)) V) := hide (by rw [hFP]; exact fun V h => ⟨h.2.2.2.cell 0, h.2.2.2.cell 1⟩)
                  have HF0 : Hid (∀ V, FP V → Row V w.heap.size 24 [.string MK, .slice pl xs.length cl] ∧ Below w.heap.size w V ∧ RSegs (w.heap.size + 1) V (.slice pl xs.length cl) xs) := hide (by rw [hFP]; exact fun V h => ⟨h.1, h.2.1, h.2.2.1⟩)
                  clear hFP
                  have HS := hide (HSY.out _ HD.out)
                  refine wpAnyH_take (i := 0) (oi := _) (v := .agg #[.string MK, .slice pl xs.length cl]) rfl (by kernel_rfl) (by kernel_rfl) (by kernel_rfl) (fun _ _ _ h => h) (Or.inl ⟨by rfl, by intro w hSw; go_split_ands; go_simp⟩) HS.out ?_
                  simp only [Act.put, List.getElem_toArray, List.getElem_cons_zero, List.setIfInBounds_toArray, List.set_cons_zero, List.set_cons_succ]
                  refine wpAnyH_take (i := 1) (oi := _) (v := .agg #[.string MK, .slice pl xs.length cl]) rfl (by kernel_rfl) (by kernel_rfl) (by kernel_rfl) (fun _ _ _ h => h) (Or.inl ⟨by rfl, by intro w hSw; go_split_ands; go_simp⟩) HS.out ?_
                  simp only [Act.put, List.getElem_toArray, List.getElem_cons_zero, List.getElem_cons_succ, List.setIfInBounds_toArray, List.set_cons_zero, List.set_cons_succ]
                  refine wpAnyH_ready (rs := [2]) (by kernel_rfl) (by simp) ?_
                  refine AllReadyH.cons (o := _) rfl (fun K hK => ?_) AllReadyH.nil
                  go_simp
                  refine (specMessage_any MK _ xs _ _ (by have := HM5.out; unfold maxLen; omega) HFT.out (HRL.out _ HD.out)).mono ?_
                  rintro e Z9 ⟨rfl, hb9⟩
                  have HD1 := hide (HD.out.trans (hb9.mono HD.out.size))
                  clear hb9
                  refine hK.out _ _ (HSY.out _ HD1.out) (fun _ => ?_)
                  clear hK K HS
                  have HS := hide (HSY.out _ HD1.out)
                  obtain ⟨BB, hBB⟩ : ∃ BB : Bool, BB = msgB MK xs := ⟨_, rfl⟩
                  rw [← hBB] at HRE ⊢
                  clear hBB
                  try simp only [Act.put, List.getElem_toArray, List.getElem_cons_zero, List.getElem_cons_succ, List.setIfInBounds_toArray, List.set_cons_zero, List.set_cons_succ]
                  refine wpAnyH_ready (rs := [3]) (by kernel_rfl) (by simp) ?_
                  refine AllReadyH.cons (o := _) rfl (fun K hK => ?_) AllReadyH.nil
                  have c5 : Z9.cell? ⟨w.heap.size, 0, none⟩ = some (.string ⟨#[]⟩) := (HRES.out.below HD1.out HRES.out.lt).cell 0
                  have f5 := (HRES.out.below HD1.out HRES.out.lt).free 0
                  have c6 : Z9.cell? ⟨w.heap.size, 1, none⟩ = some (.slice none 0 0) := (HRES.out.below HD1.out HRES.out.lt).cell 1
                  have f6 := (HRES.out.below HD1.out HRES.out.lt).free 1
                  go_simp
                  have HFP := hide (HF1.out _ HD1.out)
                  obtain ⟨V9, hV9⟩ : ∃ V, V = (Z9.setCell ⟨w.heap.size, 0, none⟩ (.string MK)).setCell ⟨w.heap.size, 1, none⟩ (.slice pl xs.length cl) := ⟨_, rfl⟩
                  rw [← hV9] at HFP
                  try rw [← hV9]
                  clear hV9
                  refine hK.out _ _ (HFS.out _ HFP.out) (fun _ => ?_)
                  clear hK K HS c5 f5 c6 f6
                  have HS := hide (HFS.out _ HFP.out)
                  try simp only [Act.put, List.getElem_toArray, List.getElem_cons_zero, List.getElem_cons_succ, List.setIfInBounds_toArray, List.set_cons_zero, List.set_cons_succ]
                  refine wpAnyH_take (i := 4) (oi := _) (v := .bool BB) rfl (by kernel_rfl) (by kernel_rfl) (by kernel_rfl) (fun _ _ _ h => h) (Or.inl ⟨by rfl, by intro w hSw; go_split_ands; go_simp⟩) HS.out ?_
                  simp only [Act.put, List.getElem_toArray, List.getElem_cons_zero, List.getElem_cons_succ, List.setIfInBounds_toArray, List.set_cons_zero, List.set_cons_succ]
                  refine wpAnyH_done (by kernel_rfl) ?_ _
                  obtain ⟨e1, e2, e3⟩ := HF0.out _ HFP.out
                  have HE2 := hide e2
                  have HE3 := hide e3
                  have v0 : V9.cell? ⟨w.heap.size, 0, none⟩ = some (.string MK) := e1.cell 0
                  have v1 : V9.cell? ⟨w.heap.size, 1, none⟩ = some (.slice pl xs.length cl) := e1.cell 1
                  clear e1 e2 e3
                  go_wp2
                  exact bodyPost_ret (v := .tuple #[.agg #[.string MK, .slice pl xs.length cl], .bool BB]) (by simp [results, Tryz.results9, go_sem, v0, v1]) rfl ⟨⟨MK, _, BB, xs, rfl, HE3.out, HRE.out⟩, HE2.out⟩
                · have hle : (LN.toList == []) = false := by simpa using toList_neF hLE
                  have HNS := hide (show ¬ (k + 1 = L.length ∧ feedL k (L[k]'hltk) = []) from fun e => hLE (by
                    apply ByteArray.ext
                    apply Array.ext'
                    rw [HLN.out, e.2]))
                  clear hLE
                  have hLs : LN.size ≤ 8000 := HLZ.out
                  go_wp2_with fail
                  refine (l04ReadSeg_any MK LN _ HM5.out hLs).mono ?_
                  rintro e Z1 ⟨hq2, hb3⟩
                  obtain ⟨QM, hQM⟩ : ∃ QM, QM = segMd MK LN.data.toList := ⟨_, rfl⟩
                  rw [← hQM] at hq2
                  have HQM := hide (show segMd MK (feedL k (L[k]'hltk)) = QM by rw [← HLN.out]; exact hQM.symm)
                  have HZ3 := hide hb3
                  have HBZ1 := hide (HBZ.out.trans (hb3.mono HBZ.out.size))
                  have HRM1 := hide (HRM.out.below hb3 HRM.out.lt)
                  have HRES1 := hide (HRES.out.below hb3 HRES.out.lt)
                  clear hb3 hQM hLs
                  cases QM with
                  | none =>
                    obtain ⟨n', rfl⟩ := hq2
                    have HMN := hide (md_none HMA.out hltk HNS.out HQM.out)
                    have HBY := hide (HBZ1.out.trans (((Below.refl Z1.heap.size Z1).alloc (Nat.le_refl _) (.cells #[.string n', .slice none 0 0] 41)).mono HBZ1.out.size))
                    have HRESy := hide (HRES1.out.alloc (.cells #[.string n', .slice none 0 0] 41))
                    have HRMy := hide (HRM1.out.alloc (.cells #[.string n', .slice none 0 0] 41))
                    have HOSy := hide (((RSegs.mono (HGF.out.rsegs HOF.out) (by have := HM9.out; omega : w.heap.size + 1 ≤ w2.heap.size)).below HZ3.out).below ((Below.refl Z1.heap.size Z1).alloc (Nat.le_refl _) (.cells #[.string n', .slice none 0 0] 41)))
                    obtain rfl : R = none := by rw [HRX.out]; rw [HRD.out, HMN.out]; rfl
                    have k0 : (Z1.alloc (.cells #[.string n', .slice none 0 0] 41)).cell? ⟨w.heap.size, 0, none⟩ = some (.string ⟨#[]⟩) := HRESy.out.cell 0
                    have k1 : (Z1.alloc (.cells #[.string n', .slice none 0 0] 41)).cell? ⟨w.heap.size, 1, none⟩ = some (.slice none 0 0) := HRESy.out.cell 1
                    have f0 := HRESy.out.free 0
                    have f1 := HRESy.out.free 1
                    have s0 : (Z1.alloc (.cells #[.string n', .slice none 0 0] 41)).cell? ⟨M, 0, none⟩ = some (.string MK) := HRMy.out.cell 0
                    have s1 : (Z1.alloc (.cells #[.string n', .slice none 0 0] 41)).cell? ⟨M, 1, none⟩ = some (.slice pl xs.length cl) := HRMy.out.cell 1
                    have t2 := (HRESy.out.set (j := 0) (.string MK)).set (j := 1) (.slice pl xs.length cl)
                    have q0 : (((Z1.alloc (.cells #[.string n', .slice none 0 0] 41)).setCell ⟨w.heap.size, 0, none⟩ (.string MK)).setCell ⟨w.heap.size, 1, none⟩ (.slice pl xs.length cl)).cell? ⟨w.heap.size, 0, none⟩ = some (.string MK) := t2.cell 0
                    have q1 : (((Z1.alloc (.cells #[.string n', .slice none 0 0] 41)).setCell ⟨w.heap.size, 0, none⟩ (.string MK)).setCell ⟨w.heap.size, 1, none⟩ (.slice pl xs.length cl)).cell? ⟨w.heap.size, 1, none⟩ = some (.slice pl xs.length cl) := t2.cell 1
                    have HBF := hide ((HBY.out.setCell (p := ⟨w.heap.size, 0, none⟩) (Nat.le_refl _) (.string MK)).setCell (p := ⟨w.heap.size, 1, none⟩) (Nat.le_refl _) (.slice pl xs.length cl))
                    have HRE := hide (show RSegs (w.heap.size + 1) (((Z1.alloc (.cells #[.string n', .slice none 0 0] 41)).setCell ⟨w.heap.size, 0, none⟩ (.string MK)).setCell ⟨w.heap.size, 1, none⟩ (.slice pl xs.length cl)) (.slice pl xs.length cl) _ from (RSegs.same (RSegs.same (HOSy.out) (Same.set _ _ (by omega))) (Same.set _ _ (by omega))))
                    clear t2
                    go_wp2
                    exact bodyPost_ret (v := .tuple #[.agg #[.string MK, .slice pl xs.length cl], .bool false]) (by simp [results, Tryz.results9, go_sem, q0, q1]) rfl ⟨⟨MK, _, false, _, rfl, HRE.out, rfl⟩, HBF.out⟩

                  | some sf =>
                    obtain ⟨n2, x⟩ := sf
                    obtain ⟨p4, c4, rfl, hrf⟩ := hq2
                    have HRF := hide hrf
                    clear hrf
                    obtain ⟨Y1, hY1⟩ : ∃ Y, Y = Z1.alloc (.cells #[.string n2, .slice p4 x.length c4] 41) := ⟨_, rfl⟩
                    have hy1 : Below Z1.heap.size Z1 Y1 := by rw [hY1]; exact (Below.refl _ _).alloc (Nat.le_refl _) _
                    by_cases h20 : 20 ≤ xs.length
                    · have HMN := hide (md_full HMA.out hltk HNS.out HQM.out (by have := HXK.out; omega))
                      have h20i : (20 : Int) ≤ (xs.length : Int) := by omega
                      have HBY := hide (HBZ1.out.trans (hy1.mono HBZ1.out.size))
                      have HRESy := hide (HRES1.out.below hy1 HRES1.out.lt)
                      have HRMy := hide (HRM1.out.below hy1 HRM1.out.lt)
                      have HOSy := hide (((RSegs.mono (HGF.out.rsegs HOF.out) (by have := HM9.out; omega : w.heap.size + 1 ≤ w2.heap.size)).below HZ3.out).below hy1)
                      subst hY1
                      obtain rfl : R = none := by rw [HRX.out]; rw [HRD.out, HMN.out]; rfl
                      have k0 : (Z1.alloc (.cells #[.string n2, .slice p4 x.length c4] 41)).cell? ⟨w.heap.size, 0, none⟩ = some (.string ⟨#[]⟩) := HRESy.out.cell 0
                      have k1 : (Z1.alloc (.cells #[.string n2, .slice p4 x.length c4] 41)).cell? ⟨w.heap.size, 1, none⟩ = some (.slice none 0 0) := HRESy.out.cell 1
                      have f0 := HRESy.out.free 0
                      have f1 := HRESy.out.free 1
                      have s0 : (Z1.alloc (.cells #[.string n2, .slice p4 x.length c4] 41)).cell? ⟨M, 0, none⟩ = some (.string MK) := HRMy.out.cell 0
                      have s1 : (Z1.alloc (.cells #[.string n2, .slice p4 x.length c4] 41)).cell? ⟨M, 1, none⟩ = some (.slice pl xs.length cl) := HRMy.out.cell 1
                      have t2 := (HRESy.out.set (j := 0) (.string MK)).set (j := 1) (.slice pl xs.length cl)
                      have q0 : (((Z1.alloc (.cells #[.string n2, .slice p4 x.length c4] 41)).setCell ⟨w.heap.size, 0, none⟩ (.string MK)).setCell ⟨w.heap.size, 1, none⟩ (.slice pl xs.length cl)).cell? ⟨w.heap.size, 0, none⟩ = some (.string MK) := t2.cell 0
                      have q1 : (((Z1.alloc (.cells #[.string n2, .slice p4 x.length c4] 41)).setCell ⟨w.heap.size, 0, none⟩ (.string MK)).setCell ⟨w.heap.size, 1, none⟩ (.slice pl xs.length cl)).cell? ⟨w.heap.size, 1, none⟩ = some (.slice pl xs.length cl) := t2.cell 1
                      have HBF := hide ((HBY.out.setCell (p := ⟨w.heap.size, 0, none⟩) (Nat.le_refl _) (.string MK)).setCell (p := ⟨w.heap.size, 1, none⟩) (Nat.le_refl _) (.slice pl xs.length cl))
                      have HRE := hide (show RSegs (w.heap.size + 1) (((Z1.alloc (.cells #[.string n2, .slice p4 x.length c4] 41)).setCell ⟨w.heap.size, 0, none⟩ (.string MK)).setCell ⟨w.heap.size, 1, none⟩ (.slice pl xs.length cl)) (.slice pl xs.length cl) _ from (RSegs.same (RSegs.same (HOSy.out) (Same.set _ _ (by omega))) (Same.set _ _ (by omega))))
                      clear t2
                      go_wp2
                      exact bodyPost_ret (v := .tuple #[.agg #[.string MK, .slice pl xs.length cl], .bool false]) (by simp [results, Tryz.results9, go_sem, q0, q1]) rfl ⟨⟨MK, _, false, _, rfl, HRE.out, rfl⟩, HBF.out⟩

                    · have h20i : ¬ (20 : Int) ≤ (xs.length : Int) := by omega
                      have HMG := hide (md_go HMA.out hltk HNS.out HQM.out (by have := HXK.out; omega))
                      have HFX := hide (show Fits x from segMd_fits (s := (n2, x)) HLF.out HQM.out)
                      obtain ⟨Y2, hY2⟩ : ∃ Y, Y = Y1.alloc (.cells #[.string n2, .slice p4 x.length c4] 41) := ⟨_, rfl⟩
                      have hy2 : Below Y1.heap.size Y1 Y2 := by rw [hY2]; exact (Below.refl _ _).alloc (Nat.le_refl _) _
                      have hy12 := hy1.trans (hy2.mono hy1.size)
                      have HZY := hide (HZ3.out.trans (hy12.mono HZ3.out.size))
                      have HROW := hide (show Row Y2 (Z1.heap.size + 1) 41 [.string n2, .slice p4 x.length c4] by rw [show Z1.heap.size + 1 = Y1.heap.size by rw [hY1]; simp, hY2]; exact row_new Y1 [.string n2, .slice p4 x.length c4] 41)
                      have HRMY := hide (HRM1.out.below hy12 HRM1.out.lt)
                      have m1 : ((Z1.alloc (.cells #[.string n2, .slice p4 x.length c4] 41)).alloc (.cells #[.string n2, .slice p4 x.length c4] 41)).cell? ⟨M, 1, none⟩ = some (.slice pl xs.length cl) := by have := HRMY.out.cell 1; rw [hY2, hY1] at this; exact this
                      have m2 : (Z1.alloc (.cells #[.string n2, .slice p4 x.length c4] 41)).cell? ⟨M, 1, none⟩ = some (.slice pl xs.length cl) := by have := (HRM1.out.below hy1 HRM1.out.lt).cell 1; rw [hY1] at this; exact this
                      have HOY := hide (own_below HOF.out HZY.out)
                      have HOR := hide (show ORF (Z.heap.size + 1) Z1.heap.size Y2 (.slice p4 x.length c4) x from ⟨Z1, Nat.le_refl _, HRF.out, SameIn.ofBelow hy12, hy12.size⟩)
                      have HSZ := hide (show Z1.heap.size ≤ Y2.heap.size from hy12.size)
                      have HVY := hide (show w2.heap.size ≤ Z.heap.size ∧ w2.heap.size ≤ Y2.heap.size by have h1 := HNZ.out.size; have h2 := HZY.out.size; omega)
                      have HNY := hide (HNZ.out.below HZY.out)
                      clear hy1 hy2 hy12
                      go_wp2_with (rw [← hY1, ← hY2]; at_builtin; refine wpList_append_own_at Y2 rfl (.tmp 81) (.tmp 83) 22 rfl w2.heap.size 41 i0 _ 2 40 Tryz.underlying22 hi hz0 hz1 hz2 HZC.out (by omega) _ xs.length vs rfl HOY.out ⟨Z1.heap.size + 1, 0, none⟩ 1 _ [.string n2, .slice p4 x.length c4] rfl rfl (row_cellsP HROW.out) (by simp [Value.oneCell']) (by unfold maxLen; omega) (by omega) (by exact HVY.out.2) ?_)
                      intro v' w3 hown hgrow0 hnil hat0
                      have hgrow : Y2.grownBy w3 (.slice pl xs.length cl : Value).ownBlock := by rw [hY2, hY1]; exact hgrow0
                      have hat : v'.ownBlock = (.slice pl xs.length cl : Value).ownBlock ∨ v'.ownBlock = some Y2.heap.size := by rw [hY2, hY1]; simpa using hat0
                      clear hgrow0 hat0
                      obtain ⟨p9, c9, hv9⟩ := own_slice1 hown
                      subst hv9
                      have HO3 := hide (show w3.ownsRow w2.heap.size 41 2 (.slice p9 (xs.length + 1) c9) (xs ++ [(n2, x)]).length (vs ++ [.string n2, .slice p4 x.length c4]) by rw [List.length_append]; exact hown)
                      have HG3 := hide (show GrowT w2.heap.size w3 (.slice p9 (xs.length + 1) c9) (vs ++ [.string n2, .slice p4 x.length c4]) (xs ++ [(n2, x)]) from
                        HGF.out.snoc HOF.out.1 HZY.out (by have := HVY.out.1; omega) HSZ.out (fun g hg => .inr (by have := (HOF.out.lt g hg).2; omega)) (by have h1 : n2.size ≤ 3 := segMd_name HQM.out; unfold maxLen; omega) HOR.out hgrow hat)
                      have HN9 := hide (HNY.out.grownB hgrow (fun k hk => (HOY.out.lt k hk).1))
                      have HRM3 := hide (row_grown HRMY.out hgrow (fun k hk => (HOY.out.lt k hk).1) HM9.out.2)
                      have c9a : w3.cell? ⟨M, 1, none⟩ = some (.slice pl xs.length cl) := HRM3.out.cell 1
                      have f9a := HRM3.out.free 1
                      have HS9 := hide (Same.set w3 (g := M) (j := 1) (.slice p9 (xs.length + 1) c9) HM9.out.2)
                      have HOF9 := hide (own_sameB HO3.out HS9.out)
                      have HGF9 := hide (HG3.out.same HS9.out)
                      have HRM9 := hide (HRM3.out.set (j := 1) (.slice p9 (xs.length + 1) c9))
                      have HNF := hide (HN9.out.set (j := 1) (.slice p9 (xs.length + 1) c9))
                      have HFT9 := hide (fitsM_snoc HFT.out (by omega) (s := (n2, x)) HFX.out)
                      have HXK9 := hide (show (xs ++ [(n2, x)]).length = k + 1 by rw [List.length_append, HXK.out]; rfl)
                      clear hown hgrow hnil hat m1 m2 hY1 hY2 h20 h20i
                      go_wp2
                      go_roundw
                      case rel => exact ⟨_, k + 1, _, _, _, rfl, by omega, by go_num, HRM9, HOF9, HGF9, HMG, HNF, HFT9, HXK9⟩
                      case measure => simp [intOf]; omega
              · have hkb : ((k : Int) == (K : Int)) = false := by simpa using (by omega : ¬ (k : Int) = (K : Int))
                have hkz : ¬ (k : Int) = (K : Int) := by omega
                have HNS := hide (show ¬ (k + 1 = L.length ∧ feedL k (L[k]'hltk) = []) from fun e => hkK (by have := HK.out; omega))
                have hLs : LN.size ≤ 8000 := HLZ.out
                go_wp2_with fail
                refine (l04ReadSeg_any MK LN _ HM5.out hLs).mono ?_
                rintro e Z1 ⟨hq2, hb3⟩
                obtain ⟨QM, hQM⟩ : ∃ QM, QM = segMd MK LN.data.toList := ⟨_, rfl⟩
                rw [← hQM] at hq2
                have HQM := hide (show segMd MK (feedL k (L[k]'hltk)) = QM by rw [← HLN.out]; exact hQM.symm)
                have HZ3 := hide hb3
                have HBZ1 := hide (HBZ.out.trans (hb3.mono HBZ.out.size))
                have HRM1 := hide (HRM.out.below hb3 HRM.out.lt)
                have HRES1 := hide (HRES.out.below hb3 HRES.out.lt)
                clear hb3 hQM hLs
                cases QM with
                | none =>
                  obtain ⟨n', rfl⟩ := hq2
                  have HMN := hide (md_none HMA.out hltk HNS.out HQM.out)
                  have HBY := hide (HBZ1.out.trans (((Below.refl Z1.heap.size Z1).alloc (Nat.le_refl _) (.cells #[.string n', .slice none 0 0] 41)).mono HBZ1.out.size))
                  have HRESy := hide (HRES1.out.alloc (.cells #[.string n', .slice none 0 0] 41))
                  have HRMy := hide (HRM1.out.alloc (.cells #[.string n', .slice none 0 0] 41))
                  have HOSy := hide (((RSegs.mono (HGF.out.rsegs HOF.out) (by have := HM9.out; omega : w.heap.size + 1 ≤ w2.heap.size)).below HZ3.out).below ((Below.refl Z1.heap.size Z1).alloc (Nat.le_refl _) (.cells #[.string n', .slice none 0 0] 41)))
                  obtain rfl : R = none := by rw [HRX.out]; rw [HRD.out, HMN.out]; rfl
                  have k0 : (Z1.alloc (.cells #[.string n', .slice none 0 0] 41)).cell? ⟨w.heap.size, 0, none⟩ = some (.string ⟨#[]⟩) := HRESy.out.cell 0
                  have k1 : (Z1.alloc (.cells #[.string n', .slice none 0 0] 41)).cell? ⟨w.heap.size, 1, none⟩ = some (.slice none 0 0) := HRESy.out.cell 1
                  have f0 := HRESy.out.free 0
                  have f1 := HRESy.out.free 1
                  have s0 : (Z1.alloc (.cells #[.string n', .slice none 0 0] 41)).cell? ⟨M, 0, none⟩ = some (.string MK) := HRMy.out.cell 0
                  have s1 : (Z1.alloc (.cells #[.string n', .slice none 0 0] 41)).cell? ⟨M, 1, none⟩ = some (.slice pl xs.length cl) := HRMy.out.cell 1
                  have t2 := (HRESy.out.set (j := 0) (.string MK)).set (j := 1) (.slice pl xs.length cl)
                  have q0 : (((Z1.alloc (.cells #[.string n', .slice none 0 0] 41)).setCell ⟨w.heap.size, 0, none⟩ (.string MK)).setCell ⟨w.heap.size, 1, none⟩ (.slice pl xs.length cl)).cell? ⟨w.heap.size, 0, none⟩ = some (.string MK) := t2.cell 0
                  have q1 : (((Z1.alloc (.cells #[.string n', .slice none 0 0] 41)).setCell ⟨w.heap.size, 0, none⟩ (.string MK)).setCell ⟨w.heap.size, 1, none⟩ (.slice pl xs.length cl)).cell? ⟨w.heap.size, 1, none⟩ = some (.slice pl xs.length cl) := t2.cell 1
                  have HBF := hide ((HBY.out.setCell (p := ⟨w.heap.size, 0, none⟩) (Nat.le_refl _) (.string MK)).setCell (p := ⟨w.heap.size, 1, none⟩) (Nat.le_refl _) (.slice pl xs.length cl))
                  have HRE := hide (show RSegs (w.heap.size + 1) (((Z1.alloc (.cells #[.string n', .slice none 0 0] 41)).setCell ⟨w.heap.size, 0, none⟩ (.string MK)).setCell ⟨w.heap.size, 1, none⟩ (.slice pl xs.length cl)) (.slice pl xs.length cl) _ from (RSegs.same (RSegs.same (HOSy.out) (Same.set _ _ (by omega))) (Same.set _ _ (by omega))))
                  clear t2
                  go_wp2
                  exact bodyPost_ret (v := .tuple #[.agg #[.string MK, .slice pl xs.length cl], .bool false]) (by simp [results, Tryz.results9, go_sem, q0, q1]) rfl ⟨⟨MK, _, false, _, rfl, HRE.out, rfl⟩, HBF.out⟩

                | some sf =>
                  obtain ⟨n2, x⟩ := sf
                  obtain ⟨p4, c4, rfl, hrf⟩ := hq2
                  have HRF := hide hrf
                  clear hrf
                  obtain ⟨Y1, hY1⟩ : ∃ Y, Y = Z1.alloc (.cells #[.string n2, .slice p4 x.length c4] 41) := ⟨_, rfl⟩
                  have hy1 : Below Z1.heap.size Z1 Y1 := by rw [hY1]; exact (Below.refl _ _).alloc (Nat.le_refl _) _
                  by_cases h20 : 20 ≤ xs.length
                  · have HMN := hide (md_full HMA.out hltk HNS.out HQM.out (by have := HXK.out; omega))
                    have h20i : (20 : Int) ≤ (xs.length : Int) := by omega
                    have HBY := hide (HBZ1.out.trans (hy1.mono HBZ1.out.size))
                    have HRESy := hide (HRES1.out.below hy1 HRES1.out.lt)
                    have HRMy := hide (HRM1.out.below hy1 HRM1.out.lt)
                    have HOSy := hide (((RSegs.mono (HGF.out.rsegs HOF.out) (by have := HM9.out; omega : w.heap.size + 1 ≤ w2.heap.size)).below HZ3.out).below hy1)
                    subst hY1
                    obtain rfl : R = none := by rw [HRX.out]; rw [HRD.out, HMN.out]; rfl
                    have k0 : (Z1.alloc (.cells #[.string n2, .slice p4 x.length c4] 41)).cell? ⟨w.heap.size, 0, none⟩ = some (.string ⟨#[]⟩) := HRESy.out.cell 0
                    have k1 : (Z1.alloc (.cells #[.string n2, .slice p4 x.length c4] 41)).cell? ⟨w.heap.size, 1, none⟩ = some (.slice none 0 0) := HRESy.out.cell 1
                    have f0 := HRESy.out.free 0
                    have f1 := HRESy.out.free 1
                    have s0 : (Z1.alloc (.cells #[.string n2, .slice p4 x.length c4] 41)).cell? ⟨M, 0, none⟩ = some (.string MK) := HRMy.out.cell 0
                    have s1 : (Z1.alloc (.cells #[.string n2, .slice p4 x.length c4] 41)).cell? ⟨M, 1, none⟩ = some (.slice pl xs.length cl) := HRMy.out.cell 1
                    have t2 := (HRESy.out.set (j := 0) (.string MK)).set (j := 1) (.slice pl xs.length cl)
                    have q0 : (((Z1.alloc (.cells #[.string n2, .slice p4 x.length c4] 41)).setCell ⟨w.heap.size, 0, none⟩ (.string MK)).setCell ⟨w.heap.size, 1, none⟩ (.slice pl xs.length cl)).cell? ⟨w.heap.size, 0, none⟩ = some (.string MK) := t2.cell 0
                    have q1 : (((Z1.alloc (.cells #[.string n2, .slice p4 x.length c4] 41)).setCell ⟨w.heap.size, 0, none⟩ (.string MK)).setCell ⟨w.heap.size, 1, none⟩ (.slice pl xs.length cl)).cell? ⟨w.heap.size, 1, none⟩ = some (.slice pl xs.length cl) := t2.cell 1
                    have HBF := hide ((HBY.out.setCell (p := ⟨w.heap.size, 0, none⟩) (Nat.le_refl _) (.string MK)).setCell (p := ⟨w.heap.size, 1, none⟩) (Nat.le_refl _) (.slice pl xs.length cl))
                    have HRE := hide (show RSegs (w.heap.size + 1) (((Z1.alloc (.cells #[.string n2, .slice p4 x.length c4] 41)).setCell ⟨w.heap.size, 0, none⟩ (.string MK)).setCell ⟨w.heap.size, 1, none⟩ (.slice pl xs.length cl)) (.slice pl xs.length cl) _ from (RSegs.same (RSegs.same (HOSy.out) (Same.set _ _ (by omega))) (Same.set _ _ (by omega))))
                    clear t2
                    go_wp2
                    exact bodyPost_ret (v := .tuple #[.agg #[.string MK, .slice pl xs.length cl], .bool false]) (by simp [results, Tryz.results9, go_sem, q0, q1]) rfl ⟨⟨MK, _, false, _, rfl, HRE.out, rfl⟩, HBF.out⟩

                  · have h20i : ¬ (20 : Int) ≤ (xs.length : Int) := by omega
                    have HMG := hide (md_go HMA.out hltk HNS.out HQM.out (by have := HXK.out; omega))
                    have HFX := hide (show Fits x from segMd_fits (s := (n2, x)) HLF.out HQM.out)
                    obtain ⟨Y2, hY2⟩ : ∃ Y, Y = Y1.alloc (.cells #[.string n2, .slice p4 x.length c4] 41) := ⟨_, rfl⟩
                    have hy2 : Below Y1.heap.size Y1 Y2 := by rw [hY2]; exact (Below.refl _ _).alloc (Nat.le_refl _) _
                    have hy12 := hy1.trans (hy2.mono hy1.size)
                    have HZY := hide (HZ3.out.trans (hy12.mono HZ3.out.size))
                    have HROW := hide (show Row Y2 (Z1.heap.size + 1) 41 [.string n2, .slice p4 x.length c4] by rw [show Z1.heap.size + 1 = Y1.heap.size by rw [hY1]; simp, hY2]; exact row_new Y1 [.string n2, .slice p4 x.length c4] 41)
                    have HRMY := hide (HRM1.out.below hy12 HRM1.out.lt)
                    have m1 : ((Z1.alloc (.cells #[.string n2, .slice p4 x.length c4] 41)).alloc (.cells #[.string n2, .slice p4 x.length c4] 41)).cell? ⟨M, 1, none⟩ = some (.slice pl xs.length cl) := by have := HRMY.out.cell 1; rw [hY2, hY1] at this; exact this
                    have m2 : (Z1.alloc (.cells #[.string n2, .slice p4 x.length c4] 41)).cell? ⟨M, 1, none⟩ = some (.slice pl xs.length cl) := by have := (HRM1.out.below hy1 HRM1.out.lt).cell 1; rw [hY1] at this; exact this
                    have HOY := hide (own_below HOF.out HZY.out)
                    have HOR := hide (show ORF (Z.heap.size + 1) Z1.heap.size Y2 (.slice p4 x.length c4) x from ⟨Z1, Nat.le_refl _, HRF.out, SameIn.ofBelow hy12, hy12.size⟩)
                    have HSZ := hide (show Z1.heap.size ≤ Y2.heap.size from hy12.size)
                    have HVY := hide (show w2.heap.size ≤ Z.heap.size ∧ w2.heap.size ≤ Y2.heap.size by have h1 := HNZ.out.size; have h2 := HZY.out.size; omega)
                    have HNY := hide (HNZ.out.below HZY.out)
                    clear hy1 hy2 hy12
                    go_wp2_with (rw [← hY1, ← hY2]; at_builtin; refine wpList_append_own_at Y2 rfl (.tmp 81) (.tmp 83) 22 rfl w2.heap.size 41 i0 _ 2 40 Tryz.underlying22 hi hz0 hz1 hz2 HZC.out (by omega) _ xs.length vs rfl HOY.out ⟨Z1.heap.size + 1, 0, none⟩ 1 _ [.string n2, .slice p4 x.length c4] rfl rfl (row_cellsP HROW.out) (by simp [Value.oneCell']) (by unfold maxLen; omega) (by omega) (by exact HVY.out.2) ?_)
                    intro v' w3 hown hgrow0 hnil hat0
                    have hgrow : Y2.grownBy w3 (.slice pl xs.length cl : Value).ownBlock := by rw [hY2, hY1]; exact hgrow0
                    have hat : v'.ownBlock = (.slice pl xs.length cl : Value).ownBlock ∨ v'.ownBlock = some Y2.heap.size := by rw [hY2, hY1]; simpa using hat0
                    clear hgrow0 hat0
                    obtain ⟨p9, c9, hv9⟩ := own_slice1 hown
                    subst hv9
                    have HO3 := hide (show w3.ownsRow w2.heap.size 41 2 (.slice p9 (xs.length + 1) c9) (xs ++ [(n2, x)]).length (vs ++ [.string n2, .slice p4 x.length c4]) by rw [List.length_append]; exact hown)
                    have HG3 := hide (show GrowT w2.heap.size w3 (.slice p9 (xs.length + 1) c9) (vs ++ [.string n2, .slice p4 x.length c4]) (xs ++ [(n2, x)]) from
                      HGF.out.snoc HOF.out.1 HZY.out (by have := HVY.out.1; omega) HSZ.out (fun g hg => .inr (by have := (HOF.out.lt g hg).2; omega)) (by have h1 : n2.size ≤ 3 := segMd_name HQM.out; unfold maxLen; omega) HOR.out hgrow hat)
                    have HN9 := hide (HNY.out.grownB hgrow (fun k hk => (HOY.out.lt k hk).1))
                    have HRM3 := hide (row_grown HRMY.out hgrow (fun k hk => (HOY.out.lt k hk).1) HM9.out.2)
                    have c9a : w3.cell? ⟨M, 1, none⟩ = some (.slice pl xs.length cl) := HRM3.out.cell 1
                    have f9a := HRM3.out.free 1
                    have HS9 := hide (Same.set w3 (g := M) (j := 1) (.slice p9 (xs.length + 1) c9) HM9.out.2)
                    have HOF9 := hide (own_sameB HO3.out HS9.out)
                    have HGF9 := hide (HG3.out.same HS9.out)
                    have HRM9 := hide (HRM3.out.set (j := 1) (.slice p9 (xs.length + 1) c9))
                    have HNF := hide (HN9.out.set (j := 1) (.slice p9 (xs.length + 1) c9))
                    have HFT9 := hide (fitsM_snoc HFT.out (by omega) (s := (n2, x)) HFX.out)
                    have HXK9 := hide (show (xs ++ [(n2, x)]).length = k + 1 by rw [List.length_append, HXK.out]; rfl)
                    clear hown hgrow hnil hat m1 m2 hY1 hY2 h20 h20i
                    go_wp2
                    go_roundw
                    case rel => exact ⟨_, k + 1, _, _, _, rfl, by omega, by go_num, HRM9, HOF9, HGF9, HMG, HNF, HFT9, HXK9⟩
                    case measure => simp [intOf]; omega
        · have hkp : ¬ (0 : Int) < (k : Int) := by omega
          have HFE := hide (show feedL k (L[k]'hltk) = L[k]'hltk by unfold feedL; rw [if_neg (fun e => hk0 e.1)])
          clear hal hk0
          obtain ⟨LN, hLN⟩ : ∃ LN, LN = AL := ⟨_, rfl⟩
          subst hLN
          have HLN := hide (show LN.data.toList = feedL k (L[k]'hltk) by rw [HFE.out, HAL.out])
          have HLZ := hide (show LN.size ≤ 8000 by
            have h1 : LN.data.toList.length = LN.size := by simp
            rw [← h1, HLN.out]
            exact HLF.out)
          go_upto_region 12 with fail
          clear ck hkp
          by_cases hkK : k = K
          · have hkb : ((k : Int) == (K : Int)) = true := by simp [hkK]
            have hkz : (k : Int) = (K : Int) := by omega
            by_cases hLE : LN = ⟨#[]⟩
            · have hle : (LN.toList == []) = true := by rw [hLE]; simp
              have HMD := hide (md_stop HMA.out hltk (by have := HK.out; omega) (by rw [← HLN.out, hLE]))
              clear hLE
              have HRE := hide (show R = (if msgB MK xs then some (MK, xs) else none) by rw [HRX.out, HRD.out, HMD.out]; rfl)
              have HOS := hide (show RSegs (w.heap.size + 1) Z (.slice pl xs.length cl) xs from RSegs.mono (HGF.out.rsegs HOF.out) (by have := HM9.out; omega))
              clear HMD
              go_wp2_with fail
              refine wp_region_held (S := (fun y : World => y.cell? ⟨M, 0, none⟩ = some (.string MK) ∧ y.cell? ⟨M, 1, none⟩ = some (.slice pl xs.length cl))) (by kernel_rfl) ?_
              have HD := hide (show Below Z.heap.size Z { Z with drawn := Z.drawn + 1 } from (Below.refl _ _).drew)
              generalize ({ Z with drawn := Z.drawn + 1 } : World) = D0 at HD ⊢
              have HSY := hide (show ∀ y, Below Z.heap.size Z y → (fun y : World => y.cell? ⟨M, 0, none⟩ = some (.string MK) ∧ y.cell? ⟨M, 1, none⟩ = some (.slice pl xs.length cl)) y from fun y h => ⟨(HRM.out.below h HRM.out.lt).cell 0, (HRM.out.below h HRM.out.lt).cell 1⟩)
              have HRL := hide (show ∀ y, Below Z.heap.size Z y → RSegs (w.heap.size + 1) y (.slice pl xs.length cl) xs from fun y h => HOS.out.below h)
              obtain ⟨FP, hFP⟩ : ∃ FP : World → Prop, FP = (fun V => Row V w.heap.size 24 [.string MK, .slice pl xs.length cl] ∧ Below w.heap.size w V ∧ RSegs (w.heap.size + 1) V (.slice pl xs.length cl) xs ∧ Row V M 24 [.string MK, .slice pl xs.length cl]) := ⟨_, rfl⟩
              have HF1 : Hid (∀ Y, Below Z.heap.size Z Y → FP ((Y.setCell ⟨w.heap.size, 0, none⟩ (.string MK)).setCell ⟨w.heap.size, 1, none⟩ (.slice pl xs.length cl))) := hide (by
                rw [hFP]
                intro Y h
                have hM := HM9.out
                exact ⟨((HRES.out.below h HRES.out.lt).set (j := 0) _).set (j := 1) _, ((HBZ.out.trans (h.mono HBZ.out.size)).setCell (p := ⟨w.heap.size, 0, none⟩) (Nat.le_refl _) _).setCell (p := ⟨w.heap.size, 1, none⟩) (Nat.le_refl _) _, RSegs.same (RSegs.same (HRL.out Y h) (Same.set _ _ (by omega))) (Same.set _ _ (by omega)), ((HRM.out.below h HRM.out.lt).other (b := w.heap.size) (j := 0) (by omega) _).other (b := w.heap.size) (j := 1) (by omega) _⟩)
              have HFS : Hid (∀ V, FP V → (fun y : World => y.cell? ⟨M, 0, none⟩ = some (.string MK) ∧ y.cell? ⟨M, 1, none⟩ = some (.slice pl xs.length cl)) V) := hide (by rw [hFP]; exact fun V h => ⟨h.2.2.2.cell 0, h.2.2.2.cell 1⟩)
              have HF0 : Hid (∀ V, FP V → Row V w.heap.size 24 [.string MK, .slice pl xs.length cl] ∧ Below w.heap.size w V ∧ RSegs (w.heap.size + 1) V (.slice pl xs.length cl) xs) := hide (by rw [hFP]; exact fun V h => ⟨h.1, h.2.1, h.2.2.1⟩)
              clear hFP
              have HS := hide (HSY.out _ HD.out)
              refine wpAnyH_take (i := 0) (oi := _) (v := .agg #[.string MK, .slice pl xs.length cl]) rfl (by kernel_rfl) (by kernel_rfl) (by kernel_rfl) (fun _ _ _ h => h) (Or.inl ⟨by rfl, by intro w hSw; go_split_ands; go_simp⟩) HS.out ?_
              simp only [Act.put, List.getElem_toArray, List.getElem_cons_zero, List.setIfInBounds_toArray, List.set_cons_zero, List.set_cons_succ]
              refine wpAnyH_take (i := 1) (oi := _) (v := .agg #[.string MK, .slice pl xs.length cl]) rfl (by kernel_rfl) (by kernel_rfl) (by kernel_rfl) (fun _ _ _ h => h) (Or.inl ⟨by rfl, by intro w hSw; go_split_ands; go_simp⟩) HS.out ?_
              simp only [Act.put, List.getElem_toArray, List.getElem_cons_zero, List.getElem_cons_succ, List.setIfInBounds_toArray, List.set_cons_zero, List.set_cons_succ]
              refine wpAnyH_ready (rs := [2]) (by kernel_rfl) (by simp) ?_
              refine AllReadyH.cons (o := _) rfl (fun K hK => ?_) AllReadyH.nil
              go_simp
              refine (specMessage_any MK _ xs _ _ (by have := HM5.out; unfold maxLen; omega) HFT.out (HRL.out _ HD.out)).mono ?_
              rintro e Z9 ⟨rfl, hb9⟩
              have HD1 := hide (HD.out.trans (hb9.mono HD.out.size))
              clear hb9
              refine hK.out _ _ (HSY.out _ HD1.out) (fun _ => ?_)
              clear hK K HS
              have HS := hide (HSY.out _ HD1.out)
              obtain ⟨BB, hBB⟩ : ∃ BB : Bool, BB = msgB MK xs := ⟨_, rfl⟩
              rw [← hBB] at HRE ⊢
              clear hBB
              try simp only [Act.put, List.getElem_toArray, List.getElem_cons_zero, List.getElem_cons_succ, List.setIfInBounds_toArray, List.set_cons_zero, List.set_cons_succ]
              refine wpAnyH_ready (rs := [3]) (by kernel_rfl) (by simp) ?_
              refine AllReadyH.cons (o := _) rfl (fun K hK => ?_) AllReadyH.nil
              have c5 : Z9.cell? ⟨w.heap.size, 0, none⟩ = some (.string ⟨#[]⟩) := (HRES.out.below HD1.out HRES.out.lt).cell 0
              have f5 := (HRES.out.below HD1.out HRES.out.lt).free 0
              have c6 : Z9.cell? ⟨w.heap.size, 1, none⟩ = some (.slice none 0 0) := (HRES.out.below HD1.out HRES.out.lt).cell 1
              have f6 := (HRES.out.below HD1.out HRES.out.lt).free 1
              go_simp
              have HFP := hide (HF1.out _ HD1.out)
              obtain ⟨V9, hV9⟩ : ∃ V, V = (Z9.setCell ⟨w.heap.size, 0, none⟩ (.string MK)).setCell ⟨w.heap.size, 1, none⟩ (.slice pl xs.length cl) := ⟨_, rfl⟩
              rw [← hV9] at HFP
              try rw [← hV9]
              clear hV9
              refine hK.out _ _ (HFS.out _ HFP.out) (fun _ => ?_)
              clear hK K HS c5 f5 c6 f6
              have HS := hide (HFS.out _ HFP.out)
              try simp only [Act.put, List.getElem_toArray, List.getElem_cons_zero, List.getElem_cons_succ, List.setIfInBounds_toArray, List.set_cons_zero, List.set_cons_succ]
              refine wpAnyH_take (i := 4) (oi := _) (v := .bool BB) rfl (by kernel_rfl) (by kernel_rfl) (by kernel_rfl) (fun _ _ _ h => h) (Or.inl ⟨by rfl, by intro w hSw; go_split_ands; go_simp⟩) HS.out ?_
              simp only [Act.put, List.getElem_toArray, List.getElem_cons_zero, List.getElem_cons_succ, List.setIfInBounds_toArray, List.set_cons_zero, List.set_cons_succ]
              refine wpAnyH_done (by kernel_rfl) ?_ _
              obtain ⟨e1, e2, e3⟩ := HF0.out _ HFP.out
              have HE2 := hide e2
              have HE3 := hide e3
              have v0 : V9.cell? ⟨w.heap.size, 0, none⟩ = some (.string MK) := e1.cell 0
              have v1 : V9.cell? ⟨w.heap.size, 1, none⟩ = some (.slice pl xs.length cl) := e1.cell 1
              clear e1 e2 e3
              go_wp2
              exact bodyPost_ret (v := .tuple #[.agg #[.string MK, .slice pl xs.length cl], .bool BB]) (by simp [results, Tryz.results9, go_sem, v0, v1]) rfl ⟨⟨MK, _, BB, xs, rfl, HE3.out, HRE.out⟩, HE2.out⟩
            · have hle : (LN.toList == []) = false := by simpa using toList_neF hLE
              have HNS := hide (show ¬ (k + 1 = L.length ∧ feedL k (L[k]'hltk) = []) from fun e => hLE (by
                apply ByteArray.ext
                apply Array.ext'
                rw [HLN.out, e.2]))
              clear hLE
              have hLs : LN.size ≤ 8000 := HLZ.out
              go_wp2_with fail
              refine (l04ReadSeg_any MK LN _ HM5.out hLs).mono ?_
              rintro e Z1 ⟨hq2, hb3⟩
              obtain ⟨QM, hQM⟩ : ∃ QM, QM = segMd MK LN.data.toList := ⟨_, rfl⟩
              rw [← hQM] at hq2
              have HQM := hide (show segMd MK (feedL k (L[k]'hltk)) = QM by rw [← HLN.out]; exact hQM.symm)
              have HZ3 := hide hb3
              have HBZ1 := hide (HBZ.out.trans (hb3.mono HBZ.out.size))
              have HRM1 := hide (HRM.out.below hb3 HRM.out.lt)
              have HRES1 := hide (HRES.out.below hb3 HRES.out.lt)
              clear hb3 hQM hLs
              cases QM with
              | none =>
                obtain ⟨n', rfl⟩ := hq2
                have HMN := hide (md_none HMA.out hltk HNS.out HQM.out)
                have HBY := hide (HBZ1.out.trans (((Below.refl Z1.heap.size Z1).alloc (Nat.le_refl _) (.cells #[.string n', .slice none 0 0] 41)).mono HBZ1.out.size))
                have HRESy := hide (HRES1.out.alloc (.cells #[.string n', .slice none 0 0] 41))
                have HRMy := hide (HRM1.out.alloc (.cells #[.string n', .slice none 0 0] 41))
                have HOSy := hide (((RSegs.mono (HGF.out.rsegs HOF.out) (by have := HM9.out; omega : w.heap.size + 1 ≤ w2.heap.size)).below HZ3.out).below ((Below.refl Z1.heap.size Z1).alloc (Nat.le_refl _) (.cells #[.string n', .slice none 0 0] 41)))
                obtain rfl : R = none := by rw [HRX.out]; rw [HRD.out, HMN.out]; rfl
                have k0 : (Z1.alloc (.cells #[.string n', .slice none 0 0] 41)).cell? ⟨w.heap.size, 0, none⟩ = some (.string ⟨#[]⟩) := HRESy.out.cell 0
                have k1 : (Z1.alloc (.cells #[.string n', .slice none 0 0] 41)).cell? ⟨w.heap.size, 1, none⟩ = some (.slice none 0 0) := HRESy.out.cell 1
                have f0 := HRESy.out.free 0
                have f1 := HRESy.out.free 1
                have s0 : (Z1.alloc (.cells #[.string n', .slice none 0 0] 41)).cell? ⟨M, 0, none⟩ = some (.string MK) := HRMy.out.cell 0
                have s1 : (Z1.alloc (.cells #[.string n', .slice none 0 0] 41)).cell? ⟨M, 1, none⟩ = some (.slice pl xs.length cl) := HRMy.out.cell 1
                have t2 := (HRESy.out.set (j := 0) (.string MK)).set (j := 1) (.slice pl xs.length cl)
                have q0 : (((Z1.alloc (.cells #[.string n', .slice none 0 0] 41)).setCell ⟨w.heap.size, 0, none⟩ (.string MK)).setCell ⟨w.heap.size, 1, none⟩ (.slice pl xs.length cl)).cell? ⟨w.heap.size, 0, none⟩ = some (.string MK) := t2.cell 0
                have q1 : (((Z1.alloc (.cells #[.string n', .slice none 0 0] 41)).setCell ⟨w.heap.size, 0, none⟩ (.string MK)).setCell ⟨w.heap.size, 1, none⟩ (.slice pl xs.length cl)).cell? ⟨w.heap.size, 1, none⟩ = some (.slice pl xs.length cl) := t2.cell 1
                have HBF := hide ((HBY.out.setCell (p := ⟨w.heap.size, 0, none⟩) (Nat.le_refl _) (.string MK)).setCell (p := ⟨w.heap.size, 1, none⟩) (Nat.le_refl _) (.slice pl xs.length cl))
                have HRE := hide (show RSegs (w.heap.size + 1) (((Z1.alloc (.cells #[.string n', .slice none 0 0] 41)).setCell ⟨w.heap.size, 0, none⟩ (.string MK)).setCell ⟨w.heap.size, 1, none⟩ (.slice pl xs.length cl)) (.slice pl xs.length cl) _ from (RSegs.same (RSegs.same (HOSy.out) (Same.set _ _ (by omega))) (Same.set _ _ (by omega))))
                clear t2
                go_wp2
                exact bodyPost_ret (v := .tuple #[.agg #[.string MK, .slice pl xs.length cl], .bool false]) (by simp [results, Tryz.results9, go_sem, q0, q1]) rfl ⟨⟨MK, _, false, _, rfl, HRE.out, rfl⟩, HBF.out⟩

              | some sf =>
                obtain ⟨n2, x⟩ := sf
                obtain ⟨p4, c4, rfl, hrf⟩ := hq2
                have HRF := hide hrf
                clear hrf
                obtain ⟨Y1, hY1⟩ : ∃ Y, Y = Z1.alloc (.cells #[.string n2, .slice p4 x.length c4] 41) := ⟨_, rfl⟩
                have hy1 : Below Z1.heap.size Z1 Y1 := by rw [hY1]; exact (Below.refl _ _).alloc (Nat.le_refl _) _
                by_cases h20 : 20 ≤ xs.length
                · have HMN := hide (md_full HMA.out hltk HNS.out HQM.out (by have := HXK.out; omega))
                  have h20i : (20 : Int) ≤ (xs.length : Int) := by omega
                  have HBY := hide (HBZ1.out.trans (hy1.mono HBZ1.out.size))
                  have HRESy := hide (HRES1.out.below hy1 HRES1.out.lt)
                  have HRMy := hide (HRM1.out.below hy1 HRM1.out.lt)
                  have HOSy := hide (((RSegs.mono (HGF.out.rsegs HOF.out) (by have := HM9.out; omega : w.heap.size + 1 ≤ w2.heap.size)).below HZ3.out).below hy1)
                  subst hY1
                  obtain rfl : R = none := by rw [HRX.out]; rw [HRD.out, HMN.out]; rfl
                  have k0 : (Z1.alloc (.cells #[.string n2, .slice p4 x.length c4] 41)).cell? ⟨w.heap.size, 0, none⟩ = some (.string ⟨#[]⟩) := HRESy.out.cell 0
                  have k1 : (Z1.alloc (.cells #[.string n2, .slice p4 x.length c4] 41)).cell? ⟨w.heap.size, 1, none⟩ = some (.slice none 0 0) := HRESy.out.cell 1
                  have f0 := HRESy.out.free 0
                  have f1 := HRESy.out.free 1
                  have s0 : (Z1.alloc (.cells #[.string n2, .slice p4 x.length c4] 41)).cell? ⟨M, 0, none⟩ = some (.string MK) := HRMy.out.cell 0
                  have s1 : (Z1.alloc (.cells #[.string n2, .slice p4 x.length c4] 41)).cell? ⟨M, 1, none⟩ = some (.slice pl xs.length cl) := HRMy.out.cell 1
                  have t2 := (HRESy.out.set (j := 0) (.string MK)).set (j := 1) (.slice pl xs.length cl)
                  have q0 : (((Z1.alloc (.cells #[.string n2, .slice p4 x.length c4] 41)).setCell ⟨w.heap.size, 0, none⟩ (.string MK)).setCell ⟨w.heap.size, 1, none⟩ (.slice pl xs.length cl)).cell? ⟨w.heap.size, 0, none⟩ = some (.string MK) := t2.cell 0
                  have q1 : (((Z1.alloc (.cells #[.string n2, .slice p4 x.length c4] 41)).setCell ⟨w.heap.size, 0, none⟩ (.string MK)).setCell ⟨w.heap.size, 1, none⟩ (.slice pl xs.length cl)).cell? ⟨w.heap.size, 1, none⟩ = some (.slice pl xs.length cl) := t2.cell 1
                  have HBF := hide ((HBY.out.setCell (p := ⟨w.heap.size, 0, none⟩) (Nat.le_refl _) (.string MK)).setCell (p := ⟨w.heap.size, 1, none⟩) (Nat.le_refl _) (.slice pl xs.length cl))
                  have HRE := hide (show RSegs (w.heap.size + 1) (((Z1.alloc (.cells #[.string n2, .slice p4 x.length c4] 41)).setCell ⟨w.heap.size, 0, none⟩ (.string MK)).setCell ⟨w.heap.size, 1, none⟩ (.slice pl xs.length cl)) (.slice pl xs.length cl) _ from (RSegs.same (RSegs.same (HOSy.out) (Same.set _ _ (by omega))) (Same.set _ _ (by omega))))
                  clear t2
                  go_wp2
                  exact bodyPost_ret (v := .tuple #[.agg #[.string MK, .slice pl xs.length cl], .bool false]) (by simp [results, Tryz.results9, go_sem, q0, q1]) rfl ⟨⟨MK, _, false, _, rfl, HRE.out, rfl⟩, HBF.out⟩

                · have h20i : ¬ (20 : Int) ≤ (xs.length : Int) := by omega
                  have HMG := hide (md_go HMA.out hltk HNS.out HQM.out (by have := HXK.out; omega))
                  have HFX := hide (show Fits x from segMd_fits (s := (n2, x)) HLF.out HQM.out)
                  obtain ⟨Y2, hY2⟩ : ∃ Y, Y = Y1.alloc (.cells #[.string n2, .slice p4 x.length c4] 41) := ⟨_, rfl⟩
                  have hy2 : Below Y1.heap.size Y1 Y2 := by rw [hY2]; exact (Below.refl _ _).alloc (Nat.le_refl _) _
                  have hy12 := hy1.trans (hy2.mono hy1.size)
                  have HZY := hide (HZ3.out.trans (hy12.mono HZ3.out.size))
                  have HROW := hide (show Row Y2 (Z1.heap.size + 1) 41 [.string n2, .slice p4 x.length c4] by rw [show Z1.heap.size + 1 = Y1.heap.size by rw [hY1]; simp, hY2]; exact row_new Y1 [.string n2, .slice p4 x.length c4] 41)
                  have HRMY := hide (HRM1.out.below hy12 HRM1.out.lt)
                  have m1 : ((Z1.alloc (.cells #[.string n2, .slice p4 x.length c4] 41)).alloc (.cells #[.string n2, .slice p4 x.length c4] 41)).cell? ⟨M, 1, none⟩ = some (.slice pl xs.length cl) := by have := HRMY.out.cell 1; rw [hY2, hY1] at this; exact this
                  have m2 : (Z1.alloc (.cells #[.string n2, .slice p4 x.length c4] 41)).cell? ⟨M, 1, none⟩ = some (.slice pl xs.length cl) := by have := (HRM1.out.below hy1 HRM1.out.lt).cell 1; rw [hY1] at this; exact this
                  have HOY := hide (own_below HOF.out HZY.out)
                  have HOR := hide (show ORF (Z.heap.size + 1) Z1.heap.size Y2 (.slice p4 x.length c4) x from ⟨Z1, Nat.le_refl _, HRF.out, SameIn.ofBelow hy12, hy12.size⟩)
                  have HSZ := hide (show Z1.heap.size ≤ Y2.heap.size from hy12.size)
                  have HVY := hide (show w2.heap.size ≤ Z.heap.size ∧ w2.heap.size ≤ Y2.heap.size by have h1 := HNZ.out.size; have h2 := HZY.out.size; omega)
                  have HNY := hide (HNZ.out.below HZY.out)
                  clear hy1 hy2 hy12
                  go_wp2_with (rw [← hY1, ← hY2]; at_builtin; refine wpList_append_own_at Y2 rfl (.tmp 81) (.tmp 83) 22 rfl w2.heap.size 41 i0 _ 2 40 Tryz.underlying22 hi hz0 hz1 hz2 HZC.out (by omega) _ xs.length vs rfl HOY.out ⟨Z1.heap.size + 1, 0, none⟩ 1 _ [.string n2, .slice p4 x.length c4] rfl rfl (row_cellsP HROW.out) (by simp [Value.oneCell']) (by unfold maxLen; omega) (by omega) (by exact HVY.out.2) ?_)
                  intro v' w3 hown hgrow0 hnil hat0
                  have hgrow : Y2.grownBy w3 (.slice pl xs.length cl : Value).ownBlock := by rw [hY2, hY1]; exact hgrow0
                  have hat : v'.ownBlock = (.slice pl xs.length cl : Value).ownBlock ∨ v'.ownBlock = some Y2.heap.size := by rw [hY2, hY1]; simpa using hat0
                  clear hgrow0 hat0
                  obtain ⟨p9, c9, hv9⟩ := own_slice1 hown
                  subst hv9
                  have HO3 := hide (show w3.ownsRow w2.heap.size 41 2 (.slice p9 (xs.length + 1) c9) (xs ++ [(n2, x)]).length (vs ++ [.string n2, .slice p4 x.length c4]) by rw [List.length_append]; exact hown)
                  have HG3 := hide (show GrowT w2.heap.size w3 (.slice p9 (xs.length + 1) c9) (vs ++ [.string n2, .slice p4 x.length c4]) (xs ++ [(n2, x)]) from
                    HGF.out.snoc HOF.out.1 HZY.out (by have := HVY.out.1; omega) HSZ.out (fun g hg => .inr (by have := (HOF.out.lt g hg).2; omega)) (by have h1 : n2.size ≤ 3 := segMd_name HQM.out; unfold maxLen; omega) HOR.out hgrow hat)
                  have HN9 := hide (HNY.out.grownB hgrow (fun k hk => (HOY.out.lt k hk).1))
                  have HRM3 := hide (row_grown HRMY.out hgrow (fun k hk => (HOY.out.lt k hk).1) HM9.out.2)
                  have c9a : w3.cell? ⟨M, 1, none⟩ = some (.slice pl xs.length cl) := HRM3.out.cell 1
                  have f9a := HRM3.out.free 1
                  have HS9 := hide (Same.set w3 (g := M) (j := 1) (.slice p9 (xs.length + 1) c9) HM9.out.2)
                  have HOF9 := hide (own_sameB HO3.out HS9.out)
                  have HGF9 := hide (HG3.out.same HS9.out)
                  have HRM9 := hide (HRM3.out.set (j := 1) (.slice p9 (xs.length + 1) c9))
                  have HNF := hide (HN9.out.set (j := 1) (.slice p9 (xs.length + 1) c9))
                  have HFT9 := hide (fitsM_snoc HFT.out (by omega) (s := (n2, x)) HFX.out)
                  have HXK9 := hide (show (xs ++ [(n2, x)]).length = k + 1 by rw [List.length_append, HXK.out]; rfl)
                  clear hown hgrow hnil hat m1 m2 hY1 hY2 h20 h20i
                  go_wp2
                  go_roundw
                  case rel => exact ⟨_, k + 1, _, _, _, rfl, by omega, by go_num, HRM9, HOF9, HGF9, HMG, HNF, HFT9, HXK9⟩
                  case measure => simp [intOf]; omega
          · have hkb : ((k : Int) == (K : Int)) = false := by simpa using (by omega : ¬ (k : Int) = (K : Int))
            have hkz : ¬ (k : Int) = (K : Int) := by omega
            have HNS := hide (show ¬ (k + 1 = L.length ∧ feedL k (L[k]'hltk) = []) from fun e => hkK (by have := HK.out; omega))
            have hLs : LN.size ≤ 8000 := HLZ.out
            go_wp2_with fail
            refine (l04ReadSeg_any MK LN _ HM5.out hLs).mono ?_
            rintro e Z1 ⟨hq2, hb3⟩
            obtain ⟨QM, hQM⟩ : ∃ QM, QM = segMd MK LN.data.toList := ⟨_, rfl⟩
            rw [← hQM] at hq2
            have HQM := hide (show segMd MK (feedL k (L[k]'hltk)) = QM by rw [← HLN.out]; exact hQM.symm)
            have HZ3 := hide hb3
            have HBZ1 := hide (HBZ.out.trans (hb3.mono HBZ.out.size))
            have HRM1 := hide (HRM.out.below hb3 HRM.out.lt)
            have HRES1 := hide (HRES.out.below hb3 HRES.out.lt)
            clear hb3 hQM hLs
            cases QM with
            | none =>
              obtain ⟨n', rfl⟩ := hq2
              have HMN := hide (md_none HMA.out hltk HNS.out HQM.out)
              have HBY := hide (HBZ1.out.trans (((Below.refl Z1.heap.size Z1).alloc (Nat.le_refl _) (.cells #[.string n', .slice none 0 0] 41)).mono HBZ1.out.size))
              have HRESy := hide (HRES1.out.alloc (.cells #[.string n', .slice none 0 0] 41))
              have HRMy := hide (HRM1.out.alloc (.cells #[.string n', .slice none 0 0] 41))
              have HOSy := hide (((RSegs.mono (HGF.out.rsegs HOF.out) (by have := HM9.out; omega : w.heap.size + 1 ≤ w2.heap.size)).below HZ3.out).below ((Below.refl Z1.heap.size Z1).alloc (Nat.le_refl _) (.cells #[.string n', .slice none 0 0] 41)))
              obtain rfl : R = none := by rw [HRX.out]; rw [HRD.out, HMN.out]; rfl
              have k0 : (Z1.alloc (.cells #[.string n', .slice none 0 0] 41)).cell? ⟨w.heap.size, 0, none⟩ = some (.string ⟨#[]⟩) := HRESy.out.cell 0
              have k1 : (Z1.alloc (.cells #[.string n', .slice none 0 0] 41)).cell? ⟨w.heap.size, 1, none⟩ = some (.slice none 0 0) := HRESy.out.cell 1
              have f0 := HRESy.out.free 0
              have f1 := HRESy.out.free 1
              have s0 : (Z1.alloc (.cells #[.string n', .slice none 0 0] 41)).cell? ⟨M, 0, none⟩ = some (.string MK) := HRMy.out.cell 0
              have s1 : (Z1.alloc (.cells #[.string n', .slice none 0 0] 41)).cell? ⟨M, 1, none⟩ = some (.slice pl xs.length cl) := HRMy.out.cell 1
              have t2 := (HRESy.out.set (j := 0) (.string MK)).set (j := 1) (.slice pl xs.length cl)
              have q0 : (((Z1.alloc (.cells #[.string n', .slice none 0 0] 41)).setCell ⟨w.heap.size, 0, none⟩ (.string MK)).setCell ⟨w.heap.size, 1, none⟩ (.slice pl xs.length cl)).cell? ⟨w.heap.size, 0, none⟩ = some (.string MK) := t2.cell 0
              have q1 : (((Z1.alloc (.cells #[.string n', .slice none 0 0] 41)).setCell ⟨w.heap.size, 0, none⟩ (.string MK)).setCell ⟨w.heap.size, 1, none⟩ (.slice pl xs.length cl)).cell? ⟨w.heap.size, 1, none⟩ = some (.slice pl xs.length cl) := t2.cell 1
              have HBF := hide ((HBY.out.setCell (p := ⟨w.heap.size, 0, none⟩) (Nat.le_refl _) (.string MK)).setCell (p := ⟨w.heap.size, 1, none⟩) (Nat.le_refl _) (.slice pl xs.length cl))
              have HRE := hide (show RSegs (w.heap.size + 1) (((Z1.alloc (.cells #[.string n', .slice none 0 0] 41)).setCell ⟨w.heap.size, 0, none⟩ (.string MK)).setCell ⟨w.heap.size, 1, none⟩ (.slice pl xs.length cl)) (.slice pl xs.length cl) _ from (RSegs.same (RSegs.same (HOSy.out) (Same.set _ _ (by omega))) (Same.set _ _ (by omega))))
              clear t2
              go_wp2
              exact bodyPost_ret (v := .tuple #[.agg #[.string MK, .slice pl xs.length cl], .bool false]) (by simp [results, Tryz.results9, go_sem, q0, q1]) rfl ⟨⟨MK, _, false, _, rfl, HRE.out, rfl⟩, HBF.out⟩

            | some sf =>
              obtain ⟨n2, x⟩ := sf
              obtain ⟨p4, c4, rfl, hrf⟩ := hq2
              have HRF := hide hrf
              clear hrf
              obtain ⟨Y1, hY1⟩ : ∃ Y, Y = Z1.alloc (.cells #[.string n2, .slice p4 x.length c4] 41) := ⟨_, rfl⟩
              have hy1 : Below Z1.heap.size Z1 Y1 := by rw [hY1]; exact (Below.refl _ _).alloc (Nat.le_refl _) _
              by_cases h20 : 20 ≤ xs.length
              · have HMN := hide (md_full HMA.out hltk HNS.out HQM.out (by have := HXK.out; omega))
                have h20i : (20 : Int) ≤ (xs.length : Int) := by omega
                have HBY := hide (HBZ1.out.trans (hy1.mono HBZ1.out.size))
                have HRESy := hide (HRES1.out.below hy1 HRES1.out.lt)
                have HRMy := hide (HRM1.out.below hy1 HRM1.out.lt)
                have HOSy := hide (((RSegs.mono (HGF.out.rsegs HOF.out) (by have := HM9.out; omega : w.heap.size + 1 ≤ w2.heap.size)).below HZ3.out).below hy1)
                subst hY1
                obtain rfl : R = none := by rw [HRX.out]; rw [HRD.out, HMN.out]; rfl
                have k0 : (Z1.alloc (.cells #[.string n2, .slice p4 x.length c4] 41)).cell? ⟨w.heap.size, 0, none⟩ = some (.string ⟨#[]⟩) := HRESy.out.cell 0
                have k1 : (Z1.alloc (.cells #[.string n2, .slice p4 x.length c4] 41)).cell? ⟨w.heap.size, 1, none⟩ = some (.slice none 0 0) := HRESy.out.cell 1
                have f0 := HRESy.out.free 0
                have f1 := HRESy.out.free 1
                have s0 : (Z1.alloc (.cells #[.string n2, .slice p4 x.length c4] 41)).cell? ⟨M, 0, none⟩ = some (.string MK) := HRMy.out.cell 0
                have s1 : (Z1.alloc (.cells #[.string n2, .slice p4 x.length c4] 41)).cell? ⟨M, 1, none⟩ = some (.slice pl xs.length cl) := HRMy.out.cell 1
                have t2 := (HRESy.out.set (j := 0) (.string MK)).set (j := 1) (.slice pl xs.length cl)
                have q0 : (((Z1.alloc (.cells #[.string n2, .slice p4 x.length c4] 41)).setCell ⟨w.heap.size, 0, none⟩ (.string MK)).setCell ⟨w.heap.size, 1, none⟩ (.slice pl xs.length cl)).cell? ⟨w.heap.size, 0, none⟩ = some (.string MK) := t2.cell 0
                have q1 : (((Z1.alloc (.cells #[.string n2, .slice p4 x.length c4] 41)).setCell ⟨w.heap.size, 0, none⟩ (.string MK)).setCell ⟨w.heap.size, 1, none⟩ (.slice pl xs.length cl)).cell? ⟨w.heap.size, 1, none⟩ = some (.slice pl xs.length cl) := t2.cell 1
                have HBF := hide ((HBY.out.setCell (p := ⟨w.heap.size, 0, none⟩) (Nat.le_refl _) (.string MK)).setCell (p := ⟨w.heap.size, 1, none⟩) (Nat.le_refl _) (.slice pl xs.length cl))
                have HRE := hide (show RSegs (w.heap.size + 1) (((Z1.alloc (.cells #[.string n2, .slice p4 x.length c4] 41)).setCell ⟨w.heap.size, 0, none⟩ (.string MK)).setCell ⟨w.heap.size, 1, none⟩ (.slice pl xs.length cl)) (.slice pl xs.length cl) _ from (RSegs.same (RSegs.same (HOSy.out) (Same.set _ _ (by omega))) (Same.set _ _ (by omega))))
                clear t2
                go_wp2
                exact bodyPost_ret (v := .tuple #[.agg #[.string MK, .slice pl xs.length cl], .bool false]) (by simp [results, Tryz.results9, go_sem, q0, q1]) rfl ⟨⟨MK, _, false, _, rfl, HRE.out, rfl⟩, HBF.out⟩

              · have h20i : ¬ (20 : Int) ≤ (xs.length : Int) := by omega
                have HMG := hide (md_go HMA.out hltk HNS.out HQM.out (by have := HXK.out; omega))
                have HFX := hide (show Fits x from segMd_fits (s := (n2, x)) HLF.out HQM.out)
                obtain ⟨Y2, hY2⟩ : ∃ Y, Y = Y1.alloc (.cells #[.string n2, .slice p4 x.length c4] 41) := ⟨_, rfl⟩
                have hy2 : Below Y1.heap.size Y1 Y2 := by rw [hY2]; exact (Below.refl _ _).alloc (Nat.le_refl _) _
                have hy12 := hy1.trans (hy2.mono hy1.size)
                have HZY := hide (HZ3.out.trans (hy12.mono HZ3.out.size))
                have HROW := hide (show Row Y2 (Z1.heap.size + 1) 41 [.string n2, .slice p4 x.length c4] by rw [show Z1.heap.size + 1 = Y1.heap.size by rw [hY1]; simp, hY2]; exact row_new Y1 [.string n2, .slice p4 x.length c4] 41)
                have HRMY := hide (HRM1.out.below hy12 HRM1.out.lt)
                have m1 : ((Z1.alloc (.cells #[.string n2, .slice p4 x.length c4] 41)).alloc (.cells #[.string n2, .slice p4 x.length c4] 41)).cell? ⟨M, 1, none⟩ = some (.slice pl xs.length cl) := by have := HRMY.out.cell 1; rw [hY2, hY1] at this; exact this
                have m2 : (Z1.alloc (.cells #[.string n2, .slice p4 x.length c4] 41)).cell? ⟨M, 1, none⟩ = some (.slice pl xs.length cl) := by have := (HRM1.out.below hy1 HRM1.out.lt).cell 1; rw [hY1] at this; exact this
                have HOY := hide (own_below HOF.out HZY.out)
                have HOR := hide (show ORF (Z.heap.size + 1) Z1.heap.size Y2 (.slice p4 x.length c4) x from ⟨Z1, Nat.le_refl _, HRF.out, SameIn.ofBelow hy12, hy12.size⟩)
                have HSZ := hide (show Z1.heap.size ≤ Y2.heap.size from hy12.size)
                have HVY := hide (show w2.heap.size ≤ Z.heap.size ∧ w2.heap.size ≤ Y2.heap.size by have h1 := HNZ.out.size; have h2 := HZY.out.size; omega)
                have HNY := hide (HNZ.out.below HZY.out)
                clear hy1 hy2 hy12
                go_wp2_with (rw [← hY1, ← hY2]; at_builtin; refine wpList_append_own_at Y2 rfl (.tmp 81) (.tmp 83) 22 rfl w2.heap.size 41 i0 _ 2 40 Tryz.underlying22 hi hz0 hz1 hz2 HZC.out (by omega) _ xs.length vs rfl HOY.out ⟨Z1.heap.size + 1, 0, none⟩ 1 _ [.string n2, .slice p4 x.length c4] rfl rfl (row_cellsP HROW.out) (by simp [Value.oneCell']) (by unfold maxLen; omega) (by omega) (by exact HVY.out.2) ?_)
                intro v' w3 hown hgrow0 hnil hat0
                have hgrow : Y2.grownBy w3 (.slice pl xs.length cl : Value).ownBlock := by rw [hY2, hY1]; exact hgrow0
                have hat : v'.ownBlock = (.slice pl xs.length cl : Value).ownBlock ∨ v'.ownBlock = some Y2.heap.size := by rw [hY2, hY1]; simpa using hat0
                clear hgrow0 hat0
                obtain ⟨p9, c9, hv9⟩ := own_slice1 hown
                subst hv9
                have HO3 := hide (show w3.ownsRow w2.heap.size 41 2 (.slice p9 (xs.length + 1) c9) (xs ++ [(n2, x)]).length (vs ++ [.string n2, .slice p4 x.length c4]) by rw [List.length_append]; exact hown)
                have HG3 := hide (show GrowT w2.heap.size w3 (.slice p9 (xs.length + 1) c9) (vs ++ [.string n2, .slice p4 x.length c4]) (xs ++ [(n2, x)]) from
                  HGF.out.snoc HOF.out.1 HZY.out (by have := HVY.out.1; omega) HSZ.out (fun g hg => .inr (by have := (HOF.out.lt g hg).2; omega)) (by have h1 : n2.size ≤ 3 := segMd_name HQM.out; unfold maxLen; omega) HOR.out hgrow hat)
                have HN9 := hide (HNY.out.grownB hgrow (fun k hk => (HOY.out.lt k hk).1))
                have HRM3 := hide (row_grown HRMY.out hgrow (fun k hk => (HOY.out.lt k hk).1) HM9.out.2)
                have c9a : w3.cell? ⟨M, 1, none⟩ = some (.slice pl xs.length cl) := HRM3.out.cell 1
                have f9a := HRM3.out.free 1
                have HS9 := hide (Same.set w3 (g := M) (j := 1) (.slice p9 (xs.length + 1) c9) HM9.out.2)
                have HOF9 := hide (own_sameB HO3.out HS9.out)
                have HGF9 := hide (HG3.out.same HS9.out)
                have HRM9 := hide (HRM3.out.set (j := 1) (.slice p9 (xs.length + 1) c9))
                have HNF := hide (HN9.out.set (j := 1) (.slice p9 (xs.length + 1) c9))
                have HFT9 := hide (fitsM_snoc HFT.out (by omega) (s := (n2, x)) HFX.out)
                have HXK9 := hide (show (xs ++ [(n2, x)]).length = k + 1 by rw [List.length_append, HXK.out]; rfl)
                clear hown hgrow hnil hat m1 m2 hY1 hY2 h20 h20i
                go_wp2
                go_roundw
                case rel => exact ⟨_, k + 1, _, _, _, rfl, by omega, by go_num, HRM9, HOF9, HGF9, HMG, HNF, HFT9, HXK9⟩
                case measure => simp [intOf]; omega
      · have HMD := hide (md_end HMA.out (by have := HK.out; omega))
        have HRE := hide (show R = (if msgB MK xs then some (MK, xs) else none) by rw [HRX.out, HRD.out, HMD.out]; rfl)
        have HOS := hide (show RSegs (w.heap.size + 1) Z (.slice pl xs.length cl) xs from RSegs.mono (HGF.out.rsegs HOF.out) (by have := HM9.out; omega))
        clear HMD
        go_wp2_with fail
        refine wp_region_held (S := (fun y : World => y.cell? ⟨M, 0, none⟩ = some (.string MK) ∧ y.cell? ⟨M, 1, none⟩ = some (.slice pl xs.length cl))) (by kernel_rfl) ?_
        have HD := hide (show Below Z.heap.size Z { Z with drawn := Z.drawn + 1 } from (Below.refl _ _).drew)
        generalize ({ Z with drawn := Z.drawn + 1 } : World) = D0 at HD ⊢
        have HSY := hide (show ∀ y, Below Z.heap.size Z y → (fun y : World => y.cell? ⟨M, 0, none⟩ = some (.string MK) ∧ y.cell? ⟨M, 1, none⟩ = some (.slice pl xs.length cl)) y from fun y h => ⟨(HRM.out.below h HRM.out.lt).cell 0, (HRM.out.below h HRM.out.lt).cell 1⟩)
        have HRL := hide (show ∀ y, Below Z.heap.size Z y → RSegs (w.heap.size + 1) y (.slice pl xs.length cl) xs from fun y h => HOS.out.below h)
        obtain ⟨FP, hFP⟩ : ∃ FP : World → Prop, FP = (fun V => Row V w.heap.size 24 [.string MK, .slice pl xs.length cl] ∧ Below w.heap.size w V ∧ RSegs (w.heap.size + 1) V (.slice pl xs.length cl) xs ∧ Row V M 24 [.string MK, .slice pl xs.length cl]) := ⟨_, rfl⟩
        have HF1 : Hid (∀ Y, Below Z.heap.size Z Y → FP ((Y.setCell ⟨w.heap.size, 0, none⟩ (.string MK)).setCell ⟨w.heap.size, 1, none⟩ (.slice pl xs.length cl))) := hide (by
          rw [hFP]
          intro Y h
          have hM := HM9.out
          exact ⟨((HRES.out.below h HRES.out.lt).set (j := 0) _).set (j := 1) _, ((HBZ.out.trans (h.mono HBZ.out.size)).setCell (p := ⟨w.heap.size, 0, none⟩) (Nat.le_refl _) _).setCell (p := ⟨w.heap.size, 1, none⟩) (Nat.le_refl _) _, RSegs.same (RSegs.same (HRL.out Y h) (Same.set _ _ (by omega))) (Same.set _ _ (by omega)), ((HRM.out.below h HRM.out.lt).other (b := w.heap.size) (j := 0) (by omega) _).other (b := w.heap.size) (j := 1) (by omega) _⟩)
        have HFS : Hid (∀ V, FP V → (fun y : World => y.cell? ⟨M, 0, none⟩ = some (.string MK) ∧ y.cell? ⟨M, 1, none⟩ = some (.slice pl xs.length cl)) V) := hide (by rw [hFP]; exact fun V h => ⟨h.2.2.2.cell 0, h.2.2.2.cell 1⟩)
        have HF0 : Hid (∀ V, FP V → Row V w.heap.size 24 [.string MK, .slice pl xs.length cl] ∧ Below w.heap.size w V ∧ RSegs (w.heap.size + 1) V (.slice pl xs.length cl) xs) := hide (by rw [hFP]; exact fun V h => ⟨h.1, h.2.1, h.2.2.1⟩)
        clear hFP
        have HS := hide (HSY.out _ HD.out)
        refine wpAnyH_take (i := 0) (oi := _) (v := .agg #[.string MK, .slice pl xs.length cl]) rfl (by kernel_rfl) (by kernel_rfl) (by kernel_rfl) (fun _ _ _ h => h) (Or.inl ⟨by rfl, by intro w hSw; go_split_ands; go_simp⟩) HS.out ?_
        simp only [Act.put, List.getElem_toArray, List.getElem_cons_zero, List.setIfInBounds_toArray, List.set_cons_zero, List.set_cons_succ]
        refine wpAnyH_take (i := 1) (oi := _) (v := .agg #[.string MK, .slice pl xs.length cl]) rfl (by kernel_rfl) (by kernel_rfl) (by kernel_rfl) (fun _ _ _ h => h) (Or.inl ⟨by rfl, by intro w hSw; go_split_ands; go_simp⟩) HS.out ?_
        simp only [Act.put, List.getElem_toArray, List.getElem_cons_zero, List.getElem_cons_succ, List.setIfInBounds_toArray, List.set_cons_zero, List.set_cons_succ]
        refine wpAnyH_ready (rs := [2]) (by kernel_rfl) (by simp) ?_
        refine AllReadyH.cons (o := _) rfl (fun K hK => ?_) AllReadyH.nil
        go_simp
        refine (specMessage_any MK _ xs _ _ (by have := HM5.out; unfold maxLen; omega) HFT.out (HRL.out _ HD.out)).mono ?_
        rintro e Z9 ⟨rfl, hb9⟩
        have HD1 := hide (HD.out.trans (hb9.mono HD.out.size))
        clear hb9
        refine hK.out _ _ (HSY.out _ HD1.out) (fun _ => ?_)
        clear hK K HS
        have HS := hide (HSY.out _ HD1.out)
        obtain ⟨BB, hBB⟩ : ∃ BB : Bool, BB = msgB MK xs := ⟨_, rfl⟩
        rw [← hBB] at HRE ⊢
        clear hBB
        try simp only [Act.put, List.getElem_toArray, List.getElem_cons_zero, List.getElem_cons_succ, List.setIfInBounds_toArray, List.set_cons_zero, List.set_cons_succ]
        refine wpAnyH_ready (rs := [3]) (by kernel_rfl) (by simp) ?_
        refine AllReadyH.cons (o := _) rfl (fun K hK => ?_) AllReadyH.nil
        have c5 : Z9.cell? ⟨w.heap.size, 0, none⟩ = some (.string ⟨#[]⟩) := (HRES.out.below HD1.out HRES.out.lt).cell 0
        have f5 := (HRES.out.below HD1.out HRES.out.lt).free 0
        have c6 : Z9.cell? ⟨w.heap.size, 1, none⟩ = some (.slice none 0 0) := (HRES.out.below HD1.out HRES.out.lt).cell 1
        have f6 := (HRES.out.below HD1.out HRES.out.lt).free 1
        go_simp
        have HFP := hide (HF1.out _ HD1.out)
        obtain ⟨V9, hV9⟩ : ∃ V, V = (Z9.setCell ⟨w.heap.size, 0, none⟩ (.string MK)).setCell ⟨w.heap.size, 1, none⟩ (.slice pl xs.length cl) := ⟨_, rfl⟩
        rw [← hV9] at HFP
        try rw [← hV9]
        clear hV9
        refine hK.out _ _ (HFS.out _ HFP.out) (fun _ => ?_)
        clear hK K HS c5 f5 c6 f6
        have HS := hide (HFS.out _ HFP.out)
        try simp only [Act.put, List.getElem_toArray, List.getElem_cons_zero, List.getElem_cons_succ, List.setIfInBounds_toArray, List.set_cons_zero, List.set_cons_succ]
        refine wpAnyH_take (i := 4) (oi := _) (v := .bool BB) rfl (by kernel_rfl) (by kernel_rfl) (by kernel_rfl) (fun _ _ _ h => h) (Or.inl ⟨by rfl, by intro w hSw; go_split_ands; go_simp⟩) HS.out ?_
        simp only [Act.put, List.getElem_toArray, List.getElem_cons_zero, List.getElem_cons_succ, List.setIfInBounds_toArray, List.set_cons_zero, List.set_cons_succ]
        refine wpAnyH_done (by kernel_rfl) ?_ _
        obtain ⟨e1, e2, e3⟩ := HF0.out _ HFP.out
        have HE2 := hide e2
        have HE3 := hide e3
        have v0 : V9.cell? ⟨w.heap.size, 0, none⟩ = some (.string MK) := e1.cell 0
        have v1 : V9.cell? ⟨w.heap.size, 1, none⟩ = some (.slice pl xs.length cl) := e1.cell 1
        clear e1 e2 e3
        go_wp2
        exact bodyPost_ret (v := .tuple #[.agg #[.string MK, .slice pl xs.length cl], .bool BB]) (by simp [results, Tryz.results9, go_sem, v0, v1]) rfl ⟨⟨MK, _, BB, xs, rfl, HE3.out, HRE.out⟩, HE2.out⟩
end Go.Proofs.YtckcfjibiidafaaGreat
/- MessageRead of the model; what compares and marks its answer. -/
namespace Go.Proofs.YtckcfjibiidafaaGreat
open Go.RowKit
theorem msgMd_right {T : List UInt8} {s : ByteArray × List Seg} (h : msgMd T = some s) : msgB s.1 s.2 = true := by
  unfold msgMd at h
  split at h
  · cases h
  · obtain ⟨xs, h3, h4⟩ := Option.bind_eq_some_iff.1 h
    split at h4
    · rename_i hb
      cases h4
      exact hb
    · cases h4
theorem msgQ_not {T : List UInt8} (hT : T.length ≤ 8000) {s : ByteArray × List Seg} (h : msgMd T = some s) (hn : ¬ wholeT s.1 s.2 = T) : msgQ T = none := by
  cases hq : msgQ T with
  | none => rfl
  | some r =>
    have h2 := (msgQ_iff T hT r).1 hq
    rw [h] at h2
    cases h2.1
    exact absurd h2.2 hn
theorem msgQ_nil {T : List UInt8} (hT : T.length ≤ 8000) (h : msgMd T = none) : msgQ T = none := by
  cases hq : msgQ T with
  | none => rfl
  | some r =>
    have h2 := (msgQ_iff T hT r).1 hq
    rw [h] at h2
    cases h2.1
set_option maxHeartbeats 4000000 in
theorem heldSegmentS_own (lo hi : Nat) (v : Value) (xs : List Seg) (k : Nat) (w : World) (hn : wSegs xs ≤ 1048576) (hk : k + wSegs xs ≤ 4000000) (hr : OSegs lo hi w v (mkSegs k xs)) :
    Calls Tryz.prog 24 #[v, .int .i64 (k : Int)] w fun e w' => e = .returned (.int .i64 ((k + cntSegs xs : Nat) : Int)) ∧ Below w.heap.size w w' := by
  have hl : xs.length ≤ 1048576 := Nat.le_trans (wL_len _ xs) hn
  have HC := hide (fun i h => seg_step xs i h)
  have HSN := hide (fun i h => cntL_snoc cntSeg xs i h)
  have HM := hide (wSegs_mem hn).2
  have HML := hide (show (mkSegs k xs).length = xs.length from mkL_len cntSeg mkSeg xs k)
  obtain ⟨p, cap, hv, h1, h2, h4⟩ := hr
  rw [HML.out] at h1 hv
  subst hv
  by_cases h0 : xs.length = 0
  · obtain rfl : xs = [] := List.eq_nil_of_length_eq_zero h0
    clear h4 HC HM HSN HML
    go_enter Tryz.func24, Tryz.ntmps24
    go_wp2
    refine wp_loop_rounds 1 ?_
    rw [rounds_succ]
    go_wp2
    go_ret
    exact ⟨rfl, Below.refl _ _⟩
  obtain ⟨g, cs, A, B, rfl, ga, gb, hrow, hcl, hE, hD⟩ := h4 (by rw [HML.out]; omega)
  have HK := hide hk
  have HR := hide hrow
  have HE := hide hE
  unfold maxLen at h2
  clear h4 hrow hcl hE hD hk hn ga gb
  go_enter Tryz.func24, Tryz.ntmps24
  go_wp2
  go_loopw [1, 5] (fun x i wr => ∃ (X : World) (j K : Nat), X = wr ∧ j ≤ xs.length ∧ i = .int .i64 (j : Int) ∧ x = .int .i64 (K : Int) ∧ Hid (K = k + cntL cntSeg (xs.take j)) ∧ Hid (Below w.heap.size w X)) (fun _ i _ => xs.length - (intOf i).toNat)
  case atStart => exact ⟨_, 0, k, rfl, Nat.zero_le _, rfl, rfl, hide (by simp [cntL]), hide (Below.refl _ _)⟩
  case round =>
    obtain ⟨X, j, K, rfl, hj, rfl, rfl, HKE, HB⟩ := hrel
    by_cases hlt : j < xs.length
    · have hjm : j < (mkSegs k xs).length := by rw [HML.out]; exact hlt
      have hget : (mkSegs k xs)[j] = mkSeg K (xs[j]'hlt) := by rw [HKE.out]; exact mkL_get cntSeg mkSeg xs k j hlt hjm
      obtain ⟨e0, e1, e2, e3, e4, u, e5, e6⟩ := HE.out j hjm
      rw [hget] at e0 e6
      have e7 := Keeps.go (SameIn.ofBelow HB.out) e6
      have rowX := HR.out.below HB.out HR.out.lt
      have c0 : X.cell? ⟨g, j * 2, none⟩ = some (.string (markOf K)) := by rw [rowX.cell]; exact e0
      have c1 : X.cell? ⟨g, j * 2 + 1, none⟩ = some u := by rw [rowX.cell]; exact e5
      have hKb : K + 1 + wFlds (xs[j]'hlt).2 ≤ 4000000 := by have h1 := HC.out j hlt; have h2 := HK.out; rw [HKE.out]; omega
      have hwb : wFlds (xs[j]'hlt).2 ≤ 1048576 := (HM.out j hlt).1
      have HOK : Hid (OFlds (A j) (B j) X u (mkFs (K + 1) (xs[j]'hlt).2)) := hide e7
      obtain ⟨vp, vn, vc, hvj⟩ : ∃ p n c, u = .slice p n c := by obtain ⟨p, c, e⟩ := e7.isSlice; exact ⟨p, _, c, e⟩
      subst hvj
      have hji : (j : Int) < (xs.length : Int) := by omega
      have hj0 : (0 : Int) ≤ (j : Int) := by omega
      have HSS := hide (show ∀ y, Below X.heap.size X y → y.cell? ⟨g, j * 2, none⟩ = some (.string (markOf K)) from fun y h => (h.cell (p := ⟨g, j * 2, none⟩) rowX.lt).trans c0)
      have HRX := hide rowX
      have HC1 := hide c1
      clear e0 e1 e2 e3 e4 e5 e6 e7 rowX c0 c1 hget
      go_wp2_with fail
      go_cut [19] (fun t wz => t = .bool false ∧ ∃ wx, wx = wz ∧ Hid (Below X.heap.size X wx))
      case first =>
        refine wp_region_held (S := (fun y : World => y.cell? ⟨g, j * 2, none⟩ = some (.string (markOf K)))) (by kernel_rfl) ?_
        have HX0 : Hid (Below X.heap.size X { X with drawn := X.drawn + 1 }) := (Below.refl _ _).drew
        generalize ({ X with drawn := X.drawn + 1 } : World) = X0 at HX0 ⊢
        have HS := hide (HSS.out _ HX0.out)
        refine wpAnyH_take (i := 0) (oi := _) (v := .slice (some ⟨g, 0, none⟩) xs.length cap) rfl (by kernel_rfl) (by kernel_rfl) (by kernel_rfl) (fun _ _ _ h => h) (Or.inl ⟨by rfl, by intro w hSw; go_split_ands; go_simp⟩) HS.out ?_
        simp only [Act.put, List.getElem_toArray, List.getElem_cons_zero, List.setIfInBounds_toArray, List.set_cons_zero, List.set_cons_succ]
        refine wpAnyH_take (i := 1) (oi := _) (v := .int .i64 (j : Int)) rfl (by kernel_rfl) (by kernel_rfl) (by kernel_rfl) (fun _ _ _ h => h) (Or.inl ⟨by rfl, by intro w hSw; go_split_ands; go_simp⟩) HS.out ?_
        simp only [Act.put, List.getElem_toArray, List.getElem_cons_zero, List.getElem_cons_succ, List.setIfInBounds_toArray, List.set_cons_zero, List.set_cons_succ]
        refine wpAnyH_take (i := 2) (oi := _) (v := .pointer (some ⟨g, j * 2, none⟩)) rfl (by kernel_rfl) (by kernel_rfl) (by kernel_rfl) (fun _ _ _ h => h) (Or.inl ⟨by rfl, by intro w hSw; go_split_ands; go_simp⟩) HS.out ?_
        simp only [Act.put, List.getElem_toArray, List.getElem_cons_zero, List.getElem_cons_succ, List.setIfInBounds_toArray, List.set_cons_zero, List.set_cons_succ]
        refine wpAnyH_take (i := 3) (oi := _) (v := .pointer (some ⟨g, j * 2, none⟩)) rfl (by kernel_rfl) (by kernel_rfl) (by kernel_rfl) (fun _ _ _ h => h) (Or.inl ⟨by rfl, by intro w hSw; go_split_ands; go_simp⟩) HS.out ?_
        simp only [Act.put, List.getElem_toArray, List.getElem_cons_zero, List.getElem_cons_succ, List.setIfInBounds_toArray, List.set_cons_zero, List.set_cons_succ]
        refine wpAnyH_take (i := 4) (oi := _) (v := .string (markOf K)) rfl (by kernel_rfl) (by kernel_rfl) (by kernel_rfl) (fun _ _ _ h => h) (Or.inl ⟨by rfl, by intro w hSw; go_split_ands; go_simp⟩) HS.out ?_
        simp only [Act.put, List.getElem_toArray, List.getElem_cons_zero, List.getElem_cons_succ, List.setIfInBounds_toArray, List.set_cons_zero, List.set_cons_succ]
        refine wpAnyH_take (i := 5) (oi := _) (v := .int .i64 (K : Int)) rfl (by kernel_rfl) (by kernel_rfl) (by kernel_rfl) (fun _ _ _ h => h) (Or.inl ⟨by rfl, by intro w hSw; go_split_ands; go_simp⟩) HS.out ?_
        simp only [Act.put, List.getElem_toArray, List.getElem_cons_zero, List.getElem_cons_succ, List.setIfInBounds_toArray, List.set_cons_zero, List.set_cons_succ]
        refine wpAnyH_ready (rs := [6]) (by kernel_rfl) (by simp) ?_
        refine AllReadyH.cons (o := _) rfl (fun KK hK => ?_) AllReadyH.nil
        go_simp
        refine (markText_any _ _ (by omega)).mono ?_
        rintro e X1 ⟨rfl, hb1⟩
        have HX1 := hide (HX0.out.trans (hb1.mono HX0.out.size))
        refine hK.out _ _ (HSS.out _ HX1.out) (fun _ => ?_)
        clear hK HS hb1 HX0
        have HS := hide (HSS.out _ HX1.out)
        refine wpAnyH_take (i := 7) (oi := _) (v := .bool false) rfl (by kernel_rfl) (by kernel_rfl) (by kernel_rfl) (fun _ _ _ h => h) (Or.inl ⟨by rfl, by intro w hSw; go_split_ands; go_simp⟩) HS.out ?_
        simp only [Act.put, List.getElem_toArray, List.getElem_cons_zero, List.getElem_cons_succ, List.setIfInBounds_toArray, List.set_cons_zero, List.set_cons_succ]
        refine wpAnyH_done (by kernel_rfl) ?_ _
        go_wp2_with fail
        go_meet
        exact ⟨rfl, _, rfl, HX1⟩
      case rest =>
        obtain ⟨rfl, wx, rfl, HBx⟩ := hcut
        have HBX := hide (HB.out.trans (HBx.out.mono HB.out.size))
        have d1 : wx.cell? ⟨g, j * 2 + 1, none⟩ = some (.slice vp vn vc) := (HBx.out.cell (p := ⟨g, j * 2 + 1, none⟩) HRX.out.lt).trans HC1.out
        have HOX := hide (Keeps.go (SameIn.ofBelow HBx.out) HOK.out)
        clear HBx
        go_wp2_with fail
        have ek : ((K : Int) + 1) = ((K + 1 : Nat) : Int) := by simp
        rw [ek]
        refine (heldFieldS_own (A j) (B j) _ (xs[j]'hlt).2 (K + 1) _ hwb hKb HOX.out).mono ?_
        rintro e w2 ⟨rfl, hb2⟩
        have HK2 : Hid (K + 1 + cntL cntF (xs[j]'hlt).2 = k + cntL cntSeg (xs.take (j + 1))) := by rw [HSN.out j hlt, HKE.out]; exact (by unfold cntSeg cntFs; omega : k + cntL cntSeg (xs.take j) + 1 + cntL cntF (xs[j]'hlt).2 = k + (cntL cntSeg (xs.take j) + cntSeg (xs[j]'hlt)))
        have HB2 := hide (HBX.out.trans (hb2.mono HBX.out.size))
        have hpos : ¬ (((K + 1 + cntL cntF (xs[j]'hlt).2 : Nat) : Int)) < 0 := by omega
        clear hb2 ek d1
        go_wp2
        go_roundw
        case rel => exact ⟨_, j + 1, _, rfl, by omega, by go_num, rfl, HK2, HB2⟩
        case measure => simp [intOf]; omega
    · have HKF : Hid (K = k + cntSegs xs) := by have := HKE.out; rw [List.take_of_length_le (by omega)] at this; exact this
      go_wp2
      go_ret
      exact ⟨ret_int (by rw [HKF.out]), HB.out⟩


set_option maxHeartbeats 8000000 in
theorem specMessageRead_any (t : ByteArray) (w : World) :
    Calls Tryz.prog 4 #[.string t] w fun e w' => (∃ n u c xs, e = .returned (.agg #[.string n, u, .int .i64 c]) ∧ RSegs w.heap.size w' u xs ∧ msgOut t = (c, n, xs)) ∧ Below w.heap.size w w' := by
  obtain ⟨W, hW⟩ : ∃ W, W = w.alloc (.cells #[.string ⟨#[]⟩, .slice none 0 0, .int .i64 0] 26) := ⟨_, rfl⟩
  have HBW := hide (show Below w.heap.size w W by rw [hW]; exact (Below.refl _ _).alloc (Nat.le_refl _) _)
  have HWs := hide (show W.heap.size = w.heap.size + 1 by rw [hW]; simp)
  have HR2 := hide (show Row W w.heap.size 26 [.string ⟨#[]⟩, .slice none 0 0, .int .i64 0] by rw [hW]; exact row_new w [.string ⟨#[]⟩, .slice none 0 0, .int .i64 0] 26)
  by_cases h1 : 8000 < t.size
  · have HE := hide (show msgOut t = (2, ⟨#[]⟩, []) from if_pos h1)
    have h1i : (8000 : Int) < t.size := by omega
    clear HWs HR2
    subst hW
    go_enter Tryz.func4, Tryz.ntmps4
    go_wp2
    refine bodyPost_ret (v := .agg #[.string ⟨#[]⟩, .slice none 0 0, .int .i64 2]) (by simp [results, Tryz.results4, go_sem]) rfl ⟨?_, (Below.refl _ _).alloc (Nat.le_refl _) _⟩
    first
      | exact ⟨⟨#[]⟩, _, _, _, rfl, rsegs_nil _ _ _, HE.out⟩
      | exact ⟨⟨#[]⟩, _, _, rfl, _, rsegs_nil _ _ _, HE.out⟩
      | exact ⟨_, _, _, rfl, _, rsegs_nil _ _ _, HE.out⟩
      | exact ⟨_, _, rfl, _, _, rsegs_nil _ _ _, HE.out⟩
  have HO := hide (show msgOut t = (match msgQ t.data.toList with | some s => (0, s.1, s.2) | none => (3, ⟨#[]⟩, [])) from if_neg h1)
  have HTL := hide (show t.data.toList.length ≤ 8000 by have : t.data.toList.length = t.size := by simp
                                                        omega)
  have h1i : ¬ (8000 : Int) < t.size := by omega
  go_enter Tryz.func4, Tryz.ntmps4
  go_wp2_with fail
  rw [← hW]
  clear hW
  refine (l04Message_any t _ (by omega)).mono ?_
  rintro e w2 ⟨⟨n, u, b, F, rfl, hrf, hq⟩, hb2⟩
  obtain ⟨p2, c2, rfl⟩ := hrf.isSlice
  have HB2 := hide (HBW.out.trans (hb2.mono HBW.out.size))
  have HRW2 := hide (HR2.out.below hb2 HR2.out.lt)
  have HF2 := hide (show RSegs (w.heap.size + 1) w2 (.slice p2 F.length c2) F from RSegs.mono hrf (by have := HWs.out; omega))
  have hv1 : Below w2.heap.size w2 (w2.alloc (.cells #[.string n, .slice p2 F.length c2] 24)) := (Below.refl _ _).alloc (Nat.le_refl _) _
  have HB3 := hide (HB2.out.trans (hv1.mono HB2.out.size))
  have HRW3 := hide (HRW2.out.below hv1 HRW2.out.lt)
  have HF3 := hide (HF2.out.below hv1)
  clear hb2 hrf h1
  cases b with
  | false =>
    have HE := hide (show msgOut t = (3, ⟨#[]⟩, []) by rw [HO.out, msgQ_nil HTL.out (by rw [hq]; rfl)])
    clear hq hv1
    have HRX := HRW3
    have HBX := HB3
    have k0 : (w2.alloc (.cells #[.string n, .slice p2 F.length c2] 24)).cell? ⟨w.heap.size, 0, none⟩ = some (.string ⟨#[]⟩) := HRX.out.cell 0
    have k1 : (w2.alloc (.cells #[.string n, .slice p2 F.length c2] 24)).cell? ⟨w.heap.size, 1, none⟩ = some (.slice none 0 0) := HRX.out.cell 1
    have k2 : (w2.alloc (.cells #[.string n, .slice p2 F.length c2] 24)).cell? ⟨w.heap.size, 2, none⟩ = some (.int .i64 0) := HRX.out.cell 2
    have f0 := HRX.out.free 0
    have f1 := HRX.out.free 1
    have f2 := HRX.out.free 2
    obtain ⟨q0, q1, q2, KF, KS, KZ, KM⟩ := threeS HRX.out (.string ⟨#[]⟩) (.slice none 0 0) (.int .i64 3)
    have HBF := hide (KF w w.heap.size (Nat.le_refl _) HBX.out)
    have HKS := hide KS
    have HKZ := hide KZ
    have HKM := hide KM
    clear KF KS KZ KM
    go_wp2
    exact bodyPost_ret (v := .agg #[.string ⟨#[]⟩, .slice none 0 0, .int .i64 3]) (by simp [results, Tryz.results4, go_sem, q0, q1, q2]) rfl ⟨⟨⟨#[]⟩, _, _, _, rfl, rsegs_nil _ _ _, HE.out⟩, HBF.out⟩
  | true =>
    have HQM := hide (show msgMd t.data.toList = some (n, F) from hq)
    have HMB := hide (show msgB n F = true from msgMd_right HQM.out)
    have HRV := hide (show Row (w2.alloc (.cells #[.string n, .slice p2 F.length c2] 24)) w2.heap.size 24 [.string n, .slice p2 F.length c2] from row_new w2 [.string n, .slice p2 F.length c2] 24)
    obtain ⟨V, hV⟩ : ∃ V, V = (w2.alloc (.cells #[.string n, .slice p2 F.length c2] 24)) := ⟨_, rfl⟩
    rw [← hV] at HB3 HRW3 HF3 HRV
    clear hq hv1
    go_wp2_with fail
    rw [← hV]
    obtain ⟨G, hG⟩ : ∃ G, G = w2.heap.size := ⟨_, rfl⟩
    rw [← hG] at HRV
    try rw [← hG]
    clear hV hG
    refine (l04Whole_any n _ F _ (marks_five (msgB_parts HMB.out).1) (msgB_parts HMB.out).2.1 (msgB_parts HMB.out).2.2 (RSegs.mono HF3.out (Nat.zero_le _))).mono ?_
    rintro e w5 ⟨rfl, hb5⟩
    have HB5 := hide (HB3.out.trans (hb5.mono HB3.out.size))
    have HRW5 := hide (HRW3.out.below hb5 HRW3.out.lt)
    have HRV5 := hide (HRV.out.below hb5 HRV.out.lt)
    have HF5 := hide (HF3.out.below hb5)
    have g6 : w5.cell? ⟨G, 0, none⟩ = some (.string n) := HRV5.out.cell 0
    have g7 : w5.cell? ⟨G, 1, none⟩ = some (.slice p2 F.length c2) := HRV5.out.cell 1
    clear hb5
    obtain ⟨TX, hTX⟩ : ∃ TX : ByteArray, TX = ⟨(wholeT n F).toArray⟩ := ⟨_, rfl⟩
    have HTX := hide (show TX.data.toList = wholeT n F by rw [hTX])
    rw [← hTX]
    clear hTX
    by_cases heq : TX = t
    · subst heq
      have HE := hide (show msgOut TX = (0, n, F) by rw [HO.out, (msgQ_iff _ HTL.out (n, F)).2 ⟨HQM.out, HTX.out.symm⟩])
      have HRX := HRW5
      have HBX := HB5
      have k0 : w5.cell? ⟨w.heap.size, 0, none⟩ = some (.string ⟨#[]⟩) := HRX.out.cell 0
      have k1 : w5.cell? ⟨w.heap.size, 1, none⟩ = some (.slice none 0 0) := HRX.out.cell 1
      have k2 : w5.cell? ⟨w.heap.size, 2, none⟩ = some (.int .i64 0) := HRX.out.cell 2
      have f0 := HRX.out.free 0
      have f1 := HRX.out.free 1
      have f2 := HRX.out.free 2
      obtain ⟨q0, q1, q2, KF, KS, KZ, KM⟩ := threeS HRX.out (.string n) (.slice p2 F.length c2) (.int .i64 0)
      have HBF := hide (KF w w.heap.size (Nat.le_refl _) HBX.out)
      have HKS := hide KS
      have HKZ := hide KZ
      have HKM := hide KM
      clear KF KS KZ KM
      go_wp2
      exact bodyPost_ret (v := .agg #[.string n, .slice p2 F.length c2, .int .i64 0]) (by simp [results, Tryz.results4, go_sem, q0, q1, q2]) rfl ⟨⟨n, _, _, _, rfl, RSegs.mono (RSegs.same HF5.out (HKM.out _ (by omega))) (Nat.le_succ _), HE.out⟩, HBF.out⟩
    · have HE := hide (show msgOut t = (3, ⟨#[]⟩, []) by
        rw [HO.out, msgQ_not HTL.out HQM.out (fun h => heq (ByteArray.ext (Array.ext' (by rw [HTX.out, ← h]))))])
      have he3 := toList_neF heq
      clear heq
      have HRX := HRW5
      have HBX := HB5
      have k0 : w5.cell? ⟨w.heap.size, 0, none⟩ = some (.string ⟨#[]⟩) := HRX.out.cell 0
      have k1 : w5.cell? ⟨w.heap.size, 1, none⟩ = some (.slice none 0 0) := HRX.out.cell 1
      have k2 : w5.cell? ⟨w.heap.size, 2, none⟩ = some (.int .i64 0) := HRX.out.cell 2
      have f0 := HRX.out.free 0
      have f1 := HRX.out.free 1
      have f2 := HRX.out.free 2
      obtain ⟨q0, q1, q2, KF, KS, KZ, KM⟩ := threeS HRX.out (.string ⟨#[]⟩) (.slice none 0 0) (.int .i64 3)
      have HBF := hide (KF w w.heap.size (Nat.le_refl _) HBX.out)
      have HKS := hide KS
      have HKZ := hide KZ
      have HKM := hide KM
      clear KF KS KZ KM
      go_wp2
      exact bodyPost_ret (v := .agg #[.string ⟨#[]⟩, .slice none 0 0, .int .i64 3]) (by simp [results, Tryz.results4, go_sem, q0, q1, q2]) rfl ⟨⟨⟨#[]⟩, _, _, _, rfl, rsegs_nil _ _ _, HE.out⟩, HBF.out⟩

set_option maxHeartbeats 1000000 in
theorem eqMessageOut_same (R : MOut) (u u' : Value) (B B' : Nat) (w : World) (hn : wSegs R.2.2 ≤ 1048576) (hr : RSegs B w u R.2.2) (hr' : RSegs B' w u' R.2.2) :
    Calls Tryz.prog 6 #[moV R u, moV R u'] w fun e w' => e = .returned (.bool true) ∧ Below w.heap.size w w' := by
  obtain ⟨code, n, x⟩ := R
  dsimp only [moV] at *
  have HR := hide hr
  have HR' := hide hr'
  obtain ⟨p, c, rfl⟩ := hr.isSlice
  obtain ⟨p', c', rfl⟩ := hr'.isSlice
  clear hr hr'
  have HB0 := hide (((Below.refl w.heap.size w).alloc (Nat.le_refl _) (.cells #[.string n, .slice p x.length c, .int .i64 code] 26)).alloc (by simp) (.cells #[.string n, .slice p' x.length c', .int .i64 code] 26))
  have HRa := hide ((row_new w [.string n, .slice p x.length c, .int .i64 code] 26).alloc (.cells #[.string n, .slice p' x.length c', .int .i64 code] 26))
  have HRb : Hid (Row ((w.alloc (.cells #[.string n, .slice p x.length c, .int .i64 code] 26)).alloc (.cells #[.string n, .slice p' x.length c', .int .i64 code] 26)) (w.heap.size + 1) 26 [.string n, .slice p' x.length c', .int .i64 code]) := hide (by
    have := row_new (w.alloc (.cells #[.string n, .slice p x.length c, .int .i64 code] 26)) [.string n, .slice p' x.length c', .int .i64 code] 26
    simpa using this)
  go_enter Tryz.func6, Tryz.ntmps6
  go_wp2_with fail
  refine (eqMessage_same n _ _ x B B' _ hn (HR.out.below HB0.out) (HR'.out.below HB0.out)).mono ?_
  rintro e w1 ⟨rfl, hb1⟩
  have Ra := HRa.out.below hb1 HRa.out.lt
  have Rb := HRb.out.below hb1 HRb.out.lt
  have a3 : w1.cell? ⟨w.heap.size, 2, none⟩ = some (.int .i64 code) := Ra.cell 2
  have b3 : w1.cell? ⟨w.heap.size + 1, 2, none⟩ = some (.int .i64 code) := Rb.cell 2
  have HB := hide (HB0.out.trans (hb1.mono (by simp; omega)))
  clear hb1 Ra Rb
  go_wp2
  go_ret
  exact ⟨rfl, HB.out⟩
set_option maxHeartbeats 1000000 in
theorem markMessageOut_own (lo hi : Nat) (R : MOut) (v : Value) (k : Nat) (w : World) (hn : wSegs R.2.2 ≤ 1048576) (hk : k + wSegs R.2.2 ≤ 4000000) (hr : OSegs lo hi w v R.2.2) :
    Calls Tryz.prog 7 #[moV R v, .int .i64 (k : Int)] w fun e w' => e = .returned (.int .i64 ((k + cntSegs R.2.2 : Nat) : Int)) ∧ OSegs lo hi w' v (mkSegs k R.2.2) ∧ Within lo hi w w' := by
  obtain ⟨code, n, xs⟩ := R
  dsimp only [moV] at *
  obtain ⟨p, c, rfl⟩ := hr.isSlice
  have hb0 : Below w.heap.size w (w.alloc (.cells #[.string n, .slice p xs.length c, .int .i64 code] 26)) := (Below.refl _ _).alloc (Nat.le_refl _) _
  have HB0 := hide hb0
  have HR := hide (hr.keep (SameIn.ofBelow hb0))
  clear hr hb0
  go_enter Tryz.func7, Tryz.ntmps7
  go_wp2_with fail
  refine (markMessage_own lo hi n _ xs k _ hn hk HR.out).mono ?_
  rintro e w1 ⟨rfl, hok, hw⟩
  have HO := hide hok
  have HW := hide ((Within.ofBelow HB0.out).trans hw)
  clear hok hw
  go_wp2
  go_ret
  exact ⟨rfl, HO.out, HW.out⟩
set_option maxHeartbeats 1000000 in
theorem heldMessage_ownM (lo hi : Nat) (n : ByteArray) (xs : List Seg) (v : Value) (k : Nat) (w : World) (hn : wSegs xs ≤ 1048576) (hk : k + wSegs xs ≤ 4000000) (hr : OSegs lo hi w v (mkSegs k xs)) :
    Calls Tryz.prog 14 #[.agg #[.string n, v], .int .i64 (k : Int)] w fun e w' => e = .returned (.int .i64 ((k + cntSegs xs : Nat) : Int)) ∧ Below w.heap.size w w' := by
  have hml : (mkSegs k xs).length = xs.length := mkL_len cntSeg mkSeg xs k
  obtain ⟨p, c, hv⟩ := hr.isSlice
  rw [hml] at hv
  subst hv
  clear hml
  have hb0 : Below w.heap.size w (w.alloc (.cells #[.string n, .slice p xs.length c] 24)) := (Below.refl _ _).alloc (Nat.le_refl _) _
  have HB0 := hide hb0
  have HR := hide (hr.keep (SameIn.ofBelow hb0))
  clear hr hb0
  go_enter Tryz.func14, Tryz.ntmps14
  go_wp2_with fail
  refine (heldSegmentS_own lo hi _ xs k _ hn hk HR.out).mono ?_
  rintro e w1 ⟨rfl, hb⟩
  have HB := hide (HB0.out.trans (hb.mono HB0.out.size))
  have hpos : ¬ (((k + cntSegs xs : Nat) : Int)) < 0 := by omega
  have hpos2 : ¬ (((k + cntL cntSeg xs : Nat) : Int)) < 0 := hpos
  clear hb
  go_wp2
  go_ret
  exact ⟨rfl, HB.out⟩
set_option maxHeartbeats 1000000 in
theorem heldMessageOut_own (lo hi : Nat) (R : MOut) (v : Value) (k : Nat) (w : World) (hn : wSegs R.2.2 ≤ 1048576) (hk : k + wSegs R.2.2 ≤ 4000000) (hr : OSegs lo hi w v (mkSegs k R.2.2)) :
    Calls Tryz.prog 8 #[moV R v, .int .i64 (k : Int)] w fun e w' => e = .returned (.int .i64 ((k + cntSegs R.2.2 : Nat) : Int)) ∧ Below w.heap.size w w' := by
  obtain ⟨code, n, xs⟩ := R
  dsimp only [moV] at *
  have hml : (mkSegs k xs).length = xs.length := mkL_len cntSeg mkSeg xs k
  obtain ⟨p, c, hv⟩ := hr.isSlice
  rw [hml] at hv
  subst hv
  clear hml
  have hb0 : Below w.heap.size w (w.alloc (.cells #[.string n, .slice p xs.length c, .int .i64 code] 26)) := (Below.refl _ _).alloc (Nat.le_refl _) _
  have HB0 := hide hb0
  have HR := hide (hr.keep (SameIn.ofBelow hb0))
  clear hr hb0
  go_enter Tryz.func8, Tryz.ntmps8
  go_wp2_with fail
  refine (heldMessage_ownM lo hi n xs _ k _ hn hk HR.out).mono ?_
  rintro e w1 ⟨rfl, hb⟩
  have HB := hide (HB0.out.trans (hb.mono HB0.out.size))
  have hpos : ¬ (((k + cntSegs xs : Nat) : Int)) < 0 := by omega
  have hpos2 : ¬ (((k + cntL cntSeg xs : Nat) : Int)) < 0 := hpos
  clear hb
  go_wp2
  go_ret
  exact ⟨rfl, HB.out⟩
end Go.Proofs.YtckcfjibiidafaaGreat
