/- SegmentRead of both sides, and its law. -/
import Derived.Test.YtckcfjibiidafaaGreatXG35OSegR
import Derived.Test.YtckcfjibiidafaaGreatXG34OSeg
import Derived.Test.YtckcfjibiidafaaGreatXG36FLSeg
import Derived.Test.YtckcfjibiidafaaGreatXG38OMsgRM
import Derived.OrdersHeld
import Derived.BigQuiet
namespace Go.Proofs.YtckcfjibiidafaaGreat
open Go.RowKit
theorem threeS {w : World} {G : Nat} {T : TypeId} {a b c : Value} (R : Row w G T [a, b, c]) (A B C : Value) :
    (((w.setCell ⟨G, 0, none⟩ A).setCell ⟨G, 1, none⟩ B).setCell ⟨G, 2, none⟩ C).cell? ⟨G, 0, none⟩ = some A ∧
    (((w.setCell ⟨G, 0, none⟩ A).setCell ⟨G, 1, none⟩ B).setCell ⟨G, 2, none⟩ C).cell? ⟨G, 1, none⟩ = some B ∧
    (((w.setCell ⟨G, 0, none⟩ A).setCell ⟨G, 1, none⟩ B).setCell ⟨G, 2, none⟩ C).cell? ⟨G, 2, none⟩ = some C ∧
    (∀ (w0 : World) (base : Nat), base ≤ G → Below base w0 w → Below base w0 (((w.setCell ⟨G, 0, none⟩ A).setCell ⟨G, 1, none⟩ B).setCell ⟨G, 2, none⟩ C)) ∧
    (∀ lo hi : Nat, (G < lo ∨ hi ≤ G) → SameIn lo hi w (((w.setCell ⟨G, 0, none⟩ A).setCell ⟨G, 1, none⟩ B).setCell ⟨G, 2, none⟩ C)) ∧
    (((w.setCell ⟨G, 0, none⟩ A).setCell ⟨G, 1, none⟩ B).setCell ⟨G, 2, none⟩ C).heap.size = w.heap.size ∧
    (∀ B0 : Nat, G < B0 → Same B0 w (((w.setCell ⟨G, 0, none⟩ A).setCell ⟨G, 1, none⟩ B).setCell ⟨G, 2, none⟩ C)) := by
  have R4 := ((R.set (j := 0) A).set (j := 1) B).set (j := 2) C
  refine ⟨R4.cell 0, R4.cell 1, R4.cell 2, fun w0 base hb h => ((h.setCell (p := ⟨G, 0, none⟩) hb A).setCell (p := ⟨G, 1, none⟩) hb B).setCell (p := ⟨G, 2, none⟩) hb C, fun lo hi h k h1 h2 _ => ?_, by simp [World.setCell], fun B0 h => ((Same.set w A h).trans (Same.set _ B h)).trans (Same.set _ C h)⟩
  have hk : k ≠ G := by omega
  rw [Below.heap_setCell _ ⟨G, 2, none⟩ C k hk, Below.heap_setCell _ ⟨G, 1, none⟩ B k hk, Below.heap_setCell _ ⟨G, 0, none⟩ A k hk]
abbrev SOut := Int × ByteArray × Flds
def soV (R : SOut) (u : Value) : Value := .agg #[.string R.2.1, u, .int .i64 R.1]
/-- Code and Segment of what SegmentRead answers. -/
def segOut (m t : ByteArray) : SOut := if readC m t = 0 then (match segQ m t.data.toList with | some s => (0, s.1, s.2) | none => (3, ⟨#[]⟩, [])) else (readC m t, ⟨#[]⟩, [])
theorem oflds_nil (lo hi : Nat) (w : World) (p : Option Addr) : OFlds lo hi w (.slice p 0 0) [] := ⟨p, 0, rfl, Nat.le_refl _, Nat.zero_le _, fun h => absurd h (Nat.lt_irrefl 0)⟩
theorem rflds_nil (B : Nat) (w : World) (p : Option Addr) : RFlds B w (.slice p 0 0) [] := ⟨p, 0, rfl, Nat.le_refl _, Nat.zero_le _, fun h => absurd h (Nat.lt_irrefl 0)⟩
theorem headR_len {m : ByteArray} {T : List UInt8} {n : ByteArray} {r : List UInt8} (h : headR m T = some (n, r)) : r.length ≤ T.length := by
  unfold headR at h
  split at h
  · cases h
  · split at h
    · split at h
      · cases h
        simp only [List.length_drop]; omega
      · cases h
    · cases h
      simp only [List.length_drop]; omega
theorem segMd_fits {m : ByteArray} {T : List UInt8} {s : ByteArray × Flds} (hT : T.length ≤ 8000) (h : segMd m T = some s) : Fits s.2 := by
  unfold segMd at h
  obtain ⟨⟨n, r⟩, h1, h2⟩ := Option.bind_eq_some_iff.1 h
  obtain ⟨fs, h3, h4⟩ := Option.bind_eq_some_iff.1 h2
  cases h4
  have hl := headR_len h1
  have h3 : fldsM m r = some fs := h3
  cases r with
  | nil =>
    have : fs = [] := by simpa [fldsM] using h3.symm
    subst this
    exact ⟨by simp, fun i hi => absurd hi (Nat.not_lt_zero _)⟩
  | cons a r =>
    simp only [List.length_cons] at hl
    by_cases ha : a = bAt m 0
    · rw [fldsM, if_pos ha] at h3
      cases h3
      obtain ⟨k1, k2⟩ := cutM_small empL (bAt m 0) (fldM m) r
      show Fits (trimR empL ((cutL (bAt m 0) r).map (fldM m)))
      refine ⟨by omega, fun i hi => ?_⟩
      obtain ⟨p, hp, e⟩ := k2 _ (List.getElem_mem hi)
      have h9 := fldM_small m p (by omega)
      rw [← e] at h9
      exact h9
    · rw [fldsM, if_neg ha] at h3
      cases h3
theorem fldB_w15 {x : List (List (List ByteArray))} (h : fldB x = true) : wFld x ≤ 15305 := by
  have h1 : ∀ s : ByteArray, subB s = true → s.size ≤ 60 := fun s hs => by
    simp only [subB, Bool.and_eq_true, decide_eq_true_eq] at hs; omega
  have h2 : ∀ c : List ByteArray, compB c = true → wComp c ≤ 305 := fun c hc => right_w h1 hc
  have h3 : ∀ r : List (List ByteArray), repB r = true → wRep r ≤ 3060 := fun r hr => right_w h2 hr
  exact right_w h3 h
theorem segB_w {n : ByteArray} {x : Flds} (h : segB n x = true) : wFlds x ≤ 1048576 := by
  have : wL wFld x ≤ 30 + 30 * 15305 := right_w (fun y hy => fldB_w15 hy) (segB_right h)
  have h2 : wFlds x = wL wFld x := rfl
  omega
theorem segQ_right {m : ByteArray} {T : List UInt8} {s : ByteArray × Flds} (h : segQ m T = some s) : segB s.1 s.2 = true := by
  unfold segQ at h
  obtain ⟨g, _, h2⟩ := Option.bind_eq_some_iff.1 h
  obtain ⟨fs, _, h4⟩ := Option.bind_eq_some_iff.1 h2
  by_cases hb : segB g.1 fs = true
  · rw [if_pos hb] at h4
    cases h4
    exact hb
  · rw [if_neg hb] at h4
    cases h4
theorem segOut_w (m t : ByteArray) : wFlds (segOut m t).2.2 ≤ 1048576 := by
  unfold segOut
  split
  · split
    · rename_i s hs
      exact segB_w (segQ_right hs)
    · simp [wFlds, wL]
  · simp [wFlds, wL]
theorem segQ_yes {m : ByteArray} {T : List UInt8} {n : ByteArray} {F : Flds} (h : marksB m = true) (h1 : segMd m T = some (n, F)) (hb : segB n F = true) (ht : segT m n F = T) : segQ m T = some (n, F) := (segQ_iff h T _).2 ⟨h1, hb, ht⟩
theorem segQ_no {m : ByteArray} {T : List UInt8} {n : ByteArray} {F : Flds} (h : marksB m = true) (h1 : segMd m T = some (n, F)) (hn : ¬ (segB n F = true ∧ segT m n F = T)) : segQ m T = none := by
  cases hq : segQ m T with
  | none => rfl
  | some s =>
    have h2 := (segQ_iff h T s).1 hq
    rw [h1] at h2
    cases h2.1
    exact absurd h2.2 hn
theorem segQ_none {m : ByteArray} {T : List UInt8} (h : marksB m = true) (h1 : segMd m T = none) : segQ m T = none := by
  cases hq : segQ m T with
  | none => rfl
  | some s =>
    have h2 := (segQ_iff h T s).1 hq
    rw [h1] at h2
    cases h2.1

end Go.Proofs.YtckcfjibiidafaaGreat
/- A Message that is read: of the program. -/
namespace Go.Proofs.YtckcfjibiidafaaGreat
open Go.RowKit
theorem below_drewNM {B : Nat} {w w' : World} (h : Below B w w') (n : Nat) : Below B w (w'.drewN n) := ⟨h.os, h.tape, h.output, h.size, h.block⟩
theorem piecesL_ne {c : UInt8} {T : List UInt8} (h : T ≠ []) : piecesL c T = cutL c T := if_neg h
/-- The lines that linesOf hands back, out of L: all but the last one, which is empty; or all. -/
def LinesRes (b0 : Nat) (L : List (List UInt8)) (e : Ending) (w' : World) : Prop :=
  ∃ g n c b, e = .returned (.tuple #[.slice (some ⟨g, 0, none⟩) n c, .bool b]) ∧ b0 ≤ g ∧ g < w'.heap.size ∧ n ≤ c ∧ c ≤ maxLen ∧ (∃ cs, Row w' g 9 cs ∧ ∀ j (hj : j < L.length), cs[j]? = some (.string (asB L[j]))) ∧ ((b = true ∧ linesQ L = some (L.take n) ∧ n < L.length) ∨ (b = false ∧ linesQ L = none))
theorem linesQ_yes {L : List (List UInt8)} {K : Nat} (hK : L.length = K + 1) (h : L[K]? = some []) : linesQ L = some (L.take K) := by
  unfold linesQ
  have e : L.getLast? = some [] := by rw [List.getLast?_eq_getElem?, hK]; exact h
  rw [if_pos e, List.dropLast_eq_take, hK]
  rfl
theorem linesQ_no {L : List (List UInt8)} {K : Nat} {l : List UInt8} (hK : L.length = K + 1) (h : L[K]? = some l) (hl : l ≠ []) : linesQ L = none := by
  unfold linesQ
  rw [if_neg (by rw [List.getLast?_eq_getElem?, hK]; show ¬ L[K]? = _; rw [h]; simpa using hl)]
set_option maxHeartbeats 4000000 in
set_option maxRecDepth 100000 in
theorem linesOf_any (m t : ByteArray) (w : World) (h0 : t.data.toList ≠ []) (ht : t.size ≤ 8000) :
    Calls Tryz.prog 32 #[.agg #[.string m, .bool false], .string t] w fun e w' => LinesRes w.heap.size (cutL 13 t.data.toList) e w' ∧ Below w.heap.size w w' := by
  obtain ⟨L, hL⟩ : ∃ L, L = cutL 13 t.data.toList := ⟨_, rfl⟩
  rw [← hL]
  have HLL := hide hL
  clear hL
  obtain ⟨W, hW⟩ : ∃ W, W = w.alloc (.cells #[.string m, .bool false] 47) := ⟨_, rfl⟩
  have HBW := hide (show Below w.heap.size w W by rw [hW]; exact (Below.refl _ _).alloc (Nat.le_refl _) _)
  have HR1 := hide (show Row W w.heap.size 47 [.string m, .bool false] by rw [hW]; exact row_new w [.string m, .bool false] 47)
  go_enter Tryz.func32, Tryz.ntmps32
  go_wp2_with fail
  rw [← hW]
  clear hW
  refine (cutAt_any t 13 _ (by omega) (by decide)).mono ?_
  rintro e w1 ⟨v, rfl, ho, hb⟩
  rw [piecesL_ne h0] at ho
  obtain ⟨g, c, rfl, hc1, hc2, hg1, hg2, cs, hrow, hcell⟩ := pieces_row ho
  have HPL := hide (cutL_len 13 t.data.toList)
  have hL := HLL.out
  rw [← hL] at hcell hc2 HPL ⊢
  have HCE := hide hcell
  have HROW := hide hrow
  obtain ⟨K, hK⟩ : ∃ K, L.length = K + 1 := by
    obtain ⟨p, ps, e⟩ := cutL_some 13 t.data.toList
    exact ⟨ps.length, by rw [hL, e]; rfl⟩
  have HK := hide hK
  have HB1 := hide (HBW.out.trans (hb.mono HBW.out.size))
  have HR1b := hide (HR1.out.below hb HR1.out.lt)
  have HGB := hide (show w.heap.size ≤ g from Nat.le_trans HBW.out.size hg2)
  have HGS := hide hg1
  have HCM := hide hc1
  have r1 : w1.cell? ⟨w.heap.size, 1, none⟩ = some (.bool false) := HR1b.out.cell 1
  have cK : w1.cell? ⟨g, K, none⟩ = some (.string (asB (L[K]'(by omega)))) := by rw [hrow.cell]; exact hcell K (by omega)
  have hKL : (K : Int) ≤ 8000 := by
    have h1 := HPL.out.1
    have h2 : t.data.toList.length = t.size := by simp
    omega
  have hKn : K < 100000 := by omega
  have hc3 : K + 1 ≤ c := by omega
  have hcm := hc1
  unfold maxLen at hcm
  clear hL ho hb hrow hcell hg1 hg2 hc1
  rw [hK] at hc2 ⊢
  have hsub : ((K + 1 : Nat) : Int) - 1 = (K : Int) := by omega
  have hge : (0 : Int) ≤ (K : Int) := by omega
  have hlt : (K : Int) < ((K + 1 : Nat) : Int) := by omega
  have hKc : (K : Int) ≤ (c : Int) := by omega
  have hKe : L[K]? = some (L[K]'(by omega)) := List.getElem?_eq_getElem _
  obtain ⟨l, hl⟩ : ∃ l, l = L[K]'(by omega) := ⟨_, rfl⟩
  rw [← hl] at cK hKe
  have HLE := hide hKe
  clear hl hKe hK
  cases l with
  | nil =>
    have he : ((asB []).toList == []) = true := by rw [show asB [] = ⟨#[]⟩ from rfl]; simp
    have HQ := hide (linesQ_yes HK.out HLE.out)
    go_wp2
    exact bodyPost_ret (v := .tuple #[.slice (some ⟨g, 0, none⟩) K c, .bool true]) (by simp [results, Tryz.results32, go_sem]) rfl ⟨⟨g, K, c, true, rfl, HGB.out, HGS.out, by omega, HCM.out, ⟨cs, HROW.out, HCE.out⟩, .inl ⟨rfl, HQ.out, by have := HK.out; omega⟩⟩, HB1.out⟩
  | cons a q =>
    have he : ((asB (a :: q)).toList == []) = false := by
      have h0 : asB (a :: q) ≠ ⟨#[]⟩ := fun e => by
        have h2 := congrArg ByteArray.size e
        rw [asB_size] at h2
        exact absurd h2 (Nat.succ_ne_zero _)
      simpa using toList_neF h0
    have HQ := hide (linesQ_no HK.out HLE.out (List.cons_ne_nil a q))
    go_wp2_with fail
    go_quiet (fail)
    go_wp2
    exact bodyPost_ret (v := .tuple #[.slice (some ⟨g, 0, none⟩) (K + 1) c, .bool false]) (by simp [results, Tryz.results32, go_sem]) rfl ⟨⟨g, K + 1, c, false, rfl, HGB.out, HGS.out, by omega, HCM.out, ⟨cs, HROW.out, HCE.out⟩, .inr ⟨rfl, HQ.out⟩⟩, below_drewNM HB1.out _⟩
theorem row_cellsP {w : World} {g : Nat} {T : TypeId} {cs : List Value} (h : Row w g T cs) : ∀ j u, cs[j]? = some u → w.cell? ((⟨g, 0, none⟩ : Addr).add j) = some u := by
  intro j u hu
  have ea : (⟨g, 0, none⟩ : Addr).add j = ⟨g, j, none⟩ := by unfold Addr.add; split <;> simp_all
  rw [ea, h.cell, hu]

/-- What message hands back: the Segments of R, or nothing. -/
def MsgRes (lo : Nat) (m : ByteArray) (R : Option (List Seg)) (e : Ending) (w' : World) : Prop :=
  ∃ n u b xs, e = .returned (.tuple #[.agg #[.string n, u], .bool b]) ∧ OSegs lo w'.heap.size w' u xs ∧ R = (if b then some xs else none) ∧ (b = true → n = m)
theorem osegs_nil (lo hi : Nat) (w : World) (p : Option Addr) : OSegs lo hi w (.slice p 0 0) [] := ⟨p, 0, rfl, Nat.le_refl _, Nat.zero_le _, fun h => absurd h (Nat.lt_irrefl 0)⟩
def linR (m : ByteArray) (L : List (List UInt8)) : Option (List Seg) := (linesQ L).bind fun ls => (mapO (segQ m) ls).bind fun xs => if msgT m xs = ⟨#[]⟩ then none else some xs
theorem mapO_snoc {γ β : Type} {f : γ → Option β} : ∀ (ps : List γ) (xs : List β) (p : γ) (x : β), mapO f ps = some xs → f p = some x → mapO f (ps ++ [p]) = some (xs ++ [x])
  | [], xs, p, x, h, h2 => by
    have : xs = [] := by simpa [mapO] using h.symm
    subst this
    simp [mapO, h2]
  | q :: r, xs, p, x, h, h2 => by
    cases hq : f q with
    | none => simp [mapO, hq] at h
    | some y =>
      cases hr : mapO f r with
      | none => simp [mapO, hq, hr] at h
      | some ys =>
        have : xs = y :: ys := by simpa [mapO, hq, hr] using h.symm
        subst this
        have := mapO_snoc r ys p x hr h2
        simp [mapO, hq, this]
theorem mapO_bad {γ β : Type} {f : γ → Option β} : ∀ (ps : List γ) (k : Nat) (h : k < ps.length), f ps[k] = none → mapO f ps = none
  | q :: r, 0, h, e => by
    have : f q = none := e
    simp [mapO, this]
  | q :: r, k + 1, h, e => by
    have h2 : k < r.length := by simpa using h
    have := mapO_bad r k h2 (by simpa using e)
    cases hq : f q with
    | none => simp [mapO, hq]
    | some y => simp [mapO, hq, this]
theorem segs_fit {m : ByteArray} {ls : List (List UInt8)} {xs : List Seg} (h : mapO (segQ m) ls = some xs) (hl : ls.length ≤ 8001) : FitsM xs := by
  have h1 := mapO_len _ _ h
  refine ⟨by omega, fun i hi => ?_⟩
  obtain ⟨p, _, e⟩ := mapO_mem _ _ h _ (List.getElem_mem hi)
  exact fits_of (segB_w (segQ_right e))
set_option maxHeartbeats 8000000 in
set_option maxRecDepth 100000 in
theorem implMessageTextF_any (m : ByteArray) (u : Value) (x : List Seg) (w : World) (hm : m.size ≤ maxLen) (hn : FitsM x) (hr : RSegs 0 w u x) :
    Calls Tryz.prog 35 #[.agg #[.string m, u]] w fun e w' => e = .returned (.string (msgT m x)) ∧ Below w.heap.size w w' := by
  have HSZ := hide hn
  have HR := hide hr
  obtain ⟨p, cap, rfl, h1, h2, h4⟩ := hr
  have H4 := hide h4
  clear h4
  unfold maxLen at h2
  have HB0 := hide ((Below.refl w.heap.size w).alloc (Nat.le_refl _) (.cells #[.string m, .slice p x.length cap] 24))
  have HR0 := hide (HR.out.below HB0.out)
  have HRow0 := hide (row_new w [.string m, .slice p x.length cap] 24)
  clear HR
  go_enter Tryz.func35, Tryz.ntmps35
  go_wp2_with fail
  refine (implMessage_any m _ x _ hm HSZ.out HR0.out).mono ?_
  rintro e w1 ⟨rfl, hb1⟩
  have HB1 := hide (HB0.out.trans (hb1.mono (by simp)))
  have row1 := HRow0.out.below hb1 HRow0.out.lt
  have c1 : w1.cell? ⟨w.heap.size, 1, none⟩ = some (.slice p x.length cap) := row1.cell 1
  have b1 : w1.cell? ⟨w.heap.size, 0, none⟩ = some (.string m) := row1.cell 0
  have HRow1 := hide row1
  clear hb1 row1
  cases hp : msgB m x
  · go_wp2
    go_ret
    exact ⟨ret_str (msgT_no hp).symm, HB1.out⟩
  obtain ⟨hmk, hl, hok⟩ := msgB_parts hp
  have hm5 := marksB_five hmk
  have HOKS := hide hok
  clear hok hmk
  go_wp2_with fail
  go_loopw [3, 12] (fun v' i wr => ∃ (X : World) (k : Nat), X = wr ∧ k ≤ x.length ∧ i = .int .i64 k ∧ Hid (Buf 5 w1.heap.size w1 X v' (wholeT m (x.take k))) ∧ Hid ((wholeT m (x.take k)).length ≤ 8000)) (fun _ i _ => x.length - (intOf i).toNat)
  case atStart => exact ⟨_, 0, rfl, Nat.zero_le _, rfl, by rw [List.take_zero]; exact hide (Buf.nil _ (Nat.le_refl _)), by rw [List.take_zero]; exact (by simp [wholeT] : (wholeT m []).length ≤ 8000)⟩
  case round =>
    obtain ⟨X, k, rfl, hk, rfl, HBf, HL8⟩ := hrel
    by_cases hlt : k < x.length
    · obtain ⟨g, off, hpp, hg, _, hc⟩ := H4.out (by omega)
      subst hpp
      obtain ⟨ha, _, v, hv, hrv⟩ := hc k hlt
      have hXB : Below w.heap.size w X := HB1.out.trans (HBf.out.below.mono HB1.out.size)
      have hk0 := (hXB.cell (p := ⟨g, off + k * 2, none⟩) hg).trans ha
      have hk1 := (hXB.cell (p := ⟨g, off + k * 2 + 1, none⟩) hg).trans hv
      have HUV := hide (flds_under (hrv.below HB1.out))
      obtain ⟨vp, vc, rfl⟩ := hrv.isSlice
      have HX1 := hide (HBf.out.alloc (.cells #[.string (x[k]'hlt).1, .slice vp (x[k]'hlt).2.length vc] 41))
      have rowM := (msgRow_kept HBf.out HRow1.out).alloc (.cells #[.string (x[k]'hlt).1, .slice vp (x[k]'hlt).2.length vc] 41)
      have b2 : (X.alloc (.cells #[.string (x[k]'hlt).1, .slice vp (x[k]'hlt).2.length vc] 41)).cell? ⟨w.heap.size, 0, none⟩ = some (.string m) := rowM.cell 0
      have HOK := hide (HOKS.out k hlt)
      have HSN := hide (wholeT_snoc m x k hlt)
      have HSL := hide (segT_len (m := m) hm5 (HOKS.out k hlt))
      have HPR := hide (wholeT_pre m x (k + 1))
      clear ha hv hrv hc hXB rowM
      go_wp2_with fail
      refine (appSegment _ (wholeT m (x.take k)) w1.heap.size m (x[k]'hlt).1 _ (x[k]'hlt).2 _ hm5 HOK.out (by have := HL8.out; omega) HX1.out.size HX1.out.own (Under.go HX1.out.below HUV.out)).mono ?_
      rintro e w5 ⟨v5, rfl, hb5⟩
      obtain ⟨A1, hA1⟩ : ∃ A1, A1 = wholeT m (x.take k) ++ segT m (x[k]'hlt).1 (x[k]'hlt).2 := ⟨_, rfl⟩
      have HAN : Hid (wholeT m (x.take (k + 1)) = A1 ++ [13]) := by rw [HSN.out, hA1, List.append_assoc]; exact rfl
      have HAL := hide (show A1.length ≤ 1408000 by have h1 := HL8.out; have h2 := HSL.out; rw [hA1, List.length_append]; omega)
      rw [← hA1] at hb5
      have HB5 := hide (HX1.out.trans hb5)
      have HBs := hide ((Buf.start hb5.own hb5.size).alloc (.cells #[.int .u8 13] 5))
      have HC := hide (heap_alloc_new w5 (.cells #[.int .u8 13] 5))
      have HL3 := hide (show A1.length + [(13 : UInt8)].length ≤ 100000000 by have h1 := HAL.out; simp only [List.length_cons, List.length_nil]; omega)
      clear hb5 hA1 HSN hk0 hk1 b2
      go_wp2_with (at_builtin; refine wpList_buf (w0 := w5) rfl (.tmp 20) (.tmp 21) 74 rfl w1.heap.size 5 Tryz.underlying74 Tryz.infoByte v5 A1 rfl HBs.out w5.heap.size 1 [13] rfl rfl ⟨_, HC.out⟩ HL3.out ?_)
      intro v6 w6 hb6
      have HB6 : Hid (Buf 5 w1.heap.size w1 w6 v6 (wholeT m (x.take (k + 1)))) := by rw [HAN.out]; exact HB5.out.trans hb6
      obtain ⟨q6, c6, rfl⟩ := HB6.out.shape
      clear hb6
      by_cases h8 : (wholeT m (x.take (k + 1))).length ≤ 8000
      · have h8' : ¬ 8000 < (((wholeT m (x.take (k + 1))).length : Nat) : Int) := by omega
        have H8 := hide h8
        go_wp2
        go_roundw
        case rel => exact ⟨_, k + 1, rfl, by omega, by go_num, HB6, H8⟩
        case measure => simp [intOf]; omega
      · have h8' : 8000 < (((wholeT m (x.take (k + 1))).length : Nat) : Int) := by omega
        have HE := hide (msgT_long (m := m) (xs := x) (by have := HPR.out; omega))
        have HBE := hide (HB1.out.trans (HB6.out.below.mono HB1.out.size))
        go_wp2
        go_ret
        exact ⟨ret_str HE.out.symm, HBE.out⟩
    · have e1 : x.take k = x := List.take_of_length_le (by omega)
      rw [e1] at HBf HL8
      have HE := hide (msgT_yes hp HL8.out)
      have hcv := HBf.out.text (P := Tryz.prog) Tryz.underlying74 Tryz.underlying5 Tryz.underlying9
      have HBE := hide (HB1.out.trans (HBf.out.below.mono HB1.out.size))
      go_wp2
      go_ret
      exact ⟨ret_str HE.out.symm, HBE.out⟩


set_option maxHeartbeats 32000000 in
set_option maxRecDepth 100000 in
theorem messageR_any (m t : ByteArray) (w : World) (hm : marksB m = true) (h0 : t.data.toList ≠ []) (ht : t.size ≤ 8000) :
    Calls Tryz.prog 21 #[.agg #[.string m, .bool false], .string t] w fun e w' => MsgRes w.heap.size m (linR m (cutL 13 t.data.toList)) e w' ∧ Below w.heap.size w w' := by
  obtain ⟨i0, hi, hz0, hz1, hz2⟩ := info_parts Tryz.infoSegment
  have HZC := hide (show (Value.agg #[.string ⟨#[]⟩, .slice none 0 0]).cells.size = 2 from rfl)
  have HM5 := hide (marks_five hm)
  have HMB := hide hm
  have HPL := hide (cutL_len 13 t.data.toList)
  have HTL := hide (show t.data.toList.length = t.size by simp)
  obtain ⟨L, hL⟩ : ∃ L, L = cutL 13 t.data.toList := ⟨_, rfl⟩
  rw [← hL] at HPL ⊢
  have HLL := hide hL
  obtain ⟨R, hR⟩ : ∃ R, R = linR m L := ⟨_, rfl⟩
  rw [← hR]
  have HRX := hide hR
  clear hL hR hm
  obtain ⟨W, hW⟩ : ∃ W, W = (w.alloc (.cells #[.string m, .bool false] 47)).alloc (.cells #[.string ⟨#[]⟩, .slice none 0 0] 24) := ⟨_, rfl⟩
  have HBW := hide (show Below w.heap.size w W by rw [hW]; exact ((Below.refl _ _).alloc (Nat.le_refl _) _).alloc (by simp) _)
  have HWs := hide (show W.heap.size = w.heap.size + 2 by rw [hW]; simp)
  have HR1 := hide (show Row W w.heap.size 47 [.string m, .bool false] by rw [hW]; exact (row_new w [.string m, .bool false] 47).alloc _)
  have HR2 := hide (show Row W (w.heap.size + 1) 24 [.string ⟨#[]⟩, .slice none 0 0] by
    rw [hW]
    have := row_new (w.alloc (.cells #[.string m, .bool false] 47)) [.string ⟨#[]⟩, .slice none 0 0] 24
    simpa using this)
  go_enter Tryz.func21, Tryz.ntmps21
  go_wp2_with fail
  rw [← hW]
  clear hW
  refine (linesOf_any m t _ h0 ht).mono ?_
  rintro e w1 ⟨⟨g, n, c, b, rfl, hg1, hg2, hnc, hcm, ⟨cs, hrow, hcell⟩, hq⟩, hb1⟩
  have hL := HLL.out
  rw [← hL] at hcell hq
  clear hL
  have HB1 := hide (HBW.out.trans (hb1.mono HBW.out.size))
  have HR1b := hide (HR1.out.below hb1 HR1.out.lt)
  have HR2b := hide (HR2.out.below hb1 HR2.out.lt)
  have HGW := hide (show w.heap.size + 2 ≤ g by have := HWs.out; omega)
  have HRL0 := hide hrow
  have HCE := hide hcell
  clear hb1 hrow hcell hg1 hg2
  rcases hq with ⟨rfl, hq, hnl⟩ | ⟨rfl, hq⟩
  case inr =>
    have HLQ := hide hq
    clear hq
    obtain rfl : R = none := by rw [HRX.out]; unfold linR; rw [HLQ.out]; rfl
    have k0 : w1.cell? ⟨w.heap.size + 1, 0, none⟩ = some (.string ⟨#[]⟩) := HR2b.out.cell 0
    have k1 : w1.cell? ⟨w.heap.size + 1, 1, none⟩ = some (.slice none 0 0) := HR2b.out.cell 1
    have f0 := HR2b.out.free 0
    have f1 := HR2b.out.free 1
    have t2 := (HR2b.out.set (j := 0) (.string ⟨#[]⟩)).set (j := 1) (.slice none 0 0)
    have q0 : ((w1.setCell ⟨w.heap.size + 1, 0, none⟩ (.string ⟨#[]⟩)).setCell ⟨w.heap.size + 1, 1, none⟩ (.slice none 0 0)).cell? ⟨w.heap.size + 1, 0, none⟩ = some (.string ⟨#[]⟩) := t2.cell 0
    have q1 : ((w1.setCell ⟨w.heap.size + 1, 0, none⟩ (.string ⟨#[]⟩)).setCell ⟨w.heap.size + 1, 1, none⟩ (.slice none 0 0)).cell? ⟨w.heap.size + 1, 1, none⟩ = some (.slice none 0 0) := t2.cell 1
    have HBF := hide ((HB1.out.setCell (p := ⟨w.heap.size + 1, 0, none⟩) (by show w.heap.size ≤ w.heap.size + 1; omega) (.string ⟨#[]⟩)).setCell (p := ⟨w.heap.size + 1, 1, none⟩) (by show w.heap.size ≤ w.heap.size + 1; omega) (.slice none 0 0))
    clear t2
    go_wp2
    exact bodyPost_ret (v := .tuple #[.agg #[.string ⟨#[]⟩, .slice none 0 0], .bool false]) (by simp [results, Tryz.results21, go_sem, q0, q1]) rfl ⟨⟨⟨#[]⟩, _, false, [], rfl, osegs_nil _ _ _ _, rfl, fun h => by cases h⟩, HBF.out⟩

  obtain ⟨ls, hls⟩ : ∃ ls, ls = L.take n := ⟨_, rfl⟩
  have HLQ := hide (show linesQ L = some ls by rw [hls]; exact hq)
  have HLN := hide (show ls.length = n by rw [hls, List.length_take]; omega)
  have HCL := hide (show ∀ j (hj : j < n), cs[j]? = some (.string (asB (ls[j]'(by rw [HLN.out]; exact hj)))) from fun j hj => by
    have h := HCE.out j (by omega)
    rw [h]
    congr 3
    simp [hls])
  have HLS := hide (show ls.length ≤ 8001 by have h1 := HPL.out.1; have h2 := HTL.out; have h3 := HLN.out; omega)
  have HLZ := hide (show ∀ j (hj : j < ls.length), ls[j].length ≤ 8000 from fun j hj => by
    have h0 : ∀ y ∈ ls, y ∈ L := by rw [hls]; exact fun y hy => List.mem_of_mem_take hy
    have h1 := HPL.out.2 _ (h0 _ (List.getElem_mem hj))
    have h2 := HTL.out
    omega)
  have hn1 : n ≤ 8001 := by have := HLS.out; have := HLN.out; omega
  unfold maxLen at hcm
  clear hls hq hnl HCE
  have a0 : w1.cell? ⟨w.heap.size, 0, none⟩ = some (.string m) := HR1b.out.cell 0
  go_wp2_with fail
  refine (clone_any m _ (by have := HM5.out; omega)).mono ?_
  rintro e w2 ⟨rfl, hb2⟩
  obtain ⟨V, hV⟩ : ∃ V, V = w2.alloc (.cells #[.string m, .slice none 0 0] 24) := ⟨_, rfl⟩
  have hv1 : Below w2.heap.size w2 V := by rw [hV]; exact (Below.refl _ _).alloc (Nat.le_refl _) _
  have hb12 := hb2.trans (hv1.mono hb2.size)
  have HBV := hide (HB1.out.trans (hb12.mono HB1.out.size))
  have HR1v := hide (HR1b.out.below hb12 HR1b.out.lt)
  have HR2v := hide (HR2b.out.below hb12 HR2b.out.lt)
  have HRLv := hide (HRL0.out.below hb12 HRL0.out.lt)
  have HRMv := hide (show Row V w2.heap.size 24 [.string m, .slice none 0 0] by rw [hV]; exact row_new w2 [.string m, .slice none 0 0] 24)
  have HM9 := hide (show w.heap.size + 2 ≤ w2.heap.size ∧ g < w2.heap.size ∧ w2.heap.size < V.heap.size from ⟨Nat.le_trans (Nat.le_of_lt_succ (Nat.lt_succ_of_le (by have h1 := HGW.out; have h2 := HRL0.out.lt; omega : w.heap.size + 2 ≤ w1.heap.size))) hb2.size, Nat.lt_of_lt_of_le HRL0.out.lt hb2.size, by rw [hV]; simp⟩)
  clear hb2 hv1 hb12 a0
  go_wp2_with fail
  rw [← hV]
  obtain ⟨M, hM⟩ : ∃ M, M = w2.heap.size := ⟨_, rfl⟩
  rw [← hM] at HRMv HM9
  try rw [← hM]
  clear hV hM
  go_loopw [28] (fun i wr => ∃ (Z : World) (k : Nat) (lf : Value) (vs : List Value) (xs : List Seg), Z = wr ∧ k ≤ n ∧ i = .int .i64 (k : Int) ∧ Hid (Row Z M 24 [.string m, lf]) ∧ Hid (Z.ownsRow V.heap.size 41 2 lf xs.length vs) ∧ Hid (GrowG V.heap.size Z lf vs xs) ∧ Hid (mapO (segQ m) (ls.take k) = some xs) ∧ Hid (Only M V Z)) (fun i _ => n - (intOf i).toNat)
  case atStart => exact ⟨_, 0, _, [], [], rfl, Nat.zero_le _, rfl, HRMv, hide (World.ownsRow_nil V V.heap.size 41 2), hide GrowG.nil, hide rfl, hide (Only.refl _ _)⟩
  case round =>
    obtain ⟨Z, k, lf, vs, xs, rfl, hk, rfl, HRM, HOF, HGF, HMX, HNZ⟩ := hrel
    have HBZ := hide (HNZ.out.toBelow HBV.out HBV.out.size (by have := HM9.out; omega))
    have HRES := hide (HNZ.out.row HR2v.out (by have := HM9.out; omega))
    have HRDR := hide (HNZ.out.row HR1v.out (by have := HM9.out; omega))
    have HRLI := hide (HNZ.out.row HRLv.out (by have := HM9.out; omega))
    by_cases hltk : k < n
    · have HXL := hide (show xs.length ≤ 8001 by have h1 := mapO_len _ _ HMX.out; rw [List.length_take] at h1; omega)
      have hkl : k < ls.length := by rw [HLN.out]; exact hltk
      have hki0 : (0 : Int) ≤ (k : Int) := by omega
      have hki : (k : Int) < (n : Int) := by omega
      have ck : Z.cell? ⟨g, k, none⟩ = some (.string (asB (ls[k]'hkl))) := by rw [HRLI.out.cell]; exact HCL.out k hltk
      have d0 : Z.cell? ⟨w.heap.size, 0, none⟩ = some (.string m) := HRDR.out.cell 0
      have d1 : Z.cell? ⟨w.heap.size, 1, none⟩ = some (.bool false) := HRDR.out.cell 1
      go_wp2_with fail
      refine (segmentR_any m (asB (ls[k]'hkl)) _ HMB.out (by rw [asB_size]; exact HLZ.out k hkl)).mono ?_
      rintro e Z1 ⟨⟨n2, u2, b, x, rfl, hox, hn3, hrb⟩, hb3⟩
      rw [show (asB (ls[k]'hkl)).data.toList = ls[k]'hkl by simp [asB]] at hrb
      obtain ⟨p4, c4, rfl⟩ := OL.isSlice hox
      have HN3 := hide hn3
      have HOX := hide hox
      have HZ3 := hide hb3
      have HBZ1 := hide (HBZ.out.trans (hb3.mono HBZ.out.size))
      clear hox hb3 hn3 ck d0 d1
      cases b with
      | false =>
        have HLB := hide (show mapO (segQ m) ls = none from mapO_bad ls k hkl hrb)
        have HBY := hide (HBZ1.out.trans (((Below.refl Z1.heap.size Z1).alloc (Nat.le_refl _) (.cells #[.string n2, .slice p4 x.length c4] 41)).mono HBZ1.out.size))
        have HRESy := hide ((HRES.out.below HZ3.out HRES.out.lt).alloc (.cells #[.string n2, .slice p4 x.length c4] 41))
        clear hrb
        obtain rfl : R = none := by rw [HRX.out]; unfold linR; rw [HLQ.out]; show (mapO (segQ m) ls).bind _ = _; rw [HLB.out]; rfl
        have k0 : (Z1.alloc (.cells #[.string n2, .slice p4 x.length c4] 41)).cell? ⟨w.heap.size + 1, 0, none⟩ = some (.string ⟨#[]⟩) := HRESy.out.cell 0
        have k1 : (Z1.alloc (.cells #[.string n2, .slice p4 x.length c4] 41)).cell? ⟨w.heap.size + 1, 1, none⟩ = some (.slice none 0 0) := HRESy.out.cell 1
        have f0 := HRESy.out.free 0
        have f1 := HRESy.out.free 1
        have t2 := (HRESy.out.set (j := 0) (.string ⟨#[]⟩)).set (j := 1) (.slice none 0 0)
        have q0 : (((Z1.alloc (.cells #[.string n2, .slice p4 x.length c4] 41)).setCell ⟨w.heap.size + 1, 0, none⟩ (.string ⟨#[]⟩)).setCell ⟨w.heap.size + 1, 1, none⟩ (.slice none 0 0)).cell? ⟨w.heap.size + 1, 0, none⟩ = some (.string ⟨#[]⟩) := t2.cell 0
        have q1 : (((Z1.alloc (.cells #[.string n2, .slice p4 x.length c4] 41)).setCell ⟨w.heap.size + 1, 0, none⟩ (.string ⟨#[]⟩)).setCell ⟨w.heap.size + 1, 1, none⟩ (.slice none 0 0)).cell? ⟨w.heap.size + 1, 1, none⟩ = some (.slice none 0 0) := t2.cell 1
        have HBF := hide ((HBY.out.setCell (p := ⟨w.heap.size + 1, 0, none⟩) (by show w.heap.size ≤ w.heap.size + 1; omega) (.string ⟨#[]⟩)).setCell (p := ⟨w.heap.size + 1, 1, none⟩) (by show w.heap.size ≤ w.heap.size + 1; omega) (.slice none 0 0))
        clear t2
        go_wp2
        exact bodyPost_ret (v := .tuple #[.agg #[.string ⟨#[]⟩, .slice none 0 0], .bool false]) (by simp [results, Tryz.results21, go_sem, q0, q1]) rfl ⟨⟨⟨#[]⟩, _, false, [], rfl, osegs_nil _ _ _ _, rfl, fun h => by cases h⟩, HBF.out⟩

      | true =>
        have HXQ := hide (show segQ m (ls[k]'hkl) = some (n2, x) from hrb)
        clear hrb
        have HRM1 := hide (HRM.out.below HZ3.out HRM.out.lt)
        obtain ⟨Y1, hY1⟩ : ∃ Y, Y = Z1.alloc (.cells #[.string n2, .slice p4 x.length c4] 41) := ⟨_, rfl⟩
        obtain ⟨Y2, hY2⟩ : ∃ Y, Y = Y1.alloc (.cells #[.string n2, .slice p4 x.length c4] 41) := ⟨_, rfl⟩
        have hy1 : Below Z1.heap.size Z1 Y1 := by rw [hY1]; exact (Below.refl _ _).alloc (Nat.le_refl _) _
        have hy2 : Below Y1.heap.size Y1 Y2 := by rw [hY2]; exact (Below.refl _ _).alloc (Nat.le_refl _) _
        have hy12 := hy1.trans (hy2.mono hy1.size)
        have HZY := hide (HZ3.out.trans (hy12.mono HZ3.out.size))
        have HROW := hide (show Row Y2 (Z1.heap.size + 1) 41 [.string n2, .slice p4 x.length c4] by rw [show Z1.heap.size + 1 = Y1.heap.size by rw [hY1]; simp, hY2]; exact row_new Y1 [.string n2, .slice p4 x.length c4] 41)
        have HRMY := hide (HRM1.out.below hy12 HRM1.out.lt)
        have m1 : ((Z1.alloc (.cells #[.string n2, .slice p4 x.length c4] 41)).alloc (.cells #[.string n2, .slice p4 x.length c4] 41)).cell? ⟨M, 1, none⟩ = some lf := by have := HRMY.out.cell 1; rw [hY2, hY1] at this; exact this
        have m2 : (Z1.alloc (.cells #[.string n2, .slice p4 x.length c4] 41)).cell? ⟨M, 1, none⟩ = some lf := by have := (HRM1.out.below hy1 HRM1.out.lt).cell 1; rw [hY1] at this; exact this
        have m3 : Z1.cell? ⟨M, 1, none⟩ = some lf := HRM1.out.cell 1
        have HOY := hide (own_below HOF.out HZY.out)
        have HOXY := hide (Keeps.go (SameIn.ofBelow hy12) HOX.out)
        have HSZ := hide (show Z1.heap.size ≤ Y2.heap.size from hy12.size)
        have HVY := hide (show V.heap.size ≤ Z.heap.size ∧ V.heap.size ≤ Y2.heap.size by have h1 := HNZ.out.size; have h2 := HZY.out.size; omega)
        have HNY := hide (HNZ.out.below HZY.out)
        clear hy1 hy2 hy12
        go_wp2_with (rw [← hY1, ← hY2]; at_builtin; refine wpList_append_own_at Y2 rfl (.tmp 42) (.tmp 44) 22 rfl V.heap.size 41 i0 _ 2 40 Tryz.underlying22 hi hz0 hz1 hz2 HZC.out (by omega) _ xs.length vs rfl HOY.out ⟨Z1.heap.size + 1, 0, none⟩ 1 _ [.string n2, .slice p4 x.length c4] rfl rfl (row_cellsP HROW.out) (by simp [Value.oneCell']) (by unfold maxLen; have := HXL.out; omega) (by have := HXL.out; omega) (by exact HVY.out.2) ?_)
        intro v' w3 hown hgrow0 hnil hat0
        have hgrow : Y2.grownBy w3 lf.ownBlock := by rw [hY2, hY1]; exact hgrow0
        have hat : v'.ownBlock = lf.ownBlock ∨ v'.ownBlock = some Y2.heap.size := by rw [hY2, hY1]; simpa using hat0
        clear hgrow0 hat0
        obtain ⟨p9, c9, hv9⟩ := own_slice1 hown
        subst hv9
        have HO3 := hide (show w3.ownsRow V.heap.size 41 2 (.slice p9 (xs.length + 1) c9) (xs ++ [(n2, x)]).length (vs ++ [.string n2, .slice p4 x.length c4]) by rw [List.length_append]; exact hown)
        have HG3 := hide (show GrowG V.heap.size w3 (.slice p9 (xs.length + 1) c9) (vs ++ [.string n2, .slice p4 x.length c4]) (xs ++ [(n2, x)]) from
          HGF.out.snoc HOF.out.1 (fun g hg => HOF.out.lt g hg) HZY.out HVY.out.1 (Nat.le_refl _) HSZ.out (by unfold maxLen; have := HN3.out; omega) HOXY.out hgrow hat)
        have HN9 := hide (HNY.out.grownB hgrow (fun k hk => (HOY.out.lt k hk).1))
        have HRM3 := hide (row_grown HRMY.out hgrow (fun k hk => (HOY.out.lt k hk).1) HM9.out.2.2)
        have HMX9 := hide (show mapO (segQ m) (ls.take (k + 1)) = some (xs ++ [(n2, x)]) by rw [List.take_succ_eq_append_getElem hkl]; exact mapO_snoc _ _ _ _ HMX.out HXQ.out)
        have c9a : w3.cell? ⟨M, 1, none⟩ = some lf := HRM3.out.cell 1
        have f9a := HRM3.out.free 1
        have hMV := HM9.out.2.2
        have HS9 := hide (Same.set w3 (g := M) (j := 1) (.slice p9 (xs.length + 1) c9) hMV)
        have HOF9 := hide (own_sameB HO3.out HS9.out)
        have HGF9 := hide (HG3.out.same HS9.out)
        have HRM9 := hide (HRM3.out.set (j := 1) (.slice p9 (xs.length + 1) c9))
        have HNF := hide (HN9.out.set (j := 1) (.slice p9 (xs.length + 1) c9))
        clear hown hgrow hnil hat m1 m2 m3 hMV hY1 hY2
        go_wp2
        go_roundw
        case rel => exact ⟨_, k + 1, _, _, _, rfl, by omega, by go_num, HRM9, HOF9, HGF9, HMX9, HNF⟩
        case measure => simp [intOf]; omega
    · have ek : ls.take k = ls := List.take_of_length_le (by rw [HLN.out]; omega)
      obtain ⟨p3, c3, hl3⟩ : ∃ p c, lf = .slice p xs.length c := by
        obtain ⟨p, c, e⟩ := own_slice1 HOF.out
        exact ⟨p, c, e⟩
      subst hl3
      have HXS := hide (show mapO (segQ m) ls = some xs by have h := HMX.out; rw [ek] at h; exact h)
      have HFT := hide (segs_fit HXS.out HLS.out)
      have HRE := hide (show R = (if msgT m xs = ⟨#[]⟩ then none else some xs) by rw [HRX.out]; unfold linR; rw [HLQ.out]; show (mapO (segQ m) ls).bind _ = _; rw [HXS.out]; rfl)
      have HOS := hide (HGF.out.osegs HOF.out)
      have HRR := hide (HRES.out)
      clear ek HMX HOF HGF
      go_wp2_with fail
      refine wp_region_held (S := (fun y : World => y.cell? ⟨M, 0, none⟩ = some (.string m) ∧ y.cell? ⟨M, 1, none⟩ = some (.slice p3 xs.length c3))) (by kernel_rfl) ?_
      have HD := hide (show Below Z.heap.size Z { Z with drawn := Z.drawn + 1 } from (Below.refl _ _).drew)
      generalize ({ Z with drawn := Z.drawn + 1 } : World) = D0 at HD ⊢
      have HSY := hide (show ∀ y, Below Z.heap.size Z y → (fun y : World => y.cell? ⟨M, 0, none⟩ = some (.string m) ∧ y.cell? ⟨M, 1, none⟩ = some (.slice p3 xs.length c3)) y from fun y h => ⟨(HRM.out.below h HRM.out.lt).cell 0, (HRM.out.below h HRM.out.lt).cell 1⟩)
      have HRL := hide (show ∀ y, Below Z.heap.size Z y → RSegs 0 y (.slice p3 xs.length c3) xs from fun y h => RSegs.mono (OSegs.rl (HOS.out.keep (SameIn.ofBelow h))) (Nat.zero_le _))
      obtain ⟨FP, hFP⟩ : ∃ FP : World → Prop, FP = (fun V => Row V (w.heap.size + 1) 24 [.string m, .slice p3 xs.length c3] ∧ Below w.heap.size w V ∧ OSegs w.heap.size V.heap.size V (.slice p3 xs.length c3) xs ∧ Row V M 24 [.string m, .slice p3 xs.length c3]) := ⟨_, rfl⟩
      have HF1 : Hid (∀ Y, Below Z.heap.size Z Y → FP ((Y.setCell ⟨w.heap.size + 1, 0, none⟩ (.string m)).setCell ⟨w.heap.size + 1, 1, none⟩ (.slice p3 xs.length c3))) := hide (by
        rw [hFP]
        intro Y h
        have hsz := h.size
        have hM := HM9.out
        have es : ((Y.setCell ⟨w.heap.size + 1, 0, none⟩ (.string m)).setCell ⟨w.heap.size + 1, 1, none⟩ (.slice p3 xs.length c3)).heap.size = Y.heap.size := by simp [World.setCell]
        refine ⟨((HRR.out.below h HRR.out.lt).set (j := 0) _).set (j := 1) _, ((HBZ.out.trans (h.mono HBZ.out.size)).setCell (p := ⟨w.heap.size + 1, 0, none⟩) (by show w.heap.size ≤ w.heap.size + 1; omega) _).setCell (p := ⟨w.heap.size + 1, 1, none⟩) (by show w.heap.size ≤ w.heap.size + 1; omega) _, ?_, ((HRM.out.below h HRM.out.lt).other (b := w.heap.size + 1) (j := 0) (by omega) _).other (b := w.heap.size + 1) (j := 1) (by omega) _⟩
        rw [es]
        exact OSegs.wide (((HOS.out.keep (SameIn.ofBelow h)).keep (SameIn.set _ (.string m) (by omega))).keep (SameIn.set _ (.slice p3 xs.length c3) (by omega))) (by omega) hsz)
      have HFS : Hid (∀ V, FP V → (fun y : World => y.cell? ⟨M, 0, none⟩ = some (.string m) ∧ y.cell? ⟨M, 1, none⟩ = some (.slice p3 xs.length c3)) V) := hide (by rw [hFP]; exact fun V h => ⟨h.2.2.2.cell 0, h.2.2.2.cell 1⟩)
      have HF0 : Hid (∀ V, FP V → Row V (w.heap.size + 1) 24 [.string m, .slice p3 xs.length c3] ∧ Below w.heap.size w V ∧ OSegs w.heap.size V.heap.size V (.slice p3 xs.length c3) xs) := hide (by rw [hFP]; exact fun V h => ⟨h.1, h.2.1, h.2.2.1⟩)
      clear hFP
      have HS := hide (HSY.out _ HD.out)
      refine wpAnyH_take (i := 0) (oi := _) (v := .agg #[.string m, .slice p3 xs.length c3]) rfl (by kernel_rfl) (by kernel_rfl) (by kernel_rfl) (fun _ _ _ h => h) (Or.inl ⟨by rfl, by intro w hSw; go_split_ands; go_simp⟩) HS.out ?_
      simp only [Act.put, List.getElem_toArray, List.getElem_cons_zero, List.setIfInBounds_toArray, List.set_cons_zero, List.set_cons_succ]
      refine wpAnyH_take (i := 1) (oi := _) (v := .agg #[.string m, .slice p3 xs.length c3]) rfl (by kernel_rfl) (by kernel_rfl) (by kernel_rfl) (fun _ _ _ h => h) (Or.inl ⟨by rfl, by intro w hSw; go_split_ands; go_simp⟩) HS.out ?_
      simp only [Act.put, List.getElem_toArray, List.getElem_cons_zero, List.getElem_cons_succ, List.setIfInBounds_toArray, List.set_cons_zero, List.set_cons_succ]
      refine wpAnyH_ready (rs := [2]) (by kernel_rfl) (by simp) ?_
      refine AllReadyH.cons (o := _) rfl (fun K hK => ?_) AllReadyH.nil
      go_simp
      refine (implMessageTextF_any m _ xs _ (by have := HM5.out; unfold maxLen; omega) HFT.out (HRL.out _ HD.out)).mono ?_
      rintro e Z1 ⟨rfl, hb1⟩
      have HD1 := hide (HD.out.trans (hb1.mono HD.out.size))
      clear hb1
      refine hK.out _ _ (HSY.out _ HD1.out) (fun _ => ?_)
      clear hK K HS
      have HS := hide (HSY.out _ HD1.out)
      obtain ⟨MT, hMT⟩ : ∃ MT, MT = msgT m xs := ⟨_, rfl⟩
      rw [← hMT] at HRE ⊢
      clear hMT
      obtain ⟨BB, hBB⟩ : ∃ BB : Bool, BB = !(MT.toList == []) := ⟨_, rfl⟩
      have HBB := hide hBB
      have hnb : (!(MT.toList == [])) = BB := hBB.symm
      have hnb2 : (MT.toList != []) = BB := by rw [hBB]; rfl
      have hnb3 : MT.toList.isEmpty = !BB := by rw [hBB]; cases MT.toList <;> rfl
      have HRF := hide (show R = (if BB then some xs else none) by
        rw [HRE.out, HBB.out]
        by_cases h : MT = ⟨#[]⟩
        · rw [if_pos h, h]; simp
        · rw [if_neg h]
          have h9 := toList_neF h
          rw [show (MT.toList == []) = false by simpa using h9]
          rfl)
      clear hBB
      refine wpAnyH_take (i := 3) (oi := _) (v := .bool BB) rfl (by kernel_rfl) (by kernel_rfl) (by kernel_rfl) (fun _ _ _ h => h) (Or.inl ⟨by rfl, by intro w hSw; go_split_ands; go_simp⟩) HS.out ?_
      simp only [Act.put, List.getElem_toArray, List.getElem_cons_zero, List.getElem_cons_succ, List.setIfInBounds_toArray, List.set_cons_zero, List.set_cons_succ]
      refine wpAnyH_ready (rs := [4]) (by kernel_rfl) (by simp) ?_
      refine AllReadyH.cons (o := _) rfl (fun K hK => ?_) AllReadyH.nil
      have c5 : Z1.cell? ⟨w.heap.size + 1, 0, none⟩ = some (.string ⟨#[]⟩) := (HRR.out.below HD1.out HRR.out.lt).cell 0
      have f5 := (HRR.out.below HD1.out HRR.out.lt).free 0
      have c6 : Z1.cell? ⟨w.heap.size + 1, 1, none⟩ = some (.slice none 0 0) := (HRR.out.below HD1.out HRR.out.lt).cell 1
      have f6 := (HRR.out.below HD1.out HRR.out.lt).free 1
      go_simp
      have HFP := hide (HF1.out _ HD1.out)
      obtain ⟨V9, hV9⟩ : ∃ V, V = (Z1.setCell ⟨w.heap.size + 1, 0, none⟩ (.string m)).setCell ⟨w.heap.size + 1, 1, none⟩ (.slice p3 xs.length c3) := ⟨_, rfl⟩
      rw [← hV9] at HFP
      try rw [← hV9]
      clear hV9
      refine hK.out _ _ (HFS.out _ HFP.out) (fun _ => ?_)
      clear hK K HS c5 f5 c6 f6
      have HS := hide (HFS.out _ HFP.out)
      refine wpAnyH_take (i := 5) (oi := _) (v := .bool BB) rfl (by kernel_rfl) (by kernel_rfl) (by kernel_rfl) (fun _ _ _ h => h) (Or.inl ⟨by rfl, by intro w hSw; go_split_ands; go_simp⟩) HS.out ?_
      simp only [Act.put, List.getElem_toArray, List.getElem_cons_zero, List.getElem_cons_succ, List.setIfInBounds_toArray, List.set_cons_zero, List.set_cons_succ]
      refine wpAnyH_done (by kernel_rfl) ?_ _
      obtain ⟨e1, e2, e3⟩ := HF0.out _ HFP.out
      have HE2 := hide e2
      have HE3 := hide e3
      have v0 : V9.cell? ⟨w.heap.size + 1, 0, none⟩ = some (.string m) := e1.cell 0
      have v1 : V9.cell? ⟨w.heap.size + 1, 1, none⟩ = some (.slice p3 xs.length c3) := e1.cell 1
      clear e1 e2 e3 hnb hnb2 hnb3
      go_wp2
      exact bodyPost_ret (v := .tuple #[.agg #[.string m, .slice p3 xs.length c3], .bool BB]) (by simp [results, Tryz.results21, go_sem, v0, v1]) rfl ⟨⟨m, _, BB, xs, rfl, HE3.out, HRF.out, fun _ => rfl⟩, HE2.out⟩

end Go.Proofs.YtckcfjibiidafaaGreat
