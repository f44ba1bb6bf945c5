/- A Segment that is read, as the model and as the program read it: lists. -/
import Derived.Test.YtckcfjibiidafaaXG29OSpecF
import Derived.Test.YtckcfjibiidafaaXG30OReadH
import Derived.Test.YtckcfjibiidafaaXG32FSegT
import Derived.Deep.DeepCutAuto
import Derived.Deep.RegionHeld3
import Derived.OrdersHeld
namespace Go.Proofs.Ytckcfjibiidafaa
open Go.RowKit
theorem fldT_noin {m : ByteArray} (h : marksB m = true) (x : List (List (List ByteArray))) : bAt m 0 ∉ fldT m x :=
  jnF_noin (fun e => by have := mark_inj h (by omega) (by omega) e; omega) 0 x (fun y _ => repT_noin h 0 (by omega) (by omega) (by omega) y)
theorem flat_one {α : Type} (c : UInt8) (f : α → List UInt8) : ∀ (xs : List α), (xs.flatMap fun p => c :: f p) = jnF c f 1 xs
  | [] => by simp [jnF]
  | p :: r => by rw [List.flatMap_cons, flat_one c f r, jnF_one, jnF_zero]; simp
theorem flat_jn {α : Type} (c : UInt8) (f : α → List UInt8) (x : α) (r : List α) : ((x :: r).flatMap fun p => c :: f p) = c :: jnF c f 0 (x :: r) := by rw [flat_one, jnF_one]
/-- The Fields of a line, as the model reads them. -/
def fldsM (m : ByteArray) : List UInt8 → Option Flds
  | [] => some []
  | a :: r => if a = bAt m 0 then some (trimR empL ((cutL (bAt m 0) r).map (fldM m))) else none
theorem fldQ_parts {m : ByteArray} (h : marksB m = true) {p : List UInt8} {f : List (List (List ByteArray))} (e : fldQ m p = some f) : fldB f = true ∧ fldT m f = p := by
  unfold fldQ at e
  obtain ⟨g, hg, hb⟩ := Option.bind_eq_some_iff.1 e
  by_cases hf : fldB g = true
  · rw [if_pos hf] at hb
    cases hb
    exact ⟨hf, fldP_some h p _ hg⟩
  · rw [if_neg hf] at hb
    cases hb
theorem fldQ_of {m : ByteArray} (h : marksB m = true) {f : List (List (List ByteArray))} (hf : fldB f = true) : fldQ m (fldT m f) = some f := by
  unfold fldQ
  rw [fldP_of h hf]
  simp [hf]
theorem fldsP_cons (m : ByteArray) (r : List UInt8) : fldsP m (bAt m 0 :: r) = mapO (fldQ m) (cutL (bAt m 0) r) := by
  unfold fldsP piecesL
  rw [if_neg (by simp), cutL_at]
  simp
theorem fldsP_ne (m : ByteArray) {a : UInt8} (r : List UInt8) (h : a ≠ bAt m 0) : fldsP m (a :: r) = none := by
  obtain ⟨p, ps, e⟩ := cutL_some (bAt m 0) r
  unfold fldsP piecesL
  rw [if_neg (by simp), cutL_ne (bAt m 0) a r p ps h e]
  simp
theorem flds_to {m : ByteArray} (h : marksB m = true) {r : List UInt8} {fs : Flds} (e : fldsP m r = some fs) (hr : rightB fldB empL 30 fs = true) : fldsM m r = some fs ∧ fldsT m fs = r := by
  cases r with
  | nil =>
    have : fs = [] := by simpa [fldsP, piecesL] using e.symm
    subst this
    exact ⟨rfl, rfl⟩
  | cons a r =>
    by_cases ha : a = bAt m 0
    · subst ha
      rw [fldsP_cons] at e
      have hm : fs.map (fldT m) = cutL (bAt m 0) r := mapO_some (tx := fldT m) (fun p x hx => (fldQ_parts h hx).2) _ _ e
      have hM : (cutL (bAt m 0) r).map (fldM m) = fs := by
        rw [← hm, List.map_map]
        have : fs.map (fldM m ∘ fldT m) = fs.map id := List.map_congr_left (fun x hx => fldM_of h ((right_parts hr).1 x hx))
        rw [this, List.map_id]
      refine ⟨by rw [fldsM, if_pos rfl, hM, trimR_end empL fs (right_parts hr).2], ?_⟩
      obtain ⟨p, ps, hp⟩ := cutL_some (bAt m 0) r
      have hj := cutL_join (bAt m 0) r
      have e1 : fldsT m fs = (fs.map (fldT m)).flatMap (fun p => bAt m 0 :: p) := by unfold fldsT; rw [List.flatMap_map]
      rw [e1, hm, hp, flat_jn, ← hp, hj]
    · rw [fldsP_ne m r ha] at e
      cases e
theorem flds_from {m : ByteArray} (h : marksB m = true) {r : List UInt8} {fs : Flds} (e : fldsM m r = some fs) (hr : rightB fldB empL 30 fs = true) (ht : fldsT m fs = r) : fldsP m r = some fs := by
  cases r with
  | nil =>
    cases e
    simp [fldsP, piecesL]
  | cons a r =>
    by_cases ha : a = bAt m 0
    · subst ha
      rw [fldsP_cons]
      cases fs with
      | nil => simp [fldsT] at ht
      | cons x ys =>
        unfold fldsT at ht
        rw [flat_jn] at ht
        have hr0 : jnF (bAt m 0) (fldT m) 0 (x :: ys) = r := by simpa using ht
        rw [← hr0, cutL_jn (bAt m 0) (fldT m) x ys (fun y _ => fldT_noin h y)]
        exact mapO_map (x :: ys) (fun y hy => fldQ_of h ((right_parts hr).1 y hy))
    · rw [fldsM, if_neg ha] at e
      cases e
theorem segB_right {n : ByteArray} {fs : Flds} (h : segB n fs = true) : rightB fldB empL 30 fs = true := by
  simp only [segB, Bool.and_eq_true] at h
  exact h.1.2
/-- The head of a line: its name, and what stands behind it. -/
def headR (m : ByteArray) (T : List UInt8) : Option (ByteArray × List UInt8) :=
  if T.length < 3 then none else if (⟨(T.take 3).toArray⟩ : ByteArray) = msh then (if (T.drop 3).take m.size = m.data.toList then some (⟨(T.take 3).toArray⟩, (T.drop 3).drop m.size) else none) else some (⟨(T.take 3).toArray⟩, T.drop 3)
def segQ (m : ByteArray) (T : List UInt8) : Option (ByteArray × Flds) := (headR m T).bind fun h => (fldsP m h.2).bind fun fs => if segB h.1 fs then some (h.1, fs) else none
def segMd (m : ByteArray) (T : List UInt8) : Option (ByteArray × Flds) := (headR m T).bind fun h => (fldsM m h.2).bind fun fs => some (h.1, fs)
theorem headR_text {m : ByteArray} {T : List UInt8} {n : ByteArray} {r : List UInt8} (h : headR m T = some (n, r)) (fs : Flds) : (segT m n fs = T ↔ fldsT m fs = r) := by
  unfold headR at h
  have e3 : T = T.take 3 ++ T.drop 3 := (List.take_append_drop 3 T).symm
  split at h
  · cases h
  · split at h
    · rename_i hn
      split at h
      · rename_i hp
        cases h
        have e5 : T.drop 3 = m.data.toList ++ (T.drop 3).drop m.size := by
          conv => lhs; rw [← List.take_append_drop m.size (T.drop 3)]
          rw [hp]
        unfold segT headT
        rw [if_pos hn]
        constructor
        · intro h1
          have h1' : T.take 3 ++ (m.data.toList ++ fldsT m fs) = T.take 3 ++ T.drop 3 := by
            rw [List.take_append_drop, ← List.append_assoc]; exact h1
          have h2 := List.append_cancel_left h1'
          rw [e5] at h2
          exact List.append_cancel_left h2
        · intro h1
          rw [h1]
          conv => rhs; rw [e3, e5]
          simp
      · cases h
    · rename_i hn
      cases h
      unfold segT headT
      rw [if_neg hn]
      constructor
      · intro h1
        have h1' : T.take 3 ++ fldsT m fs = T.take 3 ++ T.drop 3 := by
          rw [List.take_append_drop]; simpa using h1
        exact List.append_cancel_left h1'
      · intro h1
        rw [h1]
        conv => rhs; rw [e3]
        simp
theorem segQ_iff {m : ByteArray} (h : marksB m = true) (T : List UInt8) (s : ByteArray × Flds) : segQ m T = some s ↔ (segMd m T = some s ∧ segB s.1 s.2 = true ∧ segT m s.1 s.2 = T) := by
  unfold segQ segMd
  cases hh : headR m T with
  | none => simp
  | some hd =>
    obtain ⟨n, r⟩ := hd
    simp only [Option.bind_some]
    constructor
    · intro e
      obtain ⟨fs, h1, h2⟩ := Option.bind_eq_some_iff.1 e
      by_cases hs : segB n fs = true
      · rw [if_pos hs] at h2
        cases h2
        obtain ⟨h3, h4⟩ := flds_to h h1 (segB_right hs)
        exact ⟨by rw [h3]; rfl, hs, (headR_text hh fs).2 h4⟩
      · rw [if_neg hs] at h2
        cases h2
    · rintro ⟨h1, h2, h3⟩
      obtain ⟨fs, h4, h5⟩ := Option.bind_eq_some_iff.1 h1
      cases h5
      have h6 := flds_from h h4 (segB_right h2) ((headR_text hh fs).1 h3)
      rw [h6]
      simp [h2]
end Go.Proofs.Ytckcfjibiidafaa
/- The model's reading of a Segment. -/
namespace Go.Proofs.Ytckcfjibiidafaa
open Go.RowKit
theorem Try.infoFieldR : (Try.prog.info? 24).map (fun i => (i.zero, i.size, i.bytes)) = some (some (.agg #[.slice none 0 0]), 1, 24) := by kernel_rfl
def SegRes (lo : Nat) (R : Option (ByteArray × Flds)) (e : Ending) (w' : World) : Prop := match R with
  | none => ∃ n', e = .returned (.tuple #[.agg #[.string n', .slice none 0 0], .bool false])
  | some s => ∃ p c, e = .returned (.tuple #[.agg #[.string s.1, .slice p s.2.length c], .bool true]) ∧ RFlds lo w' (.slice p s.2.length c) s.2
def lenAt1 (w : World) (g : Nat) : Nat := match w.cell? ⟨g, 1, none⟩ with | some (.slice _ n _) => n | _ => 0
theorem lenAt1_of {w : World} {g n c : Nat} {p : Option Addr} (h : w.cell? ⟨g, 1, none⟩ = some (.slice p n c)) : lenAt1 w g = n := by unfold lenAt1; rw [h]
abbrev QFlds := QL 24 QFld
theorem QFlds.rl {lo hi : Nat} {w : World} {v : Value} {xs : Flds} (h : QFlds lo hi w v xs) : RFlds lo w v xs := QL.rl h fun _ _ _ _ ha h => RFld.mono (QFld.rl h) ha
theorem grow_step2 {α : Type} {R : Nat → Nat → World → Value → α → Prop} [Keeps R] {T E : TypeId} {base a b G : Nat} {X U Z : World} {l v' u a0 : Value} {vs : List Value} {xs : List α} {y : α}
    (hown0 : X.ownsRow base T 1 l xs.length vs) (hGE : GE R base X l vs xs) (hXU : Below X.heap.size X U) (hbase : base ≤ X.heap.size) (hG : G < base) (ha : X.heap.size ≤ a) (hb : b ≤ U.heap.size) (hR : R a b U u y) (hrow : Row U G E [a0, l])
    (hown : Z.ownsRow base T 1 v' (xs.length + 1) (vs ++ [u])) (hgrow : (U.alloc (.cells #[u] T)).grownBy Z l.ownBlock) (hat : v'.ownBlock = l.ownBlock ∨ v'.ownBlock = some (U.alloc (.cells #[u] T)).heap.size) :
    (Z.setCell ⟨G, 1, none⟩ v').ownsRow base T 1 v' (xs ++ [y]).length (vs ++ [u]) ∧ GE R base (Z.setCell ⟨G, 1, none⟩ v') v' (vs ++ [u]) (xs ++ [y]) ∧ Row (Z.setCell ⟨G, 1, none⟩ v') G E [a0, v'] ∧ Row Z G E [a0, l] := by
  have hUY : Below U.heap.size U (U.alloc (.cells #[u] T)) := (Below.refl _ _).alloc (Nat.le_refl _) _
  have hXY : Below X.heap.size X (U.alloc (.cells #[u] T)) := hXU.trans (hUY.mono hXU.size)
  have hlt := hown0.lt
  have hl : vs.length = xs.length := by have := hown0.1; omega
  have hge := hGE.snoc hl hlt (Same.of hXY) hbase ha (Nat.le_trans hb hUY.size) (Keeps.go (SameIn.ofBelow hUY) hR) hgrow hat
  have hs : Same base Z (Z.setCell ⟨G, 1, none⟩ v') := Same.set Z v' hG
  have hrZ : Row Z G E [a0, l] := row_grown (hrow.alloc (.cells #[u] T)) hgrow (fun k hk => (hlt k hk).1) hG
  refine ⟨?_, hge.same hs, by simpa using hrZ.set (j := 1) v', hrZ⟩
  rw [List.length_append]
  exact own_same2 hown hs
theorem Only.alloc' {G : Nat} {a b : World} (h : Only G a b) (o : Obj) : Only G a (b.alloc o) := h.below ((Below.refl _ _).alloc (Nat.le_refl _) o)

set_option maxHeartbeats 32000000 in
set_option maxRecDepth 100000 in
theorem l04ReadSeg_any (m t : ByteArray) (w : World) (hm : m.size = 5) (ht : t.size ≤ 8000) :
    Calls Try.prog 24 #[.string m, .string t] w fun e w' => SegRes (w.heap.size + 1) (segMd m t.data.toList) e w' ∧ Below w.heap.size w w' := by
  obtain ⟨i0, hi, hz0, hz1, hz2⟩ := info_parts Try.infoFieldR
  have HZC := hide (show (Value.agg #[.slice none 0 0]).cells.size = 1 from rfl)
  have h0m : 0 < m.size := by omega
  have htl : t.data.toList.length = t.size := by simp
  obtain ⟨R, hR⟩ : ∃ R, R = segMd m t.data.toList := ⟨_, rfl⟩
  rw [← hR]
  have HRX := hide hR
  clear hR
  by_cases h3 : t.size < 3
  · have HSM0 := hide (show segMd m t.data.toList = none by unfold segMd headR; rw [if_pos (by omega)]; rfl)
    have h3i : (t.size : Int) < 3 := by omega
    obtain rfl : R = none := by rw [HRX.out]; exact HSM0.out
    go_enter Try.func24, Try.ntmps24
    go_wp2
    exact bodyPost_ret (v := .tuple #[.agg #[.string ⟨#[]⟩, .slice none 0 0], .bool false]) (by simp [results, Try.results24, go_sem]) rfl ⟨⟨_, rfl⟩, (Below.refl _ _).alloc (Nat.le_refl _) _⟩
  have h3i : ¬ (t.size : Int) < 3 := by omega
  have h3j : (3 : Int) ≤ (t.size : Int) := by omega
  go_enter Try.func24, Try.ntmps24
  go_upto_region 5 with fail
  have HN3 := hide (show (t.extract 0 3 : ByteArray) = ⟨(t.data.toList.take 3).toArray⟩ by rw [extract_list]; rfl)
  have HRS3 := hide (show (t.extract 3 t.size : ByteArray).data.toList = t.data.toList.drop 3 by rw [extract_listE])
  have HRSs := hide (show (t.extract 3 t.size : ByteArray).size ≤ 8000 by rw [ByteArray.size_extract]; omega)
  obtain ⟨N3, hN3⟩ : ∃ N3, N3 = t.extract 0 3 := ⟨_, rfl⟩
  obtain ⟨RS, hRS⟩ : ∃ RS, RS = t.extract 3 t.size := ⟨_, rfl⟩
  rw [← hN3] at HN3
  rw [← hRS] at HRS3 HRSs
  rw [← hN3, ← hRS]
  clear hN3 hRS
  obtain ⟨W, hW⟩ : ∃ W, W = (w.alloc (.cells #[.string ⟨#[]⟩, .slice none 0 0] 33)).alloc (.cells #[.string N3, .slice none 0 0] 33) := ⟨_, rfl⟩
  have HBW := hide (show Below w.heap.size w W by rw [hW]; exact ((Below.refl _ _).alloc (Nat.le_refl _) _).alloc (by simp) _)
  have HRR := hide (show Row W w.heap.size 33 [.string ⟨#[]⟩, .slice none 0 0] by rw [hW]; exact (row_new w [.string ⟨#[]⟩, .slice none 0 0] 33).alloc _)
  obtain ⟨S6, hS6⟩ : ∃ S6, S6 = w.heap.size + 1 := ⟨_, rfl⟩
  have HRS := hide (show Row W S6 33 [.string N3, .slice none 0 0] by
    rw [hW, hS6]
    have := row_new (w.alloc (.cells #[.string ⟨#[]⟩, .slice none 0 0] 33)) [.string N3, .slice none 0 0] 33
    simpa using this)
  rw [← hW, ← hS6]
  have HS6e := hide hS6
  have c60 : W.cell? ⟨S6, 0, none⟩ = some (.string N3) := HRS.out.cell 0
  clear hW hS6
  by_cases hmsh : N3 = msh
  · have hb : (N3.toList == [77, 83, 72]) = true := by rw [hmsh]; unfold msh; simp
    have HMS := hide hmsh
    clear hmsh
    by_cases h5 : RS.size < 5
    · have h5i : (RS.size : Int) < 5 := by omega
      have HSM0 := hide (show segMd m t.data.toList = none by
        unfold segMd headR
        rw [if_neg (by omega), ← HN3.out, if_pos HMS.out, if_neg (fun e => by
          have h9 := congrArg List.length e
          rw [← HRS3.out, List.length_take] at h9
          have h10 : RS.data.toList.length = RS.size := by simp
          have h11 : m.data.toList.length = m.size := by simp
          omega)]
        rfl)
      obtain rfl : R = none := by rw [HRX.out]; exact HSM0.out
      clear c60
      have k0 : W.cell? ⟨w.heap.size, 0, none⟩ = some (.string ⟨#[]⟩) := HRR.out.cell 0
      have k1 : W.cell? ⟨w.heap.size, 1, none⟩ = some (.slice none 0 0) := HRR.out.cell 1
      have f0 := HRR.out.free 0
      have f1 := HRR.out.free 1
      have s0 : W.cell? ⟨S6, 0, none⟩ = some (.string N3) := HRS.out.cell 0
      have s1 : W.cell? ⟨S6, 1, none⟩ = some (.slice none 0 0) := HRS.out.cell 1
      have t2 := (HRR.out.set (j := 0) (.string N3)).set (j := 1) (.slice none 0 0)
      have q0 : ((W.setCell ⟨w.heap.size, 0, none⟩ (.string N3)).setCell ⟨w.heap.size, 1, none⟩ (.slice none 0 0)).cell? ⟨w.heap.size, 0, none⟩ = some (.string N3) := t2.cell 0
      have q1 : ((W.setCell ⟨w.heap.size, 0, none⟩ (.string N3)).setCell ⟨w.heap.size, 1, none⟩ (.slice none 0 0)).cell? ⟨w.heap.size, 1, none⟩ = some (.slice none 0 0) := t2.cell 1
      have HBF := hide ((HBW.out.setCell (p := ⟨w.heap.size, 0, none⟩) (Nat.le_refl _) (.string N3)).setCell (p := ⟨w.heap.size, 1, none⟩) (Nat.le_refl _) (.slice none 0 0))
      clear t2
      go_wp2
      exact bodyPost_ret (v := .tuple #[.agg #[.string N3, .slice none 0 0], .bool false]) (by simp [results, Try.results24, go_sem, q0, q1]) rfl ⟨⟨N3, rfl⟩, HBF.out⟩

    have h5i : ¬ (RS.size : Int) < 5 := by omega
    have h5j : (5 : Int) ≤ (RS.size : Int) := by omega
    by_cases h5m : (RS.extract 0 5 : ByteArray) = m
    case neg =>
      have he3 : ((RS.extract 0 5 : ByteArray).toList == m.toList) = false := by simpa using toList_neF h5m
      have HSM0 := hide (show segMd m t.data.toList = none by
        unfold segMd headR
        rw [if_neg (by omega), ← HN3.out, if_pos HMS.out, if_neg (fun e => h5m (by
          rw [extract_list, ← HRS3.out] at *
          apply ByteArray.ext
          apply Array.ext'
          rw [hm] at e
          simpa using e))]
        rfl)
      obtain rfl : R = none := by rw [HRX.out]; exact HSM0.out
      clear c60
      have k0 : W.cell? ⟨w.heap.size, 0, none⟩ = some (.string ⟨#[]⟩) := HRR.out.cell 0
      have k1 : W.cell? ⟨w.heap.size, 1, none⟩ = some (.slice none 0 0) := HRR.out.cell 1
      have f0 := HRR.out.free 0
      have f1 := HRR.out.free 1
      have s0 : W.cell? ⟨S6, 0, none⟩ = some (.string N3) := HRS.out.cell 0
      have s1 : W.cell? ⟨S6, 1, none⟩ = some (.slice none 0 0) := HRS.out.cell 1
      have t2 := (HRR.out.set (j := 0) (.string N3)).set (j := 1) (.slice none 0 0)
      have q0 : ((W.setCell ⟨w.heap.size, 0, none⟩ (.string N3)).setCell ⟨w.heap.size, 1, none⟩ (.slice none 0 0)).cell? ⟨w.heap.size, 0, none⟩ = some (.string N3) := t2.cell 0
      have q1 : ((W.setCell ⟨w.heap.size, 0, none⟩ (.string N3)).setCell ⟨w.heap.size, 1, none⟩ (.slice none 0 0)).cell? ⟨w.heap.size, 1, none⟩ = some (.slice none 0 0) := t2.cell 1
      have HBF := hide ((HBW.out.setCell (p := ⟨w.heap.size, 0, none⟩) (Nat.le_refl _) (.string N3)).setCell (p := ⟨w.heap.size, 1, none⟩) (Nat.le_refl _) (.slice none 0 0))
      clear t2
      go_wp2
      exact bodyPost_ret (v := .tuple #[.agg #[.string N3, .slice none 0 0], .bool false]) (by simp [results, Try.results24, go_sem, q0, q1]) rfl ⟨⟨N3, rfl⟩, HBF.out⟩

    have HHDa := hide (show headR m t.data.toList = some (N3, (RS.extract 5 RS.size).data.toList) by
      unfold headR
      rw [if_neg (by omega), ← HN3.out, if_pos HMS.out, ← HRS3.out, if_pos (by
        have e := congrArg (fun b : ByteArray => b.data.toList) h5m
        rw [extract_list] at e
        rw [hm]
        simpa using e), extract_listE, hm])
    go_upto_region 9 with fail
    have HRVs1 := hide (show (RS.extract 5 RS.size : ByteArray).size ≤ 8000 by rw [ByteArray.size_extract]; have := HRSs.out; omega)
    obtain ⟨RV, hRV⟩ : ∃ RV, RV = RS.extract 5 RS.size := ⟨_, rfl⟩
    rw [← hRV] at HHDa HRVs1 ⊢
    have HHD := HHDa
    have HRVs0 := HRVs1
    clear hRV c60 h5m hb h5i h5j
    have HRVs := HRVs0
    by_cases hr0 : RV.size = 0
    · have hre : RV = ⟨#[]⟩ := ByteArray.ext (Array.eq_empty_of_size_eq_zero hr0)
      have HSM0 := hide (show segMd m t.data.toList = some (N3, []) by unfold segMd; rw [HHD.out, hre]; rfl)
      have hrb : (RV.toList == []) = true := by rw [hre]; simp
      obtain rfl : R = some (N3, []) := by rw [HRX.out]; exact HSM0.out
      clear hr0 hre
      have k0 : W.cell? ⟨w.heap.size, 0, none⟩ = some (.string ⟨#[]⟩) := HRR.out.cell 0
      have k1 : W.cell? ⟨w.heap.size, 1, none⟩ = some (.slice none 0 0) := HRR.out.cell 1
      have f0 := HRR.out.free 0
      have f1 := HRR.out.free 1
      have s0 : W.cell? ⟨S6, 0, none⟩ = some (.string N3) := HRS.out.cell 0
      have s1 : W.cell? ⟨S6, 1, none⟩ = some (.slice none 0 0) := HRS.out.cell 1
      have t2 := (HRR.out.set (j := 0) (.string N3)).set (j := 1) (.slice none 0 0)
      have q0 : ((W.setCell ⟨w.heap.size, 0, none⟩ (.string N3)).setCell ⟨w.heap.size, 1, none⟩ (.slice none 0 0)).cell? ⟨w.heap.size, 0, none⟩ = some (.string N3) := t2.cell 0
      have q1 : ((W.setCell ⟨w.heap.size, 0, none⟩ (.string N3)).setCell ⟨w.heap.size, 1, none⟩ (.slice none 0 0)).cell? ⟨w.heap.size, 1, none⟩ = some (.slice none 0 0) := t2.cell 1
      have HBF := hide ((HBW.out.setCell (p := ⟨w.heap.size, 0, none⟩) (Nat.le_refl _) (.string N3)).setCell (p := ⟨w.heap.size, 1, none⟩) (Nat.le_refl _) (.slice none 0 0))
      clear t2
      go_wp2
      exact bodyPost_ret (v := .tuple #[.agg #[.string N3, .slice none 0 0], .bool true]) (by simp [results, Try.results24, go_sem, q0, q1]) rfl ⟨⟨none, 0, rfl, ⟨none, 0, rfl, Nat.le_refl _, Nat.zero_le _, fun h => absurd h (Nat.lt_irrefl 0)⟩⟩, HBF.out⟩

    have hr1 : 0 < RV.size := by omega
    have hrb : (RV.toList == []) = false := by
      have h := toList_neF (show RV ≠ ⟨#[]⟩ from fun h => hr0 (by rw [h]; rfl))
      simpa using h
    have HB0 := hide (bAt_get m 0 h0m)
    have HRL := hide (show RV.data.toList = (RV[0]'hr1) :: (RV.extract 1 RV.size).data.toList by
      rw [extract_listE]
      have h9 : 0 < RV.data.toList.length := by simpa using hr1
      have e := List.drop_eq_getElem_cons h9
      rw [List.drop_zero] at e
      exact e)
    have hrj : (1 : Int) ≤ (RV.size : Int) := by omega
    have hri : (0 : Int) < (RV.size : Int) := by omega
    by_cases h00 : RV[0]'hr1 = m[0]'h0m
    case neg =>
      have HSM0 := hide (show segMd m t.data.toList = none by unfold segMd; rw [HHD.out]; show (fldsM m RV.data.toList).bind _ = none; rw [HRL.out, fldsM, if_neg (by rw [HB0.out]; exact h00)]; rfl)
      have hne : ¬ ((RV[0]'hr1).toNat : Int) = ((m[0]'h0m).toNat : Int) := fun e => h00 (UInt8.toNat_inj.1 (by omega))
      have hneb : (((RV[0]'hr1).toNat : Int) != ((m[0]'h0m).toNat : Int)) = true := by simpa using hne
      obtain rfl : R = none := by rw [HRX.out]; exact HSM0.out
      clear h00 hr0
      go_wp2_with fail
      refine wp_region_held (S := (fun _ : World => True)) (by kernel_rfl) ?_
      have HZ0 := hide (show Below W.heap.size W { W with drawn := W.drawn + 1 } from (Below.refl _ _).drew)
      generalize ({ W with drawn := W.drawn + 1 } : World) = W0 at HZ0 ⊢
      have HS : Hid True := trivial
      refine wpAnyH_take (i := 0) (oi := _) (v := .string RV) rfl (by kernel_rfl) (by kernel_rfl) (by kernel_rfl) (fun _ _ _ h => h) (Or.inl ⟨by rfl, by intro w hSw; go_split_ands; go_simp⟩) HS.out ?_
      simp only [Act.put, List.getElem_toArray, List.getElem_cons_zero, List.setIfInBounds_toArray, List.set_cons_zero, List.set_cons_succ]
      refine wpAnyH_take (i := 1) (oi := _) (v := .int .u8 (((RV[0]'hr1).toNat : Nat) : Int)) rfl (by kernel_rfl) (by kernel_rfl) (by kernel_rfl) (fun _ _ _ h => h) (Or.inl ⟨by rfl, by intro w hSw; go_split_ands; go_simp⟩) HS.out ?_
      simp only [Act.put, List.getElem_toArray, List.getElem_cons_zero, List.getElem_cons_succ, List.setIfInBounds_toArray, List.set_cons_zero, List.set_cons_succ]
      refine wpAnyH_take (i := 2) (oi := _) (v := .string m) rfl (by kernel_rfl) (by kernel_rfl) (by kernel_rfl) (fun _ _ _ h => h) (Or.inl ⟨by rfl, by intro w hSw; go_split_ands; go_simp⟩) HS.out ?_
      simp only [Act.put, List.getElem_toArray, List.getElem_cons_zero, List.getElem_cons_succ, List.setIfInBounds_toArray, List.set_cons_zero, List.set_cons_succ]
      refine wpAnyH_take (i := 3) (oi := _) (v := .int .u8 (((m[0]'h0m).toNat : Nat) : Int)) rfl (by kernel_rfl) (by kernel_rfl) (by kernel_rfl) (fun _ _ _ h => h) (Or.inl ⟨by rfl, by intro w hSw; go_split_ands; go_simp⟩) HS.out ?_
      simp only [Act.put, List.getElem_toArray, List.getElem_cons_zero, List.getElem_cons_succ, List.setIfInBounds_toArray, List.set_cons_zero, List.set_cons_succ]
      refine wpAnyH_take (i := 4) (oi := _) (v := .bool true) rfl (by kernel_rfl) (by kernel_rfl) (by kernel_rfl) (fun _ _ _ h => h) (Or.inl ⟨by rfl, by intro w hSw; go_split_ands; go_simp⟩) HS.out ?_
      simp only [Act.put, List.getElem_toArray, List.getElem_cons_zero, List.getElem_cons_succ, List.setIfInBounds_toArray, List.set_cons_zero, List.set_cons_succ]
      refine wpAnyH_done (by kernel_rfl) ?_ _
      clear HS
      have HRR1 := hide (HRR.out.below HZ0.out HRR.out.lt)
      have HRS1 := hide (HRS.out.below HZ0.out HRS.out.lt)
      have HBW1 := hide (HBW.out.trans (HZ0.out.mono HBW.out.size))
      have k0 : W0.cell? ⟨w.heap.size, 0, none⟩ = some (.string ⟨#[]⟩) := HRR1.out.cell 0
      have k1 : W0.cell? ⟨w.heap.size, 1, none⟩ = some (.slice none 0 0) := HRR1.out.cell 1
      have f0 := HRR1.out.free 0
      have f1 := HRR1.out.free 1
      have s0 : W0.cell? ⟨S6, 0, none⟩ = some (.string N3) := HRS1.out.cell 0
      have s1 : W0.cell? ⟨S6, 1, none⟩ = some (.slice none 0 0) := HRS1.out.cell 1
      have t2 := (HRR1.out.set (j := 0) (.string N3)).set (j := 1) (.slice none 0 0)
      have q0 : ((W0.setCell ⟨w.heap.size, 0, none⟩ (.string N3)).setCell ⟨w.heap.size, 1, none⟩ (.slice none 0 0)).cell? ⟨w.heap.size, 0, none⟩ = some (.string N3) := t2.cell 0
      have q1 : ((W0.setCell ⟨w.heap.size, 0, none⟩ (.string N3)).setCell ⟨w.heap.size, 1, none⟩ (.slice none 0 0)).cell? ⟨w.heap.size, 1, none⟩ = some (.slice none 0 0) := t2.cell 1
      have HBF := hide ((HBW1.out.setCell (p := ⟨w.heap.size, 0, none⟩) (Nat.le_refl _) (.string N3)).setCell (p := ⟨w.heap.size, 1, none⟩) (Nat.le_refl _) (.slice none 0 0))
      clear t2
      go_wp2
      exact bodyPost_ret (v := .tuple #[.agg #[.string N3, .slice none 0 0], .bool false]) (by simp [results, Try.results24, go_sem, q0, q1]) rfl ⟨⟨N3, rfl⟩, HBF.out⟩

    have HFM := hide (show segMd m t.data.toList = some (N3, trimR empL ((cutL (bAt m 0) (RV.extract 1 RV.size).data.toList).map (fldM m))) by unfold segMd; rw [HHD.out]; show (fldsM m RV.data.toList).bind _ = _; rw [HRL.out, fldsM, if_pos (by rw [HB0.out]; exact h00)]; rfl)
    have heq : ((RV[0]'hr1).toNat : Int) = ((m[0]'h0m).toNat : Int) := by rw [h00]
    have heqb : (((RV[0]'hr1).toNat : Int) != ((m[0]'h0m).toNat : Int)) = false := by rw [heq]; simp
    clear hr0
    go_wp2_with fail
    refine wp_region_held (S := (fun _ : World => True)) (by kernel_rfl) ?_
    have HZ0 := hide (show Below W.heap.size W { W with drawn := W.drawn + 1 } from (Below.refl _ _).drew)
    generalize ({ W with drawn := W.drawn + 1 } : World) = W0 at HZ0 ⊢
    have HS : Hid True := trivial
    refine wpAnyH_take (i := 0) (oi := _) (v := .string RV) rfl (by kernel_rfl) (by kernel_rfl) (by kernel_rfl) (fun _ _ _ h => h) (Or.inl ⟨by rfl, by intro w hSw; go_split_ands; go_simp⟩) HS.out ?_
    simp only [Act.put, List.getElem_toArray, List.getElem_cons_zero, List.setIfInBounds_toArray, List.set_cons_zero, List.set_cons_succ]
    refine wpAnyH_take (i := 1) (oi := _) (v := .int .u8 (((RV[0]'hr1).toNat : Nat) : Int)) rfl (by kernel_rfl) (by kernel_rfl) (by kernel_rfl) (fun _ _ _ h => h) (Or.inl ⟨by rfl, by intro w hSw; go_split_ands; go_simp⟩) HS.out ?_
    simp only [Act.put, List.getElem_toArray, List.getElem_cons_zero, List.getElem_cons_succ, List.setIfInBounds_toArray, List.set_cons_zero, List.set_cons_succ]
    refine wpAnyH_take (i := 2) (oi := _) (v := .string m) rfl (by kernel_rfl) (by kernel_rfl) (by kernel_rfl) (fun _ _ _ h => h) (Or.inl ⟨by rfl, by intro w hSw; go_split_ands; go_simp⟩) HS.out ?_
    simp only [Act.put, List.getElem_toArray, List.getElem_cons_zero, List.getElem_cons_succ, List.setIfInBounds_toArray, List.set_cons_zero, List.set_cons_succ]
    refine wpAnyH_take (i := 3) (oi := _) (v := .int .u8 (((m[0]'h0m).toNat : Nat) : Int)) rfl (by kernel_rfl) (by kernel_rfl) (by kernel_rfl) (fun _ _ _ h => h) (Or.inl ⟨by rfl, by intro w hSw; go_split_ands; go_simp⟩) HS.out ?_
    simp only [Act.put, List.getElem_toArray, List.getElem_cons_zero, List.getElem_cons_succ, List.setIfInBounds_toArray, List.set_cons_zero, List.set_cons_succ]
    refine wpAnyH_take (i := 4) (oi := _) (v := .bool false) rfl (by kernel_rfl) (by kernel_rfl) (by kernel_rfl) (fun _ _ _ h => h) (Or.inl ⟨by rfl, by intro w hSw; go_split_ands; go_simp⟩) HS.out ?_
    simp only [Act.put, List.getElem_toArray, List.getElem_cons_zero, List.getElem_cons_succ, List.setIfInBounds_toArray, List.set_cons_zero, List.set_cons_succ]
    refine wpAnyH_done (by kernel_rfl) ?_ _
    clear HS
    have HRR1 := hide (HRR.out.below HZ0.out HRR.out.lt)
    have HRS1 := hide (HRS.out.below HZ0.out HRS.out.lt)
    have HBW1 := hide (HBW.out.trans (HZ0.out.mono HBW.out.size))
    go_wp2_with fail
    refine wp_region_held (S := (fun _ : World => True)) (by kernel_rfl) ?_
    have HZ1 := hide (show Below W0.heap.size W0 { W0 with drawn := W0.drawn + 1 } from (Below.refl _ _).drew)
    generalize ({ W0 with drawn := W0.drawn + 1 } : World) = W1 at HZ1 ⊢
    have HS : Hid True := trivial
    refine wpAnyH_take (i := 0) (oi := _) (v := .string RV) rfl (by kernel_rfl) (by kernel_rfl) (by kernel_rfl) (fun _ _ _ h => h) (Or.inl ⟨by rfl, by intro w hSw; go_split_ands; go_simp⟩) HS.out ?_
    simp only [Act.put, List.getElem_toArray, List.getElem_cons_zero, List.setIfInBounds_toArray, List.set_cons_zero, List.set_cons_succ]
    refine wpAnyH_take (i := 1) (oi := _) (v := .string (RV.extract 1 RV.size)) rfl (by kernel_rfl) (by kernel_rfl) (by kernel_rfl) (fun _ _ _ h => h) (Or.inl ⟨by rfl, by intro w hSw; go_split_ands; go_simp⟩) HS.out ?_
    simp only [Act.put, List.getElem_toArray, List.getElem_cons_zero, List.getElem_cons_succ, List.setIfInBounds_toArray, List.set_cons_zero, List.set_cons_succ]
    refine wpAnyH_take (i := 2) (oi := _) (v := .string m) rfl (by kernel_rfl) (by kernel_rfl) (by kernel_rfl) (fun _ _ _ h => h) (Or.inl ⟨by rfl, by intro w hSw; go_split_ands; go_simp⟩) HS.out ?_
    simp only [Act.put, List.getElem_toArray, List.getElem_cons_zero, List.getElem_cons_succ, List.setIfInBounds_toArray, List.set_cons_zero, List.set_cons_succ]
    refine wpAnyH_take (i := 3) (oi := _) (v := .int .u8 (((m[0]'h0m).toNat : Nat) : Int)) rfl (by kernel_rfl) (by kernel_rfl) (by kernel_rfl) (fun _ _ _ h => h) (Or.inl ⟨by rfl, by intro w hSw; go_split_ands; go_simp⟩) HS.out ?_
    simp only [Act.put, List.getElem_toArray, List.getElem_cons_zero, List.getElem_cons_succ, List.setIfInBounds_toArray, List.set_cons_zero, List.set_cons_succ]
    refine wpAnyH_ready (rs := [4]) (by kernel_rfl) (by simp) ?_
    refine AllReadyH.cons (o := _) rfl (fun K hK => ?_) AllReadyH.nil
    go_simp
    refine (l01Split_any (RV.extract 1 RV.size) (m[0]'h0m) _ (by have := HRVs.out; rw [ByteArray.size_extract]; omega)).mono ?_
    rintro e w2 ⟨v8, rfl, ho8, hb8⟩
    have HSPL := hide hb8
    have HOS := hide ho8
    refine hK.out _ _ trivial (fun _ => ?_)
    clear hK K HS ho8 hb8
    have HS : Hid True := trivial
    try simp only [Act.put, List.getElem_toArray, List.getElem_cons_zero, List.getElem_cons_succ, List.setIfInBounds_toArray, List.set_cons_zero, List.set_cons_succ]
    refine wpAnyH_take (i := 5) (oi := _) (v := v8) rfl (by kernel_rfl) (by kernel_rfl) (by kernel_rfl) (fun _ _ _ h => h) (Or.inl ⟨by rfl, by intro w hSw; go_split_ands; go_simp⟩) HS.out ?_
    simp only [Act.put, List.getElem_toArray, List.getElem_cons_zero, List.getElem_cons_succ, List.setIfInBounds_toArray, List.set_cons_zero, List.set_cons_succ]
    refine wpAnyH_done (by kernel_rfl) ?_ _
    clear HS
    have HRR2 := hide ((HRR1.out.below HZ1.out HRR1.out.lt).below HSPL.out (Nat.lt_of_lt_of_le HRR1.out.lt HZ1.out.size))
    have HRS2 := hide ((HRS1.out.below HZ1.out HRS1.out.lt).below HSPL.out (Nat.lt_of_lt_of_le HRS1.out.lt HZ1.out.size))
    have HBW2 := hide ((HBW1.out.trans (HZ1.out.mono HBW1.out.size)).trans (HSPL.out.mono (HBW1.out.trans (HZ1.out.mono HBW1.out.size)).size))
    have HW12 := hide (show S6 < W1.heap.size from Nat.lt_of_lt_of_le HRS1.out.lt HZ1.out.size)
    rw [← HB0.out] at HOS
    have HPL := hide (cutL_len (bAt m 0) (RV.extract 1 RV.size).data.toList)
    obtain ⟨g8, c8, hv8, hc81, hc82, hg81, hg82, cs8, hrow8, hcell8⟩ := pieces_row HOS.out
    subst hv8
    obtain ⟨P, hP⟩ : ∃ P, P = cutL (bAt m 0) (RV.extract 1 RV.size).data.toList := ⟨_, rfl⟩
    rw [← hP] at hcell8 HPL HFM hc82 ⊢
    have HPB := hide (show P.length ≤ 8001 ∧ ∀ p ∈ P, p.length ≤ 8000 by
      have h8 : (RV.extract 1 RV.size).data.toList.length ≤ 8000 := by
        have h9 : (RV.extract 1 RV.size).data.toList.length = (RV.extract 1 RV.size).size := by simp
        rw [h9, ByteArray.size_extract]; have := HRVs.out; omega
      exact ⟨by have := HPL.out.1; omega, fun p hp => by have := HPL.out.2 p hp; omega⟩)
    have HC8 := hide hcell8
    have HR8 := hide hrow8
    have HG8 := hide (show S6 < g8 by have h1 := HW12.out; omega)
    have HSB := hide (show S6 < w2.heap.size by have h1 := HW12.out; have h2 := HSPL.out.size; omega)
    unfold maxLen at hc81
    clear hP hcell8 hrow8 HPL HOS HSPL hg81 hg82 heq h00 hri
    go_wp2_with fail
    go_loopw [9] (fun i wr => ∃ (Z : World) (k : Nat) (lf : Value) (vs : List Value), Z = wr ∧ k ≤ P.length ∧ i = .int .i64 (k : Int) ∧ Hid (Row Z S6 33 [.string N3, lf]) ∧ Hid (Z.ownsRow w2.heap.size 24 1 lf ((P.take k).map (fldM m)).length vs) ∧ Hid (GE QFld w2.heap.size Z lf vs ((P.take k).map (fldM m))) ∧ Hid (Only S6 w2 Z)) (fun i _ => P.length - (intOf i).toNat)
    case atStart => exact ⟨_, 0, _, [], rfl, Nat.zero_le _, rfl, HRS2, hide (World.ownsRow_nil w2 w2.heap.size 24 1), hide GE.nil, hide (Only.refl _ _)⟩
    case round =>
      obtain ⟨Z, k, lf, vs, rfl, hk, rfl, HRC, HOF, HGF, HNZ⟩ := hrel
      by_cases hltk : k < P.length
      · have HLK := hide (show ((P.take k).map (fldM m)).length = k by rw [List.length_map, List.length_take]; omega)
        have HOK := hide (show Z.ownsRow w2.heap.size 24 1 lf k vs by have h := HOF.out; rw [HLK.out] at h; exact h)
        have HWB := hide (show w2.heap.size ≤ Z.heap.size from HNZ.out.size)
        have hki0 : (0 : Int) ≤ (k : Int) := by omega
        have hki : (k : Int) < (P.length : Int) := by omega
        go_wp2_with fail
        have HSS := hide (show ∀ y, Only S6 w2 y → (fun y : World => y.cell? ⟨g8, k, none⟩ = some (.string (asB (P[k]'hltk)))) y from fun y h => by
          show y.cell? ⟨g8, k, none⟩ = _
          rw [(h.row HR8.out (by have := HG8.out; omega)).cell]
          exact HC8.out k hltk)
        refine wp_region_held (S := (fun y : World => y.cell? ⟨g8, k, none⟩ = some (.string (asB (P[k]'hltk))))) (by kernel_rfl) ?_
        have HB0 := hide (show Below Z.heap.size Z { Z with drawn := Z.drawn + 1 } from (Below.refl _ _).drew)
        have HN0 := hide (HNZ.out.below HB0.out)
        have HRC0 := hide (HRC.out.below HB0.out HRC.out.lt)
        have HOC0 := hide (own_below HOK.out HB0.out)
        generalize ({ Z with drawn := Z.drawn + 1 } : World) = Z0 at HB0 HN0 HRC0 HOC0 ⊢
        have HS := hide (HSS.out _ HN0.out)
        refine wpAnyH_take (i := 0) (oi := _) (v := .pointer (some ⟨S6, 1, none⟩)) rfl (by kernel_rfl) (by kernel_rfl) (by kernel_rfl) (fun _ _ _ h => h) (Or.inl ⟨by rfl, by intro w hSw; go_split_ands; go_simp⟩) HS.out ?_
        simp only [Act.put, List.getElem_toArray, List.getElem_cons_zero, List.setIfInBounds_toArray, List.set_cons_zero, List.set_cons_succ]
        refine wpAnyH_take (i := 2) (oi := _) (v := .string m) rfl (by kernel_rfl) (by kernel_rfl) (by kernel_rfl) (fun _ _ _ h => h) (Or.inl ⟨by rfl, by intro w hSw; go_split_ands; go_simp⟩) HS.out ?_
        simp only [Act.put, List.getElem_toArray, List.getElem_cons_zero, List.getElem_cons_succ, List.setIfInBounds_toArray, List.set_cons_zero, List.set_cons_succ]
        refine wpAnyH_take (i := 3) (oi := _) (v := .slice (some ⟨g8, 0, none⟩) P.length c8) rfl (by kernel_rfl) (by kernel_rfl) (by kernel_rfl) (fun _ _ _ h => h) (Or.inl ⟨by rfl, by intro w hSw; go_split_ands; go_simp⟩) HS.out ?_
        simp only [Act.put, List.getElem_toArray, List.getElem_cons_zero, List.getElem_cons_succ, List.setIfInBounds_toArray, List.set_cons_zero, List.set_cons_succ]
        refine wpAnyH_take (i := 4) (oi := _) (v := .int .i64 (k : Int)) rfl (by kernel_rfl) (by kernel_rfl) (by kernel_rfl) (fun _ _ _ h => h) (Or.inl ⟨by rfl, by intro w hSw; go_split_ands; go_simp⟩) HS.out ?_
        simp only [Act.put, List.getElem_toArray, List.getElem_cons_zero, List.getElem_cons_succ, List.setIfInBounds_toArray, List.set_cons_zero, List.set_cons_succ]
        refine wpAnyH_take (i := 5) (oi := _) (v := .pointer (some ⟨g8, k, none⟩)) rfl (by kernel_rfl) (by kernel_rfl) (by kernel_rfl) (fun _ _ _ h => h) (Or.inl ⟨by rfl, by intro w hSw; go_split_ands; go_simp⟩) HS.out ?_
        simp only [Act.put, List.getElem_toArray, List.getElem_cons_zero, List.getElem_cons_succ, List.setIfInBounds_toArray, List.set_cons_zero, List.set_cons_succ]
        refine wpAnyH_take (i := 6) (oi := _) (v := .string (asB (P[k]'hltk))) rfl (by kernel_rfl) (by kernel_rfl) (by kernel_rfl) (fun _ _ _ h => h) (Or.inl ⟨by rfl, by intro w hSw; go_split_ands; go_simp⟩) HS.out ?_
        simp only [Act.put, List.getElem_toArray, List.getElem_cons_zero, List.getElem_cons_succ, List.setIfInBounds_toArray, List.set_cons_zero, List.set_cons_succ]
        refine wpAnyH_ready (rs := [1, 7]) (by kernel_rfl) (by simp) ?_
        refine AllReadyH.cons (o := _) rfl (fun K hK => ?_) (AllReadyH.cons (o := _) rfl (fun K hK => ?_) AllReadyH.nil)
        · have c5 : Z0.cell? ⟨S6, 1, none⟩ = some lf := (HRC0.out).cell 1
          go_simp
          refine hK.out _ _ HS.out (fun _ => ?_)
          clear hK K c5
          try simp only [Act.put, List.getElem_toArray, List.getElem_cons_zero, List.getElem_cons_succ, List.setIfInBounds_toArray, List.set_cons_zero, List.set_cons_succ]
          refine wpAnyH_ready (rs := [7]) (by kernel_rfl) (by simp) ?_
          refine AllReadyH.cons (o := _) rfl (fun K hK => ?_) AllReadyH.nil
          go_simp
          refine (l04Read_any m (asB (P[k]'hltk)) _ hm (by rw [asB_size]; have := HPB.out.2 _ (List.getElem_mem hltk); omega)).mono ?_
          rintro e Z1 ⟨pf, cf, rfl, hqf, hb1⟩
          rw [show (asB (P[k]'hltk)).data.toList = P[k]'hltk by simp [asB]] at hqf ⊢
          have HB1 := hide (HB0.out.trans (hb1.mono HB0.out.size))
          have HN1 := hide (HN0.out.below hb1)
          have HRC1 := hide (HRC0.out.below hb1 HRC0.out.lt)
          have HOC1 := hide (own_below HOC0.out hb1)
          have HQF := hide hqf
          have HQA := hide (show Z.heap.size ≤ Z0.heap.size from HB0.out.size)
          refine hK.out _ _ (HSS.out _ HN1.out) (fun _ => ?_)
          clear hK K HS hb1 hqf
          have HS := hide (HSS.out _ HN1.out)
          obtain ⟨FX, hFX⟩ : ∃ FX, FX = fldM m (P[k]'hltk) := ⟨_, rfl⟩
          rw [← hFX] at HQF ⊢
          have HFX := hide hFX
          clear hFX
          try simp only [Act.put, List.getElem_toArray, List.getElem_cons_zero, List.getElem_cons_succ, List.setIfInBounds_toArray, List.set_cons_zero, List.set_cons_succ]
          refine wpAnyH_ready (rs := [8]) (by kernel_rfl) (by simp) ?_
          refine AllReadyH.cons (o := _) rfl (fun K hK => ?_) AllReadyH.nil
          go_simp
          have HN2 := hide (HN1.out.alloc' (.cells #[.slice pf FX.length cf] 24))
          have HRU := HRC1
          have HBU := HB1
          have HRC2 := hide (HRC1.out.alloc (.cells #[.slice pf FX.length cf] 24))
          have HOC2 := hide (HOC1.out.alloc (.cells #[.slice pf FX.length cf] 24))
          have HR1 := hide (cell_one_new Z1 (.slice pf FX.length cf) 24)
          have HSZ2 := hide (show w2.heap.size ≤ (Z1.alloc (.cells #[.slice pf FX.length cf] 24)).heap.size from HN2.out.size)
          refine hK.out _ _ (HSS.out _ HN2.out) (fun _ => ?_)
          clear hK K HS
          obtain ⟨Z2, hZ⟩ : ∃ Z, Z = Z1.alloc (.cells #[.slice pf FX.length cf] 24) := ⟨_, rfl⟩
          rw [← hZ] at HN2 HRC2 HOC2 HR1 HSZ2 ⊢
          have HZZ := hide hZ
          obtain ⟨E5, hE5⟩ : ∃ E, E = Z1.heap.size := ⟨_, rfl⟩
          rw [← hE5] at HR1 ⊢
          clear hZ hE5
          have HS := hide (HSS.out _ HN2.out)
          try simp only [Act.put, List.getElem_toArray, List.getElem_cons_zero, List.getElem_cons_succ, List.setIfInBounds_toArray, List.set_cons_zero, List.set_cons_succ]
          refine wpAnyH_ready (rs := [9]) (by kernel_rfl) (by simp) ?_
          refine AllReadyH.cons (o := _) rfl (fun K hK => ?_) AllReadyH.nil
          refine step_own (w := Z2) rfl (.tmp 55) (.tmp 62) 31 rfl w2.heap.size 24 i0 _ 1 24 Try.underlying31 hi hz0 hz1 hz2 HZC.out (by omega) lf k _ rfl HOC2.out ⟨E5, 0, none⟩ 1 _ [.slice pf FX.length cf] rfl rfl HR1.out (by simp [Value.oneCell']) (by unfold maxLen; have := HPB.out.1; omega) (by have := HPB.out.1; omega) HSZ2.out ?_
          intro l3 Z9 hown9 hgrow hat
          obtain ⟨pl, cl, hl3⟩ := own_slice1 hown9
          subst hl3
          have HN9 := hide (HN2.out.grown hgrow (fun k hk => (HOC2.out.lt k hk).1))
          rw [HZZ.out] at hgrow hat
          obtain ⟨s1, s2, s3, s4⟩ := grow_step2 (G := S6) (E := 33) (T := 24) (R := QFld) (y := FX) HOF.out HGF.out HBU.out HWB.out HSB.out HQA.out (Nat.le_refl _) HQF.out HRU.out (by rw [HLK.out]; exact hown9) hgrow hat
          have HS1 := hide s1
          have HS2 := hide s2
          have HS3 := hide s3
          have HS4 := hide s4
          clear s1 s2 s3 s4 hown9 hgrow hat
          refine hK.out _ _ (HSS.out _ HN9.out) (fun _ => ?_)
          clear hK K HS
          have HS := hide (HSS.out _ HN9.out)
          try simp only [Act.put, List.getElem_toArray, List.getElem_cons_zero, List.getElem_cons_succ, List.setIfInBounds_toArray, List.set_cons_zero, List.set_cons_succ]
          refine wpAnyH_take (i := 10) (oi := _) (v := .pointer (some ⟨S6, 1, none⟩)) rfl (by kernel_rfl) (by kernel_rfl) (by kernel_rfl) (fun _ _ _ h => h) (Or.inl ⟨by rfl, by intro w hSw; go_split_ands; go_simp⟩) HS.out ?_
          simp only [Act.put, List.getElem_toArray, List.getElem_cons_zero, List.getElem_cons_succ, List.setIfInBounds_toArray, List.set_cons_zero, List.set_cons_succ]
          refine wpAnyH_ready (rs := [11]) (by kernel_rfl) (by simp) ?_
          refine AllReadyH.cons (o := _) rfl (fun K hK => ?_) AllReadyH.nil
          have c9 : Z9.cell? ⟨S6, 1, none⟩ = some lf := HS4.out.cell 1
          have f9 := HS4.out.free 1
          go_simp
          have HNF := hide (HN9.out.set (j := 1) (.slice pl (k + 1) cl))
          refine hK.out _ _ (HSS.out _ HNF.out) (fun _ => ?_)
          clear hK K HS c9 f9
          refine wpAnyH_done (by kernel_rfl) ?_ _
          have HM9 := hide (show (P.take (k + 1)).map (fldM m) = (P.take k).map (fldM m) ++ [FX] by rw [List.take_succ_eq_append_getElem hltk, List.map_append, HFX.out]; rfl)
          rw [← HM9.out] at HS1 HS2
          go_wp2
          go_roundw
          case rel => exact ⟨_, k + 1, _, _, rfl, by omega, by go_num, HS3, HS1, HS2, HNF⟩
          case measure => simp [intOf]; omega
        · go_simp
          refine (l04Read_any m (asB (P[k]'hltk)) _ hm (by rw [asB_size]; have := HPB.out.2 _ (List.getElem_mem hltk); omega)).mono ?_
          rintro e Z1 ⟨pf, cf, rfl, hqf, hb1⟩
          rw [show (asB (P[k]'hltk)).data.toList = P[k]'hltk by simp [asB]] at hqf ⊢
          have HB1 := hide (HB0.out.trans (hb1.mono HB0.out.size))
          have HN1 := hide (HN0.out.below hb1)
          have HRC1 := hide (HRC0.out.below hb1 HRC0.out.lt)
          have HOC1 := hide (own_below HOC0.out hb1)
          have HQF := hide hqf
          have HQA := hide (show Z.heap.size ≤ Z0.heap.size from HB0.out.size)
          refine hK.out _ _ (HSS.out _ HN1.out) (fun _ => ?_)
          clear hK K HS hb1 hqf
          have HS := hide (HSS.out _ HN1.out)
          obtain ⟨FX, hFX⟩ : ∃ FX, FX = fldM m (P[k]'hltk) := ⟨_, rfl⟩
          rw [← hFX] at HQF ⊢
          have HFX := hide hFX
          clear hFX
          try simp only [Act.put, List.getElem_toArray, List.getElem_cons_zero, List.getElem_cons_succ, List.setIfInBounds_toArray, List.set_cons_zero, List.set_cons_succ]
          refine wpAnyH_ready (rs := [1, 8]) (by kernel_rfl) (by simp) ?_
          refine AllReadyH.cons (o := _) rfl (fun K hK => ?_) (AllReadyH.cons (o := _) rfl (fun K hK => ?_) AllReadyH.nil)
          · have c5 : Z1.cell? ⟨S6, 1, none⟩ = some lf := (HRC1.out).cell 1
            go_simp
            refine hK.out _ _ HS.out (fun _ => ?_)
            clear hK K c5
            try simp only [Act.put, List.getElem_toArray, List.getElem_cons_zero, List.getElem_cons_succ, List.setIfInBounds_toArray, List.set_cons_zero, List.set_cons_succ]
            refine wpAnyH_ready (rs := [8]) (by kernel_rfl) (by simp) ?_
            refine AllReadyH.cons (o := _) rfl (fun K hK => ?_) AllReadyH.nil
            go_simp
            have HN2 := hide (HN1.out.alloc' (.cells #[.slice pf FX.length cf] 24))
            have HRU := HRC1
            have HBU := HB1
            have HRC2 := hide (HRC1.out.alloc (.cells #[.slice pf FX.length cf] 24))
            have HOC2 := hide (HOC1.out.alloc (.cells #[.slice pf FX.length cf] 24))
            have HR1 := hide (cell_one_new Z1 (.slice pf FX.length cf) 24)
            have HSZ2 := hide (show w2.heap.size ≤ (Z1.alloc (.cells #[.slice pf FX.length cf] 24)).heap.size from HN2.out.size)
            refine hK.out _ _ (HSS.out _ HN2.out) (fun _ => ?_)
            clear hK K HS
            obtain ⟨Z2, hZ⟩ : ∃ Z, Z = Z1.alloc (.cells #[.slice pf FX.length cf] 24) := ⟨_, rfl⟩
            rw [← hZ] at HN2 HRC2 HOC2 HR1 HSZ2 ⊢
            have HZZ := hide hZ
            obtain ⟨E5, hE5⟩ : ∃ E, E = Z1.heap.size := ⟨_, rfl⟩
            rw [← hE5] at HR1 ⊢
            clear hZ hE5
            have HS := hide (HSS.out _ HN2.out)
            try simp only [Act.put, List.getElem_toArray, List.getElem_cons_zero, List.getElem_cons_succ, List.setIfInBounds_toArray, List.set_cons_zero, List.set_cons_succ]
            refine wpAnyH_ready (rs := [9]) (by kernel_rfl) (by simp) ?_
            refine AllReadyH.cons (o := _) rfl (fun K hK => ?_) AllReadyH.nil
            refine step_own (w := Z2) rfl (.tmp 55) (.tmp 62) 31 rfl w2.heap.size 24 i0 _ 1 24 Try.underlying31 hi hz0 hz1 hz2 HZC.out (by omega) lf k _ rfl HOC2.out ⟨E5, 0, none⟩ 1 _ [.slice pf FX.length cf] rfl rfl HR1.out (by simp [Value.oneCell']) (by unfold maxLen; have := HPB.out.1; omega) (by have := HPB.out.1; omega) HSZ2.out ?_
            intro l3 Z9 hown9 hgrow hat
            obtain ⟨pl, cl, hl3⟩ := own_slice1 hown9
            subst hl3
            have HN9 := hide (HN2.out.grown hgrow (fun k hk => (HOC2.out.lt k hk).1))
            rw [HZZ.out] at hgrow hat
            obtain ⟨s1, s2, s3, s4⟩ := grow_step2 (G := S6) (E := 33) (T := 24) (R := QFld) (y := FX) HOF.out HGF.out HBU.out HWB.out HSB.out HQA.out (Nat.le_refl _) HQF.out HRU.out (by rw [HLK.out]; exact hown9) hgrow hat
            have HS1 := hide s1
            have HS2 := hide s2
            have HS3 := hide s3
            have HS4 := hide s4
            clear s1 s2 s3 s4 hown9 hgrow hat
            refine hK.out _ _ (HSS.out _ HN9.out) (fun _ => ?_)
            clear hK K HS
            have HS := hide (HSS.out _ HN9.out)
            try simp only [Act.put, List.getElem_toArray, List.getElem_cons_zero, List.getElem_cons_succ, List.setIfInBounds_toArray, List.set_cons_zero, List.set_cons_succ]
            refine wpAnyH_take (i := 10) (oi := _) (v := .pointer (some ⟨S6, 1, none⟩)) rfl (by kernel_rfl) (by kernel_rfl) (by kernel_rfl) (fun _ _ _ h => h) (Or.inl ⟨by rfl, by intro w hSw; go_split_ands; go_simp⟩) HS.out ?_
            simp only [Act.put, List.getElem_toArray, List.getElem_cons_zero, List.getElem_cons_succ, List.setIfInBounds_toArray, List.set_cons_zero, List.set_cons_succ]
            refine wpAnyH_ready (rs := [11]) (by kernel_rfl) (by simp) ?_
            refine AllReadyH.cons (o := _) rfl (fun K hK => ?_) AllReadyH.nil
            have c9 : Z9.cell? ⟨S6, 1, none⟩ = some lf := HS4.out.cell 1
            have f9 := HS4.out.free 1
            go_simp
            have HNF := hide (HN9.out.set (j := 1) (.slice pl (k + 1) cl))
            refine hK.out _ _ (HSS.out _ HNF.out) (fun _ => ?_)
            clear hK K HS c9 f9
            refine wpAnyH_done (by kernel_rfl) ?_ _
            have HM9 := hide (show (P.take (k + 1)).map (fldM m) = (P.take k).map (fldM m) ++ [FX] by rw [List.take_succ_eq_append_getElem hltk, List.map_append, HFX.out]; rfl)
            rw [← HM9.out] at HS1 HS2
            go_wp2
            go_roundw
            case rel => exact ⟨_, k + 1, _, _, rfl, by omega, by go_num, HS3, HS1, HS2, HNF⟩
            case measure => simp [intOf]; omega
          · go_simp
            have HN2 := hide (HN1.out.alloc' (.cells #[.slice pf FX.length cf] 24))
            have HRU := HRC1
            have HBU := HB1
            have HRC2 := hide (HRC1.out.alloc (.cells #[.slice pf FX.length cf] 24))
            have HOC2 := hide (HOC1.out.alloc (.cells #[.slice pf FX.length cf] 24))
            have HR1 := hide (cell_one_new Z1 (.slice pf FX.length cf) 24)
            have HSZ2 := hide (show w2.heap.size ≤ (Z1.alloc (.cells #[.slice pf FX.length cf] 24)).heap.size from HN2.out.size)
            refine hK.out _ _ (HSS.out _ HN2.out) (fun _ => ?_)
            clear hK K HS
            obtain ⟨Z2, hZ⟩ : ∃ Z, Z = Z1.alloc (.cells #[.slice pf FX.length cf] 24) := ⟨_, rfl⟩
            rw [← hZ] at HN2 HRC2 HOC2 HR1 HSZ2 ⊢
            have HZZ := hide hZ
            obtain ⟨E5, hE5⟩ : ∃ E, E = Z1.heap.size := ⟨_, rfl⟩
            rw [← hE5] at HR1 ⊢
            clear hZ hE5
            have HS := hide (HSS.out _ HN2.out)
            try simp only [Act.put, List.getElem_toArray, List.getElem_cons_zero, List.getElem_cons_succ, List.setIfInBounds_toArray, List.set_cons_zero, List.set_cons_succ]
            refine wpAnyH_ready (rs := [1]) (by kernel_rfl) (by simp) ?_
            refine AllReadyH.cons (o := _) rfl (fun K hK => ?_) AllReadyH.nil
            have c5 : Z2.cell? ⟨S6, 1, none⟩ = some lf := (HRC2.out).cell 1
            go_simp
            refine hK.out _ _ HS.out (fun _ => ?_)
            clear hK K c5
            try simp only [Act.put, List.getElem_toArray, List.getElem_cons_zero, List.getElem_cons_succ, List.setIfInBounds_toArray, List.set_cons_zero, List.set_cons_succ]
            refine wpAnyH_ready (rs := [9]) (by kernel_rfl) (by simp) ?_
            refine AllReadyH.cons (o := _) rfl (fun K hK => ?_) AllReadyH.nil
            refine step_own (w := Z2) rfl (.tmp 55) (.tmp 62) 31 rfl w2.heap.size 24 i0 _ 1 24 Try.underlying31 hi hz0 hz1 hz2 HZC.out (by omega) lf k _ rfl HOC2.out ⟨E5, 0, none⟩ 1 _ [.slice pf FX.length cf] rfl rfl HR1.out (by simp [Value.oneCell']) (by unfold maxLen; have := HPB.out.1; omega) (by have := HPB.out.1; omega) HSZ2.out ?_
            intro l3 Z9 hown9 hgrow hat
            obtain ⟨pl, cl, hl3⟩ := own_slice1 hown9
            subst hl3
            have HN9 := hide (HN2.out.grown hgrow (fun k hk => (HOC2.out.lt k hk).1))
            rw [HZZ.out] at hgrow hat
            obtain ⟨s1, s2, s3, s4⟩ := grow_step2 (G := S6) (E := 33) (T := 24) (R := QFld) (y := FX) HOF.out HGF.out HBU.out HWB.out HSB.out HQA.out (Nat.le_refl _) HQF.out HRU.out (by rw [HLK.out]; exact hown9) hgrow hat
            have HS1 := hide s1
            have HS2 := hide s2
            have HS3 := hide s3
            have HS4 := hide s4
            clear s1 s2 s3 s4 hown9 hgrow hat
            refine hK.out _ _ (HSS.out _ HN9.out) (fun _ => ?_)
            clear hK K HS
            have HS := hide (HSS.out _ HN9.out)
            try simp only [Act.put, List.getElem_toArray, List.getElem_cons_zero, List.getElem_cons_succ, List.setIfInBounds_toArray, List.set_cons_zero, List.set_cons_succ]
            refine wpAnyH_take (i := 10) (oi := _) (v := .pointer (some ⟨S6, 1, none⟩)) rfl (by kernel_rfl) (by kernel_rfl) (by kernel_rfl) (fun _ _ _ h => h) (Or.inl ⟨by rfl, by intro w hSw; go_split_ands; go_simp⟩) HS.out ?_
            simp only [Act.put, List.getElem_toArray, List.getElem_cons_zero, List.getElem_cons_succ, List.setIfInBounds_toArray, List.set_cons_zero, List.set_cons_succ]
            refine wpAnyH_ready (rs := [11]) (by kernel_rfl) (by simp) ?_
            refine AllReadyH.cons (o := _) rfl (fun K hK => ?_) AllReadyH.nil
            have c9 : Z9.cell? ⟨S6, 1, none⟩ = some lf := HS4.out.cell 1
            have f9 := HS4.out.free 1
            go_simp
            have HNF := hide (HN9.out.set (j := 1) (.slice pl (k + 1) cl))
            refine hK.out _ _ (HSS.out _ HNF.out) (fun _ => ?_)
            clear hK K HS c9 f9
            refine wpAnyH_done (by kernel_rfl) ?_ _
            have HM9 := hide (show (P.take (k + 1)).map (fldM m) = (P.take k).map (fldM m) ++ [FX] by rw [List.take_succ_eq_append_getElem hltk, List.map_append, HFX.out]; rfl)
            rw [← HM9.out] at HS1 HS2
            go_wp2
            go_roundw
            case rel => exact ⟨_, k + 1, _, _, rfl, by omega, by go_num, HS3, HS1, HS2, HNF⟩
            case measure => simp [intOf]; omega

      · have ek : P.take k = P := List.take_of_length_le (by omega)
        have HSM := hide (show segMd m t.data.toList = some (N3, trimR empL (P.map (fldM m))) from HFM.out)
        obtain ⟨fs, hfs⟩ : ∃ fs, fs = P.map (fldM m) := ⟨_, rfl⟩
        rw [ek, ← hfs] at HOF HGF
        rw [← hfs] at HSM
        have HQ0 := hide (HGF.out.ql HOF.out)
        obtain ⟨ps, cs, h1cs, hcaps⟩ : ∃ p c, lf = .slice p fs.length c ∧ (fs.length ≤ c ∧ c ≤ maxLen) := by
          obtain ⟨p, c, e, h1, h2, _⟩ := HQ0.out
          exact ⟨p, c, e, h1, h2⟩
        subst h1cs
        have HSL := hide (show fs.length ≤ 8001 by rw [hfs, List.length_map]; exact HPB.out.1)
        have HCAP := hide hcaps
        have hcms := hcaps.2
        unfold maxLen at hcms
        have HGB := HSB
        have HTR0 := HRC
        have HS6B := hide (show w.heap.size + 1 = S6 ∧ S6 < w2.heap.size from ⟨HS6e.out.symm, HSB.out⟩)
        clear hcaps ek hfs HGF HOF HRC
        go_wp2_with fail
        go_loopw [] (fun wr => ∃ (U : World) (n : Nat), U = wr ∧ n ≤ fs.length ∧ Hid (Row U S6 33 [.string N3, .slice ps n cs]) ∧ Hid (Only S6 Z U) ∧ Hid (trimR empL (fs.take n) = trimR empL fs)) (fun wr => lenAt1 wr S6)
        case atStart => exact ⟨_, _, rfl, Nat.le_refl _, HTR0, hide (Only.refl _ _), hide (by rw [List.take_length])⟩
        case round =>
          obtain ⟨U, n, rfl, hn, HTR, HTO, HTT⟩ := hrel
          have t0 : U.cell? ⟨S6, 1, none⟩ = some (.slice ps n cs) := HTR.out.cell 1
          have HTL := hide (lenAt1_of t0)
          have HQU := hide (Keeps.go (SameIn.ofOnly HTO.out (by have := HGB.out; omega)) HQ0.out)
          by_cases hn0 : n = 0
          · subst hn0
            have HLT := hide (show trimR empL fs = fs.take 0 by rw [← HTT.out]; rfl)
            have HQF := hide (QL.take HQU.out (Nat.zero_le _))
            obtain ⟨F, hF⟩ : ∃ F, F = fs.take 0 := ⟨_, rfl⟩
            have HFL5 := hide (show F.length = 0 by rw [hF]; rfl)
            rw [← hF] at HLT HQF
            clear hF
            have HOU := hide (HNZ.out.trans HTO.out)
            have HRU := hide (HOU.out.row HRR2.out (by have := HS6B.out; omega))
            have r0 : U.cell? ⟨w.heap.size, 0, none⟩ = some (.string ⟨#[]⟩) := HRU.out.cell 0
            have r1 : U.cell? ⟨w.heap.size, 1, none⟩ = some (.slice none 0 0) := HRU.out.cell 1
            have f0 := HRU.out.free 0
            have f1 := HRU.out.free 1
            have t1 : U.cell? ⟨S6, 0, none⟩ = some (.string N3) := HTR.out.cell 0
            have t2 := (HRU.out.set (j := 0) (.string N3)).set (j := 1) (.slice ps 0 cs)
            have q0 : ((U.setCell ⟨w.heap.size, 0, none⟩ (.string N3)).setCell ⟨w.heap.size, 1, none⟩ (.slice ps 0 cs)).cell? ⟨w.heap.size, 0, none⟩ = some (.string N3) := t2.cell 0
            have q1 : ((U.setCell ⟨w.heap.size, 0, none⟩ (.string N3)).setCell ⟨w.heap.size, 1, none⟩ (.slice ps 0 cs)).cell? ⟨w.heap.size, 1, none⟩ = some (.slice ps 0 cs) := t2.cell 1
            have HBE := hide (((HOU.out.toBelow HBW2.out HBW2.out.size (by have := HS6B.out; omega)).setCell (p := ⟨w.heap.size, 0, none⟩) (Nat.le_refl _) (.string N3)).setCell (p := ⟨w.heap.size, 1, none⟩) (Nat.le_refl _) (.slice ps 0 cs))
            have HRF := hide (show RFlds (w.heap.size + 1) ((U.setCell ⟨w.heap.size, 0, none⟩ (.string N3)).setCell ⟨w.heap.size, 1, none⟩ (.slice ps 0 cs)) (.slice ps F.length cs) F by
              rw [HFL5.out]
              exact Lasts.go (B := w.heap.size + 1) (Same.set _ _ (by omega)) (Lasts.go (B := w.heap.size + 1) (Same.set _ _ (by omega)) (RFlds.mono (QFlds.rl HQF.out) (by have := HS6B.out; omega)))
            )
            have HE9 := hide (show segMd m t.data.toList = some (N3, F) by rw [HSM.out, HLT.out])
            obtain rfl : R = some (N3, F) := by rw [HRX.out]; exact HE9.out
            rw [HFL5.out] at HRF
            clear t2
            go_wp2
            exact bodyPost_ret (v := .tuple #[.agg #[.string N3, .slice ps 0 cs], .bool true]) (by simp [results, Try.results24, go_sem, q0, q1]) rfl ⟨⟨ps, cs, by rw [HFL5.out], by rw [HFL5.out]; exact HRF.out⟩, HBE.out⟩
          · obtain ⟨n', hn'⟩ : ∃ n', n = n' + 1 := ⟨n - 1, by omega⟩
            have hnl : n' < fs.length := by omega
            have hw1 : IntKind.i64.wrap ((n : Int) - 1) = (n' : Int) := by rw [show ((n : Int) - 1) = (n' : Int) by omega]; have := HSL.out; exact wrap_small _ (by omega) (by omega)
            have hn0' : (0 : Int) < (n : Int) := by omega
            have hn1' : (0 : Int) ≤ (n' : Int) := by omega
            have hn2' : (n' : Int) < (n : Int) := by omega
            have hn3' : (n' : Int) ≤ (cs : Int) := by have := HCAP.out; omega
            have hfr := HTR.out.free 1
            obtain ⟨g5, hp5, HCL5⟩ : ∃ g5, ps = some ⟨g5, 0, none⟩ ∧ Hid (∃ p5 c5, U.cell? ⟨g5, n', none⟩ = some (.slice p5 (fs[n']'hnl).length c5)) := by
              obtain ⟨p', cap', e', _, _, h4'⟩ := HQU.out
              cases e'
              obtain ⟨g5, vs5, rest5, A5, B5, hp5, _, _, hr5, hl5, hE5⟩ := h4' (by omega)
              obtain ⟨_, _, _, h5⟩ := hE5 n' (by omega) hnl
              obtain ⟨p5, c5, hs5⟩ := h5.isSlice
              refine ⟨g5, hp5, hide ⟨p5, c5, ?_⟩⟩
              rw [hr5.cell, List.getElem?_append_left (by omega), List.getElem?_eq_getElem (by omega), hs5]
            subst hp5
            have HN' := hide hn'
            clear hn' hn0
            cases he : empL (fs[n']'hnl)
            · have HLT := hide (show trimR empL fs = fs.take n by rw [← HTT.out, HN'.out]; exact trimR_stop hnl he)
              have HQF := hide (QL.take HQU.out hn)
              have HFL5 := hide (show (fs.take n).length = n by rw [List.length_take]; omega)
              obtain ⟨F, hF⟩ : ∃ F, F = fs.take n := ⟨_, rfl⟩
              rw [← hF] at HLT HQF HFL5
              clear hF
              obtain ⟨p5, c5, hcl⟩ := HCL5.out
              have he4 : (((fs[n']'hnl).length : Int) == 0) = false := by simpa [empL] using he
              generalize (fs[n']'hnl).length = Y5 at hcl he4
              clear he
              have HOU := hide (HNZ.out.trans HTO.out)
              have HRU := hide (HOU.out.row HRR2.out (by have := HS6B.out; omega))
              have r0 : U.cell? ⟨w.heap.size, 0, none⟩ = some (.string ⟨#[]⟩) := HRU.out.cell 0
              have r1 : U.cell? ⟨w.heap.size, 1, none⟩ = some (.slice none 0 0) := HRU.out.cell 1
              have f0 := HRU.out.free 0
              have f1 := HRU.out.free 1
              have t1 : U.cell? ⟨S6, 0, none⟩ = some (.string N3) := HTR.out.cell 0
              have t2 := (HRU.out.set (j := 0) (.string N3)).set (j := 1) (.slice (some ⟨g5, 0, none⟩) n cs)
              have q0 : ((U.setCell ⟨w.heap.size, 0, none⟩ (.string N3)).setCell ⟨w.heap.size, 1, none⟩ (.slice (some ⟨g5, 0, none⟩) n cs)).cell? ⟨w.heap.size, 0, none⟩ = some (.string N3) := t2.cell 0
              have q1 : ((U.setCell ⟨w.heap.size, 0, none⟩ (.string N3)).setCell ⟨w.heap.size, 1, none⟩ (.slice (some ⟨g5, 0, none⟩) n cs)).cell? ⟨w.heap.size, 1, none⟩ = some (.slice (some ⟨g5, 0, none⟩) n cs) := t2.cell 1
              have HBE := hide (((HOU.out.toBelow HBW2.out HBW2.out.size (by have := HS6B.out; omega)).setCell (p := ⟨w.heap.size, 0, none⟩) (Nat.le_refl _) (.string N3)).setCell (p := ⟨w.heap.size, 1, none⟩) (Nat.le_refl _) (.slice (some ⟨g5, 0, none⟩) n cs))
              have HRF := hide (show RFlds (w.heap.size + 1) ((U.setCell ⟨w.heap.size, 0, none⟩ (.string N3)).setCell ⟨w.heap.size, 1, none⟩ (.slice (some ⟨g5, 0, none⟩) n cs)) (.slice (some ⟨g5, 0, none⟩) F.length cs) F by
                rw [HFL5.out]
                exact Lasts.go (B := w.heap.size + 1) (Same.set _ _ (by omega)) (Lasts.go (B := w.heap.size + 1) (Same.set _ _ (by omega)) (RFlds.mono (QFlds.rl HQF.out) (by have := HS6B.out; omega)))
              )
              have HE9 := hide (show segMd m t.data.toList = some (N3, F) by rw [HSM.out, HLT.out])
              obtain rfl : R = some (N3, F) := by rw [HRX.out]; exact HE9.out
              rw [HFL5.out] at HRF
              clear t2
              go_wp2
              exact bodyPost_ret (v := .tuple #[.agg #[.string N3, .slice (some ⟨g5, 0, none⟩) n cs], .bool true]) (by simp [results, Try.results24, go_sem, q0, q1]) rfl ⟨⟨(some ⟨g5, 0, none⟩), cs, by rw [HFL5.out], by rw [HFL5.out]; exact HRF.out⟩, HBE.out⟩
            · have HTT2 := hide (show trimR empL (fs.take n') = trimR empL fs by rw [← HTT.out, HN'.out, trimR_take hnl he])
              have HTR2 := hide (HTR.out.set (j := 1) (.slice (some ⟨g5, 0, none⟩) n' cs))
              have HTO2 := hide (HTO.out.set (j := 1) (.slice (some ⟨g5, 0, none⟩) n' cs))
              have HTL2 := hide (lenAt1_of (HTR2.out.cell 1 : (U.setCell ⟨S6, 1, none⟩ (.slice (some ⟨g5, 0, none⟩) n' cs)).cell? ⟨S6, 1, none⟩ = some (.slice (some ⟨g5, 0, none⟩) n' cs)))
              obtain ⟨p5, c5, hcl⟩ := HCL5.out
              have he4 : (((fs[n']'hnl).length : Int) == 0) = true := by simpa [empL] using he
              generalize (fs[n']'hnl).length = Y5 at hcl he4
              clear he
              go_wp2
              go_roundw
              case rel => exact ⟨_, n', rfl, by omega, HTR2, HTO2, HTT2⟩
              case measure => rw [HTL2.out, HTL.out]; have := HN'.out; omega



  · have hb : (N3.toList == [77, 83, 72]) = false := by simpa [msh] using toList_neF hmsh
    have HMS := hide hmsh
    clear hmsh
    have HHD := hide (show headR m t.data.toList = some (N3, RS.data.toList) by
      unfold headR
      rw [if_neg (by omega), ← HN3.out, if_neg HMS.out, ← HRS3.out])
    go_upto_region 9 with fail
    obtain ⟨RV, hRV⟩ : ∃ RV, RV = RS := ⟨_, rfl⟩
    rw [← hRV] at HHD HRSs ⊢
    have HRVs0 := HRSs
    clear hRV c60 hb
    have HRVs := HRVs0
    by_cases hr0 : RV.size = 0
    · have hre : RV = ⟨#[]⟩ := ByteArray.ext (Array.eq_empty_of_size_eq_zero hr0)
      have HSM0 := hide (show segMd m t.data.toList = some (N3, []) by unfold segMd; rw [HHD.out, hre]; rfl)
      have hrb : (RV.toList == []) = true := by rw [hre]; simp
      obtain rfl : R = some (N3, []) := by rw [HRX.out]; exact HSM0.out
      clear hr0 hre
      have k0 : W.cell? ⟨w.heap.size, 0, none⟩ = some (.string ⟨#[]⟩) := HRR.out.cell 0
      have k1 : W.cell? ⟨w.heap.size, 1, none⟩ = some (.slice none 0 0) := HRR.out.cell 1
      have f0 := HRR.out.free 0
      have f1 := HRR.out.free 1
      have s0 : W.cell? ⟨S6, 0, none⟩ = some (.string N3) := HRS.out.cell 0
      have s1 : W.cell? ⟨S6, 1, none⟩ = some (.slice none 0 0) := HRS.out.cell 1
      have t2 := (HRR.out.set (j := 0) (.string N3)).set (j := 1) (.slice none 0 0)
      have q0 : ((W.setCell ⟨w.heap.size, 0, none⟩ (.string N3)).setCell ⟨w.heap.size, 1, none⟩ (.slice none 0 0)).cell? ⟨w.heap.size, 0, none⟩ = some (.string N3) := t2.cell 0
      have q1 : ((W.setCell ⟨w.heap.size, 0, none⟩ (.string N3)).setCell ⟨w.heap.size, 1, none⟩ (.slice none 0 0)).cell? ⟨w.heap.size, 1, none⟩ = some (.slice none 0 0) := t2.cell 1
      have HBF := hide ((HBW.out.setCell (p := ⟨w.heap.size, 0, none⟩) (Nat.le_refl _) (.string N3)).setCell (p := ⟨w.heap.size, 1, none⟩) (Nat.le_refl _) (.slice none 0 0))
      clear t2
      go_wp2
      exact bodyPost_ret (v := .tuple #[.agg #[.string N3, .slice none 0 0], .bool true]) (by simp [results, Try.results24, go_sem, q0, q1]) rfl ⟨⟨none, 0, rfl, ⟨none, 0, rfl, Nat.le_refl _, Nat.zero_le _, fun h => absurd h (Nat.lt_irrefl 0)⟩⟩, HBF.out⟩

    have hr1 : 0 < RV.size := by omega
    have hrb : (RV.toList == []) = false := by
      have h := toList_neF (show RV ≠ ⟨#[]⟩ from fun h => hr0 (by rw [h]; rfl))
      simpa using h
    have HB0 := hide (bAt_get m 0 h0m)
    have HRL := hide (show RV.data.toList = (RV[0]'hr1) :: (RV.extract 1 RV.size).data.toList by
      rw [extract_listE]
      have h9 : 0 < RV.data.toList.length := by simpa using hr1
      have e := List.drop_eq_getElem_cons h9
      rw [List.drop_zero] at e
      exact e)
    have hrj : (1 : Int) ≤ (RV.size : Int) := by omega
    have hri : (0 : Int) < (RV.size : Int) := by omega
    by_cases h00 : RV[0]'hr1 = m[0]'h0m
    case neg =>
      have HSM0 := hide (show segMd m t.data.toList = none by unfold segMd; rw [HHD.out]; show (fldsM m RV.data.toList).bind _ = none; rw [HRL.out, fldsM, if_neg (by rw [HB0.out]; exact h00)]; rfl)
      have hne : ¬ ((RV[0]'hr1).toNat : Int) = ((m[0]'h0m).toNat : Int) := fun e => h00 (UInt8.toNat_inj.1 (by omega))
      have hneb : (((RV[0]'hr1).toNat : Int) != ((m[0]'h0m).toNat : Int)) = true := by simpa using hne
      obtain rfl : R = none := by rw [HRX.out]; exact HSM0.out
      clear h00 hr0
      go_wp2_with fail
      refine wp_region_held (S := (fun _ : World => True)) (by kernel_rfl) ?_
      have HZ0 := hide (show Below W.heap.size W { W with drawn := W.drawn + 1 } from (Below.refl _ _).drew)
      generalize ({ W with drawn := W.drawn + 1 } : World) = W0 at HZ0 ⊢
      have HS : Hid True := trivial
      refine wpAnyH_take (i := 0) (oi := _) (v := .string RV) rfl (by kernel_rfl) (by kernel_rfl) (by kernel_rfl) (fun _ _ _ h => h) (Or.inl ⟨by rfl, by intro w hSw; go_split_ands; go_simp⟩) HS.out ?_
      simp only [Act.put, List.getElem_toArray, List.getElem_cons_zero, List.setIfInBounds_toArray, List.set_cons_zero, List.set_cons_succ]
      refine wpAnyH_take (i := 1) (oi := _) (v := .int .u8 (((RV[0]'hr1).toNat : Nat) : Int)) rfl (by kernel_rfl) (by kernel_rfl) (by kernel_rfl) (fun _ _ _ h => h) (Or.inl ⟨by rfl, by intro w hSw; go_split_ands; go_simp⟩) HS.out ?_
      simp only [Act.put, List.getElem_toArray, List.getElem_cons_zero, List.getElem_cons_succ, List.setIfInBounds_toArray, List.set_cons_zero, List.set_cons_succ]
      refine wpAnyH_take (i := 2) (oi := _) (v := .string m) rfl (by kernel_rfl) (by kernel_rfl) (by kernel_rfl) (fun _ _ _ h => h) (Or.inl ⟨by rfl, by intro w hSw; go_split_ands; go_simp⟩) HS.out ?_
      simp only [Act.put, List.getElem_toArray, List.getElem_cons_zero, List.getElem_cons_succ, List.setIfInBounds_toArray, List.set_cons_zero, List.set_cons_succ]
      refine wpAnyH_take (i := 3) (oi := _) (v := .int .u8 (((m[0]'h0m).toNat : Nat) : Int)) rfl (by kernel_rfl) (by kernel_rfl) (by kernel_rfl) (fun _ _ _ h => h) (Or.inl ⟨by rfl, by intro w hSw; go_split_ands; go_simp⟩) HS.out ?_
      simp only [Act.put, List.getElem_toArray, List.getElem_cons_zero, List.getElem_cons_succ, List.setIfInBounds_toArray, List.set_cons_zero, List.set_cons_succ]
      refine wpAnyH_take (i := 4) (oi := _) (v := .bool true) rfl (by kernel_rfl) (by kernel_rfl) (by kernel_rfl) (fun _ _ _ h => h) (Or.inl ⟨by rfl, by intro w hSw; go_split_ands; go_simp⟩) HS.out ?_
      simp only [Act.put, List.getElem_toArray, List.getElem_cons_zero, List.getElem_cons_succ, List.setIfInBounds_toArray, List.set_cons_zero, List.set_cons_succ]
      refine wpAnyH_done (by kernel_rfl) ?_ _
      clear HS
      have HRR1 := hide (HRR.out.below HZ0.out HRR.out.lt)
      have HRS1 := hide (HRS.out.below HZ0.out HRS.out.lt)
      have HBW1 := hide (HBW.out.trans (HZ0.out.mono HBW.out.size))
      have k0 : W0.cell? ⟨w.heap.size, 0, none⟩ = some (.string ⟨#[]⟩) := HRR1.out.cell 0
      have k1 : W0.cell? ⟨w.heap.size, 1, none⟩ = some (.slice none 0 0) := HRR1.out.cell 1
      have f0 := HRR1.out.free 0
      have f1 := HRR1.out.free 1
      have s0 : W0.cell? ⟨S6, 0, none⟩ = some (.string N3) := HRS1.out.cell 0
      have s1 : W0.cell? ⟨S6, 1, none⟩ = some (.slice none 0 0) := HRS1.out.cell 1
      have t2 := (HRR1.out.set (j := 0) (.string N3)).set (j := 1) (.slice none 0 0)
      have q0 : ((W0.setCell ⟨w.heap.size, 0, none⟩ (.string N3)).setCell ⟨w.heap.size, 1, none⟩ (.slice none 0 0)).cell? ⟨w.heap.size, 0, none⟩ = some (.string N3) := t2.cell 0
      have q1 : ((W0.setCell ⟨w.heap.size, 0, none⟩ (.string N3)).setCell ⟨w.heap.size, 1, none⟩ (.slice none 0 0)).cell? ⟨w.heap.size, 1, none⟩ = some (.slice none 0 0) := t2.cell 1
      have HBF := hide ((HBW1.out.setCell (p := ⟨w.heap.size, 0, none⟩) (Nat.le_refl _) (.string N3)).setCell (p := ⟨w.heap.size, 1, none⟩) (Nat.le_refl _) (.slice none 0 0))
      clear t2
      go_wp2
      exact bodyPost_ret (v := .tuple #[.agg #[.string N3, .slice none 0 0], .bool false]) (by simp [results, Try.results24, go_sem, q0, q1]) rfl ⟨⟨N3, rfl⟩, HBF.out⟩

    have HFM := hide (show segMd m t.data.toList = some (N3, trimR empL ((cutL (bAt m 0) (RV.extract 1 RV.size).data.toList).map (fldM m))) by unfold segMd; rw [HHD.out]; show (fldsM m RV.data.toList).bind _ = _; rw [HRL.out, fldsM, if_pos (by rw [HB0.out]; exact h00)]; rfl)
    have heq : ((RV[0]'hr1).toNat : Int) = ((m[0]'h0m).toNat : Int) := by rw [h00]
    have heqb : (((RV[0]'hr1).toNat : Int) != ((m[0]'h0m).toNat : Int)) = false := by rw [heq]; simp
    clear hr0
    go_wp2_with fail
    refine wp_region_held (S := (fun _ : World => True)) (by kernel_rfl) ?_
    have HZ0 := hide (show Below W.heap.size W { W with drawn := W.drawn + 1 } from (Below.refl _ _).drew)
    generalize ({ W with drawn := W.drawn + 1 } : World) = W0 at HZ0 ⊢
    have HS : Hid True := trivial
    refine wpAnyH_take (i := 0) (oi := _) (v := .string RV) rfl (by kernel_rfl) (by kernel_rfl) (by kernel_rfl) (fun _ _ _ h => h) (Or.inl ⟨by rfl, by intro w hSw; go_split_ands; go_simp⟩) HS.out ?_
    simp only [Act.put, List.getElem_toArray, List.getElem_cons_zero, List.setIfInBounds_toArray, List.set_cons_zero, List.set_cons_succ]
    refine wpAnyH_take (i := 1) (oi := _) (v := .int .u8 (((RV[0]'hr1).toNat : Nat) : Int)) rfl (by kernel_rfl) (by kernel_rfl) (by kernel_rfl) (fun _ _ _ h => h) (Or.inl ⟨by rfl, by intro w hSw; go_split_ands; go_simp⟩) HS.out ?_
    simp only [Act.put, List.getElem_toArray, List.getElem_cons_zero, List.getElem_cons_succ, List.setIfInBounds_toArray, List.set_cons_zero, List.set_cons_succ]
    refine wpAnyH_take (i := 2) (oi := _) (v := .string m) rfl (by kernel_rfl) (by kernel_rfl) (by kernel_rfl) (fun _ _ _ h => h) (Or.inl ⟨by rfl, by intro w hSw; go_split_ands; go_simp⟩) HS.out ?_
    simp only [Act.put, List.getElem_toArray, List.getElem_cons_zero, List.getElem_cons_succ, List.setIfInBounds_toArray, List.set_cons_zero, List.set_cons_succ]
    refine wpAnyH_take (i := 3) (oi := _) (v := .int .u8 (((m[0]'h0m).toNat : Nat) : Int)) rfl (by kernel_rfl) (by kernel_rfl) (by kernel_rfl) (fun _ _ _ h => h) (Or.inl ⟨by rfl, by intro w hSw; go_split_ands; go_simp⟩) HS.out ?_
    simp only [Act.put, List.getElem_toArray, List.getElem_cons_zero, List.getElem_cons_succ, List.setIfInBounds_toArray, List.set_cons_zero, List.set_cons_succ]
    refine wpAnyH_take (i := 4) (oi := _) (v := .bool false) rfl (by kernel_rfl) (by kernel_rfl) (by kernel_rfl) (fun _ _ _ h => h) (Or.inl ⟨by rfl, by intro w hSw; go_split_ands; go_simp⟩) HS.out ?_
    simp only [Act.put, List.getElem_toArray, List.getElem_cons_zero, List.getElem_cons_succ, List.setIfInBounds_toArray, List.set_cons_zero, List.set_cons_succ]
    refine wpAnyH_done (by kernel_rfl) ?_ _
    clear HS
    have HRR1 := hide (HRR.out.below HZ0.out HRR.out.lt)
    have HRS1 := hide (HRS.out.below HZ0.out HRS.out.lt)
    have HBW1 := hide (HBW.out.trans (HZ0.out.mono HBW.out.size))
    go_wp2_with fail
    refine wp_region_held (S := (fun _ : World => True)) (by kernel_rfl) ?_
    have HZ1 := hide (show Below W0.heap.size W0 { W0 with drawn := W0.drawn + 1 } from (Below.refl _ _).drew)
    generalize ({ W0 with drawn := W0.drawn + 1 } : World) = W1 at HZ1 ⊢
    have HS : Hid True := trivial
    refine wpAnyH_take (i := 0) (oi := _) (v := .string RV) rfl (by kernel_rfl) (by kernel_rfl) (by kernel_rfl) (fun _ _ _ h => h) (Or.inl ⟨by rfl, by intro w hSw; go_split_ands; go_simp⟩) HS.out ?_
    simp only [Act.put, List.getElem_toArray, List.getElem_cons_zero, List.setIfInBounds_toArray, List.set_cons_zero, List.set_cons_succ]
    refine wpAnyH_take (i := 1) (oi := _) (v := .string (RV.extract 1 RV.size)) rfl (by kernel_rfl) (by kernel_rfl) (by kernel_rfl) (fun _ _ _ h => h) (Or.inl ⟨by rfl, by intro w hSw; go_split_ands; go_simp⟩) HS.out ?_
    simp only [Act.put, List.getElem_toArray, List.getElem_cons_zero, List.getElem_cons_succ, List.setIfInBounds_toArray, List.set_cons_zero, List.set_cons_succ]
    refine wpAnyH_take (i := 2) (oi := _) (v := .string m) rfl (by kernel_rfl) (by kernel_rfl) (by kernel_rfl) (fun _ _ _ h => h) (Or.inl ⟨by rfl, by intro w hSw; go_split_ands; go_simp⟩) HS.out ?_
    simp only [Act.put, List.getElem_toArray, List.getElem_cons_zero, List.getElem_cons_succ, List.setIfInBounds_toArray, List.set_cons_zero, List.set_cons_succ]
    refine wpAnyH_take (i := 3) (oi := _) (v := .int .u8 (((m[0]'h0m).toNat : Nat) : Int)) rfl (by kernel_rfl) (by kernel_rfl) (by kernel_rfl) (fun _ _ _ h => h) (Or.inl ⟨by rfl, by intro w hSw; go_split_ands; go_simp⟩) HS.out ?_
    simp only [Act.put, List.getElem_toArray, List.getElem_cons_zero, List.getElem_cons_succ, List.setIfInBounds_toArray, List.set_cons_zero, List.set_cons_succ]
    refine wpAnyH_ready (rs := [4]) (by kernel_rfl) (by simp) ?_
    refine AllReadyH.cons (o := _) rfl (fun K hK => ?_) AllReadyH.nil
    go_simp
    refine (l01Split_any (RV.extract 1 RV.size) (m[0]'h0m) _ (by have := HRVs.out; rw [ByteArray.size_extract]; omega)).mono ?_
    rintro e w2 ⟨v8, rfl, ho8, hb8⟩
    have HSPL := hide hb8
    have HOS := hide ho8
    refine hK.out _ _ trivial (fun _ => ?_)
    clear hK K HS ho8 hb8
    have HS : Hid True := trivial
    try simp only [Act.put, List.getElem_toArray, List.getElem_cons_zero, List.getElem_cons_succ, List.setIfInBounds_toArray, List.set_cons_zero, List.set_cons_succ]
    refine wpAnyH_take (i := 5) (oi := _) (v := v8) rfl (by kernel_rfl) (by kernel_rfl) (by kernel_rfl) (fun _ _ _ h => h) (Or.inl ⟨by rfl, by intro w hSw; go_split_ands; go_simp⟩) HS.out ?_
    simp only [Act.put, List.getElem_toArray, List.getElem_cons_zero, List.getElem_cons_succ, List.setIfInBounds_toArray, List.set_cons_zero, List.set_cons_succ]
    refine wpAnyH_done (by kernel_rfl) ?_ _
    clear HS
    have HRR2 := hide ((HRR1.out.below HZ1.out HRR1.out.lt).below HSPL.out (Nat.lt_of_lt_of_le HRR1.out.lt HZ1.out.size))
    have HRS2 := hide ((HRS1.out.below HZ1.out HRS1.out.lt).below HSPL.out (Nat.lt_of_lt_of_le HRS1.out.lt HZ1.out.size))
    have HBW2 := hide ((HBW1.out.trans (HZ1.out.mono HBW1.out.size)).trans (HSPL.out.mono (HBW1.out.trans (HZ1.out.mono HBW1.out.size)).size))
    have HW12 := hide (show S6 < W1.heap.size from Nat.lt_of_lt_of_le HRS1.out.lt HZ1.out.size)
    rw [← HB0.out] at HOS
    have HPL := hide (cutL_len (bAt m 0) (RV.extract 1 RV.size).data.toList)
    obtain ⟨g8, c8, hv8, hc81, hc82, hg81, hg82, cs8, hrow8, hcell8⟩ := pieces_row HOS.out
    subst hv8
    obtain ⟨P, hP⟩ : ∃ P, P = cutL (bAt m 0) (RV.extract 1 RV.size).data.toList := ⟨_, rfl⟩
    rw [← hP] at hcell8 HPL HFM hc82 ⊢
    have HPB := hide (show P.length ≤ 8001 ∧ ∀ p ∈ P, p.length ≤ 8000 by
      have h8 : (RV.extract 1 RV.size).data.toList.length ≤ 8000 := by
        have h9 : (RV.extract 1 RV.size).data.toList.length = (RV.extract 1 RV.size).size := by simp
        rw [h9, ByteArray.size_extract]; have := HRVs.out; omega
      exact ⟨by have := HPL.out.1; omega, fun p hp => by have := HPL.out.2 p hp; omega⟩)
    have HC8 := hide hcell8
    have HR8 := hide hrow8
    have HG8 := hide (show S6 < g8 by have h1 := HW12.out; omega)
    have HSB := hide (show S6 < w2.heap.size by have h1 := HW12.out; have h2 := HSPL.out.size; omega)
    unfold maxLen at hc81
    clear hP hcell8 hrow8 HPL HOS HSPL hg81 hg82 heq h00 hri
    go_wp2_with fail
    go_loopw [9] (fun i wr => ∃ (Z : World) (k : Nat) (lf : Value) (vs : List Value), Z = wr ∧ k ≤ P.length ∧ i = .int .i64 (k : Int) ∧ Hid (Row Z S6 33 [.string N3, lf]) ∧ Hid (Z.ownsRow w2.heap.size 24 1 lf ((P.take k).map (fldM m)).length vs) ∧ Hid (GE QFld w2.heap.size Z lf vs ((P.take k).map (fldM m))) ∧ Hid (Only S6 w2 Z)) (fun i _ => P.length - (intOf i).toNat)
    case atStart => exact ⟨_, 0, _, [], rfl, Nat.zero_le _, rfl, HRS2, hide (World.ownsRow_nil w2 w2.heap.size 24 1), hide GE.nil, hide (Only.refl _ _)⟩
    case round =>
      obtain ⟨Z, k, lf, vs, rfl, hk, rfl, HRC, HOF, HGF, HNZ⟩ := hrel
      by_cases hltk : k < P.length
      · have HLK := hide (show ((P.take k).map (fldM m)).length = k by rw [List.length_map, List.length_take]; omega)
        have HOK := hide (show Z.ownsRow w2.heap.size 24 1 lf k vs by have h := HOF.out; rw [HLK.out] at h; exact h)
        have HWB := hide (show w2.heap.size ≤ Z.heap.size from HNZ.out.size)
        have hki0 : (0 : Int) ≤ (k : Int) := by omega
        have hki : (k : Int) < (P.length : Int) := by omega
        go_wp2_with fail
        have HSS := hide (show ∀ y, Only S6 w2 y → (fun y : World => y.cell? ⟨g8, k, none⟩ = some (.string (asB (P[k]'hltk)))) y from fun y h => by
          show y.cell? ⟨g8, k, none⟩ = _
          rw [(h.row HR8.out (by have := HG8.out; omega)).cell]
          exact HC8.out k hltk)
        refine wp_region_held (S := (fun y : World => y.cell? ⟨g8, k, none⟩ = some (.string (asB (P[k]'hltk))))) (by kernel_rfl) ?_
        have HB0 := hide (show Below Z.heap.size Z { Z with drawn := Z.drawn + 1 } from (Below.refl _ _).drew)
        have HN0 := hide (HNZ.out.below HB0.out)
        have HRC0 := hide (HRC.out.below HB0.out HRC.out.lt)
        have HOC0 := hide (own_below HOK.out HB0.out)
        generalize ({ Z with drawn := Z.drawn + 1 } : World) = Z0 at HB0 HN0 HRC0 HOC0 ⊢
        have HS := hide (HSS.out _ HN0.out)
        refine wpAnyH_take (i := 0) (oi := _) (v := .pointer (some ⟨S6, 1, none⟩)) rfl (by kernel_rfl) (by kernel_rfl) (by kernel_rfl) (fun _ _ _ h => h) (Or.inl ⟨by rfl, by intro w hSw; go_split_ands; go_simp⟩) HS.out ?_
        simp only [Act.put, List.getElem_toArray, List.getElem_cons_zero, List.setIfInBounds_toArray, List.set_cons_zero, List.set_cons_succ]
        refine wpAnyH_take (i := 2) (oi := _) (v := .string m) rfl (by kernel_rfl) (by kernel_rfl) (by kernel_rfl) (fun _ _ _ h => h) (Or.inl ⟨by rfl, by intro w hSw; go_split_ands; go_simp⟩) HS.out ?_
        simp only [Act.put, List.getElem_toArray, List.getElem_cons_zero, List.getElem_cons_succ, List.setIfInBounds_toArray, List.set_cons_zero, List.set_cons_succ]
        refine wpAnyH_take (i := 3) (oi := _) (v := .slice (some ⟨g8, 0, none⟩) P.length c8) rfl (by kernel_rfl) (by kernel_rfl) (by kernel_rfl) (fun _ _ _ h => h) (Or.inl ⟨by rfl, by intro w hSw; go_split_ands; go_simp⟩) HS.out ?_
        simp only [Act.put, List.getElem_toArray, List.getElem_cons_zero, List.getElem_cons_succ, List.setIfInBounds_toArray, List.set_cons_zero, List.set_cons_succ]
        refine wpAnyH_take (i := 4) (oi := _) (v := .int .i64 (k : Int)) rfl (by kernel_rfl) (by kernel_rfl) (by kernel_rfl) (fun _ _ _ h => h) (Or.inl ⟨by rfl, by intro w hSw; go_split_ands; go_simp⟩) HS.out ?_
        simp only [Act.put, List.getElem_toArray, List.getElem_cons_zero, List.getElem_cons_succ, List.setIfInBounds_toArray, List.set_cons_zero, List.set_cons_succ]
        refine wpAnyH_take (i := 5) (oi := _) (v := .pointer (some ⟨g8, k, none⟩)) rfl (by kernel_rfl) (by kernel_rfl) (by kernel_rfl) (fun _ _ _ h => h) (Or.inl ⟨by rfl, by intro w hSw; go_split_ands; go_simp⟩) HS.out ?_
        simp only [Act.put, List.getElem_toArray, List.getElem_cons_zero, List.getElem_cons_succ, List.setIfInBounds_toArray, List.set_cons_zero, List.set_cons_succ]
        refine wpAnyH_take (i := 6) (oi := _) (v := .string (asB (P[k]'hltk))) rfl (by kernel_rfl) (by kernel_rfl) (by kernel_rfl) (fun _ _ _ h => h) (Or.inl ⟨by rfl, by intro w hSw; go_split_ands; go_simp⟩) HS.out ?_
        simp only [Act.put, List.getElem_toArray, List.getElem_cons_zero, List.getElem_cons_succ, List.setIfInBounds_toArray, List.set_cons_zero, List.set_cons_succ]
        refine wpAnyH_ready (rs := [1, 7]) (by kernel_rfl) (by simp) ?_
        refine AllReadyH.cons (o := _) rfl (fun K hK => ?_) (AllReadyH.cons (o := _) rfl (fun K hK => ?_) AllReadyH.nil)
        · have c5 : Z0.cell? ⟨S6, 1, none⟩ = some lf := (HRC0.out).cell 1
          go_simp
          refine hK.out _ _ HS.out (fun _ => ?_)
          clear hK K c5
          try simp only [Act.put, List.getElem_toArray, List.getElem_cons_zero, List.getElem_cons_succ, List.setIfInBounds_toArray, List.set_cons_zero, List.set_cons_succ]
          refine wpAnyH_ready (rs := [7]) (by kernel_rfl) (by simp) ?_
          refine AllReadyH.cons (o := _) rfl (fun K hK => ?_) AllReadyH.nil
          go_simp
          refine (l04Read_any m (asB (P[k]'hltk)) _ hm (by rw [asB_size]; have := HPB.out.2 _ (List.getElem_mem hltk); omega)).mono ?_
          rintro e Z1 ⟨pf, cf, rfl, hqf, hb1⟩
          rw [show (asB (P[k]'hltk)).data.toList = P[k]'hltk by simp [asB]] at hqf ⊢
          have HB1 := hide (HB0.out.trans (hb1.mono HB0.out.size))
          have HN1 := hide (HN0.out.below hb1)
          have HRC1 := hide (HRC0.out.below hb1 HRC0.out.lt)
          have HOC1 := hide (own_below HOC0.out hb1)
          have HQF := hide hqf
          have HQA := hide (show Z.heap.size ≤ Z0.heap.size from HB0.out.size)
          refine hK.out _ _ (HSS.out _ HN1.out) (fun _ => ?_)
          clear hK K HS hb1 hqf
          have HS := hide (HSS.out _ HN1.out)
          obtain ⟨FX, hFX⟩ : ∃ FX, FX = fldM m (P[k]'hltk) := ⟨_, rfl⟩
          rw [← hFX] at HQF ⊢
          have HFX := hide hFX
          clear hFX
          try simp only [Act.put, List.getElem_toArray, List.getElem_cons_zero, List.getElem_cons_succ, List.setIfInBounds_toArray, List.set_cons_zero, List.set_cons_succ]
          refine wpAnyH_ready (rs := [8]) (by kernel_rfl) (by simp) ?_
          refine AllReadyH.cons (o := _) rfl (fun K hK => ?_) AllReadyH.nil
          go_simp
          have HN2 := hide (HN1.out.alloc' (.cells #[.slice pf FX.length cf] 24))
          have HRU := HRC1
          have HBU := HB1
          have HRC2 := hide (HRC1.out.alloc (.cells #[.slice pf FX.length cf] 24))
          have HOC2 := hide (HOC1.out.alloc (.cells #[.slice pf FX.length cf] 24))
          have HR1 := hide (cell_one_new Z1 (.slice pf FX.length cf) 24)
          have HSZ2 := hide (show w2.heap.size ≤ (Z1.alloc (.cells #[.slice pf FX.length cf] 24)).heap.size from HN2.out.size)
          refine hK.out _ _ (HSS.out _ HN2.out) (fun _ => ?_)
          clear hK K HS
          obtain ⟨Z2, hZ⟩ : ∃ Z, Z = Z1.alloc (.cells #[.slice pf FX.length cf] 24) := ⟨_, rfl⟩
          rw [← hZ] at HN2 HRC2 HOC2 HR1 HSZ2 ⊢
          have HZZ := hide hZ
          obtain ⟨E5, hE5⟩ : ∃ E, E = Z1.heap.size := ⟨_, rfl⟩
          rw [← hE5] at HR1 ⊢
          clear hZ hE5
          have HS := hide (HSS.out _ HN2.out)
          try simp only [Act.put, List.getElem_toArray, List.getElem_cons_zero, List.getElem_cons_succ, List.setIfInBounds_toArray, List.set_cons_zero, List.set_cons_succ]
          refine wpAnyH_ready (rs := [9]) (by kernel_rfl) (by simp) ?_
          refine AllReadyH.cons (o := _) rfl (fun K hK => ?_) AllReadyH.nil
          refine step_own (w := Z2) rfl (.tmp 55) (.tmp 62) 31 rfl w2.heap.size 24 i0 _ 1 24 Try.underlying31 hi hz0 hz1 hz2 HZC.out (by omega) lf k _ rfl HOC2.out ⟨E5, 0, none⟩ 1 _ [.slice pf FX.length cf] rfl rfl HR1.out (by simp [Value.oneCell']) (by unfold maxLen; have := HPB.out.1; omega) (by have := HPB.out.1; omega) HSZ2.out ?_
          intro l3 Z9 hown9 hgrow hat
          obtain ⟨pl, cl, hl3⟩ := own_slice1 hown9
          subst hl3
          have HN9 := hide (HN2.out.grown hgrow (fun k hk => (HOC2.out.lt k hk).1))
          rw [HZZ.out] at hgrow hat
          obtain ⟨s1, s2, s3, s4⟩ := grow_step2 (G := S6) (E := 33) (T := 24) (R := QFld) (y := FX) HOF.out HGF.out HBU.out HWB.out HSB.out HQA.out (Nat.le_refl _) HQF.out HRU.out (by rw [HLK.out]; exact hown9) hgrow hat
          have HS1 := hide s1
          have HS2 := hide s2
          have HS3 := hide s3
          have HS4 := hide s4
          clear s1 s2 s3 s4 hown9 hgrow hat
          refine hK.out _ _ (HSS.out _ HN9.out) (fun _ => ?_)
          clear hK K HS
          have HS := hide (HSS.out _ HN9.out)
          try simp only [Act.put, List.getElem_toArray, List.getElem_cons_zero, List.getElem_cons_succ, List.setIfInBounds_toArray, List.set_cons_zero, List.set_cons_succ]
          refine wpAnyH_take (i := 10) (oi := _) (v := .pointer (some ⟨S6, 1, none⟩)) rfl (by kernel_rfl) (by kernel_rfl) (by kernel_rfl) (fun _ _ _ h => h) (Or.inl ⟨by rfl, by intro w hSw; go_split_ands; go_simp⟩) HS.out ?_
          simp only [Act.put, List.getElem_toArray, List.getElem_cons_zero, List.getElem_cons_succ, List.setIfInBounds_toArray, List.set_cons_zero, List.set_cons_succ]
          refine wpAnyH_ready (rs := [11]) (by kernel_rfl) (by simp) ?_
          refine AllReadyH.cons (o := _) rfl (fun K hK => ?_) AllReadyH.nil
          have c9 : Z9.cell? ⟨S6, 1, none⟩ = some lf := HS4.out.cell 1
          have f9 := HS4.out.free 1
          go_simp
          have HNF := hide (HN9.out.set (j := 1) (.slice pl (k + 1) cl))
          refine hK.out _ _ (HSS.out _ HNF.out) (fun _ => ?_)
          clear hK K HS c9 f9
          refine wpAnyH_done (by kernel_rfl) ?_ _
          have HM9 := hide (show (P.take (k + 1)).map (fldM m) = (P.take k).map (fldM m) ++ [FX] by rw [List.take_succ_eq_append_getElem hltk, List.map_append, HFX.out]; rfl)
          rw [← HM9.out] at HS1 HS2
          go_wp2
          go_roundw
          case rel => exact ⟨_, k + 1, _, _, rfl, by omega, by go_num, HS3, HS1, HS2, HNF⟩
          case measure => simp [intOf]; omega
        · go_simp
          refine (l04Read_any m (asB (P[k]'hltk)) _ hm (by rw [asB_size]; have := HPB.out.2 _ (List.getElem_mem hltk); omega)).mono ?_
          rintro e Z1 ⟨pf, cf, rfl, hqf, hb1⟩
          rw [show (asB (P[k]'hltk)).data.toList = P[k]'hltk by simp [asB]] at hqf ⊢
          have HB1 := hide (HB0.out.trans (hb1.mono HB0.out.size))
          have HN1 := hide (HN0.out.below hb1)
          have HRC1 := hide (HRC0.out.below hb1 HRC0.out.lt)
          have HOC1 := hide (own_below HOC0.out hb1)
          have HQF := hide hqf
          have HQA := hide (show Z.heap.size ≤ Z0.heap.size from HB0.out.size)
          refine hK.out _ _ (HSS.out _ HN1.out) (fun _ => ?_)
          clear hK K HS hb1 hqf
          have HS := hide (HSS.out _ HN1.out)
          obtain ⟨FX, hFX⟩ : ∃ FX, FX = fldM m (P[k]'hltk) := ⟨_, rfl⟩
          rw [← hFX] at HQF ⊢
          have HFX := hide hFX
          clear hFX
          try simp only [Act.put, List.getElem_toArray, List.getElem_cons_zero, List.getElem_cons_succ, List.setIfInBounds_toArray, List.set_cons_zero, List.set_cons_succ]
          refine wpAnyH_ready (rs := [1, 8]) (by kernel_rfl) (by simp) ?_
          refine AllReadyH.cons (o := _) rfl (fun K hK => ?_) (AllReadyH.cons (o := _) rfl (fun K hK => ?_) AllReadyH.nil)
          · have c5 : Z1.cell? ⟨S6, 1, none⟩ = some lf := (HRC1.out).cell 1
            go_simp
            refine hK.out _ _ HS.out (fun _ => ?_)
            clear hK K c5
            try simp only [Act.put, List.getElem_toArray, List.getElem_cons_zero, List.getElem_cons_succ, List.setIfInBounds_toArray, List.set_cons_zero, List.set_cons_succ]
            refine wpAnyH_ready (rs := [8]) (by kernel_rfl) (by simp) ?_
            refine AllReadyH.cons (o := _) rfl (fun K hK => ?_) AllReadyH.nil
            go_simp
            have HN2 := hide (HN1.out.alloc' (.cells #[.slice pf FX.length cf] 24))
            have HRU := HRC1
            have HBU := HB1
            have HRC2 := hide (HRC1.out.alloc (.cells #[.slice pf FX.length cf] 24))
            have HOC2 := hide (HOC1.out.alloc (.cells #[.slice pf FX.length cf] 24))
            have HR1 := hide (cell_one_new Z1 (.slice pf FX.length cf) 24)
            have HSZ2 := hide (show w2.heap.size ≤ (Z1.alloc (.cells #[.slice pf FX.length cf] 24)).heap.size from HN2.out.size)
            refine hK.out _ _ (HSS.out _ HN2.out) (fun _ => ?_)
            clear hK K HS
            obtain ⟨Z2, hZ⟩ : ∃ Z, Z = Z1.alloc (.cells #[.slice pf FX.length cf] 24) := ⟨_, rfl⟩
            rw [← hZ] at HN2 HRC2 HOC2 HR1 HSZ2 ⊢
            have HZZ := hide hZ
            obtain ⟨E5, hE5⟩ : ∃ E, E = Z1.heap.size := ⟨_, rfl⟩
            rw [← hE5] at HR1 ⊢
            clear hZ hE5
            have HS := hide (HSS.out _ HN2.out)
            try simp only [Act.put, List.getElem_toArray, List.getElem_cons_zero, List.getElem_cons_succ, List.setIfInBounds_toArray, List.set_cons_zero, List.set_cons_succ]
            refine wpAnyH_ready (rs := [9]) (by kernel_rfl) (by simp) ?_
            refine AllReadyH.cons (o := _) rfl (fun K hK => ?_) AllReadyH.nil
            refine step_own (w := Z2) rfl (.tmp 55) (.tmp 62) 31 rfl w2.heap.size 24 i0 _ 1 24 Try.underlying31 hi hz0 hz1 hz2 HZC.out (by omega) lf k _ rfl HOC2.out ⟨E5, 0, none⟩ 1 _ [.slice pf FX.length cf] rfl rfl HR1.out (by simp [Value.oneCell']) (by unfold maxLen; have := HPB.out.1; omega) (by have := HPB.out.1; omega) HSZ2.out ?_
            intro l3 Z9 hown9 hgrow hat
            obtain ⟨pl, cl, hl3⟩ := own_slice1 hown9
            subst hl3
            have HN9 := hide (HN2.out.grown hgrow (fun k hk => (HOC2.out.lt k hk).1))
            rw [HZZ.out] at hgrow hat
            obtain ⟨s1, s2, s3, s4⟩ := grow_step2 (G := S6) (E := 33) (T := 24) (R := QFld) (y := FX) HOF.out HGF.out HBU.out HWB.out HSB.out HQA.out (Nat.le_refl _) HQF.out HRU.out (by rw [HLK.out]; exact hown9) hgrow hat
            have HS1 := hide s1
            have HS2 := hide s2
            have HS3 := hide s3
            have HS4 := hide s4
            clear s1 s2 s3 s4 hown9 hgrow hat
            refine hK.out _ _ (HSS.out _ HN9.out) (fun _ => ?_)
            clear hK K HS
            have HS := hide (HSS.out _ HN9.out)
            try simp only [Act.put, List.getElem_toArray, List.getElem_cons_zero, List.getElem_cons_succ, List.setIfInBounds_toArray, List.set_cons_zero, List.set_cons_succ]
            refine wpAnyH_take (i := 10) (oi := _) (v := .pointer (some ⟨S6, 1, none⟩)) rfl (by kernel_rfl) (by kernel_rfl) (by kernel_rfl) (fun _ _ _ h => h) (Or.inl ⟨by rfl, by intro w hSw; go_split_ands; go_simp⟩) HS.out ?_
            simp only [Act.put, List.getElem_toArray, List.getElem_cons_zero, List.getElem_cons_succ, List.setIfInBounds_toArray, List.set_cons_zero, List.set_cons_succ]
            refine wpAnyH_ready (rs := [11]) (by kernel_rfl) (by simp) ?_
            refine AllReadyH.cons (o := _) rfl (fun K hK => ?_) AllReadyH.nil
            have c9 : Z9.cell? ⟨S6, 1, none⟩ = some lf := HS4.out.cell 1
            have f9 := HS4.out.free 1
            go_simp
            have HNF := hide (HN9.out.set (j := 1) (.slice pl (k + 1) cl))
            refine hK.out _ _ (HSS.out _ HNF.out) (fun _ => ?_)
            clear hK K HS c9 f9
            refine wpAnyH_done (by kernel_rfl) ?_ _
            have HM9 := hide (show (P.take (k + 1)).map (fldM m) = (P.take k).map (fldM m) ++ [FX] by rw [List.take_succ_eq_append_getElem hltk, List.map_append, HFX.out]; rfl)
            rw [← HM9.out] at HS1 HS2
            go_wp2
            go_roundw
            case rel => exact ⟨_, k + 1, _, _, rfl, by omega, by go_num, HS3, HS1, HS2, HNF⟩
            case measure => simp [intOf]; omega
          · go_simp
            have HN2 := hide (HN1.out.alloc' (.cells #[.slice pf FX.length cf] 24))
            have HRU := HRC1
            have HBU := HB1
            have HRC2 := hide (HRC1.out.alloc (.cells #[.slice pf FX.length cf] 24))
            have HOC2 := hide (HOC1.out.alloc (.cells #[.slice pf FX.length cf] 24))
            have HR1 := hide (cell_one_new Z1 (.slice pf FX.length cf) 24)
            have HSZ2 := hide (show w2.heap.size ≤ (Z1.alloc (.cells #[.slice pf FX.length cf] 24)).heap.size from HN2.out.size)
            refine hK.out _ _ (HSS.out _ HN2.out) (fun _ => ?_)
            clear hK K HS
            obtain ⟨Z2, hZ⟩ : ∃ Z, Z = Z1.alloc (.cells #[.slice pf FX.length cf] 24) := ⟨_, rfl⟩
            rw [← hZ] at HN2 HRC2 HOC2 HR1 HSZ2 ⊢
            have HZZ := hide hZ
            obtain ⟨E5, hE5⟩ : ∃ E, E = Z1.heap.size := ⟨_, rfl⟩
            rw [← hE5] at HR1 ⊢
            clear hZ hE5
            have HS := hide (HSS.out _ HN2.out)
            try simp only [Act.put, List.getElem_toArray, List.getElem_cons_zero, List.getElem_cons_succ, List.setIfInBounds_toArray, List.set_cons_zero, List.set_cons_succ]
            refine wpAnyH_ready (rs := [1]) (by kernel_rfl) (by simp) ?_
            refine AllReadyH.cons (o := _) rfl (fun K hK => ?_) AllReadyH.nil
            have c5 : Z2.cell? ⟨S6, 1, none⟩ = some lf := (HRC2.out).cell 1
            go_simp
            refine hK.out _ _ HS.out (fun _ => ?_)
            clear hK K c5
            try simp only [Act.put, List.getElem_toArray, List.getElem_cons_zero, List.getElem_cons_succ, List.setIfInBounds_toArray, List.set_cons_zero, List.set_cons_succ]
            refine wpAnyH_ready (rs := [9]) (by kernel_rfl) (by simp) ?_
            refine AllReadyH.cons (o := _) rfl (fun K hK => ?_) AllReadyH.nil
            refine step_own (w := Z2) rfl (.tmp 55) (.tmp 62) 31 rfl w2.heap.size 24 i0 _ 1 24 Try.underlying31 hi hz0 hz1 hz2 HZC.out (by omega) lf k _ rfl HOC2.out ⟨E5, 0, none⟩ 1 _ [.slice pf FX.length cf] rfl rfl HR1.out (by simp [Value.oneCell']) (by unfold maxLen; have := HPB.out.1; omega) (by have := HPB.out.1; omega) HSZ2.out ?_
            intro l3 Z9 hown9 hgrow hat
            obtain ⟨pl, cl, hl3⟩ := own_slice1 hown9
            subst hl3
            have HN9 := hide (HN2.out.grown hgrow (fun k hk => (HOC2.out.lt k hk).1))
            rw [HZZ.out] at hgrow hat
            obtain ⟨s1, s2, s3, s4⟩ := grow_step2 (G := S6) (E := 33) (T := 24) (R := QFld) (y := FX) HOF.out HGF.out HBU.out HWB.out HSB.out HQA.out (Nat.le_refl _) HQF.out HRU.out (by rw [HLK.out]; exact hown9) hgrow hat
            have HS1 := hide s1
            have HS2 := hide s2
            have HS3 := hide s3
            have HS4 := hide s4
            clear s1 s2 s3 s4 hown9 hgrow hat
            refine hK.out _ _ (HSS.out _ HN9.out) (fun _ => ?_)
            clear hK K HS
            have HS := hide (HSS.out _ HN9.out)
            try simp only [Act.put, List.getElem_toArray, List.getElem_cons_zero, List.getElem_cons_succ, List.setIfInBounds_toArray, List.set_cons_zero, List.set_cons_succ]
            refine wpAnyH_take (i := 10) (oi := _) (v := .pointer (some ⟨S6, 1, none⟩)) rfl (by kernel_rfl) (by kernel_rfl) (by kernel_rfl) (fun _ _ _ h => h) (Or.inl ⟨by rfl, by intro w hSw; go_split_ands; go_simp⟩) HS.out ?_
            simp only [Act.put, List.getElem_toArray, List.getElem_cons_zero, List.getElem_cons_succ, List.setIfInBounds_toArray, List.set_cons_zero, List.set_cons_succ]
            refine wpAnyH_ready (rs := [11]) (by kernel_rfl) (by simp) ?_
            refine AllReadyH.cons (o := _) rfl (fun K hK => ?_) AllReadyH.nil
            have c9 : Z9.cell? ⟨S6, 1, none⟩ = some lf := HS4.out.cell 1
            have f9 := HS4.out.free 1
            go_simp
            have HNF := hide (HN9.out.set (j := 1) (.slice pl (k + 1) cl))
            refine hK.out _ _ (HSS.out _ HNF.out) (fun _ => ?_)
            clear hK K HS c9 f9
            refine wpAnyH_done (by kernel_rfl) ?_ _
            have HM9 := hide (show (P.take (k + 1)).map (fldM m) = (P.take k).map (fldM m) ++ [FX] by rw [List.take_succ_eq_append_getElem hltk, List.map_append, HFX.out]; rfl)
            rw [← HM9.out] at HS1 HS2
            go_wp2
            go_roundw
            case rel => exact ⟨_, k + 1, _, _, rfl, by omega, by go_num, HS3, HS1, HS2, HNF⟩
            case measure => simp [intOf]; omega

      · have ek : P.take k = P := List.take_of_length_le (by omega)
        have HSM := hide (show segMd m t.data.toList = some (N3, trimR empL (P.map (fldM m))) from HFM.out)
        obtain ⟨fs, hfs⟩ : ∃ fs, fs = P.map (fldM m) := ⟨_, rfl⟩
        rw [ek, ← hfs] at HOF HGF
        rw [← hfs] at HSM
        have HQ0 := hide (HGF.out.ql HOF.out)
        obtain ⟨ps, cs, h1cs, hcaps⟩ : ∃ p c, lf = .slice p fs.length c ∧ (fs.length ≤ c ∧ c ≤ maxLen) := by
          obtain ⟨p, c, e, h1, h2, _⟩ := HQ0.out
          exact ⟨p, c, e, h1, h2⟩
        subst h1cs
        have HSL := hide (show fs.length ≤ 8001 by rw [hfs, List.length_map]; exact HPB.out.1)
        have HCAP := hide hcaps
        have hcms := hcaps.2
        unfold maxLen at hcms
        have HGB := HSB
        have HTR0 := HRC
        have HS6B := hide (show w.heap.size + 1 = S6 ∧ S6 < w2.heap.size from ⟨HS6e.out.symm, HSB.out⟩)
        clear hcaps ek hfs HGF HOF HRC
        go_wp2_with fail
        go_loopw [] (fun wr => ∃ (U : World) (n : Nat), U = wr ∧ n ≤ fs.length ∧ Hid (Row U S6 33 [.string N3, .slice ps n cs]) ∧ Hid (Only S6 Z U) ∧ Hid (trimR empL (fs.take n) = trimR empL fs)) (fun wr => lenAt1 wr S6)
        case atStart => exact ⟨_, _, rfl, Nat.le_refl _, HTR0, hide (Only.refl _ _), hide (by rw [List.take_length])⟩
        case round =>
          obtain ⟨U, n, rfl, hn, HTR, HTO, HTT⟩ := hrel
          have t0 : U.cell? ⟨S6, 1, none⟩ = some (.slice ps n cs) := HTR.out.cell 1
          have HTL := hide (lenAt1_of t0)
          have HQU := hide (Keeps.go (SameIn.ofOnly HTO.out (by have := HGB.out; omega)) HQ0.out)
          by_cases hn0 : n = 0
          · subst hn0
            have HLT := hide (show trimR empL fs = fs.take 0 by rw [← HTT.out]; rfl)
            have HQF := hide (QL.take HQU.out (Nat.zero_le _))
            obtain ⟨F, hF⟩ : ∃ F, F = fs.take 0 := ⟨_, rfl⟩
            have HFL5 := hide (show F.length = 0 by rw [hF]; rfl)
            rw [← hF] at HLT HQF
            clear hF
            have HOU := hide (HNZ.out.trans HTO.out)
            have HRU := hide (HOU.out.row HRR2.out (by have := HS6B.out; omega))
            have r0 : U.cell? ⟨w.heap.size, 0, none⟩ = some (.string ⟨#[]⟩) := HRU.out.cell 0
            have r1 : U.cell? ⟨w.heap.size, 1, none⟩ = some (.slice none 0 0) := HRU.out.cell 1
            have f0 := HRU.out.free 0
            have f1 := HRU.out.free 1
            have t1 : U.cell? ⟨S6, 0, none⟩ = some (.string N3) := HTR.out.cell 0
            have t2 := (HRU.out.set (j := 0) (.string N3)).set (j := 1) (.slice ps 0 cs)
            have q0 : ((U.setCell ⟨w.heap.size, 0, none⟩ (.string N3)).setCell ⟨w.heap.size, 1, none⟩ (.slice ps 0 cs)).cell? ⟨w.heap.size, 0, none⟩ = some (.string N3) := t2.cell 0
            have q1 : ((U.setCell ⟨w.heap.size, 0, none⟩ (.string N3)).setCell ⟨w.heap.size, 1, none⟩ (.slice ps 0 cs)).cell? ⟨w.heap.size, 1, none⟩ = some (.slice ps 0 cs) := t2.cell 1
            have HBE := hide (((HOU.out.toBelow HBW2.out HBW2.out.size (by have := HS6B.out; omega)).setCell (p := ⟨w.heap.size, 0, none⟩) (Nat.le_refl _) (.string N3)).setCell (p := ⟨w.heap.size, 1, none⟩) (Nat.le_refl _) (.slice ps 0 cs))
            have HRF := hide (show RFlds (w.heap.size + 1) ((U.setCell ⟨w.heap.size, 0, none⟩ (.string N3)).setCell ⟨w.heap.size, 1, none⟩ (.slice ps 0 cs)) (.slice ps F.length cs) F by
              rw [HFL5.out]
              exact Lasts.go (B := w.heap.size + 1) (Same.set _ _ (by omega)) (Lasts.go (B := w.heap.size + 1) (Same.set _ _ (by omega)) (RFlds.mono (QFlds.rl HQF.out) (by have := HS6B.out; omega)))
            )
            have HE9 := hide (show segMd m t.data.toList = some (N3, F) by rw [HSM.out, HLT.out])
            obtain rfl : R = some (N3, F) := by rw [HRX.out]; exact HE9.out
            rw [HFL5.out] at HRF
            clear t2
            go_wp2
            exact bodyPost_ret (v := .tuple #[.agg #[.string N3, .slice ps 0 cs], .bool true]) (by simp [results, Try.results24, go_sem, q0, q1]) rfl ⟨⟨ps, cs, by rw [HFL5.out], by rw [HFL5.out]; exact HRF.out⟩, HBE.out⟩
          · obtain ⟨n', hn'⟩ : ∃ n', n = n' + 1 := ⟨n - 1, by omega⟩
            have hnl : n' < fs.length := by omega
            have hw1 : IntKind.i64.wrap ((n : Int) - 1) = (n' : Int) := by rw [show ((n : Int) - 1) = (n' : Int) by omega]; have := HSL.out; exact wrap_small _ (by omega) (by omega)
            have hn0' : (0 : Int) < (n : Int) := by omega
            have hn1' : (0 : Int) ≤ (n' : Int) := by omega
            have hn2' : (n' : Int) < (n : Int) := by omega
            have hn3' : (n' : Int) ≤ (cs : Int) := by have := HCAP.out; omega
            have hfr := HTR.out.free 1
            obtain ⟨g5, hp5, HCL5⟩ : ∃ g5, ps = some ⟨g5, 0, none⟩ ∧ Hid (∃ p5 c5, U.cell? ⟨g5, n', none⟩ = some (.slice p5 (fs[n']'hnl).length c5)) := by
              obtain ⟨p', cap', e', _, _, h4'⟩ := HQU.out
              cases e'
              obtain ⟨g5, vs5, rest5, A5, B5, hp5, _, _, hr5, hl5, hE5⟩ := h4' (by omega)
              obtain ⟨_, _, _, h5⟩ := hE5 n' (by omega) hnl
              obtain ⟨p5, c5, hs5⟩ := h5.isSlice
              refine ⟨g5, hp5, hide ⟨p5, c5, ?_⟩⟩
              rw [hr5.cell, List.getElem?_append_left (by omega), List.getElem?_eq_getElem (by omega), hs5]
            subst hp5
            have HN' := hide hn'
            clear hn' hn0
            cases he : empL (fs[n']'hnl)
            · have HLT := hide (show trimR empL fs = fs.take n by rw [← HTT.out, HN'.out]; exact trimR_stop hnl he)
              have HQF := hide (QL.take HQU.out hn)
              have HFL5 := hide (show (fs.take n).length = n by rw [List.length_take]; omega)
              obtain ⟨F, hF⟩ : ∃ F, F = fs.take n := ⟨_, rfl⟩
              rw [← hF] at HLT HQF HFL5
              clear hF
              obtain ⟨p5, c5, hcl⟩ := HCL5.out
              have he4 : (((fs[n']'hnl).length : Int) == 0) = false := by simpa [empL] using he
              generalize (fs[n']'hnl).length = Y5 at hcl he4
              clear he
              have HOU := hide (HNZ.out.trans HTO.out)
              have HRU := hide (HOU.out.row HRR2.out (by have := HS6B.out; omega))
              have r0 : U.cell? ⟨w.heap.size, 0, none⟩ = some (.string ⟨#[]⟩) := HRU.out.cell 0
              have r1 : U.cell? ⟨w.heap.size, 1, none⟩ = some (.slice none 0 0) := HRU.out.cell 1
              have f0 := HRU.out.free 0
              have f1 := HRU.out.free 1
              have t1 : U.cell? ⟨S6, 0, none⟩ = some (.string N3) := HTR.out.cell 0
              have t2 := (HRU.out.set (j := 0) (.string N3)).set (j := 1) (.slice (some ⟨g5, 0, none⟩) n cs)
              have q0 : ((U.setCell ⟨w.heap.size, 0, none⟩ (.string N3)).setCell ⟨w.heap.size, 1, none⟩ (.slice (some ⟨g5, 0, none⟩) n cs)).cell? ⟨w.heap.size, 0, none⟩ = some (.string N3) := t2.cell 0
              have q1 : ((U.setCell ⟨w.heap.size, 0, none⟩ (.string N3)).setCell ⟨w.heap.size, 1, none⟩ (.slice (some ⟨g5, 0, none⟩) n cs)).cell? ⟨w.heap.size, 1, none⟩ = some (.slice (some ⟨g5, 0, none⟩) n cs) := t2.cell 1
              have HBE := hide (((HOU.out.toBelow HBW2.out HBW2.out.size (by have := HS6B.out; omega)).setCell (p := ⟨w.heap.size, 0, none⟩) (Nat.le_refl _) (.string N3)).setCell (p := ⟨w.heap.size, 1, none⟩) (Nat.le_refl _) (.slice (some ⟨g5, 0, none⟩) n cs))
              have HRF := hide (show RFlds (w.heap.size + 1) ((U.setCell ⟨w.heap.size, 0, none⟩ (.string N3)).setCell ⟨w.heap.size, 1, none⟩ (.slice (some ⟨g5, 0, none⟩) n cs)) (.slice (some ⟨g5, 0, none⟩) F.length cs) F by
                rw [HFL5.out]
                exact Lasts.go (B := w.heap.size + 1) (Same.set _ _ (by omega)) (Lasts.go (B := w.heap.size + 1) (Same.set _ _ (by omega)) (RFlds.mono (QFlds.rl HQF.out) (by have := HS6B.out; omega)))
              )
              have HE9 := hide (show segMd m t.data.toList = some (N3, F) by rw [HSM.out, HLT.out])
              obtain rfl : R = some (N3, F) := by rw [HRX.out]; exact HE9.out
              rw [HFL5.out] at HRF
              clear t2
              go_wp2
              exact bodyPost_ret (v := .tuple #[.agg #[.string N3, .slice (some ⟨g5, 0, none⟩) n cs], .bool true]) (by simp [results, Try.results24, go_sem, q0, q1]) rfl ⟨⟨(some ⟨g5, 0, none⟩), cs, by rw [HFL5.out], by rw [HFL5.out]; exact HRF.out⟩, HBE.out⟩
            · have HTT2 := hide (show trimR empL (fs.take n') = trimR empL fs by rw [← HTT.out, HN'.out, trimR_take hnl he])
              have HTR2 := hide (HTR.out.set (j := 1) (.slice (some ⟨g5, 0, none⟩) n' cs))
              have HTO2 := hide (HTO.out.set (j := 1) (.slice (some ⟨g5, 0, none⟩) n' cs))
              have HTL2 := hide (lenAt1_of (HTR2.out.cell 1 : (U.setCell ⟨S6, 1, none⟩ (.slice (some ⟨g5, 0, none⟩) n' cs)).cell? ⟨S6, 1, none⟩ = some (.slice (some ⟨g5, 0, none⟩) n' cs)))
              obtain ⟨p5, c5, hcl⟩ := HCL5.out
              have he4 : (((fs[n']'hnl).length : Int) == 0) = true := by simpa [empL] using he
              generalize (fs[n']'hnl).length = Y5 at hcl he4
              clear he
              go_wp2
              go_roundw
              case rel => exact ⟨_, n', rfl, by omega, HTR2, HTO2, HTT2⟩
              case measure => rw [HTL2.out, HTL.out]; have := HN'.out; omega



end Go.Proofs.Ytckcfjibiidafaa
