/- Batches cut into smaller ones: lists. -/
import Derived.Test.YtholbhjfmfanbaaGreatXG27BFOut
namespace Go.Proofs.YtholbhjfmfanbaaGreat
open Go.RowKit
def cuts {α : Type} (m : Nat) (xs : List α) : List (List α) := if _h : 1 ≤ m ∧ m < xs.length then xs.take m :: cuts m (xs.drop m) else [xs]
termination_by xs.length
decreasing_by rw [List.length_drop]; omega
theorem cuts_step {α : Type} {m : Nat} {xs : List α} (h1 : 1 ≤ m) (h : m < xs.length) : cuts m xs = xs.take m :: cuts m (xs.drop m) := by rw [cuts, dif_pos ⟨h1, h⟩]
theorem cuts_stop {α : Type} {m : Nat} {xs : List α} (h : ¬ m < xs.length) : cuts m xs = [xs] := by rw [cuts, dif_neg (fun e => h e.2)]
theorem cuts_pos {α : Type} (m : Nat) (xs : List α) : 1 ≤ (cuts m xs).length := by
  rw [cuts]; split <;> simp
theorem cuts_len {α : Type} (m : Nat) : ∀ (n : Nat) (xs : List α), xs.length ≤ n → (cuts m xs).length ≤ xs.length + 1
  | n, xs, hn => by
    by_cases h : 1 ≤ m ∧ m < xs.length
    · rw [cuts_step h.1 h.2, List.length_cons]
      cases n with
      | zero => omega
      | succ n =>
        have := cuts_len m n (xs.drop m) (by rw [List.length_drop]; omega)
        rw [List.length_drop] at this
        omega
    · rw [cuts, dif_neg h]; simp
theorem cuts_w (m : Nat) : ∀ (n : Nat) (xs : List Msg), xs.length ≤ n → ((cuts m xs).map wMsgs).sum = wMsgs xs ∧ ∀ l ∈ cuts m xs, wMsgs l ≤ wMsgs xs
  | n, xs, hn => by
    by_cases h : 1 ≤ m ∧ m < xs.length
    · rw [cuts_step h.1 h.2]
      cases n with
      | zero => omega
      | succ n =>
        obtain ⟨h1, h2⟩ := cuts_w m n (xs.drop m) (by rw [List.length_drop]; omega)
        have e : wMsgs xs = wMsgs (xs.take m) + wMsgs (xs.drop m) := by rw [← wMsgs_append, List.take_append_drop]
        refine ⟨by rw [List.map_cons, List.sum_cons, h1, e], fun l hl => ?_⟩
        rcases List.mem_cons.1 hl with rfl | hl
        · omega
        · have := h2 l hl; omega
    · rw [cuts, dif_neg h]
      exact ⟨by simp, fun l hl => by rw [List.mem_singleton.1 hl]; exact Nat.le_refl _⟩
def splB (m : Nat) (b : Bat) : List Bat := (cuts m b.2).map fun l => (b.1, l)
def splL (m : Nat) (x : List Bat) : List Bat := (x.map (splB m)).flatten
theorem splL_take (m : Nat) (x : List Bat) (k : Nat) (h : k < x.length) : splL m (x.take (k + 1)) = splL m (x.take k) ++ splB m x[k] := by
  rw [List.take_succ_eq_append_getElem h]
  simp only [splL, List.map_append, List.flatten_append, List.map_cons, List.map_nil, List.flatten_cons, List.flatten_nil, List.append_nil]
theorem splL_more (m : Nat) (x : List Bat) (k : Nat) : ∃ r, splL m x = splL m (x.take k) ++ r := by
  have e : x = x.take k ++ x.drop k := (List.take_append_drop k x).symm
  refine ⟨splL m (x.drop k), ?_⟩
  conv => lhs; rw [e]
  simp only [splL, List.map_append, List.flatten_append]
theorem wBats_app (a b : List Bat) : wBats (a ++ b) = wBats a + wBats b := by
  simp only [wBats, wL, List.map_append, List.sum_append, List.length_append]; omega
theorem splB_w (m : Nat) (b : Bat) : wBats (splB m b) = (splB m b).length * (1 + b.1.size) + wMsgs b.2 := by
  have h := (cuts_w m _ b.2 (Nat.le_refl _)).1
  rw [← h]
  unfold splB
  generalize cuts m b.2 = ls
  clear h
  induction ls with
  | nil => simp [wBats, wL]
  | cons l r ih =>
    simp only [wBats, wL, wBat, List.map_cons, List.sum_cons, List.length_cons, List.length_map, List.map_map, Nat.add_mul, Nat.one_mul] at ih ⊢
    omega
theorem splL_w (m : Nat) : ∀ x : List Bat, (∀ b ∈ x, b.1.size ≤ 20) → wBats (splL m x) ≤ (splL m x).length * 21 + wBats x
  | [], _ => by simp [splL, wBats, wL]
  | b :: r, h => by
    have h1 := splL_w m r (fun c hc => h c (List.mem_cons_of_mem _ hc))
    have h2 := h b List.mem_cons_self
    have e : splL m (b :: r) = splB m b ++ splL m r := by simp [splL]
    have h3 : (splB m b).length * (1 + b.1.size) ≤ (splB m b).length * 21 := Nat.mul_le_mul_left _ (by omega)
    rw [e, wBats_app, splB_w, List.length_append]
    simp only [wBats, wL, wBat, List.map_cons, List.sum_cons, List.length_cons] at h1 ⊢
    omega
theorem splL_mem (m : Nat) {x : List Bat} {y : Bat} (h : y ∈ splL m x) : ∃ b ∈ x, y.1 = b.1 ∧ wMsgs y.2 ≤ wMsgs b.2 := by
  simp only [splL, List.mem_flatten, List.mem_map] at h
  obtain ⟨l, ⟨b, hb, rfl⟩, hy⟩ := h
  simp only [splB, List.mem_map] at hy
  obtain ⟨c, hc, rfl⟩ := hy
  exact ⟨b, hb, rfl, (cuts_w m _ b.2 (Nat.le_refl _)).2 c hc⟩
theorem idB_size {s : ByteArray} (h : idB s = true) : s.size ≤ 20 := by
  simp only [idB, Bool.and_eq_true, decide_eq_true_eq] at h
  exact h.1.2
theorem filB_parts {n : ByteArray} {x : List Bat} (h : filB n x = true) : x.length ≤ 10 ∧ ∀ b ∈ x, b.1.size ≤ 20 ∧ b.2.length ≤ 30 := by
  simp only [filB, Bool.and_eq_true, decide_eq_true_eq, List.all_eq_true] at h
  refine ⟨h.1.2, fun b hb => ?_⟩
  have h2 := h.2 b hb
  simp only [batB, Bool.and_eq_true, decide_eq_true_eq] at h2
  exact ⟨idB_size h2.1.1, h2.1.2⟩
def splOut (n : ByteArray) (x : List Bat) (m : Int) : FOut := if filB n x = true ∧ 1 ≤ m ∧ m ≤ 30 then (if 10 < (splL m.toNat x).length then (9, ⟨#[]⟩, []) else (0, n, splL m.toNat x)) else (1, ⟨#[]⟩, [])
theorem splOut_no {n : ByteArray} {x : List Bat} {m : Int} (h : ¬ (filB n x = true ∧ 1 ≤ m ∧ m ≤ 30)) : splOut n x m = (1, ⟨#[]⟩, []) := if_neg h
theorem splOut_full {n : ByteArray} {x : List Bat} {m : Nat} (h : filB n x = true) (h1 : 1 ≤ m) (h2 : m ≤ 30) (h3 : 10 < (splL m x).length) : splOut n x (m : Int) = (9, ⟨#[]⟩, []) := by
  unfold splOut
  rw [if_pos ⟨h, by omega, by omega⟩, Int.toNat_natCast, if_pos h3]
theorem splOut_yes {n : ByteArray} {x : List Bat} {m : Nat} (h : filB n x = true) (h1 : 1 ≤ m) (h2 : m ≤ 30) (h3 : ¬ 10 < (splL m x).length) : splOut n x (m : Int) = (0, n, splL m x) := by
  unfold splOut
  rw [if_pos ⟨h, by omega, by omega⟩, Int.toNat_natCast, if_neg h3]
theorem batsOK_nil : BatsOK [] := ⟨by simp [wBats, wL], fun i h => absurd h (by simp)⟩
theorem splOut_w (n : ByteArray) (x : List Bat) (m : Int) (h : wBats x ≤ 1048576) : BatsOK (splOut n x m).2.2 := by
  unfold splOut
  split
  · rename_i hc
    split
    · exact batsOK_nil
    · rename_i hl
      obtain ⟨h1, h2⟩ := filB_parts hc.1
      have h3 := splL_w m.toNat x (fun b hb => (h2 b hb).1)
      refine ⟨by show wBats (splL m.toNat x) ≤ _; omega, fun i hi => ?_⟩
      obtain ⟨b, hb, e1, e2⟩ := splL_mem m.toNat (List.getElem_mem hi)
      have h4 : wBat b + x.length ≤ wBats x := wL_mem wBat hb
      have h5 : wBat b = b.1.size + wMsgs b.2 := rfl
      exact ⟨Nat.le_trans e2 (by omega), by show (splL m.toNat x)[i].1.size ≤ _; rw [e1]; omega⟩
  · exact batsOK_nil
theorem RMsgs.takeM {B : Nat} {w : World} {p : Option Addr} {n cap m : Nat} {xs : List Msg} (h : RMsgs B w (.slice p n cap) xs) (hm : m ≤ xs.length) : RMsgs B w (.slice p m cap) (xs.take m) := by
  obtain ⟨p', cap', e, h1, h2, h4⟩ := h
  cases e
  have hml : (xs.take m).length = m := by rw [List.length_take]; omega
  refine ⟨p, cap, by rw [hml], by rw [hml]; omega, h2, fun h0 => ?_⟩
  rw [hml] at h0
  obtain ⟨g, off, rfl, hg, hB, hc⟩ := h4 (by omega)
  refine ⟨g, off, rfl, hg, hB, fun i hi => ?_⟩
  rw [hml] at hi
  rw [List.getElem_take]
  exact hc i (by omega)
theorem RMsgs.dropM {B g off : Nat} {w : World} {n cap m : Nat} {xs : List Msg} (h : RMsgs B w (.slice (some ⟨g, off, none⟩) n cap) xs) (hm : m ≤ xs.length) : RMsgs B w (.slice (some ⟨g, off + m * 2, none⟩) (n - m) (cap - m)) (xs.drop m) := by
  obtain ⟨p', cap', e, h1, h2, h4⟩ := h
  cases e
  refine ⟨_, _, by rw [List.length_drop], by rw [List.length_drop]; omega, by omega, fun h0 => ?_⟩
  rw [List.length_drop] at h0
  obtain ⟨g2, off2, e2, hg, hB, hc⟩ := h4 (by omega)
  cases e2
  refine ⟨g, off + m * 2, rfl, hg, hB, fun i hi => ?_⟩
  rw [List.length_drop] at hi
  rw [List.getElem_drop]
  obtain ⟨f1, f2, u, f3, f4⟩ := hc (m + i) (by omega)
  have ea : off + m * 2 + i * 2 = off + (m + i) * 2 := by omega
  exact ⟨by rw [ea]; exact f1, f2, u, by rw [ea]; exact f3, f4⟩
end Go.Proofs.YtholbhjfmfanbaaGreat
/- The program's cut of a row of Messages. -/
namespace Go.Proofs.YtholbhjfmfanbaaGreat
open Go.RowKit
theorem Tryz.infoMsgsS : (Tryz.prog.info? 34).map (fun i => (i.zero, i.size, i.bytes)) = some (some (.slice none 0 0), 1, 24) := by kernel_rfl
def ShareL (w : World) (cs : List Value) (D : List (List Msg)) : Prop := ∀ j (h : j < D.length), ∃ u, cs[j]? = some u ∧ RMsgs 0 w u D[j]
theorem ShareL.snoc {w : World} {cs : List Value} {D : List (List Msg)} {u : Value} {l : List Msg} (h : ShareL w cs D) (hl : cs.length = D.length) (hu : RMsgs 0 w u l) : ShareL w (cs ++ [u]) (D ++ [l]) := by
  intro j hj
  rw [List.length_append] at hj
  by_cases hjd : j < D.length
  · obtain ⟨v, h1, h2⟩ := h j hjd
    rw [List.getElem_append_left hjd]
    exact ⟨v, by rw [List.getElem?_append_left (by omega)]; exact h1, h2⟩
  · have ej : j = D.length := by simp at hj; omega
    subst ej
    rw [List.getElem_append_right (Nat.le_refl _)]
    simp only [Nat.sub_self, List.getElem_cons_zero]
    exact ⟨u, by rw [List.getElem?_append_right (by omega), hl, Nat.sub_self]; rfl, hu⟩
set_option maxHeartbeats 4000000 in
set_option maxRecDepth 100000 in
theorem cut_any (m : Nat) (u : Value) (xs : List Msg) (w0 w : World) (h1 : 1 ≤ m) (h2 : m ≤ 30) (hx : xs.length ≤ 30) (hr : RMsgs 0 w0 u xs) :
    Calls Tryz.prog 50 #[.agg #[.int .i64 30, u], .int .i64 (m : Int)] w fun e w' => ∃ p c cs, e = .returned (.slice p (cuts m xs).length c) ∧ w'.ownsRow (w.heap.size + 1) 34 1 (.slice p (cuts m xs).length c) (cuts m xs).length cs ∧ ShareL w0 cs (cuts m xs) ∧ Below w.heap.size w w' := by
  obtain ⟨i0, hi, hz0, hz1, hz2⟩ := info_parts Tryz.infoMsgsS
  have HR := hide hr
  obtain ⟨p0, cap0, rfl⟩ := hr.isSlice
  clear hr
  obtain ⟨W, hW⟩ : ∃ W, W = w.alloc (.cells #[.int .i64 30, .slice p0 xs.length cap0] 72) := ⟨_, rfl⟩
  have HBW := hide (show Below w.heap.size w W by rw [hW]; exact (Below.refl _ _).alloc (Nat.le_refl _) _)
  have HO := hide (World.ownsRow_nil W W.heap.size 34 1)
  have HWs := hide (show W.heap.size = w.heap.size + 1 by rw [hW]; simp)
  have HCL := hide (cuts_len m xs.length xs (Nat.le_refl _))
  go_enter Tryz.func50, Tryz.ntmps50
  go_wp2_with fail
  rw [← hW]
  clear hW
  go_loopw [5, 6] (fun lv lf wr => ∃ (X : World) (D : List (List Msg)) (L : List Msg) (p : Option Addr) (cap : Nat) (cs : List Value), X = wr ∧ lf = .slice p L.length cap ∧ Hid (D ++ cuts m L = cuts m xs) ∧ Hid (X.ownsRow W.heap.size 34 1 lv D.length cs) ∧ Hid (RMsgs 0 w0 (.slice p L.length cap) L) ∧ Hid (ShareL w0 cs D) ∧ Hid (Below W.heap.size W X)) (fun _ lf _ => lenOf lf)
  case atStart => exact ⟨_, [], xs, p0, cap0, [], rfl, rfl, hide rfl, HO, HR, hide (fun j h => absurd h (by simp)), hide (Below.refl _ _)⟩
  case round =>
    obtain ⟨X, D, L, p, cap, cs, rfl, rfl, HD, HOw, HL, HSh, HB⟩ := hrel
    have HDL := hide (show D.length + 1 ≤ 32 by
      have e := congrArg List.length HD.out
      rw [List.length_append] at e
      have := cuts_pos m L
      have := HCL.out
      omega)
    by_cases hgt : m < L.length
    · obtain ⟨p', cap', hpe, hc1, hc2, h4⟩ := HL.out
      cases hpe
      obtain ⟨g, off, hp, _⟩ := h4 (by omega)
      subst hp
      have HD2 := hide (show (D ++ [L.take m]) ++ cuts m (L.drop m) = cuts m xs by rw [← HD.out, cuts_step h1 hgt]; simp)
      have HT := hide (HL.out.takeM (Nat.le_of_lt hgt))
      have HDr := hide (show RMsgs 0 w0 (.slice (some ⟨g, off + m * 2, none⟩) (L.drop m).length (cap - m)) (L.drop m) by rw [List.length_drop]; exact HL.out.dropM (Nat.le_of_lt hgt))
      have HSl := hide (show cs.length = D.length from by have := HOw.out.1; omega)
      have hgi : (m : Int) < (L.length : Int) := by omega
      have hci : (m : Int) ≤ (cap : Int) := by omega
      have hce : ¬ cap = m := by omega
      have hm0 : (0 : Int) ≤ (m : Int) := by omega
      have hcl : (L.length : Int) ≤ (cap : Int) := by omega
      have HLd := hide (show (L.drop m).length = L.length - m from List.length_drop)
      unfold maxLen at hc2
      have HOA := hide (HOw.out.alloc (.cells #[.slice (some ⟨g, off, none⟩) m cap] 34))
      have HBA := hide (HB.out.alloc HB.out.size (.cells #[.slice (some ⟨g, off, none⟩) m cap] 34))
      clear h4
      go_wp2_with (at_builtin; refine wpList_append_own_at (X.alloc (.cells #[.slice (some ⟨g, off, none⟩) m cap] 34)) rfl (.tmp 13) (.tmp 17) 70 rfl W.heap.size 34 i0 _ 1 24 Tryz.underlying70 hi hz0 hz1 hz2 rfl (by omega) _ D.length cs rfl HOA.out ⟨X.heap.size, 0, none⟩ 1 _ [.slice (some ⟨g, off, none⟩) m cap] rfl rfl (cell_one_new _ _ _) (by simp [Value.oneCell']) (by unfold maxLen; have := HDL.out; omega) (by have := HDL.out; omega) (by have := HBA.out.size; exact this) ?_
                   intro v' w3 hown hgrow _ _
                   have HO3 := hide (show w3.ownsRow W.heap.size 34 1 v' (D ++ [L.take m]).length (cs ++ [.slice (some ⟨g, off, none⟩) m cap]) by rw [List.length_append]; exact hown)
                   have HB3 := hide (HBA.out.grown hgrow HBA.out.size (fun k hk => (HOA.out.lt k hk).1))
                   clear hown hgrow)
      have HS3 := hide (HSh.out.snoc HSl.out HT.out)
      go_roundw
      case rel => exact ⟨_, _, L.drop m, _, cap - m, _, rfl, by rw [HLd.out], HD2, HO3, HDr, HS3, HB3⟩
      case measure => simp [lenOf]; omega
    · have HD2 := hide (show D ++ [L] = cuts m xs by rw [← HD.out, cuts_stop hgt])
      have HSl := hide (show cs.length = D.length from by have := HOw.out.1; omega)
      have HOA := hide (HOw.out.alloc (.cells #[.slice p L.length cap] 34))
      have HBA := hide (HB.out.alloc HB.out.size (.cells #[.slice p L.length cap] 34))
      have hgi : ¬ (m : Int) < (L.length : Int) := by omega
      go_wp2_with (at_builtin; refine wpList_append_own_at (X.alloc (.cells #[.slice p L.length cap] 34)) rfl (.tmp 22) (.tmp 24) 70 rfl W.heap.size 34 i0 _ 1 24 Tryz.underlying70 hi hz0 hz1 hz2 rfl (by omega) _ D.length cs rfl HOA.out ⟨X.heap.size, 0, none⟩ 1 _ [.slice p L.length cap] rfl rfl (cell_one_new _ _ _) (by simp [Value.oneCell']) (by unfold maxLen; have := HDL.out; omega) (by have := HDL.out; omega) (by have := HBA.out.size; exact this) ?_
                   intro v' w3 hown hgrow _ _
                   have HO3 := hide (show w3.ownsRow W.heap.size 34 1 v' (D ++ [L]).length (cs ++ [.slice p L.length cap]) by rw [List.length_append]; exact hown)
                   have HB3 := hide (HBA.out.grown hgrow HBA.out.size (fun k hk => (HOA.out.lt k hk).1))
                   clear hown hgrow)
      have HS3 := hide (HSh.out.snoc HSl.out HL.out)
      have HBF := hide (HBW.out.trans (HB3.out.mono HBW.out.size))
      rw [HD2.out] at HO3 HS3
      obtain ⟨pl, cl, hpl⟩ := own_slice1 HO3.out
      subst hpl
      rw [HWs.out] at HO3
      go_ret
      first
        | exact ⟨pl, cl, _, rfl, HO3.out, HS3.out, HBF.out⟩
        | exact ⟨pl, cl, rfl, ⟨_, HO3.out, HS3.out⟩, HBF.out⟩
        | exact ⟨pl, cl, rfl, _, HO3.out, HS3.out, HBF.out⟩
end Go.Proofs.YtholbhjfmfanbaaGreat
