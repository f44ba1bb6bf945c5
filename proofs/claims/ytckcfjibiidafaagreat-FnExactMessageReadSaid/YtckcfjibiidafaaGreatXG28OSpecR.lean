/- The model's reading of a Field. -/
import Derived.Test.YtckcfjibiidafaaGreatXG27OReadR
import Derived.OrdersHeld
import Derived.Deep.RegionHeld3
import Derived.Test.YtckcfjibiidafaaGreatXG4FTextM
import Derived.Test.YtckcfjibiidafaaGreatXG6FReadM
import Derived.Lib.AppendStr
namespace Go.Proofs.YtckcfjibiidafaaGreat
open Go.RowKit
theorem _root_.Go.World.ownsRow.kept' {w : World} {B B' n sz : Nat} {T : TypeId} {v : Value} {xs : List Value} (h : w.ownsRow B T sz v n xs) (hb : B' ≤ B) : w.ownsRow B' T sz v n xs := by
  refine ⟨h.1, ?_⟩
  rcases h.2 with h | ⟨g, cap, cur, rfl, hbg, rest⟩
  · exact .inl h
  · exact .inr ⟨g, cap, cur, rfl, Nat.le_trans hb hbg, rest⟩
theorem strs_app (a b : List ByteArray) : strs (a ++ b) = strs a ++ strs b := by simp [strs]
theorem pieces_row {w : World} {B : Nat} {v : Value} {c : UInt8} {L : List UInt8} (h : w.ownsRow B 9 1 v (cutL c L).length ((cutL c L).map asStr)) :
    ∃ g cap, v = .slice (some ⟨g, 0, none⟩) (cutL c L).length cap ∧ cap ≤ maxLen ∧ (cutL c L).length ≤ cap ∧ g < w.heap.size ∧ B ≤ g ∧ ∃ cs, Row w g 9 cs ∧ ∀ j (hj : j < (cutL c L).length), cs[j]? = some (.string (asB (cutL c L)[j])) := by
  obtain ⟨p0, ps, hp⟩ := cutL_some c L
  rcases own_block h with ⟨hn, _⟩ | ⟨g, cap, rest, rfl, hbg, hgs, hnc, hcm, hcr, hrow⟩
  · rw [hp] at hn; simp at hn
  · refine ⟨g, cap, rfl, hcm, hnc, hgs, hbg, _, hrow, fun j hj => ?_⟩
    rw [List.getElem?_append_left (by rw [List.length_map]; exact hj), List.getElem?_map, List.getElem?_eq_getElem hj]
    rfl
theorem Only.grown {G : Nat} {a b c : World} {row : Option Nat} (h : Only G a b) (hg : b.grownBy c row) (hr : ∀ k, row = Option.some k → a.heap.size ≤ k) : Only G a c :=
  ⟨hg.os.trans h.os, hg.tape.trans h.tape, hg.output.trans h.output, Nat.le_trans h.size hg.size, fun k hk hn => (hg.block k (Nat.lt_of_lt_of_le hk h.size) (fun e => by have := hr k e.symm; omega)).trans (h.block k hk hn)⟩
/-- A part that is appended to a list in a row of one's own, and the list stored into its struct G. -/
theorem grow_step {α : Type} {R : Nat → Nat → World → Value → α → Prop} [Keeps R] {T E : TypeId} {base a b G : Nat} {X U Z : World} {l v' u : Value} {vs : List Value} {xs : List α} {y : α}
    (hown0 : X.ownsRow base T 1 l xs.length vs) (hGE : GE R base X l vs xs) (hXU : Below X.heap.size X U) (hbase : base ≤ X.heap.size) (hG : G < base) (ha : X.heap.size ≤ a) (hb : b ≤ U.heap.size) (hR : R a b U u y) (hrow : Row U G E [l])
    (hown : Z.ownsRow base T 1 v' (xs.length + 1) (vs ++ [u])) (hgrow : (U.alloc (.cells #[u] T)).grownBy Z l.ownBlock) (hat : v'.ownBlock = l.ownBlock ∨ v'.ownBlock = some (U.alloc (.cells #[u] T)).heap.size) :
    (Z.setCell ⟨G, 0, none⟩ v').ownsRow base T 1 v' (xs ++ [y]).length (vs ++ [u]) ∧ GE R base (Z.setCell ⟨G, 0, none⟩ v') v' (vs ++ [u]) (xs ++ [y]) ∧ Row (Z.setCell ⟨G, 0, none⟩ v') G E [v'] ∧ Row Z G E [l] := by
  have hUY : Below U.heap.size U (U.alloc (.cells #[u] T)) := (Below.refl _ _).alloc (Nat.le_refl _) _
  have hXY : Below X.heap.size X (U.alloc (.cells #[u] T)) := hXU.trans (hUY.mono hXU.size)
  have hlt := hown0.lt
  have hl : vs.length = xs.length := by have := hown0.1; omega
  have hge := hGE.snoc hl hlt (Same.of hXY) hbase ha (Nat.le_trans hb hUY.size) (Keeps.go (SameIn.ofBelow hUY) hR) hgrow hat
  have hs : Same base Z (Z.setCell ⟨G, 0, none⟩ v') := Same.set Z v' hG
  have hrZ : Row Z G E [l] := row_grown (hrow.alloc (.cells #[u] T)) hgrow (fun k hk => (hlt k hk).1) hG
  refine ⟨?_, hge.same hs, by simpa using hrZ.set (j := 0) v', hrZ⟩
  rw [List.length_append]
  exact own_same2 hown hs
theorem SameIn.ofOnly {G lo hi : Nat} {w w' : World} (h : Only G w w') (hG : G < lo) : SameIn lo hi w w' := fun k h1 _ hk => h.block k hk (fun e => by cases e; omega)
set_option maxHeartbeats 32000000 in
set_option maxRecDepth 100000 in
theorem l04Read_any (m t : ByteArray) (w : World) (hm : m.size = 5) (ht : t.size ≤ 8000) :
    Calls Tryz.prog 27 #[.string m, .string t] w fun e w' => ∃ p c, e = .returned (.agg #[.slice p (fldM m t.data.toList).length c]) ∧ QFld w.heap.size w'.heap.size w' (.slice p (fldM m t.data.toList).length c) (fldM m t.data.toList) ∧ Below w.heap.size w w' := by
  obtain ⟨i0, hi, hz0, hz1, hz2⟩ := info_parts Tryz.infoStr
  obtain ⟨j0, hj, hy0, hy1, hy2⟩ := info_parts Tryz.infoCopyComp
  obtain ⟨k0, hkk, hx0, hx1, hx2⟩ := info_parts Tryz.infoCopyRep
  have HZC := hide (show (Value.agg #[.slice none 0 0]).cells.size = 1 from rfl)
  have h1m : 1 < m.size := by omega
  have h2m : 2 < m.size := by omega
  have h4m : 4 < m.size := by omega
  have HB1 := hide (bAt_get m 1 h1m)
  have HB2 := hide (bAt_get m 2 h2m)
  have HB4 := hide (bAt_get m 4 h4m)
  obtain ⟨W, hW⟩ : ∃ W, W = (w.alloc (.cells #[.slice none 0 0] 54)).alloc (.cells #[.slice none 0 0] 54) := ⟨_, rfl⟩
  have HBW := hide (show Below w.heap.size w W by rw [hW]; exact ((Below.refl _ _).alloc (Nat.le_refl _) _).alloc (by simp) _)
  have HRR0 := hide (show Row W w.heap.size 54 [.slice none 0 0] by rw [hW]; exact (row_new w [.slice none 0 0] 54).alloc _)
  have HRF0 := hide (show Row W (w.heap.size + 1) 54 [.slice none 0 0] by
    rw [hW]
    have := row_new (w.alloc (.cells #[.slice none 0 0] 54)) [.slice none 0 0] 54
    simpa using this)
  have HWs := hide (show W.heap.size = w.heap.size + 2 by rw [hW]; simp)
  go_enter Tryz.func27, Tryz.ntmps27
  go_wp2_with fail
  rw [← hW]
  clear hW
  refine (l01Split_any t (m[2]'h2m) _ (by omega)).mono ?_
  rintro e w1 ⟨v6, rfl, ho6, hb6⟩
  rw [← HB2.out] at ho6
  obtain ⟨g6, c6, hv6, hc61, hc62, hg61, hg62, cs6, hrow6, hcell6⟩ := pieces_row ho6
  subst hv6
  have HFL := hide (show fldM m t.data.toList = trimR empL ((cutL (bAt m 2) t.data.toList).map (repM m)) from rfl)
  have HP1L := hide (cutL_len (bAt m 2) t.data.toList)
  obtain ⟨P1, hP1⟩ : ∃ P1, P1 = cutL (bAt m 2) t.data.toList := ⟨_, rfl⟩
  rw [← hP1] at hcell6 HFL HP1L hc62 ⊢
  have HP1 := hide (show P1.length ≤ 8001 ∧ ∀ p ∈ P1, p.length ≤ 8000 by
    have h8 : t.data.toList.length ≤ 8000 := by simpa using ht
    exact ⟨by have := HP1L.out.1; omega, fun p hp => by have := HP1L.out.2 p hp; omega⟩)
  have HC6 := hide hcell6
  have HR6 := hide hrow6
  have HB6 := hide (HBW.out.trans (hb6.mono HBW.out.size))
  have HRR1 := hide (HRR0.out.below hb6 HRR0.out.lt)
  have HRF1 := hide (HRF0.out.below hb6 HRF0.out.lt)
  have HS6 := hide hb6.size
  have HG6 := hide (show W.heap.size ≤ g6 ∧ g6 < w1.heap.size from ⟨hg62, hg61⟩)
  unfold maxLen at hc61
  clear ho6 hb6 hP1 hcell6 hrow6 HP1L HBW HRR0 HRF0 hg61 hg62
  go_wp2_with fail
  go_loopw [7] (fun i wr => ∃ (X : World) (k : Nat) (lf : Value) (vs : List Value), X = wr ∧ k ≤ P1.length ∧ i = .int .i64 (k : Int) ∧ Hid (Row X (w.heap.size + 1) 54 [lf]) ∧ Hid (X.ownsRow w1.heap.size 69 1 lf ((P1.take k).map (repM m)).length vs) ∧ Hid (GE QRep w1.heap.size X lf vs ((P1.take k).map (repM m))) ∧ Hid (Only (w.heap.size + 1) w1 X)) (fun i _ => P1.length - (intOf i).toNat)
  case atStart => exact ⟨_, 0, _, [], rfl, Nat.zero_le _, rfl, HRF1, hide (World.ownsRow_nil w1 w1.heap.size 69 1), hide GE.nil, hide (Only.refl _ _)⟩
  case round =>
    obtain ⟨X, k, lf, vs, rfl, hk, rfl, HRF, HOF, HGF, HON⟩ := hrel
    by_cases hltk : k < P1.length
    · have HCK := hide (show X.cell? ⟨g6, k, none⟩ = some (.string (asB (P1[k]'hltk))) by rw [(HON.out.row HR6.out (by have := HG6.out.1; have := HWs.out; omega)).cell]; exact HC6.out k hltk)
      have HMK := hide (show (P1.take (k + 1)).map (repM m) = (P1.take k).map (repM m) ++ [repM m (P1[k]'hltk)] by rw [List.take_succ_eq_append_getElem hltk, List.map_append]; rfl)
      have HLK := hide (show ((P1.take k).map (repM m)).length = k by rw [List.length_map, List.length_take]; omega)
      have hki0 : (0 : Int) ≤ (k : Int) := by omega
      have hki : (k : Int) < (P1.length : Int) := by omega
      have HXS := hide HON.out.size
      obtain ⟨X1, hX1⟩ : ∃ X1, X1 = X.alloc (.cells #[.slice none 0 0] 69) := ⟨_, rfl⟩
      obtain ⟨R8, hR8⟩ : ∃ R8, R8 = X.heap.size := ⟨_, rfl⟩
      have HX1 := hide (show Below X.heap.size X X1 by rw [hX1]; exact (Below.refl _ _).alloc (Nat.le_refl _) _)
      have HRRow := hide (show Row X1 R8 69 [.slice none 0 0] by rw [hX1, hR8]; exact row_new X [.slice none 0 0] 69)
      have hck1 : X1.cell? ⟨g6, k, none⟩ = some (.string (asB (P1[k]'hltk))) := (HX1.out.cell (p := ⟨g6, k, none⟩) (World.block_lt_of_cell? _ _ HCK.out)).trans HCK.out
      have HX1s := hide (show X1.heap.size = X.heap.size + 1 by rw [hX1]; simp)
      go_wp2_with fail
      rw [← hX1]
      try rw [← hR8]
      have HR8 := hide hR8
      clear hX1 hR8
      go_wp2_with fail
      have HSS := hide (show ∀ y, Below X1.heap.size X1 y → (fun y : World => y.cell? ⟨g6, k, none⟩ = some (.string (asB (P1[k]'hltk)))) y from fun y h => (h.cell (p := ⟨g6, k, none⟩) (World.block_lt_of_cell? _ _ hck1)).trans hck1)
      refine wp_region_held (S := (fun y : World => y.cell? ⟨g6, k, none⟩ = some (.string (asB (P1[k]'hltk))))) (by kernel_rfl) ?_
      have HX0 : Hid (Below X1.heap.size X1 { X1 with drawn := X1.drawn + 1 }) := (Below.refl _ _).drew
      generalize ({ X1 with drawn := X1.drawn + 1 } : World) = Z0 at HX0 ⊢
      have HS := hide (HSS.out _ HX0.out)
      refine wpAnyH_take (i := 0) (oi := _) (v := .slice (some ⟨g6, 0, none⟩) P1.length c6) rfl (by kernel_rfl) (by kernel_rfl) (by kernel_rfl) (fun _ _ _ h => h) (Or.inl ⟨by rfl, by intro w hSw; go_split_ands; go_simp⟩) HS.out ?_
      simp only [Act.put, List.getElem_toArray, List.getElem_cons_zero, List.setIfInBounds_toArray, List.set_cons_zero, List.set_cons_succ]
      refine wpAnyH_take (i := 1) (oi := _) (v := .int .i64 (k : Int)) rfl (by kernel_rfl) (by kernel_rfl) (by kernel_rfl) (fun _ _ _ h => h) (Or.inl ⟨by rfl, by intro w hSw; go_split_ands; go_simp⟩) HS.out ?_
      simp only [Act.put, List.getElem_toArray, List.getElem_cons_zero, List.getElem_cons_succ, List.setIfInBounds_toArray, List.set_cons_zero, List.set_cons_succ]
      refine wpAnyH_take (i := 2) (oi := _) (v := .pointer (some ⟨g6, k, none⟩)) rfl (by kernel_rfl) (by kernel_rfl) (by kernel_rfl) (fun _ _ _ h => h) (Or.inl ⟨by rfl, by intro w hSw; go_split_ands; go_simp⟩) HS.out ?_
      simp only [Act.put, List.getElem_toArray, List.getElem_cons_zero, List.getElem_cons_succ, List.setIfInBounds_toArray, List.set_cons_zero, List.set_cons_succ]
      refine wpAnyH_take (i := 3) (oi := _) (v := .string (asB (P1[k]'hltk))) rfl (by kernel_rfl) (by kernel_rfl) (by kernel_rfl) (fun _ _ _ h => h) (Or.inl ⟨by rfl, by intro w hSw; go_split_ands; go_simp⟩) HS.out ?_
      simp only [Act.put, List.getElem_toArray, List.getElem_cons_zero, List.getElem_cons_succ, List.setIfInBounds_toArray, List.set_cons_zero, List.set_cons_succ]
      refine wpAnyH_take (i := 4) (oi := _) (v := .string m) rfl (by kernel_rfl) (by kernel_rfl) (by kernel_rfl) (fun _ _ _ h => h) (Or.inl ⟨by rfl, by intro w hSw; go_split_ands; go_simp⟩) HS.out ?_
      simp only [Act.put, List.getElem_toArray, List.getElem_cons_zero, List.getElem_cons_succ, List.setIfInBounds_toArray, List.set_cons_zero, List.set_cons_succ]
      refine wpAnyH_take (i := 5) (oi := _) (v := .int .u8 (((m[1]'h1m).toNat : Nat) : Int)) rfl (by kernel_rfl) (by kernel_rfl) (by kernel_rfl) (fun _ _ _ h => h) (Or.inl ⟨by rfl, by intro w hSw; go_split_ands; go_simp⟩) HS.out ?_
      simp only [Act.put, List.getElem_toArray, List.getElem_cons_zero, List.getElem_cons_succ, List.setIfInBounds_toArray, List.set_cons_zero, List.set_cons_succ]
      refine wpAnyH_ready (rs := [6]) (by kernel_rfl) (by simp) ?_
      refine AllReadyH.cons (o := _) rfl (fun K hK => ?_) AllReadyH.nil
      go_simp
      refine (l01Split_any (asB (P1[k]'hltk)) (m[1]'h1m) _ (by rw [asB_size]; have := HP1.out.2 _ (List.getElem_mem hltk); omega)).mono ?_
      rintro e w2 ⟨v9, rfl, hov9, hbv9⟩
      have HSPL := hide (HX0.out.trans (hbv9.mono HX0.out.size))
      have HOS := hide ((hov9.kept' HX0.out.size))
      refine hK.out _ _ (HSS.out _ HSPL.out) (fun _ => ?_)
      clear hK K HS hov9 hbv9 HX0
      have HS := hide (HSS.out _ HSPL.out)
      try simp only [Act.put, List.getElem_toArray, List.getElem_cons_zero, List.getElem_cons_succ, List.setIfInBounds_toArray, List.set_cons_zero, List.set_cons_succ]
      refine wpAnyH_take (i := 7) (oi := _) (v := v9) rfl (by kernel_rfl) (by kernel_rfl) (by kernel_rfl) (fun _ _ _ h => h) (Or.inl ⟨by rfl, by intro w hSw; go_split_ands; go_simp⟩) HS.out ?_
      simp only [Act.put, List.getElem_toArray, List.getElem_cons_zero, List.getElem_cons_succ, List.setIfInBounds_toArray, List.set_cons_zero, List.set_cons_succ]
      refine wpAnyH_done (by kernel_rfl) ?_ _
      clear HS HSS
      rw [← HB1.out, show (asB (P1[k]'hltk)).data.toList = P1[k]'hltk by simp [asB]] at HOS
      obtain ⟨g9, c9, hv9, hc91, hc92, hg91, hg92, cs9, hrow9, hcell9⟩ := pieces_row HOS.out
      subst hv9
      have HRM := hide (show repM m (P1[k]'hltk) = trimR empL ((cutL (bAt m 1) (P1[k]'hltk)).map (compM m)) from rfl)
      have HP2L := hide (cutL_len (bAt m 1) (P1[k]'hltk))
      obtain ⟨P2, hP2⟩ : ∃ P2, P2 = cutL (bAt m 1) (P1[k]'hltk) := ⟨_, rfl⟩
      rw [← hP2] at hcell9 HRM HP2L hc92 ⊢
      have HP2 := hide (show P2.length ≤ 8001 ∧ ∀ p ∈ P2, p.length ≤ 8000 by
        have h8 := HP1.out.2 _ (List.getElem_mem hltk)
        exact ⟨by have := HP2L.out.1; omega, fun p hp => by have := HP2L.out.2 p hp; omega⟩)
      have HPK := hide (show k + 1 ≤ 8002 ∧ True from ⟨by have := HP1.out.1; omega, trivial⟩)
      have HC9C := hide hcell9
      have HR9 := hide hrow9
      have HXW2 := hide (HX1.out.trans (HSPL.out.mono HX1.out.size))
      have HRR2 := hide (HRRow.out.below HSPL.out HRRow.out.lt)
      have HRB := hide (show R8 < w2.heap.size by have h1 := HSPL.out.size; have h2 := HX1s.out; have h3 := HR8.out; omega)
      have HFB := hide (show w.heap.size + 1 < w1.heap.size by have h1 := HS6.out; have h2 := HWs.out; omega)
      have HG9 := hide (show R8 < g9 ∧ g9 < w2.heap.size by have h1 := hg92; have h2 := HX1s.out; have h3 := HR8.out; exact ⟨by omega, hg91⟩)
      unfold maxLen at hc91
      clear hP2 hcell9 hrow9 HP2L HOS HSPL hg91 hg92 hck1 HRRow HX1
      go_wp2_with fail
      go_loopw [10] (fun i wr => ∃ (Y : World) (q : Nat) (lr : Value) (us : List Value), Y = wr ∧ q ≤ P2.length ∧ i = .int .i64 (q : Int) ∧ Hid (Row Y R8 69 [lr]) ∧ Hid (Y.ownsRow w2.heap.size 71 1 lr ((P2.take q).map (compM m)).length us) ∧ Hid (GE OComp w2.heap.size Y lr us ((P2.take q).map (compM m))) ∧ Hid (Only R8 w2 Y)) (fun i _ => P2.length - (intOf i).toNat)
      case atStart => exact ⟨_, 0, _, [], rfl, Nat.zero_le _, rfl, HRR2, hide (World.ownsRow_nil w2 w2.heap.size 71 1), hide GE.nil, hide (Only.refl _ _)⟩
      case round =>
        obtain ⟨Y, q, lr, us, rfl, hq, rfl, HRQ, HOR, HGR, HONY⟩ := hrel
        by_cases hltq : q < P2.length
        · have HCQ := hide (show Y.cell? ⟨g9, q, none⟩ = some (.string (asB (P2[q]'hltq))) by rw [(HONY.out.row HR9.out (by have := HG9.out.1; omega)).cell]; exact HC9C.out q hltq)
          have HMQ := hide (show (P2.take (q + 1)).map (compM m) = (P2.take q).map (compM m) ++ [compM m (P2[q]'hltq)] by rw [List.take_succ_eq_append_getElem hltq, List.map_append]; rfl)
          have HLQ := hide (show ((P2.take q).map (compM m)).length = q by rw [List.length_map, List.length_take]; omega)
          have HP2Q := hide (show q + 1 ≤ 8002 ∧ True from ⟨by have := HP2.out.1; omega, trivial⟩)
          have hqi0 : (0 : Int) ≤ (q : Int) := by omega
          have hqi : (q : Int) < (P2.length : Int) := by omega
          obtain ⟨Y1, hY1⟩ : ∃ Y1, Y1 = Y.alloc (.cells #[.slice none 0 0] 71) := ⟨_, rfl⟩
          obtain ⟨C11, hC11⟩ : ∃ C11, C11 = Y.heap.size := ⟨_, rfl⟩
          have HY1 := hide (show Below Y.heap.size Y Y1 by rw [hY1]; exact (Below.refl _ _).alloc (Nat.le_refl _) _)
          have HCRow := hide (show Row Y1 C11 71 [.slice none 0 0] by rw [hY1, hC11]; exact row_new Y [.slice none 0 0] 71)
          have hcq1 : Y1.cell? ⟨g9, q, none⟩ = some (.string (asB (P2[q]'hltq))) := (HY1.out.cell (p := ⟨g9, q, none⟩) (World.block_lt_of_cell? _ _ HCQ.out)).trans HCQ.out
          have HY1s := hide (show Y1.heap.size = Y.heap.size + 1 by rw [hY1]; simp)
          go_wp2_with fail
          rw [← hY1]
          try rw [← hC11]
          have HC11 := hide hC11
          clear hY1 hC11
          go_wp2_with fail
          have HSS := hide (show ∀ y, Below Y1.heap.size Y1 y → (fun y : World => y.cell? ⟨g9, q, none⟩ = some (.string (asB (P2[q]'hltq)))) y from fun y h => (h.cell (p := ⟨g9, q, none⟩) (World.block_lt_of_cell? _ _ hcq1)).trans hcq1)
          refine wp_region_held (S := (fun y : World => y.cell? ⟨g9, q, none⟩ = some (.string (asB (P2[q]'hltq))))) (by kernel_rfl) ?_
          have HX0 : Hid (Below Y1.heap.size Y1 { Y1 with drawn := Y1.drawn + 1 }) := (Below.refl _ _).drew
          generalize ({ Y1 with drawn := Y1.drawn + 1 } : World) = Z0 at HX0 ⊢
          have HS := hide (HSS.out _ HX0.out)
          refine wpAnyH_take (i := 0) (oi := _) (v := .slice (some ⟨g9, 0, none⟩) P2.length c9) rfl (by kernel_rfl) (by kernel_rfl) (by kernel_rfl) (fun _ _ _ h => h) (Or.inl ⟨by rfl, by intro w hSw; go_split_ands; go_simp⟩) HS.out ?_
          simp only [Act.put, List.getElem_toArray, List.getElem_cons_zero, List.setIfInBounds_toArray, List.set_cons_zero, List.set_cons_succ]
          refine wpAnyH_take (i := 1) (oi := _) (v := .int .i64 (q : Int)) rfl (by kernel_rfl) (by kernel_rfl) (by kernel_rfl) (fun _ _ _ h => h) (Or.inl ⟨by rfl, by intro w hSw; go_split_ands; go_simp⟩) HS.out ?_
          simp only [Act.put, List.getElem_toArray, List.getElem_cons_zero, List.getElem_cons_succ, List.setIfInBounds_toArray, List.set_cons_zero, List.set_cons_succ]
          refine wpAnyH_take (i := 2) (oi := _) (v := .pointer (some ⟨g9, q, none⟩)) rfl (by kernel_rfl) (by kernel_rfl) (by kernel_rfl) (fun _ _ _ h => h) (Or.inl ⟨by rfl, by intro w hSw; go_split_ands; go_simp⟩) HS.out ?_
          simp only [Act.put, List.getElem_toArray, List.getElem_cons_zero, List.getElem_cons_succ, List.setIfInBounds_toArray, List.set_cons_zero, List.set_cons_succ]
          refine wpAnyH_take (i := 3) (oi := _) (v := .string (asB (P2[q]'hltq))) rfl (by kernel_rfl) (by kernel_rfl) (by kernel_rfl) (fun _ _ _ h => h) (Or.inl ⟨by rfl, by intro w hSw; go_split_ands; go_simp⟩) HS.out ?_
          simp only [Act.put, List.getElem_toArray, List.getElem_cons_zero, List.getElem_cons_succ, List.setIfInBounds_toArray, List.set_cons_zero, List.set_cons_succ]
          refine wpAnyH_take (i := 4) (oi := _) (v := .string m) rfl (by kernel_rfl) (by kernel_rfl) (by kernel_rfl) (fun _ _ _ h => h) (Or.inl ⟨by rfl, by intro w hSw; go_split_ands; go_simp⟩) HS.out ?_
          simp only [Act.put, List.getElem_toArray, List.getElem_cons_zero, List.getElem_cons_succ, List.setIfInBounds_toArray, List.set_cons_zero, List.set_cons_succ]
          refine wpAnyH_take (i := 5) (oi := _) (v := .int .u8 (((m[4]'h4m).toNat : Nat) : Int)) rfl (by kernel_rfl) (by kernel_rfl) (by kernel_rfl) (fun _ _ _ h => h) (Or.inl ⟨by rfl, by intro w hSw; go_split_ands; go_simp⟩) HS.out ?_
          simp only [Act.put, List.getElem_toArray, List.getElem_cons_zero, List.getElem_cons_succ, List.setIfInBounds_toArray, List.set_cons_zero, List.set_cons_succ]
          refine wpAnyH_ready (rs := [6]) (by kernel_rfl) (by simp) ?_
          refine AllReadyH.cons (o := _) rfl (fun K hK => ?_) AllReadyH.nil
          go_simp
          refine (l01Split_any (asB (P2[q]'hltq)) (m[4]'h4m) _ (by rw [asB_size]; have := HP2.out.2 _ (List.getElem_mem hltq); omega)).mono ?_
          rintro e w3 ⟨v12, rfl, hov12, hbv12⟩
          have HSPL := hide (HX0.out.trans (hbv12.mono HX0.out.size))
          have HOS := hide ((hov12.kept' HX0.out.size))
          refine hK.out _ _ (HSS.out _ HSPL.out) (fun _ => ?_)
          clear hK K HS hov12 hbv12 HX0
          have HS := hide (HSS.out _ HSPL.out)
          try simp only [Act.put, List.getElem_toArray, List.getElem_cons_zero, List.getElem_cons_succ, List.setIfInBounds_toArray, List.set_cons_zero, List.set_cons_succ]
          refine wpAnyH_take (i := 7) (oi := _) (v := v12) rfl (by kernel_rfl) (by kernel_rfl) (by kernel_rfl) (fun _ _ _ h => h) (Or.inl ⟨by rfl, by intro w hSw; go_split_ands; go_simp⟩) HS.out ?_
          simp only [Act.put, List.getElem_toArray, List.getElem_cons_zero, List.getElem_cons_succ, List.setIfInBounds_toArray, List.set_cons_zero, List.set_cons_succ]
          refine wpAnyH_done (by kernel_rfl) ?_ _
          clear HS HSS

          rw [← HB4.out, show (asB (P2[q]'hltq)).data.toList = P2[q]'hltq by simp [asB]] at HOS
          obtain ⟨g12, c12, hv12, hc121, hc122, hg121, hg122, cs12, hrow12, hcell12⟩ := pieces_row HOS.out
          subst hv12
          have HCM := hide (show compM m (P2[q]'hltq) = trimR empS ((cutL (bAt m 4) (P2[q]'hltq)).map (subM m)) from rfl)
          have HP3L := hide (cutL_len (bAt m 4) (P2[q]'hltq))
          obtain ⟨P3, hP3⟩ : ∃ P3, P3 = cutL (bAt m 4) (P2[q]'hltq) := ⟨_, rfl⟩
          rw [← hP3] at hcell12 HCM HP3L hc122 ⊢
          have HP3 := hide (show P3.length ≤ 8001 ∧ ∀ p ∈ P3, p.length ≤ 8000 by
            have h8 := HP2.out.2 _ (List.getElem_mem hltq)
            exact ⟨by have := HP3L.out.1; omega, fun p hp => by have := HP3L.out.2 p hp; omega⟩)
          have HC12C := hide hcell12
          have HR12 := hide hrow12
          have HYW3 := hide (HY1.out.trans (HSPL.out.mono HY1.out.size))
          have HRC3 := hide (HCRow.out.below HSPL.out HCRow.out.lt)
          have HCB := hide (show C11 < w3.heap.size by have h1 := HSPL.out.size; have h2 := HY1s.out; have h3 := HC11.out; omega)
          have HC12 := hide (show C11 < g12 by have h1 := hg122; have h2 := HY1s.out; have h3 := HC11.out; omega)
          unfold maxLen at hc121
          clear hP3 hcell12 hrow12 HP3L HOS HSPL hg121 hg122 hcq1 HCRow HY1
          go_wp2_with fail
          go_loopw [13] (fun i wr => ∃ (Z : World) (j : Nat) (lc : Value), Z = wr ∧ j ≤ P3.length ∧ i = .int .i64 (j : Int) ∧ Hid (Row Z C11 71 [lc]) ∧ Hid (Z.ownsRow w3.heap.size 9 1 lc j (strs ((P3.take j).map (subM m)))) ∧ Hid (Only C11 w3 Z)) (fun i _ => P3.length - (intOf i).toNat)
          case atStart => exact ⟨_, 0, _, rfl, Nat.zero_le _, rfl, HRC3, hide (World.ownsRow_nil w3 w3.heap.size 9 1), hide (Only.refl _ _)⟩
          case round =>
            obtain ⟨Z, j, lc, rfl, hjl, rfl, HRC, HOC, HNZ⟩ := hrel
            by_cases hltj : j < P3.length
            · have HMJ := hide (show strs ((P3.take (j + 1)).map (subM m)) = strs ((P3.take j).map (subM m)) ++ [.string (subM m (P3[j]'hltj))] by rw [List.take_succ_eq_append_getElem hltj, List.map_append, strs_app]; rfl)
              obtain ⟨SX, hSX⟩ : ∃ SX, SX = subM m (P3[j]'hltj) := ⟨_, rfl⟩
              rw [← hSX] at HMJ
              have HSX := hide (show SX = (⟨(unescL m (asB (P3[j]'hltj)).data.toList).toArray⟩ : ByteArray) by rw [hSX]; simp [subM, asB])
              clear hSX
              have hji0 : (0 : Int) ≤ (j : Int) := by omega
              have hji : (j : Int) < (P3.length : Int) := by omega
              go_wp2_with fail
              have HSS := hide (show ∀ y, Only C11 w3 y → (fun y : World => y.cell? ⟨g12, j, none⟩ = some (.string (asB (P3[j]'hltj)))) y from fun y h => by
                show y.cell? ⟨g12, j, none⟩ = _
                rw [(h.row HR12.out (by have := HC12.out; omega)).cell]
                exact HC12C.out j hltj)
              refine wp_region_held (S := (fun y : World => y.cell? ⟨g12, j, none⟩ = some (.string (asB (P3[j]'hltj))))) (by kernel_rfl) ?_
              have HN0 := hide (HNZ.out.below (show Below Z.heap.size Z { Z with drawn := Z.drawn + 1 } from (Below.refl _ _).drew))
              have HRC0 := hide (HRC.out.below (show Below Z.heap.size Z { Z with drawn := Z.drawn + 1 } from (Below.refl _ _).drew) HRC.out.lt)
              have HOC0 := hide (own_below HOC.out (show Below Z.heap.size Z { Z with drawn := Z.drawn + 1 } from (Below.refl _ _).drew))
              generalize ({ Z with drawn := Z.drawn + 1 } : World) = Z0 at HN0 HRC0 HOC0 ⊢
              have HS := hide (HSS.out _ HN0.out)
              refine wpAnyH_take (i := 0) (oi := _) (v := .pointer (some ⟨C11, 0, none⟩)) rfl (by kernel_rfl) (by kernel_rfl) (by kernel_rfl) (fun _ _ _ h => h) (Or.inl ⟨by rfl, by intro w hSw; go_split_ands; go_simp⟩) HS.out ?_
              simp only [Act.put, List.getElem_toArray, List.getElem_cons_zero, List.setIfInBounds_toArray, List.set_cons_zero, List.set_cons_succ]
              refine wpAnyH_take (i := 2) (oi := _) (v := .string m) rfl (by kernel_rfl) (by kernel_rfl) (by kernel_rfl) (fun _ _ _ h => h) (Or.inl ⟨by rfl, by intro w hSw; go_split_ands; go_simp⟩) HS.out ?_
              simp only [Act.put, List.getElem_toArray, List.getElem_cons_zero, List.getElem_cons_succ, List.setIfInBounds_toArray, List.set_cons_zero, List.set_cons_succ]
              refine wpAnyH_take (i := 3) (oi := _) (v := .slice (some ⟨g12, 0, none⟩) P3.length c12) rfl (by kernel_rfl) (by kernel_rfl) (by kernel_rfl) (fun _ _ _ h => h) (Or.inl ⟨by rfl, by intro w hSw; go_split_ands; go_simp⟩) HS.out ?_
              simp only [Act.put, List.getElem_toArray, List.getElem_cons_zero, List.getElem_cons_succ, List.setIfInBounds_toArray, List.set_cons_zero, List.set_cons_succ]
              refine wpAnyH_take (i := 4) (oi := _) (v := .int .i64 (j : Int)) rfl (by kernel_rfl) (by kernel_rfl) (by kernel_rfl) (fun _ _ _ h => h) (Or.inl ⟨by rfl, by intro w hSw; go_split_ands; go_simp⟩) HS.out ?_
              simp only [Act.put, List.getElem_toArray, List.getElem_cons_zero, List.getElem_cons_succ, List.setIfInBounds_toArray, List.set_cons_zero, List.set_cons_succ]
              refine wpAnyH_take (i := 5) (oi := _) (v := .pointer (some ⟨g12, j, none⟩)) rfl (by kernel_rfl) (by kernel_rfl) (by kernel_rfl) (fun _ _ _ h => h) (Or.inl ⟨by rfl, by intro w hSw; go_split_ands; go_simp⟩) HS.out ?_
              simp only [Act.put, List.getElem_toArray, List.getElem_cons_zero, List.getElem_cons_succ, List.setIfInBounds_toArray, List.set_cons_zero, List.set_cons_succ]
              refine wpAnyH_take (i := 6) (oi := _) (v := .string (asB (P3[j]'hltj))) rfl (by kernel_rfl) (by kernel_rfl) (by kernel_rfl) (fun _ _ _ h => h) (Or.inl ⟨by rfl, by intro w hSw; go_split_ands; go_simp⟩) HS.out ?_
              simp only [Act.put, List.getElem_toArray, List.getElem_cons_zero, List.getElem_cons_succ, List.setIfInBounds_toArray, List.set_cons_zero, List.set_cons_succ]
              refine wpAnyH_ready (rs := [1, 7]) (by kernel_rfl) (by simp) ?_
              refine AllReadyH.cons (o := _) rfl (fun K hK => ?_) (AllReadyH.cons (o := _) rfl (fun K hK => ?_) AllReadyH.nil)
              · have c5 : Z0.cell? ⟨C11, 0, none⟩ = some lc := (HRC0.out).cell 0
                go_simp
                refine hK.out _ _ HS.out (fun _ => ?_)
                clear hK K c5
                try simp only [Act.put, List.getElem_toArray, List.getElem_cons_zero, List.getElem_cons_succ, List.setIfInBounds_toArray, List.set_cons_zero, List.set_cons_succ]
                refine wpAnyH_ready (rs := [7]) (by kernel_rfl) (by simp) ?_
                refine AllReadyH.cons (o := _) rfl (fun K hK => ?_) AllReadyH.nil
                go_simp
                refine (l04Unescape_any m (asB (P3[j]'hltj)) _ hm (by rw [asB_size]; have := HP3.out.2 _ (List.getElem_mem hltj); omega)).mono ?_
                rintro e Z1 ⟨rfl, hb1⟩
                have HN1 := hide (HN0.out.below hb1)
                have HRC1 := hide (HRC0.out.below hb1 HRC0.out.lt)
                have HOC1 := hide (own_below HOC0.out hb1)
                refine hK.out _ _ (HSS.out _ HN1.out) (fun _ => ?_)
                clear hK K HS hb1
                have HS := hide (HSS.out _ HN1.out)
                rw [show (⟨(unescL m (asB (P3[j]'hltj)).data.toList).toArray⟩ : ByteArray) = SX from HSX.out.symm]
                try simp only [Act.put, List.getElem_toArray, List.getElem_cons_zero, List.getElem_cons_succ, List.setIfInBounds_toArray, List.set_cons_zero, List.set_cons_succ]
                refine wpAnyH_ready (rs := [8]) (by kernel_rfl) (by simp) ?_
                refine AllReadyH.cons (o := _) rfl (fun K hK => ?_) AllReadyH.nil
                go_simp
                have HN2 := hide (HN1.out.below ((Below.refl Z1.heap.size Z1).alloc (Nat.le_refl _) (.cells #[.string SX] 9)))
                have HRC2 := hide (HRC1.out.alloc (.cells #[.string SX] 9))
                have HOC2 := hide (HOC1.out.alloc (.cells #[.string SX] 9))
                have HR1 := hide (cell_one_new Z1 (.string SX) 9)
                have HSZ2 := hide (show w3.heap.size ≤ (Z1.alloc (.cells #[.string SX] 9)).heap.size from HN2.out.size)
                refine hK.out _ _ (HSS.out _ HN2.out) (fun _ => ?_)
                clear hK K HS
                generalize hZ : Z1.alloc (.cells #[.string SX] 9) = Z2 at HN2 HRC2 HOC2 HR1 HSZ2 ⊢
                generalize Z1.heap.size = E5 at HR1 ⊢
                clear hZ
                have HS := hide (HSS.out _ HN2.out)
                refine wpAnyH_ready (rs := [9]) (by kernel_rfl) (by simp) ?_
                refine AllReadyH.cons (o := _) rfl (fun K hK => ?_) AllReadyH.nil
                refine step_own (w := Z2) rfl (.tmp 54) (.tmp 61) 37 rfl w3.heap.size 9 i0 _ 1 16 Tryz.underlying37 hi hz0 hz1 hz2 rfl (by omega) lc j _ rfl HOC2.out ⟨E5, 0, none⟩ 1 _ [.string SX] rfl rfl HR1.out (by simp [Value.oneCell']) (by unfold maxLen; have := HP3.out.1; omega) (by have := HP3.out.1; omega) HSZ2.out ?_
                intro l3 Z9 hown9 hgrow hat
                obtain ⟨pl, cl, hl3⟩ := own_slice1 hown9
                subst hl3
                have HN9 := hide (HN2.out.grown hgrow (fun k hk => (HOC2.out.lt k hk).1))
                have HRC9 := hide (row_grown HRC2.out hgrow (fun k hk => (HOC2.out.lt k hk).1) HCB.out)
                have HOC9 := hide hown9
                clear hown9 hgrow hat
                refine hK.out _ _ (HSS.out _ HN9.out) (fun _ => ?_)
                clear hK K HS
                have HS := hide (HSS.out _ HN9.out)
                try simp only [Act.put, List.getElem_toArray, List.getElem_cons_zero, List.getElem_cons_succ, List.setIfInBounds_toArray, List.set_cons_zero, List.set_cons_succ]
                refine wpAnyH_take (i := 10) (oi := _) (v := .pointer (some ⟨C11, 0, none⟩)) rfl (by kernel_rfl) (by kernel_rfl) (by kernel_rfl) (fun _ _ _ h => h) (Or.inl ⟨by rfl, by intro w hSw; go_split_ands; go_simp⟩) HS.out ?_
                simp only [Act.put, List.getElem_toArray, List.getElem_cons_zero, List.getElem_cons_succ, List.setIfInBounds_toArray, List.set_cons_zero, List.set_cons_succ]
                refine wpAnyH_ready (rs := [11]) (by kernel_rfl) (by simp) ?_
                refine AllReadyH.cons (o := _) rfl (fun K hK => ?_) AllReadyH.nil
                have c9 : Z9.cell? ⟨C11, 0, none⟩ = some lc := HRC9.out.cell 0
                have f9 := HRC9.out.free 0
                go_simp
                have HNF := hide (HN9.out.set (j := 0) (.slice pl (j + 1) cl))
                have HRF9 := hide (HRC9.out.set (j := 0) (.slice pl (j + 1) cl))
                have HOF9 := hide (own_same2 HOC9.out (Same.set Z9 (j := 0) (.slice pl (j + 1) cl) HCB.out))
                refine hK.out _ _ (HSS.out _ HNF.out) (fun _ => ?_)
                clear hK K HS c9 f9
                refine wpAnyH_done (by kernel_rfl) ?_ _
                have HOF10 : Hid ((Z9.setCell ⟨C11, 0, none⟩ (.slice pl (j + 1) cl)).ownsRow w3.heap.size 9 1 (.slice pl (j + 1) cl) (j + 1) (strs ((P3.take (j + 1)).map (subM m)))) := hide (by
                  rw [HMJ.out]
                  exact HOF9.out)
                have HRF10 : Hid (Row (Z9.setCell ⟨C11, 0, none⟩ (.slice pl (j + 1) cl)) C11 71 [.slice pl (j + 1) cl]) := hide (by simpa using HRF9.out)
                go_wp2
                go_roundw
                case rel => exact ⟨_, j + 1, _, rfl, by omega, by go_num, HRF10, HOF10, HNF⟩
                case measure => simp [intOf]; omega
              · go_simp
                refine (l04Unescape_any m (asB (P3[j]'hltj)) _ hm (by rw [asB_size]; have := HP3.out.2 _ (List.getElem_mem hltj); omega)).mono ?_
                rintro e Z1 ⟨rfl, hb1⟩
                have HN1 := hide (HN0.out.below hb1)
                have HRC1 := hide (HRC0.out.below hb1 HRC0.out.lt)
                have HOC1 := hide (own_below HOC0.out hb1)
                refine hK.out _ _ (HSS.out _ HN1.out) (fun _ => ?_)
                clear hK K HS hb1
                have HS := hide (HSS.out _ HN1.out)
                rw [show (⟨(unescL m (asB (P3[j]'hltj)).data.toList).toArray⟩ : ByteArray) = SX from HSX.out.symm]
                try simp only [Act.put, List.getElem_toArray, List.getElem_cons_zero, List.getElem_cons_succ, List.setIfInBounds_toArray, List.set_cons_zero, List.set_cons_succ]
                refine wpAnyH_ready (rs := [1, 8]) (by kernel_rfl) (by simp) ?_
                refine AllReadyH.cons (o := _) rfl (fun K hK => ?_) (AllReadyH.cons (o := _) rfl (fun K hK => ?_) AllReadyH.nil)
                · have c5 : Z1.cell? ⟨C11, 0, none⟩ = some lc := (HRC1.out).cell 0
                  go_simp
                  refine hK.out _ _ HS.out (fun _ => ?_)
                  clear hK K c5
                  try simp only [Act.put, List.getElem_toArray, List.getElem_cons_zero, List.getElem_cons_succ, List.setIfInBounds_toArray, List.set_cons_zero, List.set_cons_succ]
                  refine wpAnyH_ready (rs := [8]) (by kernel_rfl) (by simp) ?_
                  refine AllReadyH.cons (o := _) rfl (fun K hK => ?_) AllReadyH.nil
                  go_simp
                  have HN2 := hide (HN1.out.below ((Below.refl Z1.heap.size Z1).alloc (Nat.le_refl _) (.cells #[.string SX] 9)))
                  have HRC2 := hide (HRC1.out.alloc (.cells #[.string SX] 9))
                  have HOC2 := hide (HOC1.out.alloc (.cells #[.string SX] 9))
                  have HR1 := hide (cell_one_new Z1 (.string SX) 9)
                  have HSZ2 := hide (show w3.heap.size ≤ (Z1.alloc (.cells #[.string SX] 9)).heap.size from HN2.out.size)
                  refine hK.out _ _ (HSS.out _ HN2.out) (fun _ => ?_)
                  clear hK K HS
                  generalize hZ : Z1.alloc (.cells #[.string SX] 9) = Z2 at HN2 HRC2 HOC2 HR1 HSZ2 ⊢
                  generalize Z1.heap.size = E5 at HR1 ⊢
                  clear hZ
                  have HS := hide (HSS.out _ HN2.out)
                  refine wpAnyH_ready (rs := [9]) (by kernel_rfl) (by simp) ?_
                  refine AllReadyH.cons (o := _) rfl (fun K hK => ?_) AllReadyH.nil
                  refine step_own (w := Z2) rfl (.tmp 54) (.tmp 61) 37 rfl w3.heap.size 9 i0 _ 1 16 Tryz.underlying37 hi hz0 hz1 hz2 rfl (by omega) lc j _ rfl HOC2.out ⟨E5, 0, none⟩ 1 _ [.string SX] rfl rfl HR1.out (by simp [Value.oneCell']) (by unfold maxLen; have := HP3.out.1; omega) (by have := HP3.out.1; omega) HSZ2.out ?_
                  intro l3 Z9 hown9 hgrow hat
                  obtain ⟨pl, cl, hl3⟩ := own_slice1 hown9
                  subst hl3
                  have HN9 := hide (HN2.out.grown hgrow (fun k hk => (HOC2.out.lt k hk).1))
                  have HRC9 := hide (row_grown HRC2.out hgrow (fun k hk => (HOC2.out.lt k hk).1) HCB.out)
                  have HOC9 := hide hown9
                  clear hown9 hgrow hat
                  refine hK.out _ _ (HSS.out _ HN9.out) (fun _ => ?_)
                  clear hK K HS
                  have HS := hide (HSS.out _ HN9.out)
                  try simp only [Act.put, List.getElem_toArray, List.getElem_cons_zero, List.getElem_cons_succ, List.setIfInBounds_toArray, List.set_cons_zero, List.set_cons_succ]
                  refine wpAnyH_take (i := 10) (oi := _) (v := .pointer (some ⟨C11, 0, none⟩)) rfl (by kernel_rfl) (by kernel_rfl) (by kernel_rfl) (fun _ _ _ h => h) (Or.inl ⟨by rfl, by intro w hSw; go_split_ands; go_simp⟩) HS.out ?_
                  simp only [Act.put, List.getElem_toArray, List.getElem_cons_zero, List.getElem_cons_succ, List.setIfInBounds_toArray, List.set_cons_zero, List.set_cons_succ]
                  refine wpAnyH_ready (rs := [11]) (by kernel_rfl) (by simp) ?_
                  refine AllReadyH.cons (o := _) rfl (fun K hK => ?_) AllReadyH.nil
                  have c9 : Z9.cell? ⟨C11, 0, none⟩ = some lc := HRC9.out.cell 0
                  have f9 := HRC9.out.free 0
                  go_simp
                  have HNF := hide (HN9.out.set (j := 0) (.slice pl (j + 1) cl))
                  have HRF9 := hide (HRC9.out.set (j := 0) (.slice pl (j + 1) cl))
                  have HOF9 := hide (own_same2 HOC9.out (Same.set Z9 (j := 0) (.slice pl (j + 1) cl) HCB.out))
                  refine hK.out _ _ (HSS.out _ HNF.out) (fun _ => ?_)
                  clear hK K HS c9 f9
                  refine wpAnyH_done (by kernel_rfl) ?_ _
                  have HOF10 : Hid ((Z9.setCell ⟨C11, 0, none⟩ (.slice pl (j + 1) cl)).ownsRow w3.heap.size 9 1 (.slice pl (j + 1) cl) (j + 1) (strs ((P3.take (j + 1)).map (subM m)))) := hide (by
                    rw [HMJ.out]
                    exact HOF9.out)
                  have HRF10 : Hid (Row (Z9.setCell ⟨C11, 0, none⟩ (.slice pl (j + 1) cl)) C11 71 [.slice pl (j + 1) cl]) := hide (by simpa using HRF9.out)
                  go_wp2
                  go_roundw
                  case rel => exact ⟨_, j + 1, _, rfl, by omega, by go_num, HRF10, HOF10, HNF⟩
                  case measure => simp [intOf]; omega
                · go_simp
                  have HN2 := hide (HN1.out.below ((Below.refl Z1.heap.size Z1).alloc (Nat.le_refl _) (.cells #[.string SX] 9)))
                  have HRC2 := hide (HRC1.out.alloc (.cells #[.string SX] 9))
                  have HOC2 := hide (HOC1.out.alloc (.cells #[.string SX] 9))
                  have HR1 := hide (cell_one_new Z1 (.string SX) 9)
                  have HSZ2 := hide (show w3.heap.size ≤ (Z1.alloc (.cells #[.string SX] 9)).heap.size from HN2.out.size)
                  refine hK.out _ _ (HSS.out _ HN2.out) (fun _ => ?_)
                  clear hK K HS
                  generalize hZ : Z1.alloc (.cells #[.string SX] 9) = Z2 at HN2 HRC2 HOC2 HR1 HSZ2 ⊢
                  generalize Z1.heap.size = E5 at HR1 ⊢
                  clear hZ
                  have HS := hide (HSS.out _ HN2.out)
                  refine wpAnyH_ready (rs := [1]) (by kernel_rfl) (by simp) ?_
                  refine AllReadyH.cons (o := _) rfl (fun K hK => ?_) AllReadyH.nil
                  have c5 : Z2.cell? ⟨C11, 0, none⟩ = some lc := (HRC2.out).cell 0
                  go_simp
                  refine hK.out _ _ HS.out (fun _ => ?_)
                  clear hK K c5
                  try simp only [Act.put, List.getElem_toArray, List.getElem_cons_zero, List.getElem_cons_succ, List.setIfInBounds_toArray, List.set_cons_zero, List.set_cons_succ]
                  refine wpAnyH_ready (rs := [9]) (by kernel_rfl) (by simp) ?_
                  refine AllReadyH.cons (o := _) rfl (fun K hK => ?_) AllReadyH.nil
                  refine step_own (w := Z2) rfl (.tmp 54) (.tmp 61) 37 rfl w3.heap.size 9 i0 _ 1 16 Tryz.underlying37 hi hz0 hz1 hz2 rfl (by omega) lc j _ rfl HOC2.out ⟨E5, 0, none⟩ 1 _ [.string SX] rfl rfl HR1.out (by simp [Value.oneCell']) (by unfold maxLen; have := HP3.out.1; omega) (by have := HP3.out.1; omega) HSZ2.out ?_
                  intro l3 Z9 hown9 hgrow hat
                  obtain ⟨pl, cl, hl3⟩ := own_slice1 hown9
                  subst hl3
                  have HN9 := hide (HN2.out.grown hgrow (fun k hk => (HOC2.out.lt k hk).1))
                  have HRC9 := hide (row_grown HRC2.out hgrow (fun k hk => (HOC2.out.lt k hk).1) HCB.out)
                  have HOC9 := hide hown9
                  clear hown9 hgrow hat
                  refine hK.out _ _ (HSS.out _ HN9.out) (fun _ => ?_)
                  clear hK K HS
                  have HS := hide (HSS.out _ HN9.out)
                  try simp only [Act.put, List.getElem_toArray, List.getElem_cons_zero, List.getElem_cons_succ, List.setIfInBounds_toArray, List.set_cons_zero, List.set_cons_succ]
                  refine wpAnyH_take (i := 10) (oi := _) (v := .pointer (some ⟨C11, 0, none⟩)) rfl (by kernel_rfl) (by kernel_rfl) (by kernel_rfl) (fun _ _ _ h => h) (Or.inl ⟨by rfl, by intro w hSw; go_split_ands; go_simp⟩) HS.out ?_
                  simp only [Act.put, List.getElem_toArray, List.getElem_cons_zero, List.getElem_cons_succ, List.setIfInBounds_toArray, List.set_cons_zero, List.set_cons_succ]
                  refine wpAnyH_ready (rs := [11]) (by kernel_rfl) (by simp) ?_
                  refine AllReadyH.cons (o := _) rfl (fun K hK => ?_) AllReadyH.nil
                  have c9 : Z9.cell? ⟨C11, 0, none⟩ = some lc := HRC9.out.cell 0
                  have f9 := HRC9.out.free 0
                  go_simp
                  have HNF := hide (HN9.out.set (j := 0) (.slice pl (j + 1) cl))
                  have HRF9 := hide (HRC9.out.set (j := 0) (.slice pl (j + 1) cl))
                  have HOF9 := hide (own_same2 HOC9.out (Same.set Z9 (j := 0) (.slice pl (j + 1) cl) HCB.out))
                  refine hK.out _ _ (HSS.out _ HNF.out) (fun _ => ?_)
                  clear hK K HS c9 f9
                  refine wpAnyH_done (by kernel_rfl) ?_ _
                  have HOF10 : Hid ((Z9.setCell ⟨C11, 0, none⟩ (.slice pl (j + 1) cl)).ownsRow w3.heap.size 9 1 (.slice pl (j + 1) cl) (j + 1) (strs ((P3.take (j + 1)).map (subM m)))) := hide (by
                    rw [HMJ.out]
                    exact HOF9.out)
                  have HRF10 : Hid (Row (Z9.setCell ⟨C11, 0, none⟩ (.slice pl (j + 1) cl)) C11 71 [.slice pl (j + 1) cl]) := hide (by simpa using HRF9.out)
                  go_wp2
                  go_roundw
                  case rel => exact ⟨_, j + 1, _, rfl, by omega, by go_num, HRF10, HOF10, HNF⟩
                  case measure => simp [intOf]; omega

            · have ej : P3.take j = P3 := List.take_of_length_le (by omega)
              have ejl : j = P3.length := by omega
              have HCM2 := hide (show compM m (P2[q]'hltq) = trimR empS (P3.map (subM m)) by rw [HCM.out])
              obtain ⟨subs, hsubs⟩ : ∃ subs, subs = P3.map (subM m) := ⟨_, rfl⟩
              have HOS3 := hide (show OComp w3.heap.size Z.heap.size Z lc subs by
                have h := HOC.out
                rw [ej, ← hsubs, show j = subs.length by rw [hsubs, List.length_map]; exact ejl] at h
                exact os_of_own h (fun x hx => by
                  rw [hsubs] at hx
                  obtain ⟨y, hy, rfl⟩ := List.mem_map.1 hx
                  have h1 := subM_size m y
                  have h2 := HP3.out.2 y hy
                  unfold maxLen; omega))
              have HSL := hide (show subs.length ≤ 8001 by rw [hsubs, List.length_map]; exact HP3.out.1)
              rw [← hsubs] at HCM2
              clear ej ejl hsubs HOC
              obtain ⟨p3, c3, h1c3, hcap3⟩ : ∃ p3 c3, lc = .slice p3 subs.length c3 ∧ (subs.length ≤ c3 ∧ c3 ≤ maxLen) := by
                obtain ⟨p, c, e, h1, h2, _⟩ := HOS3.out
                exact ⟨p, c, e, h1, h2⟩
              subst h1c3
              have HCAP := hide hcap3
              have hcm3 := hcap3.2
              unfold maxLen at hcm3
              have HQ0 := HOS3
              have HGB := HCB
              have HTR0 := HRC
              clear hcap3
              go_wp2_with fail
              go_loopw [] (fun wr => ∃ (U : World) (n : Nat), U = wr ∧ n ≤ subs.length ∧ Hid (Row U C11 71 [.slice p3 n c3]) ∧ Hid (Only C11 Z U) ∧ Hid (trimR empS (subs.take n) = trimR empS subs)) (fun wr => lenAt wr C11)
              case atStart => exact ⟨_, _, rfl, Nat.le_refl _, HTR0, hide (Only.refl _ _), hide (by rw [List.take_length])⟩
              case round =>
                obtain ⟨U, n, rfl, hn, HTR, HTO, HTT⟩ := hrel
                have t0 : U.cell? ⟨C11, 0, none⟩ = some (.slice p3 n c3) := HTR.out.cell 0
                have HTL := hide (lenAt_of t0)
                have HQU := hide (Keeps.go (SameIn.ofOnly HTO.out (by have := HGB.out; omega)) HQ0.out)
                by_cases hn0 : n = 0
                · subst hn0
                  have HLT := hide (show trimR empS subs = subs.take 0 by rw [← HTT.out]; rfl)
                  have HQF := hide (OS.take HQU.out (Nat.zero_le _))
                  obtain ⟨F, hF⟩ : ∃ F, F = subs.take 0 := ⟨_, rfl⟩
                  have HFL5 := hide (show F.length = 0 by rw [hF]; rfl)
                  rw [← hF] at HLT HQF
                  clear hF
                  have HBU := hide ((HNZ.out.trans HTO.out).toBelow HYW3.out HYW3.out.size (Nat.le_of_eq HC11.out.symm))
                  have HRU := hide (HRQ.out.below HBU.out HRQ.out.lt)
                  have r0 : U.cell? ⟨R8, 0, none⟩ = some lr := HRU.out.cell 0
                  have t1 : U.cell? ⟨C11, 0, none⟩ = some (.slice p3 0 c3) := HTR.out.cell 0
                  have HUA := hide (show Below U.heap.size U (U.alloc (.cells #[.slice p3 0 c3] 71)) from (Below.refl _ _).alloc (Nat.le_refl _) _)
                  have HOQ := hide (show Y.ownsRow w2.heap.size 71 1 lr q us by have h := HOR.out; rw [HLQ.out] at h; exact h)
                  have HOV := hide (own_below HOQ.out (HBU.out.trans (HUA.out.mono HBU.out.size)))
                  have HSV := hide (show w2.heap.size ≤ (U.alloc (.cells #[.slice p3 0 c3] 71)).heap.size from Nat.le_trans HONY.out.size (Nat.le_trans HBU.out.size HUA.out.size))
                  have HOLT := hide HOR.out.lt
                  have HBS := hide (show w2.heap.size ≤ Y.heap.size from HONY.out.size)
                  have HA1 := hide (show Y.heap.size ≤ w3.heap.size from HYW3.out.size)
                  have HA2 := hide (show Z.heap.size ≤ U.heap.size from HTO.out.size)
                  clear t0
                  go_wp2_with (at_builtin; refine wpList_append_own_at (U.alloc (.cells #[.slice p3 0 c3] 71)) rfl (.tmp 88) (.tmp 90) 67 rfl w2.heap.size 71 j0 _ 1 24 Tryz.underlying67 hj hy0 hy1 hy2 HZC.out (by omega) lr q us rfl HOV.out ⟨U.heap.size, 0, none⟩ 1 _ [.slice p3 0 c3] rfl rfl (cell_one_new U _ _) (by simp [Value.oneCell']) (by unfold maxLen; have := HP2Q.out.1; omega) (by have := HP2Q.out.1; omega) HSV.out ?_
                               intro v' Z3 hown hgrow _ hat
                               obtain ⟨pv, cv, hv9⟩ := own_slice1 hown
                               subst hv9
                               obtain ⟨s1, s2, s3, s4⟩ := grow_step (G := R8) (E := 69) (T := 71) (R := OComp) (y := F) HOR.out HGR.out HBU.out HBS.out HRB.out HA1.out HA2.out HQF.out HRU.out (by rw [HLQ.out]; exact hown) hgrow hat
                               have HS1 := hide s1
                               have HS2 := hide s2
                               have HS3 := hide s3
                               have HON9 := hide (((((HONY.out.below HBU.out).below HUA.out).grown hgrow (fun k hk => (HOLT.out k hk).1)).set (j := 0) (.slice pv (q + 1) cv)))
                               have r9 := s4.cell 0
                               have f9 := s4.free 0
                               clear s1 s2 s3 s4 hown hgrow hat)
                  have HE9 := hide (show F = compM m (P2[q]'hltq) by rw [HCM2.out, HLT.out])
                  have HM9 := hide (show (P2.take (q + 1)).map (compM m) = (P2.take q).map (compM m) ++ [F] by rw [HMQ.out, HE9.out])
                  rw [← HM9.out] at HS1 HS2
                  clear r0 t1
                  go_roundw
                  case rel => exact ⟨_, q + 1, _, _, rfl, by omega, by go_num, HS3, HS1, HS2, HON9⟩
                  case measure => simp [intOf]; omega
                · obtain ⟨n', hn'⟩ : ∃ n', n = n' + 1 := ⟨n - 1, by omega⟩
                  have hnl : n' < subs.length := by omega
                  have hw1 : IntKind.i64.wrap ((n : Int) - 1) = (n' : Int) := by rw [show ((n : Int) - 1) = (n' : Int) by omega]; have := HSL.out; exact wrap_small _ (by omega) (by omega)
                  have hn0' : (0 : Int) < (n : Int) := by omega
                  have hn1' : (0 : Int) ≤ (n' : Int) := by omega
                  have hn2' : (n' : Int) < (n : Int) := by omega
                  have hn3' : (n' : Int) ≤ (c3 : Int) := by have := HCAP.out; omega
                  have hfr := HTR.out.free 0
                  obtain ⟨g5, hp5, HCL5⟩ : ∃ g5, p3 = some ⟨g5, 0, none⟩ ∧ Hid (U.cell? ⟨g5, n', none⟩ = some (.string (subs[n']'hnl))) := by
                    obtain ⟨p', cap', e', _, _, _, h4'⟩ := HQU.out
                    cases e'
                    obtain ⟨g5, rest5, hp5, _, _, _, hr5⟩ := h4' (by omega)
                    refine ⟨g5, hp5, hide ?_⟩
                    rw [hr5.cell, List.getElem?_append_left (by rw [strs_len]; exact hnl)]
                    simp [strs, hnl]
                  subst hp5
                  have HN' := hide hn'
                  clear hn' hn0
                  cases he : empS (subs[n']'hnl)
                  · have HLT := hide (show trimR empS subs = subs.take n by rw [← HTT.out, HN'.out]; exact trimR_stop hnl he)
                    have HQF := hide (OS.take HQU.out hn)
                    have HFL5 := hide (show (subs.take n).length = n by rw [List.length_take]; omega)
                    obtain ⟨F, hF⟩ : ∃ F, F = subs.take n := ⟨_, rfl⟩
                    rw [← hF] at HLT HQF HFL5
                    clear hF
                    have he2 : ¬ (subs[n']'hnl).size = 0 := by simpa [empS] using he
                    have he3 := toList_neF (show subs[n']'hnl ≠ ⟨#[]⟩ from fun h => he2 (by rw [h]; rfl))
                    have he4 : ((subs[n']'hnl).toList == []) = false := by simpa using he3
                    have hcl := HCL5.out
                    generalize subs[n']'hnl = Y5 at hcl he4
                    clear he he2 he3
                    have HBU := hide ((HNZ.out.trans HTO.out).toBelow HYW3.out HYW3.out.size (Nat.le_of_eq HC11.out.symm))
                    have HRU := hide (HRQ.out.below HBU.out HRQ.out.lt)
                    have r0 : U.cell? ⟨R8, 0, none⟩ = some lr := HRU.out.cell 0
                    have t1 : U.cell? ⟨C11, 0, none⟩ = some (.slice (some ⟨g5, 0, none⟩) n c3) := HTR.out.cell 0
                    have HUA := hide (show Below U.heap.size U (U.alloc (.cells #[.slice (some ⟨g5, 0, none⟩) n c3] 71)) from (Below.refl _ _).alloc (Nat.le_refl _) _)
                    have HOQ := hide (show Y.ownsRow w2.heap.size 71 1 lr q us by have h := HOR.out; rw [HLQ.out] at h; exact h)
                    have HOV := hide (own_below HOQ.out (HBU.out.trans (HUA.out.mono HBU.out.size)))
                    have HSV := hide (show w2.heap.size ≤ (U.alloc (.cells #[.slice (some ⟨g5, 0, none⟩) n c3] 71)).heap.size from Nat.le_trans HONY.out.size (Nat.le_trans HBU.out.size HUA.out.size))
                    have HOLT := hide HOR.out.lt
                    have HBS := hide (show w2.heap.size ≤ Y.heap.size from HONY.out.size)
                    have HA1 := hide (show Y.heap.size ≤ w3.heap.size from HYW3.out.size)
                    have HA2 := hide (show Z.heap.size ≤ U.heap.size from HTO.out.size)
                    clear t0
                    go_wp2_with (at_builtin; refine wpList_append_own_at (U.alloc (.cells #[.slice (some ⟨g5, 0, none⟩) n c3] 71)) rfl (.tmp 88) (.tmp 90) 67 rfl w2.heap.size 71 j0 _ 1 24 Tryz.underlying67 hj hy0 hy1 hy2 HZC.out (by omega) lr q us rfl HOV.out ⟨U.heap.size, 0, none⟩ 1 _ [.slice (some ⟨g5, 0, none⟩) n c3] rfl rfl (cell_one_new U _ _) (by simp [Value.oneCell']) (by unfold maxLen; have := HP2Q.out.1; omega) (by have := HP2Q.out.1; omega) HSV.out ?_
                                 intro v' Z3 hown hgrow _ hat
                                 obtain ⟨pv, cv, hv9⟩ := own_slice1 hown
                                 subst hv9
                                 obtain ⟨s1, s2, s3, s4⟩ := grow_step (G := R8) (E := 69) (T := 71) (R := OComp) (y := F) HOR.out HGR.out HBU.out HBS.out HRB.out HA1.out HA2.out HQF.out HRU.out (by rw [HLQ.out]; exact hown) hgrow hat
                                 have HS1 := hide s1
                                 have HS2 := hide s2
                                 have HS3 := hide s3
                                 have HON9 := hide (((((HONY.out.below HBU.out).below HUA.out).grown hgrow (fun k hk => (HOLT.out k hk).1)).set (j := 0) (.slice pv (q + 1) cv)))
                                 have r9 := s4.cell 0
                                 have f9 := s4.free 0
                                 clear s1 s2 s3 s4 hown hgrow hat)
                    have HE9 := hide (show F = compM m (P2[q]'hltq) by rw [HCM2.out, HLT.out])
                    have HM9 := hide (show (P2.take (q + 1)).map (compM m) = (P2.take q).map (compM m) ++ [F] by rw [HMQ.out, HE9.out])
                    rw [← HM9.out] at HS1 HS2
                    clear r0 t1
                    go_roundw
                    case rel => exact ⟨_, q + 1, _, _, rfl, by omega, by go_num, HS3, HS1, HS2, HON9⟩
                    case measure => simp [intOf]; omega
                  · have HTT2 := hide (show trimR empS (subs.take n') = trimR empS subs by rw [← HTT.out, HN'.out, trimR_take hnl he])
                    have HTR2 := hide (HTR.out.set (j := 0) (.slice (some ⟨g5, 0, none⟩) n' c3))
                    have HTO2 := hide (HTO.out.set (j := 0) (.slice (some ⟨g5, 0, none⟩) n' c3))
                    have HTL2 := hide (lenAt_of (HTR2.out.cell 0 : (U.setCell ⟨C11, 0, none⟩ (.slice (some ⟨g5, 0, none⟩) n' c3)).cell? ⟨C11, 0, none⟩ = some (.slice (some ⟨g5, 0, none⟩) n' c3)))
                    have he2 : subs[n']'hnl = ⟨#[]⟩ := ByteArray.ext (Array.eq_empty_of_size_eq_zero (by simpa [empS] using he))
                    have hcl := HCL5.out
                    rw [he2] at hcl
                    clear he he2
                    go_wp2
                    go_roundw
                    case rel => exact ⟨_, n', rfl, by omega, HTR2, HTO2, HTT2⟩
                    case measure => rw [HTL2.out, HTL.out]; have := HN'.out; omega


        · have eq : P2.take q = P2 := List.take_of_length_le (by omega)
          have HRM2 := hide (show repM m (P1[k]'hltk) = trimR empL (P2.map (compM m)) by rw [HRM.out])
          obtain ⟨cs2, hcs2⟩ : ∃ cs2, cs2 = P2.map (compM m) := ⟨_, rfl⟩
          rw [eq, ← hcs2] at HOR HGR
          rw [← hcs2] at HRM2
          have HQL8 := hide (HGR.out.ql HOR.out)
          obtain ⟨p8, c8, h1c8, hcap8⟩ : ∃ p8 c8, lr = .slice p8 cs2.length c8 ∧ (cs2.length ≤ c8 ∧ c8 ≤ maxLen) := by
            obtain ⟨p, c, e, h1, h2, _⟩ := HQL8.out
            exact ⟨p, c, e, h1, h2⟩
          subst h1c8
          have HSL := hide (show cs2.length ≤ 8001 by rw [hcs2, List.length_map]; exact HP2.out.1)
          have HCAP := hide hcap8
          have hcm8 := hcap8.2
          unfold maxLen at hcm8
          have HQ0 := HQL8
          have HGB := HRB
          have HTR0 := HRQ
          clear hcap8 eq hcs2 HGR HOR
          go_wp2_with fail
          go_loopw [] (fun wr => ∃ (U : World) (n : Nat), U = wr ∧ n ≤ cs2.length ∧ Hid (Row U R8 69 [.slice p8 n c8]) ∧ Hid (Only R8 Y U) ∧ Hid (trimR empL (cs2.take n) = trimR empL cs2)) (fun wr => lenAt wr R8)
          case atStart => exact ⟨_, _, rfl, Nat.le_refl _, HTR0, hide (Only.refl _ _), hide (by rw [List.take_length])⟩
          case round =>
            obtain ⟨U, n, rfl, hn, HTR, HTO, HTT⟩ := hrel
            have t0 : U.cell? ⟨R8, 0, none⟩ = some (.slice p8 n c8) := HTR.out.cell 0
            have HTL := hide (lenAt_of t0)
            have HQU := hide (Keeps.go (SameIn.ofOnly HTO.out (by have := HGB.out; omega)) HQ0.out)
            by_cases hn0 : n = 0
            · subst hn0
              have HLT := hide (show trimR empL cs2 = cs2.take 0 by rw [← HTT.out]; rfl)
              have HQF := hide (QL.take HQU.out (Nat.zero_le _))
              obtain ⟨F, hF⟩ : ∃ F, F = cs2.take 0 := ⟨_, rfl⟩
              have HFL5 := hide (show F.length = 0 by rw [hF]; rfl)
              rw [← hF] at HLT HQF
              clear hF
              have HBU := hide ((HONY.out.trans HTO.out).toBelow HXW2.out HXW2.out.size (Nat.le_of_eq HR8.out.symm))
              have HRU := hide (HRF.out.below HBU.out HRF.out.lt)
              have r0 : U.cell? ⟨(w.heap.size + 1), 0, none⟩ = some lf := HRU.out.cell 0
              have t1 : U.cell? ⟨R8, 0, none⟩ = some (.slice p8 0 c8) := HTR.out.cell 0
              have HUA := hide (show Below U.heap.size U (U.alloc (.cells #[.slice p8 0 c8] 69)) from (Below.refl _ _).alloc (Nat.le_refl _) _)
              have HOQ := hide (show X.ownsRow w1.heap.size 69 1 lf k vs by have h := HOF.out; rw [HLK.out] at h; exact h)
              have HOV := hide (own_below HOQ.out (HBU.out.trans (HUA.out.mono HBU.out.size)))
              have HSV := hide (show w1.heap.size ≤ (U.alloc (.cells #[.slice p8 0 c8] 69)).heap.size from Nat.le_trans HON.out.size (Nat.le_trans HBU.out.size HUA.out.size))
              have HOLT := hide HOF.out.lt
              have HBS := hide (show w1.heap.size ≤ X.heap.size from HON.out.size)
              have HA1 := hide (show X.heap.size ≤ w2.heap.size from HXW2.out.size)
              have HA2 := hide (show Y.heap.size ≤ U.heap.size from HTO.out.size)
              clear t0
              go_wp2_with (at_builtin; refine wpList_append_own_at (U.alloc (.cells #[.slice p8 0 c8] 69)) rfl (.tmp 119) (.tmp 121) 52 rfl w1.heap.size 69 k0 _ 1 24 Tryz.underlying52 hkk hx0 hx1 hx2 HZC.out (by omega) lf k vs rfl HOV.out ⟨U.heap.size, 0, none⟩ 1 _ [.slice p8 0 c8] rfl rfl (cell_one_new U _ _) (by simp [Value.oneCell']) (by unfold maxLen; have := HPK.out.1; omega) (by have := HPK.out.1; omega) HSV.out ?_
                           intro v' Z3 hown hgrow _ hat
                           obtain ⟨pv, cv, hv9⟩ := own_slice1 hown
                           subst hv9
                           obtain ⟨s1, s2, s3, s4⟩ := grow_step (G := (w.heap.size + 1)) (E := 54) (T := 69) (R := QRep) (y := F) HOF.out HGF.out HBU.out HBS.out HFB.out HA1.out HA2.out HQF.out HRU.out (by rw [HLK.out]; exact hown) hgrow hat
                           have HS1 := hide s1
                           have HS2 := hide s2
                           have HS3 := hide s3
                           have HON9 := hide (((((HON.out.below HBU.out).below HUA.out).grown hgrow (fun k hk => (HOLT.out k hk).1)).set (j := 0) (.slice pv (k + 1) cv)))
                           have r9 := s4.cell 0
                           have f9 := s4.free 0
                           clear s1 s2 s3 s4 hown hgrow hat)
              have HE9 := hide (show F = repM m (P1[k]'hltk) by rw [HRM2.out, HLT.out])
              have HM9 := hide (show (P1.take (k + 1)).map (repM m) = (P1.take k).map (repM m) ++ [F] by rw [HMK.out, HE9.out])
              rw [← HM9.out] at HS1 HS2
              clear r0 t1
              go_roundw
              case rel => exact ⟨_, k + 1, _, _, rfl, by omega, by go_num, HS3, HS1, HS2, HON9⟩
              case measure => simp [intOf]; omega
            · obtain ⟨n', hn'⟩ : ∃ n', n = n' + 1 := ⟨n - 1, by omega⟩
              have hnl : n' < cs2.length := by omega
              have hw1 : IntKind.i64.wrap ((n : Int) - 1) = (n' : Int) := by rw [show ((n : Int) - 1) = (n' : Int) by omega]; have := HSL.out; exact wrap_small _ (by omega) (by omega)
              have hn0' : (0 : Int) < (n : Int) := by omega
              have hn1' : (0 : Int) ≤ (n' : Int) := by omega
              have hn2' : (n' : Int) < (n : Int) := by omega
              have hn3' : (n' : Int) ≤ (c8 : Int) := by have := HCAP.out; omega
              have hfr := HTR.out.free 0
              obtain ⟨g5, hp5, HCL5⟩ : ∃ g5, p8 = some ⟨g5, 0, none⟩ ∧ Hid (∃ p5 c5, U.cell? ⟨g5, n', none⟩ = some (.slice p5 (cs2[n']'hnl).length c5)) := by
                obtain ⟨p', cap', e', _, _, h4'⟩ := HQU.out
                cases e'
                obtain ⟨g5, vs5, rest5, A5, B5, hp5, _, _, hr5, hl5, hE5⟩ := h4' (by omega)
                obtain ⟨_, _, _, h5⟩ := hE5 n' (by omega) hnl
                obtain ⟨p5, c5, hs5⟩ := h5.isSlice
                refine ⟨g5, hp5, hide ⟨p5, c5, ?_⟩⟩
                rw [hr5.cell, List.getElem?_append_left (by omega), List.getElem?_eq_getElem (by omega), hs5]
              subst hp5
              have HN' := hide hn'
              clear hn' hn0
              cases he : empL (cs2[n']'hnl)
              · have HLT := hide (show trimR empL cs2 = cs2.take n by rw [← HTT.out, HN'.out]; exact trimR_stop hnl he)
                have HQF := hide (QL.take HQU.out hn)
                have HFL5 := hide (show (cs2.take n).length = n by rw [List.length_take]; omega)
                obtain ⟨F, hF⟩ : ∃ F, F = cs2.take n := ⟨_, rfl⟩
                rw [← hF] at HLT HQF HFL5
                clear hF
                obtain ⟨p5, c5, hcl⟩ := HCL5.out
                have he4 : (((cs2[n']'hnl).length : Int) == 0) = false := by simpa [empL] using he
                generalize (cs2[n']'hnl).length = Y5 at hcl he4
                clear he
                have HBU := hide ((HONY.out.trans HTO.out).toBelow HXW2.out HXW2.out.size (Nat.le_of_eq HR8.out.symm))
                have HRU := hide (HRF.out.below HBU.out HRF.out.lt)
                have r0 : U.cell? ⟨(w.heap.size + 1), 0, none⟩ = some lf := HRU.out.cell 0
                have t1 : U.cell? ⟨R8, 0, none⟩ = some (.slice (some ⟨g5, 0, none⟩) n c8) := HTR.out.cell 0
                have HUA := hide (show Below U.heap.size U (U.alloc (.cells #[.slice (some ⟨g5, 0, none⟩) n c8] 69)) from (Below.refl _ _).alloc (Nat.le_refl _) _)
                have HOQ := hide (show X.ownsRow w1.heap.size 69 1 lf k vs by have h := HOF.out; rw [HLK.out] at h; exact h)
                have HOV := hide (own_below HOQ.out (HBU.out.trans (HUA.out.mono HBU.out.size)))
                have HSV := hide (show w1.heap.size ≤ (U.alloc (.cells #[.slice (some ⟨g5, 0, none⟩) n c8] 69)).heap.size from Nat.le_trans HON.out.size (Nat.le_trans HBU.out.size HUA.out.size))
                have HOLT := hide HOF.out.lt
                have HBS := hide (show w1.heap.size ≤ X.heap.size from HON.out.size)
                have HA1 := hide (show X.heap.size ≤ w2.heap.size from HXW2.out.size)
                have HA2 := hide (show Y.heap.size ≤ U.heap.size from HTO.out.size)
                clear t0
                go_wp2_with (at_builtin; refine wpList_append_own_at (U.alloc (.cells #[.slice (some ⟨g5, 0, none⟩) n c8] 69)) rfl (.tmp 119) (.tmp 121) 52 rfl w1.heap.size 69 k0 _ 1 24 Tryz.underlying52 hkk hx0 hx1 hx2 HZC.out (by omega) lf k vs rfl HOV.out ⟨U.heap.size, 0, none⟩ 1 _ [.slice (some ⟨g5, 0, none⟩) n c8] rfl rfl (cell_one_new U _ _) (by simp [Value.oneCell']) (by unfold maxLen; have := HPK.out.1; omega) (by have := HPK.out.1; omega) HSV.out ?_
                             intro v' Z3 hown hgrow _ hat
                             obtain ⟨pv, cv, hv9⟩ := own_slice1 hown
                             subst hv9
                             obtain ⟨s1, s2, s3, s4⟩ := grow_step (G := (w.heap.size + 1)) (E := 54) (T := 69) (R := QRep) (y := F) HOF.out HGF.out HBU.out HBS.out HFB.out HA1.out HA2.out HQF.out HRU.out (by rw [HLK.out]; exact hown) hgrow hat
                             have HS1 := hide s1
                             have HS2 := hide s2
                             have HS3 := hide s3
                             have HON9 := hide (((((HON.out.below HBU.out).below HUA.out).grown hgrow (fun k hk => (HOLT.out k hk).1)).set (j := 0) (.slice pv (k + 1) cv)))
                             have r9 := s4.cell 0
                             have f9 := s4.free 0
                             clear s1 s2 s3 s4 hown hgrow hat)
                have HE9 := hide (show F = repM m (P1[k]'hltk) by rw [HRM2.out, HLT.out])
                have HM9 := hide (show (P1.take (k + 1)).map (repM m) = (P1.take k).map (repM m) ++ [F] by rw [HMK.out, HE9.out])
                rw [← HM9.out] at HS1 HS2
                clear r0 t1
                go_roundw
                case rel => exact ⟨_, k + 1, _, _, rfl, by omega, by go_num, HS3, HS1, HS2, HON9⟩
                case measure => simp [intOf]; omega
              · have HTT2 := hide (show trimR empL (cs2.take n') = trimR empL cs2 by rw [← HTT.out, HN'.out, trimR_take hnl he])
                have HTR2 := hide (HTR.out.set (j := 0) (.slice (some ⟨g5, 0, none⟩) n' c8))
                have HTO2 := hide (HTO.out.set (j := 0) (.slice (some ⟨g5, 0, none⟩) n' c8))
                have HTL2 := hide (lenAt_of (HTR2.out.cell 0 : (U.setCell ⟨R8, 0, none⟩ (.slice (some ⟨g5, 0, none⟩) n' c8)).cell? ⟨R8, 0, none⟩ = some (.slice (some ⟨g5, 0, none⟩) n' c8)))
                obtain ⟨p5, c5, hcl⟩ := HCL5.out
                have he4 : (((cs2[n']'hnl).length : Int) == 0) = true := by simpa [empL] using he
                generalize (cs2[n']'hnl).length = Y5 at hcl he4
                clear he
                go_wp2
                go_roundw
                case rel => exact ⟨_, n', rfl, by omega, HTR2, HTO2, HTT2⟩
                case measure => rw [HTL2.out, HTL.out]; have := HN'.out; omega

    · have ek : P1.take k = P1 := List.take_of_length_le (by omega)
      have HFL2 := hide (show fldM m t.data.toList = trimR empL (P1.map (repM m)) from HFL.out)
      have HFB := hide (show w.heap.size + 1 < w1.heap.size by have h1 := HS6.out; have h2 := HWs.out; omega)
      obtain ⟨fs, hfs⟩ : ∃ fs, fs = P1.map (repM m) := ⟨_, rfl⟩
      rw [ek, ← hfs] at HOF HGF
      rw [← hfs] at HFL2
      have HQL5 := hide (HGF.out.ql HOF.out)
      obtain ⟨p5, c5, h1c5, hcap5⟩ : ∃ p5 c5, lf = .slice p5 fs.length c5 ∧ (fs.length ≤ c5 ∧ c5 ≤ maxLen) := by
        obtain ⟨p, c, e, h1, h2, _⟩ := HQL5.out
        exact ⟨p, c, e, h1, h2⟩
      subst h1c5
      have HSL := hide (show fs.length ≤ 8001 by rw [hfs, List.length_map]; exact HP1.out.1)
      have HCAP := hide hcap5
      have hcm5 := hcap5.2
      unfold maxLen at hcm5
      have HQ0 := HQL5
      have HGB := HFB
      have HTR0 := HRF
      clear hcap5 ek hfs HGF HOF HRF
      go_wp2_with fail
      go_loopw [] (fun wr => ∃ (U : World) (n : Nat), U = wr ∧ n ≤ fs.length ∧ Hid (Row U (w.heap.size + 1) 54 [.slice p5 n c5]) ∧ Hid (Only (w.heap.size + 1) X U) ∧ Hid (trimR empL (fs.take n) = trimR empL fs)) (fun wr => lenAt wr (w.heap.size + 1))
      case atStart => exact ⟨_, _, rfl, Nat.le_refl _, HTR0, hide (Only.refl _ _), hide (by rw [List.take_length])⟩
      case round =>
        obtain ⟨U, n, rfl, hn, HTR, HTO, HTT⟩ := hrel
        have t0 : U.cell? ⟨(w.heap.size + 1), 0, none⟩ = some (.slice p5 n c5) := HTR.out.cell 0
        have HTL := hide (lenAt_of t0)
        have HQU := hide (Keeps.go (SameIn.ofOnly HTO.out (by have := HGB.out; omega)) HQ0.out)
        by_cases hn0 : n = 0
        · subst hn0
          have HLT := hide (show trimR empL fs = fs.take 0 by rw [← HTT.out]; rfl)
          have HQF := hide (QL.take HQU.out (Nat.zero_le _))
          obtain ⟨F, hF⟩ : ∃ F, F = fs.take 0 := ⟨_, rfl⟩
          have HFL5 := hide (show F.length = 0 by rw [hF]; rfl)
          rw [← hF] at HLT HQF
          clear hF
          have HOU := hide (HON.out.trans HTO.out)
          have HRU := hide (HOU.out.row HRR1.out (by omega))
          have r0 : U.cell? ⟨w.heap.size, 0, none⟩ = some (.slice none 0 0) := HRU.out.cell 0
          have f0 := HRU.out.free 0
          have t1 : U.cell? ⟨w.heap.size + 1, 0, none⟩ = some (.slice p5 0 c5) := HTR.out.cell 0
          have HRE := hide (HRU.out.set (j := 0) (.slice p5 0 c5))
          have q0 : (U.setCell ⟨w.heap.size, 0, none⟩ (.slice p5 0 c5)).cell? ⟨w.heap.size, 0, none⟩ = some (.slice p5 0 c5) := HRE.out.cell 0
          have HBE := hide ((HOU.out.toBelow HB6.out HB6.out.size (Nat.le_succ _)).setCell (p := ⟨w.heap.size, 0, none⟩) (Nat.le_refl _) (.slice p5 0 c5))
          have es : (U.setCell ⟨w.heap.size, 0, none⟩ (.slice p5 0 c5)).heap.size = U.heap.size := by simp [World.setCell]
          have HF9 := hide (show F = fldM m t.data.toList by rw [HFL2.out, HLT.out])
          have HQE : Hid (QFld w.heap.size (U.setCell ⟨w.heap.size, 0, none⟩ (.slice p5 0 c5)).heap.size (U.setCell ⟨w.heap.size, 0, none⟩ (.slice p5 0 c5)) (.slice p5 F.length c5) F) := hide (by
            rw [es, HFL5.out]
            have h1 := HB6.out.size
            have h2 := HTO.out.size
            exact Keeps.wide (show w.heap.size ≤ w1.heap.size from h1) h2 (Keeps.go (SameIn.set U _ (by have := HFB.out; omega)) HQF.out))
          rw [HF9.out] at HQE HFL5
          clear es t0
          go_wp2
          exact bodyPost_ret (v := .agg #[.slice p5 0 c5]) (by simp [results, Tryz.results27, go_sem, q0]) rfl ⟨_, _, by rw [HFL5.out], HQE.out, HBE.out⟩
        · obtain ⟨n', hn'⟩ : ∃ n', n = n' + 1 := ⟨n - 1, by omega⟩
          have hnl : n' < fs.length := by omega
          have hw1 : IntKind.i64.wrap ((n : Int) - 1) = (n' : Int) := by rw [show ((n : Int) - 1) = (n' : Int) by omega]; have := HSL.out; exact wrap_small _ (by omega) (by omega)
          have hn0' : (0 : Int) < (n : Int) := by omega
          have hn1' : (0 : Int) ≤ (n' : Int) := by omega
          have hn2' : (n' : Int) < (n : Int) := by omega
          have hn3' : (n' : Int) ≤ (c5 : Int) := by have := HCAP.out; omega
          have hfr := HTR.out.free 0
          obtain ⟨g5, hp5, HCL5⟩ : ∃ g5, p5 = some ⟨g5, 0, none⟩ ∧ Hid (∃ p55 c55, U.cell? ⟨g5, n', none⟩ = some (.slice p55 (fs[n']'hnl).length c55)) := by
            obtain ⟨p', cap', e', _, _, h4'⟩ := HQU.out
            cases e'
            obtain ⟨g5, vs5, rest5, A5, B5, hp5, _, _, hr5, hl5, hE5⟩ := h4' (by omega)
            obtain ⟨_, _, _, h5⟩ := hE5 n' (by omega) hnl
            obtain ⟨p55, c55, hs5⟩ := h5.isSlice
            refine ⟨g5, hp5, hide ⟨p55, c55, ?_⟩⟩
            rw [hr5.cell, List.getElem?_append_left (by omega), List.getElem?_eq_getElem (by omega), hs5]
          subst hp5
          have HN' := hide hn'
          clear hn' hn0
          cases he : empL (fs[n']'hnl)
          · have HLT := hide (show trimR empL fs = fs.take n by rw [← HTT.out, HN'.out]; exact trimR_stop hnl he)
            have HQF := hide (QL.take HQU.out hn)
            have HFL5 := hide (show (fs.take n).length = n by rw [List.length_take]; omega)
            obtain ⟨F, hF⟩ : ∃ F, F = fs.take n := ⟨_, rfl⟩
            rw [← hF] at HLT HQF HFL5
            clear hF
            obtain ⟨p55, c55, hcl⟩ := HCL5.out
            have he4 : (((fs[n']'hnl).length : Int) == 0) = false := by simpa [empL] using he
            generalize (fs[n']'hnl).length = Y5 at hcl he4
            clear he
            have HOU := hide (HON.out.trans HTO.out)
            have HRU := hide (HOU.out.row HRR1.out (by omega))
            have r0 : U.cell? ⟨w.heap.size, 0, none⟩ = some (.slice none 0 0) := HRU.out.cell 0
            have f0 := HRU.out.free 0
            have t1 : U.cell? ⟨w.heap.size + 1, 0, none⟩ = some (.slice (some ⟨g5, 0, none⟩) n c5) := HTR.out.cell 0
            have HRE := hide (HRU.out.set (j := 0) (.slice (some ⟨g5, 0, none⟩) n c5))
            have q0 : (U.setCell ⟨w.heap.size, 0, none⟩ (.slice (some ⟨g5, 0, none⟩) n c5)).cell? ⟨w.heap.size, 0, none⟩ = some (.slice (some ⟨g5, 0, none⟩) n c5) := HRE.out.cell 0
            have HBE := hide ((HOU.out.toBelow HB6.out HB6.out.size (Nat.le_succ _)).setCell (p := ⟨w.heap.size, 0, none⟩) (Nat.le_refl _) (.slice (some ⟨g5, 0, none⟩) n c5))
            have es : (U.setCell ⟨w.heap.size, 0, none⟩ (.slice (some ⟨g5, 0, none⟩) n c5)).heap.size = U.heap.size := by simp [World.setCell]
            have HF9 := hide (show F = fldM m t.data.toList by rw [HFL2.out, HLT.out])
            have HQE : Hid (QFld w.heap.size (U.setCell ⟨w.heap.size, 0, none⟩ (.slice (some ⟨g5, 0, none⟩) n c5)).heap.size (U.setCell ⟨w.heap.size, 0, none⟩ (.slice (some ⟨g5, 0, none⟩) n c5)) (.slice (some ⟨g5, 0, none⟩) F.length c5) F) := hide (by
              rw [es, HFL5.out]
              have h1 := HB6.out.size
              have h2 := HTO.out.size
              exact Keeps.wide (show w.heap.size ≤ w1.heap.size from h1) h2 (Keeps.go (SameIn.set U _ (by have := HFB.out; omega)) HQF.out))
            rw [HF9.out] at HQE HFL5
            clear es t0
            go_wp2
            exact bodyPost_ret (v := .agg #[.slice (some ⟨g5, 0, none⟩) n c5]) (by simp [results, Tryz.results27, go_sem, q0]) rfl ⟨_, _, by rw [HFL5.out], HQE.out, HBE.out⟩
          · have HTT2 := hide (show trimR empL (fs.take n') = trimR empL fs by rw [← HTT.out, HN'.out, trimR_take hnl he])
            have HTR2 := hide (HTR.out.set (j := 0) (.slice (some ⟨g5, 0, none⟩) n' c5))
            have HTO2 := hide (HTO.out.set (j := 0) (.slice (some ⟨g5, 0, none⟩) n' c5))
            have HTL2 := hide (lenAt_of (HTR2.out.cell 0 : (U.setCell ⟨(w.heap.size + 1), 0, none⟩ (.slice (some ⟨g5, 0, none⟩) n' c5)).cell? ⟨(w.heap.size + 1), 0, none⟩ = some (.slice (some ⟨g5, 0, none⟩) n' c5)))
            obtain ⟨p55, c55, hcl⟩ := HCL5.out
            have he4 : (((fs[n']'hnl).length : Int) == 0) = true := by simpa [empL] using he
            generalize (fs[n']'hnl).length = Y5 at hcl he4
            clear he
            go_wp2
            go_roundw
            case rel => exact ⟨_, n', rfl, by omega, HTR2, HTO2, HTT2⟩
            case measure => rw [HTL2.out, HTL.out]; have := HN'.out; omega
end Go.Proofs.YtckcfjibiidafaaGreat
/- The model's l04Text and FieldText. -/
namespace Go.Proofs.YtckcfjibiidafaaGreat
open Go.RowKit

theorem wpList_bufS {P : Program} {ops : Array Oper} {rest : List Oper} {o : Oper} {a : Act} {w w0 : World} {Q : Exit → Act → World → Prop}
    (hg : o.guard = none) (s x : Operand) (t u : TypeId) (hop : o.op = Op.call { callee := Callee.builtin Builtin.append, args := #[s, x], argTypes := #[t, u] })
    (B : Nat) (e : TypeId) (ht : P.underlying t = some (.slice e)) (hu : P.underlying u = some .string) (hi : (P.info? e).map (fun i => (i.zero, i.size, i.bytes)) = some (some (.int .u8 0), 1, 1))
    (v : Value) (L : List UInt8) (hs : a.eval s = v) (hB : Buf e B w0 w v L) (S : ByteArray) (hx : a.eval x = .string S) (hlen : L.length + S.size ≤ 100000000)
    (hK : ∀ v' w', Buf e B w0 w' v' (L ++ S.data.toList) → wpList P ops Q rest (a.put o.dst v') w') : wpList P ops Q (o :: rest) a w := by
  obtain ⟨i0, hi0, hz0, hz1, hz2⟩ := info_parts hi
  refine Lib.wpList_append_own_string w hg s x t u hop B e i0 ht hu hi0 hz0 hz1 hz2 v L.length (u8s L) hs hB.own S hx (by unfold maxLen; omega) (by omega) hB.size ?_
  intro v' w' ho hgr _
  refine hK v' w' ⟨?_, hB.below.grown hgr hB.size (fun k hk => (hB.own.lt k hk).1), hB.le, hB.kept.grown hgr (own_kindB hB.own)⟩
  have e1 : u8s (L ++ S.data.toList) = u8s L ++ Lib.strCells S := by simp [u8s, Lib.strCells, u8v]
  rw [e1, List.length_append, bytes_len]
  exact ho
theorem fieldRow_kept {B : Nat} {w w' : World} {v : Value} {L : List UInt8} {g : Nat} {vs : List Value} (h : Buf 5 B w w' v L) (hr : Row w g 54 vs) : Row w' g 54 vs :=
  h.kept g _ hr (by simp) (fun _ _ e1 => by simp at e1)

set_option maxHeartbeats 8000000 in
set_option maxRecDepth 100000 in
theorem l04Text_any (m : ByteArray) (u : Value) (x : List (List (List ByteArray))) (w : World) (hm : m.size = 5) (hx : fldB x = true) (hr : RFld 0 w u x) :
    Calls Tryz.prog 29 #[.string m, .agg #[u]] w fun e w' => e = .returned (.string ⟨(fldT m x).toArray⟩) ∧ Below w.heap.size w w' := by
  have HLT := hideF (fldT_len (m := m) hx)
  obtain ⟨p, cap, rfl, h1, h2, h4⟩ := fld_under hr
  have H4 := hideF h4
  obtain ⟨hxe, hxl⟩ := right_mem hx
  have HXE := hideF hxe
  clear h4 hr hxe
  unfold maxLen at h2
  have hm2 : 2 < m.size := by omega
  have hm1 : 1 < m.size := by omega
  have hm4 : 4 < m.size := by omega
  have HM2 := hideF (bAt_get m 2 hm2)
  have HM1 := hideF (bAt_get m 1 hm1)
  have HM4 := hideF (bAt_get m 4 hm4)
  have HR0 := hideF (row_new w [.slice p x.length cap] 54)
  have HBE := hideF (bufEmpty 5 (w.alloc (.cells #[.slice p x.length cap] 54)))
  have HB0 : Hid (Buf 5 w.heap.size w ((w.alloc (.cells #[.slice p x.length cap] 54)).alloc (.cells #[] 5)) (.slice (some ⟨w.heap.size + 1, 0, none⟩) 0 0) []) := by
    have h := HBE.out
    refine ⟨?_, ((Below.refl _ _).alloc (Nat.le_refl _) _).alloc (by simp) _, Nat.le_refl _, ((Lib.OthersKept.refl _ _ _).alloc _).alloc _⟩
    have e : (w.alloc (.cells #[.slice p x.length cap] 54)).heap.size = w.heap.size + 1 := by simp
    have ho := h.own
    rw [e] at ho
    exact ⟨ho.1, ho.2.imp id fun ⟨g, c, cu, a1, a2, a3⟩ => ⟨g, c, cu, a1, Nat.le_trans (by omega) a2, a3⟩⟩
  have HR1 := hideF (HR0.out.alloc (.cells #[] 5))
  clear HBE HR0
  go_enter Tryz.func29, Tryz.ntmps29
  go_wp2
  go_loopw [5, 6] (fun v' i wr => ∃ (X : World) (k : Nat) (D : List UInt8), X = wr ∧ k ≤ x.length ∧ i = .int .i64 k ∧ Hid (Buf 5 w.heap.size w X v' D) ∧ Hid (Row X w.heap.size 54 [.slice p x.length cap]) ∧ Hid (Done (bAt m 2) (repT m) x k D)) (fun _ i _ => x.length - (intOf i).toNat)
  case atStart => exact ⟨_, 0, [], rfl, Nat.zero_le _, rfl, HB0, HR1, Done.zero _ _ _⟩
  case round =>
    obtain ⟨X, k, D, rfl, hk, rfl, HBf, HRw, HD⟩ := hrel
    have c0 : X.cell? ⟨w.heap.size, 0, none⟩ = some (.slice p x.length cap) := HRw.out.cell 0
    by_cases hlt : k < x.length
    · obtain ⟨g, off, hp, hg, hc⟩ := H4.out (by omega)
      subst hp
      obtain ⟨yu, hyu, hyr⟩ := hc k hlt
      obtain ⟨y, hy⟩ : ∃ y, y = x[k]'hlt := ⟨_, rfl⟩
      rw [← hy] at hyr
      have HYE := hideF (show ∀ i (hi : i < y.length), compB y[i] = true by rw [hy]; exact (right_mem (HXE.out k hlt)).1)
      have HLR := hideF (show (repT m y).length ≤ 9060 by rw [hy]; exact repT_len (HXE.out k hlt))
      have hy10 : y.length ≤ 10 := by rw [hy]; exact (right_mem (HXE.out k hlt)).2
      obtain ⟨yp, yc, rfl, hy1, hy2, hy4⟩ := hyr
      have HY4 := hideF hy4
      have HUK := hideF hyu
      have hcx : X.cell? ⟨g, off + k, none⟩ = some (.slice yp y.length yc) := by rw [HBf.out.below.cell (p := ⟨g, off + k, none⟩) hg]; exact hyu
      have HRM := hideF (HD.out.room hlt)
      have HLA := hideF (show D.length ≤ 46000 by have h1 := HRM.out; have h2 := HLT.out; have h4 : (fldT m x) = jnF (bAt m 2) (repT m) 0 x := rfl; rw [h4] at h2; omega)
      unfold maxLen at hy2
      clear hy4 hyu hc
      by_cases h0 : k = 0
      · have hneg : ¬ (0 : Int) < (k : Int) := by omega
        have HNX := hideF (HD.out.first' h0 hlt)
        clear h0
        rw [← hy] at HNX
        obtain ⟨A1, hA1⟩ : ∃ A1, A1 = D := ⟨_, rfl⟩
        have HN1 : Hid (∃ G, A1 ++ repT m y = G ∧ Done (bAt m 2) (repT m) x (k + 1) G) := ⟨D ++ repT m y, by rw [hA1], HNX.out⟩
        have HB1 : Hid (Buf 5 w.heap.size w X u5 A1) := by rw [hA1]; exact HBf
        have HLA1 : Hid (A1.length ≤ 47000) := by rw [hA1]; exact (by have := HLA.out; omega : D.length ≤ 47000)
        have HR1' := hideF HRw.out
        clear hA1 HNX hy
        go_wp2_with fail
        go_loopw [5, 7] (fun v' i wr => ∃ (Y : World) (l : Nat) (E : List UInt8), Y = wr ∧ l ≤ y.length ∧ i = .int .i64 l ∧ Hid (Buf 5 w.heap.size w Y v' (A1 ++ E)) ∧ Hid (Row Y w.heap.size 54 [.slice (some ⟨g, off, none⟩) x.length cap]) ∧ Hid (Done (bAt m 1) (compT m) y l E)) (fun _ i _ => y.length - (intOf i).toNat)
        case atStart => exact ⟨_, 0, [], rfl, Nat.zero_le _, rfl, by rw [List.append_nil]; exact HB1, HR1', Done.zero _ _ _⟩
        case round =>
          obtain ⟨Y, l, E, rfl, hl, rfl, HBy, HRy, HDy⟩ := hrel
          have c0 : Y.cell? ⟨w.heap.size, 0, none⟩ = some (.slice (some ⟨g, off, none⟩) x.length cap) := HRy.out.cell 0
          have hcy : Y.cell? ⟨g, off + k, none⟩ = some (.slice yp y.length yc) := by rw [HBy.out.below.cell (p := ⟨g, off + k, none⟩) hg]; exact HUK.out
          by_cases hlt2 : l < y.length
          · obtain ⟨g2, off2, hp2, hg2, hc2⟩ := HY4.out (by omega)
            subst hp2
            obtain ⟨zu, hzu, hzr⟩ := hc2 l hlt2
            obtain ⟨z, hz⟩ : ∃ z, z = y[l]'hlt2 := ⟨_, rfl⟩
            rw [← hz] at hzr
            have HZE := hideF (show ∀ i (hi : i < z.length), subB z[i] = true by rw [hz]; exact (right_mem (HYE.out l hlt2)).1)
            have HLC := hideF (show (compT m z).length ≤ 905 by rw [hz]; exact compT_len (HYE.out l hlt2))
            have hz5 : z.length ≤ 5 := by rw [hz]; exact (right_mem (HYE.out l hlt2)).2
            obtain ⟨zp, zc, rfl, hz1, hz2, hz4⟩ := hzr
            have HZ := hideF hz4
            have HZU := hideF hzu
            have hck2 : Y.cell? ⟨g2, off2 + l, none⟩ = some (.slice zp z.length zc) := by rw [HBy.out.below.cell (p := ⟨g2, off2 + l, none⟩) hg2]; exact hzu
            have HRMy := hideF (HDy.out.room hlt2)
            have HLA := hideF (show (A1 ++ E).length ≤ 58000 by have h1 := HRMy.out; have h2 := HLR.out; have h3 := HLA1.out; have h4 : (repT m y) = jnF (bAt m 1) (compT m) 0 y := rfl; rw [h4] at h2; rw [List.length_append]; omega)
            unfold maxLen at hz2
            clear hz4 hzu hc2
            by_cases h0 : l = 0
            · have hneg2 : ¬ (0 : Int) < (l : Int) := by omega
              have HNX := hideF (HDy.out.first' h0 hlt2)
              clear h0
              rw [← hz] at HNX
              obtain ⟨A2, hA2⟩ : ∃ A2, A2 = A1 ++ E := ⟨_, rfl⟩
              have HN2 : Hid (∃ G, A2 ++ compT m z = A1 ++ G ∧ Done (bAt m 1) (compT m) y (l + 1) G) := ⟨E ++ compT m z, by rw [hA2]; simp, HNX.out⟩
              have HB2 : Hid (Buf 5 w.heap.size w Y u5 A2) := by rw [hA2]; exact HBy
              have HLA2 : Hid (A2.length ≤ 59000) := by rw [hA2]; exact (by have := HLA.out; omega : (A1 ++ E).length ≤ 59000)
              have HR2 := hideF HRy.out
              clear hA2 HNX hz
              go_wp2_with fail
              go_loopw [5, 9] (fun v' i wr => ∃ (Z : World) (t : Nat) (F : List UInt8), Z = wr ∧ t ≤ z.length ∧ i = .int .i64 t ∧ Hid (Buf 5 w.heap.size w Z v' (A2 ++ F)) ∧ Hid (Row Z w.heap.size 54 [.slice (some ⟨g, off, none⟩) x.length cap]) ∧ Hid (Done (bAt m 4) (subT m) z t F)) (fun _ i _ => z.length - (intOf i).toNat)
              case atStart => exact ⟨_, 0, [], rfl, Nat.zero_le _, rfl, by rw [List.append_nil]; exact HB2, HR2, Done.zero _ _ _⟩
              case round =>
                obtain ⟨Z, t, F, rfl, ht, rfl, HB3, HR3, HD3⟩ := hrel
                by_cases hlt3 : t < z.length
                · obtain ⟨g3, off3, hp3, hg3, hc3⟩ := HZ.out (by omega)
                  subst hp3
                  obtain ⟨sv, hsv, rfl, _⟩ := hc3 t hlt3
                  have hck3 : Z.cell? ⟨g3, off3 + t, none⟩ = some (.string (z[t]'hlt3)) := by rw [HB3.out.below.cell (p := ⟨g3, off3 + t, none⟩) hg3]; exact hsv
                  have HOK3 := hideF (HZE.out t hlt3)
                  have HRM3 := hideF (HD3.out.room hlt3)
                  have HLA3 := hideF (show (A2 ++ F).length ≤ 60000 by have h1 := HRM3.out; have h2 := HLC.out; have h3 := HLA2.out; have h4 : (compT m z) = jnF (bAt m 4) (subT m) 0 z := rfl; rw [h4] at h2; rw [List.length_append]; omega)
                  clear hsv hc3
                  by_cases h0 : t = 0
                  · have hneg3 : ¬ (0 : Int) < (t : Int) := by omega
                    have HNX := hideF (HD3.out.first' h0 hlt3)
                    clear h0
                    have HBA := hideF HB3.out
                    have HRA := hideF HR3.out
                    obtain ⟨A3, hA3⟩ : ∃ A3, A3 = A2 ++ F := ⟨_, rfl⟩
                    have HNY : Hid (∃ G, A3 ++ subT m (z[t]'hlt3) = A2 ++ G ∧ Done (bAt m 4) (subT m) z (t + 1) G) := ⟨F ++ subT m (z[t]'hlt3), by rw [hA3]; simp, HNX.out⟩
                    rw [← hA3] at HBA HLA3
                    clear hA3 HNX
                    go_wp2_with fail
                    refine (l04Escape_any m (z[t]'hlt3) _ hm (by have := (subB_plain HOK3.out).2; omega)).mono ?_
                    rintro e w7 ⟨rfl, hb7⟩
                    have HB7 := hideF (HBA.out.onBelow hb7)
                    have HR7 := hideF (HRA.out.below hb7 HRA.out.lt)
                    have HBs7 := hideF (Buf.start HB7.out.own HB7.out.size)
                    have hSz : (⟨(escL m (z[t]'hlt3).data.toList).toArray⟩ : ByteArray).size = (subT m (z[t]'hlt3)).length := by simp [ByteArray.size, subT]
                    have HL7 := hideF (show A3.length + (⟨(escL m (z[t]'hlt3).data.toList).toArray⟩ : ByteArray).size ≤ 100000000 by have h1 := subT_len (m := m) HOK3.out; have h2 := HLA3.out; rw [hSz]; omega)
                    clear hb7 hSz
                    go_wp2_with (at_builtin; refine wpList_bufS (w0 := w7) rfl (.tmp 66) (.tmp 72) 74 9 rfl w.heap.size 5 Tryz.underlying74 Tryz.underlying9 Tryz.infoByte _ A3 rfl HBs7.out _ rfl HL7.out ?_)
                    intro v8 w8 hb8
                    have HB8 := hideF (HB7.out.trans hb8)
                    have HR8 := hideF (fieldRow_kept hb8 HR7.out)
                    clear hb8
                    obtain ⟨G', hg1, hg2⟩ := HNY.out
                    have HG1 := hideF hg1
                    have HG2 := hideF hg2
                    clear hg1 hg2
                    go_wp2
                    go_roundw
                    case rel => exact ⟨_, t + 1, G', rfl, by omega, by go_num, by rw [← HG1.out]; exact HB8, HR8, HG2⟩
                    case measure => simp [intOf]; omega
                  · have hpos : (0 : Int) < (t : Int) := by omega
                    have hk0 : 0 < t := by omega
                    have HNX := hideF (HD3.out.next hk0 hlt3)
                    have HBs := hideF (HB3.out.alloc (.cells #[.int .u8 ((m[4]'hm4).toNat : Int)] 5))
                    have HBt := hideF ((Buf.start HB3.out.own HB3.out.size).alloc (.cells #[.int .u8 ((m[4]'hm4).toNat : Int)] 5))
                    have HC := hideF (heap_alloc_new Z (.cells #[.int .u8 ((m[4]'hm4).toNat : Int)] 5))
                    have HL3 := hideF (show (A2 ++ F).length + [m[4]'hm4].length ≤ 100000000 by have h1 := HLA3.out; simp only [List.length_cons, List.length_nil]; omega)
                    go_wp2_with (at_builtin; refine wpList_buf (w0 := Z) rfl (.tmp 61) (.tmp 64) 74 rfl w.heap.size 5 Tryz.underlying74 Tryz.infoByte _ (A2 ++ F) rfl HBt.out Z.heap.size 1 [m[4]'hm4] rfl rfl ⟨_, HC.out⟩ HL3.out ?_)
                    clear HBs HBt HC HL3
                    intro v6 w6 hb6
                    have HBA := hideF (HB3.out.trans hb6)
                    have HRA := hideF (fieldRow_kept hb6 HR3.out)
                    have hck6 : w6.cell? ⟨g3, off3 + t, none⟩ = some (.string (z[t]'hlt3)) := by rw [hb6.below.cell (p := ⟨g3, off3 + t, none⟩) hg3]; exact hck3
                    clear hb6 hck3
                    obtain ⟨A3, hA3⟩ : ∃ A3, A3 = A2 ++ F ++ [m[4]'hm4] := ⟨_, rfl⟩
                    have HNY : Hid (∃ G, A3 ++ subT m (z[t]'hlt3) = A2 ++ G ∧ Done (bAt m 4) (subT m) z (t + 1) G) := ⟨F ++ [bAt m 4] ++ subT m (z[t]'hlt3), by rw [hA3, HM4.out]; simp, HNX.out⟩
                    have HLA4 := hideF (show A3.length ≤ 60001 by have := HLA3.out; rw [hA3, List.length_append]; simp only [List.length_cons, List.length_nil]; omega)
                    have HBA' : Hid (Buf 5 w.heap.size w w6 v6 A3) := by rw [hA3]; first | exact HBA | simpa only [List.append_assoc] using HBA
                    clear hA3 HNX HBA
                    go_wp2_with fail
                    refine (l04Escape_any m (z[t]'hlt3) _ hm (by have := (subB_plain HOK3.out).2; omega)).mono ?_
                    rintro e w7 ⟨rfl, hb7⟩
                    have HB7 := hideF (HBA'.out.onBelow hb7)
                    have HR7 := hideF (HRA.out.below hb7 HRA.out.lt)
                    have HBs7 := hideF (Buf.start HB7.out.own HB7.out.size)
                    have hSz : (⟨(escL m (z[t]'hlt3).data.toList).toArray⟩ : ByteArray).size = (subT m (z[t]'hlt3)).length := by simp [ByteArray.size, subT]
                    have HL7 := hideF (show A3.length + (⟨(escL m (z[t]'hlt3).data.toList).toArray⟩ : ByteArray).size ≤ 100000000 by have h1 := subT_len (m := m) HOK3.out; have h2 := HLA4.out; rw [hSz]; omega)
                    clear hb7 hSz
                    go_wp2_with (at_builtin; refine wpList_bufS (w0 := w7) rfl (.tmp 66) (.tmp 72) 74 9 rfl w.heap.size 5 Tryz.underlying74 Tryz.underlying9 Tryz.infoByte _ A3 rfl HBs7.out _ rfl HL7.out ?_)
                    intro v8 w8 hb8
                    have HB8 := hideF (HB7.out.trans hb8)
                    have HR8 := hideF (fieldRow_kept hb8 HR7.out)
                    clear hb8
                    obtain ⟨G', hg1, hg2⟩ := HNY.out
                    have HG1 := hideF hg1
                    have HG2 := hideF hg2
                    clear hg1 hg2
                    go_wp2
                    go_roundw
                    case rel => exact ⟨_, t + 1, G', rfl, by omega, by go_num, by rw [← HG1.out]; exact HB8, HR8, HG2⟩
                    case measure => simp [intOf]; omega
                · have HAL := hideF (HD3.out.all (by omega))
                  have HB3' : Hid (Buf 5 w.heap.size w Z u5 (A2 ++ compT m z)) := by rw [HAL.out] at HB3; exact HB3
                  obtain ⟨E', he1, he2⟩ := HN2.out
                  have HEQ := hideF he1
                  have HED := hideF he2
                  clear he1 he2
                  go_wp2
                  go_roundw
                  case rel => exact ⟨_, l + 1, E', rfl, by omega, by go_num, by rw [← HEQ.out]; exact HB3', HR3, HED⟩
                  case measure => simp [intOf]; omega
            · have hpos : (0 : Int) < (l : Int) := by omega
              have hk0 : 0 < l := by omega
              have HNX := hideF (HDy.out.next hk0 hlt2)
              rw [← hz] at HNX
              have HBs := hideF (HBy.out.alloc (.cells #[.int .u8 ((m[1]'hm1).toNat : Int)] 5))
              have HBt := hideF ((Buf.start HBy.out.own HBy.out.size).alloc (.cells #[.int .u8 ((m[1]'hm1).toNat : Int)] 5))
              have HC := hideF (heap_alloc_new Y (.cells #[.int .u8 ((m[1]'hm1).toNat : Int)] 5))
              have HL3 := hideF (show (A1 ++ E).length + [m[1]'hm1].length ≤ 100000000 by have h1 := HLA.out; simp only [List.length_cons, List.length_nil]; omega)
              go_wp2_with (at_builtin; refine wpList_buf (w0 := Y) rfl (.tmp 38) (.tmp 41) 74 rfl w.heap.size 5 Tryz.underlying74 Tryz.infoByte _ (A1 ++ E) rfl HBt.out Y.heap.size 1 [m[1]'hm1] rfl rfl ⟨_, HC.out⟩ HL3.out ?_)
              clear HBs HBt HC HL3
              intro v5 w5 hb5
              have HBA := hideF (HBy.out.trans hb5)
              have HR2 := hideF (fieldRow_kept hb5 HRy.out)
              have c5 : w5.cell? ⟨w.heap.size, 0, none⟩ = some (.slice (some ⟨g, off, none⟩) x.length cap) := HR2.out.cell 0
              have hcy5 : w5.cell? ⟨g, off + k, none⟩ = some (.slice (some ⟨g2, off2, none⟩) y.length yc) := by rw [HBA.out.below.cell (p := ⟨g, off + k, none⟩) hg]; exact HUK.out
              have hck5 : w5.cell? ⟨g2, off2 + l, none⟩ = some (.slice zp z.length zc) := by rw [HBA.out.below.cell (p := ⟨g2, off2 + l, none⟩) hg2]; exact HZU.out
              clear hb5 c0 hcy hck2
              obtain ⟨A2, hA2⟩ : ∃ A2, A2 = A1 ++ E ++ [m[1]'hm1] := ⟨_, rfl⟩
              have HN2 : Hid (∃ G, A2 ++ compT m z = A1 ++ G ∧ Done (bAt m 1) (compT m) y (l + 1) G) := ⟨E ++ [bAt m 1] ++ compT m z, by rw [hA2, HM1.out]; simp, HNX.out⟩
              have HB2 : Hid (Buf 5 w.heap.size w w5 v5 A2) := by rw [hA2]; first | exact HBA | simpa only [List.append_assoc] using HBA
              have HLA2 : Hid (A2.length ≤ 59000) := by rw [hA2]; exact (by have := HLA.out; rw [List.length_append]; simp only [List.length_cons, List.length_nil]; omega : (A1 ++ E ++ [m[1]'hm1]).length ≤ 59000)
              clear hA2 HNX hz HBA
              go_wp2_with fail
              go_loopw [5, 9] (fun v' i wr => ∃ (Z : World) (t : Nat) (F : List UInt8), Z = wr ∧ t ≤ z.length ∧ i = .int .i64 t ∧ Hid (Buf 5 w.heap.size w Z v' (A2 ++ F)) ∧ Hid (Row Z w.heap.size 54 [.slice (some ⟨g, off, none⟩) x.length cap]) ∧ Hid (Done (bAt m 4) (subT m) z t F)) (fun _ i _ => z.length - (intOf i).toNat)
              case atStart => exact ⟨_, 0, [], rfl, Nat.zero_le _, rfl, by rw [List.append_nil]; exact HB2, HR2, Done.zero _ _ _⟩
              case round =>
                obtain ⟨Z, t, F, rfl, ht, rfl, HB3, HR3, HD3⟩ := hrel
                by_cases hlt3 : t < z.length
                · obtain ⟨g3, off3, hp3, hg3, hc3⟩ := HZ.out (by omega)
                  subst hp3
                  obtain ⟨sv, hsv, rfl, _⟩ := hc3 t hlt3
                  have hck3 : Z.cell? ⟨g3, off3 + t, none⟩ = some (.string (z[t]'hlt3)) := by rw [HB3.out.below.cell (p := ⟨g3, off3 + t, none⟩) hg3]; exact hsv
                  have HOK3 := hideF (HZE.out t hlt3)
                  have HRM3 := hideF (HD3.out.room hlt3)
                  have HLA3 := hideF (show (A2 ++ F).length ≤ 60000 by have h1 := HRM3.out; have h2 := HLC.out; have h3 := HLA2.out; have h4 : (compT m z) = jnF (bAt m 4) (subT m) 0 z := rfl; rw [h4] at h2; rw [List.length_append]; omega)
                  clear hsv hc3
                  by_cases h0 : t = 0
                  · have hneg3 : ¬ (0 : Int) < (t : Int) := by omega
                    have HNX := hideF (HD3.out.first' h0 hlt3)
                    clear h0
                    have HBA := hideF HB3.out
                    have HRA := hideF HR3.out
                    obtain ⟨A3, hA3⟩ : ∃ A3, A3 = A2 ++ F := ⟨_, rfl⟩
                    have HNY : Hid (∃ G, A3 ++ subT m (z[t]'hlt3) = A2 ++ G ∧ Done (bAt m 4) (subT m) z (t + 1) G) := ⟨F ++ subT m (z[t]'hlt3), by rw [hA3]; simp, HNX.out⟩
                    rw [← hA3] at HBA HLA3
                    clear hA3 HNX
                    go_wp2_with fail
                    refine (l04Escape_any m (z[t]'hlt3) _ hm (by have := (subB_plain HOK3.out).2; omega)).mono ?_
                    rintro e w7 ⟨rfl, hb7⟩
                    have HB7 := hideF (HBA.out.onBelow hb7)
                    have HR7 := hideF (HRA.out.below hb7 HRA.out.lt)
                    have HBs7 := hideF (Buf.start HB7.out.own HB7.out.size)
                    have hSz : (⟨(escL m (z[t]'hlt3).data.toList).toArray⟩ : ByteArray).size = (subT m (z[t]'hlt3)).length := by simp [ByteArray.size, subT]
                    have HL7 := hideF (show A3.length + (⟨(escL m (z[t]'hlt3).data.toList).toArray⟩ : ByteArray).size ≤ 100000000 by have h1 := subT_len (m := m) HOK3.out; have h2 := HLA3.out; rw [hSz]; omega)
                    clear hb7 hSz
                    go_wp2_with (at_builtin; refine wpList_bufS (w0 := w7) rfl (.tmp 66) (.tmp 72) 74 9 rfl w.heap.size 5 Tryz.underlying74 Tryz.underlying9 Tryz.infoByte _ A3 rfl HBs7.out _ rfl HL7.out ?_)
                    intro v8 w8 hb8
                    have HB8 := hideF (HB7.out.trans hb8)
                    have HR8 := hideF (fieldRow_kept hb8 HR7.out)
                    clear hb8
                    obtain ⟨G', hg1, hg2⟩ := HNY.out
                    have HG1 := hideF hg1
                    have HG2 := hideF hg2
                    clear hg1 hg2
                    go_wp2
                    go_roundw
                    case rel => exact ⟨_, t + 1, G', rfl, by omega, by go_num, by rw [← HG1.out]; exact HB8, HR8, HG2⟩
                    case measure => simp [intOf]; omega
                  · have hpos : (0 : Int) < (t : Int) := by omega
                    have hk0 : 0 < t := by omega
                    have HNX := hideF (HD3.out.next hk0 hlt3)
                    have HBs := hideF (HB3.out.alloc (.cells #[.int .u8 ((m[4]'hm4).toNat : Int)] 5))
                    have HBt := hideF ((Buf.start HB3.out.own HB3.out.size).alloc (.cells #[.int .u8 ((m[4]'hm4).toNat : Int)] 5))
                    have HC := hideF (heap_alloc_new Z (.cells #[.int .u8 ((m[4]'hm4).toNat : Int)] 5))
                    have HL3 := hideF (show (A2 ++ F).length + [m[4]'hm4].length ≤ 100000000 by have h1 := HLA3.out; simp only [List.length_cons, List.length_nil]; omega)
                    go_wp2_with (at_builtin; refine wpList_buf (w0 := Z) rfl (.tmp 61) (.tmp 64) 74 rfl w.heap.size 5 Tryz.underlying74 Tryz.infoByte _ (A2 ++ F) rfl HBt.out Z.heap.size 1 [m[4]'hm4] rfl rfl ⟨_, HC.out⟩ HL3.out ?_)
                    clear HBs HBt HC HL3
                    intro v6 w6 hb6
                    have HBA := hideF (HB3.out.trans hb6)
                    have HRA := hideF (fieldRow_kept hb6 HR3.out)
                    have hck6 : w6.cell? ⟨g3, off3 + t, none⟩ = some (.string (z[t]'hlt3)) := by rw [hb6.below.cell (p := ⟨g3, off3 + t, none⟩) hg3]; exact hck3
                    clear hb6 hck3
                    obtain ⟨A3, hA3⟩ : ∃ A3, A3 = A2 ++ F ++ [m[4]'hm4] := ⟨_, rfl⟩
                    have HNY : Hid (∃ G, A3 ++ subT m (z[t]'hlt3) = A2 ++ G ∧ Done (bAt m 4) (subT m) z (t + 1) G) := ⟨F ++ [bAt m 4] ++ subT m (z[t]'hlt3), by rw [hA3, HM4.out]; simp, HNX.out⟩
                    have HLA4 := hideF (show A3.length ≤ 60001 by have := HLA3.out; rw [hA3, List.length_append]; simp only [List.length_cons, List.length_nil]; omega)
                    have HBA' : Hid (Buf 5 w.heap.size w w6 v6 A3) := by rw [hA3]; first | exact HBA | simpa only [List.append_assoc] using HBA
                    clear hA3 HNX HBA
                    go_wp2_with fail
                    refine (l04Escape_any m (z[t]'hlt3) _ hm (by have := (subB_plain HOK3.out).2; omega)).mono ?_
                    rintro e w7 ⟨rfl, hb7⟩
                    have HB7 := hideF (HBA'.out.onBelow hb7)
                    have HR7 := hideF (HRA.out.below hb7 HRA.out.lt)
                    have HBs7 := hideF (Buf.start HB7.out.own HB7.out.size)
                    have hSz : (⟨(escL m (z[t]'hlt3).data.toList).toArray⟩ : ByteArray).size = (subT m (z[t]'hlt3)).length := by simp [ByteArray.size, subT]
                    have HL7 := hideF (show A3.length + (⟨(escL m (z[t]'hlt3).data.toList).toArray⟩ : ByteArray).size ≤ 100000000 by have h1 := subT_len (m := m) HOK3.out; have h2 := HLA4.out; rw [hSz]; omega)
                    clear hb7 hSz
                    go_wp2_with (at_builtin; refine wpList_bufS (w0 := w7) rfl (.tmp 66) (.tmp 72) 74 9 rfl w.heap.size 5 Tryz.underlying74 Tryz.underlying9 Tryz.infoByte _ A3 rfl HBs7.out _ rfl HL7.out ?_)
                    intro v8 w8 hb8
                    have HB8 := hideF (HB7.out.trans hb8)
                    have HR8 := hideF (fieldRow_kept hb8 HR7.out)
                    clear hb8
                    obtain ⟨G', hg1, hg2⟩ := HNY.out
                    have HG1 := hideF hg1
                    have HG2 := hideF hg2
                    clear hg1 hg2
                    go_wp2
                    go_roundw
                    case rel => exact ⟨_, t + 1, G', rfl, by omega, by go_num, by rw [← HG1.out]; exact HB8, HR8, HG2⟩
                    case measure => simp [intOf]; omega
                · have HAL := hideF (HD3.out.all (by omega))
                  have HB3' : Hid (Buf 5 w.heap.size w Z u5 (A2 ++ compT m z)) := by rw [HAL.out] at HB3; exact HB3
                  obtain ⟨E', he1, he2⟩ := HN2.out
                  have HEQ := hideF he1
                  have HED := hideF he2
                  clear he1 he2
                  go_wp2
                  go_roundw
                  case rel => exact ⟨_, l + 1, E', rfl, by omega, by go_num, by rw [← HEQ.out]; exact HB3', HR3, HED⟩
                  case measure => simp [intOf]; omega
          · have HAL := hideF (HDy.out.all (by omega))
            have HBy' : Hid (Buf 5 w.heap.size w Y u5 (A1 ++ repT m y)) := by rw [HAL.out] at HBy; exact HBy
            obtain ⟨D', he1, he2⟩ := HN1.out
            have HEQ := hideF he1
            have HED := hideF he2
            clear he1 he2
            go_wp2
            go_roundw
            case rel => exact ⟨_, k + 1, D', rfl, by omega, by go_num, by rw [← HEQ.out]; exact HBy', HRy, HED⟩
            case measure => simp [intOf]; omega
      · have hpos : (0 : Int) < (k : Int) := by omega
        have hk0 : 0 < k := by omega
        have HNX := hideF (HD.out.next hk0 hlt)
        rw [← hy] at HNX
        have HBs := hideF (HBf.out.alloc (.cells #[.int .u8 ((m[2]'hm2).toNat : Int)] 5))
        have HBt := hideF ((Buf.start HBf.out.own HBf.out.size).alloc (.cells #[.int .u8 ((m[2]'hm2).toNat : Int)] 5))
        have HC := hideF (heap_alloc_new X (.cells #[.int .u8 ((m[2]'hm2).toNat : Int)] 5))
        have HL3 := hideF (show (D).length + [m[2]'hm2].length ≤ 100000000 by have h1 := HLA.out; simp only [List.length_cons, List.length_nil]; omega)
        go_wp2_with (at_builtin; refine wpList_buf (w0 := X) rfl (.tmp 20) (.tmp 23) 74 rfl w.heap.size 5 Tryz.underlying74 Tryz.infoByte _ (D) rfl HBt.out X.heap.size 1 [m[2]'hm2] rfl rfl ⟨_, HC.out⟩ HL3.out ?_)
        clear HBs HBt HC HL3
        intro v4 w4 hb4
        have HBA := hideF (HBf.out.trans hb4)
        have HR1' := hideF (fieldRow_kept hb4 HRw.out)
        clear hb4 c0 hcx
        obtain ⟨A1, hA1⟩ : ∃ A1, A1 = D ++ [m[2]'hm2] := ⟨_, rfl⟩
        have HN1 : Hid (∃ G, A1 ++ repT m y = G ∧ Done (bAt m 2) (repT m) x (k + 1) G) := ⟨D ++ [bAt m 2] ++ repT m y, by rw [hA1, HM2.out], HNX.out⟩
        have HB1 : Hid (Buf 5 w.heap.size w w4 v4 A1) := by rw [hA1]; exact HBA
        have HLA1 : Hid (A1.length ≤ 47000) := by rw [hA1]; exact (by have := HLA.out; rw [List.length_append]; simp only [List.length_cons, List.length_nil]; omega : (D ++ [m[2]'hm2]).length ≤ 47000)
        clear hA1 HNX hy HBA
        go_wp2_with fail
        go_loopw [5, 7] (fun v' i wr => ∃ (Y : World) (l : Nat) (E : List UInt8), Y = wr ∧ l ≤ y.length ∧ i = .int .i64 l ∧ Hid (Buf 5 w.heap.size w Y v' (A1 ++ E)) ∧ Hid (Row Y w.heap.size 54 [.slice (some ⟨g, off, none⟩) x.length cap]) ∧ Hid (Done (bAt m 1) (compT m) y l E)) (fun _ i _ => y.length - (intOf i).toNat)
        case atStart => exact ⟨_, 0, [], rfl, Nat.zero_le _, rfl, by rw [List.append_nil]; exact HB1, HR1', Done.zero _ _ _⟩
        case round =>
          obtain ⟨Y, l, E, rfl, hl, rfl, HBy, HRy, HDy⟩ := hrel
          have c0 : Y.cell? ⟨w.heap.size, 0, none⟩ = some (.slice (some ⟨g, off, none⟩) x.length cap) := HRy.out.cell 0
          have hcy : Y.cell? ⟨g, off + k, none⟩ = some (.slice yp y.length yc) := by rw [HBy.out.below.cell (p := ⟨g, off + k, none⟩) hg]; exact HUK.out
          by_cases hlt2 : l < y.length
          · obtain ⟨g2, off2, hp2, hg2, hc2⟩ := HY4.out (by omega)
            subst hp2
            obtain ⟨zu, hzu, hzr⟩ := hc2 l hlt2
            obtain ⟨z, hz⟩ : ∃ z, z = y[l]'hlt2 := ⟨_, rfl⟩
            rw [← hz] at hzr
            have HZE := hideF (show ∀ i (hi : i < z.length), subB z[i] = true by rw [hz]; exact (right_mem (HYE.out l hlt2)).1)
            have HLC := hideF (show (compT m z).length ≤ 905 by rw [hz]; exact compT_len (HYE.out l hlt2))
            have hz5 : z.length ≤ 5 := by rw [hz]; exact (right_mem (HYE.out l hlt2)).2
            obtain ⟨zp, zc, rfl, hz1, hz2, hz4⟩ := hzr
            have HZ := hideF hz4
            have HZU := hideF hzu
            have hck2 : Y.cell? ⟨g2, off2 + l, none⟩ = some (.slice zp z.length zc) := by rw [HBy.out.below.cell (p := ⟨g2, off2 + l, none⟩) hg2]; exact hzu
            have HRMy := hideF (HDy.out.room hlt2)
            have HLA := hideF (show (A1 ++ E).length ≤ 58000 by have h1 := HRMy.out; have h2 := HLR.out; have h3 := HLA1.out; have h4 : (repT m y) = jnF (bAt m 1) (compT m) 0 y := rfl; rw [h4] at h2; rw [List.length_append]; omega)
            unfold maxLen at hz2
            clear hz4 hzu hc2
            by_cases h0 : l = 0
            · have hneg2 : ¬ (0 : Int) < (l : Int) := by omega
              have HNX := hideF (HDy.out.first' h0 hlt2)
              clear h0
              rw [← hz] at HNX
              obtain ⟨A2, hA2⟩ : ∃ A2, A2 = A1 ++ E := ⟨_, rfl⟩
              have HN2 : Hid (∃ G, A2 ++ compT m z = A1 ++ G ∧ Done (bAt m 1) (compT m) y (l + 1) G) := ⟨E ++ compT m z, by rw [hA2]; simp, HNX.out⟩
              have HB2 : Hid (Buf 5 w.heap.size w Y u5 A2) := by rw [hA2]; exact HBy
              have HLA2 : Hid (A2.length ≤ 59000) := by rw [hA2]; exact (by have := HLA.out; omega : (A1 ++ E).length ≤ 59000)
              have HR2 := hideF HRy.out
              clear hA2 HNX hz
              go_wp2_with fail
              go_loopw [5, 9] (fun v' i wr => ∃ (Z : World) (t : Nat) (F : List UInt8), Z = wr ∧ t ≤ z.length ∧ i = .int .i64 t ∧ Hid (Buf 5 w.heap.size w Z v' (A2 ++ F)) ∧ Hid (Row Z w.heap.size 54 [.slice (some ⟨g, off, none⟩) x.length cap]) ∧ Hid (Done (bAt m 4) (subT m) z t F)) (fun _ i _ => z.length - (intOf i).toNat)
              case atStart => exact ⟨_, 0, [], rfl, Nat.zero_le _, rfl, by rw [List.append_nil]; exact HB2, HR2, Done.zero _ _ _⟩
              case round =>
                obtain ⟨Z, t, F, rfl, ht, rfl, HB3, HR3, HD3⟩ := hrel
                by_cases hlt3 : t < z.length
                · obtain ⟨g3, off3, hp3, hg3, hc3⟩ := HZ.out (by omega)
                  subst hp3
                  obtain ⟨sv, hsv, rfl, _⟩ := hc3 t hlt3
                  have hck3 : Z.cell? ⟨g3, off3 + t, none⟩ = some (.string (z[t]'hlt3)) := by rw [HB3.out.below.cell (p := ⟨g3, off3 + t, none⟩) hg3]; exact hsv
                  have HOK3 := hideF (HZE.out t hlt3)
                  have HRM3 := hideF (HD3.out.room hlt3)
                  have HLA3 := hideF (show (A2 ++ F).length ≤ 60000 by have h1 := HRM3.out; have h2 := HLC.out; have h3 := HLA2.out; have h4 : (compT m z) = jnF (bAt m 4) (subT m) 0 z := rfl; rw [h4] at h2; rw [List.length_append]; omega)
                  clear hsv hc3
                  by_cases h0 : t = 0
                  · have hneg3 : ¬ (0 : Int) < (t : Int) := by omega
                    have HNX := hideF (HD3.out.first' h0 hlt3)
                    clear h0
                    have HBA := hideF HB3.out
                    have HRA := hideF HR3.out
                    obtain ⟨A3, hA3⟩ : ∃ A3, A3 = A2 ++ F := ⟨_, rfl⟩
                    have HNY : Hid (∃ G, A3 ++ subT m (z[t]'hlt3) = A2 ++ G ∧ Done (bAt m 4) (subT m) z (t + 1) G) := ⟨F ++ subT m (z[t]'hlt3), by rw [hA3]; simp, HNX.out⟩
                    rw [← hA3] at HBA HLA3
                    clear hA3 HNX
                    go_wp2_with fail
                    refine (l04Escape_any m (z[t]'hlt3) _ hm (by have := (subB_plain HOK3.out).2; omega)).mono ?_
                    rintro e w7 ⟨rfl, hb7⟩
                    have HB7 := hideF (HBA.out.onBelow hb7)
                    have HR7 := hideF (HRA.out.below hb7 HRA.out.lt)
                    have HBs7 := hideF (Buf.start HB7.out.own HB7.out.size)
                    have hSz : (⟨(escL m (z[t]'hlt3).data.toList).toArray⟩ : ByteArray).size = (subT m (z[t]'hlt3)).length := by simp [ByteArray.size, subT]
                    have HL7 := hideF (show A3.length + (⟨(escL m (z[t]'hlt3).data.toList).toArray⟩ : ByteArray).size ≤ 100000000 by have h1 := subT_len (m := m) HOK3.out; have h2 := HLA3.out; rw [hSz]; omega)
                    clear hb7 hSz
                    go_wp2_with (at_builtin; refine wpList_bufS (w0 := w7) rfl (.tmp 66) (.tmp 72) 74 9 rfl w.heap.size 5 Tryz.underlying74 Tryz.underlying9 Tryz.infoByte _ A3 rfl HBs7.out _ rfl HL7.out ?_)
                    intro v8 w8 hb8
                    have HB8 := hideF (HB7.out.trans hb8)
                    have HR8 := hideF (fieldRow_kept hb8 HR7.out)
                    clear hb8
                    obtain ⟨G', hg1, hg2⟩ := HNY.out
                    have HG1 := hideF hg1
                    have HG2 := hideF hg2
                    clear hg1 hg2
                    go_wp2
                    go_roundw
                    case rel => exact ⟨_, t + 1, G', rfl, by omega, by go_num, by rw [← HG1.out]; exact HB8, HR8, HG2⟩
                    case measure => simp [intOf]; omega
                  · have hpos : (0 : Int) < (t : Int) := by omega
                    have hk0 : 0 < t := by omega
                    have HNX := hideF (HD3.out.next hk0 hlt3)
                    have HBs := hideF (HB3.out.alloc (.cells #[.int .u8 ((m[4]'hm4).toNat : Int)] 5))
                    have HBt := hideF ((Buf.start HB3.out.own HB3.out.size).alloc (.cells #[.int .u8 ((m[4]'hm4).toNat : Int)] 5))
                    have HC := hideF (heap_alloc_new Z (.cells #[.int .u8 ((m[4]'hm4).toNat : Int)] 5))
                    have HL3 := hideF (show (A2 ++ F).length + [m[4]'hm4].length ≤ 100000000 by have h1 := HLA3.out; simp only [List.length_cons, List.length_nil]; omega)
                    go_wp2_with (at_builtin; refine wpList_buf (w0 := Z) rfl (.tmp 61) (.tmp 64) 74 rfl w.heap.size 5 Tryz.underlying74 Tryz.infoByte _ (A2 ++ F) rfl HBt.out Z.heap.size 1 [m[4]'hm4] rfl rfl ⟨_, HC.out⟩ HL3.out ?_)
                    clear HBs HBt HC HL3
                    intro v6 w6 hb6
                    have HBA := hideF (HB3.out.trans hb6)
                    have HRA := hideF (fieldRow_kept hb6 HR3.out)
                    have hck6 : w6.cell? ⟨g3, off3 + t, none⟩ = some (.string (z[t]'hlt3)) := by rw [hb6.below.cell (p := ⟨g3, off3 + t, none⟩) hg3]; exact hck3
                    clear hb6 hck3
                    obtain ⟨A3, hA3⟩ : ∃ A3, A3 = A2 ++ F ++ [m[4]'hm4] := ⟨_, rfl⟩
                    have HNY : Hid (∃ G, A3 ++ subT m (z[t]'hlt3) = A2 ++ G ∧ Done (bAt m 4) (subT m) z (t + 1) G) := ⟨F ++ [bAt m 4] ++ subT m (z[t]'hlt3), by rw [hA3, HM4.out]; simp, HNX.out⟩
                    have HLA4 := hideF (show A3.length ≤ 60001 by have := HLA3.out; rw [hA3, List.length_append]; simp only [List.length_cons, List.length_nil]; omega)
                    have HBA' : Hid (Buf 5 w.heap.size w w6 v6 A3) := by rw [hA3]; first | exact HBA | simpa only [List.append_assoc] using HBA
                    clear hA3 HNX HBA
                    go_wp2_with fail
                    refine (l04Escape_any m (z[t]'hlt3) _ hm (by have := (subB_plain HOK3.out).2; omega)).mono ?_
                    rintro e w7 ⟨rfl, hb7⟩
                    have HB7 := hideF (HBA'.out.onBelow hb7)
                    have HR7 := hideF (HRA.out.below hb7 HRA.out.lt)
                    have HBs7 := hideF (Buf.start HB7.out.own HB7.out.size)
                    have hSz : (⟨(escL m (z[t]'hlt3).data.toList).toArray⟩ : ByteArray).size = (subT m (z[t]'hlt3)).length := by simp [ByteArray.size, subT]
                    have HL7 := hideF (show A3.length + (⟨(escL m (z[t]'hlt3).data.toList).toArray⟩ : ByteArray).size ≤ 100000000 by have h1 := subT_len (m := m) HOK3.out; have h2 := HLA4.out; rw [hSz]; omega)
                    clear hb7 hSz
                    go_wp2_with (at_builtin; refine wpList_bufS (w0 := w7) rfl (.tmp 66) (.tmp 72) 74 9 rfl w.heap.size 5 Tryz.underlying74 Tryz.underlying9 Tryz.infoByte _ A3 rfl HBs7.out _ rfl HL7.out ?_)
                    intro v8 w8 hb8
                    have HB8 := hideF (HB7.out.trans hb8)
                    have HR8 := hideF (fieldRow_kept hb8 HR7.out)
                    clear hb8
                    obtain ⟨G', hg1, hg2⟩ := HNY.out
                    have HG1 := hideF hg1
                    have HG2 := hideF hg2
                    clear hg1 hg2
                    go_wp2
                    go_roundw
                    case rel => exact ⟨_, t + 1, G', rfl, by omega, by go_num, by rw [← HG1.out]; exact HB8, HR8, HG2⟩
                    case measure => simp [intOf]; omega
                · have HAL := hideF (HD3.out.all (by omega))
                  have HB3' : Hid (Buf 5 w.heap.size w Z u5 (A2 ++ compT m z)) := by rw [HAL.out] at HB3; exact HB3
                  obtain ⟨E', he1, he2⟩ := HN2.out
                  have HEQ := hideF he1
                  have HED := hideF he2
                  clear he1 he2
                  go_wp2
                  go_roundw
                  case rel => exact ⟨_, l + 1, E', rfl, by omega, by go_num, by rw [← HEQ.out]; exact HB3', HR3, HED⟩
                  case measure => simp [intOf]; omega
            · have hpos : (0 : Int) < (l : Int) := by omega
              have hk0 : 0 < l := by omega
              have HNX := hideF (HDy.out.next hk0 hlt2)
              rw [← hz] at HNX
              have HBs := hideF (HBy.out.alloc (.cells #[.int .u8 ((m[1]'hm1).toNat : Int)] 5))
              have HBt := hideF ((Buf.start HBy.out.own HBy.out.size).alloc (.cells #[.int .u8 ((m[1]'hm1).toNat : Int)] 5))
              have HC := hideF (heap_alloc_new Y (.cells #[.int .u8 ((m[1]'hm1).toNat : Int)] 5))
              have HL3 := hideF (show (A1 ++ E).length + [m[1]'hm1].length ≤ 100000000 by have h1 := HLA.out; simp only [List.length_cons, List.length_nil]; omega)
              go_wp2_with (at_builtin; refine wpList_buf (w0 := Y) rfl (.tmp 38) (.tmp 41) 74 rfl w.heap.size 5 Tryz.underlying74 Tryz.infoByte _ (A1 ++ E) rfl HBt.out Y.heap.size 1 [m[1]'hm1] rfl rfl ⟨_, HC.out⟩ HL3.out ?_)
              clear HBs HBt HC HL3
              intro v5 w5 hb5
              have HBA := hideF (HBy.out.trans hb5)
              have HR2 := hideF (fieldRow_kept hb5 HRy.out)
              have c5 : w5.cell? ⟨w.heap.size, 0, none⟩ = some (.slice (some ⟨g, off, none⟩) x.length cap) := HR2.out.cell 0
              have hcy5 : w5.cell? ⟨g, off + k, none⟩ = some (.slice (some ⟨g2, off2, none⟩) y.length yc) := by rw [HBA.out.below.cell (p := ⟨g, off + k, none⟩) hg]; exact HUK.out
              have hck5 : w5.cell? ⟨g2, off2 + l, none⟩ = some (.slice zp z.length zc) := by rw [HBA.out.below.cell (p := ⟨g2, off2 + l, none⟩) hg2]; exact HZU.out
              clear hb5 c0 hcy hck2
              obtain ⟨A2, hA2⟩ : ∃ A2, A2 = A1 ++ E ++ [m[1]'hm1] := ⟨_, rfl⟩
              have HN2 : Hid (∃ G, A2 ++ compT m z = A1 ++ G ∧ Done (bAt m 1) (compT m) y (l + 1) G) := ⟨E ++ [bAt m 1] ++ compT m z, by rw [hA2, HM1.out]; simp, HNX.out⟩
              have HB2 : Hid (Buf 5 w.heap.size w w5 v5 A2) := by rw [hA2]; first | exact HBA | simpa only [List.append_assoc] using HBA
              have HLA2 : Hid (A2.length ≤ 59000) := by rw [hA2]; exact (by have := HLA.out; rw [List.length_append]; simp only [List.length_cons, List.length_nil]; omega : (A1 ++ E ++ [m[1]'hm1]).length ≤ 59000)
              clear hA2 HNX hz HBA
              go_wp2_with fail
              go_loopw [5, 9] (fun v' i wr => ∃ (Z : World) (t : Nat) (F : List UInt8), Z = wr ∧ t ≤ z.length ∧ i = .int .i64 t ∧ Hid (Buf 5 w.heap.size w Z v' (A2 ++ F)) ∧ Hid (Row Z w.heap.size 54 [.slice (some ⟨g, off, none⟩) x.length cap]) ∧ Hid (Done (bAt m 4) (subT m) z t F)) (fun _ i _ => z.length - (intOf i).toNat)
              case atStart => exact ⟨_, 0, [], rfl, Nat.zero_le _, rfl, by rw [List.append_nil]; exact HB2, HR2, Done.zero _ _ _⟩
              case round =>
                obtain ⟨Z, t, F, rfl, ht, rfl, HB3, HR3, HD3⟩ := hrel
                by_cases hlt3 : t < z.length
                · obtain ⟨g3, off3, hp3, hg3, hc3⟩ := HZ.out (by omega)
                  subst hp3
                  obtain ⟨sv, hsv, rfl, _⟩ := hc3 t hlt3
                  have hck3 : Z.cell? ⟨g3, off3 + t, none⟩ = some (.string (z[t]'hlt3)) := by rw [HB3.out.below.cell (p := ⟨g3, off3 + t, none⟩) hg3]; exact hsv
                  have HOK3 := hideF (HZE.out t hlt3)
                  have HRM3 := hideF (HD3.out.room hlt3)
                  have HLA3 := hideF (show (A2 ++ F).length ≤ 60000 by have h1 := HRM3.out; have h2 := HLC.out; have h3 := HLA2.out; have h4 : (compT m z) = jnF (bAt m 4) (subT m) 0 z := rfl; rw [h4] at h2; rw [List.length_append]; omega)
                  clear hsv hc3
                  by_cases h0 : t = 0
                  · have hneg3 : ¬ (0 : Int) < (t : Int) := by omega
                    have HNX := hideF (HD3.out.first' h0 hlt3)
                    clear h0
                    have HBA := hideF HB3.out
                    have HRA := hideF HR3.out
                    obtain ⟨A3, hA3⟩ : ∃ A3, A3 = A2 ++ F := ⟨_, rfl⟩
                    have HNY : Hid (∃ G, A3 ++ subT m (z[t]'hlt3) = A2 ++ G ∧ Done (bAt m 4) (subT m) z (t + 1) G) := ⟨F ++ subT m (z[t]'hlt3), by rw [hA3]; simp, HNX.out⟩
                    rw [← hA3] at HBA HLA3
                    clear hA3 HNX
                    go_wp2_with fail
                    refine (l04Escape_any m (z[t]'hlt3) _ hm (by have := (subB_plain HOK3.out).2; omega)).mono ?_
                    rintro e w7 ⟨rfl, hb7⟩
                    have HB7 := hideF (HBA.out.onBelow hb7)
                    have HR7 := hideF (HRA.out.below hb7 HRA.out.lt)
                    have HBs7 := hideF (Buf.start HB7.out.own HB7.out.size)
                    have hSz : (⟨(escL m (z[t]'hlt3).data.toList).toArray⟩ : ByteArray).size = (subT m (z[t]'hlt3)).length := by simp [ByteArray.size, subT]
                    have HL7 := hideF (show A3.length + (⟨(escL m (z[t]'hlt3).data.toList).toArray⟩ : ByteArray).size ≤ 100000000 by have h1 := subT_len (m := m) HOK3.out; have h2 := HLA3.out; rw [hSz]; omega)
                    clear hb7 hSz
                    go_wp2_with (at_builtin; refine wpList_bufS (w0 := w7) rfl (.tmp 66) (.tmp 72) 74 9 rfl w.heap.size 5 Tryz.underlying74 Tryz.underlying9 Tryz.infoByte _ A3 rfl HBs7.out _ rfl HL7.out ?_)
                    intro v8 w8 hb8
                    have HB8 := hideF (HB7.out.trans hb8)
                    have HR8 := hideF (fieldRow_kept hb8 HR7.out)
                    clear hb8
                    obtain ⟨G', hg1, hg2⟩ := HNY.out
                    have HG1 := hideF hg1
                    have HG2 := hideF hg2
                    clear hg1 hg2
                    go_wp2
                    go_roundw
                    case rel => exact ⟨_, t + 1, G', rfl, by omega, by go_num, by rw [← HG1.out]; exact HB8, HR8, HG2⟩
                    case measure => simp [intOf]; omega
                  · have hpos : (0 : Int) < (t : Int) := by omega
                    have hk0 : 0 < t := by omega
                    have HNX := hideF (HD3.out.next hk0 hlt3)
                    have HBs := hideF (HB3.out.alloc (.cells #[.int .u8 ((m[4]'hm4).toNat : Int)] 5))
                    have HBt := hideF ((Buf.start HB3.out.own HB3.out.size).alloc (.cells #[.int .u8 ((m[4]'hm4).toNat : Int)] 5))
                    have HC := hideF (heap_alloc_new Z (.cells #[.int .u8 ((m[4]'hm4).toNat : Int)] 5))
                    have HL3 := hideF (show (A2 ++ F).length + [m[4]'hm4].length ≤ 100000000 by have h1 := HLA3.out; simp only [List.length_cons, List.length_nil]; omega)
                    go_wp2_with (at_builtin; refine wpList_buf (w0 := Z) rfl (.tmp 61) (.tmp 64) 74 rfl w.heap.size 5 Tryz.underlying74 Tryz.infoByte _ (A2 ++ F) rfl HBt.out Z.heap.size 1 [m[4]'hm4] rfl rfl ⟨_, HC.out⟩ HL3.out ?_)
                    clear HBs HBt HC HL3
                    intro v6 w6 hb6
                    have HBA := hideF (HB3.out.trans hb6)
                    have HRA := hideF (fieldRow_kept hb6 HR3.out)
                    have hck6 : w6.cell? ⟨g3, off3 + t, none⟩ = some (.string (z[t]'hlt3)) := by rw [hb6.below.cell (p := ⟨g3, off3 + t, none⟩) hg3]; exact hck3
                    clear hb6 hck3
                    obtain ⟨A3, hA3⟩ : ∃ A3, A3 = A2 ++ F ++ [m[4]'hm4] := ⟨_, rfl⟩
                    have HNY : Hid (∃ G, A3 ++ subT m (z[t]'hlt3) = A2 ++ G ∧ Done (bAt m 4) (subT m) z (t + 1) G) := ⟨F ++ [bAt m 4] ++ subT m (z[t]'hlt3), by rw [hA3, HM4.out]; simp, HNX.out⟩
                    have HLA4 := hideF (show A3.length ≤ 60001 by have := HLA3.out; rw [hA3, List.length_append]; simp only [List.length_cons, List.length_nil]; omega)
                    have HBA' : Hid (Buf 5 w.heap.size w w6 v6 A3) := by rw [hA3]; first | exact HBA | simpa only [List.append_assoc] using HBA
                    clear hA3 HNX HBA
                    go_wp2_with fail
                    refine (l04Escape_any m (z[t]'hlt3) _ hm (by have := (subB_plain HOK3.out).2; omega)).mono ?_
                    rintro e w7 ⟨rfl, hb7⟩
                    have HB7 := hideF (HBA'.out.onBelow hb7)
                    have HR7 := hideF (HRA.out.below hb7 HRA.out.lt)
                    have HBs7 := hideF (Buf.start HB7.out.own HB7.out.size)
                    have hSz : (⟨(escL m (z[t]'hlt3).data.toList).toArray⟩ : ByteArray).size = (subT m (z[t]'hlt3)).length := by simp [ByteArray.size, subT]
                    have HL7 := hideF (show A3.length + (⟨(escL m (z[t]'hlt3).data.toList).toArray⟩ : ByteArray).size ≤ 100000000 by have h1 := subT_len (m := m) HOK3.out; have h2 := HLA4.out; rw [hSz]; omega)
                    clear hb7 hSz
                    go_wp2_with (at_builtin; refine wpList_bufS (w0 := w7) rfl (.tmp 66) (.tmp 72) 74 9 rfl w.heap.size 5 Tryz.underlying74 Tryz.underlying9 Tryz.infoByte _ A3 rfl HBs7.out _ rfl HL7.out ?_)
                    intro v8 w8 hb8
                    have HB8 := hideF (HB7.out.trans hb8)
                    have HR8 := hideF (fieldRow_kept hb8 HR7.out)
                    clear hb8
                    obtain ⟨G', hg1, hg2⟩ := HNY.out
                    have HG1 := hideF hg1
                    have HG2 := hideF hg2
                    clear hg1 hg2
                    go_wp2
                    go_roundw
                    case rel => exact ⟨_, t + 1, G', rfl, by omega, by go_num, by rw [← HG1.out]; exact HB8, HR8, HG2⟩
                    case measure => simp [intOf]; omega
                · have HAL := hideF (HD3.out.all (by omega))
                  have HB3' : Hid (Buf 5 w.heap.size w Z u5 (A2 ++ compT m z)) := by rw [HAL.out] at HB3; exact HB3
                  obtain ⟨E', he1, he2⟩ := HN2.out
                  have HEQ := hideF he1
                  have HED := hideF he2
                  clear he1 he2
                  go_wp2
                  go_roundw
                  case rel => exact ⟨_, l + 1, E', rfl, by omega, by go_num, by rw [← HEQ.out]; exact HB3', HR3, HED⟩
                  case measure => simp [intOf]; omega
          · have HAL := hideF (HDy.out.all (by omega))
            have HBy' : Hid (Buf 5 w.heap.size w Y u5 (A1 ++ repT m y)) := by rw [HAL.out] at HBy; exact HBy
            obtain ⟨D', he1, he2⟩ := HN1.out
            have HEQ := hideF he1
            have HED := hideF he2
            clear he1 he2
            go_wp2
            go_roundw
            case rel => exact ⟨_, k + 1, D', rfl, by omega, by go_num, by rw [← HEQ.out]; exact HBy', HRy, HED⟩
            case measure => simp [intOf]; omega
    · have HA := hideF (HD.out.all (by omega))
      rw [HA.out] at HBf
      have hcv := HBf.out.text (P := Tryz.prog) Tryz.underlying74 Tryz.underlying5 Tryz.underlying9
      go_wp2
      go_ret
      exact ⟨rfl, HBf.out.below⟩
end Go.Proofs.YtckcfjibiidafaaGreat
