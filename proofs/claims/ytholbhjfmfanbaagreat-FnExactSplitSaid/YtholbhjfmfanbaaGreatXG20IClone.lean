/- A text copied byte by byte: the same bytes. -/
import Derived.Test.YtholbhjfmfanbaaGreatXG19SCopy
import Derived.Lib.Strings
import Derived.Lib.BufferWrite
import Derived.Lib.UnsafeStr
import Derived.Laws.MakeOwn
import Derived.Test.YtholbhjfmfanbaaGreatXG14OTree
import Derived.Test.YtholbhjfmfanbaaGreatXG15OTo
import Derived.Test.YtholbhjfmfanbaaGreatXG3FNestF
import Derived.Maps.AppendAt
namespace Go.Proofs.YtholbhjfmfanbaaGreat
open Go.RowKit

theorem Tryz.infoByteK : (Tryz.prog.info? 5).map (fun i => (i.zero, i.size, i.bytes)) = some (some (.int .u8 0), 1, 1) := by kernel_rfl

set_option maxHeartbeats 4000000 in
set_option maxRecDepth 100000 in
theorem inClone_any (s : ByteArray) (w : World) (hlim : s.size ≤ 281474976710656) :
    Calls Tryz.prog 87 #[.string s] w fun e w' => e = .returned (.string s) ∧ Below w.heap.size w w' := by
  by_cases h0 : s.size = 0
  · obtain rfl : s = ⟨#[]⟩ := ByteArray.ext (Array.eq_empty_of_size_eq_zero h0)
    go_enter Tryz.func87, Tryz.ntmps87
    go_wp2
    go_ret
    exact ⟨rfl, Below.refl _ _⟩
  · obtain ⟨i0, hi, hz0, hz1, hz2⟩ := info_parts Tryz.infoByteK
    have hinfo : (Tryz.prog.info? 5).map (·.size) = some 1 := by rw [hi]; simp [hz1]
    have hco : Tryz.prog.cellsOf 5 = 1 := by simp [Program.cellsOf, hi, hz1]
    obtain ⟨M, hM⟩ : ∃ M, M = madeCells (Value.int .u8 0).cells (((s.size : Nat) : Int).toNat * i0.size) := ⟨_, rfl⟩
    have hMs : M.size = s.size := by rw [hM, size_madeCells, hz1]; simp
    have hmk : ∀ W : World, (Instr.makeSlice 95 (.int .i64 (s.size : Int)) (.int .i64 (s.size : Int))).run Tryz.prog W = .ok (.slice (some ⟨W.heap.size, 0, none⟩) s.size s.size) (W.alloc (.cells M 5)) := fun W => by
      have h := run_make (P := Tryz.prog) W 95 5 i0 (.int .u8 0) Tryz.underlying95 hi hz0 .i64 .i64 (s.size : Int) (s.size : Int) (by omega) (by omega) (by rw [hz2]; omega) (by omega)
      rw [← hM] at h
      simpa using h
    clear hM
    have hcp := Lib.run_copy_row_string (P := Tryz.prog) (w.alloc (.cells M 5)) 95 9 3 5 w.heap.size 0 s.size s.size s M 5 Tryz.underlying95 hinfo (heap_alloc_new w _) (Nat.le_refl _) (by omega)
    obtain ⟨Y, hY⟩ : ∃ Y, Y = (M.toList.take 0 ++ Lib.byteCells s.data.toList ++ M.toList.drop (0 + s.size)).toArray := ⟨_, rfl⟩
    rw [← hY] at hcp
    have hYl : Y.toList = Lib.byteCells s.data.toList := by
      rw [hY, List.toList_toArray, List.take_zero, List.nil_append, List.drop_of_length_le (by rw [Array.length_toList]; omega), List.append_nil]
    have hYs : Y.size = s.size := by rw [← Array.length_toList, hYl, Lib.byteCells_length, ← Lib.size_eq]
    have hgY : ((w.alloc (.cells M 5)).setRow w.heap.size Y).heap[w.heap.size]? = some (.cells Y 5 (0, 0)) := setRow_heap _ _ M _ 5 (0, 0) (heap_alloc_new w _)
    have hne : s.data.toList ≠ [] := fun e => h0 (by rw [Lib.size_eq, e]; rfl)
    have hUS := Lib.run_unsafeString_row (P := Tryz.prog) ((w.alloc (.cells M 5)).setRow w.heap.size Y) 122 3 9 5 Tryz.underlying122 hco w.heap.size Y.size (by unfold World.shape?; rw [hgY]) s.data.toList hne (by rw [← Lib.size_eq]; omega) (by rw [← Lib.size_eq]; omega)
      (fun j x hx => Lib.cells_of_row hgY Y.size j _ (by rw [List.take_of_length_le (by rw [Array.length_toList]; exact Nat.le_refl _), hYl]; simp [Lib.byteCells, hx]))
    rw [← Lib.size_eq] at hUS
    clear hY
    go_enter Tryz.func87, Tryz.ntmps87
    go_wp2
    go_ret
    have hb1 : Below w.heap.size w (w.alloc (.cells M 5)) := (Below.refl _ w).alloc (Nat.le_refl _) _
    have hb2 : Below w.heap.size (w.alloc (.cells M 5)) ((w.alloc (.cells M 5)).setRow w.heap.size Y) := ⟨rfl, rfl, rfl, by simp, fun k hk => setRow_other _ _ _ _ (by omega)⟩
    exact ⟨rfl, Lib.below_freeze (hb1.trans hb2) (p := ⟨w.heap.size, 0, none⟩) (Nat.le_refl _) _⟩
theorem clone_any (s : ByteArray) (w : World) (hlim : s.size ≤ 281474976710656) :
    Calls Tryz.prog 67 #[.string s] w fun e w' => e = .returned (.string s) ∧ Below w.heap.size w w' := by
  go_enter Tryz.func67, Tryz.ntmps67
  go_wp2_with fail
  refine (inClone_any s _ hlim).mono ?_
  rintro e w1 ⟨rfl, hb⟩
  have HB := hide hb
  clear hb
  go_wp2
  go_ret
  exact ⟨rfl, HB.out⟩
end Go.Proofs.YtholbhjfmfanbaaGreat
/- The program's copies: each list in a row of its own. -/
namespace Go.Proofs.YtholbhjfmfanbaaGreat
open Go.RowKit
theorem own_block {w : World} {B : Nat} {T : TypeId} {n : Nat} {v : Value} {vs : List Value} (h : w.ownsRow B T 1 v n vs) : (n = 0 ∧ v = .slice none 0 0) ∨ ∃ g cap rest, v = .slice (some ⟨g, 0, none⟩) n cap ∧ B ≤ g ∧ g < w.heap.size ∧ n ≤ cap ∧ cap ≤ maxLen ∧ n + rest.length = cap ∧ Row w g T (vs ++ rest) := by
  have hl := h.1
  have hlt := h.lt
  rcases h.2 with ⟨rfl, hn⟩ | ⟨g, cap, cur, rfl, hbg, hg, hnc, hcm, hcs, htake⟩
  · exact .inl ⟨hn, rfl⟩
  · refine .inr ⟨g, cap, cur.toList.drop n, rfl, hbg, (hlt g rfl).2, hnc, hcm, ?_, ?_⟩
    · rw [List.length_drop]; simp; omega
    · rw [Nat.mul_one] at htake
      have e : vs ++ cur.toList.drop n = cur.toList := by rw [← htake, List.take_append_drop]
      rw [e]
      simpa [Row] using hg
theorem grown_in {w w' : World} {row : Option Nat} {a b : Nat} (h : w.grownBy w' row) (hr : ∀ g, row = some g → b ≤ g ∨ g < a) : SameIn a b w w' := fun k h1 h2 hk => h.block k hk (fun e => by have := hr k e.symm; omega)
theorem own_below {w w' : World} {B n sz : Nat} {T : TypeId} {v : Value} {vs : List Value} (h : w.ownsRow B T sz v n vs) (hb : Below w.heap.size w w') : w'.ownsRow B T sz v n vs :=
  h.kept (row := none) ⟨hb.os, hb.tape, hb.output, hb.size, fun k hk _ => hb.block k hk⟩ (by cases hv : v.ownBlock <;> simp)
theorem Tryz.infoCopyString : (Tryz.prog.info? 9).map (fun i => (i.zero, i.size, i.bytes)) = some (some (.string ⟨#[]⟩), 1, 16) := by kernel_rfl
set_option maxHeartbeats 4000000 in
theorem copyEachS_any (v : Value) (xs : List ByteArray) (w : World) (hn : wComp xs ≤ 1048576) (hr : RComp 0 w v xs) :
    Calls Tryz.prog 129 #[v, .func (.func 67) #[] #[]] w fun e w' => ∃ p c, e = .returned (.slice p xs.length c) ∧ OComp w.heap.size w'.heap.size w' (.slice p xs.length c) xs ∧ Below w.heap.size w w' := by
  obtain ⟨i0, hi, hz0, hz1, hz2⟩ := info_parts Tryz.infoCopyString
  have hl : xs.length ≤ 1048576 := Nat.le_trans (wL_len _ xs) hn
  have HM : Hid (∀ i (h : i < xs.length), xs[i].size ≤ 1048576) := fun i h => by have := wL_mem ByteArray.size (List.getElem_mem h); have : wL ByteArray.size xs ≤ 1048576 := hn; omega
  have HS := hide hr.sizes
  clear hn
  obtain ⟨p, cap, rfl, h1, h2, h4⟩ := hr
  have H4 := hide h4
  unfold maxLen at h2
  clear h4
  have HO := hide (World.ownsRow_nil w w.heap.size 9 1)
  have HZC := hide (show (Value.string ⟨#[]⟩).cells.size = 1 from rfl)
  go_enter Tryz.func129, Tryz.ntmps129
  go_wp2_with fail
  go_loopw [5, 10] (fun l i wr => ∃ (X : World) (k : Nat), X = wr ∧ k ≤ xs.length ∧ i = .int .i64 (k : Int) ∧ Hid (X.ownsRow w.heap.size 9 1 l k (strs (xs.take k))) ∧ Hid (Below w.heap.size w X)) (fun _ i _ => xs.length - (intOf i).toNat)
  case atStart => exact ⟨_, 0, rfl, Nat.zero_le _, rfl, HO, hide (Below.refl _ _)⟩
  case round =>
    obtain ⟨X, k, rfl, hk, rfl, HOw, HB⟩ := hrel
    by_cases hlt : k < xs.length
    · obtain ⟨g, off, hp, hg, _, hc⟩ := H4.out (by omega)
      subst hp
      obtain ⟨u, hu, rfl, _⟩ := hc k hlt
      have hck : X.cell? ⟨g, off + k, none⟩ = some (.string (xs[k]'hlt)) := by rw [HB.out.cell (p := ⟨g, off + k, none⟩) hg]; exact hu
      have HXM := hide (HM.out k hlt)
      have HT : Hid (strs (xs.take k) ++ [.string (xs[k]'hlt)] = strs (xs.take (k + 1))) := by rw [List.take_succ_eq_append_getElem hlt]; unfold strs; rw [List.map_append]; exact rfl
      clear hu hc
      generalize (xs[k]'hlt) = y at *
      go_wp2_with fail
      refine (clone_any y _ (by have := HXM.out; omega)).mono ?_
      rintro e w2 ⟨rfl, hb2⟩
      have HO2 := hide ((own_below HOw.out hb2).alloc (.cells #[.string y] 9))
      have HB2 := hide ((HB.out.trans (hb2.mono HB.out.size)).alloc (HB.out.trans (hb2.mono HB.out.size)).size (.cells #[.string y] 9))
      clear hb2 hck
      go_wp2_with (at_builtin; refine wpList_append_own_at (w2.alloc (.cells #[.string y] 9)) rfl (.tmp 14) (.tmp 18) 136 rfl w.heap.size 9 i0 _ 1 16 Tryz.underlying136 hi hz0 hz1 hz2 HZC.out (by omega) _ k (strs (xs.take k)) rfl HO2.out ⟨w2.heap.size, 0, none⟩ 1 _ [.string y] rfl rfl (cell_one_new _ _ _) (by simp [Value.oneCell']) (by unfold maxLen; omega) (by omega) (by have := HB2.out.size; exact this) ?_)
      intro v' w3 hown hgrow _ _
      rw [HT.out] at hown
      have HO3 := hide hown
      have HB3 := hide (HB2.out.grown hgrow HB2.out.size (fun k hk => (HO2.out.lt k hk).1))
      clear hown hgrow
      go_wp2
      go_roundw
      case rel => exact ⟨_, k + 1, rfl, by omega, by go_num, HO3, HB3⟩
      case measure => simp [intOf]; omega
    · have HOF := HOw
      have ek : k = xs.length := by omega
      rw [ek, List.take_of_length_le (Nat.le_refl _)] at HOF
      rcases own_block HOF.out with ⟨hn, rfl⟩ | ⟨g, cap2, rest, rfl, hbg, hgs, hnc, hcm, hcr, hrow⟩
      · have HN := hide hn
        clear hn
        go_wp2
        go_ret
        refine ⟨none, 0, by rw [HN.out]; rfl, ⟨none, 0, rfl, by rw [HN.out]; exact Nat.le_refl 0, by unfold maxLen; omega, HS.out, fun h => by rw [HN.out] at h; omega⟩, HB.out⟩
      · have HF := hide (show OComp w.heap.size X.heap.size X (.slice (some ⟨g, 0, none⟩) xs.length cap2) xs from ⟨_, _, rfl, hnc, hcm, HS.out, fun _ => ⟨g, rest, rfl, hbg, hgs, hcr, hrow⟩⟩)
        clear hrow hbg hgs hcr
        go_wp2
        go_ret
        exact ⟨_, _, rfl, HF.out, HB.out⟩
theorem Tryz.infoCopyComp : (Tryz.prog.info? 138).map (fun i => (i.zero, i.size, i.bytes)) = some (some (.agg #[.slice none 0 0]), 1, 24) := by kernel_rfl
set_option maxHeartbeats 2000000 in
theorem copyComp_any (u : Value) (x : List ByteArray) (w : World) (hn : wComp x ≤ 1048576) (hr : RComp 0 w u x) :
    Calls Tryz.prog 118 #[.agg #[u]] w fun e w' => ∃ p c, e = .returned (.agg #[.slice p x.length c]) ∧ OComp w.heap.size w'.heap.size w' (.slice p x.length c) x ∧ Below w.heap.size w w' := by
  obtain ⟨p, c, rfl⟩ := hr.isSlice
  obtain ⟨W, hW⟩ : ∃ W, W = (w.alloc (.cells #[.slice p x.length c] 138)).alloc (.cells #[.slice none 0 0] 138) := ⟨_, rfl⟩
  have hb0 : Below w.heap.size w W := by rw [hW]; exact ((Below.refl _ _).alloc (Nat.le_refl _) _).alloc (by simp) _
  have HR := hide (hr.below hb0)
  have HB0 := hide hb0
  have R1 : Row W (w.heap.size + 1) 138 [.slice none 0 0] := by
    rw [hW]
    have := row_new (w.alloc (.cells #[.slice p x.length c] 138)) [.slice none 0 0] 138
    simpa using this
  have hsz : W.heap.size = w.heap.size + 2 := by rw [hW]; simp
  clear hr hb0
  go_enter Tryz.func118, Tryz.ntmps118
  go_wp2_with fail
  rw [← hW]
  refine (copyEachS_any _ x _ hn HR.out).mono ?_
  rintro e w1 ⟨p1, c1, rfl, hr1, hb1⟩
  clear hW
  have r1 := R1.below hb1 (by omega)
  have f1 : w1.cell? ⟨w.heap.size + 1, 0, none⟩ = some (.slice none 0 0) := r1.cell 0
  have z1 := r1.free 0
  have q1 : (w1.setCell ⟨w.heap.size + 1, 0, none⟩ (.slice p1 x.length c1)).cell? ⟨w.heap.size + 1, 0, none⟩ = some (.slice p1 x.length c1) := (r1.set (j := 0) (.slice p1 x.length c1)).cell 0
  have hw1 : w.heap.size + 2 ≤ w1.heap.size := by rw [← hsz]; exact hb1.size
  rw [hsz] at hr1
  have es : (w1.setCell ⟨w.heap.size + 1, 0, none⟩ (.slice p1 x.length c1)).heap.size = w1.heap.size := by simp [World.setCell]
  have HRE : Hid (OComp w.heap.size (w1.setCell ⟨w.heap.size + 1, 0, none⟩ (.slice p1 x.length c1)).heap.size (w1.setCell ⟨w.heap.size + 1, 0, none⟩ (.slice p1 x.length c1)) (.slice p1 x.length c1) x) := hide (by
    rw [es]
    exact Keeps.wide (by omega : w.heap.size ≤ w.heap.size + 2) (Nat.le_refl _) (Keeps.go (SameIn.set w1 (g := w.heap.size + 1) (j := 0) (.slice p1 x.length c1) (by omega)) hr1))
  have HBE := hide ((HB0.out.trans (hb1.mono (by omega))).setCell (p := ⟨w.heap.size + 1, 0, none⟩) (by show w.heap.size ≤ w.heap.size + 1; omega) (.slice p1 x.length c1))
  clear hr1 hb1 r1 es hw1
  go_wp2
  exact bodyPost_ret (v := .agg #[.slice p1 x.length c1]) (by simp [results, Tryz.results118, go_sem, q1]) rfl ⟨_, _, rfl, HRE.out, HBE.out⟩
set_option maxHeartbeats 4000000 in
theorem copyEachComp_any (v : Value) (xs : List (List ByteArray)) (w : World) (hn : wRep xs ≤ 1048576) (hr : RL 0 (RComp 0) w v xs) :
    Calls Tryz.prog 117 #[v, .func (.func 118) #[] #[]] w fun e w' => ∃ p c, e = .returned (.slice p xs.length c) ∧ OL 138 OComp w.heap.size w'.heap.size w' (.slice p xs.length c) xs ∧ Below w.heap.size w w' := by
  obtain ⟨i0, hi, hz0, hz1, hz2⟩ := info_parts Tryz.infoCopyComp
  have hl : xs.length ≤ 1048576 := Nat.le_trans (wL_len _ xs) hn
  have HM : Hid (∀ i (h : i < xs.length), wComp xs[i] ≤ 1048576) := fun i h => by have := wL_mem wComp (List.getElem_mem h); have : wL wComp xs ≤ 1048576 := hn; omega
  clear hn
  obtain ⟨p, cap, rfl, h1, h2, h4⟩ := hr
  have H4 := hide h4
  unfold maxLen at h2
  clear h4
  have HO := hide (World.ownsRow_nil w w.heap.size 138 1)
  have HZC := hide (show (Value.agg #[.slice none 0 0]).cells.size = 1 from rfl)
  go_enter Tryz.func117, Tryz.ntmps117
  go_wp2_with fail
  go_loopw [5, 10] (fun l i wr => ∃ (X : World) (k : Nat) (vs : List Value), X = wr ∧ k ≤ xs.length ∧ i = .int .i64 (k : Int) ∧ Hid (X.ownsRow w.heap.size 138 1 l k vs) ∧ Hid (Below w.heap.size w X) ∧ Hid (vs.length = k) ∧ Hid (∃ A B : Nat → Nat, (∀ j (h1 : j < vs.length) (h2 : j < xs.length), w.heap.size ≤ A j ∧ B j ≤ X.heap.size ∧ (∀ g, l.ownBlock = some g → B j ≤ g ∨ g < A j) ∧ OComp (A j) (B j) X vs[j] xs[j]) ∧ ∀ i j, i < j → j < k → B i ≤ A j)) (fun _ i _ => xs.length - (intOf i).toNat)
  case atStart => exact ⟨_, 0, [], rfl, Nat.zero_le _, rfl, HO, hide (Below.refl _ _), hide rfl, hide ⟨fun _ => 0, fun _ => 0, fun j h1 _ => absurd h1 (by simp), fun i j _ h => absurd h (by omega)⟩⟩
  case round =>
    obtain ⟨X, k, vs, rfl, hk, rfl, HOw, HB, HLn, HEl⟩ := hrel
    by_cases hlt : k < xs.length
    · obtain ⟨g, off, hp, hg, _, hc⟩ := H4.out (by omega)
      subst hp
      obtain ⟨u, hu, hru⟩ := hc k hlt
      have hck : X.cell? ⟨g, off + k, none⟩ = some u := by rw [HB.out.cell (p := ⟨g, off + k, none⟩) hg]; exact hu
      have HRU := hide (hru.below HB.out)
      obtain ⟨up, uc, rfl⟩ := hru.isSlice
      have HXM := hide (HM.out k hlt)
      have hbA : Below X.heap.size X (X.alloc (.cells #[.slice up (xs[k]'hlt).length uc] 138)) := (Below.refl _ _).alloc (Nat.le_refl _) _
      have HBA := hide (HB.out.alloc HB.out.size (.cells #[.slice up (xs[k]'hlt).length uc] 138))
      have HRA := hide (HRU.out.below hbA)
      have HOA := hide (HOw.out.alloc (.cells #[.slice up (xs[k]'hlt).length uc] 138))
      have HSA : Hid ((X.alloc (.cells #[.slice up (xs[k]'hlt).length uc] 138)).heap.size = X.heap.size + 1) := hide (by simp)
      have HSI : Hid (∀ a b, SameIn a b X (X.alloc (.cells #[.slice up (xs[k]'hlt).length uc] 138))) := hide (fun a b => SameIn.ofBelow hbA)
      clear hu hc hru hbA
      go_wp2_with fail
      obtain ⟨X1, hX1⟩ : ∃ X1, X1 = X.alloc (.cells #[.slice up (xs[k]'hlt).length uc] 138) := ⟨_, rfl⟩
      rw [← hX1] at HBA HRA HOA HSA HSI ⊢
      clear hX1 hck
      refine (copyComp_any _ (xs[k]'hlt) _ HXM.out HRA.out).mono ?_
      rintro e w2 ⟨p2, c2, rfl, hr2, hb2⟩
      have HR2 := hide hr2
      have HO2 := hide ((own_below HOA.out hb2).alloc (.cells #[.slice p2 (xs[k]'hlt).length c2] 138))
      have HBm := hide (HBA.out.trans (hb2.mono HBA.out.size))
      have HB2 := hide (HBm.out.alloc HBm.out.size (.cells #[.slice p2 (xs[k]'hlt).length c2] 138))
      have HLT := hide HOw.out.lt
      have HB22 := hide hb2
      clear hb2 hr2
      go_wp2_with (at_builtin; refine wpList_append_own_at (w2.alloc (.cells #[.slice p2 (xs[k]'hlt).length c2] 138)) rfl (.tmp 14) (.tmp 18) 124 rfl w.heap.size 138 i0 _ 1 24 Tryz.underlying124 hi hz0 hz1 hz2 HZC.out (by omega) _ k vs rfl HO2.out ⟨w2.heap.size, 0, none⟩ 1 _ [.slice p2 (xs[k]'hlt).length c2] rfl rfl (cell_one_new _ _ _) (by simp [Value.oneCell']) (by unfold maxLen; omega) (by omega) (by have := HB2.out.size; exact this) ?_)
      intro v' w3 hown hgrow _ hat
      have HO3 := hide hown
      have HB3 := hide (HB2.out.grown hgrow HB2.out.size (fun k hk => (HO2.out.lt k hk).1))
      have HLn2 : Hid ((vs ++ [Value.slice p2 (xs[k]'hlt).length c2]).length = k + 1) := by rw [List.length_append, HLn.out]; exact rfl
      have HEl2 : Hid (∃ A B : Nat → Nat, (∀ j (h1 : j < (vs ++ [Value.slice p2 (xs[k]'hlt).length c2]).length) (h2 : j < xs.length), w.heap.size ≤ A j ∧ B j ≤ w3.heap.size ∧ (∀ g, v'.ownBlock = some g → B j ≤ g ∨ g < A j) ∧ OComp (A j) (B j) w3 (vs ++ [Value.slice p2 (xs[k]'hlt).length c2])[j] xs[j]) ∧ ∀ i j, i < j → j < k + 1 → B i ≤ A j) := by
        obtain ⟨A, B, hE, hD⟩ := HEl.out
        have hs2 := HB22.out.size
        have hs3 := hgrow.size
        have hsa : (w2.alloc (.cells #[.slice p2 (xs[k]'hlt).length c2] 138)).heap.size = w2.heap.size + 1 := by simp
        have hwX := HB.out.size
        have hsX := HSA.out
        refine ⟨fun i => if i = k then X.heap.size + 1 else A i, fun i => if i = k then w2.heap.size else B i, fun j h1 h2 => ?_, fun i j hij hj => ?_⟩
        · rw [HLn2.out] at h1
          dsimp only
          by_cases hj : j = k
          · subst hj
            rw [if_pos rfl, if_pos rfl, List.getElem_append_right (by rw [HLn.out]; exact Nat.le_refl _)]
            simp only [HLn.out, Nat.sub_self, List.getElem_cons_zero]
            refine ⟨by omega, by omega, fun g hg => ?_, ?_⟩
            · rcases hat with h | h
              · rw [h] at hg
                exact .inr (by have := (HLT.out g hg).2; omega)
              · rw [h] at hg
                cases hg
                exact .inl (by first | omega | (rw [hsa]; omega))
            · rw [hsX] at HR2
              refine Keeps.go (grown_in hgrow (fun g hg => .inr (by have := (HLT.out g hg).2; omega))) (Keeps.go (SameIn.ofBelow ((Below.refl _ _).alloc (Nat.le_refl _) _)) HR2.out)
          · have hjk : j < vs.length := by rw [HLn.out]; omega
            obtain ⟨f1, f2, f3, f4⟩ := hE j hjk h2
            rw [if_neg hj, if_neg hj, List.getElem_append_left hjk]
            refine ⟨f1, by omega, fun g hg => ?_, ?_⟩
            · rcases hat with h | h
              · rw [h] at hg
                exact f3 g hg
              · rw [h] at hg
                cases hg
                exact .inl (by first | omega | (rw [hsa]; omega))
            · exact Keeps.go (grown_in hgrow f3) (Keeps.go (SameIn.ofBelow ((Below.refl _ _).alloc (Nat.le_refl _) _)) (Keeps.go (SameIn.ofBelow HB22.out) (Keeps.go (HSI.out _ _) f4)))
        · have hik : i < vs.length := by rw [HLn.out]; omega
          obtain ⟨f1, f2, f3, f4⟩ := hE i hik (by omega)
          dsimp only
          by_cases hjk : j = k
          · rw [if_pos hjk, if_neg (by omega)]; omega
          · rw [if_neg hjk, if_neg (by omega)]; exact hD i j hij (by omega)
      clear hown hgrow hat
      go_wp2
      go_roundw
      case rel => exact ⟨_, k + 1, _, rfl, by omega, by go_num, HO3, HB3, HLn2, HEl2⟩
      case measure => simp [intOf]; omega
    · have ek : k = xs.length := by omega
      rcases own_block HOw.out with ⟨hn, rfl⟩ | ⟨g, cap2, rest, rfl, hbg, hgs, hnc, hcm, hcr, hrow⟩
      · have HN := hide (show xs.length = 0 by omega)
        clear hn
        go_wp2
        go_ret
        refine ⟨none, 0, by rw [HN.out]; rfl, ⟨none, 0, rfl, by rw [HN.out]; exact Nat.le_refl 0, by unfold maxLen; omega, fun h => by rw [HN.out] at h; omega⟩, HB.out⟩
      · have HF : Hid (OL 138 OComp w.heap.size X.heap.size X (.slice (some ⟨g, 0, none⟩) xs.length cap2) xs) := by
          obtain ⟨A, B, hE, hD⟩ := HEl.out
          have hvl := HLn.out
          exact ⟨_, _, rfl, by omega, hcm, fun _ => ⟨g, vs, rest, A, B, rfl, hbg, hgs, hrow, by omega, fun i h1 h2 => by
            obtain ⟨f1, f2, f3, f4⟩ := hE i h1 h2
            exact ⟨f1, f2, f3 g rfl, f4⟩, fun i j h1 h2 => hD i j h1 (by omega)⟩⟩
        have HK := hide ek
        clear hrow hbg hgs hcr ek
        go_wp2
        go_ret
        exact ⟨_, _, by rw [← HK.out]; rfl, HF.out, HB.out⟩
theorem Tryz.infoCopyRep : (Tryz.prog.info? 126).map (fun i => (i.zero, i.size, i.bytes)) = some (some (.agg #[.slice none 0 0]), 1, 24) := by kernel_rfl
set_option maxHeartbeats 2000000 in
theorem copyRep_any (u : Value) (x : List (List ByteArray)) (w : World) (hn : wRep x ≤ 1048576) (hr : RRep 0 w u x) :
    Calls Tryz.prog 105 #[.agg #[u]] w fun e w' => ∃ p c, e = .returned (.agg #[.slice p x.length c]) ∧ ORep w.heap.size w'.heap.size w' (.slice p x.length c) x ∧ Below w.heap.size w w' := by
  obtain ⟨p, c, rfl⟩ := hr.isSlice
  obtain ⟨W, hW⟩ : ∃ W, W = (w.alloc (.cells #[.slice p x.length c] 126)).alloc (.cells #[.slice none 0 0] 126) := ⟨_, rfl⟩
  have hb0 : Below w.heap.size w W := by rw [hW]; exact ((Below.refl _ _).alloc (Nat.le_refl _) _).alloc (by simp) _
  have HR := hide (hr.below hb0)
  have HB0 := hide hb0
  have R1 : Row W (w.heap.size + 1) 126 [.slice none 0 0] := by
    rw [hW]
    have := row_new (w.alloc (.cells #[.slice p x.length c] 126)) [.slice none 0 0] 126
    simpa using this
  have hsz : W.heap.size = w.heap.size + 2 := by rw [hW]; simp
  clear hr hb0
  go_enter Tryz.func105, Tryz.ntmps105
  go_wp2_with fail
  rw [← hW]
  refine (copyEachComp_any _ x _ hn HR.out).mono ?_
  rintro e w1 ⟨p1, c1, rfl, hr1, hb1⟩
  clear hW
  have r1 := R1.below hb1 (by omega)
  have f1 : w1.cell? ⟨w.heap.size + 1, 0, none⟩ = some (.slice none 0 0) := r1.cell 0
  have z1 := r1.free 0
  have q1 : (w1.setCell ⟨w.heap.size + 1, 0, none⟩ (.slice p1 x.length c1)).cell? ⟨w.heap.size + 1, 0, none⟩ = some (.slice p1 x.length c1) := (r1.set (j := 0) (.slice p1 x.length c1)).cell 0
  have hw1 : w.heap.size + 2 ≤ w1.heap.size := by rw [← hsz]; exact hb1.size
  rw [hsz] at hr1
  have es : (w1.setCell ⟨w.heap.size + 1, 0, none⟩ (.slice p1 x.length c1)).heap.size = w1.heap.size := by simp [World.setCell]
  have HRE : Hid (ORep w.heap.size (w1.setCell ⟨w.heap.size + 1, 0, none⟩ (.slice p1 x.length c1)).heap.size (w1.setCell ⟨w.heap.size + 1, 0, none⟩ (.slice p1 x.length c1)) (.slice p1 x.length c1) x) := hide (by
    rw [es]
    exact Keeps.wide (by omega : w.heap.size ≤ w.heap.size + 2) (Nat.le_refl _) (Keeps.go (SameIn.set w1 (g := w.heap.size + 1) (j := 0) (.slice p1 x.length c1) (by omega)) hr1))
  have HBE := hide ((HB0.out.trans (hb1.mono (by omega))).setCell (p := ⟨w.heap.size + 1, 0, none⟩) (by show w.heap.size ≤ w.heap.size + 1; omega) (.slice p1 x.length c1))
  clear hr1 hb1 r1 es hw1
  go_wp2
  exact bodyPost_ret (v := .agg #[.slice p1 x.length c1]) (by simp [results, Tryz.results105, go_sem, q1]) rfl ⟨_, _, rfl, HRE.out, HBE.out⟩
set_option maxHeartbeats 4000000 in
theorem copyEachRep_any (v : Value) (xs : List (List (List ByteArray))) (w : World) (hn : wFld xs ≤ 1048576) (hr : RL 0 (RRep 0) w v xs) :
    Calls Tryz.prog 104 #[v, .func (.func 105) #[] #[]] w fun e w' => ∃ p c, e = .returned (.slice p xs.length c) ∧ OL 126 ORep w.heap.size w'.heap.size w' (.slice p xs.length c) xs ∧ Below w.heap.size w w' := by
  obtain ⟨i0, hi, hz0, hz1, hz2⟩ := info_parts Tryz.infoCopyRep
  have hl : xs.length ≤ 1048576 := Nat.le_trans (wL_len _ xs) hn
  have HM : Hid (∀ i (h : i < xs.length), wRep xs[i] ≤ 1048576) := fun i h => by have := wL_mem wRep (List.getElem_mem h); have : wL wRep xs ≤ 1048576 := hn; omega
  clear hn
  obtain ⟨p, cap, rfl, h1, h2, h4⟩ := hr
  have H4 := hide h4
  unfold maxLen at h2
  clear h4
  have HO := hide (World.ownsRow_nil w w.heap.size 126 1)
  have HZC := hide (show (Value.agg #[.slice none 0 0]).cells.size = 1 from rfl)
  go_enter Tryz.func104, Tryz.ntmps104
  go_wp2_with fail
  go_loopw [5, 10] (fun l i wr => ∃ (X : World) (k : Nat) (vs : List Value), X = wr ∧ k ≤ xs.length ∧ i = .int .i64 (k : Int) ∧ Hid (X.ownsRow w.heap.size 126 1 l k vs) ∧ Hid (Below w.heap.size w X) ∧ Hid (vs.length = k) ∧ Hid (∃ A B : Nat → Nat, (∀ j (h1 : j < vs.length) (h2 : j < xs.length), w.heap.size ≤ A j ∧ B j ≤ X.heap.size ∧ (∀ g, l.ownBlock = some g → B j ≤ g ∨ g < A j) ∧ ORep (A j) (B j) X vs[j] xs[j]) ∧ ∀ i j, i < j → j < k → B i ≤ A j)) (fun _ i _ => xs.length - (intOf i).toNat)
  case atStart => exact ⟨_, 0, [], rfl, Nat.zero_le _, rfl, HO, hide (Below.refl _ _), hide rfl, hide ⟨fun _ => 0, fun _ => 0, fun j h1 _ => absurd h1 (by simp), fun i j _ h => absurd h (by omega)⟩⟩
  case round =>
    obtain ⟨X, k, vs, rfl, hk, rfl, HOw, HB, HLn, HEl⟩ := hrel
    by_cases hlt : k < xs.length
    · obtain ⟨g, off, hp, hg, _, hc⟩ := H4.out (by omega)
      subst hp
      obtain ⟨u, hu, hru⟩ := hc k hlt
      have hck : X.cell? ⟨g, off + k, none⟩ = some u := by rw [HB.out.cell (p := ⟨g, off + k, none⟩) hg]; exact hu
      have HRU := hide (hru.below HB.out)
      obtain ⟨up, uc, rfl⟩ := hru.isSlice
      have HXM := hide (HM.out k hlt)
      have hbA : Below X.heap.size X (X.alloc (.cells #[.slice up (xs[k]'hlt).length uc] 126)) := (Below.refl _ _).alloc (Nat.le_refl _) _
      have HBA := hide (HB.out.alloc HB.out.size (.cells #[.slice up (xs[k]'hlt).length uc] 126))
      have HRA := hide (HRU.out.below hbA)
      have HOA := hide (HOw.out.alloc (.cells #[.slice up (xs[k]'hlt).length uc] 126))
      have HSA : Hid ((X.alloc (.cells #[.slice up (xs[k]'hlt).length uc] 126)).heap.size = X.heap.size + 1) := hide (by simp)
      have HSI : Hid (∀ a b, SameIn a b X (X.alloc (.cells #[.slice up (xs[k]'hlt).length uc] 126))) := hide (fun a b => SameIn.ofBelow hbA)
      clear hu hc hru hbA
      go_wp2_with fail
      obtain ⟨X1, hX1⟩ : ∃ X1, X1 = X.alloc (.cells #[.slice up (xs[k]'hlt).length uc] 126) := ⟨_, rfl⟩
      rw [← hX1] at HBA HRA HOA HSA HSI ⊢
      clear hX1 hck
      refine (copyRep_any _ (xs[k]'hlt) _ HXM.out HRA.out).mono ?_
      rintro e w2 ⟨p2, c2, rfl, hr2, hb2⟩
      have HR2 := hide hr2
      have HO2 := hide ((own_below HOA.out hb2).alloc (.cells #[.slice p2 (xs[k]'hlt).length c2] 126))
      have HBm := hide (HBA.out.trans (hb2.mono HBA.out.size))
      have HB2 := hide (HBm.out.alloc HBm.out.size (.cells #[.slice p2 (xs[k]'hlt).length c2] 126))
      have HLT := hide HOw.out.lt
      have HB22 := hide hb2
      clear hb2 hr2
      go_wp2_with (at_builtin; refine wpList_append_own_at (w2.alloc (.cells #[.slice p2 (xs[k]'hlt).length c2] 126)) rfl (.tmp 14) (.tmp 18) 106 rfl w.heap.size 126 i0 _ 1 24 Tryz.underlying106 hi hz0 hz1 hz2 HZC.out (by omega) _ k vs rfl HO2.out ⟨w2.heap.size, 0, none⟩ 1 _ [.slice p2 (xs[k]'hlt).length c2] rfl rfl (cell_one_new _ _ _) (by simp [Value.oneCell']) (by unfold maxLen; omega) (by omega) (by have := HB2.out.size; exact this) ?_)
      intro v' w3 hown hgrow _ hat
      have HO3 := hide hown
      have HB3 := hide (HB2.out.grown hgrow HB2.out.size (fun k hk => (HO2.out.lt k hk).1))
      have HLn2 : Hid ((vs ++ [Value.slice p2 (xs[k]'hlt).length c2]).length = k + 1) := by rw [List.length_append, HLn.out]; exact rfl
      have HEl2 : Hid (∃ A B : Nat → Nat, (∀ j (h1 : j < (vs ++ [Value.slice p2 (xs[k]'hlt).length c2]).length) (h2 : j < xs.length), w.heap.size ≤ A j ∧ B j ≤ w3.heap.size ∧ (∀ g, v'.ownBlock = some g → B j ≤ g ∨ g < A j) ∧ ORep (A j) (B j) w3 (vs ++ [Value.slice p2 (xs[k]'hlt).length c2])[j] xs[j]) ∧ ∀ i j, i < j → j < k + 1 → B i ≤ A j) := by
        obtain ⟨A, B, hE, hD⟩ := HEl.out
        have hs2 := HB22.out.size
        have hs3 := hgrow.size
        have hsa : (w2.alloc (.cells #[.slice p2 (xs[k]'hlt).length c2] 126)).heap.size = w2.heap.size + 1 := by simp
        have hwX := HB.out.size
        have hsX := HSA.out
        refine ⟨fun i => if i = k then X.heap.size + 1 else A i, fun i => if i = k then w2.heap.size else B i, fun j h1 h2 => ?_, fun i j hij hj => ?_⟩
        · rw [HLn2.out] at h1
          dsimp only
          by_cases hj : j = k
          · subst hj
            rw [if_pos rfl, if_pos rfl, List.getElem_append_right (by rw [HLn.out]; exact Nat.le_refl _)]
            simp only [HLn.out, Nat.sub_self, List.getElem_cons_zero]
            refine ⟨by omega, by omega, fun g hg => ?_, ?_⟩
            · rcases hat with h | h
              · rw [h] at hg
                exact .inr (by have := (HLT.out g hg).2; omega)
              · rw [h] at hg
                cases hg
                exact .inl (by first | omega | (rw [hsa]; omega))
            · rw [hsX] at HR2
              refine Keeps.go (grown_in hgrow (fun g hg => .inr (by have := (HLT.out g hg).2; omega))) (Keeps.go (SameIn.ofBelow ((Below.refl _ _).alloc (Nat.le_refl _) _)) HR2.out)
          · have hjk : j < vs.length := by rw [HLn.out]; omega
            obtain ⟨f1, f2, f3, f4⟩ := hE j hjk h2
            rw [if_neg hj, if_neg hj, List.getElem_append_left hjk]
            refine ⟨f1, by omega, fun g hg => ?_, ?_⟩
            · rcases hat with h | h
              · rw [h] at hg
                exact f3 g hg
              · rw [h] at hg
                cases hg
                exact .inl (by first | omega | (rw [hsa]; omega))
            · exact Keeps.go (grown_in hgrow f3) (Keeps.go (SameIn.ofBelow ((Below.refl _ _).alloc (Nat.le_refl _) _)) (Keeps.go (SameIn.ofBelow HB22.out) (Keeps.go (HSI.out _ _) f4)))
        · have hik : i < vs.length := by rw [HLn.out]; omega
          obtain ⟨f1, f2, f3, f4⟩ := hE i hik (by omega)
          dsimp only
          by_cases hjk : j = k
          · rw [if_pos hjk, if_neg (by omega)]; omega
          · rw [if_neg hjk, if_neg (by omega)]; exact hD i j hij (by omega)
      clear hown hgrow hat
      go_wp2
      go_roundw
      case rel => exact ⟨_, k + 1, _, rfl, by omega, by go_num, HO3, HB3, HLn2, HEl2⟩
      case measure => simp [intOf]; omega
    · have ek : k = xs.length := by omega
      rcases own_block HOw.out with ⟨hn, rfl⟩ | ⟨g, cap2, rest, rfl, hbg, hgs, hnc, hcm, hcr, hrow⟩
      · have HN := hide (show xs.length = 0 by omega)
        clear hn
        go_wp2
        go_ret
        refine ⟨none, 0, by rw [HN.out]; rfl, ⟨none, 0, rfl, by rw [HN.out]; exact Nat.le_refl 0, by unfold maxLen; omega, fun h => by rw [HN.out] at h; omega⟩, HB.out⟩
      · have HF : Hid (OL 126 ORep w.heap.size X.heap.size X (.slice (some ⟨g, 0, none⟩) xs.length cap2) xs) := by
          obtain ⟨A, B, hE, hD⟩ := HEl.out
          have hvl := HLn.out
          exact ⟨_, _, rfl, by omega, hcm, fun _ => ⟨g, vs, rest, A, B, rfl, hbg, hgs, hrow, by omega, fun i h1 h2 => by
            obtain ⟨f1, f2, f3, f4⟩ := hE i h1 h2
            exact ⟨f1, f2, f3 g rfl, f4⟩, fun i j h1 h2 => hD i j h1 (by omega)⟩⟩
        have HK := hide ek
        clear hrow hbg hgs hcr ek
        go_wp2
        go_ret
        exact ⟨_, _, by rw [← HK.out]; rfl, HF.out, HB.out⟩
theorem Tryz.infoCopyField : (Tryz.prog.info? 108).map (fun i => (i.zero, i.size, i.bytes)) = some (some (.agg #[.slice none 0 0]), 1, 24) := by kernel_rfl
set_option maxHeartbeats 2000000 in
theorem copyField_any (u : Value) (x : List (List (List ByteArray))) (w : World) (hn : wFld x ≤ 1048576) (hr : RFld 0 w u x) :
    Calls Tryz.prog 89 #[.agg #[u]] w fun e w' => ∃ p c, e = .returned (.agg #[.slice p x.length c]) ∧ OFld w.heap.size w'.heap.size w' (.slice p x.length c) x ∧ Below w.heap.size w w' := by
  obtain ⟨p, c, rfl⟩ := hr.isSlice
  obtain ⟨W, hW⟩ : ∃ W, W = (w.alloc (.cells #[.slice p x.length c] 108)).alloc (.cells #[.slice none 0 0] 108) := ⟨_, rfl⟩
  have hb0 : Below w.heap.size w W := by rw [hW]; exact ((Below.refl _ _).alloc (Nat.le_refl _) _).alloc (by simp) _
  have HR := hide (hr.below hb0)
  have HB0 := hide hb0
  have R1 : Row W (w.heap.size + 1) 108 [.slice none 0 0] := by
    rw [hW]
    have := row_new (w.alloc (.cells #[.slice p x.length c] 108)) [.slice none 0 0] 108
    simpa using this
  have hsz : W.heap.size = w.heap.size + 2 := by rw [hW]; simp
  clear hr hb0
  go_enter Tryz.func89, Tryz.ntmps89
  go_wp2_with fail
  rw [← hW]
  refine (copyEachRep_any _ x _ hn HR.out).mono ?_
  rintro e w1 ⟨p1, c1, rfl, hr1, hb1⟩
  clear hW
  have r1 := R1.below hb1 (by omega)
  have f1 : w1.cell? ⟨w.heap.size + 1, 0, none⟩ = some (.slice none 0 0) := r1.cell 0
  have z1 := r1.free 0
  have q1 : (w1.setCell ⟨w.heap.size + 1, 0, none⟩ (.slice p1 x.length c1)).cell? ⟨w.heap.size + 1, 0, none⟩ = some (.slice p1 x.length c1) := (r1.set (j := 0) (.slice p1 x.length c1)).cell 0
  have hw1 : w.heap.size + 2 ≤ w1.heap.size := by rw [← hsz]; exact hb1.size
  rw [hsz] at hr1
  have es : (w1.setCell ⟨w.heap.size + 1, 0, none⟩ (.slice p1 x.length c1)).heap.size = w1.heap.size := by simp [World.setCell]
  have HRE : Hid (OFld w.heap.size (w1.setCell ⟨w.heap.size + 1, 0, none⟩ (.slice p1 x.length c1)).heap.size (w1.setCell ⟨w.heap.size + 1, 0, none⟩ (.slice p1 x.length c1)) (.slice p1 x.length c1) x) := hide (by
    rw [es]
    exact Keeps.wide (by omega : w.heap.size ≤ w.heap.size + 2) (Nat.le_refl _) (Keeps.go (SameIn.set w1 (g := w.heap.size + 1) (j := 0) (.slice p1 x.length c1) (by omega)) hr1))
  have HBE := hide ((HB0.out.trans (hb1.mono (by omega))).setCell (p := ⟨w.heap.size + 1, 0, none⟩) (by show w.heap.size ≤ w.heap.size + 1; omega) (.slice p1 x.length c1))
  clear hr1 hb1 r1 es hw1
  go_wp2
  exact bodyPost_ret (v := .agg #[.slice p1 x.length c1]) (by simp [results, Tryz.results89, go_sem, q1]) rfl ⟨_, _, rfl, HRE.out, HBE.out⟩
set_option maxHeartbeats 4000000 in
theorem copyEachField_any (v : Value) (xs : List (List (List (List ByteArray)))) (w : World) (hn : wFlds xs ≤ 1048576) (hr : RL 0 (RFld 0) w v xs) :
    Calls Tryz.prog 88 #[v, .func (.func 89) #[] #[]] w fun e w' => ∃ p c, e = .returned (.slice p xs.length c) ∧ OL 108 OFld w.heap.size w'.heap.size w' (.slice p xs.length c) xs ∧ Below w.heap.size w w' := by
  obtain ⟨i0, hi, hz0, hz1, hz2⟩ := info_parts Tryz.infoCopyField
  have hl : xs.length ≤ 1048576 := Nat.le_trans (wL_len _ xs) hn
  have HM : Hid (∀ i (h : i < xs.length), wFld xs[i] ≤ 1048576) := fun i h => by have := wL_mem wFld (List.getElem_mem h); have : wL wFld xs ≤ 1048576 := hn; omega
  clear hn
  obtain ⟨p, cap, rfl, h1, h2, h4⟩ := hr
  have H4 := hide h4
  unfold maxLen at h2
  clear h4
  have HO := hide (World.ownsRow_nil w w.heap.size 108 1)
  have HZC := hide (show (Value.agg #[.slice none 0 0]).cells.size = 1 from rfl)
  go_enter Tryz.func88, Tryz.ntmps88
  go_wp2_with fail
  go_loopw [5, 10] (fun l i wr => ∃ (X : World) (k : Nat) (vs : List Value), X = wr ∧ k ≤ xs.length ∧ i = .int .i64 (k : Int) ∧ Hid (X.ownsRow w.heap.size 108 1 l k vs) ∧ Hid (Below w.heap.size w X) ∧ Hid (vs.length = k) ∧ Hid (∃ A B : Nat → Nat, (∀ j (h1 : j < vs.length) (h2 : j < xs.length), w.heap.size ≤ A j ∧ B j ≤ X.heap.size ∧ (∀ g, l.ownBlock = some g → B j ≤ g ∨ g < A j) ∧ OFld (A j) (B j) X vs[j] xs[j]) ∧ ∀ i j, i < j → j < k → B i ≤ A j)) (fun _ i _ => xs.length - (intOf i).toNat)
  case atStart => exact ⟨_, 0, [], rfl, Nat.zero_le _, rfl, HO, hide (Below.refl _ _), hide rfl, hide ⟨fun _ => 0, fun _ => 0, fun j h1 _ => absurd h1 (by simp), fun i j _ h => absurd h (by omega)⟩⟩
  case round =>
    obtain ⟨X, k, vs, rfl, hk, rfl, HOw, HB, HLn, HEl⟩ := hrel
    by_cases hlt : k < xs.length
    · obtain ⟨g, off, hp, hg, _, hc⟩ := H4.out (by omega)
      subst hp
      obtain ⟨u, hu, hru⟩ := hc k hlt
      have hck : X.cell? ⟨g, off + k, none⟩ = some u := by rw [HB.out.cell (p := ⟨g, off + k, none⟩) hg]; exact hu
      have HRU := hide (hru.below HB.out)
      obtain ⟨up, uc, rfl⟩ := hru.isSlice
      have HXM := hide (HM.out k hlt)
      have hbA : Below X.heap.size X (X.alloc (.cells #[.slice up (xs[k]'hlt).length uc] 108)) := (Below.refl _ _).alloc (Nat.le_refl _) _
      have HBA := hide (HB.out.alloc HB.out.size (.cells #[.slice up (xs[k]'hlt).length uc] 108))
      have HRA := hide (HRU.out.below hbA)
      have HOA := hide (HOw.out.alloc (.cells #[.slice up (xs[k]'hlt).length uc] 108))
      have HSA : Hid ((X.alloc (.cells #[.slice up (xs[k]'hlt).length uc] 108)).heap.size = X.heap.size + 1) := hide (by simp)
      have HSI : Hid (∀ a b, SameIn a b X (X.alloc (.cells #[.slice up (xs[k]'hlt).length uc] 108))) := hide (fun a b => SameIn.ofBelow hbA)
      clear hu hc hru hbA
      go_wp2_with fail
      obtain ⟨X1, hX1⟩ : ∃ X1, X1 = X.alloc (.cells #[.slice up (xs[k]'hlt).length uc] 108) := ⟨_, rfl⟩
      rw [← hX1] at HBA HRA HOA HSA HSI ⊢
      clear hX1 hck
      refine (copyField_any _ (xs[k]'hlt) _ HXM.out HRA.out).mono ?_
      rintro e w2 ⟨p2, c2, rfl, hr2, hb2⟩
      have HR2 := hide hr2
      have HO2 := hide ((own_below HOA.out hb2).alloc (.cells #[.slice p2 (xs[k]'hlt).length c2] 108))
      have HBm := hide (HBA.out.trans (hb2.mono HBA.out.size))
      have HB2 := hide (HBm.out.alloc HBm.out.size (.cells #[.slice p2 (xs[k]'hlt).length c2] 108))
      have HLT := hide HOw.out.lt
      have HB22 := hide hb2
      clear hb2 hr2
      go_wp2_with (at_builtin; refine wpList_append_own_at (w2.alloc (.cells #[.slice p2 (xs[k]'hlt).length c2] 108)) rfl (.tmp 14) (.tmp 18) 83 rfl w.heap.size 108 i0 _ 1 24 Tryz.underlying83 hi hz0 hz1 hz2 HZC.out (by omega) _ k vs rfl HO2.out ⟨w2.heap.size, 0, none⟩ 1 _ [.slice p2 (xs[k]'hlt).length c2] rfl rfl (cell_one_new _ _ _) (by simp [Value.oneCell']) (by unfold maxLen; omega) (by omega) (by have := HB2.out.size; exact this) ?_)
      intro v' w3 hown hgrow _ hat
      have HO3 := hide hown
      have HB3 := hide (HB2.out.grown hgrow HB2.out.size (fun k hk => (HO2.out.lt k hk).1))
      have HLn2 : Hid ((vs ++ [Value.slice p2 (xs[k]'hlt).length c2]).length = k + 1) := by rw [List.length_append, HLn.out]; exact rfl
      have HEl2 : Hid (∃ A B : Nat → Nat, (∀ j (h1 : j < (vs ++ [Value.slice p2 (xs[k]'hlt).length c2]).length) (h2 : j < xs.length), w.heap.size ≤ A j ∧ B j ≤ w3.heap.size ∧ (∀ g, v'.ownBlock = some g → B j ≤ g ∨ g < A j) ∧ OFld (A j) (B j) w3 (vs ++ [Value.slice p2 (xs[k]'hlt).length c2])[j] xs[j]) ∧ ∀ i j, i < j → j < k + 1 → B i ≤ A j) := by
        obtain ⟨A, B, hE, hD⟩ := HEl.out
        have hs2 := HB22.out.size
        have hs3 := hgrow.size
        have hsa : (w2.alloc (.cells #[.slice p2 (xs[k]'hlt).length c2] 108)).heap.size = w2.heap.size + 1 := by simp
        have hwX := HB.out.size
        have hsX := HSA.out
        refine ⟨fun i => if i = k then X.heap.size + 1 else A i, fun i => if i = k then w2.heap.size else B i, fun j h1 h2 => ?_, fun i j hij hj => ?_⟩
        · rw [HLn2.out] at h1
          dsimp only
          by_cases hj : j = k
          · subst hj
            rw [if_pos rfl, if_pos rfl, List.getElem_append_right (by rw [HLn.out]; exact Nat.le_refl _)]
            simp only [HLn.out, Nat.sub_self, List.getElem_cons_zero]
            refine ⟨by omega, by omega, fun g hg => ?_, ?_⟩
            · rcases hat with h | h
              · rw [h] at hg
                exact .inr (by have := (HLT.out g hg).2; omega)
              · rw [h] at hg
                cases hg
                exact .inl (by first | omega | (rw [hsa]; omega))
            · rw [hsX] at HR2
              refine Keeps.go (grown_in hgrow (fun g hg => .inr (by have := (HLT.out g hg).2; omega))) (Keeps.go (SameIn.ofBelow ((Below.refl _ _).alloc (Nat.le_refl _) _)) HR2.out)
          · have hjk : j < vs.length := by rw [HLn.out]; omega
            obtain ⟨f1, f2, f3, f4⟩ := hE j hjk h2
            rw [if_neg hj, if_neg hj, List.getElem_append_left hjk]
            refine ⟨f1, by omega, fun g hg => ?_, ?_⟩
            · rcases hat with h | h
              · rw [h] at hg
                exact f3 g hg
              · rw [h] at hg
                cases hg
                exact .inl (by first | omega | (rw [hsa]; omega))
            · exact Keeps.go (grown_in hgrow f3) (Keeps.go (SameIn.ofBelow ((Below.refl _ _).alloc (Nat.le_refl _) _)) (Keeps.go (SameIn.ofBelow HB22.out) (Keeps.go (HSI.out _ _) f4)))
        · have hik : i < vs.length := by rw [HLn.out]; omega
          obtain ⟨f1, f2, f3, f4⟩ := hE i hik (by omega)
          dsimp only
          by_cases hjk : j = k
          · rw [if_pos hjk, if_neg (by omega)]; omega
          · rw [if_neg hjk, if_neg (by omega)]; exact hD i j hij (by omega)
      clear hown hgrow hat
      go_wp2
      go_roundw
      case rel => exact ⟨_, k + 1, _, rfl, by omega, by go_num, HO3, HB3, HLn2, HEl2⟩
      case measure => simp [intOf]; omega
    · have ek : k = xs.length := by omega
      rcases own_block HOw.out with ⟨hn, rfl⟩ | ⟨g, cap2, rest, rfl, hbg, hgs, hnc, hcm, hcr, hrow⟩
      · have HN := hide (show xs.length = 0 by omega)
        clear hn
        go_wp2
        go_ret
        refine ⟨none, 0, by rw [HN.out]; rfl, ⟨none, 0, rfl, by rw [HN.out]; exact Nat.le_refl 0, by unfold maxLen; omega, fun h => by rw [HN.out] at h; omega⟩, HB.out⟩
      · have HF : Hid (OL 108 OFld w.heap.size X.heap.size X (.slice (some ⟨g, 0, none⟩) xs.length cap2) xs) := by
          obtain ⟨A, B, hE, hD⟩ := HEl.out
          have hvl := HLn.out
          exact ⟨_, _, rfl, by omega, hcm, fun _ => ⟨g, vs, rest, A, B, rfl, hbg, hgs, hrow, by omega, fun i h1 h2 => by
            obtain ⟨f1, f2, f3, f4⟩ := hE i h1 h2
            exact ⟨f1, f2, f3 g rfl, f4⟩, fun i j h1 h2 => hD i j h1 (by omega)⟩⟩
        have HK := hide ek
        clear hrow hbg hgs hcr ek
        go_wp2
        go_ret
        exact ⟨_, _, by rw [← HK.out]; rfl, HF.out, HB.out⟩
end Go.Proofs.YtholbhjfmfanbaaGreat
