/- The program's copies: each list in a row of its own. -/
import Derived.Test.YtmkcmajpepehmaaGreatXG2OTree
import Derived.Test.YtmkcmajpepehmaaGreatXG6FMsgT
import Derived.Test.YtmkcmajpepehmaaGreatXG11Stab
import Derived.Test.YtmkcmajpepehmaaGreatXG4FNestE
import Derived.Maps.AppendAt
import Derived.Test.YtmkcmajpepehmaaGreatXG10Copy
import Derived.OrdersHeld
import Derived.Deep.RegionHeld3
namespace Go.Proofs.YtmkcmajpepehmaaGreat
open Go.RowKit
theorem own_block {w : World} {B : Nat} {T : TypeId} {n : Nat} {v : Value} {vs : List Value} (h : w.ownsRow B T 1 v n vs) : (n = 0 ∧ v = .slice none 0 0) ∨ ∃ g cap rest, v = .slice (some ⟨g, 0, none⟩) n cap ∧ B ≤ g ∧ g < w.heap.size ∧ n ≤ cap ∧ cap ≤ maxLen ∧ n + rest.length = cap ∧ Row w g T (vs ++ rest) := by
  have hl := h.1
  have hlt := h.lt
  rcases h.2 with ⟨rfl, hn⟩ | ⟨g, cap, cur, rfl, hbg, hg, hnc, hcm, hcs, htake⟩
  · exact .inl ⟨hn, rfl⟩
  · refine .inr ⟨g, cap, cur.toList.drop n, rfl, hbg, (hlt g rfl).2, hnc, hcm, ?_, ?_⟩
    · rw [List.length_drop]; simp; omega
    · rw [Nat.mul_one] at htake
      have e : vs ++ cur.toList.drop n = cur.toList := by rw [← htake, List.take_append_drop]
      rw [e]
      simpa [Row] using hg
theorem grown_in {w w' : World} {row : Option Nat} {a b : Nat} (h : w.grownBy w' row) (hr : ∀ g, row = some g → b ≤ g ∨ g < a) : SameIn a b w w' := fun k h1 h2 hk => h.block k hk (fun e => by have := hr k e.symm; omega)
theorem own_below {w w' : World} {B n sz : Nat} {T : TypeId} {v : Value} {vs : List Value} (h : w.ownsRow B T sz v n vs) (hb : Below w.heap.size w w') : w'.ownsRow B T sz v n vs :=
  h.kept (row := none) ⟨hb.os, hb.tape, hb.output, hb.size, fun k hk _ => hb.block k hk⟩ (by cases hv : v.ownBlock <;> simp)
theorem Tryz.infoCopyString : (Tryz.prog.info? 9).map (fun i => (i.zero, i.size, i.bytes)) = some (some (.string ⟨#[]⟩), 1, 16) := by kernel_rfl
set_option maxHeartbeats 4000000 in
theorem copyEachS_any (v : Value) (xs : List ByteArray) (w : World) (hn : wComp xs ≤ 1048576) (hr : RComp 0 w v xs) :
    Calls Tryz.prog 130 #[v, .func (.func 54) #[] #[]] w fun e w' => ∃ p c, e = .returned (.slice p xs.length c) ∧ OComp w.heap.size w'.heap.size w' (.slice p xs.length c) xs ∧ Below w.heap.size w w' := by
  obtain ⟨i0, hi, hz0, hz1, hz2⟩ := info_parts Tryz.infoCopyString
  have hl : xs.length ≤ 1048576 := Nat.le_trans (wL_len _ xs) hn
  have HM : Hid (∀ i (h : i < xs.length), xs[i].size ≤ 1048576) := fun i h => by have := wL_mem ByteArray.size (List.getElem_mem h); have : wL ByteArray.size xs ≤ 1048576 := hn; omega
  have HS := hide hr.sizes
  clear hn
  obtain ⟨p, cap, rfl, h1, h2, h4⟩ := hr
  have H4 := hide h4
  unfold maxLen at h2
  clear h4
  have HO := hide (World.ownsRow_nil w w.heap.size 9 1)
  have HZC := hide (show (Value.string ⟨#[]⟩).cells.size = 1 from rfl)
  go_enter Tryz.func130, Tryz.ntmps130
  go_wp2_with fail
  go_loopw [5, 10] (fun l i wr => ∃ (X : World) (k : Nat), X = wr ∧ k ≤ xs.length ∧ i = .int .i64 (k : Int) ∧ Hid (X.ownsRow w.heap.size 9 1 l k (strs (xs.take k))) ∧ Hid (Below w.heap.size w X)) (fun _ i _ => xs.length - (intOf i).toNat)
  case atStart => exact ⟨_, 0, rfl, Nat.zero_le _, rfl, HO, hide (Below.refl _ _)⟩
  case round =>
    obtain ⟨X, k, rfl, hk, rfl, HOw, HB⟩ := hrel
    by_cases hlt : k < xs.length
    · obtain ⟨g, off, hp, hg, _, hc⟩ := H4.out (by omega)
      subst hp
      obtain ⟨u, hu, rfl, _⟩ := hc k hlt
      have hck : X.cell? ⟨g, off + k, none⟩ = some (.string (xs[k]'hlt)) := by rw [HB.out.cell (p := ⟨g, off + k, none⟩) hg]; exact hu
      have HXM := hide (HM.out k hlt)
      have HT : Hid (strs (xs.take k) ++ [.string (xs[k]'hlt)] = strs (xs.take (k + 1))) := by rw [List.take_succ_eq_append_getElem hlt]; unfold strs; rw [List.map_append]; exact rfl
      clear hu hc
      generalize (xs[k]'hlt) = y at *
      go_wp2_with fail
      refine (clone_any y _ (by have := HXM.out; omega)).mono ?_
      rintro e w2 ⟨rfl, hb2⟩
      have HO2 := hide ((own_below HOw.out hb2).alloc (.cells #[.string y] 9))
      have HB2 := hide ((HB.out.trans (hb2.mono HB.out.size)).alloc (HB.out.trans (hb2.mono HB.out.size)).size (.cells #[.string y] 9))
      clear hb2 hck
      go_wp2_with (at_builtin; refine wpList_append_own_at (w2.alloc (.cells #[.string y] 9)) rfl (.tmp 14) (.tmp 18) 89 rfl w.heap.size 9 i0 _ 1 16 Tryz.underlying89 hi hz0 hz1 hz2 HZC.out (by omega) _ k (strs (xs.take k)) rfl HO2.out ⟨w2.heap.size, 0, none⟩ 1 _ [.string y] rfl rfl (cell_one_new _ _ _) (by simp [Value.oneCell']) (by unfold maxLen; omega) (by omega) (by have := HB2.out.size; exact this) ?_)
      intro v' w3 hown hgrow _ _
      rw [HT.out] at hown
      have HO3 := hide hown
      have HB3 := hide (HB2.out.grown hgrow HB2.out.size (fun k hk => (HO2.out.lt k hk).1))
      clear hown hgrow
      go_wp2
      go_roundw
      case rel => exact ⟨_, k + 1, rfl, by omega, by go_num, HO3, HB3⟩
      case measure => simp [intOf]; omega
    · have HOF := HOw
      have ek : k = xs.length := by omega
      rw [ek, List.take_of_length_le (Nat.le_refl _)] at HOF
      rcases own_block HOF.out with ⟨hn, rfl⟩ | ⟨g, cap2, rest, rfl, hbg, hgs, hnc, hcm, hcr, hrow⟩
      · have HN := hide hn
        clear hn
        go_wp2
        go_ret
        refine ⟨none, 0, by rw [HN.out]; rfl, ⟨none, 0, rfl, by rw [HN.out]; exact Nat.le_refl 0, by unfold maxLen; omega, HS.out, fun h => by rw [HN.out] at h; omega⟩, HB.out⟩
      · have HF := hide (show OComp w.heap.size X.heap.size X (.slice (some ⟨g, 0, none⟩) xs.length cap2) xs from ⟨_, _, rfl, hnc, hcm, HS.out, fun _ => ⟨g, rest, rfl, hbg, hgs, hcr, hrow⟩⟩)
        clear hrow hbg hgs hcr
        go_wp2
        go_ret
        exact ⟨_, _, rfl, HF.out, HB.out⟩
theorem Tryz.infoCopyComp : (Tryz.prog.info? 91).map (fun i => (i.zero, i.size, i.bytes)) = some (some (.agg #[.slice none 0 0]), 1, 24) := by kernel_rfl
set_option maxHeartbeats 2000000 in
theorem copyComp_any (u : Value) (x : List ByteArray) (w : World) (hn : wComp x ≤ 1048576) (hr : RComp 0 w u x) :
    Calls Tryz.prog 108 #[.agg #[u]] w fun e w' => ∃ p c, e = .returned (.agg #[.slice p x.length c]) ∧ OComp w.heap.size w'.heap.size w' (.slice p x.length c) x ∧ Below w.heap.size w w' := by
  obtain ⟨p, c, rfl⟩ := hr.isSlice
  obtain ⟨W, hW⟩ : ∃ W, W = (w.alloc (.cells #[.slice p x.length c] 91)).alloc (.cells #[.slice none 0 0] 91) := ⟨_, rfl⟩
  have hb0 : Below w.heap.size w W := by rw [hW]; exact ((Below.refl _ _).alloc (Nat.le_refl _) _).alloc (by simp) _
  have HR := hide (hr.below hb0)
  have HB0 := hide hb0
  have R1 : Row W (w.heap.size + 1) 91 [.slice none 0 0] := by
    rw [hW]
    have := row_new (w.alloc (.cells #[.slice p x.length c] 91)) [.slice none 0 0] 91
    simpa using this
  have hsz : W.heap.size = w.heap.size + 2 := by rw [hW]; simp
  clear hr hb0
  go_enter Tryz.func108, Tryz.ntmps108
  go_wp2_with fail
  rw [← hW]
  refine (copyEachS_any _ x _ hn HR.out).mono ?_
  rintro e w1 ⟨p1, c1, rfl, hr1, hb1⟩
  clear hW
  have r1 := R1.below hb1 (by omega)
  have f1 : w1.cell? ⟨w.heap.size + 1, 0, none⟩ = some (.slice none 0 0) := r1.cell 0
  have z1 := r1.free 0
  have q1 : (w1.setCell ⟨w.heap.size + 1, 0, none⟩ (.slice p1 x.length c1)).cell? ⟨w.heap.size + 1, 0, none⟩ = some (.slice p1 x.length c1) := (r1.set (j := 0) (.slice p1 x.length c1)).cell 0
  have hw1 : w.heap.size + 2 ≤ w1.heap.size := by rw [← hsz]; exact hb1.size
  rw [hsz] at hr1
  have es : (w1.setCell ⟨w.heap.size + 1, 0, none⟩ (.slice p1 x.length c1)).heap.size = w1.heap.size := by simp [World.setCell]
  have HRE : Hid (OComp w.heap.size (w1.setCell ⟨w.heap.size + 1, 0, none⟩ (.slice p1 x.length c1)).heap.size (w1.setCell ⟨w.heap.size + 1, 0, none⟩ (.slice p1 x.length c1)) (.slice p1 x.length c1) x) := hide (by
    rw [es]
    exact Keeps.wide (by omega : w.heap.size ≤ w.heap.size + 2) (Nat.le_refl _) (Keeps.go (SameIn.set w1 (g := w.heap.size + 1) (j := 0) (.slice p1 x.length c1) (by omega)) hr1))
  have HBE := hide ((HB0.out.trans (hb1.mono (by omega))).setCell (p := ⟨w.heap.size + 1, 0, none⟩) (by show w.heap.size ≤ w.heap.size + 1; omega) (.slice p1 x.length c1))
  clear hr1 hb1 r1 es hw1
  go_wp2
  exact bodyPost_ret (v := .agg #[.slice p1 x.length c1]) (by simp [results, Tryz.results108, go_sem, q1]) rfl ⟨_, _, rfl, HRE.out, HBE.out⟩
set_option maxHeartbeats 4000000 in
theorem copyEachComp_any (v : Value) (xs : List (List ByteArray)) (w : World) (hn : wRep xs ≤ 1048576) (hr : RL 0 (RComp 0) w v xs) :
    Calls Tryz.prog 107 #[v, .func (.func 108) #[] #[]] w fun e w' => ∃ p c, e = .returned (.slice p xs.length c) ∧ OL 91 OComp w.heap.size w'.heap.size w' (.slice p xs.length c) xs ∧ Below w.heap.size w w' := by
  obtain ⟨i0, hi, hz0, hz1, hz2⟩ := info_parts Tryz.infoCopyComp
  have hl : xs.length ≤ 1048576 := Nat.le_trans (wL_len _ xs) hn
  have HM : Hid (∀ i (h : i < xs.length), wComp xs[i] ≤ 1048576) := fun i h => by have := wL_mem wComp (List.getElem_mem h); have : wL wComp xs ≤ 1048576 := hn; omega
  clear hn
  obtain ⟨p, cap, rfl, h1, h2, h4⟩ := hr
  have H4 := hide h4
  unfold maxLen at h2
  clear h4
  have HO := hide (World.ownsRow_nil w w.heap.size 91 1)
  have HZC := hide (show (Value.agg #[.slice none 0 0]).cells.size = 1 from rfl)
  go_enter Tryz.func107, Tryz.ntmps107
  go_wp2_with fail
  go_loopw [5, 10] (fun l i wr => ∃ (X : World) (k : Nat) (vs : List Value), X = wr ∧ k ≤ xs.length ∧ i = .int .i64 (k : Int) ∧ Hid (X.ownsRow w.heap.size 91 1 l k vs) ∧ Hid (Below w.heap.size w X) ∧ Hid (vs.length = k) ∧ Hid (∃ A B : Nat → Nat, (∀ j (h1 : j < vs.length) (h2 : j < xs.length), w.heap.size ≤ A j ∧ B j ≤ X.heap.size ∧ (∀ g, l.ownBlock = some g → B j ≤ g ∨ g < A j) ∧ OComp (A j) (B j) X vs[j] xs[j]) ∧ ∀ i j, i < j → j < k → B i ≤ A j)) (fun _ i _ => xs.length - (intOf i).toNat)
  case atStart => exact ⟨_, 0, [], rfl, Nat.zero_le _, rfl, HO, hide (Below.refl _ _), hide rfl, hide ⟨fun _ => 0, fun _ => 0, fun j h1 _ => absurd h1 (by simp), fun i j _ h => absurd h (by omega)⟩⟩
  case round =>
    obtain ⟨X, k, vs, rfl, hk, rfl, HOw, HB, HLn, HEl⟩ := hrel
    by_cases hlt : k < xs.length
    · obtain ⟨g, off, hp, hg, _, hc⟩ := H4.out (by omega)
      subst hp
      obtain ⟨u, hu, hru⟩ := hc k hlt
      have hck : X.cell? ⟨g, off + k, none⟩ = some u := by rw [HB.out.cell (p := ⟨g, off + k, none⟩) hg]; exact hu
      have HRU := hide (hru.below HB.out)
      obtain ⟨up, uc, rfl⟩ := hru.isSlice
      have HXM := hide (HM.out k hlt)
      have hbA : Below X.heap.size X (X.alloc (.cells #[.slice up (xs[k]'hlt).length uc] 91)) := (Below.refl _ _).alloc (Nat.le_refl _) _
      have HBA := hide (HB.out.alloc HB.out.size (.cells #[.slice up (xs[k]'hlt).length uc] 91))
      have HRA := hide (HRU.out.below hbA)
      have HOA := hide (HOw.out.alloc (.cells #[.slice up (xs[k]'hlt).length uc] 91))
      have HSA : Hid ((X.alloc (.cells #[.slice up (xs[k]'hlt).length uc] 91)).heap.size = X.heap.size + 1) := hide (by simp)
      have HSI : Hid (∀ a b, SameIn a b X (X.alloc (.cells #[.slice up (xs[k]'hlt).length uc] 91))) := hide (fun a b => SameIn.ofBelow hbA)
      clear hu hc hru hbA
      go_wp2_with fail
      obtain ⟨X1, hX1⟩ : ∃ X1, X1 = X.alloc (.cells #[.slice up (xs[k]'hlt).length uc] 91) := ⟨_, rfl⟩
      rw [← hX1] at HBA HRA HOA HSA HSI ⊢
      clear hX1 hck
      refine (copyComp_any _ (xs[k]'hlt) _ HXM.out HRA.out).mono ?_
      rintro e w2 ⟨p2, c2, rfl, hr2, hb2⟩
      have HR2 := hide hr2
      have HO2 := hide ((own_below HOA.out hb2).alloc (.cells #[.slice p2 (xs[k]'hlt).length c2] 91))
      have HBm := hide (HBA.out.trans (hb2.mono HBA.out.size))
      have HB2 := hide (HBm.out.alloc HBm.out.size (.cells #[.slice p2 (xs[k]'hlt).length c2] 91))
      have HLT := hide HOw.out.lt
      have HB22 := hide hb2
      clear hb2 hr2
      go_wp2_with (at_builtin; refine wpList_append_own_at (w2.alloc (.cells #[.slice p2 (xs[k]'hlt).length c2] 91)) rfl (.tmp 14) (.tmp 18) 86 rfl w.heap.size 91 i0 _ 1 24 Tryz.underlying86 hi hz0 hz1 hz2 HZC.out (by omega) _ k vs rfl HO2.out ⟨w2.heap.size, 0, none⟩ 1 _ [.slice p2 (xs[k]'hlt).length c2] rfl rfl (cell_one_new _ _ _) (by simp [Value.oneCell']) (by unfold maxLen; omega) (by omega) (by have := HB2.out.size; exact this) ?_)
      intro v' w3 hown hgrow _ hat
      have HO3 := hide hown
      have HB3 := hide (HB2.out.grown hgrow HB2.out.size (fun k hk => (HO2.out.lt k hk).1))
      have HLn2 : Hid ((vs ++ [Value.slice p2 (xs[k]'hlt).length c2]).length = k + 1) := by rw [List.length_append, HLn.out]; exact rfl
      have HEl2 : Hid (∃ A B : Nat → Nat, (∀ j (h1 : j < (vs ++ [Value.slice p2 (xs[k]'hlt).length c2]).length) (h2 : j < xs.length), w.heap.size ≤ A j ∧ B j ≤ w3.heap.size ∧ (∀ g, v'.ownBlock = some g → B j ≤ g ∨ g < A j) ∧ OComp (A j) (B j) w3 (vs ++ [Value.slice p2 (xs[k]'hlt).length c2])[j] xs[j]) ∧ ∀ i j, i < j → j < k + 1 → B i ≤ A j) := by
        obtain ⟨A, B, hE, hD⟩ := HEl.out
        have hs2 := HB22.out.size
        have hs3 := hgrow.size
        have hsa : (w2.alloc (.cells #[.slice p2 (xs[k]'hlt).length c2] 91)).heap.size = w2.heap.size + 1 := by simp
        have hwX := HB.out.size
        have hsX := HSA.out
        refine ⟨fun i => if i = k then X.heap.size + 1 else A i, fun i => if i = k then w2.heap.size else B i, fun j h1 h2 => ?_, fun i j hij hj => ?_⟩
        · rw [HLn2.out] at h1
          dsimp only
          by_cases hj : j = k
          · subst hj
            rw [if_pos rfl, if_pos rfl, List.getElem_append_right (by rw [HLn.out]; exact Nat.le_refl _)]
            simp only [HLn.out, Nat.sub_self, List.getElem_cons_zero]
            refine ⟨by omega, by omega, fun g hg => ?_, ?_⟩
            · rcases hat with h | h
              · rw [h] at hg
                exact .inr (by have := (HLT.out g hg).2; omega)
              · rw [h] at hg
                cases hg
                exact .inl (by first | omega | (rw [hsa]; omega))
            · rw [hsX] at HR2
              refine Keeps.go (grown_in hgrow (fun g hg => .inr (by have := (HLT.out g hg).2; omega))) (Keeps.go (SameIn.ofBelow ((Below.refl _ _).alloc (Nat.le_refl _) _)) HR2.out)
          · have hjk : j < vs.length := by rw [HLn.out]; omega
            obtain ⟨f1, f2, f3, f4⟩ := hE j hjk h2
            rw [if_neg hj, if_neg hj, List.getElem_append_left hjk]
            refine ⟨f1, by omega, fun g hg => ?_, ?_⟩
            · rcases hat with h | h
              · rw [h] at hg
                exact f3 g hg
              · rw [h] at hg
                cases hg
                exact .inl (by first | omega | (rw [hsa]; omega))
            · exact Keeps.go (grown_in hgrow f3) (Keeps.go (SameIn.ofBelow ((Below.refl _ _).alloc (Nat.le_refl _) _)) (Keeps.go (SameIn.ofBelow HB22.out) (Keeps.go (HSI.out _ _) f4)))
        · have hik : i < vs.length := by rw [HLn.out]; omega
          obtain ⟨f1, f2, f3, f4⟩ := hE i hik (by omega)
          dsimp only
          by_cases hjk : j = k
          · rw [if_pos hjk, if_neg (by omega)]; omega
          · rw [if_neg hjk, if_neg (by omega)]; exact hD i j hij (by omega)
      clear hown hgrow hat
      go_wp2
      go_roundw
      case rel => exact ⟨_, k + 1, _, rfl, by omega, by go_num, HO3, HB3, HLn2, HEl2⟩
      case measure => simp [intOf]; omega
    · have ek : k = xs.length := by omega
      rcases own_block HOw.out with ⟨hn, rfl⟩ | ⟨g, cap2, rest, rfl, hbg, hgs, hnc, hcm, hcr, hrow⟩
      · have HN := hide (show xs.length = 0 by omega)
        clear hn
        go_wp2
        go_ret
        refine ⟨none, 0, by rw [HN.out]; rfl, ⟨none, 0, rfl, by rw [HN.out]; exact Nat.le_refl 0, by unfold maxLen; omega, fun h => by rw [HN.out] at h; omega⟩, HB.out⟩
      · have HF : Hid (OL 91 OComp w.heap.size X.heap.size X (.slice (some ⟨g, 0, none⟩) xs.length cap2) xs) := by
          obtain ⟨A, B, hE, hD⟩ := HEl.out
          have hvl := HLn.out
          exact ⟨_, _, rfl, by omega, hcm, fun _ => ⟨g, vs, rest, A, B, rfl, hbg, hgs, hrow, by omega, fun i h1 h2 => by
            obtain ⟨f1, f2, f3, f4⟩ := hE i h1 h2
            exact ⟨f1, f2, f3 g rfl, f4⟩, fun i j h1 h2 => hD i j h1 (by omega)⟩⟩
        have HK := hide ek
        clear hrow hbg hgs hcr ek
        go_wp2
        go_ret
        exact ⟨_, _, by rw [← HK.out]; rfl, HF.out, HB.out⟩
theorem Tryz.infoCopyRep : (Tryz.prog.info? 88).map (fun i => (i.zero, i.size, i.bytes)) = some (some (.agg #[.slice none 0 0]), 1, 24) := by kernel_rfl
set_option maxHeartbeats 2000000 in
theorem copyRep_any (u : Value) (x : List (List ByteArray)) (w : World) (hn : wRep x ≤ 1048576) (hr : RRep 0 w u x) :
    Calls Tryz.prog 69 #[.agg #[u]] w fun e w' => ∃ p c, e = .returned (.agg #[.slice p x.length c]) ∧ ORep w.heap.size w'.heap.size w' (.slice p x.length c) x ∧ Below w.heap.size w w' := by
  obtain ⟨p, c, rfl⟩ := hr.isSlice
  obtain ⟨W, hW⟩ : ∃ W, W = (w.alloc (.cells #[.slice p x.length c] 88)).alloc (.cells #[.slice none 0 0] 88) := ⟨_, rfl⟩
  have hb0 : Below w.heap.size w W := by rw [hW]; exact ((Below.refl _ _).alloc (Nat.le_refl _) _).alloc (by simp) _
  have HR := hide (hr.below hb0)
  have HB0 := hide hb0
  have R1 : Row W (w.heap.size + 1) 88 [.slice none 0 0] := by
    rw [hW]
    have := row_new (w.alloc (.cells #[.slice p x.length c] 88)) [.slice none 0 0] 88
    simpa using this
  have hsz : W.heap.size = w.heap.size + 2 := by rw [hW]; simp
  clear hr hb0
  go_enter Tryz.func69, Tryz.ntmps69
  go_wp2_with fail
  rw [← hW]
  refine (copyEachComp_any _ x _ hn HR.out).mono ?_
  rintro e w1 ⟨p1, c1, rfl, hr1, hb1⟩
  clear hW
  have r1 := R1.below hb1 (by omega)
  have f1 : w1.cell? ⟨w.heap.size + 1, 0, none⟩ = some (.slice none 0 0) := r1.cell 0
  have z1 := r1.free 0
  have q1 : (w1.setCell ⟨w.heap.size + 1, 0, none⟩ (.slice p1 x.length c1)).cell? ⟨w.heap.size + 1, 0, none⟩ = some (.slice p1 x.length c1) := (r1.set (j := 0) (.slice p1 x.length c1)).cell 0
  have hw1 : w.heap.size + 2 ≤ w1.heap.size := by rw [← hsz]; exact hb1.size
  rw [hsz] at hr1
  have es : (w1.setCell ⟨w.heap.size + 1, 0, none⟩ (.slice p1 x.length c1)).heap.size = w1.heap.size := by simp [World.setCell]
  have HRE : Hid (ORep w.heap.size (w1.setCell ⟨w.heap.size + 1, 0, none⟩ (.slice p1 x.length c1)).heap.size (w1.setCell ⟨w.heap.size + 1, 0, none⟩ (.slice p1 x.length c1)) (.slice p1 x.length c1) x) := hide (by
    rw [es]
    exact Keeps.wide (by omega : w.heap.size ≤ w.heap.size + 2) (Nat.le_refl _) (Keeps.go (SameIn.set w1 (g := w.heap.size + 1) (j := 0) (.slice p1 x.length c1) (by omega)) hr1))
  have HBE := hide ((HB0.out.trans (hb1.mono (by omega))).setCell (p := ⟨w.heap.size + 1, 0, none⟩) (by show w.heap.size ≤ w.heap.size + 1; omega) (.slice p1 x.length c1))
  clear hr1 hb1 r1 es hw1
  go_wp2
  exact bodyPost_ret (v := .agg #[.slice p1 x.length c1]) (by simp [results, Tryz.results69, go_sem, q1]) rfl ⟨_, _, rfl, HRE.out, HBE.out⟩
set_option maxHeartbeats 4000000 in
theorem copyEachRep_any (v : Value) (xs : List (List (List ByteArray))) (w : World) (hn : wFld xs ≤ 1048576) (hr : RL 0 (RRep 0) w v xs) :
    Calls Tryz.prog 68 #[v, .func (.func 69) #[] #[]] w fun e w' => ∃ p c, e = .returned (.slice p xs.length c) ∧ OL 88 ORep w.heap.size w'.heap.size w' (.slice p xs.length c) xs ∧ Below w.heap.size w w' := by
  obtain ⟨i0, hi, hz0, hz1, hz2⟩ := info_parts Tryz.infoCopyRep
  have hl : xs.length ≤ 1048576 := Nat.le_trans (wL_len _ xs) hn
  have HM : Hid (∀ i (h : i < xs.length), wRep xs[i] ≤ 1048576) := fun i h => by have := wL_mem wRep (List.getElem_mem h); have : wL wRep xs ≤ 1048576 := hn; omega
  clear hn
  obtain ⟨p, cap, rfl, h1, h2, h4⟩ := hr
  have H4 := hide h4
  unfold maxLen at h2
  clear h4
  have HO := hide (World.ownsRow_nil w w.heap.size 88 1)
  have HZC := hide (show (Value.agg #[.slice none 0 0]).cells.size = 1 from rfl)
  go_enter Tryz.func68, Tryz.ntmps68
  go_wp2_with fail
  go_loopw [5, 10] (fun l i wr => ∃ (X : World) (k : Nat) (vs : List Value), X = wr ∧ k ≤ xs.length ∧ i = .int .i64 (k : Int) ∧ Hid (X.ownsRow w.heap.size 88 1 l k vs) ∧ Hid (Below w.heap.size w X) ∧ Hid (vs.length = k) ∧ Hid (∃ A B : Nat → Nat, (∀ j (h1 : j < vs.length) (h2 : j < xs.length), w.heap.size ≤ A j ∧ B j ≤ X.heap.size ∧ (∀ g, l.ownBlock = some g → B j ≤ g ∨ g < A j) ∧ ORep (A j) (B j) X vs[j] xs[j]) ∧ ∀ i j, i < j → j < k → B i ≤ A j)) (fun _ i _ => xs.length - (intOf i).toNat)
  case atStart => exact ⟨_, 0, [], rfl, Nat.zero_le _, rfl, HO, hide (Below.refl _ _), hide rfl, hide ⟨fun _ => 0, fun _ => 0, fun j h1 _ => absurd h1 (by simp), fun i j _ h => absurd h (by omega)⟩⟩
  case round =>
    obtain ⟨X, k, vs, rfl, hk, rfl, HOw, HB, HLn, HEl⟩ := hrel
    by_cases hlt : k < xs.length
    · obtain ⟨g, off, hp, hg, _, hc⟩ := H4.out (by omega)
      subst hp
      obtain ⟨u, hu, hru⟩ := hc k hlt
      have hck : X.cell? ⟨g, off + k, none⟩ = some u := by rw [HB.out.cell (p := ⟨g, off + k, none⟩) hg]; exact hu
      have HRU := hide (hru.below HB.out)
      obtain ⟨up, uc, rfl⟩ := hru.isSlice
      have HXM := hide (HM.out k hlt)
      have hbA : Below X.heap.size X (X.alloc (.cells #[.slice up (xs[k]'hlt).length uc] 88)) := (Below.refl _ _).alloc (Nat.le_refl _) _
      have HBA := hide (HB.out.alloc HB.out.size (.cells #[.slice up (xs[k]'hlt).length uc] 88))
      have HRA := hide (HRU.out.below hbA)
      have HOA := hide (HOw.out.alloc (.cells #[.slice up (xs[k]'hlt).length uc] 88))
      have HSA : Hid ((X.alloc (.cells #[.slice up (xs[k]'hlt).length uc] 88)).heap.size = X.heap.size + 1) := hide (by simp)
      have HSI : Hid (∀ a b, SameIn a b X (X.alloc (.cells #[.slice up (xs[k]'hlt).length uc] 88))) := hide (fun a b => SameIn.ofBelow hbA)
      clear hu hc hru hbA
      go_wp2_with fail
      obtain ⟨X1, hX1⟩ : ∃ X1, X1 = X.alloc (.cells #[.slice up (xs[k]'hlt).length uc] 88) := ⟨_, rfl⟩
      rw [← hX1] at HBA HRA HOA HSA HSI ⊢
      clear hX1 hck
      refine (copyRep_any _ (xs[k]'hlt) _ HXM.out HRA.out).mono ?_
      rintro e w2 ⟨p2, c2, rfl, hr2, hb2⟩
      have HR2 := hide hr2
      have HO2 := hide ((own_below HOA.out hb2).alloc (.cells #[.slice p2 (xs[k]'hlt).length c2] 88))
      have HBm := hide (HBA.out.trans (hb2.mono HBA.out.size))
      have HB2 := hide (HBm.out.alloc HBm.out.size (.cells #[.slice p2 (xs[k]'hlt).length c2] 88))
      have HLT := hide HOw.out.lt
      have HB22 := hide hb2
      clear hb2 hr2
      go_wp2_with (at_builtin; refine wpList_append_own_at (w2.alloc (.cells #[.slice p2 (xs[k]'hlt).length c2] 88)) rfl (.tmp 14) (.tmp 18) 29 rfl w.heap.size 88 i0 _ 1 24 Tryz.underlying29 hi hz0 hz1 hz2 HZC.out (by omega) _ k vs rfl HO2.out ⟨w2.heap.size, 0, none⟩ 1 _ [.slice p2 (xs[k]'hlt).length c2] rfl rfl (cell_one_new _ _ _) (by simp [Value.oneCell']) (by unfold maxLen; omega) (by omega) (by have := HB2.out.size; exact this) ?_)
      intro v' w3 hown hgrow _ hat
      have HO3 := hide hown
      have HB3 := hide (HB2.out.grown hgrow HB2.out.size (fun k hk => (HO2.out.lt k hk).1))
      have HLn2 : Hid ((vs ++ [Value.slice p2 (xs[k]'hlt).length c2]).length = k + 1) := by rw [List.length_append, HLn.out]; exact rfl
      have HEl2 : Hid (∃ A B : Nat → Nat, (∀ j (h1 : j < (vs ++ [Value.slice p2 (xs[k]'hlt).length c2]).length) (h2 : j < xs.length), w.heap.size ≤ A j ∧ B j ≤ w3.heap.size ∧ (∀ g, v'.ownBlock = some g → B j ≤ g ∨ g < A j) ∧ ORep (A j) (B j) w3 (vs ++ [Value.slice p2 (xs[k]'hlt).length c2])[j] xs[j]) ∧ ∀ i j, i < j → j < k + 1 → B i ≤ A j) := by
        obtain ⟨A, B, hE, hD⟩ := HEl.out
        have hs2 := HB22.out.size
        have hs3 := hgrow.size
        have hsa : (w2.alloc (.cells #[.slice p2 (xs[k]'hlt).length c2] 88)).heap.size = w2.heap.size + 1 := by simp
        have hwX := HB.out.size
        have hsX := HSA.out
        refine ⟨fun i => if i = k then X.heap.size + 1 else A i, fun i => if i = k then w2.heap.size else B i, fun j h1 h2 => ?_, fun i j hij hj => ?_⟩
        · rw [HLn2.out] at h1
          dsimp only
          by_cases hj : j = k
          · subst hj
            rw [if_pos rfl, if_pos rfl, List.getElem_append_right (by rw [HLn.out]; exact Nat.le_refl _)]
            simp only [HLn.out, Nat.sub_self, List.getElem_cons_zero]
            refine ⟨by omega, by omega, fun g hg => ?_, ?_⟩
            · rcases hat with h | h
              · rw [h] at hg
                exact .inr (by have := (HLT.out g hg).2; omega)
              · rw [h] at hg
                cases hg
                exact .inl (by first | omega | (rw [hsa]; omega))
            · rw [hsX] at HR2
              refine Keeps.go (grown_in hgrow (fun g hg => .inr (by have := (HLT.out g hg).2; omega))) (Keeps.go (SameIn.ofBelow ((Below.refl _ _).alloc (Nat.le_refl _) _)) HR2.out)
          · have hjk : j < vs.length := by rw [HLn.out]; omega
            obtain ⟨f1, f2, f3, f4⟩ := hE j hjk h2
            rw [if_neg hj, if_neg hj, List.getElem_append_left hjk]
            refine ⟨f1, by omega, fun g hg => ?_, ?_⟩
            · rcases hat with h | h
              · rw [h] at hg
                exact f3 g hg
              · rw [h] at hg
                cases hg
                exact .inl (by first | omega | (rw [hsa]; omega))
            · exact Keeps.go (grown_in hgrow f3) (Keeps.go (SameIn.ofBelow ((Below.refl _ _).alloc (Nat.le_refl _) _)) (Keeps.go (SameIn.ofBelow HB22.out) (Keeps.go (HSI.out _ _) f4)))
        · have hik : i < vs.length := by rw [HLn.out]; omega
          obtain ⟨f1, f2, f3, f4⟩ := hE i hik (by omega)
          dsimp only
          by_cases hjk : j = k
          · rw [if_pos hjk, if_neg (by omega)]; omega
          · rw [if_neg hjk, if_neg (by omega)]; exact hD i j hij (by omega)
      clear hown hgrow hat
      go_wp2
      go_roundw
      case rel => exact ⟨_, k + 1, _, rfl, by omega, by go_num, HO3, HB3, HLn2, HEl2⟩
      case measure => simp [intOf]; omega
    · have ek : k = xs.length := by omega
      rcases own_block HOw.out with ⟨hn, rfl⟩ | ⟨g, cap2, rest, rfl, hbg, hgs, hnc, hcm, hcr, hrow⟩
      · have HN := hide (show xs.length = 0 by omega)
        clear hn
        go_wp2
        go_ret
        refine ⟨none, 0, by rw [HN.out]; rfl, ⟨none, 0, rfl, by rw [HN.out]; exact Nat.le_refl 0, by unfold maxLen; omega, fun h => by rw [HN.out] at h; omega⟩, HB.out⟩
      · have HF : Hid (OL 88 ORep w.heap.size X.heap.size X (.slice (some ⟨g, 0, none⟩) xs.length cap2) xs) := by
          obtain ⟨A, B, hE, hD⟩ := HEl.out
          have hvl := HLn.out
          exact ⟨_, _, rfl, by omega, hcm, fun _ => ⟨g, vs, rest, A, B, rfl, hbg, hgs, hrow, by omega, fun i h1 h2 => by
            obtain ⟨f1, f2, f3, f4⟩ := hE i h1 h2
            exact ⟨f1, f2, f3 g rfl, f4⟩, fun i j h1 h2 => hD i j h1 (by omega)⟩⟩
        have HK := hide ek
        clear hrow hbg hgs hcr ek
        go_wp2
        go_ret
        exact ⟨_, _, by rw [← HK.out]; rfl, HF.out, HB.out⟩
theorem Tryz.infoCopyField : (Tryz.prog.info? 31).map (fun i => (i.zero, i.size, i.bytes)) = some (some (.agg #[.slice none 0 0]), 1, 24) := by kernel_rfl
set_option maxHeartbeats 2000000 in
theorem copyField_any (u : Value) (x : List (List (List ByteArray))) (w : World) (hn : wFld x ≤ 1048576) (hr : RFld 0 w u x) :
    Calls Tryz.prog 34 #[.agg #[u]] w fun e w' => ∃ p c, e = .returned (.agg #[.slice p x.length c]) ∧ OFld w.heap.size w'.heap.size w' (.slice p x.length c) x ∧ Below w.heap.size w w' := by
  obtain ⟨p, c, rfl⟩ := hr.isSlice
  obtain ⟨W, hW⟩ : ∃ W, W = (w.alloc (.cells #[.slice p x.length c] 31)).alloc (.cells #[.slice none 0 0] 31) := ⟨_, rfl⟩
  have hb0 : Below w.heap.size w W := by rw [hW]; exact ((Below.refl _ _).alloc (Nat.le_refl _) _).alloc (by simp) _
  have HR := hide (hr.below hb0)
  have HB0 := hide hb0
  have R1 : Row W (w.heap.size + 1) 31 [.slice none 0 0] := by
    rw [hW]
    have := row_new (w.alloc (.cells #[.slice p x.length c] 31)) [.slice none 0 0] 31
    simpa using this
  have hsz : W.heap.size = w.heap.size + 2 := by rw [hW]; simp
  clear hr hb0
  go_enter Tryz.func34, Tryz.ntmps34
  go_wp2_with fail
  rw [← hW]
  refine (copyEachRep_any _ x _ hn HR.out).mono ?_
  rintro e w1 ⟨p1, c1, rfl, hr1, hb1⟩
  clear hW
  have r1 := R1.below hb1 (by omega)
  have f1 : w1.cell? ⟨w.heap.size + 1, 0, none⟩ = some (.slice none 0 0) := r1.cell 0
  have z1 := r1.free 0
  have q1 : (w1.setCell ⟨w.heap.size + 1, 0, none⟩ (.slice p1 x.length c1)).cell? ⟨w.heap.size + 1, 0, none⟩ = some (.slice p1 x.length c1) := (r1.set (j := 0) (.slice p1 x.length c1)).cell 0
  have hw1 : w.heap.size + 2 ≤ w1.heap.size := by rw [← hsz]; exact hb1.size
  rw [hsz] at hr1
  have es : (w1.setCell ⟨w.heap.size + 1, 0, none⟩ (.slice p1 x.length c1)).heap.size = w1.heap.size := by simp [World.setCell]
  have HRE : Hid (OFld w.heap.size (w1.setCell ⟨w.heap.size + 1, 0, none⟩ (.slice p1 x.length c1)).heap.size (w1.setCell ⟨w.heap.size + 1, 0, none⟩ (.slice p1 x.length c1)) (.slice p1 x.length c1) x) := hide (by
    rw [es]
    exact Keeps.wide (by omega : w.heap.size ≤ w.heap.size + 2) (Nat.le_refl _) (Keeps.go (SameIn.set w1 (g := w.heap.size + 1) (j := 0) (.slice p1 x.length c1) (by omega)) hr1))
  have HBE := hide ((HB0.out.trans (hb1.mono (by omega))).setCell (p := ⟨w.heap.size + 1, 0, none⟩) (by show w.heap.size ≤ w.heap.size + 1; omega) (.slice p1 x.length c1))
  clear hr1 hb1 r1 es hw1
  go_wp2
  exact bodyPost_ret (v := .agg #[.slice p1 x.length c1]) (by simp [results, Tryz.results34, go_sem, q1]) rfl ⟨_, _, rfl, HRE.out, HBE.out⟩
set_option maxHeartbeats 4000000 in
theorem copyEachField_any (v : Value) (xs : List (List (List (List ByteArray)))) (w : World) (hn : wFlds xs ≤ 1048576) (hr : RL 0 (RFld 0) w v xs) :
    Calls Tryz.prog 134 #[v, .func (.func 34) #[] #[]] w fun e w' => ∃ p c, e = .returned (.slice p xs.length c) ∧ OL 31 OFld w.heap.size w'.heap.size w' (.slice p xs.length c) xs ∧ Below w.heap.size w w' := by
  obtain ⟨i0, hi, hz0, hz1, hz2⟩ := info_parts Tryz.infoCopyField
  have hl : xs.length ≤ 1048576 := Nat.le_trans (wL_len _ xs) hn
  have HM : Hid (∀ i (h : i < xs.length), wFld xs[i] ≤ 1048576) := fun i h => by have := wL_mem wFld (List.getElem_mem h); have : wL wFld xs ≤ 1048576 := hn; omega
  clear hn
  obtain ⟨p, cap, rfl, h1, h2, h4⟩ := hr
  have H4 := hide h4
  unfold maxLen at h2
  clear h4
  have HO := hide (World.ownsRow_nil w w.heap.size 31 1)
  have HZC := hide (show (Value.agg #[.slice none 0 0]).cells.size = 1 from rfl)
  go_enter Tryz.func134, Tryz.ntmps134
  go_wp2_with fail
  go_loopw [5, 10] (fun l i wr => ∃ (X : World) (k : Nat) (vs : List Value), X = wr ∧ k ≤ xs.length ∧ i = .int .i64 (k : Int) ∧ Hid (X.ownsRow w.heap.size 31 1 l k vs) ∧ Hid (Below w.heap.size w X) ∧ Hid (vs.length = k) ∧ Hid (∃ A B : Nat → Nat, (∀ j (h1 : j < vs.length) (h2 : j < xs.length), w.heap.size ≤ A j ∧ B j ≤ X.heap.size ∧ (∀ g, l.ownBlock = some g → B j ≤ g ∨ g < A j) ∧ OFld (A j) (B j) X vs[j] xs[j]) ∧ ∀ i j, i < j → j < k → B i ≤ A j)) (fun _ i _ => xs.length - (intOf i).toNat)
  case atStart => exact ⟨_, 0, [], rfl, Nat.zero_le _, rfl, HO, hide (Below.refl _ _), hide rfl, hide ⟨fun _ => 0, fun _ => 0, fun j h1 _ => absurd h1 (by simp), fun i j _ h => absurd h (by omega)⟩⟩
  case round =>
    obtain ⟨X, k, vs, rfl, hk, rfl, HOw, HB, HLn, HEl⟩ := hrel
    by_cases hlt : k < xs.length
    · obtain ⟨g, off, hp, hg, _, hc⟩ := H4.out (by omega)
      subst hp
      obtain ⟨u, hu, hru⟩ := hc k hlt
      have hck : X.cell? ⟨g, off + k, none⟩ = some u := by rw [HB.out.cell (p := ⟨g, off + k, none⟩) hg]; exact hu
      have HRU := hide (hru.below HB.out)
      obtain ⟨up, uc, rfl⟩ := hru.isSlice
      have HXM := hide (HM.out k hlt)
      have hbA : Below X.heap.size X (X.alloc (.cells #[.slice up (xs[k]'hlt).length uc] 31)) := (Below.refl _ _).alloc (Nat.le_refl _) _
      have HBA := hide (HB.out.alloc HB.out.size (.cells #[.slice up (xs[k]'hlt).length uc] 31))
      have HRA := hide (HRU.out.below hbA)
      have HOA := hide (HOw.out.alloc (.cells #[.slice up (xs[k]'hlt).length uc] 31))
      have HSA : Hid ((X.alloc (.cells #[.slice up (xs[k]'hlt).length uc] 31)).heap.size = X.heap.size + 1) := hide (by simp)
      have HSI : Hid (∀ a b, SameIn a b X (X.alloc (.cells #[.slice up (xs[k]'hlt).length uc] 31))) := hide (fun a b => SameIn.ofBelow hbA)
      clear hu hc hru hbA
      go_wp2_with fail
      obtain ⟨X1, hX1⟩ : ∃ X1, X1 = X.alloc (.cells #[.slice up (xs[k]'hlt).length uc] 31) := ⟨_, rfl⟩
      rw [← hX1] at HBA HRA HOA HSA HSI ⊢
      clear hX1 hck
      refine (copyField_any _ (xs[k]'hlt) _ HXM.out HRA.out).mono ?_
      rintro e w2 ⟨p2, c2, rfl, hr2, hb2⟩
      have HR2 := hide hr2
      have HO2 := hide ((own_below HOA.out hb2).alloc (.cells #[.slice p2 (xs[k]'hlt).length c2] 31))
      have HBm := hide (HBA.out.trans (hb2.mono HBA.out.size))
      have HB2 := hide (HBm.out.alloc HBm.out.size (.cells #[.slice p2 (xs[k]'hlt).length c2] 31))
      have HLT := hide HOw.out.lt
      have HB22 := hide hb2
      clear hb2 hr2
      go_wp2_with (at_builtin; refine wpList_append_own_at (w2.alloc (.cells #[.slice p2 (xs[k]'hlt).length c2] 31)) rfl (.tmp 14) (.tmp 18) 81 rfl w.heap.size 31 i0 _ 1 24 Tryz.underlying81 hi hz0 hz1 hz2 HZC.out (by omega) _ k vs rfl HO2.out ⟨w2.heap.size, 0, none⟩ 1 _ [.slice p2 (xs[k]'hlt).length c2] rfl rfl (cell_one_new _ _ _) (by simp [Value.oneCell']) (by unfold maxLen; omega) (by omega) (by have := HB2.out.size; exact this) ?_)
      intro v' w3 hown hgrow _ hat
      have HO3 := hide hown
      have HB3 := hide (HB2.out.grown hgrow HB2.out.size (fun k hk => (HO2.out.lt k hk).1))
      have HLn2 : Hid ((vs ++ [Value.slice p2 (xs[k]'hlt).length c2]).length = k + 1) := by rw [List.length_append, HLn.out]; exact rfl
      have HEl2 : Hid (∃ A B : Nat → Nat, (∀ j (h1 : j < (vs ++ [Value.slice p2 (xs[k]'hlt).length c2]).length) (h2 : j < xs.length), w.heap.size ≤ A j ∧ B j ≤ w3.heap.size ∧ (∀ g, v'.ownBlock = some g → B j ≤ g ∨ g < A j) ∧ OFld (A j) (B j) w3 (vs ++ [Value.slice p2 (xs[k]'hlt).length c2])[j] xs[j]) ∧ ∀ i j, i < j → j < k + 1 → B i ≤ A j) := by
        obtain ⟨A, B, hE, hD⟩ := HEl.out
        have hs2 := HB22.out.size
        have hs3 := hgrow.size
        have hsa : (w2.alloc (.cells #[.slice p2 (xs[k]'hlt).length c2] 31)).heap.size = w2.heap.size + 1 := by simp
        have hwX := HB.out.size
        have hsX := HSA.out
        refine ⟨fun i => if i = k then X.heap.size + 1 else A i, fun i => if i = k then w2.heap.size else B i, fun j h1 h2 => ?_, fun i j hij hj => ?_⟩
        · rw [HLn2.out] at h1
          dsimp only
          by_cases hj : j = k
          · subst hj
            rw [if_pos rfl, if_pos rfl, List.getElem_append_right (by rw [HLn.out]; exact Nat.le_refl _)]
            simp only [HLn.out, Nat.sub_self, List.getElem_cons_zero]
            refine ⟨by omega, by omega, fun g hg => ?_, ?_⟩
            · rcases hat with h | h
              · rw [h] at hg
                exact .inr (by have := (HLT.out g hg).2; omega)
              · rw [h] at hg
                cases hg
                exact .inl (by first | omega | (rw [hsa]; omega))
            · rw [hsX] at HR2
              refine Keeps.go (grown_in hgrow (fun g hg => .inr (by have := (HLT.out g hg).2; omega))) (Keeps.go (SameIn.ofBelow ((Below.refl _ _).alloc (Nat.le_refl _) _)) HR2.out)
          · have hjk : j < vs.length := by rw [HLn.out]; omega
            obtain ⟨f1, f2, f3, f4⟩ := hE j hjk h2
            rw [if_neg hj, if_neg hj, List.getElem_append_left hjk]
            refine ⟨f1, by omega, fun g hg => ?_, ?_⟩
            · rcases hat with h | h
              · rw [h] at hg
                exact f3 g hg
              · rw [h] at hg
                cases hg
                exact .inl (by first | omega | (rw [hsa]; omega))
            · exact Keeps.go (grown_in hgrow f3) (Keeps.go (SameIn.ofBelow ((Below.refl _ _).alloc (Nat.le_refl _) _)) (Keeps.go (SameIn.ofBelow HB22.out) (Keeps.go (HSI.out _ _) f4)))
        · have hik : i < vs.length := by rw [HLn.out]; omega
          obtain ⟨f1, f2, f3, f4⟩ := hE i hik (by omega)
          dsimp only
          by_cases hjk : j = k
          · rw [if_pos hjk, if_neg (by omega)]; omega
          · rw [if_neg hjk, if_neg (by omega)]; exact hD i j hij (by omega)
      clear hown hgrow hat
      go_wp2
      go_roundw
      case rel => exact ⟨_, k + 1, _, rfl, by omega, by go_num, HO3, HB3, HLn2, HEl2⟩
      case measure => simp [intOf]; omega
    · have ek : k = xs.length := by omega
      rcases own_block HOw.out with ⟨hn, rfl⟩ | ⟨g, cap2, rest, rfl, hbg, hgs, hnc, hcm, hcr, hrow⟩
      · have HN := hide (show xs.length = 0 by omega)
        clear hn
        go_wp2
        go_ret
        refine ⟨none, 0, by rw [HN.out]; rfl, ⟨none, 0, rfl, by rw [HN.out]; exact Nat.le_refl 0, by unfold maxLen; omega, fun h => by rw [HN.out] at h; omega⟩, HB.out⟩
      · have HF : Hid (OL 31 OFld w.heap.size X.heap.size X (.slice (some ⟨g, 0, none⟩) xs.length cap2) xs) := by
          obtain ⟨A, B, hE, hD⟩ := HEl.out
          have hvl := HLn.out
          exact ⟨_, _, rfl, by omega, hcm, fun _ => ⟨g, vs, rest, A, B, rfl, hbg, hgs, hrow, by omega, fun i h1 h2 => by
            obtain ⟨f1, f2, f3, f4⟩ := hE i h1 h2
            exact ⟨f1, f2, f3 g rfl, f4⟩, fun i j h1 h2 => hD i j h1 (by omega)⟩⟩
        have HK := hide ek
        clear hrow hbg hgs hcr ek
        go_wp2
        go_ret
        exact ⟨_, _, by rw [← HK.out]; rfl, HF.out, HB.out⟩
end Go.Proofs.YtmkcmajpepehmaaGreat
/- The model's copy of a Field: each list in a row of its own. -/
namespace Go.Proofs.YtmkcmajpepehmaaGreat
open Go.RowKit
theorem step_own {P : Program} {ops : Array Oper} {o : Oper} {a : Act} {w : World} {K : Act → World → Prop} {Q : Exit → Act → World → Prop} {E : Prop} (hgd : o.guard = none) (s x : Operand) (t : TypeId)
    (ho : o.op = .call { callee := .builtin .append, args := #[s, x], argTypes := #[t, t] })
    (base : Nat) (e : TypeId) (i : TypeInfo) (z : Value) (size bytes : Nat) (ht : P.underlying t = some (.slice e)) (hi : P.info? e = some i) (hz : i.zero = some z)
    (hsize : i.size = size) (hby : i.bytes = bytes) (hzs : z.cells.size = size) (hsz : 0 < size)
    (v : Value) (n : Nat) (xs : List Value) (hs : a.eval s = v) (hown : w.ownsRow base e size v n xs)
    (ad : Addr) (m c : Nat) (news : List Value) (hx : a.eval x = .slice (some ad) m c) (hl : news.length = m * size) (hnews : ∀ j u, news[j]? = some u → w.cell? (ad.add j) = some u) (h1 : ∀ u ∈ news, u.oneCell' = true)
    (h63 : n + m ≤ maxLen) (hbytes : (n + m) * bytes ≤ 140737488355328) (hbase : base ≤ w.heap.size)
    (h : ∀ v' w', w'.ownsRow base e size v' (n + m) (xs ++ news) → w.grownBy w' v.ownBlock → (v'.ownBlock = v.ownBlock ∨ v'.ownBlock = some w.heap.size) → K (a.put o.dst v') w') :
    if Region.wanted o (yielded ops a.tmps) = true then Oper.wp P o a w K Q else E := by
  have hw : Region.wanted o (yielded ops a.tmps) = true := by simp [Region.wanted, hgd]
  rw [if_pos hw]
  obtain ⟨v', w', hr, h2, h3, h4, h5⟩ := run_append_own_at (P := P) w base t o.type e i z size bytes ht hi hz hsize hby hzs hsz v n xs hown ad m c news hl hnews h1 h63 hbytes hbase
  unfold Oper.wp execOp
  simp only [ho, resolve, invoke, builtin, Sem.run_bind, Sem.run_pure, Result.andThen_ok, List.map_toArray, List.map_cons, List.map_nil, hs, hx, hr]
  exact h v' w' h2 h3 h5
theorem own_slice1 {w : World} {B : Nat} {T : TypeId} {sz n : Nat} {v : Value} {xs : List Value} (h : w.ownsRow B T sz v n xs) : ∃ p c, v = .slice p n c := by
  rcases h.2 with ⟨rfl, hn⟩ | ⟨g, cap, cur, rfl, _⟩
  · exact ⟨none, 0, by rw [hn]⟩
  · exact ⟨_, _, rfl⟩
theorem row_grown {w w' : World} {g B : Nat} {T : TypeId} {cs : List Value} {row : Option Nat} (h : Row w g T cs) (hg : w.grownBy w' row) (hr : ∀ k, row = Option.some k → B ≤ k) (hB : g < B) : Row w' g T cs := by
  unfold Row; rw [hg.block g h.lt (fun e => by have := hr g e.symm; omega)]; exact h
theorem comp_of_ownS {w : World} {B : Nat} {v : Value} {xs : List ByteArray} (h : OwnS 9 B w v xs) : OComp B w.heap.size w v xs := by
  obtain ⟨hx, ⟨b, c, rfl, hc, rfl⟩ | ⟨g, rest, rfl, hm, hB, hr⟩⟩ := h
  · exact ⟨_, _, rfl, Nat.zero_le _, hc, hx, fun h => absurd h (by simp)⟩
  · exact ⟨_, _, rfl, Nat.le_add_right _ _, hm, hx, fun _ => ⟨g, rest, rfl, hB, hr.lt, rfl, hr⟩⟩
theorem ol_of_own {α : Type} {R : Nat → Nat → World → Value → α → Prop} {w : World} {B k : Nat} {T : TypeId} {l : Value} {vs : List Value} {xs : List α} (h : w.ownsRow B T 1 l k vs) (hk : k = xs.length) (hl : vs.length = k)
    (hE : ∃ A B' : Nat → Nat, (∀ j (h1 : j < vs.length) (h2 : j < xs.length), B ≤ A j ∧ B' j ≤ w.heap.size ∧ (∀ g, l.ownBlock = some g → B' j ≤ g ∨ g < A j) ∧ R (A j) (B' j) w vs[j] xs[j]) ∧ ∀ i j, i < j → j < k → B' i ≤ A j) : OL T R B w.heap.size w l xs := by
  obtain ⟨A, B', hE, hD⟩ := hE
  rcases own_block h with ⟨hn, rfl⟩ | ⟨g, cap2, rest, rfl, hbg, hgs, hnc, hcm, hcr, hrow⟩
  · exact ⟨none, 0, by rw [← hk, hn], by omega, by unfold maxLen; omega, fun h => by omega⟩
  · exact ⟨_, _, by rw [hk], by omega, hcm, fun _ => ⟨g, vs, rest, A, B', rfl, hbg, hgs, hrow, by omega, fun i h1 h2 => by
      obtain ⟨f1, f2, f3, f4⟩ := hE i h1 h2
      exact ⟨f1, f2, f3 g rfl, f4⟩, fun i j h1 h2 => hD i j h1 (by omega)⟩⟩
theorem own_same {w w' : World} {B n sz : Nat} {T : TypeId} {v : Value} {xs : List Value} (h : w.ownsRow B T sz v n xs) (hs : ∀ k, B ≤ k → k < w.heap.size → w'.heap[k]? = w.heap[k]?) : w'.ownsRow B T sz v n xs := by
  have hlt := h.lt
  refine ⟨h.1, ?_⟩
  rcases h.2 with h | ⟨g, cap, cur, rfl, hbg, hg, hnc, hcm, hcs, htake⟩
  · exact .inl h
  · exact .inr ⟨g, cap, cur, rfl, hbg, (hs g hbg (hlt g rfl).2).trans hg, hnc, hcm, hcs, htake⟩
set_option maxHeartbeats 16000000 in
set_option maxRecDepth 100000 in
theorem l05CopyField_any (u : Value) (f : List (List (List ByteArray))) (w : World) (hn : wFld f ≤ 1048576) (hr : RFld 0 w u f) :
    Calls Tryz.prog 29 #[.agg #[u]] w fun e w' => ∃ p c, e = .returned (.agg #[.slice p f.length c]) ∧ OFld w.heap.size w'.heap.size w' (.slice p f.length c) f ∧ Below w.heap.size w w' := by
  obtain ⟨i0, hi, hz0, hz1, hz2⟩ := info_parts Tryz.infoStr
  obtain ⟨j0, hj, hy0, hy1, hy2⟩ := info_parts Tryz.infoCopyComp
  obtain ⟨k0, hk, hx0, hx1, hx2⟩ := info_parts Tryz.infoCopyRep
  have HZC := hide (show (Value.agg #[.slice none 0 0]).cells.size = 1 from rfl)
  have hl : f.length ≤ 1048576 := Nat.le_trans (wL_len _ f) hn
  have HM : Hid (∀ i (h : i < f.length), wRep f[i] ≤ 1048576) := fun i h => by have := wL_mem wRep (List.getElem_mem h); have : wL wRep f ≤ 1048576 := hn; omega
  clear hn
  obtain ⟨p, cap, rfl, h1, h2, h4⟩ := hr
  have H4 := hide h4
  clear h4
  unfold maxLen at h2
  obtain ⟨W, hW⟩ : ∃ W, W = ((w.alloc (.cells #[.slice p f.length cap] 31)).alloc (.cells #[.slice none 0 0] 31)).alloc (.cells #[.slice none 0 0] 31) := ⟨_, rfl⟩
  have HBW := hide (show Below w.heap.size w W by rw [hW]; exact (((Below.refl _ _).alloc (Nat.le_refl _) _).alloc (by simp) _).alloc (by simp; omega) _)
  have HWs := hide (show W.heap.size = w.heap.size + 3 by rw [hW]; simp)
  have HR1 := hide (show Row W w.heap.size 31 [.slice p f.length cap] by rw [hW]; exact ((row_new w [.slice p f.length cap] 31).alloc _).alloc _)
  have HR2 := hide (show Row W (w.heap.size + 1) 31 [.slice none 0 0] by
    rw [hW]
    have := (row_new (w.alloc (.cells #[.slice p f.length cap] 31)) [.slice none 0 0] 31).alloc (.cells #[.slice none 0 0] 31)
    simpa using this)
  have HR3 := hide (show Row W (w.heap.size + 2) 31 [.slice none 0 0] by
    rw [hW]
    have := row_new ((w.alloc (.cells #[.slice p f.length cap] 31)).alloc (.cells #[.slice none 0 0] 31)) [.slice none 0 0] 31
    simpa using this)
  have HO := hide (World.ownsRow_nil W W.heap.size 88 1)
  go_enter Tryz.func29, Tryz.ntmps29
  go_wp2_with fail
  rw [← hW]
  clear hW
  go_loopw [4] (fun i wr => ∃ (X : World) (k : Nat) (l : Value) (vs : List Value), X = wr ∧ k ≤ f.length ∧ i = .int .i64 (k : Int) ∧ Hid (Row X (w.heap.size + 2) 31 [l]) ∧ Hid (X.ownsRow W.heap.size 88 1 l k vs) ∧ Hid (Below w.heap.size w X) ∧ Hid (Row X w.heap.size 31 [.slice p f.length cap]) ∧ Hid (Row X (w.heap.size + 1) 31 [.slice none 0 0]) ∧ Hid (vs.length = k) ∧ Hid (W.heap.size ≤ X.heap.size) ∧ Hid (∃ A B : Nat → Nat, (∀ j (h1 : j < vs.length) (h2 : j < f.length), W.heap.size ≤ A j ∧ B j ≤ X.heap.size ∧ (∀ g, l.ownBlock = some g → B j ≤ g ∨ g < A j) ∧ ORep (A j) (B j) X vs[j] f[j]) ∧ ∀ i j, i < j → j < k → B i ≤ A j)) (fun i _ => f.length - (intOf i).toNat)
  case atStart => exact ⟨_, 0, _, [], rfl, Nat.zero_le _, rfl, HR3, HO, HBW, HR1, HR2, hide rfl, hide (Nat.le_refl _), hide ⟨fun _ => 0, fun _ => 0, fun j h1 _ => absurd h1 (by simp), fun i j _ h => absurd h (by omega)⟩⟩
  case round =>
    obtain ⟨X, k, l, vs, rfl, hkk, rfl, HRX, HOX, HBX, HR1X, HR2X, HLX, HSX, HEX⟩ := hrel
    have cb0 : X.cell? ⟨w.heap.size, 0, none⟩ = some (.slice p f.length cap) := HR1X.out.cell 0
    by_cases hlt : k < f.length
    · obtain ⟨g, off, hp, hg, _, hc⟩ := H4.out (by omega)
      subst hp
      obtain ⟨u1, hu1, hru1⟩ := hc k hlt
      have HXM := hide (HM.out k hlt)
      have hki : (k : Int) < (f.length : Int) := by omega
      obtain ⟨rp, hrp⟩ : ∃ rp, rp = f[k]'hlt := ⟨_, rfl⟩
      rw [← hrp] at hru1 HXM
      have HRP := hide hrp
      clear hrp hc
      obtain ⟨p2, cap2, rfl, y1, y2, y4⟩ := hru1
      have Y4 := hide y4
      clear y4
      unfold maxLen at y2
      have hrl : rp.length ≤ 1048576 := Nat.le_trans (wL_len _ rp) HXM.out
      have HCM : Hid (∀ i (h : i < rp.length), rp[i].length ≤ 1048576) := fun i h => by
        have h1 := wL_mem wComp (List.getElem_mem h)
        have h2 := wL_len ByteArray.size rp[i]
        have h3 : wL wComp rp ≤ 1048576 := HXM.out
        have h4 : wComp rp[i] = wL ByteArray.size rp[i] := rfl
        omega
      have hbA : Below X.heap.size X (X.alloc (.cells #[.slice none 0 0] 88)) := (Below.refl _ _).alloc (Nat.le_refl _) _
      have HBX5 := hide (HBX.out.trans (hbA.mono HBX.out.size))
      have HR5 := hide (row_new X [.slice none 0 0] 88)
      have HX5s : Hid ((X.alloc (.cells #[.slice none 0 0] 88)).heap.size = X.heap.size + 1) := hide (by simp)
      have HBA := hide hbA
      have HO5 := hide (World.ownsRow_nil (X.alloc (.cells #[.slice none 0 0] 88)) (X.heap.size + 1) 91 1)
      have hu1 := hide hu1
      clear hbA
      go_wp2_with fail
      obtain ⟨X5, hX5⟩ : ∃ X5, X5 = X.alloc (.cells #[.slice none 0 0] 88) := ⟨_, rfl⟩
      rw [← hX5] at HBX5 HR5 HX5s HO5 HBA ⊢
      clear hX5
      obtain ⟨T5, hT5⟩ : ∃ T5, T5 = X.heap.size := ⟨_, rfl⟩
      rw [← hT5] at HR5 HX5s HO5 HBA ⊢
      have HT5 := hide (show w.heap.size + 3 ≤ T5 by rw [hT5]; have := HSX.out; have := HWs.out; omega)
      have HTX := hide hT5
      clear hT5
      have cb : X5.cell? ⟨w.heap.size, 0, none⟩ = some (.slice (some ⟨g, off, none⟩) f.length cap) := (HBA.out.cell (p := ⟨w.heap.size, 0, none⟩) (by have := HT5.out; show w.heap.size < T5; omega)).trans cb0
      go_loopw [6] (fun i wr => ∃ (Y : World) (k2 : Nat) (l2 : Value) (vs2 : List Value), Y = wr ∧ k2 ≤ rp.length ∧ i = .int .i64 (k2 : Int) ∧ Hid (Row Y T5 88 [l2]) ∧ Hid (Y.ownsRow (T5 + 1) 91 1 l2 k2 vs2) ∧ Hid (Below T5 X5 Y) ∧ Hid (vs2.length = k2) ∧ Hid (T5 + 1 ≤ Y.heap.size) ∧ Hid (∃ A B : Nat → Nat, (∀ j (h1 : j < vs2.length) (h2 : j < rp.length), T5 + 1 ≤ A j ∧ B j ≤ Y.heap.size ∧ (∀ g, l2.ownBlock = some g → B j ≤ g ∨ g < A j) ∧ OComp (A j) (B j) Y vs2[j] rp[j]) ∧ ∀ i j, i < j → j < k2 → B i ≤ A j)) (fun i _ => rp.length - (intOf i).toNat)
      case atStart => exact ⟨_, 0, _, [], rfl, Nat.zero_le _, rfl, HR5, HO5, hide (Below.refl _ _), hide rfl, hide (by rw [HX5s.out]; exact Nat.le_refl _), hide ⟨fun _ => 0, fun _ => 0, fun j h1 _ => absurd h1 (by simp), fun i j _ h => absurd h (by omega)⟩⟩
      case round =>
        obtain ⟨Y, k2, l2, vs2, rfl, hk2, rfl, HRY, HOY, HBY, HLY, HSY, HEY⟩ := hrel
        have HBYw := hide (HBX5.out.trans (HBY.out.mono (by have := HT5.out; omega)))
        have d0 : Y.cell? ⟨w.heap.size, 0, none⟩ = some (.slice (some ⟨g, off, none⟩) f.length cap) := (HBY.out.cell (p := ⟨w.heap.size, 0, none⟩) (by have := HT5.out; show w.heap.size < T5; omega)).trans cb
        have d1 : Y.cell? ⟨g, off + k, none⟩ = some (.slice p2 rp.length cap2) := (HBYw.out.cell (p := ⟨g, off + k, none⟩) hg).trans hu1.out
        by_cases hl2 : k2 < rp.length
        · obtain ⟨g2, off2, hp2, hg2, _, hc2⟩ := Y4.out (by omega)
          subst hp2
          obtain ⟨u2, hu2, hru2⟩ := hc2 k2 hl2
          have hk2i : (k2 : Int) < (rp.length : Int) := by omega
          have HCP := hide (HCM.out k2 hl2)
          obtain ⟨cp, hcpd⟩ : ∃ cp, cp = rp[k2]'hl2 := ⟨_, rfl⟩
          rw [← hcpd] at hru2 HCP
          have HCPD := hide hcpd
          obtain ⟨p3, c3, rfl⟩ := hru2.isSlice
          have hcp := hide hru2
          have hu2 := hide hu2
          clear hc2 hru2 hcpd
          go_wp2_with fail
          refine wp_region_held (S := (fun y : World => y.cell? ⟨w.heap.size, 0, none⟩ = some (.slice (some ⟨g, off, none⟩) f.length cap) ∧ y.cell? ⟨g, off + k, none⟩ = some (.slice (some ⟨g2, off2, none⟩) rp.length cap2) ∧ y.cell? ⟨g2, off2 + k2, none⟩ = some (.slice p3 cp.length c3))) (by kernel_rfl) ?_
          have hbd : Below Y.heap.size Y { Y with drawn := Y.drawn + 1 } := (Below.refl _ _).drew
          obtain ⟨Z0, hZ0⟩ : ∃ Z0 : World, Z0 = { Y with drawn := Y.drawn + 1 } := ⟨_, rfl⟩
          rw [← hZ0] at hbd ⊢
          have hz0s : Z0.heap.size = Y.heap.size := by rw [hZ0]
          clear hZ0
          have HRowD := hide (HRY.out.below hbd HRY.out.lt)
          have HOD := hide (own_below HOY.out hbd)
          have HElD : Hid (∃ A B : Nat → Nat, (∀ j (h1 : j < vs2.length) (h2 : j < rp.length), T5 + 1 ≤ A j ∧ B j ≤ Z0.heap.size ∧ (∀ g, l2.ownBlock = some g → B j ≤ g ∨ g < A j) ∧ OComp (A j) (B j) Z0 vs2[j] rp[j]) ∧ ∀ i j, i < j → j < k2 → B i ≤ A j) := hide (by
            obtain ⟨A, B, hE, hD⟩ := HEY.out
            refine ⟨A, B, fun j h1 h2 => ?_, hD⟩
            obtain ⟨f1, f2, f3, f4⟩ := hE j h1 h2
            exact ⟨f1, by rw [hz0s]; exact f2, f3, Keeps.go (SameIn.ofBelow hbd) f4⟩)
          have HZ0 := hide (show T5 + 1 ≤ Z0.heap.size by rw [hz0s]; exact HSY.out)
          have HBYZ := hide (HBY.out.trans (hbd.mono (by have := HSY.out; omega)))
          have HVL := HLY
          have HSSY := hide (show ∀ y, Below T5 X5 y → (fun y : World => y.cell? ⟨w.heap.size, 0, none⟩ = some (.slice (some ⟨g, off, none⟩) f.length cap) ∧ y.cell? ⟨g, off + k, none⟩ = some (.slice (some ⟨g2, off2, none⟩) rp.length cap2) ∧ y.cell? ⟨g2, off2 + k2, none⟩ = some (.slice p3 cp.length c3)) y from fun y h =>
            have hb := HBX5.out.trans (h.mono (by have := HT5.out; omega))
            ⟨(h.cell (p := ⟨w.heap.size, 0, none⟩) (by have := HT5.out; show w.heap.size < T5; omega)).trans cb, (hb.cell (p := ⟨g, off + k, none⟩) hg).trans hu1.out, (hb.cell (p := ⟨g2, off2 + k2, none⟩) hg2).trans hu2.out⟩)
          have HSS9 := hide (fun (y : World) (h : Below (T5 + 1) Z0 y) => HSSY.out y (HBYZ.out.trans (h.mono (by omega : T5 ≤ T5 + 1))))
          have HSS := hide (fun (y : World) (h : Below Z0.heap.size Z0 y) => HSS9.out y (h.mono (by have := HZ0.out; omega)))
          have HRC := hide (fun (y : World) (h : Below Z0.heap.size Z0 y) => (show Reads y (.slice p3 cp.length c3) cp from RComp.reads (hcp.out.below (HBX5.out.trans ((HBYZ.out.trans (h.mono (by have := HZ0.out; omega))).mono (by have := HT5.out; omega))))))
          have HBY : Hid (Below T5 X5 Z0) := HBYZ
          have HBZ0 := hide (Below.refl Z0.heap.size Z0)
          have HS := hide (HSS.out Z0 HBZ0.out)
          clear hbd hz0s HRY HOY HEY HSY HBYZ
          refine wpAnyH_take (i := 0) (oi := _) (v := .pointer (some ⟨T5, 0, none⟩)) rfl (by kernel_rfl) (by kernel_rfl) (by kernel_rfl) (fun _ _ _ h => h) (Or.inl ⟨by rfl, by intro w hSw; go_split_ands; go_simp⟩) HS.out ?_
          simp only [Act.put, List.getElem_toArray, List.getElem_cons_zero, List.setIfInBounds_toArray, List.set_cons_zero, List.set_cons_succ]
          refine wpAnyH_take (i := 3) (oi := _) (v := .pointer (some ⟨w.heap.size, 0, none⟩)) rfl (by kernel_rfl) (by kernel_rfl) (by kernel_rfl) (fun _ _ _ h => h) (Or.inl ⟨by rfl, by intro w hSw; go_split_ands; go_simp⟩) HS.out ?_
          simp only [Act.put, List.getElem_toArray, List.getElem_cons_zero, List.getElem_cons_succ, List.setIfInBounds_toArray, List.set_cons_zero, List.set_cons_succ]
          refine wpAnyH_take (i := 4) (oi := _) (v := .slice (some ⟨g, off, none⟩) f.length cap) rfl (by kernel_rfl) (by kernel_rfl) (by kernel_rfl) (fun _ _ _ h => h) (Or.inl ⟨by rfl, by intro w hSw; go_split_ands; go_simp⟩) HS.out ?_
          simp only [Act.put, List.getElem_toArray, List.getElem_cons_zero, List.getElem_cons_succ, List.setIfInBounds_toArray, List.set_cons_zero, List.set_cons_succ]
          refine wpAnyH_take (i := 5) (oi := _) (v := .int .i64 (k : Int)) rfl (by kernel_rfl) (by kernel_rfl) (by kernel_rfl) (fun _ _ _ h => h) (Or.inl ⟨by rfl, by intro w hSw; go_split_ands; go_simp⟩) HS.out ?_
          simp only [Act.put, List.getElem_toArray, List.getElem_cons_zero, List.getElem_cons_succ, List.setIfInBounds_toArray, List.set_cons_zero, List.set_cons_succ]
          refine wpAnyH_take (i := 6) (oi := _) (v := .pointer (some ⟨g, off + k, none⟩)) rfl (by kernel_rfl) (by kernel_rfl) (by kernel_rfl) (fun _ _ _ h => h) (Or.inl ⟨by rfl, by intro w hSw; go_split_ands; go_simp⟩) HS.out ?_
          simp only [Act.put, List.getElem_toArray, List.getElem_cons_zero, List.getElem_cons_succ, List.setIfInBounds_toArray, List.set_cons_zero, List.set_cons_succ]
          refine wpAnyH_take (i := 7) (oi := _) (v := .pointer (some ⟨g, off + k, none⟩)) rfl (by kernel_rfl) (by kernel_rfl) (by kernel_rfl) (fun _ _ _ h => h) (Or.inl ⟨by rfl, by intro w hSw; go_split_ands; go_simp⟩) HS.out ?_
          simp only [Act.put, List.getElem_toArray, List.getElem_cons_zero, List.getElem_cons_succ, List.setIfInBounds_toArray, List.set_cons_zero, List.set_cons_succ]
          refine wpAnyH_take (i := 8) (oi := _) (v := .slice (some ⟨g2, off2, none⟩) rp.length cap2) rfl (by kernel_rfl) (by kernel_rfl) (by kernel_rfl) (fun _ _ _ h => h) (Or.inl ⟨by rfl, by intro w hSw; go_split_ands; go_simp⟩) HS.out ?_
          simp only [Act.put, List.getElem_toArray, List.getElem_cons_zero, List.getElem_cons_succ, List.setIfInBounds_toArray, List.set_cons_zero, List.set_cons_succ]
          refine wpAnyH_take (i := 9) (oi := _) (v := .int .i64 (k2 : Int)) rfl (by kernel_rfl) (by kernel_rfl) (by kernel_rfl) (fun _ _ _ h => h) (Or.inl ⟨by rfl, by intro w hSw; go_split_ands; go_simp⟩) HS.out ?_
          simp only [Act.put, List.getElem_toArray, List.getElem_cons_zero, List.getElem_cons_succ, List.setIfInBounds_toArray, List.set_cons_zero, List.set_cons_succ]
          refine wpAnyH_take (i := 10) (oi := _) (v := .pointer (some ⟨g2, off2 + k2, none⟩)) rfl (by kernel_rfl) (by kernel_rfl) (by kernel_rfl) (fun _ _ _ h => h) (Or.inl ⟨by rfl, by intro w hSw; go_split_ands; go_simp⟩) HS.out ?_
          simp only [Act.put, List.getElem_toArray, List.getElem_cons_zero, List.getElem_cons_succ, List.setIfInBounds_toArray, List.set_cons_zero, List.set_cons_succ]
          refine wpAnyH_take (i := 11) (oi := _) (v := .pointer (some ⟨g2, off2 + k2, none⟩)) rfl (by kernel_rfl) (by kernel_rfl) (by kernel_rfl) (fun _ _ _ h => h) (Or.inl ⟨by rfl, by intro w hSw; go_split_ands; go_simp⟩) HS.out ?_
          simp only [Act.put, List.getElem_toArray, List.getElem_cons_zero, List.getElem_cons_succ, List.setIfInBounds_toArray, List.set_cons_zero, List.set_cons_succ]
          refine wpAnyH_take (i := 12) (oi := _) (v := .slice p3 cp.length c3) rfl (by kernel_rfl) (by kernel_rfl) (by kernel_rfl) (fun _ _ _ h => h) (Or.inl ⟨by rfl, by intro w hSw; go_split_ands; go_simp⟩) HS.out ?_
          simp only [Act.put, List.getElem_toArray, List.getElem_cons_zero, List.getElem_cons_succ, List.setIfInBounds_toArray, List.set_cons_zero, List.set_cons_succ]
          refine wpAnyH_ready (rs := [1, 2]) (by kernel_rfl) (by simp) ?_
          refine AllReadyH.cons (o := _) rfl (fun K hK => ?_) (AllReadyH.cons (o := _) rfl (fun K hK => ?_) AllReadyH.nil)
          · have c5 : Z0.cell? ⟨T5, 0, none⟩ = some l2 := (HRowD.out.below HBZ0.out HRowD.out.lt).cell 0
            go_simp
            refine hK.out _ _ HS.out (fun _ => ?_)
            clear hK K c5
            refine wpAnyH_ready (rs := [2]) (by kernel_rfl) (by simp) ?_
            refine AllReadyH.cons (o := _) rfl (fun K hK => ?_) AllReadyH.nil
            go_simp
            have HBZ1 := hide (HBZ0.out.alloc HBZ0.out.size (.cells #[] 9))
            refine hK.out _ _ (HSS.out _ HBZ1.out) (fun _ => ?_)
            clear hK K HS
            generalize hZ : Z0.alloc (.cells #[] 9) = Z1 at HBZ1 ⊢
            generalize Z0.heap.size = E5
            clear hZ
            have HS := hide (HSS.out _ HBZ1.out)
            refine wpAnyH_ready (rs := [13]) (by kernel_rfl) (by simp) ?_
            refine AllReadyH.cons (o := _) rfl (fun K hK => ?_) AllReadyH.nil
            refine step_copyS rfl (.tmp 29) (.tmp 39) 89 rfl 9 i0 (.string ⟨#[]⟩) Tryz.underlying89 hi hz0 hz1 hz2 rfl (by exact ⟨_, rfl⟩) (.slice p3 cp.length c3) rfl cp (HRC.out _ HBZ1.out) HCP.out ?_
            intro q5 d5 Z2 ho5 hb5
            have HBZ2 := hide (HBZ1.out.trans (hb5.mono HBZ1.out.size))
            have HNW := hide (comp_of_ownS ho5)
            have HZL := hide (show Z0.heap.size ≤ Z1.heap.size from HBZ1.out.size)
            obtain ⟨LO, hLO⟩ : ∃ LO, LO = Z1.heap.size := ⟨_, rfl⟩
            rw [← hLO] at HNW HZL
            obtain ⟨HI, hHI⟩ : ∃ HI, HI = Z2.heap.size := ⟨_, rfl⟩
            rw [← hHI] at HNW
            have HHI := hide (show HI ≤ Z2.heap.size from Nat.le_of_eq hHI)
            clear ho5 hb5 hLO hHI
            refine hK.out _ _ (HSS.out _ HBZ2.out) (fun _ => ?_)
            clear hK K HS
            have HS := hide (HSS.out _ HBZ2.out)
            simp only [Act.put, List.getElem_toArray, List.getElem_cons_zero, List.getElem_cons_succ, List.setIfInBounds_toArray, List.set_cons_zero, List.set_cons_succ]
            refine wpAnyH_take (i := 14) (oi := _) (v := .agg #[.slice q5 cp.length d5]) rfl (by kernel_rfl) (by kernel_rfl) (by kernel_rfl) (fun _ _ _ h => h) (Or.inl ⟨by rfl, by intro w hSw; go_split_ands; go_simp⟩) HS.out ?_
            simp only [Act.put, List.getElem_toArray, List.getElem_cons_zero, List.getElem_cons_succ, List.setIfInBounds_toArray, List.set_cons_zero, List.set_cons_succ]
            refine wpAnyH_ready (rs := [15]) (by kernel_rfl) (by simp) ?_
            refine AllReadyH.cons (o := _) rfl (fun K hK => ?_) AllReadyH.nil
            go_simp
            have HBZ3 := hide (HBZ2.out.alloc HBZ2.out.size (.cells #[.slice q5 cp.length d5] 91))
            refine hK.out _ _ (HSS.out _ HBZ3.out) (fun _ => ?_)
            clear hK K HS
            have HNW2 := hide (Keeps.go (SameIn.ofBelow ((Below.refl Z2.heap.size Z2).alloc (Nat.le_refl _) (.cells #[.slice q5 cp.length d5] 91))) HNW.out)
            have HR1 := hide (cell_one_new Z2 (.slice q5 cp.length d5) 91)
            have HHI2 : Hid (HI ≤ (Z2.alloc (.cells #[.slice q5 cp.length d5] 91)).heap.size) := hide (by have := HHI.out; simp; omega)
            generalize hZ : Z2.alloc (.cells #[.slice q5 cp.length d5] 91) = Z3 at HBZ3 HNW2 HR1 HHI2 ⊢
            generalize Z2.heap.size = F5 at HR1 ⊢
            clear hZ HNW
            have HS := hide (HSS.out _ HBZ3.out)
            have HOZ := hide (own_below HOD.out HBZ3.out)
            refine wpAnyH_ready (rs := [16]) (by kernel_rfl) (by simp) ?_
            refine AllReadyH.cons (o := _) rfl (fun K hK => ?_) AllReadyH.nil
            refine step_own (w := Z3) rfl (.tmp 28) (.tmp 42) 86 rfl (T5 + 1) 91 j0 _ 1 24 Tryz.underlying86 hj hy0 hy1 hy2 HZC.out (by omega) l2 k2 vs2 rfl HOZ.out ⟨F5, 0, none⟩ 1 _ [.slice q5 cp.length d5] rfl rfl HR1.out (by simp [Value.oneCell']) (by unfold maxLen; omega) (by omega) (by have h5 := HBZ3.out.size; have h6 := HZ0.out; omega) ?_
            intro l3 Z9 hown9 hgrow hat
            obtain ⟨pl, cl, hl3⟩ := own_slice1 hown9
            subst hl3
            have HROW9 := hide (row_grown (HRowD.out.below HBZ3.out HRowD.out.lt) hgrow (fun k hk => (HOZ.out.lt k hk).1) (Nat.lt_succ_self _))
            have HBW := hide (show Below (T5 + 1) Z0 Z9 from (HBZ3.out.mono (by have h6 := HZ0.out; omega)).grown hgrow (by have h5 := HBZ3.out.size; have h6 := HZ0.out; omega) (fun k hk => (HOZ.out.lt k hk).1))
            have HEl9 : Hid (∃ A B : Nat → Nat, (∀ j (h1 : j < (vs2 ++ [Value.slice q5 cp.length d5]).length) (h2 : j < rp.length), T5 + 1 ≤ A j ∧ B j ≤ Z9.heap.size ∧ (∀ g, (Value.slice pl (k2 + 1) cl).ownBlock = some g → B j ≤ g ∨ g < A j) ∧ OComp (A j) (B j) Z9 (vs2 ++ [Value.slice q5 cp.length d5])[j] rp[j]) ∧ ∀ i j, i < j → j < k2 + 1 → B i ≤ A j) := hide (by
              obtain ⟨A, B, hE, hD⟩ := HElD.out
              have hs1 := HBZ3.out.size
              have hs2 := hgrow.size
              have hZ0 := HZ0.out
              have hlo := HZL.out
              have hhi := HHI2.out
              have hvl := HVL.out
              refine ⟨fun i => if i = k2 then LO else A i, fun i => if i = k2 then HI else B i, fun j h1 h2 => ?_, fun i j hij hj => ?_⟩
              · have h1' : j < k2 + 1 := by rw [List.length_append, hvl] at h1; exact h1
                dsimp only
                by_cases hj : j = k2
                · subst hj
                  rw [if_pos rfl, if_pos rfl, List.getElem_append_right (by rw [hvl]; exact Nat.le_refl _)]
                  simp only [hvl, Nat.sub_self, List.getElem_cons_zero]
                  refine ⟨by omega, by omega, fun g hg => ?_, ?_⟩
                  · rcases hat with h | h
                    · rw [h] at hg
                      exact .inr (by have := (HOD.out.lt g hg).2; omega)
                    · rw [h] at hg
                      cases hg
                      exact .inl (by omega)
                  · have e := Keeps.go (grown_in hgrow (fun g hg => .inr (by have := (HOD.out.lt g hg).2; omega))) HNW2.out
                    exact Eq.mp (congrArg (fun c => OComp LO HI Z9 (Value.slice q5 cp.length d5) c) HCPD.out) e
                · have hjk : j < vs2.length := by rw [hvl]; omega
                  obtain ⟨f1, f2, f3, f4⟩ := hE j hjk h2
                  rw [if_neg hj, if_neg hj, List.getElem_append_left hjk]
                  refine ⟨f1, by omega, fun g hg => ?_, Keeps.go (grown_in hgrow f3) (Keeps.go (SameIn.ofBelow HBZ3.out) f4)⟩
                  rcases hat with h | h
                  · rw [h] at hg
                    exact f3 g hg
                  · rw [h] at hg
                    cases hg
                    exact .inl (by omega)
              · have hik : i < vs2.length := by rw [hvl]; omega
                obtain ⟨f1, f2, f3, f4⟩ := hE i hik (by omega)
                dsimp only
                by_cases hjk : j = k2
                · rw [if_pos hjk, if_neg (by omega)]; omega
                · rw [if_neg hjk, if_neg (by omega)]; exact hD i j hij (by omega))
            have HO9 := hide hown9
            clear hown9 hgrow hat
            refine hK.out _ _ (HSS9.out _ HBW.out) (fun _ => ?_)
            clear hK K HS
            have HS := hide (HSS9.out _ HBW.out)
            simp only [Act.put, List.getElem_toArray, List.getElem_cons_zero, List.getElem_cons_succ, List.setIfInBounds_toArray, List.set_cons_zero, List.set_cons_succ]
            refine wpAnyH_take (i := 17) (oi := _) (v := .pointer (some ⟨T5, 0, none⟩)) rfl (by kernel_rfl) (by kernel_rfl) (by kernel_rfl) (fun _ _ _ h => h) (Or.inl ⟨by rfl, by intro w hSw; go_split_ands; go_simp⟩) HS.out ?_
            simp only [Act.put, List.getElem_toArray, List.getElem_cons_zero, List.getElem_cons_succ, List.setIfInBounds_toArray, List.set_cons_zero, List.set_cons_succ]
            refine wpAnyH_ready (rs := [18]) (by kernel_rfl) (by simp) ?_
            refine AllReadyH.cons (o := _) rfl (fun K hK => ?_) AllReadyH.nil
            have c9 : Z9.cell? ⟨T5, 0, none⟩ = some l2 := HROW9.out.cell 0
            have f9 := HROW9.out.free 0
            go_simp
            have HBY2 := hide ((HBY.out.trans (HBW.out.mono (by omega : T5 ≤ T5 + 1))).setCell (p := ⟨T5, 0, none⟩) (Nat.le_refl _) (.slice pl (k2 + 1) cl))
            have HRY2 := hide (HROW9.out.set (j := 0) (.slice pl (k2 + 1) cl))
            have es : (Z9.setCell ⟨T5, 0, none⟩ (.slice pl (k2 + 1) cl)).heap.size = Z9.heap.size := by simp [World.setCell]
            have HOY2 := hide (ownsRow_setCell_below HO9.out (a := ⟨T5, 0, none⟩) (by show T5 < T5 + 1; omega) (.slice pl (k2 + 1) cl))
            have HEY2 : Hid (∃ A B : Nat → Nat, (∀ j (h1 : j < (vs2 ++ [Value.slice q5 cp.length d5]).length) (h2 : j < rp.length), T5 + 1 ≤ A j ∧ B j ≤ (Z9.setCell ⟨T5, 0, none⟩ (.slice pl (k2 + 1) cl)).heap.size ∧ (∀ g, (Value.slice pl (k2 + 1) cl).ownBlock = some g → B j ≤ g ∨ g < A j) ∧ OComp (A j) (B j) (Z9.setCell ⟨T5, 0, none⟩ (.slice pl (k2 + 1) cl)) (vs2 ++ [Value.slice q5 cp.length d5])[j] rp[j]) ∧ ∀ i j, i < j → j < k2 + 1 → B i ≤ A j) := hide (by
              obtain ⟨A, B, hE, hD⟩ := HEl9.out
              refine ⟨A, B, fun j h1 h2 => ?_, hD⟩
              obtain ⟨f1, f2, f3, f4⟩ := hE j h1 h2
              exact ⟨f1, by rw [es]; exact f2, f3, Keeps.go (SameIn.set _ _ (by omega)) f4⟩)
            have HLY2 : Hid ((vs2 ++ [Value.slice q5 cp.length d5]).length = k2 + 1) := hide (by rw [List.length_append, HVL.out]; rfl)
            have HSY2 : Hid (T5 + 1 ≤ (Z9.setCell ⟨T5, 0, none⟩ (.slice pl (k2 + 1) cl)).heap.size) := hide (by rw [es]; have h5 := HBW.out.size; have h6 := HZ0.out; omega)
            clear es
            refine hK.out _ _ (HSSY.out _ HBY2.out) (fun _ => ?_)
            clear hK K HS
            refine wpAnyH_done (by kernel_rfl) ?_ _
            go_wp2
            go_roundw
            case rel => exact ⟨_, k2 + 1, _, _, rfl, by omega, by go_num, HRY2, HOY2, HBY2, HLY2, HSY2, HEY2⟩
            case measure => simp [intOf]; omega
          · go_simp
            have HBZ1 := hide (HBZ0.out.alloc HBZ0.out.size (.cells #[] 9))
            refine hK.out _ _ (HSS.out _ HBZ1.out) (fun _ => ?_)
            clear hK K HS
            generalize hZ : Z0.alloc (.cells #[] 9) = Z1 at HBZ1 ⊢
            generalize Z0.heap.size = E5
            clear hZ
            have HS := hide (HSS.out _ HBZ1.out)
            refine wpAnyH_ready (rs := [1, 13]) (by kernel_rfl) (by simp) ?_
            refine AllReadyH.cons (o := _) rfl (fun K hK => ?_) (AllReadyH.cons (o := _) rfl (fun K hK => ?_) AllReadyH.nil)
            · have c5 : Z1.cell? ⟨T5, 0, none⟩ = some l2 := (HRowD.out.below HBZ1.out HRowD.out.lt).cell 0
              go_simp
              refine hK.out _ _ HS.out (fun _ => ?_)
              clear hK K c5
              refine wpAnyH_ready (rs := [13]) (by kernel_rfl) (by simp) ?_
              refine AllReadyH.cons (o := _) rfl (fun K hK => ?_) AllReadyH.nil
              refine step_copyS rfl (.tmp 29) (.tmp 39) 89 rfl 9 i0 (.string ⟨#[]⟩) Tryz.underlying89 hi hz0 hz1 hz2 rfl (by exact ⟨_, rfl⟩) (.slice p3 cp.length c3) rfl cp (HRC.out _ HBZ1.out) HCP.out ?_
              intro q5 d5 Z2 ho5 hb5
              have HBZ2 := hide (HBZ1.out.trans (hb5.mono HBZ1.out.size))
              have HNW := hide (comp_of_ownS ho5)
              have HZL := hide (show Z0.heap.size ≤ Z1.heap.size from HBZ1.out.size)
              obtain ⟨LO, hLO⟩ : ∃ LO, LO = Z1.heap.size := ⟨_, rfl⟩
              rw [← hLO] at HNW HZL
              obtain ⟨HI, hHI⟩ : ∃ HI, HI = Z2.heap.size := ⟨_, rfl⟩
              rw [← hHI] at HNW
              have HHI := hide (show HI ≤ Z2.heap.size from Nat.le_of_eq hHI)
              clear ho5 hb5 hLO hHI
              refine hK.out _ _ (HSS.out _ HBZ2.out) (fun _ => ?_)
              clear hK K HS
              have HS := hide (HSS.out _ HBZ2.out)
              simp only [Act.put, List.getElem_toArray, List.getElem_cons_zero, List.getElem_cons_succ, List.setIfInBounds_toArray, List.set_cons_zero, List.set_cons_succ]
              refine wpAnyH_take (i := 14) (oi := _) (v := .agg #[.slice q5 cp.length d5]) rfl (by kernel_rfl) (by kernel_rfl) (by kernel_rfl) (fun _ _ _ h => h) (Or.inl ⟨by rfl, by intro w hSw; go_split_ands; go_simp⟩) HS.out ?_
              simp only [Act.put, List.getElem_toArray, List.getElem_cons_zero, List.getElem_cons_succ, List.setIfInBounds_toArray, List.set_cons_zero, List.set_cons_succ]
              refine wpAnyH_ready (rs := [15]) (by kernel_rfl) (by simp) ?_
              refine AllReadyH.cons (o := _) rfl (fun K hK => ?_) AllReadyH.nil
              go_simp
              have HBZ3 := hide (HBZ2.out.alloc HBZ2.out.size (.cells #[.slice q5 cp.length d5] 91))
              refine hK.out _ _ (HSS.out _ HBZ3.out) (fun _ => ?_)
              clear hK K HS
              have HNW2 := hide (Keeps.go (SameIn.ofBelow ((Below.refl Z2.heap.size Z2).alloc (Nat.le_refl _) (.cells #[.slice q5 cp.length d5] 91))) HNW.out)
              have HR1 := hide (cell_one_new Z2 (.slice q5 cp.length d5) 91)
              have HHI2 : Hid (HI ≤ (Z2.alloc (.cells #[.slice q5 cp.length d5] 91)).heap.size) := hide (by have := HHI.out; simp; omega)
              generalize hZ : Z2.alloc (.cells #[.slice q5 cp.length d5] 91) = Z3 at HBZ3 HNW2 HR1 HHI2 ⊢
              generalize Z2.heap.size = F5 at HR1 ⊢
              clear hZ HNW
              have HS := hide (HSS.out _ HBZ3.out)
              have HOZ := hide (own_below HOD.out HBZ3.out)
              refine wpAnyH_ready (rs := [16]) (by kernel_rfl) (by simp) ?_
              refine AllReadyH.cons (o := _) rfl (fun K hK => ?_) AllReadyH.nil
              refine step_own (w := Z3) rfl (.tmp 28) (.tmp 42) 86 rfl (T5 + 1) 91 j0 _ 1 24 Tryz.underlying86 hj hy0 hy1 hy2 HZC.out (by omega) l2 k2 vs2 rfl HOZ.out ⟨F5, 0, none⟩ 1 _ [.slice q5 cp.length d5] rfl rfl HR1.out (by simp [Value.oneCell']) (by unfold maxLen; omega) (by omega) (by have h5 := HBZ3.out.size; have h6 := HZ0.out; omega) ?_
              intro l3 Z9 hown9 hgrow hat
              obtain ⟨pl, cl, hl3⟩ := own_slice1 hown9
              subst hl3
              have HROW9 := hide (row_grown (HRowD.out.below HBZ3.out HRowD.out.lt) hgrow (fun k hk => (HOZ.out.lt k hk).1) (Nat.lt_succ_self _))
              have HBW := hide (show Below (T5 + 1) Z0 Z9 from (HBZ3.out.mono (by have h6 := HZ0.out; omega)).grown hgrow (by have h5 := HBZ3.out.size; have h6 := HZ0.out; omega) (fun k hk => (HOZ.out.lt k hk).1))
              have HEl9 : Hid (∃ A B : Nat → Nat, (∀ j (h1 : j < (vs2 ++ [Value.slice q5 cp.length d5]).length) (h2 : j < rp.length), T5 + 1 ≤ A j ∧ B j ≤ Z9.heap.size ∧ (∀ g, (Value.slice pl (k2 + 1) cl).ownBlock = some g → B j ≤ g ∨ g < A j) ∧ OComp (A j) (B j) Z9 (vs2 ++ [Value.slice q5 cp.length d5])[j] rp[j]) ∧ ∀ i j, i < j → j < k2 + 1 → B i ≤ A j) := hide (by
                obtain ⟨A, B, hE, hD⟩ := HElD.out
                have hs1 := HBZ3.out.size
                have hs2 := hgrow.size
                have hZ0 := HZ0.out
                have hlo := HZL.out
                have hhi := HHI2.out
                have hvl := HVL.out
                refine ⟨fun i => if i = k2 then LO else A i, fun i => if i = k2 then HI else B i, fun j h1 h2 => ?_, fun i j hij hj => ?_⟩
                · have h1' : j < k2 + 1 := by rw [List.length_append, hvl] at h1; exact h1
                  dsimp only
                  by_cases hj : j = k2
                  · subst hj
                    rw [if_pos rfl, if_pos rfl, List.getElem_append_right (by rw [hvl]; exact Nat.le_refl _)]
                    simp only [hvl, Nat.sub_self, List.getElem_cons_zero]
                    refine ⟨by omega, by omega, fun g hg => ?_, ?_⟩
                    · rcases hat with h | h
                      · rw [h] at hg
                        exact .inr (by have := (HOD.out.lt g hg).2; omega)
                      · rw [h] at hg
                        cases hg
                        exact .inl (by omega)
                    · have e := Keeps.go (grown_in hgrow (fun g hg => .inr (by have := (HOD.out.lt g hg).2; omega))) HNW2.out
                      exact Eq.mp (congrArg (fun c => OComp LO HI Z9 (Value.slice q5 cp.length d5) c) HCPD.out) e
                  · have hjk : j < vs2.length := by rw [hvl]; omega
                    obtain ⟨f1, f2, f3, f4⟩ := hE j hjk h2
                    rw [if_neg hj, if_neg hj, List.getElem_append_left hjk]
                    refine ⟨f1, by omega, fun g hg => ?_, Keeps.go (grown_in hgrow f3) (Keeps.go (SameIn.ofBelow HBZ3.out) f4)⟩
                    rcases hat with h | h
                    · rw [h] at hg
                      exact f3 g hg
                    · rw [h] at hg
                      cases hg
                      exact .inl (by omega)
                · have hik : i < vs2.length := by rw [hvl]; omega
                  obtain ⟨f1, f2, f3, f4⟩ := hE i hik (by omega)
                  dsimp only
                  by_cases hjk : j = k2
                  · rw [if_pos hjk, if_neg (by omega)]; omega
                  · rw [if_neg hjk, if_neg (by omega)]; exact hD i j hij (by omega))
              have HO9 := hide hown9
              clear hown9 hgrow hat
              refine hK.out _ _ (HSS9.out _ HBW.out) (fun _ => ?_)
              clear hK K HS
              have HS := hide (HSS9.out _ HBW.out)
              simp only [Act.put, List.getElem_toArray, List.getElem_cons_zero, List.getElem_cons_succ, List.setIfInBounds_toArray, List.set_cons_zero, List.set_cons_succ]
              refine wpAnyH_take (i := 17) (oi := _) (v := .pointer (some ⟨T5, 0, none⟩)) rfl (by kernel_rfl) (by kernel_rfl) (by kernel_rfl) (fun _ _ _ h => h) (Or.inl ⟨by rfl, by intro w hSw; go_split_ands; go_simp⟩) HS.out ?_
              simp only [Act.put, List.getElem_toArray, List.getElem_cons_zero, List.getElem_cons_succ, List.setIfInBounds_toArray, List.set_cons_zero, List.set_cons_succ]
              refine wpAnyH_ready (rs := [18]) (by kernel_rfl) (by simp) ?_
              refine AllReadyH.cons (o := _) rfl (fun K hK => ?_) AllReadyH.nil
              have c9 : Z9.cell? ⟨T5, 0, none⟩ = some l2 := HROW9.out.cell 0
              have f9 := HROW9.out.free 0
              go_simp
              have HBY2 := hide ((HBY.out.trans (HBW.out.mono (by omega : T5 ≤ T5 + 1))).setCell (p := ⟨T5, 0, none⟩) (Nat.le_refl _) (.slice pl (k2 + 1) cl))
              have HRY2 := hide (HROW9.out.set (j := 0) (.slice pl (k2 + 1) cl))
              have es : (Z9.setCell ⟨T5, 0, none⟩ (.slice pl (k2 + 1) cl)).heap.size = Z9.heap.size := by simp [World.setCell]
              have HOY2 := hide (ownsRow_setCell_below HO9.out (a := ⟨T5, 0, none⟩) (by show T5 < T5 + 1; omega) (.slice pl (k2 + 1) cl))
              have HEY2 : Hid (∃ A B : Nat → Nat, (∀ j (h1 : j < (vs2 ++ [Value.slice q5 cp.length d5]).length) (h2 : j < rp.length), T5 + 1 ≤ A j ∧ B j ≤ (Z9.setCell ⟨T5, 0, none⟩ (.slice pl (k2 + 1) cl)).heap.size ∧ (∀ g, (Value.slice pl (k2 + 1) cl).ownBlock = some g → B j ≤ g ∨ g < A j) ∧ OComp (A j) (B j) (Z9.setCell ⟨T5, 0, none⟩ (.slice pl (k2 + 1) cl)) (vs2 ++ [Value.slice q5 cp.length d5])[j] rp[j]) ∧ ∀ i j, i < j → j < k2 + 1 → B i ≤ A j) := hide (by
                obtain ⟨A, B, hE, hD⟩ := HEl9.out
                refine ⟨A, B, fun j h1 h2 => ?_, hD⟩
                obtain ⟨f1, f2, f3, f4⟩ := hE j h1 h2
                exact ⟨f1, by rw [es]; exact f2, f3, Keeps.go (SameIn.set _ _ (by omega)) f4⟩)
              have HLY2 : Hid ((vs2 ++ [Value.slice q5 cp.length d5]).length = k2 + 1) := hide (by rw [List.length_append, HVL.out]; rfl)
              have HSY2 : Hid (T5 + 1 ≤ (Z9.setCell ⟨T5, 0, none⟩ (.slice pl (k2 + 1) cl)).heap.size) := hide (by rw [es]; have h5 := HBW.out.size; have h6 := HZ0.out; omega)
              clear es
              refine hK.out _ _ (HSSY.out _ HBY2.out) (fun _ => ?_)
              clear hK K HS
              refine wpAnyH_done (by kernel_rfl) ?_ _
              go_wp2
              go_roundw
              case rel => exact ⟨_, k2 + 1, _, _, rfl, by omega, by go_num, HRY2, HOY2, HBY2, HLY2, HSY2, HEY2⟩
              case measure => simp [intOf]; omega
            · refine step_copyS rfl (.tmp 29) (.tmp 39) 89 rfl 9 i0 (.string ⟨#[]⟩) Tryz.underlying89 hi hz0 hz1 hz2 rfl (by exact ⟨_, rfl⟩) (.slice p3 cp.length c3) rfl cp (HRC.out _ HBZ1.out) HCP.out ?_
              intro q5 d5 Z2 ho5 hb5
              have HBZ2 := hide (HBZ1.out.trans (hb5.mono HBZ1.out.size))
              have HNW := hide (comp_of_ownS ho5)
              have HZL := hide (show Z0.heap.size ≤ Z1.heap.size from HBZ1.out.size)
              obtain ⟨LO, hLO⟩ : ∃ LO, LO = Z1.heap.size := ⟨_, rfl⟩
              rw [← hLO] at HNW HZL
              obtain ⟨HI, hHI⟩ : ∃ HI, HI = Z2.heap.size := ⟨_, rfl⟩
              rw [← hHI] at HNW
              have HHI := hide (show HI ≤ Z2.heap.size from Nat.le_of_eq hHI)
              clear ho5 hb5 hLO hHI
              refine hK.out _ _ (HSS.out _ HBZ2.out) (fun _ => ?_)
              clear hK K HS
              have HS := hide (HSS.out _ HBZ2.out)
              simp only [Act.put, List.getElem_toArray, List.getElem_cons_zero, List.getElem_cons_succ, List.setIfInBounds_toArray, List.set_cons_zero, List.set_cons_succ]
              refine wpAnyH_take (i := 14) (oi := _) (v := .agg #[.slice q5 cp.length d5]) rfl (by kernel_rfl) (by kernel_rfl) (by kernel_rfl) (fun _ _ _ h => h) (Or.inl ⟨by rfl, by intro w hSw; go_split_ands; go_simp⟩) HS.out ?_
              simp only [Act.put, List.getElem_toArray, List.getElem_cons_zero, List.getElem_cons_succ, List.setIfInBounds_toArray, List.set_cons_zero, List.set_cons_succ]
              refine wpAnyH_ready (rs := [1, 15]) (by kernel_rfl) (by simp) ?_
              refine AllReadyH.cons (o := _) rfl (fun K hK => ?_) (AllReadyH.cons (o := _) rfl (fun K hK => ?_) AllReadyH.nil)
              · have c5 : Z2.cell? ⟨T5, 0, none⟩ = some l2 := (HRowD.out.below HBZ2.out HRowD.out.lt).cell 0
                go_simp
                refine hK.out _ _ HS.out (fun _ => ?_)
                clear hK K c5
                refine wpAnyH_ready (rs := [15]) (by kernel_rfl) (by simp) ?_
                refine AllReadyH.cons (o := _) rfl (fun K hK => ?_) AllReadyH.nil
                go_simp
                have HBZ3 := hide (HBZ2.out.alloc HBZ2.out.size (.cells #[.slice q5 cp.length d5] 91))
                refine hK.out _ _ (HSS.out _ HBZ3.out) (fun _ => ?_)
                clear hK K HS
                have HNW2 := hide (Keeps.go (SameIn.ofBelow ((Below.refl Z2.heap.size Z2).alloc (Nat.le_refl _) (.cells #[.slice q5 cp.length d5] 91))) HNW.out)
                have HR1 := hide (cell_one_new Z2 (.slice q5 cp.length d5) 91)
                have HHI2 : Hid (HI ≤ (Z2.alloc (.cells #[.slice q5 cp.length d5] 91)).heap.size) := hide (by have := HHI.out; simp; omega)
                generalize hZ : Z2.alloc (.cells #[.slice q5 cp.length d5] 91) = Z3 at HBZ3 HNW2 HR1 HHI2 ⊢
                generalize Z2.heap.size = F5 at HR1 ⊢
                clear hZ HNW
                have HS := hide (HSS.out _ HBZ3.out)
                have HOZ := hide (own_below HOD.out HBZ3.out)
                refine wpAnyH_ready (rs := [16]) (by kernel_rfl) (by simp) ?_
                refine AllReadyH.cons (o := _) rfl (fun K hK => ?_) AllReadyH.nil
                refine step_own (w := Z3) rfl (.tmp 28) (.tmp 42) 86 rfl (T5 + 1) 91 j0 _ 1 24 Tryz.underlying86 hj hy0 hy1 hy2 HZC.out (by omega) l2 k2 vs2 rfl HOZ.out ⟨F5, 0, none⟩ 1 _ [.slice q5 cp.length d5] rfl rfl HR1.out (by simp [Value.oneCell']) (by unfold maxLen; omega) (by omega) (by have h5 := HBZ3.out.size; have h6 := HZ0.out; omega) ?_
                intro l3 Z9 hown9 hgrow hat
                obtain ⟨pl, cl, hl3⟩ := own_slice1 hown9
                subst hl3
                have HROW9 := hide (row_grown (HRowD.out.below HBZ3.out HRowD.out.lt) hgrow (fun k hk => (HOZ.out.lt k hk).1) (Nat.lt_succ_self _))
                have HBW := hide (show Below (T5 + 1) Z0 Z9 from (HBZ3.out.mono (by have h6 := HZ0.out; omega)).grown hgrow (by have h5 := HBZ3.out.size; have h6 := HZ0.out; omega) (fun k hk => (HOZ.out.lt k hk).1))
                have HEl9 : Hid (∃ A B : Nat → Nat, (∀ j (h1 : j < (vs2 ++ [Value.slice q5 cp.length d5]).length) (h2 : j < rp.length), T5 + 1 ≤ A j ∧ B j ≤ Z9.heap.size ∧ (∀ g, (Value.slice pl (k2 + 1) cl).ownBlock = some g → B j ≤ g ∨ g < A j) ∧ OComp (A j) (B j) Z9 (vs2 ++ [Value.slice q5 cp.length d5])[j] rp[j]) ∧ ∀ i j, i < j → j < k2 + 1 → B i ≤ A j) := hide (by
                  obtain ⟨A, B, hE, hD⟩ := HElD.out
                  have hs1 := HBZ3.out.size
                  have hs2 := hgrow.size
                  have hZ0 := HZ0.out
                  have hlo := HZL.out
                  have hhi := HHI2.out
                  have hvl := HVL.out
                  refine ⟨fun i => if i = k2 then LO else A i, fun i => if i = k2 then HI else B i, fun j h1 h2 => ?_, fun i j hij hj => ?_⟩
                  · have h1' : j < k2 + 1 := by rw [List.length_append, hvl] at h1; exact h1
                    dsimp only
                    by_cases hj : j = k2
                    · subst hj
                      rw [if_pos rfl, if_pos rfl, List.getElem_append_right (by rw [hvl]; exact Nat.le_refl _)]
                      simp only [hvl, Nat.sub_self, List.getElem_cons_zero]
                      refine ⟨by omega, by omega, fun g hg => ?_, ?_⟩
                      · rcases hat with h | h
                        · rw [h] at hg
                          exact .inr (by have := (HOD.out.lt g hg).2; omega)
                        · rw [h] at hg
                          cases hg
                          exact .inl (by omega)
                      · have e := Keeps.go (grown_in hgrow (fun g hg => .inr (by have := (HOD.out.lt g hg).2; omega))) HNW2.out
                        exact Eq.mp (congrArg (fun c => OComp LO HI Z9 (Value.slice q5 cp.length d5) c) HCPD.out) e
                    · have hjk : j < vs2.length := by rw [hvl]; omega
                      obtain ⟨f1, f2, f3, f4⟩ := hE j hjk h2
                      rw [if_neg hj, if_neg hj, List.getElem_append_left hjk]
                      refine ⟨f1, by omega, fun g hg => ?_, Keeps.go (grown_in hgrow f3) (Keeps.go (SameIn.ofBelow HBZ3.out) f4)⟩
                      rcases hat with h | h
                      · rw [h] at hg
                        exact f3 g hg
                      · rw [h] at hg
                        cases hg
                        exact .inl (by omega)
                  · have hik : i < vs2.length := by rw [hvl]; omega
                    obtain ⟨f1, f2, f3, f4⟩ := hE i hik (by omega)
                    dsimp only
                    by_cases hjk : j = k2
                    · rw [if_pos hjk, if_neg (by omega)]; omega
                    · rw [if_neg hjk, if_neg (by omega)]; exact hD i j hij (by omega))
                have HO9 := hide hown9
                clear hown9 hgrow hat
                refine hK.out _ _ (HSS9.out _ HBW.out) (fun _ => ?_)
                clear hK K HS
                have HS := hide (HSS9.out _ HBW.out)
                simp only [Act.put, List.getElem_toArray, List.getElem_cons_zero, List.getElem_cons_succ, List.setIfInBounds_toArray, List.set_cons_zero, List.set_cons_succ]
                refine wpAnyH_take (i := 17) (oi := _) (v := .pointer (some ⟨T5, 0, none⟩)) rfl (by kernel_rfl) (by kernel_rfl) (by kernel_rfl) (fun _ _ _ h => h) (Or.inl ⟨by rfl, by intro w hSw; go_split_ands; go_simp⟩) HS.out ?_
                simp only [Act.put, List.getElem_toArray, List.getElem_cons_zero, List.getElem_cons_succ, List.setIfInBounds_toArray, List.set_cons_zero, List.set_cons_succ]
                refine wpAnyH_ready (rs := [18]) (by kernel_rfl) (by simp) ?_
                refine AllReadyH.cons (o := _) rfl (fun K hK => ?_) AllReadyH.nil
                have c9 : Z9.cell? ⟨T5, 0, none⟩ = some l2 := HROW9.out.cell 0
                have f9 := HROW9.out.free 0
                go_simp
                have HBY2 := hide ((HBY.out.trans (HBW.out.mono (by omega : T5 ≤ T5 + 1))).setCell (p := ⟨T5, 0, none⟩) (Nat.le_refl _) (.slice pl (k2 + 1) cl))
                have HRY2 := hide (HROW9.out.set (j := 0) (.slice pl (k2 + 1) cl))
                have es : (Z9.setCell ⟨T5, 0, none⟩ (.slice pl (k2 + 1) cl)).heap.size = Z9.heap.size := by simp [World.setCell]
                have HOY2 := hide (ownsRow_setCell_below HO9.out (a := ⟨T5, 0, none⟩) (by show T5 < T5 + 1; omega) (.slice pl (k2 + 1) cl))
                have HEY2 : Hid (∃ A B : Nat → Nat, (∀ j (h1 : j < (vs2 ++ [Value.slice q5 cp.length d5]).length) (h2 : j < rp.length), T5 + 1 ≤ A j ∧ B j ≤ (Z9.setCell ⟨T5, 0, none⟩ (.slice pl (k2 + 1) cl)).heap.size ∧ (∀ g, (Value.slice pl (k2 + 1) cl).ownBlock = some g → B j ≤ g ∨ g < A j) ∧ OComp (A j) (B j) (Z9.setCell ⟨T5, 0, none⟩ (.slice pl (k2 + 1) cl)) (vs2 ++ [Value.slice q5 cp.length d5])[j] rp[j]) ∧ ∀ i j, i < j → j < k2 + 1 → B i ≤ A j) := hide (by
                  obtain ⟨A, B, hE, hD⟩ := HEl9.out
                  refine ⟨A, B, fun j h1 h2 => ?_, hD⟩
                  obtain ⟨f1, f2, f3, f4⟩ := hE j h1 h2
                  exact ⟨f1, by rw [es]; exact f2, f3, Keeps.go (SameIn.set _ _ (by omega)) f4⟩)
                have HLY2 : Hid ((vs2 ++ [Value.slice q5 cp.length d5]).length = k2 + 1) := hide (by rw [List.length_append, HVL.out]; rfl)
                have HSY2 : Hid (T5 + 1 ≤ (Z9.setCell ⟨T5, 0, none⟩ (.slice pl (k2 + 1) cl)).heap.size) := hide (by rw [es]; have h5 := HBW.out.size; have h6 := HZ0.out; omega)
                clear es
                refine hK.out _ _ (HSSY.out _ HBY2.out) (fun _ => ?_)
                clear hK K HS
                refine wpAnyH_done (by kernel_rfl) ?_ _
                go_wp2
                go_roundw
                case rel => exact ⟨_, k2 + 1, _, _, rfl, by omega, by go_num, HRY2, HOY2, HBY2, HLY2, HSY2, HEY2⟩
                case measure => simp [intOf]; omega
              · go_simp
                have HBZ3 := hide (HBZ2.out.alloc HBZ2.out.size (.cells #[.slice q5 cp.length d5] 91))
                refine hK.out _ _ (HSS.out _ HBZ3.out) (fun _ => ?_)
                clear hK K HS
                have HNW2 := hide (Keeps.go (SameIn.ofBelow ((Below.refl Z2.heap.size Z2).alloc (Nat.le_refl _) (.cells #[.slice q5 cp.length d5] 91))) HNW.out)
                have HR1 := hide (cell_one_new Z2 (.slice q5 cp.length d5) 91)
                have HHI2 : Hid (HI ≤ (Z2.alloc (.cells #[.slice q5 cp.length d5] 91)).heap.size) := hide (by have := HHI.out; simp; omega)
                generalize hZ : Z2.alloc (.cells #[.slice q5 cp.length d5] 91) = Z3 at HBZ3 HNW2 HR1 HHI2 ⊢
                generalize Z2.heap.size = F5 at HR1 ⊢
                clear hZ HNW
                have HS := hide (HSS.out _ HBZ3.out)
                refine wpAnyH_ready (rs := [1]) (by kernel_rfl) (by simp) ?_
                refine AllReadyH.cons (o := _) rfl (fun K hK => ?_) AllReadyH.nil
                have c5 : Z3.cell? ⟨T5, 0, none⟩ = some l2 := (HRowD.out.below HBZ3.out HRowD.out.lt).cell 0
                go_simp
                refine hK.out _ _ HS.out (fun _ => ?_)
                clear hK K c5
                have HOZ := hide (own_below HOD.out HBZ3.out)
                refine wpAnyH_ready (rs := [16]) (by kernel_rfl) (by simp) ?_
                refine AllReadyH.cons (o := _) rfl (fun K hK => ?_) AllReadyH.nil
                refine step_own (w := Z3) rfl (.tmp 28) (.tmp 42) 86 rfl (T5 + 1) 91 j0 _ 1 24 Tryz.underlying86 hj hy0 hy1 hy2 HZC.out (by omega) l2 k2 vs2 rfl HOZ.out ⟨F5, 0, none⟩ 1 _ [.slice q5 cp.length d5] rfl rfl HR1.out (by simp [Value.oneCell']) (by unfold maxLen; omega) (by omega) (by have h5 := HBZ3.out.size; have h6 := HZ0.out; omega) ?_
                intro l3 Z9 hown9 hgrow hat
                obtain ⟨pl, cl, hl3⟩ := own_slice1 hown9
                subst hl3
                have HROW9 := hide (row_grown (HRowD.out.below HBZ3.out HRowD.out.lt) hgrow (fun k hk => (HOZ.out.lt k hk).1) (Nat.lt_succ_self _))
                have HBW := hide (show Below (T5 + 1) Z0 Z9 from (HBZ3.out.mono (by have h6 := HZ0.out; omega)).grown hgrow (by have h5 := HBZ3.out.size; have h6 := HZ0.out; omega) (fun k hk => (HOZ.out.lt k hk).1))
                have HEl9 : Hid (∃ A B : Nat → Nat, (∀ j (h1 : j < (vs2 ++ [Value.slice q5 cp.length d5]).length) (h2 : j < rp.length), T5 + 1 ≤ A j ∧ B j ≤ Z9.heap.size ∧ (∀ g, (Value.slice pl (k2 + 1) cl).ownBlock = some g → B j ≤ g ∨ g < A j) ∧ OComp (A j) (B j) Z9 (vs2 ++ [Value.slice q5 cp.length d5])[j] rp[j]) ∧ ∀ i j, i < j → j < k2 + 1 → B i ≤ A j) := hide (by
                  obtain ⟨A, B, hE, hD⟩ := HElD.out
                  have hs1 := HBZ3.out.size
                  have hs2 := hgrow.size
                  have hZ0 := HZ0.out
                  have hlo := HZL.out
                  have hhi := HHI2.out
                  have hvl := HVL.out
                  refine ⟨fun i => if i = k2 then LO else A i, fun i => if i = k2 then HI else B i, fun j h1 h2 => ?_, fun i j hij hj => ?_⟩
                  · have h1' : j < k2 + 1 := by rw [List.length_append, hvl] at h1; exact h1
                    dsimp only
                    by_cases hj : j = k2
                    · subst hj
                      rw [if_pos rfl, if_pos rfl, List.getElem_append_right (by rw [hvl]; exact Nat.le_refl _)]
                      simp only [hvl, Nat.sub_self, List.getElem_cons_zero]
                      refine ⟨by omega, by omega, fun g hg => ?_, ?_⟩
                      · rcases hat with h | h
                        · rw [h] at hg
                          exact .inr (by have := (HOD.out.lt g hg).2; omega)
                        · rw [h] at hg
                          cases hg
                          exact .inl (by omega)
                      · have e := Keeps.go (grown_in hgrow (fun g hg => .inr (by have := (HOD.out.lt g hg).2; omega))) HNW2.out
                        exact Eq.mp (congrArg (fun c => OComp LO HI Z9 (Value.slice q5 cp.length d5) c) HCPD.out) e
                    · have hjk : j < vs2.length := by rw [hvl]; omega
                      obtain ⟨f1, f2, f3, f4⟩ := hE j hjk h2
                      rw [if_neg hj, if_neg hj, List.getElem_append_left hjk]
                      refine ⟨f1, by omega, fun g hg => ?_, Keeps.go (grown_in hgrow f3) (Keeps.go (SameIn.ofBelow HBZ3.out) f4)⟩
                      rcases hat with h | h
                      · rw [h] at hg
                        exact f3 g hg
                      · rw [h] at hg
                        cases hg
                        exact .inl (by omega)
                  · have hik : i < vs2.length := by rw [hvl]; omega
                    obtain ⟨f1, f2, f3, f4⟩ := hE i hik (by omega)
                    dsimp only
                    by_cases hjk : j = k2
                    · rw [if_pos hjk, if_neg (by omega)]; omega
                    · rw [if_neg hjk, if_neg (by omega)]; exact hD i j hij (by omega))
                have HO9 := hide hown9
                clear hown9 hgrow hat
                refine hK.out _ _ (HSS9.out _ HBW.out) (fun _ => ?_)
                clear hK K HS
                have HS := hide (HSS9.out _ HBW.out)
                simp only [Act.put, List.getElem_toArray, List.getElem_cons_zero, List.getElem_cons_succ, List.setIfInBounds_toArray, List.set_cons_zero, List.set_cons_succ]
                refine wpAnyH_take (i := 17) (oi := _) (v := .pointer (some ⟨T5, 0, none⟩)) rfl (by kernel_rfl) (by kernel_rfl) (by kernel_rfl) (fun _ _ _ h => h) (Or.inl ⟨by rfl, by intro w hSw; go_split_ands; go_simp⟩) HS.out ?_
                simp only [Act.put, List.getElem_toArray, List.getElem_cons_zero, List.getElem_cons_succ, List.setIfInBounds_toArray, List.set_cons_zero, List.set_cons_succ]
                refine wpAnyH_ready (rs := [18]) (by kernel_rfl) (by simp) ?_
                refine AllReadyH.cons (o := _) rfl (fun K hK => ?_) AllReadyH.nil
                have c9 : Z9.cell? ⟨T5, 0, none⟩ = some l2 := HROW9.out.cell 0
                have f9 := HROW9.out.free 0
                go_simp
                have HBY2 := hide ((HBY.out.trans (HBW.out.mono (by omega : T5 ≤ T5 + 1))).setCell (p := ⟨T5, 0, none⟩) (Nat.le_refl _) (.slice pl (k2 + 1) cl))
                have HRY2 := hide (HROW9.out.set (j := 0) (.slice pl (k2 + 1) cl))
                have es : (Z9.setCell ⟨T5, 0, none⟩ (.slice pl (k2 + 1) cl)).heap.size = Z9.heap.size := by simp [World.setCell]
                have HOY2 := hide (ownsRow_setCell_below HO9.out (a := ⟨T5, 0, none⟩) (by show T5 < T5 + 1; omega) (.slice pl (k2 + 1) cl))
                have HEY2 : Hid (∃ A B : Nat → Nat, (∀ j (h1 : j < (vs2 ++ [Value.slice q5 cp.length d5]).length) (h2 : j < rp.length), T5 + 1 ≤ A j ∧ B j ≤ (Z9.setCell ⟨T5, 0, none⟩ (.slice pl (k2 + 1) cl)).heap.size ∧ (∀ g, (Value.slice pl (k2 + 1) cl).ownBlock = some g → B j ≤ g ∨ g < A j) ∧ OComp (A j) (B j) (Z9.setCell ⟨T5, 0, none⟩ (.slice pl (k2 + 1) cl)) (vs2 ++ [Value.slice q5 cp.length d5])[j] rp[j]) ∧ ∀ i j, i < j → j < k2 + 1 → B i ≤ A j) := hide (by
                  obtain ⟨A, B, hE, hD⟩ := HEl9.out
                  refine ⟨A, B, fun j h1 h2 => ?_, hD⟩
                  obtain ⟨f1, f2, f3, f4⟩ := hE j h1 h2
                  exact ⟨f1, by rw [es]; exact f2, f3, Keeps.go (SameIn.set _ _ (by omega)) f4⟩)
                have HLY2 : Hid ((vs2 ++ [Value.slice q5 cp.length d5]).length = k2 + 1) := hide (by rw [List.length_append, HVL.out]; rfl)
                have HSY2 : Hid (T5 + 1 ≤ (Z9.setCell ⟨T5, 0, none⟩ (.slice pl (k2 + 1) cl)).heap.size) := hide (by rw [es]; have h5 := HBW.out.size; have h6 := HZ0.out; omega)
                clear es
                refine hK.out _ _ (HSSY.out _ HBY2.out) (fun _ => ?_)
                clear hK K HS
                refine wpAnyH_done (by kernel_rfl) ?_ _
                go_wp2
                go_roundw
                case rel => exact ⟨_, k2 + 1, _, _, rfl, by omega, by go_num, HRY2, HOY2, HBY2, HLY2, HSY2, HEY2⟩
                case measure => simp [intOf]; omega
        · have ek : k2 = rp.length := by omega
          have HREP := hide (ol_of_own (R := OComp) HOY.out ek HLY.out HEY.out)
          have HEK := hide ek
          clear ek
          obtain ⟨pp, pc, hpl⟩ := own_slice1 HOY.out
          subst hpl
          have c5 : Y.cell? ⟨T5, 0, none⟩ = some (.slice pp k2 pc) := HRY.out.cell 0
          have HRO := hide (show Row Y (w.heap.size + 2) 31 [l] from (HRX.out.below HBA.out (by have := HT5.out; omega)).below HBY.out (by have := HT5.out; omega))
          have HR1Y := hide (show Row Y w.heap.size 31 [.slice (some ⟨g, off, none⟩) f.length cap] from (HR1X.out.below HBA.out (by have := HT5.out; omega)).below HBY.out (by have := HT5.out; omega))
          have HR2Y := hide (show Row Y (w.heap.size + 1) 31 [.slice none 0 0] from (HR2X.out.below HBA.out (by have := HT5.out; omega)).below HBY.out (by have := HT5.out; omega))
          have HSO : Hid (∀ a b, b ≤ T5 → SameIn a b X Y) := hide (fun a b hb j h1 h2 h3 => ((HBY.out.block j (by omega)).trans (HBA.out.block j (by omega))))
          have HOYX := hide (own_same (w' := Y) HOX.out (fun j h1 h2 => HSO.out j (j + 1) (by have := HTX.out; omega) j (Nat.le_refl _) (Nat.lt_succ_self _) h2))
          have c3 : Y.cell? ⟨w.heap.size + 2, 0, none⟩ = some l := HRO.out.cell 0
          have HBY1 := hide (HBYw.out.alloc HBYw.out.size (.cells #[.slice pp k2 pc] 88))
          have HRO1 := hide (HRO.out.alloc (.cells #[.slice pp k2 pc] 88))
          have HR1Y1 := hide (HR1Y.out.alloc (.cells #[.slice pp k2 pc] 88))
          have HR2Y1 := hide (HR2Y.out.alloc (.cells #[.slice pp k2 pc] 88))
          have HOY1 := hide (HOYX.out.alloc (.cells #[.slice pp k2 pc] 88))
          have HLTX := hide HOX.out.lt
          have HY1s : Hid ((Y.alloc (.cells #[.slice pp k2 pc] 88)).heap.size = Y.heap.size + 1) := hide (by simp)
          have HSA : Hid (∀ a b, SameIn a b Y (Y.alloc (.cells #[.slice pp k2 pc] 88))) := hide (fun a b => SameIn.ofBelow ((Below.refl _ _).alloc (Nat.le_refl _) _))
          go_wp2_with (at_builtin; refine wpList_append_own_at (Y.alloc (.cells #[.slice pp k2 pc] 88)) rfl (.tmp 46) (.tmp 48) 29 rfl W.heap.size 88 k0 _ 1 24 Tryz.underlying29 hk hx0 hx1 hx2 HZC.out (by omega) l k vs rfl HOY1.out ⟨Y.heap.size, 0, none⟩ 1 _ [.slice pp k2 pc] rfl rfl (cell_one_new _ _ _) (by simp [Value.oneCell']) (by unfold maxLen; omega) (by omega) (by have h1 := HY1s.out; have h2 := HSY.out; have h3 := HT5.out; have h4 := HWs.out; omega) ?_)
          intro l9 Z9 hown9 hgrow _ hat
          obtain ⟨pl, cl, hl9⟩ := own_slice1 hown9
          subst hl9
          have hWs := HWs.out
          have HRO9 := hide (row_grown HRO1.out hgrow (fun k hk => (HOY1.out.lt k hk).1) (by omega))
          have HR19 := hide (row_grown HR1Y1.out hgrow (fun k hk => (HOY1.out.lt k hk).1) (by omega))
          have HR29 := hide (row_grown HR2Y1.out hgrow (fun k hk => (HOY1.out.lt k hk).1) (by omega))
          have HB9 := hide (HBY1.out.grown hgrow HBY1.out.size (fun k hk => by have := (HOY1.out.lt k hk).1; omega))
          have c9 : Z9.cell? ⟨w.heap.size + 2, 0, none⟩ = some l := HRO9.out.cell 0
          have f9 := HRO9.out.free 0
          have HROf := hide (HRO9.out.set (j := 0) (.slice pl (k + 1) cl))
          have HR1f := hide (HR19.out.other (b := w.heap.size + 2) (j := 0) (by omega) (.slice pl (k + 1) cl))
          have HR2f := hide (HR29.out.other (b := w.heap.size + 2) (j := 0) (by omega) (.slice pl (k + 1) cl))
          have HBf := hide (HB9.out.setCell (p := ⟨w.heap.size + 2, 0, none⟩) (by show w.heap.size ≤ w.heap.size + 2; omega) (.slice pl (k + 1) cl))
          have HOf := hide (ownsRow_setCell_below hown9 (a := ⟨w.heap.size + 2, 0, none⟩) (by show w.heap.size + 2 < W.heap.size; omega) (.slice pl (k + 1) cl))
          have es : (Z9.setCell ⟨w.heap.size + 2, 0, none⟩ (.slice pl (k + 1) cl)).heap.size = Z9.heap.size := by simp [World.setCell]
          have HSf : Hid (W.heap.size ≤ (Z9.setCell ⟨w.heap.size + 2, 0, none⟩ (.slice pl (k + 1) cl)).heap.size) := hide (by rw [es]; have h1 := HY1s.out; have h2 := HSY.out; have h3 := HT5.out; have h4 := hgrow.size; omega)
          have HLf : Hid ((vs ++ [Value.slice pp k2 pc]).length = k + 1) := hide (by rw [List.length_append, HLX.out]; rfl)
          have HEf : Hid (∃ A B : Nat → Nat, (∀ j (h1 : j < (vs ++ [Value.slice pp k2 pc]).length) (h2 : j < f.length), W.heap.size ≤ A j ∧ B j ≤ (Z9.setCell ⟨w.heap.size + 2, 0, none⟩ (.slice pl (k + 1) cl)).heap.size ∧ (∀ g, (Value.slice pl (k + 1) cl).ownBlock = some g → B j ≤ g ∨ g < A j) ∧ ORep (A j) (B j) (Z9.setCell ⟨w.heap.size + 2, 0, none⟩ (.slice pl (k + 1) cl)) (vs ++ [Value.slice pp k2 pc])[j] f[j]) ∧ ∀ i j, i < j → j < k + 1 → B i ≤ A j) := hide (by
            obtain ⟨A, B, hE, hD⟩ := HEX.out
            have hs1 := HY1s.out
            have hs2 := hgrow.size
            have hvl := HLX.out
            have ht5 := HT5.out
            have htx := HTX.out
            have hsy := HSY.out
            refine ⟨fun i => if i = k then T5 + 1 else A i, fun i => if i = k then Y.heap.size else B i, fun j h1 h2 => ?_, fun i j hij hj => ?_⟩
            · have h1' : j < k + 1 := by rw [List.length_append, hvl] at h1; exact h1
              rw [es]
              dsimp only
              by_cases hj : j = k
              · subst hj
                rw [if_pos rfl, if_pos rfl, List.getElem_append_right (by rw [hvl]; exact Nat.le_refl _)]
                simp only [hvl, Nat.sub_self, List.getElem_cons_zero]
                refine ⟨by omega, by omega, fun g hg => ?_, ?_⟩
                · rcases hat with h | h
                  · rw [h] at hg
                    exact .inr (by have := (HLTX.out g hg).2; omega)
                  · rw [h] at hg
                    cases hg
                    exact .inl (by first | omega | (rw [hs1]; omega))
                · have e := Keeps.go (SameIn.set Z9 (g := w.heap.size + 2) (j := 0) (.slice pl (j + 1) cl) (by omega)) (Keeps.go (grown_in hgrow (fun g hg => .inr (by have := (HLTX.out g hg).2; omega))) (Keeps.go (HSA.out _ _) HREP.out))
                  exact Eq.mp (congrArg (fun c => ORep (T5 + 1) Y.heap.size _ (Value.slice pp k2 pc) c) HRP.out) e
              · have hjk : j < vs.length := by rw [hvl]; omega
                obtain ⟨f1, f2, f3, f4⟩ := hE j hjk h2
                rw [if_neg hj, if_neg hj, List.getElem_append_left hjk]
                refine ⟨f1, by omega, fun g hg => ?_, Keeps.go (SameIn.set _ _ (by omega)) (Keeps.go (grown_in hgrow f3) (Keeps.go (HSA.out _ _) (Keeps.go (HSO.out _ _ (by omega)) f4)))⟩
                rcases hat with h | h
                · rw [h] at hg
                  exact f3 g hg
                · rw [h] at hg
                  cases hg
                  exact .inl (by first | omega | (rw [hs1]; omega))
            · have hik : i < vs.length := by rw [hvl]; omega
              obtain ⟨f1, f2, f3, f4⟩ := hE i hik (by omega)
              dsimp only
              by_cases hjk : j = k
              · rw [if_pos hjk, if_neg (by omega)]; omega
              · rw [if_neg hjk, if_neg (by omega)]; exact hD i j hij (by omega))
          clear hown9 hgrow hat es HREP c3 c5
          go_wp2
          go_roundw
          case rel => exact ⟨_, k + 1, _, _, rfl, by omega, by go_num, HROf, HOf, HBf, HR1f, HR2f, HLf, HSf, HEf⟩
          case measure => simp [intOf]; omega
    · have ek : k = f.length := by omega
      have HF := hide (ol_of_own (R := ORep) HOX.out ek HLX.out HEX.out)
      obtain ⟨pl, cl, hpl⟩ := own_slice1 HOX.out
      subst hpl
      have hWs := HWs.out
      have c3 : X.cell? ⟨w.heap.size + 2, 0, none⟩ = some (.slice pl k cl) := HRX.out.cell 0
      have c2 : X.cell? ⟨w.heap.size + 1, 0, none⟩ = some (.slice none 0 0) := HR2X.out.cell 0
      have f2 := HR2X.out.free 0
      have q1 : (X.setCell ⟨w.heap.size + 1, 0, none⟩ (.slice pl k cl)).cell? ⟨w.heap.size + 1, 0, none⟩ = some (.slice pl k cl) := (HR2X.out.set (j := 0) (.slice pl k cl)).cell 0
      have HBF := hide (HBX.out.setCell (p := ⟨w.heap.size + 1, 0, none⟩) (by show w.heap.size ≤ w.heap.size + 1; omega) (.slice pl k cl))
      have es : (X.setCell ⟨w.heap.size + 1, 0, none⟩ (.slice pl k cl)).heap.size = X.heap.size := by simp [World.setCell]
      have HFF : Hid (OFld w.heap.size (X.setCell ⟨w.heap.size + 1, 0, none⟩ (.slice pl k cl)).heap.size (X.setCell ⟨w.heap.size + 1, 0, none⟩ (.slice pl k cl)) (.slice pl k cl) f) := hide (by
        rw [es]
        exact Keeps.wide (by omega : w.heap.size ≤ W.heap.size) (Nat.le_refl _) (Keeps.go (SameIn.set _ _ (by omega)) HF.out))
      have HK := hide ek
      clear ek es hWs HF
      go_wp2
      exact bodyPost_ret (v := .agg #[.slice pl k cl]) (by simp [results, Tryz.results29, go_sem, q1]) rfl ⟨pl, cl, by rw [HK.out], by rw [← HK.out]; exact HFF.out, HBF.out⟩
end Go.Proofs.YtmkcmajpepehmaaGreat
