/- The program's readSide: the bytes of a side's sectors, each asked for its own share. -/
import Derived.Test.YtbhdbkffejlfmaaGreatDoorXGSARead
import Derived.Test.YtbhdbkffejlfmaaGreatDoorXGIBank
namespace Go.Proofs.YtbhdbkffejlfmaaGreatDoor
open Go.RowKit

theorem row_slice {w : World} {B n : Nat} {e : TypeId} {v : Value} {xs : List Value} (h : w.ownsRow B e 1 v n xs) : ∃ p cap, v = .slice p n cap := by
  obtain ⟨_, ⟨rfl, rfl⟩ | ⟨g, cap, cur, rfl, _⟩⟩ := h
  · exact ⟨_, _, rfl⟩
  · exact ⟨_, _, rfl⟩
theorem text_of_any {P : Program} {e t T B : Nat} {w : World} {v : Value} {b : ByteArray} (h : w.ownsRow B e 1 v b.size (Lib.strCells b))
    (ht : P.underlying t = some (.slice e)) (he : P.underlying e = some (.int .u8)) (hT : P.underlying T = some .string) : (convert t T v).run P w = .ok (.string b) w := by
  by_cases hv : v = .slice none 0 0
  · subst hv
    have hb : b = ⟨#[]⟩ := by
      obtain ⟨_, ⟨_, hn⟩ | ⟨g, cap, cur, hh, _⟩⟩ := h
      · exact ByteArray.size_eq_zero_iff.1 hn
      · cases hh
    subst hb
    rw [run_convert_bytes_string w t T e none 0 0 ht he hT]
    simp [Conv.bytesToString]
    rfl
  · exact text_of_row h hv ht he hT
theorem strCells_len (b : ByteArray) : (Lib.strCells b).length = b.size := by
  unfold Lib.strCells
  rw [List.length_map, Array.length_toList]
  rfl
theorem strCells_one (b : ByteArray) : ∀ u ∈ Lib.strCells b, u.oneCell' = true := by
  unfold Lib.strCells
  intro u hu
  obtain ⟨x, _, rfl⟩ := List.mem_map.1 hu
  rfl
theorem raw_cells (w : World) (d : ByteArray) (e : TypeId) (n : Nat) (hn : n ≤ d.size) (j : Nat) (u : Value) (hu : (Lib.strCells (d.extract 0 n))[j]? = some u) :
    (w.drew.alloc (.cells (bytesRow d (grownCap w d.size 0 e)) e ((bytesRow d (grownCap w d.size 0 e)).size, (bytesRow d (grownCap w d.size 0 e)).size + 1))).cell? ((⟨w.heap.size, 0, none⟩ : Addr).add j) = some u := by
  obtain ⟨hj, hu'⟩ := List.getElem?_eq_some_iff.1 hu
  rw [strCells_len, ByteArray.size_extract] at hj
  rw [add_addr, Nat.zero_add, raw_cell w d e j (by omega), ← hu']
  unfold Lib.strCells
  simp [ByteArray.getElem_eq_getElem_data]

set_option maxRecDepth 100000 in
set_option maxHeartbeats 4000000 in
theorem readSide_any (v : Value) (ys : List ByteArray) (sz : Nat) (w : World) (hr : Reads w v ys) (hn : ys.length ≤ 64) (hsz : sz ≤ 4096) :
    Calls Tryz.prog 124 #[v, .int .i64 sz] w fun e w' => ((full (fun j => ys.getD j ⟨#[]⟩) sz ys.length = true ∧ e = .returned (.string (gath (fun j => ys.getD j ⟨#[]⟩) sz ys.length))) ∨ (full (fun j => ys.getD j ⟨#[]⟩) sz ys.length = false ∧ e = .panicked (fault 5))) ∧ Below w.heap.size w w' := by
  obtain ⟨f, Hf⟩ : ∃ f, Hid (f = (fun j => ys.getD j (⟨#[]⟩ : ByteArray))) := ⟨_, rfl⟩
  rw [← Hf.out]
  obtain ⟨i0, hi, hz0, hz1, hz2⟩ := info_parts Tryz.infoB
  have HR := hide hr
  obtain ⟨p, c, rfl, hq⟩ := hr
  clear hq
  have HO0 := hide (show w.ownsRow w.heap.size 5 1 (.slice none 0 0) (gath f sz 0).size (Lib.strCells (gath f sz 0)) from ⟨rfl, .inl ⟨rfl, rfl⟩⟩)
  go_enter Tryz.func124, Tryz.ntmps124
  go_wp2_with fail
  go_loopw [5, 11] (fun u i wr => ∃ k : Nat, k ≤ ys.length ∧ i = .int .i64 k ∧ Hid (full f sz k = true) ∧ Hid (wr.ownsRow w.heap.size 5 1 u (gath f sz k).size (Lib.strCells (gath f sz k))) ∧ Hid (Below w.heap.size w wr)) (fun _ i _ => ys.length - (intOf i).toNat)
  case atStart => exact ⟨0, Nat.zero_le _, rfl, rfl, HO0, Below.refl _ _⟩
  case round =>
    obtain ⟨k, hk, rfl, HFk, HOw, HB⟩ := hrel
    have hgs := gath_size k HFk.out
    obtain ⟨b, Hb⟩ : ∃ b, Hid (b = gath f sz k) := ⟨_, rfl⟩
    rw [← Hb.out] at hgs HOw
    by_cases hlt : k < ys.length
    · obtain ⟨g, off, rfl, hg, hc⟩ : ∃ g off, p = some ⟨g, off, none⟩ ∧ _ := by
        obtain ⟨p', cap, he, _, _, _, h4⟩ := HR.out.below HB.out (Nat.le_refl _)
        cases he
        exact h4 (by omega)
      have hck := hc k hlt
      obtain ⟨T, hT⟩ : ∃ T, T = ys[k]'hlt := ⟨_, rfl⟩
      rw [← hT] at hck
      have HfT := hide (show f k = T by rw [Hf.out, hT]; simp [hlt])
      clear hc hg hT
      have hki : (k : Int) < (ys.length : Int) := by omega
      obtain ⟨N, hN⟩ : ∃ N, N = b.size := ⟨_, rfl⟩
      rw [← hN] at hgs HOw
      have HNN := hide hN
      clear hN
      obtain ⟨pu, cu, rfl⟩ := row_slice HOw.out
      obtain ⟨D, hD⟩ : ∃ D, D = sz - N := ⟨_, rfl⟩
      have hNw : IntKind.i64.wrap ((sz : Int) - (N : Int)) = (D : Int) := by rw [IntKind.wrap_i64]; omega
      have HFS := hide (full_step f sz k)
      have HG := hide (show gath f sz (k + 1) = b ++ T.extract 0 (want sz k) by rw [Hb.out, ← HfT.out]; rfl)
      have HFN := hide (show ∀ m, want sz k = m → T.size < m → full f sz ys.length = false from fun m hm h => full_not hlt (by rw [HfT.out, hm]; omega))
      have hNs : N ≤ 4096 := by omega
      have hcv := run_bytes_of_string (P := Tryz.prog) wr 9 102 5 T Tryz.underlying9 Tryz.underlying102 Tryz.underlying5
      have HRC := hide (raw_cells wr T 5)
      have bW : Below wr.heap.size wr (wr.drew.alloc (.cells (bytesRow T (grownCap wr T.size 0 5)) 5 ((bytesRow T (grownCap wr T.size 0 5)).size, (bytesRow T (grownCap wr T.size 0 5)).size + 1))) := ((Below.refl _ _).drew).alloc (Nat.le_refl _) _
      obtain ⟨C, hC⟩ : ∃ C, C = grownCap wr T.size 0 5 := ⟨_, rfl⟩
      have hCT : T.size ≤ C := by rw [hC]; exact grownCap_ge _ _ _ _
      obtain ⟨W, hW⟩ : ∃ W, W = wr.drew.alloc (.cells (bytesRow T (grownCap wr T.size 0 5)) 5 ((bytesRow T (grownCap wr T.size 0 5)).size, (bytesRow T (grownCap wr T.size 0 5)).size + 1)) := ⟨_, rfl⟩
      rw [← hW] at bW
      rw [← hW] at HRC
      rw [← hW, ← hC] at hcv
      have HBW := hide (HB.out.trans (bW.mono HB.out.size))
      have HOW := hide (ownsRow_after HOw.out bW)
      have hWs := HBW.out.size
      have HWT0 := hide (show want sz k = min 64 D by unfold want; omega)
      clear hW hC bW hD hgs
      by_cases h64 : 64 < D
      · have h64i : (64 : Int) < (D : Int) := by omega
        have HWT := hide (show want sz k = 64 by rw [HWT0.out]; omega)
        by_cases hshort : T.size < 64
        · have hsi : decide ((T.size : Int) < 64) = true := decide_eq_true (by omega)
          have HF5 := hide (HFN.out _ HWT.out hshort)
          go_wp2_with fail
          refine (refuse_yes 5 _).mono ?_
          rintro e w3 ⟨rfl, rfl⟩
          go_wp2
          exact ⟨rfl, .inr ⟨HF5.out, rfl⟩, HB.out⟩
        · have hsi : decide ((T.size : Int) < 64) = false := decide_eq_false (by omega)
          have hcI : 64 ≤ (C : Int) := by omega
          have hts : (T.extract 0 64).size = 64 := by rw [ByteArray.size_extract]; omega
          have HNL := hide (HRC.out 64 (by omega))
          go_wp2_with fail
          refine (refuse_no 5 _).mono ?_
          rintro e w3 ⟨rfl, rfl⟩
          go_wp2_with (at_builtin; refine wpList_append_own_at _ rfl _ _ 102 rfl w.heap.size 5 i0 (.int .u8 0) 1 1 Tryz.underlying102 hi hz0 hz1 hz2 rfl (by omega) _ N (Lib.strCells b) rfl HOW.out ⟨w3.heap.size, 0, none⟩ 64 64 (Lib.strCells (T.extract 0 64)) rfl (by rw [strCells_len, hts, Nat.mul_one]) HNL.out (strCells_one _) (by unfold maxLen; omega) (by omega) hWs ?_
                       intro v' w6 ho6 hg6 _ _
                       have HO6 := hide ho6
                       have HG6 := hide hg6
                       clear ho6 hg6)
          have HE := hide (show (gath f sz (k + 1)).size = N + 64 ∧ Lib.strCells (gath f sz (k + 1)) = Lib.strCells b ++ Lib.strCells (T.extract 0 64) by rw [HG.out, HWT.out, ByteArray.size_append, strCells_append, HNN.out, hts]; exact ⟨rfl, rfl⟩)
          go_roundw
          case rel =>
            refine ⟨k + 1, by omega, by go_num, by rw [HFS.out, HFk.out, HfT.out, HWT.out]; simp [Hid]; omega, by rw [HE.out.1, HE.out.2]; exact HO6, ?_⟩
            exact below_grown HBW.out HBW.out.size HG6.out (fun j hj => own_ge HOW.out hj)
          case measure => simp [intOf]; omega
      · have h64i : ¬ (64 : Int) < (D : Int) := by omega
        have hD0 : (0 : Int) ≤ (D : Int) := by omega
        have HWT := hide (show want sz k = D by rw [HWT0.out]; omega)
        by_cases hshort : T.size < D
        · have hsi : decide ((T.size : Int) < (D : Int)) = true := decide_eq_true (by omega)
          have HF5 := hide (HFN.out _ HWT.out hshort)
          go_wp2_with fail
          refine (refuse_yes 5 _).mono ?_
          rintro e w3 ⟨rfl, rfl⟩
          go_wp2
          exact ⟨rfl, .inr ⟨HF5.out, rfl⟩, HB.out⟩
        · have hsi : decide ((T.size : Int) < (D : Int)) = false := decide_eq_false (by omega)
          have hcI : (D : Int) ≤ (C : Int) := by omega
          have hts : (T.extract 0 D).size = D := by rw [ByteArray.size_extract]; omega
          have HNL := hide (HRC.out D (by omega))
          go_wp2_with fail
          refine (refuse_no 5 _).mono ?_
          rintro e w3 ⟨rfl, rfl⟩
          go_wp2_with (at_builtin; refine wpList_append_own_at _ rfl _ _ 102 rfl w.heap.size 5 i0 (.int .u8 0) 1 1 Tryz.underlying102 hi hz0 hz1 hz2 rfl (by omega) _ N (Lib.strCells b) rfl HOW.out ⟨w3.heap.size, 0, none⟩ D D (Lib.strCells (T.extract 0 D)) rfl (by rw [strCells_len, hts, Nat.mul_one]) HNL.out (strCells_one _) (by unfold maxLen; omega) (by omega) hWs ?_
                       intro v' w6 ho6 hg6 _ _
                       have HO6 := hide ho6
                       have HG6 := hide hg6
                       clear ho6 hg6)
          have HE := hide (show (gath f sz (k + 1)).size = N + D ∧ Lib.strCells (gath f sz (k + 1)) = Lib.strCells b ++ Lib.strCells (T.extract 0 D) by rw [HG.out, HWT.out, ByteArray.size_append, strCells_append, HNN.out, hts]; exact ⟨rfl, rfl⟩)
          go_roundw
          case rel =>
            refine ⟨k + 1, by omega, by go_num, by rw [HFS.out, HFk.out, HfT.out, HWT.out]; simp [Hid]; omega, by rw [HE.out.1, HE.out.2]; exact HO6, ?_⟩
            exact below_grown HBW.out HBW.out.size HG6.out (fun j hj => own_ge HOW.out hj)
          case measure => simp [intOf]; omega
    · have hki : ¬ (k : Int) < (ys.length : Int) := by omega
      have hke : k = ys.length := by omega
      have hcb := text_of_any HOw.out Tryz.underlying102 Tryz.underlying5 Tryz.underlying9
      have HE := hide (show full f sz ys.length = true ∧ b = gath f sz ys.length by rw [← hke]; exact ⟨HFk.out, Hb.out⟩)
      obtain ⟨pu, cu, rfl⟩ := row_slice HOw.out
      clear hgs
      go_wp2
      go_ret
      exact ⟨.inl ⟨HE.out.1, by rw [← HE.out.2]; rfl⟩, HB.out⟩
end Go.Proofs.YtbhdbkffejlfmaaGreatDoor
