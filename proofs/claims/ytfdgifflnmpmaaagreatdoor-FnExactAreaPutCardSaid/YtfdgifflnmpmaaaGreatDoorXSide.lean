/- How the program cuts a text into what each sector takes. -/
import Derived.Test.YtfdgifflnmpmaaaGreatDoorXARead
import Derived.Laws.IdiomStrings
import Derived.Maps.AppendAt
import Derived.Test.YtfdgifflnmpmaaaGreatDoorXPanic
import Derived.Defers
import Derived.Deep.RegionHeld3
namespace Go.Proofs.YtfdgifflnmpmaaaGreatDoor
open Go.RowKit

theorem own_ge {w : World} {B n : Nat} {e : TypeId} {v : Value} {xs : List Value} (h : w.ownsRow B e 1 v n xs) {j : Nat} (hj : v.ownBlock = some j) : B ≤ j := by
  obtain ⟨_, ⟨rfl, _⟩ | ⟨g, cap, cur, rfl, hB, _⟩⟩ := h
  · cases hj
  · cases hj; exact hB
def pieces (d : ByteArray) (k : Nat) : List ByteArray := (List.range k).map (piece d)
theorem pieces_len (d : ByteArray) (k : Nat) : (pieces d k).length = k := by simp [pieces]
theorem pieces_snoc (d : ByteArray) (k : Nat) : pieces d (k + 1) = pieces d k ++ [piece d k] := by simp [pieces, List.range_succ]
theorem pieces_size (d : ByteArray) (k : Nat) : ∀ x ∈ pieces d k, x.size ≤ 64 := by
  intro x hx
  obtain ⟨j, _, rfl⟩ := List.mem_map.1 hx
  unfold piece
  rw [ByteArray.size_extract]
  omega
theorem reads_of_row {w : World} {B : Nat} {v : Value} {xs : List ByteArray} (hx : ∀ x ∈ xs, x.size ≤ maxLen) (h : w.ownsRow B 9 1 v xs.length (strs xs)) : Reads w v xs := by
  by_cases h0 : 0 < xs.length
  · exact (OwnS.ofRow hx h0 h).reads
  · have e : xs = [] := List.eq_nil_of_length_eq_zero (by omega)
    subst e
    obtain ⟨_, ⟨rfl, _⟩ | ⟨g, cap, cur, rfl, _, _, h1, h2, _⟩⟩ := h
    · exact ⟨_, _, rfl, Nat.le_refl _, by unfold maxLen; omega, by simp, fun h => by simp at h⟩
    · exact ⟨_, _, rfl, h1, h2, by simp, fun h => by simp at h⟩

/-- The bytes of a text, in a row of their own. -/
theorem raw_cell (w : World) (d : ByteArray) (e : TypeId) (j : Nat) (hj : j < d.size) :
    (w.drew.alloc (.cells (bytesRow d (grownCap w d.size 0 e)) e ((bytesRow d (grownCap w d.size 0 e)).size, (bytesRow d (grownCap w d.size 0 e)).size + 1))).cell? ⟨w.heap.size, j, none⟩ = some (.int .u8 ((d[j]'hj).toNat : Int)) := by
  refine (cell_of_row _ w.heap.size j _ e _ (heap_alloc_new w.drew _)).trans ?_
  unfold bytesRow
  have hj' : j < d.data.size := hj
  rw [Array.getElem?_append_left (by simpa using hj'), Array.getElem?_map, Array.getElem?_eq_getElem hj']
  rfl
theorem piece_list (d : ByteArray) (k M : Nat) (hM : M = min d.size (64 * (k + 1))) : (⟨((d.data.toList.drop (64 * k)).take (M - 64 * k)).toArray⟩ : ByteArray) = piece d k := by
  unfold piece
  rw [← hM]
  apply ByteArray.ext
  apply Array.ext'
  simp [ByteArray.data_extract, Array.toList_extract]

set_option maxRecDepth 100000 in
set_option maxHeartbeats 4000000 in
theorem cutSectors_any (d : ByteArray) (w : World) (hd : d.size ≤ 8000) :
    Calls Tryz.prog 68 #[.string d] w fun e w' => (∃ v, e = .returned v ∧ Reads w' v (pieces d (cuts d))) ∧ Below w.heap.size w w' := by
  obtain ⟨i0, hi, hz0, hz1, hz2⟩ := info_parts Tryz.infoStr
  have hcv := run_bytes_of_string (P := Tryz.prog) w 9 47 5 d Tryz.underlying9 Tryz.underlying47 Tryz.underlying5
  obtain ⟨C, hC⟩ : ∃ C, C = grownCap w d.size 0 5 := ⟨_, rfl⟩
  obtain ⟨W, hW⟩ : ∃ W, W = w.drew.alloc (.cells (bytesRow d (grownCap w d.size 0 5)) 5 ((bytesRow d (grownCap w d.size 0 5)).size, (bytesRow d (grownCap w d.size 0 5)).size + 1)) := ⟨_, rfl⟩
  have HCELL := hide (show ∀ j (hj : j < d.size), W.cell? ⟨w.heap.size, j, none⟩ = some (.int .u8 ((d[j]'hj).toNat : Int)) from fun j hj => by rw [hW]; exact raw_cell w d _ j hj)
  have HBW := hide (show Below w.heap.size w W by rw [hW]; exact ((Below.refl _ _).drew).alloc (Nat.le_refl _) _)
  have hWs : w.heap.size < W.heap.size := by rw [hW]; simp
  have hCd : d.size ≤ C := by rw [hC]; exact grownCap_ge _ _ _ _
  rw [← hW, ← hC] at hcv
  clear hW hC
  have HO0 := hide (show W.ownsRow W.heap.size 9 1 (.slice none 0 0) 0 (strs (pieces d 0)) from ⟨rfl, .inl ⟨rfl, rfl⟩⟩)
  have hcd : cuts d ≤ 200 := by unfold cuts; omega
  go_enter Tryz.func68, Tryz.ntmps68
  go_wp2_with fail
  go_loopw [4, 5] (fun u i wr => ∃ k : Nat, k ≤ cuts d ∧ i = .int .i64 ((64 * k : Nat) : Int) ∧ Hid (wr.ownsRow W.heap.size 9 1 u k (strs (pieces d k))) ∧ Hid (Below W.heap.size W wr)) (fun _ i _ => 64 * cuts d - (intOf i).toNat)
  case atStart => exact ⟨0, Nat.zero_le _, rfl, HO0, Below.refl _ _⟩
  case round =>
    obtain ⟨k, hk, rfl, HOw, HB⟩ := hrel
    obtain ⟨F, hF⟩ : ∃ F : Nat, F = 64 * k := ⟨_, rfl⟩
    rw [← hF]
    by_cases hlt : k < cuts d
    · have hfd : F < d.size := by rw [hF]; unfold cuts at hlt; omega
      have hfi : (F : Int) < (d.size : Int) := by omega
      obtain ⟨M, hM⟩ : ∃ M, M = min d.size (64 * (k + 1)) := ⟨_, rfl⟩
      have hMi : min ((F : Int) + 64) (d.size : Int) = (M : Int) := by omega
      have HM := hide hM
      have HF := hide hF
      have hm1 : (F : Int) ≤ (M : Int) := by omega
      have hm2 : (M : Int) ≤ (C : Int) := by omega
      have hm0 : (0 : Int) ≤ (F : Int) := by omega
      clear hM hF
      by_cases hfl : F + 64 ≤ d.size
      · have hx1 : (F : Int) + 64 ≤ (d.size : Int) := by omega
        have hto : ((F : Int) + 64).toNat = F + 64 := by omega
        have hcb : (convert 47 9 (.slice (some ⟨w.heap.size, F, none⟩) (64) (64))).run Tryz.prog wr = .ok (.string (piece d k)) wr := by
          have hl : ((d.data.toList.drop F).take (64)).length = 64 := by
            rw [List.length_take, List.length_drop, Array.length_toList]
            have : d.data.size = d.size := rfl
            omega
          have h := run_convert_bytes_back (P := Tryz.prog) wr 47 9 5 ⟨w.heap.size, F, none⟩ (64) ((d.data.toList.drop F).take (64)) Tryz.underlying47 Tryz.underlying5 Tryz.underlying9 (fun j hj => by
            rw [hl] at hj
            rw [add_addr, HB.out.cell (p := ⟨w.heap.size, F + j, none⟩) hWs, HCELL.out (F + j) (by omega)]
            simp
            rfl)
          rw [hl] at h
          rw [h, ← piece_list d k M HM.out, ← HF.out, show M - F = 64 by have := HM.out; have := HF.out; omega]
        have HNL := hide (show ∀ j u, ([Value.string (piece d k)] : List Value)[j]? = some u → (wr.alloc (.cells #[.string (piece d k)] 9)).cell? ((⟨wr.heap.size, 0, none⟩ : Addr).add j) = some u from fun j u hu => by
          rw [add_addr, Nat.zero_add, (row_new wr [.string (piece d k)] 9).cell]; exact hu)
        have HOA := hide (HOw.out.alloc (.cells #[.string (piece d k)] 9))
        have HBA := hide (HB.out.alloc HB.out.size (.cells #[.string (piece d k)] 9))
        go_wp2_with (at_builtin; refine wpList_append_own_at _ rfl _ _ 22 rfl W.heap.size 9 i0 (.string ⟨#[]⟩) 1 16 Tryz.underlying22 hi hz0 hz1 hz2 rfl (by omega) _ k (strs (pieces d k)) rfl HOA.out ⟨wr.heap.size, 0, none⟩ 1 1 [.string (piece d k)] rfl rfl HNL.out (by simp [Value.oneCell']) (by unfold maxLen; omega) (by omega) (by have := HB.out.size; simp; omega) ?_
                     intro v' w1 ho1 hg1 _ _
                     have HO1 := hide ho1
                     have HG1 := hide hg1
                     clear ho1 hg1)
        have HP := hide (show strs (pieces d (k + 1)) = strs (pieces d k) ++ [.string (piece d k)] by rw [pieces_snoc]; simp [strs])
        go_roundw
        case rel =>
          refine ⟨k + 1, by omega, by have := HF.out; rw [this]; go_num, by rw [HP.out]; exact HO1, ?_⟩
          exact below_grown HBA.out HBA.out.size HG1.out (fun j hj => own_ge HOA.out hj)
        case measure => have := HF.out; simp [intOf]; omega
      · have hx1 : (d.size : Int) < (F : Int) + 64 := by omega
        have hcb : (convert 47 9 (.slice (some ⟨w.heap.size, F, none⟩) (d.size - F) (d.size - F))).run Tryz.prog wr = .ok (.string (piece d k)) wr := by
          have hl : ((d.data.toList.drop F).take (d.size - F)).length = d.size - F := by
            rw [List.length_take, List.length_drop, Array.length_toList]
            have : d.data.size = d.size := rfl
            omega
          have h := run_convert_bytes_back (P := Tryz.prog) wr 47 9 5 ⟨w.heap.size, F, none⟩ (d.size - F) ((d.data.toList.drop F).take (d.size - F)) Tryz.underlying47 Tryz.underlying5 Tryz.underlying9 (fun j hj => by
            rw [hl] at hj
            rw [add_addr, HB.out.cell (p := ⟨w.heap.size, F + j, none⟩) hWs, HCELL.out (F + j) (by omega)]
            simp
            rfl)
          rw [hl] at h
          rw [h, ← piece_list d k M HM.out, ← HF.out, show M - F = d.size - F by have := HM.out; have := HF.out; omega]
        have HNL := hide (show ∀ j u, ([Value.string (piece d k)] : List Value)[j]? = some u → (wr.alloc (.cells #[.string (piece d k)] 9)).cell? ((⟨wr.heap.size, 0, none⟩ : Addr).add j) = some u from fun j u hu => by
          rw [add_addr, Nat.zero_add, (row_new wr [.string (piece d k)] 9).cell]; exact hu)
        have HOA := hide (HOw.out.alloc (.cells #[.string (piece d k)] 9))
        have HBA := hide (HB.out.alloc HB.out.size (.cells #[.string (piece d k)] 9))
        go_wp2_with (at_builtin; refine wpList_append_own_at _ rfl _ _ 22 rfl W.heap.size 9 i0 (.string ⟨#[]⟩) 1 16 Tryz.underlying22 hi hz0 hz1 hz2 rfl (by omega) _ k (strs (pieces d k)) rfl HOA.out ⟨wr.heap.size, 0, none⟩ 1 1 [.string (piece d k)] rfl rfl HNL.out (by simp [Value.oneCell']) (by unfold maxLen; omega) (by omega) (by have := HB.out.size; simp; omega) ?_
                     intro v' w1 ho1 hg1 _ _
                     have HO1 := hide ho1
                     have HG1 := hide hg1
                     clear ho1 hg1)
        have HP := hide (show strs (pieces d (k + 1)) = strs (pieces d k) ++ [.string (piece d k)] by rw [pieces_snoc]; simp [strs])
        go_roundw
        case rel =>
          refine ⟨k + 1, by omega, by have := HF.out; rw [this]; go_num, by rw [HP.out]; exact HO1, ?_⟩
          exact below_grown HBA.out HBA.out.size HG1.out (fun j hj => own_ge HOA.out hj)
        case measure => have := HF.out; simp [intOf]; omega
    · have hfi : ¬ (F : Int) < (d.size : Int) := by rw [hF]; unfold cuts at hlt; omega
      have hkc : k = cuts d := by omega
      have HR := hide (reads_of_row (fun x hx => by have := pieces_size d k x hx; unfold maxLen; omega) (by rw [pieces_len]; exact HOw.out))
      have HBB := hide (HBW.out.trans (HB.out.mono HBW.out.size))
      clear hF
      go_wp2
      go_ret
      exact ⟨⟨_, rfl, by rw [← hkc]; exact HR.out⟩, HBB.out⟩
end Go.Proofs.YtfdgifflnmpmaaaGreatDoor
/- The program's readSide: the bytes of a side's sectors, each asked for its own share. -/
namespace Go.Proofs.YtfdgifflnmpmaaaGreatDoor
open Go.RowKit

theorem row_slice {w : World} {B n : Nat} {e : TypeId} {v : Value} {xs : List Value} (h : w.ownsRow B e 1 v n xs) : ∃ p cap, v = .slice p n cap := by
  obtain ⟨_, ⟨rfl, rfl⟩ | ⟨g, cap, cur, rfl, _⟩⟩ := h
  · exact ⟨_, _, rfl⟩
  · exact ⟨_, _, rfl⟩
theorem text_of_any {P : Program} {e t T B : Nat} {w : World} {v : Value} {b : ByteArray} (h : w.ownsRow B e 1 v b.size (Lib.strCells b))
    (ht : P.underlying t = some (.slice e)) (he : P.underlying e = some (.int .u8)) (hT : P.underlying T = some .string) : (convert t T v).run P w = .ok (.string b) w := by
  by_cases hv : v = .slice none 0 0
  · subst hv
    have hb : b = ⟨#[]⟩ := by
      obtain ⟨_, ⟨_, hn⟩ | ⟨g, cap, cur, hh, _⟩⟩ := h
      · exact ByteArray.size_eq_zero_iff.1 hn
      · cases hh
    subst hb
    rw [run_convert_bytes_string w t T e none 0 0 ht he hT]
    simp [Conv.bytesToString]
    rfl
  · exact text_of_row h hv ht he hT
theorem strCells_len (b : ByteArray) : (Lib.strCells b).length = b.size := by
  unfold Lib.strCells
  rw [List.length_map, Array.length_toList]
  rfl
theorem strCells_one (b : ByteArray) : ∀ u ∈ Lib.strCells b, u.oneCell' = true := by
  unfold Lib.strCells
  intro u hu
  obtain ⟨x, _, rfl⟩ := List.mem_map.1 hu
  rfl
theorem raw_cells (w : World) (d : ByteArray) (e : TypeId) (n : Nat) (hn : n ≤ d.size) (j : Nat) (u : Value) (hu : (Lib.strCells (d.extract 0 n))[j]? = some u) :
    (w.drew.alloc (.cells (bytesRow d (grownCap w d.size 0 e)) e ((bytesRow d (grownCap w d.size 0 e)).size, (bytesRow d (grownCap w d.size 0 e)).size + 1))).cell? ((⟨w.heap.size, 0, none⟩ : Addr).add j) = some u := by
  obtain ⟨hj, hu'⟩ := List.getElem?_eq_some_iff.1 hu
  rw [strCells_len, ByteArray.size_extract] at hj
  rw [add_addr, Nat.zero_add, raw_cell w d e j (by omega), ← hu']
  unfold Lib.strCells
  simp [ByteArray.getElem_eq_getElem_data]

set_option maxRecDepth 100000 in
set_option maxHeartbeats 4000000 in
theorem readSide_any (v : Value) (ys : List ByteArray) (sz : Nat) (w : World) (hr : Reads w v ys) (hn : ys.length ≤ 64) (hsz : sz ≤ 4096) :
    Calls Tryz.prog 58 #[v, .int .i64 sz] w fun e w' => ((full (fun j => ys.getD j ⟨#[]⟩) sz ys.length = true ∧ e = .returned (.string (gath (fun j => ys.getD j ⟨#[]⟩) sz ys.length))) ∨ (full (fun j => ys.getD j ⟨#[]⟩) sz ys.length = false ∧ e = .panicked (fault 5))) ∧ Below w.heap.size w w' := by
  obtain ⟨f, Hf⟩ : ∃ f, Hid (f = (fun j => ys.getD j (⟨#[]⟩ : ByteArray))) := ⟨_, rfl⟩
  rw [← Hf.out]
  obtain ⟨i0, hi, hz0, hz1, hz2⟩ := info_parts Tryz.infoB
  have HR := hide hr
  obtain ⟨p, c, rfl, hq⟩ := hr
  clear hq
  have HO0 := hide (show w.ownsRow w.heap.size 5 1 (.slice none 0 0) (gath f sz 0).size (Lib.strCells (gath f sz 0)) from ⟨rfl, .inl ⟨rfl, rfl⟩⟩)
  go_enter Tryz.func58, Tryz.ntmps58
  go_wp2_with fail
  go_loopw [5, 11] (fun u i wr => ∃ k : Nat, k ≤ ys.length ∧ i = .int .i64 k ∧ Hid (full f sz k = true) ∧ Hid (wr.ownsRow w.heap.size 5 1 u (gath f sz k).size (Lib.strCells (gath f sz k))) ∧ Hid (Below w.heap.size w wr)) (fun _ i _ => ys.length - (intOf i).toNat)
  case atStart => exact ⟨0, Nat.zero_le _, rfl, rfl, HO0, Below.refl _ _⟩
  case round =>
    obtain ⟨k, hk, rfl, HFk, HOw, HB⟩ := hrel
    have hgs := gath_size k HFk.out
    obtain ⟨b, Hb⟩ : ∃ b, Hid (b = gath f sz k) := ⟨_, rfl⟩
    rw [← Hb.out] at hgs HOw
    by_cases hlt : k < ys.length
    · obtain ⟨g, off, rfl, hg, hc⟩ : ∃ g off, p = some ⟨g, off, none⟩ ∧ _ := by
        obtain ⟨p', cap, he, _, _, _, h4⟩ := HR.out.below HB.out (Nat.le_refl _)
        cases he
        exact h4 (by omega)
      have hck := hc k hlt
      obtain ⟨T, hT⟩ : ∃ T, T = ys[k]'hlt := ⟨_, rfl⟩
      rw [← hT] at hck
      have HfT := hide (show f k = T by rw [Hf.out, hT]; simp [hlt])
      clear hc hg hT
      have hki : (k : Int) < (ys.length : Int) := by omega
      obtain ⟨N, hN⟩ : ∃ N, N = b.size := ⟨_, rfl⟩
      rw [← hN] at hgs HOw
      have HNN := hide hN
      clear hN
      obtain ⟨pu, cu, rfl⟩ := row_slice HOw.out
      obtain ⟨D, hD⟩ : ∃ D, D = sz - N := ⟨_, rfl⟩
      have hNw : IntKind.i64.wrap ((sz : Int) - (N : Int)) = (D : Int) := by rw [IntKind.wrap_i64]; omega
      have HFS := hide (full_step f sz k)
      have HG := hide (show gath f sz (k + 1) = b ++ T.extract 0 (want sz k) by rw [Hb.out, ← HfT.out]; rfl)
      have HFN := hide (show ∀ m, want sz k = m → T.size < m → full f sz ys.length = false from fun m hm h => full_not hlt (by rw [HfT.out, hm]; omega))
      have hNs : N ≤ 4096 := by omega
      have hcv := run_bytes_of_string (P := Tryz.prog) wr 9 47 5 T Tryz.underlying9 Tryz.underlying47 Tryz.underlying5
      have HRC := hide (raw_cells wr T 5)
      have bW : Below wr.heap.size wr (wr.drew.alloc (.cells (bytesRow T (grownCap wr T.size 0 5)) 5 ((bytesRow T (grownCap wr T.size 0 5)).size, (bytesRow T (grownCap wr T.size 0 5)).size + 1))) := ((Below.refl _ _).drew).alloc (Nat.le_refl _) _
      obtain ⟨C, hC⟩ : ∃ C, C = grownCap wr T.size 0 5 := ⟨_, rfl⟩
      have hCT : T.size ≤ C := by rw [hC]; exact grownCap_ge _ _ _ _
      obtain ⟨W, hW⟩ : ∃ W, W = wr.drew.alloc (.cells (bytesRow T (grownCap wr T.size 0 5)) 5 ((bytesRow T (grownCap wr T.size 0 5)).size, (bytesRow T (grownCap wr T.size 0 5)).size + 1)) := ⟨_, rfl⟩
      rw [← hW] at bW
      rw [← hW] at HRC
      rw [← hW, ← hC] at hcv
      have HBW := hide (HB.out.trans (bW.mono HB.out.size))
      have HOW := hide (ownsRow_after HOw.out bW)
      have hWs := HBW.out.size
      have HWT0 := hide (show want sz k = min 64 D by unfold want; omega)
      clear hW hC bW hD hgs
      by_cases h64 : 64 < D
      · have h64i : (64 : Int) < (D : Int) := by omega
        have HWT := hide (show want sz k = 64 by rw [HWT0.out]; omega)
        by_cases hshort : T.size < 64
        · have hsi : decide ((T.size : Int) < 64) = true := decide_eq_true (by omega)
          have HF5 := hide (HFN.out _ HWT.out hshort)
          go_wp2_with fail
          refine (refuse_yes 5 _).mono ?_
          rintro e w3 ⟨rfl, rfl⟩
          go_wp2
          exact ⟨rfl, .inr ⟨HF5.out, rfl⟩, HB.out⟩
        · have hsi : decide ((T.size : Int) < 64) = false := decide_eq_false (by omega)
          have hcI : 64 ≤ (C : Int) := by omega
          have hts : (T.extract 0 64).size = 64 := by rw [ByteArray.size_extract]; omega
          have HNL := hide (HRC.out 64 (by omega))
          go_wp2_with fail
          refine (refuse_no 5 _).mono ?_
          rintro e w3 ⟨rfl, rfl⟩
          go_wp2_with (at_builtin; refine wpList_append_own_at _ rfl _ _ 47 rfl w.heap.size 5 i0 (.int .u8 0) 1 1 Tryz.underlying47 hi hz0 hz1 hz2 rfl (by omega) _ N (Lib.strCells b) rfl HOW.out ⟨w3.heap.size, 0, none⟩ 64 64 (Lib.strCells (T.extract 0 64)) rfl (by rw [strCells_len, hts, Nat.mul_one]) HNL.out (strCells_one _) (by unfold maxLen; omega) (by omega) hWs ?_
                       intro v' w6 ho6 hg6 _ _
                       have HO6 := hide ho6
                       have HG6 := hide hg6
                       clear ho6 hg6)
          have HE := hide (show (gath f sz (k + 1)).size = N + 64 ∧ Lib.strCells (gath f sz (k + 1)) = Lib.strCells b ++ Lib.strCells (T.extract 0 64) by rw [HG.out, HWT.out, ByteArray.size_append, strCells_append, HNN.out, hts]; exact ⟨rfl, rfl⟩)
          go_roundw
          case rel =>
            refine ⟨k + 1, by omega, by go_num, by rw [HFS.out, HFk.out, HfT.out, HWT.out]; simp [Hid]; omega, by rw [HE.out.1, HE.out.2]; exact HO6, ?_⟩
            exact below_grown HBW.out HBW.out.size HG6.out (fun j hj => own_ge HOW.out hj)
          case measure => simp [intOf]; omega
      · have h64i : ¬ (64 : Int) < (D : Int) := by omega
        have hD0 : (0 : Int) ≤ (D : Int) := by omega
        have HWT := hide (show want sz k = D by rw [HWT0.out]; omega)
        by_cases hshort : T.size < D
        · have hsi : decide ((T.size : Int) < (D : Int)) = true := decide_eq_true (by omega)
          have HF5 := hide (HFN.out _ HWT.out hshort)
          go_wp2_with fail
          refine (refuse_yes 5 _).mono ?_
          rintro e w3 ⟨rfl, rfl⟩
          go_wp2
          exact ⟨rfl, .inr ⟨HF5.out, rfl⟩, HB.out⟩
        · have hsi : decide ((T.size : Int) < (D : Int)) = false := decide_eq_false (by omega)
          have hcI : (D : Int) ≤ (C : Int) := by omega
          have hts : (T.extract 0 D).size = D := by rw [ByteArray.size_extract]; omega
          have HNL := hide (HRC.out D (by omega))
          go_wp2_with fail
          refine (refuse_no 5 _).mono ?_
          rintro e w3 ⟨rfl, rfl⟩
          go_wp2_with (at_builtin; refine wpList_append_own_at _ rfl _ _ 47 rfl w.heap.size 5 i0 (.int .u8 0) 1 1 Tryz.underlying47 hi hz0 hz1 hz2 rfl (by omega) _ N (Lib.strCells b) rfl HOW.out ⟨w3.heap.size, 0, none⟩ D D (Lib.strCells (T.extract 0 D)) rfl (by rw [strCells_len, hts, Nat.mul_one]) HNL.out (strCells_one _) (by unfold maxLen; omega) (by omega) hWs ?_
                       intro v' w6 ho6 hg6 _ _
                       have HO6 := hide ho6
                       have HG6 := hide hg6
                       clear ho6 hg6)
          have HE := hide (show (gath f sz (k + 1)).size = N + D ∧ Lib.strCells (gath f sz (k + 1)) = Lib.strCells b ++ Lib.strCells (T.extract 0 D) by rw [HG.out, HWT.out, ByteArray.size_append, strCells_append, HNN.out, hts]; exact ⟨rfl, rfl⟩)
          go_roundw
          case rel =>
            refine ⟨k + 1, by omega, by go_num, by rw [HFS.out, HFk.out, HfT.out, HWT.out]; simp [Hid]; omega, by rw [HE.out.1, HE.out.2]; exact HO6, ?_⟩
            exact below_grown HBW.out HBW.out.size HG6.out (fun j hj => own_ge HOW.out hj)
          case measure => simp [intOf]; omega
    · have hki : ¬ (k : Int) < (ys.length : Int) := by omega
      have hke : k = ys.length := by omega
      have hcb := text_of_any HOw.out Tryz.underlying47 Tryz.underlying5 Tryz.underlying9
      have HE := hide (show full f sz ys.length = true ∧ b = gath f sz ys.length by rw [← hke]; exact ⟨HFk.out, Hb.out⟩)
      obtain ⟨pu, cu, rfl⟩ := row_slice HOw.out
      clear hgs
      go_wp2
      go_ret
      exact ⟨.inl ⟨HE.out.1, by rw [← HE.out.2]; rfl⟩, HB.out⟩
end Go.Proofs.YtfdgifflnmpmaaaGreatDoor
/- The program's AreaRead, from what its readArea does. -/
namespace Go.Proofs.YtfdgifflnmpmaaaGreatDoor
open Go.RowKit

/-- readArea ended with the head and the text that the disk tells, or with the panic of the code. -/
def AreaIs (e : Ending) (xs : List ByteArray) (ps : List (Int × ByteArray)) : Prop :=
  ((areaOut xs ps).c = 0 ∧ e = .returned (.tuple #[.agg #[.int .i64 (seen xs ps).1, .int .i64 (seen xs ps).2.1, .int .i64 (seen xs ps).2.2.1], .string (areaOut xs ps).t])) ∨ ((areaOut xs ps).c ≠ 0 ∧ e = .panicked (fault (areaOut xs ps).c))

theorem areaOut_bad {xs : List ByteArray} {ps : List (Int × ByteArray)} (h : (areaOut xs ps).c ≠ 0) : areaOut xs ps = aill (areaOut xs ps).c := by
  unfold areaOut at h ⊢
  split
  · rfl
  · rename_i h1
    rw [if_neg h1] at h
    split
    · rfl
    · rename_i h2
      rw [if_neg h2] at h
      split
      · rename_i h3; rw [if_pos h3] at h; exact absurd rfl h
      · rfl
set_option maxRecDepth 100000 in
set_option maxHeartbeats 4000000 in
theorem implARead_ill (vs vp : Value) (xs : List ByteArray) (ps : List (Int × ByteArray)) (aF aR aU : Addr) (w : World) (hn : xs.length ≤ 1048576) (hn2 : ps.length ≤ 1048576) (hr : Reads w vs xs) (hp : ReadsP w vp ps) (hS : Sents aF aR aU w) (hok : right xs ps = false) :
    Calls Tryz.prog 8 #[.agg #[vs, vp]] w fun e w' => AOutIs w.heap.size e w' (aill 1) ∧ Below w.heap.size w w' := by
  have hmf : ∀ (fn : Fn) (first cap : Array Value) (w : World), (Instr.makeFunc fn first cap).run Tryz.prog w = .ok (.func fn first cap) w := fun _ _ _ _ => rfl
  have hb0 : Below w.heap.size w ((w.alloc (.cells #[vs, vp] 29)).alloc (.cells #[.slice none 0 0, .slice none 0 0, .string ⟨#[]⟩, .int .i64 0, .int .i64 0] 31)) :=
    ((Below.refl _ _).alloc (Nat.le_refl _) _).alloc (by simp) _
  have HR := hide (hr.below hb0 (Nat.le_refl _))
  have HP := hide (hp.below hb0 (Nat.le_refl _))
  have HS := hide (Stab.go hb0 hS)
  have HB0 := hide hb0
  obtain ⟨p1, c1, rfl, hq⟩ := hr
  obtain ⟨p2, c2, rfl, hq2⟩ := hp
  have R0 := (row_new w [.slice p1 xs.length c1, .slice p2 ps.length c2] 29).alloc (.cells #[.slice none 0 0, .slice none 0 0, .string ⟨#[]⟩, .int .i64 0, .int .i64 0] 31)
  have R1 := row_new (w.alloc (.cells #[.slice p1 xs.length c1, .slice p2 ps.length c2] 29)) [.slice none 0 0, .slice none 0 0, .string ⟨#[]⟩, .int .i64 0, .int .i64 0] 31
  simp only [World.size_alloc] at R1
  have HR0 := hide R0
  have HR1 := hide R1
  clear hb0 hq hq2 R1 R0 hS
  go_enter_defers Tryz.func8, Tryz.ntmps8
  go_wp2_with fail
  refine (refuseDisk_any _ _ xs ps aF aR aU _ hn hn2 HR.out HP.out HS.out).mono ?_
  rw [hok]
  rintro e w1 ⟨he, hb1⟩
  simp only [Bool.false_eq_true, if_false] at he
  subst he
  have HB1 := hide (HB0.out.trans (hb1.mono HB0.out.size))
  have HX1 := hide (HR1.out.below hb1 (by simp))
  clear hb1
  go_wp2
  refine leaves_cons (f := 27) (args := #[.pointer (some ⟨w.heap.size + 1, 0, none⟩)]) (by simp) (by simp [go_sem]) ?_
  refine (readCatch_panic _ _ _ _ _ _ _ _ _ _ 1 [] _ HX1.out).mono ?_
  rintro e u' wd ⟨rfl, rfl, hrow, hk⟩
  have b0 : wd.cell? ⟨w.heap.size + 1, 0, none⟩ = some (.slice none 0 0) := hrow.cell 0
  have b1 : wd.cell? ⟨w.heap.size + 1, 1, none⟩ = some (.slice none 0 0) := hrow.cell 1
  have b2 : wd.cell? ⟨w.heap.size + 1, 2, none⟩ = some (.string ⟨#[]⟩) := hrow.cell 2
  have b3 : wd.cell? ⟨w.heap.size + 1, 3, none⟩ = some (.int .i64 0) := hrow.cell 3
  have b4 : wd.cell? ⟨w.heap.size + 1, 4, none⟩ = some (.int .i64 1) := hrow.cell 4
  simp [Leaves, settle, results, Tryz.results8, go_sem, b0, b1, b2, b3, b4]
  exact ⟨AOutIs.ill _ _ _, hk.toBelow HB1.out HB1.out.size (by simp)⟩

set_option maxRecDepth 100000 in
set_option maxHeartbeats 4000000 in
theorem implARead_rest (vs vp : Value) (xs : List ByteArray) (ps : List (Int × ByteArray)) (aF aR aU : Addr) (w : World) (hn : xs.length ≤ 1048576) (hn2 : ps.length ≤ 1048576) (hr : Reads w vs xs) (hp : ReadsP w vp ps) (hS : Sents aF aR aU w) (hok : right xs ps = true)
    (HRA : ∀ (vs vp : Value) (w' : World), Below w.heap.size w w' → Reads w' vs xs → ReadsP w' vp ps → Calls Tryz.prog 30 #[.agg #[vs, vp]] w' fun e w'' => AreaIs e xs ps ∧ Below w'.heap.size w' w'') :
    Calls Tryz.prog 8 #[.agg #[vs, vp]] w fun e w' => AOutIs w.heap.size e w' (areaOut xs ps) ∧ Below w.heap.size w w' := by
  have HRAh := hide HRA
  have HOK := hide hok
  clear HRA hok
  have hmf : ∀ (fn : Fn) (first cap : Array Value) (w : World), (Instr.makeFunc fn first cap).run Tryz.prog w = .ok (.func fn first cap) w := fun _ _ _ _ => rfl
  have hb0 : Below w.heap.size w ((w.alloc (.cells #[vs, vp] 29)).alloc (.cells #[.slice none 0 0, .slice none 0 0, .string ⟨#[]⟩, .int .i64 0, .int .i64 0] 31)) :=
    ((Below.refl _ _).alloc (Nat.le_refl _) _).alloc (by simp) _
  have HR := hide (hr.below hb0 (Nat.le_refl _))
  have HP := hide (hp.below hb0 (Nat.le_refl _))
  have HRw := hide hr
  have HPw := hide hp
  have HS := hide (Stab.go hb0 hS)
  have HB0 := hide hb0
  obtain ⟨p1, c1, rfl, hq⟩ := hr
  obtain ⟨p2, c2, rfl, hq2⟩ := hp
  have R0 := (row_new w [.slice p1 xs.length c1, .slice p2 ps.length c2] 29).alloc (.cells #[.slice none 0 0, .slice none 0 0, .string ⟨#[]⟩, .int .i64 0, .int .i64 0] 31)
  have R1 := row_new (w.alloc (.cells #[.slice p1 xs.length c1, .slice p2 ps.length c2] 29)) [.slice none 0 0, .slice none 0 0, .string ⟨#[]⟩, .int .i64 0, .int .i64 0] 31
  simp only [World.size_alloc] at R1
  have HR0 := hide R0
  have HR1 := hide R1
  clear hb0 hq hq2 R1 R0 hS
  obtain ⟨x, Hx⟩ : ∃ x, Hid (x = areaOut xs ps) := ⟨_, rfl⟩
  rw [← Hx.out]
  go_enter_defers Tryz.func8, Tryz.ntmps8
  go_wp2_with fail
  refine (refuseDisk_any _ _ xs ps aF aR aU _ hn hn2 HR.out HP.out HS.out).mono ?_
  rw [HOK.out]
  rintro e w1 ⟨he, hb1⟩
  simp only [if_true] at he
  subst he
  have HB1 := hide (HB0.out.trans (hb1.mono HB0.out.size))
  have HX1 := hide (HR1.out.below hb1 (by simp))
  have HY1 := hide (HR0.out.below hb1 (by simp; omega))
  clear hb1
  have a0 : w1.cell? ⟨w.heap.size, 0, none⟩ = some (.slice p1 xs.length c1) := HY1.out.cell 0
  have a1 : w1.cell? ⟨w.heap.size, 1, none⟩ = some (.slice p2 ps.length c2) := HY1.out.cell 1
  go_wp2_with fail
  refine (HRAh.out _ _ _ HB1.out (HRw.out.below HB1.out (Nat.le_refl _)) (HPw.out.below HB1.out (Nat.le_refl _))).mono ?_
  rintro e w2 ⟨hA, hb2⟩
  unfold AreaIs at hA
  rw [← Hx.out] at hA
  have HB2 := hide (HB1.out.trans (hb2.mono HB1.out.size))
  have HX2 := hide (Row.after hb2 HX1.out)
  have HY2 := hide (Row.after hb2 HY1.out)
  clear hb2 a0 a1
  rcases hA with ⟨hc, rfl⟩ | ⟨hc, rfl⟩
  · obtain ⟨_, hg, hxx, hpp⟩ := areaOut_ok HOK.out (by rw [← Hx.out]; exact hc)
    rw [← Hx.out] at hg hxx hpp
    obtain ⟨gen, Hgen⟩ : ∃ gen, Hid (gen = (seen xs ps).1) := ⟨_, rfl⟩
    rw [← Hgen.out] at hg ⊢
    have HXE := hide (show x = ⟨xs, ps, x.t, gen, 0⟩ by cases x; simp only at hg hxx hpp hc; subst hg hxx hpp hc; rfl)
    obtain ⟨sd, hsd⟩ : ∃ s, s = (seen xs ps).2.1 := ⟨_, rfl⟩
    obtain ⟨sz, hsz⟩ : ∃ s, s = (seen xs ps).2.2.1 := ⟨_, rfl⟩
    rw [← hsd, ← hsz]
    obtain ⟨W, hW⟩ : ∃ W, W = w2.alloc (.cells #[.int .i64 gen, .int .i64 sd, .int .i64 sz] 59) := ⟨_, rfl⟩
    have HBW := hide (show Below w.heap.size w W by rw [hW]; exact HB2.out.alloc HB2.out.size _)
    have HXW := hide (show Row W (w.heap.size + 1) 31 [.slice none 0 0, .slice none 0 0, .string ⟨#[]⟩, .int .i64 0, .int .i64 0] by rw [hW]; exact HX2.out.alloc _)
    have HYW := hide (show Row W w.heap.size 29 [.slice p1 xs.length c1, .slice p2 ps.length c2] by rw [hW]; exact HY2.out.alloc _)
    have HHW := hide (show Row W w2.heap.size 59 [.int .i64 gen, .int .i64 sd, .int .i64 sz] by rw [hW]; exact row_new w2 _ _)
    have hlt := HX2.out.lt
    have HSS := hide (show ∀ x', Kept [w.heap.size + 1] W x' → x'.cell? ⟨w.heap.size, 0, none⟩ = some (.slice p1 xs.length c1) ∧ x'.cell? ⟨w.heap.size, 1, none⟩ = some (.slice p2 ps.length c2) ∧ x'.cell? ⟨w2.heap.size, 0, none⟩ = some (.int .i64 gen) ∧ Kept [w.heap.size + 1] W x' from
      fun x' h => ⟨(h.row HYW.out (by simp)).cell 0, (h.row HYW.out (by simp)).cell 1, (h.row HHW.out (by simp; omega)).cell 0, h⟩)
    clear hsd hsz hg hxx hpp hc
    go_wp2_with fail
    rw [← hW]
    clear hW
    go_region_held3 (fun x' => x'.cell? ⟨w.heap.size, 0, none⟩ = some (.slice p1 xs.length c1) ∧ x'.cell? ⟨w.heap.size, 1, none⟩ = some (.slice p2 ps.length c2) ∧ x'.cell? ⟨w2.heap.size, 0, none⟩ = some (.int .i64 gen) ∧ Kept [w.heap.size + 1] W x')
      ((go_split_ands; refine HSS.out _ ?_; repeat (first | with_reducible assumption | with_reducible exact Kept.refl _ _ | with_reducible refine Kept.drew ?_ | with_reducible refine Kept.set ?_ (by simp) _)))
      ((first
        | (go_at_call 31; go_split_ands; refine (copyDisk_any _ _ xs ps _ (HRw.out.below HBW.out.drew (Nat.le_refl _)) (HPw.out.below HBW.out.drew (Nat.le_refl _)) (small_of_right HOK.out)).mono ?_; rintro e w7 ⟨⟨us, up, rfl, o1, o2, dd⟩, hb7⟩
           have hK7 : Kept [w.heap.size + 1] W w7 := (Kept.ofBelow (below_drew hb7)).mono (by simp)
           obtain ⟨s1, s2, s3, rfl⟩ := o1.isSlice
           obtain ⟨s4, s5, s6, rfl⟩ := o2.isSlice
           have r7 : Row w7 (w.heap.size + 1) 31 [.slice none 0 0, .slice none 0 0, .string ⟨#[]⟩, .int .i64 0, .int .i64 0] := Row.after hb7 HXW.out.drew
           have d0 : w7.cell? ⟨w.heap.size + 1, 0, none⟩ = some (.slice none 0 0) := r7.cell 0
           have d1 : w7.cell? ⟨w.heap.size + 1, 1, none⟩ = some (.slice none 0 0) := r7.cell 1
           have d2 : w7.cell? ⟨w.heap.size + 1, 2, none⟩ = some (.string ⟨#[]⟩) := r7.cell 2
           have d3 : w7.cell? ⟨w.heap.size + 1, 3, none⟩ = some (.int .i64 0) := r7.cell 3
           have d4 : w7.cell? ⟨w.heap.size + 1, 4, none⟩ = some (.int .i64 0) := r7.cell 4
           have f0 := r7.free 0
           have f1 := r7.free 1
           have f2 := r7.free 2
           have f3 := r7.free 3
           have f4 := r7.free 4
           have HR7 := hide r7
           have HB7 := hide (HBW.out.trans ((below_drew hb7).mono HBW.out.size))
           have O1 := hide o1
           have O2 := hide o2
           have DD := hide dd
           clear hb7 r7 o1 o2 dd)))
    all_goals
      obtain ⟨q0, q1, q2, q3, q4, KF⟩ := five HR7.out (.slice s1 s2 s3) (.slice s4 s5 s6) (.string x.t) (.int .i64 gen) (.int .i64 0)
      have HRow := hide (((((HR7.out.set (j := 0) (.slice s1 s2 s3)).set (j := 1) (.slice s4 s5 s6)).set (j := 2) (.string x.t)).set (j := 3) (.int .i64 gen)).set (j := 4) (.int .i64 0))
      have hwl := HXW.out.lt
      clear d0 d1 d2 d3 d4 f0 f1 f2 f3 f4
      go_wp2
      refine leaves_cons (f := 27) (args := #[.pointer (some ⟨w.heap.size + 1, 0, none⟩)]) (by simp) (by simp [go_sem]) ?_
      refine (readCatch_idle (w.heap.size + 1) s1 s4 s2 s3 s5 s6 x.t gen 0 _ HRow.out).mono ?_
      rintro e u' wd ⟨rfl, rfl, hrow, hk⟩
      have b0 : wd.cell? ⟨w.heap.size + 1, 0, none⟩ = some (.slice s1 s2 s3) := hrow.cell 0
      have b1 : wd.cell? ⟨w.heap.size + 1, 1, none⟩ = some (.slice s4 s5 s6) := hrow.cell 1
      have b2 : wd.cell? ⟨w.heap.size + 1, 2, none⟩ = some (.string x.t) := hrow.cell 2
      have b3 : wd.cell? ⟨w.heap.size + 1, 3, none⟩ = some (.int .i64 gen) := hrow.cell 3
      have b4 : wd.cell? ⟨w.heap.size + 1, 4, none⟩ = some (.int .i64 0) := hrow.cell 4
      have K2 := KF.trans hk
      simp [Leaves, settle, results, Tryz.results8, go_sem, b0, b1, b2, b3, b4]
      refine ⟨?_, K2.toBelow HB7.out HB7.out.size (by simp)⟩
      rw [HXE.out]
      exact ⟨_, _, rfl, (O1.out.kept K2 (fun y hy => by have := (O1.out.leads y hy).1; simp at this ⊢; omega)).mono HBW.out.size, (O2.out.kept K2 (fun y hy => by have := (O2.out.leads y hy).1; simp at this ⊢; omega)).mono HBW.out.size, DD.out⟩
  · have HF := hide (show x = aill x.c by have := areaOut_bad (xs := xs) (ps := ps) (by rw [← Hx.out]; exact hc); rw [← Hx.out] at this; exact this)
    obtain ⟨c, hcc⟩ : ∃ c, c = x.c := ⟨_, rfl⟩
    rw [← hcc] at HF hc ⊢
    clear hcc
    go_wp2
    refine leaves_cons (f := 27) (args := #[.pointer (some ⟨w.heap.size + 1, 0, none⟩)]) (by simp) (by simp [go_sem]) ?_
    refine (readCatch_panic _ _ _ _ _ _ _ _ _ _ c [] _ HX2.out).mono ?_
    rintro e u' wd ⟨rfl, rfl, hrow, hk⟩
    have b0 : wd.cell? ⟨w.heap.size + 1, 0, none⟩ = some (.slice none 0 0) := hrow.cell 0
    have b1 : wd.cell? ⟨w.heap.size + 1, 1, none⟩ = some (.slice none 0 0) := hrow.cell 1
    have b2 : wd.cell? ⟨w.heap.size + 1, 2, none⟩ = some (.string ⟨#[]⟩) := hrow.cell 2
    have b3 : wd.cell? ⟨w.heap.size + 1, 3, none⟩ = some (.int .i64 0) := hrow.cell 3
    have b4 : wd.cell? ⟨w.heap.size + 1, 4, none⟩ = some (.int .i64 c) := hrow.cell 4
    simp [Leaves, settle, results, Tryz.results8, go_sem, b0, b1, b2, b3, b4]
    exact ⟨by rw [HF.out]; exact AOutIs.ill _ _ _, hk.toBelow HB2.out HB2.out.size (by simp)⟩

theorem implARead_any (vs vp : Value) (xs : List ByteArray) (ps : List (Int × ByteArray)) (aF aR aU : Addr) (w : World) (hn : xs.length ≤ 1048576) (hn2 : ps.length ≤ 1048576) (hr : Reads w vs xs) (hp : ReadsP w vp ps) (hS : Sents aF aR aU w)
    (HRA : right xs ps = true → ∀ (vs vp : Value) (w' : World), Below w.heap.size w w' → Reads w' vs xs → ReadsP w' vp ps → Calls Tryz.prog 30 #[.agg #[vs, vp]] w' fun e w'' => AreaIs e xs ps ∧ Below w'.heap.size w' w'') :
    Calls Tryz.prog 8 #[.agg #[vs, vp]] w fun e w' => AOutIs w.heap.size e w' (areaOut xs ps) ∧ Below w.heap.size w w' := by
  cases hok : right xs ps with
  | false =>
    have h : areaOut xs ps = aill 1 := by unfold areaOut; rw [if_pos hok]
    rw [h]; exact implARead_ill vs vp xs ps aF aR aU w hn hn2 hr hp hS hok
  | true => exact implARead_rest vs vp xs ps aF aR aU w hn hn2 hr hp hS hok (HRA hok)
end Go.Proofs.YtfdgifflnmpmaaaGreatDoor
