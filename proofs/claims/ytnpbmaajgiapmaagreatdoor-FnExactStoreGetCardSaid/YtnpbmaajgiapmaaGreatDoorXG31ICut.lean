/- How the program cuts a text into what each sector takes. -/
import Derived.Test.YtnpbmaajgiapmaaGreatDoorXG23SARead2
import Derived.Laws.IdiomStrings
import Derived.Maps.AppendAt
namespace Go.Proofs.YtnpbmaajgiapmaaGreatDoor
open Go.RowKit

theorem own_ge {w : World} {B n : Nat} {e : TypeId} {v : Value} {xs : List Value} (h : w.ownsRow B e 1 v n xs) {j : Nat} (hj : v.ownBlock = some j) : B ≤ j := by
  obtain ⟨_, ⟨rfl, _⟩ | ⟨g, cap, cur, rfl, hB, _⟩⟩ := h
  · cases hj
  · cases hj; exact hB
def pieces (d : ByteArray) (k : Nat) : List ByteArray := (List.range k).map (piece d)
theorem pieces_len (d : ByteArray) (k : Nat) : (pieces d k).length = k := by simp [pieces]
theorem pieces_snoc (d : ByteArray) (k : Nat) : pieces d (k + 1) = pieces d k ++ [piece d k] := by simp [pieces, List.range_succ]
theorem pieces_size (d : ByteArray) (k : Nat) : ∀ x ∈ pieces d k, x.size ≤ 64 := by
  intro x hx
  obtain ⟨j, _, rfl⟩ := List.mem_map.1 hx
  unfold piece
  rw [ByteArray.size_extract]
  omega
theorem reads_of_row {w : World} {B : Nat} {v : Value} {xs : List ByteArray} (hx : ∀ x ∈ xs, x.size ≤ maxLen) (h : w.ownsRow B 9 1 v xs.length (strs xs)) : Reads w v xs := by
  by_cases h0 : 0 < xs.length
  · exact (OwnS.ofRow hx h0 h).reads
  · have e : xs = [] := List.eq_nil_of_length_eq_zero (by omega)
    subst e
    obtain ⟨_, ⟨rfl, _⟩ | ⟨g, cap, cur, rfl, _, _, h1, h2, _⟩⟩ := h
    · exact ⟨_, _, rfl, Nat.le_refl _, by unfold maxLen; omega, by simp, fun h => by simp at h⟩
    · exact ⟨_, _, rfl, h1, h2, by simp, fun h => by simp at h⟩

/-- The bytes of a text, in a row of their own. -/
theorem raw_cell (w : World) (d : ByteArray) (e : TypeId) (j : Nat) (hj : j < d.size) :
    (w.drew.alloc (.cells (bytesRow d (grownCap w d.size 0 e)) e ((bytesRow d (grownCap w d.size 0 e)).size, (bytesRow d (grownCap w d.size 0 e)).size + 1))).cell? ⟨w.heap.size, j, none⟩ = some (.int .u8 ((d[j]'hj).toNat : Int)) := by
  refine (cell_of_row _ w.heap.size j _ e _ (heap_alloc_new w.drew _)).trans ?_
  unfold bytesRow
  have hj' : j < d.data.size := hj
  rw [Array.getElem?_append_left (by simpa using hj'), Array.getElem?_map, Array.getElem?_eq_getElem hj']
  rfl
theorem piece_list (d : ByteArray) (k M : Nat) (hM : M = min d.size (64 * (k + 1))) : (⟨((d.data.toList.drop (64 * k)).take (M - 64 * k)).toArray⟩ : ByteArray) = piece d k := by
  unfold piece
  rw [← hM]
  apply ByteArray.ext
  apply Array.ext'
  simp [ByteArray.data_extract, Array.toList_extract]

set_option maxRecDepth 100000 in
set_option maxHeartbeats 4000000 in
theorem cutSectors_any (d : ByteArray) (w : World) (hd : d.size ≤ 8000) :
    Calls Tryz.prog 133 #[.string d] w fun e w' => (∃ v, e = .returned v ∧ Reads w' v (pieces d (cuts d))) ∧ Below w.heap.size w w' := by
  obtain ⟨i0, hi, hz0, hz1, hz2⟩ := info_parts Tryz.infoStr
  have hcv := run_bytes_of_string (P := Tryz.prog) w 9 126 5 d Tryz.underlying9 Tryz.underlying126 Tryz.underlying5
  obtain ⟨C, hC⟩ : ∃ C, C = grownCap w d.size 0 5 := ⟨_, rfl⟩
  obtain ⟨W, hW⟩ : ∃ W, W = w.drew.alloc (.cells (bytesRow d (grownCap w d.size 0 5)) 5 ((bytesRow d (grownCap w d.size 0 5)).size, (bytesRow d (grownCap w d.size 0 5)).size + 1)) := ⟨_, rfl⟩
  have HCELL := hide (show ∀ j (hj : j < d.size), W.cell? ⟨w.heap.size, j, none⟩ = some (.int .u8 ((d[j]'hj).toNat : Int)) from fun j hj => by rw [hW]; exact raw_cell w d _ j hj)
  have HBW := hide (show Below w.heap.size w W by rw [hW]; exact ((Below.refl _ _).drew).alloc (Nat.le_refl _) _)
  have hWs : w.heap.size < W.heap.size := by rw [hW]; simp
  have hCd : d.size ≤ C := by rw [hC]; exact grownCap_ge _ _ _ _
  rw [← hW, ← hC] at hcv
  clear hW hC
  have HO0 := hide (show W.ownsRow W.heap.size 9 1 (.slice none 0 0) 0 (strs (pieces d 0)) from ⟨rfl, .inl ⟨rfl, rfl⟩⟩)
  have hcd : cuts d ≤ 200 := by unfold cuts; omega
  go_enter Tryz.func133, Tryz.ntmps133
  go_wp2_with fail
  go_loopw [4, 5] (fun u i wr => ∃ k : Nat, k ≤ cuts d ∧ i = .int .i64 ((64 * k : Nat) : Int) ∧ Hid (wr.ownsRow W.heap.size 9 1 u k (strs (pieces d k))) ∧ Hid (Below W.heap.size W wr)) (fun _ i _ => 64 * cuts d - (intOf i).toNat)
  case atStart => exact ⟨0, Nat.zero_le _, rfl, HO0, Below.refl _ _⟩
  case round =>
    obtain ⟨k, hk, rfl, HOw, HB⟩ := hrel
    obtain ⟨F, hF⟩ : ∃ F : Nat, F = 64 * k := ⟨_, rfl⟩
    rw [← hF]
    by_cases hlt : k < cuts d
    · have hfd : F < d.size := by rw [hF]; unfold cuts at hlt; omega
      have hfi : (F : Int) < (d.size : Int) := by omega
      obtain ⟨M, hM⟩ : ∃ M, M = min d.size (64 * (k + 1)) := ⟨_, rfl⟩
      have hMi : min ((F : Int) + 64) (d.size : Int) = (M : Int) := by omega
      have HM := hide hM
      have HF := hide hF
      have hm1 : (F : Int) ≤ (M : Int) := by omega
      have hm2 : (M : Int) ≤ (C : Int) := by omega
      have hm0 : (0 : Int) ≤ (F : Int) := by omega
      clear hM hF
      by_cases hfl : F + 64 ≤ d.size
      · have hx1 : (F : Int) + 64 ≤ (d.size : Int) := by omega
        have hto : ((F : Int) + 64).toNat = F + 64 := by omega
        have hcb : (convert 126 9 (.slice (some ⟨w.heap.size, F, none⟩) (64) (64))).run Tryz.prog wr = .ok (.string (piece d k)) wr := by
          have hl : ((d.data.toList.drop F).take (64)).length = 64 := by
            rw [List.length_take, List.length_drop, Array.length_toList]
            have : d.data.size = d.size := rfl
            omega
          have h := run_convert_bytes_back (P := Tryz.prog) wr 126 9 5 ⟨w.heap.size, F, none⟩ (64) ((d.data.toList.drop F).take (64)) Tryz.underlying126 Tryz.underlying5 Tryz.underlying9 (fun j hj => by
            rw [hl] at hj
            rw [add_addr, HB.out.cell (p := ⟨w.heap.size, F + j, none⟩) hWs, HCELL.out (F + j) (by omega)]
            simp
            rfl)
          rw [hl] at h
          rw [h, ← piece_list d k M HM.out, ← HF.out, show M - F = 64 by have := HM.out; have := HF.out; omega]
        have HNL := hide (show ∀ j u, ([Value.string (piece d k)] : List Value)[j]? = some u → (wr.alloc (.cells #[.string (piece d k)] 9)).cell? ((⟨wr.heap.size, 0, none⟩ : Addr).add j) = some u from fun j u hu => by
          rw [add_addr, Nat.zero_add, (row_new wr [.string (piece d k)] 9).cell]; exact hu)
        have HOA := hide (HOw.out.alloc (.cells #[.string (piece d k)] 9))
        have HBA := hide (HB.out.alloc HB.out.size (.cells #[.string (piece d k)] 9))
        go_wp2_with (at_builtin; refine wpList_append_own_at _ rfl _ _ 22 rfl W.heap.size 9 i0 (.string ⟨#[]⟩) 1 16 Tryz.underlying22 hi hz0 hz1 hz2 rfl (by omega) _ k (strs (pieces d k)) rfl HOA.out ⟨wr.heap.size, 0, none⟩ 1 1 [.string (piece d k)] rfl rfl HNL.out (by simp [Value.oneCell']) (by unfold maxLen; omega) (by omega) (by have := HB.out.size; simp; omega) ?_
                     intro v' w1 ho1 hg1 _ _
                     have HO1 := hide ho1
                     have HG1 := hide hg1
                     clear ho1 hg1)
        have HP := hide (show strs (pieces d (k + 1)) = strs (pieces d k) ++ [.string (piece d k)] by rw [pieces_snoc]; simp [strs])
        go_roundw
        case rel =>
          refine ⟨k + 1, by omega, by have := HF.out; rw [this]; go_num, by rw [HP.out]; exact HO1, ?_⟩
          exact below_grown HBA.out HBA.out.size HG1.out (fun j hj => own_ge HOA.out hj)
        case measure => have := HF.out; simp [intOf]; omega
      · have hx1 : (d.size : Int) < (F : Int) + 64 := by omega
        have hcb : (convert 126 9 (.slice (some ⟨w.heap.size, F, none⟩) (d.size - F) (d.size - F))).run Tryz.prog wr = .ok (.string (piece d k)) wr := by
          have hl : ((d.data.toList.drop F).take (d.size - F)).length = d.size - F := by
            rw [List.length_take, List.length_drop, Array.length_toList]
            have : d.data.size = d.size := rfl
            omega
          have h := run_convert_bytes_back (P := Tryz.prog) wr 126 9 5 ⟨w.heap.size, F, none⟩ (d.size - F) ((d.data.toList.drop F).take (d.size - F)) Tryz.underlying126 Tryz.underlying5 Tryz.underlying9 (fun j hj => by
            rw [hl] at hj
            rw [add_addr, HB.out.cell (p := ⟨w.heap.size, F + j, none⟩) hWs, HCELL.out (F + j) (by omega)]
            simp
            rfl)
          rw [hl] at h
          rw [h, ← piece_list d k M HM.out, ← HF.out, show M - F = d.size - F by have := HM.out; have := HF.out; omega]
        have HNL := hide (show ∀ j u, ([Value.string (piece d k)] : List Value)[j]? = some u → (wr.alloc (.cells #[.string (piece d k)] 9)).cell? ((⟨wr.heap.size, 0, none⟩ : Addr).add j) = some u from fun j u hu => by
          rw [add_addr, Nat.zero_add, (row_new wr [.string (piece d k)] 9).cell]; exact hu)
        have HOA := hide (HOw.out.alloc (.cells #[.string (piece d k)] 9))
        have HBA := hide (HB.out.alloc HB.out.size (.cells #[.string (piece d k)] 9))
        go_wp2_with (at_builtin; refine wpList_append_own_at _ rfl _ _ 22 rfl W.heap.size 9 i0 (.string ⟨#[]⟩) 1 16 Tryz.underlying22 hi hz0 hz1 hz2 rfl (by omega) _ k (strs (pieces d k)) rfl HOA.out ⟨wr.heap.size, 0, none⟩ 1 1 [.string (piece d k)] rfl rfl HNL.out (by simp [Value.oneCell']) (by unfold maxLen; omega) (by omega) (by have := HB.out.size; simp; omega) ?_
                     intro v' w1 ho1 hg1 _ _
                     have HO1 := hide ho1
                     have HG1 := hide hg1
                     clear ho1 hg1)
        have HP := hide (show strs (pieces d (k + 1)) = strs (pieces d k) ++ [.string (piece d k)] by rw [pieces_snoc]; simp [strs])
        go_roundw
        case rel =>
          refine ⟨k + 1, by omega, by have := HF.out; rw [this]; go_num, by rw [HP.out]; exact HO1, ?_⟩
          exact below_grown HBA.out HBA.out.size HG1.out (fun j hj => own_ge HOA.out hj)
        case measure => have := HF.out; simp [intOf]; omega
    · have hfi : ¬ (F : Int) < (d.size : Int) := by rw [hF]; unfold cuts at hlt; omega
      have hkc : k = cuts d := by omega
      have HR := hide (reads_of_row (fun x hx => by have := pieces_size d k x hx; unfold maxLen; omega) (by rw [pieces_len]; exact HOw.out))
      have HBB := hide (HBW.out.trans (HB.out.mono HBW.out.size))
      clear hF
      go_wp2
      go_ret
      exact ⟨⟨_, rfl, by rw [← hkc]; exact HR.out⟩, HBB.out⟩
end Go.Proofs.YtnpbmaajgiapmaaGreatDoor
