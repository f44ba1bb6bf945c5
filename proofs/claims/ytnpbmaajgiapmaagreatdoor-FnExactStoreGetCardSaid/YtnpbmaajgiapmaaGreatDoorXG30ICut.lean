/- How the program cuts a text into what each sector takes. -/
import Derived.Test.YtnpbmaajgiapmaaGreatDoorXG23SARead2
import Derived.Laws.IdiomStrings
import Derived.Maps.AppendAt
import Derived.Test.YtnpbmaajgiapmaaGreatDoorXG29IPanic
import Derived.Test.YtnpbmaajgiapmaaGreatDoorXG2NNum
import Derived.Laws.Concat
import Derived.Deep.RegionHeld3
import Derived.Deep.DeepCutAuto
import Derived.Test.YtnpbmaajgiapmaaGreatDoorXG28IBank
import Derived.Test.YtnpbmaajgiapmaaGreatDoorXG21SFlush
namespace Go.Proofs.YtnpbmaajgiapmaaGreatDoor
open Go.RowKit

theorem own_ge {w : World} {B n : Nat} {e : TypeId} {v : Value} {xs : List Value} (h : w.ownsRow B e 1 v n xs) {j : Nat} (hj : v.ownBlock = some j) : B ≤ j := by
  obtain ⟨_, ⟨rfl, _⟩ | ⟨g, cap, cur, rfl, hB, _⟩⟩ := h
  · cases hj
  · cases hj; exact hB
def pieces (d : ByteArray) (k : Nat) : List ByteArray := (List.range k).map (piece d)
theorem pieces_len (d : ByteArray) (k : Nat) : (pieces d k).length = k := by simp [pieces]
theorem pieces_snoc (d : ByteArray) (k : Nat) : pieces d (k + 1) = pieces d k ++ [piece d k] := by simp [pieces, List.range_succ]
theorem pieces_size (d : ByteArray) (k : Nat) : ∀ x ∈ pieces d k, x.size ≤ 64 := by
  intro x hx
  obtain ⟨j, _, rfl⟩ := List.mem_map.1 hx
  unfold piece
  rw [ByteArray.size_extract]
  omega
theorem reads_of_row {w : World} {B : Nat} {v : Value} {xs : List ByteArray} (hx : ∀ x ∈ xs, x.size ≤ maxLen) (h : w.ownsRow B 9 1 v xs.length (strs xs)) : Reads w v xs := by
  by_cases h0 : 0 < xs.length
  · exact (OwnS.ofRow hx h0 h).reads
  · have e : xs = [] := List.eq_nil_of_length_eq_zero (by omega)
    subst e
    obtain ⟨_, ⟨rfl, _⟩ | ⟨g, cap, cur, rfl, _, _, h1, h2, _⟩⟩ := h
    · exact ⟨_, _, rfl, Nat.le_refl _, by unfold maxLen; omega, by simp, fun h => by simp at h⟩
    · exact ⟨_, _, rfl, h1, h2, by simp, fun h => by simp at h⟩

/-- The bytes of a text, in a row of their own. -/
theorem raw_cell (w : World) (d : ByteArray) (e : TypeId) (j : Nat) (hj : j < d.size) :
    (w.drew.alloc (.cells (bytesRow d (grownCap w d.size 0 e)) e ((bytesRow d (grownCap w d.size 0 e)).size, (bytesRow d (grownCap w d.size 0 e)).size + 1))).cell? ⟨w.heap.size, j, none⟩ = some (.int .u8 ((d[j]'hj).toNat : Int)) := by
  refine (cell_of_row _ w.heap.size j _ e _ (heap_alloc_new w.drew _)).trans ?_
  unfold bytesRow
  have hj' : j < d.data.size := hj
  rw [Array.getElem?_append_left (by simpa using hj'), Array.getElem?_map, Array.getElem?_eq_getElem hj']
  rfl
theorem piece_list (d : ByteArray) (k M : Nat) (hM : M = min d.size (64 * (k + 1))) : (⟨((d.data.toList.drop (64 * k)).take (M - 64 * k)).toArray⟩ : ByteArray) = piece d k := by
  unfold piece
  rw [← hM]
  apply ByteArray.ext
  apply Array.ext'
  simp [ByteArray.data_extract, Array.toList_extract]

set_option maxRecDepth 100000 in
set_option maxHeartbeats 4000000 in
theorem cutSectors_any (d : ByteArray) (w : World) (hd : d.size ≤ 8000) :
    Calls Tryz.prog 133 #[.string d] w fun e w' => (∃ v, e = .returned v ∧ Reads w' v (pieces d (cuts d))) ∧ Below w.heap.size w w' := by
  obtain ⟨i0, hi, hz0, hz1, hz2⟩ := info_parts Tryz.infoStr
  have hcv := run_bytes_of_string (P := Tryz.prog) w 9 126 5 d Tryz.underlying9 Tryz.underlying126 Tryz.underlying5
  obtain ⟨C, hC⟩ : ∃ C, C = grownCap w d.size 0 5 := ⟨_, rfl⟩
  obtain ⟨W, hW⟩ : ∃ W, W = w.drew.alloc (.cells (bytesRow d (grownCap w d.size 0 5)) 5 ((bytesRow d (grownCap w d.size 0 5)).size, (bytesRow d (grownCap w d.size 0 5)).size + 1)) := ⟨_, rfl⟩
  have HCELL := hide (show ∀ j (hj : j < d.size), W.cell? ⟨w.heap.size, j, none⟩ = some (.int .u8 ((d[j]'hj).toNat : Int)) from fun j hj => by rw [hW]; exact raw_cell w d _ j hj)
  have HBW := hide (show Below w.heap.size w W by rw [hW]; exact ((Below.refl _ _).drew).alloc (Nat.le_refl _) _)
  have hWs : w.heap.size < W.heap.size := by rw [hW]; simp
  have hCd : d.size ≤ C := by rw [hC]; exact grownCap_ge _ _ _ _
  rw [← hW, ← hC] at hcv
  clear hW hC
  have HO0 := hide (show W.ownsRow W.heap.size 9 1 (.slice none 0 0) 0 (strs (pieces d 0)) from ⟨rfl, .inl ⟨rfl, rfl⟩⟩)
  have hcd : cuts d ≤ 200 := by unfold cuts; omega
  go_enter Tryz.func133, Tryz.ntmps133
  go_wp2_with fail
  go_loopw [4, 5] (fun u i wr => ∃ k : Nat, k ≤ cuts d ∧ i = .int .i64 ((64 * k : Nat) : Int) ∧ Hid (wr.ownsRow W.heap.size 9 1 u k (strs (pieces d k))) ∧ Hid (Below W.heap.size W wr)) (fun _ i _ => 64 * cuts d - (intOf i).toNat)
  case atStart => exact ⟨0, Nat.zero_le _, rfl, HO0, Below.refl _ _⟩
  case round =>
    obtain ⟨k, hk, rfl, HOw, HB⟩ := hrel
    obtain ⟨F, hF⟩ : ∃ F : Nat, F = 64 * k := ⟨_, rfl⟩
    rw [← hF]
    by_cases hlt : k < cuts d
    · have hfd : F < d.size := by rw [hF]; unfold cuts at hlt; omega
      have hfi : (F : Int) < (d.size : Int) := by omega
      obtain ⟨M, hM⟩ : ∃ M, M = min d.size (64 * (k + 1)) := ⟨_, rfl⟩
      have hMi : min ((F : Int) + 64) (d.size : Int) = (M : Int) := by omega
      have HM := hide hM
      have HF := hide hF
      have hm1 : (F : Int) ≤ (M : Int) := by omega
      have hm2 : (M : Int) ≤ (C : Int) := by omega
      have hm0 : (0 : Int) ≤ (F : Int) := by omega
      clear hM hF
      by_cases hfl : F + 64 ≤ d.size
      · have hx1 : (F : Int) + 64 ≤ (d.size : Int) := by omega
        have hto : ((F : Int) + 64).toNat = F + 64 := by omega
        have hcb : (convert 126 9 (.slice (some ⟨w.heap.size, F, none⟩) (64) (64))).run Tryz.prog wr = .ok (.string (piece d k)) wr := by
          have hl : ((d.data.toList.drop F).take (64)).length = 64 := by
            rw [List.length_take, List.length_drop, Array.length_toList]
            have : d.data.size = d.size := rfl
            omega
          have h := run_convert_bytes_back (P := Tryz.prog) wr 126 9 5 ⟨w.heap.size, F, none⟩ (64) ((d.data.toList.drop F).take (64)) Tryz.underlying126 Tryz.underlying5 Tryz.underlying9 (fun j hj => by
            rw [hl] at hj
            rw [add_addr, HB.out.cell (p := ⟨w.heap.size, F + j, none⟩) hWs, HCELL.out (F + j) (by omega)]
            simp
            rfl)
          rw [hl] at h
          rw [h, ← piece_list d k M HM.out, ← HF.out, show M - F = 64 by have := HM.out; have := HF.out; omega]
        have HNL := hide (show ∀ j u, ([Value.string (piece d k)] : List Value)[j]? = some u → (wr.alloc (.cells #[.string (piece d k)] 9)).cell? ((⟨wr.heap.size, 0, none⟩ : Addr).add j) = some u from fun j u hu => by
          rw [add_addr, Nat.zero_add, (row_new wr [.string (piece d k)] 9).cell]; exact hu)
        have HOA := hide (HOw.out.alloc (.cells #[.string (piece d k)] 9))
        have HBA := hide (HB.out.alloc HB.out.size (.cells #[.string (piece d k)] 9))
        go_wp2_with (at_builtin; refine wpList_append_own_at _ rfl _ _ 22 rfl W.heap.size 9 i0 (.string ⟨#[]⟩) 1 16 Tryz.underlying22 hi hz0 hz1 hz2 rfl (by omega) _ k (strs (pieces d k)) rfl HOA.out ⟨wr.heap.size, 0, none⟩ 1 1 [.string (piece d k)] rfl rfl HNL.out (by simp [Value.oneCell']) (by unfold maxLen; omega) (by omega) (by have := HB.out.size; simp; omega) ?_
                     intro v' w1 ho1 hg1 _ _
                     have HO1 := hide ho1
                     have HG1 := hide hg1
                     clear ho1 hg1)
        have HP := hide (show strs (pieces d (k + 1)) = strs (pieces d k) ++ [.string (piece d k)] by rw [pieces_snoc]; simp [strs])
        go_roundw
        case rel =>
          refine ⟨k + 1, by omega, by have := HF.out; rw [this]; go_num, by rw [HP.out]; exact HO1, ?_⟩
          exact below_grown HBA.out HBA.out.size HG1.out (fun j hj => own_ge HOA.out hj)
        case measure => have := HF.out; simp [intOf]; omega
      · have hx1 : (d.size : Int) < (F : Int) + 64 := by omega
        have hcb : (convert 126 9 (.slice (some ⟨w.heap.size, F, none⟩) (d.size - F) (d.size - F))).run Tryz.prog wr = .ok (.string (piece d k)) wr := by
          have hl : ((d.data.toList.drop F).take (d.size - F)).length = d.size - F := by
            rw [List.length_take, List.length_drop, Array.length_toList]
            have : d.data.size = d.size := rfl
            omega
          have h := run_convert_bytes_back (P := Tryz.prog) wr 126 9 5 ⟨w.heap.size, F, none⟩ (d.size - F) ((d.data.toList.drop F).take (d.size - F)) Tryz.underlying126 Tryz.underlying5 Tryz.underlying9 (fun j hj => by
            rw [hl] at hj
            rw [add_addr, HB.out.cell (p := ⟨w.heap.size, F + j, none⟩) hWs, HCELL.out (F + j) (by omega)]
            simp
            rfl)
          rw [hl] at h
          rw [h, ← piece_list d k M HM.out, ← HF.out, show M - F = d.size - F by have := HM.out; have := HF.out; omega]
        have HNL := hide (show ∀ j u, ([Value.string (piece d k)] : List Value)[j]? = some u → (wr.alloc (.cells #[.string (piece d k)] 9)).cell? ((⟨wr.heap.size, 0, none⟩ : Addr).add j) = some u from fun j u hu => by
          rw [add_addr, Nat.zero_add, (row_new wr [.string (piece d k)] 9).cell]; exact hu)
        have HOA := hide (HOw.out.alloc (.cells #[.string (piece d k)] 9))
        have HBA := hide (HB.out.alloc HB.out.size (.cells #[.string (piece d k)] 9))
        go_wp2_with (at_builtin; refine wpList_append_own_at _ rfl _ _ 22 rfl W.heap.size 9 i0 (.string ⟨#[]⟩) 1 16 Tryz.underlying22 hi hz0 hz1 hz2 rfl (by omega) _ k (strs (pieces d k)) rfl HOA.out ⟨wr.heap.size, 0, none⟩ 1 1 [.string (piece d k)] rfl rfl HNL.out (by simp [Value.oneCell']) (by unfold maxLen; omega) (by omega) (by have := HB.out.size; simp; omega) ?_
                     intro v' w1 ho1 hg1 _ _
                     have HO1 := hide ho1
                     have HG1 := hide hg1
                     clear ho1 hg1)
        have HP := hide (show strs (pieces d (k + 1)) = strs (pieces d k) ++ [.string (piece d k)] by rw [pieces_snoc]; simp [strs])
        go_roundw
        case rel =>
          refine ⟨k + 1, by omega, by have := HF.out; rw [this]; go_num, by rw [HP.out]; exact HO1, ?_⟩
          exact below_grown HBA.out HBA.out.size HG1.out (fun j hj => own_ge HOA.out hj)
        case measure => have := HF.out; simp [intOf]; omega
    · have hfi : ¬ (F : Int) < (d.size : Int) := by rw [hF]; unfold cuts at hlt; omega
      have hkc : k = cuts d := by omega
      have HR := hide (reads_of_row (fun x hx => by have := pieces_size d k x hx; unfold maxLen; omega) (by rw [pieces_len]; exact HOw.out))
      have HBB := hide (HBW.out.trans (HB.out.mono HBW.out.size))
      clear hF
      go_wp2
      go_ret
      exact ⟨⟨_, rfl, by rw [← hkc]; exact HR.out⟩, HBB.out⟩
end Go.Proofs.YtnpbmaajgiapmaaGreatDoor
/- The program's text of a head. -/
namespace Go.Proofs.YtnpbmaajgiapmaaGreatDoor
open Go.RowKit

set_option maxRecDepth 100000 in
set_option maxHeartbeats 4000000 in
theorem headText_any (g s z : Int) (w : World) (hg : -9223372036854775808 ≤ g ∧ g ≤ 9223372036854775807) (hs : -9223372036854775808 ≤ s ∧ s ≤ 9223372036854775807) (hz : -9223372036854775808 ≤ z ∧ z ≤ 9223372036854775807) :
    Calls Tryz.prog 80 #[.agg #[.int .i64 g, .int .i64 s, .int .i64 z]] w fun e w' => e = .returned (.string (headOf g s z)) ∧ Below w.heap.size w w' := by
  have HG := hide hg
  have HS := hide hs
  have HZ := hide hz
  clear hg hs hz
  have e1 : (St2.bytesOf (St2.enc g)).size ≤ 10 := numText_size g
  have e2 : (St2.bytesOf (St2.enc s)).size ≤ 10 := numText_size s
  have e3 : (St2.bytesOf (St2.enc z)).size ≤ 10 := numText_size z
  have ad1 : ∀ w : World, (Op.stringOp .add (St2.bytesOf (St2.enc g)) (St2.bytesOf (St2.enc s))).run Tryz.prog w = .ok (.string (St2.bytesOf (St2.enc g) ++ St2.bytesOf (St2.enc s))) w := fun w => run_string_add_sum w _ _ (by omega)
  have ad2 : ∀ w : World, (Op.stringOp .add (St2.bytesOf (St2.enc g) ++ St2.bytesOf (St2.enc s)) (St2.bytesOf (St2.enc z))).run Tryz.prog w = .ok (.string (St2.bytesOf (St2.enc g) ++ St2.bytesOf (St2.enc s) ++ St2.bytesOf (St2.enc z))) w := fun w => run_string_add_sum w _ _ (by simp only [ByteArray.size_append]; omega)
  have hb0 : Below w.heap.size w (w.alloc (.cells #[.int .i64 g, .int .i64 s, .int .i64 z] 114)) := (Below.refl _ _).alloc (Nat.le_refl _) _
  have HN := hide (row_new w [.int .i64 g, .int .i64 s, .int .i64 z] 114)
  have HB0 := hide hb0
  obtain ⟨W, hW⟩ : ∃ W, W = w.alloc (.cells #[.int .i64 g, .int .i64 s, .int .i64 z] 114) := ⟨_, rfl⟩
  rw [← hW] at HN HB0
  have HSS := hide (show ∀ x, Below W.heap.size W x → x.cell? ⟨w.heap.size, 0, none⟩ = some (.int .i64 g) ∧ x.cell? ⟨w.heap.size, 1, none⟩ = some (.int .i64 s) ∧ x.cell? ⟨w.heap.size, 2, none⟩ = some (.int .i64 z) ∧ Below W.heap.size W x from
    fun x h => ⟨(Row.after h HN.out).cell 0, (Row.after h HN.out).cell 1, (Row.after h HN.out).cell 2, h⟩)
  clear hb0
  go_enter Tryz.func80, Tryz.ntmps80
  go_wp2_with fail
  rw [← hW]
  clear hW
  go_region_held3 (fun x => x.cell? ⟨w.heap.size, 0, none⟩ = some (.int .i64 g) ∧ x.cell? ⟨w.heap.size, 1, none⟩ = some (.int .i64 s) ∧ x.cell? ⟨w.heap.size, 2, none⟩ = some (.int .i64 z) ∧ Below W.heap.size W x)
    ((go_split_ands; refine HSS.out _ ?_; repeat (first | with_reducible assumption | with_reducible exact Below.refl _ _ | with_reducible refine Below.drew ?_)))
    ((first
      | (go_at_call 103; go_split_ands; refine (St2.implPutNum_any _ _ (by first | exact HG.out.1 | exact HS.out.1 | exact HZ.out.1) (by first | exact HG.out.2 | exact HS.out.2 | exact HZ.out.2)).mono ?_; rintro e w1 ⟨rfl, hb1⟩; have hB1 : Below W.heap.size W w1 := Below.trans (by assumption) (hb1.mono (Below.size (by assumption))); clear hb1)
      | (go_at_call 102; go_split_ands; refine (St1.implSeal_any _ _ (by simp only [ByteArray.size_append]; omega)).mono ?_; rintro e w1 ⟨rfl, hb1⟩; have hB1 : Below W.heap.size W w1 := Below.trans (by assumption) (hb1.mono (Below.size (by assumption))); clear hb1)))
  all_goals
    have HB1 := hide (HB0.out.trans (hB1.mono HB0.out.size))
    go_wp2
    go_ret
    exact ⟨rfl, HB1.out⟩
end Go.Proofs.YtnpbmaajgiapmaaGreatDoor
/- DiskRead and DiskFlush, as the program does them. -/
namespace Go.Proofs.YtnpbmaajgiapmaaGreatDoor
open Go.RowKit

set_option maxRecDepth 100000 in
set_option maxHeartbeats 4000000 in
theorem implFlush_any (vs vp : Value) (xs : List ByteArray) (ps : List (Int × ByteArray)) (aF aR aU : Addr) (w : World) (hn : xs.length ≤ 1048576) (hn2 : ps.length ≤ 1048576) (hr : Reads w vs xs) (hp : ReadsP w vp ps) (hS : Sents aF aR aU w) :
    Calls Tryz.prog 131 #[.agg #[vs, vp]] w fun e w' => OutIs w.heap.size e w' (flushOut xs ps) ∧ Below w.heap.size w w' := by
  have hb0 : Below w.heap.size w ((w.alloc (.cells #[vs, vp] 30)).alloc (.cells #[.slice none 0 0, .slice none 0 0, .string ⟨#[]⟩, .int .i64 0] 101)) :=
    ((Below.refl _ _).alloc (Nat.le_refl _) _).alloc (by simp) _
  have HR := hide (hr.below hb0 (Nat.le_refl _))
  have HP := hide (hp.below hb0 (Nat.le_refl _))
  have HS := hide (Stab.go hb0 hS)
  have HB0 := hide hb0
  obtain ⟨p1, c1, rfl, hq⟩ := hr
  obtain ⟨p2, c2, rfl, hq2⟩ := hp
  have HN0 := hide ((row_new w [.slice p1 xs.length c1, .slice p2 ps.length c2] 30).alloc (.cells #[.slice none 0 0, .slice none 0 0, .string ⟨#[]⟩, .int .i64 0] 101))
  have R1 := row_new (w.alloc (.cells #[.slice p1 xs.length c1, .slice p2 ps.length c2] 30)) [.slice none 0 0, .slice none 0 0, .string ⟨#[]⟩, .int .i64 0] 101
  simp only [World.size_alloc] at R1
  have HR1 := hide R1
  clear hb0 hq hq2 R1 hS
  cases hok : right xs ps with
  | false =>
    have HE := hide (show diskFaultOf (errV aF) xs ps = .iface 245 (.pointer (some aF)) by unfold diskFaultOf; rw [hok]; rfl)
    have HF := hide (show flushOut xs ps = illOut 1 by unfold flushOut; rw [hok]; rfl)
    rw [HF.out]
    go_enter Tryz.func131, Tryz.ntmps131
    go_wp2_with fail
    refine (diskFault_any _ _ xs ps _ _ _ _ _ hn hn2 HR.out HP.out HS.out.1.1 HS.out.1.2).mono ?_
    rw [show diskFaultOf _ xs ps = Value.iface 245 (.pointer (some aF)) from HE.out]
    rintro e w1 ⟨rfl, hb1⟩
    have HB1 := hide (HB0.out.trans (hb1.mono HB0.out.size))
    have HX1 := hide (Row.after hb1 HR1.out)
    have HS1 := hide (Stab.go hb1 HS.out)
    clear hb1
    go_wp2_with fail
    refine (code_form aF aR aU _ HS1.out).mono ?_
    rintro e w2 ⟨rfl, rfl⟩
    have c0 : w2.cell? ⟨w.heap.size + 1, 0, none⟩ = some (.slice none 0 0) := HX1.out.cell 0
    have c1' : w2.cell? ⟨w.heap.size + 1, 1, none⟩ = some (.slice none 0 0) := HX1.out.cell 1
    have c2' : w2.cell? ⟨w.heap.size + 1, 2, none⟩ = some (.string ⟨#[]⟩) := HX1.out.cell 2
    have c3 : w2.cell? ⟨w.heap.size + 1, 3, none⟩ = some (.int .i64 0) := HX1.out.cell 3
    have f0 := HX1.out.free 0
    have f1 := HX1.out.free 1
    have f2 := HX1.out.free 2
    have f3 := HX1.out.free 3
    go_wp2
    obtain ⟨q0, q1, q2, q3, KF⟩ := four HX1.out (.slice none 0 0) (.slice none 0 0) (.string ⟨#[]⟩) (.int .i64 1)
    exact bodyPost_ret (v := .agg #[.slice none 0 0, .slice none 0 0, .string ⟨#[]⟩, .int .i64 1]) (by simp [results, Tryz.results131, go_sem, q0, q1, q2, q3]) rfl
      ⟨⟨_, _, rfl, OwnS.none _ _ _, OwnP.none _ _ _, fun _ h => by cases h⟩, KF.toBelow HB1.out HB1.out.size (by simp)⟩
  | true =>
    obtain ⟨l1, l2, l3⟩ := right_len hok
    have HSM := hide (small_of_right hok)
    have HAT := hide (fun j hj => And.intro (right_at hok j hj).1 (right_at hok j hj).2.1)
    have HE := hide (show diskFaultOf (errV aF) xs ps = .nilIface by unfold diskFaultOf; rw [hok]; rfl)
    have HF := hide (show flushOut xs ps = ⟨applyP ps xs, [], ⟨#[]⟩, 0⟩ by unfold flushOut; rw [hok]; rfl)
    rw [HF.out]
    go_enter Tryz.func131, Tryz.ntmps131
    go_wp2_with fail
    refine (diskFault_any _ _ xs ps _ _ _ _ _ hn hn2 HR.out HP.out HS.out.1.1 HS.out.1.2).mono ?_
    rw [show diskFaultOf _ xs ps = Value.nilIface from HE.out]
    rintro e w1 ⟨rfl, hb1⟩
    have HB1 := hide (HB0.out.trans (hb1.mono HB0.out.size))
    have HX1 := hide (Row.after hb1 HR1.out)
    have a0 : w1.cell? ⟨w.heap.size, 0, none⟩ = some (.slice p1 xs.length c1) := (Row.after hb1 HN0.out).cell 0
    have a1 : w1.cell? ⟨w.heap.size, 1, none⟩ = some (.slice p2 ps.length c2) := (Row.after hb1 HN0.out).cell 1
    have HRa := hide (HR.out.below hb1 (Nat.le_refl _))
    have HPa := hide (HP.out.below hb1 (Nat.le_refl _))
    clear hb1 hok
    go_wp2_with fail
    refine (settle_any _ _ xs ps _ HRa.out HPa.out l1 l2 l3 HAT.out).mono ?_
    rintro e w2 ⟨rfl, hb2⟩
    have HB2 := hide (HB1.out.trans (hb2.mono HB1.out.size))
    have HX2 := hide (Row.after hb2 HX1.out)
    clear hb2 a0 a1
    go_wp2_with fail
    refine (bankDisk_any (applyP ps xs) _ (by rw [applyP_len]; exact l2) (applyP_mem ps xs _ HSM.out.2.1 HSM.out.2.2.2)).mono ?_
    rintro e w3 ⟨⟨us, up, rfl, o1, o2, dd⟩, hb3⟩
    obtain ⟨q1, m1, d1, rfl⟩ := o1.isSlice
    obtain ⟨q2, m2, d2, rfl⟩ := o2.isSlice
    have hl2 := HX2.out.lt
    have HB3 := hide (HB2.out.trans (hb3.mono HB2.out.size))
    have R3 := Row.after hb3 HX2.out
    have c0 : w3.cell? ⟨w.heap.size + 1, 0, none⟩ = some (.slice none 0 0) := R3.cell 0
    have c1' : w3.cell? ⟨w.heap.size + 1, 1, none⟩ = some (.slice none 0 0) := R3.cell 1
    have c2' : w3.cell? ⟨w.heap.size + 1, 2, none⟩ = some (.string ⟨#[]⟩) := R3.cell 2
    have c3 : w3.cell? ⟨w.heap.size + 1, 3, none⟩ = some (.int .i64 0) := R3.cell 3
    have f0 := R3.free 0
    have f1 := R3.free 1
    have f2 := R3.free 2
    have f3 := R3.free 3
    have HR3 := hide R3
    have HO1 := hide o1
    have HO2 := hide o2
    have HD := hide dd
    clear hb3 R3 o1 o2 dd
    go_wp2
    obtain ⟨z0, z1, z2, z3, KF⟩ := four HR3.out (.slice q1 m1 d1) (.slice q2 m2 d2) (.string ⟨#[]⟩) (.int .i64 0)
    exact bodyPost_ret (v := .agg #[.slice q1 m1 d1, .slice q2 m2 d2, .string ⟨#[]⟩, .int .i64 0]) (by simp [results, Tryz.results131, go_sem, z0, z1, z2, z3]) rfl
      ⟨⟨_, _, rfl, (HO1.out.kept KF (fun x hx => by have := HO1.out.leads x hx; simp; omega)).mono (by omega), (HO2.out.kept KF (fun x hx => by have := HO2.out.leads x hx; simp; omega)).mono (by omega), HD.out⟩, KF.toBelow HB3.out HB3.out.size (by simp)⟩
end Go.Proofs.YtnpbmaajgiapmaaGreatDoor
