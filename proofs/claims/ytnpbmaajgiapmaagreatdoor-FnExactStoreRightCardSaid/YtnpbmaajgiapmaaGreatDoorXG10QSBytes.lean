/- The bytes of items, of the model. -/
import Derived.Test.YtnpbmaajgiapmaaGreatDoorXG9QMap
import Derived.Test.YtnpbmaajgiapmaaGreatDoorXG0Mem
import Derived.Laws.IdiomStrings
import Derived.Deep.RegionWith
namespace Go.Proofs.YtnpbmaajgiapmaaGreatDoor
open Go.RowKit
theorem putTextS_any (s : ByteArray) (w : World) (hs : s.size ≤ 8000) : Calls Tryz.prog 75 #[.string s] w fun e w' => e = .returned (.string (txtB s)) ∧ Below w.heap.size w w' := St4.specPutText_any s w hs
theorem putNumS_any (n : Int) (w : World) (h0 : -9223372036854775808 ≤ n) (h1 : n ≤ 9223372036854775807) : Calls Tryz.prog 74 #[.int .i64 n] w fun e w' => e = .returned (.string (numText n)) ∧ Below w.heap.size w w' := St2.specPutNum_any n w h0 h1
/-- A slice of items that can be read. -/
def ReadsIt (w : World) (v : Value) (L : List Item) : Prop :=
  ∃ p cap, v = .slice p L.length cap ∧ L.length ≤ cap ∧ cap ≤ maxLen ∧
    (0 < L.length → ∃ g off, p = some ⟨g, off, none⟩ ∧ g < w.heap.size ∧
      ∀ i (h : i < L.length), w.cell? ⟨g, off + i * 2, none⟩ = some (.string L[i].1) ∧ w.cell? ⟨g, off + i * 2 + 1, none⟩ = some (.string L[i].2))
theorem ReadsIt.below {w w' : World} {v : Value} {L : List Item} {B : Nat} (h : ReadsIt w v L) (hb : Below B w w') (hB : w.heap.size ≤ B) : ReadsIt w' v L := by
  obtain ⟨p, cap, rfl, h1, h2, h4⟩ := h
  refine ⟨p, cap, rfl, h1, h2, fun h0 => ?_⟩
  obtain ⟨g, off, rfl, hg, hc⟩ := h4 h0
  refine ⟨g, off, rfl, Nat.lt_of_lt_of_le hg (by have := hb.size; omega), fun i hi => ?_⟩
  obtain ⟨c0, c1⟩ := hc i hi
  exact ⟨(hb.cell (p := ⟨g, off + i * 2, none⟩) (Nat.lt_of_lt_of_le hg hB)).trans c0, (hb.cell (p := ⟨g, off + i * 2 + 1, none⟩) (Nat.lt_of_lt_of_le hg hB)).trans c1⟩
theorem ReadsIt.none (w : World) : ReadsIt w (.slice none 0 0) [] := ⟨Option.none, 0, rfl, Nat.le_refl _, Nat.zero_le _, fun h => absurd h (Nat.lt_irrefl 0)⟩
theorem catB_snoc (x : Item) : ∀ (L : List Item) (t : ByteArray), catB t (L ++ [x]) = (catB t L ++ txtB x.1) ++ txtB x.2
  | [], t => rfl
  | y :: r, t => by rw [List.cons_append, catB, catB_snoc x r, catB]
theorem catB_next (t : ByteArray) (L : List Item) (k : Nat) (hk : k < L.length) : catB t (L.take (k + 1)) = (catB t (L.take k) ++ txtB (L[k]'hk).1) ++ txtB (L[k]'hk).2 := by
  rw [List.take_succ_eq_append_getElem hk, catB_snoc]
theorem catB_len {L : List Item} (h : ∀ x ∈ L, OkI x) (hl : L.length ≤ 20) (n : Int) : (catB (numText n) L).size ≤ 170000 := by
  have e : (catB (numText n) L).size = (catB (numText n) L).data.toList.length := by simp
  rw [e, catB_list]
  have h1 := flatL_len L h
  have h2 := numText_size n
  have e2 : (numText n).data.size = (numText n).size := rfl
  simp only [List.length_append, Array.length_toList]
  omega

set_option maxHeartbeats 8000000 in
set_option maxRecDepth 100000 in
theorem specBytes_any (v : Value) (L : List Item) (w : World) (hr : ReadsIt w v L) (ho : ∀ x ∈ L, OkI x) (hl : L.length ≤ 20) :
    Calls Tryz.prog 38 #[v] w fun e w' => e = .returned (.string (storeB L)) ∧ Below w.heap.size w w' := by
  obtain ⟨p, cap, rfl, h1, h2, h4⟩ := hr
  unfold maxLen at h2
  have HO := hide ho
  have H4 := hide h4
  obtain ⟨hd, hhd⟩ : ∃ hd, hd = numText (L.length : Int) := ⟨_, rfl⟩
  have HHD := hide hhd
  have HST := hide (show storeB L = catB hd L by rw [hhd]; rfl)
  clear ho hhd h4
  go_enter Tryz.func38, Tryz.ntmps38
  go_wp2_with fail
  refine (putNumS_any (L.length : Int) _ (by omega) (by omega)).mono ?_
  rw [← HHD.out]
  rintro e w1 ⟨rfl, hb1⟩
  have HB1 := hide hb1
  clear hb1
  go_wp2
  go_loopw [3, 4] (fun l i wr => ∃ (X : World) (k : Nat) (T : ByteArray), X = wr ∧ l = .string T ∧ k ≤ L.length ∧ i = .int .i64 (k : Int) ∧ Hid (T = catB hd (L.take k)) ∧ Hid (Below w.heap.size w X)) (fun _ i _ => L.length - (intOf i).toNat)
  case atStart => exact ⟨_, 0, hd, rfl, rfl, Nat.zero_le _, rfl, hide rfl, HB1⟩
  case round =>
    obtain ⟨X, k, T, rfl, rfl, hk, rfl, HT, HB⟩ := hrel
    by_cases hlt : k < L.length
    · obtain ⟨g, off, rfl, hg, hc⟩ := H4.out (by omega)
      have hki : (k : Int) < (L.length : Int) := by omega
      have HNX := hide (catB_next hd L k hlt)
      have HC0 := hide (hc k hlt)
      have hox := HO.out _ (List.getElem_mem hlt)
      obtain ⟨x, hx⟩ : ∃ x, x = L[k]'hlt := ⟨_, rfl⟩
      rw [← hx] at HNX HC0 hox
      clear hx hc
      obtain ⟨iD, tX⟩ := x
      have HC := HC0
      clear HC0
      have hs1 : iD.size ≤ 20 := hox.id
      have hs2 : tX.size ≤ 8000 := hox.2
      have HS1 := hide (show iD.size ≤ 8000 by omega)
      have HS2 := hide hs2
      have hT0 := catB_len (L := L.take k) (fun x hx => HO.out x (List.mem_of_mem_take hx)) (by rw [List.length_take]; omega) (L.length : Int)
      rw [← HHD.out, ← HT.out] at hT0
      have hz1 := txtB_size iD
      have hz2 := txtB_size tX
      clear hox
      go_upto_region 5 with fail
      refine wp_region_held (S := fun y : World => y.cell? ⟨g, off + k * 2, none⟩ = some (.string iD) ∧ y.cell? ⟨g, off + k * 2 + 1, none⟩ = some (.string tX)) (by kernel_rfl) ?_
      have HSS := hide (show ∀ y : World, Below X.heap.size X y → (y.cell? ⟨g, off + k * 2, none⟩ = some (.string iD) ∧ y.cell? ⟨g, off + k * 2 + 1, none⟩ = some (.string tX)) from
        fun y hb => ⟨((HB.out.trans (hb.mono HB.out.size)).cell (p := ⟨g, off + k * 2, none⟩) hg).trans HC.out.1, ((HB.out.trans (hb.mono HB.out.size)).cell (p := ⟨g, off + k * 2 + 1, none⟩) hg).trans HC.out.2⟩)
      have HZ1 := hide (show Below X.heap.size X { X with drawn := X.drawn + 1 } from (Below.refl _ X).drew)
      generalize ({ X with drawn := X.drawn + 1 } : World) = Z1 at HZ1 ⊢
      have HS := hide (HSS.out _ HZ1.out)
      refine wpAnyH_take (i := 0) (oi := _) (v := .string T) rfl (by kernel_rfl) (by kernel_rfl) (by kernel_rfl) (fun _ _ _ h => h) (Or.inl ⟨by rfl, by intro w hSw; go_split_ands; go_simp <;> omega⟩) HS.out ?_
      simp only [Act.put, List.getElem_toArray, List.getElem_cons_zero, List.setIfInBounds_toArray, List.set_cons_zero, List.set_cons_succ]
      refine wpAnyH_take (i := 1) (oi := _) (v := .slice (some ⟨g, off, none⟩) L.length cap) rfl (by kernel_rfl) (by kernel_rfl) (by kernel_rfl) (fun _ _ _ h => h) (Or.inl ⟨by rfl, by intro w hSw; go_split_ands; go_simp <;> omega⟩) HS.out ?_
      simp only [Act.put, List.getElem_toArray, List.getElem_cons_zero, List.getElem_cons_succ, List.setIfInBounds_toArray, List.set_cons_zero, List.set_cons_succ]
      refine wpAnyH_take (i := 2) (oi := _) (v := .int .i64 (k : Int)) rfl (by kernel_rfl) (by kernel_rfl) (by kernel_rfl) (fun _ _ _ h => h) (Or.inl ⟨by rfl, by intro w hSw; go_split_ands; go_simp <;> omega⟩) HS.out ?_
      simp only [Act.put, List.getElem_toArray, List.getElem_cons_zero, List.getElem_cons_succ, List.setIfInBounds_toArray, List.set_cons_zero, List.set_cons_succ]
      refine wpAnyH_take (i := 3) (oi := _) (v := .pointer (some ⟨g, off + k * 2, none⟩)) rfl (by kernel_rfl) (by kernel_rfl) (by kernel_rfl) (fun _ _ _ h => h) (Or.inl ⟨by rfl, by intro w hSw; go_split_ands; go_simp <;> omega⟩) HS.out ?_
      simp only [Act.put, List.getElem_toArray, List.getElem_cons_zero, List.getElem_cons_succ, List.setIfInBounds_toArray, List.set_cons_zero, List.set_cons_succ]
      refine wpAnyH_take (i := 4) (oi := _) (v := .pointer (some ⟨g, off + k * 2, none⟩)) rfl (by kernel_rfl) (by kernel_rfl) (by kernel_rfl) (fun _ _ _ h => h) (Or.inl ⟨by rfl, by intro w hSw; go_split_ands; go_simp <;> omega⟩) HS.out ?_
      simp only [Act.put, List.getElem_toArray, List.getElem_cons_zero, List.getElem_cons_succ, List.setIfInBounds_toArray, List.set_cons_zero, List.set_cons_succ]
      refine wpAnyH_take (i := 5) (oi := _) (v := .string iD) rfl (by kernel_rfl) (by kernel_rfl) (by kernel_rfl) (fun _ _ _ h => h) (Or.inl ⟨by rfl, by intro w hSw; go_split_ands; go_simp <;> omega⟩) HS.out ?_
      simp only [Act.put, List.getElem_toArray, List.getElem_cons_zero, List.getElem_cons_succ, List.setIfInBounds_toArray, List.set_cons_zero, List.set_cons_succ]
      refine wpAnyH_take (i := 8) (oi := _) (v := .slice (some ⟨g, off, none⟩) L.length cap) rfl (by kernel_rfl) (by kernel_rfl) (by kernel_rfl) (fun _ _ _ h => h) (Or.inl ⟨by rfl, by intro w hSw; go_split_ands; go_simp <;> omega⟩) HS.out ?_
      simp only [Act.put, List.getElem_toArray, List.getElem_cons_zero, List.getElem_cons_succ, List.setIfInBounds_toArray, List.set_cons_zero, List.set_cons_succ]
      refine wpAnyH_take (i := 9) (oi := _) (v := .int .i64 (k : Int)) rfl (by kernel_rfl) (by kernel_rfl) (by kernel_rfl) (fun _ _ _ h => h) (Or.inl ⟨by rfl, by intro w hSw; go_split_ands; go_simp <;> omega⟩) HS.out ?_
      simp only [Act.put, List.getElem_toArray, List.getElem_cons_zero, List.getElem_cons_succ, List.setIfInBounds_toArray, List.set_cons_zero, List.set_cons_succ]
      refine wpAnyH_take (i := 10) (oi := _) (v := .pointer (some ⟨g, off + k * 2, none⟩)) rfl (by kernel_rfl) (by kernel_rfl) (by kernel_rfl) (fun _ _ _ h => h) (Or.inl ⟨by rfl, by intro w hSw; go_split_ands; go_simp <;> omega⟩) HS.out ?_
      simp only [Act.put, List.getElem_toArray, List.getElem_cons_zero, List.getElem_cons_succ, List.setIfInBounds_toArray, List.set_cons_zero, List.set_cons_succ]
      refine wpAnyH_take (i := 11) (oi := _) (v := .pointer (some ⟨g, off + k * 2 + 1, none⟩)) rfl (by kernel_rfl) (by kernel_rfl) (by kernel_rfl) (fun _ _ _ h => h) (Or.inl ⟨by rfl, by intro w hSw; go_split_ands; go_simp <;> omega⟩) HS.out ?_
      simp only [Act.put, List.getElem_toArray, List.getElem_cons_zero, List.getElem_cons_succ, List.setIfInBounds_toArray, List.set_cons_zero, List.set_cons_succ]
      refine wpAnyH_take (i := 12) (oi := _) (v := .string tX) rfl (by kernel_rfl) (by kernel_rfl) (by kernel_rfl) (fun _ _ _ h => h) (Or.inl ⟨by rfl, by intro w hSw; go_split_ands; go_simp <;> omega⟩) HS.out ?_
      simp only [Act.put, List.getElem_toArray, List.getElem_cons_zero, List.getElem_cons_succ, List.setIfInBounds_toArray, List.set_cons_zero, List.set_cons_succ]
      refine wpAnyH_ready (rs := [6]) (by kernel_rfl) (by simp) ?_
      refine AllReadyH.cons (o := _) rfl (fun K hK => ?_) AllReadyH.nil
      go_simp
      refine (putTextS_any iD _ HS1.out).mono ?_
      rintro e Z2 ⟨rfl, hbc⟩
      have HZ2 := hide (HZ1.out.trans (hbc.mono HZ1.out.size))
      clear hbc
      refine hK.out _ _ (HSS.out _ HZ2.out) (fun _ => ?_)
      clear hK K HS
      have HS := hide (HSS.out _ HZ2.out)
      try simp only [Act.put, List.getElem_toArray, List.getElem_cons_zero, List.getElem_cons_succ, List.setIfInBounds_toArray, List.set_cons_zero, List.set_cons_succ]
      refine wpAnyH_take (i := 7) (oi := _) (v := .string (T ++ txtB iD)) rfl (by kernel_rfl) (by kernel_rfl) (by kernel_rfl) (fun _ _ _ h => h) (Or.inl ⟨by rfl, by intro w hSw; go_split_ands; go_simp <;> omega⟩) HS.out ?_
      simp only [Act.put, List.getElem_toArray, List.getElem_cons_zero, List.getElem_cons_succ, List.setIfInBounds_toArray, List.set_cons_zero, List.set_cons_succ]
      refine wpAnyH_ready (rs := [13]) (by kernel_rfl) (by simp) ?_
      refine AllReadyH.cons (o := _) rfl (fun K hK => ?_) AllReadyH.nil
      go_simp
      refine (putTextS_any tX _ HS2.out).mono ?_
      rintro e Z3 ⟨rfl, hbc⟩
      have HZ3 := hide (HZ2.out.trans (hbc.mono HZ2.out.size))
      clear hbc
      refine hK.out _ _ (HSS.out _ HZ3.out) (fun _ => ?_)
      clear hK K HS
      have HS := hide (HSS.out _ HZ3.out)
      try simp only [Act.put, List.getElem_toArray, List.getElem_cons_zero, List.getElem_cons_succ, List.setIfInBounds_toArray, List.set_cons_zero, List.set_cons_succ]
      refine wpAnyH_take (i := 14) (oi := _) (v := .string ((T ++ txtB iD) ++ txtB tX)) rfl (by kernel_rfl) (by kernel_rfl) (by kernel_rfl) (fun _ _ _ h => h) (Or.inl ⟨by rfl, by intro w hSw; go_split_ands; go_simp <;> omega⟩) HS.out ?_
      simp only [Act.put, List.getElem_toArray, List.getElem_cons_zero, List.getElem_cons_succ, List.setIfInBounds_toArray, List.set_cons_zero, List.set_cons_succ]
      refine wpAnyH_take (i := 15) (oi := _) (v := .string ((T ++ txtB iD) ++ txtB tX)) rfl (by kernel_rfl) (by kernel_rfl) (by kernel_rfl) (fun _ _ _ h => h) (Or.inl ⟨by rfl, by intro w hSw; go_split_ands; go_simp <;> omega⟩) HS.out ?_
      simp only [Act.put, List.getElem_toArray, List.getElem_cons_zero, List.getElem_cons_succ, List.setIfInBounds_toArray, List.set_cons_zero, List.set_cons_succ]
      refine wpAnyH_done (by kernel_rfl) ?_ _
      have HB9 := hide (HB.out.trans (HZ3.out.mono HB.out.size))
      go_wp2
      go_roundw
      case rel => exact ⟨Z3, k + 1, _, rfl, rfl, by omega, by go_num, hide (by rw [HNX.out, HT.out]), HB9⟩
      case measure => simp [intOf]; omega
    · have hkn : k = L.length := by omega
      subst hkn
      have HE := hide (show T = storeB L by rw [HT.out, List.take_length, HST.out])
      go_wp2
      go_ret
      exact ⟨by rw [HE.out]; rfl, HB.out⟩
end Go.Proofs.YtnpbmaajgiapmaaGreatDoor
/- The marks that the laws put into memory that an answer owns: the text of a number, put into each place, and looked for again. -/
namespace Go.Proofs.YtnpbmaajgiapmaaGreatDoor
open Go.RowKit

def oneByte (c : Int) : ByteArray := ⟨#[UInt8.ofNat c.toNat]⟩
def markTo : Nat → Nat → ByteArray → ByteArray
  | 0, _, out => out
  | f + 1, k, out => if k = 0 then out else markTo f (k / 10) (oneByte (48 + (k : Int) % 10) ++ out)
/-- The text that marks the number k. -/
def markOf (k : Nat) : ByteArray := if k = 0 then ⟨#[109, 48]⟩ else (⟨#[109]⟩ : ByteArray) ++ markTo k k ⟨#[]⟩

theorem one_run (w : World) (c : Int) (h0 : 0 ≤ c) (h1 : c ≤ 255) :
    (convert 126 9 (.slice (some ⟨w.heap.size, 0, none⟩) 1 1)).run Tryz.prog (w.alloc (.cells #[.int .u8 c] 5)) = .ok (.string (oneByte c)) (w.alloc (.cells #[.int .u8 c] 5)) := by
  refine run_convert_bytes_back (P := Tryz.prog) _ 126 9 5 ⟨w.heap.size, 0, none⟩ 1 [UInt8.ofNat c.toNat] Tryz.underlying126 Tryz.underlying5 Tryz.underlying9 (fun j hj => ?_)
  have ea : (⟨w.heap.size, 0, none⟩ : Addr).add j = ⟨w.heap.size, j, none⟩ := by unfold Addr.add; split <;> simp_all
  rw [ea, cell_of_row _ w.heap.size j _ 5 (0, 0) (heap_alloc_new w _)]
  match j, hj with
  | 0, _ => simp; omega

set_option maxHeartbeats 1000000 in
theorem markText_any (k : Nat) (w : World) (hk : k ≤ 100000000) :
    Calls Tryz.prog 84 #[.int .i64 (k : Int)] w fun e w' => e = .returned (.string (markOf k)) ∧ Below w.heap.size w w' := by
  by_cases h0 : k = 0
  · subst h0
    go_enter Tryz.func84, Tryz.ntmps84
    go_wp2
    go_ret
    exact ⟨rfl, Below.refl _ _⟩
  have HF : Hid (markOf k = (⟨#[109]⟩ : ByteArray) ++ markTo k k ⟨#[]⟩) := if_neg h0
  go_enter Tryz.func84, Tryz.ntmps84
  go_wp2
  go_loopw [0, 3] (fun x o wr => ∃ (j f : Nat) (out : ByteArray), x = .int .i64 (j : Int) ∧ o = .string out ∧ out.size + j ≤ 100000000 ∧ j ≤ f ∧ Hid (markTo k k ⟨#[]⟩ = markTo f j out) ∧ Hid (Below w.heap.size w wr)) (fun x _ _ => (intOf x).toNat)
  case atStart => exact ⟨k, k, _, rfl, rfl, by show 0 + k ≤ 100000000; omega, Nat.le_refl _, rfl, Below.refl _ _⟩
  case round =>
    obtain ⟨j, f, out, rfl, rfl, hs, hf, HM, HB⟩ := hrel
    by_cases hj : 0 < j
    · obtain ⟨f', rfl⟩ : ∃ f', f = f' + 1 := ⟨f - 1, by omega⟩
      have HN : Hid (markTo k k ⟨#[]⟩ = markTo f' (j / 10) (oneByte (48 + (j : Int) % 10) ++ out)) := by
        rw [HM.out]; exact if_neg (by omega)
      have hr := one_run wr (48 + (j : Int) % 10) (by omega) (by omega)
      have h1 : (oneByte (48 + (j : Int) % 10)).size ≤ 1 := Nat.le_refl 1
      have HB2 := hide (HB.out.alloc HB.out.size (.cells #[.int .u8 (48 + (j : Int) % 10)] 5))
      go_wp2
      go_roundw
      case rel => exact ⟨j / 10, f', _, by simp, rfl, by rw [ByteArray.size_append]; omega, by omega, HN, HB2⟩
      case measure => simp [intOf]; omega
    · have hj0 : j = 0 := by omega
      have HE : Hid (markOf k = (⟨#[109]⟩ : ByteArray) ++ out) := by
        rw [HF.out, HM.out, hj0]
        cases f <;> rfl
      go_wp2
      go_ret
      exact ⟨by rw [HE.out]; rfl, HB.out⟩

def marks (k n : Nat) : List ByteArray := (List.range n).map fun i => markOf (k + i)
theorem marks_len (k n : Nat) : (marks k n).length = n := by simp [marks]
theorem marks_succ (k n : Nat) : marks k (n + 1) = marks k n ++ [markOf (k + n)] := by simp [marks, List.range_succ]
theorem marks_get (k n i : Nat) (h : i < (marks k n).length) : (marks k n)[i] = markOf (k + i) := by simp [marks]
theorem mark_next (k : Nat) (cs : List Value) (j : Nat) (h : j < cs.length) :
    (strs (marks k j) ++ cs.drop j).set j (.string (markOf (k + j))) = strs (marks k (j + 1)) ++ cs.drop (j + 1) := by
  have hl : (strs (marks k j)).length = j := by rw [strs_len, marks_len]
  rw [List.set_append_right _ _ (by omega), hl, Nat.sub_self, List.drop_eq_getElem_cons h, List.set_cons_zero, marks_succ]
  unfold strs
  rw [List.map_append, List.append_assoc]
  rfl
theorem mark_len (k : Nat) (cs : List Value) (j : Nat) (h : j ≤ cs.length) : (strs (marks k j) ++ cs.drop j).length = cs.length := by
  rw [List.length_append, strs_len, marks_len, List.length_drop]; omega

set_option maxHeartbeats 1000000 in
theorem markStringS_any (G n : Nat) (cs : List Value) (k : Nat) (w : World) (hn : n ≤ cs.length) (hm : n ≤ 1048576) (hk : k ≤ 10000000) (hr : Row w G 9 cs) :
    Calls Tryz.prog 42 #[.slice (some ⟨G, 0, none⟩) n cs.length, .int .i64 (k : Int)] w fun e w' =>
      e = .returned (.int .i64 ((k + n : Nat) : Int)) ∧ Row w' G 9 (strs (marks k n) ++ cs.drop n) ∧ Only G w w' := by
  have HR := hide hr
  clear hr
  go_enter Tryz.func42, Tryz.ntmps42
  go_wp2
  go_loopw [1, 5] (fun x i wr => ∃ j : Nat, j ≤ n ∧ i = .int .i64 (j : Int) ∧ x = .int .i64 ((k : Int) + j) ∧ Hid (Row wr G 9 (strs (marks k j) ++ cs.drop j)) ∧ Hid (Only G w wr)) (fun _ i _ => n - (intOf i).toNat)
  case atStart => exact ⟨0, Nat.zero_le _, rfl, by simp, HR.out, Only.refl _ _⟩
  case round =>
    obtain ⟨j, hj, rfl, rfl, HRow, HO⟩ := hrel
    by_cases hlt : j < n
    · go_wp2_with fail
      have ek : ((k : Int) + (j : Int)) = ((k + j : Nat) : Int) := by simp
      rw [ek]
      refine (markText_any (k + j) _ (by omega)).mono ?_
      rintro e w2 ⟨rfl, hb2⟩
      have hrow2 := HRow.out.below hb2 HRow.out.lt
      obtain ⟨u, hu⟩ := hrow2.some j (by rw [mark_len k cs j (by omega)]; omega)
      have hf := hrow2.free j
      have hnext := hrow2.set (j := j) (.string (markOf (k + j)))
      rw [mark_next k cs j (by omega)] at hnext
      have HN := hide hnext
      have HM := hide ((HO.out.below hb2).set (j := j) (.string (markOf (k + j))))
      clear hnext hrow2 hb2 ek
      go_wp2
      go_roundw
      case rel => exact ⟨j + 1, by omega, by go_num, by go_num, HN, HM⟩
      case measure => simp [intOf]; omega
    · have hjn : j = n := by omega
      subst hjn
      go_wp2
      go_ret
      exact ⟨ret_int (by simp), HRow.out, HO.out⟩

set_option maxHeartbeats 400000 in
theorem markStringS_none (p : Option Addr) (cap k : Nat) (w : World) :
    Calls Tryz.prog 42 #[.slice p 0 cap, .int .i64 (k : Int)] w fun e w' => e = .returned (.int .i64 (k : Int)) ∧ w' = w := by
  go_enter Tryz.func42, Tryz.ntmps42
  go_wp2
  refine wp_loop_rounds 1 ?_
  rw [rounds_succ]
  go_wp2
  go_ret
  exact ⟨rfl, rfl⟩

set_option maxHeartbeats 1000000 in
theorem heldStringS_any (v : Value) (k n : Nat) (w : World) (hn : n ≤ 1048576) (hk : k ≤ 10000000) (hr : Reads w v (marks k n)) :
    Calls Tryz.prog 44 #[v, .int .i64 (k : Int)] w fun e w' => e = .returned (.int .i64 ((k + n : Nat) : Int)) ∧ Below w.heap.size w w' := by
  obtain ⟨p, cap, rfl, h1, h2, h3, h4⟩ := hr
  have H4 := hide h4
  rw [marks_len] at h1 ⊢
  clear h3 h4
  unfold maxLen at h2
  by_cases hx : n = 0
  · subst hx
    go_enter Tryz.func44, Tryz.ntmps44
    go_wp2
    refine wp_loop_rounds 1 ?_
    rw [rounds_succ]
    go_wp2
    go_ret
    exact ⟨rfl, Below.refl _ _⟩
  obtain ⟨g, off, hp, hg, hc⟩ := H4.out (by rw [marks_len]; omega)
  subst hp
  have HC := hide hc
  clear hc
  go_enter Tryz.func44, Tryz.ntmps44
  go_wp2
  go_loopw [1, 5] (fun x i wr => ∃ j : Nat, j ≤ n ∧ i = .int .i64 (j : Int) ∧ x = .int .i64 ((k : Int) + j) ∧ Hid (Below w.heap.size w wr)) (fun _ i _ => n - (intOf i).toNat)
  case atStart => exact ⟨0, Nat.zero_le _, rfl, by simp, Below.refl _ _⟩
  case round =>
    obtain ⟨j, hj, rfl, rfl, HBel⟩ := hrel
    by_cases hlt : j < n
    · have hck : wr.cell? ⟨g, off + j, none⟩ = some (.string (markOf (k + j))) := by
        rw [HBel.out.cell (p := ⟨g, off + j, none⟩) hg, HC.out j (by rw [marks_len]; exact hlt), marks_get]
      have hki : (j : Int) < (n : Int) := by omega
      have hwr : g < wr.heap.size := Nat.lt_of_lt_of_le hg HBel.out.size
      have ek : ((k : Int) + (j : Int)) = ((k + j : Nat) : Int) := by simp
      have HK := hide ek
      clear ek
      go_wp2_with fail
      go_region_with (go_at_call 84; rw [HK.out]; refine (markText_any (k + j) _ (by omega)).mono ?_; rintro e w2 ⟨rfl, hb2⟩; have hck2 := (hb2.cell (p := ⟨g, off + j, none⟩) (by simpa using hwr)).trans hck)
      all_goals
        have HB2 := hide (HBel.out.trans ((below_drew hb2).mono HBel.out.size))
        clear hb2
        go_wp2
        go_roundw
        case rel => exact ⟨j + 1, by omega, by go_num, by go_num, HB2⟩
        case measure => simp [intOf]; omega
    · have hjn : j = n := by omega
      subst hjn
      go_wp2
      go_ret
      exact ⟨ret_int (by simp), HBel.out⟩
end Go.Proofs.YtnpbmaajgiapmaaGreatDoor
/- The laws' own helpers over lists of a number and a text each (what is pending): how much they take, a copy, are two alike. -/
namespace Go.Proofs.YtnpbmaajgiapmaaGreatDoor
open Go.RowKit

def szP : List (Int × ByteArray) → Int → Int
  | [], left => left
  | x :: r, left => if left - x.2.size < 0 then -1 else szP r (left - x.2.size)
def szPends (ps : List (Int × ByteArray)) (left : Int) : Int := if left - ps.length < 0 then -1 else szP ps (left - ps.length)
theorem szP_step (ps : List (Int × ByteArray)) (k : Nat) (h : k < ps.length) (L : Int) : szP (ps.drop k) L = if L - (ps[k]'h).2.size < 0 then -1 else szP (ps.drop (k + 1)) (L - (ps[k]'h).2.size) := by
  rw [List.drop_eq_getElem_cons h, szP]
theorem szP_le (ps : List (Int × ByteArray)) : ∀ left : Int, 0 ≤ szP ps left → szP ps left ≤ left ∧ ∀ x ∈ ps, (x.2.size : Int) ≤ left := by
  induction ps with
  | nil => intro left _; exact ⟨Int.le_refl _, by simp⟩
  | cons x r ih =>
    intro left h
    rw [szP] at h ⊢
    split at h
    · omega
    · rename_i hx
      rw [if_neg hx]
      obtain ⟨h1, h2⟩ := ih _ h
      refine ⟨by omega, ?_⟩
      intro y hy
      simp at hy
      rcases hy with rfl | hy
      · omega
      · have := h2 y hy; omega
theorem szPends_le (ps : List (Int × ByteArray)) (left : Int) (h : 0 ≤ szPends ps left) : szPends ps left ≤ left ∧ (ps.length : Int) ≤ left ∧ ∀ x ∈ ps, (x.2.size : Int) ≤ left := by
  unfold szPends at h ⊢
  split at h
  · omega
  · rename_i hx
    rw [if_neg hx]
    obtain ⟨h1, h2⟩ := szP_le ps _ h
    exact ⟨by omega, by omega, fun x hx => by have := h2 x hx; omega⟩

set_option maxHeartbeats 400000 in
theorem szPending_any (a : Int) (d : ByteArray) (left : Int) (w : World) (hl0 : 0 ≤ left) (hl : left ≤ 1048576) (hd : d.size ≤ maxLen) :
    Calls Tryz.prog 56 #[.agg #[.int .i64 a, .string d], .int .i64 left] w fun e w' => e = .returned (.int .i64 (if left - d.size < 0 then -1 else left - d.size)) ∧ Below w.heap.size w w' := by
  unfold maxLen at hd
  by_cases hneg : left - (d.size : Int) < 0
  · rw [if_pos hneg]
    go_enter Tryz.func56, Tryz.ntmps56
    go_wp2
    go_ret
    exact ⟨rfl, (Below.refl _ _).alloc (Nat.le_refl _) _⟩
  · rw [if_neg hneg]
    go_enter Tryz.func56, Tryz.ntmps56
    go_wp2
    go_ret
    exact ⟨rfl, (Below.refl _ _).alloc (Nat.le_refl _) _⟩

set_option maxHeartbeats 1000000 in
theorem szPendingS_any (v : Value) (ps : List (Int × ByteArray)) (left : Int) (w : World) (hl0 : 0 ≤ left) (hl : left ≤ 1048576) (hr : ReadsP w v ps) :
    Calls Tryz.prog 27 #[v, .int .i64 left] w fun e w' => e = .returned (.int .i64 (szPends ps left)) ∧ Below w.heap.size w w' := by
  obtain ⟨p, cap, rfl, h1, h2, h3, h4⟩ := hr
  unfold maxLen at h2
  by_cases h0 : left - ps.length < 0
  · have HF : Hid (szPends ps left = -1) := if_pos h0
    have hx : 0 < ps.length := by omega
    clear h4 h3
    go_enter Tryz.func27, Tryz.ntmps27
    go_wp2
    go_ret
    exact ⟨ret_int HF.out.symm, Below.refl _ _⟩
  · have HF : Hid (szPends ps left = szP ps (left - ps.length)) := if_neg h0
    by_cases hn : ps.length = 0
    · have hps : ps = [] := List.eq_nil_of_length_eq_zero hn
      subst hps
      clear h4 h3
      go_enter Tryz.func27, Tryz.ntmps27
      go_wp2
      refine wp_loop_rounds 1 ?_
      rw [rounds_succ]
      go_wp2
      go_ret
      exact ⟨ret_int (by rw [HF.out]; simp [szP]), Below.refl _ _⟩
    · obtain ⟨g, off, rfl, hg, hc⟩ := h4 (by omega)
      have HC := hide hc
      have H3 := hide h3
      clear hc h3 h4
      go_enter Tryz.func27, Tryz.ntmps27
      go_wp2
      go_loopw [1, 5] (fun l i wr => ∃ (k : Nat) (L : Int), k ≤ ps.length ∧ i = .int .i64 k ∧ l = .int .i64 L ∧ 0 ≤ L ∧ L ≤ 1048576 ∧ Hid (szPends ps left = szP (ps.drop k) L) ∧ Hid (Below w.heap.size w wr)) (fun _ i _ => ps.length - (intOf i).toNat)
      case atStart => exact ⟨0, _, Nat.zero_le _, rfl, rfl, by omega, by omega, HF.out, Below.refl _ _⟩
      case round =>
        obtain ⟨k, L, hk, rfl, rfl, hL0, hL1, HS, HB⟩ := hrel
        by_cases hlt : k < ps.length
        · obtain ⟨hc0, hc1⟩ := HC.out k hlt
          have hk0 := (HB.out.cell (p := ⟨g, off + k * 2, none⟩) hg).trans hc0
          have hk1 := (HB.out.cell (p := ⟨g, off + k * 2 + 1, none⟩) hg).trans hc1
          clear hc0 hc1
          have hd := H3.out (ps[k]'hlt) (List.getElem_mem hlt)
          have HT := hide (szP_step ps k hlt L)
          go_wp2_with fail
          refine (szPending_any _ _ _ _ hL0 hL1 hd).mono ?_
          rintro e w2 ⟨rfl, hb2⟩
          have HB2 := hide (HB.out.trans (hb2.mono HB.out.size))
          clear hb2 hk0 hk1 hd
          by_cases hneg : L - ((ps[k]'hlt).2.size : Int) < 0
          · have HU : Hid (szPends ps left = -1) := by rw [HS.out, HT.out]; exact if_pos hneg
            rw [if_pos hneg]
            go_wp2
            go_ret
            exact ⟨ret_int HU.out.symm, HB2.out⟩
          · have HU : Hid (szPends ps left = szP (ps.drop (k + 1)) (L - ((ps[k]'hlt).2.size : Int))) := by rw [HS.out, HT.out]; exact if_neg hneg
            rw [if_neg hneg]
            go_wp2
            go_roundw
            case rel => exact ⟨k + 1, _, by omega, by go_num, rfl, by omega, by omega, HU, HB2⟩
            case measure => simp [intOf]; omega
        · have HU : Hid (szPends ps left = L) := by rw [HS.out, List.drop_eq_nil_of_le (by omega)]; exact rfl
          go_wp2
          go_ret
          exact ⟨ret_int HU.out.symm, HB.out⟩

set_option maxHeartbeats 400000 in
theorem toPending_any (a : Int) (d : ByteArray) (w : World) :
    Calls Tryz.prog 61 #[.agg #[.int .i64 a, .string d]] w fun e w' => e = .returned (.agg #[.int .i64 a, .string d]) ∧ Below w.heap.size w w' := by
  go_enter Tryz.func61, Tryz.ntmps61
  go_wp2
  exact bodyPost_ret (v := .agg #[.int .i64 a, .string d]) (by simp [results, Tryz.results61, go_sem]) rfl ⟨rfl, (((Below.refl _ _).alloc (Nat.le_refl _) _).alloc (by simp) _).alloc (by simp <;> omega) _⟩

theorem Tryz.infoPend : (Tryz.prog.info? 92).map (fun i => (i.zero, i.size, i.bytes)) = some (some (.agg #[.int .i64 0, .string ⟨#[]⟩]), 2, 24) := by kernel_rfl

set_option maxHeartbeats 1000000 in
theorem toPendingS_any (v : Value) (ps : List (Int × ByteArray)) (w : World) (hn : ps.length ≤ 1048576) (hr : ReadsP w v ps) :
    Calls Tryz.prog 30 #[v] w fun e w' => e = .returned (.slice (some ⟨w.heap.size, 0, none⟩) ps.length ps.length) ∧ Row w' w.heap.size 92 (pcs ps) ∧ Below w.heap.size w w' := by
  obtain ⟨i0, hi, hz0, hz1, hz2⟩ := info_parts Tryz.infoPend
  obtain ⟨p, cap, rfl, h1, h2, h3, h4⟩ := hr
  have H4 := hide h4
  clear h3 h4
  go_enter Tryz.func30, Tryz.ntmps30
  go_wp2_with (at_make; refine wpList_make_full _ rfl _ _ 28 rfl w.heap.size 92 i0 (.agg #[.int .i64 0, .string ⟨#[]⟩]) 2 Tryz.underlying28 hi hz0 hz1 _ _ _ _ ps.length rfl rfl rfl rfl ?b2 ?b3 (Nat.le_refl _) ?_)
  case b2 => rw [hz2]; omega
  case b3 => unfold maxLen; omega
  intro w1 hown hgrow
  obtain ⟨Z, hZ, hZl⟩ := own_row hown
  have hb1 : Below w.heap.size w w1 := (Below.refl _ _).grown hgrow (Nat.le_refl _) (by simp)
  have HZ := hide hZ
  have HB := hide hb1
  have HL := hide hZl
  clear hZ hown hgrow hb1 hZl
  go_wp2_with fail
  go_loopw [4] (fun i wr => ∃ k : Nat, k ≤ ps.length ∧ i = .int .i64 k ∧ Hid (Row wr w.heap.size 92 (pcs (ps.take k) ++ Z.drop (k * 2))) ∧ Hid (Below w.heap.size w wr)) (fun i _ => ps.length - (intOf i).toNat)
  case atStart => exact ⟨0, Nat.zero_le _, rfl, HZ.out, HB⟩
  case round =>
    obtain ⟨k, hk, rfl, HRow, HBel⟩ := hrel
    by_cases hlt : k < ps.length
    · obtain ⟨g, off, hp, hg, hc⟩ := H4.out (by omega)
      subst hp
      obtain ⟨hc0, hc1⟩ := hc k hlt
      have hk0 := (HBel.out.cell (p := ⟨g, off + k * 2, none⟩) hg).trans hc0
      have hk1 := (HBel.out.cell (p := ⟨g, off + k * 2 + 1, none⟩) hg).trans hc1
      clear hc hc0 hc1
      go_wp2_with fail
      refine (toPending_any _ _ _).mono ?_
      rintro e w2 ⟨rfl, hb2⟩
      have hrow2 := HRow.out.below hb2 HRow.out.lt
      have hlen := len_nextP ps Z k hk HL.out
      obtain ⟨u0, hu0⟩ := hrow2.some (k * 2) (by omega)
      obtain ⟨u1, hu1⟩ := hrow2.some (k * 2 + 1) (by omega)
      have hf0 := hrow2.free (k * 2)
      have hf1 := hrow2.free (k * 2 + 1)
      have hnext := (hrow2.set (j := k * 2) (.int .i64 (ps[k]'hlt).1)).set (j := k * 2 + 1) (.string (ps[k]'hlt).2)
      rw [set_nextP ps Z k hlt HL.out] at hnext
      have HN := hide hnext
      have HM := hide (((HBel.out.trans (hb2.mono HBel.out.size)).setCell (p := ⟨w.heap.size, k * 2, none⟩) (Nat.le_refl _) (.int .i64 (ps[k]'hlt).1)).setCell (p := ⟨w.heap.size, k * 2 + 1, none⟩) (Nat.le_refl _) (.string (ps[k]'hlt).2))
      clear hnext hrow2 hb2 hlen hk0 hk1
      go_wp2
      go_roundw
      case rel => exact ⟨k + 1, by omega, by go_num, HN, HM⟩
      case measure => simp [intOf]; omega
    · have HE : Hid (Row wr w.heap.size 92 (pcs ps)) := by
        have := HRow.out
        rw [List.take_of_length_le (by omega), List.drop_eq_nil_of_le (by rw [HL.out]; omega), List.append_nil] at this
        exact this
      go_wp2
      go_ret
      exact ⟨rfl, HE.out, HBel.out⟩

set_option maxHeartbeats 400000 in
theorem eqPending_same (a : Int) (d : ByteArray) (w : World) :
    Calls Tryz.prog 64 #[.agg #[.int .i64 a, .string d], .agg #[.int .i64 a, .string d]] w fun e w' => e = .returned (.bool true) ∧ Below w.heap.size w w' := by
  go_enter Tryz.func64, Tryz.ntmps64
  go_wp2
  go_ret
  exact ⟨rfl, ((Below.refl _ _).alloc (Nat.le_refl _) _).alloc (by simp) _⟩

set_option maxHeartbeats 1000000 in
theorem eqPendingS_same (v v' : Value) (ps : List (Int × ByteArray)) (w : World) (hn : ps.length ≤ 1048576) (hr : ReadsP w v ps) (hr' : ReadsP w v' ps) :
    Calls Tryz.prog 33 #[v, v'] w fun e w' => e = .returned (.bool true) ∧ Below w.heap.size w w' := by
  obtain ⟨p, cap, rfl, h1, h2, h3, h4⟩ := hr
  obtain ⟨p', cap', rfl, h1', h2', h3', h4'⟩ := hr'
  have H4 := hide h4
  have H4' := hide h4'
  clear h3 h3' h4 h4'
  unfold maxLen at h2 h2'
  by_cases hx : ps.length = 0
  · have hps : ps = [] := List.eq_nil_of_length_eq_zero hx
    subst hps
    go_enter Tryz.func33, Tryz.ntmps33
    go_wp2
    refine wp_loop_rounds 1 ?_
    rw [rounds_succ]
    go_wp2
    go_ret
    exact ⟨rfl, Below.refl _ _⟩
  obtain ⟨g, off, hp, hg, hc⟩ := H4.out (by omega)
  obtain ⟨g', off', hp', hg', hc'⟩ := H4'.out (by omega)
  subst hp hp'
  have HC := hide hc
  have HC' := hide hc'
  clear hc hc'
  go_enter Tryz.func33, Tryz.ntmps33
  go_wp2
  go_loopw [5] (fun i wr => ∃ k : Nat, k ≤ ps.length ∧ i = .int .i64 k ∧ Hid (Below w.heap.size w wr)) (fun i _ => ps.length - (intOf i).toNat)
  case atStart => exact ⟨0, Nat.zero_le _, rfl, Below.refl _ _⟩
  case round =>
    obtain ⟨k, hk, rfl, HBel⟩ := hrel
    by_cases hlt : k < ps.length
    · have hk0 := (HBel.out.cell (p := ⟨g, off + k * 2, none⟩) hg).trans (HC.out k hlt).1
      have hk1 := (HBel.out.cell (p := ⟨g, off + k * 2 + 1, none⟩) hg).trans (HC.out k hlt).2
      have hk0' := (HBel.out.cell (p := ⟨g', off' + k * 2, none⟩) hg').trans (HC'.out k hlt).1
      have hk1' := (HBel.out.cell (p := ⟨g', off' + k * 2 + 1, none⟩) hg').trans (HC'.out k hlt).2
      have hki : (k : Int) < (ps.length : Int) := by omega
      go_wp2_with fail
      go_region_with (go_at_call 64; refine (eqPending_same _ _ _).mono ?_; rintro e w2 ⟨rfl, hb2⟩)
      all_goals
        have HB2 := hide (HBel.out.trans ((below_drew hb2).mono HBel.out.size))
        clear hb2
        go_wp2
        go_roundw
        case rel => exact ⟨k + 1, by omega, by go_num, HB2⟩
        case measure => simp [intOf]; omega
    · go_wp2
      go_ret
      exact ⟨rfl, HBel.out⟩

def marksP (k n : Nat) : List (Int × ByteArray) := (List.range n).map fun i : Nat => ((k : Int) + (i : Int) * 2, markOf (k + i * 2 + 1))
theorem marksP_len (k n : Nat) : (marksP k n).length = n := by simp [marksP]
theorem marksP_succ (k n : Nat) : marksP k (n + 1) = marksP k n ++ [((k : Int) + (n : Int) * 2, markOf (k + n * 2 + 1))] := by simp [marksP, List.range_succ]
theorem marksP_get (k n i : Nat) (h : i < (marksP k n).length) : (marksP k n)[i] = ((k : Int) + (i : Int) * 2, markOf (k + i * 2 + 1)) := by simp [marksP]
theorem markP_next (k : Nat) (cs : List Value) (j : Nat) (h : j * 2 + 1 < cs.length) :
    ((pcs (marksP k j) ++ cs.drop (j * 2)).set (j * 2) (.int .i64 ((k : Int) + (j : Int) * 2))).set (j * 2 + 1) (.string (markOf (k + j * 2 + 1))) = pcs (marksP k (j + 1)) ++ cs.drop ((j + 1) * 2) := by
  have hl : (pcs (marksP k j)).length = j * 2 := by rw [pcs_len, marksP_len]
  rw [List.set_append_right _ _ (by omega), hl, Nat.sub_self, List.drop_eq_getElem_cons (by omega : j * 2 < cs.length), List.set_cons_zero,
    List.set_append_right _ _ (by omega), hl, show j * 2 + 1 - j * 2 = 1 by omega, List.drop_eq_getElem_cons h, List.set_cons_succ, List.set_cons_zero,
    marksP_succ, pcs_append, List.append_assoc, show (j + 1) * 2 = j * 2 + 1 + 1 by omega]
  rfl
theorem markP_len (k : Nat) (cs : List Value) (j : Nat) (h : j * 2 ≤ cs.length) : (pcs (marksP k j) ++ cs.drop (j * 2)).length = cs.length := by
  rw [List.length_append, pcs_len, marksP_len, List.length_drop]; omega

set_option maxHeartbeats 1000000 in
theorem markPendingS_any (G n cap : Nat) (cs : List Value) (k : Nat) (w : World) (hn : n ≤ cap) (hcap : cs.length = cap * 2) (hm : n ≤ 1048576) (hk : k ≤ 10000000) (hr : Row w G 92 cs) :
    Calls Tryz.prog 43 #[.slice (some ⟨G, 0, none⟩) n cap, .int .i64 (k : Int)] w fun e w' =>
      e = .returned (.int .i64 ((k + n * 2 : Nat) : Int)) ∧ Row w' G 92 (pcs (marksP k n) ++ cs.drop (n * 2)) ∧ Only G w w' := by
  have HR := hide hr
  have HL := hide hcap
  clear hr hcap
  go_enter Tryz.func43, Tryz.ntmps43
  go_wp2
  go_loopw [1, 5] (fun x i wr => ∃ j : Nat, j ≤ n ∧ i = .int .i64 (j : Int) ∧ x = .int .i64 ((k : Int) + (j : Int) * 2) ∧ Hid (Row wr G 92 (pcs (marksP k j) ++ cs.drop (j * 2))) ∧ Hid (Only G w wr)) (fun _ i _ => n - (intOf i).toNat)
  case atStart => exact ⟨0, Nat.zero_le _, rfl, by simp, HR.out, Only.refl _ _⟩
  case round =>
    obtain ⟨j, hj, rfl, rfl, HRow, HO⟩ := hrel
    by_cases hlt : j < n
    · have hlen := markP_len k cs j (by rw [HL.out]; omega)
      have hcl := HL.out
      obtain ⟨u0, hu0⟩ := HRow.out.some (j * 2) (by rw [hlen, hcl]; omega)
      have hf0 := HRow.out.free (j * 2)
      have HR1 := hide (HRow.out.set (j := j * 2) (.int .i64 ((k : Int) + (j : Int) * 2)))
      have HO1 := hide (HO.out.set (j := j * 2) (.int .i64 ((k : Int) + (j : Int) * 2)))
      have HLEN := hide hlen
      clear hlen hcl
      have ek : ((k : Int) + (j : Int) * 2 + 1) = ((k + j * 2 + 1 : Nat) : Int) := by simp
      have HK := hide ek
      clear ek
      go_wp2_with fail
      rw [HK.out]
      refine (markText_any (k + j * 2 + 1) _ (by omega)).mono ?_
      rintro e w2 ⟨rfl, hb2⟩
      rw [← HK.out]
      have hrow2 := HR1.out.below hb2 HR1.out.lt
      obtain ⟨u1, hu1⟩ := hrow2.some (j * 2 + 1) (by rw [List.length_set, HLEN.out, HL.out]; omega)
      have hf1 := hrow2.free (j * 2 + 1)
      have hnext := hrow2.set (j := j * 2 + 1) (.string (markOf (k + j * 2 + 1)))
      rw [markP_next k cs j (by rw [HL.out]; omega)] at hnext
      have HN := hide hnext
      have HM := hide ((HO1.out.below hb2).set (j := j * 2 + 1) (.string (markOf (k + j * 2 + 1))))
      clear hnext hrow2 hb2 hu0 hf0
      go_wp2
      go_roundw
      case rel => exact ⟨j + 1, by omega, by go_num, by go_num, HN, HM⟩
      case measure => simp [intOf]; omega
    · have hjn : j = n := by omega
      subst hjn
      go_wp2
      go_ret
      exact ⟨ret_int (by simp), HRow.out, HO.out⟩

set_option maxHeartbeats 400000 in
theorem markPendingS_none (p : Option Addr) (cap k : Nat) (w : World) :
    Calls Tryz.prog 43 #[.slice p 0 cap, .int .i64 (k : Int)] w fun e w' => e = .returned (.int .i64 (k : Int)) ∧ w' = w := by
  go_enter Tryz.func43, Tryz.ntmps43
  go_wp2
  refine wp_loop_rounds 1 ?_
  rw [rounds_succ]
  go_wp2
  go_ret
  exact ⟨rfl, rfl⟩

set_option maxHeartbeats 1000000 in
theorem heldPendingS_any (v : Value) (k n : Nat) (w : World) (hn : n ≤ 1048576) (hk : k ≤ 10000000) (hr : ReadsP w v (marksP k n)) :
    Calls Tryz.prog 45 #[v, .int .i64 (k : Int)] w fun e w' => e = .returned (.int .i64 ((k + n * 2 : Nat) : Int)) ∧ Below w.heap.size w w' := by
  obtain ⟨p, cap, rfl, h1, h2, h3, h4⟩ := hr
  have H4 := hide h4
  rw [marksP_len] at h1 ⊢
  clear h3 h4
  unfold maxLen at h2
  by_cases hx : n = 0
  · subst hx
    go_enter Tryz.func45, Tryz.ntmps45
    go_wp2
    refine wp_loop_rounds 1 ?_
    rw [rounds_succ]
    go_wp2
    go_ret
    exact ⟨rfl, Below.refl _ _⟩
  obtain ⟨g, off, hp, hg, hc⟩ := H4.out (by rw [marksP_len]; omega)
  subst hp
  have HC := hide hc
  clear hc
  go_enter Tryz.func45, Tryz.ntmps45
  go_wp2
  go_loopw [1, 5] (fun x i wr => ∃ j : Nat, j ≤ n ∧ i = .int .i64 (j : Int) ∧ x = .int .i64 ((k : Int) + (j : Int) * 2) ∧ Hid (Below w.heap.size w wr)) (fun _ i _ => n - (intOf i).toNat)
  case atStart => exact ⟨0, Nat.zero_le _, rfl, by simp, Below.refl _ _⟩
  case round =>
    obtain ⟨j, hj, rfl, rfl, HBel⟩ := hrel
    by_cases hlt : j < n
    · have hcc := HC.out j (by rw [marksP_len]; exact hlt)
      rw [marksP_get] at hcc
      have hk0 : wr.cell? ⟨g, off + j * 2, none⟩ = some (.int .i64 ((k : Int) + (j : Int) * 2)) := (HBel.out.cell (p := ⟨g, off + j * 2, none⟩) hg).trans hcc.1
      have hk1 : wr.cell? ⟨g, off + j * 2 + 1, none⟩ = some (.string (markOf (k + j * 2 + 1))) := (HBel.out.cell (p := ⟨g, off + j * 2 + 1, none⟩) hg).trans hcc.2
      clear hcc
      have hki : (j : Int) < (n : Int) := by omega
      have hwr : g < wr.heap.size := Nat.lt_of_lt_of_le hg HBel.out.size
      have ek : ((k : Int) + (j : Int) * 2 + 1) = ((k + j * 2 + 1 : Nat) : Int) := by simp
      have HK := hide ek
      clear ek
      go_wp2_with fail
      go_region_with (go_at_call 84; rw [HK.out]; refine (markText_any (k + j * 2 + 1) _ (by omega)).mono ?_; rintro e w2 ⟨rfl, hb2⟩; have hck2 := (hb2.cell (p := ⟨g, off + j * 2 + 1, none⟩) (by simpa using hwr)).trans hk1)
      all_goals
        have HB2 := hide (HBel.out.trans ((below_drew hb2).mono HBel.out.size))
        clear hb2
        go_wp2
        go_roundw
        case rel => exact ⟨j + 1, by omega, by go_num, by go_num, HB2⟩
        case measure => simp [intOf]; omega
    · have hjn : j = n := by omega
      subst hjn
      go_wp2
      go_ret
      exact ⟨ret_int (by simp), HBel.out⟩
end Go.Proofs.YtnpbmaajgiapmaaGreatDoor
