/- The program's list of steps of a text that is put. -/
import Derived.Test.YtkmehbgepkilkaaGreatDoorXGSARead
import Derived.Test.YtkmehbgepkilkaaGreatDoorXGIHead
import Derived.Test.YtkmehbgepkilkaaGreatDoorXGIRun
import Derived.Test.YtkmehbgepkilkaaGreatDoorXGIRoom
namespace Go.Proofs.YtkmehbgepkilkaaGreatDoor
open Go.RowKit

theorem Tryz.infoStep : (Tryz.prog.info? 63).map (fun i => (i.zero, i.size, i.bytes)) = some (some (.agg #[.bool false, .int .i64 0, .string ⟨#[]⟩]), 3, 32) := by kernel_rfl
/-- The cells of a list of steps. -/
def tcs : List (Bool × Int × ByteArray) → List Value
  | [] => []
  | x :: r => .bool x.1 :: .int .i64 x.2.1 :: .string x.2.2 :: tcs r
theorem tcs_append : ∀ a b, tcs (a ++ b) = tcs a ++ tcs b
  | [], b => rfl
  | x :: r, b => by simp [tcs, tcs_append r b]
theorem tcs_get : ∀ (a : List (Bool × Int × ByteArray)) (i : Nat) (h : i < a.length), (tcs a)[i * 3]? = some (.bool a[i].1) ∧ (tcs a)[i * 3 + 1]? = some (.int .i64 a[i].2.1) ∧ (tcs a)[i * 3 + 2]? = some (.string a[i].2.2)
  | x :: r, 0, _ => ⟨rfl, rfl, rfl⟩
  | x :: r, i + 1, h => by
    have := tcs_get r i (by simpa using h)
    simp only [List.getElem_cons_succ]
    rw [show (i + 1) * 3 = i * 3 + 3 by omega]
    exact this
theorem readsT_of_row {w : World} {B : Nat} {T : TypeId} {v : Value} {ss : List (Bool × Int × ByteArray)} (hx : ∀ x ∈ ss, x.2.2.size ≤ 1048576) (h0 : 0 < ss.length) (h : w.ownsRow B T 3 v ss.length (tcs ss)) : ReadsT w v ss := by
  obtain ⟨_, ⟨_, h1⟩ | ⟨g, cap, cur, rfl, hb, hh, hnc, hcm, hs, htake⟩⟩ := h
  · omega
  · refine ⟨_, cap, rfl, hnc, hcm, hx, fun _ => ⟨g, 0, rfl, (Array.getElem?_eq_some_iff.1 hh).1, fun i hi => ?_⟩⟩
    have hc : ∀ j, j < ss.length * 3 → w.cell? ⟨g, 0 + j, none⟩ = (tcs ss)[j]? := fun j hj => by
      rw [Nat.zero_add, cell_of_row w g j _ T (0, 0) hh, ← htake, List.getElem?_take_of_lt hj]
      simp
    obtain ⟨e1, e2, e3⟩ := tcs_get ss i hi
    have l1 : 0 + i * 3 + 1 = 0 + (i * 3 + 1) := by omega
    have l2 : 0 + i * 3 + 2 = 0 + (i * 3 + 2) := by omega
    rw [l1, l2, hc _ (by omega), hc _ (by omega), hc _ (by omega)]
    exact ⟨e1, e2, e3⟩

/-- The writes of a text's pieces. -/
def writesOf (start : Int) (d : ByteArray) (k : Nat) : List (Bool × Int × ByteArray) := (List.range k).map (fun (j : Nat) => (false, start + (j : Int), piece d j))
theorem writesOf_len (start : Int) (d : ByteArray) (k : Nat) : (writesOf start d k).length = k := by simp [writesOf]
theorem writesOf_snoc (start : Int) (d : ByteArray) (k : Nat) : writesOf start d (k + 1) = writesOf start d k ++ [(false, start + (k : Int), piece d k)] := by simp [writesOf, List.range_succ]
theorem putList_eq (h side gen : Int) (d : ByteArray) : putList h side gen d = writesOf (1 + (1 - side) * h) d (cuts d) ++ [(true, 0, ⟨#[]⟩), (false, 0, headOf (gen + 1) (1 - side) d.size), (true, 0, ⟨#[]⟩)] := rfl

theorem own_ge3 {w : World} {B n : Nat} {e : TypeId} {v : Value} {xs : List Value} (h : w.ownsRow B e 3 v n xs) {j : Nat} (hj : v.ownBlock = some j) : B ≤ j := by
  obtain ⟨_, ⟨rfl, _⟩ | ⟨g, cap, cur, rfl, hB, _⟩⟩ := h
  · cases hj
  · cases hj; exact hB
theorem ownsRow_after3 {w w' : World} {B n : Nat} {e : TypeId} {v : Value} {xs : List Value} (h : w.ownsRow B e 3 v n xs) (hb : Below w.heap.size w w') : w'.ownsRow B e 3 v n xs := by
  obtain ⟨h0, h1 | ⟨g, cap, cur, hv, hB, hh, hr⟩⟩ := h
  · exact ⟨h0, .inl h1⟩
  · have hlt : g < w.heap.size := (Array.getElem?_eq_some_iff.1 hh).1
    exact ⟨h0, .inr ⟨g, cap, cur, hv, hB, by rw [hb.block g hlt]; exact hh, hr⟩⟩
set_option maxHeartbeats 400000 in
theorem sideStart_any (vs vp : Value) (xs : List ByteArray) (s : Int) (w : World) (hx : 1 ≤ xs.length) (hn : xs.length ≤ 1048576) (hs : 0 ≤ s ∧ s ≤ 1) (hr : Reads w vs xs) (hv : ∃ p n k, vp = .slice p n k) :
    Calls Tryz.prog 62 #[.agg #[vs, vp], .int .i64 s] w fun e w' => e = .returned (.int .i64 (1 + s * half xs.length)) ∧ Below w.heap.size w w' := by
  have hb0 : Below w.heap.size w (w.alloc (.cells #[vs, vp] 26)) := (Below.refl _ _).alloc (Nat.le_refl _) _
  have HR := hide (hr.below hb0 (Nat.le_refl _))
  have HB0 := hide hb0
  obtain ⟨p1, c1, rfl, hq⟩ := hr
  obtain ⟨p2, m2, c2, rfl⟩ := hv
  clear hq hb0
  have hh : 0 ≤ half xs.length ∧ half xs.length ≤ 1048576 := by unfold half; omega
  have hm : s * half xs.length = 0 ∨ s * half xs.length = half xs.length := by
    rcases (show s = 0 ∨ s = 1 by omega) with rfl | rfl
    · left; simp
    · right; simp
  have hw1 : IntKind.i64.wrap (s * half xs.length) = s * half xs.length := by rw [IntKind.wrap_i64]; omega
  have hw2 : IntKind.i64.wrap (1 + s * half xs.length) = 1 + s * half xs.length := by rw [IntKind.wrap_i64]; omega
  clear hm hs
  go_enter Tryz.func62, Tryz.ntmps62
  go_wp2_with fail
  refine (sideSectors_any _ _ xs _ hx hn HR.out).mono ?_
  rintro e w2 ⟨rfl, hb2⟩
  have HB2 := hide (HB0.out.trans (hb2.mono HB0.out.size))
  clear hb2
  go_wp2
  go_ret
  exact ⟨rfl, HB2.out⟩

set_option maxRecDepth 100000 in
set_option maxHeartbeats 4000000 in
theorem putSteps_any (vs vp : Value) (xs : List ByteArray) (g s : Int) (d : ByteArray) (w : World) (hx : 1 ≤ xs.length) (hn : xs.length ≤ 64) (hs : 0 ≤ s ∧ s ≤ 1) (hg : 0 ≤ g ∧ g ≤ 1000001) (hd : d.size ≤ 8000) (hr : Reads w vs xs) (hv : ∃ p n k, vp = .slice p n k) :
    Calls Tryz.prog 34 #[.agg #[vs, vp], .agg #[.int .i64 g, .int .i64 s, .int .i64 d.size], .string d] w fun e w' =>
      (∃ v, e = .returned v ∧ ReadsT w' v (writesOf (1 + s * half xs.length) d (cuts d) ++ [(true, 0, ⟨#[]⟩), (false, 0, headOf g s d.size), (true, 0, ⟨#[]⟩)])) ∧ Below w.heap.size w w' := by
  obtain ⟨i0, hi, hz0, hz1, hz2⟩ := info_parts Tryz.infoStep
  obtain ⟨p2, m2, c2, rfl⟩ := hv
  obtain ⟨p1, c1, rfl, hq⟩ := id hr
  have hb0 : Below w.heap.size w ((w.alloc (.cells #[.slice p1 xs.length c1, .slice p2 m2 c2] 26)).alloc (.cells #[.int .i64 g, .int .i64 s, .int .i64 d.size] 51)) := ((Below.refl _ _).alloc (Nat.le_refl _) _).alloc (by simp) _
  have HR := hide (hr.below hb0 (Nat.le_refl _))
  have HB0 := hide hb0
  have R1 := row_new (w.alloc (.cells #[.slice p1 xs.length c1, .slice p2 m2 c2] 26)) [.int .i64 g, .int .i64 s, .int .i64 d.size] 51
  simp only [World.size_alloc] at R1
  have HR1 := hide R1
  have HGS := hide (And.intro hg hs)
  have hcd : cuts d ≤ 200 := by unfold cuts; omega
  have hh : 0 ≤ half xs.length ∧ half xs.length ≤ 64 := by unfold half; omega
  have hm : s * half xs.length = 0 ∨ s * half xs.length = half xs.length := by
    rcases (show s = 0 ∨ s = 1 by omega) with e | e
    · left; rw [e]; simp
    · right; rw [e]; simp
  have hst : 0 ≤ 1 + s * half xs.length ∧ 1 + s * half xs.length ≤ 65 := by omega
  clear hb0 R1 hq hr hm hg hs
  go_enter Tryz.func34, Tryz.ntmps34
  go_wp2_with fail
  refine (sideStart_any _ _ xs s _ hx (by omega) HGS.out.2 HR.out ⟨_, _, _, rfl⟩).mono ?_
  rintro e w1 ⟨rfl, hb1⟩
  have HB1 := hide (HB0.out.trans (hb1.mono HB0.out.size))
  have HX1 := hide (HR1.out.below hb1 (by simp))
  clear hb1
  obtain ⟨st, hst'⟩ : ∃ st, st = 1 + s * half xs.length := ⟨_, rfl⟩
  rw [← hst'] at hst ⊢
  have HST := hide hst'
  clear hst'
  go_wp2_with fail
  refine (cutSectors_any d _ hd).mono ?_
  rintro e w2 ⟨⟨v, rfl, hrd⟩, hb2⟩
  have HB2 := hide (HB1.out.trans (hb2.mono HB1.out.size))
  have HX2 := hide (Row.after hb2 HX1.out)
  have HRD := hide hrd
  obtain ⟨pp, pc, rfl, _⟩ := hrd
  clear hb2
  have hpl := pieces_len d (cuts d)
  rw [hpl]
  have HO0 := hide (show w2.ownsRow w2.heap.size 63 3 (.slice none 0 0) 0 (tcs (writesOf st d 0)) from ⟨rfl, .inl ⟨rfl, rfl⟩⟩)
  clear hpl
  go_wp2_with fail
  go_loopw [7, 18] (fun u i wr => ∃ k : Nat, k ≤ cuts d ∧ i = .int .i64 k ∧ Hid (wr.ownsRow w2.heap.size 63 3 u k (tcs (writesOf st d k))) ∧ Hid (Below w2.heap.size w2 wr)) (fun _ i _ => cuts d - (intOf i).toNat)
  case atStart => exact ⟨0, Nat.zero_le _, rfl, HO0, Below.refl _ _⟩
  case round =>
    obtain ⟨k, hk, rfl, HOw, HB⟩ := hrel
    by_cases hlt : k < cuts d
    · have hki : (k : Int) < (cuts d : Int) := by omega
      obtain ⟨pp', pc', he, _, _, _, h4⟩ := HRD.out.below HB.out (Nat.le_refl _)
      rw [pieces_len] at he
      cases he
      obtain ⟨gp, off, rfl, hgp, hcell⟩ := h4 (by rw [pieces_len]; omega)
      have hck : wr.cell? ⟨gp, off + k, none⟩ = some (.string (piece d k)) := by
        rw [hcell k (by rw [pieces_len]; exact hlt)]; simp [pieces]
      have hwa : IntKind.i64.wrap (st + (k : Int)) = st + (k : Int) := by rw [IntKind.wrap_i64]; omega
      have HNL := hide (show ∀ j u, ([Value.bool false, .int .i64 (st + (k : Int)), .string (piece d k)] : List Value)[j]? = some u → (wr.alloc (.cells #[.bool false, .int .i64 (st + (k : Int)), .string (piece d k)] 63)).cell? ((⟨wr.heap.size, 0, none⟩ : Addr).add j) = some u from fun j u hu => by
        rw [add_addr, Nat.zero_add, (row_new wr [.bool false, .int .i64 (st + (k : Int)), .string (piece d k)] 63).cell]; exact hu)
      have HOA := hide (HOw.out.alloc (.cells #[.bool false, .int .i64 (st + (k : Int)), .string (piece d k)] 63))
      have HBA := hide (HB.out.alloc HB.out.size (.cells #[.bool false, .int .i64 (st + (k : Int)), .string (piece d k)] 63))
      clear hcell h4
      go_wp2_with (at_builtin; refine wpList_append_own_at _ rfl _ _ 56 rfl w2.heap.size 63 i0 (.agg #[.bool false, .int .i64 0, .string ⟨#[]⟩]) 3 32 Tryz.underlying56 hi hz0 hz1 hz2 (by simp [Value.cells]) (by omega) _ k (tcs (writesOf st d k)) rfl HOA.out ⟨wr.heap.size, 0, none⟩ 1 1 [.bool false, .int .i64 (st + (k : Int)), .string (piece d k)] rfl rfl HNL.out (by simp [Value.oneCell']) (by unfold maxLen; omega) (by omega) (by have := HB.out.size; simp; omega) ?_
                   intro v' w3 ho1 hg1 _ _
                   have HO1 := hide ho1
                   have HG1 := hide hg1
                   clear ho1 hg1)
      have HP := hide (show tcs (writesOf st d (k + 1)) = tcs (writesOf st d k) ++ [.bool false, .int .i64 (st + (k : Int)), .string (piece d k)] by rw [writesOf_snoc, tcs_append]; rfl)
      go_roundw
      case rel =>
        refine ⟨k + 1, by omega, by go_num, by rw [HP.out]; exact HO1, ?_⟩
        exact below_grown HBA.out HBA.out.size HG1.out (fun j hj => own_ge3 HOA.out hj)
      case measure => simp [intOf]; omega
    · have hki : ¬ (k : Int) < (cuts d : Int) := by omega
      have hkc : k = cuts d := by omega
      subst hkc
      have HXr := hide (Row.after HB.out HX2.out)
      have x0 : wr.cell? ⟨w.heap.size + 1, 0, none⟩ = some (.int .i64 g) := HXr.out.cell 0
      have x1 : wr.cell? ⟨w.heap.size + 1, 1, none⟩ = some (.int .i64 s) := HXr.out.cell 1
      have x2 : wr.cell? ⟨w.heap.size + 1, 2, none⟩ = some (.int .i64 d.size) := HXr.out.cell 2
      go_wp2_with fail
      refine (headText_any g s d.size _ (by have := HGS.out; omega) (by have := HGS.out; omega) (by omega)).mono ?_
      obtain ⟨h, Hh⟩ : ∃ h, Hid (h = headOf g s d.size) := ⟨_, rfl⟩
      have hhs : h.size ≤ 34 := by rw [Hh.out]; exact headOf_size _ _ _
      rw [← Hh.out]
      rintro e w3 ⟨rfl, hb3⟩
      have HB3 := hide (HB.out.trans (hb3.mono HB.out.size))
      have HO3 := hide (ownsRow_after3 HOw.out hb3)
      have hz3 := HB3.out.size
      have HNL := hide (show ∀ j u, ([Value.bool true, .int .i64 0, .string ⟨#[]⟩, .bool false, .int .i64 0, .string h, .bool true, .int .i64 0, .string ⟨#[]⟩] : List Value)[j]? = some u → (w3.alloc (.cells #[.bool true, .int .i64 0, .string ⟨#[]⟩, .bool false, .int .i64 0, .string h, .bool true, .int .i64 0, .string ⟨#[]⟩] 63)).cell? ((⟨w3.heap.size, 0, none⟩ : Addr).add j) = some u from fun j u hu => by
        rw [add_addr, Nat.zero_add, (row_new w3 [.bool true, .int .i64 0, .string ⟨#[]⟩, .bool false, .int .i64 0, .string h, .bool true, .int .i64 0, .string ⟨#[]⟩] 63).cell]; exact hu)
      have HOA := hide (HO3.out.alloc (.cells #[.bool true, .int .i64 0, .string ⟨#[]⟩, .bool false, .int .i64 0, .string h, .bool true, .int .i64 0, .string ⟨#[]⟩] 63))
      have HBA := hide (HB3.out.alloc HB3.out.size (.cells #[.bool true, .int .i64 0, .string ⟨#[]⟩, .bool false, .int .i64 0, .string h, .bool true, .int .i64 0, .string ⟨#[]⟩] 63))
      clear hb3 x0 x1 x2
      go_wp2_with (at_builtin; refine wpList_append_own_at _ rfl _ _ 56 rfl w2.heap.size 63 i0 (.agg #[.bool false, .int .i64 0, .string ⟨#[]⟩]) 3 32 Tryz.underlying56 hi hz0 hz1 hz2 (by simp [Value.cells]) (by omega) _ (cuts d) (tcs (writesOf st d (cuts d))) rfl HOA.out ⟨w3.heap.size, 0, none⟩ 3 3 [.bool true, .int .i64 0, .string ⟨#[]⟩, .bool false, .int .i64 0, .string h, .bool true, .int .i64 0, .string ⟨#[]⟩] rfl rfl HNL.out (by simp [Value.oneCell']) (by unfold maxLen; omega) (by omega) (by simp; omega) ?_
                   intro v' w4 ho1 hg1 _ _
                   have HO1 := hide ho1
                   have HG1 := hide hg1
                   clear ho1 hg1)
      have HBE := hide (below_grown HBA.out HBA.out.size HG1.out (fun j hj => own_ge3 HOA.out hj))
      have HRT := hide (show ReadsT w4 v' (writesOf (1 + s * half xs.length) d (cuts d) ++ [(true, 0, ⟨#[]⟩), (false, 0, headOf g s d.size), (true, 0, ⟨#[]⟩)]) by
        rw [← HST.out, ← Hh.out]
        refine readsT_of_row (B := w2.heap.size) (T := 63) ?_ (by simp) ?_
        · intro x hx
          simp only [List.mem_append, List.mem_cons, List.not_mem_nil, or_false] at hx
          rcases hx with hx | rfl | rfl | rfl
          · obtain ⟨j, _, rfl⟩ := List.mem_map.1 hx
            show (piece d j).size ≤ 1048576
            unfold piece
            rw [ByteArray.size_extract]; omega
          · show (0 : Nat) ≤ 1048576; omega
          · show h.size ≤ 1048576; omega
          · show (0 : Nat) ≤ 1048576; omega
        · rw [tcs_append, List.length_append, writesOf_len]
          exact HO1.out)
      have HBF := hide (HB2.out.trans (HBE.out.mono HB2.out.size))
      go_wp2
      go_ret
      exact ⟨⟨_, rfl, HRT.out⟩, HBF.out⟩
end Go.Proofs.YtkmehbgepkilkaaGreatDoor
