/- The program's list of steps of a text that is put. -/
import Derived.Test.YtnpbmaajgiapmaaGreatDoorXG31ICut
import Derived.Test.YtnpbmaajgiapmaaGreatDoorXG32IHead
import Derived.Test.YtnpbmaajgiapmaaGreatDoorXG33IStep
import Derived.Test.YtnpbmaajgiapmaaGreatDoorXG34IRoom
import Derived.Test.YtnpbmaajgiapmaaGreatDoorXG30IPanic
import Derived.OrdersHeld
import Derived.Deep.RegionHeld3
import Derived.Test.YtnpbmaajgiapmaaGreatDoorXG23SARead2
namespace Go.Proofs.YtnpbmaajgiapmaaGreatDoor
open Go.RowKit

theorem Tryz.infoStep : (Tryz.prog.info? 116).map (fun i => (i.zero, i.size, i.bytes)) = some (some (.agg #[.bool false, .int .i64 0, .string ⟨#[]⟩]), 3, 32) := by kernel_rfl
/-- The cells of a list of steps. -/
def tcs : List (Bool × Int × ByteArray) → List Value
  | [] => []
  | x :: r => .bool x.1 :: .int .i64 x.2.1 :: .string x.2.2 :: tcs r
theorem tcs_append : ∀ a b, tcs (a ++ b) = tcs a ++ tcs b
  | [], b => rfl
  | x :: r, b => by simp [tcs, tcs_append r b]
theorem tcs_len : ∀ a, (tcs a).length = a.length * 3
  | [] => rfl
  | x :: r => by simp [tcs, tcs_len r]; omega
theorem tcs_get : ∀ (a : List (Bool × Int × ByteArray)) (i : Nat) (h : i < a.length), (tcs a)[i * 3]? = some (.bool a[i].1) ∧ (tcs a)[i * 3 + 1]? = some (.int .i64 a[i].2.1) ∧ (tcs a)[i * 3 + 2]? = some (.string a[i].2.2)
  | x :: r, 0, _ => ⟨rfl, rfl, rfl⟩
  | x :: r, i + 1, h => by
    have := tcs_get r i (by simpa using h)
    simp only [List.getElem_cons_succ]
    rw [show (i + 1) * 3 = i * 3 + 3 by omega]
    exact this
theorem readsT_of_row {w : World} {B : Nat} {T : TypeId} {v : Value} {ss : List (Bool × Int × ByteArray)} (hx : ∀ x ∈ ss, x.2.2.size ≤ 1048576) (h0 : 0 < ss.length) (h : w.ownsRow B T 3 v ss.length (tcs ss)) : ReadsT w v ss := by
  obtain ⟨_, ⟨_, h1⟩ | ⟨g, cap, cur, rfl, hb, hh, hnc, hcm, hs, htake⟩⟩ := h
  · omega
  · refine ⟨_, cap, rfl, hnc, hcm, hx, fun _ => ⟨g, 0, rfl, (Array.getElem?_eq_some_iff.1 hh).1, fun i hi => ?_⟩⟩
    have hc : ∀ j, j < ss.length * 3 → w.cell? ⟨g, 0 + j, none⟩ = (tcs ss)[j]? := fun j hj => by
      rw [Nat.zero_add, cell_of_row w g j _ T (0, 0) hh, ← htake, List.getElem?_take_of_lt hj]
      simp
    obtain ⟨e1, e2, e3⟩ := tcs_get ss i hi
    have l1 : 0 + i * 3 + 1 = 0 + (i * 3 + 1) := by omega
    have l2 : 0 + i * 3 + 2 = 0 + (i * 3 + 2) := by omega
    rw [l1, l2, hc _ (by omega), hc _ (by omega), hc _ (by omega)]
    exact ⟨e1, e2, e3⟩

/-- The writes of a text's pieces. -/
def writesOf (start : Int) (d : ByteArray) (k : Nat) : List (Bool × Int × ByteArray) := (List.range k).map (fun (j : Nat) => (false, start + (j : Int), piece d j))
theorem writesOf_len (start : Int) (d : ByteArray) (k : Nat) : (writesOf start d k).length = k := by simp [writesOf]
theorem writesOf_snoc (start : Int) (d : ByteArray) (k : Nat) : writesOf start d (k + 1) = writesOf start d k ++ [(false, start + (k : Int), piece d k)] := by simp [writesOf, List.range_succ]
theorem putList_eq (h side gen : Int) (d : ByteArray) : putList h side gen d = writesOf (1 + (1 - side) * h) d (cuts d) ++ [(true, 0, ⟨#[]⟩), (false, 0, headOf (gen + 1) (1 - side) d.size), (true, 0, ⟨#[]⟩)] := rfl

theorem own_ge3 {w : World} {B n : Nat} {e : TypeId} {v : Value} {xs : List Value} (h : w.ownsRow B e 3 v n xs) {j : Nat} (hj : v.ownBlock = some j) : B ≤ j := by
  obtain ⟨_, ⟨rfl, _⟩ | ⟨g, cap, cur, rfl, hB, _⟩⟩ := h
  · cases hj
  · cases hj; exact hB
theorem ownsRow_after3 {w w' : World} {B n : Nat} {e : TypeId} {v : Value} {xs : List Value} (h : w.ownsRow B e 3 v n xs) (hb : Below w.heap.size w w') : w'.ownsRow B e 3 v n xs := by
  obtain ⟨h0, h1 | ⟨g, cap, cur, hv, hB, hh, hr⟩⟩ := h
  · exact ⟨h0, .inl h1⟩
  · have hlt : g < w.heap.size := (Array.getElem?_eq_some_iff.1 hh).1
    exact ⟨h0, .inr ⟨g, cap, cur, hv, hB, by rw [hb.block g hlt]; exact hh, hr⟩⟩
set_option maxHeartbeats 400000 in
theorem sideStart_any (vs vp : Value) (xs : List ByteArray) (s : Int) (w : World) (hx : 1 ≤ xs.length) (hn : xs.length ≤ 1048576) (hs : 0 ≤ s ∧ s ≤ 1) (hr : Reads w vs xs) (hv : ∃ p n k, vp = .slice p n k) :
    Calls Tryz.prog 120 #[.agg #[vs, vp], .int .i64 s] w fun e w' => e = .returned (.int .i64 (1 + s * half xs.length)) ∧ Below w.heap.size w w' := by
  have hb0 : Below w.heap.size w (w.alloc (.cells #[vs, vp] 30)) := (Below.refl _ _).alloc (Nat.le_refl _) _
  have HR := hide (hr.below hb0 (Nat.le_refl _))
  have HB0 := hide hb0
  obtain ⟨p1, c1, rfl, hq⟩ := hr
  obtain ⟨p2, m2, c2, rfl⟩ := hv
  clear hq hb0
  have hh : 0 ≤ half xs.length ∧ half xs.length ≤ 1048576 := by unfold half; omega
  have hm : s * half xs.length = 0 ∨ s * half xs.length = half xs.length := by
    rcases (show s = 0 ∨ s = 1 by omega) with rfl | rfl
    · left; simp
    · right; simp
  have hw1 : IntKind.i64.wrap (s * half xs.length) = s * half xs.length := by rw [IntKind.wrap_i64]; omega
  have hw2 : IntKind.i64.wrap (1 + s * half xs.length) = 1 + s * half xs.length := by rw [IntKind.wrap_i64]; omega
  clear hm hs
  go_enter Tryz.func120, Tryz.ntmps120
  go_wp2_with fail
  refine (sideSectors_any _ _ xs _ hx hn HR.out).mono ?_
  rintro e w2 ⟨rfl, hb2⟩
  have HB2 := hide (HB0.out.trans (hb2.mono HB0.out.size))
  clear hb2
  go_wp2
  go_ret
  exact ⟨rfl, HB2.out⟩

set_option maxRecDepth 100000 in
set_option maxHeartbeats 4000000 in
theorem putSteps_any (vs vp : Value) (xs : List ByteArray) (g s : Int) (d : ByteArray) (w : World) (hx : 1 ≤ xs.length) (hn : xs.length ≤ 64) (hs : 0 ≤ s ∧ s ≤ 1) (hg : 0 ≤ g ∧ g ≤ 1000001) (hd : d.size ≤ 8000) (hr : Reads w vs xs) (hv : ∃ p n k, vp = .slice p n k) :
    Calls Tryz.prog 107 #[.agg #[vs, vp], .agg #[.int .i64 g, .int .i64 s, .int .i64 d.size], .string d] w fun e w' =>
      (∃ v, e = .returned v ∧ ReadsT w' v (writesOf (1 + s * half xs.length) d (cuts d) ++ [(true, 0, ⟨#[]⟩), (false, 0, headOf g s d.size), (true, 0, ⟨#[]⟩)])) ∧ Below w.heap.size w w' := by
  obtain ⟨i0, hi, hz0, hz1, hz2⟩ := info_parts Tryz.infoStep
  obtain ⟨p2, m2, c2, rfl⟩ := hv
  obtain ⟨p1, c1, rfl, hq⟩ := id hr
  have hb0 : Below w.heap.size w ((w.alloc (.cells #[.slice p1 xs.length c1, .slice p2 m2 c2] 30)).alloc (.cells #[.int .i64 g, .int .i64 s, .int .i64 d.size] 114)) := ((Below.refl _ _).alloc (Nat.le_refl _) _).alloc (by simp) _
  have HR := hide (hr.below hb0 (Nat.le_refl _))
  have HB0 := hide hb0
  have R1 := row_new (w.alloc (.cells #[.slice p1 xs.length c1, .slice p2 m2 c2] 30)) [.int .i64 g, .int .i64 s, .int .i64 d.size] 114
  simp only [World.size_alloc] at R1
  have HR1 := hide R1
  have HGS := hide (And.intro hg hs)
  have hcd : cuts d ≤ 200 := by unfold cuts; omega
  have hh : 0 ≤ half xs.length ∧ half xs.length ≤ 64 := by unfold half; omega
  have hm : s * half xs.length = 0 ∨ s * half xs.length = half xs.length := by
    rcases (show s = 0 ∨ s = 1 by omega) with e | e
    · left; rw [e]; simp
    · right; rw [e]; simp
  have hst : 0 ≤ 1 + s * half xs.length ∧ 1 + s * half xs.length ≤ 65 := by omega
  clear hb0 R1 hq hr hm hg hs
  go_enter Tryz.func107, Tryz.ntmps107
  go_wp2_with fail
  refine (sideStart_any _ _ xs s _ hx (by omega) HGS.out.2 HR.out ⟨_, _, _, rfl⟩).mono ?_
  rintro e w1 ⟨rfl, hb1⟩
  have HB1 := hide (HB0.out.trans (hb1.mono HB0.out.size))
  have HX1 := hide (HR1.out.below hb1 (by simp))
  clear hb1
  obtain ⟨st, hst'⟩ : ∃ st, st = 1 + s * half xs.length := ⟨_, rfl⟩
  rw [← hst'] at hst ⊢
  have HST := hide hst'
  clear hst'
  go_wp2_with fail
  refine (cutSectors_any d _ hd).mono ?_
  rintro e w2 ⟨⟨v, rfl, hrd⟩, hb2⟩
  have HB2 := hide (HB1.out.trans (hb2.mono HB1.out.size))
  have HX2 := hide (Row.after hb2 HX1.out)
  have HRD := hide hrd
  obtain ⟨pp, pc, rfl, _⟩ := hrd
  clear hb2
  have hpl := pieces_len d (cuts d)
  rw [hpl]
  have HO0 := hide (show w2.ownsRow w2.heap.size 116 3 (.slice none 0 0) 0 (tcs (writesOf st d 0)) from ⟨rfl, .inl ⟨rfl, rfl⟩⟩)
  clear hpl
  go_wp2_with fail
  go_loopw [7, 18] (fun u i wr => ∃ k : Nat, k ≤ cuts d ∧ i = .int .i64 k ∧ Hid (wr.ownsRow w2.heap.size 116 3 u k (tcs (writesOf st d k))) ∧ Hid (Below w2.heap.size w2 wr)) (fun _ i _ => cuts d - (intOf i).toNat)
  case atStart => exact ⟨0, Nat.zero_le _, rfl, HO0, Below.refl _ _⟩
  case round =>
    obtain ⟨k, hk, rfl, HOw, HB⟩ := hrel
    by_cases hlt : k < cuts d
    · have hki : (k : Int) < (cuts d : Int) := by omega
      obtain ⟨pp', pc', he, _, _, _, h4⟩ := HRD.out.below HB.out (Nat.le_refl _)
      rw [pieces_len] at he
      cases he
      obtain ⟨gp, off, rfl, hgp, hcell⟩ := h4 (by rw [pieces_len]; omega)
      have hck : wr.cell? ⟨gp, off + k, none⟩ = some (.string (piece d k)) := by
        rw [hcell k (by rw [pieces_len]; exact hlt)]; simp [pieces]
      have hwa : IntKind.i64.wrap (st + (k : Int)) = st + (k : Int) := by rw [IntKind.wrap_i64]; omega
      have HNL := hide (show ∀ j u, ([Value.bool false, .int .i64 (st + (k : Int)), .string (piece d k)] : List Value)[j]? = some u → (wr.alloc (.cells #[.bool false, .int .i64 (st + (k : Int)), .string (piece d k)] 116)).cell? ((⟨wr.heap.size, 0, none⟩ : Addr).add j) = some u from fun j u hu => by
        rw [add_addr, Nat.zero_add, (row_new wr [.bool false, .int .i64 (st + (k : Int)), .string (piece d k)] 116).cell]; exact hu)
      have HOA := hide (HOw.out.alloc (.cells #[.bool false, .int .i64 (st + (k : Int)), .string (piece d k)] 116))
      have HBA := hide (HB.out.alloc HB.out.size (.cells #[.bool false, .int .i64 (st + (k : Int)), .string (piece d k)] 116))
      clear hcell h4
      go_wp2_with (at_builtin; refine wpList_append_own_at _ rfl _ _ 117 rfl w2.heap.size 116 i0 (.agg #[.bool false, .int .i64 0, .string ⟨#[]⟩]) 3 32 Tryz.underlying117 hi hz0 hz1 hz2 (by simp [Value.cells]) (by omega) _ k (tcs (writesOf st d k)) rfl HOA.out ⟨wr.heap.size, 0, none⟩ 1 1 [.bool false, .int .i64 (st + (k : Int)), .string (piece d k)] rfl rfl HNL.out (by simp [Value.oneCell']) (by unfold maxLen; omega) (by omega) (by have := HB.out.size; simp; omega) ?_
                   intro v' w3 ho1 hg1 _ _
                   have HO1 := hide ho1
                   have HG1 := hide hg1
                   clear ho1 hg1)
      have HP := hide (show tcs (writesOf st d (k + 1)) = tcs (writesOf st d k) ++ [.bool false, .int .i64 (st + (k : Int)), .string (piece d k)] by rw [writesOf_snoc, tcs_append]; rfl)
      go_roundw
      case rel =>
        refine ⟨k + 1, by omega, by go_num, by rw [HP.out]; exact HO1, ?_⟩
        exact below_grown HBA.out HBA.out.size HG1.out (fun j hj => own_ge3 HOA.out hj)
      case measure => simp [intOf]; omega
    · have hki : ¬ (k : Int) < (cuts d : Int) := by omega
      have hkc : k = cuts d := by omega
      subst hkc
      have HXr := hide (Row.after HB.out HX2.out)
      have x0 : wr.cell? ⟨w.heap.size + 1, 0, none⟩ = some (.int .i64 g) := HXr.out.cell 0
      have x1 : wr.cell? ⟨w.heap.size + 1, 1, none⟩ = some (.int .i64 s) := HXr.out.cell 1
      have x2 : wr.cell? ⟨w.heap.size + 1, 2, none⟩ = some (.int .i64 d.size) := HXr.out.cell 2
      go_wp2_with fail
      refine (headText_any g s d.size _ (by have := HGS.out; omega) (by have := HGS.out; omega) (by omega)).mono ?_
      obtain ⟨h, Hh⟩ : ∃ h, Hid (h = headOf g s d.size) := ⟨_, rfl⟩
      have hhs : h.size ≤ 34 := by rw [Hh.out]; exact headOf_size _ _ _
      rw [← Hh.out]
      rintro e w3 ⟨rfl, hb3⟩
      have HB3 := hide (HB.out.trans (hb3.mono HB.out.size))
      have HO3 := hide (ownsRow_after3 HOw.out hb3)
      have hz3 := HB3.out.size
      have HNL := hide (show ∀ j u, ([Value.bool true, .int .i64 0, .string ⟨#[]⟩, .bool false, .int .i64 0, .string h, .bool true, .int .i64 0, .string ⟨#[]⟩] : List Value)[j]? = some u → (w3.alloc (.cells #[.bool true, .int .i64 0, .string ⟨#[]⟩, .bool false, .int .i64 0, .string h, .bool true, .int .i64 0, .string ⟨#[]⟩] 116)).cell? ((⟨w3.heap.size, 0, none⟩ : Addr).add j) = some u from fun j u hu => by
        rw [add_addr, Nat.zero_add, (row_new w3 [.bool true, .int .i64 0, .string ⟨#[]⟩, .bool false, .int .i64 0, .string h, .bool true, .int .i64 0, .string ⟨#[]⟩] 116).cell]; exact hu)
      have HOA := hide (HO3.out.alloc (.cells #[.bool true, .int .i64 0, .string ⟨#[]⟩, .bool false, .int .i64 0, .string h, .bool true, .int .i64 0, .string ⟨#[]⟩] 116))
      have HBA := hide (HB3.out.alloc HB3.out.size (.cells #[.bool true, .int .i64 0, .string ⟨#[]⟩, .bool false, .int .i64 0, .string h, .bool true, .int .i64 0, .string ⟨#[]⟩] 116))
      clear hb3 x0 x1 x2
      go_wp2_with (at_builtin; refine wpList_append_own_at _ rfl _ _ 117 rfl w2.heap.size 116 i0 (.agg #[.bool false, .int .i64 0, .string ⟨#[]⟩]) 3 32 Tryz.underlying117 hi hz0 hz1 hz2 (by simp [Value.cells]) (by omega) _ (cuts d) (tcs (writesOf st d (cuts d))) rfl HOA.out ⟨w3.heap.size, 0, none⟩ 3 3 [.bool true, .int .i64 0, .string ⟨#[]⟩, .bool false, .int .i64 0, .string h, .bool true, .int .i64 0, .string ⟨#[]⟩] rfl rfl HNL.out (by simp [Value.oneCell']) (by unfold maxLen; omega) (by omega) (by simp; omega) ?_
                   intro v' w4 ho1 hg1 _ _
                   have HO1 := hide ho1
                   have HG1 := hide hg1
                   clear ho1 hg1)
      have HBE := hide (below_grown HBA.out HBA.out.size HG1.out (fun j hj => own_ge3 HOA.out hj))
      have HRT := hide (show ReadsT w4 v' (writesOf (1 + s * half xs.length) d (cuts d) ++ [(true, 0, ⟨#[]⟩), (false, 0, headOf g s d.size), (true, 0, ⟨#[]⟩)]) by
        rw [← HST.out, ← Hh.out]
        refine readsT_of_row (B := w2.heap.size) (T := 116) ?_ (by simp) ?_
        · intro x hx
          simp only [List.mem_append, List.mem_cons, List.not_mem_nil, or_false] at hx
          rcases hx with hx | rfl | rfl | rfl
          · obtain ⟨j, _, rfl⟩ := List.mem_map.1 hx
            show (piece d j).size ≤ 1048576
            unfold piece
            rw [ByteArray.size_extract]; omega
          · show (0 : Nat) ≤ 1048576; omega
          · show h.size ≤ 1048576; omega
          · show (0 : Nat) ≤ 1048576; omega
        · rw [tcs_append, List.length_append, writesOf_len]
          exact HO1.out)
      have HBF := hide (HB2.out.trans (HBE.out.mono HB2.out.size))
      go_wp2
      go_ret
      exact ⟨⟨_, rfl, HRT.out⟩, HBF.out⟩
end Go.Proofs.YtnpbmaajgiapmaaGreatDoor
/- The program's AreaPut, from what its readArea does. -/
namespace Go.Proofs.YtnpbmaajgiapmaaGreatDoor
open Go.RowKit

theorem Leaves.tmps {P : Program} {fn : Func} {R : Ending → World → Prop} {t1 t2 : Array Value} (h : results fn t1 = results fn t2) : ∀ (ds : List Deferred) (u : FrameMode) (w : World), Leaves P fn t1 R ds u w → Leaves P fn t2 R ds u w
  | [], .returning, w => fun hl => by unfold Leaves at hl ⊢; rw [← h]; exact hl
  | [], .panicking chain, w => fun hl => hl
  | [], .run, _ => fun hl => hl
  | d :: ds, u, w => fun hl => by
    unfold Leaves at hl ⊢
    obtain ⟨h1, fv, cap, f, args, h2, h3, h4⟩ := hl
    refine ⟨h1, fv, cap, f, args, h2, h3, h4.mono ?_⟩
    intro e u' w' hx
    cases e with
    | returned v => exact Leaves.tmps h ds _ _ hx
    | panicked c => exact Leaves.tmps h ds _ _ hx
    | outgrown => exact hx
theorem putHang {R : Ending → World → Prop} (d : Nat) (hd : d ≠ 6) (v : Value) (c : List PanicEntry) (a : Act) (w : World) (h : bodyPostD Tryz.prog Tryz.f82 R (.panic c) (a.put (some d) v) w) : bodyPostD Tryz.prog Tryz.f82 R (.panic c) a w := by
  refine Leaves.tmps ?_ _ _ _ h
  unfold results
  rw [Tryz.results82]
  simp [Act.put, Array.getElem?_setIfInBounds_ne, hd]
theorem readsT_take {w : World} {p : Option Addr} {n c : Nat} {ss : List (Bool × Int × ByteArray)} (h : ReadsT w (.slice p n c) ss) (k : Nat) (hk : k ≤ n) : ReadsT w (.slice p k c) (ss.take k) := by
  obtain ⟨p', cap, e, h1, h2, h3, h4⟩ := h
  cases e
  refine ⟨p, c, by rw [List.length_take, Nat.min_eq_left hk], by rw [List.length_take]; omega, h2, fun x hx => h3 x (List.mem_of_mem_take hx), fun h0 => ?_⟩
  obtain ⟨g, off, rfl, hg, hc⟩ := h4 (by rw [List.length_take] at h0; omega)
  exact ⟨g, off, rfl, hg, fun i hi => by rw [List.getElem_take]; exact hc i (by rw [List.length_take] at hi; omega)⟩

set_option maxRecDepth 100000 in
set_option maxHeartbeats 8000000 in
theorem implAPut_size (vs vp : Value) (xs : List ByteArray) (ps : List (Int × ByteArray)) (d : ByteArray) (a : Int) (w : World) (hr : Reads w vs xs) (hp : ReadsP w vp ps) (hd : d.size ≤ 1048576) (hz : 8000 < d.size) :
    Calls Tryz.prog 82 #[.agg #[vs, vp], .string d, .int .i64 a] w fun e w' => AOutIs w.heap.size e w' (aill 2) ∧ Below w.heap.size w w' := by
  have hz' : decide ((8000 : Int) < (d.size : Int)) = true := decide_eq_true (by omega)
  have hmf : ∀ (fn : Fn) (first cap : Array Value) (w : World), (Instr.makeFunc fn first cap).run Tryz.prog w = .ok (.func fn first cap) w := fun _ _ _ _ => rfl
  have hb0 : Below w.heap.size w ((w.alloc (.cells #[vs, vp] 30)).alloc (.cells #[.slice none 0 0, .slice none 0 0, .string ⟨#[]⟩, .int .i64 0, .int .i64 0] 63)) :=
    ((Below.refl _ _).alloc (Nat.le_refl _) _).alloc (by simp) _
  have HB0 := hide hb0
  obtain ⟨p1, c1, rfl, hq⟩ := hr
  obtain ⟨p2, c2, rfl, hq2⟩ := hp
  have R0 := (row_new w [.slice p1 xs.length c1, .slice p2 ps.length c2] 30).alloc (.cells #[.slice none 0 0, .slice none 0 0, .string ⟨#[]⟩, .int .i64 0, .int .i64 0] 63)
  have R1 := row_new (w.alloc (.cells #[.slice p1 xs.length c1, .slice p2 ps.length c2] 30)) [.slice none 0 0, .slice none 0 0, .string ⟨#[]⟩, .int .i64 0, .int .i64 0] 63
  simp only [World.size_alloc] at R1
  have HR1 := hide R1
  clear hb0 hq hq2 R1 R0
  go_enter_defers Tryz.func82, Tryz.ntmps82
  go_wp2_with fail
  refine (refuse_yes 2 _).mono ?_
  rintro e w1 ⟨rfl, rfl⟩
  go_wp2
  refine leaves_cons (f := 105) (args := #[.pointer (some ⟨w.heap.size + 1, 0, none⟩)]) (by simp) (by simp [go_sem]) ?_
  refine (putCatch_panic _ _ _ _ _ _ _ _ _ _ 2 [] _ HR1.out).mono ?_
  rintro e u' wd ⟨rfl, rfl, hrow, hk⟩
  have b0 : wd.cell? ⟨w.heap.size + 1, 0, none⟩ = some (.slice none 0 0) := hrow.cell 0
  have b1 : wd.cell? ⟨w.heap.size + 1, 1, none⟩ = some (.slice none 0 0) := hrow.cell 1
  have b2 : wd.cell? ⟨w.heap.size + 1, 2, none⟩ = some (.string ⟨#[]⟩) := hrow.cell 2
  have b3 : wd.cell? ⟨w.heap.size + 1, 3, none⟩ = some (.int .i64 0) := hrow.cell 3
  have b4 : wd.cell? ⟨w.heap.size + 1, 4, none⟩ = some (.int .i64 2) := hrow.cell 4
  simp [Leaves, settle, results, Tryz.results82, go_sem, b0, b1, b2, b3, b4]
  exact ⟨AOutIs.ill _ _ _, hk.toBelow HB0.out HB0.out.size (by simp)⟩

set_option maxRecDepth 100000 in
set_option maxHeartbeats 8000000 in
theorem implAPut_ill (vs vp : Value) (xs : List ByteArray) (ps : List (Int × ByteArray)) (d : ByteArray) (a : Int) (aF aR aU : Addr) (w : World) (hn : xs.length ≤ 1048576) (hn2 : ps.length ≤ 1048576) (hr : Reads w vs xs) (hp : ReadsP w vp ps) (hS : Sents aF aR aU w) (hd : d.size ≤ 8000) (hok : right xs ps = false) :
    Calls Tryz.prog 82 #[.agg #[vs, vp], .string d, .int .i64 a] w fun e w' => AOutIs w.heap.size e w' (aill 1) ∧ Below w.heap.size w w' := by
  have hz' : decide ((8000 : Int) < (d.size : Int)) = false := decide_eq_false (by omega)
  have hmf : ∀ (fn : Fn) (first cap : Array Value) (w : World), (Instr.makeFunc fn first cap).run Tryz.prog w = .ok (.func fn first cap) w := fun _ _ _ _ => rfl
  have hb0 : Below w.heap.size w ((w.alloc (.cells #[vs, vp] 30)).alloc (.cells #[.slice none 0 0, .slice none 0 0, .string ⟨#[]⟩, .int .i64 0, .int .i64 0] 63)) :=
    ((Below.refl _ _).alloc (Nat.le_refl _) _).alloc (by simp) _
  have HR := hide (hr.below hb0 (Nat.le_refl _))
  have HP := hide (hp.below hb0 (Nat.le_refl _))
  have HS := hide (Stab.go hb0 hS)
  have HB0 := hide hb0
  obtain ⟨p1, c1, rfl, hq⟩ := hr
  obtain ⟨p2, c2, rfl, hq2⟩ := hp
  have R0 := (row_new w [.slice p1 xs.length c1, .slice p2 ps.length c2] 30).alloc (.cells #[.slice none 0 0, .slice none 0 0, .string ⟨#[]⟩, .int .i64 0, .int .i64 0] 63)
  have R1 := row_new (w.alloc (.cells #[.slice p1 xs.length c1, .slice p2 ps.length c2] 30)) [.slice none 0 0, .slice none 0 0, .string ⟨#[]⟩, .int .i64 0, .int .i64 0] 63
  simp only [World.size_alloc] at R1
  have HR0 := hide R0
  have HR1 := hide R1
  clear hb0 hq hq2 R1 R0 hS
  go_enter_defers Tryz.func82, Tryz.ntmps82
  go_wp2_with fail
  refine (refuse_no 2 _).mono ?_
  rintro e w0 ⟨rfl, rfl⟩
  have a0' := HR0.out.cell 0
  clear a0'
  go_wp2_with fail
  refine (refuseDisk_any _ _ xs ps aF aR aU _ hn hn2 HR.out HP.out HS.out).mono ?_
  rw [hok]
  rintro e w1 ⟨he, hb1⟩
  simp only [Bool.false_eq_true, if_false] at he
  subst he
  have HB1 := hide (HB0.out.trans (hb1.mono HB0.out.size))
  have HX1 := hide (HR1.out.below hb1 (by simp))
  clear hb1
  go_wp2
  refine leaves_cons (f := 105) (args := #[.pointer (some ⟨w.heap.size + 1, 0, none⟩)]) (by simp) (by simp [go_sem]) ?_
  refine (putCatch_panic _ _ _ _ _ _ _ _ _ _ 1 [] _ HX1.out).mono ?_
  rintro e u' wd ⟨rfl, rfl, hrow, hk⟩
  have b0 : wd.cell? ⟨w.heap.size + 1, 0, none⟩ = some (.slice none 0 0) := hrow.cell 0
  have b1 : wd.cell? ⟨w.heap.size + 1, 1, none⟩ = some (.slice none 0 0) := hrow.cell 1
  have b2 : wd.cell? ⟨w.heap.size + 1, 2, none⟩ = some (.string ⟨#[]⟩) := hrow.cell 2
  have b3 : wd.cell? ⟨w.heap.size + 1, 3, none⟩ = some (.int .i64 0) := hrow.cell 3
  have b4 : wd.cell? ⟨w.heap.size + 1, 4, none⟩ = some (.int .i64 1) := hrow.cell 4
  simp [Leaves, settle, results, Tryz.results82, go_sem, b0, b1, b2, b3, b4]
  exact ⟨AOutIs.ill _ _ _, hk.toBelow HB1.out HB1.out.size (by simp)⟩

set_option maxRecDepth 100000 in
set_option maxHeartbeats 8000000 in
theorem implAPut_rest (vs vp : Value) (xs : List ByteArray) (ps : List (Int × ByteArray)) (d : ByteArray) (a : Int) (aF aR aU : Addr) (w : World) (hn : xs.length ≤ 1048576) (hn2 : ps.length ≤ 1048576) (hr : Reads w vs xs) (hp : ReadsP w vp ps) (hS : Sents aF aR aU w) (hd : d.size ≤ 8000) (hok : right xs ps = true)
    (HRA : ∀ (vs vp : Value) (w' : World), Below w.heap.size w w' → Reads w' vs xs → ReadsP w' vp ps → Calls Tryz.prog 94 #[.agg #[vs, vp]] w' fun e w'' => AreaIs e xs ps ∧ Below w'.heap.size w' w'') :
    Calls Tryz.prog 82 #[.agg #[vs, vp], .string d, .int .i64 a] w fun e w' => AOutIs w.heap.size e w' (putOut xs ps d a) ∧ Below w.heap.size w w' := by
  have hz' : decide ((8000 : Int) < (d.size : Int)) = false := decide_eq_false (by omega)
  have HRAh := hide HRA
  have HOK := hide hok
  have hlen := right_ge hok
  clear HRA hok
  have hmf : ∀ (fn : Fn) (first cap : Array Value) (w : World), (Instr.makeFunc fn first cap).run Tryz.prog w = .ok (.func fn first cap) w := fun _ _ _ _ => rfl
  have hb0 : Below w.heap.size w ((w.alloc (.cells #[vs, vp] 30)).alloc (.cells #[.slice none 0 0, .slice none 0 0, .string ⟨#[]⟩, .int .i64 0, .int .i64 0] 63)) :=
    ((Below.refl _ _).alloc (Nat.le_refl _) _).alloc (by simp) _
  have HR := hide (hr.below hb0 (Nat.le_refl _))
  have HP := hide (hp.below hb0 (Nat.le_refl _))
  have HRw := hide hr
  have HPw := hide hp
  have HS := hide (Stab.go hb0 hS)
  have HSw := hide hS
  have HB0 := hide hb0
  obtain ⟨p1, c1, rfl, hq⟩ := hr
  obtain ⟨p2, c2, rfl, hq2⟩ := hp
  have R0 := (row_new w [.slice p1 xs.length c1, .slice p2 ps.length c2] 30).alloc (.cells #[.slice none 0 0, .slice none 0 0, .string ⟨#[]⟩, .int .i64 0, .int .i64 0] 63)
  have R1 := row_new (w.alloc (.cells #[.slice p1 xs.length c1, .slice p2 ps.length c2] 30)) [.slice none 0 0, .slice none 0 0, .string ⟨#[]⟩, .int .i64 0, .int .i64 0] 63
  simp only [World.size_alloc] at R1
  have HR0 := hide R0
  have HR1 := hide R1
  clear hb0 hq hq2 R1 R0 hS
  obtain ⟨y, Hy⟩ : ∃ y, Hid (y = putOut xs ps d a) := ⟨_, rfl⟩
  rw [← Hy.out]
  go_enter_defers Tryz.func82, Tryz.ntmps82
  go_wp2_with fail
  refine (refuse_no 2 _).mono ?_
  rintro e w0 ⟨rfl, rfl⟩
  go_wp2_with fail
  refine (refuseDisk_any _ _ xs ps aF aR aU _ hn hn2 HR.out HP.out HS.out).mono ?_
  rw [HOK.out]
  rintro e w1 ⟨he, hb1⟩
  simp only [if_true] at he
  subst he
  have HB1 := hide (HB0.out.trans (hb1.mono HB0.out.size))
  have HX1 := hide (HR1.out.below hb1 (by simp))
  have HY1 := hide (HR0.out.below hb1 (by simp; omega))
  clear hb1
  have a0 : w1.cell? ⟨w.heap.size, 0, none⟩ = some (.slice p1 xs.length c1) := HY1.out.cell 0
  have a1 : w1.cell? ⟨w.heap.size, 1, none⟩ = some (.slice p2 ps.length c2) := HY1.out.cell 1
  obtain ⟨x, Hx⟩ : ∃ x, Hid (x = areaOut xs ps) := ⟨_, rfl⟩
  go_wp2_with fail
  refine (HRAh.out _ _ _ HB1.out (HRw.out.below HB1.out (Nat.le_refl _)) (HPw.out.below HB1.out (Nat.le_refl _))).mono ?_
  rintro e w2 ⟨hA, hb2⟩
  unfold AreaIs at hA
  rw [← Hx.out] at hA
  have HB2 := hide (HB1.out.trans (hb2.mono HB1.out.size))
  have HX2 := hide (Row.after hb2 HX1.out)
  have HY2 := hide (Row.after hb2 HY1.out)
  clear hb2 a0 a1
  rcases hA with ⟨hc, rfl⟩ | ⟨hc, rfl⟩
  · obtain ⟨hs0, hg, hxx, hpp⟩ := areaOut_ok HOK.out (by rw [← Hx.out]; exact hc)
    have hsk := seen_ok hs0
    rw [← Hx.out] at hg hxx hpp
    obtain ⟨r, Hr⟩ : ∃ r, Hid (r = seen xs ps) := ⟨_, rfl⟩
    rw [← Hr.out] at hg hsk ⊢
    obtain ⟨gen, side, size, code⟩ := r
    simp only at hg hsk ⊢
    have HSK := hide hsk
    have HHC := hide hc
    have HHG := hide hg
    have hh : 0 ≤ half xs.length ∧ half xs.length ≤ 1048576 := by unfold half; omega
    have HF0 := hide (show y = if 64 * half xs.length < (d.size : Int) ∨ 1000000 ≤ gen then aill 9 else if (runOut ((putList (half xs.length) side gen d).take a.toNat) xs ps).c = 0 then ⟨(runOut ((putList (half xs.length) side gen d).take a.toNat) xs ps).xs, (runOut ((putList (half xs.length) side gen d).take a.toNat) xs ps).ps, ⟨#[]⟩, 0, 0⟩ else aill (runOut ((putList (half xs.length) side gen d).take a.toNat) xs ps).c by
      rw [Hy.out]; unfold putOut; rw [if_neg (by omega), HOK.out, if_neg (by simp), ← Hx.out, ← Hr.out, if_neg (fun h => h hc), hg])
    obtain ⟨W, hW⟩ : ∃ W, W = w2.alloc (.cells #[.int .i64 gen, .int .i64 side, .int .i64 size] 114) := ⟨_, rfl⟩
    have HBW := hide (show Below w.heap.size w W by rw [hW]; exact HB2.out.alloc HB2.out.size _)
    have HXW := hide (show Row W (w.heap.size + 1) 63 [.slice none 0 0, .slice none 0 0, .string ⟨#[]⟩, .int .i64 0, .int .i64 0] by rw [hW]; exact HX2.out.alloc _)
    have HYW := hide (show Row W w.heap.size 30 [.slice p1 xs.length c1, .slice p2 ps.length c2] by rw [hW]; exact HY2.out.alloc _)
    have HHW := hide (show Row W w2.heap.size 114 [.int .i64 gen, .int .i64 side, .int .i64 size] by rw [hW]; exact row_new w2 _ _)
    have e0 : (w2.alloc (.cells #[.int .i64 gen, .int .i64 side, .int .i64 size] 114)).cell? ⟨w.heap.size, 0, none⟩ = some (.slice p1 xs.length c1) := by rw [← hW]; exact HYW.out.cell 0
    have e1 : (w2.alloc (.cells #[.int .i64 gen, .int .i64 side, .int .i64 size] 114)).cell? ⟨w.heap.size, 1, none⟩ = some (.slice p2 ps.length c2) := by rw [← hW]; exact HYW.out.cell 1
    clear hc hg hxx hpp hs0 hsk
    go_wp2_with fail
    rw [← hW]
    clear hW e0 e1
    refine (sideRoom_any _ _ xs _ hlen.1 hn (HRw.out.below HBW.out (Nat.le_refl _))).mono ?_
    rintro e w3 ⟨rfl, hb3⟩
    have HB3 := hide (HBW.out.trans (hb3.mono HBW.out.size))
    have HX3 := hide (Row.after hb3 HXW.out)
    have HY3 := hide (Row.after hb3 HYW.out)
    have HH3 := hide (Row.after hb3 HHW.out)
    have h0 : w3.cell? ⟨w2.heap.size, 0, none⟩ = some (.int .i64 gen) := HH3.out.cell 0
    have h1 : w3.cell? ⟨w2.heap.size, 1, none⟩ = some (.int .i64 side) := HH3.out.cell 1
    have g0 : w3.cell? ⟨w.heap.size, 0, none⟩ = some (.slice p1 xs.length c1) := HY3.out.cell 0
    have g1 : w3.cell? ⟨w.heap.size, 1, none⟩ = some (.slice p2 ps.length c2) := HY3.out.cell 1
    clear hb3 HXW HYW HHW
    by_cases hroom : 64 * half xs.length < (d.size : Int)
    · have HF := hide (show y = aill 9 by rw [HF0.out, if_pos (.inl hroom)])
      have hrd : decide (64 * half xs.length < (d.size : Int)) = true := decide_eq_true hroom
      go_wp2_with fail
      refine (refuse_yes 9 _).mono ?_
      rintro e w4 ⟨rfl, rfl⟩
      go_wp2
      refine leaves_cons (f := 105) (args := #[.pointer (some ⟨w.heap.size + 1, 0, none⟩)]) (by simp) (by simp [go_sem]) ?_
      refine (putCatch_panic _ _ _ _ _ _ _ _ _ _ 9 [] _ HX3.out).mono ?_
      rintro e u' wd ⟨rfl, rfl, hrow, hk⟩
      have b0 : wd.cell? ⟨w.heap.size + 1, 0, none⟩ = some (.slice none 0 0) := hrow.cell 0
      have b1 : wd.cell? ⟨w.heap.size + 1, 1, none⟩ = some (.slice none 0 0) := hrow.cell 1
      have b2 : wd.cell? ⟨w.heap.size + 1, 2, none⟩ = some (.string ⟨#[]⟩) := hrow.cell 2
      have b3 : wd.cell? ⟨w.heap.size + 1, 3, none⟩ = some (.int .i64 0) := hrow.cell 3
      have b4 : wd.cell? ⟨w.heap.size + 1, 4, none⟩ = some (.int .i64 9) := hrow.cell 4
      simp [Leaves, settle, results, Tryz.results82, go_sem, b0, b1, b2, b3, b4]
      exact ⟨by rw [HF.out]; exact AOutIs.ill _ _ _, hk.toBelow HB3.out HB3.out.size (by simp)⟩
    · have hrd : decide (64 * half xs.length < (d.size : Int)) = false := decide_eq_false hroom
      by_cases hgen : 1000000 ≤ gen
      · have HF := hide (show y = aill 9 by rw [HF0.out, if_pos (.inr hgen)])
        have hgd : decide (1000000 ≤ gen) = true := decide_eq_true hgen
        go_wp2_with fail
        refine (refuse_yes 9 _).mono ?_
        rintro e w4 ⟨rfl, rfl⟩
        go_wp2
        refine leaves_cons (f := 105) (args := #[.pointer (some ⟨w.heap.size + 1, 0, none⟩)]) (by simp) (by simp [go_sem]) ?_
        refine (putCatch_panic _ _ _ _ _ _ _ _ _ _ 9 [] _ HX3.out).mono ?_
        rintro e u' wd ⟨rfl, rfl, hrow, hk⟩
        have b0 : wd.cell? ⟨w.heap.size + 1, 0, none⟩ = some (.slice none 0 0) := hrow.cell 0
        have b1 : wd.cell? ⟨w.heap.size + 1, 1, none⟩ = some (.slice none 0 0) := hrow.cell 1
        have b2 : wd.cell? ⟨w.heap.size + 1, 2, none⟩ = some (.string ⟨#[]⟩) := hrow.cell 2
        have b3 : wd.cell? ⟨w.heap.size + 1, 3, none⟩ = some (.int .i64 0) := hrow.cell 3
        have b4 : wd.cell? ⟨w.heap.size + 1, 4, none⟩ = some (.int .i64 9) := hrow.cell 4
        simp [Leaves, settle, results, Tryz.results82, go_sem, b0, b1, b2, b3, b4]
        exact ⟨by rw [HF.out]; exact AOutIs.ill _ _ _, hk.toBelow HB3.out HB3.out.size (by simp)⟩
      · have hgd : decide (1000000 ≤ gen) = false := decide_eq_false hgen
        obtain ⟨k1, ⟨k2, k3⟩, _, _⟩ := HSK.out
        have hwg : IntKind.i64.wrap (gen + 1) = gen + 1 := by rw [IntKind.wrap_i64]; omega
        have hws : IntKind.i64.wrap (1 - side) = 1 - side := by rw [IntKind.wrap_i64]; omega
        obtain ⟨o, Ho⟩ : ∃ o, Hid (o = runOut ((putList (half xs.length) side gen d).take a.toNat) xs ps) := ⟨_, rfl⟩
        have HF := hide (show y = if o.c = 0 then ⟨o.xs, o.ps, ⟨#[]⟩, 0, 0⟩ else aill o.c by rw [HF0.out, if_neg (by omega), Ho.out])
        have HGS := hide (show (0 ≤ 1 - side ∧ 1 - side ≤ 1) ∧ (0 ≤ gen + 1 ∧ gen + 1 ≤ 1000001) by omega)
        have b3 := HB3.out.alloc HB3.out.size (.cells #[.int .i64 (gen + 1), .int .i64 (1 - side), .int .i64 d.size] 114)
        have HB3a := hide b3
        have HX3a := hide (HX3.out.alloc (.cells #[.int .i64 (gen + 1), .int .i64 (1 - side), .int .i64 d.size] 114))
        have HY3a := hide (HY3.out.alloc (.cells #[.int .i64 (gen + 1), .int .i64 (1 - side), .int .i64 d.size] 114))
        have m0 : (w3.alloc (.cells #[.int .i64 (gen + 1), .int .i64 (1 - side), .int .i64 d.size] 114)).cell? ⟨w.heap.size, 0, none⟩ = some (.slice p1 xs.length c1) := HY3a.out.cell 0
        have m1 : (w3.alloc (.cells #[.int .i64 (gen + 1), .int .i64 (1 - side), .int .i64 d.size] 114)).cell? ⟨w.heap.size, 1, none⟩ = some (.slice p2 ps.length c2) := HY3a.out.cell 1
        clear b3 k1 k2 k3 hroom hgen
        go_wp2_with fail
        refine (refuse_no 9 _).mono ?_
        rintro e w3' ⟨rfl, rfl⟩
        go_wp2_with fail
        refine (putSteps_any _ _ xs (gen + 1) (1 - side) d _ hlen.1 hlen.2 HGS.out.1 HGS.out.2 hd (HRw.out.below HB3a.out (Nat.le_refl _)) ⟨_, _, _, rfl⟩).mono ?_
        rw [← putList_eq]
        obtain ⟨PL, HPL⟩ : ∃ PL, Hid (PL = putList (half xs.length) side gen d) := ⟨_, rfl⟩
        have hPL : PL.length = cuts d + 3 := by rw [HPL.out]; exact putList_len _ _ _ _
        rw [← HPL.out] at Ho ⊢
        rintro e w4 ⟨⟨v, rfl, hrt⟩, hb4⟩
        have HRT := hide hrt
        obtain ⟨pl, cl, rfl, hcl, hcm, _, hpp⟩ := hrt
        obtain ⟨gl, ol, rfl, _, _⟩ := hpp (by omega)
        have HB4 := hide (HB3a.out.trans (hb4.mono HB3a.out.size))
        have HX4 := hide (Row.after hb4 HX3a.out)
        have HY4 := hide (Row.after hb4 HY3a.out)
        have hcd : cuts d ≤ 200 := by unfold cuts; omega
        have hlt4 := HX4.out.lt
        have HSS := hide (show ∀ x', Kept [w.heap.size + 1] w4 x' → x'.cell? ⟨w.heap.size, 0, none⟩ = some (.slice p1 xs.length c1) ∧ x'.cell? ⟨w.heap.size, 1, none⟩ = some (.slice p2 ps.length c2) ∧ Kept [w.heap.size + 1] w4 x' from
          fun x' h => ⟨(h.row HY4.out (by simp)).cell 0, (h.row HY4.out (by simp)).cell 1, h⟩)
        rw [hPL] at HRT hcl ⊢
        obtain ⟨N, hN⟩ : ∃ N, N = cuts d + 3 := ⟨_, rfl⟩
        rw [← hN] at HRT hcl hPL ⊢
        have hNb : N ≤ 203 := by omega
        have hN3 : (3 : Int) ≤ (N : Int) := by omega
        have hcn : (N : Int) ≤ (cl : Int) := by omega
        clear hb4 h0 h1 g0 g1 m0 m1 hN
        obtain ⟨T, HT⟩ : ∃ T : Nat, T = min a.toNat N := ⟨_, rfl⟩
        have HTK := hide (show (PL.take T) = PL.take a.toNat by rw [HT, ← hPL, List.take_eq_take_iff]; omega)
        have HRS := hide (readsT_take HRT.out T (by omega))
        have hTN : (T : Int) ≤ (N : Int) := by omega
        have hT0 : (0 : Int) ≤ (T : Int) := by omega
        have hTc : (T : Int) ≤ (cl : Int) := by omega
        by_cases ha : a < 0
        · have hT : T = 0 := by omega
          clear HT
          subst hT
          have hn0 : (0 : Int) ≤ (cl : Int) := by omega
          have hn1 : (0 : Int) < (N : Int) := by omega
          by_cases hoc : o.c = 0
          · have HOC := hide hoc
            have HFF := hide (show y = ⟨o.xs, o.ps, ⟨#[]⟩, 0, 0⟩ by rw [HF.out, if_pos hoc])
            clear hoc
            go_wp2_with fail
            refine wp_region_held (S := fun x' : World => x'.cell? ⟨w.heap.size, 0, none⟩ = some (.slice p1 xs.length c1) ∧ x'.cell? ⟨w.heap.size, 1, none⟩ = some (.slice p2 ps.length c2) ∧ Kept [w.heap.size + 1] w4 x') (by kernel_rfl) ?_
            have HS := hide (HSS.out { w4 with drawn := w4.drawn + 1 } ((Kept.refl _ _).drew))
            refine wpAnyH_take (i := 0) (oi := _) (v := .agg #[.slice p1 xs.length c1, .slice p2 ps.length c2]) rfl (by kernel_rfl) (by kernel_rfl) (by kernel_rfl) (fun c a w h => putHang 47 (by decide) _ c a w h) (Or.inl ⟨by rfl, by intro w hSw; go_split_ands; go_simp <;> omega⟩) HS.out ?_
            simp only [Act.put, List.getElem_toArray, List.getElem_cons_zero, List.setIfInBounds_toArray, List.set_cons_zero, List.set_cons_succ]
            refine wpAnyH_take (i := 1) (oi := _) (v := .slice (some ⟨gl, ol, none⟩) N cl) rfl (by kernel_rfl) (by kernel_rfl) (by kernel_rfl) (fun c a w h => putHang 48 (by decide) _ c a w h) (Or.inl ⟨by rfl, by intro w hSw; go_split_ands; go_simp <;> omega⟩) HS.out ?_
            simp only [Act.put, List.getElem_toArray, List.getElem_cons_zero, List.getElem_cons_succ, List.setIfInBounds_toArray, List.set_cons_zero, List.set_cons_succ]
            refine wpAnyH_take (i := 2) (oi := _) (v := .int .i64 a) rfl (by kernel_rfl) (by kernel_rfl) (by kernel_rfl) (fun c a w h => putHang 49 (by decide) _ c a w h) (Or.inl ⟨by rfl, by intro w hSw; go_split_ands; go_simp <;> omega⟩) HS.out ?_
            simp only [Act.put, List.getElem_toArray, List.getElem_cons_zero, List.getElem_cons_succ, List.setIfInBounds_toArray, List.set_cons_zero, List.set_cons_succ]
            refine wpAnyH_take (i := 3) (oi := _) (v := .int .i64 (0)) rfl (by kernel_rfl) (by kernel_rfl) (by kernel_rfl) (fun c a w h => putHang 50 (by decide) _ c a w h) (Or.inl ⟨by rfl, by intro w hSw; go_split_ands; go_simp <;> omega⟩) HS.out ?_
            simp only [Act.put, List.getElem_toArray, List.getElem_cons_zero, List.getElem_cons_succ, List.setIfInBounds_toArray, List.set_cons_zero, List.set_cons_succ]
            refine wpAnyH_take (i := 4) (oi := _) (v := .slice (some ⟨gl, ol, none⟩) N cl) rfl (by kernel_rfl) (by kernel_rfl) (by kernel_rfl) (fun c a w h => putHang 51 (by decide) _ c a w h) (Or.inl ⟨by rfl, by intro w hSw; go_split_ands; go_simp <;> omega⟩) HS.out ?_
            simp only [Act.put, List.getElem_toArray, List.getElem_cons_zero, List.getElem_cons_succ, List.setIfInBounds_toArray, List.set_cons_zero, List.set_cons_succ]
            refine wpAnyH_take (i := 5) (oi := _) (v := .int .i64 N) rfl (by kernel_rfl) (by kernel_rfl) (by kernel_rfl) (fun c a w h => putHang 52 (by decide) _ c a w h) (Or.inl ⟨by rfl, by intro w hSw; go_split_ands; go_simp <;> omega⟩) HS.out ?_
            simp only [Act.put, List.getElem_toArray, List.getElem_cons_zero, List.getElem_cons_succ, List.setIfInBounds_toArray, List.set_cons_zero, List.set_cons_succ]
            refine wpAnyH_take (i := 6) (oi := _) (v := .int .i64 (0)) rfl (by kernel_rfl) (by kernel_rfl) (by kernel_rfl) (fun c a w h => putHang 53 (by decide) _ c a w h) (Or.inl ⟨by rfl, by intro w hSw; go_split_ands; go_simp <;> omega⟩) HS.out ?_
            simp only [Act.put, List.getElem_toArray, List.getElem_cons_zero, List.getElem_cons_succ, List.setIfInBounds_toArray, List.set_cons_zero, List.set_cons_succ]
            refine wpAnyH_take (i := 7) (oi := _) (v := .slice (some ⟨gl, ol, none⟩) 0 cl) rfl (by kernel_rfl) (by kernel_rfl) (by kernel_rfl) (fun c a w h => putHang 54 (by decide) _ c a w h) (Or.inl ⟨by rfl, by intro w hSw; go_split_ands; go_simp <;> omega⟩) HS.out ?_
            simp only [Act.put, List.getElem_toArray, List.getElem_cons_zero, List.getElem_cons_succ, List.setIfInBounds_toArray, List.set_cons_zero, List.set_cons_succ]
            refine wpAnyH_ready (rs := [8]) (by kernel_rfl) (by simp) ?_
            refine AllReadyH.cons (o := _) rfl (fun K hK => ?_) AllReadyH.nil
            go_simp
            refine (runSteps_any _ _ _ xs ps (PL.take 0) aF aR aU _ HOK.out (by rw [List.length_take]; omega) (HRw.out.below HB4.out.drew (Nat.le_refl _)) (HPw.out.below HB4.out.drew (Nat.le_refl _)) (HRS.out.below ((Below.refl _ _).drew) (Nat.le_refl _)) (Stab.go HB4.out.drew HSw.out)).mono ?_
            rw [HTK.out, ← Ho.out]
            rintro e w7 ⟨hst, hb7⟩
            obtain ⟨_, us, up, rfl, o1, o2, dd⟩ := Or.resolve_right hst (fun h => h.1 HOC.out)
            have hK7 : Kept [w.heap.size + 1] w4 w7 := (Kept.ofBelow (below_drew hb7)).mono (by simp)
            obtain ⟨s1, s2, s3, rfl⟩ := o1.isSlice
            obtain ⟨s4, s5, s6, rfl⟩ := o2.isSlice
            have r7 : Row w7 (w.heap.size + 1) 63 [.slice none 0 0, .slice none 0 0, .string ⟨#[]⟩, .int .i64 0, .int .i64 0] := Row.after hb7 HX4.out.drew
            have d0 : w7.cell? ⟨w.heap.size + 1, 0, none⟩ = some (.slice none 0 0) := r7.cell 0
            have d1 : w7.cell? ⟨w.heap.size + 1, 1, none⟩ = some (.slice none 0 0) := r7.cell 1
            have d2 : w7.cell? ⟨w.heap.size + 1, 2, none⟩ = some (.string ⟨#[]⟩) := r7.cell 2
            have d3 : w7.cell? ⟨w.heap.size + 1, 3, none⟩ = some (.int .i64 0) := r7.cell 3
            have d4 : w7.cell? ⟨w.heap.size + 1, 4, none⟩ = some (.int .i64 0) := r7.cell 4
            have f0 := r7.free 0
            have f1 := r7.free 1
            have f2 := r7.free 2
            have f3 := r7.free 3
            have f4 := r7.free 4
            have HR7 := hide r7
            have HB7 := hide (HB4.out.trans ((below_drew hb7).mono HB4.out.size))
            have O1 := hide o1
            have O2 := hide o2
            have DD := hide dd
            obtain ⟨q0, q1, q2, q3, q4, KF⟩ := five HR7.out (.slice s1 s2 s3) (.slice s4 s5 s6) (.string ⟨#[]⟩) (.int .i64 0) (.int .i64 0)
            have HRow := hide (((((HR7.out.set (j := 0) (.slice s1 s2 s3)).set (j := 1) (.slice s4 s5 s6)).set (j := 2) (.string ⟨#[]⟩)).set (j := 3) (.int .i64 0)).set (j := 4) (.int .i64 0))
            have HKF := hide KF
            clear hb7 r7 o1 o2 dd hst q0 q1 q2 q3 q4 KF
            refine hK.out _ _ (HSS.out _ hK7) (fun _ => ?_)
            clear hK K
            have HS := hide (HSS.out _ hK7)
            refine wpAnyH_take (i := 9) (oi := _) (v := .agg #[.slice s1 s2 s3, .slice s4 s5 s6, .string ⟨#[]⟩, .int .i64 0, .int .i64 0]) rfl (by kernel_rfl) (by kernel_rfl) (by kernel_rfl) (fun c a w h => putHang 56 (by decide) _ c a w h) (Or.inl ⟨by rfl, by intro w hSw; go_split_ands; go_simp <;> omega⟩) HS.out ?_
            simp only [Act.put, List.getElem_toArray, List.getElem_cons_zero, List.getElem_cons_succ, List.setIfInBounds_toArray, List.set_cons_zero, List.set_cons_succ]
            refine wpAnyH_ready (rs := [10]) (by kernel_rfl) (by simp) ?_
            refine AllReadyH.cons (o := _) rfl (fun K hK => ?_) AllReadyH.nil
            go_simp
            refine hK.out _ _ (HSS.out _ (hK7.trans HKF.out)) (fun _ => ?_)
            clear hK K d0 d1 d2 d3 d4 f0 f1 f2 f3 f4 HS
            refine wpAnyH_done (by kernel_rfl) ?_ _
            go_wp2
            refine leaves_cons (f := 105) (args := #[.pointer (some ⟨w.heap.size + 1, 0, none⟩)]) (by simp) (by simp [go_sem]) ?_
            refine (putCatch_idle (w.heap.size + 1) s1 s4 s2 s3 s5 s6 ⟨#[]⟩ 0 0 _ HRow.out).mono ?_
            rintro e u' wd ⟨rfl, rfl, hrow, hk⟩
            have b0 : wd.cell? ⟨w.heap.size + 1, 0, none⟩ = some (.slice s1 s2 s3) := hrow.cell 0
            have b1 : wd.cell? ⟨w.heap.size + 1, 1, none⟩ = some (.slice s4 s5 s6) := hrow.cell 1
            have b2 : wd.cell? ⟨w.heap.size + 1, 2, none⟩ = some (.string ⟨#[]⟩) := hrow.cell 2
            have b3 : wd.cell? ⟨w.heap.size + 1, 3, none⟩ = some (.int .i64 0) := hrow.cell 3
            have b4 : wd.cell? ⟨w.heap.size + 1, 4, none⟩ = some (.int .i64 0) := hrow.cell 4
            have K2 := HKF.out.trans hk
            simp [Leaves, settle, results, Tryz.results82, go_sem, b0, b1, b2, b3, b4]
            refine ⟨?_, K2.toBelow HB7.out HB7.out.size (by simp)⟩
            rw [HFF.out]
            exact ⟨_, _, rfl, (O1.out.kept K2 (fun y' hy => by have := (O1.out.leads y' hy).1; simp at this ⊢; omega)).mono HB4.out.size, (O2.out.kept K2 (fun y' hy => by have := (O2.out.leads y' hy).1; simp at this ⊢; omega)).mono HB4.out.size, DD.out⟩
          · have HOC := hide hoc
            have HFF := hide (show y = aill o.c by rw [HF.out, if_neg hoc])
            obtain ⟨oc, hoc'⟩ : ∃ c, c = o.c := ⟨_, rfl⟩
            rw [← hoc'] at HFF
            have HOCE := hide hoc'
            clear hoc hoc'
            go_wp2_with fail
            refine wp_region_held (S := fun x' : World => x'.cell? ⟨w.heap.size, 0, none⟩ = some (.slice p1 xs.length c1) ∧ x'.cell? ⟨w.heap.size, 1, none⟩ = some (.slice p2 ps.length c2) ∧ Kept [w.heap.size + 1] w4 x') (by kernel_rfl) ?_
            have HS := hide (HSS.out { w4 with drawn := w4.drawn + 1 } ((Kept.refl _ _).drew))
            refine wpAnyH_take (i := 0) (oi := _) (v := .agg #[.slice p1 xs.length c1, .slice p2 ps.length c2]) rfl (by kernel_rfl) (by kernel_rfl) (by kernel_rfl) (fun c a w h => putHang 47 (by decide) _ c a w h) (Or.inl ⟨by rfl, by intro w hSw; go_split_ands; go_simp <;> omega⟩) HS.out ?_
            simp only [Act.put, List.getElem_toArray, List.getElem_cons_zero, List.setIfInBounds_toArray, List.set_cons_zero, List.set_cons_succ]
            refine wpAnyH_take (i := 1) (oi := _) (v := .slice (some ⟨gl, ol, none⟩) N cl) rfl (by kernel_rfl) (by kernel_rfl) (by kernel_rfl) (fun c a w h => putHang 48 (by decide) _ c a w h) (Or.inl ⟨by rfl, by intro w hSw; go_split_ands; go_simp <;> omega⟩) HS.out ?_
            simp only [Act.put, List.getElem_toArray, List.getElem_cons_zero, List.getElem_cons_succ, List.setIfInBounds_toArray, List.set_cons_zero, List.set_cons_succ]
            refine wpAnyH_take (i := 2) (oi := _) (v := .int .i64 a) rfl (by kernel_rfl) (by kernel_rfl) (by kernel_rfl) (fun c a w h => putHang 49 (by decide) _ c a w h) (Or.inl ⟨by rfl, by intro w hSw; go_split_ands; go_simp <;> omega⟩) HS.out ?_
            simp only [Act.put, List.getElem_toArray, List.getElem_cons_zero, List.getElem_cons_succ, List.setIfInBounds_toArray, List.set_cons_zero, List.set_cons_succ]
            refine wpAnyH_take (i := 3) (oi := _) (v := .int .i64 (0)) rfl (by kernel_rfl) (by kernel_rfl) (by kernel_rfl) (fun c a w h => putHang 50 (by decide) _ c a w h) (Or.inl ⟨by rfl, by intro w hSw; go_split_ands; go_simp <;> omega⟩) HS.out ?_
            simp only [Act.put, List.getElem_toArray, List.getElem_cons_zero, List.getElem_cons_succ, List.setIfInBounds_toArray, List.set_cons_zero, List.set_cons_succ]
            refine wpAnyH_take (i := 4) (oi := _) (v := .slice (some ⟨gl, ol, none⟩) N cl) rfl (by kernel_rfl) (by kernel_rfl) (by kernel_rfl) (fun c a w h => putHang 51 (by decide) _ c a w h) (Or.inl ⟨by rfl, by intro w hSw; go_split_ands; go_simp <;> omega⟩) HS.out ?_
            simp only [Act.put, List.getElem_toArray, List.getElem_cons_zero, List.getElem_cons_succ, List.setIfInBounds_toArray, List.set_cons_zero, List.set_cons_succ]
            refine wpAnyH_take (i := 5) (oi := _) (v := .int .i64 N) rfl (by kernel_rfl) (by kernel_rfl) (by kernel_rfl) (fun c a w h => putHang 52 (by decide) _ c a w h) (Or.inl ⟨by rfl, by intro w hSw; go_split_ands; go_simp <;> omega⟩) HS.out ?_
            simp only [Act.put, List.getElem_toArray, List.getElem_cons_zero, List.getElem_cons_succ, List.setIfInBounds_toArray, List.set_cons_zero, List.set_cons_succ]
            refine wpAnyH_take (i := 6) (oi := _) (v := .int .i64 (0)) rfl (by kernel_rfl) (by kernel_rfl) (by kernel_rfl) (fun c a w h => putHang 53 (by decide) _ c a w h) (Or.inl ⟨by rfl, by intro w hSw; go_split_ands; go_simp <;> omega⟩) HS.out ?_
            simp only [Act.put, List.getElem_toArray, List.getElem_cons_zero, List.getElem_cons_succ, List.setIfInBounds_toArray, List.set_cons_zero, List.set_cons_succ]
            refine wpAnyH_take (i := 7) (oi := _) (v := .slice (some ⟨gl, ol, none⟩) 0 cl) rfl (by kernel_rfl) (by kernel_rfl) (by kernel_rfl) (fun c a w h => putHang 54 (by decide) _ c a w h) (Or.inl ⟨by rfl, by intro w hSw; go_split_ands; go_simp <;> omega⟩) HS.out ?_
            simp only [Act.put, List.getElem_toArray, List.getElem_cons_zero, List.getElem_cons_succ, List.setIfInBounds_toArray, List.set_cons_zero, List.set_cons_succ]
            refine wpAnyH_ready (rs := [8]) (by kernel_rfl) (by simp) ?_
            refine AllReadyH.cons (o := _) rfl (fun K hK => ?_) AllReadyH.nil
            go_simp
            refine (runSteps_any _ _ _ xs ps (PL.take 0) aF aR aU _ HOK.out (by rw [List.length_take]; omega) (HRw.out.below HB4.out.drew (Nat.le_refl _)) (HPw.out.below HB4.out.drew (Nat.le_refl _)) (HRS.out.below ((Below.refl _ _).drew) (Nat.le_refl _)) (Stab.go HB4.out.drew HSw.out)).mono ?_
            rw [HTK.out, ← Ho.out]
            rintro e w7 ⟨hst, hb7⟩
            obtain ⟨_, rfl⟩ := Or.resolve_left hst (fun h => HOC.out h.1)
            rw [← HOCE.out]
            have HB7 := hide (HB4.out.trans ((below_drew hb7).mono HB4.out.size))
            have HX7 := hide (Row.after hb7 HX4.out.drew)
            clear hb7 hst
            show bodyPostD _ _ _ (.panic _) _ _
            refine leaves_cons (f := 105) (args := #[.pointer (some ⟨w.heap.size + 1, 0, none⟩)]) (by simp) (by simp [go_sem]) ?_
            refine (putCatch_panic _ _ _ _ _ _ _ _ _ _ oc [] _ HX7.out).mono ?_
            rintro e u' wd ⟨rfl, rfl, hrow, hk⟩
            have b0 : wd.cell? ⟨w.heap.size + 1, 0, none⟩ = some (.slice none 0 0) := hrow.cell 0
            have b1 : wd.cell? ⟨w.heap.size + 1, 1, none⟩ = some (.slice none 0 0) := hrow.cell 1
            have b2 : wd.cell? ⟨w.heap.size + 1, 2, none⟩ = some (.string ⟨#[]⟩) := hrow.cell 2
            have b3 : wd.cell? ⟨w.heap.size + 1, 3, none⟩ = some (.int .i64 0) := hrow.cell 3
            have b4 : wd.cell? ⟨w.heap.size + 1, 4, none⟩ = some (.int .i64 oc) := hrow.cell 4
            simp [Leaves, settle, results, Tryz.results82, go_sem, b0, b1, b2, b3, b4]
            exact ⟨by rw [HFF.out]; exact AOutIs.ill _ _ _, hk.toBelow HB7.out HB7.out.size (by simp)⟩
        · by_cases hb : a < (N : Int)
          · have hT : (T : Int) = a := by omega
            have hle : (0 : Int) ≤ a := by omega
            have hac : a ≤ (cl : Int) := by omega
            have htn : a.toNat = T := by omega
            clear HT
            by_cases hoc : o.c = 0
            · have HOC := hide hoc
              have HFF := hide (show y = ⟨o.xs, o.ps, ⟨#[]⟩, 0, 0⟩ by rw [HF.out, if_pos hoc])
              clear hoc
              go_wp2_with fail
              refine wp_region_held (S := fun x' : World => x'.cell? ⟨w.heap.size, 0, none⟩ = some (.slice p1 xs.length c1) ∧ x'.cell? ⟨w.heap.size, 1, none⟩ = some (.slice p2 ps.length c2) ∧ Kept [w.heap.size + 1] w4 x') (by kernel_rfl) ?_
              have HS := hide (HSS.out { w4 with drawn := w4.drawn + 1 } ((Kept.refl _ _).drew))
              refine wpAnyH_take (i := 0) (oi := _) (v := .agg #[.slice p1 xs.length c1, .slice p2 ps.length c2]) rfl (by kernel_rfl) (by kernel_rfl) (by kernel_rfl) (fun c a w h => putHang 47 (by decide) _ c a w h) (Or.inl ⟨by rfl, by intro w hSw; go_split_ands; go_simp <;> omega⟩) HS.out ?_
              simp only [Act.put, List.getElem_toArray, List.getElem_cons_zero, List.setIfInBounds_toArray, List.set_cons_zero, List.set_cons_succ]
              refine wpAnyH_take (i := 1) (oi := _) (v := .slice (some ⟨gl, ol, none⟩) N cl) rfl (by kernel_rfl) (by kernel_rfl) (by kernel_rfl) (fun c a w h => putHang 48 (by decide) _ c a w h) (Or.inl ⟨by rfl, by intro w hSw; go_split_ands; go_simp <;> omega⟩) HS.out ?_
              simp only [Act.put, List.getElem_toArray, List.getElem_cons_zero, List.getElem_cons_succ, List.setIfInBounds_toArray, List.set_cons_zero, List.set_cons_succ]
              refine wpAnyH_take (i := 2) (oi := _) (v := .int .i64 a) rfl (by kernel_rfl) (by kernel_rfl) (by kernel_rfl) (fun c a w h => putHang 49 (by decide) _ c a w h) (Or.inl ⟨by rfl, by intro w hSw; go_split_ands; go_simp <;> omega⟩) HS.out ?_
              simp only [Act.put, List.getElem_toArray, List.getElem_cons_zero, List.getElem_cons_succ, List.setIfInBounds_toArray, List.set_cons_zero, List.set_cons_succ]
              refine wpAnyH_take (i := 3) (oi := _) (v := .int .i64 (a)) rfl (by kernel_rfl) (by kernel_rfl) (by kernel_rfl) (fun c a w h => putHang 50 (by decide) _ c a w h) (Or.inl ⟨by rfl, by intro w hSw; go_split_ands; go_simp <;> omega⟩) HS.out ?_
              simp only [Act.put, List.getElem_toArray, List.getElem_cons_zero, List.getElem_cons_succ, List.setIfInBounds_toArray, List.set_cons_zero, List.set_cons_succ]
              refine wpAnyH_take (i := 4) (oi := _) (v := .slice (some ⟨gl, ol, none⟩) N cl) rfl (by kernel_rfl) (by kernel_rfl) (by kernel_rfl) (fun c a w h => putHang 51 (by decide) _ c a w h) (Or.inl ⟨by rfl, by intro w hSw; go_split_ands; go_simp <;> omega⟩) HS.out ?_
              simp only [Act.put, List.getElem_toArray, List.getElem_cons_zero, List.getElem_cons_succ, List.setIfInBounds_toArray, List.set_cons_zero, List.set_cons_succ]
              refine wpAnyH_take (i := 5) (oi := _) (v := .int .i64 N) rfl (by kernel_rfl) (by kernel_rfl) (by kernel_rfl) (fun c a w h => putHang 52 (by decide) _ c a w h) (Or.inl ⟨by rfl, by intro w hSw; go_split_ands; go_simp <;> omega⟩) HS.out ?_
              simp only [Act.put, List.getElem_toArray, List.getElem_cons_zero, List.getElem_cons_succ, List.setIfInBounds_toArray, List.set_cons_zero, List.set_cons_succ]
              refine wpAnyH_take (i := 6) (oi := _) (v := .int .i64 (a)) rfl (by kernel_rfl) (by kernel_rfl) (by kernel_rfl) (fun c a w h => putHang 53 (by decide) _ c a w h) (Or.inl ⟨by rfl, by intro w hSw; go_split_ands; go_simp <;> omega⟩) HS.out ?_
              simp only [Act.put, List.getElem_toArray, List.getElem_cons_zero, List.getElem_cons_succ, List.setIfInBounds_toArray, List.set_cons_zero, List.set_cons_succ]
              refine wpAnyH_take (i := 7) (oi := _) (v := .slice (some ⟨gl, ol, none⟩) T cl) rfl (by kernel_rfl) (by kernel_rfl) (by kernel_rfl) (fun c a w h => putHang 54 (by decide) _ c a w h) (Or.inl ⟨by rfl, by intro w hSw; go_split_ands; go_simp <;> omega⟩) HS.out ?_
              simp only [Act.put, List.getElem_toArray, List.getElem_cons_zero, List.getElem_cons_succ, List.setIfInBounds_toArray, List.set_cons_zero, List.set_cons_succ]
              refine wpAnyH_ready (rs := [8]) (by kernel_rfl) (by simp) ?_
              refine AllReadyH.cons (o := _) rfl (fun K hK => ?_) AllReadyH.nil
              go_simp
              refine (runSteps_any _ _ _ xs ps (PL.take T) aF aR aU _ HOK.out (by rw [List.length_take]; omega) (HRw.out.below HB4.out.drew (Nat.le_refl _)) (HPw.out.below HB4.out.drew (Nat.le_refl _)) (HRS.out.below ((Below.refl _ _).drew) (Nat.le_refl _)) (Stab.go HB4.out.drew HSw.out)).mono ?_
              rw [HTK.out, ← Ho.out]
              rintro e w7 ⟨hst, hb7⟩
              obtain ⟨_, us, up, rfl, o1, o2, dd⟩ := Or.resolve_right hst (fun h => h.1 HOC.out)
              have hK7 : Kept [w.heap.size + 1] w4 w7 := (Kept.ofBelow (below_drew hb7)).mono (by simp)
              obtain ⟨s1, s2, s3, rfl⟩ := o1.isSlice
              obtain ⟨s4, s5, s6, rfl⟩ := o2.isSlice
              have r7 : Row w7 (w.heap.size + 1) 63 [.slice none 0 0, .slice none 0 0, .string ⟨#[]⟩, .int .i64 0, .int .i64 0] := Row.after hb7 HX4.out.drew
              have d0 : w7.cell? ⟨w.heap.size + 1, 0, none⟩ = some (.slice none 0 0) := r7.cell 0
              have d1 : w7.cell? ⟨w.heap.size + 1, 1, none⟩ = some (.slice none 0 0) := r7.cell 1
              have d2 : w7.cell? ⟨w.heap.size + 1, 2, none⟩ = some (.string ⟨#[]⟩) := r7.cell 2
              have d3 : w7.cell? ⟨w.heap.size + 1, 3, none⟩ = some (.int .i64 0) := r7.cell 3
              have d4 : w7.cell? ⟨w.heap.size + 1, 4, none⟩ = some (.int .i64 0) := r7.cell 4
              have f0 := r7.free 0
              have f1 := r7.free 1
              have f2 := r7.free 2
              have f3 := r7.free 3
              have f4 := r7.free 4
              have HR7 := hide r7
              have HB7 := hide (HB4.out.trans ((below_drew hb7).mono HB4.out.size))
              have O1 := hide o1
              have O2 := hide o2
              have DD := hide dd
              obtain ⟨q0, q1, q2, q3, q4, KF⟩ := five HR7.out (.slice s1 s2 s3) (.slice s4 s5 s6) (.string ⟨#[]⟩) (.int .i64 0) (.int .i64 0)
              have HRow := hide (((((HR7.out.set (j := 0) (.slice s1 s2 s3)).set (j := 1) (.slice s4 s5 s6)).set (j := 2) (.string ⟨#[]⟩)).set (j := 3) (.int .i64 0)).set (j := 4) (.int .i64 0))
              have HKF := hide KF
              clear hb7 r7 o1 o2 dd hst q0 q1 q2 q3 q4 KF
              refine hK.out _ _ (HSS.out _ hK7) (fun _ => ?_)
              clear hK K
              have HS := hide (HSS.out _ hK7)
              refine wpAnyH_take (i := 9) (oi := _) (v := .agg #[.slice s1 s2 s3, .slice s4 s5 s6, .string ⟨#[]⟩, .int .i64 0, .int .i64 0]) rfl (by kernel_rfl) (by kernel_rfl) (by kernel_rfl) (fun c a w h => putHang 56 (by decide) _ c a w h) (Or.inl ⟨by rfl, by intro w hSw; go_split_ands; go_simp <;> omega⟩) HS.out ?_
              simp only [Act.put, List.getElem_toArray, List.getElem_cons_zero, List.getElem_cons_succ, List.setIfInBounds_toArray, List.set_cons_zero, List.set_cons_succ]
              refine wpAnyH_ready (rs := [10]) (by kernel_rfl) (by simp) ?_
              refine AllReadyH.cons (o := _) rfl (fun K hK => ?_) AllReadyH.nil
              go_simp
              refine hK.out _ _ (HSS.out _ (hK7.trans HKF.out)) (fun _ => ?_)
              clear hK K d0 d1 d2 d3 d4 f0 f1 f2 f3 f4 HS
              refine wpAnyH_done (by kernel_rfl) ?_ _
              go_wp2
              refine leaves_cons (f := 105) (args := #[.pointer (some ⟨w.heap.size + 1, 0, none⟩)]) (by simp) (by simp [go_sem]) ?_
              refine (putCatch_idle (w.heap.size + 1) s1 s4 s2 s3 s5 s6 ⟨#[]⟩ 0 0 _ HRow.out).mono ?_
              rintro e u' wd ⟨rfl, rfl, hrow, hk⟩
              have b0 : wd.cell? ⟨w.heap.size + 1, 0, none⟩ = some (.slice s1 s2 s3) := hrow.cell 0
              have b1 : wd.cell? ⟨w.heap.size + 1, 1, none⟩ = some (.slice s4 s5 s6) := hrow.cell 1
              have b2 : wd.cell? ⟨w.heap.size + 1, 2, none⟩ = some (.string ⟨#[]⟩) := hrow.cell 2
              have b3 : wd.cell? ⟨w.heap.size + 1, 3, none⟩ = some (.int .i64 0) := hrow.cell 3
              have b4 : wd.cell? ⟨w.heap.size + 1, 4, none⟩ = some (.int .i64 0) := hrow.cell 4
              have K2 := HKF.out.trans hk
              simp [Leaves, settle, results, Tryz.results82, go_sem, b0, b1, b2, b3, b4]
              refine ⟨?_, K2.toBelow HB7.out HB7.out.size (by simp)⟩
              rw [HFF.out]
              exact ⟨_, _, rfl, (O1.out.kept K2 (fun y' hy => by have := (O1.out.leads y' hy).1; simp at this ⊢; omega)).mono HB4.out.size, (O2.out.kept K2 (fun y' hy => by have := (O2.out.leads y' hy).1; simp at this ⊢; omega)).mono HB4.out.size, DD.out⟩
            · have HOC := hide hoc
              have HFF := hide (show y = aill o.c by rw [HF.out, if_neg hoc])
              obtain ⟨oc, hoc'⟩ : ∃ c, c = o.c := ⟨_, rfl⟩
              rw [← hoc'] at HFF
              have HOCE := hide hoc'
              clear hoc hoc'
              go_wp2_with fail
              refine wp_region_held (S := fun x' : World => x'.cell? ⟨w.heap.size, 0, none⟩ = some (.slice p1 xs.length c1) ∧ x'.cell? ⟨w.heap.size, 1, none⟩ = some (.slice p2 ps.length c2) ∧ Kept [w.heap.size + 1] w4 x') (by kernel_rfl) ?_
              have HS := hide (HSS.out { w4 with drawn := w4.drawn + 1 } ((Kept.refl _ _).drew))
              refine wpAnyH_take (i := 0) (oi := _) (v := .agg #[.slice p1 xs.length c1, .slice p2 ps.length c2]) rfl (by kernel_rfl) (by kernel_rfl) (by kernel_rfl) (fun c a w h => putHang 47 (by decide) _ c a w h) (Or.inl ⟨by rfl, by intro w hSw; go_split_ands; go_simp <;> omega⟩) HS.out ?_
              simp only [Act.put, List.getElem_toArray, List.getElem_cons_zero, List.setIfInBounds_toArray, List.set_cons_zero, List.set_cons_succ]
              refine wpAnyH_take (i := 1) (oi := _) (v := .slice (some ⟨gl, ol, none⟩) N cl) rfl (by kernel_rfl) (by kernel_rfl) (by kernel_rfl) (fun c a w h => putHang 48 (by decide) _ c a w h) (Or.inl ⟨by rfl, by intro w hSw; go_split_ands; go_simp <;> omega⟩) HS.out ?_
              simp only [Act.put, List.getElem_toArray, List.getElem_cons_zero, List.getElem_cons_succ, List.setIfInBounds_toArray, List.set_cons_zero, List.set_cons_succ]
              refine wpAnyH_take (i := 2) (oi := _) (v := .int .i64 a) rfl (by kernel_rfl) (by kernel_rfl) (by kernel_rfl) (fun c a w h => putHang 49 (by decide) _ c a w h) (Or.inl ⟨by rfl, by intro w hSw; go_split_ands; go_simp <;> omega⟩) HS.out ?_
              simp only [Act.put, List.getElem_toArray, List.getElem_cons_zero, List.getElem_cons_succ, List.setIfInBounds_toArray, List.set_cons_zero, List.set_cons_succ]
              refine wpAnyH_take (i := 3) (oi := _) (v := .int .i64 (a)) rfl (by kernel_rfl) (by kernel_rfl) (by kernel_rfl) (fun c a w h => putHang 50 (by decide) _ c a w h) (Or.inl ⟨by rfl, by intro w hSw; go_split_ands; go_simp <;> omega⟩) HS.out ?_
              simp only [Act.put, List.getElem_toArray, List.getElem_cons_zero, List.getElem_cons_succ, List.setIfInBounds_toArray, List.set_cons_zero, List.set_cons_succ]
              refine wpAnyH_take (i := 4) (oi := _) (v := .slice (some ⟨gl, ol, none⟩) N cl) rfl (by kernel_rfl) (by kernel_rfl) (by kernel_rfl) (fun c a w h => putHang 51 (by decide) _ c a w h) (Or.inl ⟨by rfl, by intro w hSw; go_split_ands; go_simp <;> omega⟩) HS.out ?_
              simp only [Act.put, List.getElem_toArray, List.getElem_cons_zero, List.getElem_cons_succ, List.setIfInBounds_toArray, List.set_cons_zero, List.set_cons_succ]
              refine wpAnyH_take (i := 5) (oi := _) (v := .int .i64 N) rfl (by kernel_rfl) (by kernel_rfl) (by kernel_rfl) (fun c a w h => putHang 52 (by decide) _ c a w h) (Or.inl ⟨by rfl, by intro w hSw; go_split_ands; go_simp <;> omega⟩) HS.out ?_
              simp only [Act.put, List.getElem_toArray, List.getElem_cons_zero, List.getElem_cons_succ, List.setIfInBounds_toArray, List.set_cons_zero, List.set_cons_succ]
              refine wpAnyH_take (i := 6) (oi := _) (v := .int .i64 (a)) rfl (by kernel_rfl) (by kernel_rfl) (by kernel_rfl) (fun c a w h => putHang 53 (by decide) _ c a w h) (Or.inl ⟨by rfl, by intro w hSw; go_split_ands; go_simp <;> omega⟩) HS.out ?_
              simp only [Act.put, List.getElem_toArray, List.getElem_cons_zero, List.getElem_cons_succ, List.setIfInBounds_toArray, List.set_cons_zero, List.set_cons_succ]
              refine wpAnyH_take (i := 7) (oi := _) (v := .slice (some ⟨gl, ol, none⟩) T cl) rfl (by kernel_rfl) (by kernel_rfl) (by kernel_rfl) (fun c a w h => putHang 54 (by decide) _ c a w h) (Or.inl ⟨by rfl, by intro w hSw; go_split_ands; go_simp <;> omega⟩) HS.out ?_
              simp only [Act.put, List.getElem_toArray, List.getElem_cons_zero, List.getElem_cons_succ, List.setIfInBounds_toArray, List.set_cons_zero, List.set_cons_succ]
              refine wpAnyH_ready (rs := [8]) (by kernel_rfl) (by simp) ?_
              refine AllReadyH.cons (o := _) rfl (fun K hK => ?_) AllReadyH.nil
              go_simp
              refine (runSteps_any _ _ _ xs ps (PL.take T) aF aR aU _ HOK.out (by rw [List.length_take]; omega) (HRw.out.below HB4.out.drew (Nat.le_refl _)) (HPw.out.below HB4.out.drew (Nat.le_refl _)) (HRS.out.below ((Below.refl _ _).drew) (Nat.le_refl _)) (Stab.go HB4.out.drew HSw.out)).mono ?_
              rw [HTK.out, ← Ho.out]
              rintro e w7 ⟨hst, hb7⟩
              obtain ⟨_, rfl⟩ := Or.resolve_left hst (fun h => HOC.out h.1)
              rw [← HOCE.out]
              have HB7 := hide (HB4.out.trans ((below_drew hb7).mono HB4.out.size))
              have HX7 := hide (Row.after hb7 HX4.out.drew)
              clear hb7 hst
              show bodyPostD _ _ _ (.panic _) _ _
              refine leaves_cons (f := 105) (args := #[.pointer (some ⟨w.heap.size + 1, 0, none⟩)]) (by simp) (by simp [go_sem]) ?_
              refine (putCatch_panic _ _ _ _ _ _ _ _ _ _ oc [] _ HX7.out).mono ?_
              rintro e u' wd ⟨rfl, rfl, hrow, hk⟩
              have b0 : wd.cell? ⟨w.heap.size + 1, 0, none⟩ = some (.slice none 0 0) := hrow.cell 0
              have b1 : wd.cell? ⟨w.heap.size + 1, 1, none⟩ = some (.slice none 0 0) := hrow.cell 1
              have b2 : wd.cell? ⟨w.heap.size + 1, 2, none⟩ = some (.string ⟨#[]⟩) := hrow.cell 2
              have b3 : wd.cell? ⟨w.heap.size + 1, 3, none⟩ = some (.int .i64 0) := hrow.cell 3
              have b4 : wd.cell? ⟨w.heap.size + 1, 4, none⟩ = some (.int .i64 oc) := hrow.cell 4
              simp [Leaves, settle, results, Tryz.results82, go_sem, b0, b1, b2, b3, b4]
              exact ⟨by rw [HFF.out]; exact AOutIs.ill _ _ _, hk.toBelow HB7.out HB7.out.size (by simp)⟩
          · have hT : T = N := by omega
            have hle : (0 : Int) ≤ a := by omega
            have hnn : (0 : Int) ≤ (N : Int) := by omega
            clear HT
            rw [hT] at HTK HRS
            clear hTN hT0 hTc hT
            by_cases hoc : o.c = 0
            · have HOC := hide hoc
              have HFF := hide (show y = ⟨o.xs, o.ps, ⟨#[]⟩, 0, 0⟩ by rw [HF.out, if_pos hoc])
              clear hoc
              go_wp2_with fail
              refine wp_region_held (S := fun x' : World => x'.cell? ⟨w.heap.size, 0, none⟩ = some (.slice p1 xs.length c1) ∧ x'.cell? ⟨w.heap.size, 1, none⟩ = some (.slice p2 ps.length c2) ∧ Kept [w.heap.size + 1] w4 x') (by kernel_rfl) ?_
              have HS := hide (HSS.out { w4 with drawn := w4.drawn + 1 } ((Kept.refl _ _).drew))
              refine wpAnyH_take (i := 0) (oi := _) (v := .agg #[.slice p1 xs.length c1, .slice p2 ps.length c2]) rfl (by kernel_rfl) (by kernel_rfl) (by kernel_rfl) (fun c a w h => putHang 47 (by decide) _ c a w h) (Or.inl ⟨by rfl, by intro w hSw; go_split_ands; go_simp <;> omega⟩) HS.out ?_
              simp only [Act.put, List.getElem_toArray, List.getElem_cons_zero, List.setIfInBounds_toArray, List.set_cons_zero, List.set_cons_succ]
              refine wpAnyH_take (i := 1) (oi := _) (v := .slice (some ⟨gl, ol, none⟩) N cl) rfl (by kernel_rfl) (by kernel_rfl) (by kernel_rfl) (fun c a w h => putHang 48 (by decide) _ c a w h) (Or.inl ⟨by rfl, by intro w hSw; go_split_ands; go_simp <;> omega⟩) HS.out ?_
              simp only [Act.put, List.getElem_toArray, List.getElem_cons_zero, List.getElem_cons_succ, List.setIfInBounds_toArray, List.set_cons_zero, List.set_cons_succ]
              refine wpAnyH_take (i := 2) (oi := _) (v := .int .i64 a) rfl (by kernel_rfl) (by kernel_rfl) (by kernel_rfl) (fun c a w h => putHang 49 (by decide) _ c a w h) (Or.inl ⟨by rfl, by intro w hSw; go_split_ands; go_simp <;> omega⟩) HS.out ?_
              simp only [Act.put, List.getElem_toArray, List.getElem_cons_zero, List.getElem_cons_succ, List.setIfInBounds_toArray, List.set_cons_zero, List.set_cons_succ]
              refine wpAnyH_take (i := 3) (oi := _) (v := .int .i64 (a)) rfl (by kernel_rfl) (by kernel_rfl) (by kernel_rfl) (fun c a w h => putHang 50 (by decide) _ c a w h) (Or.inl ⟨by rfl, by intro w hSw; go_split_ands; go_simp <;> omega⟩) HS.out ?_
              simp only [Act.put, List.getElem_toArray, List.getElem_cons_zero, List.getElem_cons_succ, List.setIfInBounds_toArray, List.set_cons_zero, List.set_cons_succ]
              refine wpAnyH_take (i := 4) (oi := _) (v := .slice (some ⟨gl, ol, none⟩) N cl) rfl (by kernel_rfl) (by kernel_rfl) (by kernel_rfl) (fun c a w h => putHang 51 (by decide) _ c a w h) (Or.inl ⟨by rfl, by intro w hSw; go_split_ands; go_simp <;> omega⟩) HS.out ?_
              simp only [Act.put, List.getElem_toArray, List.getElem_cons_zero, List.getElem_cons_succ, List.setIfInBounds_toArray, List.set_cons_zero, List.set_cons_succ]
              refine wpAnyH_take (i := 5) (oi := _) (v := .int .i64 N) rfl (by kernel_rfl) (by kernel_rfl) (by kernel_rfl) (fun c a w h => putHang 52 (by decide) _ c a w h) (Or.inl ⟨by rfl, by intro w hSw; go_split_ands; go_simp <;> omega⟩) HS.out ?_
              simp only [Act.put, List.getElem_toArray, List.getElem_cons_zero, List.getElem_cons_succ, List.setIfInBounds_toArray, List.set_cons_zero, List.set_cons_succ]
              refine wpAnyH_take (i := 6) (oi := _) (v := .int .i64 (N)) rfl (by kernel_rfl) (by kernel_rfl) (by kernel_rfl) (fun c a w h => putHang 53 (by decide) _ c a w h) (Or.inl ⟨by rfl, by intro w hSw; go_split_ands; go_simp <;> omega⟩) HS.out ?_
              simp only [Act.put, List.getElem_toArray, List.getElem_cons_zero, List.getElem_cons_succ, List.setIfInBounds_toArray, List.set_cons_zero, List.set_cons_succ]
              refine wpAnyH_take (i := 7) (oi := _) (v := .slice (some ⟨gl, ol, none⟩) N cl) rfl (by kernel_rfl) (by kernel_rfl) (by kernel_rfl) (fun c a w h => putHang 54 (by decide) _ c a w h) (Or.inl ⟨by rfl, by intro w hSw; go_split_ands; go_simp <;> omega⟩) HS.out ?_
              simp only [Act.put, List.getElem_toArray, List.getElem_cons_zero, List.getElem_cons_succ, List.setIfInBounds_toArray, List.set_cons_zero, List.set_cons_succ]
              refine wpAnyH_ready (rs := [8]) (by kernel_rfl) (by simp) ?_
              refine AllReadyH.cons (o := _) rfl (fun K hK => ?_) AllReadyH.nil
              go_simp
              refine (runSteps_any _ _ _ xs ps (PL.take N) aF aR aU _ HOK.out (by rw [List.length_take]; omega) (HRw.out.below HB4.out.drew (Nat.le_refl _)) (HPw.out.below HB4.out.drew (Nat.le_refl _)) (HRS.out.below ((Below.refl _ _).drew) (Nat.le_refl _)) (Stab.go HB4.out.drew HSw.out)).mono ?_
              rw [HTK.out, ← Ho.out]
              rintro e w7 ⟨hst, hb7⟩
              obtain ⟨_, us, up, rfl, o1, o2, dd⟩ := Or.resolve_right hst (fun h => h.1 HOC.out)
              have hK7 : Kept [w.heap.size + 1] w4 w7 := (Kept.ofBelow (below_drew hb7)).mono (by simp)
              obtain ⟨s1, s2, s3, rfl⟩ := o1.isSlice
              obtain ⟨s4, s5, s6, rfl⟩ := o2.isSlice
              have r7 : Row w7 (w.heap.size + 1) 63 [.slice none 0 0, .slice none 0 0, .string ⟨#[]⟩, .int .i64 0, .int .i64 0] := Row.after hb7 HX4.out.drew
              have d0 : w7.cell? ⟨w.heap.size + 1, 0, none⟩ = some (.slice none 0 0) := r7.cell 0
              have d1 : w7.cell? ⟨w.heap.size + 1, 1, none⟩ = some (.slice none 0 0) := r7.cell 1
              have d2 : w7.cell? ⟨w.heap.size + 1, 2, none⟩ = some (.string ⟨#[]⟩) := r7.cell 2
              have d3 : w7.cell? ⟨w.heap.size + 1, 3, none⟩ = some (.int .i64 0) := r7.cell 3
              have d4 : w7.cell? ⟨w.heap.size + 1, 4, none⟩ = some (.int .i64 0) := r7.cell 4
              have f0 := r7.free 0
              have f1 := r7.free 1
              have f2 := r7.free 2
              have f3 := r7.free 3
              have f4 := r7.free 4
              have HR7 := hide r7
              have HB7 := hide (HB4.out.trans ((below_drew hb7).mono HB4.out.size))
              have O1 := hide o1
              have O2 := hide o2
              have DD := hide dd
              obtain ⟨q0, q1, q2, q3, q4, KF⟩ := five HR7.out (.slice s1 s2 s3) (.slice s4 s5 s6) (.string ⟨#[]⟩) (.int .i64 0) (.int .i64 0)
              have HRow := hide (((((HR7.out.set (j := 0) (.slice s1 s2 s3)).set (j := 1) (.slice s4 s5 s6)).set (j := 2) (.string ⟨#[]⟩)).set (j := 3) (.int .i64 0)).set (j := 4) (.int .i64 0))
              have HKF := hide KF
              clear hb7 r7 o1 o2 dd hst q0 q1 q2 q3 q4 KF
              refine hK.out _ _ (HSS.out _ hK7) (fun _ => ?_)
              clear hK K
              have HS := hide (HSS.out _ hK7)
              refine wpAnyH_take (i := 9) (oi := _) (v := .agg #[.slice s1 s2 s3, .slice s4 s5 s6, .string ⟨#[]⟩, .int .i64 0, .int .i64 0]) rfl (by kernel_rfl) (by kernel_rfl) (by kernel_rfl) (fun c a w h => putHang 56 (by decide) _ c a w h) (Or.inl ⟨by rfl, by intro w hSw; go_split_ands; go_simp <;> omega⟩) HS.out ?_
              simp only [Act.put, List.getElem_toArray, List.getElem_cons_zero, List.getElem_cons_succ, List.setIfInBounds_toArray, List.set_cons_zero, List.set_cons_succ]
              refine wpAnyH_ready (rs := [10]) (by kernel_rfl) (by simp) ?_
              refine AllReadyH.cons (o := _) rfl (fun K hK => ?_) AllReadyH.nil
              go_simp
              refine hK.out _ _ (HSS.out _ (hK7.trans HKF.out)) (fun _ => ?_)
              clear hK K d0 d1 d2 d3 d4 f0 f1 f2 f3 f4 HS
              refine wpAnyH_done (by kernel_rfl) ?_ _
              go_wp2
              refine leaves_cons (f := 105) (args := #[.pointer (some ⟨w.heap.size + 1, 0, none⟩)]) (by simp) (by simp [go_sem]) ?_
              refine (putCatch_idle (w.heap.size + 1) s1 s4 s2 s3 s5 s6 ⟨#[]⟩ 0 0 _ HRow.out).mono ?_
              rintro e u' wd ⟨rfl, rfl, hrow, hk⟩
              have b0 : wd.cell? ⟨w.heap.size + 1, 0, none⟩ = some (.slice s1 s2 s3) := hrow.cell 0
              have b1 : wd.cell? ⟨w.heap.size + 1, 1, none⟩ = some (.slice s4 s5 s6) := hrow.cell 1
              have b2 : wd.cell? ⟨w.heap.size + 1, 2, none⟩ = some (.string ⟨#[]⟩) := hrow.cell 2
              have b3 : wd.cell? ⟨w.heap.size + 1, 3, none⟩ = some (.int .i64 0) := hrow.cell 3
              have b4 : wd.cell? ⟨w.heap.size + 1, 4, none⟩ = some (.int .i64 0) := hrow.cell 4
              have K2 := HKF.out.trans hk
              simp [Leaves, settle, results, Tryz.results82, go_sem, b0, b1, b2, b3, b4]
              refine ⟨?_, K2.toBelow HB7.out HB7.out.size (by simp)⟩
              rw [HFF.out]
              exact ⟨_, _, rfl, (O1.out.kept K2 (fun y' hy => by have := (O1.out.leads y' hy).1; simp at this ⊢; omega)).mono HB4.out.size, (O2.out.kept K2 (fun y' hy => by have := (O2.out.leads y' hy).1; simp at this ⊢; omega)).mono HB4.out.size, DD.out⟩
            · have HOC := hide hoc
              have HFF := hide (show y = aill o.c by rw [HF.out, if_neg hoc])
              obtain ⟨oc, hoc'⟩ : ∃ c, c = o.c := ⟨_, rfl⟩
              rw [← hoc'] at HFF
              have HOCE := hide hoc'
              clear hoc hoc'
              go_wp2_with fail
              refine wp_region_held (S := fun x' : World => x'.cell? ⟨w.heap.size, 0, none⟩ = some (.slice p1 xs.length c1) ∧ x'.cell? ⟨w.heap.size, 1, none⟩ = some (.slice p2 ps.length c2) ∧ Kept [w.heap.size + 1] w4 x') (by kernel_rfl) ?_
              have HS := hide (HSS.out { w4 with drawn := w4.drawn + 1 } ((Kept.refl _ _).drew))
              refine wpAnyH_take (i := 0) (oi := _) (v := .agg #[.slice p1 xs.length c1, .slice p2 ps.length c2]) rfl (by kernel_rfl) (by kernel_rfl) (by kernel_rfl) (fun c a w h => putHang 47 (by decide) _ c a w h) (Or.inl ⟨by rfl, by intro w hSw; go_split_ands; go_simp <;> omega⟩) HS.out ?_
              simp only [Act.put, List.getElem_toArray, List.getElem_cons_zero, List.setIfInBounds_toArray, List.set_cons_zero, List.set_cons_succ]
              refine wpAnyH_take (i := 1) (oi := _) (v := .slice (some ⟨gl, ol, none⟩) N cl) rfl (by kernel_rfl) (by kernel_rfl) (by kernel_rfl) (fun c a w h => putHang 48 (by decide) _ c a w h) (Or.inl ⟨by rfl, by intro w hSw; go_split_ands; go_simp <;> omega⟩) HS.out ?_
              simp only [Act.put, List.getElem_toArray, List.getElem_cons_zero, List.getElem_cons_succ, List.setIfInBounds_toArray, List.set_cons_zero, List.set_cons_succ]
              refine wpAnyH_take (i := 2) (oi := _) (v := .int .i64 a) rfl (by kernel_rfl) (by kernel_rfl) (by kernel_rfl) (fun c a w h => putHang 49 (by decide) _ c a w h) (Or.inl ⟨by rfl, by intro w hSw; go_split_ands; go_simp <;> omega⟩) HS.out ?_
              simp only [Act.put, List.getElem_toArray, List.getElem_cons_zero, List.getElem_cons_succ, List.setIfInBounds_toArray, List.set_cons_zero, List.set_cons_succ]
              refine wpAnyH_take (i := 3) (oi := _) (v := .int .i64 (a)) rfl (by kernel_rfl) (by kernel_rfl) (by kernel_rfl) (fun c a w h => putHang 50 (by decide) _ c a w h) (Or.inl ⟨by rfl, by intro w hSw; go_split_ands; go_simp <;> omega⟩) HS.out ?_
              simp only [Act.put, List.getElem_toArray, List.getElem_cons_zero, List.getElem_cons_succ, List.setIfInBounds_toArray, List.set_cons_zero, List.set_cons_succ]
              refine wpAnyH_take (i := 4) (oi := _) (v := .slice (some ⟨gl, ol, none⟩) N cl) rfl (by kernel_rfl) (by kernel_rfl) (by kernel_rfl) (fun c a w h => putHang 51 (by decide) _ c a w h) (Or.inl ⟨by rfl, by intro w hSw; go_split_ands; go_simp <;> omega⟩) HS.out ?_
              simp only [Act.put, List.getElem_toArray, List.getElem_cons_zero, List.getElem_cons_succ, List.setIfInBounds_toArray, List.set_cons_zero, List.set_cons_succ]
              refine wpAnyH_take (i := 5) (oi := _) (v := .int .i64 N) rfl (by kernel_rfl) (by kernel_rfl) (by kernel_rfl) (fun c a w h => putHang 52 (by decide) _ c a w h) (Or.inl ⟨by rfl, by intro w hSw; go_split_ands; go_simp <;> omega⟩) HS.out ?_
              simp only [Act.put, List.getElem_toArray, List.getElem_cons_zero, List.getElem_cons_succ, List.setIfInBounds_toArray, List.set_cons_zero, List.set_cons_succ]
              refine wpAnyH_take (i := 6) (oi := _) (v := .int .i64 (N)) rfl (by kernel_rfl) (by kernel_rfl) (by kernel_rfl) (fun c a w h => putHang 53 (by decide) _ c a w h) (Or.inl ⟨by rfl, by intro w hSw; go_split_ands; go_simp <;> omega⟩) HS.out ?_
              simp only [Act.put, List.getElem_toArray, List.getElem_cons_zero, List.getElem_cons_succ, List.setIfInBounds_toArray, List.set_cons_zero, List.set_cons_succ]
              refine wpAnyH_take (i := 7) (oi := _) (v := .slice (some ⟨gl, ol, none⟩) N cl) rfl (by kernel_rfl) (by kernel_rfl) (by kernel_rfl) (fun c a w h => putHang 54 (by decide) _ c a w h) (Or.inl ⟨by rfl, by intro w hSw; go_split_ands; go_simp <;> omega⟩) HS.out ?_
              simp only [Act.put, List.getElem_toArray, List.getElem_cons_zero, List.getElem_cons_succ, List.setIfInBounds_toArray, List.set_cons_zero, List.set_cons_succ]
              refine wpAnyH_ready (rs := [8]) (by kernel_rfl) (by simp) ?_
              refine AllReadyH.cons (o := _) rfl (fun K hK => ?_) AllReadyH.nil
              go_simp
              refine (runSteps_any _ _ _ xs ps (PL.take N) aF aR aU _ HOK.out (by rw [List.length_take]; omega) (HRw.out.below HB4.out.drew (Nat.le_refl _)) (HPw.out.below HB4.out.drew (Nat.le_refl _)) (HRS.out.below ((Below.refl _ _).drew) (Nat.le_refl _)) (Stab.go HB4.out.drew HSw.out)).mono ?_
              rw [HTK.out, ← Ho.out]
              rintro e w7 ⟨hst, hb7⟩
              obtain ⟨_, rfl⟩ := Or.resolve_left hst (fun h => HOC.out h.1)
              rw [← HOCE.out]
              have HB7 := hide (HB4.out.trans ((below_drew hb7).mono HB4.out.size))
              have HX7 := hide (Row.after hb7 HX4.out.drew)
              clear hb7 hst
              show bodyPostD _ _ _ (.panic _) _ _
              refine leaves_cons (f := 105) (args := #[.pointer (some ⟨w.heap.size + 1, 0, none⟩)]) (by simp) (by simp [go_sem]) ?_
              refine (putCatch_panic _ _ _ _ _ _ _ _ _ _ oc [] _ HX7.out).mono ?_
              rintro e u' wd ⟨rfl, rfl, hrow, hk⟩
              have b0 : wd.cell? ⟨w.heap.size + 1, 0, none⟩ = some (.slice none 0 0) := hrow.cell 0
              have b1 : wd.cell? ⟨w.heap.size + 1, 1, none⟩ = some (.slice none 0 0) := hrow.cell 1
              have b2 : wd.cell? ⟨w.heap.size + 1, 2, none⟩ = some (.string ⟨#[]⟩) := hrow.cell 2
              have b3 : wd.cell? ⟨w.heap.size + 1, 3, none⟩ = some (.int .i64 0) := hrow.cell 3
              have b4 : wd.cell? ⟨w.heap.size + 1, 4, none⟩ = some (.int .i64 oc) := hrow.cell 4
              simp [Leaves, settle, results, Tryz.results82, go_sem, b0, b1, b2, b3, b4]
              exact ⟨by rw [HFF.out]; exact AOutIs.ill _ _ _, hk.toBelow HB7.out HB7.out.size (by simp)⟩
  · have HF := hide (show y = aill x.c by rw [Hy.out]; unfold putOut; rw [if_neg (by omega), HOK.out, if_neg (by simp), ← Hx.out, if_pos hc])
    obtain ⟨c, hcc⟩ : ∃ c, c = x.c := ⟨_, rfl⟩
    rw [← hcc] at HF hc ⊢
    clear hcc
    go_wp2
    refine leaves_cons (f := 105) (args := #[.pointer (some ⟨w.heap.size + 1, 0, none⟩)]) (by simp) (by simp [go_sem]) ?_
    refine (putCatch_panic _ _ _ _ _ _ _ _ _ _ c [] _ HX2.out).mono ?_
    rintro e u' wd ⟨rfl, rfl, hrow, hk⟩
    have b0 : wd.cell? ⟨w.heap.size + 1, 0, none⟩ = some (.slice none 0 0) := hrow.cell 0
    have b1 : wd.cell? ⟨w.heap.size + 1, 1, none⟩ = some (.slice none 0 0) := hrow.cell 1
    have b2 : wd.cell? ⟨w.heap.size + 1, 2, none⟩ = some (.string ⟨#[]⟩) := hrow.cell 2
    have b3 : wd.cell? ⟨w.heap.size + 1, 3, none⟩ = some (.int .i64 0) := hrow.cell 3
    have b4 : wd.cell? ⟨w.heap.size + 1, 4, none⟩ = some (.int .i64 c) := hrow.cell 4
    simp [Leaves, settle, results, Tryz.results82, go_sem, b0, b1, b2, b3, b4]
    exact ⟨by rw [HF.out]; exact AOutIs.ill _ _ _, hk.toBelow HB2.out HB2.out.size (by simp)⟩

theorem implAPut_any (vs vp : Value) (xs : List ByteArray) (ps : List (Int × ByteArray)) (d : ByteArray) (a : Int) (aF aR aU : Addr) (w : World) (hn : xs.length ≤ 1048576) (hn2 : ps.length ≤ 1048576) (hd : d.size ≤ 1048576) (hr : Reads w vs xs) (hp : ReadsP w vp ps) (hS : Sents aF aR aU w)
    (HRA : right xs ps = true → ∀ (vs vp : Value) (w' : World), Below w.heap.size w w' → Reads w' vs xs → ReadsP w' vp ps → Calls Tryz.prog 94 #[.agg #[vs, vp]] w' fun e w'' => AreaIs e xs ps ∧ Below w'.heap.size w' w'') :
    Calls Tryz.prog 82 #[.agg #[vs, vp], .string d, .int .i64 a] w fun e w' => AOutIs w.heap.size e w' (putOut xs ps d a) ∧ Below w.heap.size w w' := by
  by_cases hz : 8000 < d.size
  · have h : putOut xs ps d a = aill 2 := by unfold putOut; rw [if_pos hz]
    rw [h]; exact implAPut_size vs vp xs ps d a w hr hp hd hz
  · cases hok : right xs ps with
    | false =>
      have h : putOut xs ps d a = aill 1 := by unfold putOut; rw [if_neg hz, if_pos hok]
      rw [h]; exact implAPut_ill vs vp xs ps d a aF aR aU w hn hn2 hr hp hS (by omega) hok
    | true => exact implAPut_rest vs vp xs ps d a aF aR aU w hn hn2 hr hp hS (by omega) hok (HRA hok)
end Go.Proofs.YtnpbmaajgiapmaaGreatDoor
/- The program's readSide: the bytes of a side's sectors, each asked for its own share. -/
namespace Go.Proofs.YtnpbmaajgiapmaaGreatDoor
open Go.RowKit

theorem row_slice {w : World} {B n : Nat} {e : TypeId} {v : Value} {xs : List Value} (h : w.ownsRow B e 1 v n xs) : ∃ p cap, v = .slice p n cap := by
  obtain ⟨_, ⟨rfl, rfl⟩ | ⟨g, cap, cur, rfl, _⟩⟩ := h
  · exact ⟨_, _, rfl⟩
  · exact ⟨_, _, rfl⟩
theorem text_of_any {P : Program} {e t T B : Nat} {w : World} {v : Value} {b : ByteArray} (h : w.ownsRow B e 1 v b.size (Lib.strCells b))
    (ht : P.underlying t = some (.slice e)) (he : P.underlying e = some (.int .u8)) (hT : P.underlying T = some .string) : (convert t T v).run P w = .ok (.string b) w := by
  by_cases hv : v = .slice none 0 0
  · subst hv
    have hb : b = ⟨#[]⟩ := by
      obtain ⟨_, ⟨_, hn⟩ | ⟨g, cap, cur, hh, _⟩⟩ := h
      · exact ByteArray.size_eq_zero_iff.1 hn
      · cases hh
    subst hb
    rw [run_convert_bytes_string w t T e none 0 0 ht he hT]
    simp [Conv.bytesToString]
    rfl
  · exact text_of_row h hv ht he hT
theorem strCells_len (b : ByteArray) : (Lib.strCells b).length = b.size := by
  unfold Lib.strCells
  rw [List.length_map, Array.length_toList]
  rfl
theorem strCells_one (b : ByteArray) : ∀ u ∈ Lib.strCells b, u.oneCell' = true := by
  unfold Lib.strCells
  intro u hu
  obtain ⟨x, _, rfl⟩ := List.mem_map.1 hu
  rfl
theorem raw_cells (w : World) (d : ByteArray) (e : TypeId) (n : Nat) (hn : n ≤ d.size) (j : Nat) (u : Value) (hu : (Lib.strCells (d.extract 0 n))[j]? = some u) :
    (w.drew.alloc (.cells (bytesRow d (grownCap w d.size 0 e)) e ((bytesRow d (grownCap w d.size 0 e)).size, (bytesRow d (grownCap w d.size 0 e)).size + 1))).cell? ((⟨w.heap.size, 0, none⟩ : Addr).add j) = some u := by
  obtain ⟨hj, hu'⟩ := List.getElem?_eq_some_iff.1 hu
  rw [strCells_len, ByteArray.size_extract] at hj
  rw [add_addr, Nat.zero_add, raw_cell w d e j (by omega), ← hu']
  unfold Lib.strCells
  simp [ByteArray.getElem_eq_getElem_data]

set_option maxRecDepth 100000 in
set_option maxHeartbeats 4000000 in
theorem readSide_any (v : Value) (ys : List ByteArray) (sz : Nat) (w : World) (hr : Reads w v ys) (hn : ys.length ≤ 64) (hsz : sz ≤ 4096) :
    Calls Tryz.prog 121 #[v, .int .i64 sz] w fun e w' => ((full (fun j => ys.getD j ⟨#[]⟩) sz ys.length = true ∧ e = .returned (.string (gath (fun j => ys.getD j ⟨#[]⟩) sz ys.length))) ∨ (full (fun j => ys.getD j ⟨#[]⟩) sz ys.length = false ∧ e = .panicked (fault 5))) ∧ Below w.heap.size w w' := by
  obtain ⟨f, Hf⟩ : ∃ f, Hid (f = (fun j => ys.getD j (⟨#[]⟩ : ByteArray))) := ⟨_, rfl⟩
  rw [← Hf.out]
  obtain ⟨i0, hi, hz0, hz1, hz2⟩ := info_parts Tryz.infoB
  have HR := hide hr
  obtain ⟨p, c, rfl, hq⟩ := hr
  clear hq
  have HO0 := hide (show w.ownsRow w.heap.size 5 1 (.slice none 0 0) (gath f sz 0).size (Lib.strCells (gath f sz 0)) from ⟨rfl, .inl ⟨rfl, rfl⟩⟩)
  go_enter Tryz.func121, Tryz.ntmps121
  go_wp2_with fail
  go_loopw [5, 11] (fun u i wr => ∃ k : Nat, k ≤ ys.length ∧ i = .int .i64 k ∧ Hid (full f sz k = true) ∧ Hid (wr.ownsRow w.heap.size 5 1 u (gath f sz k).size (Lib.strCells (gath f sz k))) ∧ Hid (Below w.heap.size w wr)) (fun _ i _ => ys.length - (intOf i).toNat)
  case atStart => exact ⟨0, Nat.zero_le _, rfl, rfl, HO0, Below.refl _ _⟩
  case round =>
    obtain ⟨k, hk, rfl, HFk, HOw, HB⟩ := hrel
    have hgs := gath_size k HFk.out
    obtain ⟨b, Hb⟩ : ∃ b, Hid (b = gath f sz k) := ⟨_, rfl⟩
    rw [← Hb.out] at hgs HOw
    by_cases hlt : k < ys.length
    · obtain ⟨g, off, rfl, hg, hc⟩ : ∃ g off, p = some ⟨g, off, none⟩ ∧ _ := by
        obtain ⟨p', cap, he, _, _, _, h4⟩ := HR.out.below HB.out (Nat.le_refl _)
        cases he
        exact h4 (by omega)
      have hck := hc k hlt
      obtain ⟨T, hT⟩ : ∃ T, T = ys[k]'hlt := ⟨_, rfl⟩
      rw [← hT] at hck
      have HfT := hide (show f k = T by rw [Hf.out, hT]; simp [hlt])
      clear hc hg hT
      have hki : (k : Int) < (ys.length : Int) := by omega
      obtain ⟨N, hN⟩ : ∃ N, N = b.size := ⟨_, rfl⟩
      rw [← hN] at hgs HOw
      have HNN := hide hN
      clear hN
      obtain ⟨pu, cu, rfl⟩ := row_slice HOw.out
      obtain ⟨D, hD⟩ : ∃ D, D = sz - N := ⟨_, rfl⟩
      have hNw : IntKind.i64.wrap ((sz : Int) - (N : Int)) = (D : Int) := by rw [IntKind.wrap_i64]; omega
      have HFS := hide (full_step f sz k)
      have HG := hide (show gath f sz (k + 1) = b ++ T.extract 0 (want sz k) by rw [Hb.out, ← HfT.out]; rfl)
      have HFN := hide (show ∀ m, want sz k = m → T.size < m → full f sz ys.length = false from fun m hm h => full_not hlt (by rw [HfT.out, hm]; omega))
      have hNs : N ≤ 4096 := by omega
      have hcv := run_bytes_of_string (P := Tryz.prog) wr 9 126 5 T Tryz.underlying9 Tryz.underlying126 Tryz.underlying5
      have HRC := hide (raw_cells wr T 5)
      have bW : Below wr.heap.size wr (wr.drew.alloc (.cells (bytesRow T (grownCap wr T.size 0 5)) 5 ((bytesRow T (grownCap wr T.size 0 5)).size, (bytesRow T (grownCap wr T.size 0 5)).size + 1))) := ((Below.refl _ _).drew).alloc (Nat.le_refl _) _
      obtain ⟨C, hC⟩ : ∃ C, C = grownCap wr T.size 0 5 := ⟨_, rfl⟩
      have hCT : T.size ≤ C := by rw [hC]; exact grownCap_ge _ _ _ _
      obtain ⟨W, hW⟩ : ∃ W, W = wr.drew.alloc (.cells (bytesRow T (grownCap wr T.size 0 5)) 5 ((bytesRow T (grownCap wr T.size 0 5)).size, (bytesRow T (grownCap wr T.size 0 5)).size + 1)) := ⟨_, rfl⟩
      rw [← hW] at bW
      rw [← hW] at HRC
      rw [← hW, ← hC] at hcv
      have HBW := hide (HB.out.trans (bW.mono HB.out.size))
      have HOW := hide (ownsRow_after HOw.out bW)
      have hWs := HBW.out.size
      have HWT0 := hide (show want sz k = min 64 D by unfold want; omega)
      clear hW hC bW hD hgs
      by_cases h64 : 64 < D
      · have h64i : (64 : Int) < (D : Int) := by omega
        have HWT := hide (show want sz k = 64 by rw [HWT0.out]; omega)
        by_cases hshort : T.size < 64
        · have hsi : decide ((T.size : Int) < 64) = true := decide_eq_true (by omega)
          have HF5 := hide (HFN.out _ HWT.out hshort)
          go_wp2_with fail
          refine (refuse_yes 5 _).mono ?_
          rintro e w3 ⟨rfl, rfl⟩
          go_wp2
          exact ⟨rfl, .inr ⟨HF5.out, rfl⟩, HB.out⟩
        · have hsi : decide ((T.size : Int) < 64) = false := decide_eq_false (by omega)
          have hcI : 64 ≤ (C : Int) := by omega
          have hts : (T.extract 0 64).size = 64 := by rw [ByteArray.size_extract]; omega
          have HNL := hide (HRC.out 64 (by omega))
          go_wp2_with fail
          refine (refuse_no 5 _).mono ?_
          rintro e w3 ⟨rfl, rfl⟩
          go_wp2_with (at_builtin; refine wpList_append_own_at _ rfl _ _ 126 rfl w.heap.size 5 i0 (.int .u8 0) 1 1 Tryz.underlying126 hi hz0 hz1 hz2 rfl (by omega) _ N (Lib.strCells b) rfl HOW.out ⟨w3.heap.size, 0, none⟩ 64 64 (Lib.strCells (T.extract 0 64)) rfl (by rw [strCells_len, hts, Nat.mul_one]) HNL.out (strCells_one _) (by unfold maxLen; omega) (by omega) hWs ?_
                       intro v' w6 ho6 hg6 _ _
                       have HO6 := hide ho6
                       have HG6 := hide hg6
                       clear ho6 hg6)
          have HE := hide (show (gath f sz (k + 1)).size = N + 64 ∧ Lib.strCells (gath f sz (k + 1)) = Lib.strCells b ++ Lib.strCells (T.extract 0 64) by rw [HG.out, HWT.out, ByteArray.size_append, strCells_append, HNN.out, hts]; exact ⟨rfl, rfl⟩)
          go_roundw
          case rel =>
            refine ⟨k + 1, by omega, by go_num, by rw [HFS.out, HFk.out, HfT.out, HWT.out]; simp [Hid]; omega, by rw [HE.out.1, HE.out.2]; exact HO6, ?_⟩
            exact below_grown HBW.out HBW.out.size HG6.out (fun j hj => own_ge HOW.out hj)
          case measure => simp [intOf]; omega
      · have h64i : ¬ (64 : Int) < (D : Int) := by omega
        have hD0 : (0 : Int) ≤ (D : Int) := by omega
        have HWT := hide (show want sz k = D by rw [HWT0.out]; omega)
        by_cases hshort : T.size < D
        · have hsi : decide ((T.size : Int) < (D : Int)) = true := decide_eq_true (by omega)
          have HF5 := hide (HFN.out _ HWT.out hshort)
          go_wp2_with fail
          refine (refuse_yes 5 _).mono ?_
          rintro e w3 ⟨rfl, rfl⟩
          go_wp2
          exact ⟨rfl, .inr ⟨HF5.out, rfl⟩, HB.out⟩
        · have hsi : decide ((T.size : Int) < (D : Int)) = false := decide_eq_false (by omega)
          have hcI : (D : Int) ≤ (C : Int) := by omega
          have hts : (T.extract 0 D).size = D := by rw [ByteArray.size_extract]; omega
          have HNL := hide (HRC.out D (by omega))
          go_wp2_with fail
          refine (refuse_no 5 _).mono ?_
          rintro e w3 ⟨rfl, rfl⟩
          go_wp2_with (at_builtin; refine wpList_append_own_at _ rfl _ _ 126 rfl w.heap.size 5 i0 (.int .u8 0) 1 1 Tryz.underlying126 hi hz0 hz1 hz2 rfl (by omega) _ N (Lib.strCells b) rfl HOW.out ⟨w3.heap.size, 0, none⟩ D D (Lib.strCells (T.extract 0 D)) rfl (by rw [strCells_len, hts, Nat.mul_one]) HNL.out (strCells_one _) (by unfold maxLen; omega) (by omega) hWs ?_
                       intro v' w6 ho6 hg6 _ _
                       have HO6 := hide ho6
                       have HG6 := hide hg6
                       clear ho6 hg6)
          have HE := hide (show (gath f sz (k + 1)).size = N + D ∧ Lib.strCells (gath f sz (k + 1)) = Lib.strCells b ++ Lib.strCells (T.extract 0 D) by rw [HG.out, HWT.out, ByteArray.size_append, strCells_append, HNN.out, hts]; exact ⟨rfl, rfl⟩)
          go_roundw
          case rel =>
            refine ⟨k + 1, by omega, by go_num, by rw [HFS.out, HFk.out, HfT.out, HWT.out]; simp [Hid]; omega, by rw [HE.out.1, HE.out.2]; exact HO6, ?_⟩
            exact below_grown HBW.out HBW.out.size HG6.out (fun j hj => own_ge HOW.out hj)
          case measure => simp [intOf]; omega
    · have hki : ¬ (k : Int) < (ys.length : Int) := by omega
      have hke : k = ys.length := by omega
      have hcb := text_of_any HOw.out Tryz.underlying126 Tryz.underlying5 Tryz.underlying9
      have HE := hide (show full f sz ys.length = true ∧ b = gath f sz ys.length by rw [← hke]; exact ⟨HFk.out, Hb.out⟩)
      obtain ⟨pu, cu, rfl⟩ := row_slice HOw.out
      clear hgs
      go_wp2
      go_ret
      exact ⟨.inl ⟨HE.out.1, by rw [← HE.out.2]; rfl⟩, HB.out⟩
end Go.Proofs.YtnpbmaajgiapmaaGreatDoor
