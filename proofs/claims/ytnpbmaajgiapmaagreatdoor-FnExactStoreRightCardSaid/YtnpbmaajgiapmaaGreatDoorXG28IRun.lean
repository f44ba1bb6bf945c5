/- The program's steps, one behind the other. -/
import Derived.Test.YtnpbmaajgiapmaaGreatDoorXG27IRead
import Derived.Test.YtnpbmaajgiapmaaGreatDoorXG20SFormat
import Derived.Test.YtnpbmaajgiapmaaGreatDoorXG25IRight
import Derived.Test.YtnpbmaajgiapmaaGreatDoorXG17SSeen8
import Derived.Test.YtnpbmaajgiapmaaGreatDoorXG26IARead
namespace Go.Proofs.YtnpbmaajgiapmaaGreatDoor
open Go.RowKit

/-- The slice v reads as the steps ss. -/
def ReadsT (w : World) (v : Value) (ss : List (Bool × Int × ByteArray)) : Prop :=
  ∃ p cap, v = .slice p ss.length cap ∧ ss.length ≤ cap ∧ cap ≤ maxLen ∧ (∀ x ∈ ss, x.2.2.size ≤ 1048576) ∧
    (0 < ss.length → ∃ g off, p = some ⟨g, off, none⟩ ∧ g < w.heap.size ∧
      ∀ i (h : i < ss.length), w.cell? ⟨g, off + i * 3, none⟩ = some (.bool ss[i].1) ∧ w.cell? ⟨g, off + i * 3 + 1, none⟩ = some (.int .i64 ss[i].2.1) ∧ w.cell? ⟨g, off + i * 3 + 2, none⟩ = some (.string ss[i].2.2))
theorem ReadsT.below {w w' : World} {v : Value} {ss : List (Bool × Int × ByteArray)} {B : Nat} (h : ReadsT w v ss) (hb : Below B w w') (hB : w.heap.size ≤ B) : ReadsT w' v ss := by
  obtain ⟨p, cap, rfl, h1, h2, h3, h4⟩ := h
  refine ⟨p, cap, rfl, h1, h2, h3, fun h0 => ?_⟩
  obtain ⟨g, off, rfl, hg, hc⟩ := h4 h0
  refine ⟨g, off, rfl, Nat.lt_of_lt_of_le hg hb.size, fun i hi => ?_⟩
  rw [hb.cell (p := ⟨g, off + i * 3, none⟩) (Nat.lt_of_lt_of_le hg hB), hb.cell (p := ⟨g, off + i * 3 + 1, none⟩) (Nat.lt_of_lt_of_le hg hB), hb.cell (p := ⟨g, off + i * 3 + 2, none⟩) (Nat.lt_of_lt_of_le hg hB)]
  exact hc i hi
set_option maxRecDepth 100000 in
set_option maxHeartbeats 4000000 in
theorem runSteps_any (vs vp vt : Value) (xs : List ByteArray) (ps : List (Int × ByteArray)) (ss : List (Bool × Int × ByteArray)) (aF aR aU : Addr) (w : World) (hok : right xs ps = true) (hl : ss.length ≤ 1048576) (hr : Reads w vs xs) (hp : ReadsP w vp ps) (ht : ReadsT w vt ss) (hS : Sents aF aR aU w) :
    Calls Tryz.prog 81 #[.agg #[vs, vp], vt] w fun e w' => StepIs w.heap.size e w' (runOut ss xs ps) ∧ Below w.heap.size w w' := by
  obtain ⟨p1, c1, rfl, hq⟩ := id hr
  obtain ⟨p2, c2, rfl, hq2⟩ := id hp
  obtain ⟨p3, c3, rfl, hcap, hmx, hdt, hrd⟩ := id ht
  obtain ⟨W, hW⟩ : ∃ W, W = (w.alloc (.cells #[.slice p1 xs.length c1, .slice p2 ps.length c2] 30)).alloc (.cells #[.slice none 0 0, .slice none 0 0] 30) := ⟨_, rfl⟩
  have hb0 : Below w.heap.size w W := by rw [hW]; exact (((Below.refl _ _).alloc (Nat.le_refl _) _).alloc (by simp) _)
  have R0 : Row W w.heap.size 30 [.slice p1 xs.length c1, .slice p2 ps.length c2] := by rw [hW]; exact (row_new w _ _).alloc _
  have R1 : Row W (w.heap.size + 1) 30 [.slice none 0 0, .slice none 0 0] := by
    rw [hW]; have := row_new (w.alloc (.cells #[.slice p1 xs.length c1, .slice p2 ps.length c2] 30)) [.slice none 0 0, .slice none 0 0] 30
    simp only [World.size_alloc] at this; exact this
  have HR := hide (hr.below hb0 (Nat.le_refl _))
  have HP := hide (hp.below hb0 (Nat.le_refl _))
  have HS0 := hide hS
  have HT := hide ht
  have HB0 := hide hb0
  have HDT := hide hdt
  have HOK := hide hok
  have a0 : W.cell? ⟨w.heap.size, 0, none⟩ = some (.slice p1 xs.length c1) := R0.cell 0
  have a1 : W.cell? ⟨w.heap.size, 1, none⟩ = some (.slice p2 ps.length c2) := R0.cell 1
  have H0 := hide R0
  have H1 := hide R1
  have hsz : w.heap.size + 2 ≤ W.heap.size := by have := R1.lt; omega
  clear R0 R1 hb0 hr hp hS hq hq2 hrd ht hdt hok
  go_enter Tryz.func81, Tryz.ntmps81
  go_wp2_with fail
  rw [← hW]
  clear hW
  go_wp2_with fail
  refine (copyDisk_any _ _ xs ps _ HR.out HP.out (small_of_right HOK.out)).mono ?_
  rintro e w1 ⟨⟨us, up, rfl, o1, o2, dd⟩, hb1⟩
  obtain ⟨i1, j1, k1, rfl⟩ := o1.isSlice
  obtain ⟨i2, j2, k2, rfl⟩ := o2.isSlice
  have r0 := Row.after hb1 H0.out
  have H01 := hide r0
  have H11 := hide (Row.after hb1 H1.out)
  have HB1 := hide (HB0.out.trans (hb1.mono HB0.out.size))
  have b0 : w1.cell? ⟨w.heap.size, 0, none⟩ = some (.slice p1 xs.length c1) := r0.cell 0
  have b1 : w1.cell? ⟨w.heap.size, 1, none⟩ = some (.slice p2 ps.length c2) := r0.cell 1
  have f0 := r0.free 0
  have f1 := r0.free 1
  have O1 := hide (o1.mono (B' := w.heap.size + 2) hsz)
  have O2 := hide (o2.mono (B' := w.heap.size + 2) hsz)
  have DD := hide dd
  clear o1 o2 dd hb1 r0 a0 a1 H0 H1
  go_wp2_with fail
  obtain ⟨z0, z1, KG⟩ := two H01.out (.slice i1 j1 k1) (.slice i2 j2 k2)
  have HRow := hide (show Row ((w1.setCell ⟨w.heap.size, 0, none⟩ (.slice i1 j1 k1)).setCell ⟨w.heap.size, 1, none⟩ (.slice i2 j2 k2)) w.heap.size 30 [.slice i1 j1 k1, .slice i2 j2 k2] from (H01.out.set (j := 0) _).set (j := 1) _)
  have HX1 := hide (KG.row H11.out (by simp))
  have HBx := hide (KG.toBelow HB1.out HB1.out.size (by simp))
  have O1x := hide (O1.out.kept KG (fun x hx => by have := (O1.out.leads x hx).1; simp; omega))
  have O2x := hide (O2.out.kept KG (fun x hx => by have := (O2.out.leads x hx).1; simp; omega))
  clear z0 z1 KG b0 b1 f0 f1 H01 H11 O1 O2 HB1 HR HP
  go_loopw [11] (fun i wr => ∃ (k : Nat) (ys : List ByteArray) (qs : List (Int × ByteArray)) (us up : Value), k ≤ ss.length ∧ i = .int .i64 k ∧ Hid (right ys qs = true) ∧ Hid (runOut ss xs ps = runOut (ss.drop k) ys qs) ∧ Hid (Row wr w.heap.size 30 [us, up]) ∧ Hid (Row wr (w.heap.size + 1) 30 [.slice none 0 0, .slice none 0 0]) ∧ Hid (OwnS 9 (w.heap.size + 2) wr us ys) ∧ Hid (OwnP 92 (w.heap.size + 2) wr up qs) ∧ Hid (∀ x ∈ leads us, x ∉ leads up) ∧ Hid (Below w.heap.size w wr)) (fun i _ => ss.length - (intOf i).toNat)
  case atStart => exact ⟨0, xs, ps, _, _, Nat.zero_le _, rfl, HOK, rfl, HRow, HX1, O1x, O2x, DD, HBx⟩
  case round =>
    obtain ⟨k, ys, qs, us, up, hk, rfl, HOKk, HE, HRk, HXk, HO1, HO2, HDk, HBk⟩ := hrel
    obtain ⟨l1, m1, n1, rfl⟩ := HO1.out.isSlice
    obtain ⟨l2, m2, n2, rfl⟩ := HO2.out.isSlice
    have b0 : wr.cell? ⟨w.heap.size, 0, none⟩ = some (.slice l1 m1 n1) := HRk.out.cell 0
    have b1 : wr.cell? ⟨w.heap.size, 1, none⟩ = some (.slice l2 m2 n2) := HRk.out.cell 1
    have f0 := HRk.out.free 0
    have f1 := HRk.out.free 1
    have hwl := HXk.out.lt
    by_cases hlt : k < ss.length
    · have hki : (k : Int) < (ss.length : Int) := by omega
      obtain ⟨p, cap, he, _, _, hd, h4⟩ := HT.out.below HBk.out (Nat.le_refl _)
      cases he
      obtain ⟨g, off, rfl, hg, hc⟩ := h4 (by omega)
      obtain ⟨t0, t1, t2⟩ := hc k hlt
      have hds := hd _ (List.getElem_mem hlt)
      have HS := hide (runOut_step ss k hlt ys qs)
      obtain ⟨s, hs⟩ : ∃ s, s = ss[k] := ⟨_, rfl⟩
      rw [← hs] at t0 t1 t2 hds HS
      obtain ⟨sf, sa, sd⟩ := s
      clear hs hc h4 hd
      have hln := right_len HOKk.out
      obtain ⟨n1', n2', n3'⟩ := hln
      have bn := below_new wr (.cells #[.bool sf, .int .i64 sa, .string sd] 116)
      have HBn := hide (HBk.out.trans (bn.mono HBk.out.size))
      have HRn := hide (Row.after bn HRk.out)
      have HXn := hide (Row.after bn HXk.out)
      have HRd := hide (HO1.out.reads.below bn (Nat.le_refl _))
      have HPd := hide (HO2.out.reads.below bn (Nat.le_refl _))
      have HSn := hide (Stab.go HBn.out HS0.out)
      have e0 : (wr.alloc (.cells #[.bool sf, .int .i64 sa, .string sd] 116)).cell? ⟨w.heap.size, 0, none⟩ = some (.slice l1 m1 n1) := HRn.out.cell 0
      have e1 : (wr.alloc (.cells #[.bool sf, .int .i64 sa, .string sd] 116)).cell? ⟨w.heap.size, 1, none⟩ = some (.slice l2 m2 n2) := HRn.out.cell 1
      clear bn
      go_wp2_with fail
      refine (runStep_any _ _ ys qs sf sa sd aF aR aU _ (by omega) (by omega) hds HRd.out HPd.out HSn.out).mono ?_
      rintro e w2 ⟨hst, hb2⟩
      have HB2 := hide (HBn.out.trans (hb2.mono HBn.out.size))
      rcases hst with ⟨hc0, vs2, vp2, rfl, o1, o2, dd⟩ | ⟨hc0, rfl⟩
      · obtain ⟨u1, u2, u3, rfl⟩ := o1.isSlice
        obtain ⟨v1, v2, v3, rfl⟩ := o2.isSlice
        have HR2 := hide (Row.after hb2 HRn.out)
        have HX2 := hide (Row.after hb2 HXn.out)
        have x0 : w2.cell? ⟨w.heap.size, 0, none⟩ = some (.slice l1 m1 n1) := HR2.out.cell 0
        have x1 : w2.cell? ⟨w.heap.size, 1, none⟩ = some (.slice l2 m2 n2) := HR2.out.cell 1
        have y0 := HR2.out.free 0
        have y1 := HR2.out.free 1
        have hwz : w.heap.size + 2 ≤ (wr.alloc (.cells #[.bool sf, .int .i64 sa, .string sd] 116)).heap.size := by simp; omega
        have O1 := hide (o1.mono (B' := w.heap.size + 2) hwz)
        have O2 := hide (o2.mono (B' := w.heap.size + 2) hwz)
        have DD := hide dd
        have HC := hide hc0
        clear o1 o2 dd hb2 hwz hc0
        go_wp2_with fail
        obtain ⟨z0, z1, KG⟩ := two HR2.out (.slice u1 u2 u3) (.slice v1 v2 v3)
        have HRow' := hide (show Row ((w2.setCell ⟨w.heap.size, 0, none⟩ (.slice u1 u2 u3)).setCell ⟨w.heap.size, 1, none⟩ (.slice v1 v2 v3)) w.heap.size 30 [.slice u1 u2 u3, .slice v1 v2 v3] from (HR2.out.set (j := 0) _).set (j := 1) _)
        have HXx := hide (KG.row HX2.out (by simp))
        have HBy := hide (KG.toBelow HB2.out HB2.out.size (by simp))
        have O1y := hide (O1.out.kept KG (fun x hx => by have := (O1.out.leads x hx).1; simp; omega))
        have O2y := hide (O2.out.kept KG (fun x hx => by have := (O2.out.leads x hx).1; simp; omega))
        have HE' := hide (show runOut ss xs ps = runOut (ss.drop (k + 1)) (stepOut (sf, sa, sd) ys qs).xs (stepOut (sf, sa, sd) ys qs).ps by rw [HE.out, HS.out, if_pos HC.out])
        have HOK' := hide (stepOut_right (s := (sf, sa, sd)) HOKk.out HC.out)
        clear z0 z1 KG x0 x1 y0 y1
        go_roundw
        case rel => exact ⟨k + 1, _, _, _, _, by omega, by go_num, HOK', HE', HRow', HXx, O1y, O2y, DD, HBy⟩
        case measure => simp [intOf]; omega
      · have HF := hide (show runOut ss xs ps = illOut (stepOut (sf, sa, sd) ys qs).c by rw [HE.out, HS.out, if_neg hc0])
        clear hb2
        go_wp2
        exact ⟨rfl, .inr (by rw [HF.out]; exact ⟨hc0, rfl⟩), HB2.out⟩
    · have HF := hide (show runOut ss xs ps = ⟨ys, qs, ⟨#[]⟩, 0⟩ by rw [HE.out, List.drop_eq_nil_of_le (by omega)]; rfl)
      have d0 : wr.cell? ⟨w.heap.size + 1, 0, none⟩ = some (.slice none 0 0) := HXk.out.cell 0
      have d1 : wr.cell? ⟨w.heap.size + 1, 1, none⟩ = some (.slice none 0 0) := HXk.out.cell 1
      have g0 := HXk.out.free 0
      have g1 := HXk.out.free 1
      go_wp2
      obtain ⟨z0, z1, KG⟩ := two HXk.out (.slice l1 m1 n1) (.slice l2 m2 n2)
      exact bodyPost_ret (v := .agg #[.slice l1 m1 n1, .slice l2 m2 n2]) (by simp [results, Tryz.results81, go_sem, z0, z1]) rfl
        ⟨.inl (by rw [HF.out]; exact ⟨rfl, _, _, rfl, (HO1.out.kept KG (fun x hx => by have := (HO1.out.leads x hx).1; simp; omega)).mono (by omega), (HO2.out.kept KG (fun x hx => by have := (HO2.out.leads x hx).1; simp; omega)).mono (by omega), HDk.out⟩), KG.toBelow HBk.out HBk.out.size (by simp)⟩
end Go.Proofs.YtnpbmaajgiapmaaGreatDoor
/- The program's AreaRoom: 64 times the half of a right disk's sectors, 0 of another disk. -/
namespace Go.Proofs.YtnpbmaajgiapmaaGreatDoor
open Go.RowKit

set_option maxHeartbeats 400000 in
theorem sideSectors_any (vs vp : Value) (xs : List ByteArray) (w : World) (hx : 1 ≤ xs.length) (hn : xs.length ≤ 1048576) (hr : Reads w vs xs) :
    Calls Tryz.prog 122 #[.agg #[vs, vp]] w fun e w' => e = .returned (.int .i64 (half xs.length)) ∧ Below w.heap.size w w' := by
  have hb0 : Below w.heap.size w (w.alloc (.cells #[vs, vp] 30)) := (Below.refl _ _).alloc (Nat.le_refl _) _
  obtain ⟨p1, c1, rfl, hq⟩ := hr
  clear hq
  have h1 : ((xs.length : Int) - 1).tdiv 2 = half xs.length := by unfold half; rw [Int.tdiv_eq_ediv_of_nonneg (by omega)]
  have h0 : IntKind.i64.wrap ((xs.length : Int) - 1) = (xs.length : Int) - 1 := by rw [IntKind.wrap_i64]; omega
  have h2 : IntKind.i64.wrap (half xs.length) = half xs.length := by unfold half; rw [IntKind.wrap_i64]; omega
  go_enter Tryz.func122, Tryz.ntmps122
  go_wp2
  go_ret
  exact ⟨by first | rfl | simp [h1, h2], hb0⟩

set_option maxHeartbeats 400000 in
theorem sideRoom_any (vs vp : Value) (xs : List ByteArray) (w : World) (hx : 1 ≤ xs.length) (hn : xs.length ≤ 1048576) (hr : Reads w vs xs) :
    Calls Tryz.prog 106 #[.agg #[vs, vp]] w fun e w' => e = .returned (.int .i64 (64 * half xs.length)) ∧ Below w.heap.size w w' := by
  have hb0 : Below w.heap.size w (w.alloc (.cells #[vs, vp] 30)) := (Below.refl _ _).alloc (Nat.le_refl _) _
  have HR := hide (hr.below hb0 (Nat.le_refl _))
  have HB0 := hide hb0
  obtain ⟨p1, c1, rfl, hq⟩ := hr
  clear hq hb0
  have hh : 0 ≤ half xs.length ∧ half xs.length ≤ 1048576 := by unfold half; omega
  have hw : IntKind.i64.wrap (half xs.length * 64) = 64 * half xs.length := by rw [IntKind.wrap_i64]; omega
  go_enter Tryz.func106, Tryz.ntmps106
  go_wp2_with fail
  refine (sideSectors_any _ _ xs _ hx hn HR.out).mono ?_
  rintro e w2 ⟨rfl, hb2⟩
  have HB2 := hide (HB0.out.trans (hb2.mono HB0.out.size))
  clear hb2
  go_wp2
  go_ret
  exact ⟨by first | rfl | simp [hw, Int.mul_comm], HB2.out⟩

end Go.Proofs.YtnpbmaajgiapmaaGreatDoor
/- The program's list of steps of a text that is put. -/
namespace Go.Proofs.YtnpbmaajgiapmaaGreatDoor
open Go.RowKit

theorem Tryz.infoStep : (Tryz.prog.info? 116).map (fun i => (i.zero, i.size, i.bytes)) = some (some (.agg #[.bool false, .int .i64 0, .string ⟨#[]⟩]), 3, 32) := by kernel_rfl
/-- The cells of a list of steps. -/
def tcs : List (Bool × Int × ByteArray) → List Value
  | [] => []
  | x :: r => .bool x.1 :: .int .i64 x.2.1 :: .string x.2.2 :: tcs r
theorem tcs_append : ∀ a b, tcs (a ++ b) = tcs a ++ tcs b
  | [], b => rfl
  | x :: r, b => by simp [tcs, tcs_append r b]
theorem tcs_len : ∀ a, (tcs a).length = a.length * 3
  | [] => rfl
  | x :: r => by simp [tcs, tcs_len r]; omega
theorem tcs_get : ∀ (a : List (Bool × Int × ByteArray)) (i : Nat) (h : i < a.length), (tcs a)[i * 3]? = some (.bool a[i].1) ∧ (tcs a)[i * 3 + 1]? = some (.int .i64 a[i].2.1) ∧ (tcs a)[i * 3 + 2]? = some (.string a[i].2.2)
  | x :: r, 0, _ => ⟨rfl, rfl, rfl⟩
  | x :: r, i + 1, h => by
    have := tcs_get r i (by simpa using h)
    simp only [List.getElem_cons_succ]
    rw [show (i + 1) * 3 = i * 3 + 3 by omega]
    exact this
theorem readsT_of_row {w : World} {B : Nat} {T : TypeId} {v : Value} {ss : List (Bool × Int × ByteArray)} (hx : ∀ x ∈ ss, x.2.2.size ≤ 1048576) (h0 : 0 < ss.length) (h : w.ownsRow B T 3 v ss.length (tcs ss)) : ReadsT w v ss := by
  obtain ⟨_, ⟨_, h1⟩ | ⟨g, cap, cur, rfl, hb, hh, hnc, hcm, hs, htake⟩⟩ := h
  · omega
  · refine ⟨_, cap, rfl, hnc, hcm, hx, fun _ => ⟨g, 0, rfl, (Array.getElem?_eq_some_iff.1 hh).1, fun i hi => ?_⟩⟩
    have hc : ∀ j, j < ss.length * 3 → w.cell? ⟨g, 0 + j, none⟩ = (tcs ss)[j]? := fun j hj => by
      rw [Nat.zero_add, cell_of_row w g j _ T (0, 0) hh, ← htake, List.getElem?_take_of_lt hj]
      simp
    obtain ⟨e1, e2, e3⟩ := tcs_get ss i hi
    have l1 : 0 + i * 3 + 1 = 0 + (i * 3 + 1) := by omega
    have l2 : 0 + i * 3 + 2 = 0 + (i * 3 + 2) := by omega
    rw [l1, l2, hc _ (by omega), hc _ (by omega), hc _ (by omega)]
    exact ⟨e1, e2, e3⟩

/-- The writes of a text's pieces. -/
def writesOf (start : Int) (d : ByteArray) (k : Nat) : List (Bool × Int × ByteArray) := (List.range k).map (fun (j : Nat) => (false, start + (j : Int), piece d j))
theorem writesOf_len (start : Int) (d : ByteArray) (k : Nat) : (writesOf start d k).length = k := by simp [writesOf]
theorem writesOf_snoc (start : Int) (d : ByteArray) (k : Nat) : writesOf start d (k + 1) = writesOf start d k ++ [(false, start + (k : Int), piece d k)] := by simp [writesOf, List.range_succ]
theorem putList_eq (h side gen : Int) (d : ByteArray) : putList h side gen d = writesOf (1 + (1 - side) * h) d (cuts d) ++ [(true, 0, ⟨#[]⟩), (false, 0, headOf (gen + 1) (1 - side) d.size), (true, 0, ⟨#[]⟩)] := rfl

theorem own_ge3 {w : World} {B n : Nat} {e : TypeId} {v : Value} {xs : List Value} (h : w.ownsRow B e 3 v n xs) {j : Nat} (hj : v.ownBlock = some j) : B ≤ j := by
  obtain ⟨_, ⟨rfl, _⟩ | ⟨g, cap, cur, rfl, hB, _⟩⟩ := h
  · cases hj
  · cases hj; exact hB
theorem ownsRow_after3 {w w' : World} {B n : Nat} {e : TypeId} {v : Value} {xs : List Value} (h : w.ownsRow B e 3 v n xs) (hb : Below w.heap.size w w') : w'.ownsRow B e 3 v n xs := by
  obtain ⟨h0, h1 | ⟨g, cap, cur, hv, hB, hh, hr⟩⟩ := h
  · exact ⟨h0, .inl h1⟩
  · have hlt : g < w.heap.size := (Array.getElem?_eq_some_iff.1 hh).1
    exact ⟨h0, .inr ⟨g, cap, cur, hv, hB, by rw [hb.block g hlt]; exact hh, hr⟩⟩
set_option maxHeartbeats 400000 in
theorem sideStart_any (vs vp : Value) (xs : List ByteArray) (s : Int) (w : World) (hx : 1 ≤ xs.length) (hn : xs.length ≤ 1048576) (hs : 0 ≤ s ∧ s ≤ 1) (hr : Reads w vs xs) (hv : ∃ p n k, vp = .slice p n k) :
    Calls Tryz.prog 120 #[.agg #[vs, vp], .int .i64 s] w fun e w' => e = .returned (.int .i64 (1 + s * half xs.length)) ∧ Below w.heap.size w w' := by
  have hb0 : Below w.heap.size w (w.alloc (.cells #[vs, vp] 30)) := (Below.refl _ _).alloc (Nat.le_refl _) _
  have HR := hide (hr.below hb0 (Nat.le_refl _))
  have HB0 := hide hb0
  obtain ⟨p1, c1, rfl, hq⟩ := hr
  obtain ⟨p2, m2, c2, rfl⟩ := hv
  clear hq hb0
  have hh : 0 ≤ half xs.length ∧ half xs.length ≤ 1048576 := by unfold half; omega
  have hm : s * half xs.length = 0 ∨ s * half xs.length = half xs.length := by
    rcases (show s = 0 ∨ s = 1 by omega) with rfl | rfl
    · left; simp
    · right; simp
  have hw1 : IntKind.i64.wrap (s * half xs.length) = s * half xs.length := by rw [IntKind.wrap_i64]; omega
  have hw2 : IntKind.i64.wrap (1 + s * half xs.length) = 1 + s * half xs.length := by rw [IntKind.wrap_i64]; omega
  clear hm hs
  go_enter Tryz.func120, Tryz.ntmps120
  go_wp2_with fail
  refine (sideSectors_any _ _ xs _ hx hn HR.out).mono ?_
  rintro e w2 ⟨rfl, hb2⟩
  have HB2 := hide (HB0.out.trans (hb2.mono HB0.out.size))
  clear hb2
  go_wp2
  go_ret
  exact ⟨rfl, HB2.out⟩

set_option maxRecDepth 100000 in
set_option maxHeartbeats 4000000 in
theorem putSteps_any (vs vp : Value) (xs : List ByteArray) (g s : Int) (d : ByteArray) (w : World) (hx : 1 ≤ xs.length) (hn : xs.length ≤ 64) (hs : 0 ≤ s ∧ s ≤ 1) (hg : 0 ≤ g ∧ g ≤ 1000001) (hd : d.size ≤ 8000) (hr : Reads w vs xs) (hv : ∃ p n k, vp = .slice p n k) :
    Calls Tryz.prog 107 #[.agg #[vs, vp], .agg #[.int .i64 g, .int .i64 s, .int .i64 d.size], .string d] w fun e w' =>
      (∃ v, e = .returned v ∧ ReadsT w' v (writesOf (1 + s * half xs.length) d (cuts d) ++ [(true, 0, ⟨#[]⟩), (false, 0, headOf g s d.size), (true, 0, ⟨#[]⟩)])) ∧ Below w.heap.size w w' := by
  obtain ⟨i0, hi, hz0, hz1, hz2⟩ := info_parts Tryz.infoStep
  obtain ⟨p2, m2, c2, rfl⟩ := hv
  obtain ⟨p1, c1, rfl, hq⟩ := id hr
  have hb0 : Below w.heap.size w ((w.alloc (.cells #[.slice p1 xs.length c1, .slice p2 m2 c2] 30)).alloc (.cells #[.int .i64 g, .int .i64 s, .int .i64 d.size] 114)) := ((Below.refl _ _).alloc (Nat.le_refl _) _).alloc (by simp) _
  have HR := hide (hr.below hb0 (Nat.le_refl _))
  have HB0 := hide hb0
  have R1 := row_new (w.alloc (.cells #[.slice p1 xs.length c1, .slice p2 m2 c2] 30)) [.int .i64 g, .int .i64 s, .int .i64 d.size] 114
  simp only [World.size_alloc] at R1
  have HR1 := hide R1
  have HGS := hide (And.intro hg hs)
  have hcd : cuts d ≤ 200 := by unfold cuts; omega
  have hh : 0 ≤ half xs.length ∧ half xs.length ≤ 64 := by unfold half; omega
  have hm : s * half xs.length = 0 ∨ s * half xs.length = half xs.length := by
    rcases (show s = 0 ∨ s = 1 by omega) with e | e
    · left; rw [e]; simp
    · right; rw [e]; simp
  have hst : 0 ≤ 1 + s * half xs.length ∧ 1 + s * half xs.length ≤ 65 := by omega
  clear hb0 R1 hq hr hm hg hs
  go_enter Tryz.func107, Tryz.ntmps107
  go_wp2_with fail
  refine (sideStart_any _ _ xs s _ hx (by omega) HGS.out.2 HR.out ⟨_, _, _, rfl⟩).mono ?_
  rintro e w1 ⟨rfl, hb1⟩
  have HB1 := hide (HB0.out.trans (hb1.mono HB0.out.size))
  have HX1 := hide (HR1.out.below hb1 (by simp))
  clear hb1
  obtain ⟨st, hst'⟩ : ∃ st, st = 1 + s * half xs.length := ⟨_, rfl⟩
  rw [← hst'] at hst ⊢
  have HST := hide hst'
  clear hst'
  go_wp2_with fail
  refine (cutSectors_any d _ hd).mono ?_
  rintro e w2 ⟨⟨v, rfl, hrd⟩, hb2⟩
  have HB2 := hide (HB1.out.trans (hb2.mono HB1.out.size))
  have HX2 := hide (Row.after hb2 HX1.out)
  have HRD := hide hrd
  obtain ⟨pp, pc, rfl, _⟩ := hrd
  clear hb2
  have hpl := pieces_len d (cuts d)
  rw [hpl]
  have HO0 := hide (show w2.ownsRow w2.heap.size 116 3 (.slice none 0 0) 0 (tcs (writesOf st d 0)) from ⟨rfl, .inl ⟨rfl, rfl⟩⟩)
  clear hpl
  go_wp2_with fail
  go_loopw [7, 18] (fun u i wr => ∃ k : Nat, k ≤ cuts d ∧ i = .int .i64 k ∧ Hid (wr.ownsRow w2.heap.size 116 3 u k (tcs (writesOf st d k))) ∧ Hid (Below w2.heap.size w2 wr)) (fun _ i _ => cuts d - (intOf i).toNat)
  case atStart => exact ⟨0, Nat.zero_le _, rfl, HO0, Below.refl _ _⟩
  case round =>
    obtain ⟨k, hk, rfl, HOw, HB⟩ := hrel
    by_cases hlt : k < cuts d
    · have hki : (k : Int) < (cuts d : Int) := by omega
      obtain ⟨pp', pc', he, _, _, _, h4⟩ := HRD.out.below HB.out (Nat.le_refl _)
      rw [pieces_len] at he
      cases he
      obtain ⟨gp, off, rfl, hgp, hcell⟩ := h4 (by rw [pieces_len]; omega)
      have hck : wr.cell? ⟨gp, off + k, none⟩ = some (.string (piece d k)) := by
        rw [hcell k (by rw [pieces_len]; exact hlt)]; simp [pieces]
      have hwa : IntKind.i64.wrap (st + (k : Int)) = st + (k : Int) := by rw [IntKind.wrap_i64]; omega
      have HNL := hide (show ∀ j u, ([Value.bool false, .int .i64 (st + (k : Int)), .string (piece d k)] : List Value)[j]? = some u → (wr.alloc (.cells #[.bool false, .int .i64 (st + (k : Int)), .string (piece d k)] 116)).cell? ((⟨wr.heap.size, 0, none⟩ : Addr).add j) = some u from fun j u hu => by
        rw [add_addr, Nat.zero_add, (row_new wr [.bool false, .int .i64 (st + (k : Int)), .string (piece d k)] 116).cell]; exact hu)
      have HOA := hide (HOw.out.alloc (.cells #[.bool false, .int .i64 (st + (k : Int)), .string (piece d k)] 116))
      have HBA := hide (HB.out.alloc HB.out.size (.cells #[.bool false, .int .i64 (st + (k : Int)), .string (piece d k)] 116))
      clear hcell h4
      go_wp2_with (at_builtin; refine wpList_append_own_at _ rfl _ _ 117 rfl w2.heap.size 116 i0 (.agg #[.bool false, .int .i64 0, .string ⟨#[]⟩]) 3 32 Tryz.underlying117 hi hz0 hz1 hz2 (by simp [Value.cells]) (by omega) _ k (tcs (writesOf st d k)) rfl HOA.out ⟨wr.heap.size, 0, none⟩ 1 1 [.bool false, .int .i64 (st + (k : Int)), .string (piece d k)] rfl rfl HNL.out (by simp [Value.oneCell']) (by unfold maxLen; omega) (by omega) (by have := HB.out.size; simp; omega) ?_
                   intro v' w3 ho1 hg1 _ _
                   have HO1 := hide ho1
                   have HG1 := hide hg1
                   clear ho1 hg1)
      have HP := hide (show tcs (writesOf st d (k + 1)) = tcs (writesOf st d k) ++ [.bool false, .int .i64 (st + (k : Int)), .string (piece d k)] by rw [writesOf_snoc, tcs_append]; rfl)
      go_roundw
      case rel =>
        refine ⟨k + 1, by omega, by go_num, by rw [HP.out]; exact HO1, ?_⟩
        exact below_grown HBA.out HBA.out.size HG1.out (fun j hj => own_ge3 HOA.out hj)
      case measure => simp [intOf]; omega
    · have hki : ¬ (k : Int) < (cuts d : Int) := by omega
      have hkc : k = cuts d := by omega
      subst hkc
      have HXr := hide (Row.after HB.out HX2.out)
      have x0 : wr.cell? ⟨w.heap.size + 1, 0, none⟩ = some (.int .i64 g) := HXr.out.cell 0
      have x1 : wr.cell? ⟨w.heap.size + 1, 1, none⟩ = some (.int .i64 s) := HXr.out.cell 1
      have x2 : wr.cell? ⟨w.heap.size + 1, 2, none⟩ = some (.int .i64 d.size) := HXr.out.cell 2
      go_wp2_with fail
      refine (headText_any g s d.size _ (by have := HGS.out; omega) (by have := HGS.out; omega) (by omega)).mono ?_
      obtain ⟨h, Hh⟩ : ∃ h, Hid (h = headOf g s d.size) := ⟨_, rfl⟩
      have hhs : h.size ≤ 34 := by rw [Hh.out]; exact headOf_size _ _ _
      rw [← Hh.out]
      rintro e w3 ⟨rfl, hb3⟩
      have HB3 := hide (HB.out.trans (hb3.mono HB.out.size))
      have HO3 := hide (ownsRow_after3 HOw.out hb3)
      have hz3 := HB3.out.size
      have HNL := hide (show ∀ j u, ([Value.bool true, .int .i64 0, .string ⟨#[]⟩, .bool false, .int .i64 0, .string h, .bool true, .int .i64 0, .string ⟨#[]⟩] : List Value)[j]? = some u → (w3.alloc (.cells #[.bool true, .int .i64 0, .string ⟨#[]⟩, .bool false, .int .i64 0, .string h, .bool true, .int .i64 0, .string ⟨#[]⟩] 116)).cell? ((⟨w3.heap.size, 0, none⟩ : Addr).add j) = some u from fun j u hu => by
        rw [add_addr, Nat.zero_add, (row_new w3 [.bool true, .int .i64 0, .string ⟨#[]⟩, .bool false, .int .i64 0, .string h, .bool true, .int .i64 0, .string ⟨#[]⟩] 116).cell]; exact hu)
      have HOA := hide (HO3.out.alloc (.cells #[.bool true, .int .i64 0, .string ⟨#[]⟩, .bool false, .int .i64 0, .string h, .bool true, .int .i64 0, .string ⟨#[]⟩] 116))
      have HBA := hide (HB3.out.alloc HB3.out.size (.cells #[.bool true, .int .i64 0, .string ⟨#[]⟩, .bool false, .int .i64 0, .string h, .bool true, .int .i64 0, .string ⟨#[]⟩] 116))
      clear hb3 x0 x1 x2
      go_wp2_with (at_builtin; refine wpList_append_own_at _ rfl _ _ 117 rfl w2.heap.size 116 i0 (.agg #[.bool false, .int .i64 0, .string ⟨#[]⟩]) 3 32 Tryz.underlying117 hi hz0 hz1 hz2 (by simp [Value.cells]) (by omega) _ (cuts d) (tcs (writesOf st d (cuts d))) rfl HOA.out ⟨w3.heap.size, 0, none⟩ 3 3 [.bool true, .int .i64 0, .string ⟨#[]⟩, .bool false, .int .i64 0, .string h, .bool true, .int .i64 0, .string ⟨#[]⟩] rfl rfl HNL.out (by simp [Value.oneCell']) (by unfold maxLen; omega) (by omega) (by simp; omega) ?_
                   intro v' w4 ho1 hg1 _ _
                   have HO1 := hide ho1
                   have HG1 := hide hg1
                   clear ho1 hg1)
      have HBE := hide (below_grown HBA.out HBA.out.size HG1.out (fun j hj => own_ge3 HOA.out hj))
      have HRT := hide (show ReadsT w4 v' (writesOf (1 + s * half xs.length) d (cuts d) ++ [(true, 0, ⟨#[]⟩), (false, 0, headOf g s d.size), (true, 0, ⟨#[]⟩)]) by
        rw [← HST.out, ← Hh.out]
        refine readsT_of_row (B := w2.heap.size) (T := 116) ?_ (by simp) ?_
        · intro x hx
          simp only [List.mem_append, List.mem_cons, List.not_mem_nil, or_false] at hx
          rcases hx with hx | rfl | rfl | rfl
          · obtain ⟨j, _, rfl⟩ := List.mem_map.1 hx
            show (piece d j).size ≤ 1048576
            unfold piece
            rw [ByteArray.size_extract]; omega
          · show (0 : Nat) ≤ 1048576; omega
          · show h.size ≤ 1048576; omega
          · show (0 : Nat) ≤ 1048576; omega
        · rw [tcs_append, List.length_append, writesOf_len]
          exact HO1.out)
      have HBF := hide (HB2.out.trans (HBE.out.mono HB2.out.size))
      go_wp2
      go_ret
      exact ⟨⟨_, rfl, HRT.out⟩, HBF.out⟩
end Go.Proofs.YtnpbmaajgiapmaaGreatDoor
