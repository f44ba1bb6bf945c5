/- The program's steps, one behind the other. -/
import Derived.Test.YtkmehbgepkilkaaGreatDoorXGIBank
import Derived.Test.YtkmehbgepkilkaaGreatDoorXGSFormat
namespace Go.Proofs.YtkmehbgepkilkaaGreatDoor
open Go.RowKit

/-- The slice v reads as the steps ss. -/
def ReadsT (w : World) (v : Value) (ss : List (Bool × Int × ByteArray)) : Prop :=
  ∃ p cap, v = .slice p ss.length cap ∧ ss.length ≤ cap ∧ cap ≤ maxLen ∧ (∀ x ∈ ss, x.2.2.size ≤ 1048576) ∧
    (0 < ss.length → ∃ g off, p = some ⟨g, off, none⟩ ∧ g < w.heap.size ∧
      ∀ i (h : i < ss.length), w.cell? ⟨g, off + i * 3, none⟩ = some (.bool ss[i].1) ∧ w.cell? ⟨g, off + i * 3 + 1, none⟩ = some (.int .i64 ss[i].2.1) ∧ w.cell? ⟨g, off + i * 3 + 2, none⟩ = some (.string ss[i].2.2))
theorem ReadsT.below {w w' : World} {v : Value} {ss : List (Bool × Int × ByteArray)} {B : Nat} (h : ReadsT w v ss) (hb : Below B w w') (hB : w.heap.size ≤ B) : ReadsT w' v ss := by
  obtain ⟨p, cap, rfl, h1, h2, h3, h4⟩ := h
  refine ⟨p, cap, rfl, h1, h2, h3, fun h0 => ?_⟩
  obtain ⟨g, off, rfl, hg, hc⟩ := h4 h0
  refine ⟨g, off, rfl, Nat.lt_of_lt_of_le hg hb.size, fun i hi => ?_⟩
  rw [hb.cell (p := ⟨g, off + i * 3, none⟩) (Nat.lt_of_lt_of_le hg hB), hb.cell (p := ⟨g, off + i * 3 + 1, none⟩) (Nat.lt_of_lt_of_le hg hB), hb.cell (p := ⟨g, off + i * 3 + 2, none⟩) (Nat.lt_of_lt_of_le hg hB)]
  exact hc i hi
set_option maxRecDepth 100000 in
set_option maxHeartbeats 4000000 in
theorem runSteps_any (vs vp vt : Value) (xs : List ByteArray) (ps : List (Int × ByteArray)) (ss : List (Bool × Int × ByteArray)) (aF aR aU : Addr) (w : World) (hok : right xs ps = true) (hl : ss.length ≤ 1048576) (hr : Reads w vs xs) (hp : ReadsP w vp ps) (ht : ReadsT w vt ss) (hS : Sents aF aR aU w) :
    Calls Tryz.prog 35 #[.agg #[vs, vp], vt] w fun e w' => StepIs w.heap.size e w' (runOut ss xs ps) ∧ Below w.heap.size w w' := by
  obtain ⟨p1, c1, rfl, hq⟩ := id hr
  obtain ⟨p2, c2, rfl, hq2⟩ := id hp
  obtain ⟨p3, c3, rfl, hcap, hmx, hdt, hrd⟩ := id ht
  obtain ⟨W, hW⟩ : ∃ W, W = (w.alloc (.cells #[.slice p1 xs.length c1, .slice p2 ps.length c2] 26)).alloc (.cells #[.slice none 0 0, .slice none 0 0] 26) := ⟨_, rfl⟩
  have hb0 : Below w.heap.size w W := by rw [hW]; exact (((Below.refl _ _).alloc (Nat.le_refl _) _).alloc (by simp) _)
  have R0 : Row W w.heap.size 26 [.slice p1 xs.length c1, .slice p2 ps.length c2] := by rw [hW]; exact (row_new w _ _).alloc _
  have R1 : Row W (w.heap.size + 1) 26 [.slice none 0 0, .slice none 0 0] := by
    rw [hW]; have := row_new (w.alloc (.cells #[.slice p1 xs.length c1, .slice p2 ps.length c2] 26)) [.slice none 0 0, .slice none 0 0] 26
    simp only [World.size_alloc] at this; exact this
  have HR := hide (hr.below hb0 (Nat.le_refl _))
  have HP := hide (hp.below hb0 (Nat.le_refl _))
  have HS0 := hide hS
  have HT := hide ht
  have HB0 := hide hb0
  have HDT := hide hdt
  have HOK := hide hok
  have a0 : W.cell? ⟨w.heap.size, 0, none⟩ = some (.slice p1 xs.length c1) := R0.cell 0
  have a1 : W.cell? ⟨w.heap.size, 1, none⟩ = some (.slice p2 ps.length c2) := R0.cell 1
  have H0 := hide R0
  have H1 := hide R1
  have hsz : w.heap.size + 2 ≤ W.heap.size := by have := R1.lt; omega
  clear R0 R1 hb0 hr hp hS hq hq2 hrd ht hdt hok
  go_enter Tryz.func35, Tryz.ntmps35
  go_wp2_with fail
  rw [← hW]
  clear hW
  go_wp2_with fail
  refine (copyDisk_any _ _ xs ps _ HR.out HP.out (small_of_right HOK.out)).mono ?_
  rintro e w1 ⟨⟨us, up, rfl, o1, o2, dd⟩, hb1⟩
  obtain ⟨i1, j1, k1, rfl⟩ := o1.isSlice
  obtain ⟨i2, j2, k2, rfl⟩ := o2.isSlice
  have r0 := Row.after hb1 H0.out
  have H01 := hide r0
  have H11 := hide (Row.after hb1 H1.out)
  have HB1 := hide (HB0.out.trans (hb1.mono HB0.out.size))
  have b0 : w1.cell? ⟨w.heap.size, 0, none⟩ = some (.slice p1 xs.length c1) := r0.cell 0
  have b1 : w1.cell? ⟨w.heap.size, 1, none⟩ = some (.slice p2 ps.length c2) := r0.cell 1
  have f0 := r0.free 0
  have f1 := r0.free 1
  have O1 := hide (o1.mono (B' := w.heap.size + 2) hsz)
  have O2 := hide (o2.mono (B' := w.heap.size + 2) hsz)
  have DD := hide dd
  clear o1 o2 dd hb1 r0 a0 a1 H0 H1
  go_wp2_with fail
  obtain ⟨z0, z1, KG⟩ := two H01.out (.slice i1 j1 k1) (.slice i2 j2 k2)
  have HRow := hide (show Row ((w1.setCell ⟨w.heap.size, 0, none⟩ (.slice i1 j1 k1)).setCell ⟨w.heap.size, 1, none⟩ (.slice i2 j2 k2)) w.heap.size 26 [.slice i1 j1 k1, .slice i2 j2 k2] from (H01.out.set (j := 0) _).set (j := 1) _)
  have HX1 := hide (KG.row H11.out (by simp))
  have HBx := hide (KG.toBelow HB1.out HB1.out.size (by simp))
  have O1x := hide (O1.out.kept KG (fun x hx => by have := (O1.out.leads x hx).1; simp; omega))
  have O2x := hide (O2.out.kept KG (fun x hx => by have := (O2.out.leads x hx).1; simp; omega))
  clear z0 z1 KG b0 b1 f0 f1 H01 H11 O1 O2 HB1 HR HP
  go_loopw [11] (fun i wr => ∃ (k : Nat) (ys : List ByteArray) (qs : List (Int × ByteArray)) (us up : Value), k ≤ ss.length ∧ i = .int .i64 k ∧ Hid (right ys qs = true) ∧ Hid (runOut ss xs ps = runOut (ss.drop k) ys qs) ∧ Hid (Row wr w.heap.size 26 [us, up]) ∧ Hid (Row wr (w.heap.size + 1) 26 [.slice none 0 0, .slice none 0 0]) ∧ Hid (OwnS 9 (w.heap.size + 2) wr us ys) ∧ Hid (OwnP 61 (w.heap.size + 2) wr up qs) ∧ Hid (∀ x ∈ leads us, x ∉ leads up) ∧ Hid (Below w.heap.size w wr)) (fun i _ => ss.length - (intOf i).toNat)
  case atStart => exact ⟨0, xs, ps, _, _, Nat.zero_le _, rfl, HOK, rfl, HRow, HX1, O1x, O2x, DD, HBx⟩
  case round =>
    obtain ⟨k, ys, qs, us, up, hk, rfl, HOKk, HE, HRk, HXk, HO1, HO2, HDk, HBk⟩ := hrel
    obtain ⟨l1, m1, n1, rfl⟩ := HO1.out.isSlice
    obtain ⟨l2, m2, n2, rfl⟩ := HO2.out.isSlice
    have b0 : wr.cell? ⟨w.heap.size, 0, none⟩ = some (.slice l1 m1 n1) := HRk.out.cell 0
    have b1 : wr.cell? ⟨w.heap.size, 1, none⟩ = some (.slice l2 m2 n2) := HRk.out.cell 1
    have f0 := HRk.out.free 0
    have f1 := HRk.out.free 1
    have hwl := HXk.out.lt
    by_cases hlt : k < ss.length
    · have hki : (k : Int) < (ss.length : Int) := by omega
      obtain ⟨p, cap, he, _, _, hd, h4⟩ := HT.out.below HBk.out (Nat.le_refl _)
      cases he
      obtain ⟨g, off, rfl, hg, hc⟩ := h4 (by omega)
      obtain ⟨t0, t1, t2⟩ := hc k hlt
      have hds := hd _ (List.getElem_mem hlt)
      have HS := hide (runOut_step ss k hlt ys qs)
      obtain ⟨s, hs⟩ : ∃ s, s = ss[k] := ⟨_, rfl⟩
      rw [← hs] at t0 t1 t2 hds HS
      obtain ⟨sf, sa, sd⟩ := s
      clear hs hc h4 hd
      have hln := right_len HOKk.out
      obtain ⟨n1', n2', n3'⟩ := hln
      have bn := below_new wr (.cells #[.bool sf, .int .i64 sa, .string sd] 63)
      have HBn := hide (HBk.out.trans (bn.mono HBk.out.size))
      have HRn := hide (Row.after bn HRk.out)
      have HXn := hide (Row.after bn HXk.out)
      have HRd := hide (HO1.out.reads.below bn (Nat.le_refl _))
      have HPd := hide (HO2.out.reads.below bn (Nat.le_refl _))
      have HSn := hide (Stab.go HBn.out HS0.out)
      have e0 : (wr.alloc (.cells #[.bool sf, .int .i64 sa, .string sd] 63)).cell? ⟨w.heap.size, 0, none⟩ = some (.slice l1 m1 n1) := HRn.out.cell 0
      have e1 : (wr.alloc (.cells #[.bool sf, .int .i64 sa, .string sd] 63)).cell? ⟨w.heap.size, 1, none⟩ = some (.slice l2 m2 n2) := HRn.out.cell 1
      clear bn
      go_wp2_with fail
      refine (runStep_any _ _ ys qs sf sa sd aF aR aU _ (by omega) (by omega) hds HRd.out HPd.out HSn.out).mono ?_
      rintro e w2 ⟨hst, hb2⟩
      have HB2 := hide (HBn.out.trans (hb2.mono HBn.out.size))
      rcases hst with ⟨hc0, vs2, vp2, rfl, o1, o2, dd⟩ | ⟨hc0, rfl⟩
      · obtain ⟨u1, u2, u3, rfl⟩ := o1.isSlice
        obtain ⟨v1, v2, v3, rfl⟩ := o2.isSlice
        have HR2 := hide (Row.after hb2 HRn.out)
        have HX2 := hide (Row.after hb2 HXn.out)
        have x0 : w2.cell? ⟨w.heap.size, 0, none⟩ = some (.slice l1 m1 n1) := HR2.out.cell 0
        have x1 : w2.cell? ⟨w.heap.size, 1, none⟩ = some (.slice l2 m2 n2) := HR2.out.cell 1
        have y0 := HR2.out.free 0
        have y1 := HR2.out.free 1
        have hwz : w.heap.size + 2 ≤ (wr.alloc (.cells #[.bool sf, .int .i64 sa, .string sd] 63)).heap.size := by simp; omega
        have O1 := hide (o1.mono (B' := w.heap.size + 2) hwz)
        have O2 := hide (o2.mono (B' := w.heap.size + 2) hwz)
        have DD := hide dd
        have HC := hide hc0
        clear o1 o2 dd hb2 hwz hc0
        go_wp2_with fail
        obtain ⟨z0, z1, KG⟩ := two HR2.out (.slice u1 u2 u3) (.slice v1 v2 v3)
        have HRow' := hide (show Row ((w2.setCell ⟨w.heap.size, 0, none⟩ (.slice u1 u2 u3)).setCell ⟨w.heap.size, 1, none⟩ (.slice v1 v2 v3)) w.heap.size 26 [.slice u1 u2 u3, .slice v1 v2 v3] from (HR2.out.set (j := 0) _).set (j := 1) _)
        have HXx := hide (KG.row HX2.out (by simp))
        have HBy := hide (KG.toBelow HB2.out HB2.out.size (by simp))
        have O1y := hide (O1.out.kept KG (fun x hx => by have := (O1.out.leads x hx).1; simp; omega))
        have O2y := hide (O2.out.kept KG (fun x hx => by have := (O2.out.leads x hx).1; simp; omega))
        have HE' := hide (show runOut ss xs ps = runOut (ss.drop (k + 1)) (stepOut (sf, sa, sd) ys qs).xs (stepOut (sf, sa, sd) ys qs).ps by rw [HE.out, HS.out, if_pos HC.out])
        have HOK' := hide (stepOut_right (s := (sf, sa, sd)) HOKk.out HC.out)
        clear z0 z1 KG x0 x1 y0 y1
        go_roundw
        case rel => exact ⟨k + 1, _, _, _, _, by omega, by go_num, HOK', HE', HRow', HXx, O1y, O2y, DD, HBy⟩
        case measure => simp [intOf]; omega
      · have HF := hide (show runOut ss xs ps = illOut (stepOut (sf, sa, sd) ys qs).c by rw [HE.out, HS.out, if_neg hc0])
        clear hb2
        go_wp2
        exact ⟨rfl, .inr (by rw [HF.out]; exact ⟨hc0, rfl⟩), HB2.out⟩
    · have HF := hide (show runOut ss xs ps = ⟨ys, qs, ⟨#[]⟩, 0⟩ by rw [HE.out, List.drop_eq_nil_of_le (by omega)]; rfl)
      have d0 : wr.cell? ⟨w.heap.size + 1, 0, none⟩ = some (.slice none 0 0) := HXk.out.cell 0
      have d1 : wr.cell? ⟨w.heap.size + 1, 1, none⟩ = some (.slice none 0 0) := HXk.out.cell 1
      have g0 := HXk.out.free 0
      have g1 := HXk.out.free 1
      go_wp2
      obtain ⟨z0, z1, KG⟩ := two HXk.out (.slice l1 m1 n1) (.slice l2 m2 n2)
      exact bodyPost_ret (v := .agg #[.slice l1 m1 n1, .slice l2 m2 n2]) (by simp [results, Tryz.results35, go_sem, z0, z1]) rfl
        ⟨.inl (by rw [HF.out]; exact ⟨rfl, _, _, rfl, (HO1.out.kept KG (fun x hx => by have := (HO1.out.leads x hx).1; simp; omega)).mono (by omega), (HO2.out.kept KG (fun x hx => by have := (HO2.out.leads x hx).1; simp; omega)).mono (by omega), HDk.out⟩), KG.toBelow HBk.out HBk.out.size (by simp)⟩
end Go.Proofs.YtkmehbgepkilkaaGreatDoor
