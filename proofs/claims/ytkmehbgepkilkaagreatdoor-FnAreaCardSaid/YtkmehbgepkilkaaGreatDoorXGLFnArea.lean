/- The law FnArea, walked. -/
import Derived.Test.YtkmehbgepkilkaaGreatDoorXGDAFacts
import Derived.OrdersHeld
import Derived.Deep.RegionHeld3
import Derived.Deep.DeepCutAuto
import Derived.Deep.CutRange
namespace Go.Proofs.YtkmehbgepkilkaaGreatDoor
open Go.RowKit

set_option maxRecDepth 100000 in
set_option maxHeartbeats 40000000 in
theorem fnArea_walk (vc vm : Value) (bc bm : List Int) (aF aR aU : Addr) (w : World) (hc : ReadsB w vc bc) (hm : ReadsB w vm bm) (hlc : bc.length ≤ 1048576) (hlm : bm.length ≤ 1048576) (hS : Sents aF aR aU w) (hG : St3.Laid w) :
    Calls Tryz.prog 3 #[vc, vm] w fun e w' => e = .returned (.bool true) ∧ Below w.heap.size w w' := by
  have SE_0 := hide hS
  have LG_0 := hide hG
  have VC_0 := hide hc
  have VM_0 := hide hm
  have BB_0 := hide (Below.refl w.heap.size w)
  obtain ⟨pc, cc, rfl, _⟩ := hc
  obtain ⟨pm, cm, rfl, _⟩ := hm
  have t1 : ¬ (1048576 : Int) < (bc.length : Int) := by omega
  have t2 : ¬ (1048576 : Int) < (bm.length : Int) := by omega
  clear hS hG
  go_enter Tryz.func3, Tryz.ntmps3
  go_wp2_with fail
  refine (drawAPut_any _ bc _ VC_0.out hlc).mono ?_
  rintro e w1 ⟨⟨us, up, xs, ps, tx, a, rfl, htx, dk⟩, hb⟩
  have HSD := hide dk.small
  have o1 := dk.os.reads
  have o2 := dk.op.reads
  obtain ⟨us1, us2, us3, rfl⟩ := dk.os.isSlice
  obtain ⟨up1, up2, up3, rfl⟩ := dk.op.isSlice
  have bn := below_new w1 (.cells #[.slice us1 us2 us3, .slice up1 up2 up3] 26)
  have hb3 := hb.trans (bn.mono hb.size)
  obtain ⟨b5, hb5⟩ : ∃ b, b = w1.heap.size := ⟨_, rfl⟩
  obtain ⟨W1, hW1⟩ : ∃ W, W = w1.alloc (.cells #[.slice us1 us2 us3, .slice up1 up2 up3] 26) := ⟨_, rfl⟩
  rw [← hW1] at hb3
  have PDd_1 := hide (show PDA b5 (.slice us1 us2 us3) (.slice up1 up2 up3) xs ps W1 from ⟨by rw [hW1, hb5]; exact row_new w1 _ _, by rw [hW1]; exact o1.below bn (Nat.le_refl _), by rw [hW1]; exact o2.below bn (Nat.le_refl _)⟩)
  have SE_1 := hide (Stab.go hb3 SE_0.out)
  have LG_1 := hide (Stab.go (P := fun x => St3.Laid x) hb3 LG_0.out)
  have VC_1 := hide (Stab.go (P := fun x => ReadsB x (.slice pc bc.length cc) bc) hb3 VC_0.out)
  have VM_1 := hide (Stab.go (P := fun x => ReadsB x (.slice pm bm.length cm) bm) hb3 VM_0.out)
  have BB_1 := hide (Stab.go (P := fun x => Below w.heap.size w x) hb3 BB_0.out)
  clear SE_0 LG_0 VC_0 VM_0 BB_0
  clear dk o1 o2 hb bn hb3
  go_wp2_with fail
  rw [← hW1, ← hb5]
  clear hW1 hb5
  refine (drawAFormat_any _ bm _ VM_1.out hlm).mono ?_
  rintro e w2 ⟨⟨fs, fp, xf, pf, rfl, dk⟩, hb⟩
  have HSF := hide dk.small
  have o1 := dk.os.reads
  have o2 := dk.op.reads
  obtain ⟨fs1, fs2, fs3, rfl⟩ := dk.os.isSlice
  obtain ⟨fp1, fp2, fp3, rfl⟩ := dk.op.isSlice
  have bn := below_new w2 (.cells #[.slice fs1 fs2 fs3, .slice fp1 fp2 fp3] 26)
  have hb3 := hb.trans (bn.mono hb.size)
  obtain ⟨b8, hb8⟩ : ∃ b, b = w2.heap.size := ⟨_, rfl⟩
  obtain ⟨W2, hW2⟩ : ∃ W, W = w2.alloc (.cells #[.slice fs1 fs2 fs3, .slice fp1 fp2 fp3] 26) := ⟨_, rfl⟩
  rw [← hW2] at hb3
  have PDf_2 := hide (show PDA b8 (.slice fs1 fs2 fs3) (.slice fp1 fp2 fp3) xf pf W2 from ⟨by rw [hW2, hb8]; exact row_new w2 _ _, by rw [hW2]; exact o1.below bn (Nat.le_refl _), by rw [hW2]; exact o2.below bn (Nat.le_refl _)⟩)
  have SE_2 := hide (Stab.go hb3 SE_1.out)
  have LG_2 := hide (Stab.go (P := fun x => St3.Laid x) hb3 LG_1.out)
  have VC_2 := hide (Stab.go (P := fun x => ReadsB x (.slice pc bc.length cc) bc) hb3 VC_1.out)
  have VM_2 := hide (Stab.go (P := fun x => ReadsB x (.slice pm bm.length cm) bm) hb3 VM_1.out)
  have BB_2 := hide (Stab.go (P := fun x => Below w.heap.size w x) hb3 BB_1.out)
  have PDd_2 := hide (Stab.go hb3 PDd_1.out)
  clear SE_1 LG_1 VC_1 VM_1 BB_1 PDd_1
  clear dk o1 o2 hb bn hb3
  go_wp2_with fail
  rw [← hW2, ← hb8]
  clear hW2 hb8
  refine (drawARead_any _ bm _ VM_2.out hlm).mono ?_
  rintro e w3 ⟨⟨gs, gp, xg, pg, rfl, dk⟩, hb⟩
  have HSG := hide dk.small
  have o1 := dk.os.reads
  have o2 := dk.op.reads
  obtain ⟨gs1, gs2, gs3, rfl⟩ := dk.os.isSlice
  obtain ⟨gp1, gp2, gp3, rfl⟩ := dk.op.isSlice
  have bn := below_new w3 (.cells #[.slice gs1 gs2 gs3, .slice gp1 gp2 gp3] 26)
  have hb3 := hb.trans (bn.mono hb.size)
  obtain ⟨b9, hb9⟩ : ∃ b, b = w3.heap.size := ⟨_, rfl⟩
  obtain ⟨W3, hW3⟩ : ∃ W, W = w3.alloc (.cells #[.slice gs1 gs2 gs3, .slice gp1 gp2 gp3] 26) := ⟨_, rfl⟩
  rw [← hW3] at hb3
  have PDg_3 := hide (show PDA b9 (.slice gs1 gs2 gs3) (.slice gp1 gp2 gp3) xg pg W3 from ⟨by rw [hW3, hb9]; exact row_new w3 _ _, by rw [hW3]; exact o1.below bn (Nat.le_refl _), by rw [hW3]; exact o2.below bn (Nat.le_refl _)⟩)
  have SE_3 := hide (Stab.go hb3 SE_2.out)
  have LG_3 := hide (Stab.go (P := fun x => St3.Laid x) hb3 LG_2.out)
  have VC_3 := hide (Stab.go (P := fun x => ReadsB x (.slice pc bc.length cc) bc) hb3 VC_2.out)
  have VM_3 := hide (Stab.go (P := fun x => ReadsB x (.slice pm bm.length cm) bm) hb3 VM_2.out)
  have BB_3 := hide (Stab.go (P := fun x => Below w.heap.size w x) hb3 BB_2.out)
  have PDd_3 := hide (Stab.go hb3 PDd_2.out)
  have PDf_3 := hide (Stab.go hb3 PDf_2.out)
  clear SE_2 LG_2 VC_2 VM_2 BB_2 PDd_2 PDf_2
  clear dk o1 o2 hb bn hb3
  have k0 : (w3.alloc (.cells #[.slice gs1 gs2 gs3, .slice gp1 gp2 gp3] 26)).cell? ⟨b5, 0, none⟩ = some (.slice us1 us2 us3) := by rw [← hW3]; exact PDd_3.out.row.cell 0
  have k1 : (w3.alloc (.cells #[.slice gs1 gs2 gs3, .slice gp1 gp2 gp3] 26)).cell? ⟨b5, 1, none⟩ = some (.slice up1 up2 up3) := by rw [← hW3]; exact PDd_3.out.row.cell 1
  go_wp2_with fail
  clear k0 k1
  rw [← hW3, ← hb9]
  clear hW3 hb9
  have htx2 : tx.size ≤ 1048576 := by omega
  refine (implRd _ _ xs ps aF aR aU _ HSD.out PDd_3.out.rs PDd_3.out.rp SE_3.out LG_3.out).mono ?_
  obtain ⟨o, Ho⟩ : ∃ o, Hid (o = areaOut xs ps) := ⟨_, rfl⟩
  rw [← Ho.out]
  rintro e w4 ⟨⟨ys, yp, rfl, ow1, ow2, _⟩, hb⟩
  have o1 := ow1.reads
  have o2 := ow2.reads
  obtain ⟨ys1, ys2, ys3, rfl⟩ := ow1.isSlice
  obtain ⟨yp1, yp2, yp3, rfl⟩ := ow2.isSlice
  have bn := below_new w4 (.cells #[.slice ys1 ys2 ys3, .slice yp1 yp2 yp3, .string o.t, .int .i64 o.g, .int .i64 o.c] 31)
  have hb3 := hb.trans (bn.mono hb.size)
  obtain ⟨b10, hb10⟩ : ∃ b, b = w4.heap.size := ⟨_, rfl⟩
  obtain ⟨W4, hW4⟩ : ∃ W, W = w4.alloc (.cells #[.slice ys1 ys2 ys3, .slice yp1 yp2 yp3, .string o.t, .int .i64 o.g, .int .i64 o.c] 31) := ⟨_, rfl⟩
  rw [← hW4] at hb3
  have POx_4 := hide (show POA b10 (.slice ys1 ys2 ys3) (.slice yp1 yp2 yp3) o W4 from ⟨by rw [hW4, hb10]; exact row_new w4 _ _, by rw [hW4]; exact o1.below bn (Nat.le_refl _), by rw [hW4]; exact o2.below bn (Nat.le_refl _)⟩)
  have SE_4 := hide (Stab.go hb3 SE_3.out)
  have LG_4 := hide (Stab.go (P := fun x => St3.Laid x) hb3 LG_3.out)
  have VC_4 := hide (Stab.go (P := fun x => ReadsB x (.slice pc bc.length cc) bc) hb3 VC_3.out)
  have VM_4 := hide (Stab.go (P := fun x => ReadsB x (.slice pm bm.length cm) bm) hb3 VM_3.out)
  have BB_4 := hide (Stab.go (P := fun x => Below w.heap.size w x) hb3 BB_3.out)
  have PDd_4 := hide (Stab.go hb3 PDd_3.out)
  have PDf_4 := hide (Stab.go hb3 PDf_3.out)
  have PDg_4 := hide (Stab.go hb3 PDg_3.out)
  clear SE_3 LG_3 VC_3 VM_3 BB_3 PDd_3 PDf_3 PDg_3
  clear ow1 ow2 o1 o2 hb bn hb3
  have k0 : (w4.alloc (.cells #[.slice ys1 ys2 ys3, .slice yp1 yp2 yp3, .string o.t, .int .i64 o.g, .int .i64 o.c] 31)).cell? ⟨b5, 0, none⟩ = some (.slice us1 us2 us3) := by rw [← hW4]; exact PDd_4.out.row.cell 0
  have k1 : (w4.alloc (.cells #[.slice ys1 ys2 ys3, .slice yp1 yp2 yp3, .string o.t, .int .i64 o.g, .int .i64 o.c] 31)).cell? ⟨b5, 1, none⟩ = some (.slice up1 up2 up3) := by rw [← hW4]; exact PDd_4.out.row.cell 1
  go_wp2_with fail
  clear k0 k1
  rw [← hW4, ← hb10]
  clear hW4 hb10
  refine (implPt _ _ xs ps tx 1000 aF aR aU _ HSD.out htx2 PDd_4.out.rs PDd_4.out.rp SE_4.out LG_4.out).mono ?_
  obtain ⟨q, Hq⟩ : ∃ o, Hid (o = putOut xs ps tx 1000) := ⟨_, rfl⟩
  rw [← Hq.out]
  rintro e w5 ⟨⟨qs, qp, rfl, ow1, ow2, _⟩, hb⟩
  have o1 := ow1.reads
  have o2 := ow2.reads
  obtain ⟨qs1, qs2, qs3, rfl⟩ := ow1.isSlice
  obtain ⟨qp1, qp2, qp3, rfl⟩ := ow2.isSlice
  have bn := below_new w5 (.cells #[.slice qs1 qs2 qs3, .slice qp1 qp2 qp3, .string q.t, .int .i64 q.g, .int .i64 q.c] 31)
  have hb3 := hb.trans (bn.mono hb.size)
  obtain ⟨b11, hb11⟩ : ∃ b, b = w5.heap.size := ⟨_, rfl⟩
  obtain ⟨W5, hW5⟩ : ∃ W, W = w5.alloc (.cells #[.slice qs1 qs2 qs3, .slice qp1 qp2 qp3, .string q.t, .int .i64 q.g, .int .i64 q.c] 31) := ⟨_, rfl⟩
  rw [← hW5] at hb3
  have POy_5 := hide (show POA b11 (.slice qs1 qs2 qs3) (.slice qp1 qp2 qp3) q W5 from ⟨by rw [hW5, hb11]; exact row_new w5 _ _, by rw [hW5]; exact o1.below bn (Nat.le_refl _), by rw [hW5]; exact o2.below bn (Nat.le_refl _)⟩)
  have SE_5 := hide (Stab.go hb3 SE_4.out)
  have LG_5 := hide (Stab.go (P := fun x => St3.Laid x) hb3 LG_4.out)
  have VC_5 := hide (Stab.go (P := fun x => ReadsB x (.slice pc bc.length cc) bc) hb3 VC_4.out)
  have VM_5 := hide (Stab.go (P := fun x => ReadsB x (.slice pm bm.length cm) bm) hb3 VM_4.out)
  have BB_5 := hide (Stab.go (P := fun x => Below w.heap.size w x) hb3 BB_4.out)
  have PDd_5 := hide (Stab.go hb3 PDd_4.out)
  have PDf_5 := hide (Stab.go hb3 PDf_4.out)
  have PDg_5 := hide (Stab.go hb3 PDg_4.out)
  have POx_5 := hide (Stab.go hb3 POx_4.out)
  clear SE_4 LG_4 VC_4 VM_4 BB_4 PDd_4 PDf_4 PDg_4 POx_4
  clear ow1 ow2 o1 o2 hb bn hb3
  have k0 : (w5.alloc (.cells #[.slice qs1 qs2 qs3, .slice qp1 qp2 qp3, .string q.t, .int .i64 q.g, .int .i64 q.c] 31)).cell? ⟨b8, 0, none⟩ = some (.slice fs1 fs2 fs3) := by rw [← hW5]; exact PDf_5.out.row.cell 0
  have k1 : (w5.alloc (.cells #[.slice qs1 qs2 qs3, .slice qp1 qp2 qp3, .string q.t, .int .i64 q.g, .int .i64 q.c] 31)).cell? ⟨b8, 1, none⟩ = some (.slice fp1 fp2 fp3) := by rw [← hW5]; exact PDf_5.out.row.cell 1
  go_wp2_with fail
  clear k0 k1
  rw [← hW5, ← hb11]
  clear hW5 hb11
  refine (implFormat_any _ _ xf pf aF aR aU _ HSF.out.1 HSF.out.2.2.1 PDf_5.out.rs PDf_5.out.rp SE_5.out).mono ?_
  obtain ⟨z, Hz⟩ : ∃ o, Hid (o = formatOut xf pf) := ⟨_, rfl⟩
  rw [← Hz.out]
  rintro e w6 ⟨⟨zs, zp, rfl, ow1, ow2, _⟩, hb⟩
  have o1 := ow1.reads
  have o2 := ow2.reads
  obtain ⟨zs1, zs2, zs3, rfl⟩ := ow1.isSlice
  obtain ⟨zp1, zp2, zp3, rfl⟩ := ow2.isSlice
  have bn := below_new w6 (.cells #[.slice zs1 zs2 zs3, .slice zp1 zp2 zp3, .string z.t, .int .i64 z.g, .int .i64 z.c] 31)
  have hb3 := hb.trans (bn.mono hb.size)
  obtain ⟨b12, hb12⟩ : ∃ b, b = w6.heap.size := ⟨_, rfl⟩
  obtain ⟨W6, hW6⟩ : ∃ W, W = w6.alloc (.cells #[.slice zs1 zs2 zs3, .slice zp1 zp2 zp3, .string z.t, .int .i64 z.g, .int .i64 z.c] 31) := ⟨_, rfl⟩
  rw [← hW6] at hb3
  have POz_6 := hide (show POA b12 (.slice zs1 zs2 zs3) (.slice zp1 zp2 zp3) z W6 from ⟨by rw [hW6, hb12]; exact row_new w6 _ _, by rw [hW6]; exact o1.below bn (Nat.le_refl _), by rw [hW6]; exact o2.below bn (Nat.le_refl _)⟩)
  have SE_6 := hide (Stab.go hb3 SE_5.out)
  have LG_6 := hide (Stab.go (P := fun x => St3.Laid x) hb3 LG_5.out)
  have VC_6 := hide (Stab.go (P := fun x => ReadsB x (.slice pc bc.length cc) bc) hb3 VC_5.out)
  have VM_6 := hide (Stab.go (P := fun x => ReadsB x (.slice pm bm.length cm) bm) hb3 VM_5.out)
  have BB_6 := hide (Stab.go (P := fun x => Below w.heap.size w x) hb3 BB_5.out)
  have PDd_6 := hide (Stab.go hb3 PDd_5.out)
  have PDf_6 := hide (Stab.go hb3 PDf_5.out)
  have PDg_6 := hide (Stab.go hb3 PDg_5.out)
  have POx_6 := hide (Stab.go hb3 POx_5.out)
  have POy_6 := hide (Stab.go hb3 POy_5.out)
  clear SE_5 LG_5 VC_5 VM_5 BB_5 PDd_5 PDf_5 PDg_5 POx_5 POy_5
  clear ow1 ow2 o1 o2 hb bn hb3
  go_wp2_with fail
  rw [← hW6, ← hb12]
  clear hW6 hb12
  clear VC_6 VM_6
  have HSS := hide (show ∀ x, Below W6.heap.size W6 x → x.cell? ⟨b5, 0, none⟩ = some (.slice us1 us2 us3) ∧ x.cell? ⟨b5, 1, none⟩ = some (.slice up1 up2 up3) ∧ x.cell? ⟨b8, 0, none⟩ = some (.slice fs1 fs2 fs3) ∧ x.cell? ⟨b8, 1, none⟩ = some (.slice fp1 fp2 fp3) ∧ x.cell? ⟨b9, 0, none⟩ = some (.slice gs1 gs2 gs3) ∧ x.cell? ⟨b9, 1, none⟩ = some (.slice gp1 gp2 gp3) ∧ x.cell? ⟨b10, 0, none⟩ = some (.slice ys1 ys2 ys3) ∧ x.cell? ⟨b10, 1, none⟩ = some (.slice yp1 yp2 yp3) ∧ x.cell? ⟨b10, 2, none⟩ = some (.string o.t) ∧ x.cell? ⟨b10, 3, none⟩ = some (.int .i64 o.g) ∧ x.cell? ⟨b10, 4, none⟩ = some (.int .i64 o.c) ∧ x.cell? ⟨b11, 0, none⟩ = some (.slice qs1 qs2 qs3) ∧ x.cell? ⟨b11, 1, none⟩ = some (.slice qp1 qp2 qp3) ∧ x.cell? ⟨b11, 2, none⟩ = some (.string q.t) ∧ x.cell? ⟨b11, 3, none⟩ = some (.int .i64 q.g) ∧ x.cell? ⟨b11, 4, none⟩ = some (.int .i64 q.c) ∧ x.cell? ⟨b12, 0, none⟩ = some (.slice zs1 zs2 zs3) ∧ x.cell? ⟨b12, 1, none⟩ = some (.slice zp1 zp2 zp3) ∧ x.cell? ⟨b12, 2, none⟩ = some (.string z.t) ∧ x.cell? ⟨b12, 3, none⟩ = some (.int .i64 z.g) ∧ x.cell? ⟨b12, 4, none⟩ = some (.int .i64 z.c) from fun x h => ⟨(Row.after h PDd_6.out.row).cell 0, (Row.after h PDd_6.out.row).cell 1, (Row.after h PDf_6.out.row).cell 0, (Row.after h PDf_6.out.row).cell 1, (Row.after h PDg_6.out.row).cell 0, (Row.after h PDg_6.out.row).cell 1, (Row.after h POx_6.out.row).cell 0, (Row.after h POx_6.out.row).cell 1, (Row.after h POx_6.out.row).cell 2, (Row.after h POx_6.out.row).cell 3, (Row.after h POx_6.out.row).cell 4, (Row.after h POy_6.out.row).cell 0, (Row.after h POy_6.out.row).cell 1, (Row.after h POy_6.out.row).cell 2, (Row.after h POy_6.out.row).cell 3, (Row.after h POy_6.out.row).cell 4, (Row.after h POz_6.out.row).cell 0, (Row.after h POz_6.out.row).cell 1, (Row.after h POz_6.out.row).cell 2, (Row.after h POz_6.out.row).cell 3, (Row.after h POz_6.out.row).cell 4⟩)
  refine wp_region_held (S := fun x : World => x.cell? ⟨b5, 0, none⟩ = some (.slice us1 us2 us3) ∧ x.cell? ⟨b5, 1, none⟩ = some (.slice up1 up2 up3) ∧ x.cell? ⟨b8, 0, none⟩ = some (.slice fs1 fs2 fs3) ∧ x.cell? ⟨b8, 1, none⟩ = some (.slice fp1 fp2 fp3) ∧ x.cell? ⟨b9, 0, none⟩ = some (.slice gs1 gs2 gs3) ∧ x.cell? ⟨b9, 1, none⟩ = some (.slice gp1 gp2 gp3) ∧ x.cell? ⟨b10, 0, none⟩ = some (.slice ys1 ys2 ys3) ∧ x.cell? ⟨b10, 1, none⟩ = some (.slice yp1 yp2 yp3) ∧ x.cell? ⟨b10, 2, none⟩ = some (.string o.t) ∧ x.cell? ⟨b10, 3, none⟩ = some (.int .i64 o.g) ∧ x.cell? ⟨b10, 4, none⟩ = some (.int .i64 o.c) ∧ x.cell? ⟨b11, 0, none⟩ = some (.slice qs1 qs2 qs3) ∧ x.cell? ⟨b11, 1, none⟩ = some (.slice qp1 qp2 qp3) ∧ x.cell? ⟨b11, 2, none⟩ = some (.string q.t) ∧ x.cell? ⟨b11, 3, none⟩ = some (.int .i64 q.g) ∧ x.cell? ⟨b11, 4, none⟩ = some (.int .i64 q.c) ∧ x.cell? ⟨b12, 0, none⟩ = some (.slice zs1 zs2 zs3) ∧ x.cell? ⟨b12, 1, none⟩ = some (.slice zp1 zp2 zp3) ∧ x.cell? ⟨b12, 2, none⟩ = some (.string z.t) ∧ x.cell? ⟨b12, 3, none⟩ = some (.int .i64 z.g) ∧ x.cell? ⟨b12, 4, none⟩ = some (.int .i64 z.c)) (by kernel_rfl) ?_
  have HB_a := hide (show Below W6.heap.size W6 { W6 with drawn := W6.drawn + 1 } from (Below.refl _ _).drew)
  have HS := hide (HSS.out _ HB_a.out)
  refine wpAnyH_take (i := 0) (oi := _) (v := .agg #[.slice ys1 ys2 ys3, .slice yp1 yp2 yp3, .string o.t, .int .i64 o.g, .int .i64 o.c]) rfl (by kernel_rfl) (by kernel_rfl) (by kernel_rfl) (fun _ _ _ h => h) (Or.inl ⟨by rfl, by intro w hSw; go_split_ands; go_simp⟩) HS.out ?_
  simp only [Act.put, List.getElem_toArray, List.getElem_cons_zero, List.setIfInBounds_toArray, List.set_cons_zero, List.set_cons_succ]
  refine wpAnyH_take (i := 1) (oi := _) (v := .agg #[.slice us1 us2 us3, .slice up1 up2 up3]) rfl (by kernel_rfl) (by kernel_rfl) (by kernel_rfl) (fun _ _ _ h => h) (Or.inl ⟨by rfl, by intro w hSw; go_split_ands; go_simp⟩) HS.out ?_
  simp only [Act.put, List.getElem_toArray, List.getElem_cons_zero, List.getElem_cons_succ, List.setIfInBounds_toArray, List.set_cons_zero, List.set_cons_succ]
  refine wpAnyH_ready (rs := [2]) (by kernel_rfl) (by simp) ?_
  refine AllReadyH.cons (o := _) rfl (fun K hK => ?_) AllReadyH.nil
  go_simp
  refine (specAreaRead_any _ _ xs ps _ HSD.out.1 HSD.out.2.2.1 (Stab.go HB_a.out PDd_6.out).rs (Stab.go HB_a.out PDd_6.out).rp).mono ?_
  rw [← Ho.out]
  rintro e X_b ⟨⟨as0, ap, rfl, ow1, ow2, _⟩, hb⟩
  have as0R := hide ow1.reads
  have as0P := hide ow2.reads
  obtain ⟨as01, as02, as03, rfl⟩ := ow1.isSlice
  obtain ⟨ap1, ap2, ap3, rfl⟩ := ow2.isSlice
  clear ow1 ow2
  have HB_b := hide (HB_a.out.trans (hb.mono HB_a.out.size))
  refine hK.out _ _ (HSS.out _ HB_b.out) (fun _ => ?_)
  clear hK K HS hb
  have HS := hide (HSS.out _ HB_b.out)
  refine wpAnyH_ready (rs := [3]) (by kernel_rfl) (by simp) ?_
  refine AllReadyH.cons (o := _) rfl (fun K hK => ?_) AllReadyH.nil
  go_simp
  refine (lwArea_same _ _ _ _ o.t o.g o.c o.xs o.ps _ (by rw [Ho.out]; exact (areaO_len HSD.out).1) (by rw [Ho.out]; exact (areaO_len HSD.out).2) (Stab.go HB_b.out POx_6.out).rs (Stab.go HB_b.out POx_6.out).rp as0R.out as0P.out).mono ?_
  rintro e X_c ⟨rfl, hb⟩
  have HB_c := hide (HB_b.out.trans (hb.mono HB_b.out.size))
  refine hK.out _ _ (HSS.out _ HB_c.out) (fun _ => ?_)
  clear hK K HS hb
  have HS := hide (HSS.out _ HB_c.out)
  refine wpAnyH_take (i := 4) (oi := _) (v := .bool false) rfl (by kernel_rfl) (by kernel_rfl) (by kernel_rfl) (fun _ _ _ h => h) (Or.inl ⟨by rfl, by intro w hSw; go_split_ands; go_simp⟩) HS.out ?_
  simp only [Act.put, List.getElem_toArray, List.getElem_cons_zero, List.getElem_cons_succ, List.setIfInBounds_toArray, List.set_cons_zero, List.set_cons_succ]
  refine wpAnyH_take (i := 5) (oi := _) (v := .bool false) rfl (by kernel_rfl) (by kernel_rfl) (by kernel_rfl) (fun _ _ _ h => h) (Or.inl ⟨by rfl, by intro w hSw; go_split_ands; go_simp⟩) HS.out ?_
  simp only [Act.put, List.getElem_toArray, List.getElem_cons_zero, List.getElem_cons_succ, List.setIfInBounds_toArray, List.set_cons_zero, List.set_cons_succ]
  refine wpAnyH_take (i := 6) (oi := _) (v := .agg #[.slice qs1 qs2 qs3, .slice qp1 qp2 qp3, .string q.t, .int .i64 q.g, .int .i64 q.c]) rfl (by kernel_rfl) (by kernel_rfl) (by kernel_rfl) (fun _ _ _ h => h) (Or.inl ⟨by rfl, by intro w hSw; go_split_ands; go_simp⟩) HS.out ?_
  simp only [Act.put, List.getElem_toArray, List.getElem_cons_zero, List.getElem_cons_succ, List.setIfInBounds_toArray, List.set_cons_zero, List.set_cons_succ]
  refine wpAnyH_take (i := 7) (oi := _) (v := .agg #[.slice us1 us2 us3, .slice up1 up2 up3]) rfl (by kernel_rfl) (by kernel_rfl) (by kernel_rfl) (fun _ _ _ h => h) (Or.inl ⟨by rfl, by intro w hSw; go_split_ands; go_simp⟩) HS.out ?_
  simp only [Act.put, List.getElem_toArray, List.getElem_cons_zero, List.getElem_cons_succ, List.setIfInBounds_toArray, List.set_cons_zero, List.set_cons_succ]
  refine wpAnyH_take (i := 8) (oi := _) (v := .string tx) rfl (by kernel_rfl) (by kernel_rfl) (by kernel_rfl) (fun _ _ _ h => h) (Or.inl ⟨by rfl, by intro w hSw; go_split_ands; go_simp⟩) HS.out ?_
  simp only [Act.put, List.getElem_toArray, List.getElem_cons_zero, List.getElem_cons_succ, List.setIfInBounds_toArray, List.set_cons_zero, List.set_cons_succ]
  refine wpAnyH_ready (rs := [9]) (by kernel_rfl) (by simp) ?_
  refine AllReadyH.cons (o := _) rfl (fun K hK => ?_) AllReadyH.nil
  go_simp
  refine (specAreaPut_any _ _ xs ps tx 1000 _ HSD.out.1 HSD.out.2.2.1 htx2 (Stab.go HB_c.out PDd_6.out).rs (Stab.go HB_c.out PDd_6.out).rp).mono ?_
  rw [← Hq.out]
  rintro e X_d ⟨⟨cs, cp, rfl, ow1, ow2, _⟩, hb⟩
  have csR := hide ow1.reads
  have csP := hide ow2.reads
  obtain ⟨cs1, cs2, cs3, rfl⟩ := ow1.isSlice
  obtain ⟨cp1, cp2, cp3, rfl⟩ := ow2.isSlice
  clear ow1 ow2
  have HB_d := hide (HB_c.out.trans (hb.mono HB_c.out.size))
  refine hK.out _ _ (HSS.out _ HB_d.out) (fun _ => ?_)
  clear hK K HS hb
  have HS := hide (HSS.out _ HB_d.out)
  refine wpAnyH_ready (rs := [10]) (by kernel_rfl) (by simp) ?_
  refine AllReadyH.cons (o := _) rfl (fun K hK => ?_) AllReadyH.nil
  go_simp
  refine (lwArea_same _ _ _ _ q.t q.g q.c q.xs q.ps _ (by rw [Hq.out]; exact (putO_len xs ps tx 1000).1) (by rw [Hq.out]; exact (putO_len xs ps tx 1000).2) (Stab.go HB_d.out POy_6.out).rs (Stab.go HB_d.out POy_6.out).rp csR.out csP.out).mono ?_
  rintro e X_e1 ⟨rfl, hb⟩
  have HB_e1 := hide (HB_d.out.trans (hb.mono HB_d.out.size))
  refine hK.out _ _ (HSS.out _ HB_e1.out) (fun _ => ?_)
  clear hK K HS hb
  have HS := hide (HSS.out _ HB_e1.out)
  as_aux_lemma =>
    refine wpAnyH_take (i := 11) (oi := _) (v := .bool false) rfl (by kernel_rfl) (by kernel_rfl) (by kernel_rfl) (fun _ _ _ h => h) (Or.inl ⟨by rfl, by intro w hSw; go_split_ands; go_simp⟩) HS.out ?_
    simp only [Act.put, List.getElem_toArray, List.getElem_cons_zero, List.getElem_cons_succ, List.setIfInBounds_toArray, List.set_cons_zero, List.set_cons_succ]
    refine wpAnyH_take (i := 12) (oi := _) (v := .bool false) rfl (by kernel_rfl) (by kernel_rfl) (by kernel_rfl) (fun _ _ _ h => h) (Or.inl ⟨by rfl, by intro w hSw; go_split_ands; go_simp⟩) HS.out ?_
    simp only [Act.put, List.getElem_toArray, List.getElem_cons_zero, List.getElem_cons_succ, List.setIfInBounds_toArray, List.set_cons_zero, List.set_cons_succ]
    refine wpAnyH_take (i := 13) (oi := _) (v := .bool false) rfl (by kernel_rfl) (by kernel_rfl) (by kernel_rfl) (fun _ _ _ h => h) (Or.inl ⟨by rfl, by intro w hSw; go_split_ands; go_simp⟩) HS.out ?_
    simp only [Act.put, List.getElem_toArray, List.getElem_cons_zero, List.getElem_cons_succ, List.setIfInBounds_toArray, List.set_cons_zero, List.set_cons_succ]
    refine wpAnyH_take (i := 14) (oi := _) (v := .agg #[.slice us1 us2 us3, .slice up1 up2 up3]) rfl (by kernel_rfl) (by kernel_rfl) (by kernel_rfl) (fun _ _ _ h => h) (Or.inl ⟨by rfl, by intro w hSw; go_split_ands; go_simp⟩) HS.out ?_
    simp only [Act.put, List.getElem_toArray, List.getElem_cons_zero, List.getElem_cons_succ, List.setIfInBounds_toArray, List.set_cons_zero, List.set_cons_succ]
    refine wpAnyH_take (i := 15) (oi := _) (v := .string tx) rfl (by kernel_rfl) (by kernel_rfl) (by kernel_rfl) (fun _ _ _ h => h) (Or.inl ⟨by rfl, by intro w hSw; go_split_ands; go_simp⟩) HS.out ?_
    simp only [Act.put, List.getElem_toArray, List.getElem_cons_zero, List.getElem_cons_succ, List.setIfInBounds_toArray, List.set_cons_zero, List.set_cons_succ]
    refine wpAnyH_take (i := 16) (oi := _) (v := .int .i64 a) rfl (by kernel_rfl) (by kernel_rfl) (by kernel_rfl) (fun _ _ _ h => h) (Or.inl ⟨by rfl, by intro w hSw; go_split_ands; go_simp⟩) HS.out ?_
    simp only [Act.put, List.getElem_toArray, List.getElem_cons_zero, List.getElem_cons_succ, List.setIfInBounds_toArray, List.set_cons_zero, List.set_cons_succ]
    refine wpAnyH_take (i := 18) (oi := _) (v := .agg #[.slice us1 us2 us3, .slice up1 up2 up3]) rfl (by kernel_rfl) (by kernel_rfl) (by kernel_rfl) (fun _ _ _ h => h) (Or.inl ⟨by rfl, by intro w hSw; go_split_ands; go_simp⟩) HS.out ?_
    simp only [Act.put, List.getElem_toArray, List.getElem_cons_zero, List.getElem_cons_succ, List.setIfInBounds_toArray, List.set_cons_zero, List.set_cons_succ]
    refine wpAnyH_take (i := 19) (oi := _) (v := .string tx) rfl (by kernel_rfl) (by kernel_rfl) (by kernel_rfl) (fun _ _ _ h => h) (Or.inl ⟨by rfl, by intro w hSw; go_split_ands; go_simp⟩) HS.out ?_
    simp only [Act.put, List.getElem_toArray, List.getElem_cons_zero, List.getElem_cons_succ, List.setIfInBounds_toArray, List.set_cons_zero, List.set_cons_succ]
    refine wpAnyH_take (i := 20) (oi := _) (v := .int .i64 a) rfl (by kernel_rfl) (by kernel_rfl) (by kernel_rfl) (fun _ _ _ h => h) (Or.inl ⟨by rfl, by intro w hSw; go_split_ands; go_simp⟩) HS.out ?_
    simp only [Act.put, List.getElem_toArray, List.getElem_cons_zero, List.getElem_cons_succ, List.setIfInBounds_toArray, List.set_cons_zero, List.set_cons_succ]
    obtain ⟨rt, Hrt⟩ : ∃ o, Hid (o = putOut xs ps tx a) := ⟨_, rfl⟩
    refine wpAnyH_ready (rs := [17]) (by kernel_rfl) (by simp) ?_
    refine AllReadyH.cons (o := _) rfl (fun K hK => ?_) AllReadyH.nil
    go_simp
    refine (implPt _ _ xs ps tx a aF aR aU _ HSD.out htx2 (Stab.go HB_e1.out PDd_6.out).rs (Stab.go HB_e1.out PDd_6.out).rp (Stab.go HB_e1.out SE_6.out) (Stab.go (P := fun x => St3.Laid x) HB_e1.out LG_6.out)).mono ?_
    rw [← Hrt.out]
    rintro e X_f1 ⟨⟨is, ip, rfl, ow1, ow2, _⟩, hb⟩
    have isR := hide ow1.reads
    have isP := hide ow2.reads
    obtain ⟨is1, is2, is3, rfl⟩ := ow1.isSlice
    obtain ⟨ip1, ip2, ip3, rfl⟩ := ow2.isSlice
    clear ow1 ow2
    have HB_f1 := hide (HB_e1.out.trans (hb.mono HB_e1.out.size))
    refine hK.out _ _ (HSS.out _ HB_f1.out) (fun _ => ?_)
    clear hK K HS hb
    have HS := hide (HSS.out _ HB_f1.out)
    refine wpAnyH_ready (rs := [21]) (by kernel_rfl) (by simp) ?_
    refine AllReadyH.cons (o := _) rfl (fun K hK => ?_) AllReadyH.nil
    go_simp
    refine (specAreaPut_any _ _ xs ps tx a _ HSD.out.1 HSD.out.2.2.1 htx2 (Stab.go HB_f1.out PDd_6.out).rs (Stab.go HB_f1.out PDd_6.out).rp).mono ?_
    rw [← Hrt.out]
    rintro e X_g1 ⟨⟨js, jp, rfl, ow1, ow2, _⟩, hb⟩
    have jsR := hide ow1.reads
    have jsP := hide ow2.reads
    obtain ⟨js1, js2, js3, rfl⟩ := ow1.isSlice
    obtain ⟨jp1, jp2, jp3, rfl⟩ := ow2.isSlice
    clear ow1 ow2
    have HB_g1 := hide (HB_f1.out.trans (hb.mono HB_f1.out.size))
    have hbg := hide hb
    refine hK.out _ _ (HSS.out _ HB_g1.out) (fun _ => ?_)
    clear hK K HS hb
    have HS := hide (HSS.out _ HB_g1.out)
    refine wpAnyH_ready (rs := [22]) (by kernel_rfl) (by simp) ?_
    refine AllReadyH.cons (o := _) rfl (fun K hK => ?_) AllReadyH.nil
    go_simp
    refine (lwArea_same _ _ _ _ rt.t rt.g rt.c rt.xs rt.ps _ (by rw [Hrt.out]; exact (putO_len xs ps tx a).1) (by rw [Hrt.out]; exact (putO_len xs ps tx a).2) (isR.out.below hbg.out (Nat.le_refl _)) (isP.out.below hbg.out (Nat.le_refl _)) jsR.out jsP.out).mono ?_
    rintro e X_h1 ⟨rfl, hb⟩
    have HB_h1 := hide (HB_g1.out.trans (hb.mono HB_g1.out.size))
    refine hK.out _ _ (HSS.out _ HB_h1.out) (fun _ => ?_)
    clear hK K HS hb
    have HS := hide (HSS.out _ HB_h1.out)
    refine wpAnyH_take (i := 23) (oi := _) (v := .bool false) rfl (by kernel_rfl) (by kernel_rfl) (by kernel_rfl) (fun _ _ _ h => h) (Or.inl ⟨by rfl, by intro w hSw; go_split_ands; go_simp⟩) HS.out ?_
    simp only [Act.put, List.getElem_toArray, List.getElem_cons_zero, List.getElem_cons_succ, List.setIfInBounds_toArray, List.set_cons_zero, List.set_cons_succ]
    refine wpAnyH_take (i := 24) (oi := _) (v := .bool false) rfl (by kernel_rfl) (by kernel_rfl) (by kernel_rfl) (fun _ _ _ h => h) (Or.inl ⟨by rfl, by intro w hSw; go_split_ands; go_simp⟩) HS.out ?_
    simp only [Act.put, List.getElem_toArray, List.getElem_cons_zero, List.getElem_cons_succ, List.setIfInBounds_toArray, List.set_cons_zero, List.set_cons_succ]
    refine wpAnyH_take (i := 25) (oi := _) (v := .bool false) rfl (by kernel_rfl) (by kernel_rfl) (by kernel_rfl) (fun _ _ _ h => h) (Or.inl ⟨by rfl, by intro w hSw; go_split_ands; go_simp⟩) HS.out ?_
    simp only [Act.put, List.getElem_toArray, List.getElem_cons_zero, List.getElem_cons_succ, List.setIfInBounds_toArray, List.set_cons_zero, List.set_cons_succ]
    refine wpAnyH_take (i := 26) (oi := _) (v := .agg #[.slice zs1 zs2 zs3, .slice zp1 zp2 zp3, .string z.t, .int .i64 z.g, .int .i64 z.c]) rfl (by kernel_rfl) (by kernel_rfl) (by kernel_rfl) (fun _ _ _ h => h) (Or.inl ⟨by rfl, by intro w hSw; go_split_ands; go_simp⟩) HS.out ?_
    simp only [Act.put, List.getElem_toArray, List.getElem_cons_zero, List.getElem_cons_succ, List.setIfInBounds_toArray, List.set_cons_zero, List.set_cons_succ]
    refine wpAnyH_take (i := 27) (oi := _) (v := .agg #[.slice fs1 fs2 fs3, .slice fp1 fp2 fp3]) rfl (by kernel_rfl) (by kernel_rfl) (by kernel_rfl) (fun _ _ _ h => h) (Or.inl ⟨by rfl, by intro w hSw; go_split_ands; go_simp⟩) HS.out ?_
    simp only [Act.put, List.getElem_toArray, List.getElem_cons_zero, List.getElem_cons_succ, List.setIfInBounds_toArray, List.set_cons_zero, List.set_cons_succ]
    refine wpAnyH_ready (rs := [28]) (by kernel_rfl) (by simp) ?_
    refine AllReadyH.cons (o := _) rfl (fun K hK => ?_) AllReadyH.nil
    go_simp
    refine (specFormat_any _ _ xf pf _ HSF.out.1 HSF.out.2.2.1 (Stab.go HB_h1.out PDf_6.out).rs (Stab.go HB_h1.out PDf_6.out).rp).mono ?_
    rw [← Hz.out]
    rintro e X_i1 ⟨⟨ks, kp, rfl, ow1, ow2, _⟩, hb⟩
    have ksR := hide ow1.reads
    have ksP := hide ow2.reads
    obtain ⟨ks1, ks2, ks3, rfl⟩ := ow1.isSlice
    obtain ⟨kp1, kp2, kp3, rfl⟩ := ow2.isSlice
    clear ow1 ow2
    have HB_i1 := hide (HB_h1.out.trans (hb.mono HB_h1.out.size))
    refine hK.out _ _ (HSS.out _ HB_i1.out) (fun _ => ?_)
    clear hK K HS hb
    have HS := hide (HSS.out _ HB_i1.out)
    refine wpAnyH_ready (rs := [29]) (by kernel_rfl) (by simp) ?_
    refine AllReadyH.cons (o := _) rfl (fun K hK => ?_) AllReadyH.nil
    go_simp
    refine (lwArea_same _ _ _ _ z.t z.g z.c z.xs z.ps _ (by rw [Hz.out]; exact (formatO_len HSF.out).1) (by rw [Hz.out]; exact (formatO_len HSF.out).2) (Stab.go HB_i1.out POz_6.out).rs (Stab.go HB_i1.out POz_6.out).rp ksR.out ksP.out).mono ?_
    rintro e X_j1 ⟨rfl, hb⟩
    have HB_j1 := hide (HB_i1.out.trans (hb.mono HB_i1.out.size))
    refine hK.out _ _ (HSS.out _ HB_j1.out) (fun _ => ?_)
    clear hK K HS hb
    have HS := hide (HSS.out _ HB_j1.out)
    as_aux_lemma =>
      refine wpAnyH_take (i := 30) (oi := _) (v := .bool false) rfl (by kernel_rfl) (by kernel_rfl) (by kernel_rfl) (fun _ _ _ h => h) (Or.inl ⟨by rfl, by intro w hSw; go_split_ands; go_simp⟩) HS.out ?_
      simp only [Act.put, List.getElem_toArray, List.getElem_cons_zero, List.getElem_cons_succ, List.setIfInBounds_toArray, List.set_cons_zero, List.set_cons_succ]
      refine wpAnyH_take (i := 31) (oi := _) (v := .bool false) rfl (by kernel_rfl) (by kernel_rfl) (by kernel_rfl) (fun _ _ _ h => h) (Or.inl ⟨by rfl, by intro w hSw; go_split_ands; go_simp⟩) HS.out ?_
      simp only [Act.put, List.getElem_toArray, List.getElem_cons_zero, List.getElem_cons_succ, List.setIfInBounds_toArray, List.set_cons_zero, List.set_cons_succ]
      refine wpAnyH_take (i := 32) (oi := _) (v := .bool false) rfl (by kernel_rfl) (by kernel_rfl) (by kernel_rfl) (fun _ _ _ h => h) (Or.inl ⟨by rfl, by intro w hSw; go_split_ands; go_simp⟩) HS.out ?_
      simp only [Act.put, List.getElem_toArray, List.getElem_cons_zero, List.getElem_cons_succ, List.setIfInBounds_toArray, List.set_cons_zero, List.set_cons_succ]
      refine wpAnyH_take (i := 33) (oi := _) (v := .agg #[.slice gs1 gs2 gs3, .slice gp1 gp2 gp3]) rfl (by kernel_rfl) (by kernel_rfl) (by kernel_rfl) (fun _ _ _ h => h) (Or.inl ⟨by rfl, by intro w hSw; go_split_ands; go_simp⟩) HS.out ?_
      simp only [Act.put, List.getElem_toArray, List.getElem_cons_zero, List.getElem_cons_succ, List.setIfInBounds_toArray, List.set_cons_zero, List.set_cons_succ]
      refine wpAnyH_take (i := 35) (oi := _) (v := .agg #[.slice gs1 gs2 gs3, .slice gp1 gp2 gp3]) rfl (by kernel_rfl) (by kernel_rfl) (by kernel_rfl) (fun _ _ _ h => h) (Or.inl ⟨by rfl, by intro w hSw; go_split_ands; go_simp⟩) HS.out ?_
      simp only [Act.put, List.getElem_toArray, List.getElem_cons_zero, List.getElem_cons_succ, List.setIfInBounds_toArray, List.set_cons_zero, List.set_cons_succ]
      obtain ⟨rg, Hrg⟩ : ∃ o, Hid (o = areaOut xg pg) := ⟨_, rfl⟩
      refine wpAnyH_ready (rs := [34]) (by kernel_rfl) (by simp) ?_
      refine AllReadyH.cons (o := _) rfl (fun K hK => ?_) AllReadyH.nil
      go_simp
      refine (implRd _ _ xg pg aF aR aU _ HSG.out (Stab.go HB_j1.out PDg_6.out).rs (Stab.go HB_j1.out PDg_6.out).rp (Stab.go HB_j1.out SE_6.out) (Stab.go (P := fun x => St3.Laid x) HB_j1.out LG_6.out)).mono ?_
      rw [← Hrg.out]
      rintro e X_k1 ⟨⟨ls, lp, rfl, ow1, ow2, _⟩, hb⟩
      have lsR := hide ow1.reads
      have lsP := hide ow2.reads
      obtain ⟨ls1, ls2, ls3, rfl⟩ := ow1.isSlice
      obtain ⟨lp1, lp2, lp3, rfl⟩ := ow2.isSlice
      clear ow1 ow2
      have HB_k1 := hide (HB_j1.out.trans (hb.mono HB_j1.out.size))
      refine hK.out _ _ (HSS.out _ HB_k1.out) (fun _ => ?_)
      clear hK K HS hb
      have HS := hide (HSS.out _ HB_k1.out)
      refine wpAnyH_ready (rs := [36]) (by kernel_rfl) (by simp) ?_
      refine AllReadyH.cons (o := _) rfl (fun K hK => ?_) AllReadyH.nil
      go_simp
      refine (specAreaRead_any _ _ xg pg _ HSG.out.1 HSG.out.2.2.1 (Stab.go HB_k1.out PDg_6.out).rs (Stab.go HB_k1.out PDg_6.out).rp).mono ?_
      rw [← Hrg.out]
      rintro e X_l1 ⟨⟨ms, mp, rfl, ow1, ow2, _⟩, hb⟩
      have msR := hide ow1.reads
      have msP := hide ow2.reads
      obtain ⟨ms1, ms2, ms3, rfl⟩ := ow1.isSlice
      obtain ⟨mp1, mp2, mp3, rfl⟩ := ow2.isSlice
      clear ow1 ow2
      have HB_l1 := hide (HB_k1.out.trans (hb.mono HB_k1.out.size))
      have hbl := hide hb
      refine hK.out _ _ (HSS.out _ HB_l1.out) (fun _ => ?_)
      clear hK K HS hb
      have HS := hide (HSS.out _ HB_l1.out)
      refine wpAnyH_ready (rs := [37]) (by kernel_rfl) (by simp) ?_
      refine AllReadyH.cons (o := _) rfl (fun K hK => ?_) AllReadyH.nil
      go_simp
      refine (lwArea_same _ _ _ _ rg.t rg.g rg.c rg.xs rg.ps _ (by rw [Hrg.out]; exact (areaO_len HSG.out).1) (by rw [Hrg.out]; exact (areaO_len HSG.out).2) (lsR.out.below hbl.out (Nat.le_refl _)) (lsP.out.below hbl.out (Nat.le_refl _)) msR.out msP.out).mono ?_
      rintro e X_m1 ⟨rfl, hb⟩
      have HB_m1 := hide (HB_l1.out.trans (hb.mono HB_l1.out.size))
      refine hK.out _ _ (HSS.out _ HB_m1.out) (fun _ => ?_)
      clear hK K HS hb
      have HS := hide (HSS.out _ HB_m1.out)
      refine wpAnyH_take (i := 38) (oi := _) (v := .bool false) rfl (by kernel_rfl) (by kernel_rfl) (by kernel_rfl) (fun _ _ _ h => h) (Or.inl ⟨by rfl, by intro w hSw; go_split_ands; go_simp⟩) HS.out ?_
      simp only [Act.put, List.getElem_toArray, List.getElem_cons_zero, List.getElem_cons_succ, List.setIfInBounds_toArray, List.set_cons_zero, List.set_cons_succ]
      refine wpAnyH_take (i := 39) (oi := _) (v := .bool false) rfl (by kernel_rfl) (by kernel_rfl) (by kernel_rfl) (fun _ _ _ h => h) (Or.inl ⟨by rfl, by intro w hSw; go_split_ands; go_simp⟩) HS.out ?_
      simp only [Act.put, List.getElem_toArray, List.getElem_cons_zero, List.getElem_cons_succ, List.setIfInBounds_toArray, List.set_cons_zero, List.set_cons_succ]
      refine wpAnyH_take (i := 40) (oi := _) (v := .bool false) rfl (by kernel_rfl) (by kernel_rfl) (by kernel_rfl) (fun _ _ _ h => h) (Or.inl ⟨by rfl, by intro w hSw; go_split_ands; go_simp⟩) HS.out ?_
      simp only [Act.put, List.getElem_toArray, List.getElem_cons_zero, List.getElem_cons_succ, List.setIfInBounds_toArray, List.set_cons_zero, List.set_cons_succ]
      refine wpAnyH_take (i := 41) (oi := _) (v := .agg #[.slice us1 us2 us3, .slice up1 up2 up3]) rfl (by kernel_rfl) (by kernel_rfl) (by kernel_rfl) (fun _ _ _ h => h) (Or.inl ⟨by rfl, by intro w hSw; go_split_ands; go_simp⟩) HS.out ?_
      simp only [Act.put, List.getElem_toArray, List.getElem_cons_zero, List.getElem_cons_succ, List.setIfInBounds_toArray, List.set_cons_zero, List.set_cons_succ]
      refine wpAnyH_take (i := 43) (oi := _) (v := .agg #[.slice us1 us2 us3, .slice up1 up2 up3]) rfl (by kernel_rfl) (by kernel_rfl) (by kernel_rfl) (fun _ _ _ h => h) (Or.inl ⟨by rfl, by intro w hSw; go_split_ands; go_simp⟩) HS.out ?_
      simp only [Act.put, List.getElem_toArray, List.getElem_cons_zero, List.getElem_cons_succ, List.setIfInBounds_toArray, List.set_cons_zero, List.set_cons_succ]
      refine wpAnyH_ready (rs := [42]) (by kernel_rfl) (by simp) ?_
      refine AllReadyH.cons (o := _) rfl (fun K hK => ?_) AllReadyH.nil
      go_simp
      refine (implRoom_any _ _ xs ps _ _ _ _ _ HSD.out.1 HSD.out.2.2.1 (Stab.go HB_m1.out PDd_6.out).rs (Stab.go HB_m1.out PDd_6.out).rp (Stab.go HB_m1.out SE_6.out).1.1 (Stab.go HB_m1.out SE_6.out).1.2).mono ?_
      rintro e X_n1 ⟨rfl, hb⟩
      have HB_n1 := hide (HB_m1.out.trans (hb.mono HB_m1.out.size))
      refine hK.out _ _ (HSS.out _ HB_n1.out) (fun _ => ?_)
      clear hK K HS hb
      have HS := hide (HSS.out _ HB_n1.out)
      refine wpAnyH_ready (rs := [44]) (by kernel_rfl) (by simp) ?_
      refine AllReadyH.cons (o := _) rfl (fun K hK => ?_) AllReadyH.nil
      go_simp
      refine (specRoom_any _ _ xs ps _ HSD.out.1 HSD.out.2.2.1 (Stab.go HB_n1.out PDd_6.out).rs (Stab.go HB_n1.out PDd_6.out).rp).mono ?_
      rintro e X_o1 ⟨rfl, hb⟩
      have HB_o1 := hide (HB_n1.out.trans (hb.mono HB_n1.out.size))
      refine hK.out _ _ (HSS.out _ HB_o1.out) (fun _ => ?_)
      clear hK K HS hb
      have HS := hide (HSS.out _ HB_o1.out)
      have hbq : (room xs ps != room xs ps) = false := by simp
      refine wpAnyH_take (i := 45) (oi := _) (v := .bool false) rfl (by kernel_rfl) (by kernel_rfl) (by kernel_rfl) (fun _ _ _ h => h) (Or.inl ⟨by rfl, by intro w hSw; go_split_ands; go_simp⟩) HS.out ?_
      simp only [Act.put, List.getElem_toArray, List.getElem_cons_zero, List.getElem_cons_succ, List.setIfInBounds_toArray, List.set_cons_zero, List.set_cons_succ]
      refine wpAnyH_take (i := 46) (oi := _) (v := .bool false) rfl (by kernel_rfl) (by kernel_rfl) (by kernel_rfl) (fun _ _ _ h => h) (Or.inl ⟨by rfl, by intro w hSw; go_split_ands; go_simp⟩) HS.out ?_
      simp only [Act.put, List.getElem_toArray, List.getElem_cons_zero, List.getElem_cons_succ, List.setIfInBounds_toArray, List.set_cons_zero, List.set_cons_succ]
      refine wpAnyH_done (by kernel_rfl) ?_ _
      clear hbq
      have PDX := HB_o1.out
      have SE_8 := hide (Stab.go HB_o1.out SE_6.out)
      have LG_8 := hide (Stab.go (P := fun x => St3.Laid x) HB_o1.out LG_6.out)
      have BB_8 := hide (Stab.go (P := fun x => Below w.heap.size w x) HB_o1.out BB_6.out)
      have PDd_8 := hide (Stab.go HB_o1.out PDd_6.out)
      have POx_8 := hide (Stab.go HB_o1.out POx_6.out)
      have POy_8 := hide (Stab.go HB_o1.out POy_6.out)
      have POz_8 := hide (Stab.go HB_o1.out POz_6.out)
      clear PDX HSS HS HB_a HB_b HB_c HB_d HB_e1 HB_f1 HB_g1 HB_h1 HB_i1 HB_j1 HB_k1 HB_l1 HB_m1 HB_n1
      clear SE_6 LG_6 BB_6 PDd_6 POx_6 POy_6 POz_6 PDf_6 PDg_6 HSG Hrg Hrt as0R as0P csR csP isR isP jsR jsP ksR ksP lsR lsP msR msP hbg hbl
      obtain ⟨W8, hW8⟩ : ∃ W, W = X_o1 := ⟨_, rfl⟩
      rw [← hW8] at SE_8 LG_8 BB_8 PDd_8 POx_8 POy_8 POz_8 ⊢
      clear hW8 HB_o1
      as_aux_lemma =>
        have poz4 : W8.cell? ⟨b12, 4, none⟩ = some (.int .i64 z.c) := POz_8.out.row.cell 4
        by_cases hzc : z.c = 0
        · have hze : (z.c == 0) = true := by rw [hzc]; rfl
          have HFR := hide (format_read (by rw [← Hz.out]; exact hzc))
          have poz0 : W8.cell? ⟨b12, 0, none⟩ = some (.slice zs1 zs2 zs3) := POz_8.out.row.cell 0
          have poz1 : W8.cell? ⟨b12, 1, none⟩ = some (.slice zp1 zp2 zp3) := POz_8.out.row.cell 1
          obtain ⟨Z, hZ, hZr, hZl, hZa⟩ := HFR.out
          have HQZ := hide (show z.xs = Z ∧ z.ps = [] by rw [Hz.out, hZ]; exact ⟨rfl, rfl⟩)
          have HZA := hide hZa
          have HZR := hide hZr
          clear hzc hZ hZr hZl hZa HFR
          go_wp2_with fail
          refine (implRd _ _ Z [] aF aR aU _ (small_of_right HZR.out) (by rw [← HQZ.out.1]; exact POz_8.out.rs) (by rw [← HQZ.out.2]; exact POz_8.out.rp) SE_8.out LG_8.out).mono ?_
          rw [HZA.out]
          rintro e w9 ⟨⟨rs, rp, rfl, ow1, ow2, _⟩, hb⟩
          obtain ⟨rs1, rs2, rs3, rfl⟩ := ow1.isSlice
          obtain ⟨rp1, rp2, rp3, rfl⟩ := ow2.isSlice
          have bn := below_new w9 (.cells #[.slice rs1 rs2 rs3, .slice rp1 rp2 rp3, .string ⟨#[]⟩, .int .i64 0, .int .i64 0] 31)
          have hb3 := hb.trans (bn.mono hb.size)
          obtain ⟨b13, hb13⟩ : ∃ b, b = w9.heap.size := ⟨_, rfl⟩
          obtain ⟨W9, hW9⟩ : ∃ W, W = w9.alloc (.cells #[.slice rs1 rs2 rs3, .slice rp1 rp2 rp3, .string ⟨#[]⟩, .int .i64 0, .int .i64 0] 31) := ⟨_, rfl⟩
          rw [← hW9] at hb3
          have R13 := hide (show Row W9 b13 31 [.slice rs1 rs2 rs3, .slice rp1 rp2 rp3, .string ⟨#[]⟩, .int .i64 0, .int .i64 0] from by rw [hW9, hb13]; exact row_new w9 _ _)
          have SE_9 := hide (Stab.go hb3 SE_8.out)
          have LG_9 := hide (Stab.go (P := fun x => St3.Laid x) hb3 LG_8.out)
          have BB_9 := hide (Stab.go (P := fun x => Below w.heap.size w x) hb3 BB_8.out)
          have PDd_9 := hide (Stab.go hb3 PDd_8.out)
          have POx_9 := hide (Stab.go hb3 POx_8.out)
          have POy_9 := hide (Stab.go hb3 POy_8.out)
          have POz_9 := hide (Stab.go hb3 POz_8.out)
          clear SE_8 LG_8 BB_8 PDd_8 POx_8 POy_8 POz_8
          clear ow1 ow2 hb bn hb3 poz0 poz1 poz4 hze
          have pox3 : (w9.alloc (.cells #[.slice rs1 rs2 rs3, .slice rp1 rp2 rp3, .string ⟨#[]⟩, .int .i64 0, .int .i64 0] 31)).cell? ⟨b10, 3, none⟩ = some (.int .i64 o.g) := by rw [← hW9]; exact POx_9.out.row.cell 3
          have pox4 : (w9.alloc (.cells #[.slice rs1 rs2 rs3, .slice rp1 rp2 rp3, .string ⟨#[]⟩, .int .i64 0, .int .i64 0] 31)).cell? ⟨b10, 4, none⟩ = some (.int .i64 o.c) := by rw [← hW9]; exact POx_9.out.row.cell 4
          have poy4 : (w9.alloc (.cells #[.slice rs1 rs2 rs3, .slice rp1 rp2 rp3, .string ⟨#[]⟩, .int .i64 0, .int .i64 0] 31)).cell? ⟨b11, 4, none⟩ = some (.int .i64 q.c) := by rw [← hW9]; exact POy_9.out.row.cell 4
          have pdd0 : (w9.alloc (.cells #[.slice rs1 rs2 rs3, .slice rp1 rp2 rp3, .string ⟨#[]⟩, .int .i64 0, .int .i64 0] 31)).cell? ⟨b5, 0, none⟩ = some (.slice us1 us2 us3) := by rw [← hW9]; exact PDd_9.out.row.cell 0
          have pdd1 : (w9.alloc (.cells #[.slice rs1 rs2 rs3, .slice rp1 rp2 rp3, .string ⟨#[]⟩, .int .i64 0, .int .i64 0] 31)).cell? ⟨b5, 1, none⟩ = some (.slice up1 up2 up3) := by rw [← hW9]; exact PDd_9.out.row.cell 1
          by_cases hqc : q.c = 0
          · have hq0 : (q.c != 0) = false := by rw [hqc]; rfl
            have HPK := hide (put_ok (xs := xs) (ps := ps) (d := tx) (a := 1000) (by rw [← Hq.out]; exact hqc))
            have HPR := hide (put_read (xs := xs) (ps := ps) (d := tx) (a := 1000) (by omega) (by rw [← Hq.out]; exact hqc))
            have hxc : (o.c == 0) = true := by rw [Ho.out]; simpa using HPK.out.2.2.1
            have hrm : ¬ room xs ps < (tx.size : Int) := by
              have h1 := HPK.out
              unfold room
              rw [if_pos h1.2.1]
              have := h1.2.2.2.1
              omega
            have HGN := hide (show 0 ≤ o.g ∧ o.g < 1000000 by rw [Ho.out]; exact ⟨area_gen HPK.out.2.1 HPK.out.2.2.1, HPK.out.2.2.2.2.1⟩)
            clear hqc
            go_wp2_with fail
            rw [← hW9, ← hb13]
            clear hW9 hb13
            refine (implRoom_any _ _ xs ps _ _ _ _ _ HSD.out.1 HSD.out.2.2.1 PDd_9.out.rs PDd_9.out.rp SE_9.out.1.1 SE_9.out.1.2).mono ?_
            rintro e x1 ⟨rfl, hb⟩
            have SE_s := hide (Stab.go hb SE_9.out)
            have LG_s := hide (Stab.go (P := fun x => St3.Laid x) hb LG_9.out)
            have BB_s := hide (Stab.go (P := fun x => Below w.heap.size w x) hb BB_9.out)
            have PDd_s := hide (Stab.go hb PDd_9.out)
            have POx_s := hide (Stab.go hb POx_9.out)
            have POy_s := hide (Stab.go hb POy_9.out)
            have POz_s := hide (Stab.go hb POz_9.out)
            clear SE_9 LG_9 BB_9 PDd_9 POx_9 POy_9 POz_9
            clear hb pdd0 pdd1 poy4 pox3 pox4
            have poy4 : x1.cell? ⟨b11, 4, none⟩ = some (.int .i64 q.c) := POy_s.out.row.cell 4
            have poy0 : x1.cell? ⟨b11, 0, none⟩ = some (.slice qs1 qs2 qs3) := POy_s.out.row.cell 0
            have poy1 : x1.cell? ⟨b11, 1, none⟩ = some (.slice qp1 qp2 qp3) := POy_s.out.row.cell 1
            obtain ⟨X, hX, hXr, hXl, hXa⟩ := HPR.out
            have HQX := hide (show q.xs = X ∧ q.ps = [] by rw [Hq.out, hX]; exact ⟨rfl, rfl⟩)
            have HXA := hide hXa
            have HXR := hide hXr
            clear hX hXr hXl hXa
            go_wp2_with fail
            refine (implRd _ _ X [] aF aR aU _ (small_of_right HXR.out) (by rw [← HQX.out.1]; exact POy_s.out.rs) (by rw [← HQX.out.2]; exact POy_s.out.rp) SE_s.out LG_s.out).mono ?_
            rw [HXA.out, ← Ho.out]
            rintro e x2 ⟨⟨ns, np, rfl, ow1, ow2, _⟩, hb⟩
            obtain ⟨ns1, ns2, ns3, rfl⟩ := ow1.isSlice
            obtain ⟨np1, np2, np3, rfl⟩ := ow2.isSlice
            have BBz := hide (Stab.go (P := fun x => Below w.heap.size w x) hb BB_s.out)
            have hbn := below_new x2 (.cells #[.slice ns1 ns2 ns3, .slice np1 np2 np3, .string tx, .int .i64 (o.g + 1), .int .i64 0] 31)
            have BBy := hide (BBz.out.trans (hbn.mono BBz.out.size))
            have POxz := hide (Stab.go hbn (Stab.go hb POx_s.out))
            have pox3 : (x2.alloc (.cells #[.slice ns1 ns2 ns3, .slice np1 np2 np3, .string tx, .int .i64 (o.g + 1), .int .i64 0] 31)).cell? ⟨b10, 3, none⟩ = some (.int .i64 o.g) := POxz.out.row.cell 3
            have hgw : IntKind.i64.wrap (o.g + 1) = o.g + 1 := by rw [IntKind.wrap_i64]; have := HGN.out; omega
            clear ow1 ow2 hb poy0 poy1 poy4 hbn
            go_wp2
            go_ret
            exact ⟨rfl, BBy.out⟩
          · have hq0 : (q.c != 0) = true := by simpa using hqc
            by_cases hoc : o.c = 0
            · have hxc : (o.c == 0) = true := by rw [hoc]; rfl
              by_cases hrm : room xs ps < (tx.size : Int)
              · have hq9 : (q.c != 9) = false := by rw [Hq.out, put_full (by omega) (by rw [← Ho.out]; exact hoc) hrm]; rfl
                clear hoc
                clear hqc
                go_wp2_with fail
                rw [← hW9, ← hb13]
                clear hW9 hb13
                refine (implRoom_any _ _ xs ps _ _ _ _ _ HSD.out.1 HSD.out.2.2.1 PDd_9.out.rs PDd_9.out.rp SE_9.out.1.1 SE_9.out.1.2).mono ?_
                rintro e x1 ⟨rfl, hb⟩
                have POy_s := hide (Stab.go hb POy_9.out)
                have BB_s := hide (Stab.go (P := fun x => Below w.heap.size w x) hb BB_9.out)
                clear hb
                have poz4 : x1.cell? ⟨b11, 4, none⟩ = some (.int .i64 q.c) := POy_s.out.row.cell 4
                go_wp2
                go_ret
                exact ⟨rfl, BB_s.out⟩
              · clear hoc
                clear hqc
                go_wp2_with fail
                rw [← hW9, ← hb13]
                clear hW9 hb13
                refine (implRoom_any _ _ xs ps _ _ _ _ _ HSD.out.1 HSD.out.2.2.1 PDd_9.out.rs PDd_9.out.rp SE_9.out.1.1 SE_9.out.1.2).mono ?_
                rintro e x1 ⟨rfl, hb⟩
                have POy_s := hide (Stab.go hb POy_9.out)
                have BB_s := hide (Stab.go (P := fun x => Below w.heap.size w x) hb BB_9.out)
                clear hb
                have poz4 : x1.cell? ⟨b11, 4, none⟩ = some (.int .i64 q.c) := POy_s.out.row.cell 4
                go_wp2
                go_ret
                exact ⟨rfl, BB_s.out⟩
            · have hxc : (o.c == 0) = false := by simpa using hoc
              clear hoc hqc
              go_wp2
              go_ret
              exact ⟨rfl, by first | exact BB_9.out | (rw [← hW9]; exact BB_9.out)⟩
        · have hze : (z.c == 0) = false := by simpa using hzc
          clear hzc
          have pox3 : W8.cell? ⟨b10, 3, none⟩ = some (.int .i64 o.g) := POx_8.out.row.cell 3
          have pox4 : W8.cell? ⟨b10, 4, none⟩ = some (.int .i64 o.c) := POx_8.out.row.cell 4
          have poy4 : W8.cell? ⟨b11, 4, none⟩ = some (.int .i64 q.c) := POy_8.out.row.cell 4
          have pdd0 : W8.cell? ⟨b5, 0, none⟩ = some (.slice us1 us2 us3) := PDd_8.out.row.cell 0
          have pdd1 : W8.cell? ⟨b5, 1, none⟩ = some (.slice up1 up2 up3) := PDd_8.out.row.cell 1
          by_cases hqc : q.c = 0
          · have hq0 : (q.c != 0) = false := by rw [hqc]; rfl
            have HPK := hide (put_ok (xs := xs) (ps := ps) (d := tx) (a := 1000) (by rw [← Hq.out]; exact hqc))
            have HPR := hide (put_read (xs := xs) (ps := ps) (d := tx) (a := 1000) (by omega) (by rw [← Hq.out]; exact hqc))
            have hxc : (o.c == 0) = true := by rw [Ho.out]; simpa using HPK.out.2.2.1
            have hrm : ¬ room xs ps < (tx.size : Int) := by
              have h1 := HPK.out
              unfold room
              rw [if_pos h1.2.1]
              have := h1.2.2.2.1
              omega
            have HGN := hide (show 0 ≤ o.g ∧ o.g < 1000000 by rw [Ho.out]; exact ⟨area_gen HPK.out.2.1 HPK.out.2.2.1, HPK.out.2.2.2.2.1⟩)
            clear hqc
            go_wp2_with fail

            refine (implRoom_any _ _ xs ps _ _ _ _ _ HSD.out.1 HSD.out.2.2.1 PDd_8.out.rs PDd_8.out.rp SE_8.out.1.1 SE_8.out.1.2).mono ?_
            rintro e x1 ⟨rfl, hb⟩
            have SE_s := hide (Stab.go hb SE_8.out)
            have LG_s := hide (Stab.go (P := fun x => St3.Laid x) hb LG_8.out)
            have BB_s := hide (Stab.go (P := fun x => Below w.heap.size w x) hb BB_8.out)
            have PDd_s := hide (Stab.go hb PDd_8.out)
            have POx_s := hide (Stab.go hb POx_8.out)
            have POy_s := hide (Stab.go hb POy_8.out)
            have POz_s := hide (Stab.go hb POz_8.out)
            clear SE_8 LG_8 BB_8 PDd_8 POx_8 POy_8 POz_8
            clear hb pdd0 pdd1 poy4 pox3 pox4
            have poy4 : x1.cell? ⟨b11, 4, none⟩ = some (.int .i64 q.c) := POy_s.out.row.cell 4
            have poy0 : x1.cell? ⟨b11, 0, none⟩ = some (.slice qs1 qs2 qs3) := POy_s.out.row.cell 0
            have poy1 : x1.cell? ⟨b11, 1, none⟩ = some (.slice qp1 qp2 qp3) := POy_s.out.row.cell 1
            obtain ⟨X, hX, hXr, hXl, hXa⟩ := HPR.out
            have HQX := hide (show q.xs = X ∧ q.ps = [] by rw [Hq.out, hX]; exact ⟨rfl, rfl⟩)
            have HXA := hide hXa
            have HXR := hide hXr
            clear hX hXr hXl hXa
            go_wp2_with fail
            refine (implRd _ _ X [] aF aR aU _ (small_of_right HXR.out) (by rw [← HQX.out.1]; exact POy_s.out.rs) (by rw [← HQX.out.2]; exact POy_s.out.rp) SE_s.out LG_s.out).mono ?_
            rw [HXA.out, ← Ho.out]
            rintro e x2 ⟨⟨ns, np, rfl, ow1, ow2, _⟩, hb⟩
            obtain ⟨ns1, ns2, ns3, rfl⟩ := ow1.isSlice
            obtain ⟨np1, np2, np3, rfl⟩ := ow2.isSlice
            have BBz := hide (Stab.go (P := fun x => Below w.heap.size w x) hb BB_s.out)
            have hbn := below_new x2 (.cells #[.slice ns1 ns2 ns3, .slice np1 np2 np3, .string tx, .int .i64 (o.g + 1), .int .i64 0] 31)
            have BBy := hide (BBz.out.trans (hbn.mono BBz.out.size))
            have POxz := hide (Stab.go hbn (Stab.go hb POx_s.out))
            have pox3 : (x2.alloc (.cells #[.slice ns1 ns2 ns3, .slice np1 np2 np3, .string tx, .int .i64 (o.g + 1), .int .i64 0] 31)).cell? ⟨b10, 3, none⟩ = some (.int .i64 o.g) := POxz.out.row.cell 3
            have hgw : IntKind.i64.wrap (o.g + 1) = o.g + 1 := by rw [IntKind.wrap_i64]; have := HGN.out; omega
            clear ow1 ow2 hb poy0 poy1 poy4 hbn
            go_wp2
            go_ret
            exact ⟨rfl, BBy.out⟩
          · have hq0 : (q.c != 0) = true := by simpa using hqc
            by_cases hoc : o.c = 0
            · have hxc : (o.c == 0) = true := by rw [hoc]; rfl
              by_cases hrm : room xs ps < (tx.size : Int)
              · have hq9 : (q.c != 9) = false := by rw [Hq.out, put_full (by omega) (by rw [← Ho.out]; exact hoc) hrm]; rfl
                clear hoc
                clear hqc
                go_wp2_with fail
                refine (implRoom_any _ _ xs ps _ _ _ _ _ HSD.out.1 HSD.out.2.2.1 PDd_8.out.rs PDd_8.out.rp SE_8.out.1.1 SE_8.out.1.2).mono ?_
                rintro e x1 ⟨rfl, hb⟩
                have POy_s := hide (Stab.go hb POy_8.out)
                have BB_s := hide (Stab.go (P := fun x => Below w.heap.size w x) hb BB_8.out)
                clear hb
                have poz4 : x1.cell? ⟨b11, 4, none⟩ = some (.int .i64 q.c) := POy_s.out.row.cell 4
                go_wp2
                go_ret
                exact ⟨rfl, BB_s.out⟩
              · clear hoc
                clear hqc
                go_wp2_with fail
                refine (implRoom_any _ _ xs ps _ _ _ _ _ HSD.out.1 HSD.out.2.2.1 PDd_8.out.rs PDd_8.out.rp SE_8.out.1.1 SE_8.out.1.2).mono ?_
                rintro e x1 ⟨rfl, hb⟩
                have POy_s := hide (Stab.go hb POy_8.out)
                have BB_s := hide (Stab.go (P := fun x => Below w.heap.size w x) hb BB_8.out)
                clear hb
                have poz4 : x1.cell? ⟨b11, 4, none⟩ = some (.int .i64 q.c) := POy_s.out.row.cell 4
                go_wp2
                go_ret
                exact ⟨rfl, BB_s.out⟩
            · have hxc : (o.c == 0) = false := by simpa using hoc
              clear hoc hqc
              go_wp2
              go_ret
              exact ⟨rfl, by first | exact BB_8.out | (rw [← hW9]; exact BB_8.out)⟩
end Go.Proofs.YtkmehbgepkilkaaGreatDoor

/- The law FnArea, for all bytes: longer ones are passed by. -/
namespace Go.Proofs.YtkmehbgepkilkaaGreatDoor
open Go.RowKit

set_option maxRecDepth 100000 in
set_option maxHeartbeats 2000000 in
theorem fnArea_long (vc vm : Value) (bc bm : List Int) (w : World) (hc : ReadsB w vc bc) (hm : ReadsB w vm bm) (h : 1048576 < bc.length ∨ 1048576 < bm.length) :
    Calls Tryz.prog 3 #[vc, vm] w fun e w' => e = .returned (.bool true) ∧ Below w.heap.size w w' := by
  obtain ⟨pc, cc, rfl, h1, h2, -⟩ := hc
  obtain ⟨pm, cm, rfl, h3, h4, -⟩ := hm
  unfold maxLen at h2 h4
  by_cases h0 : 1048576 < bc.length
  · have t1 : decide ((1048576 : Int) < (bc.length : Int)) = true := decide_eq_true (by omega)
    go_enter Tryz.func3, Tryz.ntmps3
    go_wp2
    go_ret
    exact ⟨rfl, Below.refl _ _⟩
  · have t1 : decide ((1048576 : Int) < (bc.length : Int)) = false := decide_eq_false (by omega)
    have t2 : decide ((1048576 : Int) < (bm.length : Int)) = true := decide_eq_true (by omega)
    go_enter Tryz.func3, Tryz.ntmps3
    go_wp2
    go_ret
    exact ⟨rfl, Below.refl _ _⟩
theorem fnAreaLaw (aF aR aU : Addr) (w : World) (hS : Sents aF aR aU w) (hG : St3.Laid w) (vc vm : Value) (bc bm : List Int) (hc : ReadsB w vc bc) (hm : ReadsB w vm bm) :
    Calls Tryz.prog 3 #[vc, vm] w fun e w' => e = .returned (.bool true) ∧ Below w.heap.size w w' := by
  by_cases h1 : 1048576 < bc.length
  · exact fnArea_long vc vm bc bm w hc hm (.inl h1)
  · by_cases h2 : 1048576 < bm.length
    · exact fnArea_long vc vm bc bm w hc hm (.inr h2)
    · exact fnArea_walk vc vm bc bm aF aR aU w hc hm (by omega) (by omega) hS hG
end Go.Proofs.YtkmehbgepkilkaaGreatDoor
