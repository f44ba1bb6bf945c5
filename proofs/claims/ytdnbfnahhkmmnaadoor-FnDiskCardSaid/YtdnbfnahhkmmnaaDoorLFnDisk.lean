/- The law FnDisk, walked. -/
import Derived.Test.YtdnbfnahhkmmnaaDoorDiskMath
import Derived.OrdersHeld
import Derived.Deep.RegionHeld3
import Derived.Deep.DeepCutAuto
import Derived.Deep.CutRange
namespace Go.Proofs.YtdnbfnahhkmmnaaDoor
open Go.RowKit

theorem Tryd.fieldData (a b c d : Value) (w : World) : (Instr.field 30 (.agg #[a, b, c, d]) 1).run Tryd.prog w = .ok c w := by kernel_rfl
set_option maxRecDepth 100000 in
set_option maxHeartbeats 40000000 in
theorem fnDisk_walk (vc vm : Value) (bc bm : List Int) (aF aR aU : Addr) (w : World) (hc : ReadsB w vc bc) (hm : ReadsB w vm bm) (hlc : bc.length ≤ 1048576) (hlm : bm.length ≤ 1048576) (hS : Sents aF aR aU w) :
    Calls Tryd.prog 3 #[vc, vm] w fun e w' => e = .returned (.bool true) ∧ Below w.heap.size w w' := by
  have SE_0 := hide hS
  have VC_0 := hide hc
  have VM_0 := hide hm
  have BB_0 := hide (Below.refl w.heap.size w)
  obtain ⟨pc, cc, rfl, _⟩ := hc
  obtain ⟨pm, cm, rfl, _⟩ := hm
  have t1 : ¬ (1048576 : Int) < (bc.length : Int) := by omega
  have t2 : ¬ (1048576 : Int) < (bm.length : Int) := by omega
  clear hS
  go_enter Tryd.func3, Tryd.ntmps3
  go_wp2_with fail
  refine (drawWrite_any _ bc _ VC_0.out hlc).mono ?_
  rintro e w1 ⟨⟨us, up, xs, ps, a, tx, rfl, htx, dk⟩, hb⟩
  have HSD := hide dk.small
  have o1 := dk.os.reads
  have o2 := dk.op.reads
  obtain ⟨us1, us3, hus⟩ : ∃ p c, us = .slice p xs.length c := by obtain ⟨p, c, e, _⟩ := dk.os.reads; exact ⟨p, c, e⟩
  subst hus
  obtain ⟨up1, up3, hup⟩ : ∃ p c, up = .slice p ps.length c := by obtain ⟨p, c, e, _⟩ := dk.op.reads; exact ⟨p, c, e⟩
  subst hup
  have bn := below_new w1 (.cells #[.slice us1 xs.length us3, .slice up1 ps.length up3] 26)
  have hb3 := hb.trans (bn.mono hb.size)
  obtain ⟨b5, hb5⟩ : ∃ b, b = w1.heap.size := ⟨_, rfl⟩
  obtain ⟨W1, hW1⟩ : ∃ W, W = w1.alloc (.cells #[.slice us1 xs.length us3, .slice up1 ps.length up3] 26) := ⟨_, rfl⟩
  rw [← hW1] at hb3
  have PDd_1 := hide (show PD b5 (.slice us1 xs.length us3) (.slice up1 ps.length up3) xs ps W1 from ⟨by rw [hW1, hb5]; exact row_new w1 _ _, by rw [hW1]; exact o1.below bn (Nat.le_refl _), by rw [hW1]; exact o2.below bn (Nat.le_refl _)⟩)
  have SE_1 := hide (Stab.go hb3 SE_0.out)
  have VC_1 := hide (Stab.go (P := fun x => ReadsB x (.slice pc bc.length cc) bc) hb3 VC_0.out)
  have VM_1 := hide (Stab.go (P := fun x => ReadsB x (.slice pm bm.length cm) bm) hb3 VM_0.out)
  have BB_1 := hide (Stab.go (P := fun x => Below w.heap.size w x) hb3 BB_0.out)
  clear SE_0 VC_0 VM_0 BB_0
  clear dk o1 o2 hb bn hb3
  go_wp2_with fail
  rw [← hW1, ← hb5]
  clear hW1 hb5
  refine (implWrite_any _ _ xs ps a tx aF aR aU _ HSD.out.1 HSD.out.2.2.1 (by omega) PDd_1.out.rs PDd_1.out.rp SE_1.out).mono ?_
  obtain ⟨o, Ho⟩ : ∃ o, Hid (o = writeOut xs ps a tx) := ⟨_, rfl⟩
  rw [← Ho.out]
  rintro e w2 ⟨⟨ys, yp, rfl, ow1, ow2, _⟩, hb⟩
  have o1 := ow1.reads
  have o2 := ow2.reads
  obtain ⟨ys1, ys2, ys3, rfl⟩ := ow1.isSlice
  obtain ⟨yp1, yp2, yp3, rfl⟩ := ow2.isSlice
  have bn := below_new w2 (.cells #[.slice ys1 ys2 ys3, .slice yp1 yp2 yp3, .string o.t, .int .i64 o.c] 30)
  have hb3 := hb.trans (bn.mono hb.size)
  obtain ⟨b8, hb8⟩ : ∃ b, b = w2.heap.size := ⟨_, rfl⟩
  obtain ⟨W2, hW2⟩ : ∃ W, W = w2.alloc (.cells #[.slice ys1 ys2 ys3, .slice yp1 yp2 yp3, .string o.t, .int .i64 o.c] 30) := ⟨_, rfl⟩
  rw [← hW2] at hb3
  have POx_2 := hide (show PO b8 (.slice ys1 ys2 ys3) (.slice yp1 yp2 yp3) o W2 from ⟨by rw [hW2, hb8]; exact row_new w2 _ _, by rw [hW2]; exact o1.below bn (Nat.le_refl _), by rw [hW2]; exact o2.below bn (Nat.le_refl _)⟩)
  have SE_2 := hide (Stab.go hb3 SE_1.out)
  have VC_2 := hide (Stab.go (P := fun x => ReadsB x (.slice pc bc.length cc) bc) hb3 VC_1.out)
  have VM_2 := hide (Stab.go (P := fun x => ReadsB x (.slice pm bm.length cm) bm) hb3 VM_1.out)
  have BB_2 := hide (Stab.go (P := fun x => Below w.heap.size w x) hb3 BB_1.out)
  have PDd_2 := hide (Stab.go hb3 PDd_1.out)
  clear SE_1 VC_1 VM_1 BB_1 PDd_1
  clear ow1 ow2 o1 o2 hb bn hb3
  go_wp2_with fail
  rw [← hW2, ← hb8]
  clear hW2 hb8
  refine (drawCrash_any _ bm _ VM_2.out hlm).mono ?_
  rintro e w3 ⟨⟨es, ep, xe, pe, u, ks, rfl, hks, ok, dk⟩, hb⟩
  have HSE := hide dk.small
  have o1 := dk.os.reads
  have o2 := dk.op.reads
  have o3 := ok.reads
  obtain ⟨es1, es3, hes⟩ : ∃ p c, es = .slice p xe.length c := by obtain ⟨p, c, e, _⟩ := dk.os.reads; exact ⟨p, c, e⟩
  subst hes
  obtain ⟨ep1, ep3, hep⟩ : ∃ p c, ep = .slice p pe.length c := by obtain ⟨p, c, e, _⟩ := dk.op.reads; exact ⟨p, c, e⟩
  subst hep
  obtain ⟨u1, u3, hu⟩ : ∃ p c, u = .slice p ks.length c := by obtain ⟨p, c, e, _⟩ := o3; exact ⟨p, c, e⟩
  subst hu
  have bn := below_new w3 (.cells #[.slice es1 xe.length es3, .slice ep1 pe.length ep3] 26)
  have hb3 := hb.trans (bn.mono hb.size)
  obtain ⟨b9, hb9⟩ : ∃ b, b = w3.heap.size := ⟨_, rfl⟩
  obtain ⟨W3, hW3⟩ : ∃ W, W = w3.alloc (.cells #[.slice es1 xe.length es3, .slice ep1 pe.length ep3] 26) := ⟨_, rfl⟩
  rw [← hW3] at hb3
  have PDe_3 := hide (show PD b9 (.slice es1 xe.length es3) (.slice ep1 pe.length ep3) xe pe W3 from ⟨by rw [hW3, hb9]; exact row_new w3 _ _, by rw [hW3]; exact o1.below bn (Nat.le_refl _), by rw [hW3]; exact o2.below bn (Nat.le_refl _)⟩)
  have RIk_3 := hide (show ReadsI W3 (.slice u1 ks.length u3) ks by rw [hW3]; exact o3.below bn (Nat.le_refl _))
  have SE_3 := hide (Stab.go hb3 SE_2.out)
  have VC_3 := hide (Stab.go (P := fun x => ReadsB x (.slice pc bc.length cc) bc) hb3 VC_2.out)
  have VM_3 := hide (Stab.go (P := fun x => ReadsB x (.slice pm bm.length cm) bm) hb3 VM_2.out)
  have BB_3 := hide (Stab.go (P := fun x => Below w.heap.size w x) hb3 BB_2.out)
  have PDd_3 := hide (Stab.go hb3 PDd_2.out)
  have POx_3 := hide (Stab.go hb3 POx_2.out)
  clear SE_2 VC_2 VM_2 BB_2 PDd_2 POx_2
  clear dk ok o1 o2 o3 hb bn hb3
  go_wp2_with fail
  rw [← hW3, ← hb9]
  clear hW3 hb9
  refine (implCrash_any _ _ _ xe pe ks _ _ _ _ _ PDe_3.out.rs PDe_3.out.rp RIk_3.out HSE.out SE_3.out.1.1 SE_3.out.1.2).mono ?_
  obtain ⟨xc, Hxc⟩ : ∃ x, Hid (x = crashXs xe pe ks) := ⟨_, rfl⟩
  obtain ⟨qc, Hqc⟩ : ∃ x, Hid (x = crashPs xe pe ks) := ⟨_, rfl⟩
  rw [← Hxc.out, ← Hqc.out]
  rintro e w4 ⟨⟨cs, cp, rfl, ow1, ow2, _⟩, hb⟩
  have o1 := ow1.reads
  have o2 := ow2.reads
  obtain ⟨cs1, cs3, hcs⟩ : ∃ p c, cs = .slice p xc.length c := by obtain ⟨p, c, e, _⟩ := ow1.reads; exact ⟨p, c, e⟩
  subst hcs
  obtain ⟨cp1, cp3, hcp⟩ : ∃ p c, cp = .slice p qc.length c := by obtain ⟨p, c, e, _⟩ := ow2.reads; exact ⟨p, c, e⟩
  subst hcp
  have bn := below_new w4 (.cells #[.slice cs1 xc.length cs3, .slice cp1 qc.length cp3] 26)
  have hb3 := hb.trans (bn.mono hb.size)
  obtain ⟨b11, hb11⟩ : ∃ b, b = w4.heap.size := ⟨_, rfl⟩
  obtain ⟨W4, hW4⟩ : ∃ W, W = w4.alloc (.cells #[.slice cs1 xc.length cs3, .slice cp1 qc.length cp3] 26) := ⟨_, rfl⟩
  rw [← hW4] at hb3
  have PDc_4 := hide (show PD b11 (.slice cs1 xc.length cs3) (.slice cp1 qc.length cp3) xc qc W4 from ⟨by rw [hW4, hb11]; exact row_new w4 _ _, by rw [hW4]; exact o1.below bn (Nat.le_refl _), by rw [hW4]; exact o2.below bn (Nat.le_refl _)⟩)
  have SE_4 := hide (Stab.go hb3 SE_3.out)
  have VC_4 := hide (Stab.go (P := fun x => ReadsB x (.slice pc bc.length cc) bc) hb3 VC_3.out)
  have VM_4 := hide (Stab.go (P := fun x => ReadsB x (.slice pm bm.length cm) bm) hb3 VM_3.out)
  have BB_4 := hide (Stab.go (P := fun x => Below w.heap.size w x) hb3 BB_3.out)
  have PDd_4 := hide (Stab.go hb3 PDd_3.out)
  have POx_4 := hide (Stab.go hb3 POx_3.out)
  have PDe_4 := hide (Stab.go hb3 PDe_3.out)
  have RIk_4 := hide (Stab.go (P := fun x => ReadsI x (.slice u1 ks.length u3) ks) hb3 RIk_3.out)
  clear SE_3 VC_3 VM_3 BB_3 PDd_3 POx_3 PDe_3 RIk_3
  clear ow1 ow2 o1 o2 hb bn hb3
  have k0 : (w4.alloc (.cells #[.slice cs1 xc.length cs3, .slice cp1 qc.length cp3] 26)).cell? ⟨b9, 0, none⟩ = some (.slice es1 xe.length es3) := by rw [← hW4]; exact PDe_4.out.row.cell 0
  have k1 : (w4.alloc (.cells #[.slice cs1 xc.length cs3, .slice cp1 qc.length cp3] 26)).cell? ⟨b9, 1, none⟩ = some (.slice ep1 pe.length ep3) := by rw [← hW4]; exact PDe_4.out.row.cell 1
  go_wp2_with fail
  clear k0 k1
  rw [← hW4, ← hb11]
  clear hW4 hb11
  refine (implFlush_any _ _ xe pe aF aR aU _ HSE.out.1 HSE.out.2.2.1 PDe_4.out.rs PDe_4.out.rp SE_4.out).mono ?_
  obtain ⟨f, Hf⟩ : ∃ o, Hid (o = flushOut xe pe) := ⟨_, rfl⟩
  rw [← Hf.out]
  rintro e w5 ⟨⟨fs, fp, rfl, ow1, ow2, _⟩, hb⟩
  have o1 := ow1.reads
  have o2 := ow2.reads
  obtain ⟨fs1, fs2, fs3, rfl⟩ := ow1.isSlice
  obtain ⟨fp1, fp2, fp3, rfl⟩ := ow2.isSlice
  have bn := below_new w5 (.cells #[.slice fs1 fs2 fs3, .slice fp1 fp2 fp3, .string f.t, .int .i64 f.c] 30)
  have hb3 := hb.trans (bn.mono hb.size)
  obtain ⟨b12, hb12⟩ : ∃ b, b = w5.heap.size := ⟨_, rfl⟩
  obtain ⟨W5, hW5⟩ : ∃ W, W = w5.alloc (.cells #[.slice fs1 fs2 fs3, .slice fp1 fp2 fp3, .string f.t, .int .i64 f.c] 30) := ⟨_, rfl⟩
  rw [← hW5] at hb3
  have POf_5 := hide (show PO b12 (.slice fs1 fs2 fs3) (.slice fp1 fp2 fp3) f W5 from ⟨by rw [hW5, hb12]; exact row_new w5 _ _, by rw [hW5]; exact o1.below bn (Nat.le_refl _), by rw [hW5]; exact o2.below bn (Nat.le_refl _)⟩)
  have SE_5 := hide (Stab.go hb3 SE_4.out)
  have VC_5 := hide (Stab.go (P := fun x => ReadsB x (.slice pc bc.length cc) bc) hb3 VC_4.out)
  have VM_5 := hide (Stab.go (P := fun x => ReadsB x (.slice pm bm.length cm) bm) hb3 VM_4.out)
  have BB_5 := hide (Stab.go (P := fun x => Below w.heap.size w x) hb3 BB_4.out)
  have PDd_5 := hide (Stab.go hb3 PDd_4.out)
  have POx_5 := hide (Stab.go hb3 POx_4.out)
  have PDe_5 := hide (Stab.go hb3 PDe_4.out)
  have RIk_5 := hide (Stab.go (P := fun x => ReadsI x (.slice u1 ks.length u3) ks) hb3 RIk_4.out)
  have PDc_5 := hide (Stab.go hb3 PDc_4.out)
  clear SE_4 VC_4 VM_4 BB_4 PDd_4 POx_4 PDe_4 RIk_4 PDc_4
  clear ow1 ow2 o1 o2 hb bn hb3
  go_wp2_with fail
  rw [← hW5, ← hb12]
  clear hW5 hb12
  refine (drawNew_any _ bm _ VM_5.out hlm).mono ?_
  rintro e W6 ⟨⟨nn, rfl⟩, hb⟩
  have SE_6 := hide (Stab.go hb SE_5.out)
  have VC_6 := hide (Stab.go (P := fun x => ReadsB x (.slice pc bc.length cc) bc) hb VC_5.out)
  have VM_6 := hide (Stab.go (P := fun x => ReadsB x (.slice pm bm.length cm) bm) hb VM_5.out)
  have BB_6 := hide (Stab.go (P := fun x => Below w.heap.size w x) hb BB_5.out)
  have PDd_6 := hide (Stab.go hb PDd_5.out)
  have POx_6 := hide (Stab.go hb POx_5.out)
  have PDe_6 := hide (Stab.go hb PDe_5.out)
  have RIk_6 := hide (Stab.go (P := fun x => ReadsI x (.slice u1 ks.length u3) ks) hb RIk_5.out)
  have PDc_6 := hide (Stab.go hb PDc_5.out)
  have POf_6 := hide (Stab.go hb POf_5.out)
  clear SE_5 VC_5 VM_5 BB_5 PDd_5 POx_5 PDe_5 RIk_5 PDc_5 POf_5
  clear hb
  go_wp2_with fail
  refine (drawRead_any _ bc _ VC_6.out hlc).mono ?_
  rintro e w7 ⟨⟨gs, gp, xg, pg, kk, rfl, dk⟩, hb⟩
  have HSG := hide dk.small
  have o1 := dk.os.reads
  have o2 := dk.op.reads
  obtain ⟨gs1, gs2, gs3, rfl⟩ := dk.os.isSlice
  obtain ⟨gp1, gp2, gp3, rfl⟩ := dk.op.isSlice
  have bn := below_new w7 (.cells #[.slice gs1 gs2 gs3, .slice gp1 gp2 gp3] 26)
  have hb3 := hb.trans (bn.mono hb.size)
  obtain ⟨b14, hb14⟩ : ∃ b, b = w7.heap.size := ⟨_, rfl⟩
  obtain ⟨W7, hW7⟩ : ∃ W, W = w7.alloc (.cells #[.slice gs1 gs2 gs3, .slice gp1 gp2 gp3] 26) := ⟨_, rfl⟩
  rw [← hW7] at hb3
  have PDg_7 := hide (show PD b14 (.slice gs1 gs2 gs3) (.slice gp1 gp2 gp3) xg pg W7 from ⟨by rw [hW7, hb14]; exact row_new w7 _ _, by rw [hW7]; exact o1.below bn (Nat.le_refl _), by rw [hW7]; exact o2.below bn (Nat.le_refl _)⟩)
  have SE_7 := hide (Stab.go hb3 SE_6.out)
  have VC_7 := hide (Stab.go (P := fun x => ReadsB x (.slice pc bc.length cc) bc) hb3 VC_6.out)
  have VM_7 := hide (Stab.go (P := fun x => ReadsB x (.slice pm bm.length cm) bm) hb3 VM_6.out)
  have BB_7 := hide (Stab.go (P := fun x => Below w.heap.size w x) hb3 BB_6.out)
  have PDd_7 := hide (Stab.go hb3 PDd_6.out)
  have POx_7 := hide (Stab.go hb3 POx_6.out)
  have PDe_7 := hide (Stab.go hb3 PDe_6.out)
  have RIk_7 := hide (Stab.go (P := fun x => ReadsI x (.slice u1 ks.length u3) ks) hb3 RIk_6.out)
  have PDc_7 := hide (Stab.go hb3 PDc_6.out)
  have POf_7 := hide (Stab.go hb3 POf_6.out)
  clear SE_6 VC_6 VM_6 BB_6 PDd_6 POx_6 PDe_6 RIk_6 PDc_6 POf_6
  clear dk o1 o2 hb bn hb3 VC_7 VM_7
  go_wp2_with fail
  rw [← hW7, ← hb14]
  clear hW7 hb14
  have HSS := hide (show ∀ x, Below W7.heap.size W7 x → x.cell? ⟨b5, 0, none⟩ = some (.slice us1 xs.length us3) ∧ x.cell? ⟨b5, 1, none⟩ = some (.slice up1 ps.length up3) ∧ x.cell? ⟨b8, 0, none⟩ = some (.slice ys1 ys2 ys3) ∧ x.cell? ⟨b8, 1, none⟩ = some (.slice yp1 yp2 yp3) ∧ x.cell? ⟨b8, 2, none⟩ = some (.string o.t) ∧ x.cell? ⟨b8, 3, none⟩ = some (.int .i64 o.c) ∧ x.cell? ⟨b9, 0, none⟩ = some (.slice es1 xe.length es3) ∧ x.cell? ⟨b9, 1, none⟩ = some (.slice ep1 pe.length ep3) ∧ x.cell? ⟨b11, 0, none⟩ = some (.slice cs1 xc.length cs3) ∧ x.cell? ⟨b11, 1, none⟩ = some (.slice cp1 qc.length cp3) ∧ x.cell? ⟨b12, 0, none⟩ = some (.slice fs1 fs2 fs3) ∧ x.cell? ⟨b12, 1, none⟩ = some (.slice fp1 fp2 fp3) ∧ x.cell? ⟨b12, 2, none⟩ = some (.string f.t) ∧ x.cell? ⟨b12, 3, none⟩ = some (.int .i64 f.c) ∧ x.cell? ⟨b14, 0, none⟩ = some (.slice gs1 gs2 gs3) ∧ x.cell? ⟨b14, 1, none⟩ = some (.slice gp1 gp2 gp3) from fun x h => ⟨(Row.after h PDd_7.out.row).cell 0, (Row.after h PDd_7.out.row).cell 1, (Row.after h POx_7.out.row).cell 0, (Row.after h POx_7.out.row).cell 1, (Row.after h POx_7.out.row).cell 2, (Row.after h POx_7.out.row).cell 3, (Row.after h PDe_7.out.row).cell 0, (Row.after h PDe_7.out.row).cell 1, (Row.after h PDc_7.out.row).cell 0, (Row.after h PDc_7.out.row).cell 1, (Row.after h POf_7.out.row).cell 0, (Row.after h POf_7.out.row).cell 1, (Row.after h POf_7.out.row).cell 2, (Row.after h POf_7.out.row).cell 3, (Row.after h PDg_7.out.row).cell 0, (Row.after h PDg_7.out.row).cell 1⟩)
  refine wp_region_held (S := fun x : World => x.cell? ⟨b5, 0, none⟩ = some (.slice us1 xs.length us3) ∧ x.cell? ⟨b5, 1, none⟩ = some (.slice up1 ps.length up3) ∧ x.cell? ⟨b8, 0, none⟩ = some (.slice ys1 ys2 ys3) ∧ x.cell? ⟨b8, 1, none⟩ = some (.slice yp1 yp2 yp3) ∧ x.cell? ⟨b8, 2, none⟩ = some (.string o.t) ∧ x.cell? ⟨b8, 3, none⟩ = some (.int .i64 o.c) ∧ x.cell? ⟨b9, 0, none⟩ = some (.slice es1 xe.length es3) ∧ x.cell? ⟨b9, 1, none⟩ = some (.slice ep1 pe.length ep3) ∧ x.cell? ⟨b11, 0, none⟩ = some (.slice cs1 xc.length cs3) ∧ x.cell? ⟨b11, 1, none⟩ = some (.slice cp1 qc.length cp3) ∧ x.cell? ⟨b12, 0, none⟩ = some (.slice fs1 fs2 fs3) ∧ x.cell? ⟨b12, 1, none⟩ = some (.slice fp1 fp2 fp3) ∧ x.cell? ⟨b12, 2, none⟩ = some (.string f.t) ∧ x.cell? ⟨b12, 3, none⟩ = some (.int .i64 f.c) ∧ x.cell? ⟨b14, 0, none⟩ = some (.slice gs1 gs2 gs3) ∧ x.cell? ⟨b14, 1, none⟩ = some (.slice gp1 gp2 gp3)) (by kernel_rfl) ?_
  have HB_a := hide (show Below W7.heap.size W7 { W7 with drawn := W7.drawn + 1 } from (Below.refl _ _).drew)
  have HS := hide (HSS.out _ HB_a.out)
  refine wpAnyH_take (i := 0) (oi := _) (v := .agg #[.slice ys1 ys2 ys3, .slice yp1 yp2 yp3, .string o.t, .int .i64 o.c]) rfl (by kernel_rfl) (by kernel_rfl) (by kernel_rfl) (fun _ _ _ h => h) (Or.inl ⟨by rfl, by intro w hSw; go_split_ands; go_simp⟩) HS.out ?_
  simp only [Act.put, List.getElem_toArray, List.getElem_cons_zero, List.setIfInBounds_toArray, List.set_cons_zero, List.set_cons_succ]
  refine wpAnyH_take (i := 1) (oi := _) (v := .agg #[.slice us1 xs.length us3, .slice up1 ps.length up3]) rfl (by kernel_rfl) (by kernel_rfl) (by kernel_rfl) (fun _ _ _ h => h) (Or.inl ⟨by rfl, by intro w hSw; go_split_ands; go_simp⟩) HS.out ?_
  simp only [Act.put, List.getElem_toArray, List.getElem_cons_zero, List.getElem_cons_succ, List.setIfInBounds_toArray, List.set_cons_zero, List.set_cons_succ]
  refine wpAnyH_take (i := 2) (oi := _) (v := .int .i64 a) rfl (by kernel_rfl) (by kernel_rfl) (by kernel_rfl) (fun _ _ _ h => h) (Or.inl ⟨by rfl, by intro w hSw; go_split_ands; go_simp⟩) HS.out ?_
  simp only [Act.put, List.getElem_toArray, List.getElem_cons_zero, List.getElem_cons_succ, List.setIfInBounds_toArray, List.set_cons_zero, List.set_cons_succ]
  refine wpAnyH_take (i := 3) (oi := _) (v := .string tx) rfl (by kernel_rfl) (by kernel_rfl) (by kernel_rfl) (fun _ _ _ h => h) (Or.inl ⟨by rfl, by intro w hSw; go_split_ands; go_simp⟩) HS.out ?_
  simp only [Act.put, List.getElem_toArray, List.getElem_cons_zero, List.getElem_cons_succ, List.setIfInBounds_toArray, List.set_cons_zero, List.set_cons_succ]
  refine wpAnyH_ready (rs := [4]) (by kernel_rfl) (by simp) ?_
  refine AllReadyH.cons (o := _) rfl (fun K hK => ?_) AllReadyH.nil
  go_simp
  refine (specWrite_any _ _ xs ps a tx _ HSD.out.1 HSD.out.2.2.1 (by omega) (Stab.go HB_a.out PDd_7.out).rs (Stab.go HB_a.out PDd_7.out).rp).mono ?_
  rw [← Ho.out]
  rintro e X_b ⟨⟨zs, zp, rfl, ow1, ow2, _⟩, hb⟩
  have zsR := hide ow1.reads
  have zsP := hide ow2.reads
  obtain ⟨zs1, zs2, zs3, rfl⟩ := ow1.isSlice
  obtain ⟨zp1, zp2, zp3, rfl⟩ := ow2.isSlice
  clear ow1 ow2
  have HB_b := hide (HB_a.out.trans (hb.mono HB_a.out.size))
  refine hK.out _ _ (HSS.out _ HB_b.out) (fun _ => ?_)
  clear hK K HS hb
  have HS := hide (HSS.out _ HB_b.out)
  refine wpAnyH_ready (rs := [5]) (by kernel_rfl) (by simp) ?_
  refine AllReadyH.cons (o := _) rfl (fun K hK => ?_) AllReadyH.nil
  go_simp
  refine (lwDisks_same _ _ _ _ o.t o.c o.xs o.ps _ (by rw [Ho.out]; exact (writeOut_len a tx HSD.out).1) (by rw [Ho.out]; exact (writeOut_len a tx HSD.out).2) (Stab.go HB_b.out POx_7.out).rs (Stab.go HB_b.out POx_7.out).rp zsR.out zsP.out (fun h => by rw [Ho.out] at h ⊢; obtain ⟨_, e2, e3⟩ := writeOut_right a tx h; rw [e2]; exact e3)).mono ?_
  rintro e X_c ⟨rfl, hb⟩
  have HB_c := hide (HB_b.out.trans (hb.mono HB_b.out.size))
  refine hK.out _ _ (HSS.out _ HB_c.out) (fun _ => ?_)
  clear hK K HS hb
  have HS := hide (HSS.out _ HB_c.out)
  refine wpAnyH_take (i := 6) (oi := _) (v := .bool false) rfl (by kernel_rfl) (by kernel_rfl) (by kernel_rfl) (fun _ _ _ h => h) (Or.inl ⟨by rfl, by intro w hSw; go_split_ands; go_simp⟩) HS.out ?_
  simp only [Act.put, List.getElem_toArray, List.getElem_cons_zero, List.getElem_cons_succ, List.setIfInBounds_toArray, List.set_cons_zero, List.set_cons_succ]
  refine wpAnyH_take (i := 7) (oi := _) (v := .bool false) rfl (by kernel_rfl) (by kernel_rfl) (by kernel_rfl) (fun _ _ _ h => h) (Or.inl ⟨by rfl, by intro w hSw; go_split_ands; go_simp⟩) HS.out ?_
  simp only [Act.put, List.getElem_toArray, List.getElem_cons_zero, List.getElem_cons_succ, List.setIfInBounds_toArray, List.set_cons_zero, List.set_cons_succ]
  refine wpAnyH_take (i := 8) (oi := _) (v := .agg #[.slice cs1 xc.length cs3, .slice cp1 qc.length cp3]) rfl (by kernel_rfl) (by kernel_rfl) (by kernel_rfl) (fun _ _ _ h => h) (Or.inl ⟨by rfl, by intro w hSw; go_split_ands; go_simp⟩) HS.out ?_
  simp only [Act.put, List.getElem_toArray, List.getElem_cons_zero, List.getElem_cons_succ, List.setIfInBounds_toArray, List.set_cons_zero, List.set_cons_succ]
  refine wpAnyH_take (i := 9) (oi := _) (v := .agg #[.slice es1 xe.length es3, .slice ep1 pe.length ep3]) rfl (by kernel_rfl) (by kernel_rfl) (by kernel_rfl) (fun _ _ _ h => h) (Or.inl ⟨by rfl, by intro w hSw; go_split_ands; go_simp⟩) HS.out ?_
  simp only [Act.put, List.getElem_toArray, List.getElem_cons_zero, List.getElem_cons_succ, List.setIfInBounds_toArray, List.set_cons_zero, List.set_cons_succ]
  refine wpAnyH_take (i := 10) (oi := _) (v := .slice u1 ks.length u3) rfl (by kernel_rfl) (by kernel_rfl) (by kernel_rfl) (fun _ _ _ h => h) (Or.inl ⟨by rfl, by intro w hSw; go_split_ands; go_simp⟩) HS.out ?_
  simp only [Act.put, List.getElem_toArray, List.getElem_cons_zero, List.getElem_cons_succ, List.setIfInBounds_toArray, List.set_cons_zero, List.set_cons_succ]
  refine wpAnyH_ready (rs := [11]) (by kernel_rfl) (by simp) ?_
  refine AllReadyH.cons (o := _) rfl (fun K hK => ?_) AllReadyH.nil
  go_simp
  refine (specCrash_any _ _ xe pe _ HSE.out.1 HSE.out.2.2.1 _ ks (Stab.go HB_c.out PDe_7.out).rs (Stab.go HB_c.out PDe_7.out).rp (Stab.go (P := fun x => ReadsI x (.slice u1 ks.length u3) ks) HB_c.out RIk_7.out)).mono ?_
  rw [← Hxc.out, ← Hqc.out]
  rintro e X_d ⟨⟨ss, sp, rfl, ow1, ow2, _⟩, hb⟩
  have ssR := hide ow1.reads
  have ssP := hide ow2.reads
  obtain ⟨ss1, ss2, ss3, rfl⟩ := ow1.isSlice
  obtain ⟨sp1, sp2, sp3, rfl⟩ := ow2.isSlice
  clear ow1 ow2
  have HB_d := hide (HB_c.out.trans (hb.mono HB_c.out.size))
  refine hK.out _ _ (HSS.out _ HB_d.out) (fun _ => ?_)
  clear hK K HS hb
  have HS := hide (HSS.out _ HB_d.out)
  refine wpAnyH_ready (rs := [12]) (by kernel_rfl) (by simp) ?_
  refine AllReadyH.cons (o := _) rfl (fun K hK => ?_) AllReadyH.nil
  go_simp
  refine (lwDisk_same _ _ _ _ xc qc _ (by rw [Hxc.out]; exact (crash_small ks HSE.out).1) (by rw [Hqc.out]; exact (crash_small ks HSE.out).2) (Stab.go HB_d.out PDc_7.out).rs (Stab.go HB_d.out PDc_7.out).rp ssR.out ssP.out).mono ?_
  rintro e X_e1 ⟨rfl, hb⟩
  have HB_e1 := hide (HB_d.out.trans (hb.mono HB_d.out.size))
  refine hK.out _ _ (HSS.out _ HB_e1.out) (fun _ => ?_)
  clear hK K HS hb
  have HS := hide (HSS.out _ HB_e1.out)
  refine wpAnyH_take (i := 13) (oi := _) (v := .bool false) rfl (by kernel_rfl) (by kernel_rfl) (by kernel_rfl) (fun _ _ _ h => h) (Or.inl ⟨by rfl, by intro w hSw; go_split_ands; go_simp⟩) HS.out ?_
  simp only [Act.put, List.getElem_toArray, List.getElem_cons_zero, List.getElem_cons_succ, List.setIfInBounds_toArray, List.set_cons_zero, List.set_cons_succ]
  refine wpAnyH_take (i := 14) (oi := _) (v := .bool false) rfl (by kernel_rfl) (by kernel_rfl) (by kernel_rfl) (fun _ _ _ h => h) (Or.inl ⟨by rfl, by intro w hSw; go_split_ands; go_simp⟩) HS.out ?_
  simp only [Act.put, List.getElem_toArray, List.getElem_cons_zero, List.getElem_cons_succ, List.setIfInBounds_toArray, List.set_cons_zero, List.set_cons_succ]
  refine wpAnyH_take (i := 15) (oi := _) (v := .bool false) rfl (by kernel_rfl) (by kernel_rfl) (by kernel_rfl) (fun _ _ _ h => h) (Or.inl ⟨by rfl, by intro w hSw; go_split_ands; go_simp⟩) HS.out ?_
  simp only [Act.put, List.getElem_toArray, List.getElem_cons_zero, List.getElem_cons_succ, List.setIfInBounds_toArray, List.set_cons_zero, List.set_cons_succ]
  refine wpAnyH_take (i := 16) (oi := _) (v := .agg #[.slice fs1 fs2 fs3, .slice fp1 fp2 fp3, .string f.t, .int .i64 f.c]) rfl (by kernel_rfl) (by kernel_rfl) (by kernel_rfl) (fun _ _ _ h => h) (Or.inl ⟨by rfl, by intro w hSw; go_split_ands; go_simp⟩) HS.out ?_
  simp only [Act.put, List.getElem_toArray, List.getElem_cons_zero, List.getElem_cons_succ, List.setIfInBounds_toArray, List.set_cons_zero, List.set_cons_succ]
  refine wpAnyH_take (i := 17) (oi := _) (v := .agg #[.slice es1 xe.length es3, .slice ep1 pe.length ep3]) rfl (by kernel_rfl) (by kernel_rfl) (by kernel_rfl) (fun _ _ _ h => h) (Or.inl ⟨by rfl, by intro w hSw; go_split_ands; go_simp⟩) HS.out ?_
  simp only [Act.put, List.getElem_toArray, List.getElem_cons_zero, List.getElem_cons_succ, List.setIfInBounds_toArray, List.set_cons_zero, List.set_cons_succ]
  refine wpAnyH_ready (rs := [18]) (by kernel_rfl) (by simp) ?_
  refine AllReadyH.cons (o := _) rfl (fun K hK => ?_) AllReadyH.nil
  go_simp
  refine (specFlush_any _ _ xe pe _ HSE.out.1 HSE.out.2.2.1 (Stab.go HB_e1.out PDe_7.out).rs (Stab.go HB_e1.out PDe_7.out).rp).mono ?_
  rw [← Hf.out]
  rintro e X_f1 ⟨⟨hs, hp, rfl, ow1, ow2, _⟩, hb⟩
  have hsR := hide ow1.reads
  have hsP := hide ow2.reads
  obtain ⟨hs1, hs2, hs3, rfl⟩ := ow1.isSlice
  obtain ⟨hp1, hp2, hp3, rfl⟩ := ow2.isSlice
  clear ow1 ow2
  have HB_f1 := hide (HB_e1.out.trans (hb.mono HB_e1.out.size))
  refine hK.out _ _ (HSS.out _ HB_f1.out) (fun _ => ?_)
  clear hK K HS hb
  have HS := hide (HSS.out _ HB_f1.out)
  refine wpAnyH_ready (rs := [19]) (by kernel_rfl) (by simp) ?_
  refine AllReadyH.cons (o := _) rfl (fun K hK => ?_) AllReadyH.nil
  go_simp
  refine (lwDisks_same _ _ _ _ f.t f.c f.xs f.ps _ (by rw [Hf.out]; exact (flushOut_len HSE.out).1) (by rw [Hf.out]; exact (flushOut_len HSE.out).2) (Stab.go HB_f1.out POf_7.out).rs (Stab.go HB_f1.out POf_7.out).rp hsR.out hsP.out (fun h => by rw [Hf.out] at h ⊢; exact (flushOut_right h).2)).mono ?_
  rintro e X_g1 ⟨rfl, hb⟩
  have HB_g1 := hide (HB_f1.out.trans (hb.mono HB_f1.out.size))
  refine hK.out _ _ (HSS.out _ HB_g1.out) (fun _ => ?_)
  clear hK K HS hb
  have HS := hide (HSS.out _ HB_g1.out)
  as_aux_lemma =>
    refine wpAnyH_take (i := 20) (oi := _) (v := .bool false) rfl (by kernel_rfl) (by kernel_rfl) (by kernel_rfl) (fun _ _ _ h => h) (Or.inl ⟨by rfl, by intro w hSw; go_split_ands; go_simp⟩) HS.out ?_
    simp only [Act.put, List.getElem_toArray, List.getElem_cons_zero, List.getElem_cons_succ, List.setIfInBounds_toArray, List.set_cons_zero, List.set_cons_succ]
    refine wpAnyH_take (i := 21) (oi := _) (v := .bool false) rfl (by kernel_rfl) (by kernel_rfl) (by kernel_rfl) (fun _ _ _ h => h) (Or.inl ⟨by rfl, by intro w hSw; go_split_ands; go_simp⟩) HS.out ?_
    simp only [Act.put, List.getElem_toArray, List.getElem_cons_zero, List.getElem_cons_succ, List.setIfInBounds_toArray, List.set_cons_zero, List.set_cons_succ]
    refine wpAnyH_take (i := 22) (oi := _) (v := .bool false) rfl (by kernel_rfl) (by kernel_rfl) (by kernel_rfl) (fun _ _ _ h => h) (Or.inl ⟨by rfl, by intro w hSw; go_split_ands; go_simp⟩) HS.out ?_
    simp only [Act.put, List.getElem_toArray, List.getElem_cons_zero, List.getElem_cons_succ, List.setIfInBounds_toArray, List.set_cons_zero, List.set_cons_succ]
    refine wpAnyH_take (i := 23) (oi := _) (v := .int .i64 nn) rfl (by kernel_rfl) (by kernel_rfl) (by kernel_rfl) (fun _ _ _ h => h) (Or.inl ⟨by rfl, by intro w hSw; go_split_ands; go_simp⟩) HS.out ?_
    simp only [Act.put, List.getElem_toArray, List.getElem_cons_zero, List.getElem_cons_succ, List.setIfInBounds_toArray, List.set_cons_zero, List.set_cons_succ]
    refine wpAnyH_take (i := 25) (oi := _) (v := .int .i64 nn) rfl (by kernel_rfl) (by kernel_rfl) (by kernel_rfl) (fun _ _ _ h => h) (Or.inl ⟨by rfl, by intro w hSw; go_split_ands; go_simp⟩) HS.out ?_
    simp only [Act.put, List.getElem_toArray, List.getElem_cons_zero, List.getElem_cons_succ, List.setIfInBounds_toArray, List.set_cons_zero, List.set_cons_succ]
    refine wpAnyH_ready (rs := [24]) (by kernel_rfl) (by simp) ?_
    refine AllReadyH.cons (o := _) rfl (fun K hK => ?_) AllReadyH.nil
    go_simp
    refine (implNew_any nn _).mono ?_
    rintro e X_h1 ⟨⟨ns, np, rfl, ow1, ow2, _⟩, hb⟩
    have nsR := hide ow1.reads
    have nsP := hide ow2.reads
    obtain ⟨ns1, ns2, ns3, rfl⟩ := ow1.isSlice
    obtain ⟨np1, np2, np3, rfl⟩ := ow2.isSlice
    clear ow1 ow2
    have HB_h1 := hide (HB_g1.out.trans (hb.mono HB_g1.out.size))
    refine hK.out _ _ (HSS.out _ HB_h1.out) (fun _ => ?_)
    clear hK K HS hb
    have HS := hide (HSS.out _ HB_h1.out)
    refine wpAnyH_ready (rs := [26]) (by kernel_rfl) (by simp) ?_
    refine AllReadyH.cons (o := _) rfl (fun K hK => ?_) AllReadyH.nil
    go_simp
    refine (specNew_any nn _).mono ?_
    rintro e X_i1 ⟨⟨ms, mp, rfl, ow1, ow2, _⟩, hb⟩
    have msR := hide ow1.reads
    have msP := hide ow2.reads
    obtain ⟨ms1, ms2, ms3, rfl⟩ := ow1.isSlice
    obtain ⟨mp1, mp2, mp3, rfl⟩ := ow2.isSlice
    clear ow1 ow2
    have HB_i1 := hide (HB_h1.out.trans (hb.mono HB_h1.out.size))
    have hbi := hide hb
    refine hK.out _ _ (HSS.out _ HB_i1.out) (fun _ => ?_)
    clear hK K HS hb
    have HS := hide (HSS.out _ HB_i1.out)
    refine wpAnyH_ready (rs := [27]) (by kernel_rfl) (by simp) ?_
    refine AllReadyH.cons (o := _) rfl (fun K hK => ?_) AllReadyH.nil
    go_simp
    refine (lwDisk_same _ _ _ _ (newDisk nn) [] _ (by have := newDisk_len nn; omega) (by simp) (nsR.out.below hbi.out (Nat.le_refl _)) (nsP.out.below hbi.out (Nat.le_refl _)) msR.out msP.out).mono ?_
    rintro e X_j1 ⟨rfl, hb⟩
    have HB_j1 := hide (HB_i1.out.trans (hb.mono HB_i1.out.size))
    refine hK.out _ _ (HSS.out _ HB_j1.out) (fun _ => ?_)
    clear hK K HS hb
    have HS := hide (HSS.out _ HB_j1.out)
    refine wpAnyH_take (i := 28) (oi := _) (v := .bool false) rfl (by kernel_rfl) (by kernel_rfl) (by kernel_rfl) (fun _ _ _ h => h) (Or.inl ⟨by rfl, by intro w hSw; go_split_ands; go_simp⟩) HS.out ?_
    simp only [Act.put, List.getElem_toArray, List.getElem_cons_zero, List.getElem_cons_succ, List.setIfInBounds_toArray, List.set_cons_zero, List.set_cons_succ]
    refine wpAnyH_take (i := 29) (oi := _) (v := .bool false) rfl (by kernel_rfl) (by kernel_rfl) (by kernel_rfl) (fun _ _ _ h => h) (Or.inl ⟨by rfl, by intro w hSw; go_split_ands; go_simp⟩) HS.out ?_
    simp only [Act.put, List.getElem_toArray, List.getElem_cons_zero, List.getElem_cons_succ, List.setIfInBounds_toArray, List.set_cons_zero, List.set_cons_succ]
    refine wpAnyH_take (i := 30) (oi := _) (v := .bool false) rfl (by kernel_rfl) (by kernel_rfl) (by kernel_rfl) (fun _ _ _ h => h) (Or.inl ⟨by rfl, by intro w hSw; go_split_ands; go_simp⟩) HS.out ?_
    simp only [Act.put, List.getElem_toArray, List.getElem_cons_zero, List.getElem_cons_succ, List.setIfInBounds_toArray, List.set_cons_zero, List.set_cons_succ]
    refine wpAnyH_take (i := 31) (oi := _) (v := .agg #[.slice gs1 gs2 gs3, .slice gp1 gp2 gp3]) rfl (by kernel_rfl) (by kernel_rfl) (by kernel_rfl) (fun _ _ _ h => h) (Or.inl ⟨by rfl, by intro w hSw; go_split_ands; go_simp⟩) HS.out ?_
    simp only [Act.put, List.getElem_toArray, List.getElem_cons_zero, List.getElem_cons_succ, List.setIfInBounds_toArray, List.set_cons_zero, List.set_cons_succ]
    refine wpAnyH_take (i := 32) (oi := _) (v := .int .i64 kk) rfl (by kernel_rfl) (by kernel_rfl) (by kernel_rfl) (fun _ _ _ h => h) (Or.inl ⟨by rfl, by intro w hSw; go_split_ands; go_simp⟩) HS.out ?_
    simp only [Act.put, List.getElem_toArray, List.getElem_cons_zero, List.getElem_cons_succ, List.setIfInBounds_toArray, List.set_cons_zero, List.set_cons_succ]
    refine wpAnyH_take (i := 34) (oi := _) (v := .agg #[.slice gs1 gs2 gs3, .slice gp1 gp2 gp3]) rfl (by kernel_rfl) (by kernel_rfl) (by kernel_rfl) (fun _ _ _ h => h) (Or.inl ⟨by rfl, by intro w hSw; go_split_ands; go_simp⟩) HS.out ?_
    simp only [Act.put, List.getElem_toArray, List.getElem_cons_zero, List.getElem_cons_succ, List.setIfInBounds_toArray, List.set_cons_zero, List.set_cons_succ]
    refine wpAnyH_take (i := 35) (oi := _) (v := .int .i64 kk) rfl (by kernel_rfl) (by kernel_rfl) (by kernel_rfl) (fun _ _ _ h => h) (Or.inl ⟨by rfl, by intro w hSw; go_split_ands; go_simp⟩) HS.out ?_
    simp only [Act.put, List.getElem_toArray, List.getElem_cons_zero, List.getElem_cons_succ, List.setIfInBounds_toArray, List.set_cons_zero, List.set_cons_succ]
    obtain ⟨rg, Hrg⟩ : ∃ o, Hid (o = readOut xg pg kk) := ⟨_, rfl⟩
    refine wpAnyH_ready (rs := [33]) (by kernel_rfl) (by simp) ?_
    refine AllReadyH.cons (o := _) rfl (fun K hK => ?_) AllReadyH.nil
    go_simp
    refine (implRead_any _ _ xg pg kk aF aR aU _ HSG.out.1 HSG.out.2.2.1 (Stab.go HB_j1.out PDg_7.out).rs (Stab.go HB_j1.out PDg_7.out).rp (Stab.go HB_j1.out SE_7.out)).mono ?_
    rw [← Hrg.out]
    rintro e X_k1 ⟨⟨is, ip, rfl, ow1, ow2, _⟩, hb⟩
    have isR := hide ow1.reads
    have isP := hide ow2.reads
    obtain ⟨is1, is2, is3, rfl⟩ := ow1.isSlice
    obtain ⟨ip1, ip2, ip3, rfl⟩ := ow2.isSlice
    clear ow1 ow2
    have HB_k1 := hide (HB_j1.out.trans (hb.mono HB_j1.out.size))
    refine hK.out _ _ (HSS.out _ HB_k1.out) (fun _ => ?_)
    clear hK K HS hb
    have HS := hide (HSS.out _ HB_k1.out)
    refine wpAnyH_ready (rs := [36]) (by kernel_rfl) (by simp) ?_
    refine AllReadyH.cons (o := _) rfl (fun K hK => ?_) AllReadyH.nil
    go_simp
    refine (specRead_any _ _ xg pg kk _ HSG.out.1 HSG.out.2.2.1 (Stab.go HB_k1.out PDg_7.out).rs (Stab.go HB_k1.out PDg_7.out).rp).mono ?_
    rw [← Hrg.out]
    rintro e X_l1 ⟨⟨js, jp, rfl, ow1, ow2, _⟩, hb⟩
    have jsR := hide ow1.reads
    have jsP := hide ow2.reads
    obtain ⟨js1, js2, js3, rfl⟩ := ow1.isSlice
    obtain ⟨jp1, jp2, jp3, rfl⟩ := ow2.isSlice
    clear ow1 ow2
    have HB_l1 := hide (HB_k1.out.trans (hb.mono HB_k1.out.size))
    have hbl := hide hb
    refine hK.out _ _ (HSS.out _ HB_l1.out) (fun _ => ?_)
    clear hK K HS hb
    have HS := hide (HSS.out _ HB_l1.out)
    refine wpAnyH_ready (rs := [37]) (by kernel_rfl) (by simp) ?_
    refine AllReadyH.cons (o := _) rfl (fun K hK => ?_) AllReadyH.nil
    go_simp
    refine (lwDisks_same _ _ _ _ rg.t rg.c rg.xs rg.ps _ (by rw [Hrg.out]; exact (readOut_len kk HSG.out).1) (by rw [Hrg.out]; exact (readOut_len kk HSG.out).2) (isR.out.below hbl.out (Nat.le_refl _)) (isP.out.below hbl.out (Nat.le_refl _)) jsR.out jsP.out (fun h => by rw [Hrg.out] at h ⊢; exact readOut_right kk h)).mono ?_
    rintro e X_m1 ⟨rfl, hb⟩
    have HB_m1 := hide (HB_l1.out.trans (hb.mono HB_l1.out.size))
    refine hK.out _ _ (HSS.out _ HB_m1.out) (fun _ => ?_)
    clear hK K HS hb
    have HS := hide (HSS.out _ HB_m1.out)
    as_aux_lemma =>
      refine wpAnyH_take (i := 38) (oi := _) (v := .bool false) rfl (by kernel_rfl) (by kernel_rfl) (by kernel_rfl) (fun _ _ _ h => h) (Or.inl ⟨by rfl, by intro w hSw; go_split_ands; go_simp⟩) HS.out ?_
      simp only [Act.put, List.getElem_toArray, List.getElem_cons_zero, List.getElem_cons_succ, List.setIfInBounds_toArray, List.set_cons_zero, List.set_cons_succ]
      refine wpAnyH_take (i := 39) (oi := _) (v := .bool false) rfl (by kernel_rfl) (by kernel_rfl) (by kernel_rfl) (fun _ _ _ h => h) (Or.inl ⟨by rfl, by intro w hSw; go_split_ands; go_simp⟩) HS.out ?_
      simp only [Act.put, List.getElem_toArray, List.getElem_cons_zero, List.getElem_cons_succ, List.setIfInBounds_toArray, List.set_cons_zero, List.set_cons_succ]
      refine wpAnyH_take (i := 40) (oi := _) (v := .bool false) rfl (by kernel_rfl) (by kernel_rfl) (by kernel_rfl) (fun _ _ _ h => h) (Or.inl ⟨by rfl, by intro w hSw; go_split_ands; go_simp⟩) HS.out ?_
      simp only [Act.put, List.getElem_toArray, List.getElem_cons_zero, List.getElem_cons_succ, List.setIfInBounds_toArray, List.set_cons_zero, List.set_cons_succ]
      refine wpAnyH_take (i := 41) (oi := _) (v := .agg #[.slice es1 xe.length es3, .slice ep1 pe.length ep3]) rfl (by kernel_rfl) (by kernel_rfl) (by kernel_rfl) (fun _ _ _ h => h) (Or.inl ⟨by rfl, by intro w hSw; go_split_ands; go_simp⟩) HS.out ?_
      simp only [Act.put, List.getElem_toArray, List.getElem_cons_zero, List.getElem_cons_succ, List.setIfInBounds_toArray, List.set_cons_zero, List.set_cons_succ]
      refine wpAnyH_take (i := 43) (oi := _) (v := .agg #[.slice es1 xe.length es3, .slice ep1 pe.length ep3]) rfl (by kernel_rfl) (by kernel_rfl) (by kernel_rfl) (fun _ _ _ h => h) (Or.inl ⟨by rfl, by intro w hSw; go_split_ands; go_simp⟩) HS.out ?_
      simp only [Act.put, List.getElem_toArray, List.getElem_cons_zero, List.getElem_cons_succ, List.setIfInBounds_toArray, List.set_cons_zero, List.set_cons_succ]
      refine wpAnyH_ready (rs := [42]) (by kernel_rfl) (by simp) ?_
      refine AllReadyH.cons (o := _) rfl (fun K hK => ?_) AllReadyH.nil
      go_simp
      refine (implRight_any _ _ xe pe _ _ _ _ _ HSE.out.1 HSE.out.2.2.1 (Stab.go HB_m1.out PDe_7.out).rs (Stab.go HB_m1.out PDe_7.out).rp (Stab.go HB_m1.out SE_7.out).1.1 (Stab.go HB_m1.out SE_7.out).1.2).mono ?_
      rintro e X_n1 ⟨rfl, hb⟩
      have HB_n1 := hide (HB_m1.out.trans (hb.mono HB_m1.out.size))
      refine hK.out _ _ (HSS.out _ HB_n1.out) (fun _ => ?_)
      clear hK K HS hb
      have HS := hide (HSS.out _ HB_n1.out)
      refine wpAnyH_ready (rs := [44]) (by kernel_rfl) (by simp) ?_
      refine AllReadyH.cons (o := _) rfl (fun K hK => ?_) AllReadyH.nil
      go_simp
      refine (specRight_any _ _ xe pe _ HSE.out.1 HSE.out.2.2.1 (Stab.go HB_n1.out PDe_7.out).rs (Stab.go HB_n1.out PDe_7.out).rp).mono ?_
      rintro e X_o1 ⟨rfl, hb⟩
      have HB_o1 := hide (HB_n1.out.trans (hb.mono HB_n1.out.size))
      refine hK.out _ _ (HSS.out _ HB_o1.out) (fun _ => ?_)
      clear hK K HS hb
      have HS := hide (HSS.out _ HB_o1.out)
      have hbq : (right xe pe != right xe pe) = false := by simp
      refine wpAnyH_take (i := 45) (oi := _) (v := .bool false) rfl (by kernel_rfl) (by kernel_rfl) (by kernel_rfl) (fun _ _ _ h => h) (Or.inl ⟨by rfl, by intro w hSw; go_split_ands; go_simp⟩) HS.out ?_
      simp only [Act.put, List.getElem_toArray, List.getElem_cons_zero, List.getElem_cons_succ, List.setIfInBounds_toArray, List.set_cons_zero, List.set_cons_succ]
      refine wpAnyH_take (i := 46) (oi := _) (v := .bool false) rfl (by kernel_rfl) (by kernel_rfl) (by kernel_rfl) (fun _ _ _ h => h) (Or.inl ⟨by rfl, by intro w hSw; go_split_ands; go_simp⟩) HS.out ?_
      simp only [Act.put, List.getElem_toArray, List.getElem_cons_zero, List.getElem_cons_succ, List.setIfInBounds_toArray, List.set_cons_zero, List.set_cons_succ]
      refine wpAnyH_done (by kernel_rfl) ?_ _
      clear hbq
      have PDX := HB_o1.out
      have SE_8 := hide (Stab.go HB_o1.out SE_7.out)
      have BB_8 := hide (Stab.go (P := fun x => Below w.heap.size w x) HB_o1.out BB_7.out)
      have PDd_8 := hide (Stab.go HB_o1.out PDd_7.out)
      have POx_8 := hide (Stab.go HB_o1.out POx_7.out)
      have PDe_8 := hide (Stab.go HB_o1.out PDe_7.out)
      have RIk_8 := hide (Stab.go (P := fun x => ReadsI x (.slice u1 ks.length u3) ks) HB_o1.out RIk_7.out)
      have PDc_8 := hide (Stab.go HB_o1.out PDc_7.out)
      have POf_8 := hide (Stab.go HB_o1.out POf_7.out)
      clear PDX HSS HS HB_a HB_b HB_c HB_d HB_e1 HB_f1 HB_g1 HB_h1 HB_i1 HB_j1 HB_k1 HB_l1 HB_m1 HB_n1
      clear SE_7 BB_7 PDd_7 POx_7 PDe_7 RIk_7 PDc_7 POf_7 PDg_7 HSG Hrg zsR zsP ssR ssP hsR hsP nsR nsP msR msP isR isP jsR jsP hbi hbl
      obtain ⟨W8, hW8⟩ : ∃ W, W = X_o1 := ⟨_, rfl⟩
      rw [← hW8] at SE_8 BB_8 PDd_8 POx_8 PDe_8 RIk_8 PDc_8 POf_8 ⊢
      clear hW8 HB_o1
      have hxl := HSD.out.1
      have hel := HSE.out.1
      have hpl := HSE.out.2.2.1
      as_aux_lemma =>
        have z3 : W8.cell? ⟨b8, 3, none⟩ = some (.int .i64 o.c) := POx_8.out.row.cell 3
        have hfd := Tryd.fieldData
        by_cases hxo : o.c = 0
        · have hxe : (o.c == 0) = true := by rw [hxo]; rfl
          have HWR := hide (writeOut_right (xs := xs) (ps := ps) a tx (by rw [← Ho.out]; exact hxo))
          have HOX := hide (show o.xs = xs ∧ o.ps = ps ++ [(a, tx)] by rw [Ho.out, HWR.out.2.1]; exact ⟨rfl, rfl⟩)
          have HLN := hide (right_len HWR.out.2.2)
          clear hxo
          go_wp2_with fail
          go_loopw [16] (fun i wr => ∃ k : Nat, k ≤ xs.length ∧ i = .int .i64 k ∧ Hid (Below W8.heap.size W8 wr)) (fun i _ => xs.length - (intOf i).toNat)
          case atStart => exact ⟨0, Nat.zero_le _, rfl, Below.refl _ _⟩
          case round =>
            obtain ⟨i, hi, rfl, HBr⟩ := hrel
            have PDd_r := hide (Stab.go HBr.out PDd_8.out)
            have POx_r := hide (Stab.go HBr.out POx_8.out)
            have SE_r := hide (Stab.go HBr.out SE_8.out)
            have q5 : wr.cell? ⟨b5, 0, none⟩ = some (.slice us1 xs.length us3) := PDd_r.out.row.cell 0
            have q6 : wr.cell? ⟨b5, 1, none⟩ = some (.slice up1 ps.length up3) := PDd_r.out.row.cell 1
            by_cases hlt : i < xs.length
            · have hil : (i : Int) < (xs.length : Int) := by omega
              obtain ⟨T, HT⟩ : ∃ T, Hid (T = lastAt i ps (xs.getD i ⟨#[]⟩)) := ⟨_, rfl⟩
              have HRB := hide (show readOut xs ps i = ⟨xs, ps, T, 0⟩ by rw [readOut_at HWR.out.1 i hlt, HT.out])
              have HRA := hide (show readOut xs (ps ++ [(a, tx)]) i = ⟨xs, ps ++ [(a, tx)], if a = i then tx else T, 0⟩ by rw [readOut_at HWR.out.2.2 i hlt, lastAt_push, HT.out])
              go_wp2_with fail
              refine (specRead_any _ _ xs ps i _ HSD.out.1 HSD.out.2.2.1 PDd_r.out.rs PDd_r.out.rp).mono ?_
              rw [HRB.out]
              rintro e x1 ⟨⟨is, ip, rfl, ow1, ow2, _⟩, hb⟩
              obtain ⟨is1, is2, is3, rfl⟩ := ow1.isSlice
              obtain ⟨ip1, ip2, ip3, rfl⟩ := ow2.isSlice
              have HB1 := hide (HBr.out.trans (hb.mono HBr.out.size))
              have POx_s := hide (Stab.go hb POx_r.out)
              have SE_s := hide (Stab.go hb SE_r.out)
              have q8 : x1.cell? ⟨b8, 0, none⟩ = some (.slice ys1 ys2 ys3) := POx_s.out.row.cell 0
              have q9 : x1.cell? ⟨b8, 1, none⟩ = some (.slice yp1 yp2 yp3) := POx_s.out.row.cell 1
              clear ow1 ow2 hb q5 q6
              by_cases hia : (i : Int) = a
              · have hie : ((i : Int) == a) = true := by simpa using hia
                have HRA2 := hide (show readOut xs (ps ++ [(a, tx)]) i = ⟨xs, ps ++ [(a, tx)], tx, 0⟩ by rw [HRA.out, if_pos hia.symm])
                clear hia
                go_wp2_with fail
                refine (implRead_any _ _ xs (ps ++ [(a, tx)]) i aF aR aU _ HSD.out.1 (by have := HLN.out; omega) (by rw [← HOX.out.1]; exact POx_s.out.rs) (by rw [← HOX.out.2]; exact POx_s.out.rp) SE_s.out).mono ?_
                rw [HRA2.out]
                rintro e x2 ⟨⟨js, jp, rfl, ow1, ow2, _⟩, hb⟩
                obtain ⟨js1, js2, js3, rfl⟩ := ow1.isSlice
                obtain ⟨jp1, jp2, jp3, rfl⟩ := ow2.isSlice
                have HB2 := hide (HB1.out.trans (hb.mono HB1.out.size))
                clear ow1 ow2 hb
                go_wp2
                go_roundw
                case rel => exact ⟨i + 1, by omega, by go_num, HB2⟩
                case measure => simp [intOf]; omega
              · have hie : ((i : Int) == a) = false := by simpa using hia
                have HRA2 := hide (show readOut xs (ps ++ [(a, tx)]) i = ⟨xs, ps ++ [(a, tx)], T, 0⟩ by rw [HRA.out, if_neg (fun h => hia h.symm)])
                clear hia
                go_wp2_with fail
                refine (implRead_any _ _ xs (ps ++ [(a, tx)]) i aF aR aU _ HSD.out.1 (by have := HLN.out; omega) (by rw [← HOX.out.1]; exact POx_s.out.rs) (by rw [← HOX.out.2]; exact POx_s.out.rp) SE_s.out).mono ?_
                rw [HRA2.out]
                rintro e x2 ⟨⟨js, jp, rfl, ow1, ow2, _⟩, hb⟩
                obtain ⟨js1, js2, js3, rfl⟩ := ow1.isSlice
                obtain ⟨jp1, jp2, jp3, rfl⟩ := ow2.isSlice
                have HB2 := hide (HB1.out.trans (hb.mono HB1.out.size))
                clear ow1 ow2 hb
                go_wp2
                go_roundw
                case rel => exact ⟨i + 1, by omega, by go_num, HB2⟩
                case measure => simp [intOf]; omega
            · have hil : ¬ (i : Int) < (xs.length : Int) := by omega
              clear q6
              have hcb := HBr.out
              have SE_c := hide (Stab.go hcb SE_8.out)
              have BB_c := hide (Stab.go (P := fun x => Below w.heap.size w x) hcb BB_8.out)
              have PDe_c := hide (Stab.go hcb PDe_8.out)
              have RIk_c := hide (Stab.go (P := fun x => ReadsI x (.slice u1 ks.length u3) ks) hcb RIk_8.out)
              have PDc_c := hide (Stab.go hcb PDc_8.out)
              have POf_c := hide (Stab.go hcb POf_8.out)
              clear hcb
              have y3 : wr.cell? ⟨b12, 3, none⟩ = some (.int .i64 f.c) := POf_c.out.row.cell 3
              by_cases hfc : f.c = 0
              · have hfe : (f.c != 0) = false := by rw [hfc]; rfl
                have HRT := hide (show right xe pe = true from (flushOut_right (xs := xe) (ps := pe) (by rw [← Hf.out]; exact hfc)).1)
                have HFE := hide (show f.xs = applyP pe xe ∧ f.ps = [] by rw [Hf.out]; unfold flushOut; rw [if_pos HRT.out]; exact ⟨rfl, rfl⟩)
                have y0 : wr.cell? ⟨b12, 0, none⟩ = some (.slice fs1 fs2 fs3) := POf_c.out.row.cell 0
                have y1 : wr.cell? ⟨b12, 1, none⟩ = some (.slice fp1 fp2 fp3) := POf_c.out.row.cell 1
                clear hfc
                go_wp2_with fail
                refine (implCrash_any _ _ _ (applyP pe xe) [] ks _ _ _ _ _ (by rw [← HFE.out.1]; exact POf_c.out.rs) (by rw [← HFE.out.2]; exact POf_c.out.rp) RIk_c.out (small_of_right (rightFlush HRT.out)) SE_c.out.1.1 SE_c.out.1.2).mono ?_
                rw [(crash_none (rightFlush HRT.out) hks).1, (crash_none (rightFlush HRT.out) hks).2]
                rintro e w9 ⟨⟨hs, hp, rfl, ow1, ow2, _⟩, hb⟩
                have o1 := ow1.reads
                have o2 := ow2.reads
                obtain ⟨hs1, hs2, hs3, rfl⟩ := ow1.isSlice
                obtain ⟨hp1, hp2, hp3, rfl⟩ := ow2.isSlice
                have bn := below_new w9 (.cells #[.slice hs1 hs2 hs3, .slice hp1 hp2 hp3] 26)
                have hb3 := hb.trans (bn.mono hb.size)
                obtain ⟨b18, hb18⟩ : ∃ b, b = w9.heap.size := ⟨_, rfl⟩
                obtain ⟨W9, hW9⟩ : ∃ W, W = w9.alloc (.cells #[.slice hs1 hs2 hs3, .slice hp1 hp2 hp3] 26) := ⟨_, rfl⟩
                rw [← hW9] at hb3
                have PDh_9 := hide (show PD b18 (.slice hs1 hs2 hs3) (.slice hp1 hp2 hp3) (applyP pe xe) [] W9 from ⟨by rw [hW9, hb18]; exact row_new w9 _ _, by rw [hW9]; exact o1.below bn (Nat.le_refl _), by rw [hW9]; exact o2.below bn (Nat.le_refl _)⟩)
                have SE_9 := hide (Stab.go hb3 SE_c.out)
                have BB_9 := hide (Stab.go (P := fun x => Below w.heap.size w x) hb3 BB_c.out)
                have PDe_9 := hide (Stab.go hb3 PDe_c.out)
                have RIk_9 := hide (Stab.go (P := fun x => ReadsI x (.slice u1 ks.length u3) ks) hb3 RIk_c.out)
                have PDc_9 := hide (Stab.go hb3 PDc_c.out)
                have POf_9 := hide (Stab.go hb3 POf_c.out)
                clear SE_c BB_c PDe_c RIk_c PDc_c POf_c
                clear ow1 ow2 o1 o2 hb bn hb3 y0 y1 y3 hfe
                go_wp2_with fail
                rw [← hW9, ← hb18]
                clear hW9 hb18
                have HXL := hide (show xc.length = xe.length ∧ qc = [] by rw [Hxc.out, Hqc.out]; exact crash_len HRT.out hks)
                have HLE := hide (right_len HRT.out)
                go_loopw [19] (fun i wr => ∃ k : Nat, k ≤ xe.length ∧ i = .int .i64 k ∧ Hid (Below W9.heap.size W9 wr)) (fun i _ => xe.length - (intOf i).toNat)
                case atStart => exact ⟨0, Nat.zero_le _, rfl, Below.refl _ _⟩
                case round =>
                  obtain ⟨i, hi, rfl, HBr⟩ := hrel
                  have SE_r := hide (Stab.go HBr.out SE_9.out)
                  have BB_r := hide (Stab.go (P := fun x => Below w.heap.size w x) HBr.out BB_9.out)
                  have PDe_r := hide (Stab.go HBr.out PDe_9.out)
                  have RIk_r := hide (Stab.go (P := fun x => ReadsI x (.slice u1 ks.length u3) ks) HBr.out RIk_9.out)
                  have PDc_r := hide (Stab.go HBr.out PDc_9.out)
                  have POf_r := hide (Stab.go HBr.out POf_9.out)
                  have PDh_r := hide (Stab.go HBr.out PDh_9.out)
                  have q9 : wr.cell? ⟨b9, 0, none⟩ = some (.slice es1 xe.length es3) := PDe_r.out.row.cell 0
                  by_cases hlt : i < xe.length
                  · have hil : (i : Int) < (xe.length : Int) := by omega
                    obtain ⟨T, HT⟩ : ∃ T, Hid (T = lastAt i pe (xe.getD i ⟨#[]⟩)) := ⟨_, rfl⟩
                    have HRB := hide (show readOut xe pe i = ⟨xe, pe, T, 0⟩ by rw [readOut_at HRT.out i hlt, HT.out])
                    have HRA := hide (show readOut (applyP pe xe) [] i = ⟨applyP pe xe, [], T, 0⟩ by
                      have h1 := flush_read HRT.out i hlt
                      rw [HRB.out] at h1
                      rw [readOut_at (rightFlush HRT.out) i (by rw [applyP_lenS]; exact hlt)] at h1 ⊢
                      simp only at h1
                      rw [h1])
                    have HSS := hide (show ∀ x, Below wr.heap.size wr x → x.cell? ⟨b12, 0, none⟩ = some (.slice fs1 fs2 fs3) ∧ x.cell? ⟨b12, 1, none⟩ = some (.slice fp1 fp2 fp3) ∧ x.cell? ⟨b9, 0, none⟩ = some (.slice es1 xe.length es3) ∧ x.cell? ⟨b9, 1, none⟩ = some (.slice ep1 pe.length ep3) ∧ x.cell? ⟨b18, 0, none⟩ = some (.slice hs1 hs2 hs3) ∧ x.cell? ⟨b18, 1, none⟩ = some (.slice hp1 hp2 hp3) from fun x h => ⟨(Row.after h POf_r.out.row).cell 0, (Row.after h POf_r.out.row).cell 1, (Row.after h PDe_r.out.row).cell 0, (Row.after h PDe_r.out.row).cell 1, (Row.after h PDh_r.out.row).cell 0, (Row.after h PDh_r.out.row).cell 1⟩)
                    have hfd := Tryd.fieldData
                    have HSF := hide (show (applyP pe xe).length ≤ 1048576 by rw [applyP_lenS]; exact HSE.out.1)
                    go_wp2_with fail
                    clear q9
                    refine wp_region_held (S := fun x : World => x.cell? ⟨b12, 0, none⟩ = some (.slice fs1 fs2 fs3) ∧ x.cell? ⟨b12, 1, none⟩ = some (.slice fp1 fp2 fp3) ∧ x.cell? ⟨b9, 0, none⟩ = some (.slice es1 xe.length es3) ∧ x.cell? ⟨b9, 1, none⟩ = some (.slice ep1 pe.length ep3) ∧ x.cell? ⟨b18, 0, none⟩ = some (.slice hs1 hs2 hs3) ∧ x.cell? ⟨b18, 1, none⟩ = some (.slice hp1 hp2 hp3)) (by kernel_rfl) ?_
                    have HB_a := hide (show Below wr.heap.size wr { wr with drawn := wr.drawn + 1 } from (Below.refl _ _).drew)
                    have HS := hide (HSS.out _ HB_a.out)
                    refine wpAnyH_take (i := 0) (oi := _) (v := .pointer (some ⟨b12, 0, none⟩)) rfl (by kernel_rfl) (by kernel_rfl) (by kernel_rfl) (fun _ _ _ h => h) (Or.inl ⟨by rfl, by intro w hSw; go_split_ands; go_simp⟩) HS.out ?_
                    simp only [Act.put, List.getElem_toArray, List.getElem_cons_zero, List.setIfInBounds_toArray, List.set_cons_zero, List.set_cons_succ]
                    refine wpAnyH_take (i := 1) (oi := _) (v := .agg #[.slice fs1 fs2 fs3, .slice fp1 fp2 fp3]) rfl (by kernel_rfl) (by kernel_rfl) (by kernel_rfl) (fun _ _ _ h => h) (Or.inl ⟨by rfl, by intro w hSw; go_split_ands; go_simp⟩) HS.out ?_
                    simp only [Act.put, List.getElem_toArray, List.getElem_cons_zero, List.getElem_cons_succ, List.setIfInBounds_toArray, List.set_cons_zero, List.set_cons_succ]
                    refine wpAnyH_take (i := 2) (oi := _) (v := .int .i64 (i : Int)) rfl (by kernel_rfl) (by kernel_rfl) (by kernel_rfl) (fun _ _ _ h => h) (Or.inl ⟨by rfl, by intro w hSw; go_split_ands; go_simp⟩) HS.out ?_
                    simp only [Act.put, List.getElem_toArray, List.getElem_cons_zero, List.getElem_cons_succ, List.setIfInBounds_toArray, List.set_cons_zero, List.set_cons_succ]
                    refine wpAnyH_take (i := 5) (oi := _) (v := .agg #[.slice es1 xe.length es3, .slice ep1 pe.length ep3]) rfl (by kernel_rfl) (by kernel_rfl) (by kernel_rfl) (fun _ _ _ h => h) (Or.inl ⟨by rfl, by intro w hSw; go_split_ands; go_simp⟩) HS.out ?_
                    simp only [Act.put, List.getElem_toArray, List.getElem_cons_zero, List.getElem_cons_succ, List.setIfInBounds_toArray, List.set_cons_zero, List.set_cons_succ]
                    refine wpAnyH_take (i := 6) (oi := _) (v := .int .i64 (i : Int)) rfl (by kernel_rfl) (by kernel_rfl) (by kernel_rfl) (fun _ _ _ h => h) (Or.inl ⟨by rfl, by intro w hSw; go_split_ands; go_simp⟩) HS.out ?_
                    simp only [Act.put, List.getElem_toArray, List.getElem_cons_zero, List.getElem_cons_succ, List.setIfInBounds_toArray, List.set_cons_zero, List.set_cons_succ]
                    refine wpAnyH_ready (rs := [3]) (by kernel_rfl) (by simp) ?_
                    refine AllReadyH.cons (o := _) rfl (fun K hK => ?_) AllReadyH.nil
                    go_simp
                    refine (implRead_any _ _ (applyP pe xe) [] i aF aR aU _ HSF.out (by simp) (by rw [← HFE.out.1]; exact (Stab.go HB_a.out POf_r.out).rs) (by rw [← HFE.out.2]; exact (Stab.go HB_a.out POf_r.out).rp) (Stab.go HB_a.out SE_r.out)).mono ?_
                    rw [HRA.out]
                    rintro e X_b ⟨⟨is, ip, rfl, ow1, ow2, _⟩, hb⟩
                    have isR := hide ow1.reads
                    have isP := hide ow2.reads
                    obtain ⟨is1, is2, is3, rfl⟩ := ow1.isSlice
                    obtain ⟨ip1, ip2, ip3, rfl⟩ := ow2.isSlice
                    clear ow1 ow2
                    have HB_b := hide (HB_a.out.trans (hb.mono HB_a.out.size))
                    refine hK.out _ _ (HSS.out _ HB_b.out) (fun _ => ?_)
                    clear hK K HS hb
                    have HS := hide (HSS.out _ HB_b.out)
                    refine wpAnyH_take (i := 4) (oi := _) (v := .string T) rfl (by kernel_rfl) (by kernel_rfl) (by kernel_rfl) (fun _ _ _ h => h) (Or.inl ⟨by rfl, by intro w hSw; go_split_ands; go_simp⟩) HS.out ?_
                    simp only [Act.put, List.getElem_toArray, List.getElem_cons_zero, List.getElem_cons_succ, List.setIfInBounds_toArray, List.set_cons_zero, List.set_cons_succ]
                    refine wpAnyH_ready (rs := [7]) (by kernel_rfl) (by simp) ?_
                    refine AllReadyH.cons (o := _) rfl (fun K hK => ?_) AllReadyH.nil
                    go_simp
                    refine (specRead_any _ _ xe pe i _ HSE.out.1 HSE.out.2.2.1 (Stab.go HB_b.out PDe_r.out).rs (Stab.go HB_b.out PDe_r.out).rp).mono ?_
                    rw [HRB.out]
                    rintro e X_c ⟨⟨js, jp, rfl, ow1, ow2, _⟩, hb⟩
                    have jsR := hide ow1.reads
                    have jsP := hide ow2.reads
                    obtain ⟨js1, js2, js3, rfl⟩ := ow1.isSlice
                    obtain ⟨jp1, jp2, jp3, rfl⟩ := ow2.isSlice
                    clear ow1 ow2
                    have HB_c := hide (HB_b.out.trans (hb.mono HB_b.out.size))
                    refine hK.out _ _ (HSS.out _ HB_c.out) (fun _ => ?_)
                    clear hK K HS hb
                    have HS := hide (HSS.out _ HB_c.out)
                    refine wpAnyH_take (i := 8) (oi := _) (v := .string T) rfl (by kernel_rfl) (by kernel_rfl) (by kernel_rfl) (fun _ _ _ h => h) (Or.inl ⟨by rfl, by intro w hSw; go_split_ands; go_simp⟩) HS.out ?_
                    simp only [Act.put, List.getElem_toArray, List.getElem_cons_zero, List.getElem_cons_succ, List.setIfInBounds_toArray, List.set_cons_zero, List.set_cons_succ]
                    refine wpAnyH_take (i := 9) (oi := _) (v := .bool false) rfl (by kernel_rfl) (by kernel_rfl) (by kernel_rfl) (fun _ _ _ h => h) (Or.inl ⟨by rfl, by intro w hSw; go_split_ands; go_simp⟩) HS.out ?_
                    simp only [Act.put, List.getElem_toArray, List.getElem_cons_zero, List.getElem_cons_succ, List.setIfInBounds_toArray, List.set_cons_zero, List.set_cons_succ]
                    refine wpAnyH_take (i := 10) (oi := _) (v := .bool false) rfl (by kernel_rfl) (by kernel_rfl) (by kernel_rfl) (fun _ _ _ h => h) (Or.inl ⟨by rfl, by intro w hSw; go_split_ands; go_simp⟩) HS.out ?_
                    simp only [Act.put, List.getElem_toArray, List.getElem_cons_zero, List.getElem_cons_succ, List.setIfInBounds_toArray, List.set_cons_zero, List.set_cons_succ]
                    refine wpAnyH_take (i := 11) (oi := _) (v := .agg #[.slice hs1 hs2 hs3, .slice hp1 hp2 hp3]) rfl (by kernel_rfl) (by kernel_rfl) (by kernel_rfl) (fun _ _ _ h => h) (Or.inl ⟨by rfl, by intro w hSw; go_split_ands; go_simp⟩) HS.out ?_
                    simp only [Act.put, List.getElem_toArray, List.getElem_cons_zero, List.getElem_cons_succ, List.setIfInBounds_toArray, List.set_cons_zero, List.set_cons_succ]
                    refine wpAnyH_take (i := 12) (oi := _) (v := .int .i64 (i : Int)) rfl (by kernel_rfl) (by kernel_rfl) (by kernel_rfl) (fun _ _ _ h => h) (Or.inl ⟨by rfl, by intro w hSw; go_split_ands; go_simp⟩) HS.out ?_
                    simp only [Act.put, List.getElem_toArray, List.getElem_cons_zero, List.getElem_cons_succ, List.setIfInBounds_toArray, List.set_cons_zero, List.set_cons_succ]
                    refine wpAnyH_take (i := 15) (oi := _) (v := .agg #[.slice es1 xe.length es3, .slice ep1 pe.length ep3]) rfl (by kernel_rfl) (by kernel_rfl) (by kernel_rfl) (fun _ _ _ h => h) (Or.inl ⟨by rfl, by intro w hSw; go_split_ands; go_simp⟩) HS.out ?_
                    simp only [Act.put, List.getElem_toArray, List.getElem_cons_zero, List.getElem_cons_succ, List.setIfInBounds_toArray, List.set_cons_zero, List.set_cons_succ]
                    refine wpAnyH_take (i := 16) (oi := _) (v := .int .i64 (i : Int)) rfl (by kernel_rfl) (by kernel_rfl) (by kernel_rfl) (fun _ _ _ h => h) (Or.inl ⟨by rfl, by intro w hSw; go_split_ands; go_simp⟩) HS.out ?_
                    simp only [Act.put, List.getElem_toArray, List.getElem_cons_zero, List.getElem_cons_succ, List.setIfInBounds_toArray, List.set_cons_zero, List.set_cons_succ]
                    refine wpAnyH_ready (rs := [13]) (by kernel_rfl) (by simp) ?_
                    refine AllReadyH.cons (o := _) rfl (fun K hK => ?_) AllReadyH.nil
                    go_simp
                    refine (implRead_any _ _ (applyP pe xe) [] i aF aR aU _ HSF.out (by simp) (Stab.go HB_c.out PDh_r.out).rs (Stab.go HB_c.out PDh_r.out).rp (Stab.go HB_c.out SE_r.out)).mono ?_
                    rw [HRA.out]
                    rintro e X_d ⟨⟨kz, kp, rfl, ow1, ow2, _⟩, hb⟩
                    have kzR := hide ow1.reads
                    have kzP := hide ow2.reads
                    obtain ⟨kz1, kz2, kz3, rfl⟩ := ow1.isSlice
                    obtain ⟨kp1, kp2, kp3, rfl⟩ := ow2.isSlice
                    clear ow1 ow2
                    have HB_d := hide (HB_c.out.trans (hb.mono HB_c.out.size))
                    refine hK.out _ _ (HSS.out _ HB_d.out) (fun _ => ?_)
                    clear hK K HS hb
                    have HS := hide (HSS.out _ HB_d.out)
                    refine wpAnyH_take (i := 14) (oi := _) (v := .string T) rfl (by kernel_rfl) (by kernel_rfl) (by kernel_rfl) (fun _ _ _ h => h) (Or.inl ⟨by rfl, by intro w hSw; go_split_ands; go_simp⟩) HS.out ?_
                    simp only [Act.put, List.getElem_toArray, List.getElem_cons_zero, List.getElem_cons_succ, List.setIfInBounds_toArray, List.set_cons_zero, List.set_cons_succ]
                    refine wpAnyH_ready (rs := [17]) (by kernel_rfl) (by simp) ?_
                    refine AllReadyH.cons (o := _) rfl (fun K hK => ?_) AllReadyH.nil
                    go_simp
                    refine (specRead_any _ _ xe pe i _ HSE.out.1 HSE.out.2.2.1 (Stab.go HB_d.out PDe_r.out).rs (Stab.go HB_d.out PDe_r.out).rp).mono ?_
                    rw [HRB.out]
                    rintro e X_e1 ⟨⟨ls, lp, rfl, ow1, ow2, _⟩, hb⟩
                    have lsR := hide ow1.reads
                    have lsP := hide ow2.reads
                    obtain ⟨ls1, ls2, ls3, rfl⟩ := ow1.isSlice
                    obtain ⟨lp1, lp2, lp3, rfl⟩ := ow2.isSlice
                    clear ow1 ow2
                    have HB_e1 := hide (HB_d.out.trans (hb.mono HB_d.out.size))
                    refine hK.out _ _ (HSS.out _ HB_e1.out) (fun _ => ?_)
                    clear hK K HS hb
                    have HS := hide (HSS.out _ HB_e1.out)
                    refine wpAnyH_take (i := 18) (oi := _) (v := .string T) rfl (by kernel_rfl) (by kernel_rfl) (by kernel_rfl) (fun _ _ _ h => h) (Or.inl ⟨by rfl, by intro w hSw; go_split_ands; go_simp⟩) HS.out ?_
                    simp only [Act.put, List.getElem_toArray, List.getElem_cons_zero, List.getElem_cons_succ, List.setIfInBounds_toArray, List.set_cons_zero, List.set_cons_succ]
                    refine wpAnyH_take (i := 19) (oi := _) (v := .bool false) rfl (by kernel_rfl) (by kernel_rfl) (by kernel_rfl) (fun _ _ _ h => h) (Or.inl ⟨by rfl, by intro w hSw; go_split_ands; go_simp⟩) HS.out ?_
                    simp only [Act.put, List.getElem_toArray, List.getElem_cons_zero, List.getElem_cons_succ, List.setIfInBounds_toArray, List.set_cons_zero, List.set_cons_succ]
                    refine wpAnyH_take (i := 20) (oi := _) (v := .bool false) rfl (by kernel_rfl) (by kernel_rfl) (by kernel_rfl) (fun _ _ _ h => h) (Or.inl ⟨by rfl, by intro w hSw; go_split_ands; go_simp⟩) HS.out ?_
                    simp only [Act.put, List.getElem_toArray, List.getElem_cons_zero, List.getElem_cons_succ, List.setIfInBounds_toArray, List.set_cons_zero, List.set_cons_succ]
                    refine wpAnyH_done (by kernel_rfl) ?_ _
                    clear HSS HS HB_a HB_b HB_c HB_d hfd HRA HRB HT isR isP jsR jsP kzR kzP lsR lsP
                    as_aux_lemma =>
                      obtain ⟨V0, hV0⟩ : ∃ V, V = X_e1 := ⟨_, rfl⟩
                      have PDe_v := hide (Stab.go HB_e1.out PDe_r.out)
                      have PDc_v := hide (Stab.go HB_e1.out PDc_r.out)
                      have HBv := hide (HBr.out.trans (HB_e1.out.mono HBr.out.size))
                      rw [← hV0] at PDe_v PDc_v HBv ⊢
                      clear hV0 HB_e1 SE_r BB_r PDe_r RIk_r PDc_r POf_r PDh_r
                      obtain ⟨ge, oe, rfl, hge, hce⟩ : ∃ g off, es1 = some ⟨g, off, none⟩ ∧ _ := by
                        obtain ⟨p', cap, he, _, _, _, h4⟩ := PDe_v.out.rs
                        cases he
                        exact h4 (by omega)
                      obtain ⟨gc, oc, rfl, hgc, hcc⟩ : ∃ g off, cs1 = some ⟨g, off, none⟩ ∧ _ := by
                        obtain ⟨p', cap, he, _, _, _, h4⟩ := PDc_v.out.rs
                        cases he
                        exact h4 (by have := HXL.out.1; omega)
                      have hic : i < xc.length := by have := HXL.out.1; omega
                      have m1 := hce i hlt
                      have m2 := hcc i hic
                      obtain ⟨E, hE⟩ : ∃ E, E = xe[i]'hlt := ⟨_, rfl⟩
                      obtain ⟨A, hA⟩ : ∃ A, A = xc[i]'hic := ⟨_, rfl⟩
                      rw [← hE] at m1
                      rw [← hA] at m2
                      have HOR := hide (show A = E ∨ ∃ j, ∃ hj : j < pe.length, (pe[j]'hj).1 = (i : Int) ∧ (pe[j]'hj).2 = A by
                        have h1 := crash_at (ks := ks) HRT.out hks i hlt
                        rw [← Hxc.out] at h1
                        have e1 : xc.getD i ⟨#[]⟩ = A := by rw [hA]; simp [hic]
                        have e2 : xe.getD i ⟨#[]⟩ = E := by rw [hE]; simp [hlt]
                        rw [e1, e2] at h1
                        exact h1)
                      have m3 : V0.cell? ⟨b9, 0, none⟩ = some (.slice (some ⟨ge, oe, none⟩) xe.length es3) := PDe_v.out.row.cell 0
                      have m4 : V0.cell? ⟨b11, 0, none⟩ = some (.slice (some ⟨gc, oc, none⟩) xc.length cs3) := PDc_v.out.row.cell 0
                      have hici : (i : Int) < (xc.length : Int) := by omega
                      have HM1 := hide m1
                      have HM2 := hide m2
                      have HGE := hide hge
                      have HGC := hide hgc
                      clear hce hcc hE hA hge hgc
                      go_wp2_with fail
                      go_region
                      clear m1 m2 m3 m4
                      go_wp2_with fail
                      go_loopw [20, 21] (fun s j wx => ∃ (b : Bool) (m : Nat), s = .bool b ∧ j = .int .i64 m ∧ m ≤ pe.length ∧ Hid (b = true ∨ ∃ n, ∃ hn : n < pe.length, m ≤ n ∧ (pe[n]'hn).1 = (i : Int) ∧ (pe[n]'hn).2 = A) ∧ Hid (Below V0.heap.size V0 wx)) (fun _ j _ => pe.length - (intOf j).toNat)
                      case atStart =>
                        refine ⟨_, 0, rfl, rfl, Nat.zero_le _, ?_, (Below.refl _ _).drew⟩
                        rcases HOR.out with h1 | ⟨j, hj, h1, h2⟩
                        · left; rw [h1]; simp
                        · right; exact ⟨j, hj, Nat.zero_le _, h1, h2⟩
                      case round =>
                        obtain ⟨b, m, rfl, rfl, hm, HI, HBw⟩ := hrel
                        have PDe_w := hide (Stab.go HBw.out PDe_v.out)
                        have PDc_w := hide (Stab.go HBw.out PDc_v.out)
                        have n3 : wr.cell? ⟨b9, 1, none⟩ = some (.slice ep1 pe.length ep3) := PDe_w.out.row.cell 1
                        by_cases hlm : m < pe.length
                        · have hmi : (m : Int) < (pe.length : Int) := by omega
                          cases b with
                          | true =>
                            as_aux_lemma =>
                              have HSS := hide (show ∀ x, Below wr.heap.size wr x → True from fun _ _ => trivial)
                              go_wp2_with fail
                              refine wp_region_held (S := fun _ : World => True) (by kernel_rfl) ?_
                              have HS := hide trivial
                              refine wpAnyH_take (i := 0) (oi := _) (v := .bool true) rfl (by kernel_rfl) (by kernel_rfl) (by kernel_rfl) (fun _ _ _ h => h) (Or.inl ⟨by rfl, by intro w hSw; go_split_ands; go_simp⟩) HS.out ?_
                              simp only [Act.put, List.getElem_toArray, List.getElem_cons_zero, List.setIfInBounds_toArray, List.set_cons_zero, List.set_cons_succ]
                              refine wpAnyH_take (i := 1) (oi := _) (v := .bool true) rfl (by kernel_rfl) (by kernel_rfl) (by kernel_rfl) (fun _ _ _ h => h) (Or.inl ⟨by rfl, by intro w hSw; go_split_ands; go_simp⟩) HS.out ?_
                              simp only [Act.put, List.getElem_toArray, List.getElem_cons_zero, List.getElem_cons_succ, List.setIfInBounds_toArray, List.set_cons_zero, List.set_cons_succ]
                              refine wpAnyH_take (i := 2) (oi := _) (v := undef) rfl (by kernel_rfl) (by kernel_rfl) (by kernel_rfl) (fun _ _ _ h => h) (Or.inr ⟨by rfl, rfl⟩) HS.out ?_
                              simp only [Act.put, List.getElem_toArray, List.getElem_cons_zero, List.getElem_cons_succ, List.setIfInBounds_toArray, List.set_cons_zero, List.set_cons_succ]
                              refine wpAnyH_take (i := 3) (oi := _) (v := undef) rfl (by kernel_rfl) (by kernel_rfl) (by kernel_rfl) (fun _ _ _ h => h) (Or.inr ⟨by rfl, rfl⟩) HS.out ?_
                              simp only [Act.put, List.getElem_toArray, List.getElem_cons_zero, List.getElem_cons_succ, List.setIfInBounds_toArray, List.set_cons_zero, List.set_cons_succ]
                              refine wpAnyH_take (i := 4) (oi := _) (v := undef) rfl (by kernel_rfl) (by kernel_rfl) (by kernel_rfl) (fun _ _ _ h => h) (Or.inr ⟨by rfl, rfl⟩) HS.out ?_
                              simp only [Act.put, List.getElem_toArray, List.getElem_cons_zero, List.getElem_cons_succ, List.setIfInBounds_toArray, List.set_cons_zero, List.set_cons_succ]
                              refine wpAnyH_take (i := 5) (oi := _) (v := undef) rfl (by kernel_rfl) (by kernel_rfl) (by kernel_rfl) (fun _ _ _ h => h) (Or.inr ⟨by rfl, rfl⟩) HS.out ?_
                              simp only [Act.put, List.getElem_toArray, List.getElem_cons_zero, List.getElem_cons_succ, List.setIfInBounds_toArray, List.set_cons_zero, List.set_cons_succ]
                              refine wpAnyH_take (i := 6) (oi := _) (v := undef) rfl (by kernel_rfl) (by kernel_rfl) (by kernel_rfl) (fun _ _ _ h => h) (Or.inr ⟨by rfl, rfl⟩) HS.out ?_
                              simp only [Act.put, List.getElem_toArray, List.getElem_cons_zero, List.getElem_cons_succ, List.setIfInBounds_toArray, List.set_cons_zero, List.set_cons_succ]
                              refine wpAnyH_take (i := 7) (oi := _) (v := undef) rfl (by kernel_rfl) (by kernel_rfl) (by kernel_rfl) (fun _ _ _ h => h) (Or.inr ⟨by rfl, rfl⟩) HS.out ?_
                              simp only [Act.put, List.getElem_toArray, List.getElem_cons_zero, List.getElem_cons_succ, List.setIfInBounds_toArray, List.set_cons_zero, List.set_cons_succ]
                              refine wpAnyH_take (i := 8) (oi := _) (v := undef) rfl (by kernel_rfl) (by kernel_rfl) (by kernel_rfl) (fun _ _ _ h => h) (Or.inr ⟨by rfl, rfl⟩) HS.out ?_
                              simp only [Act.put, List.getElem_toArray, List.getElem_cons_zero, List.getElem_cons_succ, List.setIfInBounds_toArray, List.set_cons_zero, List.set_cons_succ]
                              refine wpAnyH_take (i := 9) (oi := _) (v := undef) rfl (by kernel_rfl) (by kernel_rfl) (by kernel_rfl) (fun _ _ _ h => h) (Or.inr ⟨by rfl, rfl⟩) HS.out ?_
                              simp only [Act.put, List.getElem_toArray, List.getElem_cons_zero, List.getElem_cons_succ, List.setIfInBounds_toArray, List.set_cons_zero, List.set_cons_succ]
                              refine wpAnyH_take (i := 10) (oi := _) (v := undef) rfl (by kernel_rfl) (by kernel_rfl) (by kernel_rfl) (fun _ _ _ h => h) (Or.inr ⟨by rfl, rfl⟩) HS.out ?_
                              simp only [Act.put, List.getElem_toArray, List.getElem_cons_zero, List.getElem_cons_succ, List.setIfInBounds_toArray, List.set_cons_zero, List.set_cons_succ]
                              refine wpAnyH_take (i := 11) (oi := _) (v := undef) rfl (by kernel_rfl) (by kernel_rfl) (by kernel_rfl) (fun _ _ _ h => h) (Or.inr ⟨by rfl, rfl⟩) HS.out ?_
                              simp only [Act.put, List.getElem_toArray, List.getElem_cons_zero, List.getElem_cons_succ, List.setIfInBounds_toArray, List.set_cons_zero, List.set_cons_succ]
                              refine wpAnyH_take (i := 12) (oi := _) (v := undef) rfl (by kernel_rfl) (by kernel_rfl) (by kernel_rfl) (fun _ _ _ h => h) (Or.inr ⟨by rfl, rfl⟩) HS.out ?_
                              simp only [Act.put, List.getElem_toArray, List.getElem_cons_zero, List.getElem_cons_succ, List.setIfInBounds_toArray, List.set_cons_zero, List.set_cons_succ]
                              refine wpAnyH_take (i := 13) (oi := _) (v := undef) rfl (by kernel_rfl) (by kernel_rfl) (by kernel_rfl) (fun _ _ _ h => h) (Or.inr ⟨by rfl, rfl⟩) HS.out ?_
                              simp only [Act.put, List.getElem_toArray, List.getElem_cons_zero, List.getElem_cons_succ, List.setIfInBounds_toArray, List.set_cons_zero, List.set_cons_succ]
                              refine wpAnyH_take (i := 14) (oi := _) (v := undef) rfl (by kernel_rfl) (by kernel_rfl) (by kernel_rfl) (fun _ _ _ h => h) (Or.inr ⟨by rfl, rfl⟩) HS.out ?_
                              simp only [Act.put, List.getElem_toArray, List.getElem_cons_zero, List.getElem_cons_succ, List.setIfInBounds_toArray, List.set_cons_zero, List.set_cons_succ]
                              refine wpAnyH_take (i := 15) (oi := _) (v := undef) rfl (by kernel_rfl) (by kernel_rfl) (by kernel_rfl) (fun _ _ _ h => h) (Or.inr ⟨by rfl, rfl⟩) HS.out ?_
                              simp only [Act.put, List.getElem_toArray, List.getElem_cons_zero, List.getElem_cons_succ, List.setIfInBounds_toArray, List.set_cons_zero, List.set_cons_succ]
                              refine wpAnyH_take (i := 16) (oi := _) (v := undef) rfl (by kernel_rfl) (by kernel_rfl) (by kernel_rfl) (fun _ _ _ h => h) (Or.inr ⟨by rfl, rfl⟩) HS.out ?_
                              simp only [Act.put, List.getElem_toArray, List.getElem_cons_zero, List.getElem_cons_succ, List.setIfInBounds_toArray, List.set_cons_zero, List.set_cons_succ]
                              refine wpAnyH_take (i := 17) (oi := _) (v := undef) rfl (by kernel_rfl) (by kernel_rfl) (by kernel_rfl) (fun _ _ _ h => h) (Or.inr ⟨by rfl, rfl⟩) HS.out ?_
                              simp only [Act.put, List.getElem_toArray, List.getElem_cons_zero, List.getElem_cons_succ, List.setIfInBounds_toArray, List.set_cons_zero, List.set_cons_succ]
                              refine wpAnyH_take (i := 18) (oi := _) (v := undef) rfl (by kernel_rfl) (by kernel_rfl) (by kernel_rfl) (fun _ _ _ h => h) (Or.inr ⟨by rfl, rfl⟩) HS.out ?_
                              simp only [Act.put, List.getElem_toArray, List.getElem_cons_zero, List.getElem_cons_succ, List.setIfInBounds_toArray, List.set_cons_zero, List.set_cons_succ]
                              refine wpAnyH_take (i := 19) (oi := _) (v := undef) rfl (by kernel_rfl) (by kernel_rfl) (by kernel_rfl) (fun _ _ _ h => h) (Or.inr ⟨by rfl, rfl⟩) HS.out ?_
                              simp only [Act.put, List.getElem_toArray, List.getElem_cons_zero, List.getElem_cons_succ, List.setIfInBounds_toArray, List.set_cons_zero, List.set_cons_succ]
                              refine wpAnyH_take (i := 20) (oi := _) (v := undef) rfl (by kernel_rfl) (by kernel_rfl) (by kernel_rfl) (fun _ _ _ h => h) (Or.inr ⟨by rfl, rfl⟩) HS.out ?_
                              simp only [Act.put, List.getElem_toArray, List.getElem_cons_zero, List.getElem_cons_succ, List.setIfInBounds_toArray, List.set_cons_zero, List.set_cons_succ]
                              refine wpAnyH_take (i := 21) (oi := _) (v := undef) rfl (by kernel_rfl) (by kernel_rfl) (by kernel_rfl) (fun _ _ _ h => h) (Or.inr ⟨by rfl, rfl⟩) HS.out ?_
                              simp only [Act.put, List.getElem_toArray, List.getElem_cons_zero, List.getElem_cons_succ, List.setIfInBounds_toArray, List.set_cons_zero, List.set_cons_succ]
                              refine wpAnyH_take (i := 22) (oi := _) (v := undef) rfl (by kernel_rfl) (by kernel_rfl) (by kernel_rfl) (fun _ _ _ h => h) (Or.inr ⟨by rfl, rfl⟩) HS.out ?_
                              simp only [Act.put, List.getElem_toArray, List.getElem_cons_zero, List.getElem_cons_succ, List.setIfInBounds_toArray, List.set_cons_zero, List.set_cons_succ]
                              refine wpAnyH_take (i := 23) (oi := _) (v := undef) rfl (by kernel_rfl) (by kernel_rfl) (by kernel_rfl) (fun _ _ _ h => h) (Or.inr ⟨by rfl, rfl⟩) HS.out ?_
                              simp only [Act.put, List.getElem_toArray, List.getElem_cons_zero, List.getElem_cons_succ, List.setIfInBounds_toArray, List.set_cons_zero, List.set_cons_succ]
                              refine wpAnyH_take (i := 24) (oi := _) (v := .bool true) rfl (by kernel_rfl) (by kernel_rfl) (by kernel_rfl) (fun _ _ _ h => h) (Or.inl ⟨by rfl, by intro w hSw; go_split_ands; go_simp⟩) HS.out ?_
                              simp only [Act.put, List.getElem_toArray, List.getElem_cons_zero, List.getElem_cons_succ, List.setIfInBounds_toArray, List.set_cons_zero, List.set_cons_succ]
                              refine wpAnyH_take (i := 25) (oi := _) (v := .bool true) rfl (by kernel_rfl) (by kernel_rfl) (by kernel_rfl) (fun _ _ _ h => h) (Or.inl ⟨by rfl, by intro w hSw; go_split_ands; go_simp⟩) HS.out ?_
                              simp only [Act.put, List.getElem_toArray, List.getElem_cons_zero, List.getElem_cons_succ, List.setIfInBounds_toArray, List.set_cons_zero, List.set_cons_succ]
                              refine wpAnyH_done (by kernel_rfl) ?_ _
                              clear n3
                              go_wp2
                              go_roundw
                              case rel => exact ⟨true, m + 1, rfl, by go_num, by omega, .inl rfl, HBw.out.drew⟩
                              case measure => simp [intOf]; omega
                          | false =>
                            as_aux_lemma =>
                              obtain ⟨gp, op, hep, hgp, hcp⟩ : ∃ g off, ep1 = some ⟨g, off, none⟩ ∧ _ := by
                                obtain ⟨p', cap, he, _, _, _, h4⟩ := PDe_w.out.rp
                                cases he
                                exact h4 (by omega)
                              subst hep
                              obtain ⟨k0, k1⟩ := hcp m hlm
                              obtain ⟨P1, hP1⟩ : ∃ A, A = (pe[m]'hlm).1 := ⟨_, rfl⟩
                              obtain ⟨P2, hP2⟩ : ∃ A, A = (pe[m]'hlm).2 := ⟨_, rfl⟩
                              rw [← hP1] at k0
                              rw [← hP2] at k1
                              have HK0 := hide k0
                              have HK1 := hide k1
                              have HGP := hide hgp
                              have m4 : wr.cell? ⟨gc, oc + i, none⟩ = some (.string A) := (HBw.out.cell (p := ⟨gc, oc + i, none⟩) HGC.out).trans HM2.out
                              have HM4 := hide m4
                              have HP1 := hide hP1
                              have HP2 := hide hP2
                              have hgcl := Nat.lt_of_lt_of_le HGC.out HBw.out.size
                              have HSS := hide (show ∀ x, Below wr.heap.size wr x → x.cell? ⟨b9, 1, none⟩ = some (.slice (some ⟨gp, op, none⟩) pe.length ep3) ∧ x.cell? ⟨b11, 0, none⟩ = some (.slice (some ⟨gc, oc, none⟩) xc.length cs3) ∧ x.cell? ⟨gp, op + m * 2, none⟩ = some (.int .i64 P1) ∧ x.cell? ⟨gp, op + m * 2 + 1, none⟩ = some (.string P2) ∧ x.cell? ⟨gc, oc + i, none⟩ = some (.string A) from
                                fun x h => ⟨(Row.after h PDe_w.out.row).cell 1, (Row.after h PDc_w.out.row).cell 0, (h.cell (p := ⟨gp, op + m * 2, none⟩) HGP.out).trans HK0.out, (h.cell (p := ⟨gp, op + m * 2 + 1, none⟩) HGP.out).trans HK1.out, (h.cell (p := ⟨gc, oc + i, none⟩) hgcl).trans HM4.out⟩)
                              clear k0 k1 hcp hgp m4 hP1 hP2 n3 hgcl
                              have n3 : wr.cell? ⟨b9, 1, none⟩ = some (.slice (some ⟨gp, op, none⟩) pe.length ep3) := PDe_w.out.row.cell 1
                              by_cases hat : P1 = (i : Int)
                              · have hae : (P1 == (i : Int)) = true := by simpa using hat
                                have HAT := hide hat
                                clear hat
                                go_wp2_with fail
                                clear n3
                                refine wp_region_held (S := fun x : World => x.cell? ⟨b9, 1, none⟩ = some (.slice (some ⟨gp, op, none⟩) pe.length ep3) ∧ x.cell? ⟨b11, 0, none⟩ = some (.slice (some ⟨gc, oc, none⟩) xc.length cs3) ∧ x.cell? ⟨gp, op + m * 2, none⟩ = some (.int .i64 P1) ∧ x.cell? ⟨gp, op + m * 2 + 1, none⟩ = some (.string P2) ∧ x.cell? ⟨gc, oc + i, none⟩ = some (.string A)) (by kernel_rfl) ?_
                                have HS := hide (HSS.out { wr with drawn := wr.drawn + 1 } (Below.refl _ _).drew)
                                refine wpAnyH_take (i := 0) (oi := _) (v := .bool false) rfl (by kernel_rfl) (by kernel_rfl) (by kernel_rfl) (fun _ _ _ h => h) (Or.inl ⟨by rfl, by intro w hSw; go_split_ands; go_simp⟩) HS.out ?_
                                simp only [Act.put, List.getElem_toArray, List.getElem_cons_zero, List.setIfInBounds_toArray, List.set_cons_zero, List.set_cons_succ]
                                refine wpAnyH_take (i := 1) (oi := _) (v := .bool false) rfl (by kernel_rfl) (by kernel_rfl) (by kernel_rfl) (fun _ _ _ h => h) (Or.inl ⟨by rfl, by intro w hSw; go_split_ands; go_simp⟩) HS.out ?_
                                simp only [Act.put, List.getElem_toArray, List.getElem_cons_zero, List.getElem_cons_succ, List.setIfInBounds_toArray, List.set_cons_zero, List.set_cons_succ]
                                refine wpAnyH_take (i := 2) (oi := _) (v := .pointer (some ⟨b9, 1, none⟩)) rfl (by kernel_rfl) (by kernel_rfl) (by kernel_rfl) (fun _ _ _ h => h) (Or.inl ⟨by rfl, by intro w hSw; go_split_ands; go_simp⟩) HS.out ?_
                                simp only [Act.put, List.getElem_toArray, List.getElem_cons_zero, List.getElem_cons_succ, List.setIfInBounds_toArray, List.set_cons_zero, List.set_cons_succ]
                                refine wpAnyH_take (i := 3) (oi := _) (v := .slice (some ⟨gp, op, none⟩) pe.length ep3) rfl (by kernel_rfl) (by kernel_rfl) (by kernel_rfl) (fun _ _ _ h => h) (Or.inl ⟨by rfl, by intro w hSw; go_split_ands; go_simp⟩) HS.out ?_
                                simp only [Act.put, List.getElem_toArray, List.getElem_cons_zero, List.getElem_cons_succ, List.setIfInBounds_toArray, List.set_cons_zero, List.set_cons_succ]
                                refine wpAnyH_take (i := 4) (oi := _) (v := .int .i64 (m : Int)) rfl (by kernel_rfl) (by kernel_rfl) (by kernel_rfl) (fun _ _ _ h => h) (Or.inl ⟨by rfl, by intro w hSw; go_split_ands; go_simp⟩) HS.out ?_
                                simp only [Act.put, List.getElem_toArray, List.getElem_cons_zero, List.getElem_cons_succ, List.setIfInBounds_toArray, List.set_cons_zero, List.set_cons_succ]
                                refine wpAnyH_take (i := 5) (oi := _) (v := .pointer (some ⟨gp, op + m * 2, none⟩)) rfl (by kernel_rfl) (by kernel_rfl) (by kernel_rfl) (fun _ _ _ h => h) (Or.inl ⟨by rfl, by intro w hSw; go_split_ands; go_simp⟩) HS.out ?_
                                simp only [Act.put, List.getElem_toArray, List.getElem_cons_zero, List.getElem_cons_succ, List.setIfInBounds_toArray, List.set_cons_zero, List.set_cons_succ]
                                refine wpAnyH_take (i := 6) (oi := _) (v := .pointer (some ⟨gp, op + m * 2, none⟩)) rfl (by kernel_rfl) (by kernel_rfl) (by kernel_rfl) (fun _ _ _ h => h) (Or.inl ⟨by rfl, by intro w hSw; go_split_ands; go_simp⟩) HS.out ?_
                                simp only [Act.put, List.getElem_toArray, List.getElem_cons_zero, List.getElem_cons_succ, List.setIfInBounds_toArray, List.set_cons_zero, List.set_cons_succ]
                                refine wpAnyH_take (i := 7) (oi := _) (v := .int .i64 P1) rfl (by kernel_rfl) (by kernel_rfl) (by kernel_rfl) (fun _ _ _ h => h) (Or.inl ⟨by rfl, by intro w hSw; go_split_ands; go_simp⟩) HS.out ?_
                                simp only [Act.put, List.getElem_toArray, List.getElem_cons_zero, List.getElem_cons_succ, List.setIfInBounds_toArray, List.set_cons_zero, List.set_cons_succ]
                                refine wpAnyH_take (i := 8) (oi := _) (v := .int .i64 (i : Int)) rfl (by kernel_rfl) (by kernel_rfl) (by kernel_rfl) (fun _ _ _ h => h) (Or.inl ⟨by rfl, by intro w hSw; go_split_ands; go_simp⟩) HS.out ?_
                                simp only [Act.put, List.getElem_toArray, List.getElem_cons_zero, List.getElem_cons_succ, List.setIfInBounds_toArray, List.set_cons_zero, List.set_cons_succ]
                                refine wpAnyH_take (i := 9) (oi := _) (v := .bool true) rfl (by kernel_rfl) (by kernel_rfl) (by kernel_rfl) (fun _ _ _ h => h) (Or.inl ⟨by rfl, by intro w hSw; go_split_ands; go_simp⟩) HS.out ?_
                                simp only [Act.put, List.getElem_toArray, List.getElem_cons_zero, List.getElem_cons_succ, List.setIfInBounds_toArray, List.set_cons_zero, List.set_cons_succ]
                                refine wpAnyH_take (i := 10) (oi := _) (v := .bool true) rfl (by kernel_rfl) (by kernel_rfl) (by kernel_rfl) (fun _ _ _ h => h) (Or.inl ⟨by rfl, by intro w hSw; go_split_ands; go_simp⟩) HS.out ?_
                                simp only [Act.put, List.getElem_toArray, List.getElem_cons_zero, List.getElem_cons_succ, List.setIfInBounds_toArray, List.set_cons_zero, List.set_cons_succ]
                                refine wpAnyH_take (i := 11) (oi := _) (v := .pointer (some ⟨b9, 1, none⟩)) rfl (by kernel_rfl) (by kernel_rfl) (by kernel_rfl) (fun _ _ _ h => h) (Or.inl ⟨by rfl, by intro w hSw; go_split_ands; go_simp⟩) HS.out ?_
                                simp only [Act.put, List.getElem_toArray, List.getElem_cons_zero, List.getElem_cons_succ, List.setIfInBounds_toArray, List.set_cons_zero, List.set_cons_succ]
                                refine wpAnyH_take (i := 12) (oi := _) (v := .slice (some ⟨gp, op, none⟩) pe.length ep3) rfl (by kernel_rfl) (by kernel_rfl) (by kernel_rfl) (fun _ _ _ h => h) (Or.inl ⟨by rfl, by intro w hSw; go_split_ands; go_simp⟩) HS.out ?_
                                simp only [Act.put, List.getElem_toArray, List.getElem_cons_zero, List.getElem_cons_succ, List.setIfInBounds_toArray, List.set_cons_zero, List.set_cons_succ]
                                refine wpAnyH_take (i := 13) (oi := _) (v := .int .i64 (m : Int)) rfl (by kernel_rfl) (by kernel_rfl) (by kernel_rfl) (fun _ _ _ h => h) (Or.inl ⟨by rfl, by intro w hSw; go_split_ands; go_simp⟩) HS.out ?_
                                simp only [Act.put, List.getElem_toArray, List.getElem_cons_zero, List.getElem_cons_succ, List.setIfInBounds_toArray, List.set_cons_zero, List.set_cons_succ]
                                refine wpAnyH_take (i := 14) (oi := _) (v := .pointer (some ⟨gp, op + m * 2, none⟩)) rfl (by kernel_rfl) (by kernel_rfl) (by kernel_rfl) (fun _ _ _ h => h) (Or.inl ⟨by rfl, by intro w hSw; go_split_ands; go_simp⟩) HS.out ?_
                                simp only [Act.put, List.getElem_toArray, List.getElem_cons_zero, List.getElem_cons_succ, List.setIfInBounds_toArray, List.set_cons_zero, List.set_cons_succ]
                                refine wpAnyH_take (i := 15) (oi := _) (v := .pointer (some ⟨gp, op + m * 2 + 1, none⟩)) rfl (by kernel_rfl) (by kernel_rfl) (by kernel_rfl) (fun _ _ _ h => h) (Or.inl ⟨by rfl, by intro w hSw; go_split_ands; go_simp⟩) HS.out ?_
                                simp only [Act.put, List.getElem_toArray, List.getElem_cons_zero, List.getElem_cons_succ, List.setIfInBounds_toArray, List.set_cons_zero, List.set_cons_succ]
                                refine wpAnyH_take (i := 16) (oi := _) (v := .string P2) rfl (by kernel_rfl) (by kernel_rfl) (by kernel_rfl) (fun _ _ _ h => h) (Or.inl ⟨by rfl, by intro w hSw; go_split_ands; go_simp⟩) HS.out ?_
                                simp only [Act.put, List.getElem_toArray, List.getElem_cons_zero, List.getElem_cons_succ, List.setIfInBounds_toArray, List.set_cons_zero, List.set_cons_succ]
                                refine wpAnyH_take (i := 17) (oi := _) (v := .pointer (some ⟨b11, 0, none⟩)) rfl (by kernel_rfl) (by kernel_rfl) (by kernel_rfl) (fun _ _ _ h => h) (Or.inl ⟨by rfl, by intro w hSw; go_split_ands; go_simp⟩) HS.out ?_
                                simp only [Act.put, List.getElem_toArray, List.getElem_cons_zero, List.getElem_cons_succ, List.setIfInBounds_toArray, List.set_cons_zero, List.set_cons_succ]
                                refine wpAnyH_take (i := 18) (oi := _) (v := .slice (some ⟨gc, oc, none⟩) xc.length cs3) rfl (by kernel_rfl) (by kernel_rfl) (by kernel_rfl) (fun _ _ _ h => h) (Or.inl ⟨by rfl, by intro w hSw; go_split_ands; go_simp⟩) HS.out ?_
                                simp only [Act.put, List.getElem_toArray, List.getElem_cons_zero, List.getElem_cons_succ, List.setIfInBounds_toArray, List.set_cons_zero, List.set_cons_succ]
                                refine wpAnyH_take (i := 19) (oi := _) (v := .int .i64 (i : Int)) rfl (by kernel_rfl) (by kernel_rfl) (by kernel_rfl) (fun _ _ _ h => h) (Or.inl ⟨by rfl, by intro w hSw; go_split_ands; go_simp⟩) HS.out ?_
                                simp only [Act.put, List.getElem_toArray, List.getElem_cons_zero, List.getElem_cons_succ, List.setIfInBounds_toArray, List.set_cons_zero, List.set_cons_succ]
                                refine wpAnyH_take (i := 20) (oi := _) (v := .pointer (some ⟨gc, oc + i, none⟩)) rfl (by kernel_rfl) (by kernel_rfl) (by kernel_rfl) (fun _ _ _ h => h) (Or.inl ⟨by rfl, by intro w hSw; go_split_ands; go_simp⟩) HS.out ?_
                                simp only [Act.put, List.getElem_toArray, List.getElem_cons_zero, List.getElem_cons_succ, List.setIfInBounds_toArray, List.set_cons_zero, List.set_cons_succ]
                                refine wpAnyH_take (i := 21) (oi := _) (v := .string A) rfl (by kernel_rfl) (by kernel_rfl) (by kernel_rfl) (fun _ _ _ h => h) (Or.inl ⟨by rfl, by intro w hSw; go_split_ands; go_simp⟩) HS.out ?_
                                simp only [Act.put, List.getElem_toArray, List.getElem_cons_zero, List.getElem_cons_succ, List.setIfInBounds_toArray, List.set_cons_zero, List.set_cons_succ]
                                refine wpAnyH_take (i := 22) (oi := _) (v := .bool (P2.toList == A.toList)) rfl (by kernel_rfl) (by kernel_rfl) (by kernel_rfl) (fun _ _ _ h => h) (Or.inl ⟨by rfl, by intro w hSw; go_split_ands; go_simp⟩) HS.out ?_
                                simp only [Act.put, List.getElem_toArray, List.getElem_cons_zero, List.getElem_cons_succ, List.setIfInBounds_toArray, List.set_cons_zero, List.set_cons_succ]
                                refine wpAnyH_take (i := 23) (oi := _) (v := .bool (P2.toList == A.toList)) rfl (by kernel_rfl) (by kernel_rfl) (by kernel_rfl) (fun _ _ _ h => h) (Or.inl ⟨by rfl, by intro w hSw; go_split_ands; go_simp⟩) HS.out ?_
                                simp only [Act.put, List.getElem_toArray, List.getElem_cons_zero, List.getElem_cons_succ, List.setIfInBounds_toArray, List.set_cons_zero, List.set_cons_succ]
                                refine wpAnyH_take (i := 24) (oi := _) (v := .bool (P2.toList == A.toList)) rfl (by kernel_rfl) (by kernel_rfl) (by kernel_rfl) (fun _ _ _ h => h) (Or.inl ⟨by rfl, by intro w hSw; go_split_ands; go_simp⟩) HS.out ?_
                                simp only [Act.put, List.getElem_toArray, List.getElem_cons_zero, List.getElem_cons_succ, List.setIfInBounds_toArray, List.set_cons_zero, List.set_cons_succ]
                                refine wpAnyH_take (i := 25) (oi := _) (v := .bool (P2.toList == A.toList)) rfl (by kernel_rfl) (by kernel_rfl) (by kernel_rfl) (fun _ _ _ h => h) (Or.inl ⟨by rfl, by intro w hSw; go_split_ands; go_simp⟩) HS.out ?_
                                simp only [Act.put, List.getElem_toArray, List.getElem_cons_zero, List.getElem_cons_succ, List.setIfInBounds_toArray, List.set_cons_zero, List.set_cons_succ]
                                refine wpAnyH_done (by kernel_rfl) ?_ _
                                go_wp2
                                go_roundw
                                case rel =>
                                  refine ⟨_, m + 1, rfl, by go_num, by omega, ?_, HBw.out.drew⟩
                                  rcases HI.out with h1 | ⟨n, hn, h0, h1, h2⟩
                                  · cases h1
                                  · by_cases hnm : n = m
                                    · subst hnm
                                      left
                                      rw [HP2.out, h2]
                                      simp
                                    · exact .inr ⟨n, hn, by omega, h1, h2⟩
                                case measure => simp [intOf]; omega
                              · have hae : (P1 == (i : Int)) = false := by simpa using hat
                                have HAT := hide hat
                                clear hat
                                go_wp2_with fail
                                clear n3
                                refine wp_region_held (S := fun x : World => x.cell? ⟨b9, 1, none⟩ = some (.slice (some ⟨gp, op, none⟩) pe.length ep3) ∧ x.cell? ⟨b11, 0, none⟩ = some (.slice (some ⟨gc, oc, none⟩) xc.length cs3) ∧ x.cell? ⟨gp, op + m * 2, none⟩ = some (.int .i64 P1) ∧ x.cell? ⟨gp, op + m * 2 + 1, none⟩ = some (.string P2) ∧ x.cell? ⟨gc, oc + i, none⟩ = some (.string A)) (by kernel_rfl) ?_
                                have HS := hide (HSS.out { wr with drawn := wr.drawn + 1 } (Below.refl _ _).drew)
                                refine wpAnyH_take (i := 0) (oi := _) (v := .bool false) rfl (by kernel_rfl) (by kernel_rfl) (by kernel_rfl) (fun _ _ _ h => h) (Or.inl ⟨by rfl, by intro w hSw; go_split_ands; go_simp⟩) HS.out ?_
                                simp only [Act.put, List.getElem_toArray, List.getElem_cons_zero, List.setIfInBounds_toArray, List.set_cons_zero, List.set_cons_succ]
                                refine wpAnyH_take (i := 1) (oi := _) (v := .bool false) rfl (by kernel_rfl) (by kernel_rfl) (by kernel_rfl) (fun _ _ _ h => h) (Or.inl ⟨by rfl, by intro w hSw; go_split_ands; go_simp⟩) HS.out ?_
                                simp only [Act.put, List.getElem_toArray, List.getElem_cons_zero, List.getElem_cons_succ, List.setIfInBounds_toArray, List.set_cons_zero, List.set_cons_succ]
                                refine wpAnyH_take (i := 2) (oi := _) (v := .pointer (some ⟨b9, 1, none⟩)) rfl (by kernel_rfl) (by kernel_rfl) (by kernel_rfl) (fun _ _ _ h => h) (Or.inl ⟨by rfl, by intro w hSw; go_split_ands; go_simp⟩) HS.out ?_
                                simp only [Act.put, List.getElem_toArray, List.getElem_cons_zero, List.getElem_cons_succ, List.setIfInBounds_toArray, List.set_cons_zero, List.set_cons_succ]
                                refine wpAnyH_take (i := 3) (oi := _) (v := .slice (some ⟨gp, op, none⟩) pe.length ep3) rfl (by kernel_rfl) (by kernel_rfl) (by kernel_rfl) (fun _ _ _ h => h) (Or.inl ⟨by rfl, by intro w hSw; go_split_ands; go_simp⟩) HS.out ?_
                                simp only [Act.put, List.getElem_toArray, List.getElem_cons_zero, List.getElem_cons_succ, List.setIfInBounds_toArray, List.set_cons_zero, List.set_cons_succ]
                                refine wpAnyH_take (i := 4) (oi := _) (v := .int .i64 (m : Int)) rfl (by kernel_rfl) (by kernel_rfl) (by kernel_rfl) (fun _ _ _ h => h) (Or.inl ⟨by rfl, by intro w hSw; go_split_ands; go_simp⟩) HS.out ?_
                                simp only [Act.put, List.getElem_toArray, List.getElem_cons_zero, List.getElem_cons_succ, List.setIfInBounds_toArray, List.set_cons_zero, List.set_cons_succ]
                                refine wpAnyH_take (i := 5) (oi := _) (v := .pointer (some ⟨gp, op + m * 2, none⟩)) rfl (by kernel_rfl) (by kernel_rfl) (by kernel_rfl) (fun _ _ _ h => h) (Or.inl ⟨by rfl, by intro w hSw; go_split_ands; go_simp⟩) HS.out ?_
                                simp only [Act.put, List.getElem_toArray, List.getElem_cons_zero, List.getElem_cons_succ, List.setIfInBounds_toArray, List.set_cons_zero, List.set_cons_succ]
                                refine wpAnyH_take (i := 6) (oi := _) (v := .pointer (some ⟨gp, op + m * 2, none⟩)) rfl (by kernel_rfl) (by kernel_rfl) (by kernel_rfl) (fun _ _ _ h => h) (Or.inl ⟨by rfl, by intro w hSw; go_split_ands; go_simp⟩) HS.out ?_
                                simp only [Act.put, List.getElem_toArray, List.getElem_cons_zero, List.getElem_cons_succ, List.setIfInBounds_toArray, List.set_cons_zero, List.set_cons_succ]
                                refine wpAnyH_take (i := 7) (oi := _) (v := .int .i64 P1) rfl (by kernel_rfl) (by kernel_rfl) (by kernel_rfl) (fun _ _ _ h => h) (Or.inl ⟨by rfl, by intro w hSw; go_split_ands; go_simp⟩) HS.out ?_
                                simp only [Act.put, List.getElem_toArray, List.getElem_cons_zero, List.getElem_cons_succ, List.setIfInBounds_toArray, List.set_cons_zero, List.set_cons_succ]
                                refine wpAnyH_take (i := 8) (oi := _) (v := .int .i64 (i : Int)) rfl (by kernel_rfl) (by kernel_rfl) (by kernel_rfl) (fun _ _ _ h => h) (Or.inl ⟨by rfl, by intro w hSw; go_split_ands; go_simp⟩) HS.out ?_
                                simp only [Act.put, List.getElem_toArray, List.getElem_cons_zero, List.getElem_cons_succ, List.setIfInBounds_toArray, List.set_cons_zero, List.set_cons_succ]
                                refine wpAnyH_take (i := 9) (oi := _) (v := .bool false) rfl (by kernel_rfl) (by kernel_rfl) (by kernel_rfl) (fun _ _ _ h => h) (Or.inl ⟨by rfl, by intro w hSw; go_split_ands; go_simp⟩) HS.out ?_
                                simp only [Act.put, List.getElem_toArray, List.getElem_cons_zero, List.getElem_cons_succ, List.setIfInBounds_toArray, List.set_cons_zero, List.set_cons_succ]
                                refine wpAnyH_take (i := 10) (oi := _) (v := .bool false) rfl (by kernel_rfl) (by kernel_rfl) (by kernel_rfl) (fun _ _ _ h => h) (Or.inl ⟨by rfl, by intro w hSw; go_split_ands; go_simp⟩) HS.out ?_
                                simp only [Act.put, List.getElem_toArray, List.getElem_cons_zero, List.getElem_cons_succ, List.setIfInBounds_toArray, List.set_cons_zero, List.set_cons_succ]
                                refine wpAnyH_take (i := 11) (oi := _) (v := undef) rfl (by kernel_rfl) (by kernel_rfl) (by kernel_rfl) (fun _ _ _ h => h) (Or.inr ⟨by rfl, rfl⟩) HS.out ?_
                                simp only [Act.put, List.getElem_toArray, List.getElem_cons_zero, List.getElem_cons_succ, List.setIfInBounds_toArray, List.set_cons_zero, List.set_cons_succ]
                                refine wpAnyH_take (i := 12) (oi := _) (v := undef) rfl (by kernel_rfl) (by kernel_rfl) (by kernel_rfl) (fun _ _ _ h => h) (Or.inr ⟨by rfl, rfl⟩) HS.out ?_
                                simp only [Act.put, List.getElem_toArray, List.getElem_cons_zero, List.getElem_cons_succ, List.setIfInBounds_toArray, List.set_cons_zero, List.set_cons_succ]
                                refine wpAnyH_take (i := 13) (oi := _) (v := undef) rfl (by kernel_rfl) (by kernel_rfl) (by kernel_rfl) (fun _ _ _ h => h) (Or.inr ⟨by rfl, rfl⟩) HS.out ?_
                                simp only [Act.put, List.getElem_toArray, List.getElem_cons_zero, List.getElem_cons_succ, List.setIfInBounds_toArray, List.set_cons_zero, List.set_cons_succ]
                                refine wpAnyH_take (i := 14) (oi := _) (v := undef) rfl (by kernel_rfl) (by kernel_rfl) (by kernel_rfl) (fun _ _ _ h => h) (Or.inr ⟨by rfl, rfl⟩) HS.out ?_
                                simp only [Act.put, List.getElem_toArray, List.getElem_cons_zero, List.getElem_cons_succ, List.setIfInBounds_toArray, List.set_cons_zero, List.set_cons_succ]
                                refine wpAnyH_take (i := 15) (oi := _) (v := undef) rfl (by kernel_rfl) (by kernel_rfl) (by kernel_rfl) (fun _ _ _ h => h) (Or.inr ⟨by rfl, rfl⟩) HS.out ?_
                                simp only [Act.put, List.getElem_toArray, List.getElem_cons_zero, List.getElem_cons_succ, List.setIfInBounds_toArray, List.set_cons_zero, List.set_cons_succ]
                                refine wpAnyH_take (i := 16) (oi := _) (v := undef) rfl (by kernel_rfl) (by kernel_rfl) (by kernel_rfl) (fun _ _ _ h => h) (Or.inr ⟨by rfl, rfl⟩) HS.out ?_
                                simp only [Act.put, List.getElem_toArray, List.getElem_cons_zero, List.getElem_cons_succ, List.setIfInBounds_toArray, List.set_cons_zero, List.set_cons_succ]
                                refine wpAnyH_take (i := 17) (oi := _) (v := undef) rfl (by kernel_rfl) (by kernel_rfl) (by kernel_rfl) (fun _ _ _ h => h) (Or.inr ⟨by rfl, rfl⟩) HS.out ?_
                                simp only [Act.put, List.getElem_toArray, List.getElem_cons_zero, List.getElem_cons_succ, List.setIfInBounds_toArray, List.set_cons_zero, List.set_cons_succ]
                                refine wpAnyH_take (i := 18) (oi := _) (v := undef) rfl (by kernel_rfl) (by kernel_rfl) (by kernel_rfl) (fun _ _ _ h => h) (Or.inr ⟨by rfl, rfl⟩) HS.out ?_
                                simp only [Act.put, List.getElem_toArray, List.getElem_cons_zero, List.getElem_cons_succ, List.setIfInBounds_toArray, List.set_cons_zero, List.set_cons_succ]
                                refine wpAnyH_take (i := 19) (oi := _) (v := undef) rfl (by kernel_rfl) (by kernel_rfl) (by kernel_rfl) (fun _ _ _ h => h) (Or.inr ⟨by rfl, rfl⟩) HS.out ?_
                                simp only [Act.put, List.getElem_toArray, List.getElem_cons_zero, List.getElem_cons_succ, List.setIfInBounds_toArray, List.set_cons_zero, List.set_cons_succ]
                                refine wpAnyH_take (i := 20) (oi := _) (v := undef) rfl (by kernel_rfl) (by kernel_rfl) (by kernel_rfl) (fun _ _ _ h => h) (Or.inr ⟨by rfl, rfl⟩) HS.out ?_
                                simp only [Act.put, List.getElem_toArray, List.getElem_cons_zero, List.getElem_cons_succ, List.setIfInBounds_toArray, List.set_cons_zero, List.set_cons_succ]
                                refine wpAnyH_take (i := 21) (oi := _) (v := undef) rfl (by kernel_rfl) (by kernel_rfl) (by kernel_rfl) (fun _ _ _ h => h) (Or.inr ⟨by rfl, rfl⟩) HS.out ?_
                                simp only [Act.put, List.getElem_toArray, List.getElem_cons_zero, List.getElem_cons_succ, List.setIfInBounds_toArray, List.set_cons_zero, List.set_cons_succ]
                                refine wpAnyH_take (i := 22) (oi := _) (v := undef) rfl (by kernel_rfl) (by kernel_rfl) (by kernel_rfl) (fun _ _ _ h => h) (Or.inr ⟨by rfl, rfl⟩) HS.out ?_
                                simp only [Act.put, List.getElem_toArray, List.getElem_cons_zero, List.getElem_cons_succ, List.setIfInBounds_toArray, List.set_cons_zero, List.set_cons_succ]
                                refine wpAnyH_take (i := 23) (oi := _) (v := .bool false) rfl (by kernel_rfl) (by kernel_rfl) (by kernel_rfl) (fun _ _ _ h => h) (Or.inl ⟨by rfl, by intro w hSw; go_split_ands; go_simp⟩) HS.out ?_
                                simp only [Act.put, List.getElem_toArray, List.getElem_cons_zero, List.getElem_cons_succ, List.setIfInBounds_toArray, List.set_cons_zero, List.set_cons_succ]
                                refine wpAnyH_take (i := 24) (oi := _) (v := .bool false) rfl (by kernel_rfl) (by kernel_rfl) (by kernel_rfl) (fun _ _ _ h => h) (Or.inl ⟨by rfl, by intro w hSw; go_split_ands; go_simp⟩) HS.out ?_
                                simp only [Act.put, List.getElem_toArray, List.getElem_cons_zero, List.getElem_cons_succ, List.setIfInBounds_toArray, List.set_cons_zero, List.set_cons_succ]
                                refine wpAnyH_take (i := 25) (oi := _) (v := .bool false) rfl (by kernel_rfl) (by kernel_rfl) (by kernel_rfl) (fun _ _ _ h => h) (Or.inl ⟨by rfl, by intro w hSw; go_split_ands; go_simp⟩) HS.out ?_
                                simp only [Act.put, List.getElem_toArray, List.getElem_cons_zero, List.getElem_cons_succ, List.setIfInBounds_toArray, List.set_cons_zero, List.set_cons_succ]
                                refine wpAnyH_done (by kernel_rfl) ?_ _
                                go_wp2
                                go_roundw
                                case rel =>
                                  refine ⟨false, m + 1, rfl, by go_num, by omega, ?_, HBw.out.drew⟩
                                  rcases HI.out with h1 | ⟨n, hn, h0, h1, h2⟩
                                  · cases h1
                                  · by_cases hnm : n = m
                                    · subst hnm
                                      exact absurd (HP1.out.trans h1) HAT.out
                                    · exact .inr ⟨n, hn, by omega, h1, h2⟩
                                case measure => simp [intOf]; omega
                        · have hmi : ¬ (m : Int) < (pe.length : Int) := by omega
                          have hbt : b = true := by
                            rcases HI.out with h1 | ⟨n, hn, h0, _⟩
                            · exact h1
                            · omega
                          subst hbt
                          have HBz := hide (HBv.out.trans (HBw.out.mono HBv.out.size))
                          go_wp2
                          go_roundw
                          case rel => exact ⟨i + 1, by omega, by go_num, HBz⟩
                          case measure => simp [intOf]; omega
                  · have hil : ¬ (i : Int) < (xe.length : Int) := by omega
                    have hq0 : ((qc.length : Int) == 0) = true := by rw [HXL.out.2]; rfl
                    have q11 : wr.cell? ⟨b11, 1, none⟩ = some (.slice cp1 qc.length cp3) := PDc_r.out.row.cell 1
                    go_wp2
                    go_ret
                    exact ⟨rfl, BB_r.out⟩
              · have hfe : (f.c != 0) = true := by simpa using hfc
                clear hfc
                go_wp2
                go_ret
                exact ⟨rfl, BB_c.out⟩
        · have hxe : (o.c == 0) = false := by simpa using hxo
          clear hxo
          have y3 : W8.cell? ⟨b12, 3, none⟩ = some (.int .i64 f.c) := POf_8.out.row.cell 3
          by_cases hfc : f.c = 0
          · have hfe : (f.c != 0) = false := by rw [hfc]; rfl
            have HRT := hide (show right xe pe = true from (flushOut_right (xs := xe) (ps := pe) (by rw [← Hf.out]; exact hfc)).1)
            have HFE := hide (show f.xs = applyP pe xe ∧ f.ps = [] by rw [Hf.out]; unfold flushOut; rw [if_pos HRT.out]; exact ⟨rfl, rfl⟩)
            have y0 : W8.cell? ⟨b12, 0, none⟩ = some (.slice fs1 fs2 fs3) := POf_8.out.row.cell 0
            have y1 : W8.cell? ⟨b12, 1, none⟩ = some (.slice fp1 fp2 fp3) := POf_8.out.row.cell 1
            clear hfc
            go_wp2_with fail
            refine (implCrash_any _ _ _ (applyP pe xe) [] ks _ _ _ _ _ (by rw [← HFE.out.1]; exact POf_8.out.rs) (by rw [← HFE.out.2]; exact POf_8.out.rp) RIk_8.out (small_of_right (rightFlush HRT.out)) SE_8.out.1.1 SE_8.out.1.2).mono ?_
            rw [(crash_none (rightFlush HRT.out) hks).1, (crash_none (rightFlush HRT.out) hks).2]
            rintro e w9 ⟨⟨hs, hp, rfl, ow1, ow2, _⟩, hb⟩
            have o1 := ow1.reads
            have o2 := ow2.reads
            obtain ⟨hs1, hs2, hs3, rfl⟩ := ow1.isSlice
            obtain ⟨hp1, hp2, hp3, rfl⟩ := ow2.isSlice
            have bn := below_new w9 (.cells #[.slice hs1 hs2 hs3, .slice hp1 hp2 hp3] 26)
            have hb3 := hb.trans (bn.mono hb.size)
            obtain ⟨b18, hb18⟩ : ∃ b, b = w9.heap.size := ⟨_, rfl⟩
            obtain ⟨W9, hW9⟩ : ∃ W, W = w9.alloc (.cells #[.slice hs1 hs2 hs3, .slice hp1 hp2 hp3] 26) := ⟨_, rfl⟩
            rw [← hW9] at hb3
            have PDh_9 := hide (show PD b18 (.slice hs1 hs2 hs3) (.slice hp1 hp2 hp3) (applyP pe xe) [] W9 from ⟨by rw [hW9, hb18]; exact row_new w9 _ _, by rw [hW9]; exact o1.below bn (Nat.le_refl _), by rw [hW9]; exact o2.below bn (Nat.le_refl _)⟩)
            have SE_9 := hide (Stab.go hb3 SE_8.out)
            have BB_9 := hide (Stab.go (P := fun x => Below w.heap.size w x) hb3 BB_8.out)
            have PDe_9 := hide (Stab.go hb3 PDe_8.out)
            have RIk_9 := hide (Stab.go (P := fun x => ReadsI x (.slice u1 ks.length u3) ks) hb3 RIk_8.out)
            have PDc_9 := hide (Stab.go hb3 PDc_8.out)
            have POf_9 := hide (Stab.go hb3 POf_8.out)
            clear SE_8 BB_8 PDe_8 RIk_8 PDc_8 POf_8
            clear ow1 ow2 o1 o2 hb bn hb3 y0 y1 y3 hfe
            go_wp2_with fail
            rw [← hW9, ← hb18]
            clear hW9 hb18
            have HXL := hide (show xc.length = xe.length ∧ qc = [] by rw [Hxc.out, Hqc.out]; exact crash_len HRT.out hks)
            have HLE := hide (right_len HRT.out)
            go_loopw [19] (fun i wr => ∃ k : Nat, k ≤ xe.length ∧ i = .int .i64 k ∧ Hid (Below W9.heap.size W9 wr)) (fun i _ => xe.length - (intOf i).toNat)
            case atStart => exact ⟨0, Nat.zero_le _, rfl, Below.refl _ _⟩
            case round =>
              obtain ⟨i, hi, rfl, HBr⟩ := hrel
              have SE_r := hide (Stab.go HBr.out SE_9.out)
              have BB_r := hide (Stab.go (P := fun x => Below w.heap.size w x) HBr.out BB_9.out)
              have PDe_r := hide (Stab.go HBr.out PDe_9.out)
              have RIk_r := hide (Stab.go (P := fun x => ReadsI x (.slice u1 ks.length u3) ks) HBr.out RIk_9.out)
              have PDc_r := hide (Stab.go HBr.out PDc_9.out)
              have POf_r := hide (Stab.go HBr.out POf_9.out)
              have PDh_r := hide (Stab.go HBr.out PDh_9.out)
              have q9 : wr.cell? ⟨b9, 0, none⟩ = some (.slice es1 xe.length es3) := PDe_r.out.row.cell 0
              by_cases hlt : i < xe.length
              · have hil : (i : Int) < (xe.length : Int) := by omega
                obtain ⟨T, HT⟩ : ∃ T, Hid (T = lastAt i pe (xe.getD i ⟨#[]⟩)) := ⟨_, rfl⟩
                have HRB := hide (show readOut xe pe i = ⟨xe, pe, T, 0⟩ by rw [readOut_at HRT.out i hlt, HT.out])
                have HRA := hide (show readOut (applyP pe xe) [] i = ⟨applyP pe xe, [], T, 0⟩ by
                  have h1 := flush_read HRT.out i hlt
                  rw [HRB.out] at h1
                  rw [readOut_at (rightFlush HRT.out) i (by rw [applyP_lenS]; exact hlt)] at h1 ⊢
                  simp only at h1
                  rw [h1])
                have HSS := hide (show ∀ x, Below wr.heap.size wr x → x.cell? ⟨b12, 0, none⟩ = some (.slice fs1 fs2 fs3) ∧ x.cell? ⟨b12, 1, none⟩ = some (.slice fp1 fp2 fp3) ∧ x.cell? ⟨b9, 0, none⟩ = some (.slice es1 xe.length es3) ∧ x.cell? ⟨b9, 1, none⟩ = some (.slice ep1 pe.length ep3) ∧ x.cell? ⟨b18, 0, none⟩ = some (.slice hs1 hs2 hs3) ∧ x.cell? ⟨b18, 1, none⟩ = some (.slice hp1 hp2 hp3) from fun x h => ⟨(Row.after h POf_r.out.row).cell 0, (Row.after h POf_r.out.row).cell 1, (Row.after h PDe_r.out.row).cell 0, (Row.after h PDe_r.out.row).cell 1, (Row.after h PDh_r.out.row).cell 0, (Row.after h PDh_r.out.row).cell 1⟩)
                have hfd := Tryd.fieldData
                have HSF := hide (show (applyP pe xe).length ≤ 1048576 by rw [applyP_lenS]; exact HSE.out.1)
                go_wp2_with fail
                clear q9
                refine wp_region_held (S := fun x : World => x.cell? ⟨b12, 0, none⟩ = some (.slice fs1 fs2 fs3) ∧ x.cell? ⟨b12, 1, none⟩ = some (.slice fp1 fp2 fp3) ∧ x.cell? ⟨b9, 0, none⟩ = some (.slice es1 xe.length es3) ∧ x.cell? ⟨b9, 1, none⟩ = some (.slice ep1 pe.length ep3) ∧ x.cell? ⟨b18, 0, none⟩ = some (.slice hs1 hs2 hs3) ∧ x.cell? ⟨b18, 1, none⟩ = some (.slice hp1 hp2 hp3)) (by kernel_rfl) ?_
                have HB_a := hide (show Below wr.heap.size wr { wr with drawn := wr.drawn + 1 } from (Below.refl _ _).drew)
                have HS := hide (HSS.out _ HB_a.out)
                refine wpAnyH_take (i := 0) (oi := _) (v := .pointer (some ⟨b12, 0, none⟩)) rfl (by kernel_rfl) (by kernel_rfl) (by kernel_rfl) (fun _ _ _ h => h) (Or.inl ⟨by rfl, by intro w hSw; go_split_ands; go_simp⟩) HS.out ?_
                simp only [Act.put, List.getElem_toArray, List.getElem_cons_zero, List.setIfInBounds_toArray, List.set_cons_zero, List.set_cons_succ]
                refine wpAnyH_take (i := 1) (oi := _) (v := .agg #[.slice fs1 fs2 fs3, .slice fp1 fp2 fp3]) rfl (by kernel_rfl) (by kernel_rfl) (by kernel_rfl) (fun _ _ _ h => h) (Or.inl ⟨by rfl, by intro w hSw; go_split_ands; go_simp⟩) HS.out ?_
                simp only [Act.put, List.getElem_toArray, List.getElem_cons_zero, List.getElem_cons_succ, List.setIfInBounds_toArray, List.set_cons_zero, List.set_cons_succ]
                refine wpAnyH_take (i := 2) (oi := _) (v := .int .i64 (i : Int)) rfl (by kernel_rfl) (by kernel_rfl) (by kernel_rfl) (fun _ _ _ h => h) (Or.inl ⟨by rfl, by intro w hSw; go_split_ands; go_simp⟩) HS.out ?_
                simp only [Act.put, List.getElem_toArray, List.getElem_cons_zero, List.getElem_cons_succ, List.setIfInBounds_toArray, List.set_cons_zero, List.set_cons_succ]
                refine wpAnyH_take (i := 5) (oi := _) (v := .agg #[.slice es1 xe.length es3, .slice ep1 pe.length ep3]) rfl (by kernel_rfl) (by kernel_rfl) (by kernel_rfl) (fun _ _ _ h => h) (Or.inl ⟨by rfl, by intro w hSw; go_split_ands; go_simp⟩) HS.out ?_
                simp only [Act.put, List.getElem_toArray, List.getElem_cons_zero, List.getElem_cons_succ, List.setIfInBounds_toArray, List.set_cons_zero, List.set_cons_succ]
                refine wpAnyH_take (i := 6) (oi := _) (v := .int .i64 (i : Int)) rfl (by kernel_rfl) (by kernel_rfl) (by kernel_rfl) (fun _ _ _ h => h) (Or.inl ⟨by rfl, by intro w hSw; go_split_ands; go_simp⟩) HS.out ?_
                simp only [Act.put, List.getElem_toArray, List.getElem_cons_zero, List.getElem_cons_succ, List.setIfInBounds_toArray, List.set_cons_zero, List.set_cons_succ]
                refine wpAnyH_ready (rs := [3]) (by kernel_rfl) (by simp) ?_
                refine AllReadyH.cons (o := _) rfl (fun K hK => ?_) AllReadyH.nil
                go_simp
                refine (implRead_any _ _ (applyP pe xe) [] i aF aR aU _ HSF.out (by simp) (by rw [← HFE.out.1]; exact (Stab.go HB_a.out POf_r.out).rs) (by rw [← HFE.out.2]; exact (Stab.go HB_a.out POf_r.out).rp) (Stab.go HB_a.out SE_r.out)).mono ?_
                rw [HRA.out]
                rintro e X_b ⟨⟨is, ip, rfl, ow1, ow2, _⟩, hb⟩
                have isR := hide ow1.reads
                have isP := hide ow2.reads
                obtain ⟨is1, is2, is3, rfl⟩ := ow1.isSlice
                obtain ⟨ip1, ip2, ip3, rfl⟩ := ow2.isSlice
                clear ow1 ow2
                have HB_b := hide (HB_a.out.trans (hb.mono HB_a.out.size))
                refine hK.out _ _ (HSS.out _ HB_b.out) (fun _ => ?_)
                clear hK K HS hb
                have HS := hide (HSS.out _ HB_b.out)
                refine wpAnyH_take (i := 4) (oi := _) (v := .string T) rfl (by kernel_rfl) (by kernel_rfl) (by kernel_rfl) (fun _ _ _ h => h) (Or.inl ⟨by rfl, by intro w hSw; go_split_ands; go_simp⟩) HS.out ?_
                simp only [Act.put, List.getElem_toArray, List.getElem_cons_zero, List.getElem_cons_succ, List.setIfInBounds_toArray, List.set_cons_zero, List.set_cons_succ]
                refine wpAnyH_ready (rs := [7]) (by kernel_rfl) (by simp) ?_
                refine AllReadyH.cons (o := _) rfl (fun K hK => ?_) AllReadyH.nil
                go_simp
                refine (specRead_any _ _ xe pe i _ HSE.out.1 HSE.out.2.2.1 (Stab.go HB_b.out PDe_r.out).rs (Stab.go HB_b.out PDe_r.out).rp).mono ?_
                rw [HRB.out]
                rintro e X_c ⟨⟨js, jp, rfl, ow1, ow2, _⟩, hb⟩
                have jsR := hide ow1.reads
                have jsP := hide ow2.reads
                obtain ⟨js1, js2, js3, rfl⟩ := ow1.isSlice
                obtain ⟨jp1, jp2, jp3, rfl⟩ := ow2.isSlice
                clear ow1 ow2
                have HB_c := hide (HB_b.out.trans (hb.mono HB_b.out.size))
                refine hK.out _ _ (HSS.out _ HB_c.out) (fun _ => ?_)
                clear hK K HS hb
                have HS := hide (HSS.out _ HB_c.out)
                refine wpAnyH_take (i := 8) (oi := _) (v := .string T) rfl (by kernel_rfl) (by kernel_rfl) (by kernel_rfl) (fun _ _ _ h => h) (Or.inl ⟨by rfl, by intro w hSw; go_split_ands; go_simp⟩) HS.out ?_
                simp only [Act.put, List.getElem_toArray, List.getElem_cons_zero, List.getElem_cons_succ, List.setIfInBounds_toArray, List.set_cons_zero, List.set_cons_succ]
                refine wpAnyH_take (i := 9) (oi := _) (v := .bool false) rfl (by kernel_rfl) (by kernel_rfl) (by kernel_rfl) (fun _ _ _ h => h) (Or.inl ⟨by rfl, by intro w hSw; go_split_ands; go_simp⟩) HS.out ?_
                simp only [Act.put, List.getElem_toArray, List.getElem_cons_zero, List.getElem_cons_succ, List.setIfInBounds_toArray, List.set_cons_zero, List.set_cons_succ]
                refine wpAnyH_take (i := 10) (oi := _) (v := .bool false) rfl (by kernel_rfl) (by kernel_rfl) (by kernel_rfl) (fun _ _ _ h => h) (Or.inl ⟨by rfl, by intro w hSw; go_split_ands; go_simp⟩) HS.out ?_
                simp only [Act.put, List.getElem_toArray, List.getElem_cons_zero, List.getElem_cons_succ, List.setIfInBounds_toArray, List.set_cons_zero, List.set_cons_succ]
                refine wpAnyH_take (i := 11) (oi := _) (v := .agg #[.slice hs1 hs2 hs3, .slice hp1 hp2 hp3]) rfl (by kernel_rfl) (by kernel_rfl) (by kernel_rfl) (fun _ _ _ h => h) (Or.inl ⟨by rfl, by intro w hSw; go_split_ands; go_simp⟩) HS.out ?_
                simp only [Act.put, List.getElem_toArray, List.getElem_cons_zero, List.getElem_cons_succ, List.setIfInBounds_toArray, List.set_cons_zero, List.set_cons_succ]
                refine wpAnyH_take (i := 12) (oi := _) (v := .int .i64 (i : Int)) rfl (by kernel_rfl) (by kernel_rfl) (by kernel_rfl) (fun _ _ _ h => h) (Or.inl ⟨by rfl, by intro w hSw; go_split_ands; go_simp⟩) HS.out ?_
                simp only [Act.put, List.getElem_toArray, List.getElem_cons_zero, List.getElem_cons_succ, List.setIfInBounds_toArray, List.set_cons_zero, List.set_cons_succ]
                refine wpAnyH_take (i := 15) (oi := _) (v := .agg #[.slice es1 xe.length es3, .slice ep1 pe.length ep3]) rfl (by kernel_rfl) (by kernel_rfl) (by kernel_rfl) (fun _ _ _ h => h) (Or.inl ⟨by rfl, by intro w hSw; go_split_ands; go_simp⟩) HS.out ?_
                simp only [Act.put, List.getElem_toArray, List.getElem_cons_zero, List.getElem_cons_succ, List.setIfInBounds_toArray, List.set_cons_zero, List.set_cons_succ]
                refine wpAnyH_take (i := 16) (oi := _) (v := .int .i64 (i : Int)) rfl (by kernel_rfl) (by kernel_rfl) (by kernel_rfl) (fun _ _ _ h => h) (Or.inl ⟨by rfl, by intro w hSw; go_split_ands; go_simp⟩) HS.out ?_
                simp only [Act.put, List.getElem_toArray, List.getElem_cons_zero, List.getElem_cons_succ, List.setIfInBounds_toArray, List.set_cons_zero, List.set_cons_succ]
                refine wpAnyH_ready (rs := [13]) (by kernel_rfl) (by simp) ?_
                refine AllReadyH.cons (o := _) rfl (fun K hK => ?_) AllReadyH.nil
                go_simp
                refine (implRead_any _ _ (applyP pe xe) [] i aF aR aU _ HSF.out (by simp) (Stab.go HB_c.out PDh_r.out).rs (Stab.go HB_c.out PDh_r.out).rp (Stab.go HB_c.out SE_r.out)).mono ?_
                rw [HRA.out]
                rintro e X_d ⟨⟨kz, kp, rfl, ow1, ow2, _⟩, hb⟩
                have kzR := hide ow1.reads
                have kzP := hide ow2.reads
                obtain ⟨kz1, kz2, kz3, rfl⟩ := ow1.isSlice
                obtain ⟨kp1, kp2, kp3, rfl⟩ := ow2.isSlice
                clear ow1 ow2
                have HB_d := hide (HB_c.out.trans (hb.mono HB_c.out.size))
                refine hK.out _ _ (HSS.out _ HB_d.out) (fun _ => ?_)
                clear hK K HS hb
                have HS := hide (HSS.out _ HB_d.out)
                refine wpAnyH_take (i := 14) (oi := _) (v := .string T) rfl (by kernel_rfl) (by kernel_rfl) (by kernel_rfl) (fun _ _ _ h => h) (Or.inl ⟨by rfl, by intro w hSw; go_split_ands; go_simp⟩) HS.out ?_
                simp only [Act.put, List.getElem_toArray, List.getElem_cons_zero, List.getElem_cons_succ, List.setIfInBounds_toArray, List.set_cons_zero, List.set_cons_succ]
                refine wpAnyH_ready (rs := [17]) (by kernel_rfl) (by simp) ?_
                refine AllReadyH.cons (o := _) rfl (fun K hK => ?_) AllReadyH.nil
                go_simp
                refine (specRead_any _ _ xe pe i _ HSE.out.1 HSE.out.2.2.1 (Stab.go HB_d.out PDe_r.out).rs (Stab.go HB_d.out PDe_r.out).rp).mono ?_
                rw [HRB.out]
                rintro e X_e1 ⟨⟨ls, lp, rfl, ow1, ow2, _⟩, hb⟩
                have lsR := hide ow1.reads
                have lsP := hide ow2.reads
                obtain ⟨ls1, ls2, ls3, rfl⟩ := ow1.isSlice
                obtain ⟨lp1, lp2, lp3, rfl⟩ := ow2.isSlice
                clear ow1 ow2
                have HB_e1 := hide (HB_d.out.trans (hb.mono HB_d.out.size))
                refine hK.out _ _ (HSS.out _ HB_e1.out) (fun _ => ?_)
                clear hK K HS hb
                have HS := hide (HSS.out _ HB_e1.out)
                refine wpAnyH_take (i := 18) (oi := _) (v := .string T) rfl (by kernel_rfl) (by kernel_rfl) (by kernel_rfl) (fun _ _ _ h => h) (Or.inl ⟨by rfl, by intro w hSw; go_split_ands; go_simp⟩) HS.out ?_
                simp only [Act.put, List.getElem_toArray, List.getElem_cons_zero, List.getElem_cons_succ, List.setIfInBounds_toArray, List.set_cons_zero, List.set_cons_succ]
                refine wpAnyH_take (i := 19) (oi := _) (v := .bool false) rfl (by kernel_rfl) (by kernel_rfl) (by kernel_rfl) (fun _ _ _ h => h) (Or.inl ⟨by rfl, by intro w hSw; go_split_ands; go_simp⟩) HS.out ?_
                simp only [Act.put, List.getElem_toArray, List.getElem_cons_zero, List.getElem_cons_succ, List.setIfInBounds_toArray, List.set_cons_zero, List.set_cons_succ]
                refine wpAnyH_take (i := 20) (oi := _) (v := .bool false) rfl (by kernel_rfl) (by kernel_rfl) (by kernel_rfl) (fun _ _ _ h => h) (Or.inl ⟨by rfl, by intro w hSw; go_split_ands; go_simp⟩) HS.out ?_
                simp only [Act.put, List.getElem_toArray, List.getElem_cons_zero, List.getElem_cons_succ, List.setIfInBounds_toArray, List.set_cons_zero, List.set_cons_succ]
                refine wpAnyH_done (by kernel_rfl) ?_ _
                clear HSS HS HB_a HB_b HB_c HB_d hfd HRA HRB HT isR isP jsR jsP kzR kzP lsR lsP
                as_aux_lemma =>
                  obtain ⟨V0, hV0⟩ : ∃ V, V = X_e1 := ⟨_, rfl⟩
                  have PDe_v := hide (Stab.go HB_e1.out PDe_r.out)
                  have PDc_v := hide (Stab.go HB_e1.out PDc_r.out)
                  have HBv := hide (HBr.out.trans (HB_e1.out.mono HBr.out.size))
                  rw [← hV0] at PDe_v PDc_v HBv ⊢
                  clear hV0 HB_e1 SE_r BB_r PDe_r RIk_r PDc_r POf_r PDh_r
                  obtain ⟨ge, oe, rfl, hge, hce⟩ : ∃ g off, es1 = some ⟨g, off, none⟩ ∧ _ := by
                    obtain ⟨p', cap, he, _, _, _, h4⟩ := PDe_v.out.rs
                    cases he
                    exact h4 (by omega)
                  obtain ⟨gc, oc, rfl, hgc, hcc⟩ : ∃ g off, cs1 = some ⟨g, off, none⟩ ∧ _ := by
                    obtain ⟨p', cap, he, _, _, _, h4⟩ := PDc_v.out.rs
                    cases he
                    exact h4 (by have := HXL.out.1; omega)
                  have hic : i < xc.length := by have := HXL.out.1; omega
                  have m1 := hce i hlt
                  have m2 := hcc i hic
                  obtain ⟨E, hE⟩ : ∃ E, E = xe[i]'hlt := ⟨_, rfl⟩
                  obtain ⟨A, hA⟩ : ∃ A, A = xc[i]'hic := ⟨_, rfl⟩
                  rw [← hE] at m1
                  rw [← hA] at m2
                  have HOR := hide (show A = E ∨ ∃ j, ∃ hj : j < pe.length, (pe[j]'hj).1 = (i : Int) ∧ (pe[j]'hj).2 = A by
                    have h1 := crash_at (ks := ks) HRT.out hks i hlt
                    rw [← Hxc.out] at h1
                    have e1 : xc.getD i ⟨#[]⟩ = A := by rw [hA]; simp [hic]
                    have e2 : xe.getD i ⟨#[]⟩ = E := by rw [hE]; simp [hlt]
                    rw [e1, e2] at h1
                    exact h1)
                  have m3 : V0.cell? ⟨b9, 0, none⟩ = some (.slice (some ⟨ge, oe, none⟩) xe.length es3) := PDe_v.out.row.cell 0
                  have m4 : V0.cell? ⟨b11, 0, none⟩ = some (.slice (some ⟨gc, oc, none⟩) xc.length cs3) := PDc_v.out.row.cell 0
                  have hici : (i : Int) < (xc.length : Int) := by omega
                  have HM1 := hide m1
                  have HM2 := hide m2
                  have HGE := hide hge
                  have HGC := hide hgc
                  clear hce hcc hE hA hge hgc
                  go_wp2_with fail
                  go_region
                  clear m1 m2 m3 m4
                  go_wp2_with fail
                  go_loopw [20, 21] (fun s j wx => ∃ (b : Bool) (m : Nat), s = .bool b ∧ j = .int .i64 m ∧ m ≤ pe.length ∧ Hid (b = true ∨ ∃ n, ∃ hn : n < pe.length, m ≤ n ∧ (pe[n]'hn).1 = (i : Int) ∧ (pe[n]'hn).2 = A) ∧ Hid (Below V0.heap.size V0 wx)) (fun _ j _ => pe.length - (intOf j).toNat)
                  case atStart =>
                    refine ⟨_, 0, rfl, rfl, Nat.zero_le _, ?_, (Below.refl _ _).drew⟩
                    rcases HOR.out with h1 | ⟨j, hj, h1, h2⟩
                    · left; rw [h1]; simp
                    · right; exact ⟨j, hj, Nat.zero_le _, h1, h2⟩
                  case round =>
                    obtain ⟨b, m, rfl, rfl, hm, HI, HBw⟩ := hrel
                    have PDe_w := hide (Stab.go HBw.out PDe_v.out)
                    have PDc_w := hide (Stab.go HBw.out PDc_v.out)
                    have n3 : wr.cell? ⟨b9, 1, none⟩ = some (.slice ep1 pe.length ep3) := PDe_w.out.row.cell 1
                    by_cases hlm : m < pe.length
                    · have hmi : (m : Int) < (pe.length : Int) := by omega
                      cases b with
                      | true =>
                        as_aux_lemma =>
                          have HSS := hide (show ∀ x, Below wr.heap.size wr x → True from fun _ _ => trivial)
                          go_wp2_with fail
                          refine wp_region_held (S := fun _ : World => True) (by kernel_rfl) ?_
                          have HS := hide trivial
                          refine wpAnyH_take (i := 0) (oi := _) (v := .bool true) rfl (by kernel_rfl) (by kernel_rfl) (by kernel_rfl) (fun _ _ _ h => h) (Or.inl ⟨by rfl, by intro w hSw; go_split_ands; go_simp⟩) HS.out ?_
                          simp only [Act.put, List.getElem_toArray, List.getElem_cons_zero, List.setIfInBounds_toArray, List.set_cons_zero, List.set_cons_succ]
                          refine wpAnyH_take (i := 1) (oi := _) (v := .bool true) rfl (by kernel_rfl) (by kernel_rfl) (by kernel_rfl) (fun _ _ _ h => h) (Or.inl ⟨by rfl, by intro w hSw; go_split_ands; go_simp⟩) HS.out ?_
                          simp only [Act.put, List.getElem_toArray, List.getElem_cons_zero, List.getElem_cons_succ, List.setIfInBounds_toArray, List.set_cons_zero, List.set_cons_succ]
                          refine wpAnyH_take (i := 2) (oi := _) (v := undef) rfl (by kernel_rfl) (by kernel_rfl) (by kernel_rfl) (fun _ _ _ h => h) (Or.inr ⟨by rfl, rfl⟩) HS.out ?_
                          simp only [Act.put, List.getElem_toArray, List.getElem_cons_zero, List.getElem_cons_succ, List.setIfInBounds_toArray, List.set_cons_zero, List.set_cons_succ]
                          refine wpAnyH_take (i := 3) (oi := _) (v := undef) rfl (by kernel_rfl) (by kernel_rfl) (by kernel_rfl) (fun _ _ _ h => h) (Or.inr ⟨by rfl, rfl⟩) HS.out ?_
                          simp only [Act.put, List.getElem_toArray, List.getElem_cons_zero, List.getElem_cons_succ, List.setIfInBounds_toArray, List.set_cons_zero, List.set_cons_succ]
                          refine wpAnyH_take (i := 4) (oi := _) (v := undef) rfl (by kernel_rfl) (by kernel_rfl) (by kernel_rfl) (fun _ _ _ h => h) (Or.inr ⟨by rfl, rfl⟩) HS.out ?_
                          simp only [Act.put, List.getElem_toArray, List.getElem_cons_zero, List.getElem_cons_succ, List.setIfInBounds_toArray, List.set_cons_zero, List.set_cons_succ]
                          refine wpAnyH_take (i := 5) (oi := _) (v := undef) rfl (by kernel_rfl) (by kernel_rfl) (by kernel_rfl) (fun _ _ _ h => h) (Or.inr ⟨by rfl, rfl⟩) HS.out ?_
                          simp only [Act.put, List.getElem_toArray, List.getElem_cons_zero, List.getElem_cons_succ, List.setIfInBounds_toArray, List.set_cons_zero, List.set_cons_succ]
                          refine wpAnyH_take (i := 6) (oi := _) (v := undef) rfl (by kernel_rfl) (by kernel_rfl) (by kernel_rfl) (fun _ _ _ h => h) (Or.inr ⟨by rfl, rfl⟩) HS.out ?_
                          simp only [Act.put, List.getElem_toArray, List.getElem_cons_zero, List.getElem_cons_succ, List.setIfInBounds_toArray, List.set_cons_zero, List.set_cons_succ]
                          refine wpAnyH_take (i := 7) (oi := _) (v := undef) rfl (by kernel_rfl) (by kernel_rfl) (by kernel_rfl) (fun _ _ _ h => h) (Or.inr ⟨by rfl, rfl⟩) HS.out ?_
                          simp only [Act.put, List.getElem_toArray, List.getElem_cons_zero, List.getElem_cons_succ, List.setIfInBounds_toArray, List.set_cons_zero, List.set_cons_succ]
                          refine wpAnyH_take (i := 8) (oi := _) (v := undef) rfl (by kernel_rfl) (by kernel_rfl) (by kernel_rfl) (fun _ _ _ h => h) (Or.inr ⟨by rfl, rfl⟩) HS.out ?_
                          simp only [Act.put, List.getElem_toArray, List.getElem_cons_zero, List.getElem_cons_succ, List.setIfInBounds_toArray, List.set_cons_zero, List.set_cons_succ]
                          refine wpAnyH_take (i := 9) (oi := _) (v := undef) rfl (by kernel_rfl) (by kernel_rfl) (by kernel_rfl) (fun _ _ _ h => h) (Or.inr ⟨by rfl, rfl⟩) HS.out ?_
                          simp only [Act.put, List.getElem_toArray, List.getElem_cons_zero, List.getElem_cons_succ, List.setIfInBounds_toArray, List.set_cons_zero, List.set_cons_succ]
                          refine wpAnyH_take (i := 10) (oi := _) (v := undef) rfl (by kernel_rfl) (by kernel_rfl) (by kernel_rfl) (fun _ _ _ h => h) (Or.inr ⟨by rfl, rfl⟩) HS.out ?_
                          simp only [Act.put, List.getElem_toArray, List.getElem_cons_zero, List.getElem_cons_succ, List.setIfInBounds_toArray, List.set_cons_zero, List.set_cons_succ]
                          refine wpAnyH_take (i := 11) (oi := _) (v := undef) rfl (by kernel_rfl) (by kernel_rfl) (by kernel_rfl) (fun _ _ _ h => h) (Or.inr ⟨by rfl, rfl⟩) HS.out ?_
                          simp only [Act.put, List.getElem_toArray, List.getElem_cons_zero, List.getElem_cons_succ, List.setIfInBounds_toArray, List.set_cons_zero, List.set_cons_succ]
                          refine wpAnyH_take (i := 12) (oi := _) (v := undef) rfl (by kernel_rfl) (by kernel_rfl) (by kernel_rfl) (fun _ _ _ h => h) (Or.inr ⟨by rfl, rfl⟩) HS.out ?_
                          simp only [Act.put, List.getElem_toArray, List.getElem_cons_zero, List.getElem_cons_succ, List.setIfInBounds_toArray, List.set_cons_zero, List.set_cons_succ]
                          refine wpAnyH_take (i := 13) (oi := _) (v := undef) rfl (by kernel_rfl) (by kernel_rfl) (by kernel_rfl) (fun _ _ _ h => h) (Or.inr ⟨by rfl, rfl⟩) HS.out ?_
                          simp only [Act.put, List.getElem_toArray, List.getElem_cons_zero, List.getElem_cons_succ, List.setIfInBounds_toArray, List.set_cons_zero, List.set_cons_succ]
                          refine wpAnyH_take (i := 14) (oi := _) (v := undef) rfl (by kernel_rfl) (by kernel_rfl) (by kernel_rfl) (fun _ _ _ h => h) (Or.inr ⟨by rfl, rfl⟩) HS.out ?_
                          simp only [Act.put, List.getElem_toArray, List.getElem_cons_zero, List.getElem_cons_succ, List.setIfInBounds_toArray, List.set_cons_zero, List.set_cons_succ]
                          refine wpAnyH_take (i := 15) (oi := _) (v := undef) rfl (by kernel_rfl) (by kernel_rfl) (by kernel_rfl) (fun _ _ _ h => h) (Or.inr ⟨by rfl, rfl⟩) HS.out ?_
                          simp only [Act.put, List.getElem_toArray, List.getElem_cons_zero, List.getElem_cons_succ, List.setIfInBounds_toArray, List.set_cons_zero, List.set_cons_succ]
                          refine wpAnyH_take (i := 16) (oi := _) (v := undef) rfl (by kernel_rfl) (by kernel_rfl) (by kernel_rfl) (fun _ _ _ h => h) (Or.inr ⟨by rfl, rfl⟩) HS.out ?_
                          simp only [Act.put, List.getElem_toArray, List.getElem_cons_zero, List.getElem_cons_succ, List.setIfInBounds_toArray, List.set_cons_zero, List.set_cons_succ]
                          refine wpAnyH_take (i := 17) (oi := _) (v := undef) rfl (by kernel_rfl) (by kernel_rfl) (by kernel_rfl) (fun _ _ _ h => h) (Or.inr ⟨by rfl, rfl⟩) HS.out ?_
                          simp only [Act.put, List.getElem_toArray, List.getElem_cons_zero, List.getElem_cons_succ, List.setIfInBounds_toArray, List.set_cons_zero, List.set_cons_succ]
                          refine wpAnyH_take (i := 18) (oi := _) (v := undef) rfl (by kernel_rfl) (by kernel_rfl) (by kernel_rfl) (fun _ _ _ h => h) (Or.inr ⟨by rfl, rfl⟩) HS.out ?_
                          simp only [Act.put, List.getElem_toArray, List.getElem_cons_zero, List.getElem_cons_succ, List.setIfInBounds_toArray, List.set_cons_zero, List.set_cons_succ]
                          refine wpAnyH_take (i := 19) (oi := _) (v := undef) rfl (by kernel_rfl) (by kernel_rfl) (by kernel_rfl) (fun _ _ _ h => h) (Or.inr ⟨by rfl, rfl⟩) HS.out ?_
                          simp only [Act.put, List.getElem_toArray, List.getElem_cons_zero, List.getElem_cons_succ, List.setIfInBounds_toArray, List.set_cons_zero, List.set_cons_succ]
                          refine wpAnyH_take (i := 20) (oi := _) (v := undef) rfl (by kernel_rfl) (by kernel_rfl) (by kernel_rfl) (fun _ _ _ h => h) (Or.inr ⟨by rfl, rfl⟩) HS.out ?_
                          simp only [Act.put, List.getElem_toArray, List.getElem_cons_zero, List.getElem_cons_succ, List.setIfInBounds_toArray, List.set_cons_zero, List.set_cons_succ]
                          refine wpAnyH_take (i := 21) (oi := _) (v := undef) rfl (by kernel_rfl) (by kernel_rfl) (by kernel_rfl) (fun _ _ _ h => h) (Or.inr ⟨by rfl, rfl⟩) HS.out ?_
                          simp only [Act.put, List.getElem_toArray, List.getElem_cons_zero, List.getElem_cons_succ, List.setIfInBounds_toArray, List.set_cons_zero, List.set_cons_succ]
                          refine wpAnyH_take (i := 22) (oi := _) (v := undef) rfl (by kernel_rfl) (by kernel_rfl) (by kernel_rfl) (fun _ _ _ h => h) (Or.inr ⟨by rfl, rfl⟩) HS.out ?_
                          simp only [Act.put, List.getElem_toArray, List.getElem_cons_zero, List.getElem_cons_succ, List.setIfInBounds_toArray, List.set_cons_zero, List.set_cons_succ]
                          refine wpAnyH_take (i := 23) (oi := _) (v := undef) rfl (by kernel_rfl) (by kernel_rfl) (by kernel_rfl) (fun _ _ _ h => h) (Or.inr ⟨by rfl, rfl⟩) HS.out ?_
                          simp only [Act.put, List.getElem_toArray, List.getElem_cons_zero, List.getElem_cons_succ, List.setIfInBounds_toArray, List.set_cons_zero, List.set_cons_succ]
                          refine wpAnyH_take (i := 24) (oi := _) (v := .bool true) rfl (by kernel_rfl) (by kernel_rfl) (by kernel_rfl) (fun _ _ _ h => h) (Or.inl ⟨by rfl, by intro w hSw; go_split_ands; go_simp⟩) HS.out ?_
                          simp only [Act.put, List.getElem_toArray, List.getElem_cons_zero, List.getElem_cons_succ, List.setIfInBounds_toArray, List.set_cons_zero, List.set_cons_succ]
                          refine wpAnyH_take (i := 25) (oi := _) (v := .bool true) rfl (by kernel_rfl) (by kernel_rfl) (by kernel_rfl) (fun _ _ _ h => h) (Or.inl ⟨by rfl, by intro w hSw; go_split_ands; go_simp⟩) HS.out ?_
                          simp only [Act.put, List.getElem_toArray, List.getElem_cons_zero, List.getElem_cons_succ, List.setIfInBounds_toArray, List.set_cons_zero, List.set_cons_succ]
                          refine wpAnyH_done (by kernel_rfl) ?_ _
                          clear n3
                          go_wp2
                          go_roundw
                          case rel => exact ⟨true, m + 1, rfl, by go_num, by omega, .inl rfl, HBw.out.drew⟩
                          case measure => simp [intOf]; omega
                      | false =>
                        as_aux_lemma =>
                          obtain ⟨gp, op, hep, hgp, hcp⟩ : ∃ g off, ep1 = some ⟨g, off, none⟩ ∧ _ := by
                            obtain ⟨p', cap, he, _, _, _, h4⟩ := PDe_w.out.rp
                            cases he
                            exact h4 (by omega)
                          subst hep
                          obtain ⟨k0, k1⟩ := hcp m hlm
                          obtain ⟨P1, hP1⟩ : ∃ A, A = (pe[m]'hlm).1 := ⟨_, rfl⟩
                          obtain ⟨P2, hP2⟩ : ∃ A, A = (pe[m]'hlm).2 := ⟨_, rfl⟩
                          rw [← hP1] at k0
                          rw [← hP2] at k1
                          have HK0 := hide k0
                          have HK1 := hide k1
                          have HGP := hide hgp
                          have m4 : wr.cell? ⟨gc, oc + i, none⟩ = some (.string A) := (HBw.out.cell (p := ⟨gc, oc + i, none⟩) HGC.out).trans HM2.out
                          have HM4 := hide m4
                          have HP1 := hide hP1
                          have HP2 := hide hP2
                          have hgcl := Nat.lt_of_lt_of_le HGC.out HBw.out.size
                          have HSS := hide (show ∀ x, Below wr.heap.size wr x → x.cell? ⟨b9, 1, none⟩ = some (.slice (some ⟨gp, op, none⟩) pe.length ep3) ∧ x.cell? ⟨b11, 0, none⟩ = some (.slice (some ⟨gc, oc, none⟩) xc.length cs3) ∧ x.cell? ⟨gp, op + m * 2, none⟩ = some (.int .i64 P1) ∧ x.cell? ⟨gp, op + m * 2 + 1, none⟩ = some (.string P2) ∧ x.cell? ⟨gc, oc + i, none⟩ = some (.string A) from
                            fun x h => ⟨(Row.after h PDe_w.out.row).cell 1, (Row.after h PDc_w.out.row).cell 0, (h.cell (p := ⟨gp, op + m * 2, none⟩) HGP.out).trans HK0.out, (h.cell (p := ⟨gp, op + m * 2 + 1, none⟩) HGP.out).trans HK1.out, (h.cell (p := ⟨gc, oc + i, none⟩) hgcl).trans HM4.out⟩)
                          clear k0 k1 hcp hgp m4 hP1 hP2 n3 hgcl
                          have n3 : wr.cell? ⟨b9, 1, none⟩ = some (.slice (some ⟨gp, op, none⟩) pe.length ep3) := PDe_w.out.row.cell 1
                          by_cases hat : P1 = (i : Int)
                          · have hae : (P1 == (i : Int)) = true := by simpa using hat
                            have HAT := hide hat
                            clear hat
                            go_wp2_with fail
                            clear n3
                            refine wp_region_held (S := fun x : World => x.cell? ⟨b9, 1, none⟩ = some (.slice (some ⟨gp, op, none⟩) pe.length ep3) ∧ x.cell? ⟨b11, 0, none⟩ = some (.slice (some ⟨gc, oc, none⟩) xc.length cs3) ∧ x.cell? ⟨gp, op + m * 2, none⟩ = some (.int .i64 P1) ∧ x.cell? ⟨gp, op + m * 2 + 1, none⟩ = some (.string P2) ∧ x.cell? ⟨gc, oc + i, none⟩ = some (.string A)) (by kernel_rfl) ?_
                            have HS := hide (HSS.out { wr with drawn := wr.drawn + 1 } (Below.refl _ _).drew)
                            refine wpAnyH_take (i := 0) (oi := _) (v := .bool false) rfl (by kernel_rfl) (by kernel_rfl) (by kernel_rfl) (fun _ _ _ h => h) (Or.inl ⟨by rfl, by intro w hSw; go_split_ands; go_simp⟩) HS.out ?_
                            simp only [Act.put, List.getElem_toArray, List.getElem_cons_zero, List.setIfInBounds_toArray, List.set_cons_zero, List.set_cons_succ]
                            refine wpAnyH_take (i := 1) (oi := _) (v := .bool false) rfl (by kernel_rfl) (by kernel_rfl) (by kernel_rfl) (fun _ _ _ h => h) (Or.inl ⟨by rfl, by intro w hSw; go_split_ands; go_simp⟩) HS.out ?_
                            simp only [Act.put, List.getElem_toArray, List.getElem_cons_zero, List.getElem_cons_succ, List.setIfInBounds_toArray, List.set_cons_zero, List.set_cons_succ]
                            refine wpAnyH_take (i := 2) (oi := _) (v := .pointer (some ⟨b9, 1, none⟩)) rfl (by kernel_rfl) (by kernel_rfl) (by kernel_rfl) (fun _ _ _ h => h) (Or.inl ⟨by rfl, by intro w hSw; go_split_ands; go_simp⟩) HS.out ?_
                            simp only [Act.put, List.getElem_toArray, List.getElem_cons_zero, List.getElem_cons_succ, List.setIfInBounds_toArray, List.set_cons_zero, List.set_cons_succ]
                            refine wpAnyH_take (i := 3) (oi := _) (v := .slice (some ⟨gp, op, none⟩) pe.length ep3) rfl (by kernel_rfl) (by kernel_rfl) (by kernel_rfl) (fun _ _ _ h => h) (Or.inl ⟨by rfl, by intro w hSw; go_split_ands; go_simp⟩) HS.out ?_
                            simp only [Act.put, List.getElem_toArray, List.getElem_cons_zero, List.getElem_cons_succ, List.setIfInBounds_toArray, List.set_cons_zero, List.set_cons_succ]
                            refine wpAnyH_take (i := 4) (oi := _) (v := .int .i64 (m : Int)) rfl (by kernel_rfl) (by kernel_rfl) (by kernel_rfl) (fun _ _ _ h => h) (Or.inl ⟨by rfl, by intro w hSw; go_split_ands; go_simp⟩) HS.out ?_
                            simp only [Act.put, List.getElem_toArray, List.getElem_cons_zero, List.getElem_cons_succ, List.setIfInBounds_toArray, List.set_cons_zero, List.set_cons_succ]
                            refine wpAnyH_take (i := 5) (oi := _) (v := .pointer (some ⟨gp, op + m * 2, none⟩)) rfl (by kernel_rfl) (by kernel_rfl) (by kernel_rfl) (fun _ _ _ h => h) (Or.inl ⟨by rfl, by intro w hSw; go_split_ands; go_simp⟩) HS.out ?_
                            simp only [Act.put, List.getElem_toArray, List.getElem_cons_zero, List.getElem_cons_succ, List.setIfInBounds_toArray, List.set_cons_zero, List.set_cons_succ]
                            refine wpAnyH_take (i := 6) (oi := _) (v := .pointer (some ⟨gp, op + m * 2, none⟩)) rfl (by kernel_rfl) (by kernel_rfl) (by kernel_rfl) (fun _ _ _ h => h) (Or.inl ⟨by rfl, by intro w hSw; go_split_ands; go_simp⟩) HS.out ?_
                            simp only [Act.put, List.getElem_toArray, List.getElem_cons_zero, List.getElem_cons_succ, List.setIfInBounds_toArray, List.set_cons_zero, List.set_cons_succ]
                            refine wpAnyH_take (i := 7) (oi := _) (v := .int .i64 P1) rfl (by kernel_rfl) (by kernel_rfl) (by kernel_rfl) (fun _ _ _ h => h) (Or.inl ⟨by rfl, by intro w hSw; go_split_ands; go_simp⟩) HS.out ?_
                            simp only [Act.put, List.getElem_toArray, List.getElem_cons_zero, List.getElem_cons_succ, List.setIfInBounds_toArray, List.set_cons_zero, List.set_cons_succ]
                            refine wpAnyH_take (i := 8) (oi := _) (v := .int .i64 (i : Int)) rfl (by kernel_rfl) (by kernel_rfl) (by kernel_rfl) (fun _ _ _ h => h) (Or.inl ⟨by rfl, by intro w hSw; go_split_ands; go_simp⟩) HS.out ?_
                            simp only [Act.put, List.getElem_toArray, List.getElem_cons_zero, List.getElem_cons_succ, List.setIfInBounds_toArray, List.set_cons_zero, List.set_cons_succ]
                            refine wpAnyH_take (i := 9) (oi := _) (v := .bool true) rfl (by kernel_rfl) (by kernel_rfl) (by kernel_rfl) (fun _ _ _ h => h) (Or.inl ⟨by rfl, by intro w hSw; go_split_ands; go_simp⟩) HS.out ?_
                            simp only [Act.put, List.getElem_toArray, List.getElem_cons_zero, List.getElem_cons_succ, List.setIfInBounds_toArray, List.set_cons_zero, List.set_cons_succ]
                            refine wpAnyH_take (i := 10) (oi := _) (v := .bool true) rfl (by kernel_rfl) (by kernel_rfl) (by kernel_rfl) (fun _ _ _ h => h) (Or.inl ⟨by rfl, by intro w hSw; go_split_ands; go_simp⟩) HS.out ?_
                            simp only [Act.put, List.getElem_toArray, List.getElem_cons_zero, List.getElem_cons_succ, List.setIfInBounds_toArray, List.set_cons_zero, List.set_cons_succ]
                            refine wpAnyH_take (i := 11) (oi := _) (v := .pointer (some ⟨b9, 1, none⟩)) rfl (by kernel_rfl) (by kernel_rfl) (by kernel_rfl) (fun _ _ _ h => h) (Or.inl ⟨by rfl, by intro w hSw; go_split_ands; go_simp⟩) HS.out ?_
                            simp only [Act.put, List.getElem_toArray, List.getElem_cons_zero, List.getElem_cons_succ, List.setIfInBounds_toArray, List.set_cons_zero, List.set_cons_succ]
                            refine wpAnyH_take (i := 12) (oi := _) (v := .slice (some ⟨gp, op, none⟩) pe.length ep3) rfl (by kernel_rfl) (by kernel_rfl) (by kernel_rfl) (fun _ _ _ h => h) (Or.inl ⟨by rfl, by intro w hSw; go_split_ands; go_simp⟩) HS.out ?_
                            simp only [Act.put, List.getElem_toArray, List.getElem_cons_zero, List.getElem_cons_succ, List.setIfInBounds_toArray, List.set_cons_zero, List.set_cons_succ]
                            refine wpAnyH_take (i := 13) (oi := _) (v := .int .i64 (m : Int)) rfl (by kernel_rfl) (by kernel_rfl) (by kernel_rfl) (fun _ _ _ h => h) (Or.inl ⟨by rfl, by intro w hSw; go_split_ands; go_simp⟩) HS.out ?_
                            simp only [Act.put, List.getElem_toArray, List.getElem_cons_zero, List.getElem_cons_succ, List.setIfInBounds_toArray, List.set_cons_zero, List.set_cons_succ]
                            refine wpAnyH_take (i := 14) (oi := _) (v := .pointer (some ⟨gp, op + m * 2, none⟩)) rfl (by kernel_rfl) (by kernel_rfl) (by kernel_rfl) (fun _ _ _ h => h) (Or.inl ⟨by rfl, by intro w hSw; go_split_ands; go_simp⟩) HS.out ?_
                            simp only [Act.put, List.getElem_toArray, List.getElem_cons_zero, List.getElem_cons_succ, List.setIfInBounds_toArray, List.set_cons_zero, List.set_cons_succ]
                            refine wpAnyH_take (i := 15) (oi := _) (v := .pointer (some ⟨gp, op + m * 2 + 1, none⟩)) rfl (by kernel_rfl) (by kernel_rfl) (by kernel_rfl) (fun _ _ _ h => h) (Or.inl ⟨by rfl, by intro w hSw; go_split_ands; go_simp⟩) HS.out ?_
                            simp only [Act.put, List.getElem_toArray, List.getElem_cons_zero, List.getElem_cons_succ, List.setIfInBounds_toArray, List.set_cons_zero, List.set_cons_succ]
                            refine wpAnyH_take (i := 16) (oi := _) (v := .string P2) rfl (by kernel_rfl) (by kernel_rfl) (by kernel_rfl) (fun _ _ _ h => h) (Or.inl ⟨by rfl, by intro w hSw; go_split_ands; go_simp⟩) HS.out ?_
                            simp only [Act.put, List.getElem_toArray, List.getElem_cons_zero, List.getElem_cons_succ, List.setIfInBounds_toArray, List.set_cons_zero, List.set_cons_succ]
                            refine wpAnyH_take (i := 17) (oi := _) (v := .pointer (some ⟨b11, 0, none⟩)) rfl (by kernel_rfl) (by kernel_rfl) (by kernel_rfl) (fun _ _ _ h => h) (Or.inl ⟨by rfl, by intro w hSw; go_split_ands; go_simp⟩) HS.out ?_
                            simp only [Act.put, List.getElem_toArray, List.getElem_cons_zero, List.getElem_cons_succ, List.setIfInBounds_toArray, List.set_cons_zero, List.set_cons_succ]
                            refine wpAnyH_take (i := 18) (oi := _) (v := .slice (some ⟨gc, oc, none⟩) xc.length cs3) rfl (by kernel_rfl) (by kernel_rfl) (by kernel_rfl) (fun _ _ _ h => h) (Or.inl ⟨by rfl, by intro w hSw; go_split_ands; go_simp⟩) HS.out ?_
                            simp only [Act.put, List.getElem_toArray, List.getElem_cons_zero, List.getElem_cons_succ, List.setIfInBounds_toArray, List.set_cons_zero, List.set_cons_succ]
                            refine wpAnyH_take (i := 19) (oi := _) (v := .int .i64 (i : Int)) rfl (by kernel_rfl) (by kernel_rfl) (by kernel_rfl) (fun _ _ _ h => h) (Or.inl ⟨by rfl, by intro w hSw; go_split_ands; go_simp⟩) HS.out ?_
                            simp only [Act.put, List.getElem_toArray, List.getElem_cons_zero, List.getElem_cons_succ, List.setIfInBounds_toArray, List.set_cons_zero, List.set_cons_succ]
                            refine wpAnyH_take (i := 20) (oi := _) (v := .pointer (some ⟨gc, oc + i, none⟩)) rfl (by kernel_rfl) (by kernel_rfl) (by kernel_rfl) (fun _ _ _ h => h) (Or.inl ⟨by rfl, by intro w hSw; go_split_ands; go_simp⟩) HS.out ?_
                            simp only [Act.put, List.getElem_toArray, List.getElem_cons_zero, List.getElem_cons_succ, List.setIfInBounds_toArray, List.set_cons_zero, List.set_cons_succ]
                            refine wpAnyH_take (i := 21) (oi := _) (v := .string A) rfl (by kernel_rfl) (by kernel_rfl) (by kernel_rfl) (fun _ _ _ h => h) (Or.inl ⟨by rfl, by intro w hSw; go_split_ands; go_simp⟩) HS.out ?_
                            simp only [Act.put, List.getElem_toArray, List.getElem_cons_zero, List.getElem_cons_succ, List.setIfInBounds_toArray, List.set_cons_zero, List.set_cons_succ]
                            refine wpAnyH_take (i := 22) (oi := _) (v := .bool (P2.toList == A.toList)) rfl (by kernel_rfl) (by kernel_rfl) (by kernel_rfl) (fun _ _ _ h => h) (Or.inl ⟨by rfl, by intro w hSw; go_split_ands; go_simp⟩) HS.out ?_
                            simp only [Act.put, List.getElem_toArray, List.getElem_cons_zero, List.getElem_cons_succ, List.setIfInBounds_toArray, List.set_cons_zero, List.set_cons_succ]
                            refine wpAnyH_take (i := 23) (oi := _) (v := .bool (P2.toList == A.toList)) rfl (by kernel_rfl) (by kernel_rfl) (by kernel_rfl) (fun _ _ _ h => h) (Or.inl ⟨by rfl, by intro w hSw; go_split_ands; go_simp⟩) HS.out ?_
                            simp only [Act.put, List.getElem_toArray, List.getElem_cons_zero, List.getElem_cons_succ, List.setIfInBounds_toArray, List.set_cons_zero, List.set_cons_succ]
                            refine wpAnyH_take (i := 24) (oi := _) (v := .bool (P2.toList == A.toList)) rfl (by kernel_rfl) (by kernel_rfl) (by kernel_rfl) (fun _ _ _ h => h) (Or.inl ⟨by rfl, by intro w hSw; go_split_ands; go_simp⟩) HS.out ?_
                            simp only [Act.put, List.getElem_toArray, List.getElem_cons_zero, List.getElem_cons_succ, List.setIfInBounds_toArray, List.set_cons_zero, List.set_cons_succ]
                            refine wpAnyH_take (i := 25) (oi := _) (v := .bool (P2.toList == A.toList)) rfl (by kernel_rfl) (by kernel_rfl) (by kernel_rfl) (fun _ _ _ h => h) (Or.inl ⟨by rfl, by intro w hSw; go_split_ands; go_simp⟩) HS.out ?_
                            simp only [Act.put, List.getElem_toArray, List.getElem_cons_zero, List.getElem_cons_succ, List.setIfInBounds_toArray, List.set_cons_zero, List.set_cons_succ]
                            refine wpAnyH_done (by kernel_rfl) ?_ _
                            go_wp2
                            go_roundw
                            case rel =>
                              refine ⟨_, m + 1, rfl, by go_num, by omega, ?_, HBw.out.drew⟩
                              rcases HI.out with h1 | ⟨n, hn, h0, h1, h2⟩
                              · cases h1
                              · by_cases hnm : n = m
                                · subst hnm
                                  left
                                  rw [HP2.out, h2]
                                  simp
                                · exact .inr ⟨n, hn, by omega, h1, h2⟩
                            case measure => simp [intOf]; omega
                          · have hae : (P1 == (i : Int)) = false := by simpa using hat
                            have HAT := hide hat
                            clear hat
                            go_wp2_with fail
                            clear n3
                            refine wp_region_held (S := fun x : World => x.cell? ⟨b9, 1, none⟩ = some (.slice (some ⟨gp, op, none⟩) pe.length ep3) ∧ x.cell? ⟨b11, 0, none⟩ = some (.slice (some ⟨gc, oc, none⟩) xc.length cs3) ∧ x.cell? ⟨gp, op + m * 2, none⟩ = some (.int .i64 P1) ∧ x.cell? ⟨gp, op + m * 2 + 1, none⟩ = some (.string P2) ∧ x.cell? ⟨gc, oc + i, none⟩ = some (.string A)) (by kernel_rfl) ?_
                            have HS := hide (HSS.out { wr with drawn := wr.drawn + 1 } (Below.refl _ _).drew)
                            refine wpAnyH_take (i := 0) (oi := _) (v := .bool false) rfl (by kernel_rfl) (by kernel_rfl) (by kernel_rfl) (fun _ _ _ h => h) (Or.inl ⟨by rfl, by intro w hSw; go_split_ands; go_simp⟩) HS.out ?_
                            simp only [Act.put, List.getElem_toArray, List.getElem_cons_zero, List.setIfInBounds_toArray, List.set_cons_zero, List.set_cons_succ]
                            refine wpAnyH_take (i := 1) (oi := _) (v := .bool false) rfl (by kernel_rfl) (by kernel_rfl) (by kernel_rfl) (fun _ _ _ h => h) (Or.inl ⟨by rfl, by intro w hSw; go_split_ands; go_simp⟩) HS.out ?_
                            simp only [Act.put, List.getElem_toArray, List.getElem_cons_zero, List.getElem_cons_succ, List.setIfInBounds_toArray, List.set_cons_zero, List.set_cons_succ]
                            refine wpAnyH_take (i := 2) (oi := _) (v := .pointer (some ⟨b9, 1, none⟩)) rfl (by kernel_rfl) (by kernel_rfl) (by kernel_rfl) (fun _ _ _ h => h) (Or.inl ⟨by rfl, by intro w hSw; go_split_ands; go_simp⟩) HS.out ?_
                            simp only [Act.put, List.getElem_toArray, List.getElem_cons_zero, List.getElem_cons_succ, List.setIfInBounds_toArray, List.set_cons_zero, List.set_cons_succ]
                            refine wpAnyH_take (i := 3) (oi := _) (v := .slice (some ⟨gp, op, none⟩) pe.length ep3) rfl (by kernel_rfl) (by kernel_rfl) (by kernel_rfl) (fun _ _ _ h => h) (Or.inl ⟨by rfl, by intro w hSw; go_split_ands; go_simp⟩) HS.out ?_
                            simp only [Act.put, List.getElem_toArray, List.getElem_cons_zero, List.getElem_cons_succ, List.setIfInBounds_toArray, List.set_cons_zero, List.set_cons_succ]
                            refine wpAnyH_take (i := 4) (oi := _) (v := .int .i64 (m : Int)) rfl (by kernel_rfl) (by kernel_rfl) (by kernel_rfl) (fun _ _ _ h => h) (Or.inl ⟨by rfl, by intro w hSw; go_split_ands; go_simp⟩) HS.out ?_
                            simp only [Act.put, List.getElem_toArray, List.getElem_cons_zero, List.getElem_cons_succ, List.setIfInBounds_toArray, List.set_cons_zero, List.set_cons_succ]
                            refine wpAnyH_take (i := 5) (oi := _) (v := .pointer (some ⟨gp, op + m * 2, none⟩)) rfl (by kernel_rfl) (by kernel_rfl) (by kernel_rfl) (fun _ _ _ h => h) (Or.inl ⟨by rfl, by intro w hSw; go_split_ands; go_simp⟩) HS.out ?_
                            simp only [Act.put, List.getElem_toArray, List.getElem_cons_zero, List.getElem_cons_succ, List.setIfInBounds_toArray, List.set_cons_zero, List.set_cons_succ]
                            refine wpAnyH_take (i := 6) (oi := _) (v := .pointer (some ⟨gp, op + m * 2, none⟩)) rfl (by kernel_rfl) (by kernel_rfl) (by kernel_rfl) (fun _ _ _ h => h) (Or.inl ⟨by rfl, by intro w hSw; go_split_ands; go_simp⟩) HS.out ?_
                            simp only [Act.put, List.getElem_toArray, List.getElem_cons_zero, List.getElem_cons_succ, List.setIfInBounds_toArray, List.set_cons_zero, List.set_cons_succ]
                            refine wpAnyH_take (i := 7) (oi := _) (v := .int .i64 P1) rfl (by kernel_rfl) (by kernel_rfl) (by kernel_rfl) (fun _ _ _ h => h) (Or.inl ⟨by rfl, by intro w hSw; go_split_ands; go_simp⟩) HS.out ?_
                            simp only [Act.put, List.getElem_toArray, List.getElem_cons_zero, List.getElem_cons_succ, List.setIfInBounds_toArray, List.set_cons_zero, List.set_cons_succ]
                            refine wpAnyH_take (i := 8) (oi := _) (v := .int .i64 (i : Int)) rfl (by kernel_rfl) (by kernel_rfl) (by kernel_rfl) (fun _ _ _ h => h) (Or.inl ⟨by rfl, by intro w hSw; go_split_ands; go_simp⟩) HS.out ?_
                            simp only [Act.put, List.getElem_toArray, List.getElem_cons_zero, List.getElem_cons_succ, List.setIfInBounds_toArray, List.set_cons_zero, List.set_cons_succ]
                            refine wpAnyH_take (i := 9) (oi := _) (v := .bool false) rfl (by kernel_rfl) (by kernel_rfl) (by kernel_rfl) (fun _ _ _ h => h) (Or.inl ⟨by rfl, by intro w hSw; go_split_ands; go_simp⟩) HS.out ?_
                            simp only [Act.put, List.getElem_toArray, List.getElem_cons_zero, List.getElem_cons_succ, List.setIfInBounds_toArray, List.set_cons_zero, List.set_cons_succ]
                            refine wpAnyH_take (i := 10) (oi := _) (v := .bool false) rfl (by kernel_rfl) (by kernel_rfl) (by kernel_rfl) (fun _ _ _ h => h) (Or.inl ⟨by rfl, by intro w hSw; go_split_ands; go_simp⟩) HS.out ?_
                            simp only [Act.put, List.getElem_toArray, List.getElem_cons_zero, List.getElem_cons_succ, List.setIfInBounds_toArray, List.set_cons_zero, List.set_cons_succ]
                            refine wpAnyH_take (i := 11) (oi := _) (v := undef) rfl (by kernel_rfl) (by kernel_rfl) (by kernel_rfl) (fun _ _ _ h => h) (Or.inr ⟨by rfl, rfl⟩) HS.out ?_
                            simp only [Act.put, List.getElem_toArray, List.getElem_cons_zero, List.getElem_cons_succ, List.setIfInBounds_toArray, List.set_cons_zero, List.set_cons_succ]
                            refine wpAnyH_take (i := 12) (oi := _) (v := undef) rfl (by kernel_rfl) (by kernel_rfl) (by kernel_rfl) (fun _ _ _ h => h) (Or.inr ⟨by rfl, rfl⟩) HS.out ?_
                            simp only [Act.put, List.getElem_toArray, List.getElem_cons_zero, List.getElem_cons_succ, List.setIfInBounds_toArray, List.set_cons_zero, List.set_cons_succ]
                            refine wpAnyH_take (i := 13) (oi := _) (v := undef) rfl (by kernel_rfl) (by kernel_rfl) (by kernel_rfl) (fun _ _ _ h => h) (Or.inr ⟨by rfl, rfl⟩) HS.out ?_
                            simp only [Act.put, List.getElem_toArray, List.getElem_cons_zero, List.getElem_cons_succ, List.setIfInBounds_toArray, List.set_cons_zero, List.set_cons_succ]
                            refine wpAnyH_take (i := 14) (oi := _) (v := undef) rfl (by kernel_rfl) (by kernel_rfl) (by kernel_rfl) (fun _ _ _ h => h) (Or.inr ⟨by rfl, rfl⟩) HS.out ?_
                            simp only [Act.put, List.getElem_toArray, List.getElem_cons_zero, List.getElem_cons_succ, List.setIfInBounds_toArray, List.set_cons_zero, List.set_cons_succ]
                            refine wpAnyH_take (i := 15) (oi := _) (v := undef) rfl (by kernel_rfl) (by kernel_rfl) (by kernel_rfl) (fun _ _ _ h => h) (Or.inr ⟨by rfl, rfl⟩) HS.out ?_
                            simp only [Act.put, List.getElem_toArray, List.getElem_cons_zero, List.getElem_cons_succ, List.setIfInBounds_toArray, List.set_cons_zero, List.set_cons_succ]
                            refine wpAnyH_take (i := 16) (oi := _) (v := undef) rfl (by kernel_rfl) (by kernel_rfl) (by kernel_rfl) (fun _ _ _ h => h) (Or.inr ⟨by rfl, rfl⟩) HS.out ?_
                            simp only [Act.put, List.getElem_toArray, List.getElem_cons_zero, List.getElem_cons_succ, List.setIfInBounds_toArray, List.set_cons_zero, List.set_cons_succ]
                            refine wpAnyH_take (i := 17) (oi := _) (v := undef) rfl (by kernel_rfl) (by kernel_rfl) (by kernel_rfl) (fun _ _ _ h => h) (Or.inr ⟨by rfl, rfl⟩) HS.out ?_
                            simp only [Act.put, List.getElem_toArray, List.getElem_cons_zero, List.getElem_cons_succ, List.setIfInBounds_toArray, List.set_cons_zero, List.set_cons_succ]
                            refine wpAnyH_take (i := 18) (oi := _) (v := undef) rfl (by kernel_rfl) (by kernel_rfl) (by kernel_rfl) (fun _ _ _ h => h) (Or.inr ⟨by rfl, rfl⟩) HS.out ?_
                            simp only [Act.put, List.getElem_toArray, List.getElem_cons_zero, List.getElem_cons_succ, List.setIfInBounds_toArray, List.set_cons_zero, List.set_cons_succ]
                            refine wpAnyH_take (i := 19) (oi := _) (v := undef) rfl (by kernel_rfl) (by kernel_rfl) (by kernel_rfl) (fun _ _ _ h => h) (Or.inr ⟨by rfl, rfl⟩) HS.out ?_
                            simp only [Act.put, List.getElem_toArray, List.getElem_cons_zero, List.getElem_cons_succ, List.setIfInBounds_toArray, List.set_cons_zero, List.set_cons_succ]
                            refine wpAnyH_take (i := 20) (oi := _) (v := undef) rfl (by kernel_rfl) (by kernel_rfl) (by kernel_rfl) (fun _ _ _ h => h) (Or.inr ⟨by rfl, rfl⟩) HS.out ?_
                            simp only [Act.put, List.getElem_toArray, List.getElem_cons_zero, List.getElem_cons_succ, List.setIfInBounds_toArray, List.set_cons_zero, List.set_cons_succ]
                            refine wpAnyH_take (i := 21) (oi := _) (v := undef) rfl (by kernel_rfl) (by kernel_rfl) (by kernel_rfl) (fun _ _ _ h => h) (Or.inr ⟨by rfl, rfl⟩) HS.out ?_
                            simp only [Act.put, List.getElem_toArray, List.getElem_cons_zero, List.getElem_cons_succ, List.setIfInBounds_toArray, List.set_cons_zero, List.set_cons_succ]
                            refine wpAnyH_take (i := 22) (oi := _) (v := undef) rfl (by kernel_rfl) (by kernel_rfl) (by kernel_rfl) (fun _ _ _ h => h) (Or.inr ⟨by rfl, rfl⟩) HS.out ?_
                            simp only [Act.put, List.getElem_toArray, List.getElem_cons_zero, List.getElem_cons_succ, List.setIfInBounds_toArray, List.set_cons_zero, List.set_cons_succ]
                            refine wpAnyH_take (i := 23) (oi := _) (v := .bool false) rfl (by kernel_rfl) (by kernel_rfl) (by kernel_rfl) (fun _ _ _ h => h) (Or.inl ⟨by rfl, by intro w hSw; go_split_ands; go_simp⟩) HS.out ?_
                            simp only [Act.put, List.getElem_toArray, List.getElem_cons_zero, List.getElem_cons_succ, List.setIfInBounds_toArray, List.set_cons_zero, List.set_cons_succ]
                            refine wpAnyH_take (i := 24) (oi := _) (v := .bool false) rfl (by kernel_rfl) (by kernel_rfl) (by kernel_rfl) (fun _ _ _ h => h) (Or.inl ⟨by rfl, by intro w hSw; go_split_ands; go_simp⟩) HS.out ?_
                            simp only [Act.put, List.getElem_toArray, List.getElem_cons_zero, List.getElem_cons_succ, List.setIfInBounds_toArray, List.set_cons_zero, List.set_cons_succ]
                            refine wpAnyH_take (i := 25) (oi := _) (v := .bool false) rfl (by kernel_rfl) (by kernel_rfl) (by kernel_rfl) (fun _ _ _ h => h) (Or.inl ⟨by rfl, by intro w hSw; go_split_ands; go_simp⟩) HS.out ?_
                            simp only [Act.put, List.getElem_toArray, List.getElem_cons_zero, List.getElem_cons_succ, List.setIfInBounds_toArray, List.set_cons_zero, List.set_cons_succ]
                            refine wpAnyH_done (by kernel_rfl) ?_ _
                            go_wp2
                            go_roundw
                            case rel =>
                              refine ⟨false, m + 1, rfl, by go_num, by omega, ?_, HBw.out.drew⟩
                              rcases HI.out with h1 | ⟨n, hn, h0, h1, h2⟩
                              · cases h1
                              · by_cases hnm : n = m
                                · subst hnm
                                  exact absurd (HP1.out.trans h1) HAT.out
                                · exact .inr ⟨n, hn, by omega, h1, h2⟩
                            case measure => simp [intOf]; omega
                    · have hmi : ¬ (m : Int) < (pe.length : Int) := by omega
                      have hbt : b = true := by
                        rcases HI.out with h1 | ⟨n, hn, h0, _⟩
                        · exact h1
                        · omega
                      subst hbt
                      have HBz := hide (HBv.out.trans (HBw.out.mono HBv.out.size))
                      go_wp2
                      go_roundw
                      case rel => exact ⟨i + 1, by omega, by go_num, HBz⟩
                      case measure => simp [intOf]; omega
              · have hil : ¬ (i : Int) < (xe.length : Int) := by omega
                have hq0 : ((qc.length : Int) == 0) = true := by rw [HXL.out.2]; rfl
                have q11 : wr.cell? ⟨b11, 1, none⟩ = some (.slice cp1 qc.length cp3) := PDc_r.out.row.cell 1
                go_wp2
                go_ret
                exact ⟨rfl, BB_r.out⟩
          · have hfe : (f.c != 0) = true := by simpa using hfc
            clear hfc
            go_wp2
            go_ret
            exact ⟨rfl, BB_8.out⟩
end Go.Proofs.YtdnbfnahhkmmnaaDoor
