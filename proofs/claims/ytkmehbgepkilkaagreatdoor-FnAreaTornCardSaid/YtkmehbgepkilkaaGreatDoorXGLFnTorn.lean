/- The law FnAreaTorn, walked. -/
import Derived.Test.YtkmehbgepkilkaaGreatDoorXGDAFacts
import Derived.OrdersHeld
import Derived.Deep.RegionHeld3
import Derived.Deep.DeepCutAuto
import Derived.Deep.CutRange
namespace Go.Proofs.YtkmehbgepkilkaaGreatDoor
open Go.RowKit

instance stab_readsIA (v : Value) (ks : List Int) : Stab (fun w => ReadsI w v ks) := ⟨fun hb h => h.below hb (Nat.le_refl _)⟩
theorem crash_nil {xs : List ByteArray} {ks : List Int} (hk : ks.length ≤ 400) (h : right xs [] = true) : crashXs xs [] ks = xs ∧ crashPs xs [] ks = [] := by
  obtain ⟨h1, h2⟩ := crash_of hk h
  refine ⟨?_, h2⟩
  rw [h1]
  have h3 : keptOf ks [] = [] := List.length_eq_zero_iff.1 (Nat.le_zero.1 (by simpa using keptOf_len ks []))
  rw [h3]
  rfl
theorem torn_facts {xs : List ByteArray} {ps : List (Int × ByteArray)} {d : ByteArray} {a : Int} {ks : List Int} (hk : ks.length ≤ 400) (hp : ps = []) (h : (putOut xs ps d a).c = 0) :
    ∃ X, right (putOut xs ps d a).xs (putOut xs ps d a).ps = true ∧ crashXs (putOut xs ps d a).xs (putOut xs ps d a).ps ks = X ∧ crashPs (putOut xs ps d a).xs (putOut xs ps d a).ps ks = [] ∧ right X [] = true ∧
      (areaOut X [] = ⟨X, [], (areaOut xs ps).t, (areaOut xs ps).g, 0⟩ ∨ areaOut X [] = ⟨X, [], d, (areaOut xs ps).g + 1, 0⟩) := by
  subst hp
  obtain ⟨X, h1, _, h2, h3, h4, _, h5⟩ := torn_read hk h
  exact ⟨X, h1, h2, h3, h4, h5⟩
theorem all_facts {xs : List ByteArray} {ps : List (Int × ByteArray)} {d : ByteArray} {a : Int} {ks : List Int} (hk : ks.length ≤ 400) (ha : 200 ≤ a) (h : (putOut xs ps d a).c = 0) :
    ∃ X, right (putOut xs ps d a).xs (putOut xs ps d a).ps = true ∧ crashXs (putOut xs ps d a).xs (putOut xs ps d a).ps ks = X ∧ crashPs (putOut xs ps d a).xs (putOut xs ps d a).ps ks = [] ∧ right X [] = true ∧ areaOut X [] = ⟨X, [], d, (areaOut xs ps).g + 1, 0⟩ := by
  obtain ⟨X, h1, h2, _, h4⟩ := put_read ha h
  rw [h1]
  exact ⟨X, h2, (crash_nil hk h2).1, (crash_nil hk h2).2, h2, h4⟩
set_option maxRecDepth 100000 in
set_option maxHeartbeats 40000000 in
theorem fnAreaTorn_walk (vc vm : Value) (bc bm : List Int) (aF aR aU : Addr) (w : World) (hc : ReadsB w vc bc) (hm : ReadsB w vm bm) (hlc : bc.length ≤ 1048576) (hlm : bm.length ≤ 1048576) (hS : Sents aF aR aU w) (hG : St3.Laid w) :
    Calls Tryz.prog 4 #[vc, vm] w fun e w' => e = .returned (.bool true) ∧ Below w.heap.size w w' := by
  have SE_0 := hide hS
  have LG_0 := hide hG
  have VC_0 := hide hc
  have VM_0 := hide hm
  have BB_0 := hide (Below.refl w.heap.size w)
  obtain ⟨pc, cc, rfl, _⟩ := hc
  obtain ⟨pm, cm, rfl, _⟩ := hm
  have t1 : ¬ (1048576 : Int) < (bc.length : Int) := by omega
  have t2 : ¬ (1048576 : Int) < (bm.length : Int) := by omega
  clear hS hG
  go_enter Tryz.func4, Tryz.ntmps4
  go_wp2_with fail
  refine (drawAPut_any _ bc _ VC_0.out hlc).mono ?_
  rintro e w1 ⟨⟨us, up, xs, ps, tx, a, rfl, htx, dk⟩, hb⟩
  have HSD := hide dk.small
  have o1 := dk.os.reads
  have o2 := dk.op.reads
  obtain ⟨us1, us3, hus⟩ : ∃ p c, us = .slice p xs.length c := by obtain ⟨p, c, e, _⟩ := dk.os.reads; exact ⟨p, c, e⟩
  subst hus
  obtain ⟨up1, up3, hup⟩ : ∃ p c, up = .slice p ps.length c := by obtain ⟨p, c, e, _⟩ := dk.op.reads; exact ⟨p, c, e⟩
  subst hup
  have bn := below_new w1 (.cells #[.slice us1 xs.length us3, .slice up1 ps.length up3] 26)
  have hb3 := hb.trans (bn.mono hb.size)
  obtain ⟨b5, hb5⟩ : ∃ b, b = w1.heap.size := ⟨_, rfl⟩
  obtain ⟨W1, hW1⟩ : ∃ W, W = w1.alloc (.cells #[.slice us1 xs.length us3, .slice up1 ps.length up3] 26) := ⟨_, rfl⟩
  rw [← hW1] at hb3
  have PDd_1 := hide (show PDA b5 (.slice us1 xs.length us3) (.slice up1 ps.length up3) xs ps W1 from ⟨by rw [hW1, hb5]; exact row_new w1 _ _, by rw [hW1]; exact o1.below bn (Nat.le_refl _), by rw [hW1]; exact o2.below bn (Nat.le_refl _)⟩)
  have SE_1 := hide (Stab.go hb3 SE_0.out)
  have LG_1 := hide (Stab.go (P := fun x => St3.Laid x) hb3 LG_0.out)
  have VC_1 := hide (Stab.go (P := fun x => ReadsB x (.slice pc bc.length cc) bc) hb3 VC_0.out)
  have VM_1 := hide (Stab.go (P := fun x => ReadsB x (.slice pm bm.length cm) bm) hb3 VM_0.out)
  have BB_1 := hide (Stab.go (P := fun x => Below w.heap.size w x) hb3 BB_0.out)
  clear SE_0 LG_0 VC_0 VM_0 BB_0
  clear dk o1 o2 hb bn hb3
  go_wp2_with fail
  rw [← hW1, ← hb5]
  clear hW1 hb5
  refine (drawCrash_any _ bm _ VM_1.out hlm).mono ?_
  rintro e w2 ⟨⟨es, ep, xe, pe, u, ks, rfl, hks, ok, dk⟩, hb⟩
  have o3 := ok.reads
  obtain ⟨es1, es2, es3, rfl⟩ := dk.os.isSlice
  obtain ⟨ep1, ep2, ep3, rfl⟩ := dk.op.isSlice
  obtain ⟨u1, u2, u3, hu⟩ : ∃ p n c, u = .slice p n c := by obtain ⟨p, c, e, _⟩ := o3; exact ⟨p, _, c, e⟩
  subst hu
  have bn := below_new w2 (.cells #[.slice es1 es2 es3, .slice ep1 ep2 ep3] 26)
  have hb3 := hb.trans (bn.mono hb.size)
  obtain ⟨b8, hb8⟩ : ∃ b, b = w2.heap.size := ⟨_, rfl⟩
  obtain ⟨W2, hW2⟩ : ∃ W, W = w2.alloc (.cells #[.slice es1 es2 es3, .slice ep1 ep2 ep3] 26) := ⟨_, rfl⟩
  rw [← hW2] at hb3
  have RIk_2 := hide (show ReadsI W2 (.slice u1 u2 u3) ks by rw [hW2]; exact o3.below bn (Nat.le_refl _))
  have SE_2 := hide (Stab.go hb3 SE_1.out)
  have LG_2 := hide (Stab.go (P := fun x => St3.Laid x) hb3 LG_1.out)
  have VC_2 := hide (Stab.go (P := fun x => ReadsB x (.slice pc bc.length cc) bc) hb3 VC_1.out)
  have VM_2 := hide (Stab.go (P := fun x => ReadsB x (.slice pm bm.length cm) bm) hb3 VM_1.out)
  have BB_2 := hide (Stab.go (P := fun x => Below w.heap.size w x) hb3 BB_1.out)
  have PDd_2 := hide (Stab.go hb3 PDd_1.out)
  clear SE_1 LG_1 VC_1 VM_1 BB_1 PDd_1
  clear dk ok o3 hb bn hb3 VC_2 VM_2
  have k0 : (w2.alloc (.cells #[.slice es1 es2 es3, .slice ep1 ep2 ep3] 26)).cell? ⟨b5, 0, none⟩ = some (.slice us1 xs.length us3) := by rw [← hW2]; exact PDd_2.out.row.cell 0
  have k1 : (w2.alloc (.cells #[.slice es1 es2 es3, .slice ep1 ep2 ep3] 26)).cell? ⟨b5, 1, none⟩ = some (.slice up1 ps.length up3) := by rw [← hW2]; exact PDd_2.out.row.cell 1
  go_wp2_with fail
  clear k0 k1
  rw [← hW2, ← hb8]
  clear hW2 hb8
  have htx2 : tx.size ≤ 1048576 := by omega
  have hks4 : ks.length ≤ 400 := by omega
  refine (specAreaRead_any _ _ xs ps _ HSD.out.1 HSD.out.2.2.1 PDd_2.out.rs PDd_2.out.rp).mono ?_
  obtain ⟨o, Ho⟩ : ∃ o, Hid (o = areaOut xs ps) := ⟨_, rfl⟩
  rw [← Ho.out]
  rintro e w3 ⟨⟨ys, yp, rfl, ow1, ow2, _⟩, hb⟩
  have o1 := ow1.reads
  have o2 := ow2.reads
  obtain ⟨ys1, ys2, ys3, rfl⟩ := ow1.isSlice
  obtain ⟨yp1, yp2, yp3, rfl⟩ := ow2.isSlice
  have bn := below_new w3 (.cells #[.slice ys1 ys2 ys3, .slice yp1 yp2 yp3, .string o.t, .int .i64 o.g, .int .i64 o.c] 31)
  have hb3 := hb.trans (bn.mono hb.size)
  obtain ⟨b10, hb10⟩ : ∃ b, b = w3.heap.size := ⟨_, rfl⟩
  obtain ⟨W3, hW3⟩ : ∃ W, W = w3.alloc (.cells #[.slice ys1 ys2 ys3, .slice yp1 yp2 yp3, .string o.t, .int .i64 o.g, .int .i64 o.c] 31) := ⟨_, rfl⟩
  rw [← hW3] at hb3
  have POw_3 := hide (show POA b10 (.slice ys1 ys2 ys3) (.slice yp1 yp2 yp3) o W3 from ⟨by rw [hW3, hb10]; exact row_new w3 _ _, by rw [hW3]; exact o1.below bn (Nat.le_refl _), by rw [hW3]; exact o2.below bn (Nat.le_refl _)⟩)
  have SE_3 := hide (Stab.go hb3 SE_2.out)
  have LG_3 := hide (Stab.go (P := fun x => St3.Laid x) hb3 LG_2.out)
  have BB_3 := hide (Stab.go (P := fun x => Below w.heap.size w x) hb3 BB_2.out)
  have PDd_3 := hide (Stab.go hb3 PDd_2.out)
  have RIk_3 := hide (Stab.go (P := fun x => ReadsI x (.slice u1 u2 u3) ks) hb3 RIk_2.out)
  clear SE_2 LG_2 BB_2 PDd_2 RIk_2
  clear ow1 ow2 o1 o2 hb bn hb3
  have k0 : (w3.alloc (.cells #[.slice ys1 ys2 ys3, .slice yp1 yp2 yp3, .string o.t, .int .i64 o.g, .int .i64 o.c] 31)).cell? ⟨b5, 0, none⟩ = some (.slice us1 xs.length us3) := by rw [← hW3]; exact PDd_3.out.row.cell 0
  have k1 : (w3.alloc (.cells #[.slice ys1 ys2 ys3, .slice yp1 yp2 yp3, .string o.t, .int .i64 o.g, .int .i64 o.c] 31)).cell? ⟨b5, 1, none⟩ = some (.slice up1 ps.length up3) := by rw [← hW3]; exact PDd_3.out.row.cell 1
  go_wp2_with fail
  clear k0 k1
  rw [← hW3, ← hb10]
  clear hW3 hb10
  refine (implPt _ _ xs ps tx a aF aR aU _ HSD.out htx2 PDd_3.out.rs PDd_3.out.rp SE_3.out LG_3.out).mono ?_
  obtain ⟨r, Hr⟩ : ∃ o, Hid (o = putOut xs ps tx a) := ⟨_, rfl⟩
  rw [← Hr.out]
  rintro e w4 ⟨⟨rs, rp, rfl, ow1, ow2, _⟩, hb⟩
  have o1 := ow1.reads
  have o2 := ow2.reads
  obtain ⟨rs1, rs2, rs3, rfl⟩ := ow1.isSlice
  obtain ⟨rp1, rp2, rp3, rfl⟩ := ow2.isSlice
  have bn := below_new w4 (.cells #[.slice rs1 rs2 rs3, .slice rp1 rp2 rp3, .string r.t, .int .i64 r.g, .int .i64 r.c] 31)
  have hb3 := hb.trans (bn.mono hb.size)
  obtain ⟨b11, hb11⟩ : ∃ b, b = w4.heap.size := ⟨_, rfl⟩
  obtain ⟨W4, hW4⟩ : ∃ W, W = w4.alloc (.cells #[.slice rs1 rs2 rs3, .slice rp1 rp2 rp3, .string r.t, .int .i64 r.g, .int .i64 r.c] 31) := ⟨_, rfl⟩
  rw [← hW4] at hb3
  have POx_4 := hide (show POA b11 (.slice rs1 rs2 rs3) (.slice rp1 rp2 rp3) r W4 from ⟨by rw [hW4, hb11]; exact row_new w4 _ _, by rw [hW4]; exact o1.below bn (Nat.le_refl _), by rw [hW4]; exact o2.below bn (Nat.le_refl _)⟩)
  have SE_4 := hide (Stab.go hb3 SE_3.out)
  have LG_4 := hide (Stab.go (P := fun x => St3.Laid x) hb3 LG_3.out)
  have BB_4 := hide (Stab.go (P := fun x => Below w.heap.size w x) hb3 BB_3.out)
  have PDd_4 := hide (Stab.go hb3 PDd_3.out)
  have RIk_4 := hide (Stab.go (P := fun x => ReadsI x (.slice u1 u2 u3) ks) hb3 RIk_3.out)
  have POw_4 := hide (Stab.go hb3 POw_3.out)
  clear SE_3 LG_3 BB_3 PDd_3 RIk_3 POw_3
  clear ow1 ow2 o1 o2 hb bn hb3
  have k0 : (w4.alloc (.cells #[.slice rs1 rs2 rs3, .slice rp1 rp2 rp3, .string r.t, .int .i64 r.g, .int .i64 r.c] 31)).cell? ⟨b5, 0, none⟩ = some (.slice us1 xs.length us3) := by rw [← hW4]; exact PDd_4.out.row.cell 0
  have k1 : (w4.alloc (.cells #[.slice rs1 rs2 rs3, .slice rp1 rp2 rp3, .string r.t, .int .i64 r.g, .int .i64 r.c] 31)).cell? ⟨b5, 1, none⟩ = some (.slice up1 ps.length up3) := by rw [← hW4]; exact PDd_4.out.row.cell 1
  go_wp2_with fail
  clear k0 k1
  rw [← hW4, ← hb11]
  clear hW4 hb11
  refine (implPt _ _ xs ps tx 1000 aF aR aU _ HSD.out htx2 PDd_4.out.rs PDd_4.out.rp SE_4.out LG_4.out).mono ?_
  obtain ⟨q, Hq⟩ : ∃ o, Hid (o = putOut xs ps tx 1000) := ⟨_, rfl⟩
  rw [← Hq.out]
  rintro e w5 ⟨⟨qs, qp, rfl, ow1, ow2, _⟩, hb⟩
  have o1 := ow1.reads
  have o2 := ow2.reads
  obtain ⟨qs1, qs2, qs3, rfl⟩ := ow1.isSlice
  obtain ⟨qp1, qp2, qp3, rfl⟩ := ow2.isSlice
  have bn := below_new w5 (.cells #[.slice qs1 qs2 qs3, .slice qp1 qp2 qp3, .string q.t, .int .i64 q.g, .int .i64 q.c] 31)
  have hb3 := hb.trans (bn.mono hb.size)
  obtain ⟨b12, hb12⟩ : ∃ b, b = w5.heap.size := ⟨_, rfl⟩
  obtain ⟨W5, hW5⟩ : ∃ W, W = w5.alloc (.cells #[.slice qs1 qs2 qs3, .slice qp1 qp2 qp3, .string q.t, .int .i64 q.g, .int .i64 q.c] 31) := ⟨_, rfl⟩
  rw [← hW5] at hb3
  have POy_5 := hide (show POA b12 (.slice qs1 qs2 qs3) (.slice qp1 qp2 qp3) q W5 from ⟨by rw [hW5, hb12]; exact row_new w5 _ _, by rw [hW5]; exact o1.below bn (Nat.le_refl _), by rw [hW5]; exact o2.below bn (Nat.le_refl _)⟩)
  have SE_5 := hide (Stab.go hb3 SE_4.out)
  have LG_5 := hide (Stab.go (P := fun x => St3.Laid x) hb3 LG_4.out)
  have BB_5 := hide (Stab.go (P := fun x => Below w.heap.size w x) hb3 BB_4.out)
  have PDd_5 := hide (Stab.go hb3 PDd_4.out)
  have RIk_5 := hide (Stab.go (P := fun x => ReadsI x (.slice u1 u2 u3) ks) hb3 RIk_4.out)
  have POw_5 := hide (Stab.go hb3 POw_4.out)
  have POx_5 := hide (Stab.go hb3 POx_4.out)
  clear SE_4 LG_4 BB_4 PDd_4 RIk_4 POw_4 POx_4
  clear ow1 ow2 o1 o2 hb bn hb3
  go_wp2_with fail
  rw [← hW5, ← hb12]
  clear hW5 hb12
  have hfd0 := fun (a b c d e : Value) (w : World) => (show (Instr.field 31 (.agg #[a, b, c, d, e]) 0).run Tryz.prog w = .ok (.agg #[a, b]) w by kernel_rfl)
  have hfd3 := fun (a b c d e : Value) (w : World) => (show (Instr.field 31 (.agg #[a, b, c, d, e]) 3).run Tryz.prog w = .ok e w by kernel_rfl)
  have HSS := hide (show ∀ x, Below W5.heap.size W5 x → x.cell? ⟨b5, 0, none⟩ = some (.slice us1 xs.length us3) ∧ x.cell? ⟨b5, 1, none⟩ = some (.slice up1 ps.length up3) ∧ x.cell? ⟨b11, 0, none⟩ = some (.slice rs1 rs2 rs3) ∧ x.cell? ⟨b11, 1, none⟩ = some (.slice rp1 rp2 rp3) ∧ x.cell? ⟨b11, 2, none⟩ = some (.string r.t) ∧ x.cell? ⟨b11, 3, none⟩ = some (.int .i64 r.g) ∧ x.cell? ⟨b11, 4, none⟩ = some (.int .i64 r.c) ∧ x.cell? ⟨b12, 0, none⟩ = some (.slice qs1 qs2 qs3) ∧ x.cell? ⟨b12, 1, none⟩ = some (.slice qp1 qp2 qp3) ∧ x.cell? ⟨b12, 2, none⟩ = some (.string q.t) ∧ x.cell? ⟨b12, 3, none⟩ = some (.int .i64 q.g) ∧ x.cell? ⟨b12, 4, none⟩ = some (.int .i64 q.c) from fun x h => ⟨(Row.after h PDd_5.out.row).cell 0, (Row.after h PDd_5.out.row).cell 1, (Row.after h POx_5.out.row).cell 0, (Row.after h POx_5.out.row).cell 1, (Row.after h POx_5.out.row).cell 2, (Row.after h POx_5.out.row).cell 3, (Row.after h POx_5.out.row).cell 4, (Row.after h POy_5.out.row).cell 0, (Row.after h POy_5.out.row).cell 1, (Row.after h POy_5.out.row).cell 2, (Row.after h POy_5.out.row).cell 3, (Row.after h POy_5.out.row).cell 4⟩)
  refine wp_region_held (S := fun x : World => x.cell? ⟨b5, 0, none⟩ = some (.slice us1 xs.length us3) ∧ x.cell? ⟨b5, 1, none⟩ = some (.slice up1 ps.length up3) ∧ x.cell? ⟨b11, 0, none⟩ = some (.slice rs1 rs2 rs3) ∧ x.cell? ⟨b11, 1, none⟩ = some (.slice rp1 rp2 rp3) ∧ x.cell? ⟨b11, 2, none⟩ = some (.string r.t) ∧ x.cell? ⟨b11, 3, none⟩ = some (.int .i64 r.g) ∧ x.cell? ⟨b11, 4, none⟩ = some (.int .i64 r.c) ∧ x.cell? ⟨b12, 0, none⟩ = some (.slice qs1 qs2 qs3) ∧ x.cell? ⟨b12, 1, none⟩ = some (.slice qp1 qp2 qp3) ∧ x.cell? ⟨b12, 2, none⟩ = some (.string q.t) ∧ x.cell? ⟨b12, 3, none⟩ = some (.int .i64 q.g) ∧ x.cell? ⟨b12, 4, none⟩ = some (.int .i64 q.c)) (by kernel_rfl) ?_
  have HB_a := hide (show Below W5.heap.size W5 { W5 with drawn := W5.drawn + 1 } from (Below.refl _ _).drew)
  have HS := hide (HSS.out _ HB_a.out)
  refine wpAnyH_take (i := 0) (oi := _) (v := .pointer (some ⟨b11, 4, none⟩)) rfl (by kernel_rfl) (by kernel_rfl) (by kernel_rfl) (fun _ _ _ h => h) (Or.inl ⟨by rfl, by intro w hSw; go_split_ands; go_simp⟩) HS.out ?_
  simp only [Act.put, List.getElem_toArray, List.getElem_cons_zero, List.setIfInBounds_toArray, List.set_cons_zero, List.set_cons_succ]
  refine wpAnyH_take (i := 1) (oi := _) (v := .int .i64 r.c) rfl (by kernel_rfl) (by kernel_rfl) (by kernel_rfl) (fun _ _ _ h => h) (Or.inl ⟨by rfl, by intro w hSw; go_split_ands; go_simp⟩) HS.out ?_
  simp only [Act.put, List.getElem_toArray, List.getElem_cons_zero, List.getElem_cons_succ, List.setIfInBounds_toArray, List.set_cons_zero, List.set_cons_succ]
  refine wpAnyH_take (i := 2) (oi := _) (v := .agg #[.slice us1 xs.length us3, .slice up1 ps.length up3]) rfl (by kernel_rfl) (by kernel_rfl) (by kernel_rfl) (fun _ _ _ h => h) (Or.inl ⟨by rfl, by intro w hSw; go_split_ands; go_simp⟩) HS.out ?_
  simp only [Act.put, List.getElem_toArray, List.getElem_cons_zero, List.getElem_cons_succ, List.setIfInBounds_toArray, List.set_cons_zero, List.set_cons_succ]
  refine wpAnyH_take (i := 3) (oi := _) (v := .string tx) rfl (by kernel_rfl) (by kernel_rfl) (by kernel_rfl) (fun _ _ _ h => h) (Or.inl ⟨by rfl, by intro w hSw; go_split_ands; go_simp⟩) HS.out ?_
  simp only [Act.put, List.getElem_toArray, List.getElem_cons_zero, List.getElem_cons_succ, List.setIfInBounds_toArray, List.set_cons_zero, List.set_cons_succ]
  refine wpAnyH_take (i := 4) (oi := _) (v := .int .i64 a) rfl (by kernel_rfl) (by kernel_rfl) (by kernel_rfl) (fun _ _ _ h => h) (Or.inl ⟨by rfl, by intro w hSw; go_split_ands; go_simp⟩) HS.out ?_
  simp only [Act.put, List.getElem_toArray, List.getElem_cons_zero, List.getElem_cons_succ, List.setIfInBounds_toArray, List.set_cons_zero, List.set_cons_succ]
  refine wpAnyH_ready (rs := [5]) (by kernel_rfl) (by simp) ?_
  refine AllReadyH.cons (o := _) rfl (fun K hK => ?_) AllReadyH.nil
  go_simp
  refine (specAreaPut_any _ _ xs ps tx a _ HSD.out.1 HSD.out.2.2.1 htx2 (Stab.go HB_a.out PDd_5.out).rs (Stab.go HB_a.out PDd_5.out).rp).mono ?_
  rw [← Hr.out]
  rintro e X_b ⟨⟨mas, map, rfl, ow1, ow2, _⟩, hb⟩
  have masR := hide ow1.reads
  have masP := hide ow2.reads
  obtain ⟨mas1, mas2, mas3, rfl⟩ := ow1.isSlice
  obtain ⟨map1, map2, map3, rfl⟩ := ow2.isSlice
  clear ow1 ow2
  have HB_b := hide (HB_a.out.trans (hb.mono HB_a.out.size))
  refine hK.out _ _ (HSS.out _ HB_b.out) (fun _ => ?_)
  clear hK K HS hb
  have HS := hide (HSS.out _ HB_b.out)
  refine wpAnyH_take (i := 6) (oi := _) (v := .int .i64 r.c) rfl (by kernel_rfl) (by kernel_rfl) (by kernel_rfl) (fun _ _ _ h => h) (Or.inl ⟨by rfl, by intro w hSw; go_split_ands; go_simp⟩) HS.out ?_
  simp only [Act.put, List.getElem_toArray, List.getElem_cons_zero, List.getElem_cons_succ, List.setIfInBounds_toArray, List.set_cons_zero, List.set_cons_succ]
  refine wpAnyH_take (i := 7) (oi := _) (v := .bool false) rfl (by kernel_rfl) (by kernel_rfl) (by kernel_rfl) (fun _ _ _ h => h) (Or.inl ⟨by rfl, by intro w hSw; go_split_ands; go_simp⟩) HS.out ?_
  simp only [Act.put, List.getElem_toArray, List.getElem_cons_zero, List.getElem_cons_succ, List.setIfInBounds_toArray, List.set_cons_zero, List.set_cons_succ]
  refine wpAnyH_take (i := 8) (oi := _) (v := .bool false) rfl (by kernel_rfl) (by kernel_rfl) (by kernel_rfl) (fun _ _ _ h => h) (Or.inl ⟨by rfl, by intro w hSw; go_split_ands; go_simp⟩) HS.out ?_
  simp only [Act.put, List.getElem_toArray, List.getElem_cons_zero, List.getElem_cons_succ, List.setIfInBounds_toArray, List.set_cons_zero, List.set_cons_succ]
  refine wpAnyH_take (i := 9) (oi := _) (v := .pointer (some ⟨b11, 0, none⟩)) rfl (by kernel_rfl) (by kernel_rfl) (by kernel_rfl) (fun _ _ _ h => h) (Or.inl ⟨by rfl, by intro w hSw; go_split_ands; go_simp⟩) HS.out ?_
  simp only [Act.put, List.getElem_toArray, List.getElem_cons_zero, List.getElem_cons_succ, List.setIfInBounds_toArray, List.set_cons_zero, List.set_cons_succ]
  refine wpAnyH_take (i := 10) (oi := _) (v := .agg #[.slice rs1 rs2 rs3, .slice rp1 rp2 rp3]) rfl (by kernel_rfl) (by kernel_rfl) (by kernel_rfl) (fun _ _ _ h => h) (Or.inl ⟨by rfl, by intro w hSw; go_split_ands; go_simp⟩) HS.out ?_
  simp only [Act.put, List.getElem_toArray, List.getElem_cons_zero, List.getElem_cons_succ, List.setIfInBounds_toArray, List.set_cons_zero, List.set_cons_succ]
  refine wpAnyH_take (i := 11) (oi := _) (v := .agg #[.slice us1 xs.length us3, .slice up1 ps.length up3]) rfl (by kernel_rfl) (by kernel_rfl) (by kernel_rfl) (fun _ _ _ h => h) (Or.inl ⟨by rfl, by intro w hSw; go_split_ands; go_simp⟩) HS.out ?_
  simp only [Act.put, List.getElem_toArray, List.getElem_cons_zero, List.getElem_cons_succ, List.setIfInBounds_toArray, List.set_cons_zero, List.set_cons_succ]
  refine wpAnyH_take (i := 12) (oi := _) (v := .string tx) rfl (by kernel_rfl) (by kernel_rfl) (by kernel_rfl) (fun _ _ _ h => h) (Or.inl ⟨by rfl, by intro w hSw; go_split_ands; go_simp⟩) HS.out ?_
  simp only [Act.put, List.getElem_toArray, List.getElem_cons_zero, List.getElem_cons_succ, List.setIfInBounds_toArray, List.set_cons_zero, List.set_cons_succ]
  refine wpAnyH_take (i := 13) (oi := _) (v := .int .i64 a) rfl (by kernel_rfl) (by kernel_rfl) (by kernel_rfl) (fun _ _ _ h => h) (Or.inl ⟨by rfl, by intro w hSw; go_split_ands; go_simp⟩) HS.out ?_
  simp only [Act.put, List.getElem_toArray, List.getElem_cons_zero, List.getElem_cons_succ, List.setIfInBounds_toArray, List.set_cons_zero, List.set_cons_succ]
  refine wpAnyH_ready (rs := [14]) (by kernel_rfl) (by simp) ?_
  refine AllReadyH.cons (o := _) rfl (fun K hK => ?_) AllReadyH.nil
  go_simp
  refine (specAreaPut_any _ _ xs ps tx a _ HSD.out.1 HSD.out.2.2.1 htx2 (Stab.go HB_b.out PDd_5.out).rs (Stab.go HB_b.out PDd_5.out).rp).mono ?_
  rw [← Hr.out]
  rintro e X_c ⟨⟨mcs, mcp, rfl, ow1, ow2, _⟩, hb⟩
  have mcsR := hide ow1.reads
  have mcsP := hide ow2.reads
  obtain ⟨mcs1, mcs2, mcs3, rfl⟩ := ow1.isSlice
  obtain ⟨mcp1, mcp2, mcp3, rfl⟩ := ow2.isSlice
  clear ow1 ow2
  have HB_c := hide (HB_b.out.trans (hb.mono HB_b.out.size))
  refine hK.out _ _ (HSS.out _ HB_c.out) (fun _ => ?_)
  clear hK K HS hb
  have HS := hide (HSS.out _ HB_c.out)
  refine wpAnyH_take (i := 15) (oi := _) (v := .agg #[.slice mcs1 mcs2 mcs3, .slice mcp1 mcp2 mcp3]) rfl (by kernel_rfl) (by kernel_rfl) (by kernel_rfl) (fun _ _ _ h => h) (Or.inl ⟨by rfl, by intro w hSw; go_split_ands; go_simp⟩) HS.out ?_
  simp only [Act.put, List.getElem_toArray, List.getElem_cons_zero, List.getElem_cons_succ, List.setIfInBounds_toArray, List.set_cons_zero, List.set_cons_succ]
  refine wpAnyH_ready (rs := [16]) (by kernel_rfl) (by simp) ?_
  refine AllReadyH.cons (o := _) rfl (fun K hK => ?_) AllReadyH.nil
  go_simp
  refine (lwDisk_same _ _ _ _ r.xs r.ps _ (by rw [Hr.out]; exact (putO_len xs ps tx a).1) (by rw [Hr.out]; exact (putO_len xs ps tx a).2) (Stab.go HB_c.out POx_5.out).rs (Stab.go HB_c.out POx_5.out).rp mcsR.out mcsP.out).mono ?_
  rintro e X_d ⟨rfl, hb⟩
  have HB_d := hide (HB_c.out.trans (hb.mono HB_c.out.size))
  refine hK.out _ _ (HSS.out _ HB_d.out) (fun _ => ?_)
  clear hK K HS hb
  have HS := hide (HSS.out _ HB_d.out)
  refine wpAnyH_take (i := 17) (oi := _) (v := .bool false) rfl (by kernel_rfl) (by kernel_rfl) (by kernel_rfl) (fun _ _ _ h => h) (Or.inl ⟨by rfl, by intro w hSw; go_split_ands; go_simp⟩) HS.out ?_
  simp only [Act.put, List.getElem_toArray, List.getElem_cons_zero, List.getElem_cons_succ, List.setIfInBounds_toArray, List.set_cons_zero, List.set_cons_succ]
  refine wpAnyH_take (i := 18) (oi := _) (v := .bool false) rfl (by kernel_rfl) (by kernel_rfl) (by kernel_rfl) (fun _ _ _ h => h) (Or.inl ⟨by rfl, by intro w hSw; go_split_ands; go_simp⟩) HS.out ?_
  simp only [Act.put, List.getElem_toArray, List.getElem_cons_zero, List.getElem_cons_succ, List.setIfInBounds_toArray, List.set_cons_zero, List.set_cons_succ]
  refine wpAnyH_take (i := 19) (oi := _) (v := .bool false) rfl (by kernel_rfl) (by kernel_rfl) (by kernel_rfl) (fun _ _ _ h => h) (Or.inl ⟨by rfl, by intro w hSw; go_split_ands; go_simp⟩) HS.out ?_
  simp only [Act.put, List.getElem_toArray, List.getElem_cons_zero, List.getElem_cons_succ, List.setIfInBounds_toArray, List.set_cons_zero, List.set_cons_succ]
  refine wpAnyH_take (i := 20) (oi := _) (v := .pointer (some ⟨b11, 4, none⟩)) rfl (by kernel_rfl) (by kernel_rfl) (by kernel_rfl) (fun _ _ _ h => h) (Or.inl ⟨by rfl, by intro w hSw; go_split_ands; go_simp⟩) HS.out ?_
  simp only [Act.put, List.getElem_toArray, List.getElem_cons_zero, List.getElem_cons_succ, List.setIfInBounds_toArray, List.set_cons_zero, List.set_cons_succ]
  refine wpAnyH_take (i := 21) (oi := _) (v := .int .i64 r.c) rfl (by kernel_rfl) (by kernel_rfl) (by kernel_rfl) (fun _ _ _ h => h) (Or.inl ⟨by rfl, by intro w hSw; go_split_ands; go_simp⟩) HS.out ?_
  simp only [Act.put, List.getElem_toArray, List.getElem_cons_zero, List.getElem_cons_succ, List.setIfInBounds_toArray, List.set_cons_zero, List.set_cons_succ]
  by_cases hrc : r.c = 0
  · have hr0 : (r.c != 0) = false := by rw [hrc]; rfl
    by_cases hqc : q.c = 0
    · have hq0 : (q.c != 0) = false := by rw [hqc]; rfl
      by_cases hpp : ps.length = 0
      · have hpl : ¬ (0 : Int) < (ps.length : Int) := by omega
        have HRC := hide hrc
        have HQC := hide hqc
        have HPP := hide hpp
        clear hrc hqc hpp
        as_aux_lemma =>
          refine wpAnyH_take (i := 22) (oi := _) (v := .bool false) rfl (by kernel_rfl) (by kernel_rfl) (by kernel_rfl) (fun _ _ _ h => h) (Or.inl ⟨by rfl, by intro w hSw; go_split_ands; go_simp⟩) HS.out ?_
          simp only [Act.put, List.getElem_toArray, List.getElem_cons_zero, List.getElem_cons_succ, List.setIfInBounds_toArray, List.set_cons_zero, List.set_cons_succ]
          refine wpAnyH_take (i := 23) (oi := _) (v := .bool false) rfl (by kernel_rfl) (by kernel_rfl) (by kernel_rfl) (fun _ _ _ h => h) (Or.inl ⟨by rfl, by intro w hSw; go_split_ands; go_simp⟩) HS.out ?_
          simp only [Act.put, List.getElem_toArray, List.getElem_cons_zero, List.getElem_cons_succ, List.setIfInBounds_toArray, List.set_cons_zero, List.set_cons_succ]
          refine wpAnyH_take (i := 24) (oi := _) (v := .bool false) rfl (by kernel_rfl) (by kernel_rfl) (by kernel_rfl) (fun _ _ _ h => h) (Or.inl ⟨by rfl, by intro w hSw; go_split_ands; go_simp⟩) HS.out ?_
          simp only [Act.put, List.getElem_toArray, List.getElem_cons_zero, List.getElem_cons_succ, List.setIfInBounds_toArray, List.set_cons_zero, List.set_cons_succ]
          refine wpAnyH_take (i := 25) (oi := _) (v := .pointer (some ⟨b12, 4, none⟩)) rfl (by kernel_rfl) (by kernel_rfl) (by kernel_rfl) (fun _ _ _ h => h) (Or.inl ⟨by rfl, by intro w hSw; go_split_ands; go_simp⟩) HS.out ?_
          simp only [Act.put, List.getElem_toArray, List.getElem_cons_zero, List.getElem_cons_succ, List.setIfInBounds_toArray, List.set_cons_zero, List.set_cons_succ]
          refine wpAnyH_take (i := 26) (oi := _) (v := .int .i64 q.c) rfl (by kernel_rfl) (by kernel_rfl) (by kernel_rfl) (fun _ _ _ h => h) (Or.inl ⟨by rfl, by intro w hSw; go_split_ands; go_simp⟩) HS.out ?_
          simp only [Act.put, List.getElem_toArray, List.getElem_cons_zero, List.getElem_cons_succ, List.setIfInBounds_toArray, List.set_cons_zero, List.set_cons_succ]
          refine wpAnyH_take (i := 27) (oi := _) (v := .bool false) rfl (by kernel_rfl) (by kernel_rfl) (by kernel_rfl) (fun _ _ _ h => h) (Or.inl ⟨by rfl, by intro w hSw; go_split_ands; go_simp⟩) HS.out ?_
          simp only [Act.put, List.getElem_toArray, List.getElem_cons_zero, List.getElem_cons_succ, List.setIfInBounds_toArray, List.set_cons_zero, List.set_cons_succ]
          refine wpAnyH_take (i := 28) (oi := _) (v := .bool false) rfl (by kernel_rfl) (by kernel_rfl) (by kernel_rfl) (fun _ _ _ h => h) (Or.inl ⟨by rfl, by intro w hSw; go_split_ands; go_simp⟩) HS.out ?_
          simp only [Act.put, List.getElem_toArray, List.getElem_cons_zero, List.getElem_cons_succ, List.setIfInBounds_toArray, List.set_cons_zero, List.set_cons_succ]
          refine wpAnyH_take (i := 29) (oi := _) (v := .bool false) rfl (by kernel_rfl) (by kernel_rfl) (by kernel_rfl) (fun _ _ _ h => h) (Or.inl ⟨by rfl, by intro w hSw; go_split_ands; go_simp⟩) HS.out ?_
          simp only [Act.put, List.getElem_toArray, List.getElem_cons_zero, List.getElem_cons_succ, List.setIfInBounds_toArray, List.set_cons_zero, List.set_cons_succ]
          refine wpAnyH_take (i := 30) (oi := _) (v := .pointer (some ⟨b5, 1, none⟩)) rfl (by kernel_rfl) (by kernel_rfl) (by kernel_rfl) (fun _ _ _ h => h) (Or.inl ⟨by rfl, by intro w hSw; go_split_ands; go_simp⟩) HS.out ?_
          simp only [Act.put, List.getElem_toArray, List.getElem_cons_zero, List.getElem_cons_succ, List.setIfInBounds_toArray, List.set_cons_zero, List.set_cons_succ]
          refine wpAnyH_take (i := 31) (oi := _) (v := .slice up1 ps.length up3) rfl (by kernel_rfl) (by kernel_rfl) (by kernel_rfl) (fun _ _ _ h => h) (Or.inl ⟨by rfl, by intro w hSw; go_split_ands; go_simp⟩) HS.out ?_
          simp only [Act.put, List.getElem_toArray, List.getElem_cons_zero, List.getElem_cons_succ, List.setIfInBounds_toArray, List.set_cons_zero, List.set_cons_succ]
          refine wpAnyH_take (i := 32) (oi := _) (v := .int .i64 (ps.length : Int)) rfl (by kernel_rfl) (by kernel_rfl) (by kernel_rfl) (fun _ _ _ h => h) (Or.inl ⟨by rfl, by intro w hSw; go_split_ands; go_simp⟩) HS.out ?_
          simp only [Act.put, List.getElem_toArray, List.getElem_cons_zero, List.getElem_cons_succ, List.setIfInBounds_toArray, List.set_cons_zero, List.set_cons_succ]
          refine wpAnyH_take (i := 33) (oi := _) (v := .bool false) rfl (by kernel_rfl) (by kernel_rfl) (by kernel_rfl) (fun _ _ _ h => h) (Or.inl ⟨by rfl, by intro w hSw; go_split_ands; go_simp; exact List.length_eq_zero_iff.1 HPP.out⟩) HS.out ?_
          simp only [Act.put, List.getElem_toArray, List.getElem_cons_zero, List.getElem_cons_succ, List.setIfInBounds_toArray, List.set_cons_zero, List.set_cons_succ]
          refine wpAnyH_take (i := 34) (oi := _) (v := .bool false) rfl (by kernel_rfl) (by kernel_rfl) (by kernel_rfl) (fun _ _ _ h => h) (Or.inl ⟨by rfl, by intro w hSw; go_split_ands; go_simp⟩) HS.out ?_
          simp only [Act.put, List.getElem_toArray, List.getElem_cons_zero, List.getElem_cons_succ, List.setIfInBounds_toArray, List.set_cons_zero, List.set_cons_succ]
          refine wpAnyH_done (by kernel_rfl) ?_ _
          have hcb := HB_d.out
          have SE_8 := hide (Stab.go hcb SE_5.out)
          have LG_8 := hide (Stab.go (P := fun x => St3.Laid x) hcb LG_5.out)
          have BB_8 := hide (Stab.go (P := fun x => Below w.heap.size w x) hcb BB_5.out)
          have PDd_8 := hide (Stab.go hcb PDd_5.out)
          have RIk_8 := hide (Stab.go (P := fun x => ReadsI x (.slice u1 u2 u3) ks) hcb RIk_5.out)
          have POw_8 := hide (Stab.go hcb POw_5.out)
          have POx_8 := hide (Stab.go hcb POx_5.out)
          have POy_8 := hide (Stab.go hcb POy_5.out)
          clear hcb HSS HS HB_a HB_b HB_c masR masP mcsR mcsP SE_5 LG_5 BB_5 PDd_5 RIk_5 POw_5 POx_5 POy_5
          obtain ⟨W8, hW8⟩ : ∃ W, W = X_d := ⟨_, rfl⟩
          rw [← hW8] at SE_8 LG_8 BB_8 PDd_8 RIk_8 POw_8 POx_8 POy_8 ⊢
          clear hW8 HB_d hfd0 hfd3
          have hrc := HRC.out
          have hqc := HQC.out
          have hpp := HPP.out
          clear HRC HQC HPP
          as_aux_lemma =>
            have hp0 : ps = [] := List.length_eq_zero_iff.1 (by omega)
            have HTN := hide (torn_facts (xs := xs) (d := tx) (a := a) (ks := ks) hks4 hp0 (by rw [← Hr.out]; exact hrc))
            have HYN := hide (all_facts (xs := xs) (ps := ps) (d := tx) (a := 1000) (ks := ks) hks4 (by omega) (by rw [← Hq.out]; exact hqc))
            have HPK := hide (put_ok (xs := xs) (ps := ps) (d := tx) (a := 1000) (by rw [← Hq.out]; exact hqc))
            have HGN := hide (show 0 ≤ o.g ∧ o.g < 1000000 by rw [Ho.out]; exact ⟨area_gen HPK.out.2.1 HPK.out.2.2.1, HPK.out.2.2.2.2.1⟩)
            obtain ⟨X, HX⟩ : ∃ X, Hid (right r.xs r.ps = true ∧ crashXs r.xs r.ps ks = X ∧ crashPs r.xs r.ps ks = [] ∧ right X [] = true ∧ (areaOut X [] = ⟨X, [], o.t, o.g, 0⟩ ∨ areaOut X [] = ⟨X, [], tx, o.g + 1, 0⟩)) := by
              obtain ⟨X, h⟩ := HTN.out
              rw [← Hr.out, ← Ho.out] at h
              exact ⟨X, h⟩
            obtain ⟨Y, HY⟩ : ∃ X, Hid (right q.xs q.ps = true ∧ crashXs q.xs q.ps ks = X ∧ crashPs q.xs q.ps ks = [] ∧ right X [] = true ∧ areaOut X [] = ⟨X, [], tx, o.g + 1, 0⟩) := by
              obtain ⟨X, h⟩ := HYN.out
              rw [← Hq.out, ← Ho.out] at h
              exact ⟨X, h⟩
            obtain ⟨av, Hav⟩ : ∃ o, Hid (o = areaOut X []) := ⟨_, rfl⟩
            have HOR := hide (show (av.t = o.t ∧ av.g = o.g ∧ av.c = 0) ∨ (av.t = tx ∧ av.g = o.g + 1 ∧ av.c = 0) by
              rw [Hav.out]
              rcases HX.out.2.2.2.2 with h | h
              · left; rw [h]; exact ⟨rfl, rfl, rfl⟩
              · right; rw [h]; exact ⟨rfl, rfl, rfl⟩)
            clear hrc hqc hpp hp0 HTN HYN HPK
            have k0 : W8.cell? ⟨b11, 0, none⟩ = some (.slice rs1 rs2 rs3) := POx_8.out.row.cell 0
            have k1 : W8.cell? ⟨b11, 1, none⟩ = some (.slice rp1 rp2 rp3) := POx_8.out.row.cell 1
            go_wp2_with fail
            refine (implCrash_any _ _ _ r.xs r.ps ks _ _ _ _ _ POx_8.out.rs POx_8.out.rp RIk_8.out (small_of_right HX.out.1) SE_8.out.1.1 SE_8.out.1.2).mono ?_
            rw [HX.out.2.1, HX.out.2.2.1]
            rintro e w9 ⟨⟨cs, cp, rfl, ow1, ow2, _⟩, hb⟩
            have csR := hide ow1.reads
            have csP := hide ow2.reads
            obtain ⟨cs1, cs2, cs3, rfl⟩ := ow1.isSlice
            obtain ⟨cp1, cp2, cp3, rfl⟩ := ow2.isSlice
            have SE_9 := hide (Stab.go hb SE_8.out)
            have LG_9 := hide (Stab.go (P := fun x => St3.Laid x) hb LG_8.out)
            have BB_9 := hide (Stab.go (P := fun x => Below w.heap.size w x) hb BB_8.out)
            have PDd_9 := hide (Stab.go hb PDd_8.out)
            have RIk_9 := hide (Stab.go (P := fun x => ReadsI x (.slice u1 u2 u3) ks) hb RIk_8.out)
            have POw_9 := hide (Stab.go hb POw_8.out)
            have POx_9 := hide (Stab.go hb POx_8.out)
            have POy_9 := hide (Stab.go hb POy_8.out)
            clear SE_8 LG_8 BB_8 PDd_8 RIk_8 POw_8 POx_8 POy_8
            clear ow1 ow2 hb k0 k1
            go_wp2_with fail
            refine (implRd _ _ X [] aF aR aU _ (small_of_right HX.out.2.2.2.1) csR.out csP.out SE_9.out LG_9.out).mono ?_
            rw [← Hav.out]
            rintro e w10 ⟨⟨ds, dp, rfl, ow1, ow2, _⟩, hb⟩
            obtain ⟨ds1, ds2, ds3, rfl⟩ := ow1.isSlice
            obtain ⟨dp1, dp2, dp3, rfl⟩ := ow2.isSlice
            have bn := below_new w10 (.cells #[.slice ds1 ds2 ds3, .slice dp1 dp2 dp3, .string av.t, .int .i64 av.g, .int .i64 av.c] 31)
            have hb3 := hb.trans (bn.mono hb.size)
            obtain ⟨b13, hb13⟩ : ∃ b, b = w10.heap.size := ⟨_, rfl⟩
            obtain ⟨W10, hW10⟩ : ∃ W, W = w10.alloc (.cells #[.slice ds1 ds2 ds3, .slice dp1 dp2 dp3, .string av.t, .int .i64 av.g, .int .i64 av.c] 31) := ⟨_, rfl⟩
            rw [← hW10] at hb3
            have R13_10 := hide (show Row W10 b13 31 [.slice ds1 ds2 ds3, .slice dp1 dp2 dp3, .string av.t, .int .i64 av.g, .int .i64 av.c] from by rw [hW10, hb13]; exact row_new w10 _ _)
            have SE_10 := hide (Stab.go hb3 SE_9.out)
            have LG_10 := hide (Stab.go (P := fun x => St3.Laid x) hb3 LG_9.out)
            have BB_10 := hide (Stab.go (P := fun x => Below w.heap.size w x) hb3 BB_9.out)
            have PDd_10 := hide (Stab.go hb3 PDd_9.out)
            have RIk_10 := hide (Stab.go (P := fun x => ReadsI x (.slice u1 u2 u3) ks) hb3 RIk_9.out)
            have POw_10 := hide (Stab.go hb3 POw_9.out)
            have POx_10 := hide (Stab.go hb3 POx_9.out)
            have POy_10 := hide (Stab.go hb3 POy_9.out)
            clear SE_9 LG_9 BB_9 PDd_9 RIk_9 POw_9 POx_9 POy_9
            clear ow1 ow2 hb bn hb3 csR csP
            have k0 : (w10.alloc (.cells #[.slice ds1 ds2 ds3, .slice dp1 dp2 dp3, .string av.t, .int .i64 av.g, .int .i64 av.c] 31)).cell? ⟨b12, 0, none⟩ = some (.slice qs1 qs2 qs3) := by rw [← hW10]; exact POy_10.out.row.cell 0
            have k1 : (w10.alloc (.cells #[.slice ds1 ds2 ds3, .slice dp1 dp2 dp3, .string av.t, .int .i64 av.g, .int .i64 av.c] 31)).cell? ⟨b12, 1, none⟩ = some (.slice qp1 qp2 qp3) := by rw [← hW10]; exact POy_10.out.row.cell 1
            go_wp2_with fail
            rw [← hW10, ← hb13]
            clear hW10 hb13
            refine (implCrash_any _ _ _ q.xs q.ps ks _ _ _ _ _ POy_10.out.rs POy_10.out.rp RIk_10.out (small_of_right HY.out.1) SE_10.out.1.1 SE_10.out.1.2).mono ?_
            rw [HY.out.2.1, HY.out.2.2.1]
            rintro e w11 ⟨⟨fs, fp, rfl, ow1, ow2, _⟩, hb⟩
            have fsR := hide ow1.reads
            have fsP := hide ow2.reads
            obtain ⟨fs1, fs2, fs3, rfl⟩ := ow1.isSlice
            obtain ⟨fp1, fp2, fp3, rfl⟩ := ow2.isSlice
            have SE_11 := hide (Stab.go hb SE_10.out)
            have LG_11 := hide (Stab.go (P := fun x => St3.Laid x) hb LG_10.out)
            have BB_11 := hide (Stab.go (P := fun x => Below w.heap.size w x) hb BB_10.out)
            have PDd_11 := hide (Stab.go hb PDd_10.out)
            have RIk_11 := hide (Stab.go (P := fun x => ReadsI x (.slice u1 u2 u3) ks) hb RIk_10.out)
            have POw_11 := hide (Stab.go hb POw_10.out)
            have POx_11 := hide (Stab.go hb POx_10.out)
            have POy_11 := hide (Stab.go hb POy_10.out)
            have R13_11 := hide (Stab.go (P := fun x => Row x b13 31 [.slice ds1 ds2 ds3, .slice dp1 dp2 dp3, .string av.t, .int .i64 av.g, .int .i64 av.c]) hb R13_10.out)
            clear SE_10 LG_10 BB_10 PDd_10 RIk_10 POw_10 POx_10 POy_10 R13_10
            clear ow1 ow2 hb k0 k1
            go_wp2_with fail
            refine (implRd _ _ Y [] aF aR aU _ (small_of_right HY.out.2.2.2.1) fsR.out fsP.out SE_11.out LG_11.out).mono ?_
            rw [HY.out.2.2.2.2]
            rintro e w12 ⟨⟨gs, gp, rfl, ow1, ow2, _⟩, hb⟩
            obtain ⟨gs1, gs2, gs3, rfl⟩ := ow1.isSlice
            obtain ⟨gp1, gp2, gp3, rfl⟩ := ow2.isSlice
            have bn := below_new w12 (.cells #[.slice gs1 gs2 gs3, .slice gp1 gp2 gp3, .string tx, .int .i64 (o.g + 1), .int .i64 0] 31)
            have hb3 := hb.trans (bn.mono hb.size)
            obtain ⟨b14, hb14⟩ : ∃ b, b = w12.heap.size := ⟨_, rfl⟩
            obtain ⟨W12, hW12⟩ : ∃ W, W = w12.alloc (.cells #[.slice gs1 gs2 gs3, .slice gp1 gp2 gp3, .string tx, .int .i64 (o.g + 1), .int .i64 0] 31) := ⟨_, rfl⟩
            rw [← hW12] at hb3
            have SE_12 := hide (Stab.go hb3 SE_11.out)
            have LG_12 := hide (Stab.go (P := fun x => St3.Laid x) hb3 LG_11.out)
            have BB_12 := hide (Stab.go (P := fun x => Below w.heap.size w x) hb3 BB_11.out)
            have PDd_12 := hide (Stab.go hb3 PDd_11.out)
            have RIk_12 := hide (Stab.go (P := fun x => ReadsI x (.slice u1 u2 u3) ks) hb3 RIk_11.out)
            have POw_12 := hide (Stab.go hb3 POw_11.out)
            have POx_12 := hide (Stab.go hb3 POx_11.out)
            have POy_12 := hide (Stab.go hb3 POy_11.out)
            have R13_12 := hide (Stab.go (P := fun x => Row x b13 31 [.slice ds1 ds2 ds3, .slice dp1 dp2 dp3, .string av.t, .int .i64 av.g, .int .i64 av.c]) hb3 R13_11.out)
            clear SE_11 LG_11 BB_11 PDd_11 RIk_11 POw_11 POx_11 POy_11 R13_11
            clear ow1 ow2 hb bn fsR fsP
            have BBl : Below w.heap.size w (w12.alloc (.cells #[.slice gs1 gs2 gs3, .slice gp1 gp2 gp3, .string tx, .int .i64 (o.g + 1), .int .i64 0] 31)) := by rw [← hW12]; exact BB_12.out
            have w2 : (w12.alloc (.cells #[.slice gs1 gs2 gs3, .slice gp1 gp2 gp3, .string tx, .int .i64 (o.g + 1), .int .i64 0] 31)).cell? ⟨b10, 2, none⟩ = some (.string o.t) := by rw [← hW12]; exact POw_12.out.row.cell 2
            have w3 : (w12.alloc (.cells #[.slice gs1 gs2 gs3, .slice gp1 gp2 gp3, .string tx, .int .i64 (o.g + 1), .int .i64 0] 31)).cell? ⟨b10, 3, none⟩ = some (.int .i64 o.g) := by rw [← hW12]; exact POw_12.out.row.cell 3
            have hgw : IntKind.i64.wrap (o.g + 1) = o.g + 1 := by rw [IntKind.wrap_i64]; have := HGN.out; omega
            have HBL := hide BBl
            have v2 : (w12.alloc (.cells #[.slice gs1 gs2 gs3, .slice gp1 gp2 gp3, .string tx, .int .i64 (o.g + 1), .int .i64 0] 31)).cell? ⟨b13, 2, none⟩ = some (.string av.t) := by rw [← hW12]; exact R13_12.out.cell 2
            have v3 : (w12.alloc (.cells #[.slice gs1 gs2 gs3, .slice gp1 gp2 gp3, .string tx, .int .i64 (o.g + 1), .int .i64 0] 31)).cell? ⟨b13, 3, none⟩ = some (.int .i64 av.g) := by rw [← hW12]; exact R13_12.out.cell 3
            have v4 : (w12.alloc (.cells #[.slice gs1 gs2 gs3, .slice gp1 gp2 gp3, .string tx, .int .i64 (o.g + 1), .int .i64 0] 31)).cell? ⟨b13, 4, none⟩ = some (.int .i64 av.c) := by rw [← hW12]; exact R13_12.out.cell 4
            clear hb3 BBl hW12 hb14
            rcases HOR.out with ⟨e1, e2, e3⟩ | ⟨e1, e2, e3⟩
            · rw [e1] at v2
              rw [e2] at v3
              rw [e3] at v4
              clear e1 e2 e3
              go_wp2
              go_ret
              exact ⟨rfl, HBL.out⟩
            · rw [e1] at v2
              rw [e2] at v3
              rw [e3] at v4
              clear e1 e2 e3
              have hgn : (o.g + 1 == o.g) = false := beq_eq_false_iff_ne.2 (by omega)
              cases htt : (tx.toList == o.t.toList) with
              | true =>
                go_wp2
                go_ret
                exact ⟨rfl, HBL.out⟩
              | false =>
                go_wp2
                go_ret
                exact ⟨rfl, HBL.out⟩
      · have hpl : (0 : Int) < (ps.length : Int) := by omega
        clear hrc hqc hpp
        as_aux_lemma =>
          refine wpAnyH_take (i := 22) (oi := _) (v := .bool false) rfl (by kernel_rfl) (by kernel_rfl) (by kernel_rfl) (fun _ _ _ h => h) (Or.inl ⟨by rfl, by intro w hSw; go_split_ands; go_simp⟩) HS.out ?_
          simp only [Act.put, List.getElem_toArray, List.getElem_cons_zero, List.getElem_cons_succ, List.setIfInBounds_toArray, List.set_cons_zero, List.set_cons_succ]
          refine wpAnyH_take (i := 23) (oi := _) (v := .bool false) rfl (by kernel_rfl) (by kernel_rfl) (by kernel_rfl) (fun _ _ _ h => h) (Or.inl ⟨by rfl, by intro w hSw; go_split_ands; go_simp⟩) HS.out ?_
          simp only [Act.put, List.getElem_toArray, List.getElem_cons_zero, List.getElem_cons_succ, List.setIfInBounds_toArray, List.set_cons_zero, List.set_cons_succ]
          refine wpAnyH_take (i := 24) (oi := _) (v := .bool false) rfl (by kernel_rfl) (by kernel_rfl) (by kernel_rfl) (fun _ _ _ h => h) (Or.inl ⟨by rfl, by intro w hSw; go_split_ands; go_simp⟩) HS.out ?_
          simp only [Act.put, List.getElem_toArray, List.getElem_cons_zero, List.getElem_cons_succ, List.setIfInBounds_toArray, List.set_cons_zero, List.set_cons_succ]
          refine wpAnyH_take (i := 25) (oi := _) (v := .pointer (some ⟨b12, 4, none⟩)) rfl (by kernel_rfl) (by kernel_rfl) (by kernel_rfl) (fun _ _ _ h => h) (Or.inl ⟨by rfl, by intro w hSw; go_split_ands; go_simp⟩) HS.out ?_
          simp only [Act.put, List.getElem_toArray, List.getElem_cons_zero, List.getElem_cons_succ, List.setIfInBounds_toArray, List.set_cons_zero, List.set_cons_succ]
          refine wpAnyH_take (i := 26) (oi := _) (v := .int .i64 q.c) rfl (by kernel_rfl) (by kernel_rfl) (by kernel_rfl) (fun _ _ _ h => h) (Or.inl ⟨by rfl, by intro w hSw; go_split_ands; go_simp⟩) HS.out ?_
          simp only [Act.put, List.getElem_toArray, List.getElem_cons_zero, List.getElem_cons_succ, List.setIfInBounds_toArray, List.set_cons_zero, List.set_cons_succ]
          refine wpAnyH_take (i := 27) (oi := _) (v := .bool false) rfl (by kernel_rfl) (by kernel_rfl) (by kernel_rfl) (fun _ _ _ h => h) (Or.inl ⟨by rfl, by intro w hSw; go_split_ands; go_simp⟩) HS.out ?_
          simp only [Act.put, List.getElem_toArray, List.getElem_cons_zero, List.getElem_cons_succ, List.setIfInBounds_toArray, List.set_cons_zero, List.set_cons_succ]
          refine wpAnyH_take (i := 28) (oi := _) (v := .bool false) rfl (by kernel_rfl) (by kernel_rfl) (by kernel_rfl) (fun _ _ _ h => h) (Or.inl ⟨by rfl, by intro w hSw; go_split_ands; go_simp⟩) HS.out ?_
          simp only [Act.put, List.getElem_toArray, List.getElem_cons_zero, List.getElem_cons_succ, List.setIfInBounds_toArray, List.set_cons_zero, List.set_cons_succ]
          refine wpAnyH_take (i := 29) (oi := _) (v := .bool false) rfl (by kernel_rfl) (by kernel_rfl) (by kernel_rfl) (fun _ _ _ h => h) (Or.inl ⟨by rfl, by intro w hSw; go_split_ands; go_simp⟩) HS.out ?_
          simp only [Act.put, List.getElem_toArray, List.getElem_cons_zero, List.getElem_cons_succ, List.setIfInBounds_toArray, List.set_cons_zero, List.set_cons_succ]
          refine wpAnyH_take (i := 30) (oi := _) (v := .pointer (some ⟨b5, 1, none⟩)) rfl (by kernel_rfl) (by kernel_rfl) (by kernel_rfl) (fun _ _ _ h => h) (Or.inl ⟨by rfl, by intro w hSw; go_split_ands; go_simp⟩) HS.out ?_
          simp only [Act.put, List.getElem_toArray, List.getElem_cons_zero, List.getElem_cons_succ, List.setIfInBounds_toArray, List.set_cons_zero, List.set_cons_succ]
          refine wpAnyH_take (i := 31) (oi := _) (v := .slice up1 ps.length up3) rfl (by kernel_rfl) (by kernel_rfl) (by kernel_rfl) (fun _ _ _ h => h) (Or.inl ⟨by rfl, by intro w hSw; go_split_ands; go_simp⟩) HS.out ?_
          simp only [Act.put, List.getElem_toArray, List.getElem_cons_zero, List.getElem_cons_succ, List.setIfInBounds_toArray, List.set_cons_zero, List.set_cons_succ]
          refine wpAnyH_take (i := 32) (oi := _) (v := .int .i64 (ps.length : Int)) rfl (by kernel_rfl) (by kernel_rfl) (by kernel_rfl) (fun _ _ _ h => h) (Or.inl ⟨by rfl, by intro w hSw; go_split_ands; go_simp⟩) HS.out ?_
          simp only [Act.put, List.getElem_toArray, List.getElem_cons_zero, List.getElem_cons_succ, List.setIfInBounds_toArray, List.set_cons_zero, List.set_cons_succ]
          refine wpAnyH_take (i := 33) (oi := _) (v := .bool true) rfl (by kernel_rfl) (by kernel_rfl) (by kernel_rfl) (fun _ _ _ h => h) (Or.inl ⟨by rfl, by intro w hSw; go_split_ands; go_simp; omega⟩) HS.out ?_
          simp only [Act.put, List.getElem_toArray, List.getElem_cons_zero, List.getElem_cons_succ, List.setIfInBounds_toArray, List.set_cons_zero, List.set_cons_succ]
          refine wpAnyH_take (i := 34) (oi := _) (v := .bool true) rfl (by kernel_rfl) (by kernel_rfl) (by kernel_rfl) (fun _ _ _ h => h) (Or.inl ⟨by rfl, by intro w hSw; go_split_ands; go_simp⟩) HS.out ?_
          simp only [Act.put, List.getElem_toArray, List.getElem_cons_zero, List.getElem_cons_succ, List.setIfInBounds_toArray, List.set_cons_zero, List.set_cons_succ]
          refine wpAnyH_done (by kernel_rfl) ?_ _
          have hcb := HB_d.out
          have SE_8 := hide (Stab.go hcb SE_5.out)
          have LG_8 := hide (Stab.go (P := fun x => St3.Laid x) hcb LG_5.out)
          have BB_8 := hide (Stab.go (P := fun x => Below w.heap.size w x) hcb BB_5.out)
          have PDd_8 := hide (Stab.go hcb PDd_5.out)
          have RIk_8 := hide (Stab.go (P := fun x => ReadsI x (.slice u1 u2 u3) ks) hcb RIk_5.out)
          have POw_8 := hide (Stab.go hcb POw_5.out)
          have POx_8 := hide (Stab.go hcb POx_5.out)
          have POy_8 := hide (Stab.go hcb POy_5.out)
          clear hcb HSS HS HB_a HB_b HB_c masR masP mcsR mcsP SE_5 LG_5 BB_5 PDd_5 RIk_5 POw_5 POx_5 POy_5
          obtain ⟨W8, hW8⟩ : ∃ W, W = X_d := ⟨_, rfl⟩
          rw [← hW8] at SE_8 LG_8 BB_8 PDd_8 RIk_8 POw_8 POx_8 POy_8 ⊢
          clear hW8 HB_d hfd0 hfd3
          as_aux_lemma =>
            go_wp2_with fail
            have hfd0 := fun (a b c d e : Value) (w : World) => (show (Instr.field 31 (.agg #[a, b, c, d, e]) 0).run Tryz.prog w = .ok (.agg #[a, b]) w by kernel_rfl)
            have hfd3 := fun (a b c d e : Value) (w : World) => (show (Instr.field 31 (.agg #[a, b, c, d, e]) 3).run Tryz.prog w = .ok e w by kernel_rfl)
            have HSS := hide (show ∀ x, Below W8.heap.size W8 x → x.cell? ⟨b5, 0, none⟩ = some (.slice us1 xs.length us3) ∧ x.cell? ⟨b5, 1, none⟩ = some (.slice up1 ps.length up3) ∧ x.cell? ⟨b11, 0, none⟩ = some (.slice rs1 rs2 rs3) ∧ x.cell? ⟨b11, 1, none⟩ = some (.slice rp1 rp2 rp3) ∧ x.cell? ⟨b11, 2, none⟩ = some (.string r.t) ∧ x.cell? ⟨b11, 3, none⟩ = some (.int .i64 r.g) ∧ x.cell? ⟨b11, 4, none⟩ = some (.int .i64 r.c) ∧ x.cell? ⟨b12, 0, none⟩ = some (.slice qs1 qs2 qs3) ∧ x.cell? ⟨b12, 1, none⟩ = some (.slice qp1 qp2 qp3) ∧ x.cell? ⟨b12, 2, none⟩ = some (.string q.t) ∧ x.cell? ⟨b12, 3, none⟩ = some (.int .i64 q.g) ∧ x.cell? ⟨b12, 4, none⟩ = some (.int .i64 q.c) from fun x h => ⟨(Row.after h PDd_8.out.row).cell 0, (Row.after h PDd_8.out.row).cell 1, (Row.after h POx_8.out.row).cell 0, (Row.after h POx_8.out.row).cell 1, (Row.after h POx_8.out.row).cell 2, (Row.after h POx_8.out.row).cell 3, (Row.after h POx_8.out.row).cell 4, (Row.after h POy_8.out.row).cell 0, (Row.after h POy_8.out.row).cell 1, (Row.after h POy_8.out.row).cell 2, (Row.after h POy_8.out.row).cell 3, (Row.after h POy_8.out.row).cell 4⟩)
            refine wp_region_held (S := fun x : World => x.cell? ⟨b5, 0, none⟩ = some (.slice us1 xs.length us3) ∧ x.cell? ⟨b5, 1, none⟩ = some (.slice up1 ps.length up3) ∧ x.cell? ⟨b11, 0, none⟩ = some (.slice rs1 rs2 rs3) ∧ x.cell? ⟨b11, 1, none⟩ = some (.slice rp1 rp2 rp3) ∧ x.cell? ⟨b11, 2, none⟩ = some (.string r.t) ∧ x.cell? ⟨b11, 3, none⟩ = some (.int .i64 r.g) ∧ x.cell? ⟨b11, 4, none⟩ = some (.int .i64 r.c) ∧ x.cell? ⟨b12, 0, none⟩ = some (.slice qs1 qs2 qs3) ∧ x.cell? ⟨b12, 1, none⟩ = some (.slice qp1 qp2 qp3) ∧ x.cell? ⟨b12, 2, none⟩ = some (.string q.t) ∧ x.cell? ⟨b12, 3, none⟩ = some (.int .i64 q.g) ∧ x.cell? ⟨b12, 4, none⟩ = some (.int .i64 q.c)) (by kernel_rfl) ?_
            have HB_a := hide (show Below W8.heap.size W8 { W8 with drawn := W8.drawn + 1 } from (Below.refl _ _).drew)
            have HS := hide (HSS.out _ HB_a.out)
            refine wpAnyH_take (i := 0) (oi := _) (v := .pointer (some ⟨b11, 4, none⟩)) rfl (by kernel_rfl) (by kernel_rfl) (by kernel_rfl) (fun _ _ _ h => h) (Or.inl ⟨by rfl, by intro w hSw; go_split_ands; go_simp⟩) HS.out ?_
            simp only [Act.put, List.getElem_toArray, List.getElem_cons_zero, List.setIfInBounds_toArray, List.set_cons_zero, List.set_cons_succ]
            refine wpAnyH_take (i := 1) (oi := _) (v := .int .i64 r.c) rfl (by kernel_rfl) (by kernel_rfl) (by kernel_rfl) (fun _ _ _ h => h) (Or.inl ⟨by rfl, by intro w hSw; go_split_ands; go_simp⟩) HS.out ?_
            simp only [Act.put, List.getElem_toArray, List.getElem_cons_zero, List.getElem_cons_succ, List.setIfInBounds_toArray, List.set_cons_zero, List.set_cons_succ]
            refine wpAnyH_take (i := 2) (oi := _) (v := .agg #[.slice us1 xs.length us3, .slice up1 ps.length up3]) rfl (by kernel_rfl) (by kernel_rfl) (by kernel_rfl) (fun _ _ _ h => h) (Or.inl ⟨by rfl, by intro w hSw; go_split_ands; go_simp⟩) HS.out ?_
            simp only [Act.put, List.getElem_toArray, List.getElem_cons_zero, List.getElem_cons_succ, List.setIfInBounds_toArray, List.set_cons_zero, List.set_cons_succ]
            refine wpAnyH_take (i := 3) (oi := _) (v := .string tx) rfl (by kernel_rfl) (by kernel_rfl) (by kernel_rfl) (fun _ _ _ h => h) (Or.inl ⟨by rfl, by intro w hSw; go_split_ands; go_simp⟩) HS.out ?_
            simp only [Act.put, List.getElem_toArray, List.getElem_cons_zero, List.getElem_cons_succ, List.setIfInBounds_toArray, List.set_cons_zero, List.set_cons_succ]
            refine wpAnyH_take (i := 4) (oi := _) (v := .int .i64 a) rfl (by kernel_rfl) (by kernel_rfl) (by kernel_rfl) (fun _ _ _ h => h) (Or.inl ⟨by rfl, by intro w hSw; go_split_ands; go_simp⟩) HS.out ?_
            simp only [Act.put, List.getElem_toArray, List.getElem_cons_zero, List.getElem_cons_succ, List.setIfInBounds_toArray, List.set_cons_zero, List.set_cons_succ]
            refine wpAnyH_ready (rs := [5]) (by kernel_rfl) (by simp) ?_
            refine AllReadyH.cons (o := _) rfl (fun K hK => ?_) AllReadyH.nil
            go_simp
            refine (specAreaPut_any _ _ xs ps tx a _ HSD.out.1 HSD.out.2.2.1 htx2 (Stab.go HB_a.out PDd_8.out).rs (Stab.go HB_a.out PDd_8.out).rp).mono ?_
            rw [← Hr.out]
            rintro e X_b ⟨⟨nas, nap, rfl, ow1, ow2, _⟩, hb⟩
            have nasR := hide ow1.reads
            have nasP := hide ow2.reads
            obtain ⟨nas1, nas2, nas3, rfl⟩ := ow1.isSlice
            obtain ⟨nap1, nap2, nap3, rfl⟩ := ow2.isSlice
            clear ow1 ow2
            have HB_b := hide (HB_a.out.trans (hb.mono HB_a.out.size))
            refine hK.out _ _ (HSS.out _ HB_b.out) (fun _ => ?_)
            clear hK K HS hb
            have HS := hide (HSS.out _ HB_b.out)
            refine wpAnyH_take (i := 6) (oi := _) (v := .int .i64 r.c) rfl (by kernel_rfl) (by kernel_rfl) (by kernel_rfl) (fun _ _ _ h => h) (Or.inl ⟨by rfl, by intro w hSw; go_split_ands; go_simp⟩) HS.out ?_
            simp only [Act.put, List.getElem_toArray, List.getElem_cons_zero, List.getElem_cons_succ, List.setIfInBounds_toArray, List.set_cons_zero, List.set_cons_succ]
            refine wpAnyH_take (i := 7) (oi := _) (v := .bool true) rfl (by kernel_rfl) (by kernel_rfl) (by kernel_rfl) (fun _ _ _ h => h) (Or.inl ⟨by rfl, by intro w hSw; go_split_ands; go_simp⟩) HS.out ?_
            simp only [Act.put, List.getElem_toArray, List.getElem_cons_zero, List.getElem_cons_succ, List.setIfInBounds_toArray, List.set_cons_zero, List.set_cons_succ]
            refine wpAnyH_take (i := 8) (oi := _) (v := .bool true) rfl (by kernel_rfl) (by kernel_rfl) (by kernel_rfl) (fun _ _ _ h => h) (Or.inl ⟨by rfl, by intro w hSw; go_split_ands; go_simp⟩) HS.out ?_
            simp only [Act.put, List.getElem_toArray, List.getElem_cons_zero, List.getElem_cons_succ, List.setIfInBounds_toArray, List.set_cons_zero, List.set_cons_succ]
            refine wpAnyH_take (i := 9) (oi := _) (v := .pointer (some ⟨b11, 0, none⟩)) rfl (by kernel_rfl) (by kernel_rfl) (by kernel_rfl) (fun _ _ _ h => h) (Or.inl ⟨by rfl, by intro w hSw; go_split_ands; go_simp⟩) HS.out ?_
            simp only [Act.put, List.getElem_toArray, List.getElem_cons_zero, List.getElem_cons_succ, List.setIfInBounds_toArray, List.set_cons_zero, List.set_cons_succ]
            refine wpAnyH_take (i := 10) (oi := _) (v := .agg #[.slice rs1 rs2 rs3, .slice rp1 rp2 rp3]) rfl (by kernel_rfl) (by kernel_rfl) (by kernel_rfl) (fun _ _ _ h => h) (Or.inl ⟨by rfl, by intro w hSw; go_split_ands; go_simp⟩) HS.out ?_
            simp only [Act.put, List.getElem_toArray, List.getElem_cons_zero, List.getElem_cons_succ, List.setIfInBounds_toArray, List.set_cons_zero, List.set_cons_succ]
            refine wpAnyH_take (i := 11) (oi := _) (v := .agg #[.slice us1 xs.length us3, .slice up1 ps.length up3]) rfl (by kernel_rfl) (by kernel_rfl) (by kernel_rfl) (fun _ _ _ h => h) (Or.inl ⟨by rfl, by intro w hSw; go_split_ands; go_simp⟩) HS.out ?_
            simp only [Act.put, List.getElem_toArray, List.getElem_cons_zero, List.getElem_cons_succ, List.setIfInBounds_toArray, List.set_cons_zero, List.set_cons_succ]
            refine wpAnyH_take (i := 12) (oi := _) (v := .string tx) rfl (by kernel_rfl) (by kernel_rfl) (by kernel_rfl) (fun _ _ _ h => h) (Or.inl ⟨by rfl, by intro w hSw; go_split_ands; go_simp⟩) HS.out ?_
            simp only [Act.put, List.getElem_toArray, List.getElem_cons_zero, List.getElem_cons_succ, List.setIfInBounds_toArray, List.set_cons_zero, List.set_cons_succ]
            refine wpAnyH_take (i := 13) (oi := _) (v := .int .i64 a) rfl (by kernel_rfl) (by kernel_rfl) (by kernel_rfl) (fun _ _ _ h => h) (Or.inl ⟨by rfl, by intro w hSw; go_split_ands; go_simp⟩) HS.out ?_
            simp only [Act.put, List.getElem_toArray, List.getElem_cons_zero, List.getElem_cons_succ, List.setIfInBounds_toArray, List.set_cons_zero, List.set_cons_succ]
            refine wpAnyH_ready (rs := [14]) (by kernel_rfl) (by simp) ?_
            refine AllReadyH.cons (o := _) rfl (fun K hK => ?_) AllReadyH.nil
            go_simp
            refine (specAreaPut_any _ _ xs ps tx a _ HSD.out.1 HSD.out.2.2.1 htx2 (Stab.go HB_b.out PDd_8.out).rs (Stab.go HB_b.out PDd_8.out).rp).mono ?_
            rw [← Hr.out]
            rintro e X_c ⟨⟨ncs, ncp, rfl, ow1, ow2, _⟩, hb⟩
            have ncsR := hide ow1.reads
            have ncsP := hide ow2.reads
            obtain ⟨ncs1, ncs2, ncs3, rfl⟩ := ow1.isSlice
            obtain ⟨ncp1, ncp2, ncp3, rfl⟩ := ow2.isSlice
            clear ow1 ow2
            have HB_c := hide (HB_b.out.trans (hb.mono HB_b.out.size))
            refine hK.out _ _ (HSS.out _ HB_c.out) (fun _ => ?_)
            clear hK K HS hb
            have HS := hide (HSS.out _ HB_c.out)
            refine wpAnyH_take (i := 15) (oi := _) (v := .agg #[.slice ncs1 ncs2 ncs3, .slice ncp1 ncp2 ncp3]) rfl (by kernel_rfl) (by kernel_rfl) (by kernel_rfl) (fun _ _ _ h => h) (Or.inl ⟨by rfl, by intro w hSw; go_split_ands; go_simp⟩) HS.out ?_
            simp only [Act.put, List.getElem_toArray, List.getElem_cons_zero, List.getElem_cons_succ, List.setIfInBounds_toArray, List.set_cons_zero, List.set_cons_succ]
            refine wpAnyH_ready (rs := [16]) (by kernel_rfl) (by simp) ?_
            refine AllReadyH.cons (o := _) rfl (fun K hK => ?_) AllReadyH.nil
            go_simp
            refine (lwDisk_same _ _ _ _ r.xs r.ps _ (by rw [Hr.out]; exact (putO_len xs ps tx a).1) (by rw [Hr.out]; exact (putO_len xs ps tx a).2) (Stab.go HB_c.out POx_8.out).rs (Stab.go HB_c.out POx_8.out).rp ncsR.out ncsP.out).mono ?_
            rintro e X_d ⟨rfl, hb⟩
            have HB_d := hide (HB_c.out.trans (hb.mono HB_c.out.size))
            refine hK.out _ _ (HSS.out _ HB_d.out) (fun _ => ?_)
            clear hK K HS hb
            have HS := hide (HSS.out _ HB_d.out)
            refine wpAnyH_take (i := 17) (oi := _) (v := .bool true) rfl (by kernel_rfl) (by kernel_rfl) (by kernel_rfl) (fun _ _ _ h => h) (Or.inl ⟨by rfl, by intro w hSw; go_split_ands; go_simp⟩) HS.out ?_
            simp only [Act.put, List.getElem_toArray, List.getElem_cons_zero, List.getElem_cons_succ, List.setIfInBounds_toArray, List.set_cons_zero, List.set_cons_succ]
            refine wpAnyH_take (i := 18) (oi := _) (v := .bool true) rfl (by kernel_rfl) (by kernel_rfl) (by kernel_rfl) (fun _ _ _ h => h) (Or.inl ⟨by rfl, by intro w hSw; go_split_ands; go_simp⟩) HS.out ?_
            simp only [Act.put, List.getElem_toArray, List.getElem_cons_zero, List.getElem_cons_succ, List.setIfInBounds_toArray, List.set_cons_zero, List.set_cons_succ]
            refine wpAnyH_take (i := 19) (oi := _) (v := .pointer (some ⟨b12, 4, none⟩)) rfl (by kernel_rfl) (by kernel_rfl) (by kernel_rfl) (fun _ _ _ h => h) (Or.inl ⟨by rfl, by intro w hSw; go_split_ands; go_simp⟩) HS.out ?_
            simp only [Act.put, List.getElem_toArray, List.getElem_cons_zero, List.getElem_cons_succ, List.setIfInBounds_toArray, List.set_cons_zero, List.set_cons_succ]
            refine wpAnyH_take (i := 20) (oi := _) (v := .int .i64 q.c) rfl (by kernel_rfl) (by kernel_rfl) (by kernel_rfl) (fun _ _ _ h => h) (Or.inl ⟨by rfl, by intro w hSw; go_split_ands; go_simp⟩) HS.out ?_
            simp only [Act.put, List.getElem_toArray, List.getElem_cons_zero, List.getElem_cons_succ, List.setIfInBounds_toArray, List.set_cons_zero, List.set_cons_succ]
            refine wpAnyH_take (i := 21) (oi := _) (v := .agg #[.slice us1 xs.length us3, .slice up1 ps.length up3]) rfl (by kernel_rfl) (by kernel_rfl) (by kernel_rfl) (fun _ _ _ h => h) (Or.inl ⟨by rfl, by intro w hSw; go_split_ands; go_simp⟩) HS.out ?_
            simp only [Act.put, List.getElem_toArray, List.getElem_cons_zero, List.getElem_cons_succ, List.setIfInBounds_toArray, List.set_cons_zero, List.set_cons_succ]
            refine wpAnyH_take (i := 22) (oi := _) (v := .string tx) rfl (by kernel_rfl) (by kernel_rfl) (by kernel_rfl) (fun _ _ _ h => h) (Or.inl ⟨by rfl, by intro w hSw; go_split_ands; go_simp⟩) HS.out ?_
            simp only [Act.put, List.getElem_toArray, List.getElem_cons_zero, List.getElem_cons_succ, List.setIfInBounds_toArray, List.set_cons_zero, List.set_cons_succ]
            refine wpAnyH_ready (rs := [23]) (by kernel_rfl) (by simp) ?_
            refine AllReadyH.cons (o := _) rfl (fun K hK => ?_) AllReadyH.nil
            go_simp
            refine (specAreaPut_any _ _ xs ps tx 1000 _ HSD.out.1 HSD.out.2.2.1 htx2 (Stab.go HB_d.out PDd_8.out).rs (Stab.go HB_d.out PDd_8.out).rp).mono ?_
            rw [← Hq.out]
            rintro e X_e1 ⟨⟨nds, ndp, rfl, ow1, ow2, _⟩, hb⟩
            have ndsR := hide ow1.reads
            have ndsP := hide ow2.reads
            obtain ⟨nds1, nds2, nds3, rfl⟩ := ow1.isSlice
            obtain ⟨ndp1, ndp2, ndp3, rfl⟩ := ow2.isSlice
            clear ow1 ow2
            have HB_e1 := hide (HB_d.out.trans (hb.mono HB_d.out.size))
            refine hK.out _ _ (HSS.out _ HB_e1.out) (fun _ => ?_)
            clear hK K HS hb
            have HS := hide (HSS.out _ HB_e1.out)
            refine wpAnyH_take (i := 24) (oi := _) (v := .int .i64 q.c) rfl (by kernel_rfl) (by kernel_rfl) (by kernel_rfl) (fun _ _ _ h => h) (Or.inl ⟨by rfl, by intro w hSw; go_split_ands; go_simp⟩) HS.out ?_
            simp only [Act.put, List.getElem_toArray, List.getElem_cons_zero, List.getElem_cons_succ, List.setIfInBounds_toArray, List.set_cons_zero, List.set_cons_succ]
            refine wpAnyH_take (i := 25) (oi := _) (v := .bool true) rfl (by kernel_rfl) (by kernel_rfl) (by kernel_rfl) (fun _ _ _ h => h) (Or.inl ⟨by rfl, by intro w hSw; go_split_ands; go_simp⟩) HS.out ?_
            simp only [Act.put, List.getElem_toArray, List.getElem_cons_zero, List.getElem_cons_succ, List.setIfInBounds_toArray, List.set_cons_zero, List.set_cons_succ]
            refine wpAnyH_take (i := 26) (oi := _) (v := .bool true) rfl (by kernel_rfl) (by kernel_rfl) (by kernel_rfl) (fun _ _ _ h => h) (Or.inl ⟨by rfl, by intro w hSw; go_split_ands; go_simp⟩) HS.out ?_
            simp only [Act.put, List.getElem_toArray, List.getElem_cons_zero, List.getElem_cons_succ, List.setIfInBounds_toArray, List.set_cons_zero, List.set_cons_succ]
            refine wpAnyH_take (i := 27) (oi := _) (v := .bool true) rfl (by kernel_rfl) (by kernel_rfl) (by kernel_rfl) (fun _ _ _ h => h) (Or.inl ⟨by rfl, by intro w hSw; go_split_ands; go_simp⟩) HS.out ?_
            simp only [Act.put, List.getElem_toArray, List.getElem_cons_zero, List.getElem_cons_succ, List.setIfInBounds_toArray, List.set_cons_zero, List.set_cons_succ]
            refine wpAnyH_done (by kernel_rfl) ?_ _
            have BBz := hide (BB_8.out.trans (HB_e1.out.mono BB_8.out.size))
            clear HSS HS
            go_wp2
            go_ret
            exact ⟨rfl, BBz.out⟩
    · have hq0 : (q.c != 0) = true := by simpa using hqc
      clear hrc hqc
      as_aux_lemma =>
        refine wpAnyH_take (i := 22) (oi := _) (v := .bool false) rfl (by kernel_rfl) (by kernel_rfl) (by kernel_rfl) (fun _ _ _ h => h) (Or.inl ⟨by rfl, by intro w hSw; go_split_ands; go_simp⟩) HS.out ?_
        simp only [Act.put, List.getElem_toArray, List.getElem_cons_zero, List.getElem_cons_succ, List.setIfInBounds_toArray, List.set_cons_zero, List.set_cons_succ]
        refine wpAnyH_take (i := 23) (oi := _) (v := .bool false) rfl (by kernel_rfl) (by kernel_rfl) (by kernel_rfl) (fun _ _ _ h => h) (Or.inl ⟨by rfl, by intro w hSw; go_split_ands; go_simp⟩) HS.out ?_
        simp only [Act.put, List.getElem_toArray, List.getElem_cons_zero, List.getElem_cons_succ, List.setIfInBounds_toArray, List.set_cons_zero, List.set_cons_succ]
        refine wpAnyH_take (i := 24) (oi := _) (v := .bool false) rfl (by kernel_rfl) (by kernel_rfl) (by kernel_rfl) (fun _ _ _ h => h) (Or.inl ⟨by rfl, by intro w hSw; go_split_ands; go_simp⟩) HS.out ?_
        simp only [Act.put, List.getElem_toArray, List.getElem_cons_zero, List.getElem_cons_succ, List.setIfInBounds_toArray, List.set_cons_zero, List.set_cons_succ]
        refine wpAnyH_take (i := 25) (oi := _) (v := .pointer (some ⟨b12, 4, none⟩)) rfl (by kernel_rfl) (by kernel_rfl) (by kernel_rfl) (fun _ _ _ h => h) (Or.inl ⟨by rfl, by intro w hSw; go_split_ands; go_simp⟩) HS.out ?_
        simp only [Act.put, List.getElem_toArray, List.getElem_cons_zero, List.getElem_cons_succ, List.setIfInBounds_toArray, List.set_cons_zero, List.set_cons_succ]
        refine wpAnyH_take (i := 26) (oi := _) (v := .int .i64 q.c) rfl (by kernel_rfl) (by kernel_rfl) (by kernel_rfl) (fun _ _ _ h => h) (Or.inl ⟨by rfl, by intro w hSw; go_split_ands; go_simp⟩) HS.out ?_
        simp only [Act.put, List.getElem_toArray, List.getElem_cons_zero, List.getElem_cons_succ, List.setIfInBounds_toArray, List.set_cons_zero, List.set_cons_succ]
        refine wpAnyH_take (i := 27) (oi := _) (v := .bool true) rfl (by kernel_rfl) (by kernel_rfl) (by kernel_rfl) (fun _ _ _ h => h) (Or.inl ⟨by rfl, by intro w hSw; go_split_ands; go_simp⟩) HS.out ?_
        simp only [Act.put, List.getElem_toArray, List.getElem_cons_zero, List.getElem_cons_succ, List.setIfInBounds_toArray, List.set_cons_zero, List.set_cons_succ]
        refine wpAnyH_take (i := 28) (oi := _) (v := .bool true) rfl (by kernel_rfl) (by kernel_rfl) (by kernel_rfl) (fun _ _ _ h => h) (Or.inl ⟨by rfl, by intro w hSw; go_split_ands; go_simp⟩) HS.out ?_
        simp only [Act.put, List.getElem_toArray, List.getElem_cons_zero, List.getElem_cons_succ, List.setIfInBounds_toArray, List.set_cons_zero, List.set_cons_succ]
        refine wpAnyH_take (i := 29) (oi := _) (v := .bool true) rfl (by kernel_rfl) (by kernel_rfl) (by kernel_rfl) (fun _ _ _ h => h) (Or.inl ⟨by rfl, by intro w hSw; go_split_ands; go_simp⟩) HS.out ?_
        simp only [Act.put, List.getElem_toArray, List.getElem_cons_zero, List.getElem_cons_succ, List.setIfInBounds_toArray, List.set_cons_zero, List.set_cons_succ]
        refine wpAnyH_take (i := 30) (oi := _) (v := undef) rfl (by kernel_rfl) (by kernel_rfl) (by kernel_rfl) (fun _ _ _ h => h) (Or.inr ⟨by rfl, rfl⟩) HS.out ?_
        simp only [Act.put, List.getElem_toArray, List.getElem_cons_zero, List.getElem_cons_succ, List.setIfInBounds_toArray, List.set_cons_zero, List.set_cons_succ]
        refine wpAnyH_take (i := 31) (oi := _) (v := undef) rfl (by kernel_rfl) (by kernel_rfl) (by kernel_rfl) (fun _ _ _ h => h) (Or.inr ⟨by rfl, rfl⟩) HS.out ?_
        simp only [Act.put, List.getElem_toArray, List.getElem_cons_zero, List.getElem_cons_succ, List.setIfInBounds_toArray, List.set_cons_zero, List.set_cons_succ]
        refine wpAnyH_take (i := 32) (oi := _) (v := undef) rfl (by kernel_rfl) (by kernel_rfl) (by kernel_rfl) (fun _ _ _ h => h) (Or.inr ⟨by rfl, rfl⟩) HS.out ?_
        simp only [Act.put, List.getElem_toArray, List.getElem_cons_zero, List.getElem_cons_succ, List.setIfInBounds_toArray, List.set_cons_zero, List.set_cons_succ]
        refine wpAnyH_take (i := 33) (oi := _) (v := undef) rfl (by kernel_rfl) (by kernel_rfl) (by kernel_rfl) (fun _ _ _ h => h) (Or.inr ⟨by rfl, rfl⟩) HS.out ?_
        simp only [Act.put, List.getElem_toArray, List.getElem_cons_zero, List.getElem_cons_succ, List.setIfInBounds_toArray, List.set_cons_zero, List.set_cons_succ]
        refine wpAnyH_take (i := 34) (oi := _) (v := .bool true) rfl (by kernel_rfl) (by kernel_rfl) (by kernel_rfl) (fun _ _ _ h => h) (Or.inl ⟨by rfl, by intro w hSw; go_split_ands; go_simp⟩) HS.out ?_
        simp only [Act.put, List.getElem_toArray, List.getElem_cons_zero, List.getElem_cons_succ, List.setIfInBounds_toArray, List.set_cons_zero, List.set_cons_succ]
        refine wpAnyH_done (by kernel_rfl) ?_ _
        have hcb := HB_d.out
        have SE_8 := hide (Stab.go hcb SE_5.out)
        have LG_8 := hide (Stab.go (P := fun x => St3.Laid x) hcb LG_5.out)
        have BB_8 := hide (Stab.go (P := fun x => Below w.heap.size w x) hcb BB_5.out)
        have PDd_8 := hide (Stab.go hcb PDd_5.out)
        have RIk_8 := hide (Stab.go (P := fun x => ReadsI x (.slice u1 u2 u3) ks) hcb RIk_5.out)
        have POw_8 := hide (Stab.go hcb POw_5.out)
        have POx_8 := hide (Stab.go hcb POx_5.out)
        have POy_8 := hide (Stab.go hcb POy_5.out)
        clear hcb HSS HS HB_a HB_b HB_c masR masP mcsR mcsP SE_5 LG_5 BB_5 PDd_5 RIk_5 POw_5 POx_5 POy_5
        obtain ⟨W8, hW8⟩ : ∃ W, W = X_d := ⟨_, rfl⟩
        rw [← hW8] at SE_8 LG_8 BB_8 PDd_8 RIk_8 POw_8 POx_8 POy_8 ⊢
        clear hW8 HB_d hfd0 hfd3
        as_aux_lemma =>
          go_wp2_with fail
          have hfd0 := fun (a b c d e : Value) (w : World) => (show (Instr.field 31 (.agg #[a, b, c, d, e]) 0).run Tryz.prog w = .ok (.agg #[a, b]) w by kernel_rfl)
          have hfd3 := fun (a b c d e : Value) (w : World) => (show (Instr.field 31 (.agg #[a, b, c, d, e]) 3).run Tryz.prog w = .ok e w by kernel_rfl)
          have HSS := hide (show ∀ x, Below W8.heap.size W8 x → x.cell? ⟨b5, 0, none⟩ = some (.slice us1 xs.length us3) ∧ x.cell? ⟨b5, 1, none⟩ = some (.slice up1 ps.length up3) ∧ x.cell? ⟨b11, 0, none⟩ = some (.slice rs1 rs2 rs3) ∧ x.cell? ⟨b11, 1, none⟩ = some (.slice rp1 rp2 rp3) ∧ x.cell? ⟨b11, 2, none⟩ = some (.string r.t) ∧ x.cell? ⟨b11, 3, none⟩ = some (.int .i64 r.g) ∧ x.cell? ⟨b11, 4, none⟩ = some (.int .i64 r.c) ∧ x.cell? ⟨b12, 0, none⟩ = some (.slice qs1 qs2 qs3) ∧ x.cell? ⟨b12, 1, none⟩ = some (.slice qp1 qp2 qp3) ∧ x.cell? ⟨b12, 2, none⟩ = some (.string q.t) ∧ x.cell? ⟨b12, 3, none⟩ = some (.int .i64 q.g) ∧ x.cell? ⟨b12, 4, none⟩ = some (.int .i64 q.c) from fun x h => ⟨(Row.after h PDd_8.out.row).cell 0, (Row.after h PDd_8.out.row).cell 1, (Row.after h POx_8.out.row).cell 0, (Row.after h POx_8.out.row).cell 1, (Row.after h POx_8.out.row).cell 2, (Row.after h POx_8.out.row).cell 3, (Row.after h POx_8.out.row).cell 4, (Row.after h POy_8.out.row).cell 0, (Row.after h POy_8.out.row).cell 1, (Row.after h POy_8.out.row).cell 2, (Row.after h POy_8.out.row).cell 3, (Row.after h POy_8.out.row).cell 4⟩)
          refine wp_region_held (S := fun x : World => x.cell? ⟨b5, 0, none⟩ = some (.slice us1 xs.length us3) ∧ x.cell? ⟨b5, 1, none⟩ = some (.slice up1 ps.length up3) ∧ x.cell? ⟨b11, 0, none⟩ = some (.slice rs1 rs2 rs3) ∧ x.cell? ⟨b11, 1, none⟩ = some (.slice rp1 rp2 rp3) ∧ x.cell? ⟨b11, 2, none⟩ = some (.string r.t) ∧ x.cell? ⟨b11, 3, none⟩ = some (.int .i64 r.g) ∧ x.cell? ⟨b11, 4, none⟩ = some (.int .i64 r.c) ∧ x.cell? ⟨b12, 0, none⟩ = some (.slice qs1 qs2 qs3) ∧ x.cell? ⟨b12, 1, none⟩ = some (.slice qp1 qp2 qp3) ∧ x.cell? ⟨b12, 2, none⟩ = some (.string q.t) ∧ x.cell? ⟨b12, 3, none⟩ = some (.int .i64 q.g) ∧ x.cell? ⟨b12, 4, none⟩ = some (.int .i64 q.c)) (by kernel_rfl) ?_
          have HB_a := hide (show Below W8.heap.size W8 { W8 with drawn := W8.drawn + 1 } from (Below.refl _ _).drew)
          have HS := hide (HSS.out _ HB_a.out)
          refine wpAnyH_take (i := 0) (oi := _) (v := .pointer (some ⟨b11, 4, none⟩)) rfl (by kernel_rfl) (by kernel_rfl) (by kernel_rfl) (fun _ _ _ h => h) (Or.inl ⟨by rfl, by intro w hSw; go_split_ands; go_simp⟩) HS.out ?_
          simp only [Act.put, List.getElem_toArray, List.getElem_cons_zero, List.setIfInBounds_toArray, List.set_cons_zero, List.set_cons_succ]
          refine wpAnyH_take (i := 1) (oi := _) (v := .int .i64 r.c) rfl (by kernel_rfl) (by kernel_rfl) (by kernel_rfl) (fun _ _ _ h => h) (Or.inl ⟨by rfl, by intro w hSw; go_split_ands; go_simp⟩) HS.out ?_
          simp only [Act.put, List.getElem_toArray, List.getElem_cons_zero, List.getElem_cons_succ, List.setIfInBounds_toArray, List.set_cons_zero, List.set_cons_succ]
          refine wpAnyH_take (i := 2) (oi := _) (v := .agg #[.slice us1 xs.length us3, .slice up1 ps.length up3]) rfl (by kernel_rfl) (by kernel_rfl) (by kernel_rfl) (fun _ _ _ h => h) (Or.inl ⟨by rfl, by intro w hSw; go_split_ands; go_simp⟩) HS.out ?_
          simp only [Act.put, List.getElem_toArray, List.getElem_cons_zero, List.getElem_cons_succ, List.setIfInBounds_toArray, List.set_cons_zero, List.set_cons_succ]
          refine wpAnyH_take (i := 3) (oi := _) (v := .string tx) rfl (by kernel_rfl) (by kernel_rfl) (by kernel_rfl) (fun _ _ _ h => h) (Or.inl ⟨by rfl, by intro w hSw; go_split_ands; go_simp⟩) HS.out ?_
          simp only [Act.put, List.getElem_toArray, List.getElem_cons_zero, List.getElem_cons_succ, List.setIfInBounds_toArray, List.set_cons_zero, List.set_cons_succ]
          refine wpAnyH_take (i := 4) (oi := _) (v := .int .i64 a) rfl (by kernel_rfl) (by kernel_rfl) (by kernel_rfl) (fun _ _ _ h => h) (Or.inl ⟨by rfl, by intro w hSw; go_split_ands; go_simp⟩) HS.out ?_
          simp only [Act.put, List.getElem_toArray, List.getElem_cons_zero, List.getElem_cons_succ, List.setIfInBounds_toArray, List.set_cons_zero, List.set_cons_succ]
          refine wpAnyH_ready (rs := [5]) (by kernel_rfl) (by simp) ?_
          refine AllReadyH.cons (o := _) rfl (fun K hK => ?_) AllReadyH.nil
          go_simp
          refine (specAreaPut_any _ _ xs ps tx a _ HSD.out.1 HSD.out.2.2.1 htx2 (Stab.go HB_a.out PDd_8.out).rs (Stab.go HB_a.out PDd_8.out).rp).mono ?_
          rw [← Hr.out]
          rintro e X_b ⟨⟨nas, nap, rfl, ow1, ow2, _⟩, hb⟩
          have nasR := hide ow1.reads
          have nasP := hide ow2.reads
          obtain ⟨nas1, nas2, nas3, rfl⟩ := ow1.isSlice
          obtain ⟨nap1, nap2, nap3, rfl⟩ := ow2.isSlice
          clear ow1 ow2
          have HB_b := hide (HB_a.out.trans (hb.mono HB_a.out.size))
          refine hK.out _ _ (HSS.out _ HB_b.out) (fun _ => ?_)
          clear hK K HS hb
          have HS := hide (HSS.out _ HB_b.out)
          refine wpAnyH_take (i := 6) (oi := _) (v := .int .i64 r.c) rfl (by kernel_rfl) (by kernel_rfl) (by kernel_rfl) (fun _ _ _ h => h) (Or.inl ⟨by rfl, by intro w hSw; go_split_ands; go_simp⟩) HS.out ?_
          simp only [Act.put, List.getElem_toArray, List.getElem_cons_zero, List.getElem_cons_succ, List.setIfInBounds_toArray, List.set_cons_zero, List.set_cons_succ]
          refine wpAnyH_take (i := 7) (oi := _) (v := .bool true) rfl (by kernel_rfl) (by kernel_rfl) (by kernel_rfl) (fun _ _ _ h => h) (Or.inl ⟨by rfl, by intro w hSw; go_split_ands; go_simp⟩) HS.out ?_
          simp only [Act.put, List.getElem_toArray, List.getElem_cons_zero, List.getElem_cons_succ, List.setIfInBounds_toArray, List.set_cons_zero, List.set_cons_succ]
          refine wpAnyH_take (i := 8) (oi := _) (v := .bool true) rfl (by kernel_rfl) (by kernel_rfl) (by kernel_rfl) (fun _ _ _ h => h) (Or.inl ⟨by rfl, by intro w hSw; go_split_ands; go_simp⟩) HS.out ?_
          simp only [Act.put, List.getElem_toArray, List.getElem_cons_zero, List.getElem_cons_succ, List.setIfInBounds_toArray, List.set_cons_zero, List.set_cons_succ]
          refine wpAnyH_take (i := 9) (oi := _) (v := .pointer (some ⟨b11, 0, none⟩)) rfl (by kernel_rfl) (by kernel_rfl) (by kernel_rfl) (fun _ _ _ h => h) (Or.inl ⟨by rfl, by intro w hSw; go_split_ands; go_simp⟩) HS.out ?_
          simp only [Act.put, List.getElem_toArray, List.getElem_cons_zero, List.getElem_cons_succ, List.setIfInBounds_toArray, List.set_cons_zero, List.set_cons_succ]
          refine wpAnyH_take (i := 10) (oi := _) (v := .agg #[.slice rs1 rs2 rs3, .slice rp1 rp2 rp3]) rfl (by kernel_rfl) (by kernel_rfl) (by kernel_rfl) (fun _ _ _ h => h) (Or.inl ⟨by rfl, by intro w hSw; go_split_ands; go_simp⟩) HS.out ?_
          simp only [Act.put, List.getElem_toArray, List.getElem_cons_zero, List.getElem_cons_succ, List.setIfInBounds_toArray, List.set_cons_zero, List.set_cons_succ]
          refine wpAnyH_take (i := 11) (oi := _) (v := .agg #[.slice us1 xs.length us3, .slice up1 ps.length up3]) rfl (by kernel_rfl) (by kernel_rfl) (by kernel_rfl) (fun _ _ _ h => h) (Or.inl ⟨by rfl, by intro w hSw; go_split_ands; go_simp⟩) HS.out ?_
          simp only [Act.put, List.getElem_toArray, List.getElem_cons_zero, List.getElem_cons_succ, List.setIfInBounds_toArray, List.set_cons_zero, List.set_cons_succ]
          refine wpAnyH_take (i := 12) (oi := _) (v := .string tx) rfl (by kernel_rfl) (by kernel_rfl) (by kernel_rfl) (fun _ _ _ h => h) (Or.inl ⟨by rfl, by intro w hSw; go_split_ands; go_simp⟩) HS.out ?_
          simp only [Act.put, List.getElem_toArray, List.getElem_cons_zero, List.getElem_cons_succ, List.setIfInBounds_toArray, List.set_cons_zero, List.set_cons_succ]
          refine wpAnyH_take (i := 13) (oi := _) (v := .int .i64 a) rfl (by kernel_rfl) (by kernel_rfl) (by kernel_rfl) (fun _ _ _ h => h) (Or.inl ⟨by rfl, by intro w hSw; go_split_ands; go_simp⟩) HS.out ?_
          simp only [Act.put, List.getElem_toArray, List.getElem_cons_zero, List.getElem_cons_succ, List.setIfInBounds_toArray, List.set_cons_zero, List.set_cons_succ]
          refine wpAnyH_ready (rs := [14]) (by kernel_rfl) (by simp) ?_
          refine AllReadyH.cons (o := _) rfl (fun K hK => ?_) AllReadyH.nil
          go_simp
          refine (specAreaPut_any _ _ xs ps tx a _ HSD.out.1 HSD.out.2.2.1 htx2 (Stab.go HB_b.out PDd_8.out).rs (Stab.go HB_b.out PDd_8.out).rp).mono ?_
          rw [← Hr.out]
          rintro e X_c ⟨⟨ncs, ncp, rfl, ow1, ow2, _⟩, hb⟩
          have ncsR := hide ow1.reads
          have ncsP := hide ow2.reads
          obtain ⟨ncs1, ncs2, ncs3, rfl⟩ := ow1.isSlice
          obtain ⟨ncp1, ncp2, ncp3, rfl⟩ := ow2.isSlice
          clear ow1 ow2
          have HB_c := hide (HB_b.out.trans (hb.mono HB_b.out.size))
          refine hK.out _ _ (HSS.out _ HB_c.out) (fun _ => ?_)
          clear hK K HS hb
          have HS := hide (HSS.out _ HB_c.out)
          refine wpAnyH_take (i := 15) (oi := _) (v := .agg #[.slice ncs1 ncs2 ncs3, .slice ncp1 ncp2 ncp3]) rfl (by kernel_rfl) (by kernel_rfl) (by kernel_rfl) (fun _ _ _ h => h) (Or.inl ⟨by rfl, by intro w hSw; go_split_ands; go_simp⟩) HS.out ?_
          simp only [Act.put, List.getElem_toArray, List.getElem_cons_zero, List.getElem_cons_succ, List.setIfInBounds_toArray, List.set_cons_zero, List.set_cons_succ]
          refine wpAnyH_ready (rs := [16]) (by kernel_rfl) (by simp) ?_
          refine AllReadyH.cons (o := _) rfl (fun K hK => ?_) AllReadyH.nil
          go_simp
          refine (lwDisk_same _ _ _ _ r.xs r.ps _ (by rw [Hr.out]; exact (putO_len xs ps tx a).1) (by rw [Hr.out]; exact (putO_len xs ps tx a).2) (Stab.go HB_c.out POx_8.out).rs (Stab.go HB_c.out POx_8.out).rp ncsR.out ncsP.out).mono ?_
          rintro e X_d ⟨rfl, hb⟩
          have HB_d := hide (HB_c.out.trans (hb.mono HB_c.out.size))
          refine hK.out _ _ (HSS.out _ HB_d.out) (fun _ => ?_)
          clear hK K HS hb
          have HS := hide (HSS.out _ HB_d.out)
          refine wpAnyH_take (i := 17) (oi := _) (v := .bool true) rfl (by kernel_rfl) (by kernel_rfl) (by kernel_rfl) (fun _ _ _ h => h) (Or.inl ⟨by rfl, by intro w hSw; go_split_ands; go_simp⟩) HS.out ?_
          simp only [Act.put, List.getElem_toArray, List.getElem_cons_zero, List.getElem_cons_succ, List.setIfInBounds_toArray, List.set_cons_zero, List.set_cons_succ]
          refine wpAnyH_take (i := 18) (oi := _) (v := .bool true) rfl (by kernel_rfl) (by kernel_rfl) (by kernel_rfl) (fun _ _ _ h => h) (Or.inl ⟨by rfl, by intro w hSw; go_split_ands; go_simp⟩) HS.out ?_
          simp only [Act.put, List.getElem_toArray, List.getElem_cons_zero, List.getElem_cons_succ, List.setIfInBounds_toArray, List.set_cons_zero, List.set_cons_succ]
          refine wpAnyH_take (i := 19) (oi := _) (v := .pointer (some ⟨b12, 4, none⟩)) rfl (by kernel_rfl) (by kernel_rfl) (by kernel_rfl) (fun _ _ _ h => h) (Or.inl ⟨by rfl, by intro w hSw; go_split_ands; go_simp⟩) HS.out ?_
          simp only [Act.put, List.getElem_toArray, List.getElem_cons_zero, List.getElem_cons_succ, List.setIfInBounds_toArray, List.set_cons_zero, List.set_cons_succ]
          refine wpAnyH_take (i := 20) (oi := _) (v := .int .i64 q.c) rfl (by kernel_rfl) (by kernel_rfl) (by kernel_rfl) (fun _ _ _ h => h) (Or.inl ⟨by rfl, by intro w hSw; go_split_ands; go_simp⟩) HS.out ?_
          simp only [Act.put, List.getElem_toArray, List.getElem_cons_zero, List.getElem_cons_succ, List.setIfInBounds_toArray, List.set_cons_zero, List.set_cons_succ]
          refine wpAnyH_take (i := 21) (oi := _) (v := .agg #[.slice us1 xs.length us3, .slice up1 ps.length up3]) rfl (by kernel_rfl) (by kernel_rfl) (by kernel_rfl) (fun _ _ _ h => h) (Or.inl ⟨by rfl, by intro w hSw; go_split_ands; go_simp⟩) HS.out ?_
          simp only [Act.put, List.getElem_toArray, List.getElem_cons_zero, List.getElem_cons_succ, List.setIfInBounds_toArray, List.set_cons_zero, List.set_cons_succ]
          refine wpAnyH_take (i := 22) (oi := _) (v := .string tx) rfl (by kernel_rfl) (by kernel_rfl) (by kernel_rfl) (fun _ _ _ h => h) (Or.inl ⟨by rfl, by intro w hSw; go_split_ands; go_simp⟩) HS.out ?_
          simp only [Act.put, List.getElem_toArray, List.getElem_cons_zero, List.getElem_cons_succ, List.setIfInBounds_toArray, List.set_cons_zero, List.set_cons_succ]
          refine wpAnyH_ready (rs := [23]) (by kernel_rfl) (by simp) ?_
          refine AllReadyH.cons (o := _) rfl (fun K hK => ?_) AllReadyH.nil
          go_simp
          refine (specAreaPut_any _ _ xs ps tx 1000 _ HSD.out.1 HSD.out.2.2.1 htx2 (Stab.go HB_d.out PDd_8.out).rs (Stab.go HB_d.out PDd_8.out).rp).mono ?_
          rw [← Hq.out]
          rintro e X_e1 ⟨⟨nds, ndp, rfl, ow1, ow2, _⟩, hb⟩
          have ndsR := hide ow1.reads
          have ndsP := hide ow2.reads
          obtain ⟨nds1, nds2, nds3, rfl⟩ := ow1.isSlice
          obtain ⟨ndp1, ndp2, ndp3, rfl⟩ := ow2.isSlice
          clear ow1 ow2
          have HB_e1 := hide (HB_d.out.trans (hb.mono HB_d.out.size))
          refine hK.out _ _ (HSS.out _ HB_e1.out) (fun _ => ?_)
          clear hK K HS hb
          have HS := hide (HSS.out _ HB_e1.out)
          refine wpAnyH_take (i := 24) (oi := _) (v := .int .i64 q.c) rfl (by kernel_rfl) (by kernel_rfl) (by kernel_rfl) (fun _ _ _ h => h) (Or.inl ⟨by rfl, by intro w hSw; go_split_ands; go_simp⟩) HS.out ?_
          simp only [Act.put, List.getElem_toArray, List.getElem_cons_zero, List.getElem_cons_succ, List.setIfInBounds_toArray, List.set_cons_zero, List.set_cons_succ]
          refine wpAnyH_take (i := 25) (oi := _) (v := .bool true) rfl (by kernel_rfl) (by kernel_rfl) (by kernel_rfl) (fun _ _ _ h => h) (Or.inl ⟨by rfl, by intro w hSw; go_split_ands; go_simp⟩) HS.out ?_
          simp only [Act.put, List.getElem_toArray, List.getElem_cons_zero, List.getElem_cons_succ, List.setIfInBounds_toArray, List.set_cons_zero, List.set_cons_succ]
          refine wpAnyH_take (i := 26) (oi := _) (v := .bool true) rfl (by kernel_rfl) (by kernel_rfl) (by kernel_rfl) (fun _ _ _ h => h) (Or.inl ⟨by rfl, by intro w hSw; go_split_ands; go_simp⟩) HS.out ?_
          simp only [Act.put, List.getElem_toArray, List.getElem_cons_zero, List.getElem_cons_succ, List.setIfInBounds_toArray, List.set_cons_zero, List.set_cons_succ]
          refine wpAnyH_take (i := 27) (oi := _) (v := .bool true) rfl (by kernel_rfl) (by kernel_rfl) (by kernel_rfl) (fun _ _ _ h => h) (Or.inl ⟨by rfl, by intro w hSw; go_split_ands; go_simp⟩) HS.out ?_
          simp only [Act.put, List.getElem_toArray, List.getElem_cons_zero, List.getElem_cons_succ, List.setIfInBounds_toArray, List.set_cons_zero, List.set_cons_succ]
          refine wpAnyH_done (by kernel_rfl) ?_ _
          have BBz := hide (BB_8.out.trans (HB_e1.out.mono BB_8.out.size))
          clear HSS HS
          go_wp2
          go_ret
          exact ⟨rfl, BBz.out⟩
  · have hr0 : (r.c != 0) = true := by simpa using hrc
    clear hrc
    as_aux_lemma =>
      refine wpAnyH_take (i := 22) (oi := _) (v := .bool true) rfl (by kernel_rfl) (by kernel_rfl) (by kernel_rfl) (fun _ _ _ h => h) (Or.inl ⟨by rfl, by intro w hSw; go_split_ands; go_simp⟩) HS.out ?_
      simp only [Act.put, List.getElem_toArray, List.getElem_cons_zero, List.getElem_cons_succ, List.setIfInBounds_toArray, List.set_cons_zero, List.set_cons_succ]
      refine wpAnyH_take (i := 23) (oi := _) (v := .bool true) rfl (by kernel_rfl) (by kernel_rfl) (by kernel_rfl) (fun _ _ _ h => h) (Or.inl ⟨by rfl, by intro w hSw; go_split_ands; go_simp⟩) HS.out ?_
      simp only [Act.put, List.getElem_toArray, List.getElem_cons_zero, List.getElem_cons_succ, List.setIfInBounds_toArray, List.set_cons_zero, List.set_cons_succ]
      refine wpAnyH_take (i := 24) (oi := _) (v := .bool true) rfl (by kernel_rfl) (by kernel_rfl) (by kernel_rfl) (fun _ _ _ h => h) (Or.inl ⟨by rfl, by intro w hSw; go_split_ands; go_simp⟩) HS.out ?_
      simp only [Act.put, List.getElem_toArray, List.getElem_cons_zero, List.getElem_cons_succ, List.setIfInBounds_toArray, List.set_cons_zero, List.set_cons_succ]
      refine wpAnyH_take (i := 25) (oi := _) (v := undef) rfl (by kernel_rfl) (by kernel_rfl) (by kernel_rfl) (fun _ _ _ h => h) (Or.inr ⟨by rfl, rfl⟩) HS.out ?_
      simp only [Act.put, List.getElem_toArray, List.getElem_cons_zero, List.getElem_cons_succ, List.setIfInBounds_toArray, List.set_cons_zero, List.set_cons_succ]
      refine wpAnyH_take (i := 26) (oi := _) (v := undef) rfl (by kernel_rfl) (by kernel_rfl) (by kernel_rfl) (fun _ _ _ h => h) (Or.inr ⟨by rfl, rfl⟩) HS.out ?_
      simp only [Act.put, List.getElem_toArray, List.getElem_cons_zero, List.getElem_cons_succ, List.setIfInBounds_toArray, List.set_cons_zero, List.set_cons_succ]
      refine wpAnyH_take (i := 27) (oi := _) (v := undef) rfl (by kernel_rfl) (by kernel_rfl) (by kernel_rfl) (fun _ _ _ h => h) (Or.inr ⟨by rfl, rfl⟩) HS.out ?_
      simp only [Act.put, List.getElem_toArray, List.getElem_cons_zero, List.getElem_cons_succ, List.setIfInBounds_toArray, List.set_cons_zero, List.set_cons_succ]
      refine wpAnyH_take (i := 28) (oi := _) (v := .bool true) rfl (by kernel_rfl) (by kernel_rfl) (by kernel_rfl) (fun _ _ _ h => h) (Or.inl ⟨by rfl, by intro w hSw; go_split_ands; go_simp⟩) HS.out ?_
      simp only [Act.put, List.getElem_toArray, List.getElem_cons_zero, List.getElem_cons_succ, List.setIfInBounds_toArray, List.set_cons_zero, List.set_cons_succ]
      refine wpAnyH_take (i := 29) (oi := _) (v := .bool true) rfl (by kernel_rfl) (by kernel_rfl) (by kernel_rfl) (fun _ _ _ h => h) (Or.inl ⟨by rfl, by intro w hSw; go_split_ands; go_simp⟩) HS.out ?_
      simp only [Act.put, List.getElem_toArray, List.getElem_cons_zero, List.getElem_cons_succ, List.setIfInBounds_toArray, List.set_cons_zero, List.set_cons_succ]
      refine wpAnyH_take (i := 30) (oi := _) (v := undef) rfl (by kernel_rfl) (by kernel_rfl) (by kernel_rfl) (fun _ _ _ h => h) (Or.inr ⟨by rfl, rfl⟩) HS.out ?_
      simp only [Act.put, List.getElem_toArray, List.getElem_cons_zero, List.getElem_cons_succ, List.setIfInBounds_toArray, List.set_cons_zero, List.set_cons_succ]
      refine wpAnyH_take (i := 31) (oi := _) (v := undef) rfl (by kernel_rfl) (by kernel_rfl) (by kernel_rfl) (fun _ _ _ h => h) (Or.inr ⟨by rfl, rfl⟩) HS.out ?_
      simp only [Act.put, List.getElem_toArray, List.getElem_cons_zero, List.getElem_cons_succ, List.setIfInBounds_toArray, List.set_cons_zero, List.set_cons_succ]
      refine wpAnyH_take (i := 32) (oi := _) (v := undef) rfl (by kernel_rfl) (by kernel_rfl) (by kernel_rfl) (fun _ _ _ h => h) (Or.inr ⟨by rfl, rfl⟩) HS.out ?_
      simp only [Act.put, List.getElem_toArray, List.getElem_cons_zero, List.getElem_cons_succ, List.setIfInBounds_toArray, List.set_cons_zero, List.set_cons_succ]
      refine wpAnyH_take (i := 33) (oi := _) (v := undef) rfl (by kernel_rfl) (by kernel_rfl) (by kernel_rfl) (fun _ _ _ h => h) (Or.inr ⟨by rfl, rfl⟩) HS.out ?_
      simp only [Act.put, List.getElem_toArray, List.getElem_cons_zero, List.getElem_cons_succ, List.setIfInBounds_toArray, List.set_cons_zero, List.set_cons_succ]
      refine wpAnyH_take (i := 34) (oi := _) (v := .bool true) rfl (by kernel_rfl) (by kernel_rfl) (by kernel_rfl) (fun _ _ _ h => h) (Or.inl ⟨by rfl, by intro w hSw; go_split_ands; go_simp⟩) HS.out ?_
      simp only [Act.put, List.getElem_toArray, List.getElem_cons_zero, List.getElem_cons_succ, List.setIfInBounds_toArray, List.set_cons_zero, List.set_cons_succ]
      refine wpAnyH_done (by kernel_rfl) ?_ _
      have hcb := HB_d.out
      have SE_8 := hide (Stab.go hcb SE_5.out)
      have LG_8 := hide (Stab.go (P := fun x => St3.Laid x) hcb LG_5.out)
      have BB_8 := hide (Stab.go (P := fun x => Below w.heap.size w x) hcb BB_5.out)
      have PDd_8 := hide (Stab.go hcb PDd_5.out)
      have RIk_8 := hide (Stab.go (P := fun x => ReadsI x (.slice u1 u2 u3) ks) hcb RIk_5.out)
      have POw_8 := hide (Stab.go hcb POw_5.out)
      have POx_8 := hide (Stab.go hcb POx_5.out)
      have POy_8 := hide (Stab.go hcb POy_5.out)
      clear hcb HSS HS HB_a HB_b HB_c masR masP mcsR mcsP SE_5 LG_5 BB_5 PDd_5 RIk_5 POw_5 POx_5 POy_5
      obtain ⟨W8, hW8⟩ : ∃ W, W = X_d := ⟨_, rfl⟩
      rw [← hW8] at SE_8 LG_8 BB_8 PDd_8 RIk_8 POw_8 POx_8 POy_8 ⊢
      clear hW8 HB_d hfd0 hfd3
      as_aux_lemma =>
        go_wp2_with fail
        have hfd0 := fun (a b c d e : Value) (w : World) => (show (Instr.field 31 (.agg #[a, b, c, d, e]) 0).run Tryz.prog w = .ok (.agg #[a, b]) w by kernel_rfl)
        have hfd3 := fun (a b c d e : Value) (w : World) => (show (Instr.field 31 (.agg #[a, b, c, d, e]) 3).run Tryz.prog w = .ok e w by kernel_rfl)
        have HSS := hide (show ∀ x, Below W8.heap.size W8 x → x.cell? ⟨b5, 0, none⟩ = some (.slice us1 xs.length us3) ∧ x.cell? ⟨b5, 1, none⟩ = some (.slice up1 ps.length up3) ∧ x.cell? ⟨b11, 0, none⟩ = some (.slice rs1 rs2 rs3) ∧ x.cell? ⟨b11, 1, none⟩ = some (.slice rp1 rp2 rp3) ∧ x.cell? ⟨b11, 2, none⟩ = some (.string r.t) ∧ x.cell? ⟨b11, 3, none⟩ = some (.int .i64 r.g) ∧ x.cell? ⟨b11, 4, none⟩ = some (.int .i64 r.c) ∧ x.cell? ⟨b12, 0, none⟩ = some (.slice qs1 qs2 qs3) ∧ x.cell? ⟨b12, 1, none⟩ = some (.slice qp1 qp2 qp3) ∧ x.cell? ⟨b12, 2, none⟩ = some (.string q.t) ∧ x.cell? ⟨b12, 3, none⟩ = some (.int .i64 q.g) ∧ x.cell? ⟨b12, 4, none⟩ = some (.int .i64 q.c) from fun x h => ⟨(Row.after h PDd_8.out.row).cell 0, (Row.after h PDd_8.out.row).cell 1, (Row.after h POx_8.out.row).cell 0, (Row.after h POx_8.out.row).cell 1, (Row.after h POx_8.out.row).cell 2, (Row.after h POx_8.out.row).cell 3, (Row.after h POx_8.out.row).cell 4, (Row.after h POy_8.out.row).cell 0, (Row.after h POy_8.out.row).cell 1, (Row.after h POy_8.out.row).cell 2, (Row.after h POy_8.out.row).cell 3, (Row.after h POy_8.out.row).cell 4⟩)
        refine wp_region_held (S := fun x : World => x.cell? ⟨b5, 0, none⟩ = some (.slice us1 xs.length us3) ∧ x.cell? ⟨b5, 1, none⟩ = some (.slice up1 ps.length up3) ∧ x.cell? ⟨b11, 0, none⟩ = some (.slice rs1 rs2 rs3) ∧ x.cell? ⟨b11, 1, none⟩ = some (.slice rp1 rp2 rp3) ∧ x.cell? ⟨b11, 2, none⟩ = some (.string r.t) ∧ x.cell? ⟨b11, 3, none⟩ = some (.int .i64 r.g) ∧ x.cell? ⟨b11, 4, none⟩ = some (.int .i64 r.c) ∧ x.cell? ⟨b12, 0, none⟩ = some (.slice qs1 qs2 qs3) ∧ x.cell? ⟨b12, 1, none⟩ = some (.slice qp1 qp2 qp3) ∧ x.cell? ⟨b12, 2, none⟩ = some (.string q.t) ∧ x.cell? ⟨b12, 3, none⟩ = some (.int .i64 q.g) ∧ x.cell? ⟨b12, 4, none⟩ = some (.int .i64 q.c)) (by kernel_rfl) ?_
        have HB_a := hide (show Below W8.heap.size W8 { W8 with drawn := W8.drawn + 1 } from (Below.refl _ _).drew)
        have HS := hide (HSS.out _ HB_a.out)
        refine wpAnyH_take (i := 0) (oi := _) (v := .pointer (some ⟨b11, 4, none⟩)) rfl (by kernel_rfl) (by kernel_rfl) (by kernel_rfl) (fun _ _ _ h => h) (Or.inl ⟨by rfl, by intro w hSw; go_split_ands; go_simp⟩) HS.out ?_
        simp only [Act.put, List.getElem_toArray, List.getElem_cons_zero, List.setIfInBounds_toArray, List.set_cons_zero, List.set_cons_succ]
        refine wpAnyH_take (i := 1) (oi := _) (v := .int .i64 r.c) rfl (by kernel_rfl) (by kernel_rfl) (by kernel_rfl) (fun _ _ _ h => h) (Or.inl ⟨by rfl, by intro w hSw; go_split_ands; go_simp⟩) HS.out ?_
        simp only [Act.put, List.getElem_toArray, List.getElem_cons_zero, List.getElem_cons_succ, List.setIfInBounds_toArray, List.set_cons_zero, List.set_cons_succ]
        refine wpAnyH_take (i := 2) (oi := _) (v := .agg #[.slice us1 xs.length us3, .slice up1 ps.length up3]) rfl (by kernel_rfl) (by kernel_rfl) (by kernel_rfl) (fun _ _ _ h => h) (Or.inl ⟨by rfl, by intro w hSw; go_split_ands; go_simp⟩) HS.out ?_
        simp only [Act.put, List.getElem_toArray, List.getElem_cons_zero, List.getElem_cons_succ, List.setIfInBounds_toArray, List.set_cons_zero, List.set_cons_succ]
        refine wpAnyH_take (i := 3) (oi := _) (v := .string tx) rfl (by kernel_rfl) (by kernel_rfl) (by kernel_rfl) (fun _ _ _ h => h) (Or.inl ⟨by rfl, by intro w hSw; go_split_ands; go_simp⟩) HS.out ?_
        simp only [Act.put, List.getElem_toArray, List.getElem_cons_zero, List.getElem_cons_succ, List.setIfInBounds_toArray, List.set_cons_zero, List.set_cons_succ]
        refine wpAnyH_take (i := 4) (oi := _) (v := .int .i64 a) rfl (by kernel_rfl) (by kernel_rfl) (by kernel_rfl) (fun _ _ _ h => h) (Or.inl ⟨by rfl, by intro w hSw; go_split_ands; go_simp⟩) HS.out ?_
        simp only [Act.put, List.getElem_toArray, List.getElem_cons_zero, List.getElem_cons_succ, List.setIfInBounds_toArray, List.set_cons_zero, List.set_cons_succ]
        refine wpAnyH_ready (rs := [5]) (by kernel_rfl) (by simp) ?_
        refine AllReadyH.cons (o := _) rfl (fun K hK => ?_) AllReadyH.nil
        go_simp
        refine (specAreaPut_any _ _ xs ps tx a _ HSD.out.1 HSD.out.2.2.1 htx2 (Stab.go HB_a.out PDd_8.out).rs (Stab.go HB_a.out PDd_8.out).rp).mono ?_
        rw [← Hr.out]
        rintro e X_b ⟨⟨nas, nap, rfl, ow1, ow2, _⟩, hb⟩
        have nasR := hide ow1.reads
        have nasP := hide ow2.reads
        obtain ⟨nas1, nas2, nas3, rfl⟩ := ow1.isSlice
        obtain ⟨nap1, nap2, nap3, rfl⟩ := ow2.isSlice
        clear ow1 ow2
        have HB_b := hide (HB_a.out.trans (hb.mono HB_a.out.size))
        refine hK.out _ _ (HSS.out _ HB_b.out) (fun _ => ?_)
        clear hK K HS hb
        have HS := hide (HSS.out _ HB_b.out)
        refine wpAnyH_take (i := 6) (oi := _) (v := .int .i64 r.c) rfl (by kernel_rfl) (by kernel_rfl) (by kernel_rfl) (fun _ _ _ h => h) (Or.inl ⟨by rfl, by intro w hSw; go_split_ands; go_simp⟩) HS.out ?_
        simp only [Act.put, List.getElem_toArray, List.getElem_cons_zero, List.getElem_cons_succ, List.setIfInBounds_toArray, List.set_cons_zero, List.set_cons_succ]
        refine wpAnyH_take (i := 7) (oi := _) (v := .bool true) rfl (by kernel_rfl) (by kernel_rfl) (by kernel_rfl) (fun _ _ _ h => h) (Or.inl ⟨by rfl, by intro w hSw; go_split_ands; go_simp⟩) HS.out ?_
        simp only [Act.put, List.getElem_toArray, List.getElem_cons_zero, List.getElem_cons_succ, List.setIfInBounds_toArray, List.set_cons_zero, List.set_cons_succ]
        refine wpAnyH_take (i := 8) (oi := _) (v := .bool true) rfl (by kernel_rfl) (by kernel_rfl) (by kernel_rfl) (fun _ _ _ h => h) (Or.inl ⟨by rfl, by intro w hSw; go_split_ands; go_simp⟩) HS.out ?_
        simp only [Act.put, List.getElem_toArray, List.getElem_cons_zero, List.getElem_cons_succ, List.setIfInBounds_toArray, List.set_cons_zero, List.set_cons_succ]
        refine wpAnyH_take (i := 9) (oi := _) (v := .pointer (some ⟨b11, 0, none⟩)) rfl (by kernel_rfl) (by kernel_rfl) (by kernel_rfl) (fun _ _ _ h => h) (Or.inl ⟨by rfl, by intro w hSw; go_split_ands; go_simp⟩) HS.out ?_
        simp only [Act.put, List.getElem_toArray, List.getElem_cons_zero, List.getElem_cons_succ, List.setIfInBounds_toArray, List.set_cons_zero, List.set_cons_succ]
        refine wpAnyH_take (i := 10) (oi := _) (v := .agg #[.slice rs1 rs2 rs3, .slice rp1 rp2 rp3]) rfl (by kernel_rfl) (by kernel_rfl) (by kernel_rfl) (fun _ _ _ h => h) (Or.inl ⟨by rfl, by intro w hSw; go_split_ands; go_simp⟩) HS.out ?_
        simp only [Act.put, List.getElem_toArray, List.getElem_cons_zero, List.getElem_cons_succ, List.setIfInBounds_toArray, List.set_cons_zero, List.set_cons_succ]
        refine wpAnyH_take (i := 11) (oi := _) (v := .agg #[.slice us1 xs.length us3, .slice up1 ps.length up3]) rfl (by kernel_rfl) (by kernel_rfl) (by kernel_rfl) (fun _ _ _ h => h) (Or.inl ⟨by rfl, by intro w hSw; go_split_ands; go_simp⟩) HS.out ?_
        simp only [Act.put, List.getElem_toArray, List.getElem_cons_zero, List.getElem_cons_succ, List.setIfInBounds_toArray, List.set_cons_zero, List.set_cons_succ]
        refine wpAnyH_take (i := 12) (oi := _) (v := .string tx) rfl (by kernel_rfl) (by kernel_rfl) (by kernel_rfl) (fun _ _ _ h => h) (Or.inl ⟨by rfl, by intro w hSw; go_split_ands; go_simp⟩) HS.out ?_
        simp only [Act.put, List.getElem_toArray, List.getElem_cons_zero, List.getElem_cons_succ, List.setIfInBounds_toArray, List.set_cons_zero, List.set_cons_succ]
        refine wpAnyH_take (i := 13) (oi := _) (v := .int .i64 a) rfl (by kernel_rfl) (by kernel_rfl) (by kernel_rfl) (fun _ _ _ h => h) (Or.inl ⟨by rfl, by intro w hSw; go_split_ands; go_simp⟩) HS.out ?_
        simp only [Act.put, List.getElem_toArray, List.getElem_cons_zero, List.getElem_cons_succ, List.setIfInBounds_toArray, List.set_cons_zero, List.set_cons_succ]
        refine wpAnyH_ready (rs := [14]) (by kernel_rfl) (by simp) ?_
        refine AllReadyH.cons (o := _) rfl (fun K hK => ?_) AllReadyH.nil
        go_simp
        refine (specAreaPut_any _ _ xs ps tx a _ HSD.out.1 HSD.out.2.2.1 htx2 (Stab.go HB_b.out PDd_8.out).rs (Stab.go HB_b.out PDd_8.out).rp).mono ?_
        rw [← Hr.out]
        rintro e X_c ⟨⟨ncs, ncp, rfl, ow1, ow2, _⟩, hb⟩
        have ncsR := hide ow1.reads
        have ncsP := hide ow2.reads
        obtain ⟨ncs1, ncs2, ncs3, rfl⟩ := ow1.isSlice
        obtain ⟨ncp1, ncp2, ncp3, rfl⟩ := ow2.isSlice
        clear ow1 ow2
        have HB_c := hide (HB_b.out.trans (hb.mono HB_b.out.size))
        refine hK.out _ _ (HSS.out _ HB_c.out) (fun _ => ?_)
        clear hK K HS hb
        have HS := hide (HSS.out _ HB_c.out)
        refine wpAnyH_take (i := 15) (oi := _) (v := .agg #[.slice ncs1 ncs2 ncs3, .slice ncp1 ncp2 ncp3]) rfl (by kernel_rfl) (by kernel_rfl) (by kernel_rfl) (fun _ _ _ h => h) (Or.inl ⟨by rfl, by intro w hSw; go_split_ands; go_simp⟩) HS.out ?_
        simp only [Act.put, List.getElem_toArray, List.getElem_cons_zero, List.getElem_cons_succ, List.setIfInBounds_toArray, List.set_cons_zero, List.set_cons_succ]
        refine wpAnyH_ready (rs := [16]) (by kernel_rfl) (by simp) ?_
        refine AllReadyH.cons (o := _) rfl (fun K hK => ?_) AllReadyH.nil
        go_simp
        refine (lwDisk_same _ _ _ _ r.xs r.ps _ (by rw [Hr.out]; exact (putO_len xs ps tx a).1) (by rw [Hr.out]; exact (putO_len xs ps tx a).2) (Stab.go HB_c.out POx_8.out).rs (Stab.go HB_c.out POx_8.out).rp ncsR.out ncsP.out).mono ?_
        rintro e X_d ⟨rfl, hb⟩
        have HB_d := hide (HB_c.out.trans (hb.mono HB_c.out.size))
        refine hK.out _ _ (HSS.out _ HB_d.out) (fun _ => ?_)
        clear hK K HS hb
        have HS := hide (HSS.out _ HB_d.out)
        refine wpAnyH_take (i := 17) (oi := _) (v := .bool true) rfl (by kernel_rfl) (by kernel_rfl) (by kernel_rfl) (fun _ _ _ h => h) (Or.inl ⟨by rfl, by intro w hSw; go_split_ands; go_simp⟩) HS.out ?_
        simp only [Act.put, List.getElem_toArray, List.getElem_cons_zero, List.getElem_cons_succ, List.setIfInBounds_toArray, List.set_cons_zero, List.set_cons_succ]
        refine wpAnyH_take (i := 18) (oi := _) (v := .bool true) rfl (by kernel_rfl) (by kernel_rfl) (by kernel_rfl) (fun _ _ _ h => h) (Or.inl ⟨by rfl, by intro w hSw; go_split_ands; go_simp⟩) HS.out ?_
        simp only [Act.put, List.getElem_toArray, List.getElem_cons_zero, List.getElem_cons_succ, List.setIfInBounds_toArray, List.set_cons_zero, List.set_cons_succ]
        refine wpAnyH_take (i := 19) (oi := _) (v := .pointer (some ⟨b12, 4, none⟩)) rfl (by kernel_rfl) (by kernel_rfl) (by kernel_rfl) (fun _ _ _ h => h) (Or.inl ⟨by rfl, by intro w hSw; go_split_ands; go_simp⟩) HS.out ?_
        simp only [Act.put, List.getElem_toArray, List.getElem_cons_zero, List.getElem_cons_succ, List.setIfInBounds_toArray, List.set_cons_zero, List.set_cons_succ]
        refine wpAnyH_take (i := 20) (oi := _) (v := .int .i64 q.c) rfl (by kernel_rfl) (by kernel_rfl) (by kernel_rfl) (fun _ _ _ h => h) (Or.inl ⟨by rfl, by intro w hSw; go_split_ands; go_simp⟩) HS.out ?_
        simp only [Act.put, List.getElem_toArray, List.getElem_cons_zero, List.getElem_cons_succ, List.setIfInBounds_toArray, List.set_cons_zero, List.set_cons_succ]
        refine wpAnyH_take (i := 21) (oi := _) (v := .agg #[.slice us1 xs.length us3, .slice up1 ps.length up3]) rfl (by kernel_rfl) (by kernel_rfl) (by kernel_rfl) (fun _ _ _ h => h) (Or.inl ⟨by rfl, by intro w hSw; go_split_ands; go_simp⟩) HS.out ?_
        simp only [Act.put, List.getElem_toArray, List.getElem_cons_zero, List.getElem_cons_succ, List.setIfInBounds_toArray, List.set_cons_zero, List.set_cons_succ]
        refine wpAnyH_take (i := 22) (oi := _) (v := .string tx) rfl (by kernel_rfl) (by kernel_rfl) (by kernel_rfl) (fun _ _ _ h => h) (Or.inl ⟨by rfl, by intro w hSw; go_split_ands; go_simp⟩) HS.out ?_
        simp only [Act.put, List.getElem_toArray, List.getElem_cons_zero, List.getElem_cons_succ, List.setIfInBounds_toArray, List.set_cons_zero, List.set_cons_succ]
        refine wpAnyH_ready (rs := [23]) (by kernel_rfl) (by simp) ?_
        refine AllReadyH.cons (o := _) rfl (fun K hK => ?_) AllReadyH.nil
        go_simp
        refine (specAreaPut_any _ _ xs ps tx 1000 _ HSD.out.1 HSD.out.2.2.1 htx2 (Stab.go HB_d.out PDd_8.out).rs (Stab.go HB_d.out PDd_8.out).rp).mono ?_
        rw [← Hq.out]
        rintro e X_e1 ⟨⟨nds, ndp, rfl, ow1, ow2, _⟩, hb⟩
        have ndsR := hide ow1.reads
        have ndsP := hide ow2.reads
        obtain ⟨nds1, nds2, nds3, rfl⟩ := ow1.isSlice
        obtain ⟨ndp1, ndp2, ndp3, rfl⟩ := ow2.isSlice
        clear ow1 ow2
        have HB_e1 := hide (HB_d.out.trans (hb.mono HB_d.out.size))
        refine hK.out _ _ (HSS.out _ HB_e1.out) (fun _ => ?_)
        clear hK K HS hb
        have HS := hide (HSS.out _ HB_e1.out)
        refine wpAnyH_take (i := 24) (oi := _) (v := .int .i64 q.c) rfl (by kernel_rfl) (by kernel_rfl) (by kernel_rfl) (fun _ _ _ h => h) (Or.inl ⟨by rfl, by intro w hSw; go_split_ands; go_simp⟩) HS.out ?_
        simp only [Act.put, List.getElem_toArray, List.getElem_cons_zero, List.getElem_cons_succ, List.setIfInBounds_toArray, List.set_cons_zero, List.set_cons_succ]
        refine wpAnyH_take (i := 25) (oi := _) (v := .bool true) rfl (by kernel_rfl) (by kernel_rfl) (by kernel_rfl) (fun _ _ _ h => h) (Or.inl ⟨by rfl, by intro w hSw; go_split_ands; go_simp⟩) HS.out ?_
        simp only [Act.put, List.getElem_toArray, List.getElem_cons_zero, List.getElem_cons_succ, List.setIfInBounds_toArray, List.set_cons_zero, List.set_cons_succ]
        refine wpAnyH_take (i := 26) (oi := _) (v := .bool true) rfl (by kernel_rfl) (by kernel_rfl) (by kernel_rfl) (fun _ _ _ h => h) (Or.inl ⟨by rfl, by intro w hSw; go_split_ands; go_simp⟩) HS.out ?_
        simp only [Act.put, List.getElem_toArray, List.getElem_cons_zero, List.getElem_cons_succ, List.setIfInBounds_toArray, List.set_cons_zero, List.set_cons_succ]
        refine wpAnyH_take (i := 27) (oi := _) (v := .bool true) rfl (by kernel_rfl) (by kernel_rfl) (by kernel_rfl) (fun _ _ _ h => h) (Or.inl ⟨by rfl, by intro w hSw; go_split_ands; go_simp⟩) HS.out ?_
        simp only [Act.put, List.getElem_toArray, List.getElem_cons_zero, List.getElem_cons_succ, List.setIfInBounds_toArray, List.set_cons_zero, List.set_cons_succ]
        refine wpAnyH_done (by kernel_rfl) ?_ _
        have BBz := hide (BB_8.out.trans (HB_e1.out.mono BB_8.out.size))
        clear HSS HS
        go_wp2
        go_ret
        exact ⟨rfl, BBz.out⟩
end Go.Proofs.YtkmehbgepkilkaaGreatDoor

/- The law FnAreaTorn, for all bytes: longer ones are passed by. -/
namespace Go.Proofs.YtkmehbgepkilkaaGreatDoor
open Go.RowKit

set_option maxRecDepth 100000 in
set_option maxHeartbeats 2000000 in
theorem fnAreaTorn_long (vc vm : Value) (bc bm : List Int) (w : World) (hc : ReadsB w vc bc) (hm : ReadsB w vm bm) (h : 1048576 < bc.length ∨ 1048576 < bm.length) :
    Calls Tryz.prog 4 #[vc, vm] w fun e w' => e = .returned (.bool true) ∧ Below w.heap.size w w' := by
  obtain ⟨pc, cc, rfl, h1, h2, -⟩ := hc
  obtain ⟨pm, cm, rfl, h3, h4, -⟩ := hm
  unfold maxLen at h2 h4
  by_cases h0 : 1048576 < bc.length
  · have t1 : decide ((1048576 : Int) < (bc.length : Int)) = true := decide_eq_true (by omega)
    go_enter Tryz.func4, Tryz.ntmps4
    go_wp2
    go_ret
    exact ⟨rfl, Below.refl _ _⟩
  · have t1 : decide ((1048576 : Int) < (bc.length : Int)) = false := decide_eq_false (by omega)
    have t2 : decide ((1048576 : Int) < (bm.length : Int)) = true := decide_eq_true (by omega)
    go_enter Tryz.func4, Tryz.ntmps4
    go_wp2
    go_ret
    exact ⟨rfl, Below.refl _ _⟩
theorem fnAreaTornLaw (aF aR aU : Addr) (w : World) (hS : Sents aF aR aU w) (hG : St3.Laid w) (vc vm : Value) (bc bm : List Int) (hc : ReadsB w vc bc) (hm : ReadsB w vm bm) :
    Calls Tryz.prog 4 #[vc, vm] w fun e w' => e = .returned (.bool true) ∧ Below w.heap.size w w' := by
  by_cases h1 : 1048576 < bc.length
  · exact fnAreaTorn_long vc vm bc bm w hc hm (.inl h1)
  · by_cases h2 : 1048576 < bm.length
    · exact fnAreaTorn_long vc vm bc bm w hc hm (.inr h2)
    · exact fnAreaTorn_walk vc vm bc bm aF aR aU w hc hm (by omega) (by omega) hS hG
end Go.Proofs.YtkmehbgepkilkaaGreatDoor
