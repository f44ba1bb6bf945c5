/- Draws: disks with what is done to them. -/
import Derived.Test.YtdnbfnahhkmmnaaDoorDrawDisk2
import Derived.Test.YtdnbfnahhkmmnaaDoorDraw3
namespace Go.Proofs.YtdnbfnahhkmmnaaDoor
open Go.RowKit

/-- A disk in memory of its own, from block B on; it need not be right. -/
structure DK (B : Nat) (us up : Value) (xs : List ByteArray) (ps : List (Int × ByteArray)) (w : World) : Prop where
  os : OwnS 9 B w us xs
  op : OwnP 46 B w up ps
  dj : ∀ x ∈ leads us, x ∉ leads up
  xl : xs.length ≤ 9
  pl : ps.length ≤ 201
  xz : ∀ x ∈ xs, x.size ≤ 65
  pz : ∀ x ∈ ps, x.2.size ≤ 64
theorem DK.kept {B : Nat} {us up : Value} {xs : List ByteArray} {ps : List (Int × ByteArray)} {S : List Nat} {w w' : World} (h : DK B us up xs ps w) (hk : Kept S w w') (hS : ∀ x ∈ S, x < B) : DK B us up xs ps w' :=
  ⟨h.os.kept hk (fun x hx e => by have h1 := (h.os.leads x hx).1; have h2 := hS x e; omega), h.op.kept hk (fun x hx e => by have h1 := (h.op.leads x hx).1; have h2 := hS x e; omega), h.dj, h.xl, h.pl, h.xz, h.pz⟩
theorem DK.below {B : Nat} {us up : Value} {xs : List ByteArray} {ps : List (Int × ByteArray)} {w w' : World} (h : DK B us up xs ps w) (hb : Below w.heap.size w w') : DK B us up xs ps w' := h.kept (Kept.ofBelow hb) (by simp)
theorem DK.mono {B B' : Nat} {us up : Value} {xs : List ByteArray} {ps : List (Int × ByteArray)} {w : World} (h : DK B us up xs ps w) (hB : B' ≤ B) : DK B' us up xs ps w := ⟨h.os.mono hB, h.op.mono hB, h.dj, h.xl, h.pl, h.xz, h.pz⟩
instance stab_dk (B : Nat) (us up : Value) (xs : List ByteArray) (ps : List (Int × ByteArray)) : Stab (fun w => DK B us up xs ps w) := ⟨fun hb h => h.below hb⟩
theorem DK.small {B : Nat} {us up : Value} {xs : List ByteArray} {ps : List (Int × ByteArray)} {w : World} (h : DK B us up xs ps w) : Small xs ps :=
  ⟨Nat.le_trans h.xl (by omega), fun x hx => Nat.le_trans (h.xz x hx) (by omega), Nat.le_trans h.pl (by omega), fun x hx => Nat.le_trans (h.pz x hx) (by omega)⟩

theorem ownI_kept {B : Nat} {S : List Nat} {w w' : World} {v : Value} {ks : List Int} (h : OwnI B w v ks) (hk : Kept S w w') (hS : ∀ x ∈ S, x < B) : OwnI B w' v ks := ownsRow_kept h hk hS
theorem OwnI.mono {B B' : Nat} {w : World} {v : Value} {ks : List Int} (h : OwnI B w v ks) (hB : B' ≤ B) : OwnI B' w v ks := by
  obtain ⟨h0, h1 | ⟨g, cap, cur, hv, hg, r⟩⟩ := h
  · exact ⟨h0, .inl h1⟩
  · exact ⟨h0, .inr ⟨g, cap, cur, hv, Nat.le_trans hB hg, r⟩⟩
def DrawnR (B : Nat) (e : Ending) (w : World) : Prop := ∃ us up xs ps a, e = .returned (.tuple #[.agg #[us, up], .int .i64 a]) ∧ DK B us up xs ps w
def DrawnW (B : Nat) (e : Ending) (w : World) : Prop := ∃ us up xs ps a t, e = .returned (.tuple #[.agg #[us, up], .int .i64 a, .string t]) ∧ t.size ≤ 100000 ∧ DK B us up xs ps w
def DrawnC (B : Nat) (e : Ending) (w : World) : Prop := ∃ us up xs ps u ks, e = .returned (.tuple #[.agg #[us, up], u]) ∧ ks.length ≤ 14 ∧ OwnI B w u ks ∧ DK B us up xs ps w
set_option maxRecDepth 100000 in
set_option maxHeartbeats 8000000 in
theorem drawRead_any (v : Value) (bs : List Int) (w : World) (h : ReadsB w v bs) (hl : bs.length ≤ 1048576) :
    Calls Tryd.prog 10 #[v] w fun e w' => DrawnR w.heap.size e w' ∧ Below w.heap.size w w' := by
  have hb0 := below_new w (.cells #[.slice none 0 0, .slice none 0 0] 26)
  have HV := hide (h.below hb0 (Nat.le_refl _))
  have HR := hide (row_new w [.slice none 0 0, .slice none 0 0] 26)
  have HB0 := hide hb0
  clear h hb0
  go_enter Tryd.func10, Tryd.ntmps10
  go_wp2_with fail
  refine (source_any v bs _ HV.out hl).mono ?_
  rintro e w1 ⟨rfl, hs1, hb1⟩
  have HB1 := hide (HB0.out.trans (hb1.mono HB0.out.size))
  have HR1 := hide (Row.after hb1 HR.out)
  obtain ⟨g, hg⟩ : ∃ g, g = (w.alloc (.cells #[.slice none 0 0, .slice none 0 0] 26)).heap.size := ⟨_, rfl⟩
  have hgw : w.heap.size < g := by rw [hg]; simp
  rw [← hg] at hs1 ⊢
  have HS1 := hide hs1
  have hg1 := hs1.lt
  clear hs1 hb1 HB0 HR HV hg
  go_wp2_with fail
  refine (disk_any v bs g _ HS1.out hl).mono ?_
  rintro e w2 ⟨⟨us, up, xs, ps, rfl, o1, o2, dj, xl, pl, xz, pz⟩, hs2, hk2⟩
  obtain ⟨s1, s2, s3, rfl⟩ := o1.isSlice
  obtain ⟨t1, t2, t3, rfl⟩ := o2.isSlice
  have bn := below_new w2 (.cells #[.slice s1 s2 s3, .slice t1 t2 t3] 26)
  have HDK2 := hide ((DK.mk o1 o2 dj xl pl xz pz).below bn)
  have HS2 := hide (hs2.below bn)
  have HB2 := hide (show Below w.heap.size w (w2.alloc (.cells #[.slice s1 s2 s3, .slice t1 t2 t3] 26)) from (hk2.toBelow HB1.out HB1.out.size (by simp; omega)).alloc (hk2.toBelow HB1.out HB1.out.size (by simp; omega)).size _)
  have HR2 := hide ((hk2.row HR1.out (by simp; omega)).alloc (.cells #[.slice s1 s2 s3, .slice t1 t2 t3] 26))
  have HD2 := hide (row_new w2 [.slice s1 s2 s3, .slice t1 t2 t3] 26)
  have hz2 := hk2.size
  have hr1 := HR1.out.lt
  obtain ⟨d, hd⟩ : ∃ d, d = w2.heap.size := ⟨_, rfl⟩
  have hdz : w1.heap.size ≤ d := by omega
  obtain ⟨W0, hW0⟩ : ∃ W, W = w2.alloc (.cells #[.slice s1 s2 s3, .slice t1 t2 t3] 26) := ⟨_, rfl⟩
  rw [← hd] at HD2
  rw [← hW0] at HDK2 HS2 HB2 HR2 HD2
  clear o1 o2 dj xl pl xz pz hs2 hk2 HB1 HR1 HS1 bn hz2
  go_wp2_with fail
  rw [← hW0, ← hd]
  clear hW0 hd
  refine (one_any v bs g 10 _ HS2.out (by omega) hl).mono ?_
  rintro e W3 ⟨⟨b, rfl⟩, hs, hk⟩
  have HDK3 := hide (HDK2.out.kept hk (by simp; omega))
  have HS3 := hide hs
  have HB3 := hide (hk.toBelow HB2.out HB2.out.size (by simp; omega))
  have HR3 := hide (hk.row HR2.out (by simp; omega))
  have HD3 := hide (hk.row HD2.out (by simp; omega))
  clear hs hk
  cases b with
  | true =>
    have HSS := hide (show ∀ x, Kept [g, w.heap.size] W3 x → x.cell? ⟨d, 0, none⟩ = some (.slice s1 s2 s3) ∧ x.cell? ⟨d, 1, none⟩ = some (.slice t1 t2 t3) ∧ Kept [g, w.heap.size] W3 x from fun x h => ⟨(h.row HD3.out (by simp; omega)).cell 0, (h.row HD3.out (by simp; omega)).cell 1, h⟩)
    have HSd := hide (HS3.out.below (Below.refl _ _).drew)
    have HRd := hide HR3.out.drew
    go_wp2_with fail
    refine wp_region_held (S := fun x : World => x.cell? ⟨d, 0, none⟩ = some (.slice s1 s2 s3) ∧ x.cell? ⟨d, 1, none⟩ = some (.slice t1 t2 t3) ∧ Kept [g, w.heap.size] W3 x) (by kernel_rfl) ?_
    have HS := hide (HSS.out { W3 with drawn := W3.drawn + 1 } ((Kept.refl _ _).drew))
    refine wpAnyH_take (i := 0) (oi := _) (v := .agg #[.slice s1 s2 s3, .slice t1 t2 t3]) rfl (by kernel_rfl) (by kernel_rfl) (by kernel_rfl) (fun _ _ _ h => h) (Or.inl ⟨by rfl, by intro w hSw; go_split_ands; go_simp <;> omega⟩) HS.out ?_
    simp only [Act.put, List.getElem_toArray, List.getElem_cons_zero, List.setIfInBounds_toArray, List.set_cons_zero, List.set_cons_succ]
    refine wpAnyH_take (i := 1) (oi := _) (v := .pointer (some ⟨g, 0, none⟩)) rfl (by kernel_rfl) (by kernel_rfl) (by kernel_rfl) (fun _ _ _ h => h) (Or.inl ⟨by rfl, by intro w hSw; go_split_ands; go_simp <;> omega⟩) HS.out ?_
    simp only [Act.put, List.getElem_toArray, List.getElem_cons_zero, List.getElem_cons_succ, List.setIfInBounds_toArray, List.set_cons_zero, List.set_cons_succ]
    refine wpAnyH_ready (rs := [2]) (by kernel_rfl) (by simp) ?_
    refine AllReadyH.cons (o := _) rfl (fun K hK => ?_) AllReadyH.nil
    go_simp
    refine (edge_any v bs g _ HSd.out hl).mono ?_
    rintro e V ⟨⟨a, rfl, ha0, ha1⟩, hsV, hkV⟩
    have HKV := hide (show Kept [g, w.heap.size] _ V from ((Kept.refl _ _).drew).trans (hkV.mono (by simp)))
    have HRV := hide (hkV.row HRd.out (by simp; omega))
    have HSV := hide hsV
    clear hsV hkV
    refine hK.out _ _ (HSS.out _ HKV.out) (fun _ => ?_)
    clear hK K HS
    have HS := hide (HSS.out _ HKV.out)
    have r0 : V.cell? ⟨w.heap.size, 0, none⟩ = some (.slice none 0 0) := HRV.out.cell 0
    have r1 : V.cell? ⟨w.heap.size, 1, none⟩ = some (.slice none 0 0) := HRV.out.cell 1
    have p0 := HRV.out.free 0
    have p1 := HRV.out.free 1
    have K2 : Kept [g, w.heap.size] V ((V.setCell ⟨w.heap.size, 0, none⟩ (.slice s1 s2 s3)).setCell ⟨w.heap.size, 1, none⟩ (.slice t1 t2 t3)) := ((Kept.refl _ _).set (by simp) _).set (by simp) _
    have HK2 := hide (HKV.out.trans K2)
    have RR := (HRV.out.set (j := 0) (.slice s1 s2 s3)).set (j := 1) (.slice t1 t2 t3)
    have HRR := hide RR
    clear K2 RR
    refine wpAnyH_ready (rs := [3]) (by kernel_rfl) (by simp) ?_
    refine AllReadyH.cons (o := _) rfl (fun K hK => ?_) AllReadyH.nil
    go_simp
    refine hK.out _ _ (HSS.out _ HK2.out) (fun _ => ?_)
    clear hK K r0 r1 p0 p1
    have HS := hide (HSS.out _ HK2.out)
    refine wpAnyH_take (i := 4) (oi := _) (v := .int .i64 a) rfl (by kernel_rfl) (by kernel_rfl) (by kernel_rfl) (fun _ _ _ h => h) (Or.inl ⟨by rfl, by intro w hSw; go_split_ands; go_simp <;> omega⟩) HS.out ?_
    simp only [Act.put, List.getElem_toArray, List.getElem_cons_zero, List.getElem_cons_succ, List.setIfInBounds_toArray, List.set_cons_zero, List.set_cons_succ]
    refine wpAnyH_done (by kernel_rfl) ?_ _
    obtain ⟨W9, hW9⟩ : ∃ W, W = (V.setCell ⟨w.heap.size, 0, none⟩ (.slice s1 s2 s3)).setCell ⟨w.heap.size, 1, none⟩ (.slice t1 t2 t3) := ⟨_, rfl⟩
    rw [← hW9] at HK2 HRR ⊢
    clear hW9 HS HSS
    have q0 : W9.cell? ⟨w.heap.size, 0, none⟩ = some (.slice s1 s2 s3) := HRR.out.cell 0
    have q1 : W9.cell? ⟨w.heap.size, 1, none⟩ = some (.slice t1 t2 t3) := HRR.out.cell 1
    go_wp2
    exact bodyPost_ret (v := .tuple #[.agg #[.slice s1 s2 s3, .slice t1 t2 t3], .int .i64 a]) (by simp [results, Tryd.results10, go_sem, q0, q1]) rfl ⟨⟨_, _, xs, ps, a, rfl, (HDK3.out.kept HK2.out (by simp; omega)).mono (by omega)⟩, HK2.out.toBelow HB3.out HB3.out.size (by simp; omega)⟩
  | false =>
    have HSS := hide (show ∀ x, Kept [g, w.heap.size] W3 x → x.cell? ⟨d, 0, none⟩ = some (.slice s1 s2 s3) ∧ x.cell? ⟨d, 1, none⟩ = some (.slice t1 t2 t3) ∧ Kept [g, w.heap.size] W3 x from fun x h => ⟨(h.row HD3.out (by simp; omega)).cell 0, (h.row HD3.out (by simp; omega)).cell 1, h⟩)
    have HSd := hide (HS3.out.below (Below.refl _ _).drew)
    have HRd := hide HR3.out.drew
    go_wp2_with fail
    refine wp_region_held (S := fun x : World => x.cell? ⟨d, 0, none⟩ = some (.slice s1 s2 s3) ∧ x.cell? ⟨d, 1, none⟩ = some (.slice t1 t2 t3) ∧ Kept [g, w.heap.size] W3 x) (by kernel_rfl) ?_
    have HS := hide (HSS.out { W3 with drawn := W3.drawn + 1 } ((Kept.refl _ _).drew))
    refine wpAnyH_take (i := 0) (oi := _) (v := .agg #[.slice s1 s2 s3, .slice t1 t2 t3]) rfl (by kernel_rfl) (by kernel_rfl) (by kernel_rfl) (fun _ _ _ h => h) (Or.inl ⟨by rfl, by intro w hSw; go_split_ands; go_simp <;> omega⟩) HS.out ?_
    simp only [Act.put, List.getElem_toArray, List.getElem_cons_zero, List.setIfInBounds_toArray, List.set_cons_zero, List.set_cons_succ]
    refine wpAnyH_take (i := 1) (oi := _) (v := .pointer (some ⟨g, 0, none⟩)) rfl (by kernel_rfl) (by kernel_rfl) (by kernel_rfl) (fun _ _ _ h => h) (Or.inl ⟨by rfl, by intro w hSw; go_split_ands; go_simp <;> omega⟩) HS.out ?_
    simp only [Act.put, List.getElem_toArray, List.getElem_cons_zero, List.getElem_cons_succ, List.setIfInBounds_toArray, List.set_cons_zero, List.set_cons_succ]
    refine wpAnyH_ready (rs := [2]) (by kernel_rfl) (by simp) ?_
    refine AllReadyH.cons (o := _) rfl (fun K hK => ?_) AllReadyH.nil
    go_simp
    refine (n_any v bs g 9 _ HSd.out (by omega) hl).mono ?_
    rintro e V ⟨⟨a, rfl, ha0, ha1⟩, hsV, hkV⟩
    have HKV := hide (show Kept [g, w.heap.size] _ V from ((Kept.refl _ _).drew).trans (hkV.mono (by simp)))
    have HRV := hide (hkV.row HRd.out (by simp; omega))
    have HSV := hide hsV
    clear hsV hkV
    refine hK.out _ _ (HSS.out _ HKV.out) (fun _ => ?_)
    clear hK K HS
    have HS := hide (HSS.out _ HKV.out)
    have r0 : V.cell? ⟨w.heap.size, 0, none⟩ = some (.slice none 0 0) := HRV.out.cell 0
    have r1 : V.cell? ⟨w.heap.size, 1, none⟩ = some (.slice none 0 0) := HRV.out.cell 1
    have p0 := HRV.out.free 0
    have p1 := HRV.out.free 1
    have K2 : Kept [g, w.heap.size] V ((V.setCell ⟨w.heap.size, 0, none⟩ (.slice s1 s2 s3)).setCell ⟨w.heap.size, 1, none⟩ (.slice t1 t2 t3)) := ((Kept.refl _ _).set (by simp) _).set (by simp) _
    have HK2 := hide (HKV.out.trans K2)
    have RR := (HRV.out.set (j := 0) (.slice s1 s2 s3)).set (j := 1) (.slice t1 t2 t3)
    have HRR := hide RR
    clear K2 RR
    refine wpAnyH_ready (rs := [3]) (by kernel_rfl) (by simp) ?_
    refine AllReadyH.cons (o := _) rfl (fun K hK => ?_) AllReadyH.nil
    go_simp
    refine hK.out _ _ (HSS.out _ HK2.out) (fun _ => ?_)
    clear hK K r0 r1 p0 p1
    have HS := hide (HSS.out _ HK2.out)
    refine wpAnyH_take (i := 4) (oi := _) (v := .int .i64 a) rfl (by kernel_rfl) (by kernel_rfl) (by kernel_rfl) (fun _ _ _ h => h) (Or.inl ⟨by rfl, by intro w hSw; go_split_ands; go_simp <;> omega⟩) HS.out ?_
    simp only [Act.put, List.getElem_toArray, List.getElem_cons_zero, List.getElem_cons_succ, List.setIfInBounds_toArray, List.set_cons_zero, List.set_cons_succ]
    refine wpAnyH_done (by kernel_rfl) ?_ _
    obtain ⟨W9, hW9⟩ : ∃ W, W = (V.setCell ⟨w.heap.size, 0, none⟩ (.slice s1 s2 s3)).setCell ⟨w.heap.size, 1, none⟩ (.slice t1 t2 t3) := ⟨_, rfl⟩
    rw [← hW9] at HK2 HRR ⊢
    clear hW9 HS HSS
    have q0 : W9.cell? ⟨w.heap.size, 0, none⟩ = some (.slice s1 s2 s3) := HRR.out.cell 0
    have q1 : W9.cell? ⟨w.heap.size, 1, none⟩ = some (.slice t1 t2 t3) := HRR.out.cell 1
    go_wp2
    exact bodyPost_ret (v := .tuple #[.agg #[.slice s1 s2 s3, .slice t1 t2 t3], .int .i64 a]) (by simp [results, Tryd.results10, go_sem, q0, q1]) rfl ⟨⟨_, _, xs, ps, a, rfl, (HDK3.out.kept HK2.out (by simp; omega)).mono (by omega)⟩, HK2.out.toBelow HB3.out HB3.out.size (by simp; omega)⟩

set_option maxRecDepth 100000 in
set_option maxHeartbeats 8000000 in
theorem drawCrash_any (v : Value) (bs : List Int) (w : World) (h : ReadsB w v bs) (hl : bs.length ≤ 1048576) :
    Calls Tryd.prog 6 #[v] w fun e w' => DrawnC w.heap.size e w' ∧ Below w.heap.size w w' := by
  have hb0 := below_new w (.cells #[.slice none 0 0, .slice none 0 0] 26)
  have HV := hide (h.below hb0 (Nat.le_refl _))
  have HR := hide (row_new w [.slice none 0 0, .slice none 0 0] 26)
  have HB0 := hide hb0
  clear h hb0
  go_enter Tryd.func6, Tryd.ntmps6
  go_wp2_with fail
  refine (source_any v bs _ HV.out hl).mono ?_
  rintro e w1 ⟨rfl, hs1, hb1⟩
  have HB1 := hide (HB0.out.trans (hb1.mono HB0.out.size))
  have HR1 := hide (Row.after hb1 HR.out)
  obtain ⟨g, hg⟩ : ∃ g, g = (w.alloc (.cells #[.slice none 0 0, .slice none 0 0] 26)).heap.size := ⟨_, rfl⟩
  have hgw : w.heap.size < g := by rw [hg]; simp
  rw [← hg] at hs1 ⊢
  have HS1 := hide hs1
  have hg1 := hs1.lt
  clear hs1 hb1 HB0 HR HV hg
  go_wp2_with fail
  refine (disk_any v bs g _ HS1.out hl).mono ?_
  rintro e w2 ⟨⟨us, up, xs, ps, rfl, o1, o2, dj, xl, pl, xz, pz⟩, hs2, hk2⟩
  obtain ⟨s1, s2, s3, rfl⟩ := o1.isSlice
  obtain ⟨t1, t2, t3, rfl⟩ := o2.isSlice
  have bn := below_new w2 (.cells #[.slice s1 s2 s3, .slice t1 t2 t3] 26)
  have HDK2 := hide ((DK.mk o1 o2 dj xl pl xz pz).below bn)
  have HS2 := hide (hs2.below bn)
  have HB2 := hide (show Below w.heap.size w (w2.alloc (.cells #[.slice s1 s2 s3, .slice t1 t2 t3] 26)) from (hk2.toBelow HB1.out HB1.out.size (by simp; omega)).alloc (hk2.toBelow HB1.out HB1.out.size (by simp; omega)).size _)
  have HR2 := hide ((hk2.row HR1.out (by simp; omega)).alloc (.cells #[.slice s1 s2 s3, .slice t1 t2 t3] 26))
  have HD2 := hide (row_new w2 [.slice s1 s2 s3, .slice t1 t2 t3] 26)
  have hz2 := hk2.size
  have hr1 := HR1.out.lt
  obtain ⟨d, hd⟩ : ∃ d, d = w2.heap.size := ⟨_, rfl⟩
  have hdz : w1.heap.size ≤ d := by omega
  obtain ⟨W0, hW0⟩ : ∃ W, W = w2.alloc (.cells #[.slice s1 s2 s3, .slice t1 t2 t3] 26) := ⟨_, rfl⟩
  rw [← hd] at HD2
  rw [← hW0] at HDK2 HS2 HB2 HR2 HD2
  clear o1 o2 dj xl pl xz pz hs2 hk2 HB1 HR1 HS1 bn hz2
  have HSS := hide (show ∀ x, Kept [g, w.heap.size] W0 x → x.cell? ⟨d, 0, none⟩ = some (.slice s1 s2 s3) ∧ x.cell? ⟨d, 1, none⟩ = some (.slice t1 t2 t3) ∧ Kept [g, w.heap.size] W0 x from fun x h => ⟨(h.row HD2.out (by simp; omega)).cell 0, (h.row HD2.out (by simp; omega)).cell 1, h⟩)
  have HSd := hide (HS2.out.below (Below.refl _ _).drew)
  have HRd := hide HR2.out.drew
  go_wp2_with fail
  rw [← hW0, ← hd]
  clear hW0 hd
  refine wp_region_held (S := fun x : World => x.cell? ⟨d, 0, none⟩ = some (.slice s1 s2 s3) ∧ x.cell? ⟨d, 1, none⟩ = some (.slice t1 t2 t3) ∧ Kept [g, w.heap.size] W0 x) (by kernel_rfl) ?_
  have HS := hide (HSS.out { W0 with drawn := W0.drawn + 1 } ((Kept.refl _ _).drew))
  refine wpAnyH_take (i := 0) (oi := _) (v := .agg #[.slice s1 s2 s3, .slice t1 t2 t3]) rfl (by kernel_rfl) (by kernel_rfl) (by kernel_rfl) (fun _ _ _ h => h) (Or.inl ⟨by rfl, by intro w hSw; go_split_ands; go_simp <;> omega⟩) HS.out ?_
  simp only [Act.put, List.getElem_toArray, List.getElem_cons_zero, List.setIfInBounds_toArray, List.set_cons_zero, List.set_cons_succ]
  refine wpAnyH_take (i := 1) (oi := _) (v := .pointer (some ⟨g, 0, none⟩)) rfl (by kernel_rfl) (by kernel_rfl) (by kernel_rfl) (fun _ _ _ h => h) (Or.inl ⟨by rfl, by intro w hSw; go_split_ands; go_simp <;> omega⟩) HS.out ?_
  simp only [Act.put, List.getElem_toArray, List.getElem_cons_zero, List.getElem_cons_succ, List.setIfInBounds_toArray, List.set_cons_zero, List.set_cons_succ]
  refine wpAnyH_ready (rs := [2]) (by kernel_rfl) (by simp) ?_
  refine AllReadyH.cons (o := _) rfl (fun K hK => ?_) AllReadyH.nil
  go_simp
  refine (keep_any v bs g _ HSd.out hl).mono ?_
  rintro e V ⟨⟨u, ks, rfl, hks, ou⟩, hsV, hkV⟩
  have HKV := hide (show Kept [g, w.heap.size] _ V from ((Kept.refl _ _).drew).trans (hkV.mono (by simp)))
  have HRV := hide (hkV.row HRd.out (by simp; omega))
  have hWz := HD2.out.lt
  have HOU := hide ou
  clear hsV hkV ou
  refine hK.out _ _ (HSS.out _ HKV.out) (fun _ => ?_)
  clear hK K HS
  have HS := hide (HSS.out _ HKV.out)
  have r0 : V.cell? ⟨w.heap.size, 0, none⟩ = some (.slice none 0 0) := HRV.out.cell 0
  have r1 : V.cell? ⟨w.heap.size, 1, none⟩ = some (.slice none 0 0) := HRV.out.cell 1
  have p0 := HRV.out.free 0
  have p1 := HRV.out.free 1
  have K2 : Kept [g, w.heap.size] V ((V.setCell ⟨w.heap.size, 0, none⟩ (.slice s1 s2 s3)).setCell ⟨w.heap.size, 1, none⟩ (.slice t1 t2 t3)) := ((Kept.refl _ _).set (by simp) _).set (by simp) _
  have HK2 := hide (HKV.out.trans K2)
  have HK3 := hide K2
  have RR := (HRV.out.set (j := 0) (.slice s1 s2 s3)).set (j := 1) (.slice t1 t2 t3)
  have HRR := hide RR
  clear K2 RR
  refine wpAnyH_ready (rs := [3]) (by kernel_rfl) (by simp) ?_
  refine AllReadyH.cons (o := _) rfl (fun K hK => ?_) AllReadyH.nil
  go_simp
  refine hK.out _ _ (HSS.out _ HK2.out) (fun _ => ?_)
  clear hK K r0 r1 p0 p1
  have HS := hide (HSS.out _ HK2.out)
  refine wpAnyH_take (i := 4) (oi := _) (v := u) rfl (by kernel_rfl) (by kernel_rfl) (by kernel_rfl) (fun _ _ _ h => h) (Or.inl ⟨by rfl, by intro w hSw; go_split_ands; go_simp <;> omega⟩) HS.out ?_
  simp only [Act.put, List.getElem_toArray, List.getElem_cons_zero, List.getElem_cons_succ, List.setIfInBounds_toArray, List.set_cons_zero, List.set_cons_succ]
  refine wpAnyH_done (by kernel_rfl) ?_ _
  obtain ⟨W9, hW9⟩ : ∃ W, W = (V.setCell ⟨w.heap.size, 0, none⟩ (.slice s1 s2 s3)).setCell ⟨w.heap.size, 1, none⟩ (.slice t1 t2 t3) := ⟨_, rfl⟩
  rw [← hW9] at HK2 HK3 HRR ⊢
  clear hW9 HS HSS
  have q0 : W9.cell? ⟨w.heap.size, 0, none⟩ = some (.slice s1 s2 s3) := HRR.out.cell 0
  have q1 : W9.cell? ⟨w.heap.size, 1, none⟩ = some (.slice t1 t2 t3) := HRR.out.cell 1
  go_wp2
  exact bodyPost_ret (v := .tuple #[.agg #[.slice s1 s2 s3, .slice t1 t2 t3], u]) (by simp [results, Tryd.results6, go_sem, q0, q1]) rfl ⟨⟨_, _, xs, ps, u, ks, rfl, hks, (ownI_kept HOU.out HK3.out (by simp; omega)).mono (by have : W0.heap.size = (World.drew W0).heap.size := rfl; omega), (HDK2.out.kept HK2.out (by simp; omega)).mono (by omega)⟩, HK2.out.toBelow HB2.out HB2.out.size (by simp; omega)⟩

set_option maxRecDepth 100000 in
set_option maxHeartbeats 8000000 in
theorem drawWrite_any (v : Value) (bs : List Int) (w : World) (h : ReadsB w v bs) (hl : bs.length ≤ 1048576) :
    Calls Tryd.prog 4 #[v] w fun e w' => DrawnW w.heap.size e w' ∧ Below w.heap.size w w' := by
  have hb0 := below_new w (.cells #[.slice none 0 0, .slice none 0 0] 26)
  have HV := hide (h.below hb0 (Nat.le_refl _))
  have HR := hide (row_new w [.slice none 0 0, .slice none 0 0] 26)
  have HB0 := hide hb0
  clear h hb0
  go_enter Tryd.func4, Tryd.ntmps4
  go_wp2_with fail
  refine (source_any v bs _ HV.out hl).mono ?_
  rintro e w1 ⟨rfl, hs1, hb1⟩
  have HB1 := hide (HB0.out.trans (hb1.mono HB0.out.size))
  have HR1 := hide (Row.after hb1 HR.out)
  obtain ⟨g, hg⟩ : ∃ g, g = (w.alloc (.cells #[.slice none 0 0, .slice none 0 0] 26)).heap.size := ⟨_, rfl⟩
  have hgw : w.heap.size < g := by rw [hg]; simp
  rw [← hg] at hs1 ⊢
  have HS1 := hide hs1
  have hg1 := hs1.lt
  clear hs1 hb1 HB0 HR HV hg
  go_wp2_with fail
  refine (disk_any v bs g _ HS1.out hl).mono ?_
  rintro e w2 ⟨⟨us, up, xs, ps, rfl, o1, o2, dj, xl, pl, xz, pz⟩, hs2, hk2⟩
  obtain ⟨s1, s2, s3, rfl⟩ := o1.isSlice
  obtain ⟨t1, t2, t3, rfl⟩ := o2.isSlice
  have bn := below_new w2 (.cells #[.slice s1 s2 s3, .slice t1 t2 t3] 26)
  have HDK2 := hide ((DK.mk o1 o2 dj xl pl xz pz).below bn)
  have HS2 := hide (hs2.below bn)
  have HB2 := hide (show Below w.heap.size w (w2.alloc (.cells #[.slice s1 s2 s3, .slice t1 t2 t3] 26)) from (hk2.toBelow HB1.out HB1.out.size (by simp; omega)).alloc (hk2.toBelow HB1.out HB1.out.size (by simp; omega)).size _)
  have HR2 := hide ((hk2.row HR1.out (by simp; omega)).alloc (.cells #[.slice s1 s2 s3, .slice t1 t2 t3] 26))
  have HD2 := hide (row_new w2 [.slice s1 s2 s3, .slice t1 t2 t3] 26)
  have hz2 := hk2.size
  have hr1 := HR1.out.lt
  obtain ⟨d, hd⟩ : ∃ d, d = w2.heap.size := ⟨_, rfl⟩
  have hdz : w1.heap.size ≤ d := by omega
  obtain ⟨W0, hW0⟩ : ∃ W, W = w2.alloc (.cells #[.slice s1 s2 s3, .slice t1 t2 t3] 26) := ⟨_, rfl⟩
  rw [← hd] at HD2
  rw [← hW0] at HDK2 HS2 HB2 HR2 HD2
  clear o1 o2 dj xl pl xz pz hs2 hk2 HB1 HR1 HS1 bn hz2
  go_wp2_with fail
  rw [← hW0, ← hd]
  clear hW0 hd
  refine (n_any v bs g 9 _ HS2.out (by omega) hl).mono ?_
  rintro e W3 ⟨⟨a, rfl, ha0, ha1⟩, hs, hk⟩
  have HDK3 := hide (HDK2.out.kept hk (by simp; omega))
  have HS3 := hide hs
  have HB3 := hide (hk.toBelow HB2.out HB2.out.size (by simp; omega))
  have HR3 := hide (hk.row HR2.out (by simp; omega))
  have HD3 := hide (hk.row HD2.out (by simp; omega))
  clear hs hk
  go_wp2_with fail
  refine (one_any v bs g 10 _ HS3.out (by omega) hl).mono ?_
  rintro e W4 ⟨⟨b, rfl⟩, hs, hk⟩
  have HDK4 := hide (HDK3.out.kept hk (by simp; omega))
  have HS4 := hide hs
  have HB4 := hide (hk.toBelow HB3.out HB3.out.size (by simp; omega))
  have HR4 := hide (hk.row HR3.out (by simp; omega))
  have HD4 := hide (hk.row HD3.out (by simp; omega))
  clear hs hk
  cases b with
  | true =>
    have HSS := hide (show ∀ x, Kept [g, w.heap.size] W4 x → x.cell? ⟨d, 0, none⟩ = some (.slice s1 s2 s3) ∧ x.cell? ⟨d, 1, none⟩ = some (.slice t1 t2 t3) ∧ Kept [g, w.heap.size] W4 x from fun x h => ⟨(h.row HD4.out (by simp; omega)).cell 0, (h.row HD4.out (by simp; omega)).cell 1, h⟩)
    have HSd := hide (HS4.out.below (Below.refl _ _).drew)
    have HRd := hide HR4.out.drew
    go_wp2_with fail
    refine wp_region_held (S := fun x : World => x.cell? ⟨d, 0, none⟩ = some (.slice s1 s2 s3) ∧ x.cell? ⟨d, 1, none⟩ = some (.slice t1 t2 t3) ∧ Kept [g, w.heap.size] W4 x) (by kernel_rfl) ?_
    have HS := hide (HSS.out { W4 with drawn := W4.drawn + 1 } ((Kept.refl _ _).drew))
    refine wpAnyH_take (i := 0) (oi := _) (v := .agg #[.slice s1 s2 s3, .slice t1 t2 t3]) rfl (by kernel_rfl) (by kernel_rfl) (by kernel_rfl) (fun _ _ _ h => h) (Or.inl ⟨by rfl, by intro w hSw; go_split_ands; go_simp <;> omega⟩) HS.out ?_
    simp only [Act.put, List.getElem_toArray, List.getElem_cons_zero, List.setIfInBounds_toArray, List.set_cons_zero, List.set_cons_succ]
    refine wpAnyH_take (i := 1) (oi := _) (v := .int .i64 a) rfl (by kernel_rfl) (by kernel_rfl) (by kernel_rfl) (fun _ _ _ h => h) (Or.inl ⟨by rfl, by intro w hSw; go_split_ands; go_simp <;> omega⟩) HS.out ?_
    simp only [Act.put, List.getElem_toArray, List.getElem_cons_zero, List.getElem_cons_succ, List.setIfInBounds_toArray, List.set_cons_zero, List.set_cons_succ]
    refine wpAnyH_take (i := 2) (oi := _) (v := .pointer (some ⟨g, 0, none⟩)) rfl (by kernel_rfl) (by kernel_rfl) (by kernel_rfl) (fun _ _ _ h => h) (Or.inl ⟨by rfl, by intro w hSw; go_split_ands; go_simp <;> omega⟩) HS.out ?_
    simp only [Act.put, List.getElem_toArray, List.getElem_cons_zero, List.getElem_cons_succ, List.setIfInBounds_toArray, List.set_cons_zero, List.set_cons_succ]
    refine wpAnyH_ready (rs := [3]) (by kernel_rfl) (by simp) ?_
    refine AllReadyH.cons (o := _) rfl (fun K hK => ?_) AllReadyH.nil
    go_simp
    refine (n_any v bs g 2 _ HSd.out (by omega) hl).mono ?_
    rintro e U ⟨⟨c, rfl, hc0, hc1⟩, hsV, hkV⟩
    obtain ⟨n, rfl⟩ := Int.eq_ofNat_of_zero_le hc0
    have hn2 : n ≤ 1 := by omega
    obtain ⟨M, Z, hZ, hmk, hcv⟩ := made_text (64 + n) (64 + (n : Int)) (by simp) (by omega)
    have hw2 : IntKind.i64.wrap (64 + (n : Int)) = 64 + (n : Int) := by rw [IntKind.wrap_i64]; omega
    have HKU := hide (show Kept [g, w.heap.size] _ U from ((Kept.refl _ _).drew).trans (hkV.mono (by simp)))
    have HRU := hide (hkV.row HRd.out (by simp; omega))
    clear hsV hkV hc1
    refine hK.out _ _ (HSS.out _ HKU.out) (fun _ => ?_)
    clear hK K HS
    have HS := hide (HSS.out _ HKU.out)
    refine wpAnyH_take (i := 4) (oi := _) (v := .int .i64 (64 + (n : Int))) rfl (by kernel_rfl) (by kernel_rfl) (by kernel_rfl) (fun _ _ _ h => h) (Or.inl ⟨by rfl, by intro w hSw; go_split_ands; go_simp <;> omega⟩) HS.out ?_
    simp only [Act.put, List.getElem_toArray, List.getElem_cons_zero, List.getElem_cons_succ, List.setIfInBounds_toArray, List.set_cons_zero, List.set_cons_succ]
    have r0 : U.cell? ⟨w.heap.size, 0, none⟩ = some (.slice none 0 0) := HRU.out.cell 0
    have r1 : U.cell? ⟨w.heap.size, 1, none⟩ = some (.slice none 0 0) := HRU.out.cell 1
    have p0 := HRU.out.free 0
    have p1 := HRU.out.free 1
    refine wpAnyH_ready (rs := [5, 7]) (by kernel_rfl) (by simp) ?_
    refine AllReadyH.cons (o := _) rfl (fun K hK => ?_) (AllReadyH.cons (o := _) rfl (fun K hK => ?_) AllReadyH.nil)
    · go_simp
      clear r0 r1 p0 p1
      have HKY1 := hide (HKU.out.below (below_new U (.cells M 5)))
      have HRY1 := hide (HRU.out.alloc (.cells M 5))
      have HMY1 := hide (heap_alloc_new U (.cells M 5))
      have hBY1 := HRU.out.lt
      have hGY1 := Nat.lt_of_lt_of_le HD4.out.lt HKU.out.size
      refine hK.out _ _ (HSS.out _ HKY1.out) (fun _ => ?_)
      clear hK K HS
      obtain ⟨Y1, hY1⟩ : ∃ Y, Y = U.alloc (.cells M 5) := ⟨_, rfl⟩
      rw [← hY1] at HKY1 HRY1 HMY1 ⊢
      clear hY1
      obtain ⟨B, hB⟩ : ∃ B, B = U.heap.size := ⟨_, rfl⟩
      rw [← hB] at HMY1 hBY1 hGY1 ⊢
      clear hB
      have HS := hide (HSS.out _ HKY1.out)
      have hcY1 := hcv Y1 B HMY1.out
      have r0 : Y1.cell? ⟨w.heap.size, 0, none⟩ = some (.slice none 0 0) := HRY1.out.cell 0
      have r1 : Y1.cell? ⟨w.heap.size, 1, none⟩ = some (.slice none 0 0) := HRY1.out.cell 1
      have p0 := HRY1.out.free 0
      have p1 := HRY1.out.free 1
      refine wpAnyH_ready (rs := [6, 7]) (by kernel_rfl) (by simp) ?_
      refine AllReadyH.cons (o := _) rfl (fun K hK => ?_) (AllReadyH.cons (o := _) rfl (fun K hK => ?_) AllReadyH.nil)
      · go_simp
        clear r0 r1 p0 p1
        refine hK.out _ _ (HSS.out _ HKY1.out) (fun _ => ?_)
        clear hK K
        have r0 : Y1.cell? ⟨w.heap.size, 0, none⟩ = some (.slice none 0 0) := HRY1.out.cell 0
        have r1 : Y1.cell? ⟨w.heap.size, 1, none⟩ = some (.slice none 0 0) := HRY1.out.cell 1
        have p0 := HRY1.out.free 0
        have p1 := HRY1.out.free 1
        refine wpAnyH_ready (rs := [7]) (by kernel_rfl) (by simp) ?_
        refine AllReadyH.cons (o := _) rfl (fun K hK => ?_) AllReadyH.nil
        go_simp
        have K2 : Kept [g, w.heap.size] Y1 ((Y1.setCell ⟨w.heap.size, 0, none⟩ (.slice s1 s2 s3)).setCell ⟨w.heap.size, 1, none⟩ (.slice t1 t2 t3)) := ((Kept.refl _ _).set (by simp) _).set (by simp) _
        have HKY2 := hide (HKY1.out.trans K2)
        have HRY2 := hide ((HRY1.out.set (j := 0) (.slice s1 s2 s3)).set (j := 1) (.slice t1 t2 t3))
        refine hK.out _ _ (HSS.out _ HKY2.out) (fun _ => ?_)
        clear hK K r0 r1 p0 p1 K2 HS
        obtain ⟨Y2, hY2⟩ : ∃ Y, Y = (Y1.setCell ⟨w.heap.size, 0, none⟩ (.slice s1 s2 s3)).setCell ⟨w.heap.size, 1, none⟩ (.slice t1 t2 t3) := ⟨_, rfl⟩
        rw [← hY2] at HKY2 HRY2 ⊢
        clear hY2
        have HS := hide (HSS.out _ HKY2.out)
        refine wpAnyH_take (i := 8) (oi := _) (v := .int .i64 a) rfl (by kernel_rfl) (by kernel_rfl) (by kernel_rfl) (fun _ _ _ h => h) (Or.inl ⟨by rfl, by intro w hSw; go_split_ands; go_simp <;> omega⟩) HS.out ?_
        simp only [Act.put, List.getElem_toArray, List.getElem_cons_zero, List.getElem_cons_succ, List.setIfInBounds_toArray, List.set_cons_zero, List.set_cons_succ]
        refine wpAnyH_take (i := 9) (oi := _) (v := .string Z) rfl (by kernel_rfl) (by kernel_rfl) (by kernel_rfl) (fun _ _ _ h => h) (Or.inl ⟨by rfl, by intro w hSw; go_split_ands; go_simp <;> omega⟩) HS.out ?_
        simp only [Act.put, List.getElem_toArray, List.getElem_cons_zero, List.getElem_cons_succ, List.setIfInBounds_toArray, List.set_cons_zero, List.set_cons_succ]
        refine wpAnyH_done (by kernel_rfl) ?_ _
        clear HS HSS
        have q0 : Y2.cell? ⟨w.heap.size, 0, none⟩ = some (.slice s1 s2 s3) := HRY2.out.cell 0
        have q1 : Y2.cell? ⟨w.heap.size, 1, none⟩ = some (.slice t1 t2 t3) := HRY2.out.cell 1
        go_wp2
        exact bodyPost_ret (v := .tuple #[.agg #[.slice s1 s2 s3, .slice t1 t2 t3], .int .i64 a, .string Z]) (by simp [results, Tryd.results4, go_sem, q0, q1]) rfl ⟨⟨_, _, xs, ps, a, Z, rfl, by omega, (HDK4.out.kept HKY2.out (by simp; omega)).mono (by omega)⟩, HKY2.out.toBelow HB4.out HB4.out.size (by simp; omega)⟩
      · go_simp
        have K2 : Kept [g, w.heap.size] Y1 ((Y1.setCell ⟨w.heap.size, 0, none⟩ (.slice s1 s2 s3)).setCell ⟨w.heap.size, 1, none⟩ (.slice t1 t2 t3)) := ((Kept.refl _ _).set (by simp) _).set (by simp) _
        have HKY2 := hide (HKY1.out.trans K2)
        have HRY2 := hide ((HRY1.out.set (j := 0) (.slice s1 s2 s3)).set (j := 1) (.slice t1 t2 t3))
        have HMY2 := hide ((K2.block B (Array.getElem?_eq_some_iff.1 HMY1.out).1 (by simp; omega)).trans HMY1.out)
        refine hK.out _ _ (HSS.out _ HKY2.out) (fun _ => ?_)
        clear hK K r0 r1 p0 p1 K2 HS
        obtain ⟨Y2, hY2⟩ : ∃ Y, Y = (Y1.setCell ⟨w.heap.size, 0, none⟩ (.slice s1 s2 s3)).setCell ⟨w.heap.size, 1, none⟩ (.slice t1 t2 t3) := ⟨_, rfl⟩
        rw [← hY2] at HKY2 HRY2 HMY2 ⊢
        clear hY2
        have HS := hide (HSS.out _ HKY2.out)
        have hcY2 := hcv Y2 B HMY2.out
        refine wpAnyH_take (i := 8) (oi := _) (v := .int .i64 a) rfl (by kernel_rfl) (by kernel_rfl) (by kernel_rfl) (fun _ _ _ h => h) (Or.inl ⟨by rfl, by intro w hSw; go_split_ands; go_simp <;> omega⟩) HS.out ?_
        simp only [Act.put, List.getElem_toArray, List.getElem_cons_zero, List.getElem_cons_succ, List.setIfInBounds_toArray, List.set_cons_zero, List.set_cons_succ]
        refine wpAnyH_ready (rs := [6]) (by kernel_rfl) (by simp) ?_
        refine AllReadyH.cons (o := _) rfl (fun K hK => ?_) AllReadyH.nil
        go_simp
        refine hK.out _ _ (HSS.out _ HKY2.out) (fun _ => ?_)
        clear hK K
        refine wpAnyH_take (i := 9) (oi := _) (v := .string Z) rfl (by kernel_rfl) (by kernel_rfl) (by kernel_rfl) (fun _ _ _ h => h) (Or.inl ⟨by rfl, by intro w hSw; go_split_ands; go_simp <;> omega⟩) HS.out ?_
        simp only [Act.put, List.getElem_toArray, List.getElem_cons_zero, List.getElem_cons_succ, List.setIfInBounds_toArray, List.set_cons_zero, List.set_cons_succ]
        refine wpAnyH_done (by kernel_rfl) ?_ _
        clear HS HSS
        have q0 : Y2.cell? ⟨w.heap.size, 0, none⟩ = some (.slice s1 s2 s3) := HRY2.out.cell 0
        have q1 : Y2.cell? ⟨w.heap.size, 1, none⟩ = some (.slice t1 t2 t3) := HRY2.out.cell 1
        go_wp2
        exact bodyPost_ret (v := .tuple #[.agg #[.slice s1 s2 s3, .slice t1 t2 t3], .int .i64 a, .string Z]) (by simp [results, Tryd.results4, go_sem, q0, q1]) rfl ⟨⟨_, _, xs, ps, a, Z, rfl, by omega, (HDK4.out.kept HKY2.out (by simp; omega)).mono (by omega)⟩, HKY2.out.toBelow HB4.out HB4.out.size (by simp; omega)⟩
    · go_simp
      have K2 : Kept [g, w.heap.size] U ((U.setCell ⟨w.heap.size, 0, none⟩ (.slice s1 s2 s3)).setCell ⟨w.heap.size, 1, none⟩ (.slice t1 t2 t3)) := ((Kept.refl _ _).set (by simp) _).set (by simp) _
      have HKY1 := hide (HKU.out.trans K2)
      have HRY1 := hide ((HRU.out.set (j := 0) (.slice s1 s2 s3)).set (j := 1) (.slice t1 t2 t3))
      refine hK.out _ _ (HSS.out _ HKY1.out) (fun _ => ?_)
      clear hK K r0 r1 p0 p1 K2 HS
      obtain ⟨Y1, hY1⟩ : ∃ Y, Y = (U.setCell ⟨w.heap.size, 0, none⟩ (.slice s1 s2 s3)).setCell ⟨w.heap.size, 1, none⟩ (.slice t1 t2 t3) := ⟨_, rfl⟩
      rw [← hY1] at HKY1 HRY1 ⊢
      clear hY1
      have HS := hide (HSS.out _ HKY1.out)
      refine wpAnyH_take (i := 8) (oi := _) (v := .int .i64 a) rfl (by kernel_rfl) (by kernel_rfl) (by kernel_rfl) (fun _ _ _ h => h) (Or.inl ⟨by rfl, by intro w hSw; go_split_ands; go_simp <;> omega⟩) HS.out ?_
      simp only [Act.put, List.getElem_toArray, List.getElem_cons_zero, List.getElem_cons_succ, List.setIfInBounds_toArray, List.set_cons_zero, List.set_cons_succ]
      refine wpAnyH_ready (rs := [5]) (by kernel_rfl) (by simp) ?_
      refine AllReadyH.cons (o := _) rfl (fun K hK => ?_) AllReadyH.nil
      go_simp
      have HKY2 := hide (HKY1.out.below (below_new Y1 (.cells M 5)))
      have HRY2 := hide (HRY1.out.alloc (.cells M 5))
      have HMY2 := hide (heap_alloc_new Y1 (.cells M 5))
      have hBY2 := HRY1.out.lt
      have hGY2 := Nat.lt_of_lt_of_le HD4.out.lt HKY1.out.size
      refine hK.out _ _ (HSS.out _ HKY2.out) (fun _ => ?_)
      clear hK K HS
      obtain ⟨Y2, hY2⟩ : ∃ Y, Y = Y1.alloc (.cells M 5) := ⟨_, rfl⟩
      rw [← hY2] at HKY2 HRY2 HMY2 ⊢
      clear hY2
      obtain ⟨B, hB⟩ : ∃ B, B = Y1.heap.size := ⟨_, rfl⟩
      rw [← hB] at HMY2 hBY2 hGY2 ⊢
      clear hB
      have HS := hide (HSS.out _ HKY2.out)
      have hcY2 := hcv Y2 B HMY2.out
      refine wpAnyH_ready (rs := [6]) (by kernel_rfl) (by simp) ?_
      refine AllReadyH.cons (o := _) rfl (fun K hK => ?_) AllReadyH.nil
      go_simp
      refine hK.out _ _ (HSS.out _ HKY2.out) (fun _ => ?_)
      clear hK K
      refine wpAnyH_take (i := 9) (oi := _) (v := .string Z) rfl (by kernel_rfl) (by kernel_rfl) (by kernel_rfl) (fun _ _ _ h => h) (Or.inl ⟨by rfl, by intro w hSw; go_split_ands; go_simp <;> omega⟩) HS.out ?_
      simp only [Act.put, List.getElem_toArray, List.getElem_cons_zero, List.getElem_cons_succ, List.setIfInBounds_toArray, List.set_cons_zero, List.set_cons_succ]
      refine wpAnyH_done (by kernel_rfl) ?_ _
      clear HS HSS
      have q0 : Y2.cell? ⟨w.heap.size, 0, none⟩ = some (.slice s1 s2 s3) := HRY2.out.cell 0
      have q1 : Y2.cell? ⟨w.heap.size, 1, none⟩ = some (.slice t1 t2 t3) := HRY2.out.cell 1
      go_wp2
      exact bodyPost_ret (v := .tuple #[.agg #[.slice s1 s2 s3, .slice t1 t2 t3], .int .i64 a, .string Z]) (by simp [results, Tryd.results4, go_sem, q0, q1]) rfl ⟨⟨_, _, xs, ps, a, Z, rfl, by omega, (HDK4.out.kept HKY2.out (by simp; omega)).mono (by omega)⟩, HKY2.out.toBelow HB4.out HB4.out.size (by simp; omega)⟩
  | false =>
    have HSS := hide (show ∀ x, Kept [g, w.heap.size] W4 x → x.cell? ⟨d, 0, none⟩ = some (.slice s1 s2 s3) ∧ x.cell? ⟨d, 1, none⟩ = some (.slice t1 t2 t3) ∧ Kept [g, w.heap.size] W4 x from fun x h => ⟨(h.row HD4.out (by simp; omega)).cell 0, (h.row HD4.out (by simp; omega)).cell 1, h⟩)
    have HSd := hide (HS4.out.below (Below.refl _ _).drew)
    have HRd := hide HR4.out.drew
    go_wp2_with fail
    refine wp_region_held (S := fun x : World => x.cell? ⟨d, 0, none⟩ = some (.slice s1 s2 s3) ∧ x.cell? ⟨d, 1, none⟩ = some (.slice t1 t2 t3) ∧ Kept [g, w.heap.size] W4 x) (by kernel_rfl) ?_
    have HS := hide (HSS.out { W4 with drawn := W4.drawn + 1 } ((Kept.refl _ _).drew))
    refine wpAnyH_take (i := 0) (oi := _) (v := .agg #[.slice s1 s2 s3, .slice t1 t2 t3]) rfl (by kernel_rfl) (by kernel_rfl) (by kernel_rfl) (fun _ _ _ h => h) (Or.inl ⟨by rfl, by intro w hSw; go_split_ands; go_simp <;> omega⟩) HS.out ?_
    simp only [Act.put, List.getElem_toArray, List.getElem_cons_zero, List.setIfInBounds_toArray, List.set_cons_zero, List.set_cons_succ]
    refine wpAnyH_take (i := 1) (oi := _) (v := .int .i64 a) rfl (by kernel_rfl) (by kernel_rfl) (by kernel_rfl) (fun _ _ _ h => h) (Or.inl ⟨by rfl, by intro w hSw; go_split_ands; go_simp <;> omega⟩) HS.out ?_
    simp only [Act.put, List.getElem_toArray, List.getElem_cons_zero, List.getElem_cons_succ, List.setIfInBounds_toArray, List.set_cons_zero, List.set_cons_succ]
    refine wpAnyH_take (i := 2) (oi := _) (v := .pointer (some ⟨g, 0, none⟩)) rfl (by kernel_rfl) (by kernel_rfl) (by kernel_rfl) (fun _ _ _ h => h) (Or.inl ⟨by rfl, by intro w hSw; go_split_ands; go_simp <;> omega⟩) HS.out ?_
    simp only [Act.put, List.getElem_toArray, List.getElem_cons_zero, List.getElem_cons_succ, List.setIfInBounds_toArray, List.set_cons_zero, List.set_cons_succ]
    refine wpAnyH_take (i := 3) (oi := _) (v := .pointer (some ⟨g, 0, none⟩)) rfl (by kernel_rfl) (by kernel_rfl) (by kernel_rfl) (fun _ _ _ h => h) (Or.inl ⟨by rfl, by intro w hSw; go_split_ands; go_simp <;> omega⟩) HS.out ?_
    simp only [Act.put, List.getElem_toArray, List.getElem_cons_zero, List.getElem_cons_succ, List.setIfInBounds_toArray, List.set_cons_zero, List.set_cons_succ]
    refine wpAnyH_ready (rs := [4]) (by kernel_rfl) (by simp) ?_
    refine AllReadyH.cons (o := _) rfl (fun K hK => ?_) AllReadyH.nil
    go_simp
    refine (n_any v bs g 5 _ HSd.out (by omega) hl).mono ?_
    rintro e V0 ⟨⟨c, rfl, hc0, hc1⟩, hsV, hkV⟩
    have HKV0 := hide (show Kept [g, w.heap.size] _ V0 from ((Kept.refl _ _).drew).trans (hkV.mono (by simp)))
    have HRV0 := hide (hkV.row HRd.out (by simp; omega))
    have HSV0 := hide hsV
    clear hsV hkV
    refine hK.out _ _ (HSS.out _ HKV0.out) (fun _ => ?_)
    clear hK K HS
    have HS := hide (HSS.out _ HKV0.out)
    refine wpAnyH_ready (rs := [5]) (by kernel_rfl) (by simp) ?_
    refine AllReadyH.cons (o := _) rfl (fun K hK => ?_) AllReadyH.nil
    go_simp
    refine (bytes_any v bs g c _ HSV0.out (by omega) hl).mono ?_
    rintro e V ⟨⟨Z, rfl, hZ0, hZ1⟩, hsV, hkV⟩
    have HKV := hide (show Kept [g, w.heap.size] _ V from HKV0.out.trans (hkV.mono (by simp)))
    have HRV := hide (hkV.row HRV0.out (by simp; omega))
    have HSV := hide hsV
    clear hsV hkV
    refine hK.out _ _ (HSS.out _ HKV.out) (fun _ => ?_)
    clear hK K HS
    have HS := hide (HSS.out _ HKV.out)
    have r0 : V.cell? ⟨w.heap.size, 0, none⟩ = some (.slice none 0 0) := HRV.out.cell 0
    have r1 : V.cell? ⟨w.heap.size, 1, none⟩ = some (.slice none 0 0) := HRV.out.cell 1
    have p0 := HRV.out.free 0
    have p1 := HRV.out.free 1
    have K2 : Kept [g, w.heap.size] V ((V.setCell ⟨w.heap.size, 0, none⟩ (.slice s1 s2 s3)).setCell ⟨w.heap.size, 1, none⟩ (.slice t1 t2 t3)) := ((Kept.refl _ _).set (by simp) _).set (by simp) _
    have HK2 := hide (HKV.out.trans K2)
    have RR := (HRV.out.set (j := 0) (.slice s1 s2 s3)).set (j := 1) (.slice t1 t2 t3)
    have HRR := hide RR
    clear K2 RR
    refine wpAnyH_ready (rs := [6]) (by kernel_rfl) (by simp) ?_
    refine AllReadyH.cons (o := _) rfl (fun K hK => ?_) AllReadyH.nil
    go_simp
    refine hK.out _ _ (HSS.out _ HK2.out) (fun _ => ?_)
    clear hK K r0 r1 p0 p1
    have HS := hide (HSS.out _ HK2.out)
    refine wpAnyH_take (i := 7) (oi := _) (v := .int .i64 a) rfl (by kernel_rfl) (by kernel_rfl) (by kernel_rfl) (fun _ _ _ h => h) (Or.inl ⟨by rfl, by intro w hSw; go_split_ands; go_simp <;> omega⟩) HS.out ?_
    simp only [Act.put, List.getElem_toArray, List.getElem_cons_zero, List.getElem_cons_succ, List.setIfInBounds_toArray, List.set_cons_zero, List.set_cons_succ]
    refine wpAnyH_take (i := 8) (oi := _) (v := .string Z) rfl (by kernel_rfl) (by kernel_rfl) (by kernel_rfl) (fun _ _ _ h => h) (Or.inl ⟨by rfl, by intro w hSw; go_split_ands; go_simp <;> omega⟩) HS.out ?_
    simp only [Act.put, List.getElem_toArray, List.getElem_cons_zero, List.getElem_cons_succ, List.setIfInBounds_toArray, List.set_cons_zero, List.set_cons_succ]
    refine wpAnyH_done (by kernel_rfl) ?_ _
    obtain ⟨W9, hW9⟩ : ∃ W, W = (V.setCell ⟨w.heap.size, 0, none⟩ (.slice s1 s2 s3)).setCell ⟨w.heap.size, 1, none⟩ (.slice t1 t2 t3) := ⟨_, rfl⟩
    rw [← hW9] at HK2 HRR ⊢
    clear hW9 HS HSS
    have q0 : W9.cell? ⟨w.heap.size, 0, none⟩ = some (.slice s1 s2 s3) := HRR.out.cell 0
    have q1 : W9.cell? ⟨w.heap.size, 1, none⟩ = some (.slice t1 t2 t3) := HRR.out.cell 1
    go_wp2
    exact bodyPost_ret (v := .tuple #[.agg #[.slice s1 s2 s3, .slice t1 t2 t3], .int .i64 a, .string Z]) (by simp [results, Tryd.results4, go_sem, q0, q1]) rfl ⟨⟨_, _, xs, ps, a, Z, rfl, by omega, (HDK4.out.kept HK2.out (by simp; omega)).mono (by omega)⟩, HK2.out.toBelow HB4.out HB4.out.size (by simp; omega)⟩
end Go.Proofs.YtdnbfnahhkmmnaaDoor
