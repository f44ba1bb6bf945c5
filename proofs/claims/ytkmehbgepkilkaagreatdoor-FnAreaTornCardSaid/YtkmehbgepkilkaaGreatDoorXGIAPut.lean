/- The program's AreaPut, from what its readArea does. -/
import Derived.Test.YtkmehbgepkilkaaGreatDoorXGIARead
import Derived.Test.YtkmehbgepkilkaaGreatDoorXGIPutSteps
import Derived.Test.YtkmehbgepkilkaaGreatDoorXGIRoom
import Derived.OrdersHeld
import Derived.Deep.RegionHeld3
import Derived.Test.YtkmehbgepkilkaaGreatDoorXGAMath
import Derived.Test.YtkmehbgepkilkaaGreatDoorXGIHead2
import Derived.Test.YtkmehbgepkilkaaGreatDoorXGISettle
import Derived.Test.YtkmehbgepkilkaaGreatDoorXGSCopy
namespace Go.Proofs.YtkmehbgepkilkaaGreatDoor
open Go.RowKit

theorem Leaves.tmps {P : Program} {fn : Func} {R : Ending → World → Prop} {t1 t2 : Array Value} (h : results fn t1 = results fn t2) : ∀ (ds : List Deferred) (u : FrameMode) (w : World), Leaves P fn t1 R ds u w → Leaves P fn t2 R ds u w
  | [], .returning, w => fun hl => by unfold Leaves at hl ⊢; rw [← h]; exact hl
  | [], .panicking chain, w => fun hl => hl
  | [], .run, _ => fun hl => hl
  | d :: ds, u, w => fun hl => by
    unfold Leaves at hl ⊢
    obtain ⟨h1, fv, cap, f, args, h2, h3, h4⟩ := hl
    refine ⟨h1, fv, cap, f, args, h2, h3, h4.mono ?_⟩
    intro e u' w' hx
    cases e with
    | returned v => exact Leaves.tmps h ds _ _ hx
    | panicked c => exact Leaves.tmps h ds _ _ hx
    | outgrown => exact hx
theorem putHang {R : Ending → World → Prop} (d : Nat) (hd : d ≠ 6) (v : Value) (c : List PanicEntry) (a : Act) (w : World) (h : bodyPostD Tryz.prog Tryz.f9 R (.panic c) (a.put (some d) v) w) : bodyPostD Tryz.prog Tryz.f9 R (.panic c) a w := by
  refine Leaves.tmps ?_ _ _ _ h
  unfold results
  rw [Tryz.results9]
  simp [Act.put, Array.getElem?_setIfInBounds_ne, hd]
theorem readsT_take {w : World} {p : Option Addr} {n c : Nat} {ss : List (Bool × Int × ByteArray)} (h : ReadsT w (.slice p n c) ss) (k : Nat) (hk : k ≤ n) : ReadsT w (.slice p k c) (ss.take k) := by
  obtain ⟨p', cap, e, h1, h2, h3, h4⟩ := h
  cases e
  refine ⟨p, c, by rw [List.length_take, Nat.min_eq_left hk], by rw [List.length_take]; omega, h2, fun x hx => h3 x (List.mem_of_mem_take hx), fun h0 => ?_⟩
  obtain ⟨g, off, rfl, hg, hc⟩ := h4 (by rw [List.length_take] at h0; omega)
  exact ⟨g, off, rfl, hg, fun i hi => by rw [List.getElem_take]; exact hc i (by rw [List.length_take] at hi; omega)⟩

set_option maxRecDepth 100000 in
set_option maxHeartbeats 8000000 in
theorem implAPut_size (vs vp : Value) (xs : List ByteArray) (ps : List (Int × ByteArray)) (d : ByteArray) (a : Int) (w : World) (hr : Reads w vs xs) (hp : ReadsP w vp ps) (hd : d.size ≤ 1048576) (hz : 8000 < d.size) :
    Calls Tryz.prog 9 #[.agg #[vs, vp], .string d, .int .i64 a] w fun e w' => AOutIs w.heap.size e w' (aill 2) ∧ Below w.heap.size w w' := by
  have hz' : decide ((8000 : Int) < (d.size : Int)) = true := decide_eq_true (by omega)
  have hmf : ∀ (fn : Fn) (first cap : Array Value) (w : World), (Instr.makeFunc fn first cap).run Tryz.prog w = .ok (.func fn first cap) w := fun _ _ _ _ => rfl
  have hb0 : Below w.heap.size w ((w.alloc (.cells #[vs, vp] 26)).alloc (.cells #[.slice none 0 0, .slice none 0 0, .string ⟨#[]⟩, .int .i64 0, .int .i64 0] 31)) :=
    ((Below.refl _ _).alloc (Nat.le_refl _) _).alloc (by simp) _
  have HB0 := hide hb0
  obtain ⟨p1, c1, rfl, hq⟩ := hr
  obtain ⟨p2, c2, rfl, hq2⟩ := hp
  have R0 := (row_new w [.slice p1 xs.length c1, .slice p2 ps.length c2] 26).alloc (.cells #[.slice none 0 0, .slice none 0 0, .string ⟨#[]⟩, .int .i64 0, .int .i64 0] 31)
  have R1 := row_new (w.alloc (.cells #[.slice p1 xs.length c1, .slice p2 ps.length c2] 26)) [.slice none 0 0, .slice none 0 0, .string ⟨#[]⟩, .int .i64 0, .int .i64 0] 31
  simp only [World.size_alloc] at R1
  have HR1 := hide R1
  clear hb0 hq hq2 R1 R0
  go_enter_defers Tryz.func9, Tryz.ntmps9
  go_wp2_with fail
  refine (refuse_yes 2 _).mono ?_
  rintro e w1 ⟨rfl, rfl⟩
  go_wp2
  refine leaves_cons (f := 31) (args := #[.pointer (some ⟨w.heap.size + 1, 0, none⟩)]) (by simp) (by simp [go_sem]) ?_
  refine (putCatch_panic _ _ _ _ _ _ _ _ _ _ 2 [] _ HR1.out).mono ?_
  rintro e u' wd ⟨rfl, rfl, hrow, hk⟩
  have b0 : wd.cell? ⟨w.heap.size + 1, 0, none⟩ = some (.slice none 0 0) := hrow.cell 0
  have b1 : wd.cell? ⟨w.heap.size + 1, 1, none⟩ = some (.slice none 0 0) := hrow.cell 1
  have b2 : wd.cell? ⟨w.heap.size + 1, 2, none⟩ = some (.string ⟨#[]⟩) := hrow.cell 2
  have b3 : wd.cell? ⟨w.heap.size + 1, 3, none⟩ = some (.int .i64 0) := hrow.cell 3
  have b4 : wd.cell? ⟨w.heap.size + 1, 4, none⟩ = some (.int .i64 2) := hrow.cell 4
  simp [Leaves, settle, results, Tryz.results9, go_sem, b0, b1, b2, b3, b4]
  exact ⟨AOutIs.ill _ _ _, hk.toBelow HB0.out HB0.out.size (by simp)⟩

set_option maxRecDepth 100000 in
set_option maxHeartbeats 8000000 in
theorem implAPut_ill (vs vp : Value) (xs : List ByteArray) (ps : List (Int × ByteArray)) (d : ByteArray) (a : Int) (aF aR aU : Addr) (w : World) (hn : xs.length ≤ 1048576) (hn2 : ps.length ≤ 1048576) (hr : Reads w vs xs) (hp : ReadsP w vp ps) (hS : Sents aF aR aU w) (hd : d.size ≤ 8000) (hok : right xs ps = false) :
    Calls Tryz.prog 9 #[.agg #[vs, vp], .string d, .int .i64 a] w fun e w' => AOutIs w.heap.size e w' (aill 1) ∧ Below w.heap.size w w' := by
  have hz' : decide ((8000 : Int) < (d.size : Int)) = false := decide_eq_false (by omega)
  have hmf : ∀ (fn : Fn) (first cap : Array Value) (w : World), (Instr.makeFunc fn first cap).run Tryz.prog w = .ok (.func fn first cap) w := fun _ _ _ _ => rfl
  have hb0 : Below w.heap.size w ((w.alloc (.cells #[vs, vp] 26)).alloc (.cells #[.slice none 0 0, .slice none 0 0, .string ⟨#[]⟩, .int .i64 0, .int .i64 0] 31)) :=
    ((Below.refl _ _).alloc (Nat.le_refl _) _).alloc (by simp) _
  have HR := hide (hr.below hb0 (Nat.le_refl _))
  have HP := hide (hp.below hb0 (Nat.le_refl _))
  have HS := hide (Stab.go hb0 hS)
  have HB0 := hide hb0
  obtain ⟨p1, c1, rfl, hq⟩ := hr
  obtain ⟨p2, c2, rfl, hq2⟩ := hp
  have R0 := (row_new w [.slice p1 xs.length c1, .slice p2 ps.length c2] 26).alloc (.cells #[.slice none 0 0, .slice none 0 0, .string ⟨#[]⟩, .int .i64 0, .int .i64 0] 31)
  have R1 := row_new (w.alloc (.cells #[.slice p1 xs.length c1, .slice p2 ps.length c2] 26)) [.slice none 0 0, .slice none 0 0, .string ⟨#[]⟩, .int .i64 0, .int .i64 0] 31
  simp only [World.size_alloc] at R1
  have HR0 := hide R0
  have HR1 := hide R1
  clear hb0 hq hq2 R1 R0 hS
  go_enter_defers Tryz.func9, Tryz.ntmps9
  go_wp2_with fail
  refine (refuse_no 2 _).mono ?_
  rintro e w0 ⟨rfl, rfl⟩
  have a0' := HR0.out.cell 0
  clear a0'
  go_wp2_with fail
  refine (refuseDisk_any _ _ xs ps aF aR aU _ hn hn2 HR.out HP.out HS.out).mono ?_
  rw [hok]
  rintro e w1 ⟨he, hb1⟩
  simp only [Bool.false_eq_true, if_false] at he
  subst he
  have HB1 := hide (HB0.out.trans (hb1.mono HB0.out.size))
  have HX1 := hide (HR1.out.below hb1 (by simp))
  clear hb1
  go_wp2
  refine leaves_cons (f := 31) (args := #[.pointer (some ⟨w.heap.size + 1, 0, none⟩)]) (by simp) (by simp [go_sem]) ?_
  refine (putCatch_panic _ _ _ _ _ _ _ _ _ _ 1 [] _ HX1.out).mono ?_
  rintro e u' wd ⟨rfl, rfl, hrow, hk⟩
  have b0 : wd.cell? ⟨w.heap.size + 1, 0, none⟩ = some (.slice none 0 0) := hrow.cell 0
  have b1 : wd.cell? ⟨w.heap.size + 1, 1, none⟩ = some (.slice none 0 0) := hrow.cell 1
  have b2 : wd.cell? ⟨w.heap.size + 1, 2, none⟩ = some (.string ⟨#[]⟩) := hrow.cell 2
  have b3 : wd.cell? ⟨w.heap.size + 1, 3, none⟩ = some (.int .i64 0) := hrow.cell 3
  have b4 : wd.cell? ⟨w.heap.size + 1, 4, none⟩ = some (.int .i64 1) := hrow.cell 4
  simp [Leaves, settle, results, Tryz.results9, go_sem, b0, b1, b2, b3, b4]
  exact ⟨AOutIs.ill _ _ _, hk.toBelow HB1.out HB1.out.size (by simp)⟩

set_option maxRecDepth 100000 in
set_option maxHeartbeats 8000000 in
theorem implAPut_rest (vs vp : Value) (xs : List ByteArray) (ps : List (Int × ByteArray)) (d : ByteArray) (a : Int) (aF aR aU : Addr) (w : World) (hn : xs.length ≤ 1048576) (hn2 : ps.length ≤ 1048576) (hr : Reads w vs xs) (hp : ReadsP w vp ps) (hS : Sents aF aR aU w) (hd : d.size ≤ 8000) (hok : right xs ps = true)
    (HRA : ∀ (vs vp : Value) (w' : World), Below w.heap.size w w' → Reads w' vs xs → ReadsP w' vp ps → Calls Tryz.prog 29 #[.agg #[vs, vp]] w' fun e w'' => AreaIs e xs ps ∧ Below w'.heap.size w' w'') :
    Calls Tryz.prog 9 #[.agg #[vs, vp], .string d, .int .i64 a] w fun e w' => AOutIs w.heap.size e w' (putOut xs ps d a) ∧ Below w.heap.size w w' := by
  have hz' : decide ((8000 : Int) < (d.size : Int)) = false := decide_eq_false (by omega)
  have HRAh := hide HRA
  have HOK := hide hok
  have hlen := right_ge hok
  clear HRA hok
  have hmf : ∀ (fn : Fn) (first cap : Array Value) (w : World), (Instr.makeFunc fn first cap).run Tryz.prog w = .ok (.func fn first cap) w := fun _ _ _ _ => rfl
  have hb0 : Below w.heap.size w ((w.alloc (.cells #[vs, vp] 26)).alloc (.cells #[.slice none 0 0, .slice none 0 0, .string ⟨#[]⟩, .int .i64 0, .int .i64 0] 31)) :=
    ((Below.refl _ _).alloc (Nat.le_refl _) _).alloc (by simp) _
  have HR := hide (hr.below hb0 (Nat.le_refl _))
  have HP := hide (hp.below hb0 (Nat.le_refl _))
  have HRw := hide hr
  have HPw := hide hp
  have HS := hide (Stab.go hb0 hS)
  have HSw := hide hS
  have HB0 := hide hb0
  obtain ⟨p1, c1, rfl, hq⟩ := hr
  obtain ⟨p2, c2, rfl, hq2⟩ := hp
  have R0 := (row_new w [.slice p1 xs.length c1, .slice p2 ps.length c2] 26).alloc (.cells #[.slice none 0 0, .slice none 0 0, .string ⟨#[]⟩, .int .i64 0, .int .i64 0] 31)
  have R1 := row_new (w.alloc (.cells #[.slice p1 xs.length c1, .slice p2 ps.length c2] 26)) [.slice none 0 0, .slice none 0 0, .string ⟨#[]⟩, .int .i64 0, .int .i64 0] 31
  simp only [World.size_alloc] at R1
  have HR0 := hide R0
  have HR1 := hide R1
  clear hb0 hq hq2 R1 R0 hS
  obtain ⟨y, Hy⟩ : ∃ y, Hid (y = putOut xs ps d a) := ⟨_, rfl⟩
  rw [← Hy.out]
  go_enter_defers Tryz.func9, Tryz.ntmps9
  go_wp2_with fail
  refine (refuse_no 2 _).mono ?_
  rintro e w0 ⟨rfl, rfl⟩
  go_wp2_with fail
  refine (refuseDisk_any _ _ xs ps aF aR aU _ hn hn2 HR.out HP.out HS.out).mono ?_
  rw [HOK.out]
  rintro e w1 ⟨he, hb1⟩
  simp only [if_true] at he
  subst he
  have HB1 := hide (HB0.out.trans (hb1.mono HB0.out.size))
  have HX1 := hide (HR1.out.below hb1 (by simp))
  have HY1 := hide (HR0.out.below hb1 (by simp; omega))
  clear hb1
  have a0 : w1.cell? ⟨w.heap.size, 0, none⟩ = some (.slice p1 xs.length c1) := HY1.out.cell 0
  have a1 : w1.cell? ⟨w.heap.size, 1, none⟩ = some (.slice p2 ps.length c2) := HY1.out.cell 1
  obtain ⟨x, Hx⟩ : ∃ x, Hid (x = areaOut xs ps) := ⟨_, rfl⟩
  go_wp2_with fail
  refine (HRAh.out _ _ _ HB1.out (HRw.out.below HB1.out (Nat.le_refl _)) (HPw.out.below HB1.out (Nat.le_refl _))).mono ?_
  rintro e w2 ⟨hA, hb2⟩
  unfold AreaIs at hA
  rw [← Hx.out] at hA
  have HB2 := hide (HB1.out.trans (hb2.mono HB1.out.size))
  have HX2 := hide (Row.after hb2 HX1.out)
  have HY2 := hide (Row.after hb2 HY1.out)
  clear hb2 a0 a1
  rcases hA with ⟨hc, rfl⟩ | ⟨hc, rfl⟩
  · obtain ⟨hs0, hg, hxx, hpp⟩ := areaOut_ok HOK.out (by rw [← Hx.out]; exact hc)
    have hsk := seen_ok hs0
    rw [← Hx.out] at hg hxx hpp
    obtain ⟨r, Hr⟩ : ∃ r, Hid (r = seen xs ps) := ⟨_, rfl⟩
    rw [← Hr.out] at hg hsk ⊢
    obtain ⟨gen, side, size, code⟩ := r
    simp only at hg hsk ⊢
    have HSK := hide hsk
    have HHC := hide hc
    have HHG := hide hg
    have hh : 0 ≤ half xs.length ∧ half xs.length ≤ 1048576 := by unfold half; omega
    have HF0 := hide (show y = if 64 * half xs.length < (d.size : Int) ∨ 1000000 ≤ gen then aill 9 else if (runOut ((putList (half xs.length) side gen d).take a.toNat) xs ps).c = 0 then ⟨(runOut ((putList (half xs.length) side gen d).take a.toNat) xs ps).xs, (runOut ((putList (half xs.length) side gen d).take a.toNat) xs ps).ps, ⟨#[]⟩, 0, 0⟩ else aill (runOut ((putList (half xs.length) side gen d).take a.toNat) xs ps).c by
      rw [Hy.out]; unfold putOut; rw [if_neg (by omega), HOK.out, if_neg (by simp), ← Hx.out, ← Hr.out, if_neg (fun h => h hc), hg])
    obtain ⟨W, hW⟩ : ∃ W, W = w2.alloc (.cells #[.int .i64 gen, .int .i64 side, .int .i64 size] 51) := ⟨_, rfl⟩
    have HBW := hide (show Below w.heap.size w W by rw [hW]; exact HB2.out.alloc HB2.out.size _)
    have HXW := hide (show Row W (w.heap.size + 1) 31 [.slice none 0 0, .slice none 0 0, .string ⟨#[]⟩, .int .i64 0, .int .i64 0] by rw [hW]; exact HX2.out.alloc _)
    have HYW := hide (show Row W w.heap.size 26 [.slice p1 xs.length c1, .slice p2 ps.length c2] by rw [hW]; exact HY2.out.alloc _)
    have HHW := hide (show Row W w2.heap.size 51 [.int .i64 gen, .int .i64 side, .int .i64 size] by rw [hW]; exact row_new w2 _ _)
    have e0 : (w2.alloc (.cells #[.int .i64 gen, .int .i64 side, .int .i64 size] 51)).cell? ⟨w.heap.size, 0, none⟩ = some (.slice p1 xs.length c1) := by rw [← hW]; exact HYW.out.cell 0
    have e1 : (w2.alloc (.cells #[.int .i64 gen, .int .i64 side, .int .i64 size] 51)).cell? ⟨w.heap.size, 1, none⟩ = some (.slice p2 ps.length c2) := by rw [← hW]; exact HYW.out.cell 1
    clear hc hg hxx hpp hs0 hsk
    go_wp2_with fail
    rw [← hW]
    clear hW e0 e1
    refine (sideRoom_any _ _ xs _ hlen.1 hn (HRw.out.below HBW.out (Nat.le_refl _))).mono ?_
    rintro e w3 ⟨rfl, hb3⟩
    have HB3 := hide (HBW.out.trans (hb3.mono HBW.out.size))
    have HX3 := hide (Row.after hb3 HXW.out)
    have HY3 := hide (Row.after hb3 HYW.out)
    have HH3 := hide (Row.after hb3 HHW.out)
    have h0 : w3.cell? ⟨w2.heap.size, 0, none⟩ = some (.int .i64 gen) := HH3.out.cell 0
    have h1 : w3.cell? ⟨w2.heap.size, 1, none⟩ = some (.int .i64 side) := HH3.out.cell 1
    have g0 : w3.cell? ⟨w.heap.size, 0, none⟩ = some (.slice p1 xs.length c1) := HY3.out.cell 0
    have g1 : w3.cell? ⟨w.heap.size, 1, none⟩ = some (.slice p2 ps.length c2) := HY3.out.cell 1
    clear hb3 HXW HYW HHW
    by_cases hroom : 64 * half xs.length < (d.size : Int)
    · have HF := hide (show y = aill 9 by rw [HF0.out, if_pos (.inl hroom)])
      have hrd : decide (64 * half xs.length < (d.size : Int)) = true := decide_eq_true hroom
      go_wp2_with fail
      refine (refuse_yes 9 _).mono ?_
      rintro e w4 ⟨rfl, rfl⟩
      go_wp2
      refine leaves_cons (f := 31) (args := #[.pointer (some ⟨w.heap.size + 1, 0, none⟩)]) (by simp) (by simp [go_sem]) ?_
      refine (putCatch_panic _ _ _ _ _ _ _ _ _ _ 9 [] _ HX3.out).mono ?_
      rintro e u' wd ⟨rfl, rfl, hrow, hk⟩
      have b0 : wd.cell? ⟨w.heap.size + 1, 0, none⟩ = some (.slice none 0 0) := hrow.cell 0
      have b1 : wd.cell? ⟨w.heap.size + 1, 1, none⟩ = some (.slice none 0 0) := hrow.cell 1
      have b2 : wd.cell? ⟨w.heap.size + 1, 2, none⟩ = some (.string ⟨#[]⟩) := hrow.cell 2
      have b3 : wd.cell? ⟨w.heap.size + 1, 3, none⟩ = some (.int .i64 0) := hrow.cell 3
      have b4 : wd.cell? ⟨w.heap.size + 1, 4, none⟩ = some (.int .i64 9) := hrow.cell 4
      simp [Leaves, settle, results, Tryz.results9, go_sem, b0, b1, b2, b3, b4]
      exact ⟨by rw [HF.out]; exact AOutIs.ill _ _ _, hk.toBelow HB3.out HB3.out.size (by simp)⟩
    · have hrd : decide (64 * half xs.length < (d.size : Int)) = false := decide_eq_false hroom
      by_cases hgen : 1000000 ≤ gen
      · have HF := hide (show y = aill 9 by rw [HF0.out, if_pos (.inr hgen)])
        have hgd : decide (1000000 ≤ gen) = true := decide_eq_true hgen
        go_wp2_with fail
        refine (refuse_yes 9 _).mono ?_
        rintro e w4 ⟨rfl, rfl⟩
        go_wp2
        refine leaves_cons (f := 31) (args := #[.pointer (some ⟨w.heap.size + 1, 0, none⟩)]) (by simp) (by simp [go_sem]) ?_
        refine (putCatch_panic _ _ _ _ _ _ _ _ _ _ 9 [] _ HX3.out).mono ?_
        rintro e u' wd ⟨rfl, rfl, hrow, hk⟩
        have b0 : wd.cell? ⟨w.heap.size + 1, 0, none⟩ = some (.slice none 0 0) := hrow.cell 0
        have b1 : wd.cell? ⟨w.heap.size + 1, 1, none⟩ = some (.slice none 0 0) := hrow.cell 1
        have b2 : wd.cell? ⟨w.heap.size + 1, 2, none⟩ = some (.string ⟨#[]⟩) := hrow.cell 2
        have b3 : wd.cell? ⟨w.heap.size + 1, 3, none⟩ = some (.int .i64 0) := hrow.cell 3
        have b4 : wd.cell? ⟨w.heap.size + 1, 4, none⟩ = some (.int .i64 9) := hrow.cell 4
        simp [Leaves, settle, results, Tryz.results9, go_sem, b0, b1, b2, b3, b4]
        exact ⟨by rw [HF.out]; exact AOutIs.ill _ _ _, hk.toBelow HB3.out HB3.out.size (by simp)⟩
      · have hgd : decide (1000000 ≤ gen) = false := decide_eq_false hgen
        obtain ⟨k1, ⟨k2, k3⟩, _, _⟩ := HSK.out
        have hwg : IntKind.i64.wrap (gen + 1) = gen + 1 := by rw [IntKind.wrap_i64]; omega
        have hws : IntKind.i64.wrap (1 - side) = 1 - side := by rw [IntKind.wrap_i64]; omega
        obtain ⟨o, Ho⟩ : ∃ o, Hid (o = runOut ((putList (half xs.length) side gen d).take a.toNat) xs ps) := ⟨_, rfl⟩
        have HF := hide (show y = if o.c = 0 then ⟨o.xs, o.ps, ⟨#[]⟩, 0, 0⟩ else aill o.c by rw [HF0.out, if_neg (by omega), Ho.out])
        have HGS := hide (show (0 ≤ 1 - side ∧ 1 - side ≤ 1) ∧ (0 ≤ gen + 1 ∧ gen + 1 ≤ 1000001) by omega)
        have b3 := HB3.out.alloc HB3.out.size (.cells #[.int .i64 (gen + 1), .int .i64 (1 - side), .int .i64 d.size] 51)
        have HB3a := hide b3
        have HX3a := hide (HX3.out.alloc (.cells #[.int .i64 (gen + 1), .int .i64 (1 - side), .int .i64 d.size] 51))
        have HY3a := hide (HY3.out.alloc (.cells #[.int .i64 (gen + 1), .int .i64 (1 - side), .int .i64 d.size] 51))
        have m0 : (w3.alloc (.cells #[.int .i64 (gen + 1), .int .i64 (1 - side), .int .i64 d.size] 51)).cell? ⟨w.heap.size, 0, none⟩ = some (.slice p1 xs.length c1) := HY3a.out.cell 0
        have m1 : (w3.alloc (.cells #[.int .i64 (gen + 1), .int .i64 (1 - side), .int .i64 d.size] 51)).cell? ⟨w.heap.size, 1, none⟩ = some (.slice p2 ps.length c2) := HY3a.out.cell 1
        clear b3 k1 k2 k3 hroom hgen
        go_wp2_with fail
        refine (refuse_no 9 _).mono ?_
        rintro e w3' ⟨rfl, rfl⟩
        go_wp2_with fail
        refine (putSteps_any _ _ xs (gen + 1) (1 - side) d _ hlen.1 hlen.2 HGS.out.1 HGS.out.2 hd (HRw.out.below HB3a.out (Nat.le_refl _)) ⟨_, _, _, rfl⟩).mono ?_
        rw [← putList_eq]
        obtain ⟨PL, HPL⟩ : ∃ PL, Hid (PL = putList (half xs.length) side gen d) := ⟨_, rfl⟩
        have hPL : PL.length = cuts d + 3 := by rw [HPL.out]; exact putList_len _ _ _ _
        rw [← HPL.out] at Ho ⊢
        rintro e w4 ⟨⟨v, rfl, hrt⟩, hb4⟩
        have HRT := hide hrt
        obtain ⟨pl, cl, rfl, hcl, hcm, _, hpp⟩ := hrt
        obtain ⟨gl, ol, rfl, _, _⟩ := hpp (by omega)
        have HB4 := hide (HB3a.out.trans (hb4.mono HB3a.out.size))
        have HX4 := hide (Row.after hb4 HX3a.out)
        have HY4 := hide (Row.after hb4 HY3a.out)
        have hcd : cuts d ≤ 200 := by unfold cuts; omega
        have hlt4 := HX4.out.lt
        have HSS := hide (show ∀ x', Kept [w.heap.size + 1] w4 x' → x'.cell? ⟨w.heap.size, 0, none⟩ = some (.slice p1 xs.length c1) ∧ x'.cell? ⟨w.heap.size, 1, none⟩ = some (.slice p2 ps.length c2) ∧ Kept [w.heap.size + 1] w4 x' from
          fun x' h => ⟨(h.row HY4.out (by simp)).cell 0, (h.row HY4.out (by simp)).cell 1, h⟩)
        rw [hPL] at HRT hcl ⊢
        obtain ⟨N, hN⟩ : ∃ N, N = cuts d + 3 := ⟨_, rfl⟩
        rw [← hN] at HRT hcl hPL ⊢
        have hNb : N ≤ 203 := by omega
        have hN3 : (3 : Int) ≤ (N : Int) := by omega
        have hcn : (N : Int) ≤ (cl : Int) := by omega
        clear hb4 h0 h1 g0 g1 m0 m1 hN
        obtain ⟨T, HT⟩ : ∃ T : Nat, T = min a.toNat N := ⟨_, rfl⟩
        have HTK := hide (show (PL.take T) = PL.take a.toNat by rw [HT, ← hPL, List.take_eq_take_iff]; omega)
        have HRS := hide (readsT_take HRT.out T (by omega))
        have hTN : (T : Int) ≤ (N : Int) := by omega
        have hT0 : (0 : Int) ≤ (T : Int) := by omega
        have hTc : (T : Int) ≤ (cl : Int) := by omega
        by_cases ha : a < 0
        · have hT : T = 0 := by omega
          clear HT
          subst hT
          have hn0 : (0 : Int) ≤ (cl : Int) := by omega
          have hn1 : (0 : Int) < (N : Int) := by omega
          by_cases hoc : o.c = 0
          · have HOC := hide hoc
            have HFF := hide (show y = ⟨o.xs, o.ps, ⟨#[]⟩, 0, 0⟩ by rw [HF.out, if_pos hoc])
            clear hoc
            go_wp2_with fail
            refine wp_region_held (S := fun x' : World => x'.cell? ⟨w.heap.size, 0, none⟩ = some (.slice p1 xs.length c1) ∧ x'.cell? ⟨w.heap.size, 1, none⟩ = some (.slice p2 ps.length c2) ∧ Kept [w.heap.size + 1] w4 x') (by kernel_rfl) ?_
            have HS := hide (HSS.out { w4 with drawn := w4.drawn + 1 } ((Kept.refl _ _).drew))
            refine wpAnyH_take (i := 0) (oi := _) (v := .agg #[.slice p1 xs.length c1, .slice p2 ps.length c2]) rfl (by kernel_rfl) (by kernel_rfl) (by kernel_rfl) (fun c a w h => putHang 47 (by decide) _ c a w h) (Or.inl ⟨by rfl, by intro w hSw; go_split_ands; go_simp <;> omega⟩) HS.out ?_
            simp only [Act.put, List.getElem_toArray, List.getElem_cons_zero, List.setIfInBounds_toArray, List.set_cons_zero, List.set_cons_succ]
            refine wpAnyH_take (i := 1) (oi := _) (v := .slice (some ⟨gl, ol, none⟩) N cl) rfl (by kernel_rfl) (by kernel_rfl) (by kernel_rfl) (fun c a w h => putHang 48 (by decide) _ c a w h) (Or.inl ⟨by rfl, by intro w hSw; go_split_ands; go_simp <;> omega⟩) HS.out ?_
            simp only [Act.put, List.getElem_toArray, List.getElem_cons_zero, List.getElem_cons_succ, List.setIfInBounds_toArray, List.set_cons_zero, List.set_cons_succ]
            refine wpAnyH_take (i := 2) (oi := _) (v := .int .i64 a) rfl (by kernel_rfl) (by kernel_rfl) (by kernel_rfl) (fun c a w h => putHang 49 (by decide) _ c a w h) (Or.inl ⟨by rfl, by intro w hSw; go_split_ands; go_simp <;> omega⟩) HS.out ?_
            simp only [Act.put, List.getElem_toArray, List.getElem_cons_zero, List.getElem_cons_succ, List.setIfInBounds_toArray, List.set_cons_zero, List.set_cons_succ]
            refine wpAnyH_take (i := 3) (oi := _) (v := .int .i64 (0)) rfl (by kernel_rfl) (by kernel_rfl) (by kernel_rfl) (fun c a w h => putHang 50 (by decide) _ c a w h) (Or.inl ⟨by rfl, by intro w hSw; go_split_ands; go_simp <;> omega⟩) HS.out ?_
            simp only [Act.put, List.getElem_toArray, List.getElem_cons_zero, List.getElem_cons_succ, List.setIfInBounds_toArray, List.set_cons_zero, List.set_cons_succ]
            refine wpAnyH_take (i := 4) (oi := _) (v := .slice (some ⟨gl, ol, none⟩) N cl) rfl (by kernel_rfl) (by kernel_rfl) (by kernel_rfl) (fun c a w h => putHang 51 (by decide) _ c a w h) (Or.inl ⟨by rfl, by intro w hSw; go_split_ands; go_simp <;> omega⟩) HS.out ?_
            simp only [Act.put, List.getElem_toArray, List.getElem_cons_zero, List.getElem_cons_succ, List.setIfInBounds_toArray, List.set_cons_zero, List.set_cons_succ]
            refine wpAnyH_take (i := 5) (oi := _) (v := .int .i64 N) rfl (by kernel_rfl) (by kernel_rfl) (by kernel_rfl) (fun c a w h => putHang 52 (by decide) _ c a w h) (Or.inl ⟨by rfl, by intro w hSw; go_split_ands; go_simp <;> omega⟩) HS.out ?_
            simp only [Act.put, List.getElem_toArray, List.getElem_cons_zero, List.getElem_cons_succ, List.setIfInBounds_toArray, List.set_cons_zero, List.set_cons_succ]
            refine wpAnyH_take (i := 6) (oi := _) (v := .int .i64 (0)) rfl (by kernel_rfl) (by kernel_rfl) (by kernel_rfl) (fun c a w h => putHang 53 (by decide) _ c a w h) (Or.inl ⟨by rfl, by intro w hSw; go_split_ands; go_simp <;> omega⟩) HS.out ?_
            simp only [Act.put, List.getElem_toArray, List.getElem_cons_zero, List.getElem_cons_succ, List.setIfInBounds_toArray, List.set_cons_zero, List.set_cons_succ]
            refine wpAnyH_take (i := 7) (oi := _) (v := .slice (some ⟨gl, ol, none⟩) 0 cl) rfl (by kernel_rfl) (by kernel_rfl) (by kernel_rfl) (fun c a w h => putHang 54 (by decide) _ c a w h) (Or.inl ⟨by rfl, by intro w hSw; go_split_ands; go_simp <;> omega⟩) HS.out ?_
            simp only [Act.put, List.getElem_toArray, List.getElem_cons_zero, List.getElem_cons_succ, List.setIfInBounds_toArray, List.set_cons_zero, List.set_cons_succ]
            refine wpAnyH_ready (rs := [8]) (by kernel_rfl) (by simp) ?_
            refine AllReadyH.cons (o := _) rfl (fun K hK => ?_) AllReadyH.nil
            go_simp
            refine (runSteps_any _ _ _ xs ps (PL.take 0) aF aR aU _ HOK.out (by rw [List.length_take]; omega) (HRw.out.below HB4.out.drew (Nat.le_refl _)) (HPw.out.below HB4.out.drew (Nat.le_refl _)) (HRS.out.below ((Below.refl _ _).drew) (Nat.le_refl _)) (Stab.go HB4.out.drew HSw.out)).mono ?_
            rw [HTK.out, ← Ho.out]
            rintro e w7 ⟨hst, hb7⟩
            obtain ⟨_, us, up, rfl, o1, o2, dd⟩ := Or.resolve_right hst (fun h => h.1 HOC.out)
            have hK7 : Kept [w.heap.size + 1] w4 w7 := (Kept.ofBelow (below_drew hb7)).mono (by simp)
            obtain ⟨s1, s2, s3, rfl⟩ := o1.isSlice
            obtain ⟨s4, s5, s6, rfl⟩ := o2.isSlice
            have r7 : Row w7 (w.heap.size + 1) 31 [.slice none 0 0, .slice none 0 0, .string ⟨#[]⟩, .int .i64 0, .int .i64 0] := Row.after hb7 HX4.out.drew
            have d0 : w7.cell? ⟨w.heap.size + 1, 0, none⟩ = some (.slice none 0 0) := r7.cell 0
            have d1 : w7.cell? ⟨w.heap.size + 1, 1, none⟩ = some (.slice none 0 0) := r7.cell 1
            have d2 : w7.cell? ⟨w.heap.size + 1, 2, none⟩ = some (.string ⟨#[]⟩) := r7.cell 2
            have d3 : w7.cell? ⟨w.heap.size + 1, 3, none⟩ = some (.int .i64 0) := r7.cell 3
            have d4 : w7.cell? ⟨w.heap.size + 1, 4, none⟩ = some (.int .i64 0) := r7.cell 4
            have f0 := r7.free 0
            have f1 := r7.free 1
            have f2 := r7.free 2
            have f3 := r7.free 3
            have f4 := r7.free 4
            have HR7 := hide r7
            have HB7 := hide (HB4.out.trans ((below_drew hb7).mono HB4.out.size))
            have O1 := hide o1
            have O2 := hide o2
            have DD := hide dd
            obtain ⟨q0, q1, q2, q3, q4, KF⟩ := five HR7.out (.slice s1 s2 s3) (.slice s4 s5 s6) (.string ⟨#[]⟩) (.int .i64 0) (.int .i64 0)
            have HRow := hide (((((HR7.out.set (j := 0) (.slice s1 s2 s3)).set (j := 1) (.slice s4 s5 s6)).set (j := 2) (.string ⟨#[]⟩)).set (j := 3) (.int .i64 0)).set (j := 4) (.int .i64 0))
            have HKF := hide KF
            clear hb7 r7 o1 o2 dd hst q0 q1 q2 q3 q4 KF
            refine hK.out _ _ (HSS.out _ hK7) (fun _ => ?_)
            clear hK K
            have HS := hide (HSS.out _ hK7)
            refine wpAnyH_take (i := 9) (oi := _) (v := .agg #[.slice s1 s2 s3, .slice s4 s5 s6, .string ⟨#[]⟩, .int .i64 0, .int .i64 0]) rfl (by kernel_rfl) (by kernel_rfl) (by kernel_rfl) (fun c a w h => putHang 56 (by decide) _ c a w h) (Or.inl ⟨by rfl, by intro w hSw; go_split_ands; go_simp <;> omega⟩) HS.out ?_
            simp only [Act.put, List.getElem_toArray, List.getElem_cons_zero, List.getElem_cons_succ, List.setIfInBounds_toArray, List.set_cons_zero, List.set_cons_succ]
            refine wpAnyH_ready (rs := [10]) (by kernel_rfl) (by simp) ?_
            refine AllReadyH.cons (o := _) rfl (fun K hK => ?_) AllReadyH.nil
            go_simp
            refine hK.out _ _ (HSS.out _ (hK7.trans HKF.out)) (fun _ => ?_)
            clear hK K d0 d1 d2 d3 d4 f0 f1 f2 f3 f4 HS
            refine wpAnyH_done (by kernel_rfl) ?_ _
            go_wp2
            refine leaves_cons (f := 31) (args := #[.pointer (some ⟨w.heap.size + 1, 0, none⟩)]) (by simp) (by simp [go_sem]) ?_
            refine (putCatch_idle (w.heap.size + 1) s1 s4 s2 s3 s5 s6 ⟨#[]⟩ 0 0 _ HRow.out).mono ?_
            rintro e u' wd ⟨rfl, rfl, hrow, hk⟩
            have b0 : wd.cell? ⟨w.heap.size + 1, 0, none⟩ = some (.slice s1 s2 s3) := hrow.cell 0
            have b1 : wd.cell? ⟨w.heap.size + 1, 1, none⟩ = some (.slice s4 s5 s6) := hrow.cell 1
            have b2 : wd.cell? ⟨w.heap.size + 1, 2, none⟩ = some (.string ⟨#[]⟩) := hrow.cell 2
            have b3 : wd.cell? ⟨w.heap.size + 1, 3, none⟩ = some (.int .i64 0) := hrow.cell 3
            have b4 : wd.cell? ⟨w.heap.size + 1, 4, none⟩ = some (.int .i64 0) := hrow.cell 4
            have K2 := HKF.out.trans hk
            simp [Leaves, settle, results, Tryz.results9, go_sem, b0, b1, b2, b3, b4]
            refine ⟨?_, K2.toBelow HB7.out HB7.out.size (by simp)⟩
            rw [HFF.out]
            exact ⟨_, _, rfl, (O1.out.kept K2 (fun y' hy => by have := (O1.out.leads y' hy).1; simp at this ⊢; omega)).mono HB4.out.size, (O2.out.kept K2 (fun y' hy => by have := (O2.out.leads y' hy).1; simp at this ⊢; omega)).mono HB4.out.size, DD.out⟩
          · have HOC := hide hoc
            have HFF := hide (show y = aill o.c by rw [HF.out, if_neg hoc])
            obtain ⟨oc, hoc'⟩ : ∃ c, c = o.c := ⟨_, rfl⟩
            rw [← hoc'] at HFF
            have HOCE := hide hoc'
            clear hoc hoc'
            go_wp2_with fail
            refine wp_region_held (S := fun x' : World => x'.cell? ⟨w.heap.size, 0, none⟩ = some (.slice p1 xs.length c1) ∧ x'.cell? ⟨w.heap.size, 1, none⟩ = some (.slice p2 ps.length c2) ∧ Kept [w.heap.size + 1] w4 x') (by kernel_rfl) ?_
            have HS := hide (HSS.out { w4 with drawn := w4.drawn + 1 } ((Kept.refl _ _).drew))
            refine wpAnyH_take (i := 0) (oi := _) (v := .agg #[.slice p1 xs.length c1, .slice p2 ps.length c2]) rfl (by kernel_rfl) (by kernel_rfl) (by kernel_rfl) (fun c a w h => putHang 47 (by decide) _ c a w h) (Or.inl ⟨by rfl, by intro w hSw; go_split_ands; go_simp <;> omega⟩) HS.out ?_
            simp only [Act.put, List.getElem_toArray, List.getElem_cons_zero, List.setIfInBounds_toArray, List.set_cons_zero, List.set_cons_succ]
            refine wpAnyH_take (i := 1) (oi := _) (v := .slice (some ⟨gl, ol, none⟩) N cl) rfl (by kernel_rfl) (by kernel_rfl) (by kernel_rfl) (fun c a w h => putHang 48 (by decide) _ c a w h) (Or.inl ⟨by rfl, by intro w hSw; go_split_ands; go_simp <;> omega⟩) HS.out ?_
            simp only [Act.put, List.getElem_toArray, List.getElem_cons_zero, List.getElem_cons_succ, List.setIfInBounds_toArray, List.set_cons_zero, List.set_cons_succ]
            refine wpAnyH_take (i := 2) (oi := _) (v := .int .i64 a) rfl (by kernel_rfl) (by kernel_rfl) (by kernel_rfl) (fun c a w h => putHang 49 (by decide) _ c a w h) (Or.inl ⟨by rfl, by intro w hSw; go_split_ands; go_simp <;> omega⟩) HS.out ?_
            simp only [Act.put, List.getElem_toArray, List.getElem_cons_zero, List.getElem_cons_succ, List.setIfInBounds_toArray, List.set_cons_zero, List.set_cons_succ]
            refine wpAnyH_take (i := 3) (oi := _) (v := .int .i64 (0)) rfl (by kernel_rfl) (by kernel_rfl) (by kernel_rfl) (fun c a w h => putHang 50 (by decide) _ c a w h) (Or.inl ⟨by rfl, by intro w hSw; go_split_ands; go_simp <;> omega⟩) HS.out ?_
            simp only [Act.put, List.getElem_toArray, List.getElem_cons_zero, List.getElem_cons_succ, List.setIfInBounds_toArray, List.set_cons_zero, List.set_cons_succ]
            refine wpAnyH_take (i := 4) (oi := _) (v := .slice (some ⟨gl, ol, none⟩) N cl) rfl (by kernel_rfl) (by kernel_rfl) (by kernel_rfl) (fun c a w h => putHang 51 (by decide) _ c a w h) (Or.inl ⟨by rfl, by intro w hSw; go_split_ands; go_simp <;> omega⟩) HS.out ?_
            simp only [Act.put, List.getElem_toArray, List.getElem_cons_zero, List.getElem_cons_succ, List.setIfInBounds_toArray, List.set_cons_zero, List.set_cons_succ]
            refine wpAnyH_take (i := 5) (oi := _) (v := .int .i64 N) rfl (by kernel_rfl) (by kernel_rfl) (by kernel_rfl) (fun c a w h => putHang 52 (by decide) _ c a w h) (Or.inl ⟨by rfl, by intro w hSw; go_split_ands; go_simp <;> omega⟩) HS.out ?_
            simp only [Act.put, List.getElem_toArray, List.getElem_cons_zero, List.getElem_cons_succ, List.setIfInBounds_toArray, List.set_cons_zero, List.set_cons_succ]
            refine wpAnyH_take (i := 6) (oi := _) (v := .int .i64 (0)) rfl (by kernel_rfl) (by kernel_rfl) (by kernel_rfl) (fun c a w h => putHang 53 (by decide) _ c a w h) (Or.inl ⟨by rfl, by intro w hSw; go_split_ands; go_simp <;> omega⟩) HS.out ?_
            simp only [Act.put, List.getElem_toArray, List.getElem_cons_zero, List.getElem_cons_succ, List.setIfInBounds_toArray, List.set_cons_zero, List.set_cons_succ]
            refine wpAnyH_take (i := 7) (oi := _) (v := .slice (some ⟨gl, ol, none⟩) 0 cl) rfl (by kernel_rfl) (by kernel_rfl) (by kernel_rfl) (fun c a w h => putHang 54 (by decide) _ c a w h) (Or.inl ⟨by rfl, by intro w hSw; go_split_ands; go_simp <;> omega⟩) HS.out ?_
            simp only [Act.put, List.getElem_toArray, List.getElem_cons_zero, List.getElem_cons_succ, List.setIfInBounds_toArray, List.set_cons_zero, List.set_cons_succ]
            refine wpAnyH_ready (rs := [8]) (by kernel_rfl) (by simp) ?_
            refine AllReadyH.cons (o := _) rfl (fun K hK => ?_) AllReadyH.nil
            go_simp
            refine (runSteps_any _ _ _ xs ps (PL.take 0) aF aR aU _ HOK.out (by rw [List.length_take]; omega) (HRw.out.below HB4.out.drew (Nat.le_refl _)) (HPw.out.below HB4.out.drew (Nat.le_refl _)) (HRS.out.below ((Below.refl _ _).drew) (Nat.le_refl _)) (Stab.go HB4.out.drew HSw.out)).mono ?_
            rw [HTK.out, ← Ho.out]
            rintro e w7 ⟨hst, hb7⟩
            obtain ⟨_, rfl⟩ := Or.resolve_left hst (fun h => HOC.out h.1)
            rw [← HOCE.out]
            have HB7 := hide (HB4.out.trans ((below_drew hb7).mono HB4.out.size))
            have HX7 := hide (Row.after hb7 HX4.out.drew)
            clear hb7 hst
            show bodyPostD _ _ _ (.panic _) _ _
            refine leaves_cons (f := 31) (args := #[.pointer (some ⟨w.heap.size + 1, 0, none⟩)]) (by simp) (by simp [go_sem]) ?_
            refine (putCatch_panic _ _ _ _ _ _ _ _ _ _ oc [] _ HX7.out).mono ?_
            rintro e u' wd ⟨rfl, rfl, hrow, hk⟩
            have b0 : wd.cell? ⟨w.heap.size + 1, 0, none⟩ = some (.slice none 0 0) := hrow.cell 0
            have b1 : wd.cell? ⟨w.heap.size + 1, 1, none⟩ = some (.slice none 0 0) := hrow.cell 1
            have b2 : wd.cell? ⟨w.heap.size + 1, 2, none⟩ = some (.string ⟨#[]⟩) := hrow.cell 2
            have b3 : wd.cell? ⟨w.heap.size + 1, 3, none⟩ = some (.int .i64 0) := hrow.cell 3
            have b4 : wd.cell? ⟨w.heap.size + 1, 4, none⟩ = some (.int .i64 oc) := hrow.cell 4
            simp [Leaves, settle, results, Tryz.results9, go_sem, b0, b1, b2, b3, b4]
            exact ⟨by rw [HFF.out]; exact AOutIs.ill _ _ _, hk.toBelow HB7.out HB7.out.size (by simp)⟩
        · by_cases hb : a < (N : Int)
          · have hT : (T : Int) = a := by omega
            have hle : (0 : Int) ≤ a := by omega
            have hac : a ≤ (cl : Int) := by omega
            have htn : a.toNat = T := by omega
            clear HT
            by_cases hoc : o.c = 0
            · have HOC := hide hoc
              have HFF := hide (show y = ⟨o.xs, o.ps, ⟨#[]⟩, 0, 0⟩ by rw [HF.out, if_pos hoc])
              clear hoc
              go_wp2_with fail
              refine wp_region_held (S := fun x' : World => x'.cell? ⟨w.heap.size, 0, none⟩ = some (.slice p1 xs.length c1) ∧ x'.cell? ⟨w.heap.size, 1, none⟩ = some (.slice p2 ps.length c2) ∧ Kept [w.heap.size + 1] w4 x') (by kernel_rfl) ?_
              have HS := hide (HSS.out { w4 with drawn := w4.drawn + 1 } ((Kept.refl _ _).drew))
              refine wpAnyH_take (i := 0) (oi := _) (v := .agg #[.slice p1 xs.length c1, .slice p2 ps.length c2]) rfl (by kernel_rfl) (by kernel_rfl) (by kernel_rfl) (fun c a w h => putHang 47 (by decide) _ c a w h) (Or.inl ⟨by rfl, by intro w hSw; go_split_ands; go_simp <;> omega⟩) HS.out ?_
              simp only [Act.put, List.getElem_toArray, List.getElem_cons_zero, List.setIfInBounds_toArray, List.set_cons_zero, List.set_cons_succ]
              refine wpAnyH_take (i := 1) (oi := _) (v := .slice (some ⟨gl, ol, none⟩) N cl) rfl (by kernel_rfl) (by kernel_rfl) (by kernel_rfl) (fun c a w h => putHang 48 (by decide) _ c a w h) (Or.inl ⟨by rfl, by intro w hSw; go_split_ands; go_simp <;> omega⟩) HS.out ?_
              simp only [Act.put, List.getElem_toArray, List.getElem_cons_zero, List.getElem_cons_succ, List.setIfInBounds_toArray, List.set_cons_zero, List.set_cons_succ]
              refine wpAnyH_take (i := 2) (oi := _) (v := .int .i64 a) rfl (by kernel_rfl) (by kernel_rfl) (by kernel_rfl) (fun c a w h => putHang 49 (by decide) _ c a w h) (Or.inl ⟨by rfl, by intro w hSw; go_split_ands; go_simp <;> omega⟩) HS.out ?_
              simp only [Act.put, List.getElem_toArray, List.getElem_cons_zero, List.getElem_cons_succ, List.setIfInBounds_toArray, List.set_cons_zero, List.set_cons_succ]
              refine wpAnyH_take (i := 3) (oi := _) (v := .int .i64 (a)) rfl (by kernel_rfl) (by kernel_rfl) (by kernel_rfl) (fun c a w h => putHang 50 (by decide) _ c a w h) (Or.inl ⟨by rfl, by intro w hSw; go_split_ands; go_simp <;> omega⟩) HS.out ?_
              simp only [Act.put, List.getElem_toArray, List.getElem_cons_zero, List.getElem_cons_succ, List.setIfInBounds_toArray, List.set_cons_zero, List.set_cons_succ]
              refine wpAnyH_take (i := 4) (oi := _) (v := .slice (some ⟨gl, ol, none⟩) N cl) rfl (by kernel_rfl) (by kernel_rfl) (by kernel_rfl) (fun c a w h => putHang 51 (by decide) _ c a w h) (Or.inl ⟨by rfl, by intro w hSw; go_split_ands; go_simp <;> omega⟩) HS.out ?_
              simp only [Act.put, List.getElem_toArray, List.getElem_cons_zero, List.getElem_cons_succ, List.setIfInBounds_toArray, List.set_cons_zero, List.set_cons_succ]
              refine wpAnyH_take (i := 5) (oi := _) (v := .int .i64 N) rfl (by kernel_rfl) (by kernel_rfl) (by kernel_rfl) (fun c a w h => putHang 52 (by decide) _ c a w h) (Or.inl ⟨by rfl, by intro w hSw; go_split_ands; go_simp <;> omega⟩) HS.out ?_
              simp only [Act.put, List.getElem_toArray, List.getElem_cons_zero, List.getElem_cons_succ, List.setIfInBounds_toArray, List.set_cons_zero, List.set_cons_succ]
              refine wpAnyH_take (i := 6) (oi := _) (v := .int .i64 (a)) rfl (by kernel_rfl) (by kernel_rfl) (by kernel_rfl) (fun c a w h => putHang 53 (by decide) _ c a w h) (Or.inl ⟨by rfl, by intro w hSw; go_split_ands; go_simp <;> omega⟩) HS.out ?_
              simp only [Act.put, List.getElem_toArray, List.getElem_cons_zero, List.getElem_cons_succ, List.setIfInBounds_toArray, List.set_cons_zero, List.set_cons_succ]
              refine wpAnyH_take (i := 7) (oi := _) (v := .slice (some ⟨gl, ol, none⟩) T cl) rfl (by kernel_rfl) (by kernel_rfl) (by kernel_rfl) (fun c a w h => putHang 54 (by decide) _ c a w h) (Or.inl ⟨by rfl, by intro w hSw; go_split_ands; go_simp <;> omega⟩) HS.out ?_
              simp only [Act.put, List.getElem_toArray, List.getElem_cons_zero, List.getElem_cons_succ, List.setIfInBounds_toArray, List.set_cons_zero, List.set_cons_succ]
              refine wpAnyH_ready (rs := [8]) (by kernel_rfl) (by simp) ?_
              refine AllReadyH.cons (o := _) rfl (fun K hK => ?_) AllReadyH.nil
              go_simp
              refine (runSteps_any _ _ _ xs ps (PL.take T) aF aR aU _ HOK.out (by rw [List.length_take]; omega) (HRw.out.below HB4.out.drew (Nat.le_refl _)) (HPw.out.below HB4.out.drew (Nat.le_refl _)) (HRS.out.below ((Below.refl _ _).drew) (Nat.le_refl _)) (Stab.go HB4.out.drew HSw.out)).mono ?_
              rw [HTK.out, ← Ho.out]
              rintro e w7 ⟨hst, hb7⟩
              obtain ⟨_, us, up, rfl, o1, o2, dd⟩ := Or.resolve_right hst (fun h => h.1 HOC.out)
              have hK7 : Kept [w.heap.size + 1] w4 w7 := (Kept.ofBelow (below_drew hb7)).mono (by simp)
              obtain ⟨s1, s2, s3, rfl⟩ := o1.isSlice
              obtain ⟨s4, s5, s6, rfl⟩ := o2.isSlice
              have r7 : Row w7 (w.heap.size + 1) 31 [.slice none 0 0, .slice none 0 0, .string ⟨#[]⟩, .int .i64 0, .int .i64 0] := Row.after hb7 HX4.out.drew
              have d0 : w7.cell? ⟨w.heap.size + 1, 0, none⟩ = some (.slice none 0 0) := r7.cell 0
              have d1 : w7.cell? ⟨w.heap.size + 1, 1, none⟩ = some (.slice none 0 0) := r7.cell 1
              have d2 : w7.cell? ⟨w.heap.size + 1, 2, none⟩ = some (.string ⟨#[]⟩) := r7.cell 2
              have d3 : w7.cell? ⟨w.heap.size + 1, 3, none⟩ = some (.int .i64 0) := r7.cell 3
              have d4 : w7.cell? ⟨w.heap.size + 1, 4, none⟩ = some (.int .i64 0) := r7.cell 4
              have f0 := r7.free 0
              have f1 := r7.free 1
              have f2 := r7.free 2
              have f3 := r7.free 3
              have f4 := r7.free 4
              have HR7 := hide r7
              have HB7 := hide (HB4.out.trans ((below_drew hb7).mono HB4.out.size))
              have O1 := hide o1
              have O2 := hide o2
              have DD := hide dd
              obtain ⟨q0, q1, q2, q3, q4, KF⟩ := five HR7.out (.slice s1 s2 s3) (.slice s4 s5 s6) (.string ⟨#[]⟩) (.int .i64 0) (.int .i64 0)
              have HRow := hide (((((HR7.out.set (j := 0) (.slice s1 s2 s3)).set (j := 1) (.slice s4 s5 s6)).set (j := 2) (.string ⟨#[]⟩)).set (j := 3) (.int .i64 0)).set (j := 4) (.int .i64 0))
              have HKF := hide KF
              clear hb7 r7 o1 o2 dd hst q0 q1 q2 q3 q4 KF
              refine hK.out _ _ (HSS.out _ hK7) (fun _ => ?_)
              clear hK K
              have HS := hide (HSS.out _ hK7)
              refine wpAnyH_take (i := 9) (oi := _) (v := .agg #[.slice s1 s2 s3, .slice s4 s5 s6, .string ⟨#[]⟩, .int .i64 0, .int .i64 0]) rfl (by kernel_rfl) (by kernel_rfl) (by kernel_rfl) (fun c a w h => putHang 56 (by decide) _ c a w h) (Or.inl ⟨by rfl, by intro w hSw; go_split_ands; go_simp <;> omega⟩) HS.out ?_
              simp only [Act.put, List.getElem_toArray, List.getElem_cons_zero, List.getElem_cons_succ, List.setIfInBounds_toArray, List.set_cons_zero, List.set_cons_succ]
              refine wpAnyH_ready (rs := [10]) (by kernel_rfl) (by simp) ?_
              refine AllReadyH.cons (o := _) rfl (fun K hK => ?_) AllReadyH.nil
              go_simp
              refine hK.out _ _ (HSS.out _ (hK7.trans HKF.out)) (fun _ => ?_)
              clear hK K d0 d1 d2 d3 d4 f0 f1 f2 f3 f4 HS
              refine wpAnyH_done (by kernel_rfl) ?_ _
              go_wp2
              refine leaves_cons (f := 31) (args := #[.pointer (some ⟨w.heap.size + 1, 0, none⟩)]) (by simp) (by simp [go_sem]) ?_
              refine (putCatch_idle (w.heap.size + 1) s1 s4 s2 s3 s5 s6 ⟨#[]⟩ 0 0 _ HRow.out).mono ?_
              rintro e u' wd ⟨rfl, rfl, hrow, hk⟩
              have b0 : wd.cell? ⟨w.heap.size + 1, 0, none⟩ = some (.slice s1 s2 s3) := hrow.cell 0
              have b1 : wd.cell? ⟨w.heap.size + 1, 1, none⟩ = some (.slice s4 s5 s6) := hrow.cell 1
              have b2 : wd.cell? ⟨w.heap.size + 1, 2, none⟩ = some (.string ⟨#[]⟩) := hrow.cell 2
              have b3 : wd.cell? ⟨w.heap.size + 1, 3, none⟩ = some (.int .i64 0) := hrow.cell 3
              have b4 : wd.cell? ⟨w.heap.size + 1, 4, none⟩ = some (.int .i64 0) := hrow.cell 4
              have K2 := HKF.out.trans hk
              simp [Leaves, settle, results, Tryz.results9, go_sem, b0, b1, b2, b3, b4]
              refine ⟨?_, K2.toBelow HB7.out HB7.out.size (by simp)⟩
              rw [HFF.out]
              exact ⟨_, _, rfl, (O1.out.kept K2 (fun y' hy => by have := (O1.out.leads y' hy).1; simp at this ⊢; omega)).mono HB4.out.size, (O2.out.kept K2 (fun y' hy => by have := (O2.out.leads y' hy).1; simp at this ⊢; omega)).mono HB4.out.size, DD.out⟩
            · have HOC := hide hoc
              have HFF := hide (show y = aill o.c by rw [HF.out, if_neg hoc])
              obtain ⟨oc, hoc'⟩ : ∃ c, c = o.c := ⟨_, rfl⟩
              rw [← hoc'] at HFF
              have HOCE := hide hoc'
              clear hoc hoc'
              go_wp2_with fail
              refine wp_region_held (S := fun x' : World => x'.cell? ⟨w.heap.size, 0, none⟩ = some (.slice p1 xs.length c1) ∧ x'.cell? ⟨w.heap.size, 1, none⟩ = some (.slice p2 ps.length c2) ∧ Kept [w.heap.size + 1] w4 x') (by kernel_rfl) ?_
              have HS := hide (HSS.out { w4 with drawn := w4.drawn + 1 } ((Kept.refl _ _).drew))
              refine wpAnyH_take (i := 0) (oi := _) (v := .agg #[.slice p1 xs.length c1, .slice p2 ps.length c2]) rfl (by kernel_rfl) (by kernel_rfl) (by kernel_rfl) (fun c a w h => putHang 47 (by decide) _ c a w h) (Or.inl ⟨by rfl, by intro w hSw; go_split_ands; go_simp <;> omega⟩) HS.out ?_
              simp only [Act.put, List.getElem_toArray, List.getElem_cons_zero, List.setIfInBounds_toArray, List.set_cons_zero, List.set_cons_succ]
              refine wpAnyH_take (i := 1) (oi := _) (v := .slice (some ⟨gl, ol, none⟩) N cl) rfl (by kernel_rfl) (by kernel_rfl) (by kernel_rfl) (fun c a w h => putHang 48 (by decide) _ c a w h) (Or.inl ⟨by rfl, by intro w hSw; go_split_ands; go_simp <;> omega⟩) HS.out ?_
              simp only [Act.put, List.getElem_toArray, List.getElem_cons_zero, List.getElem_cons_succ, List.setIfInBounds_toArray, List.set_cons_zero, List.set_cons_succ]
              refine wpAnyH_take (i := 2) (oi := _) (v := .int .i64 a) rfl (by kernel_rfl) (by kernel_rfl) (by kernel_rfl) (fun c a w h => putHang 49 (by decide) _ c a w h) (Or.inl ⟨by rfl, by intro w hSw; go_split_ands; go_simp <;> omega⟩) HS.out ?_
              simp only [Act.put, List.getElem_toArray, List.getElem_cons_zero, List.getElem_cons_succ, List.setIfInBounds_toArray, List.set_cons_zero, List.set_cons_succ]
              refine wpAnyH_take (i := 3) (oi := _) (v := .int .i64 (a)) rfl (by kernel_rfl) (by kernel_rfl) (by kernel_rfl) (fun c a w h => putHang 50 (by decide) _ c a w h) (Or.inl ⟨by rfl, by intro w hSw; go_split_ands; go_simp <;> omega⟩) HS.out ?_
              simp only [Act.put, List.getElem_toArray, List.getElem_cons_zero, List.getElem_cons_succ, List.setIfInBounds_toArray, List.set_cons_zero, List.set_cons_succ]
              refine wpAnyH_take (i := 4) (oi := _) (v := .slice (some ⟨gl, ol, none⟩) N cl) rfl (by kernel_rfl) (by kernel_rfl) (by kernel_rfl) (fun c a w h => putHang 51 (by decide) _ c a w h) (Or.inl ⟨by rfl, by intro w hSw; go_split_ands; go_simp <;> omega⟩) HS.out ?_
              simp only [Act.put, List.getElem_toArray, List.getElem_cons_zero, List.getElem_cons_succ, List.setIfInBounds_toArray, List.set_cons_zero, List.set_cons_succ]
              refine wpAnyH_take (i := 5) (oi := _) (v := .int .i64 N) rfl (by kernel_rfl) (by kernel_rfl) (by kernel_rfl) (fun c a w h => putHang 52 (by decide) _ c a w h) (Or.inl ⟨by rfl, by intro w hSw; go_split_ands; go_simp <;> omega⟩) HS.out ?_
              simp only [Act.put, List.getElem_toArray, List.getElem_cons_zero, List.getElem_cons_succ, List.setIfInBounds_toArray, List.set_cons_zero, List.set_cons_succ]
              refine wpAnyH_take (i := 6) (oi := _) (v := .int .i64 (a)) rfl (by kernel_rfl) (by kernel_rfl) (by kernel_rfl) (fun c a w h => putHang 53 (by decide) _ c a w h) (Or.inl ⟨by rfl, by intro w hSw; go_split_ands; go_simp <;> omega⟩) HS.out ?_
              simp only [Act.put, List.getElem_toArray, List.getElem_cons_zero, List.getElem_cons_succ, List.setIfInBounds_toArray, List.set_cons_zero, List.set_cons_succ]
              refine wpAnyH_take (i := 7) (oi := _) (v := .slice (some ⟨gl, ol, none⟩) T cl) rfl (by kernel_rfl) (by kernel_rfl) (by kernel_rfl) (fun c a w h => putHang 54 (by decide) _ c a w h) (Or.inl ⟨by rfl, by intro w hSw; go_split_ands; go_simp <;> omega⟩) HS.out ?_
              simp only [Act.put, List.getElem_toArray, List.getElem_cons_zero, List.getElem_cons_succ, List.setIfInBounds_toArray, List.set_cons_zero, List.set_cons_succ]
              refine wpAnyH_ready (rs := [8]) (by kernel_rfl) (by simp) ?_
              refine AllReadyH.cons (o := _) rfl (fun K hK => ?_) AllReadyH.nil
              go_simp
              refine (runSteps_any _ _ _ xs ps (PL.take T) aF aR aU _ HOK.out (by rw [List.length_take]; omega) (HRw.out.below HB4.out.drew (Nat.le_refl _)) (HPw.out.below HB4.out.drew (Nat.le_refl _)) (HRS.out.below ((Below.refl _ _).drew) (Nat.le_refl _)) (Stab.go HB4.out.drew HSw.out)).mono ?_
              rw [HTK.out, ← Ho.out]
              rintro e w7 ⟨hst, hb7⟩
              obtain ⟨_, rfl⟩ := Or.resolve_left hst (fun h => HOC.out h.1)
              rw [← HOCE.out]
              have HB7 := hide (HB4.out.trans ((below_drew hb7).mono HB4.out.size))
              have HX7 := hide (Row.after hb7 HX4.out.drew)
              clear hb7 hst
              show bodyPostD _ _ _ (.panic _) _ _
              refine leaves_cons (f := 31) (args := #[.pointer (some ⟨w.heap.size + 1, 0, none⟩)]) (by simp) (by simp [go_sem]) ?_
              refine (putCatch_panic _ _ _ _ _ _ _ _ _ _ oc [] _ HX7.out).mono ?_
              rintro e u' wd ⟨rfl, rfl, hrow, hk⟩
              have b0 : wd.cell? ⟨w.heap.size + 1, 0, none⟩ = some (.slice none 0 0) := hrow.cell 0
              have b1 : wd.cell? ⟨w.heap.size + 1, 1, none⟩ = some (.slice none 0 0) := hrow.cell 1
              have b2 : wd.cell? ⟨w.heap.size + 1, 2, none⟩ = some (.string ⟨#[]⟩) := hrow.cell 2
              have b3 : wd.cell? ⟨w.heap.size + 1, 3, none⟩ = some (.int .i64 0) := hrow.cell 3
              have b4 : wd.cell? ⟨w.heap.size + 1, 4, none⟩ = some (.int .i64 oc) := hrow.cell 4
              simp [Leaves, settle, results, Tryz.results9, go_sem, b0, b1, b2, b3, b4]
              exact ⟨by rw [HFF.out]; exact AOutIs.ill _ _ _, hk.toBelow HB7.out HB7.out.size (by simp)⟩
          · have hT : T = N := by omega
            have hle : (0 : Int) ≤ a := by omega
            have hnn : (0 : Int) ≤ (N : Int) := by omega
            clear HT
            rw [hT] at HTK HRS
            clear hTN hT0 hTc hT
            by_cases hoc : o.c = 0
            · have HOC := hide hoc
              have HFF := hide (show y = ⟨o.xs, o.ps, ⟨#[]⟩, 0, 0⟩ by rw [HF.out, if_pos hoc])
              clear hoc
              go_wp2_with fail
              refine wp_region_held (S := fun x' : World => x'.cell? ⟨w.heap.size, 0, none⟩ = some (.slice p1 xs.length c1) ∧ x'.cell? ⟨w.heap.size, 1, none⟩ = some (.slice p2 ps.length c2) ∧ Kept [w.heap.size + 1] w4 x') (by kernel_rfl) ?_
              have HS := hide (HSS.out { w4 with drawn := w4.drawn + 1 } ((Kept.refl _ _).drew))
              refine wpAnyH_take (i := 0) (oi := _) (v := .agg #[.slice p1 xs.length c1, .slice p2 ps.length c2]) rfl (by kernel_rfl) (by kernel_rfl) (by kernel_rfl) (fun c a w h => putHang 47 (by decide) _ c a w h) (Or.inl ⟨by rfl, by intro w hSw; go_split_ands; go_simp <;> omega⟩) HS.out ?_
              simp only [Act.put, List.getElem_toArray, List.getElem_cons_zero, List.setIfInBounds_toArray, List.set_cons_zero, List.set_cons_succ]
              refine wpAnyH_take (i := 1) (oi := _) (v := .slice (some ⟨gl, ol, none⟩) N cl) rfl (by kernel_rfl) (by kernel_rfl) (by kernel_rfl) (fun c a w h => putHang 48 (by decide) _ c a w h) (Or.inl ⟨by rfl, by intro w hSw; go_split_ands; go_simp <;> omega⟩) HS.out ?_
              simp only [Act.put, List.getElem_toArray, List.getElem_cons_zero, List.getElem_cons_succ, List.setIfInBounds_toArray, List.set_cons_zero, List.set_cons_succ]
              refine wpAnyH_take (i := 2) (oi := _) (v := .int .i64 a) rfl (by kernel_rfl) (by kernel_rfl) (by kernel_rfl) (fun c a w h => putHang 49 (by decide) _ c a w h) (Or.inl ⟨by rfl, by intro w hSw; go_split_ands; go_simp <;> omega⟩) HS.out ?_
              simp only [Act.put, List.getElem_toArray, List.getElem_cons_zero, List.getElem_cons_succ, List.setIfInBounds_toArray, List.set_cons_zero, List.set_cons_succ]
              refine wpAnyH_take (i := 3) (oi := _) (v := .int .i64 (a)) rfl (by kernel_rfl) (by kernel_rfl) (by kernel_rfl) (fun c a w h => putHang 50 (by decide) _ c a w h) (Or.inl ⟨by rfl, by intro w hSw; go_split_ands; go_simp <;> omega⟩) HS.out ?_
              simp only [Act.put, List.getElem_toArray, List.getElem_cons_zero, List.getElem_cons_succ, List.setIfInBounds_toArray, List.set_cons_zero, List.set_cons_succ]
              refine wpAnyH_take (i := 4) (oi := _) (v := .slice (some ⟨gl, ol, none⟩) N cl) rfl (by kernel_rfl) (by kernel_rfl) (by kernel_rfl) (fun c a w h => putHang 51 (by decide) _ c a w h) (Or.inl ⟨by rfl, by intro w hSw; go_split_ands; go_simp <;> omega⟩) HS.out ?_
              simp only [Act.put, List.getElem_toArray, List.getElem_cons_zero, List.getElem_cons_succ, List.setIfInBounds_toArray, List.set_cons_zero, List.set_cons_succ]
              refine wpAnyH_take (i := 5) (oi := _) (v := .int .i64 N) rfl (by kernel_rfl) (by kernel_rfl) (by kernel_rfl) (fun c a w h => putHang 52 (by decide) _ c a w h) (Or.inl ⟨by rfl, by intro w hSw; go_split_ands; go_simp <;> omega⟩) HS.out ?_
              simp only [Act.put, List.getElem_toArray, List.getElem_cons_zero, List.getElem_cons_succ, List.setIfInBounds_toArray, List.set_cons_zero, List.set_cons_succ]
              refine wpAnyH_take (i := 6) (oi := _) (v := .int .i64 (N)) rfl (by kernel_rfl) (by kernel_rfl) (by kernel_rfl) (fun c a w h => putHang 53 (by decide) _ c a w h) (Or.inl ⟨by rfl, by intro w hSw; go_split_ands; go_simp <;> omega⟩) HS.out ?_
              simp only [Act.put, List.getElem_toArray, List.getElem_cons_zero, List.getElem_cons_succ, List.setIfInBounds_toArray, List.set_cons_zero, List.set_cons_succ]
              refine wpAnyH_take (i := 7) (oi := _) (v := .slice (some ⟨gl, ol, none⟩) N cl) rfl (by kernel_rfl) (by kernel_rfl) (by kernel_rfl) (fun c a w h => putHang 54 (by decide) _ c a w h) (Or.inl ⟨by rfl, by intro w hSw; go_split_ands; go_simp <;> omega⟩) HS.out ?_
              simp only [Act.put, List.getElem_toArray, List.getElem_cons_zero, List.getElem_cons_succ, List.setIfInBounds_toArray, List.set_cons_zero, List.set_cons_succ]
              refine wpAnyH_ready (rs := [8]) (by kernel_rfl) (by simp) ?_
              refine AllReadyH.cons (o := _) rfl (fun K hK => ?_) AllReadyH.nil
              go_simp
              refine (runSteps_any _ _ _ xs ps (PL.take N) aF aR aU _ HOK.out (by rw [List.length_take]; omega) (HRw.out.below HB4.out.drew (Nat.le_refl _)) (HPw.out.below HB4.out.drew (Nat.le_refl _)) (HRS.out.below ((Below.refl _ _).drew) (Nat.le_refl _)) (Stab.go HB4.out.drew HSw.out)).mono ?_
              rw [HTK.out, ← Ho.out]
              rintro e w7 ⟨hst, hb7⟩
              obtain ⟨_, us, up, rfl, o1, o2, dd⟩ := Or.resolve_right hst (fun h => h.1 HOC.out)
              have hK7 : Kept [w.heap.size + 1] w4 w7 := (Kept.ofBelow (below_drew hb7)).mono (by simp)
              obtain ⟨s1, s2, s3, rfl⟩ := o1.isSlice
              obtain ⟨s4, s5, s6, rfl⟩ := o2.isSlice
              have r7 : Row w7 (w.heap.size + 1) 31 [.slice none 0 0, .slice none 0 0, .string ⟨#[]⟩, .int .i64 0, .int .i64 0] := Row.after hb7 HX4.out.drew
              have d0 : w7.cell? ⟨w.heap.size + 1, 0, none⟩ = some (.slice none 0 0) := r7.cell 0
              have d1 : w7.cell? ⟨w.heap.size + 1, 1, none⟩ = some (.slice none 0 0) := r7.cell 1
              have d2 : w7.cell? ⟨w.heap.size + 1, 2, none⟩ = some (.string ⟨#[]⟩) := r7.cell 2
              have d3 : w7.cell? ⟨w.heap.size + 1, 3, none⟩ = some (.int .i64 0) := r7.cell 3
              have d4 : w7.cell? ⟨w.heap.size + 1, 4, none⟩ = some (.int .i64 0) := r7.cell 4
              have f0 := r7.free 0
              have f1 := r7.free 1
              have f2 := r7.free 2
              have f3 := r7.free 3
              have f4 := r7.free 4
              have HR7 := hide r7
              have HB7 := hide (HB4.out.trans ((below_drew hb7).mono HB4.out.size))
              have O1 := hide o1
              have O2 := hide o2
              have DD := hide dd
              obtain ⟨q0, q1, q2, q3, q4, KF⟩ := five HR7.out (.slice s1 s2 s3) (.slice s4 s5 s6) (.string ⟨#[]⟩) (.int .i64 0) (.int .i64 0)
              have HRow := hide (((((HR7.out.set (j := 0) (.slice s1 s2 s3)).set (j := 1) (.slice s4 s5 s6)).set (j := 2) (.string ⟨#[]⟩)).set (j := 3) (.int .i64 0)).set (j := 4) (.int .i64 0))
              have HKF := hide KF
              clear hb7 r7 o1 o2 dd hst q0 q1 q2 q3 q4 KF
              refine hK.out _ _ (HSS.out _ hK7) (fun _ => ?_)
              clear hK K
              have HS := hide (HSS.out _ hK7)
              refine wpAnyH_take (i := 9) (oi := _) (v := .agg #[.slice s1 s2 s3, .slice s4 s5 s6, .string ⟨#[]⟩, .int .i64 0, .int .i64 0]) rfl (by kernel_rfl) (by kernel_rfl) (by kernel_rfl) (fun c a w h => putHang 56 (by decide) _ c a w h) (Or.inl ⟨by rfl, by intro w hSw; go_split_ands; go_simp <;> omega⟩) HS.out ?_
              simp only [Act.put, List.getElem_toArray, List.getElem_cons_zero, List.getElem_cons_succ, List.setIfInBounds_toArray, List.set_cons_zero, List.set_cons_succ]
              refine wpAnyH_ready (rs := [10]) (by kernel_rfl) (by simp) ?_
              refine AllReadyH.cons (o := _) rfl (fun K hK => ?_) AllReadyH.nil
              go_simp
              refine hK.out _ _ (HSS.out _ (hK7.trans HKF.out)) (fun _ => ?_)
              clear hK K d0 d1 d2 d3 d4 f0 f1 f2 f3 f4 HS
              refine wpAnyH_done (by kernel_rfl) ?_ _
              go_wp2
              refine leaves_cons (f := 31) (args := #[.pointer (some ⟨w.heap.size + 1, 0, none⟩)]) (by simp) (by simp [go_sem]) ?_
              refine (putCatch_idle (w.heap.size + 1) s1 s4 s2 s3 s5 s6 ⟨#[]⟩ 0 0 _ HRow.out).mono ?_
              rintro e u' wd ⟨rfl, rfl, hrow, hk⟩
              have b0 : wd.cell? ⟨w.heap.size + 1, 0, none⟩ = some (.slice s1 s2 s3) := hrow.cell 0
              have b1 : wd.cell? ⟨w.heap.size + 1, 1, none⟩ = some (.slice s4 s5 s6) := hrow.cell 1
              have b2 : wd.cell? ⟨w.heap.size + 1, 2, none⟩ = some (.string ⟨#[]⟩) := hrow.cell 2
              have b3 : wd.cell? ⟨w.heap.size + 1, 3, none⟩ = some (.int .i64 0) := hrow.cell 3
              have b4 : wd.cell? ⟨w.heap.size + 1, 4, none⟩ = some (.int .i64 0) := hrow.cell 4
              have K2 := HKF.out.trans hk
              simp [Leaves, settle, results, Tryz.results9, go_sem, b0, b1, b2, b3, b4]
              refine ⟨?_, K2.toBelow HB7.out HB7.out.size (by simp)⟩
              rw [HFF.out]
              exact ⟨_, _, rfl, (O1.out.kept K2 (fun y' hy => by have := (O1.out.leads y' hy).1; simp at this ⊢; omega)).mono HB4.out.size, (O2.out.kept K2 (fun y' hy => by have := (O2.out.leads y' hy).1; simp at this ⊢; omega)).mono HB4.out.size, DD.out⟩
            · have HOC := hide hoc
              have HFF := hide (show y = aill o.c by rw [HF.out, if_neg hoc])
              obtain ⟨oc, hoc'⟩ : ∃ c, c = o.c := ⟨_, rfl⟩
              rw [← hoc'] at HFF
              have HOCE := hide hoc'
              clear hoc hoc'
              go_wp2_with fail
              refine wp_region_held (S := fun x' : World => x'.cell? ⟨w.heap.size, 0, none⟩ = some (.slice p1 xs.length c1) ∧ x'.cell? ⟨w.heap.size, 1, none⟩ = some (.slice p2 ps.length c2) ∧ Kept [w.heap.size + 1] w4 x') (by kernel_rfl) ?_
              have HS := hide (HSS.out { w4 with drawn := w4.drawn + 1 } ((Kept.refl _ _).drew))
              refine wpAnyH_take (i := 0) (oi := _) (v := .agg #[.slice p1 xs.length c1, .slice p2 ps.length c2]) rfl (by kernel_rfl) (by kernel_rfl) (by kernel_rfl) (fun c a w h => putHang 47 (by decide) _ c a w h) (Or.inl ⟨by rfl, by intro w hSw; go_split_ands; go_simp <;> omega⟩) HS.out ?_
              simp only [Act.put, List.getElem_toArray, List.getElem_cons_zero, List.setIfInBounds_toArray, List.set_cons_zero, List.set_cons_succ]
              refine wpAnyH_take (i := 1) (oi := _) (v := .slice (some ⟨gl, ol, none⟩) N cl) rfl (by kernel_rfl) (by kernel_rfl) (by kernel_rfl) (fun c a w h => putHang 48 (by decide) _ c a w h) (Or.inl ⟨by rfl, by intro w hSw; go_split_ands; go_simp <;> omega⟩) HS.out ?_
              simp only [Act.put, List.getElem_toArray, List.getElem_cons_zero, List.getElem_cons_succ, List.setIfInBounds_toArray, List.set_cons_zero, List.set_cons_succ]
              refine wpAnyH_take (i := 2) (oi := _) (v := .int .i64 a) rfl (by kernel_rfl) (by kernel_rfl) (by kernel_rfl) (fun c a w h => putHang 49 (by decide) _ c a w h) (Or.inl ⟨by rfl, by intro w hSw; go_split_ands; go_simp <;> omega⟩) HS.out ?_
              simp only [Act.put, List.getElem_toArray, List.getElem_cons_zero, List.getElem_cons_succ, List.setIfInBounds_toArray, List.set_cons_zero, List.set_cons_succ]
              refine wpAnyH_take (i := 3) (oi := _) (v := .int .i64 (a)) rfl (by kernel_rfl) (by kernel_rfl) (by kernel_rfl) (fun c a w h => putHang 50 (by decide) _ c a w h) (Or.inl ⟨by rfl, by intro w hSw; go_split_ands; go_simp <;> omega⟩) HS.out ?_
              simp only [Act.put, List.getElem_toArray, List.getElem_cons_zero, List.getElem_cons_succ, List.setIfInBounds_toArray, List.set_cons_zero, List.set_cons_succ]
              refine wpAnyH_take (i := 4) (oi := _) (v := .slice (some ⟨gl, ol, none⟩) N cl) rfl (by kernel_rfl) (by kernel_rfl) (by kernel_rfl) (fun c a w h => putHang 51 (by decide) _ c a w h) (Or.inl ⟨by rfl, by intro w hSw; go_split_ands; go_simp <;> omega⟩) HS.out ?_
              simp only [Act.put, List.getElem_toArray, List.getElem_cons_zero, List.getElem_cons_succ, List.setIfInBounds_toArray, List.set_cons_zero, List.set_cons_succ]
              refine wpAnyH_take (i := 5) (oi := _) (v := .int .i64 N) rfl (by kernel_rfl) (by kernel_rfl) (by kernel_rfl) (fun c a w h => putHang 52 (by decide) _ c a w h) (Or.inl ⟨by rfl, by intro w hSw; go_split_ands; go_simp <;> omega⟩) HS.out ?_
              simp only [Act.put, List.getElem_toArray, List.getElem_cons_zero, List.getElem_cons_succ, List.setIfInBounds_toArray, List.set_cons_zero, List.set_cons_succ]
              refine wpAnyH_take (i := 6) (oi := _) (v := .int .i64 (N)) rfl (by kernel_rfl) (by kernel_rfl) (by kernel_rfl) (fun c a w h => putHang 53 (by decide) _ c a w h) (Or.inl ⟨by rfl, by intro w hSw; go_split_ands; go_simp <;> omega⟩) HS.out ?_
              simp only [Act.put, List.getElem_toArray, List.getElem_cons_zero, List.getElem_cons_succ, List.setIfInBounds_toArray, List.set_cons_zero, List.set_cons_succ]
              refine wpAnyH_take (i := 7) (oi := _) (v := .slice (some ⟨gl, ol, none⟩) N cl) rfl (by kernel_rfl) (by kernel_rfl) (by kernel_rfl) (fun c a w h => putHang 54 (by decide) _ c a w h) (Or.inl ⟨by rfl, by intro w hSw; go_split_ands; go_simp <;> omega⟩) HS.out ?_
              simp only [Act.put, List.getElem_toArray, List.getElem_cons_zero, List.getElem_cons_succ, List.setIfInBounds_toArray, List.set_cons_zero, List.set_cons_succ]
              refine wpAnyH_ready (rs := [8]) (by kernel_rfl) (by simp) ?_
              refine AllReadyH.cons (o := _) rfl (fun K hK => ?_) AllReadyH.nil
              go_simp
              refine (runSteps_any _ _ _ xs ps (PL.take N) aF aR aU _ HOK.out (by rw [List.length_take]; omega) (HRw.out.below HB4.out.drew (Nat.le_refl _)) (HPw.out.below HB4.out.drew (Nat.le_refl _)) (HRS.out.below ((Below.refl _ _).drew) (Nat.le_refl _)) (Stab.go HB4.out.drew HSw.out)).mono ?_
              rw [HTK.out, ← Ho.out]
              rintro e w7 ⟨hst, hb7⟩
              obtain ⟨_, rfl⟩ := Or.resolve_left hst (fun h => HOC.out h.1)
              rw [← HOCE.out]
              have HB7 := hide (HB4.out.trans ((below_drew hb7).mono HB4.out.size))
              have HX7 := hide (Row.after hb7 HX4.out.drew)
              clear hb7 hst
              show bodyPostD _ _ _ (.panic _) _ _
              refine leaves_cons (f := 31) (args := #[.pointer (some ⟨w.heap.size + 1, 0, none⟩)]) (by simp) (by simp [go_sem]) ?_
              refine (putCatch_panic _ _ _ _ _ _ _ _ _ _ oc [] _ HX7.out).mono ?_
              rintro e u' wd ⟨rfl, rfl, hrow, hk⟩
              have b0 : wd.cell? ⟨w.heap.size + 1, 0, none⟩ = some (.slice none 0 0) := hrow.cell 0
              have b1 : wd.cell? ⟨w.heap.size + 1, 1, none⟩ = some (.slice none 0 0) := hrow.cell 1
              have b2 : wd.cell? ⟨w.heap.size + 1, 2, none⟩ = some (.string ⟨#[]⟩) := hrow.cell 2
              have b3 : wd.cell? ⟨w.heap.size + 1, 3, none⟩ = some (.int .i64 0) := hrow.cell 3
              have b4 : wd.cell? ⟨w.heap.size + 1, 4, none⟩ = some (.int .i64 oc) := hrow.cell 4
              simp [Leaves, settle, results, Tryz.results9, go_sem, b0, b1, b2, b3, b4]
              exact ⟨by rw [HFF.out]; exact AOutIs.ill _ _ _, hk.toBelow HB7.out HB7.out.size (by simp)⟩
  · have HF := hide (show y = aill x.c by rw [Hy.out]; unfold putOut; rw [if_neg (by omega), HOK.out, if_neg (by simp), ← Hx.out, if_pos hc])
    obtain ⟨c, hcc⟩ : ∃ c, c = x.c := ⟨_, rfl⟩
    rw [← hcc] at HF hc ⊢
    clear hcc
    go_wp2
    refine leaves_cons (f := 31) (args := #[.pointer (some ⟨w.heap.size + 1, 0, none⟩)]) (by simp) (by simp [go_sem]) ?_
    refine (putCatch_panic _ _ _ _ _ _ _ _ _ _ c [] _ HX2.out).mono ?_
    rintro e u' wd ⟨rfl, rfl, hrow, hk⟩
    have b0 : wd.cell? ⟨w.heap.size + 1, 0, none⟩ = some (.slice none 0 0) := hrow.cell 0
    have b1 : wd.cell? ⟨w.heap.size + 1, 1, none⟩ = some (.slice none 0 0) := hrow.cell 1
    have b2 : wd.cell? ⟨w.heap.size + 1, 2, none⟩ = some (.string ⟨#[]⟩) := hrow.cell 2
    have b3 : wd.cell? ⟨w.heap.size + 1, 3, none⟩ = some (.int .i64 0) := hrow.cell 3
    have b4 : wd.cell? ⟨w.heap.size + 1, 4, none⟩ = some (.int .i64 c) := hrow.cell 4
    simp [Leaves, settle, results, Tryz.results9, go_sem, b0, b1, b2, b3, b4]
    exact ⟨by rw [HF.out]; exact AOutIs.ill _ _ _, hk.toBelow HB2.out HB2.out.size (by simp)⟩

theorem implAPut_any (vs vp : Value) (xs : List ByteArray) (ps : List (Int × ByteArray)) (d : ByteArray) (a : Int) (aF aR aU : Addr) (w : World) (hn : xs.length ≤ 1048576) (hn2 : ps.length ≤ 1048576) (hd : d.size ≤ 1048576) (hr : Reads w vs xs) (hp : ReadsP w vp ps) (hS : Sents aF aR aU w)
    (HRA : right xs ps = true → ∀ (vs vp : Value) (w' : World), Below w.heap.size w w' → Reads w' vs xs → ReadsP w' vp ps → Calls Tryz.prog 29 #[.agg #[vs, vp]] w' fun e w'' => AreaIs e xs ps ∧ Below w'.heap.size w' w'') :
    Calls Tryz.prog 9 #[.agg #[vs, vp], .string d, .int .i64 a] w fun e w' => AOutIs w.heap.size e w' (putOut xs ps d a) ∧ Below w.heap.size w w' := by
  by_cases hz : 8000 < d.size
  · have h : putOut xs ps d a = aill 2 := by unfold putOut; rw [if_pos hz]
    rw [h]; exact implAPut_size vs vp xs ps d a w hr hp hd hz
  · cases hok : right xs ps with
    | false =>
      have h : putOut xs ps d a = aill 1 := by unfold putOut; rw [if_neg hz, if_pos hok]
      rw [h]; exact implAPut_ill vs vp xs ps d a aF aR aU w hn hn2 hr hp hS (by omega) hok
    | true => exact implAPut_rest vs vp xs ps d a aF aR aU w hn hn2 hr hp hS (by omega) hok (HRA hok)
end Go.Proofs.YtkmehbgepkilkaaGreatDoor

/- The program's readArea: what it tells of a right disk. -/
namespace Go.Proofs.YtkmehbgepkilkaaGreatDoor
open Go.RowKit

theorem gath_more {f : Nat → ByteArray} {size m : Nat} (h : size ≤ 64 * m) : ∀ d, gath f size (m + d) = gath f size m
  | 0 => rfl
  | d + 1 => by
    rw [show m + (d + 1) = (m + d) + 1 from rfl, gath, gath_more h d, show want size (m + d) = 0 by unfold want; omega]
    simp
theorem full_more {f : Nat → ByteArray} {size m : Nat} (h : size ≤ 64 * m) : ∀ d, full f size (m + d) = full f size m
  | 0 => rfl
  | d + 1 => by
    rw [show m + (d + 1) = (m + d) + 1 from rfl, full_step, full_more h d, show want size (m + d) = 0 by unfold want; omega]
    simp
theorem gath_congr {f g : Nat → ByteArray} {size : Nat} : ∀ m, (∀ j, j < m → f j = g j) → gath f size m = gath g size m
  | 0, _ => rfl
  | m + 1, h => by rw [gath, gath, gath_congr m (fun j hj => h j (by omega)), h m (by omega)]
theorem full_congr {f g : Nat → ByteArray} {size : Nat} : ∀ m, (∀ j, j < m → f j = g j) → full f size m = full g size m
  | 0, _ => rfl
  | m + 1, h => by rw [full_step, full_step, full_congr m (fun j hj => h j (by omega)), h m (by omega)]

/-- The sectors of a side, of which there are n. -/
def sideOf (xs : List ByteArray) (ps : List (Int × ByteArray)) (a n : Nat) : List ByteArray := ((applyP ps xs).drop a).take n
theorem sideOf_len (xs : List ByteArray) (ps : List (Int × ByteArray)) (a n : Nat) (h : a + n ≤ xs.length) : (sideOf xs ps a n).length = n := by
  unfold sideOf
  rw [List.length_take, List.length_drop, applyP_len]
  omega
theorem sideOf_at (xs : List ByteArray) (ps : List (Int × ByteArray)) (a n j : Nat) (h : a + n ≤ xs.length) (hj : j < n) (h0 : ∀ x ∈ ps, 0 ≤ x.1) : (sideOf xs ps a n).getD j ⟨#[]⟩ = secAt xs ps (a + j) := by
  unfold sideOf secAt
  rw [← applyP_at ps xs (a + j) (by omega) h0]
  simp [List.getD, hj, List.getElem?_drop]
theorem area_side {xs : List ByteArray} {ps : List (Int × ByteArray)} {gen side : Int} {size n : Nat} (hok : right xs ps = true) (hs : seen xs ps = (gen, side, (size : Int), 0)) (hn : (n : Int) = half xs.length) (hz : size ≤ 64 * n) (h1 : 1 + side.toNat * n + n ≤ xs.length) :
    areaOut xs ps = if full (fun j => (sideOf xs ps (1 + side.toNat * n) n).getD j ⟨#[]⟩) size n then ⟨xs, ps, gath (fun j => (sideOf xs ps (1 + side.toNat * n) n).getD j ⟨#[]⟩) size n, gen, 0⟩ else aill 5 := by
  have h0 : ∀ x ∈ ps, 0 ≤ x.1 := fun x hx => by obtain ⟨j, hj, rfl⟩ := List.getElem_of_mem hx; exact (right_at hok j hj).1
  have e : ∀ j, j < n → (sideOf xs ps (1 + side.toNat * n) n).getD j ⟨#[]⟩ = sideAt xs ps side j := fun j hj => by
    rw [sideOf_at xs ps _ n j h1 hj h0]
    unfold sideAt
    rw [← hn, Int.toNat_natCast]
  rw [full_congr n e, gath_congr n e]
  obtain ⟨d, hd⟩ : ∃ d, n = (size + 63) / 64 + d := ⟨n - (size + 63) / 64, by omega⟩
  have hm : size ≤ 64 * ((size + 63) / 64) := by omega
  unfold areaOut
  rw [hok, if_neg (by simp), hs]
  simp only [ne_eq, not_true_eq_false, if_false, Int.toNat_natCast]
  rw [hd, full_more hm d, gath_more hm d]
theorem side_reads {w : World} {B a n : Nat} {T : TypeId} {xs : List ByteArray} {ps : List (Int × ByteArray)} (h : Row w B T (bank (applyP ps xs))) (hl : xs.length ≤ 64) (ha : a + n ≤ xs.length) (hx : ∀ x ∈ applyP ps xs, x.size ≤ 1048576) :
    Reads w (.slice (some ⟨B, a, none⟩) n (64 - a)) (sideOf xs ps a n) := by
  have hsl := sideOf_len xs ps a n ha
  refine ⟨_, _, by rw [hsl], by rw [hsl]; omega, by unfold maxLen; omega, fun x hx' => ?_, fun _ => ⟨B, a, rfl, h.lt, fun i hi => ?_⟩⟩
  · have := hx x (List.mem_of_mem_drop (List.mem_of_mem_take hx')); unfold maxLen; omega
  · rw [hsl] at hi
    rw [h.cell, bank_at _ _ (by rw [applyP_len]; omega)]
    simp [sideOf]

set_option maxRecDepth 100000 in
set_option maxHeartbeats 4000000 in
theorem readArea_any (vs vp : Value) (xs : List ByteArray) (ps : List (Int × ByteArray)) (w : World) (hr : Reads w vs xs) (hp : ReadsP w vp ps) (hok : right xs ps = true) (hg : St3.Laid w) :
    Calls Tryz.prog 29 #[.agg #[vs, vp]] w fun e w' => AreaIs e xs ps ∧ Below w.heap.size w w' := by
  obtain ⟨l1, l2, l3⟩ := right_len hok
  have HOK := hide hok
  have HSM := hide (small_of_right hok)
  have HAT := hide (fun j hj => And.intro (right_at hok j hj).1 (right_at hok j hj).2.1)
  have hal : 0 < (applyP ps xs).length := by rw [applyP_len]; omega
  have HT0 := hide (show (applyP ps xs)[0]'hal = headText xs ps by
    have := applyP_at ps xs 0 (by omega) (fun x hx => by obtain ⟨j, hj, rfl⟩ := List.getElem_of_mem hx; exact (right_at hok j hj).1)
    unfold headText
    rw [show ((0 : Int)) = ((0 : Nat) : Int) from rfl, ← this]
    simp [List.getD, hal])
  have HAM := hide (applyP_mem ps xs _ HSM.out.2.1 HSM.out.2.2.2)
  have HBA := hide (bank_at (applyP ps xs) 0 hal)
  rw [HT0.out] at HBA
  have HSH := hide (seen_head xs ps)
  have hts := headText_size hok
  obtain ⟨s, hs⟩ : ∃ s, s = headText xs ps := ⟨_, rfl⟩
  rw [← hs] at HBA HSH hts
  have hbl := bank_len (ys := applyP ps xs) (by rw [applyP_len]; exact l2)
  obtain ⟨L, hL⟩ : ∃ L, L = bank (applyP ps xs) := ⟨_, rfl⟩
  have HL1 := hide (show ∀ v ∈ L, v.oneCell' = true by rw [hL]; exact bank_one _)
  have HLE := hide hL
  rw [← hL] at hbl HBA
  have hb0 : Below w.heap.size w ((w.alloc (.cells #[vs, vp] 26)).alloc (.cells #[.int .i64 0, .int .i64 0, .int .i64 0] 51)) :=
    ((Below.refl _ _).alloc (Nat.le_refl _) _).alloc (by simp) _
  have HR := hide (hr.below hb0 (Nat.le_refl _))
  have HP := hide (hp.below hb0 (Nat.le_refl _))
  have HRw := hide hr
  have HG := hide (Stab.go hb0 hg)
  have HB0 := hide hb0
  obtain ⟨p1, c1, rfl, hq⟩ := hr
  obtain ⟨p2, c2, rfl, hq2⟩ := hp
  have HN0 := hide ((row_new w [.slice p1 xs.length c1, .slice p2 ps.length c2] 26).alloc (.cells #[.int .i64 0, .int .i64 0, .int .i64 0] 51))
  have R1 := row_new (w.alloc (.cells #[.slice p1 xs.length c1, .slice p2 ps.length c2] 26)) [.int .i64 0, .int .i64 0, .int .i64 0] 51
  simp only [World.size_alloc] at R1
  have HR1 := hide R1
  clear hb0 hq hq2 R1 hg hok HT0 hL hs hal
  go_enter Tryz.func29, Tryz.ntmps29
  go_wp2_with fail
  refine (settle_any _ _ xs ps _ HR.out HP.out l1 l2 l3 HAT.out).mono ?_
  rw [← HLE.out]
  rintro e w2 ⟨rfl, hb2⟩
  have hst := new_store Tryz.prog w2 80 Tryz.zeroCells80 L (by rw [hbl, ← Array.length_toList, Tryz.zeroBank]; simp [strs_len]) HL1.out
  have hl2 := (Row.after hb2 HR1.out).lt
  have bn := below_new w2 (.cells L.toArray 80)
  have hb3 := hb2.trans (bn.mono hb2.size)
  have HB3 := hide (HB0.out.trans (hb3.mono HB0.out.size))
  have HX3 := hide (Row.after hb3 HR1.out)
  have HM3 := hide (Row.after hb3 HN0.out)
  have HG3 := hide (Stab.go hb3 HG.out)
  have HK3 := hide (row_new w2 L 80)
  have k0 : (w2.alloc (.cells L.toArray 80)).cell? ⟨w2.heap.size, 0, none⟩ = some (.string s) := by rw [HK3.out.cell 0]; exact HBA.out
  clear hb2 hb3 bn HB0 HR1 HN0 HG HR HP
  go_wp2_with fail
  refine (readHead_any s _ (by omega) HG3.out).mono ?_
  obtain ⟨r, Hr⟩ : ∃ r, Hid (r = headSeen s) := ⟨_, rfl⟩
  rw [← Hr.out] at HSH ⊢
  obtain ⟨gen, side, size, code⟩ := r
  rintro e w3 ⟨hH, hb3⟩
  have HB4 := hide (HB3.out.trans (hb3.mono HB3.out.size))
  have HX4 := hide (Row.after hb3 HX3.out)
  have HM4 := hide (Row.after hb3 HM3.out)
  have HK4 := hide (Row.after hb3 HK3.out)
  clear hb3 k0 HX3 HM3 HK3 HG3
  unfold HeadIs at hH
  simp only at hH
  rcases hH with ⟨hc, rfl⟩ | ⟨hc, rfl⟩
  · subst hc
    obtain ⟨W, hW⟩ : ∃ W, W = w3.alloc (.cells #[.int .i64 gen, .int .i64 side, .int .i64 size] 51) := ⟨_, rfl⟩
    have HBW := hide (show Below w.heap.size w W by rw [hW]; exact HB4.out.alloc HB4.out.size _)
    have HXW := hide (show Row W (w.heap.size + 1) 51 [.int .i64 0, .int .i64 0, .int .i64 0] by rw [hW]; exact HX4.out.alloc _)
    have HMW := hide (show Row W w.heap.size 26 [.slice p1 xs.length c1, .slice p2 ps.length c2] by rw [hW]; exact HM4.out.alloc _)
    have HKW := hide (show Row W w2.heap.size 80 L by rw [hW]; exact HK4.out.alloc _)
    have HHW := hide (show Row W w3.heap.size 51 [.int .i64 gen, .int .i64 side, .int .i64 size] by rw [hW]; exact row_new w3 _ _)
    have HX4' := hide HX4.out
    clear HX4 HM4 HK4 HB4
    have hl3 := HX4'.out.lt
    have HSS := hide (show ∀ x', Kept [w.heap.size + 1] W x' → x'.cell? ⟨w.heap.size, 0, none⟩ = some (.slice p1 xs.length c1) ∧ x'.cell? ⟨w.heap.size, 1, none⟩ = some (.slice p2 ps.length c2) ∧ x'.cell? ⟨w3.heap.size, 0, none⟩ = some (.int .i64 gen) ∧ x'.cell? ⟨w3.heap.size, 1, none⟩ = some (.int .i64 side) ∧ x'.cell? ⟨w3.heap.size, 2, none⟩ = some (.int .i64 size) ∧ Kept [w.heap.size + 1] W x' from
      fun x' h => ⟨(h.row HMW.out (by simp)).cell 0, (h.row HMW.out (by simp)).cell 1, (h.row HHW.out (by simp; omega)).cell 0, (h.row HHW.out (by simp; omega)).cell 1, (h.row HHW.out (by simp; omega)).cell 2, h⟩)
    have HRd := hide (HRw.out.below HBW.out.drew (Nat.le_refl _))
    go_wp2_with fail
    rw [← hW]
    clear hW
    refine wp_region_held (S := fun x' : World => x'.cell? ⟨w.heap.size, 0, none⟩ = some (.slice p1 xs.length c1) ∧ x'.cell? ⟨w.heap.size, 1, none⟩ = some (.slice p2 ps.length c2) ∧ x'.cell? ⟨w3.heap.size, 0, none⟩ = some (.int .i64 gen) ∧ x'.cell? ⟨w3.heap.size, 1, none⟩ = some (.int .i64 side) ∧ x'.cell? ⟨w3.heap.size, 2, none⟩ = some (.int .i64 size) ∧ Kept [w.heap.size + 1] W x') (by kernel_rfl) ?_
    have HS := hide (HSS.out { W with drawn := W.drawn + 1 } ((Kept.refl _ _).drew))
    refine wpAnyH_take (i := 0) (oi := _) (v := .pointer (some ⟨w3.heap.size, 2, none⟩)) rfl (by kernel_rfl) (by kernel_rfl) (by kernel_rfl) (fun _ _ _ h => h) (Or.inl ⟨by rfl, by intro w hSw; go_split_ands; go_simp <;> omega⟩) HS.out ?_
    simp only [Act.put, List.getElem_toArray, List.getElem_cons_zero, List.setIfInBounds_toArray, List.set_cons_zero, List.set_cons_succ]
    refine wpAnyH_take (i := 1) (oi := _) (v := .int .i64 size) rfl (by kernel_rfl) (by kernel_rfl) (by kernel_rfl) (fun _ _ _ h => h) (Or.inl ⟨by rfl, by intro w hSw; go_split_ands; go_simp <;> omega⟩) HS.out ?_
    simp only [Act.put, List.getElem_toArray, List.getElem_cons_zero, List.getElem_cons_succ, List.setIfInBounds_toArray, List.set_cons_zero, List.set_cons_succ]
    refine wpAnyH_take (i := 2) (oi := _) (v := .agg #[.slice p1 xs.length c1, .slice p2 ps.length c2]) rfl (by kernel_rfl) (by kernel_rfl) (by kernel_rfl) (fun _ _ _ h => h) (Or.inl ⟨by rfl, by intro w hSw; go_split_ands; go_simp <;> omega⟩) HS.out ?_
    simp only [Act.put, List.getElem_toArray, List.getElem_cons_zero, List.getElem_cons_succ, List.setIfInBounds_toArray, List.set_cons_zero, List.set_cons_succ]
    refine wpAnyH_ready (rs := [3]) (by kernel_rfl) (by simp) ?_
    refine AllReadyH.cons (o := _) rfl (fun K hK => ?_) AllReadyH.nil
    go_simp
    refine (sideRoom_any _ _ xs _ l1 (by omega) HRd.out).mono ?_
    rintro e w5 ⟨rfl, hb5⟩
    have hK5 : Kept [w.heap.size + 1] W w5 := (Kept.ofBelow (below_drew hb5)).mono (by simp)
    have HB5 := hide (below_drew hb5)
    clear hb5
    refine hK.out _ _ (HSS.out _ hK5) (fun _ => ?_)
    clear hK K HS
    have HS := hide (HSS.out _ hK5)
    by_cases hroom : 64 * half xs.length < size
    · have hrd : decide (64 * half xs.length < size) = true := decide_eq_true hroom
      have HA := hide (show areaOut xs ps = aill 3 by
        have e1 : seen xs ps = (0, 0, 0, 3) := by rw [HSH.out]; simp only [ne_eq, not_true_eq_false, if_false]; rw [if_neg (by omega)]
        unfold areaOut
        rw [HOK.out, if_neg (by simp), e1, if_pos (by simp)])
      refine wpAnyH_take (i := 4) (oi := _) (v := .bool true) rfl (by kernel_rfl) (by kernel_rfl) (by kernel_rfl) (fun _ _ _ h => h) (Or.inl ⟨by rfl, by intro w hSw; go_split_ands; go_simp <;> omega⟩) HS.out ?_
      simp only [Act.put, List.getElem_toArray, List.getElem_cons_zero, List.getElem_cons_succ, List.setIfInBounds_toArray, List.set_cons_zero, List.set_cons_succ]
      refine wpAnyH_ready (rs := [5]) (by kernel_rfl) (by simp) ?_
      refine AllReadyH.cons (o := _) rfl (fun K hK => ?_) AllReadyH.nil
      go_simp
      refine (refuse_yes 3 _).mono ?_
      rintro e w6 ⟨rfl, rfl⟩
      exact ⟨rfl, .inr (by rw [HA.out]; exact ⟨by decide, rfl⟩), HBW.out.trans (HB5.out.mono HBW.out.size)⟩
    · have hrd : decide (64 * half xs.length < size) = false := decide_eq_false hroom
      refine wpAnyH_take (i := 4) (oi := _) (v := .bool false) rfl (by kernel_rfl) (by kernel_rfl) (by kernel_rfl) (fun _ _ _ h => h) (Or.inl ⟨by rfl, by intro w hSw; go_split_ands; go_simp <;> omega⟩) HS.out ?_
      simp only [Act.put, List.getElem_toArray, List.getElem_cons_zero, List.getElem_cons_succ, List.setIfInBounds_toArray, List.set_cons_zero, List.set_cons_succ]
      refine wpAnyH_ready (rs := [5]) (by kernel_rfl) (by simp) ?_
      refine AllReadyH.cons (o := _) rfl (fun K hK => ?_) AllReadyH.nil
      go_simp
      refine (refuse_no 3 _).mono ?_
      rintro e w6 ⟨rfl, rfl⟩
      refine hK.out _ _ (HSS.out _ hK5) (fun _ => ?_)
      clear hK K HS hrd
      refine wpAnyH_done (by kernel_rfl) ?_ _
      have HE0 := hide (show seen xs ps = (gen, side, size, 0) by rw [HSH.out]; simp only [ne_eq, not_true_eq_false, if_false]; rw [if_pos (by omega)])
      have hsk := seen_ok (xs := xs) (ps := ps) (by rw [HE0.out])
      rw [HE0.out] at hsk
      obtain ⟨hg0, ⟨hs0, hs1⟩, hz0, hz1⟩ := hsk
      simp only at hg0 hs0 hs1 hz0 hz1
      obtain ⟨sz, rfl⟩ := Int.eq_ofNat_of_zero_le hz0
      have hh : 0 ≤ half xs.length ∧ 2 * half xs.length ≤ (xs.length : Int) - 1 := by unfold half; omega
      obtain ⟨n, hn⟩ := Int.eq_ofNat_of_zero_le hh.1
      have HSI := hide (And.intro hs0 hs1)
      obtain ⟨a, ha⟩ : ∃ a, a = 1 + side.toNat * n := ⟨_, rfl⟩
      have hsx : a + n ≤ 1 + 2 * n ∧ 1 + side * half xs.length = (a : Int) := by
        rw [hn, ha]
        rcases (show side = 0 ∨ side = 1 by omega) with rfl | rfl
        · simp
          omega
        · simp
          omega
      have hsz : sz ≤ 64 * n ∧ n ≤ 32 := by omega
      have hal : a + n ≤ xs.length := by omega
      have HAR := hide (area_side (n := n) HOK.out HE0.out hn.symm (by omega) (by rw [← ha]; omega))
      rw [← ha] at HAR
      have HST := hide hsx.2
      have HHN := hide hn
      have HKS := hide (show ∀ x', Kept [w.heap.size + 1] W x' → Row x' w2.heap.size 80 (bank (applyP ps xs)) from fun x' h => by rw [← HLE.out]; exact h.row HKW.out (by simp; omega))
      have HSL := hide (sideOf_len xs ps a n hal)
      have hw6 : IntKind.i64.wrap ((a : Int) + (n : Int)) = (a : Int) + (n : Int) := by rw [IntKind.wrap_i64]; omega
      have g0 : w6.cell? ⟨w.heap.size, 0, none⟩ = some (.slice p1 xs.length c1) := (HSS.out _ hK5).1
      have g1 : w6.cell? ⟨w.heap.size, 1, none⟩ = some (.slice p2 ps.length c2) := (HSS.out _ hK5).2.1
      have g2 : w6.cell? ⟨w3.heap.size, 1, none⟩ = some (.int .i64 side) := (HSS.out _ hK5).2.2.2.1
      have ha0 : (0 : Int) ≤ (a : Int) := by omega
      have ha1 : (a : Int) ≤ (a : Int) + (n : Int) := by omega
      have ha2 : (a : Int) + (n : Int) ≤ 64 := by omega
      have ha3 : ((a : Int) + (n : Int)).toNat = a + n := by omega
      have ha5 : a ≤ 33 := by omega
      have ha4 : ((a : Int) + (n : Int)).toNat - a = n := by omega
      clear hh hz0 hz1 hs0 hs1 hn hsx ha hroom
      go_wp2_with fail
      refine (sideStart_any _ _ xs side _ l1 (by omega) HSI.out (HRw.out.below (HBW.out.trans (HB5.out.mono HBW.out.size)) (Nat.le_refl _)) ⟨_, _, _, rfl⟩).mono ?_
      rw [HST.out]
      rintro e w7 ⟨rfl, hb7⟩
      have hK7 : Kept [w.heap.size + 1] W w7 := hK5.below hb7
      have HB7 := hide (hK7.toBelow HBW.out HBW.out.size (by simp))
      have HX7 := hide (Row.after hb7 (Row.after HB5.out HXW.out))
      clear hb7 g0 g1 g2
      go_wp2_with fail
      refine wp_region_held (S := fun x' : World => x'.cell? ⟨w.heap.size, 0, none⟩ = some (.slice p1 xs.length c1) ∧ x'.cell? ⟨w.heap.size, 1, none⟩ = some (.slice p2 ps.length c2) ∧ x'.cell? ⟨w3.heap.size, 0, none⟩ = some (.int .i64 gen) ∧ x'.cell? ⟨w3.heap.size, 1, none⟩ = some (.int .i64 side) ∧ x'.cell? ⟨w3.heap.size, 2, none⟩ = some (.int .i64 (sz : Int)) ∧ Kept [w.heap.size + 1] W x') (by kernel_rfl) ?_
      have HS := hide (HSS.out { w7 with drawn := w7.drawn + 1 } hK7.drew)
      refine wpAnyH_take (i := 0) (oi := _) (v := .agg #[.int .i64 gen, .int .i64 side, .int .i64 (sz : Int)]) rfl (by kernel_rfl) (by kernel_rfl) (by kernel_rfl) (fun _ _ _ h => h) (Or.inl ⟨by rfl, by intro w hSw; go_split_ands; go_simp <;> omega⟩) HS.out ?_
      simp only [Act.put, List.getElem_toArray, List.getElem_cons_zero, List.setIfInBounds_toArray, List.set_cons_zero, List.set_cons_succ]
      refine wpAnyH_take (i := 1) (oi := _) (v := .pointer (some ⟨w2.heap.size, 0, none⟩)) rfl (by kernel_rfl) (by kernel_rfl) (by kernel_rfl) (fun _ _ _ h => h) (Or.inl ⟨by rfl, by intro w hSw; go_split_ands; go_simp <;> omega⟩) HS.out ?_
      simp only [Act.put, List.getElem_toArray, List.getElem_cons_zero, List.getElem_cons_succ, List.setIfInBounds_toArray, List.set_cons_zero, List.set_cons_succ]
      refine wpAnyH_take (i := 2) (oi := _) (v := .int .i64 (a : Int)) rfl (by kernel_rfl) (by kernel_rfl) (by kernel_rfl) (fun _ _ _ h => h) (Or.inl ⟨by rfl, by intro w hSw; go_split_ands; go_simp <;> omega⟩) HS.out ?_
      simp only [Act.put, List.getElem_toArray, List.getElem_cons_zero, List.getElem_cons_succ, List.setIfInBounds_toArray, List.set_cons_zero, List.set_cons_succ]
      refine wpAnyH_take (i := 3) (oi := _) (v := .int .i64 (a : Int)) rfl (by kernel_rfl) (by kernel_rfl) (by kernel_rfl) (fun _ _ _ h => h) (Or.inl ⟨by rfl, by intro w hSw; go_split_ands; go_simp <;> omega⟩) HS.out ?_
      simp only [Act.put, List.getElem_toArray, List.getElem_cons_zero, List.getElem_cons_succ, List.setIfInBounds_toArray, List.set_cons_zero, List.set_cons_succ]
      refine wpAnyH_take (i := 4) (oi := _) (v := .agg #[.slice p1 xs.length c1, .slice p2 ps.length c2]) rfl (by kernel_rfl) (by kernel_rfl) (by kernel_rfl) (fun _ _ _ h => h) (Or.inl ⟨by rfl, by intro w hSw; go_split_ands; go_simp <;> omega⟩) HS.out ?_
      simp only [Act.put, List.getElem_toArray, List.getElem_cons_zero, List.getElem_cons_succ, List.setIfInBounds_toArray, List.set_cons_zero, List.set_cons_succ]
      refine wpAnyH_take (i := 8) (oi := _) (v := .pointer (some ⟨w3.heap.size, 2, none⟩)) rfl (by kernel_rfl) (by kernel_rfl) (by kernel_rfl) (fun _ _ _ h => h) (Or.inl ⟨by rfl, by intro w hSw; go_split_ands; go_simp <;> omega⟩) HS.out ?_
      simp only [Act.put, List.getElem_toArray, List.getElem_cons_zero, List.getElem_cons_succ, List.setIfInBounds_toArray, List.set_cons_zero, List.set_cons_succ]
      refine wpAnyH_take (i := 9) (oi := _) (v := .int .i64 (sz : Int)) rfl (by kernel_rfl) (by kernel_rfl) (by kernel_rfl) (fun _ _ _ h => h) (Or.inl ⟨by rfl, by intro w hSw; go_split_ands; go_simp <;> omega⟩) HS.out ?_
      simp only [Act.put, List.getElem_toArray, List.getElem_cons_zero, List.getElem_cons_succ, List.setIfInBounds_toArray, List.set_cons_zero, List.set_cons_succ]
      refine wpAnyH_ready (rs := [5]) (by kernel_rfl) (by simp) ?_
      refine AllReadyH.cons (o := _) rfl (fun K hK => ?_) AllReadyH.nil
      go_simp
      refine (sideSectors_any _ _ xs _ l1 (by omega) (HRw.out.below HB7.out.drew (Nat.le_refl _))).mono ?_
      rw [HHN.out]
      rintro e w8 ⟨rfl, hb8⟩
      have hK8 : Kept [w.heap.size + 1] W w8 := hK7.trans ((Kept.ofBelow (below_drew hb8)).mono (by simp))
      have HB8 := hide (hK8.toBelow HBW.out HBW.out.size (by simp))
      have HX8 := hide (Row.after hb8 HX7.out.drew)
      clear hb8
      refine hK.out _ _ (HSS.out _ hK8) (fun _ => ?_)
      clear hK K HS
      have HS := hide (HSS.out _ hK8)
      refine wpAnyH_take (i := 6) (oi := _) (v := .int .i64 ((a : Int) + (n : Int))) rfl (by kernel_rfl) (by kernel_rfl) (by kernel_rfl) (fun _ _ _ h => h) (Or.inl ⟨by rfl, by intro w hSw; go_split_ands; go_simp <;> omega⟩) HS.out ?_
      simp only [Act.put, List.getElem_toArray, List.getElem_cons_zero, List.getElem_cons_succ, List.setIfInBounds_toArray, List.set_cons_zero, List.set_cons_succ]
      refine wpAnyH_take (i := 7) (oi := _) (v := .slice (some ⟨w2.heap.size, a, none⟩) n (64 - a)) rfl (by kernel_rfl) (by kernel_rfl) (by kernel_rfl) (fun _ _ _ h => h) (Or.inl ⟨by rfl, by intro w hSw; go_split_ands; go_simp <;> omega⟩) HS.out ?_
      simp only [Act.put, List.getElem_toArray, List.getElem_cons_zero, List.getElem_cons_succ, List.setIfInBounds_toArray, List.set_cons_zero, List.set_cons_succ]
      refine wpAnyH_ready (rs := [10]) (by kernel_rfl) (by simp) ?_
      refine AllReadyH.cons (o := _) rfl (fun K hK => ?_) AllReadyH.nil
      go_simp
      refine (readSide_any _ (sideOf xs ps a n) sz _ (side_reads (HKS.out _ hK8) (by omega) hal HAM.out) (by rw [HSL.out]; omega) (by omega)).mono ?_
      rw [HSL.out]
      rintro e w9 ⟨hF, hb9⟩
      rcases hF with ⟨hf, rfl⟩ | ⟨hf, rfl⟩
      · have HA := hide HAR.out
        rw [hf, if_pos rfl] at HA
        obtain ⟨t, ht⟩ : ∃ t, t = gath (fun j => (sideOf xs ps a n).getD j ⟨#[]⟩) sz n := ⟨_, rfl⟩
        rw [← ht] at HA ⊢
        have hK9 : Kept [w.heap.size + 1] W w9 := hK8.below hb9
        have HB9 := hide (HB8.out.trans (hb9.mono HB8.out.size))
        have r9 : Row w9 (w.heap.size + 1) 51 [.int .i64 0, .int .i64 0, .int .i64 0] := Row.after hb9 HX8.out
        have d0 : w9.cell? ⟨w.heap.size + 1, 0, none⟩ = some (.int .i64 0) := r9.cell 0
        have d1 : w9.cell? ⟨w.heap.size + 1, 1, none⟩ = some (.int .i64 0) := r9.cell 1
        have d2 : w9.cell? ⟨w.heap.size + 1, 2, none⟩ = some (.int .i64 0) := r9.cell 2
        have f0 := r9.free 0
        have f1 := r9.free 1
        have f2 := r9.free 2
        have HR9 := hide r9
        obtain ⟨q0, q1, q2, KF⟩ := three' r9 (.int .i64 gen) (.int .i64 side) (.int .i64 (sz : Int))
        have HKF := hide KF
        have HQ := hide (And.intro q0 (And.intro q1 q2))
        clear hb9 r9 ht hf q0 q1 q2 KF
        refine hK.out _ _ (HSS.out _ hK9) (fun _ => ?_)
        clear hK K HS
        refine wpAnyH_ready (rs := [11]) (by kernel_rfl) (by simp) ?_
        refine AllReadyH.cons (o := _) rfl (fun K hK => ?_) AllReadyH.nil
        go_simp
        refine hK.out _ _ (HSS.out _ (hK9.trans HKF.out)) (fun _ => ?_)
        clear hK K d0 d1 d2 f0 f1 f2
        have HS := hide (HSS.out _ (hK9.trans HKF.out))
        refine wpAnyH_take (i := 12) (oi := _) (v := .string t) rfl (by kernel_rfl) (by kernel_rfl) (by kernel_rfl) (fun _ _ _ h => h) (Or.inl ⟨by rfl, by intro w hSw; go_split_ands; go_simp <;> omega⟩) HS.out ?_
        simp only [Act.put, List.getElem_toArray, List.getElem_cons_zero, List.getElem_cons_succ, List.setIfInBounds_toArray, List.set_cons_zero, List.set_cons_succ]
        refine wpAnyH_done (by kernel_rfl) ?_ _
        have q0 := HQ.out.1
        have q1 := HQ.out.2.1
        have q2 := HQ.out.2.2
        go_wp2
        exact bodyPost_ret (v := .tuple #[.agg #[.int .i64 gen, .int .i64 side, .int .i64 (sz : Int)], .string t]) (by simp [results, Tryz.results29, go_sem, q0, q1, q2]) rfl
          ⟨.inl (by rw [HA.out, HE0.out]; exact ⟨rfl, rfl⟩), HKF.out.toBelow HB9.out HB9.out.size (by simp)⟩
      · have HA := hide HAR.out
        rw [hf] at HA
        simp only [Bool.false_eq_true, if_false] at HA
        exact ⟨rfl, .inr (by rw [HA.out]; exact ⟨by decide, rfl⟩), HB8.out.trans (hb9.mono HB8.out.size)⟩
  · have HA := hide (show areaOut xs ps = aill code by
      have e1 : seen xs ps = (0, 0, 0, code) := by rw [HSH.out]; exact if_pos hc
      unfold areaOut
      rw [HOK.out, if_neg (by simp), e1, if_pos hc])
    go_wp2
    exact ⟨rfl, .inr (by rw [HA.out]; exact ⟨hc, rfl⟩), HB4.out⟩
end Go.Proofs.YtkmehbgepkilkaaGreatDoor
