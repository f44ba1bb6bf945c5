/- Answers that hold a File: what makes them, what compares and marks them. -/
import Derived.Test.YtholbhjfmfanbaaGreatXG26BAllOf
import Derived.Deep.DeepCutAuto
import Derived.Deep.RegionHeld3
import Derived.OrdersHeld
namespace Go.Proofs.YtholbhjfmfanbaaGreat
open Go.RowKit
theorem fourF {w : World} {G : Nat} {T : TypeId} {a b c d : Value} (R : Row w G T [a, b, c, d]) (A B C D : Value) :
    ((((w.setCell ⟨G, 0, none⟩ A).setCell ⟨G, 1, none⟩ B).setCell ⟨G, 2, none⟩ C).setCell ⟨G, 3, none⟩ D).cell? ⟨G, 0, none⟩ = some A ∧
    ((((w.setCell ⟨G, 0, none⟩ A).setCell ⟨G, 1, none⟩ B).setCell ⟨G, 2, none⟩ C).setCell ⟨G, 3, none⟩ D).cell? ⟨G, 1, none⟩ = some B ∧
    ((((w.setCell ⟨G, 0, none⟩ A).setCell ⟨G, 1, none⟩ B).setCell ⟨G, 2, none⟩ C).setCell ⟨G, 3, none⟩ D).cell? ⟨G, 2, none⟩ = some C ∧
    ((((w.setCell ⟨G, 0, none⟩ A).setCell ⟨G, 1, none⟩ B).setCell ⟨G, 2, none⟩ C).setCell ⟨G, 3, none⟩ D).cell? ⟨G, 3, none⟩ = some D ∧
    (∀ (w0 : World) (base : Nat), base ≤ G → Below base w0 w → Below base w0 ((((w.setCell ⟨G, 0, none⟩ A).setCell ⟨G, 1, none⟩ B).setCell ⟨G, 2, none⟩ C).setCell ⟨G, 3, none⟩ D)) ∧
    (∀ lo hi : Nat, (G < lo ∨ hi ≤ G) → SameIn lo hi w ((((w.setCell ⟨G, 0, none⟩ A).setCell ⟨G, 1, none⟩ B).setCell ⟨G, 2, none⟩ C).setCell ⟨G, 3, none⟩ D)) ∧
    ((((w.setCell ⟨G, 0, none⟩ A).setCell ⟨G, 1, none⟩ B).setCell ⟨G, 2, none⟩ C).setCell ⟨G, 3, none⟩ D).heap.size = w.heap.size := by
  have R4 := (((R.set (j := 0) A).set (j := 1) B).set (j := 2) C).set (j := 3) D
  refine ⟨R4.cell 0, R4.cell 1, R4.cell 2, R4.cell 3, fun w0 base hb h => (((h.setCell (p := ⟨G, 0, none⟩) hb A).setCell (p := ⟨G, 1, none⟩) hb B).setCell (p := ⟨G, 2, none⟩) hb C).setCell (p := ⟨G, 3, none⟩) hb D, fun lo hi h k h1 h2 _ => ?_, by simp [World.setCell]⟩
  have hk : k ≠ G := by omega
  rw [Below.heap_setCell _ ⟨G, 3, none⟩ D k hk, Below.heap_setCell _ ⟨G, 2, none⟩ C k hk, Below.heap_setCell _ ⟨G, 1, none⟩ B k hk, Below.heap_setCell _ ⟨G, 0, none⟩ A k hk]
/-- A File that is told, or a code. -/
abbrev FOut := Int × ByteArray × List Bat
def foV (R : FOut) (u : Value) : Value := .agg #[.string R.2.1, u, .int .i64 0, .int .i64 R.1]
theorem obats_nil (lo hi : Nat) (w : World) (p : Option Addr) : OBats lo hi w (.slice p 0 0) [] := ⟨p, 0, rfl, Nat.le_refl _, Nat.zero_le _, fun h => absurd h (Nat.lt_irrefl 0)⟩
theorem rbats_nil (B : Nat) (w : World) (p : Option Addr) : RBats B w (.slice p 0 0) [] := ⟨p, 0, rfl, Nat.le_refl _, Nat.zero_le _, fun h => absurd h (Nat.lt_irrefl 0)⟩
set_option maxHeartbeats 1000000 in
theorem fileTold_any (n : ByteArray) (p : Option Addr) (l c : Nat) (w : World) (hnb : n.size ≤ 281474976710656) :
    Calls Tryz.prog 53 #[.string n, .slice p l c] w fun e w' => e = .returned (.agg #[.string n, .slice p l c, .int .i64 0, .int .i64 0]) ∧ Below w.heap.size w w' := by
  have HB0 := hide ((Below.refl w.heap.size w).alloc (Nat.le_refl _) (.cells #[.string ⟨#[]⟩, .slice none 0 0, .int .i64 0, .int .i64 0] 40))
  have HRow0 := hide (row_new w [.string ⟨#[]⟩, .slice none 0 0, .int .i64 0, .int .i64 0] 40)
  go_enter Tryz.func53, Tryz.ntmps53
  go_wp2_with fail
  refine (clone_any n _ hnb).mono ?_
  rintro e w1 ⟨rfl, hb1⟩
  have HB1 := hide (HB0.out.trans (hb1.mono HB0.out.size))
  have R1 := HRow0.out.below hb1 HRow0.out.lt
  have c0 : w1.cell? ⟨w.heap.size, 0, none⟩ = some (.string ⟨#[]⟩) := R1.cell 0
  have c1 : w1.cell? ⟨w.heap.size, 1, none⟩ = some (.slice none 0 0) := R1.cell 1
  have c2 : w1.cell? ⟨w.heap.size, 2, none⟩ = some (.int .i64 0) := R1.cell 2
  have c3 : w1.cell? ⟨w.heap.size, 3, none⟩ = some (.int .i64 0) := R1.cell 3
  have f0 := R1.free 0
  have f1 := R1.free 1
  have f2 := R1.free 2
  have f3 := R1.free 3
  have HR1 := hide R1
  clear hb1 R1
  go_wp2
  obtain ⟨q0, q1, q2, q3, KF, _, _⟩ := fourF HR1.out (.string n) (.slice p l c) (.int .i64 0) (.int .i64 0)
  exact bodyPost_ret (v := .agg #[.string n, .slice p l c, .int .i64 0, .int .i64 0]) (by simp [results, Tryz.results53, go_sem, q0, q1, q2, q3]) rfl ⟨rfl, KF w w.heap.size (Nat.le_refl _) HB1.out⟩
set_option maxHeartbeats 1000000 in
theorem freshBatch_any (n : ByteArray) (v : Value) (xs : List Msg) (w : World) (hnb : n.size ≤ 281474976710656) (hn : wMsgs xs ≤ 1048576) (hr : RMsgs 0 w v xs) :
    Calls Tryz.prog 52 #[.string n, v] w fun e w' => ∃ p c, e = .returned (.agg #[.string n, .slice p xs.length c]) ∧ OMsgs (w.heap.size + 1) w'.heap.size w' (.slice p xs.length c) xs ∧ Below w.heap.size w w' := by
  obtain ⟨p, c, rfl⟩ := hr.isSlice
  have HR := hide hr
  have HB0 := hide ((Below.refl w.heap.size w).alloc (Nat.le_refl _) (.cells #[.string ⟨#[]⟩, .slice none 0 0] 49))
  have HRow0 := hide (row_new w [.string ⟨#[]⟩, .slice none 0 0] 49)
  have HSZ := hide (show w.heap.size + 1 ≤ (w.alloc (.cells #[.string ⟨#[]⟩, .slice none 0 0] 49)).heap.size by simp)
  clear hr
  go_enter Tryz.func52, Tryz.ntmps52
  go_wp2_with fail
  refine (clone_any n _ hnb).mono ?_
  rintro e w1 ⟨rfl, hb1⟩
  have HB1 := hide (HB0.out.trans (hb1.mono HB0.out.size))
  have HRow1 := hide (HRow0.out.below hb1 HRow0.out.lt)
  have HSZ1 := hide (Nat.le_trans HSZ.out hb1.size)
  clear hb1
  go_wp2_with fail
  refine (copyEachMessage_any _ xs _ hn (HR.out.below HB1.out)).mono ?_
  rintro e w2 ⟨p2, c2, rfl, ho2, hb2⟩
  have HB2 := hide (HB1.out.trans (hb2.mono HB1.out.size))
  have R2 := HRow1.out.below hb2 HRow1.out.lt
  have g0 : w2.cell? ⟨w.heap.size, 0, none⟩ = some (.string ⟨#[]⟩) := R2.cell 0
  have g1 : w2.cell? ⟨w.heap.size, 1, none⟩ = some (.slice none 0 0) := R2.cell 1
  have z0 := R2.free 0
  have z1 := R2.free 1
  have t2 := (R2.set (j := 0) (.string n)).set (j := 1) (.slice p2 xs.length c2)
  have q0 : ((w2.setCell ⟨w.heap.size, 0, none⟩ (.string n)).setCell ⟨w.heap.size, 1, none⟩ (.slice p2 xs.length c2)).cell? ⟨w.heap.size, 0, none⟩ = some (.string n) := t2.cell 0
  have q1 : ((w2.setCell ⟨w.heap.size, 0, none⟩ (.string n)).setCell ⟨w.heap.size, 1, none⟩ (.slice p2 xs.length c2)).cell? ⟨w.heap.size, 1, none⟩ = some (.slice p2 xs.length c2) := t2.cell 1
  have HBE := hide ((HB2.out.setCell (p := ⟨w.heap.size, 0, none⟩) (Nat.le_refl _) (.string n)).setCell (p := ⟨w.heap.size, 1, none⟩) (Nat.le_refl _) (.slice p2 xs.length c2))
  have es : ((w2.setCell ⟨w.heap.size, 0, none⟩ (.string n)).setCell ⟨w.heap.size, 1, none⟩ (.slice p2 xs.length c2)).heap.size = w2.heap.size := by simp [World.setCell]
  have HOE : Hid (OMsgs (w.heap.size + 1) ((w2.setCell ⟨w.heap.size, 0, none⟩ (.string n)).setCell ⟨w.heap.size, 1, none⟩ (.slice p2 xs.length c2)).heap.size ((w2.setCell ⟨w.heap.size, 0, none⟩ (.string n)).setCell ⟨w.heap.size, 1, none⟩ (.slice p2 xs.length c2)) (.slice p2 xs.length c2) xs) := hide (by
    rw [es]
    have hs := HSZ1.out
    exact OMsgs.wide ((ho2.keep (SameIn.set w2 (g := w.heap.size) (j := 0) (.string n) (by omega))).keep (SameIn.set _ _ (by omega))) (by omega : w.heap.size + 1 ≤ w1.heap.size) (Nat.le_refl _))
  clear hb2 R2 ho2 t2 es
  go_wp2
  exact bodyPost_ret (v := .agg #[.string n, .slice p2 xs.length c2]) (by simp [results, Tryz.results52, go_sem, q0, q1]) rfl ⟨_, _, rfl, HOE.out, HBE.out⟩
theorem l08Ill_any (c : Int) (w : World) :
    Calls Tryz.prog 47 #[.int .i64 c] w fun e w' => e = .returned (.agg #[.string ⟨#[]⟩, .slice none 0 0, .int .i64 0, .int .i64 c]) ∧ Below w.heap.size w w' := by
  go_enter Tryz.func47, Tryz.ntmps47
  go_wp2
  exact bodyPost_ret (v := .agg #[.string ⟨#[]⟩, .slice none 0 0, .int .i64 0, .int .i64 c]) (by simp [results, Tryz.results47, go_sem]) rfl ⟨rfl, (Below.refl _ _).alloc (Nat.le_refl _) _⟩
set_option maxHeartbeats 1000000 in
theorem eqFileOut_same (R : FOut) (u u' : Value) (B B' : Nat) (w : World) (hn : wBats R.2.2 ≤ 1048576) (hr : RBats B w u R.2.2) (hr' : RBats B' w u' R.2.2) :
    Calls Tryz.prog 23 #[foV R u, foV R u'] w fun e w' => e = .returned (.bool true) ∧ Below w.heap.size w w' := by
  obtain ⟨code, n, x⟩ := R
  dsimp only [foV] at *
  have HR := hide hr
  have HR' := hide hr'
  obtain ⟨p, c, rfl⟩ := hr.isSlice
  obtain ⟨p', c', rfl⟩ := hr'.isSlice
  clear hr hr'
  have HB0 := hide (((Below.refl w.heap.size w).alloc (Nat.le_refl _) (.cells #[.string n, .slice p x.length c, .int .i64 0, .int .i64 code] 40)).alloc (by simp) (.cells #[.string n, .slice p' x.length c', .int .i64 0, .int .i64 code] 40))
  have HRa := hide ((row_new w [.string n, .slice p x.length c, .int .i64 0, .int .i64 code] 40).alloc (.cells #[.string n, .slice p' x.length c', .int .i64 0, .int .i64 code] 40))
  have HRb : Hid (Row ((w.alloc (.cells #[.string n, .slice p x.length c, .int .i64 0, .int .i64 code] 40)).alloc (.cells #[.string n, .slice p' x.length c', .int .i64 0, .int .i64 code] 40)) (w.heap.size + 1) 40 [.string n, .slice p' x.length c', .int .i64 0, .int .i64 code]) := hide (by
    have := row_new (w.alloc (.cells #[.string n, .slice p x.length c, .int .i64 0, .int .i64 code] 40)) [.string n, .slice p' x.length c', .int .i64 0, .int .i64 code] 40
    simpa using this)
  go_enter Tryz.func23, Tryz.ntmps23
  go_wp2_with fail
  refine (eqFile_same n _ _ x B B' _ hn (HR.out.below HB0.out) (HR'.out.below HB0.out)).mono ?_
  rintro e w1 ⟨rfl, hb1⟩
  have Ra := HRa.out.below hb1 HRa.out.lt
  have Rb := HRb.out.below hb1 HRb.out.lt
  have a2 : w1.cell? ⟨w.heap.size, 2, none⟩ = some (.int .i64 0) := Ra.cell 2
  have a3 : w1.cell? ⟨w.heap.size, 3, none⟩ = some (.int .i64 code) := Ra.cell 3
  have b2 : w1.cell? ⟨w.heap.size + 1, 2, none⟩ = some (.int .i64 0) := Rb.cell 2
  have b3 : w1.cell? ⟨w.heap.size + 1, 3, none⟩ = some (.int .i64 code) := Rb.cell 3
  have HB := hide (HB0.out.trans (hb1.mono (by simp; omega)))
  clear hb1 Ra Rb
  go_wp2
  go_ret
  exact ⟨rfl, HB.out⟩
set_option maxHeartbeats 1000000 in
theorem markFileOut_own (lo hi : Nat) (R : FOut) (v : Value) (k : Nat) (w : World) (hn : wBats R.2.2 ≤ 1048576) (hk : k + wBats R.2.2 ≤ 4000000) (hr : OBats lo hi w v R.2.2) :
    Calls Tryz.prog 24 #[foV R v, .int .i64 (k : Int)] w fun e w' => e = .returned (.int .i64 ((k + cntBats R.2.2 : Nat) : Int)) ∧ OBats lo hi w' v (mkBats k R.2.2) ∧ Within lo hi w w' := by
  obtain ⟨code, n, xs⟩ := R
  dsimp only [foV] at *
  obtain ⟨p, c, rfl⟩ := hr.isSlice
  have hb0 : Below w.heap.size w (w.alloc (.cells #[.string n, .slice p xs.length c, .int .i64 0, .int .i64 code] 40)) := (Below.refl _ _).alloc (Nat.le_refl _) _
  have HB0 := hide hb0
  have HR := hide (hr.keep (SameIn.ofBelow hb0))
  clear hr hb0
  go_enter Tryz.func24, Tryz.ntmps24
  go_wp2_with fail
  refine (markFile_own lo hi n _ xs k _ hn hk HR.out).mono ?_
  rintro e w1 ⟨rfl, hok, hw⟩
  have HO := hide hok
  have HW := hide ((Within.ofBelow HB0.out).trans hw)
  clear hok hw
  go_wp2
  go_ret
  exact ⟨rfl, HO.out, HW.out⟩
set_option maxHeartbeats 1000000 in
theorem heldFileOut_own (lo hi : Nat) (R : FOut) (v : Value) (k : Nat) (w : World) (hn : wBats R.2.2 ≤ 1048576) (hk : k + wBats R.2.2 ≤ 4000000) (hr : OBats lo hi w v (mkBats k R.2.2)) :
    Calls Tryz.prog 25 #[foV R v, .int .i64 (k : Int)] w fun e w' => e = .returned (.int .i64 ((k + cntBats R.2.2 : Nat) : Int)) ∧ Below w.heap.size w w' := by
  obtain ⟨code, n, xs⟩ := R
  dsimp only [foV] at *
  obtain ⟨p, c, hv⟩ := hr.isSlice
  have hml : (mkBats k xs).length = xs.length := mkL_len cntBat mkBat xs k
  rw [hml] at hv
  subst hv
  clear hml
  have hb0 : Below w.heap.size w (w.alloc (.cells #[.string n, .slice p xs.length c, .int .i64 0, .int .i64 code] 40)) := (Below.refl _ _).alloc (Nat.le_refl _) _
  have HB0 := hide hb0
  have HR := hide (hr.keep (SameIn.ofBelow hb0))
  clear hr hb0
  go_enter Tryz.func25, Tryz.ntmps25
  go_wp2_with fail
  refine (heldFile_own lo hi n _ xs k _ hn hk HR.out).mono ?_
  rintro e w1 ⟨rfl, hb⟩
  have HB := hide (HB0.out.trans (hb.mono HB0.out.size))
  have hpos : ¬ (((k + cntBats xs : Nat) : Int)) < 0 := by omega
  clear hb
  go_wp2
  go_ret
  exact ⟨rfl, HB.out⟩
end Go.Proofs.YtholbhjfmfanbaaGreat
/- Batches, Files and what is told of them, at a wider weight: an answer that repeats Ids. -/
namespace Go.Proofs.YtholbhjfmfanbaaGreat
open Go.RowKit
def BatsOK (xs : List Bat) : Prop := wBats xs ≤ 2000000 ∧ ∀ i (h : i < xs.length), wMsgs xs[i].2 ≤ 1048576 ∧ xs[i].1.size ≤ 1048576
set_option maxHeartbeats 2000000 in
theorem eqBatchS_sameW (v v' : Value) (xs : List Bat) (B B' : Nat) (w : World) (hn : BatsOK xs) (hr : RBats B w v xs) (hr' : RBats B' w v' xs) :
    Calls Tryz.prog 36 #[v, v'] w fun e w' => e = .returned (.bool true) ∧ Below w.heap.size w w' := by
  obtain ⟨hl, hm⟩ : xs.length ≤ 2000000 ∧ ∀ i (h : i < xs.length), wMsgs xs[i].2 ≤ 1048576 ∧ xs[i].1.size ≤ 1048576 := ⟨(wBats_mem hn.1).1, hn.2⟩
  have HM := hide hm
  clear hn hm
  obtain ⟨p, cap, rfl, h1, h2, h4⟩ := hr
  obtain ⟨p', cap', rfl, h1', h2', h4'⟩ := hr'
  have H4 := hide h4
  have H4' := hide h4'
  clear h4 h4'
  unfold maxLen at h2 h2'
  by_cases hx : xs.length = 0
  · have hxs : xs = [] := List.eq_nil_of_length_eq_zero hx
    subst hxs
    go_enter Tryz.func36, Tryz.ntmps36
    go_wp2
    refine wp_loop_rounds 1 ?_
    rw [rounds_succ]
    go_wp2
    go_ret
    exact ⟨rfl, Below.refl _ _⟩
  obtain ⟨g, off, hp, hg, _, hc⟩ := H4.out (by omega)
  obtain ⟨g', off', hp', hg', _, hc'⟩ := H4'.out (by omega)
  subst hp hp'
  have HC := hide hc
  have HC' := hide hc'
  clear hc hc'
  go_enter Tryz.func36, Tryz.ntmps36
  go_wp2
  go_loopw [5] (fun i wr => ∃ (X : World) (k : Nat), X = wr ∧ k ≤ xs.length ∧ i = .int .i64 k ∧ Hid (Below w.heap.size w X)) (fun i _ => xs.length - (intOf i).toNat)
  case atStart => exact ⟨_, 0, rfl, Nat.zero_le _, rfl, Below.refl _ _⟩
  case round =>
    obtain ⟨X, k, rfl, hk, rfl, HBel⟩ := hrel
    by_cases hlt : k < xs.length
    · obtain ⟨ha, hns, u, hu, hru⟩ := HC.out k hlt
      obtain ⟨ha', _, u', hu', hru'⟩ := HC'.out k hlt
      have HU := hide hru
      have HU' := hide hru'
      obtain ⟨up, uc, rfl⟩ := hru.isSlice
      obtain ⟨up', uc', rfl⟩ := hru'.isSlice
      have hki : (k : Int) < (xs.length : Int) := by omega
      have HS := hide (show ∀ x, Below X.heap.size X x → x.cell? ⟨g, off + k * 2, none⟩ = some (.string (xs[k]'hlt).1) ∧ x.cell? ⟨g, off + k * 2 + 1, none⟩ = some (.slice up (xs[k]'hlt).2.length uc) ∧ x.cell? ⟨g', off' + k * 2, none⟩ = some (.string (xs[k]'hlt).1) ∧ x.cell? ⟨g', off' + k * 2 + 1, none⟩ = some (.slice up' (xs[k]'hlt).2.length uc') ∧ Below X.heap.size X x from
        fun x h => by
          have hb := HBel.out.trans (h.mono HBel.out.size)
          exact ⟨(hb.cell (p := ⟨g, off + k * 2, none⟩) hg).trans ha, (hb.cell (p := ⟨g, off + k * 2 + 1, none⟩) hg).trans hu, (hb.cell (p := ⟨g', off' + k * 2, none⟩) hg').trans ha', (hb.cell (p := ⟨g', off' + k * 2 + 1, none⟩) hg').trans hu', h⟩)
      clear hu hu' hru hru' ha ha' hns
      go_wp2_with fail
      go_region_held3 (fun x => x.cell? ⟨g, off + k * 2, none⟩ = some (.string (xs[k]'hlt).1) ∧ x.cell? ⟨g, off + k * 2 + 1, none⟩ = some (.slice up (xs[k]'hlt).2.length uc) ∧ x.cell? ⟨g', off' + k * 2, none⟩ = some (.string (xs[k]'hlt).1) ∧ x.cell? ⟨g', off' + k * 2 + 1, none⟩ = some (.slice up' (xs[k]'hlt).2.length uc') ∧ Below X.heap.size X x)
        ((go_split_ands; refine HS.out _ ?_; repeat (first | with_reducible assumption | with_reducible exact Below.refl _ _ | with_reducible refine Below.drew ?_)))
        ((go_at_call 65; go_split_ands; refine (eqBatch_same (xs[k]'hlt).1 _ _ (xs[k]'hlt).2 B B' _ (HM.out k hlt).1 (Lasts.go (B := B) (Same.of (HBel.out.trans (Below.mono (by assumption) HBel.out.size))) HU.out) (Lasts.go (B := B') (Same.of (HBel.out.trans (Below.mono (by assumption) HBel.out.size))) HU'.out)).mono ?_; rintro e w3 ⟨rfl, hb3⟩; have hB3 : Below X.heap.size X w3 := Below.trans (by assumption) (hb3.mono (Below.size (by assumption))); clear hb3))
      all_goals
        have HB3 := hide (HBel.out.trans (hB3.mono HBel.out.size))
        clear hB3
        go_wp2
        go_roundw
        case rel => exact ⟨_, k + 1, rfl, by omega, by go_num, HB3⟩
        case measure => simp [intOf]; omega
    · go_wp2
      go_ret
      exact ⟨rfl, HBel.out⟩
set_option maxHeartbeats 1000000 in
theorem eqFile_sameW (n : ByteArray) (u u' : Value) (x : List Bat) (B B' : Nat) (w : World) (hn : BatsOK x) (hr : RBats B w u x) (hr' : RBats B' w u' x) :
    Calls Tryz.prog 12 #[.agg #[.string n, u], .agg #[.string n, u']] w fun e w' => e = .returned (.bool true) ∧ Below w.heap.size w w' := by
  have HR := hide hr
  have HR' := hide hr'
  obtain ⟨p, c, rfl⟩ := hr.isSlice
  obtain ⟨p', c', rfl⟩ := hr'.isSlice
  clear hr hr'
  have HB0 := hide (((Below.refl w.heap.size w).alloc (Nat.le_refl _) (.cells #[.string n, .slice p x.length c] 29)).alloc (by simp) (.cells #[.string n, .slice p' x.length c'] 29))
  go_enter Tryz.func12, Tryz.ntmps12
  go_wp2_with fail
  refine (eqBatchS_sameW _ _ x B B' _ hn (HR.out.below HB0.out) (HR'.out.below HB0.out)).mono ?_
  rintro e w1 ⟨rfl, hb1⟩
  have HB := hide (HB0.out.trans (hb1.mono (by simp; omega)))
  clear hb1
  go_wp2
  go_ret
  exact ⟨rfl, HB.out⟩
set_option maxHeartbeats 4000000 in
theorem markBatchS_ownW (lo hi : Nat) (v : Value) (xs : List Bat) (k : Nat) (w : World) (hn : BatsOK xs) (hk : k + wBats xs ≤ 4000000) (hr : OBats lo hi w v xs) :
    Calls Tryz.prog 42 #[v, .int .i64 (k : Int)] w fun e w' => e = .returned (.int .i64 ((k + cntBats xs : Nat) : Int)) ∧ OBats lo hi w' v (mkBats k xs) ∧ Within lo hi w w' := by
  have hl : xs.length ≤ 2000000 := Nat.le_trans (wL_len _ xs) hn.1
  have HC := hide (fun i h => bat_step xs i h)
  have HSN := hide (fun i h => cntL_snoc cntBat xs i h)
  have HM := hide hn.2
  obtain ⟨p, cap, rfl, h1, h2, h4⟩ := hr
  by_cases h0 : xs.length = 0
  · obtain rfl : xs = [] := List.eq_nil_of_length_eq_zero h0
    clear h4 HC HM HSN
    go_enter Tryz.func42, Tryz.ntmps42
    go_wp2
    refine wp_loop_rounds 1 ?_
    rw [rounds_succ]
    go_wp2
    go_ret
    exact ⟨rfl, ⟨p, cap, rfl, h1, h2, fun h => absurd h (by simp [mkBats, mkL])⟩, Within.refl _ _ _⟩
  obtain ⟨g, cs0, A, B, rfl, ga, gb, hrow, hcl, hE, hD⟩ := h4 (by omega)
  have HK := hide hk
  have HN := hide hn
  have HR := hide hrow
  have HCL := hide hcl
  have HE := hide hE
  have HD := hide hD
  have HG := hide (show lo ≤ g ∧ g < hi from ⟨ga, gb⟩)
  have HCP := hide (show xs.length ≤ cap ∧ cap ≤ maxLen from ⟨h1, h2⟩)
  unfold maxLen at h2
  clear h4 hrow hcl hE hD hk hn ga gb
  go_enter Tryz.func42, Tryz.ntmps42
  go_wp2
  go_loopw [1, 5] (fun x i wr => ∃ (X : World) (j K : Nat) (cs : List Value), X = wr ∧ j ≤ xs.length ∧ i = .int .i64 (j : Int) ∧ x = .int .i64 (K : Int) ∧ Hid (K = k + cntL cntBat (xs.take j)) ∧ Hid (Row X g 49 cs) ∧ Hid (xs.length * 2 ≤ cs.length) ∧ Hid (∀ i (h2 : i < xs.length), cs[i * 2]? = some (.string (if i < j then markOf (k + cntL cntBat (xs.take i)) else xs[i].1)) ∧ lo ≤ A i ∧ B i ≤ hi ∧ (B i ≤ g ∨ g < A i) ∧ ∃ u, cs[i * 2 + 1]? = some u ∧ OMsgs (A i) (B i) X u (if i < j then mkMsgs (k + cntL cntBat (xs.take i) + 1) xs[i].2 else xs[i].2)) ∧ Hid (Within lo hi w X)) (fun _ i _ => xs.length - (intOf i).toNat)
  case atStart => exact ⟨_, 0, k, cs0, rfl, Nat.zero_le _, rfl, rfl, hide (by simp [cntL]), HR, HCL, hide (fun i h2 => by
    obtain ⟨e0, e1, e2, e3, e4, u, e5, e6⟩ := HE.out i h2
    rw [if_neg (by omega), if_neg (by omega)]
    exact ⟨e0, e2, e3, e4, u, e5, e6⟩), hide (Within.refl _ _ _)⟩
  case round =>
    obtain ⟨X, j, K, cs, rfl, hj, rfl, rfl, HKE, HRX, HLX, HEX, HW⟩ := hrel
    by_cases hlt : j < xs.length
    · obtain ⟨e0, e2, e3, e4, u, e5, e6⟩ := HEX.out j hlt
      rw [if_neg (by omega)] at e0
      rw [if_neg (by omega)] at e6
      have hKb : K + 1 + wMsgs (xs[j]'hlt).2 ≤ 4000000 := by have h1 := HC.out j hlt; have h2 := HK.out; rw [HKE.out]; omega
      have hwb : wMsgs (xs[j]'hlt).2 ≤ 1048576 := (HM.out j hlt).1
      have HEB := hide (show lo ≤ A j ∧ B j ≤ hi ∧ (B j ≤ g ∨ g < A j) from ⟨e2, e3, e4⟩)
      obtain ⟨up, uc, rfl⟩ := e6.isSlice
      have HU := hide e5
      have HOK := hide e6
      clear e0 e2 e3 e4 e5 e6
      go_wp2_with fail
      refine (markText_any K _ (by omega)).mono ?_
      rintro e w2 ⟨rfl, hb2⟩
      have row2 := HRX.out.below hb2 HRX.out.lt
      obtain ⟨z0, hz0⟩ := row2.some (j * 2) (by have := HLX.out; omega)
      have hf0 := row2.free (j * 2)
      have row3 := row2.set (j := j * 2) (.string (markOf K))
      have c31 : (w2.setCell ⟨g, j * 2, none⟩ (.string (markOf K))).cell? ⟨g, j * 2 + 1, none⟩ = some (.slice up (xs[j]'hlt).2.length uc) := by rw [row3.cell, List.getElem?_set_ne (by omega)]; exact HU.out
      have hw3 : Within lo hi X (w2.setCell ⟨g, j * 2, none⟩ (.string (markOf K))) := Within.ofOnly (((Only.refl g X).below hb2).set (.string (markOf K))) HG.out.1 HG.out.2
      have hs3 : ∀ a b, (b ≤ g ∨ g < a) → SameIn a b X (w2.setCell ⟨g, j * 2, none⟩ (.string (markOf K))) := fun a b h k h1 h2 hk => (((Only.refl g X).below hb2).set (j := j * 2) (.string (markOf K))).block k hk (fun e => by cases e; omega)
      have HR3 := hide row3
      have HW3 := hide hw3
      have HS3 := hide hs3
      have HOK3 := hide (Keeps.go (HS3.out (A j) (B j) HEB.out.2.2) HOK.out)
      clear row2 row3 hw3 hs3 hb2 HOK
      go_wp2_with fail
      have ek : ((K : Int) + 1) = ((K + 1 : Nat) : Int) := by simp
      rw [ek]
      refine (markMessageS_own (A j) (B j) _ (xs[j]'hlt).2 (K + 1) _ hwb hKb HOK3.out).mono ?_
      rintro e w4 ⟨rfl, hok, hw⟩
      clear ek
      have HK2 : Hid (K + 1 + cntMsgs (xs[j]'hlt).2 = k + cntL cntBat (xs.take (j + 1))) := by rw [HSN.out j hlt, HKE.out]; exact (by unfold cntBat cntMsgs; omega : k + cntL cntBat (xs.take j) + 1 + cntMsgs (xs[j]'hlt).2 = k + (cntL cntBat (xs.take j) + cntBat (xs[j]'hlt)))
      have HR4 := hide (hw.row HR3.out (by have := HEB.out.2.2; omega))
      have HW4 := hide ((HW.out.trans HW3.out).trans (hw.mono HEB.out.1 HEB.out.2.1))
      have HL4 : Hid (xs.length * 2 ≤ (cs.set (j * 2) (.string (markOf K))).length) := hide (by rw [List.length_set]; exact HLX.out)
      have HE4 : Hid (∀ i (h2 : i < xs.length), (cs.set (j * 2) (.string (markOf K)))[i * 2]? = some (.string (if i < j + 1 then markOf (k + cntL cntBat (xs.take i)) else xs[i].1)) ∧ lo ≤ A i ∧ B i ≤ hi ∧ (B i ≤ g ∨ g < A i) ∧ ∃ u, (cs.set (j * 2) (.string (markOf K)))[i * 2 + 1]? = some u ∧ OMsgs (A i) (B i) w4 u (if i < j + 1 then mkMsgs (k + cntL cntBat (xs.take i) + 1) xs[i].2 else xs[i].2)) := by
        intro i h2
        obtain ⟨f0, f1, f2, f3, u, f4, f5⟩ := HEX.out i h2
        have hlx := HLX.out
        by_cases hij : i = j
        · subst hij
          rw [if_pos (by omega), if_pos (by omega), List.getElem?_set_self (by omega), List.getElem?_set_ne (by omega)]
          rw [← HKE.out]
          exact ⟨rfl, f1, f2, f3, _, HU.out, hok⟩
        · have hd : B i ≤ A j ∨ B j ≤ A i := by
            rcases Nat.lt_or_gt_of_ne hij with h | h
            · exact .inl (HD.out i j h hlt)
            · exact .inr (HD.out j i h h2)
          rw [List.getElem?_set_ne (by omega), List.getElem?_set_ne (by omega)]
          have hk5 := Keeps.go (hw.same hd) (Keeps.go (HS3.out (A i) (B i) f3) f5)
          by_cases h : i < j
          · rw [if_pos h] at f0 hk5
            rw [if_pos (by omega), if_pos (by omega)]
            exact ⟨f0, f1, f2, f3, u, f4, hk5⟩
          · rw [if_neg h] at f0 hk5
            rw [if_neg (by omega), if_neg (by omega)]
            exact ⟨f0, f1, f2, f3, u, f4, hk5⟩
      clear hok hw
      go_wp2
      go_roundw
      case rel => exact ⟨_, j + 1, _, _, rfl, by omega, by go_num, rfl, HK2, HR4, HL4, HE4, HW4⟩
      case measure => simp [intOf]; omega
    · have hje : j = xs.length := by omega
      have HKF : Hid (K = k + cntBats xs) := by have := HKE.out; rw [List.take_of_length_le (by omega)] at this; exact this
      have hml := mkL_len cntBat mkBat xs k
      have HF : Hid (OBats lo hi X (.slice (some ⟨g, 0, none⟩) xs.length cap) (mkBats k xs)) := by
        refine ⟨_, cap, ?_, ?_, HCP.out.2, fun _ => ⟨g, cs, A, B, rfl, HG.out.1, HG.out.2, HRX.out, ?_, fun i h2 => ?_, fun i j h1 h2 => HD.out i j h1 (by unfold mkBats at h2; rw [hml] at h2; exact h2)⟩⟩
        · unfold mkBats; rw [hml]
        · unfold mkBats; rw [hml]; exact HCP.out.1
        · unfold mkBats; rw [hml]; exact HLX.out
        · have h3 : i < xs.length := by unfold mkBats at h2; rw [hml] at h2; exact h2
          obtain ⟨f0, f1, f2, f3, u, f4, f5⟩ := HEX.out i h3
          rw [if_pos (by omega)] at f0 f5
          have e : (mkBats k xs)[i] = mkBat (k + cntL cntBat (xs.take i)) xs[i] := mkL_get cntBat mkBat xs k i h3 h2
          rw [e]
          refine ⟨f0, markOf_small _ ?_, f1, f2, f3, u, f4, f5⟩
          have h5 := HC.out i h3
          have h6 := HK.out
          omega
      clear hml
      go_wp2
      go_ret
      exact ⟨ret_int (by rw [HKF.out]), HF.out, HW.out⟩
set_option maxHeartbeats 1000000 in
theorem markFile_ownW (lo hi : Nat) (n : ByteArray) (v : Value) (xs : List Bat) (k : Nat) (w : World) (hn : BatsOK xs) (hk : k + wBats xs ≤ 4000000) (hr : OBats lo hi w v xs) :
    Calls Tryz.prog 18 #[.agg #[.string n, v], .int .i64 (k : Int)] w fun e w' => e = .returned (.int .i64 ((k + cntBats xs : Nat) : Int)) ∧ OBats lo hi w' v (mkBats k xs) ∧ Within lo hi w w' := by
  obtain ⟨p, c, rfl⟩ := hr.isSlice
  have hb0 : Below w.heap.size w (w.alloc (.cells #[.string n, .slice p xs.length c] 29)) := (Below.refl _ _).alloc (Nat.le_refl _) _
  have HB0 := hide hb0
  have HR := hide (hr.keep (SameIn.ofBelow hb0))
  clear hr hb0
  go_enter Tryz.func18, Tryz.ntmps18
  go_wp2_with fail
  refine (markBatchS_ownW lo hi _ xs k _ hn hk HR.out).mono ?_
  rintro e w1 ⟨rfl, hok, hw⟩
  have HO := hide hok
  have HW := hide ((Within.ofBelow HB0.out).trans hw)
  clear hok hw
  go_wp2
  go_ret
  exact ⟨rfl, HO.out, HW.out⟩
set_option maxHeartbeats 4000000 in
theorem heldBatchS_ownW (lo hi : Nat) (v : Value) (xs : List Bat) (k : Nat) (w : World) (hn : BatsOK xs) (hk : k + wBats xs ≤ 4000000) (hr : OBats lo hi w v (mkBats k xs)) :
    Calls Tryz.prog 74 #[v, .int .i64 (k : Int)] w fun e w' => e = .returned (.int .i64 ((k + cntBats xs : Nat) : Int)) ∧ Below w.heap.size w w' := by
  have hl : xs.length ≤ 2000000 := Nat.le_trans (wL_len _ xs) hn.1
  have HC := hide (fun i h => bat_step xs i h)
  have HSN := hide (fun i h => cntL_snoc cntBat xs i h)
  have HM := hide hn.2
  have HML := hide (show (mkBats k xs).length = xs.length from mkL_len cntBat mkBat xs k)
  obtain ⟨p, cap, hv, h1, h2, h4⟩ := hr
  rw [HML.out] at h1 hv
  subst hv
  by_cases h0 : xs.length = 0
  · obtain rfl : xs = [] := List.eq_nil_of_length_eq_zero h0
    clear h4 HC HM HSN HML
    go_enter Tryz.func74, Tryz.ntmps74
    go_wp2
    refine wp_loop_rounds 1 ?_
    rw [rounds_succ]
    go_wp2
    go_ret
    exact ⟨rfl, Below.refl _ _⟩
  obtain ⟨g, cs, A, B, rfl, ga, gb, hrow, hcl, hE, hD⟩ := h4 (by rw [HML.out]; omega)
  have HK := hide hk
  have HR := hide hrow
  have HE := hide hE
  unfold maxLen at h2
  clear h4 hrow hcl hE hD hk hn ga gb
  go_enter Tryz.func74, Tryz.ntmps74
  go_wp2
  go_loopw [1, 5] (fun x i wr => ∃ (X : World) (j K : Nat), X = wr ∧ j ≤ xs.length ∧ i = .int .i64 (j : Int) ∧ x = .int .i64 (K : Int) ∧ Hid (K = k + cntL cntBat (xs.take j)) ∧ Hid (Below w.heap.size w X)) (fun _ i _ => xs.length - (intOf i).toNat)
  case atStart => exact ⟨_, 0, k, rfl, Nat.zero_le _, rfl, rfl, hide (by simp [cntL]), hide (Below.refl _ _)⟩
  case round =>
    obtain ⟨X, j, K, rfl, hj, rfl, rfl, HKE, HB⟩ := hrel
    by_cases hlt : j < xs.length
    · have hjm : j < (mkBats k xs).length := by rw [HML.out]; exact hlt
      have hget : (mkBats k xs)[j] = mkBat K (xs[j]'hlt) := by rw [HKE.out]; exact mkL_get cntBat mkBat xs k j hlt hjm
      obtain ⟨e0, e1, e2, e3, e4, u, e5, e6⟩ := HE.out j hjm
      rw [hget] at e0 e6
      have e7 := Keeps.go (SameIn.ofBelow HB.out) e6
      have rowX := HR.out.below HB.out HR.out.lt
      have c0 : X.cell? ⟨g, j * 2, none⟩ = some (.string (markOf K)) := by rw [rowX.cell]; exact e0
      have c1 : X.cell? ⟨g, j * 2 + 1, none⟩ = some u := by rw [rowX.cell]; exact e5
      have hKb : K + 1 + wMsgs (xs[j]'hlt).2 ≤ 4000000 := by have h1 := HC.out j hlt; have h2 := HK.out; rw [HKE.out]; omega
      have hwb : wMsgs (xs[j]'hlt).2 ≤ 1048576 := (HM.out j hlt).1
      have HOK : Hid (OMsgs (A j) (B j) X u (mkMsgs (K + 1) (xs[j]'hlt).2)) := hide e7
      obtain ⟨vp, vn, vc, hvj⟩ : ∃ p n c, u = .slice p n c := by obtain ⟨p, c, e⟩ := e7.isSlice; exact ⟨p, _, c, e⟩
      subst hvj
      have hji : (j : Int) < (xs.length : Int) := by omega
      have hj0 : (0 : Int) ≤ (j : Int) := by omega
      have HSS := hide (show ∀ y, Below X.heap.size X y → y.cell? ⟨g, j * 2, none⟩ = some (.string (markOf K)) from fun y h => (h.cell (p := ⟨g, j * 2, none⟩) rowX.lt).trans c0)
      have HRX := hide rowX
      have HC1 := hide c1
      clear e0 e1 e2 e3 e4 e5 e6 e7 rowX c0 c1 hget
      go_wp2_with fail
      go_cut [19] (fun t wz => t = .bool false ∧ ∃ wx, wx = wz ∧ Hid (Below X.heap.size X wx))
      case first =>
        refine wp_region_held (S := (fun y : World => y.cell? ⟨g, j * 2, none⟩ = some (.string (markOf K)))) (by kernel_rfl) ?_
        have HX0 : Hid (Below X.heap.size X { X with drawn := X.drawn + 1 }) := (Below.refl _ _).drew
        generalize ({ X with drawn := X.drawn + 1 } : World) = X0 at HX0 ⊢
        have HS := hide (HSS.out _ HX0.out)
        refine wpAnyH_take (i := 0) (oi := _) (v := .slice (some ⟨g, 0, none⟩) xs.length cap) rfl (by kernel_rfl) (by kernel_rfl) (by kernel_rfl) (fun _ _ _ h => h) (Or.inl ⟨by rfl, by intro w hSw; go_split_ands; go_simp⟩) HS.out ?_
        simp only [Act.put, List.getElem_toArray, List.getElem_cons_zero, List.setIfInBounds_toArray, List.set_cons_zero, List.set_cons_succ]
        refine wpAnyH_take (i := 1) (oi := _) (v := .int .i64 (j : Int)) rfl (by kernel_rfl) (by kernel_rfl) (by kernel_rfl) (fun _ _ _ h => h) (Or.inl ⟨by rfl, by intro w hSw; go_split_ands; go_simp⟩) HS.out ?_
        simp only [Act.put, List.getElem_toArray, List.getElem_cons_zero, List.getElem_cons_succ, List.setIfInBounds_toArray, List.set_cons_zero, List.set_cons_succ]
        refine wpAnyH_take (i := 2) (oi := _) (v := .pointer (some ⟨g, j * 2, none⟩)) rfl (by kernel_rfl) (by kernel_rfl) (by kernel_rfl) (fun _ _ _ h => h) (Or.inl ⟨by rfl, by intro w hSw; go_split_ands; go_simp⟩) HS.out ?_
        simp only [Act.put, List.getElem_toArray, List.getElem_cons_zero, List.getElem_cons_succ, List.setIfInBounds_toArray, List.set_cons_zero, List.set_cons_succ]
        refine wpAnyH_take (i := 3) (oi := _) (v := .pointer (some ⟨g, j * 2, none⟩)) rfl (by kernel_rfl) (by kernel_rfl) (by kernel_rfl) (fun _ _ _ h => h) (Or.inl ⟨by rfl, by intro w hSw; go_split_ands; go_simp⟩) HS.out ?_
        simp only [Act.put, List.getElem_toArray, List.getElem_cons_zero, List.getElem_cons_succ, List.setIfInBounds_toArray, List.set_cons_zero, List.set_cons_succ]
        refine wpAnyH_take (i := 4) (oi := _) (v := .string (markOf K)) rfl (by kernel_rfl) (by kernel_rfl) (by kernel_rfl) (fun _ _ _ h => h) (Or.inl ⟨by rfl, by intro w hSw; go_split_ands; go_simp⟩) HS.out ?_
        simp only [Act.put, List.getElem_toArray, List.getElem_cons_zero, List.getElem_cons_succ, List.setIfInBounds_toArray, List.set_cons_zero, List.set_cons_succ]
        refine wpAnyH_take (i := 5) (oi := _) (v := .int .i64 (K : Int)) rfl (by kernel_rfl) (by kernel_rfl) (by kernel_rfl) (fun _ _ _ h => h) (Or.inl ⟨by rfl, by intro w hSw; go_split_ands; go_simp⟩) HS.out ?_
        simp only [Act.put, List.getElem_toArray, List.getElem_cons_zero, List.getElem_cons_succ, List.setIfInBounds_toArray, List.set_cons_zero, List.set_cons_succ]
        refine wpAnyH_ready (rs := [6]) (by kernel_rfl) (by simp) ?_
        refine AllReadyH.cons (o := _) rfl (fun KK hK => ?_) AllReadyH.nil
        go_simp
        refine (markText_any _ _ (by omega)).mono ?_
        rintro e X1 ⟨rfl, hb1⟩
        have HX1 := hide (HX0.out.trans (hb1.mono HX0.out.size))
        refine hK.out _ _ (HSS.out _ HX1.out) (fun _ => ?_)
        clear hK HS hb1 HX0
        have HS := hide (HSS.out _ HX1.out)
        refine wpAnyH_take (i := 7) (oi := _) (v := .bool false) rfl (by kernel_rfl) (by kernel_rfl) (by kernel_rfl) (fun _ _ _ h => h) (Or.inl ⟨by rfl, by intro w hSw; go_split_ands; go_simp⟩) HS.out ?_
        simp only [Act.put, List.getElem_toArray, List.getElem_cons_zero, List.getElem_cons_succ, List.setIfInBounds_toArray, List.set_cons_zero, List.set_cons_succ]
        refine wpAnyH_done (by kernel_rfl) ?_ _
        go_wp2_with fail
        go_meet
        exact ⟨rfl, _, rfl, HX1⟩
      case rest =>
        obtain ⟨rfl, wx, rfl, HBx⟩ := hcut
        have HBX := hide (HB.out.trans (HBx.out.mono HB.out.size))
        have d1 : wx.cell? ⟨g, j * 2 + 1, none⟩ = some (.slice vp vn vc) := (HBx.out.cell (p := ⟨g, j * 2 + 1, none⟩) HRX.out.lt).trans HC1.out
        have HOX := hide (Keeps.go (SameIn.ofBelow HBx.out) HOK.out)
        clear HBx
        go_wp2_with fail
        have ek : ((K : Int) + 1) = ((K + 1 : Nat) : Int) := by simp
        rw [ek]
        refine (heldMessageS_own (A j) (B j) _ (xs[j]'hlt).2 (K + 1) _ hwb hKb HOX.out).mono ?_
        rintro e w2 ⟨rfl, hb2⟩
        have HK2 : Hid (K + 1 + cntMsgs (xs[j]'hlt).2 = k + cntL cntBat (xs.take (j + 1))) := by rw [HSN.out j hlt, HKE.out]; exact (by unfold cntBat; omega : k + cntL cntBat (xs.take j) + 1 + cntMsgs (xs[j]'hlt).2 = k + (cntL cntBat (xs.take j) + cntBat (xs[j]'hlt)))
        have HB2 := hide (HBX.out.trans (hb2.mono HBX.out.size))
        have hpos : ¬ (((K + 1 + cntMsgs (xs[j]'hlt).2 : Nat) : Int)) < 0 := by omega
        clear hb2 ek d1
        go_wp2
        go_roundw
        case rel => exact ⟨_, j + 1, _, rfl, by omega, by go_num, rfl, HK2, HB2⟩
        case measure => simp [intOf]; omega
    · have HKF : Hid (K = k + cntBats xs) := by have := HKE.out; rw [List.take_of_length_le (by omega)] at this; exact this
      go_wp2
      go_ret
      exact ⟨ret_int (by rw [HKF.out]), HB.out⟩

set_option maxHeartbeats 1000000 in
theorem heldFile_ownW (lo hi : Nat) (n : ByteArray) (v : Value) (xs : List Bat) (k : Nat) (w : World) (hn : BatsOK xs) (hk : k + wBats xs ≤ 4000000) (hr : OBats lo hi w v (mkBats k xs)) :
    Calls Tryz.prog 54 #[.agg #[.string n, v], .int .i64 (k : Int)] w fun e w' => e = .returned (.int .i64 ((k + cntBats xs : Nat) : Int)) ∧ Below w.heap.size w w' := by
  obtain ⟨p, c, hv⟩ := hr.isSlice
  have hml : (mkBats k xs).length = xs.length := mkL_len cntBat mkBat xs k
  rw [hml] at hv
  subst hv
  clear hml
  have hb0 : Below w.heap.size w (w.alloc (.cells #[.string n, .slice p xs.length c] 29)) := (Below.refl _ _).alloc (Nat.le_refl _) _
  have HB0 := hide hb0
  have HR := hide (hr.keep (SameIn.ofBelow hb0))
  clear hr hb0
  go_enter Tryz.func54, Tryz.ntmps54
  go_wp2_with fail
  refine (heldBatchS_ownW lo hi _ xs k _ hn hk HR.out).mono ?_
  rintro e w1 ⟨rfl, hb⟩
  have HB := hide (HB0.out.trans (hb.mono HB0.out.size))
  have hpos : ¬ (((k + cntBats xs : Nat) : Int)) < 0 := by omega
  clear hb
  go_wp2
  go_ret
  exact ⟨rfl, HB.out⟩
set_option maxHeartbeats 1000000 in
theorem eqFileOut_sameW (R : FOut) (u u' : Value) (B B' : Nat) (w : World) (hn : BatsOK R.2.2) (hr : RBats B w u R.2.2) (hr' : RBats B' w u' R.2.2) :
    Calls Tryz.prog 23 #[foV R u, foV R u'] w fun e w' => e = .returned (.bool true) ∧ Below w.heap.size w w' := by
  obtain ⟨code, n, x⟩ := R
  dsimp only [foV] at *
  have HR := hide hr
  have HR' := hide hr'
  obtain ⟨p, c, rfl⟩ := hr.isSlice
  obtain ⟨p', c', rfl⟩ := hr'.isSlice
  clear hr hr'
  have HB0 := hide (((Below.refl w.heap.size w).alloc (Nat.le_refl _) (.cells #[.string n, .slice p x.length c, .int .i64 0, .int .i64 code] 40)).alloc (by simp) (.cells #[.string n, .slice p' x.length c', .int .i64 0, .int .i64 code] 40))
  have HRa := hide ((row_new w [.string n, .slice p x.length c, .int .i64 0, .int .i64 code] 40).alloc (.cells #[.string n, .slice p' x.length c', .int .i64 0, .int .i64 code] 40))
  have HRb : Hid (Row ((w.alloc (.cells #[.string n, .slice p x.length c, .int .i64 0, .int .i64 code] 40)).alloc (.cells #[.string n, .slice p' x.length c', .int .i64 0, .int .i64 code] 40)) (w.heap.size + 1) 40 [.string n, .slice p' x.length c', .int .i64 0, .int .i64 code]) := hide (by
    have := row_new (w.alloc (.cells #[.string n, .slice p x.length c, .int .i64 0, .int .i64 code] 40)) [.string n, .slice p' x.length c', .int .i64 0, .int .i64 code] 40
    simpa using this)
  go_enter Tryz.func23, Tryz.ntmps23
  go_wp2_with fail
  refine (eqFile_sameW n _ _ x B B' _ hn (HR.out.below HB0.out) (HR'.out.below HB0.out)).mono ?_
  rintro e w1 ⟨rfl, hb1⟩
  have Ra := HRa.out.below hb1 HRa.out.lt
  have Rb := HRb.out.below hb1 HRb.out.lt
  have a2 : w1.cell? ⟨w.heap.size, 2, none⟩ = some (.int .i64 0) := Ra.cell 2
  have a3 : w1.cell? ⟨w.heap.size, 3, none⟩ = some (.int .i64 code) := Ra.cell 3
  have b2 : w1.cell? ⟨w.heap.size + 1, 2, none⟩ = some (.int .i64 0) := Rb.cell 2
  have b3 : w1.cell? ⟨w.heap.size + 1, 3, none⟩ = some (.int .i64 code) := Rb.cell 3
  have HB := hide (HB0.out.trans (hb1.mono (by simp; omega)))
  clear hb1 Ra Rb
  go_wp2
  go_ret
  exact ⟨rfl, HB.out⟩
set_option maxHeartbeats 1000000 in
theorem markFileOut_ownW (lo hi : Nat) (R : FOut) (v : Value) (k : Nat) (w : World) (hn : BatsOK R.2.2) (hk : k + wBats R.2.2 ≤ 4000000) (hr : OBats lo hi w v R.2.2) :
    Calls Tryz.prog 24 #[foV R v, .int .i64 (k : Int)] w fun e w' => e = .returned (.int .i64 ((k + cntBats R.2.2 : Nat) : Int)) ∧ OBats lo hi w' v (mkBats k R.2.2) ∧ Within lo hi w w' := by
  obtain ⟨code, n, xs⟩ := R
  dsimp only [foV] at *
  obtain ⟨p, c, rfl⟩ := hr.isSlice
  have hb0 : Below w.heap.size w (w.alloc (.cells #[.string n, .slice p xs.length c, .int .i64 0, .int .i64 code] 40)) := (Below.refl _ _).alloc (Nat.le_refl _) _
  have HB0 := hide hb0
  have HR := hide (hr.keep (SameIn.ofBelow hb0))
  clear hr hb0
  go_enter Tryz.func24, Tryz.ntmps24
  go_wp2_with fail
  refine (markFile_ownW lo hi n _ xs k _ hn hk HR.out).mono ?_
  rintro e w1 ⟨rfl, hok, hw⟩
  have HO := hide hok
  have HW := hide ((Within.ofBelow HB0.out).trans hw)
  clear hok hw
  go_wp2
  go_ret
  exact ⟨rfl, HO.out, HW.out⟩
set_option maxHeartbeats 1000000 in
theorem heldFileOut_ownW (lo hi : Nat) (R : FOut) (v : Value) (k : Nat) (w : World) (hn : BatsOK R.2.2) (hk : k + wBats R.2.2 ≤ 4000000) (hr : OBats lo hi w v (mkBats k R.2.2)) :
    Calls Tryz.prog 25 #[foV R v, .int .i64 (k : Int)] w fun e w' => e = .returned (.int .i64 ((k + cntBats R.2.2 : Nat) : Int)) ∧ Below w.heap.size w w' := by
  obtain ⟨code, n, xs⟩ := R
  dsimp only [foV] at *
  obtain ⟨p, c, hv⟩ := hr.isSlice
  have hml : (mkBats k xs).length = xs.length := mkL_len cntBat mkBat xs k
  rw [hml] at hv
  subst hv
  clear hml
  have hb0 : Below w.heap.size w (w.alloc (.cells #[.string n, .slice p xs.length c, .int .i64 0, .int .i64 code] 40)) := (Below.refl _ _).alloc (Nat.le_refl _) _
  have HB0 := hide hb0
  have HR := hide (hr.keep (SameIn.ofBelow hb0))
  clear hr hb0
  go_enter Tryz.func25, Tryz.ntmps25
  go_wp2_with fail
  refine (heldFile_ownW lo hi n _ xs k _ hn hk HR.out).mono ?_
  rintro e w1 ⟨rfl, hb⟩
  have HB := hide (HB0.out.trans (hb.mono HB0.out.size))
  have hpos : ¬ (((k + cntBats xs : Nat) : Int)) < 0 := by omega
  clear hb
  go_wp2
  go_ret
  exact ⟨rfl, HB.out⟩
end Go.Proofs.YtholbhjfmfanbaaGreat
