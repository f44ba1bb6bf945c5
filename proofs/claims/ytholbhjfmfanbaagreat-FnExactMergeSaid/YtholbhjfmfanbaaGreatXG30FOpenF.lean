/- Batches and Files in memory, and the laws' own helpers over them. -/
import Derived.Test.YtholbhjfmfanbaaGreatXG29FOpenM
import Derived.Test.YtholbhjfmfanbaaGreatXG12FFilS
import Derived.Test.YtholbhjfmfanbaaGreatXG26BAllOf
namespace Go.Proofs.YtholbhjfmfanbaaGreat
open Go.RowKit Go.ChangeShapes Go.WideShapes
theorem bats_of_trod {H : Type} {enc : TypeId × Value → H} {w : World} {base : Nat} {spare : Nat → Bool} {held : Bool} {k : Nat} {v : Value} {y : DataW H × List MemPlace}
    (h : DataW.trod enc Tryz.prog w base spare held k 22 [v] = some y) : ∃ xs, RBats 0 w v xs := by
  rcases Go.Deep.open_slice_pairs Tryz.underlying22 Tryz.underlying81 (by kernel_rfl) rfl rfl (by kernel_rfl) (by kernel_rfl) h with ⟨hcs, _⟩ | ⟨a, len, cap, m, n, V0, V1, D0, D1, P0, P1, hcs, _, hl, hm, hmm, _, hx⟩
  · obtain rfl : v = .slice none 0 0 := by simpa using hcs
    exact ⟨[], none, 0, rfl, Nat.le_refl _, Nat.zero_le _, fun h0 => absurd h0 (Nat.lt_irrefl 0)⟩
  · obtain rfl : v = .slice (some a) len cap := by simpa using hcs
    have hll : len ≤ m := by rw [hmm]; split <;> omega
    obtain ⟨F, hF⟩ := Go.Deep.choose_lt (α := Bat) (n := len) (p := fun i z => V0 i = .string z.1 ∧ z.1.size ≤ maxLen ∧ RMsgs 0 w (V1 i) z.2) (fun i hi => by
      obtain ⟨_, _, t0, t1⟩ := hx i (by omega)
      obtain ⟨s, e0, _, hs⟩ := DataW.trod_string Tryz.underlying9 t0
      obtain ⟨x, hx⟩ := msgs_of_trod t1
      exact ⟨(s, x), by simpa using e0, hs, hx⟩)
    refine ⟨(List.range len).map F, some a, cap, by simp, by simpa using hl, hm, fun h0 => ?_⟩
    have h0' : 0 < len := by simpa using h0
    have ha := spot_none (w := w) (a := a) (v := V0 0) (by simpa using (hx 0 (by omega)).1)
    refine ⟨a.block, a.off, by rw [← ha], ?_, Nat.zero_le _, fun i hi => ?_⟩
    · have := World.block_lt_of_cell? w _ (hx 0 (by omega)).1
      simpa [Addr.add] using this
    · have hi' : i < len := by simpa using hi
      obtain ⟨z0, z1, _, _⟩ := hx i (by omega)
      obtain ⟨e0, e1, e2⟩ := hF i hi'
      rw [ha, Addr.add_lit] at z0 z1
      simp only [List.getElem_map, List.getElem_range]
      exact ⟨by rw [z0, e0], e1, V1 i, by rw [Nat.add_assoc]; exact z1, e2⟩
set_option maxRecDepth 100000 in
theorem file_open {H : Type} {enc : TypeId × Value → H} {w : World} {base b0 : Nat} {spare : Nat → Bool} {held : Bool} {r : Reach} {v : Value} {d : DataW H} {p : List MemPlace}
    (hv : Value.okWide Tryz.prog w r b0 24 v) (h : DataW.Trod enc Tryz.prog w base spare held 24 v d p) : ∃ u x, (∃ n : ByteArray, v = .agg #[.string n, u] ∧ n.size ≤ maxLen) ∧ RBats 0 w u x := by
  obtain ⟨v0, v1, y0, y1, k, rfl, _, _, t0, t1⟩ := Joins.open_agg2 Tryz.underlying24 (by kernel_rfl) (by kernel_rfl) hv h
  obtain ⟨s, e0, _, hs⟩ := DataW.trod_string Tryz.underlying9 t0
  obtain rfl : v0 = .string s := by simpa using e0
  obtain ⟨x, hx⟩ := bats_of_trod t1
  exact ⟨v1, x, ⟨s, rfl, hs⟩, hx⟩
end Go.Proofs.YtholbhjfmfanbaaGreat
/- Answers that hold a File: what makes them, what compares and marks them. -/
namespace Go.Proofs.YtholbhjfmfanbaaGreat
open Go.RowKit
theorem fourF {w : World} {G : Nat} {T : TypeId} {a b c d : Value} (R : Row w G T [a, b, c, d]) (A B C D : Value) :
    ((((w.setCell ⟨G, 0, none⟩ A).setCell ⟨G, 1, none⟩ B).setCell ⟨G, 2, none⟩ C).setCell ⟨G, 3, none⟩ D).cell? ⟨G, 0, none⟩ = some A ∧
    ((((w.setCell ⟨G, 0, none⟩ A).setCell ⟨G, 1, none⟩ B).setCell ⟨G, 2, none⟩ C).setCell ⟨G, 3, none⟩ D).cell? ⟨G, 1, none⟩ = some B ∧
    ((((w.setCell ⟨G, 0, none⟩ A).setCell ⟨G, 1, none⟩ B).setCell ⟨G, 2, none⟩ C).setCell ⟨G, 3, none⟩ D).cell? ⟨G, 2, none⟩ = some C ∧
    ((((w.setCell ⟨G, 0, none⟩ A).setCell ⟨G, 1, none⟩ B).setCell ⟨G, 2, none⟩ C).setCell ⟨G, 3, none⟩ D).cell? ⟨G, 3, none⟩ = some D ∧
    (∀ (w0 : World) (base : Nat), base ≤ G → Below base w0 w → Below base w0 ((((w.setCell ⟨G, 0, none⟩ A).setCell ⟨G, 1, none⟩ B).setCell ⟨G, 2, none⟩ C).setCell ⟨G, 3, none⟩ D)) ∧
    (∀ lo hi : Nat, (G < lo ∨ hi ≤ G) → SameIn lo hi w ((((w.setCell ⟨G, 0, none⟩ A).setCell ⟨G, 1, none⟩ B).setCell ⟨G, 2, none⟩ C).setCell ⟨G, 3, none⟩ D)) ∧
    ((((w.setCell ⟨G, 0, none⟩ A).setCell ⟨G, 1, none⟩ B).setCell ⟨G, 2, none⟩ C).setCell ⟨G, 3, none⟩ D).heap.size = w.heap.size := by
  have R4 := (((R.set (j := 0) A).set (j := 1) B).set (j := 2) C).set (j := 3) D
  refine ⟨R4.cell 0, R4.cell 1, R4.cell 2, R4.cell 3, fun w0 base hb h => (((h.setCell (p := ⟨G, 0, none⟩) hb A).setCell (p := ⟨G, 1, none⟩) hb B).setCell (p := ⟨G, 2, none⟩) hb C).setCell (p := ⟨G, 3, none⟩) hb D, fun lo hi h k h1 h2 _ => ?_, by simp [World.setCell]⟩
  have hk : k ≠ G := by omega
  rw [Below.heap_setCell _ ⟨G, 3, none⟩ D k hk, Below.heap_setCell _ ⟨G, 2, none⟩ C k hk, Below.heap_setCell _ ⟨G, 1, none⟩ B k hk, Below.heap_setCell _ ⟨G, 0, none⟩ A k hk]
/-- A File that is told, or a code. -/
abbrev FOut := Int × ByteArray × List Bat
def foV (R : FOut) (u : Value) : Value := .agg #[.string R.2.1, u, .int .i64 0, .int .i64 R.1]
theorem obats_nil (lo hi : Nat) (w : World) (p : Option Addr) : OBats lo hi w (.slice p 0 0) [] := ⟨p, 0, rfl, Nat.le_refl _, Nat.zero_le _, fun h => absurd h (Nat.lt_irrefl 0)⟩
theorem rbats_nil (B : Nat) (w : World) (p : Option Addr) : RBats B w (.slice p 0 0) [] := ⟨p, 0, rfl, Nat.le_refl _, Nat.zero_le _, fun h => absurd h (Nat.lt_irrefl 0)⟩
set_option maxHeartbeats 1000000 in
theorem fileTold_any (n : ByteArray) (p : Option Addr) (l c : Nat) (w : World) (hnb : n.size ≤ 281474976710656) :
    Calls Tryz.prog 53 #[.string n, .slice p l c] w fun e w' => e = .returned (.agg #[.string n, .slice p l c, .int .i64 0, .int .i64 0]) ∧ Below w.heap.size w w' := by
  have HB0 := hide ((Below.refl w.heap.size w).alloc (Nat.le_refl _) (.cells #[.string ⟨#[]⟩, .slice none 0 0, .int .i64 0, .int .i64 0] 40))
  have HRow0 := hide (row_new w [.string ⟨#[]⟩, .slice none 0 0, .int .i64 0, .int .i64 0] 40)
  go_enter Tryz.func53, Tryz.ntmps53
  go_wp2_with fail
  refine (clone_any n _ hnb).mono ?_
  rintro e w1 ⟨rfl, hb1⟩
  have HB1 := hide (HB0.out.trans (hb1.mono HB0.out.size))
  have R1 := HRow0.out.below hb1 HRow0.out.lt
  have c0 : w1.cell? ⟨w.heap.size, 0, none⟩ = some (.string ⟨#[]⟩) := R1.cell 0
  have c1 : w1.cell? ⟨w.heap.size, 1, none⟩ = some (.slice none 0 0) := R1.cell 1
  have c2 : w1.cell? ⟨w.heap.size, 2, none⟩ = some (.int .i64 0) := R1.cell 2
  have c3 : w1.cell? ⟨w.heap.size, 3, none⟩ = some (.int .i64 0) := R1.cell 3
  have f0 := R1.free 0
  have f1 := R1.free 1
  have f2 := R1.free 2
  have f3 := R1.free 3
  have HR1 := hide R1
  clear hb1 R1
  go_wp2
  obtain ⟨q0, q1, q2, q3, KF, _, _⟩ := fourF HR1.out (.string n) (.slice p l c) (.int .i64 0) (.int .i64 0)
  exact bodyPost_ret (v := .agg #[.string n, .slice p l c, .int .i64 0, .int .i64 0]) (by simp [results, Tryz.results53, go_sem, q0, q1, q2, q3]) rfl ⟨rfl, KF w w.heap.size (Nat.le_refl _) HB1.out⟩
set_option maxHeartbeats 1000000 in
theorem freshBatch_any (n : ByteArray) (v : Value) (xs : List Msg) (w : World) (hnb : n.size ≤ 281474976710656) (hn : wMsgs xs ≤ 1048576) (hr : RMsgs 0 w v xs) :
    Calls Tryz.prog 52 #[.string n, v] w fun e w' => ∃ p c, e = .returned (.agg #[.string n, .slice p xs.length c]) ∧ OMsgs (w.heap.size + 1) w'.heap.size w' (.slice p xs.length c) xs ∧ Below w.heap.size w w' := by
  obtain ⟨p, c, rfl⟩ := hr.isSlice
  have HR := hide hr
  have HB0 := hide ((Below.refl w.heap.size w).alloc (Nat.le_refl _) (.cells #[.string ⟨#[]⟩, .slice none 0 0] 49))
  have HRow0 := hide (row_new w [.string ⟨#[]⟩, .slice none 0 0] 49)
  have HSZ := hide (show w.heap.size + 1 ≤ (w.alloc (.cells #[.string ⟨#[]⟩, .slice none 0 0] 49)).heap.size by simp)
  clear hr
  go_enter Tryz.func52, Tryz.ntmps52
  go_wp2_with fail
  refine (clone_any n _ hnb).mono ?_
  rintro e w1 ⟨rfl, hb1⟩
  have HB1 := hide (HB0.out.trans (hb1.mono HB0.out.size))
  have HRow1 := hide (HRow0.out.below hb1 HRow0.out.lt)
  have HSZ1 := hide (Nat.le_trans HSZ.out hb1.size)
  clear hb1
  go_wp2_with fail
  refine (copyEachMessage_any _ xs _ hn (HR.out.below HB1.out)).mono ?_
  rintro e w2 ⟨p2, c2, rfl, ho2, hb2⟩
  have HB2 := hide (HB1.out.trans (hb2.mono HB1.out.size))
  have R2 := HRow1.out.below hb2 HRow1.out.lt
  have g0 : w2.cell? ⟨w.heap.size, 0, none⟩ = some (.string ⟨#[]⟩) := R2.cell 0
  have g1 : w2.cell? ⟨w.heap.size, 1, none⟩ = some (.slice none 0 0) := R2.cell 1
  have z0 := R2.free 0
  have z1 := R2.free 1
  have t2 := (R2.set (j := 0) (.string n)).set (j := 1) (.slice p2 xs.length c2)
  have q0 : ((w2.setCell ⟨w.heap.size, 0, none⟩ (.string n)).setCell ⟨w.heap.size, 1, none⟩ (.slice p2 xs.length c2)).cell? ⟨w.heap.size, 0, none⟩ = some (.string n) := t2.cell 0
  have q1 : ((w2.setCell ⟨w.heap.size, 0, none⟩ (.string n)).setCell ⟨w.heap.size, 1, none⟩ (.slice p2 xs.length c2)).cell? ⟨w.heap.size, 1, none⟩ = some (.slice p2 xs.length c2) := t2.cell 1
  have HBE := hide ((HB2.out.setCell (p := ⟨w.heap.size, 0, none⟩) (Nat.le_refl _) (.string n)).setCell (p := ⟨w.heap.size, 1, none⟩) (Nat.le_refl _) (.slice p2 xs.length c2))
  have es : ((w2.setCell ⟨w.heap.size, 0, none⟩ (.string n)).setCell ⟨w.heap.size, 1, none⟩ (.slice p2 xs.length c2)).heap.size = w2.heap.size := by simp [World.setCell]
  have HOE : Hid (OMsgs (w.heap.size + 1) ((w2.setCell ⟨w.heap.size, 0, none⟩ (.string n)).setCell ⟨w.heap.size, 1, none⟩ (.slice p2 xs.length c2)).heap.size ((w2.setCell ⟨w.heap.size, 0, none⟩ (.string n)).setCell ⟨w.heap.size, 1, none⟩ (.slice p2 xs.length c2)) (.slice p2 xs.length c2) xs) := hide (by
    rw [es]
    have hs := HSZ1.out
    exact OMsgs.wide ((ho2.keep (SameIn.set w2 (g := w.heap.size) (j := 0) (.string n) (by omega))).keep (SameIn.set _ _ (by omega))) (by omega : w.heap.size + 1 ≤ w1.heap.size) (Nat.le_refl _))
  clear hb2 R2 ho2 t2 es
  go_wp2
  exact bodyPost_ret (v := .agg #[.string n, .slice p2 xs.length c2]) (by simp [results, Tryz.results52, go_sem, q0, q1]) rfl ⟨_, _, rfl, HOE.out, HBE.out⟩
theorem l08Ill_any (c : Int) (w : World) :
    Calls Tryz.prog 47 #[.int .i64 c] w fun e w' => e = .returned (.agg #[.string ⟨#[]⟩, .slice none 0 0, .int .i64 0, .int .i64 c]) ∧ Below w.heap.size w w' := by
  go_enter Tryz.func47, Tryz.ntmps47
  go_wp2
  exact bodyPost_ret (v := .agg #[.string ⟨#[]⟩, .slice none 0 0, .int .i64 0, .int .i64 c]) (by simp [results, Tryz.results47, go_sem]) rfl ⟨rfl, (Below.refl _ _).alloc (Nat.le_refl _) _⟩
set_option maxHeartbeats 1000000 in
theorem eqFileOut_same (R : FOut) (u u' : Value) (B B' : Nat) (w : World) (hn : wBats R.2.2 ≤ 1048576) (hr : RBats B w u R.2.2) (hr' : RBats B' w u' R.2.2) :
    Calls Tryz.prog 23 #[foV R u, foV R u'] w fun e w' => e = .returned (.bool true) ∧ Below w.heap.size w w' := by
  obtain ⟨code, n, x⟩ := R
  dsimp only [foV] at *
  have HR := hide hr
  have HR' := hide hr'
  obtain ⟨p, c, rfl⟩ := hr.isSlice
  obtain ⟨p', c', rfl⟩ := hr'.isSlice
  clear hr hr'
  have HB0 := hide (((Below.refl w.heap.size w).alloc (Nat.le_refl _) (.cells #[.string n, .slice p x.length c, .int .i64 0, .int .i64 code] 40)).alloc (by simp) (.cells #[.string n, .slice p' x.length c', .int .i64 0, .int .i64 code] 40))
  have HRa := hide ((row_new w [.string n, .slice p x.length c, .int .i64 0, .int .i64 code] 40).alloc (.cells #[.string n, .slice p' x.length c', .int .i64 0, .int .i64 code] 40))
  have HRb : Hid (Row ((w.alloc (.cells #[.string n, .slice p x.length c, .int .i64 0, .int .i64 code] 40)).alloc (.cells #[.string n, .slice p' x.length c', .int .i64 0, .int .i64 code] 40)) (w.heap.size + 1) 40 [.string n, .slice p' x.length c', .int .i64 0, .int .i64 code]) := hide (by
    have := row_new (w.alloc (.cells #[.string n, .slice p x.length c, .int .i64 0, .int .i64 code] 40)) [.string n, .slice p' x.length c', .int .i64 0, .int .i64 code] 40
    simpa using this)
  go_enter Tryz.func23, Tryz.ntmps23
  go_wp2_with fail
  refine (eqFile_same n _ _ x B B' _ hn (HR.out.below HB0.out) (HR'.out.below HB0.out)).mono ?_
  rintro e w1 ⟨rfl, hb1⟩
  have Ra := HRa.out.below hb1 HRa.out.lt
  have Rb := HRb.out.below hb1 HRb.out.lt
  have a2 : w1.cell? ⟨w.heap.size, 2, none⟩ = some (.int .i64 0) := Ra.cell 2
  have a3 : w1.cell? ⟨w.heap.size, 3, none⟩ = some (.int .i64 code) := Ra.cell 3
  have b2 : w1.cell? ⟨w.heap.size + 1, 2, none⟩ = some (.int .i64 0) := Rb.cell 2
  have b3 : w1.cell? ⟨w.heap.size + 1, 3, none⟩ = some (.int .i64 code) := Rb.cell 3
  have HB := hide (HB0.out.trans (hb1.mono (by simp; omega)))
  clear hb1 Ra Rb
  go_wp2
  go_ret
  exact ⟨rfl, HB.out⟩
set_option maxHeartbeats 1000000 in
theorem markFileOut_own (lo hi : Nat) (R : FOut) (v : Value) (k : Nat) (w : World) (hn : wBats R.2.2 ≤ 1048576) (hk : k + wBats R.2.2 ≤ 4000000) (hr : OBats lo hi w v R.2.2) :
    Calls Tryz.prog 24 #[foV R v, .int .i64 (k : Int)] w fun e w' => e = .returned (.int .i64 ((k + cntBats R.2.2 : Nat) : Int)) ∧ OBats lo hi w' v (mkBats k R.2.2) ∧ Within lo hi w w' := by
  obtain ⟨code, n, xs⟩ := R
  dsimp only [foV] at *
  obtain ⟨p, c, rfl⟩ := hr.isSlice
  have hb0 : Below w.heap.size w (w.alloc (.cells #[.string n, .slice p xs.length c, .int .i64 0, .int .i64 code] 40)) := (Below.refl _ _).alloc (Nat.le_refl _) _
  have HB0 := hide hb0
  have HR := hide (hr.keep (SameIn.ofBelow hb0))
  clear hr hb0
  go_enter Tryz.func24, Tryz.ntmps24
  go_wp2_with fail
  refine (markFile_own lo hi n _ xs k _ hn hk HR.out).mono ?_
  rintro e w1 ⟨rfl, hok, hw⟩
  have HO := hide hok
  have HW := hide ((Within.ofBelow HB0.out).trans hw)
  clear hok hw
  go_wp2
  go_ret
  exact ⟨rfl, HO.out, HW.out⟩
set_option maxHeartbeats 1000000 in
theorem heldFileOut_own (lo hi : Nat) (R : FOut) (v : Value) (k : Nat) (w : World) (hn : wBats R.2.2 ≤ 1048576) (hk : k + wBats R.2.2 ≤ 4000000) (hr : OBats lo hi w v (mkBats k R.2.2)) :
    Calls Tryz.prog 25 #[foV R v, .int .i64 (k : Int)] w fun e w' => e = .returned (.int .i64 ((k + cntBats R.2.2 : Nat) : Int)) ∧ Below w.heap.size w w' := by
  obtain ⟨code, n, xs⟩ := R
  dsimp only [foV] at *
  obtain ⟨p, c, hv⟩ := hr.isSlice
  have hml : (mkBats k xs).length = xs.length := mkL_len cntBat mkBat xs k
  rw [hml] at hv
  subst hv
  clear hml
  have hb0 : Below w.heap.size w (w.alloc (.cells #[.string n, .slice p xs.length c, .int .i64 0, .int .i64 code] 40)) := (Below.refl _ _).alloc (Nat.le_refl _) _
  have HB0 := hide hb0
  have HR := hide (hr.keep (SameIn.ofBelow hb0))
  clear hr hb0
  go_enter Tryz.func25, Tryz.ntmps25
  go_wp2_with fail
  refine (heldFile_own lo hi n _ xs k _ hn hk HR.out).mono ?_
  rintro e w1 ⟨rfl, hb⟩
  have HB := hide (HB0.out.trans (hb.mono HB0.out.size))
  have hpos : ¬ (((k + cntBats xs : Nat) : Int)) < 0 := by omega
  clear hb
  go_wp2
  go_ret
  exact ⟨rfl, HB.out⟩
end Go.Proofs.YtholbhjfmfanbaaGreat
