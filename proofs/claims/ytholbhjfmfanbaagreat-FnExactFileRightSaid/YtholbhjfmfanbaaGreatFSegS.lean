/- The laws' own helpers over a Segment: how much it takes, a copy, are two alike. -/
import Derived.Test.YtholbhjfmfanbaaGreatFNestF
namespace Go.Proofs.YtholbhjfmfanbaaGreat
open Go.RowKit
abbrev RFlds (B : Nat) : World → Value → List (List (List (List ByteArray))) → Prop := RL B (RFld B)
theorem RFlds.mono {B B' : Nat} {w : World} {v : Value} {x : List (List (List (List ByteArray)))} (h : RFlds B w v x) (hB : B' ≤ B) : RFlds B' w v x := RL.mono h hB fun _ _ h => RFld.mono h hB

set_option maxHeartbeats 2000000 in
theorem szSegment_any (n : ByteArray) (u : Value) (x : List (List (List (List ByteArray)))) (left : Int) (w : World) (hn : n.size ≤ maxLen) (hl0 : 0 ≤ left) (hl : left ≤ 1048576) (hr : RFlds 0 w u x) :
    Calls Tryz.prog 122 #[.agg #[.string n, u], .int .i64 left] w fun e w' => e = .returned (.int .i64 (szOf (n.size + wFlds x) left)) ∧ Below w.heap.size w w' := by
  unfold maxLen at hn
  have HB0 : Hid (∀ p c, Below w.heap.size w (w.alloc (.cells #[.string n, .slice p x.length c] 146))) := fun p c => (Below.refl _ _).alloc (Nat.le_refl _) _
  have HR := hide hr
  obtain ⟨p, c, rfl⟩ := hr.isSlice
  clear hr
  by_cases h0 : left - (n.size : Int) < 0
  · have HS := hide (show szOf (n.size + wFlds x) left = -1 from szOf_no (by omega))
    go_enter Tryz.func122, Tryz.ntmps122
    go_wp2
    go_ret
    exact ⟨ret_int HS.out.symm, HB0.out _ _⟩
  · go_enter Tryz.func122, Tryz.ntmps122
    go_wp2_with fail
    refine (szFieldS_any _ x (left - (n.size : Int)) _ (by omega) (by omega) (HR.out.below (HB0.out _ _))).mono ?_
    rintro e w1 ⟨rfl, hb1⟩
    have HB := hide ((HB0.out p c).trans (hb1.mono (by simp)))
    clear hb1
    by_cases h : ((wFlds x : Nat) : Int) ≤ left - (n.size : Int)
    · have HS := hide (show szOf (n.size + wFlds x) left = left - (n.size : Int) - ((wFlds x : Nat) : Int) by rw [szOf_yes (by omega)]; omega)
      rw [szOf_yes h]
      go_wp2
      go_ret
      exact ⟨ret_int HS.out.symm, HB.out⟩
    · have HS := hide (show szOf (n.size + wFlds x) left = -1 from szOf_no (by omega))
      rw [szOf_no h]
      go_wp2
      go_ret
      exact ⟨ret_int HS.out.symm, HB.out⟩

set_option maxHeartbeats 2000000 in
theorem toSegment_any (n : ByteArray) (u : Value) (x : List (List (List (List ByteArray)))) (w : World) (hn : wFlds x ≤ 1048576) (hr : RFlds 0 w u x) :
    Calls Tryz.prog 124 #[.agg #[.string n, u]] w fun e w' => ∃ p c, e = .returned (.agg #[.string n, .slice p x.length c]) ∧ RFlds w.heap.size w' (.slice p x.length c) x ∧ Below w.heap.size w w' := by
  obtain ⟨p, c, rfl⟩ := hr.isSlice
  obtain ⟨W, hW⟩ : ∃ W, W = (((w.alloc (.cells #[.string n, .slice p x.length c] 146)).alloc (.cells #[.string ⟨#[]⟩, .slice none 0 0] 85)).alloc (.cells #[.string n, .slice none 0 0] 85)) := ⟨_, rfl⟩
  have hb0 : Below w.heap.size w W := by rw [hW]; exact (((Below.refl _ _).alloc (Nat.le_refl _) _).alloc (by simp) _).alloc (by simp; omega) _
  have HR := hide (hr.below hb0)
  have HB0 := hide hb0
  have R1 : Row W (w.heap.size + 1) 85 [.string ⟨#[]⟩, .slice none 0 0] := by
    rw [hW]
    have := (row_new (w.alloc (.cells #[.string n, .slice p x.length c] 146)) [.string ⟨#[]⟩, .slice none 0 0] 85).alloc (.cells #[.string n, .slice none 0 0] 85)
    simpa using this
  have R2 : Row W (w.heap.size + 2) 85 [.string n, .slice none 0 0] := by
    rw [hW]
    have := row_new ((w.alloc (.cells #[.string n, .slice p x.length c] 146)).alloc (.cells #[.string ⟨#[]⟩, .slice none 0 0] 85)) [.string n, .slice none 0 0] 85
    simpa using this
  have hsz : W.heap.size = w.heap.size + 3 := by rw [hW]; simp
  clear hr hb0
  go_enter Tryz.func124, Tryz.ntmps124
  go_wp2_with fail
  rw [← hW]
  refine (toFieldS_any _ x _ hn HR.out).mono ?_
  rintro e w1 ⟨p1, c1, rfl, hr1, hb1⟩
  clear hW
  have r1 := R1.below hb1 (by omega)
  have r2 := R2.below hb1 (by omega)
  have f2 : w1.cell? ⟨w.heap.size + 2, 1, none⟩ = some (.slice none 0 0) := r2.cell 1
  have z2 := r2.free 1
  have s2 := r2.set (j := 1) (.slice p1 x.length c1)
  have s1 := r1.other (b := w.heap.size + 2) (j := 1) (by omega) (.slice p1 x.length c1)
  have g2 : (w1.setCell ⟨w.heap.size + 2, 1, none⟩ (.slice p1 x.length c1)).cell? ⟨w.heap.size + 2, 1, none⟩ = some (.slice p1 x.length c1) := s2.cell 1
  have g20 : (w1.setCell ⟨w.heap.size + 2, 1, none⟩ (.slice p1 x.length c1)).cell? ⟨w.heap.size + 2, 0, none⟩ = some (.string n) := s2.cell 0
  have g1 : (w1.setCell ⟨w.heap.size + 2, 1, none⟩ (.slice p1 x.length c1)).cell? ⟨w.heap.size + 1, 0, none⟩ = some (.string ⟨#[]⟩) := s1.cell 0
  have g11 : (w1.setCell ⟨w.heap.size + 2, 1, none⟩ (.slice p1 x.length c1)).cell? ⟨w.heap.size + 1, 1, none⟩ = some (.slice none 0 0) := s1.cell 1
  have z1 := s1.free 0
  have z11 := s1.free 1
  have t1 := (s1.set (j := 0) (.string n)).set (j := 1) (.slice p1 x.length c1)
  have q0 : (((w1.setCell ⟨w.heap.size + 2, 1, none⟩ (.slice p1 x.length c1)).setCell ⟨w.heap.size + 1, 0, none⟩ (.string n)).setCell ⟨w.heap.size + 1, 1, none⟩ (.slice p1 x.length c1)).cell? ⟨w.heap.size + 1, 0, none⟩ = some (.string n) := t1.cell 0
  have q1 : (((w1.setCell ⟨w.heap.size + 2, 1, none⟩ (.slice p1 x.length c1)).setCell ⟨w.heap.size + 1, 0, none⟩ (.string n)).setCell ⟨w.heap.size + 1, 1, none⟩ (.slice p1 x.length c1)).cell? ⟨w.heap.size + 1, 1, none⟩ = some (.slice p1 x.length c1) := t1.cell 1
  rw [hsz] at hr1
  have HRE := hide (RFlds.mono (Lasts.go (B := w.heap.size + 3) (Same.set _ _ (by omega)) (Lasts.go (B := w.heap.size + 3) (Same.set _ _ (by omega)) (Lasts.go (B := w.heap.size + 3) (Same.set w1 (g := w.heap.size + 2) (j := 1) (.slice p1 x.length c1) (by omega)) hr1))) (by omega : w.heap.size ≤ w.heap.size + 3) : RFlds w.heap.size (((w1.setCell ⟨w.heap.size + 2, 1, none⟩ (.slice p1 x.length c1)).setCell ⟨w.heap.size + 1, 0, none⟩ (.string n)).setCell ⟨w.heap.size + 1, 1, none⟩ (.slice p1 x.length c1)) (.slice p1 x.length c1) x)
  have HBE := hide ((((HB0.out.trans (hb1.mono (by omega))).setCell (p := ⟨w.heap.size + 2, 1, none⟩) (by show w.heap.size ≤ w.heap.size + 2; omega) (.slice p1 x.length c1)).setCell (p := ⟨w.heap.size + 1, 0, none⟩) (by show w.heap.size ≤ w.heap.size + 1; omega) (.string n)).setCell (p := ⟨w.heap.size + 1, 1, none⟩) (by show w.heap.size ≤ w.heap.size + 1; omega) (.slice p1 x.length c1))
  clear hr1 hb1 r1 r2 s1 s2 t1
  go_wp2
  exact bodyPost_ret (v := .agg #[.string n, .slice p1 x.length c1]) (by simp [results, Tryz.results124, go_sem, q0, q1]) rfl ⟨_, _, rfl, HRE.out, HBE.out⟩

set_option maxHeartbeats 1000000 in
theorem eqSegment_same (n : ByteArray) (u u' : Value) (x : List (List (List (List ByteArray)))) (B B' : Nat) (w : World) (hn : wFlds x ≤ 1048576) (hr : RFlds B w u x) (hr' : RFlds B' w u' x) :
    Calls Tryz.prog 90 #[.agg #[.string n, u], .agg #[.string n, u']] w fun e w' => e = .returned (.bool true) ∧ Below w.heap.size w w' := by
  have HR := hide hr
  have HR' := hide hr'
  obtain ⟨p, c, rfl⟩ := hr.isSlice
  obtain ⟨p', c', rfl⟩ := hr'.isSlice
  clear hr hr'
  have HB0 := hide (((Below.refl w.heap.size w).alloc (Nat.le_refl _) (.cells #[.string n, .slice p x.length c] 85)).alloc (by simp) (.cells #[.string n, .slice p' x.length c'] 85))
  go_enter Tryz.func90, Tryz.ntmps90
  go_wp2_with fail
  refine (eqFieldS_same _ _ x B B' _ hn (HR.out.below HB0.out) (HR'.out.below HB0.out)).mono ?_
  rintro e w1 ⟨rfl, hb1⟩
  have HB := hide (HB0.out.trans (hb1.mono (by simp; omega)))
  clear hb1
  go_wp2
  go_ret
  exact ⟨rfl, HB.out⟩
end Go.Proofs.YtholbhjfmfanbaaGreat
