/- The same of what the area's functions hand back: a disk, a text, two numbers. -/
import Derived.Test.YtjikecebbmepbaaDoorDiskEq
import Derived.Test.YtjikecebbmepbaaDoorSRead
namespace Go.Proofs.YtjikecebbmepbaaDoor
open Go.RowKit

structure AOut where
  xs : List ByteArray
  ps : List (Int × ByteArray)
  t : ByteArray
  g : Int
  c : Int
def aill (c : Int) : AOut := ⟨[], [], ⟨#[]⟩, 0, c⟩
/-- The call ended with the answer o, in memory of its own. -/
def AOutIs (B : Nat) (e : Ending) (w : World) (o : AOut) : Prop :=
  ∃ us up, e = .returned (.agg #[us, up, .string o.t, .int .i64 o.g, .int .i64 o.c]) ∧ OwnS 9 B w us o.xs ∧ OwnP 60 B w up o.ps ∧ ∀ x ∈ leads us, x ∉ leads up
theorem AOutIs.ill (B : Nat) (w : World) (c : Int) : AOutIs B (.returned (.agg #[.slice none 0 0, .slice none 0 0, .string ⟨#[]⟩, .int .i64 0, .int .i64 c])) w (aill c) :=
  ⟨_, _, rfl, OwnS.none _ _ _, OwnP.none _ _ _, fun _ h => by cases h⟩
/-- Five cells of a new block, all of them stored to. -/
theorem five {w : World} {b : Nat} {T : TypeId} {x0 x1 x2 x3 x4 : Value} (h : Row w b T [x0, x1, x2, x3, x4]) (y0 y1 y2 y3 y4 : Value) :
    let w' := (((((w.setCell ⟨b, 0, none⟩ y0).setCell ⟨b, 1, none⟩ y1).setCell ⟨b, 2, none⟩ y2).setCell ⟨b, 3, none⟩ y3).setCell ⟨b, 4, none⟩ y4)
    w'.cell? ⟨b, 0, none⟩ = some y0 ∧ w'.cell? ⟨b, 1, none⟩ = some y1 ∧ w'.cell? ⟨b, 2, none⟩ = some y2 ∧ w'.cell? ⟨b, 3, none⟩ = some y3 ∧ w'.cell? ⟨b, 4, none⟩ = some y4 ∧ Kept [b] w w' := by
  have r1 := (((((h.set (j := 0) y0).set (j := 1) y1).set (j := 2) y2).set (j := 3) y3).set (j := 4) y4)
  refine ⟨r1.cell 0, r1.cell 1, r1.cell 2, r1.cell 3, r1.cell 4, ?_⟩
  exact ((((((Kept.refl _ _).set (by simp) y0).set (by simp) y1).set (by simp) y2).set (by simp) y3).set (by simp) y4)

set_option maxHeartbeats 2000000 in
theorem eqAreaOut_same (us up vs vp : Value) (xs : List ByteArray) (ps : List (Int × ByteArray)) (t : ByteArray) (g c : Int) (w : World) (hn : xs.length ≤ 1048576) (hn2 : ps.length ≤ 1048576)
    (h1 : Reads w us xs) (h2 : ReadsP w up ps) (h3 : Reads w vs xs) (h4 : ReadsP w vp ps) :
    Calls Tryd.prog 12 #[.agg #[us, up, .string t, .int .i64 g, .int .i64 c], .agg #[vs, vp, .string t, .int .i64 g, .int .i64 c]] w fun e w' => e = .returned (.bool true) ∧ Below w.heap.size w w' := by
  have hb0 : Below w.heap.size w ((w.alloc (.cells #[us, up, .string t, .int .i64 g, .int .i64 c] 35)).alloc (.cells #[vs, vp, .string t, .int .i64 g, .int .i64 c] 35)) :=
    ((Below.refl _ _).alloc (Nat.le_refl _) _).alloc (by simp) _
  have H1 := hide (h1.below hb0 (Nat.le_refl _))
  have H2 := hide (h2.below hb0 (Nat.le_refl _))
  have H3 := hide (h3.below hb0 (Nat.le_refl _))
  have H4 := hide (h4.below hb0 (Nat.le_refl _))
  have HB0 := hide hb0
  obtain ⟨p1, c1, rfl, _⟩ := h1
  obtain ⟨p2, c2, rfl, _⟩ := h2
  obtain ⟨p3, c3, rfl, _⟩ := h3
  obtain ⟨p4, c4, rfl, _⟩ := h4
  clear hb0
  go_enter Tryd.func12, Tryd.ntmps12
  go_wp2_with fail
  refine (eqDisk_same _ _ _ _ xs ps _ hn hn2 H1.out H2.out H3.out H4.out).mono ?_
  rintro e w1 ⟨rfl, hb1⟩
  have HB1 := hide (HB0.out.trans (hb1.mono HB0.out.size))
  obtain ⟨hc1, hf1⟩ := bcell hb1
  clear hb1
  go_wp2
  go_ret
  exact ⟨rfl, HB1.out⟩

set_option maxHeartbeats 2000000 in
theorem markAreaOut_own (B : Nat) (us up : Value) (xs : List ByteArray) (ps : List (Int × ByteArray)) (t : ByteArray) (g c : Int) (k : Nat) (w : World) (hn : xs.length ≤ 1048576) (hn2 : ps.length ≤ 1048576) (hk : k ≤ 5000000)
    (h1 : OwnS 9 B w us xs) (h2 : OwnP 60 B w up ps) (hd : ∀ x ∈ leads us, x ∉ leads up) :
    Calls Tryd.prog 14 #[.agg #[us, up, .string t, .int .i64 g, .int .i64 c], .int .i64 (k : Int)] w fun e w' => e = .returned (.int .i64 ((k + xs.length + ps.length * 2 : Nat) : Int)) ∧
      OwnS 9 B w' us (marks k xs.length) ∧ OwnP 60 B w' up (marksP (k + xs.length) ps.length) ∧ Kept (leads us ++ leads up) w w' := by
  have hb0 : Below w.heap.size w (w.alloc (.cells #[us, up, .string t, .int .i64 g, .int .i64 c] 35)) := (Below.refl _ _).alloc (Nat.le_refl _) _
  have H1 := hide (h1.below hb0 (Nat.le_refl _))
  have H2 := hide (h2.below hb0 (Nat.le_refl _))
  have D := hide hd
  have HB0 := hide hb0
  clear hb0 hd
  obtain ⟨p1, n1, c1, E1⟩ : ∃ p n c, us = .slice p n c := by obtain ⟨p, c, e, _⟩ := h1.reads; exact ⟨_, _, _, e⟩
  obtain ⟨p2, n2, c2, E2⟩ : ∃ p n c, up = .slice p n c := by obtain ⟨p, c, e, _⟩ := h2.reads; exact ⟨_, _, _, e⟩
  clear h1 h2
  subst E1 E2
  go_enter Tryd.func14, Tryd.ntmps14
  go_wp2_with fail
  refine (markDisk_own B _ _ xs ps k _ hn hn2 hk H1.out H2.out D.out).mono ?_
  rintro e w1 ⟨rfl, ho1, ho2, hk1⟩
  have HO1 := hide ho1
  have HO2 := hide ho2
  have HK := hide (((Kept.ofBelow HB0.out).mono (S' := leads (.slice p1 n1 c1) ++ leads (.slice p2 n2 c2)) (by simp)).trans hk1)
  clear ho1 ho2 hk1
  go_wp2
  go_ret
  exact ⟨rfl, HO1.out, HO2.out, HK.out⟩

set_option maxHeartbeats 2000000 in
theorem heldAreaOut_any (us up : Value) (t : ByteArray) (g c : Int) (k n m : Nat) (w : World) (hn : n ≤ 1048576) (hn2 : m ≤ 1048576) (hk : k ≤ 5000000)
    (h1 : Reads w us (marks k n)) (h2 : ReadsP w up (marksP (k + n) m)) :
    Calls Tryd.prog 15 #[.agg #[us, up, .string t, .int .i64 g, .int .i64 c], .int .i64 (k : Int)] w fun e w' => e = .returned (.int .i64 ((k + n + m * 2 : Nat) : Int)) ∧ Below w.heap.size w w' := by
  have hb0 : Below w.heap.size w (w.alloc (.cells #[us, up, .string t, .int .i64 g, .int .i64 c] 35)) := (Below.refl _ _).alloc (Nat.le_refl _) _
  have H1 := hide (h1.below hb0 (Nat.le_refl _))
  have H2 := hide (h2.below hb0 (Nat.le_refl _))
  have HB0 := hide hb0
  obtain ⟨p1, c1, rfl, _⟩ := h1
  obtain ⟨p2, c2, rfl, _⟩ := h2
  clear hb0
  go_enter Tryd.func15, Tryd.ntmps15
  go_wp2_with fail
  refine (heldDisk_any _ _ k n m _ hn hn2 hk H1.out H2.out).mono ?_
  rintro e w1 ⟨rfl, hb1⟩
  have t2 : ¬ (((k + n + m * 2 : Nat) : Int) < 0) := by omega
  have HB2 := hide (HB0.out.trans (hb1.mono HB0.out.size))
  clear hb1
  go_wp2
  go_ret
  exact ⟨rfl, HB2.out⟩
end Go.Proofs.YtjikecebbmepbaaDoor
