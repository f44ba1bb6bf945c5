/- eq, mark and held of what the store's faces hand back. -/
import Derived.Test.YtnpbmaajgiapmaaGreatDoorXG37IRArea
namespace Go.Proofs.YtnpbmaajgiapmaaGreatDoor
open Go.RowKit
set_option maxHeartbeats 2000000 in
theorem eqStoreOut_same (us up vs vp : Value) (xs : List ByteArray) (ps : List (Int × ByteArray)) (t : ByteArray) (c : Int) (w : World) (hn : xs.length ≤ 1048576) (hn2 : ps.length ≤ 1048576)
    (h1 : Reads w us xs) (h2 : ReadsP w up ps) (h3 : Reads w vs xs) (h4 : ReadsP w vp ps) :
    Calls Tryz.prog 19 #[.agg #[us, up, .string t, .int .i64 c], .agg #[vs, vp, .string t, .int .i64 c]] w fun e w' => e = .returned (.bool true) ∧ Below w.heap.size w w' := by
  have hb0 : Below w.heap.size w ((w.alloc (.cells #[us, up, .string t, .int .i64 c] 38)).alloc (.cells #[vs, vp, .string t, .int .i64 c] 38)) :=
    ((Below.refl _ _).alloc (Nat.le_refl _) _).alloc (by simp) _
  have H1 := hide (h1.below hb0 (Nat.le_refl _))
  have H2 := hide (h2.below hb0 (Nat.le_refl _))
  have H3 := hide (h3.below hb0 (Nat.le_refl _))
  have H4 := hide (h4.below hb0 (Nat.le_refl _))
  have HB0 := hide hb0
  obtain ⟨p1, c1, rfl, _⟩ := h1
  obtain ⟨p2, c2, rfl, _⟩ := h2
  obtain ⟨p3, c3, rfl, _⟩ := h3
  obtain ⟨p4, c4, rfl, _⟩ := h4
  clear hb0
  go_enter Tryz.func19, Tryz.ntmps19
  go_wp2_with fail
  refine (eqDisk_same _ _ _ _ xs ps _ hn hn2 H1.out H2.out H3.out H4.out).mono ?_
  rintro e w1 ⟨rfl, hb1⟩
  have HB1 := hide (HB0.out.trans (hb1.mono HB0.out.size))
  obtain ⟨hc1, hf1⟩ := bcell hb1
  clear hb1
  go_wp2
  go_ret
  exact ⟨rfl, HB1.out⟩

set_option maxHeartbeats 2000000 in
theorem markStoreOut_own (B : Nat) (us up : Value) (xs : List ByteArray) (ps : List (Int × ByteArray)) (t : ByteArray) (c : Int) (k : Nat) (w : World) (hn : xs.length ≤ 1048576) (hn2 : ps.length ≤ 1048576) (hk : k ≤ 5000000)
    (h1 : OwnS 9 B w us xs) (h2 : OwnP 92 B w up ps) (hd : ∀ x ∈ leads us, x ∉ leads up) :
    Calls Tryz.prog 20 #[.agg #[us, up, .string t, .int .i64 c], .int .i64 (k : Int)] w fun e w' => e = .returned (.int .i64 ((k + xs.length + ps.length * 2 : Nat) : Int)) ∧
      OwnS 9 B w' us (marks k xs.length) ∧ OwnP 92 B w' up (marksP (k + xs.length) ps.length) ∧ Kept (leads us ++ leads up) w w' := by
  have hb0 : Below w.heap.size w (w.alloc (.cells #[us, up, .string t, .int .i64 c] 38)) := (Below.refl _ _).alloc (Nat.le_refl _) _
  have H1 := hide (h1.below hb0 (Nat.le_refl _))
  have H2 := hide (h2.below hb0 (Nat.le_refl _))
  have D := hide hd
  have HB0 := hide hb0
  clear hb0 hd
  obtain ⟨p1, n1, c1, E1⟩ : ∃ p n c, us = .slice p n c := by obtain ⟨p, c, e, _⟩ := h1.reads; exact ⟨_, _, _, e⟩
  obtain ⟨p2, n2, c2, E2⟩ : ∃ p n c, up = .slice p n c := by obtain ⟨p, c, e, _⟩ := h2.reads; exact ⟨_, _, _, e⟩
  clear h1 h2
  subst E1 E2
  go_enter Tryz.func20, Tryz.ntmps20
  go_wp2_with fail
  refine (markDisk_own B _ _ xs ps k _ hn hn2 hk H1.out H2.out D.out).mono ?_
  rintro e w1 ⟨rfl, ho1, ho2, hk1⟩
  have HO1 := hide ho1
  have HO2 := hide ho2
  have HK := hide (((Kept.ofBelow HB0.out).mono (S' := leads (.slice p1 n1 c1) ++ leads (.slice p2 n2 c2)) (by simp)).trans hk1)
  clear ho1 ho2 hk1
  go_wp2
  go_ret
  exact ⟨rfl, HO1.out, HO2.out, HK.out⟩

set_option maxHeartbeats 2000000 in
theorem heldStoreOut_any (us up : Value) (t : ByteArray) (c : Int) (k n m : Nat) (w : World) (hn : n ≤ 1048576) (hn2 : m ≤ 1048576) (hk : k ≤ 5000000)
    (h1 : Reads w us (marks k n)) (h2 : ReadsP w up (marksP (k + n) m)) :
    Calls Tryz.prog 21 #[.agg #[us, up, .string t, .int .i64 c], .int .i64 (k : Int)] w fun e w' => e = .returned (.int .i64 ((k + n + m * 2 : Nat) : Int)) ∧ Below w.heap.size w w' := by
  have hb0 : Below w.heap.size w (w.alloc (.cells #[us, up, .string t, .int .i64 c] 38)) := (Below.refl _ _).alloc (Nat.le_refl _) _
  have H1 := hide (h1.below hb0 (Nat.le_refl _))
  have H2 := hide (h2.below hb0 (Nat.le_refl _))
  have HB0 := hide hb0
  obtain ⟨p1, c1, rfl, _⟩ := h1
  obtain ⟨p2, c2, rfl, _⟩ := h2
  clear hb0
  go_enter Tryz.func21, Tryz.ntmps21
  go_wp2_with fail
  refine (heldDisk_any _ _ k n m _ hn hn2 hk H1.out H2.out).mono ?_
  rintro e w1 ⟨rfl, hb1⟩
  have t2 : ¬ (((k + n + m * 2 : Nat) : Int) < 0) := by omega
  have HB2 := hide (HB0.out.trans (hb1.mono HB0.out.size))
  clear hb1
  go_wp2
  go_ret
  exact ⟨rfl, HB2.out⟩
end Go.Proofs.YtnpbmaajgiapmaaGreatDoor
