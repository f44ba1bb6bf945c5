/- Are two disks alike; marks put into one, and looked for again. -/
import Derived.Test.YtjikecebbmepbaaDoorDiskTo
namespace Go.Proofs.YtjikecebbmepbaaDoor
open Go.RowKit

set_option maxHeartbeats 2000000 in
theorem eqDisk_same (us up vs vp : Value) (xs : List ByteArray) (ps : List (Int × ByteArray)) (w : World) (hn : xs.length ≤ 1048576) (hn2 : ps.length ≤ 1048576)
    (h1 : Reads w us xs) (h2 : ReadsP w up ps) (h3 : Reads w vs xs) (h4 : ReadsP w vp ps) :
    Calls Tryd.prog 9 #[.agg #[us, up], .agg #[vs, vp]] w fun e w' => e = .returned (.bool true) ∧ Below w.heap.size w w' := by
  have hb0 : Below w.heap.size w ((w.alloc (.cells #[us, up] 30)).alloc (.cells #[vs, vp] 30)) :=
    ((Below.refl _ _).alloc (Nat.le_refl _) _).alloc (by simp) _
  have H1 := hide (h1.below hb0 (Nat.le_refl _))
  have H2 := hide (h2.below hb0 (Nat.le_refl _))
  have H3 := hide (h3.below hb0 (Nat.le_refl _))
  have H4 := hide (h4.below hb0 (Nat.le_refl _))
  have HB0 := hide hb0
  obtain ⟨p1, c1, rfl, _⟩ := h1
  obtain ⟨p2, c2, rfl, _⟩ := h2
  obtain ⟨p3, c3, rfl, _⟩ := h3
  obtain ⟨p4, c4, rfl, _⟩ := h4
  clear hb0
  go_enter Tryd.func9, Tryd.ntmps9
  go_wp2_with fail
  refine (eqStringS_same _ _ xs _ hn H1.out H3.out).mono ?_
  rintro e w1 ⟨rfl, hb1⟩
  have HB1 := hide hb1
  obtain ⟨hc1, hf1⟩ := bcell hb1
  have H2' := hide (H2.out.below hb1 (Nat.le_refl _))
  have H4' := hide (H4.out.below hb1 (Nat.le_refl _))
  clear hb1
  go_wp2_with fail
  refine (eqPendingS_same _ _ ps _ hn2 H2'.out H4'.out).mono ?_
  rintro e w2 ⟨rfl, hb2⟩
  have k1 := HB0.out.trans (HB1.out.mono HB0.out.size)
  have HB2 := hide (k1.trans (hb2.mono k1.size))
  clear hb2 k1 hc1 hf1
  go_wp2
  go_ret
  exact ⟨rfl, HB2.out⟩

set_option maxHeartbeats 2000000 in
theorem markDisk_own (B : Nat) (us up : Value) (xs : List ByteArray) (ps : List (Int × ByteArray)) (k : Nat) (w : World) (hn : xs.length ≤ 1048576) (hn2 : ps.length ≤ 1048576) (hk : k ≤ 5000000)
    (h1 : OwnS 9 B w us xs) (h2 : OwnP 60 B w up ps) (hd : ∀ x ∈ leads us, x ∉ leads up) :
    Calls Tryd.prog 13 #[.agg #[us, up], .int .i64 (k : Int)] w fun e w' => e = .returned (.int .i64 ((k + xs.length + ps.length * 2 : Nat) : Int)) ∧
      OwnS 9 B w' us (marks k xs.length) ∧ OwnP 60 B w' up (marksP (k + xs.length) ps.length) ∧ Kept (leads us ++ leads up) w w' := by
  have hb0 : Below w.heap.size w (w.alloc (.cells #[us, up] 30)) := (Below.refl _ _).alloc (Nat.le_refl _) _
  have H1 := hide (h1.below hb0 (Nat.le_refl _))
  have H2 := hide (h2.below hb0 (Nat.le_refl _))
  have L1 := hide h1.leads
  have L2 := hide h2.leads
  have D := hide hd
  have HB0 := hide hb0
  clear hb0 hd
  obtain ⟨p1, n1, c1, E1⟩ : ∃ p n c, us = .slice p n c := by obtain ⟨p, c, e, _⟩ := h1.reads; exact ⟨_, _, _, e⟩
  obtain ⟨p2, n2, c2, E2⟩ : ∃ p n c, up = .slice p n c := by obtain ⟨p, c, e, _⟩ := h2.reads; exact ⟨_, _, _, e⟩
  clear h1 h2
  subst E1 E2
  go_enter Tryd.func13, Tryd.ntmps13
  go_wp2_with fail
  refine (markS_own B _ xs k _ hn (by omega) H1.out).mono ?_
  rintro e w1 ⟨rfl, ho1, hk1⟩
  have hni : w.heap.size ∉ leads (.slice p1 n1 c1) := fun h => Nat.lt_irrefl _ (L1.out _ h).2
  have a1 : w1.cell? ⟨w.heap.size, 1, none⟩ = some (.slice p2 n2 c2) := (hk1.row (row_new w [.slice p1 n1 c1, .slice p2 n2 c2] 30) hni).cell 1
  have H2' := hide (H2.out.kept hk1 (fun x hx hm => D.out x hm hx))
  have HO1 := hide ho1
  have HK1 := hide hk1
  clear ho1 hk1 hni
  go_wp2_with fail
  refine (markP_own B _ ps (k + xs.length) _ hn2 (by omega) H2'.out).mono ?_
  rintro e w2 ⟨rfl, ho2, hk2⟩
  have HO1' := hide (HO1.out.kept hk2 (fun x hx => D.out x hx))
  have HO2 := hide ho2
  have HK := hide ((((Kept.ofBelow HB0.out).mono (S' := leads (.slice p1 n1 c1) ++ leads (.slice p2 n2 c2)) (by simp)).trans (HK1.out.mono (fun x hx => List.mem_append_left _ hx))).trans (hk2.mono (fun x hx => List.mem_append_right _ hx)))
  clear ho2 hk2 a1
  go_wp2
  go_ret
  exact ⟨rfl, HO1'.out, HO2.out, HK.out⟩

set_option maxHeartbeats 2000000 in
theorem heldDisk_any (us up : Value) (k n m : Nat) (w : World) (hn : n ≤ 1048576) (hn2 : m ≤ 1048576) (hk : k ≤ 5000000)
    (h1 : Reads w us (marks k n)) (h2 : ReadsP w up (marksP (k + n) m)) :
    Calls Tryd.prog 38 #[.agg #[us, up], .int .i64 (k : Int)] w fun e w' => e = .returned (.int .i64 ((k + n + m * 2 : Nat) : Int)) ∧ Below w.heap.size w w' := by
  have hb0 : Below w.heap.size w (w.alloc (.cells #[us, up] 30)) := (Below.refl _ _).alloc (Nat.le_refl _) _
  have H1 := hide (h1.below hb0 (Nat.le_refl _))
  have H2 := hide (h2.below hb0 (Nat.le_refl _))
  have HB0 := hide hb0
  obtain ⟨p1, c1, rfl, _⟩ := h1
  obtain ⟨p2, c2, rfl, _⟩ := h2
  clear hb0
  go_enter Tryd.func38, Tryd.ntmps38
  go_wp2_with fail
  refine (heldStringS_any _ k n _ hn (by omega) H1.out).mono ?_
  rintro e w1 ⟨rfl, hb1⟩
  have HB1 := hide hb1
  obtain ⟨hc1, hf1⟩ := bcell hb1
  have H2' := hide (H2.out.below hb1 (Nat.le_refl _))
  have t1 : ¬ (((k + n : Nat) : Int) < 0) := by omega
  clear hb1
  go_wp2_with fail
  refine (heldPendingS_any _ (k + n) m _ hn2 (by omega) H2'.out).mono ?_
  rintro e w2 ⟨rfl, hb2⟩
  have t2 : ¬ (((k + n + m * 2 : Nat) : Int) < 0) := by omega
  have k1 := HB0.out.trans (HB1.out.mono HB0.out.size)
  have HB2 := hide (k1.trans (hb2.mono k1.size))
  clear hb2 k1 hc1 hf1
  go_wp2
  go_ret
  exact ⟨rfl, HB2.out⟩
end Go.Proofs.YtjikecebbmepbaaDoor
