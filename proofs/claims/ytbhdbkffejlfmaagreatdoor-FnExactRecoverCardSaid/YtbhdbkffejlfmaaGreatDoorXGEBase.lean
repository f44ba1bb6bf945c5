/- An EngineOut: what the engine's faces hand back; eq, mark and held of it. -/
import Derived.Test.YtbhdbkffejlfmaaGreatDoorXGIRArea
import Derived.Test.YtbhdbkffejlfmaaGreatDoorXGMark
import Derived.Test.YtbhdbkffejlfmaaGreatDoorXGSCopy
import Derived.Laws.CopyOwn
import Derived.Laws.Tables
namespace Go.Proofs.YtbhdbkffejlfmaaGreatDoor
open Go.RowKit
/-- The call ended with the store's answer o as an EngineOut, in memory of its own. -/
def EOutIs (B : Nat) (e : Ending) (w : World) (o : KOut) : Prop :=
  ∃ us up, e = .returned (.agg #[us, up, .string o.t, .int .i64 0, .string ⟨#[]⟩, .int .i64 o.c]) ∧ OwnS 9 B w us o.xs ∧ OwnP 73 B w up o.ps ∧ ∀ x ∈ leads us, x ∉ leads up
theorem EOutIs.ill (B : Nat) (w : World) (c : Int) : EOutIs B (.returned (.agg #[.slice none 0 0, .slice none 0 0, .string ⟨#[]⟩, .int .i64 0, .string ⟨#[]⟩, .int .i64 c])) w (kill c) :=
  ⟨_, _, rfl, OwnS.none _ _ _, OwnP.none _ _ _, fun _ h => by cases h⟩
theorem wpList_store_rowE {P : Program} {ops : Array Oper} {rest : List Oper} {o : Oper} {a : Act} {w : World} {Q : Exit → Act → World → Prop} (hgd : o.guard = none) (ty : TypeId) (x y : Operand) (ho : o.op = .store ty x y)
    (g : Nat) (cells : Array Value) (hx : a.eval x = .pointer (some ⟨g, 0, none⟩)) (hy : a.eval y = .agg cells) (t : TypeId) (old : Array Value) (hg : w.heap[g]? = some (.cells old t (0, 0))) (hi : (P.info? ty).map (·.size) = some cells.size)
    (hold : old.size = cells.size) (h1 : cells.all (·.oneCell') = true) (h : wpList P ops Q rest (a.put o.dst undef) (w.setRow g cells)) : wpList P ops Q (o :: rest) a w :=
  wpList_plain hgd fun _ hK => wp_store_row ty x y ho g cells hx hy t old hg hi hold h1 (hK _ _ h)
theorem keptSetE (w : World) (g : Nat) (cs : Array Value) : Kept [g] w (w.setRow g cs) := ⟨rfl, rfl, rfl, by simp [World.setRow], fun k _ hn => setRow_other _ _ _ _ (by simpa using hn)⟩
theorem endE {w W Z V : World} {us up : Value} {o : KOut} (h0 : Below w.heap.size w W) (hz : Below W.heap.size W Z) (hws : w.heap.size + 2 = W.heap.size) (k : Kept [w.heap.size + 1] Z V)
    (o1 : OwnS 9 (w.heap.size + 2) Z us o.xs) (o2 : OwnP 73 (w.heap.size + 2) Z up o.ps) (dd : ∀ x ∈ leads us, x ∉ leads up) :
    EOutIs w.heap.size (.returned (.agg #[us, up, .string o.t, .int .i64 0, .string ⟨#[]⟩, .int .i64 o.c])) V o ∧ Below w.heap.size w V := by
  have hb := h0.trans (hz.mono h0.size)
  refine ⟨⟨us, up, rfl, (o1.kept k ?_).mono (by omega), (o2.kept k ?_).mono (by omega), dd⟩, k.toBelow hb hb.size (by simp)⟩
  · intro x hx
    have := (o1.leads x hx).1
    simp
    omega
  · intro x hx
    have := (o2.leads x hx).1
    simp
    omega

set_option maxHeartbeats 4000000 in
theorem storeTold_any (p1 p2 : Option Addr) (n1 c1 n2 c2 : Nat) (t : ByteArray) (c : Int) (w : World) :
    Calls Tryz.prog 28 #[.agg #[.slice p1 n1 c1, .slice p2 n2 c2, .string t, .int .i64 c]] w fun e w' => e = .returned (.agg #[.slice p1 n1 c1, .slice p2 n2 c2, .string t, .int .i64 0, .string ⟨#[]⟩, .int .i64 c]) ∧ Below w.heap.size w w' := by
  have HB0 := hide (show Below w.heap.size w ((w.alloc (.cells #[.slice p1 n1 c1, .slice p2 n2 c2, .string t, .int .i64 c] 51)).alloc (.cells #[.slice p1 n1 c1, .slice p2 n2 c2, .string t, .int .i64 0, .string ⟨#[]⟩, .int .i64 c] 31)) from ((Below.refl _ _).alloc (Nat.le_refl _) _).alloc (by simp) _)
  go_enter Tryz.func28, Tryz.ntmps28
  go_wp2
  exact bodyPost_ret (v := .agg #[.slice p1 n1 c1, .slice p2 n2 c2, .string t, .int .i64 0, .string ⟨#[]⟩, .int .i64 c]) (by simp [results, Tryz.results28, go_sem]) rfl ⟨rfl, HB0.out⟩

set_option maxHeartbeats 4000000 in
theorem l10Of_any (p1 p2 : Option Addr) (n1 c1 n2 c2 : Nat) (t : ByteArray) (c : Int) (w : World) :
    Calls Tryz.prog 24 #[.agg #[.slice p1 n1 c1, .slice p2 n2 c2, .string t, .int .i64 c]] w fun e w' => e = .returned (.agg #[.slice p1 n1 c1, .slice p2 n2 c2, .string t, .int .i64 0, .string ⟨#[]⟩, .int .i64 c]) ∧ Below w.heap.size w w' := by
  have HB0 := hide (show Below w.heap.size w ((w.alloc (.cells #[.slice p1 n1 c1, .slice p2 n2 c2, .string t, .int .i64 c] 51)).alloc (.cells #[.slice p1 n1 c1, .slice p2 n2 c2, .string t, .int .i64 0, .string ⟨#[]⟩, .int .i64 c] 31)) from ((Below.refl _ _).alloc (Nat.le_refl _) _).alloc (by simp) _)
  go_enter Tryz.func24, Tryz.ntmps24
  go_wp2
  exact bodyPost_ret (v := .agg #[.slice p1 n1 c1, .slice p2 n2 c2, .string t, .int .i64 0, .string ⟨#[]⟩, .int .i64 c]) (by simp [results, Tryz.results24, go_sem]) rfl ⟨rfl, HB0.out⟩

set_option maxHeartbeats 2000000 in
theorem eqEngineOut_same (us up vs vp : Value) (xs : List ByteArray) (ps : List (Int × ByteArray)) (t : ByteArray) (c : Int) (w : World) (hn : xs.length ≤ 1048576) (hn2 : ps.length ≤ 1048576)
    (h1 : Reads w us xs) (h2 : ReadsP w up ps) (h3 : Reads w vs xs) (h4 : ReadsP w vp ps) :
    Calls Tryz.prog 10 #[.agg #[us, up, .string t, .int .i64 0, .string ⟨#[]⟩, .int .i64 c], .agg #[vs, vp, .string t, .int .i64 0, .string ⟨#[]⟩, .int .i64 c]] w fun e w' => e = .returned (.bool true) ∧ Below w.heap.size w w' := by
  have hb0 : Below w.heap.size w ((w.alloc (.cells #[us, up, .string t, .int .i64 0, .string ⟨#[]⟩, .int .i64 c] 31)).alloc (.cells #[vs, vp, .string t, .int .i64 0, .string ⟨#[]⟩, .int .i64 c] 31)) :=
    ((Below.refl _ _).alloc (Nat.le_refl _) _).alloc (by simp) _
  have H1 := hide (h1.below hb0 (Nat.le_refl _))
  have H2 := hide (h2.below hb0 (Nat.le_refl _))
  have H3 := hide (h3.below hb0 (Nat.le_refl _))
  have H4 := hide (h4.below hb0 (Nat.le_refl _))
  have HB0 := hide hb0
  obtain ⟨p1, c1, rfl, _⟩ := h1
  obtain ⟨p2, c2, rfl, _⟩ := h2
  obtain ⟨p3, c3, rfl, _⟩ := h3
  obtain ⟨p4, c4, rfl, _⟩ := h4
  clear hb0
  go_enter Tryz.func10, Tryz.ntmps10
  go_wp2_with fail
  refine (eqDisk_same _ _ _ _ xs ps _ hn hn2 H1.out H2.out H3.out H4.out).mono ?_
  rintro e w1 ⟨rfl, hb1⟩
  have HB1 := hide (HB0.out.trans (hb1.mono HB0.out.size))
  obtain ⟨hc1, hf1⟩ := bcell hb1
  clear hb1
  go_wp2
  go_ret
  exact ⟨rfl, HB1.out⟩

set_option maxHeartbeats 2000000 in
theorem markEngineOut_own (B : Nat) (us up : Value) (xs : List ByteArray) (ps : List (Int × ByteArray)) (t : ByteArray) (c : Int) (k : Nat) (w : World) (hn : xs.length ≤ 1048576) (hn2 : ps.length ≤ 1048576) (hk : k ≤ 5000000)
    (h1 : OwnS 9 B w us xs) (h2 : OwnP 73 B w up ps) (hd : ∀ x ∈ leads us, x ∉ leads up) :
    Calls Tryz.prog 13 #[.agg #[us, up, .string t, .int .i64 0, .string ⟨#[]⟩, .int .i64 c], .int .i64 (k : Int)] w fun e w' => e = .returned (.int .i64 ((k + xs.length + ps.length * 2 : Nat) : Int)) ∧
      OwnS 9 B w' us (marks k xs.length) ∧ OwnP 73 B w' up (marksP (k + xs.length) ps.length) ∧ Kept (leads us ++ leads up) w w' := by
  have hb0 : Below w.heap.size w (w.alloc (.cells #[us, up, .string t, .int .i64 0, .string ⟨#[]⟩, .int .i64 c] 31)) := (Below.refl _ _).alloc (Nat.le_refl _) _
  have H1 := hide (h1.below hb0 (Nat.le_refl _))
  have H2 := hide (h2.below hb0 (Nat.le_refl _))
  have D := hide hd
  have HB0 := hide hb0
  clear hb0 hd
  obtain ⟨p1, n1, c1, E1⟩ : ∃ p n c, us = .slice p n c := by obtain ⟨p, c, e, _⟩ := h1.reads; exact ⟨_, _, _, e⟩
  obtain ⟨p2, n2, c2, E2⟩ : ∃ p n c, up = .slice p n c := by obtain ⟨p, c, e, _⟩ := h2.reads; exact ⟨_, _, _, e⟩
  clear h1 h2
  subst E1 E2
  go_enter Tryz.func13, Tryz.ntmps13
  go_wp2_with fail
  refine (markDisk_own B _ _ xs ps k _ hn hn2 hk H1.out H2.out D.out).mono ?_
  rintro e w1 ⟨rfl, ho1, ho2, hk1⟩
  have HO1 := hide ho1
  have HO2 := hide ho2
  have HK := hide (((Kept.ofBelow HB0.out).mono (S' := leads (.slice p1 n1 c1) ++ leads (.slice p2 n2 c2)) (by simp)).trans hk1)
  clear ho1 ho2 hk1
  go_wp2
  go_ret
  exact ⟨rfl, HO1.out, HO2.out, HK.out⟩

set_option maxHeartbeats 2000000 in
theorem heldEngineOut_any (us up : Value) (t : ByteArray) (c : Int) (k n m : Nat) (w : World) (hn : n ≤ 1048576) (hn2 : m ≤ 1048576) (hk : k ≤ 5000000)
    (h1 : Reads w us (marks k n)) (h2 : ReadsP w up (marksP (k + n) m)) :
    Calls Tryz.prog 14 #[.agg #[us, up, .string t, .int .i64 0, .string ⟨#[]⟩, .int .i64 c], .int .i64 (k : Int)] w fun e w' => e = .returned (.int .i64 ((k + n + m * 2 : Nat) : Int)) ∧ Below w.heap.size w w' := by
  have hb0 : Below w.heap.size w (w.alloc (.cells #[us, up, .string t, .int .i64 0, .string ⟨#[]⟩, .int .i64 c] 31)) := (Below.refl _ _).alloc (Nat.le_refl _) _
  have H1 := hide (h1.below hb0 (Nat.le_refl _))
  have H2 := hide (h2.below hb0 (Nat.le_refl _))
  have HB0 := hide hb0
  obtain ⟨p1, c1, rfl, _⟩ := h1
  obtain ⟨p2, c2, rfl, _⟩ := h2
  clear hb0
  go_enter Tryz.func14, Tryz.ntmps14
  go_wp2_with fail
  refine (heldDisk_any _ _ k n m _ hn hn2 hk H1.out H2.out).mono ?_
  rintro e w1 ⟨rfl, hb1⟩
  have t2 : ¬ (((k + n + m * 2 : Nat) : Int) < 0) := by omega
  have HB2 := hide (HB0.out.trans (hb1.mono HB0.out.size))
  clear hb1
  go_wp2
  go_ret
  exact ⟨rfl, HB2.out⟩
end Go.Proofs.YtbhdbkffejlfmaaGreatDoor
