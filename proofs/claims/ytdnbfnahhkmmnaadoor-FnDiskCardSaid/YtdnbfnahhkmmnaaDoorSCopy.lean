/- A copy of a disk, as the specification makes it. -/
import Derived.Test.YtdnbfnahhkmmnaaDoorSRight
import Derived.Test.YtdnbfnahhkmmnaaDoorCopy
import Derived.Deep.RegionHeld3
namespace Go.Proofs.YtdnbfnahhkmmnaaDoor
open Go.RowKit

theorem Kept.alloc {S : List Nat} {a b : World} (h : Kept S a b) (o : Obj) : Kept S a (b.alloc o) := h.below ((Below.refl b.heap.size b).alloc (Nat.le_refl _) o)
theorem Kept.drew {S : List Nat} {a b : World} (h : Kept S a b) : Kept S a b.drew := ⟨h.os, h.tape, h.output, h.size, h.block⟩
theorem Kept.set {S : List Nat} {a b : World} {G j : Nat} (h : Kept S a b) (hG : G ∈ S) (v : Value) : Kept S a (b.setCell ⟨G, j, none⟩ v) :=
  h.trans ((Kept.ofSet b G j v).mono (by simpa using hG))

theorem Row.after {w w' : World} {g : Nat} {T : TypeId} {cs : List Value} (hb : Below w.heap.size w w') (h : Row w g T cs) : Row w' g T cs := h.below hb h.lt
theorem Row.drew {w : World} {g : Nat} {T : TypeId} {cs : List Value} (h : Row w g T cs) : Row w.drew g T cs := h

theorem l02Ill_any (c : Int) (w : World) :
    Calls Tryd.prog 37 #[.int .i64 c] w fun e w' => e = .returned (.agg #[.slice none 0 0, .slice none 0 0, .string ⟨#[]⟩, .int .i64 c]) ∧ Below w.heap.size w w' := by
  go_enter Tryd.func37, Tryd.ntmps37
  go_wp2
  exact bodyPost_ret (v := .agg #[.slice none 0 0, .slice none 0 0, .string ⟨#[]⟩, .int .i64 c]) (by simp [results, Tryd.results37, go_sem]) rfl ⟨rfl, (Below.refl _ _).alloc (Nat.le_refl _) _⟩

set_option maxRecDepth 100000 in
set_option maxHeartbeats 3200000 in
theorem l02Copy_any (vs vp : Value) (xs : List ByteArray) (ps : List (Int × ByteArray)) (w : World) (hn : xs.length ≤ 1048576) (hn2 : ps.length ≤ 1048576) (hr : Reads w vs xs) (hp : ReadsP w vp ps) :
    Calls Tryd.prog 39 #[.agg #[vs, vp]] w fun e w' => ∃ us up, e = .returned (.agg #[us, up]) ∧ OwnS 9 w.heap.size w' us xs ∧ OwnP 46 w.heap.size w' up ps ∧ (∀ x ∈ leads us, x ∉ leads up) ∧ (ps = [] → ∃ b, up = .slice (some b) 0 0) ∧ Below w.heap.size w w' := by
  obtain ⟨i0, hi, hz0, hz1, hz2⟩ := info_parts Tryd.infoStr
  obtain ⟨j0, hj, hy0, hy1, hy2⟩ := info_parts Tryd.infoPend
  obtain ⟨W, hW⟩ : ∃ W, W = ((w.alloc (.cells #[vs, vp] 26)).alloc (.cells #[.slice none 0 0, .slice none 0 0] 26)) := ⟨_, rfl⟩
  have hb0 : Below w.heap.size w W := by rw [hW]; exact ((Below.refl _ _).alloc (Nat.le_refl _) _).alloc (by simp) _
  have HR := hide (hr.below hb0 (Nat.le_refl _))
  have HP := hide (hp.below hb0 (Nat.le_refl _))
  have HB0 := hide hb0
  have L1 := hr.leads
  have L2 := hp.leads
  obtain ⟨p1, c1, rfl, hq⟩ := hr
  obtain ⟨p2, c2, rfl, hq2⟩ := hp
  have R0 : Row W w.heap.size 26 [.slice p1 xs.length c1, .slice p2 ps.length c2] := by rw [hW]; exact (row_new w [.slice p1 xs.length c1, .slice p2 ps.length c2] 26).alloc _
  have R1 : Row W (w.heap.size + 1) 26 [.slice none 0 0, .slice none 0 0] := by
    rw [hW]
    have := row_new (w.alloc (.cells #[.slice p1 xs.length c1, .slice p2 ps.length c2] 26)) [.slice none 0 0, .slice none 0 0] 26
    simpa using this
  clear hq hq2 hb0
  have hzp : (Value.agg #[.int .i64 0, .string ⟨#[]⟩]).cells.size = 2 := by simp [Value.cells]
  go_enter Tryd.func39, Tryd.ntmps39
  go_wp2_with fail
  rw [← hW]
  have hsz : W.heap.size = w.heap.size + 2 := by rw [hW]; simp
  clear hW
  have HS : ∀ x, Kept [w.heap.size + 1] W x → x.cell? ⟨w.heap.size, 0, none⟩ = some (.slice p1 xs.length c1) ∧ x.cell? ⟨w.heap.size, 1, none⟩ = some (.slice p2 ps.length c2) ∧ Kept [w.heap.size + 1] W x :=
    fun x h => ⟨(h.row R0 (by simp)).cell 0, (h.row R0 (by simp)).cell 1, h⟩
  have HS' := hide HS
  have N1 : ∀ x ∈ leads (.slice p1 xs.length c1), x ∉ [w.heap.size + 1] := fun x hx => by have := L1 x hx; simp; omega
  have N2 : ∀ x ∈ leads (.slice p2 ps.length c2), x ∉ [w.heap.size + 1] := fun x hx => by have := L2 x hx; simp; omega
  clear L1 L2
  clear HS
  go_region_held3 (fun x => x.cell? ⟨w.heap.size, 0, none⟩ = some (.slice p1 xs.length c1) ∧ x.cell? ⟨w.heap.size, 1, none⟩ = some (.slice p2 ps.length c2) ∧ Kept [w.heap.size + 1] W x)
    ((go_split_ands; refine HS'.out _ ?_; repeat (first | with_reducible assumption | with_reducible exact Kept.refl _ _ | with_reducible refine Kept.drew ?_ | with_reducible refine Kept.alloc ?_ _ | with_reducible refine Kept.set ?_ (by simp) _ | with_reducible refine Kept.below ?_ (by assumption))))
    ((go_split_ands; first
      | (refine step_copyS (by rfl) (.tmp 3) (.tmp 5) 23 (by rfl) 9 i0 (.string ⟨#[]⟩) Tryd.underlying23 hi hz0 hz1 hz2 rfl (by exact ⟨_, rfl⟩) (.slice p1 xs.length c1) (by rfl) xs (by refine Kept.reads (S := [w.heap.size + 1]) ?_ HR.out N1; assumption) hn ?_; intro q1 d1 w1 ho1 hb1; have HO1 := hide ho1; clear ho1)
      | (refine step_copyP (by rfl) (.tmp 7) (.tmp 9) 24 (by rfl) 46 j0 (.agg #[.int .i64 0, .string ⟨#[]⟩]) Tryd.underlying24 hj hy0 hy1 hy2 hzp (by exact ⟨_, rfl⟩) (.slice p2 ps.length c2) (by rfl) ps (by refine Kept.readsP (S := [w.heap.size + 1]) ?_ HP.out N2; assumption) hn2 ?_; intro q2 d2 w2 ho2 hb2 hemp; have HE := hide hemp; clear hemp; have HO2 := hide ho2; clear ho2
         have R2 : Row w2 (w.heap.size + 1) 26 [.slice none 0 0, .slice none 0 0] := by
           refine Row.after hb2 ?_
           repeat (first | with_reducible exact R1 | with_reducible refine Row.after hb1 ?_ | with_reducible refine Row.drew ?_ | with_reducible refine Row.alloc ?_ _)
         have f0 : w2.cell? ⟨w.heap.size + 1, 0, none⟩ = some (.slice none 0 0) := R2.cell 0
         have f1 : w2.cell? ⟨w.heap.size + 1, 1, none⟩ = some (.slice none 0 0) := R2.cell 1
         have g0 := R2.free 0
         have g1 := R2.free 1)))
  all_goals
    rename_i hHeld
    have KW := hide hHeld.2.2
    have k12 : Below w1.heap.size w1 w2 := by
      first
        | with_reducible exact hb2
        | exact ((Below.refl w1.heap.size w1).alloc (Nat.le_refl _) _).trans (hb2.mono (by simp))
    have l1 : ∀ x ∈ leads (.slice q1 xs.length d1), w.heap.size + 2 ≤ x ∧ x < w1.heap.size := fun x hx => by
      have := HO1.out.leads x hx
      simp at this
      omega
    have l2 : ∀ x ∈ leads (.slice q2 ps.length d2), w1.heap.size ≤ x := fun x hx => by
      have := HO2.out.leads x hx
      try simp at this
      omega
    have z1 : w.heap.size + 2 ≤ w1.heap.size := by have := hb1.size; simp at this; omega
    have KF : Kept [w.heap.size + 1] w2 ((w2.setCell ⟨w.heap.size + 1, 0, none⟩ (.slice q1 xs.length d1)).setCell ⟨w.heap.size + 1, 1, none⟩ (.slice q2 ps.length d2)) := ((Kept.refl _ _).set (by simp) _).set (by simp) _
    have RF := (R2.set (j := 0) (.slice q1 xs.length d1)).set (j := 1) (.slice q2 ps.length d2)
    have q0' : ((w2.setCell ⟨w.heap.size + 1, 0, none⟩ (.slice q1 xs.length d1)).setCell ⟨w.heap.size + 1, 1, none⟩ (.slice q2 ps.length d2)).cell? ⟨w.heap.size + 1, 0, none⟩ = some (.slice q1 xs.length d1) := RF.cell 0
    have q1' : ((w2.setCell ⟨w.heap.size + 1, 0, none⟩ (.slice q1 xs.length d1)).setCell ⟨w.heap.size + 1, 1, none⟩ (.slice q2 ps.length d2)).cell? ⟨w.heap.size + 1, 1, none⟩ = some (.slice q2 ps.length d2) := RF.cell 1
    have O1 := ((HO1.out.below k12 (Nat.le_refl _)).kept KF (fun x hx => by have := l1 x hx; simp; omega)).mono (B' := w.heap.size) (by simp; omega)
    have O2 := (HO2.out.kept KF (fun x hx => by have := l2 x hx; simp; omega)).mono (B' := w.heap.size) (by (try simp); omega)
    have D12 : ∀ x ∈ leads (.slice q1 xs.length d1), x ∉ leads (.slice q2 ps.length d2) := fun x hx hy => by
      have h1 := l1 x hx
      have h2 := l2 x hy
      omega
    have KB := KW.out.toBelow HB0.out HB0.out.size (by simp)
    clear hHeld
    go_wp2
    exact bodyPost_ret (v := .agg #[.slice q1 xs.length d1, .slice q2 ps.length d2]) (by simp [results, Tryd.results39, go_sem, q0', q1']) rfl ⟨_, _, rfl, O1, O2, D12, fun h => by obtain ⟨b, rfl, rfl⟩ := HE.out h; exact ⟨b, by rw [h]; rfl⟩, KB⟩
end Go.Proofs.YtdnbfnahhkmmnaaDoor
