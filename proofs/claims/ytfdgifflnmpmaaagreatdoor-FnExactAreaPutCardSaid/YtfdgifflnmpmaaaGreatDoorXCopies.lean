/- A copy of a disk, as the specification makes it. -/
import Derived.Test.YtfdgifflnmpmaaaGreatDoorXSRight
import Derived.Test.YtfdgifflnmpmaaaGreatDoorXCopy
import Derived.Deep.RegionHeld3
namespace Go.Proofs.YtfdgifflnmpmaaaGreatDoor
open Go.RowKit

theorem Kept.alloc {S : List Nat} {a b : World} (h : Kept S a b) (o : Obj) : Kept S a (b.alloc o) := h.below ((Below.refl b.heap.size b).alloc (Nat.le_refl _) o)
theorem Kept.drew {S : List Nat} {a b : World} (h : Kept S a b) : Kept S a b.drew := ⟨h.os, h.tape, h.output, h.size, h.block⟩
theorem Kept.set {S : List Nat} {a b : World} {G j : Nat} (h : Kept S a b) (hG : G ∈ S) (v : Value) : Kept S a (b.setCell ⟨G, j, none⟩ v) :=
  h.trans ((Kept.ofSet b G j v).mono (by simpa using hG))

theorem Row.after {w w' : World} {g : Nat} {T : TypeId} {cs : List Value} (hb : Below w.heap.size w w') (h : Row w g T cs) : Row w' g T cs := h.below hb h.lt
theorem Row.drew {w : World} {g : Nat} {T : TypeId} {cs : List Value} (h : Row w g T cs) : Row w.drew g T cs := h

theorem l02Ill_any (c : Int) (w : World) :
    Calls Tryz.prog 50 #[.int .i64 c] w fun e w' => e = .returned (.agg #[.slice none 0 0, .slice none 0 0, .string ⟨#[]⟩, .int .i64 c]) ∧ Below w.heap.size w w' := by
  go_enter Tryz.func50, Tryz.ntmps50
  go_wp2
  exact bodyPost_ret (v := .agg #[.slice none 0 0, .slice none 0 0, .string ⟨#[]⟩, .int .i64 c]) (by simp [results, Tryz.results50, go_sem]) rfl ⟨rfl, (Below.refl _ _).alloc (Nat.le_refl _) _⟩

set_option maxRecDepth 100000 in
set_option maxHeartbeats 3200000 in
theorem l02Copy_any (vs vp : Value) (xs : List ByteArray) (ps : List (Int × ByteArray)) (w : World) (hn : xs.length ≤ 1048576) (hn2 : ps.length ≤ 1048576) (hr : Reads w vs xs) (hp : ReadsP w vp ps) :
    Calls Tryz.prog 24 #[.agg #[vs, vp]] w fun e w' => ∃ us up, e = .returned (.agg #[us, up]) ∧ OwnS 9 w.heap.size w' us xs ∧ OwnP 77 w.heap.size w' up ps ∧ (∀ x ∈ leads us, x ∉ leads up) ∧ (ps = [] → ∃ b, up = .slice (some b) 0 0) ∧ Below w.heap.size w w' := by
  obtain ⟨i0, hi, hz0, hz1, hz2⟩ := info_parts Tryz.infoStr
  obtain ⟨j0, hj, hy0, hy1, hy2⟩ := info_parts Tryz.infoPend
  obtain ⟨W, hW⟩ : ∃ W, W = ((w.alloc (.cells #[vs, vp] 29)).alloc (.cells #[.slice none 0 0, .slice none 0 0] 29)) := ⟨_, rfl⟩
  have hb0 : Below w.heap.size w W := by rw [hW]; exact ((Below.refl _ _).alloc (Nat.le_refl _) _).alloc (by simp) _
  have HR := hide (hr.below hb0 (Nat.le_refl _))
  have HP := hide (hp.below hb0 (Nat.le_refl _))
  have HB0 := hide hb0
  have L1 := hr.leads
  have L2 := hp.leads
  obtain ⟨p1, c1, rfl, hq⟩ := hr
  obtain ⟨p2, c2, rfl, hq2⟩ := hp
  have R0 : Row W w.heap.size 29 [.slice p1 xs.length c1, .slice p2 ps.length c2] := by rw [hW]; exact (row_new w [.slice p1 xs.length c1, .slice p2 ps.length c2] 29).alloc _
  have R1 : Row W (w.heap.size + 1) 29 [.slice none 0 0, .slice none 0 0] := by
    rw [hW]
    have := row_new (w.alloc (.cells #[.slice p1 xs.length c1, .slice p2 ps.length c2] 29)) [.slice none 0 0, .slice none 0 0] 29
    simpa using this
  clear hq hq2 hb0
  have hzp : (Value.agg #[.int .i64 0, .string ⟨#[]⟩]).cells.size = 2 := by simp [Value.cells]
  go_enter Tryz.func24, Tryz.ntmps24
  go_wp2_with fail
  rw [← hW]
  have hsz : W.heap.size = w.heap.size + 2 := by rw [hW]; simp
  clear hW
  have HS : ∀ x, Kept [w.heap.size + 1] W x → x.cell? ⟨w.heap.size, 0, none⟩ = some (.slice p1 xs.length c1) ∧ x.cell? ⟨w.heap.size, 1, none⟩ = some (.slice p2 ps.length c2) ∧ Kept [w.heap.size + 1] W x :=
    fun x h => ⟨(h.row R0 (by simp)).cell 0, (h.row R0 (by simp)).cell 1, h⟩
  have HS' := hide HS
  have N1 : ∀ x ∈ leads (.slice p1 xs.length c1), x ∉ [w.heap.size + 1] := fun x hx => by have := L1 x hx; simp; omega
  have N2 : ∀ x ∈ leads (.slice p2 ps.length c2), x ∉ [w.heap.size + 1] := fun x hx => by have := L2 x hx; simp; omega
  clear L1 L2
  clear HS
  go_region_held3 (fun x => x.cell? ⟨w.heap.size, 0, none⟩ = some (.slice p1 xs.length c1) ∧ x.cell? ⟨w.heap.size, 1, none⟩ = some (.slice p2 ps.length c2) ∧ Kept [w.heap.size + 1] W x)
    ((go_split_ands; refine HS'.out _ ?_; repeat (first | with_reducible assumption | with_reducible exact Kept.refl _ _ | with_reducible refine Kept.drew ?_ | with_reducible refine Kept.alloc ?_ _ | with_reducible refine Kept.set ?_ (by simp) _ | with_reducible refine Kept.below ?_ (by assumption))))
    ((go_split_ands; first
      | (refine step_copyS (by rfl) (.tmp 3) (.tmp 5) 22 (by rfl) 9 i0 (.string ⟨#[]⟩) Tryz.underlying22 hi hz0 hz1 hz2 rfl (by exact ⟨_, rfl⟩) (.slice p1 xs.length c1) (by rfl) xs (by refine Kept.reads (S := [w.heap.size + 1]) ?_ HR.out N1; assumption) hn ?_; intro q1 d1 w1 ho1 hb1; have HO1 := hide ho1; clear ho1)
      | (refine step_copyP (by rfl) (.tmp 7) (.tmp 9) 27 (by rfl) 77 j0 (.agg #[.int .i64 0, .string ⟨#[]⟩]) Tryz.underlying27 hj hy0 hy1 hy2 hzp (by exact ⟨_, rfl⟩) (.slice p2 ps.length c2) (by rfl) ps (by refine Kept.readsP (S := [w.heap.size + 1]) ?_ HP.out N2; assumption) hn2 ?_; intro q2 d2 w2 ho2 hb2 hemp; have HE := hide hemp; clear hemp; have HO2 := hide ho2; clear ho2
         have R2 : Row w2 (w.heap.size + 1) 29 [.slice none 0 0, .slice none 0 0] := by
           refine Row.after hb2 ?_
           repeat (first | with_reducible exact R1 | with_reducible refine Row.after hb1 ?_ | with_reducible refine Row.drew ?_ | with_reducible refine Row.alloc ?_ _)
         have f0 : w2.cell? ⟨w.heap.size + 1, 0, none⟩ = some (.slice none 0 0) := R2.cell 0
         have f1 : w2.cell? ⟨w.heap.size + 1, 1, none⟩ = some (.slice none 0 0) := R2.cell 1
         have g0 := R2.free 0
         have g1 := R2.free 1)))
  all_goals
    rename_i hHeld
    have KW := hide hHeld.2.2
    have k12 : Below w1.heap.size w1 w2 := by
      first
        | with_reducible exact hb2
        | exact ((Below.refl w1.heap.size w1).alloc (Nat.le_refl _) _).trans (hb2.mono (by simp))
    have l1 : ∀ x ∈ leads (.slice q1 xs.length d1), w.heap.size + 2 ≤ x ∧ x < w1.heap.size := fun x hx => by
      have := HO1.out.leads x hx
      simp at this
      omega
    have l2 : ∀ x ∈ leads (.slice q2 ps.length d2), w1.heap.size ≤ x := fun x hx => by
      have := HO2.out.leads x hx
      try simp at this
      omega
    have z1 : w.heap.size + 2 ≤ w1.heap.size := by have := hb1.size; simp at this; omega
    have KF : Kept [w.heap.size + 1] w2 ((w2.setCell ⟨w.heap.size + 1, 0, none⟩ (.slice q1 xs.length d1)).setCell ⟨w.heap.size + 1, 1, none⟩ (.slice q2 ps.length d2)) := ((Kept.refl _ _).set (by simp) _).set (by simp) _
    have RF := (R2.set (j := 0) (.slice q1 xs.length d1)).set (j := 1) (.slice q2 ps.length d2)
    have q0' : ((w2.setCell ⟨w.heap.size + 1, 0, none⟩ (.slice q1 xs.length d1)).setCell ⟨w.heap.size + 1, 1, none⟩ (.slice q2 ps.length d2)).cell? ⟨w.heap.size + 1, 0, none⟩ = some (.slice q1 xs.length d1) := RF.cell 0
    have q1' : ((w2.setCell ⟨w.heap.size + 1, 0, none⟩ (.slice q1 xs.length d1)).setCell ⟨w.heap.size + 1, 1, none⟩ (.slice q2 ps.length d2)).cell? ⟨w.heap.size + 1, 1, none⟩ = some (.slice q2 ps.length d2) := RF.cell 1
    have O1 := ((HO1.out.below k12 (Nat.le_refl _)).kept KF (fun x hx => by have := l1 x hx; simp; omega)).mono (B' := w.heap.size) (by simp; omega)
    have O2 := (HO2.out.kept KF (fun x hx => by have := l2 x hx; simp; omega)).mono (B' := w.heap.size) (by (try simp); omega)
    have D12 : ∀ x ∈ leads (.slice q1 xs.length d1), x ∉ leads (.slice q2 ps.length d2) := fun x hx hy => by
      have h1 := l1 x hx
      have h2 := l2 x hy
      omega
    have KB := KW.out.toBelow HB0.out HB0.out.size (by simp)
    clear hHeld
    go_wp2
    exact bodyPost_ret (v := .agg #[.slice q1 xs.length d1, .slice q2 ps.length d2]) (by simp [results, Tryz.results24, go_sem, q0', q1']) rfl ⟨_, _, rfl, O1, O2, D12, fun h => by obtain ⟨b, rfl, rfl⟩ := HE.out h; exact ⟨b, by rw [h]; rfl⟩, KB⟩
end Go.Proofs.YtfdgifflnmpmaaaGreatDoor
/- What is held of a world stays when new memory is made: facts gone on with at one stroke. -/
namespace Go.Proofs.YtfdgifflnmpmaaaGreatDoor
open Go.RowKit

class Stab (P : World → Prop) : Prop where
  go : ∀ {w w' : World}, Below w.heap.size w w' → P w → P w'
instance stab_and (P Q : World → Prop) [Stab P] [Stab Q] : Stab (fun w => P w ∧ Q w) := ⟨fun hb h => ⟨Stab.go hb h.1, Stab.go hb h.2⟩⟩
instance stab_reads (v : Value) (xs : List ByteArray) : Stab (fun w => Reads w v xs) := ⟨fun hb h => h.below hb (Nat.le_refl _)⟩
instance stab_readsP (v : Value) (ps : List (Int × ByteArray)) : Stab (fun w => ReadsP w v ps) := ⟨fun hb h => h.below hb (Nat.le_refl _)⟩
instance stab_ownS (T : TypeId) (B : Nat) (v : Value) (xs : List ByteArray) : Stab (fun w => OwnS T B w v xs) := ⟨fun hb h => h.below hb (Nat.le_refl _)⟩
instance stab_ownP (T : TypeId) (B : Nat) (v : Value) (ps : List (Int × ByteArray)) : Stab (fun w => OwnP T B w v ps) := ⟨fun hb h => h.below hb (Nat.le_refl _)⟩
instance stab_row (g : Nat) (T : TypeId) (cs : List Value) : Stab (fun w => Row w g T cs) := ⟨fun hb h => Row.after hb h⟩
instance stab_below (w0 : World) : Stab (fun w => Below w0.heap.size w0 w) := ⟨fun hb h => h.trans (hb.mono h.size)⟩
instance stab_le (k : Nat) : Stab (fun w => k ≤ w.heap.size) := ⟨fun hb h => Nat.le_trans h hb.size⟩
theorem below_new (w : World) (o : Obj) : Below w.heap.size w (w.alloc o) := (Below.refl _ _).alloc (Nat.le_refl _) _

/-- What the slice v leads to lies from block lo on, ahead of block hi. -/
def In (v : Value) (lo hi : Nat) : Prop := ∀ x ∈ leads v, lo ≤ x ∧ x < hi
theorem OwnS.isIn {T : TypeId} {B : Nat} {w : World} {v : Value} {xs : List ByteArray} (h : OwnS T B w v xs) : In v B w.heap.size := h.leads
theorem OwnP.isIn {T : TypeId} {B : Nat} {w : World} {v : Value} {xs : List (Int × ByteArray)} (h : OwnP T B w v xs) : In v B w.heap.size := h.leads
theorem Reads.isIn {w : World} {v : Value} {xs : List ByteArray} (h : Reads w v xs) : In v 0 w.heap.size := fun x hx => ⟨Nat.zero_le _, h.leads x hx⟩
theorem ReadsP.isIn {w : World} {v : Value} {xs : List (Int × ByteArray)} (h : ReadsP w v xs) : In v 0 w.heap.size := fun x hx => ⟨Nat.zero_le _, h.leads x hx⟩
theorem In.apart {v a b : Value} {lo hi lo2 hi2 : Nat} (h1 : In v lo hi) (h2 : In a lo2 hi2) (h3 : In b lo2 hi2) (h : hi ≤ lo2 ∨ hi2 ≤ lo) : ∀ x ∈ leads v, x ∉ leads a ++ leads b := by
  intro x hx hm
  have := h1 x hx
  rcases List.mem_append.1 hm with h' | h'
  · have := h2 x h'; omega
  · have := h3 x h'; omega
theorem In.far {g : Nat} {a b : Value} {lo2 hi2 : Nat} (h2 : In a lo2 hi2) (h3 : In b lo2 hi2) (h : g < lo2 ∨ hi2 ≤ g) : g ∉ leads a ++ leads b := by
  intro hm
  rcases List.mem_append.1 hm with h' | h'
  · have := h2 g h'; omega
  · have := h3 g h'; omega
theorem In.all {a b : Value} {lo hi : Nat} (h2 : In a lo hi) (h3 : In b lo hi) : ∀ x ∈ leads a ++ leads b, lo ≤ x := by
  intro x hm
  rcases List.mem_append.1 hm with h' | h'
  · exact (h2 x h').1
  · exact (h3 x h').1
theorem Kept.onBelow {S : List Nat} {w0 w w' : World} (h : Kept S w w') (hb : Below w0.heap.size w0 w) (hS : ∀ x ∈ S, w0.heap.size ≤ x) : Below w0.heap.size w0 w' := h.toBelow hb hb.size hS
theorem OwnS.isSlice {T : TypeId} {B : Nat} {w : World} {v : Value} {xs : List ByteArray} (h : OwnS T B w v xs) : ∃ p n c, v = .slice p n c := by obtain ⟨p, c, e, _⟩ := h.reads; exact ⟨_, _, _, e⟩
theorem OwnP.isSlice {T : TypeId} {B : Nat} {w : World} {v : Value} {xs : List (Int × ByteArray)} (h : OwnP T B w v xs) : ∃ p n c, v = .slice p n c := by obtain ⟨p, c, e, _⟩ := h.reads; exact ⟨_, _, _, e⟩
end Go.Proofs.YtfdgifflnmpmaaaGreatDoor
