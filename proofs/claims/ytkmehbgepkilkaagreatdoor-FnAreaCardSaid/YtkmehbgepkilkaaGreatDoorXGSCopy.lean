/- A copy of a disk, as the specification makes it. -/
import Derived.Test.YtkmehbgepkilkaaGreatDoorXGSRight
import Derived.Test.YtkmehbgepkilkaaGreatDoorXGCopy
import Derived.Deep.RegionHeld3
import Derived.Test.YtkmehbgepkilkaaGreatDoorXGMark
namespace Go.Proofs.YtkmehbgepkilkaaGreatDoor
open Go.RowKit

theorem Kept.alloc {S : List Nat} {a b : World} (h : Kept S a b) (o : Obj) : Kept S a (b.alloc o) := h.below ((Below.refl b.heap.size b).alloc (Nat.le_refl _) o)
theorem Kept.drew {S : List Nat} {a b : World} (h : Kept S a b) : Kept S a b.drew := ⟨h.os, h.tape, h.output, h.size, h.block⟩
theorem Kept.set {S : List Nat} {a b : World} {G j : Nat} (h : Kept S a b) (hG : G ∈ S) (v : Value) : Kept S a (b.setCell ⟨G, j, none⟩ v) :=
  h.trans ((Kept.ofSet b G j v).mono (by simpa using hG))

theorem Row.after {w w' : World} {g : Nat} {T : TypeId} {cs : List Value} (hb : Below w.heap.size w w') (h : Row w g T cs) : Row w' g T cs := h.below hb h.lt
theorem Row.drew {w : World} {g : Nat} {T : TypeId} {cs : List Value} (h : Row w g T cs) : Row w.drew g T cs := h

theorem l02Ill_any (c : Int) (w : World) :
    Calls Tryz.prog 74 #[.int .i64 c] w fun e w' => e = .returned (.agg #[.slice none 0 0, .slice none 0 0, .string ⟨#[]⟩, .int .i64 c]) ∧ Below w.heap.size w w' := by
  go_enter Tryz.func74, Tryz.ntmps74
  go_wp2
  exact bodyPost_ret (v := .agg #[.slice none 0 0, .slice none 0 0, .string ⟨#[]⟩, .int .i64 c]) (by simp [results, Tryz.results74, go_sem]) rfl ⟨rfl, (Below.refl _ _).alloc (Nat.le_refl _) _⟩

set_option maxRecDepth 100000 in
set_option maxHeartbeats 3200000 in
theorem l02Copy_any (vs vp : Value) (xs : List ByteArray) (ps : List (Int × ByteArray)) (w : World) (hn : xs.length ≤ 1048576) (hn2 : ps.length ≤ 1048576) (hr : Reads w vs xs) (hp : ReadsP w vp ps) :
    Calls Tryz.prog 44 #[.agg #[vs, vp]] w fun e w' => ∃ us up, e = .returned (.agg #[us, up]) ∧ OwnS 9 w.heap.size w' us xs ∧ OwnP 61 w.heap.size w' up ps ∧ (∀ x ∈ leads us, x ∉ leads up) ∧ (ps = [] → ∃ b, up = .slice (some b) 0 0) ∧ Below w.heap.size w w' := by
  obtain ⟨i0, hi, hz0, hz1, hz2⟩ := info_parts Tryz.infoStr
  obtain ⟨j0, hj, hy0, hy1, hy2⟩ := info_parts Tryz.infoPend
  obtain ⟨W, hW⟩ : ∃ W, W = ((w.alloc (.cells #[vs, vp] 26)).alloc (.cells #[.slice none 0 0, .slice none 0 0] 26)) := ⟨_, rfl⟩
  have hb0 : Below w.heap.size w W := by rw [hW]; exact ((Below.refl _ _).alloc (Nat.le_refl _) _).alloc (by simp) _
  have HR := hide (hr.below hb0 (Nat.le_refl _))
  have HP := hide (hp.below hb0 (Nat.le_refl _))
  have HB0 := hide hb0
  have L1 := hr.leads
  have L2 := hp.leads
  obtain ⟨p1, c1, rfl, hq⟩ := hr
  obtain ⟨p2, c2, rfl, hq2⟩ := hp
  have R0 : Row W w.heap.size 26 [.slice p1 xs.length c1, .slice p2 ps.length c2] := by rw [hW]; exact (row_new w [.slice p1 xs.length c1, .slice p2 ps.length c2] 26).alloc _
  have R1 : Row W (w.heap.size + 1) 26 [.slice none 0 0, .slice none 0 0] := by
    rw [hW]
    have := row_new (w.alloc (.cells #[.slice p1 xs.length c1, .slice p2 ps.length c2] 26)) [.slice none 0 0, .slice none 0 0] 26
    simpa using this
  clear hq hq2 hb0
  have hzp : (Value.agg #[.int .i64 0, .string ⟨#[]⟩]).cells.size = 2 := by simp [Value.cells]
  go_enter Tryz.func44, Tryz.ntmps44
  go_wp2_with fail
  rw [← hW]
  have hsz : W.heap.size = w.heap.size + 2 := by rw [hW]; simp
  clear hW
  have HS : ∀ x, Kept [w.heap.size + 1] W x → x.cell? ⟨w.heap.size, 0, none⟩ = some (.slice p1 xs.length c1) ∧ x.cell? ⟨w.heap.size, 1, none⟩ = some (.slice p2 ps.length c2) ∧ Kept [w.heap.size + 1] W x :=
    fun x h => ⟨(h.row R0 (by simp)).cell 0, (h.row R0 (by simp)).cell 1, h⟩
  have HS' := hide HS
  have N1 : ∀ x ∈ leads (.slice p1 xs.length c1), x ∉ [w.heap.size + 1] := fun x hx => by have := L1 x hx; simp; omega
  have N2 : ∀ x ∈ leads (.slice p2 ps.length c2), x ∉ [w.heap.size + 1] := fun x hx => by have := L2 x hx; simp; omega
  clear L1 L2
  clear HS
  go_region_held3 (fun x => x.cell? ⟨w.heap.size, 0, none⟩ = some (.slice p1 xs.length c1) ∧ x.cell? ⟨w.heap.size, 1, none⟩ = some (.slice p2 ps.length c2) ∧ Kept [w.heap.size + 1] W x)
    ((go_split_ands; refine HS'.out _ ?_; repeat (first | with_reducible assumption | with_reducible exact Kept.refl _ _ | with_reducible refine Kept.drew ?_ | with_reducible refine Kept.alloc ?_ _ | with_reducible refine Kept.set ?_ (by simp) _ | with_reducible refine Kept.below ?_ (by assumption))))
    ((go_split_ands; first
      | (refine step_copyS (by rfl) (.tmp 3) (.tmp 5) 23 (by rfl) 9 i0 (.string ⟨#[]⟩) Tryz.underlying23 hi hz0 hz1 hz2 rfl (by exact ⟨_, rfl⟩) (.slice p1 xs.length c1) (by rfl) xs (by refine Kept.reads (S := [w.heap.size + 1]) ?_ HR.out N1; assumption) hn ?_; intro q1 d1 w1 ho1 hb1; have HO1 := hide ho1; clear ho1)
      | (refine step_copyP (by rfl) (.tmp 7) (.tmp 9) 24 (by rfl) 61 j0 (.agg #[.int .i64 0, .string ⟨#[]⟩]) Tryz.underlying24 hj hy0 hy1 hy2 hzp (by exact ⟨_, rfl⟩) (.slice p2 ps.length c2) (by rfl) ps (by refine Kept.readsP (S := [w.heap.size + 1]) ?_ HP.out N2; assumption) hn2 ?_; intro q2 d2 w2 ho2 hb2 hemp; have HE := hide hemp; clear hemp; have HO2 := hide ho2; clear ho2
         have R2 : Row w2 (w.heap.size + 1) 26 [.slice none 0 0, .slice none 0 0] := by
           refine Row.after hb2 ?_
           repeat (first | with_reducible exact R1 | with_reducible refine Row.after hb1 ?_ | with_reducible refine Row.drew ?_ | with_reducible refine Row.alloc ?_ _)
         have f0 : w2.cell? ⟨w.heap.size + 1, 0, none⟩ = some (.slice none 0 0) := R2.cell 0
         have f1 : w2.cell? ⟨w.heap.size + 1, 1, none⟩ = some (.slice none 0 0) := R2.cell 1
         have g0 := R2.free 0
         have g1 := R2.free 1)))
  all_goals
    rename_i hHeld
    have KW := hide hHeld.2.2
    have k12 : Below w1.heap.size w1 w2 := by
      first
        | with_reducible exact hb2
        | exact ((Below.refl w1.heap.size w1).alloc (Nat.le_refl _) _).trans (hb2.mono (by simp))
    have l1 : ∀ x ∈ leads (.slice q1 xs.length d1), w.heap.size + 2 ≤ x ∧ x < w1.heap.size := fun x hx => by
      have := HO1.out.leads x hx
      simp at this
      omega
    have l2 : ∀ x ∈ leads (.slice q2 ps.length d2), w1.heap.size ≤ x := fun x hx => by
      have := HO2.out.leads x hx
      try simp at this
      omega
    have z1 : w.heap.size + 2 ≤ w1.heap.size := by have := hb1.size; simp at this; omega
    have KF : Kept [w.heap.size + 1] w2 ((w2.setCell ⟨w.heap.size + 1, 0, none⟩ (.slice q1 xs.length d1)).setCell ⟨w.heap.size + 1, 1, none⟩ (.slice q2 ps.length d2)) := ((Kept.refl _ _).set (by simp) _).set (by simp) _
    have RF := (R2.set (j := 0) (.slice q1 xs.length d1)).set (j := 1) (.slice q2 ps.length d2)
    have q0' : ((w2.setCell ⟨w.heap.size + 1, 0, none⟩ (.slice q1 xs.length d1)).setCell ⟨w.heap.size + 1, 1, none⟩ (.slice q2 ps.length d2)).cell? ⟨w.heap.size + 1, 0, none⟩ = some (.slice q1 xs.length d1) := RF.cell 0
    have q1' : ((w2.setCell ⟨w.heap.size + 1, 0, none⟩ (.slice q1 xs.length d1)).setCell ⟨w.heap.size + 1, 1, none⟩ (.slice q2 ps.length d2)).cell? ⟨w.heap.size + 1, 1, none⟩ = some (.slice q2 ps.length d2) := RF.cell 1
    have O1 := ((HO1.out.below k12 (Nat.le_refl _)).kept KF (fun x hx => by have := l1 x hx; simp; omega)).mono (B' := w.heap.size) (by simp; omega)
    have O2 := (HO2.out.kept KF (fun x hx => by have := l2 x hx; simp; omega)).mono (B' := w.heap.size) (by (try simp); omega)
    have D12 : ∀ x ∈ leads (.slice q1 xs.length d1), x ∉ leads (.slice q2 ps.length d2) := fun x hx hy => by
      have h1 := l1 x hx
      have h2 := l2 x hy
      omega
    have KB := KW.out.toBelow HB0.out HB0.out.size (by simp)
    clear hHeld
    go_wp2
    exact bodyPost_ret (v := .agg #[.slice q1 xs.length d1, .slice q2 ps.length d2]) (by simp [results, Tryz.results44, go_sem, q0', q1']) rfl ⟨_, _, rfl, O1, O2, D12, fun h => by obtain ⟨b, rfl, rfl⟩ := HE.out h; exact ⟨b, by rw [h]; rfl⟩, KB⟩
end Go.Proofs.YtkmehbgepkilkaaGreatDoor

/- What is held of a world stays when new memory is made: facts gone on with at one stroke. -/
namespace Go.Proofs.YtkmehbgepkilkaaGreatDoor
open Go.RowKit

class Stab (P : World → Prop) : Prop where
  go : ∀ {w w' : World}, Below w.heap.size w w' → P w → P w'
instance stab_and (P Q : World → Prop) [Stab P] [Stab Q] : Stab (fun w => P w ∧ Q w) := ⟨fun hb h => ⟨Stab.go hb h.1, Stab.go hb h.2⟩⟩
instance stab_reads (v : Value) (xs : List ByteArray) : Stab (fun w => Reads w v xs) := ⟨fun hb h => h.below hb (Nat.le_refl _)⟩
instance stab_readsP (v : Value) (ps : List (Int × ByteArray)) : Stab (fun w => ReadsP w v ps) := ⟨fun hb h => h.below hb (Nat.le_refl _)⟩
instance stab_ownS (T : TypeId) (B : Nat) (v : Value) (xs : List ByteArray) : Stab (fun w => OwnS T B w v xs) := ⟨fun hb h => h.below hb (Nat.le_refl _)⟩
instance stab_ownP (T : TypeId) (B : Nat) (v : Value) (ps : List (Int × ByteArray)) : Stab (fun w => OwnP T B w v ps) := ⟨fun hb h => h.below hb (Nat.le_refl _)⟩
instance stab_row (g : Nat) (T : TypeId) (cs : List Value) : Stab (fun w => Row w g T cs) := ⟨fun hb h => Row.after hb h⟩
instance stab_below (w0 : World) : Stab (fun w => Below w0.heap.size w0 w) := ⟨fun hb h => h.trans (hb.mono h.size)⟩
instance stab_le (k : Nat) : Stab (fun w => k ≤ w.heap.size) := ⟨fun hb h => Nat.le_trans h hb.size⟩
theorem below_new (w : World) (o : Obj) : Below w.heap.size w (w.alloc o) := (Below.refl _ _).alloc (Nat.le_refl _) _

/-- What the slice v leads to lies from block lo on, ahead of block hi. -/
def In (v : Value) (lo hi : Nat) : Prop := ∀ x ∈ leads v, lo ≤ x ∧ x < hi
theorem In.apart {v a b : Value} {lo hi lo2 hi2 : Nat} (h1 : In v lo hi) (h2 : In a lo2 hi2) (h3 : In b lo2 hi2) (h : hi ≤ lo2 ∨ hi2 ≤ lo) : ∀ x ∈ leads v, x ∉ leads a ++ leads b := by
  intro x hx hm
  have := h1 x hx
  rcases List.mem_append.1 hm with h' | h'
  · have := h2 x h'; omega
  · have := h3 x h'; omega
theorem In.far {g : Nat} {a b : Value} {lo2 hi2 : Nat} (h2 : In a lo2 hi2) (h3 : In b lo2 hi2) (h : g < lo2 ∨ hi2 ≤ g) : g ∉ leads a ++ leads b := by
  intro hm
  rcases List.mem_append.1 hm with h' | h'
  · have := h2 g h'; omega
  · have := h3 g h'; omega
theorem In.all {a b : Value} {lo hi : Nat} (h2 : In a lo hi) (h3 : In b lo hi) : ∀ x ∈ leads a ++ leads b, lo ≤ x := by
  intro x hm
  rcases List.mem_append.1 hm with h' | h'
  · exact (h2 x h').1
  · exact (h3 x h').1
theorem OwnS.isSlice {T : TypeId} {B : Nat} {w : World} {v : Value} {xs : List ByteArray} (h : OwnS T B w v xs) : ∃ p n c, v = .slice p n c := by obtain ⟨p, c, e, _⟩ := h.reads; exact ⟨_, _, _, e⟩
theorem OwnP.isSlice {T : TypeId} {B : Nat} {w : World} {v : Value} {xs : List (Int × ByteArray)} (h : OwnP T B w v xs) : ∃ p n c, v = .slice p n c := by obtain ⟨p, c, e, _⟩ := h.reads; exact ⟨_, _, _, e⟩
end Go.Proofs.YtkmehbgepkilkaaGreatDoor

/- DiskRead, as the specification does it. -/
namespace Go.Proofs.YtkmehbgepkilkaaGreatDoor
open Go.RowKit

/-- What a function of the disk hands back. -/
structure Out where
  xs : List ByteArray
  ps : List (Int × ByteArray)
  t : ByteArray
  c : Int
def illOut (c : Int) : Out := ⟨[], [], ⟨#[]⟩, c⟩
/-- The call ended with the answer o, in memory of its own. -/
def OutIs (B : Nat) (e : Ending) (w : World) (o : Out) : Prop :=
  ∃ us up, e = .returned (.agg #[us, up, .string o.t, .int .i64 o.c]) ∧ OwnS 9 B w us o.xs ∧ OwnP 61 B w up o.ps ∧ ∀ x ∈ leads us, x ∉ leads up
theorem OwnS.none (T : TypeId) (B : Nat) (w : World) : OwnS T B w (.slice none 0 0) [] := ⟨by simp, .inl ⟨_, _, rfl, by unfold maxLen; omega, rfl⟩⟩
theorem OwnP.none (T : TypeId) (B : Nat) (w : World) : OwnP T B w (.slice none 0 0) [] := ⟨by simp, .inl ⟨_, _, rfl, by unfold maxLen; omega, rfl⟩⟩

def lastAt (at' : Int) : List (Int × ByteArray) → ByteArray → ByteArray
  | [], t => t
  | x :: r, t => lastAt at' r (if x.1 = at' then x.2 else t)
def readOut (xs : List ByteArray) (ps : List (Int × ByteArray)) (a : Int) : Out :=
  if right xs ps then (if 0 ≤ a ∧ a ≤ (xs.length : Int) - 1 then ⟨xs, ps, lastAt a ps (xs.getD a.toNat ⟨#[]⟩), 0⟩ else illOut 8) else illOut 1

theorem four {w : World} {G : Nat} {T : TypeId} {a b c d : Value} (R : Row w G T [a, b, c, d]) (A B C D : Value) :
    ((((w.setCell ⟨G, 0, none⟩ A).setCell ⟨G, 1, none⟩ B).setCell ⟨G, 2, none⟩ C).setCell ⟨G, 3, none⟩ D).cell? ⟨G, 0, none⟩ = some A ∧
    ((((w.setCell ⟨G, 0, none⟩ A).setCell ⟨G, 1, none⟩ B).setCell ⟨G, 2, none⟩ C).setCell ⟨G, 3, none⟩ D).cell? ⟨G, 1, none⟩ = some B ∧
    ((((w.setCell ⟨G, 0, none⟩ A).setCell ⟨G, 1, none⟩ B).setCell ⟨G, 2, none⟩ C).setCell ⟨G, 3, none⟩ D).cell? ⟨G, 2, none⟩ = some C ∧
    ((((w.setCell ⟨G, 0, none⟩ A).setCell ⟨G, 1, none⟩ B).setCell ⟨G, 2, none⟩ C).setCell ⟨G, 3, none⟩ D).cell? ⟨G, 3, none⟩ = some D ∧
    Kept [G] w ((((w.setCell ⟨G, 0, none⟩ A).setCell ⟨G, 1, none⟩ B).setCell ⟨G, 2, none⟩ C).setCell ⟨G, 3, none⟩ D) := by
  have R4 := (((R.set (j := 0) A).set (j := 1) B).set (j := 2) C).set (j := 3) D
  exact ⟨R4.cell 0, R4.cell 1, R4.cell 2, R4.cell 3, ((((Kept.refl _ _).set (by simp) _).set (by simp) _).set (by simp) _).set (by simp) _⟩

set_option maxHeartbeats 2000000 in
theorem specRead_ill (vs vp : Value) (xs : List ByteArray) (ps : List (Int × ByteArray)) (a : Int) (w : World) (hn : xs.length ≤ 1048576) (hn2 : ps.length ≤ 1048576) (hr : Reads w vs xs) (hp : ReadsP w vp ps) (hbad : right xs ps = false) :
    Calls Tryz.prog 41 #[.agg #[vs, vp], .int .i64 a] w fun e w' => OutIs w.heap.size e w' (readOut xs ps a) ∧ Below w.heap.size w w' := by
  have HF : Hid (readOut xs ps a = illOut 1) := by unfold readOut; rw [hbad]; rfl
  rw [HF.out]
  have hb0 : Below w.heap.size w ((w.alloc (.cells #[vs, vp] 26)).alloc (.cells #[.slice none 0 0, .slice none 0 0, .string ⟨#[]⟩, .int .i64 0] 69)) :=
    ((Below.refl _ _).alloc (Nat.le_refl _) _).alloc (by simp) _
  have HR := hide (hr.below hb0 (Nat.le_refl _))
  have HP := hide (hp.below hb0 (Nat.le_refl _))
  have HB0 := hide hb0
  obtain ⟨p1, c1, rfl, hq⟩ := hr
  obtain ⟨p2, c2, rfl, hq2⟩ := hp
  have R1 := row_new (w.alloc (.cells #[.slice p1 xs.length c1, .slice p2 ps.length c2] 26)) [.slice none 0 0, .slice none 0 0, .string ⟨#[]⟩, .int .i64 0] 69
  simp only [World.size_alloc] at R1
  have HR1 := hide R1
  clear hb0 hq hq2 R1
  go_enter Tryz.func41, Tryz.ntmps41
  go_wp2_with fail
  refine (specRight_any _ _ xs ps _ hn hn2 HR.out HP.out).mono ?_
  rw [hbad]
  rintro e w1 ⟨rfl, hb1⟩
  have HB1 := hide hb1
  have HR2 := hide (HR1.out.below hb1 (by simp))
  clear hb1
  go_wp2_with fail
  refine (l02Ill_any _ _).mono ?_
  rintro e w2 ⟨rfl, hb2⟩
  have R3 := HR2.out.below hb2 HR2.out.lt
  have k1 := HB0.out.trans (HB1.out.mono HB0.out.size)
  have HB2 := hide (k1.trans (hb2.mono k1.size))
  have c0 : w2.cell? ⟨w.heap.size + 1, 0, none⟩ = some (.slice none 0 0) := R3.cell 0
  have c1' : w2.cell? ⟨w.heap.size + 1, 1, none⟩ = some (.slice none 0 0) := R3.cell 1
  have c2' : w2.cell? ⟨w.heap.size + 1, 2, none⟩ = some (.string ⟨#[]⟩) := R3.cell 2
  have c3 : w2.cell? ⟨w.heap.size + 1, 3, none⟩ = some (.int .i64 0) := R3.cell 3
  have f0 := R3.free 0
  have f1 := R3.free 1
  have f2 := R3.free 2
  have f3 := R3.free 3
  have HR3 := hide R3
  clear k1 hb2 R3
  go_wp2
  obtain ⟨q0, q1, q2, q3, KF⟩ := four HR3.out (.slice none 0 0) (.slice none 0 0) (.string ⟨#[]⟩) (.int .i64 1)
  exact bodyPost_ret (v := .agg #[.slice none 0 0, .slice none 0 0, .string ⟨#[]⟩, .int .i64 1]) (by simp [results, Tryz.results41, go_sem, q0, q1, q2, q3]) rfl
    ⟨⟨_, _, rfl, OwnS.none _ _ _, OwnP.none _ _ _, fun _ h => by cases h⟩, KF.toBelow HB2.out HB2.out.size (by simp)⟩

set_option maxHeartbeats 2000000 in
theorem specRead_far (vs vp : Value) (xs : List ByteArray) (ps : List (Int × ByteArray)) (a : Int) (w : World) (hn : xs.length ≤ 1048576) (hn2 : ps.length ≤ 1048576) (hr : Reads w vs xs) (hp : ReadsP w vp ps) (hok : right xs ps = true) (hfar : ¬ (0 ≤ a ∧ a ≤ (xs.length : Int) - 1)) :
    Calls Tryz.prog 41 #[.agg #[vs, vp], .int .i64 a] w fun e w' => OutIs w.heap.size e w' (readOut xs ps a) ∧ Below w.heap.size w w' := by
  have HF : Hid (readOut xs ps a = illOut 8) := hide (by unfold readOut; rw [hok, if_pos rfl, if_neg hfar])
  rw [HF.out]
  have hb0 : Below w.heap.size w ((w.alloc (.cells #[vs, vp] 26)).alloc (.cells #[.slice none 0 0, .slice none 0 0, .string ⟨#[]⟩, .int .i64 0] 69)) :=
    ((Below.refl _ _).alloc (Nat.le_refl _) _).alloc (by simp) _
  have HR := hide (hr.below hb0 (Nat.le_refl _))
  have HP := hide (hp.below hb0 (Nat.le_refl _))
  have HB0 := hide hb0
  obtain ⟨p1, c1, rfl, hq⟩ := hr
  obtain ⟨p2, c2, rfl, hq2⟩ := hp
  have R1 := row_new (w.alloc (.cells #[.slice p1 xs.length c1, .slice p2 ps.length c2] 26)) [.slice none 0 0, .slice none 0 0, .string ⟨#[]⟩, .int .i64 0] 69
  simp only [World.size_alloc] at R1
  have HR1 := hide R1
  clear hb0 hq hq2 R1
  go_enter Tryz.func41, Tryz.ntmps41
  go_wp2_with fail
  refine (specRight_any _ _ xs ps _ hn hn2 HR.out HP.out).mono ?_
  rw [hok]
  rintro e w1 ⟨rfl, hb1⟩
  have HB1 := hide hb1
  have HR2 := hide (HR1.out.below hb1 (by simp))
  obtain ⟨hc1, hf1⟩ := bcell hb1
  have e1 : IntKind.i64.wrap ((xs.length : Int) - 1) = (xs.length : Int) - 1 := by rw [IntKind.wrap_i64]; omega
  clear hb1
  go_wp2_with fail
  refine (l02Is_no _ _ _ _ hfar).mono ?_
  rintro e w1' ⟨rfl, rfl⟩
  clear hc1 hf1
  go_wp2_with fail
  refine (l02Ill_any _ _).mono ?_
  rintro e w2 ⟨rfl, hb2⟩
  have R3 := HR2.out.below hb2 HR2.out.lt
  have k1 := HB0.out.trans (HB1.out.mono HB0.out.size)
  have HB2 := hide (k1.trans (hb2.mono k1.size))
  have c0 : w2.cell? ⟨w.heap.size + 1, 0, none⟩ = some (.slice none 0 0) := R3.cell 0
  have c1' : w2.cell? ⟨w.heap.size + 1, 1, none⟩ = some (.slice none 0 0) := R3.cell 1
  have c2' : w2.cell? ⟨w.heap.size + 1, 2, none⟩ = some (.string ⟨#[]⟩) := R3.cell 2
  have c3 : w2.cell? ⟨w.heap.size + 1, 3, none⟩ = some (.int .i64 0) := R3.cell 3
  have f0 := R3.free 0
  have f1 := R3.free 1
  have f2 := R3.free 2
  have f3 := R3.free 3
  have HR3 := hide R3
  clear k1 hb2 R3
  go_wp2
  obtain ⟨q0, q1, q2, q3, KF⟩ := four HR3.out (.slice none 0 0) (.slice none 0 0) (.string ⟨#[]⟩) (.int .i64 8)
  exact bodyPost_ret (v := .agg #[.slice none 0 0, .slice none 0 0, .string ⟨#[]⟩, .int .i64 8]) (by simp [results, Tryz.results41, go_sem, q0, q1, q2, q3]) rfl
    ⟨⟨_, _, rfl, OwnS.none _ _ _, OwnP.none _ _ _, fun _ h => by cases h⟩, KF.toBelow HB2.out HB2.out.size (by simp)⟩

theorem lastAt_step (a : Int) (ps : List (Int × ByteArray)) (k : Nat) (h : k < ps.length) (t : ByteArray) : lastAt a (ps.drop k) t = lastAt a (ps.drop (k + 1)) (if (ps[k]'h).1 = a then (ps[k]'h).2 else t) := by
  rw [List.drop_eq_getElem_cons h]; rfl

set_option maxHeartbeats 4000000 in
theorem specRead_good (vs vp : Value) (xs : List ByteArray) (ps : List (Int × ByteArray)) (n : Nat) (w : World) (hn : xs.length ≤ 1048576) (hn2 : ps.length ≤ 1048576) (hr : Reads w vs xs) (hp : ReadsP w vp ps) (hok : right xs ps = true) (hlt : n < xs.length) :
    Calls Tryz.prog 41 #[.agg #[vs, vp], .int .i64 (n : Int)] w fun e w' => OutIs w.heap.size e w' (readOut xs ps (n : Int)) ∧ Below w.heap.size w w' := by
  have HF : Hid (readOut xs ps (n : Int) = ⟨xs, ps, lastAt n ps (xs[n]'hlt), 0⟩) := hide (by
    unfold readOut
    rw [hok, if_pos rfl, if_pos ⟨by omega, by omega⟩]
    simp [hlt])
  rw [HF.out]
  have hb0 : Below w.heap.size w ((w.alloc (.cells #[vs, vp] 26)).alloc (.cells #[.slice none 0 0, .slice none 0 0, .string ⟨#[]⟩, .int .i64 0] 69)) :=
    ((Below.refl _ _).alloc (Nat.le_refl _) _).alloc (by simp) _
  have HR := hide (hr.below hb0 (Nat.le_refl _))
  have HP := hide (hp.below hb0 (Nat.le_refl _))
  have HB0 := hide hb0
  obtain ⟨p1, c1, rfl, hq⟩ := hr
  obtain ⟨p2, c2, rfl, hq2⟩ := hp
  have R0 := (row_new w [.slice p1 xs.length c1, .slice p2 ps.length c2] 26).alloc (.cells #[.slice none 0 0, .slice none 0 0, .string ⟨#[]⟩, .int .i64 0] 69)
  have R1 := row_new (w.alloc (.cells #[.slice p1 xs.length c1, .slice p2 ps.length c2] 26)) [.slice none 0 0, .slice none 0 0, .string ⟨#[]⟩, .int .i64 0] 69
  simp only [World.size_alloc] at R1
  have HR0 := hide R0
  have HR1 := hide R1
  clear hb0 hq hq2 R1 R0
  go_enter Tryz.func41, Tryz.ntmps41
  go_wp2_with fail
  refine (specRight_any _ _ xs ps _ hn hn2 HR.out HP.out).mono ?_
  rw [hok]
  rintro e w1 ⟨rfl, hb1⟩
  have HB1 := hide (HB0.out.trans (hb1.mono HB0.out.size))
  have HX1 := hide (HR1.out.below hb1 (by simp))
  have HX0 := hide (HR0.out.below hb1 (by simp; omega))
  have HRa := hide (HR.out.below hb1 (Nat.le_refl _))
  have HPa := hide (HP.out.below hb1 (Nat.le_refl _))
  have a0 : w1.cell? ⟨w.heap.size, 0, none⟩ = some (.slice p1 xs.length c1) := HX0.out.cell 0
  have a1 : w1.cell? ⟨w.heap.size, 1, none⟩ = some (.slice p2 ps.length c2) := HX0.out.cell 1
  have e1 : IntKind.i64.wrap ((xs.length : Int) - 1) = (xs.length : Int) - 1 := by rw [IntKind.wrap_i64]; omega
  have i0 : (n : Int) < (xs.length : Int) := by omega
  clear hb1 HR HP HR0 HR1 HB0
  go_wp2_with fail
  refine (l02Is_yes _ _ _ _ (by omega) (by omega)).mono ?_
  rintro e w1' ⟨rfl, rfl⟩
  obtain ⟨g1, o1, rfl, hg1, hc1⟩ : ∃ g off, p1 = some ⟨g, off, none⟩ ∧ _ := by
    obtain ⟨p, cap, he, _, _, _, h4⟩ := HRa.out
    cases he
    exact h4 (by omega)
  have hcn := hc1 n hlt
  clear hc1 hg1
  go_wp2
  clear hcn e1
  go_loop [5, 6] (fun t i => ∃ (k : Nat) (T : ByteArray), k ≤ ps.length ∧ i = .int .i64 k ∧ t = .string T ∧ Hid (lastAt n ps (xs[n]'hlt) = lastAt n (ps.drop k) T)) (fun _ i => ps.length - (intOf i).toNat)
  case atStart => exact ⟨0, _, Nat.zero_le _, rfl, rfl, rfl⟩
  case round =>
    obtain ⟨j, T, hj, rfl, rfl, HS⟩ := hrel
    by_cases hlt2 : j < ps.length
    · obtain ⟨g2, o2, rfl, hg2, hc2⟩ : ∃ g off, p2 = some ⟨g, off, none⟩ ∧ _ := by
        obtain ⟨p, cap, he, _, _, _, h4⟩ := HPa.out
        cases he
        exact h4 (by omega)
      obtain ⟨hk0, hk1⟩ := hc2 j hlt2
      have HT := hide (lastAt_step n ps j hlt2 T)
      have hki : (j : Int) < (ps.length : Int) := by omega
      obtain ⟨A, hA⟩ : ∃ A, A = (ps[j]'hlt2).1 := ⟨_, rfl⟩
      obtain ⟨D, hD⟩ : ∃ D, D = (ps[j]'hlt2).2 := ⟨_, rfl⟩
      rw [← hA] at hk0
      rw [← hD] at hk1
      rw [← hA, ← hD] at HT
      clear hA hD hc2 hg2
      by_cases hin : A = (n : Int)
      · subst hin
        have HU := hide (HS.out.trans (HT.out.trans (by rw [if_pos rfl])))
        go_wp2
        go_round
        case rel => exact ⟨j + 1, D, by omega, by go_num, rfl, HU⟩
        case measure => simp [intOf]; omega
      · have HU := hide (HS.out.trans (HT.out.trans (by rw [if_neg hin])))
        have t1 : decide (A = (n : Int)) = false := by simpa using hin
        go_wp2
        go_round
        case rel => exact ⟨j + 1, T, by omega, by go_num, rfl, HU⟩
        case measure => simp [intOf]; omega
    · have HU := hide (show lastAt n ps (xs[n]'hlt) = T by rw [HS.out, List.drop_eq_nil_of_le (by omega)]; rfl)
      go_wp2_with fail
      refine (l02Copy_any _ _ xs ps _ hn hn2 HRa.out HPa.out).mono ?_
      rintro e w2 ⟨us, up, rfl, ow1, ow2, dd, _, hb2⟩
      have hl1 := HX1.out.lt
      have R3 := HX1.out.below hb2 hl1
      have c0 : w2.cell? ⟨w.heap.size + 1, 0, none⟩ = some (.slice none 0 0) := R3.cell 0
      have c1' : w2.cell? ⟨w.heap.size + 1, 1, none⟩ = some (.slice none 0 0) := R3.cell 1
      have c2' : w2.cell? ⟨w.heap.size + 1, 2, none⟩ = some (.string ⟨#[]⟩) := R3.cell 2
      have c3 : w2.cell? ⟨w.heap.size + 1, 3, none⟩ = some (.int .i64 0) := R3.cell 3
      have f0 := R3.free 0
      have f1 := R3.free 1
      have f2 := R3.free 2
      have f3 := R3.free 3
      have HR3 := hide R3
      have HB2 := hide (HB1.out.trans (hb2.mono HB1.out.size))
      have HO1 := hide ow1
      have HO2 := hide ow2
      have HD := hide dd
      obtain ⟨q1, m1, d1, rfl⟩ : ∃ p n c, us = .slice p n c := by obtain ⟨p, c, e, _⟩ := ow1.reads; exact ⟨_, _, _, e⟩
      obtain ⟨q2, m2, d2, rfl⟩ : ∃ p n c, up = .slice p n c := by obtain ⟨p, c, e, _⟩ := ow2.reads; exact ⟨_, _, _, e⟩
      clear ow1 ow2 dd hb2 R3
      go_wp2
      obtain ⟨z0, z1, z2, z3, KF⟩ := four HR3.out (.slice q1 m1 d1) (.slice q2 m2 d2) (.string T) (.int .i64 0)
      exact bodyPost_ret (v := .agg #[.slice q1 m1 d1, .slice q2 m2 d2, .string T, .int .i64 0]) (by simp [results, Tryz.results41, go_sem, z0, z1, z2, z3]) rfl
        ⟨⟨_, _, by rw [HU.out], (HO1.out.kept KF (fun x hx => by have := HO1.out.leads x hx; simp; omega)).mono (by omega), (HO2.out.kept KF (fun x hx => by have := HO2.out.leads x hx; simp; omega)).mono (by omega), HD.out⟩, KF.toBelow HB2.out HB2.out.size (by simp)⟩

theorem specRead_any (vs vp : Value) (xs : List ByteArray) (ps : List (Int × ByteArray)) (a : Int) (w : World) (hn : xs.length ≤ 1048576) (hn2 : ps.length ≤ 1048576) (hr : Reads w vs xs) (hp : ReadsP w vp ps) :
    Calls Tryz.prog 41 #[.agg #[vs, vp], .int .i64 a] w fun e w' => OutIs w.heap.size e w' (readOut xs ps a) ∧ Below w.heap.size w w' := by
  cases hok : right xs ps with
  | false => exact specRead_ill vs vp xs ps a w hn hn2 hr hp hok
  | true =>
    by_cases hin : 0 ≤ a ∧ a ≤ (xs.length : Int) - 1
    · obtain ⟨n, rfl⟩ := Int.eq_ofNat_of_zero_le hin.1
      exact specRead_good vs vp xs ps n w hn hn2 hr hp hok (by omega)
    · exact specRead_far vs vp xs ps a w hn hn2 hr hp hok hin
end Go.Proofs.YtkmehbgepkilkaaGreatDoor

/- DiskWrite, as the specification does it. -/
namespace Go.Proofs.YtkmehbgepkilkaaGreatDoor
open Go.RowKit

def writeOut (xs : List ByteArray) (ps : List (Int × ByteArray)) (a : Int) (d : ByteArray) : Out :=
  if 8000 < d.size then illOut 2 else if right xs ps = false ∨ 64 < d.size then illOut 1 else if 0 ≤ a ∧ a ≤ (xs.length : Int) - 1 then (if 200 ≤ ps.length then illOut 9 else ⟨xs, ps ++ [(a, d)], ⟨#[]⟩, 0⟩) else illOut 8

set_option maxRecDepth 100000 in
set_option maxHeartbeats 4000000 in
theorem specWrite_size (vs vp : Value) (xs : List ByteArray) (ps : List (Int × ByteArray)) (a : Int) (d : ByteArray) (w : World) (hd : d.size ≤ 1048576) (hr : Reads w vs xs) (hp : ReadsP w vp ps) (hz : 8000 < d.size) :
    Calls Tryz.prog 46 #[.agg #[vs, vp], .int .i64 a, .string d] w fun e w' => OutIs w.heap.size e w' (illOut 2) ∧ Below w.heap.size w w' := by
  have t1 : (8000 : Int) < (d.size : Int) := by omega
  have hb0 : Below w.heap.size w ((w.alloc (.cells #[vs, vp] 26)).alloc (.cells #[.slice none 0 0, .slice none 0 0, .string ⟨#[]⟩, .int .i64 0] 69)) :=
    ((Below.refl _ _).alloc (Nat.le_refl _) _).alloc (by simp) _
  have HR := hide (hr.below hb0 (Nat.le_refl _))
  have HP := hide (hp.below hb0 (Nat.le_refl _))
  have HB0 := hide hb0
  obtain ⟨p1, c1, rfl, hq⟩ := hr
  obtain ⟨p2, c2, rfl, hq2⟩ := hp
  have R0 := (row_new w [.slice p1 xs.length c1, .slice p2 ps.length c2] 26).alloc (.cells #[.slice none 0 0, .slice none 0 0, .string ⟨#[]⟩, .int .i64 0] 69)
  have R1 := row_new (w.alloc (.cells #[.slice p1 xs.length c1, .slice p2 ps.length c2] 26)) [.slice none 0 0, .slice none 0 0, .string ⟨#[]⟩, .int .i64 0] 69
  simp only [World.size_alloc] at R1
  have HR0 := hide R0
  have HR1 := hide R1
  clear hb0 hq hq2 R1 R0
  go_enter Tryz.func46, Tryz.ntmps46
  go_wp2_with fail
  refine (l02Ill_any _ _).mono ?_
  rintro e w2 ⟨rfl, hb2⟩
  have R3 := HR1.out.below hb2 HR1.out.lt
  have HB2 := hide (HB0.out.trans (hb2.mono HB0.out.size))
  have c0 : w2.cell? ⟨w.heap.size + 1, 0, none⟩ = some (.slice none 0 0) := R3.cell 0
  have c1' : w2.cell? ⟨w.heap.size + 1, 1, none⟩ = some (.slice none 0 0) := R3.cell 1
  have c2' : w2.cell? ⟨w.heap.size + 1, 2, none⟩ = some (.string ⟨#[]⟩) := R3.cell 2
  have c3 : w2.cell? ⟨w.heap.size + 1, 3, none⟩ = some (.int .i64 0) := R3.cell 3
  have f0 := R3.free 0
  have f1 := R3.free 1
  have f2 := R3.free 2
  have f3 := R3.free 3
  have HR3 := hide R3
  clear hb2 R3
  go_wp2
  obtain ⟨q0, q1, q2, q3, KF⟩ := four HR3.out (.slice none 0 0) (.slice none 0 0) (.string ⟨#[]⟩) (.int .i64 2)
  exact bodyPost_ret (v := .agg #[.slice none 0 0, .slice none 0 0, .string ⟨#[]⟩, .int .i64 2]) (by simp [results, Tryz.results46, go_sem, q0, q1, q2, q3]) rfl
    ⟨⟨_, _, rfl, OwnS.none _ _ _, OwnP.none _ _ _, fun _ h => by cases h⟩, KF.toBelow HB2.out HB2.out.size (by simp)⟩

set_option maxRecDepth 100000 in
set_option maxHeartbeats 4000000 in
theorem specWrite_ill (vs vp : Value) (xs : List ByteArray) (ps : List (Int × ByteArray)) (a : Int) (d : ByteArray) (w : World) (hn : xs.length ≤ 1048576) (hn2 : ps.length ≤ 1048576) (hd : d.size ≤ 1048576) (hr : Reads w vs xs) (hp : ReadsP w vp ps) (hz : d.size ≤ 8000) (hok : right xs ps = false) :
    Calls Tryz.prog 46 #[.agg #[vs, vp], .int .i64 a, .string d] w fun e w' => OutIs w.heap.size e w' (illOut 1) ∧ Below w.heap.size w w' := by
  have t1 : ¬ (8000 : Int) < (d.size : Int) := by omega
  have hb0 : Below w.heap.size w ((w.alloc (.cells #[vs, vp] 26)).alloc (.cells #[.slice none 0 0, .slice none 0 0, .string ⟨#[]⟩, .int .i64 0] 69)) :=
    ((Below.refl _ _).alloc (Nat.le_refl _) _).alloc (by simp) _
  have HR := hide (hr.below hb0 (Nat.le_refl _))
  have HP := hide (hp.below hb0 (Nat.le_refl _))
  have HB0 := hide hb0
  obtain ⟨p1, c1, rfl, hq⟩ := hr
  obtain ⟨p2, c2, rfl, hq2⟩ := hp
  have R0 := (row_new w [.slice p1 xs.length c1, .slice p2 ps.length c2] 26).alloc (.cells #[.slice none 0 0, .slice none 0 0, .string ⟨#[]⟩, .int .i64 0] 69)
  have R1 := row_new (w.alloc (.cells #[.slice p1 xs.length c1, .slice p2 ps.length c2] 26)) [.slice none 0 0, .slice none 0 0, .string ⟨#[]⟩, .int .i64 0] 69
  simp only [World.size_alloc] at R1
  have HR0 := hide R0
  have HR1 := hide R1
  clear hb0 hq hq2 R1 R0
  go_enter Tryz.func46, Tryz.ntmps46
  go_wp2_with fail
  refine (specRight_any _ _ xs ps _ hn hn2 HR.out HP.out).mono ?_
  rw [hok]
  rintro e w1 ⟨rfl, hb1⟩
  have HB1 := hide (HB0.out.trans (hb1.mono HB0.out.size))
  have HX1 := hide (HR1.out.below hb1 (by simp))
  have HX0 := hide (HR0.out.below hb1 (by simp; omega))
  have HRa := hide (HR.out.below hb1 (Nat.le_refl _))
  have HPa := hide (HP.out.below hb1 (Nat.le_refl _))
  have a0 : w1.cell? ⟨w.heap.size, 0, none⟩ = some (.slice p1 xs.length c1) := HX0.out.cell 0
  have a1 : w1.cell? ⟨w.heap.size, 1, none⟩ = some (.slice p2 ps.length c2) := HX0.out.cell 1
  have e1 : IntKind.i64.wrap ((xs.length : Int) - 1) = (xs.length : Int) - 1 := by rw [IntKind.wrap_i64]; omega
  clear hb1 HR HP HR0 HR1 HB0
  go_wp2_with fail
  refine (l02Ill_any _ _).mono ?_
  rintro e w2 ⟨rfl, hb2⟩
  have R3 := HX1.out.below hb2 HX1.out.lt
  have HB2 := hide (HB1.out.trans (hb2.mono HB1.out.size))
  have c0 : w2.cell? ⟨w.heap.size + 1, 0, none⟩ = some (.slice none 0 0) := R3.cell 0
  have c1' : w2.cell? ⟨w.heap.size + 1, 1, none⟩ = some (.slice none 0 0) := R3.cell 1
  have c2' : w2.cell? ⟨w.heap.size + 1, 2, none⟩ = some (.string ⟨#[]⟩) := R3.cell 2
  have c3 : w2.cell? ⟨w.heap.size + 1, 3, none⟩ = some (.int .i64 0) := R3.cell 3
  have f0 := R3.free 0
  have f1 := R3.free 1
  have f2 := R3.free 2
  have f3 := R3.free 3
  have HR3 := hide R3
  clear hb2 R3
  go_wp2
  obtain ⟨q0, q1, q2, q3, KF⟩ := four HR3.out (.slice none 0 0) (.slice none 0 0) (.string ⟨#[]⟩) (.int .i64 1)
  exact bodyPost_ret (v := .agg #[.slice none 0 0, .slice none 0 0, .string ⟨#[]⟩, .int .i64 1]) (by simp [results, Tryz.results46, go_sem, q0, q1, q2, q3]) rfl
    ⟨⟨_, _, rfl, OwnS.none _ _ _, OwnP.none _ _ _, fun _ h => by cases h⟩, KF.toBelow HB2.out HB2.out.size (by simp)⟩

set_option maxRecDepth 100000 in
set_option maxHeartbeats 4000000 in
theorem specWrite_long (vs vp : Value) (xs : List ByteArray) (ps : List (Int × ByteArray)) (a : Int) (d : ByteArray) (w : World) (hn : xs.length ≤ 1048576) (hn2 : ps.length ≤ 1048576) (hd : d.size ≤ 1048576) (hr : Reads w vs xs) (hp : ReadsP w vp ps) (hz : d.size ≤ 8000) (hok : right xs ps = true) (hl : 64 < d.size) :
    Calls Tryz.prog 46 #[.agg #[vs, vp], .int .i64 a, .string d] w fun e w' => OutIs w.heap.size e w' (illOut 1) ∧ Below w.heap.size w w' := by
  have t1 : ¬ (8000 : Int) < (d.size : Int) := by omega
  have t2 : (64 : Int) < (d.size : Int) := by omega
  have hb0 : Below w.heap.size w ((w.alloc (.cells #[vs, vp] 26)).alloc (.cells #[.slice none 0 0, .slice none 0 0, .string ⟨#[]⟩, .int .i64 0] 69)) :=
    ((Below.refl _ _).alloc (Nat.le_refl _) _).alloc (by simp) _
  have HR := hide (hr.below hb0 (Nat.le_refl _))
  have HP := hide (hp.below hb0 (Nat.le_refl _))
  have HB0 := hide hb0
  obtain ⟨p1, c1, rfl, hq⟩ := hr
  obtain ⟨p2, c2, rfl, hq2⟩ := hp
  have R0 := (row_new w [.slice p1 xs.length c1, .slice p2 ps.length c2] 26).alloc (.cells #[.slice none 0 0, .slice none 0 0, .string ⟨#[]⟩, .int .i64 0] 69)
  have R1 := row_new (w.alloc (.cells #[.slice p1 xs.length c1, .slice p2 ps.length c2] 26)) [.slice none 0 0, .slice none 0 0, .string ⟨#[]⟩, .int .i64 0] 69
  simp only [World.size_alloc] at R1
  have HR0 := hide R0
  have HR1 := hide R1
  clear hb0 hq hq2 R1 R0
  go_enter Tryz.func46, Tryz.ntmps46
  go_wp2_with fail
  refine (specRight_any _ _ xs ps _ hn hn2 HR.out HP.out).mono ?_
  rw [hok]
  rintro e w1 ⟨rfl, hb1⟩
  have HB1 := hide (HB0.out.trans (hb1.mono HB0.out.size))
  have HX1 := hide (HR1.out.below hb1 (by simp))
  have HX0 := hide (HR0.out.below hb1 (by simp; omega))
  have HRa := hide (HR.out.below hb1 (Nat.le_refl _))
  have HPa := hide (HP.out.below hb1 (Nat.le_refl _))
  have a0 : w1.cell? ⟨w.heap.size, 0, none⟩ = some (.slice p1 xs.length c1) := HX0.out.cell 0
  have a1 : w1.cell? ⟨w.heap.size, 1, none⟩ = some (.slice p2 ps.length c2) := HX0.out.cell 1
  have e1 : IntKind.i64.wrap ((xs.length : Int) - 1) = (xs.length : Int) - 1 := by rw [IntKind.wrap_i64]; omega
  clear hb1 HR HP HR0 HR1 HB0
  go_wp2_with fail
  refine (l02Ill_any _ _).mono ?_
  rintro e w2 ⟨rfl, hb2⟩
  have R3 := HX1.out.below hb2 HX1.out.lt
  have HB2 := hide (HB1.out.trans (hb2.mono HB1.out.size))
  have c0 : w2.cell? ⟨w.heap.size + 1, 0, none⟩ = some (.slice none 0 0) := R3.cell 0
  have c1' : w2.cell? ⟨w.heap.size + 1, 1, none⟩ = some (.slice none 0 0) := R3.cell 1
  have c2' : w2.cell? ⟨w.heap.size + 1, 2, none⟩ = some (.string ⟨#[]⟩) := R3.cell 2
  have c3 : w2.cell? ⟨w.heap.size + 1, 3, none⟩ = some (.int .i64 0) := R3.cell 3
  have f0 := R3.free 0
  have f1 := R3.free 1
  have f2 := R3.free 2
  have f3 := R3.free 3
  have HR3 := hide R3
  clear hb2 R3
  go_wp2
  obtain ⟨q0, q1, q2, q3, KF⟩ := four HR3.out (.slice none 0 0) (.slice none 0 0) (.string ⟨#[]⟩) (.int .i64 1)
  exact bodyPost_ret (v := .agg #[.slice none 0 0, .slice none 0 0, .string ⟨#[]⟩, .int .i64 1]) (by simp [results, Tryz.results46, go_sem, q0, q1, q2, q3]) rfl
    ⟨⟨_, _, rfl, OwnS.none _ _ _, OwnP.none _ _ _, fun _ h => by cases h⟩, KF.toBelow HB2.out HB2.out.size (by simp)⟩

set_option maxRecDepth 100000 in
set_option maxHeartbeats 4000000 in
theorem specWrite_far (vs vp : Value) (xs : List ByteArray) (ps : List (Int × ByteArray)) (a : Int) (d : ByteArray) (w : World) (hn : xs.length ≤ 1048576) (hn2 : ps.length ≤ 1048576) (hd : d.size ≤ 1048576) (hr : Reads w vs xs) (hp : ReadsP w vp ps) (hl : d.size ≤ 64) (hok : right xs ps = true) (hfar : ¬ (0 ≤ a ∧ a ≤ (xs.length : Int) - 1)) :
    Calls Tryz.prog 46 #[.agg #[vs, vp], .int .i64 a, .string d] w fun e w' => OutIs w.heap.size e w' (illOut 8) ∧ Below w.heap.size w w' := by
  have t1 : ¬ (8000 : Int) < (d.size : Int) := by omega
  have t2 : ¬ (64 : Int) < (d.size : Int) := by omega
  have hb0 : Below w.heap.size w ((w.alloc (.cells #[vs, vp] 26)).alloc (.cells #[.slice none 0 0, .slice none 0 0, .string ⟨#[]⟩, .int .i64 0] 69)) :=
    ((Below.refl _ _).alloc (Nat.le_refl _) _).alloc (by simp) _
  have HR := hide (hr.below hb0 (Nat.le_refl _))
  have HP := hide (hp.below hb0 (Nat.le_refl _))
  have HB0 := hide hb0
  obtain ⟨p1, c1, rfl, hq⟩ := hr
  obtain ⟨p2, c2, rfl, hq2⟩ := hp
  have R0 := (row_new w [.slice p1 xs.length c1, .slice p2 ps.length c2] 26).alloc (.cells #[.slice none 0 0, .slice none 0 0, .string ⟨#[]⟩, .int .i64 0] 69)
  have R1 := row_new (w.alloc (.cells #[.slice p1 xs.length c1, .slice p2 ps.length c2] 26)) [.slice none 0 0, .slice none 0 0, .string ⟨#[]⟩, .int .i64 0] 69
  simp only [World.size_alloc] at R1
  have HR0 := hide R0
  have HR1 := hide R1
  clear hb0 hq hq2 R1 R0
  go_enter Tryz.func46, Tryz.ntmps46
  go_wp2_with fail
  refine (specRight_any _ _ xs ps _ hn hn2 HR.out HP.out).mono ?_
  rw [hok]
  rintro e w1 ⟨rfl, hb1⟩
  have HB1 := hide (HB0.out.trans (hb1.mono HB0.out.size))
  have HX1 := hide (HR1.out.below hb1 (by simp))
  have HX0 := hide (HR0.out.below hb1 (by simp; omega))
  have HRa := hide (HR.out.below hb1 (Nat.le_refl _))
  have HPa := hide (HP.out.below hb1 (Nat.le_refl _))
  have a0 : w1.cell? ⟨w.heap.size, 0, none⟩ = some (.slice p1 xs.length c1) := HX0.out.cell 0
  have a1 : w1.cell? ⟨w.heap.size, 1, none⟩ = some (.slice p2 ps.length c2) := HX0.out.cell 1
  have e1 : IntKind.i64.wrap ((xs.length : Int) - 1) = (xs.length : Int) - 1 := by rw [IntKind.wrap_i64]; omega
  clear hb1 HR HP HR0 HR1 HB0
  go_wp2_with fail
  refine (l02Is_no _ _ _ _ hfar).mono ?_
  rintro e w1' ⟨rfl, rfl⟩
  go_wp2_with fail
  refine (l02Ill_any _ _).mono ?_
  rintro e w2 ⟨rfl, hb2⟩
  have R3 := HX1.out.below hb2 HX1.out.lt
  have HB2 := hide (HB1.out.trans (hb2.mono HB1.out.size))
  have c0 : w2.cell? ⟨w.heap.size + 1, 0, none⟩ = some (.slice none 0 0) := R3.cell 0
  have c1' : w2.cell? ⟨w.heap.size + 1, 1, none⟩ = some (.slice none 0 0) := R3.cell 1
  have c2' : w2.cell? ⟨w.heap.size + 1, 2, none⟩ = some (.string ⟨#[]⟩) := R3.cell 2
  have c3 : w2.cell? ⟨w.heap.size + 1, 3, none⟩ = some (.int .i64 0) := R3.cell 3
  have f0 := R3.free 0
  have f1 := R3.free 1
  have f2 := R3.free 2
  have f3 := R3.free 3
  have HR3 := hide R3
  clear hb2 R3
  go_wp2
  obtain ⟨q0, q1, q2, q3, KF⟩ := four HR3.out (.slice none 0 0) (.slice none 0 0) (.string ⟨#[]⟩) (.int .i64 8)
  exact bodyPost_ret (v := .agg #[.slice none 0 0, .slice none 0 0, .string ⟨#[]⟩, .int .i64 8]) (by simp [results, Tryz.results46, go_sem, q0, q1, q2, q3]) rfl
    ⟨⟨_, _, rfl, OwnS.none _ _ _, OwnP.none _ _ _, fun _ h => by cases h⟩, KF.toBelow HB2.out HB2.out.size (by simp)⟩

set_option maxRecDepth 100000 in
set_option maxHeartbeats 4000000 in
theorem specWrite_full (vs vp : Value) (xs : List ByteArray) (ps : List (Int × ByteArray)) (a : Int) (d : ByteArray) (w : World) (hn : xs.length ≤ 1048576) (hn2 : ps.length ≤ 1048576) (hd : d.size ≤ 1048576) (hr : Reads w vs xs) (hp : ReadsP w vp ps) (hl : d.size ≤ 64) (hok : right xs ps = true) (hin : 0 ≤ a ∧ a ≤ (xs.length : Int) - 1) (hf : 200 ≤ ps.length) :
    Calls Tryz.prog 46 #[.agg #[vs, vp], .int .i64 a, .string d] w fun e w' => OutIs w.heap.size e w' (illOut 9) ∧ Below w.heap.size w w' := by
  have t1 : ¬ (8000 : Int) < (d.size : Int) := by omega
  have t2 : ¬ (64 : Int) < (d.size : Int) := by omega
  have t3 : (200 : Int) ≤ (ps.length : Int) := by omega
  have hb0 : Below w.heap.size w ((w.alloc (.cells #[vs, vp] 26)).alloc (.cells #[.slice none 0 0, .slice none 0 0, .string ⟨#[]⟩, .int .i64 0] 69)) :=
    ((Below.refl _ _).alloc (Nat.le_refl _) _).alloc (by simp) _
  have HR := hide (hr.below hb0 (Nat.le_refl _))
  have HP := hide (hp.below hb0 (Nat.le_refl _))
  have HB0 := hide hb0
  obtain ⟨p1, c1, rfl, hq⟩ := hr
  obtain ⟨p2, c2, rfl, hq2⟩ := hp
  have R0 := (row_new w [.slice p1 xs.length c1, .slice p2 ps.length c2] 26).alloc (.cells #[.slice none 0 0, .slice none 0 0, .string ⟨#[]⟩, .int .i64 0] 69)
  have R1 := row_new (w.alloc (.cells #[.slice p1 xs.length c1, .slice p2 ps.length c2] 26)) [.slice none 0 0, .slice none 0 0, .string ⟨#[]⟩, .int .i64 0] 69
  simp only [World.size_alloc] at R1
  have HR0 := hide R0
  have HR1 := hide R1
  clear hb0 hq hq2 R1 R0
  go_enter Tryz.func46, Tryz.ntmps46
  go_wp2_with fail
  refine (specRight_any _ _ xs ps _ hn hn2 HR.out HP.out).mono ?_
  rw [hok]
  rintro e w1 ⟨rfl, hb1⟩
  have HB1 := hide (HB0.out.trans (hb1.mono HB0.out.size))
  have HX1 := hide (HR1.out.below hb1 (by simp))
  have HX0 := hide (HR0.out.below hb1 (by simp; omega))
  have HRa := hide (HR.out.below hb1 (Nat.le_refl _))
  have HPa := hide (HP.out.below hb1 (Nat.le_refl _))
  have a0 : w1.cell? ⟨w.heap.size, 0, none⟩ = some (.slice p1 xs.length c1) := HX0.out.cell 0
  have a1 : w1.cell? ⟨w.heap.size, 1, none⟩ = some (.slice p2 ps.length c2) := HX0.out.cell 1
  have e1 : IntKind.i64.wrap ((xs.length : Int) - 1) = (xs.length : Int) - 1 := by rw [IntKind.wrap_i64]; omega
  clear hb1 HR HP HR0 HR1 HB0
  go_wp2_with fail
  refine (l02Is_yes _ _ _ _ hin.1 hin.2).mono ?_
  rintro e w1' ⟨rfl, rfl⟩
  go_wp2_with fail
  refine (l02Ill_any _ _).mono ?_
  rintro e w2 ⟨rfl, hb2⟩
  have R3 := HX1.out.below hb2 HX1.out.lt
  have HB2 := hide (HB1.out.trans (hb2.mono HB1.out.size))
  have c0 : w2.cell? ⟨w.heap.size + 1, 0, none⟩ = some (.slice none 0 0) := R3.cell 0
  have c1' : w2.cell? ⟨w.heap.size + 1, 1, none⟩ = some (.slice none 0 0) := R3.cell 1
  have c2' : w2.cell? ⟨w.heap.size + 1, 2, none⟩ = some (.string ⟨#[]⟩) := R3.cell 2
  have c3 : w2.cell? ⟨w.heap.size + 1, 3, none⟩ = some (.int .i64 0) := R3.cell 3
  have f0 := R3.free 0
  have f1 := R3.free 1
  have f2 := R3.free 2
  have f3 := R3.free 3
  have HR3 := hide R3
  clear hb2 R3
  go_wp2
  obtain ⟨q0, q1, q2, q3, KF⟩ := four HR3.out (.slice none 0 0) (.slice none 0 0) (.string ⟨#[]⟩) (.int .i64 9)
  exact bodyPost_ret (v := .agg #[.slice none 0 0, .slice none 0 0, .string ⟨#[]⟩, .int .i64 9]) (by simp [results, Tryz.results46, go_sem, q0, q1, q2, q3]) rfl
    ⟨⟨_, _, rfl, OwnS.none _ _ _, OwnP.none _ _ _, fun _ h => by cases h⟩, KF.toBelow HB2.out HB2.out.size (by simp)⟩

set_option maxRecDepth 100000 in
set_option maxHeartbeats 4000000 in
theorem specWrite_good (vs vp : Value) (xs : List ByteArray) (ps : List (Int × ByteArray)) (a : Int) (d : ByteArray) (w : World) (hn : xs.length ≤ 1048576) (hn2 : ps.length ≤ 1048576) (hd : d.size ≤ 1048576) (hr : Reads w vs xs) (hp : ReadsP w vp ps) (hl : d.size ≤ 64) (hok : right xs ps = true) (hin : 0 ≤ a ∧ a ≤ (xs.length : Int) - 1) (hf : ps.length < 200) :
    Calls Tryz.prog 46 #[.agg #[vs, vp], .int .i64 a, .string d] w fun e w' => OutIs w.heap.size e w' (⟨xs, ps ++ [(a, d)], ⟨#[]⟩, 0⟩) ∧ Below w.heap.size w w' := by
  obtain ⟨j0, hj, hy0, hy1, hy2⟩ := info_parts Tryz.infoPend
  have t1 : ¬ (8000 : Int) < (d.size : Int) := by omega
  have t2 : ¬ (64 : Int) < (d.size : Int) := by omega
  have t3 : ¬ (200 : Int) ≤ (ps.length : Int) := by omega
  have hb0 : Below w.heap.size w ((w.alloc (.cells #[vs, vp] 26)).alloc (.cells #[.slice none 0 0, .slice none 0 0, .string ⟨#[]⟩, .int .i64 0] 69)) :=
    ((Below.refl _ _).alloc (Nat.le_refl _) _).alloc (by simp) _
  have HR := hide (hr.below hb0 (Nat.le_refl _))
  have HP := hide (hp.below hb0 (Nat.le_refl _))
  have HB0 := hide hb0
  obtain ⟨p1, c1, rfl, hq⟩ := hr
  obtain ⟨p2, c2, rfl, hq2⟩ := hp
  have R0 := (row_new w [.slice p1 xs.length c1, .slice p2 ps.length c2] 26).alloc (.cells #[.slice none 0 0, .slice none 0 0, .string ⟨#[]⟩, .int .i64 0] 69)
  have R1 := row_new (w.alloc (.cells #[.slice p1 xs.length c1, .slice p2 ps.length c2] 26)) [.slice none 0 0, .slice none 0 0, .string ⟨#[]⟩, .int .i64 0] 69
  simp only [World.size_alloc] at R1
  have HR0 := hide R0
  have HR1 := hide R1
  clear hb0 hq hq2 R1 R0
  go_enter Tryz.func46, Tryz.ntmps46
  go_wp2_with fail
  refine (specRight_any _ _ xs ps _ hn hn2 HR.out HP.out).mono ?_
  rw [hok]
  rintro e w1 ⟨rfl, hb1⟩
  have HB1 := hide (HB0.out.trans (hb1.mono HB0.out.size))
  have HX1 := hide (HR1.out.below hb1 (by simp))
  have HX0 := hide (HR0.out.below hb1 (by simp; omega))
  have HRa := hide (HR.out.below hb1 (Nat.le_refl _))
  have HPa := hide (HP.out.below hb1 (Nat.le_refl _))
  have a0 : w1.cell? ⟨w.heap.size, 0, none⟩ = some (.slice p1 xs.length c1) := HX0.out.cell 0
  have a1 : w1.cell? ⟨w.heap.size, 1, none⟩ = some (.slice p2 ps.length c2) := HX0.out.cell 1
  have e1 : IntKind.i64.wrap ((xs.length : Int) - 1) = (xs.length : Int) - 1 := by rw [IntKind.wrap_i64]; omega
  clear hb1 HR HP HR0 HR1 HB0
  go_wp2_with fail
  refine (l02Is_yes _ _ _ _ hin.1 hin.2).mono ?_
  rintro e w1' ⟨rfl, rfl⟩
  go_wp2_with fail
  refine (l02Copy_any _ _ xs ps _ hn hn2 HRa.out HPa.out).mono ?_
  rintro e w2 ⟨us, up, rfl, ow1, ow2, dd, he, hb2⟩
  have hl1 := HX1.out.lt
  have R3 := HX1.out.below hb2 hl1
  have HB2 := hide (HB1.out.trans (hb2.mono HB1.out.size))
  have HO1 := hide ow1
  have HO2 := hide ow2
  have HD := hide dd
  have HE := hide he
  have HR3 := hide R3
  have hz2 : w.heap.size + 2 ≤ w2.heap.size := by have := hb2.size; omega
  obtain ⟨q1, m1, d1, rfl⟩ : ∃ p n c, us = .slice p n c := by obtain ⟨p, c, e, _⟩ := ow1.reads; exact ⟨_, _, _, e⟩
  obtain ⟨q2, m2, d2, rfl⟩ : ∃ p n c, up = .slice p n c := by obtain ⟨p, c, e, _⟩ := ow2.reads; exact ⟨_, _, _, e⟩
  clear ow1 ow2 dd hb2 R3 he
  have hzp : (Value.agg #[.int .i64 0, .string ⟨#[]⟩]).cells.size = 2 := by simp [Value.cells]
  have bx : Below w2.heap.size w2 ((w2.alloc (.cells #[.slice q1 m1 d1, .slice q2 m2 d2] 26)).alloc (.cells #[.int .i64 a, .string d] 61)) :=
    ((Below.refl _ _).alloc (Nat.le_refl _) _).alloc (by simp) _
  have HOX := hide ((HO2.out.mono (B' := w.heap.size) (by omega)).below bx (Nat.le_refl _))
  have HOS := hide ((HO1.out.mono (B' := w.heap.size) (by omega)).below bx (Nat.le_refl _))
  have RX := row_new (w2.alloc (.cells #[.slice q1 m1 d1, .slice q2 m2 d2] 26)) [.int .i64 a, .string d] 61
  simp only [World.size_alloc] at RX
  have HRX := hide RX
  have HG := hide ((row_new w2 [.slice q1 m1 d1, .slice q2 m2 d2] 26).alloc (.cells #[.int .i64 a, .string d] 61))
  have HN := hide ((HR3.out.alloc (.cells #[.slice q1 m1 d1, .slice q2 m2 d2] 26)).alloc (.cells #[.int .i64 a, .string d] 61))
  have HBX := hide (HB2.out.trans (bx.mono HB2.out.size))
  have hBX : w.heap.size ≤ ((w2.alloc (.cells #[.slice q1 m1 d1, .slice q2 m2 d2] 26)).alloc (.cells #[.int .i64 a, .string d] 61)).heap.size := HBX.out.size
  have hdm : d.size ≤ maxLen := by unfold maxLen; omega
  have hne1 : ¬ w2.heap.size = w.heap.size + 1 := by omega
  have hne2 : ¬ w.heap.size + 1 = w2.heap.size := by omega
  clear bx RX
  go_wp2_with (at_builtin; refine wpList_pushP _ rfl _ _ 24 rfl w.heap.size 61 j0 (.agg #[.int .i64 0, .string ⟨#[]⟩]) Tryz.underlying24 hj hy0 hy1 hy2 hzp (.slice q2 m2 d2) rfl ps HOX.out HE.out hn2 hBX a d hdm (w2.heap.size + 1) 1 rfl HRX.out ?_
               intro q3 d3 w3 ho3 hk3 hl3
               have HO3 := hide ho3
               have HK3 := hide hk3
               have HL3 := hide hl3
               have G3 := hk3.row HG.out (fun h => absurd (HO2.out.leads _ h).2 (Nat.lt_irrefl _))
               have N3 := hk3.row HN.out (fun h => absurd (HO2.out.leads _ h).1 (by omega))
               have o0 : w3.cell? ⟨w2.heap.size, 0, none⟩ = some (.slice q1 m1 d1) := G3.cell 0
               have o1 : w3.cell? ⟨w2.heap.size, 1, none⟩ = some (.slice q2 m2 d2) := G3.cell 1
               have o2 := G3.free 1
               have c0 : w3.cell? ⟨w.heap.size + 1, 0, none⟩ = some (.slice none 0 0) := N3.cell 0
               have c1' : w3.cell? ⟨w.heap.size + 1, 1, none⟩ = some (.slice none 0 0) := N3.cell 1
               have c2' : w3.cell? ⟨w.heap.size + 1, 2, none⟩ = some (.string ⟨#[]⟩) := N3.cell 2
               have c3 : w3.cell? ⟨w.heap.size + 1, 3, none⟩ = some (.int .i64 0) := N3.cell 3
               have f0 := N3.free 0
               have f1 := N3.free 1
               have f2 := N3.free 2
               have f3 := N3.free 3
               have HN3 := hide N3
               clear ho3 hk3 hl3 N3 G3)
  have KS := Kept.ofSet w3 w2.heap.size 1 (.slice q3 (ps.length + 1) d3)
  have R4 := HN3.out.other (b := w2.heap.size) (j := 1) (by omega) (.slice q3 (ps.length + 1) d3)
  obtain ⟨z0, z1, z2, z3, KF⟩ := four R4 (.slice q1 m1 d1) (.slice q3 (ps.length + 1) d3) (.string ⟨#[]⟩) (.int .i64 0)
  have LU : ∀ x ∈ leads (.slice q1 m1 d1), w.heap.size + 2 ≤ x ∧ x < w2.heap.size := fun x hx => by
    have := HO1.out.leads x hx
    omega
  have LP : ∀ x ∈ leads (.slice q2 m2 d2), w.heap.size + 2 ≤ x ∧ x < w2.heap.size := fun x hx => by
    have := HO2.out.leads x hx
    omega
  have LQ : ∀ x ∈ leads (.slice q3 (ps.length + 1) d3), x ∈ leads (.slice q2 m2 d2) ∨ w2.heap.size + 2 ≤ x := fun x hx => by
    rcases HL3.out x hx with h | h
    · exact .inl h
    · exact .inr (by simpa using h)
  have LR : ∀ x ∈ leads (.slice q3 (ps.length + 1) d3), x ≠ w2.heap.size ∧ w.heap.size + 2 ≤ x := fun x hx => by
    rcases LQ x hx with h | h
    · have := LP x h; omega
    · omega
  have k3 := HK3.out.toBelow HBX.out hBX (fun x hx => by have := LP x hx; omega)
  have k4 := KS.toBelow k3 k3.size (by simp; have := HB2.out.size; omega)
  have k5 := KF.toBelow k4 k4.size (by simp)
  have O1 := ((HOS.out.kept HK3.out HD.out).kept KS (fun x hx => by have := LU x hx; simp; omega)).kept KF (fun x hx => by have := LU x hx; simp; omega)
  have O2 := (HO3.out.kept KS (fun x hx => by have := LR x hx; simp; omega)).kept KF (fun x hx => by have := LR x hx; simp; omega)
  exact bodyPost_ret (v := .agg #[(.slice q1 m1 d1), (.slice q3 (ps.length + 1) d3), .string ⟨#[]⟩, .int .i64 0]) (by simp [results, Tryz.results46, go_sem, z0, z1, z2, z3]) rfl
    ⟨⟨_, _, rfl, O1, O2, fun x hx hy => by
      rcases LQ x hy with h | h
      · exact HD.out x hx h
      · have := LU x hx; omega⟩, k5⟩

theorem specWrite_any (vs vp : Value) (xs : List ByteArray) (ps : List (Int × ByteArray)) (a : Int) (d : ByteArray) (w : World) (hn : xs.length ≤ 1048576) (hn2 : ps.length ≤ 1048576) (hd : d.size ≤ 1048576) (hr : Reads w vs xs) (hp : ReadsP w vp ps) :
    Calls Tryz.prog 46 #[.agg #[vs, vp], .int .i64 a, .string d] w fun e w' => OutIs w.heap.size e w' (writeOut xs ps a d) ∧ Below w.heap.size w w' := by
  unfold writeOut
  split
  · rename_i h; exact specWrite_size vs vp xs ps a d w hd hr hp h
  · rename_i hz
    split
    · rename_i h
      cases hok : right xs ps with
      | false => exact specWrite_ill vs vp xs ps a d w hn hn2 hd hr hp (by omega) hok
      | true => exact specWrite_long vs vp xs ps a d w hn hn2 hd hr hp (by omega) hok (by rcases h with h | h; · rw [hok] at h; cases h
                                                                                          · exact h)
    · rename_i h
      have hok : right xs ps = true := by
        cases hr' : right xs ps with
        | false => exact absurd (.inl hr') h
        | true => rfl
      have hl : d.size ≤ 64 := by
        by_cases h' : 64 < d.size
        · exact absurd (.inr h') h
        · omega
      split
      · rename_i hin
        split
        · rename_i hf; exact specWrite_full vs vp xs ps a d w hn hn2 hd hr hp hl hok hin hf
        · rename_i hf; exact specWrite_good vs vp xs ps a d w hn hn2 hd hr hp hl hok hin (by omega)
      · rename_i hin; exact specWrite_far vs vp xs ps a d w hn hn2 hd hr hp hl hok hin
end Go.Proofs.YtkmehbgepkilkaaGreatDoor

/- DiskNew, as the specification does it. -/
namespace Go.Proofs.YtkmehbgepkilkaaGreatDoor
open Go.RowKit

/-- The call ended with the disk xs, ps, in memory of its own. -/
def DiskIs (B : Nat) (e : Ending) (w : World) (xs : List ByteArray) (ps : List (Int × ByteArray)) : Prop :=
  ∃ us up, e = .returned (.agg #[us, up]) ∧ OwnS 9 B w us xs ∧ OwnP 61 B w up ps ∧ ∀ x ∈ leads us, x ∉ leads up
def newDisk (n : Int) : List ByteArray := if 1 ≤ n ∧ n ≤ 64 then List.replicate n.toNat ⟨#[]⟩ else []

theorem two {w : World} {G : Nat} {T : TypeId} {a b : Value} (R : Row w G T [a, b]) (A B : Value) :
    ((w.setCell ⟨G, 0, none⟩ A).setCell ⟨G, 1, none⟩ B).cell? ⟨G, 0, none⟩ = some A ∧ ((w.setCell ⟨G, 0, none⟩ A).setCell ⟨G, 1, none⟩ B).cell? ⟨G, 1, none⟩ = some B ∧
    Kept [G] w ((w.setCell ⟨G, 0, none⟩ A).setCell ⟨G, 1, none⟩ B) := by
  have R4 := (R.set (j := 0) A).set (j := 1) B
  exact ⟨R4.cell 0, R4.cell 1, ((Kept.refl _ _).set (by simp) _).set (by simp) _⟩

set_option maxHeartbeats 2000000 in
theorem specNew_nil (n : Int) (w : World) :
    Calls Tryz.prog 55 #[.int .i64 n] w fun e w' => (∃ us, e = .returned (.agg #[us, .slice none 0 0]) ∧ OwnS 9 w.heap.size w' us (newDisk n)) ∧ Below w.heap.size w w' := by
  obtain ⟨i0, hi, hz0, hz1, hz2⟩ := info_parts Tryz.infoStr
  have hb0 : Below w.heap.size w (w.alloc (.cells #[.slice none 0 0, .slice none 0 0] 26)) := (Below.refl _ _).alloc (Nat.le_refl _) _
  by_cases hin : 1 ≤ n ∧ n ≤ 64
  · obtain ⟨k, rfl⟩ := Int.eq_ofNat_of_zero_le (by omega : 0 ≤ n)
    have HF := hide (show newDisk (k : Int) = List.replicate k ⟨#[]⟩ by unfold newDisk; rw [if_pos hin]; rfl)
    rw [HF.out]
    have HB0 := hide hb0
    have HR0 := hide (row_new w [.slice none 0 0, .slice none 0 0] 26)
    have hsz := World.size_alloc w (.cells #[.slice none 0 0, .slice none 0 0] 26)
    clear hb0
    go_enter Tryz.func55, Tryz.ntmps55
    go_wp2_with fail
    refine (l02Is_yes _ _ _ _ hin.1 hin.2).mono ?_
    rintro e w1 ⟨rfl, rfl⟩
    go_wp2_with (at_make; refine wpList_make_full _ rfl _ _ 23 rfl (w.heap.size + 1) 9 i0 (.string ⟨#[]⟩) 1 Tryz.underlying23 hi hz0 hz1 _ _ _ _ k rfl rfl rfl rfl ?b2 ?b3 (by simp) ?_)
    case b2 => rw [hz2]; omega
    case b3 => unfold maxLen; omega
    intro w2 hown hgrow
    rw [toList_madeCells_one] at hown
    have ho : OwnS 9 (w.heap.size + 1) w2 (.slice (some ⟨w.heap.size + 1, 0, none⟩) k k) (List.replicate k ⟨#[]⟩) :=
      OwnS.ofRow (fun x hx => by rw [(List.mem_replicate.1 hx).2]; exact Nat.zero_le _) (by simp; omega) (by simpa [strs] using hown)
    have hb2 := below_ofGrown hgrow
    have R2 := HR0.out.below hb2 HR0.out.lt
    have HO := hide ho
    have HB2 := hide (HB0.out.trans (hb2.mono HB0.out.size))
    have c0 : w2.cell? ⟨w.heap.size, 0, none⟩ = some (.slice none 0 0) := R2.cell 0
    have c1 : w2.cell? ⟨w.heap.size, 1, none⟩ = some (.slice none 0 0) := R2.cell 1
    have f0 := R2.free 0
    have f1 := R2.free 1
    have HR2 := hide R2
    clear hown hgrow hb2 R2 ho
    go_wp2
    obtain ⟨z0, z1, KF⟩ := two HR2.out (.slice (some ⟨w.heap.size + 1, 0, none⟩) k k) (.slice none 0 0)
    exact bodyPost_ret (v := .agg #[.slice (some ⟨w.heap.size + 1, 0, none⟩) k k, .slice none 0 0]) (by simp [results, Tryz.results55, go_sem, z0, z1]) rfl
      ⟨⟨_, rfl, (HO.out.kept KF (fun x hx => by have := (HO.out.leads x hx).1; simp; omega)).mono (by omega)⟩, KF.toBelow HB2.out HB2.out.size (by simp)⟩
  · have HF := hide (show newDisk n = [] by unfold newDisk; rw [if_neg hin])
    rw [HF.out]
    have HB0 := hide hb0
    clear hb0 hi hz0 hz1 hz2
    go_enter Tryz.func55, Tryz.ntmps55
    go_wp2_with fail
    refine (l02Is_no _ _ _ _ hin).mono ?_
    rintro e w1 ⟨rfl, rfl⟩
    go_wp2
    exact bodyPost_ret (v := .agg #[.slice none 0 0, .slice none 0 0]) (by simp [results, Tryz.results55, go_sem]) rfl
      ⟨⟨_, rfl, OwnS.none _ _ _⟩, HB0.out⟩
end Go.Proofs.YtkmehbgepkilkaaGreatDoor

/- DiskFlush, as the specification does it. -/
namespace Go.Proofs.YtkmehbgepkilkaaGreatDoor
open Go.RowKit

theorem wpList_copyS {P : Program} (w : World) {ops : Array Oper} {rest : List Oper} {o : Oper} {a : Act} {Q : Exit → Act → World → Prop} (hgd : o.guard = none) (s x : Operand) (t : TypeId)
    (hop : o.op = Op.call { callee := Callee.builtin Builtin.append, args := #[s, x], argTypes := #[t, t] })
    (e : TypeId) (i : TypeInfo) (z : Value) (ht : P.underlying t = some (.slice e)) (hi : P.info? e = some i) (hz : i.zero = some z) (hs : i.size = 1) (hb : i.bytes = 16) (hzs : z.cells.size = 1)
    (b : Addr) (h1 : a.eval s = .slice (some b) 0 0) (v : Value) (h2 : a.eval x = v) (xs : List ByteArray) (hr : Reads w v xs) (hn : xs.length ≤ 1048576)
    (hK : ∀ p c w', OwnS e w.heap.size w' (.slice p xs.length c) xs → Below w.heap.size w w' → wpList P ops Q rest (a.put o.dst (.slice p xs.length c)) w') : wpList P ops Q (o :: rest) a w := by
  refine wpList_plain hgd fun K hK' => ?_
  obtain ⟨p, c, w', hrun, r1, r2⟩ := run_copyS (P := P) w t o.type e i z ht hi hz hs hb hzs b v xs hr hn
  unfold Oper.wp
  simp [execOp, hop, resolve, invoke, builtin, h1, h2, hrun, Result.andThen]
  exact hK' _ _ (hK p c w' r1 r2)

/-- The sectors with all of ps written to them, in order. -/
def applyP : List (Int × ByteArray) → List ByteArray → List ByteArray
  | [], xs => xs
  | x :: r, xs => applyP r (xs.set x.1.toNat x.2)
theorem applyP_step (ps : List (Int × ByteArray)) (k : Nat) (h : k < ps.length) (xs : List ByteArray) : applyP (ps.drop k) xs = applyP (ps.drop (k + 1)) (xs.set (ps[k]'h).1.toNat (ps[k]'h).2) := by
  rw [List.drop_eq_getElem_cons h]; rfl
def flushOut (xs : List ByteArray) (ps : List (Int × ByteArray)) : Out := if right xs ps then ⟨applyP ps xs, [], ⟨#[]⟩, 0⟩ else illOut 1
theorem right_at {xs : List ByteArray} {ps : List (Int × ByteArray)} (h : right xs ps = true) (j : Nat) (hj : j < ps.length) : 0 ≤ (ps[j]'hj).1 ∧ (ps[j]'hj).1 ≤ (xs.length : Int) - 1 ∧ (ps[j]'hj).2.size ≤ 64 := by
  unfold right at h
  simp only [Bool.and_eq_true] at h
  have := h.2
  unfold okP at this
  rw [List.all_eq_true] at this
  have := this _ (List.getElem_mem hj)
  simp at this
  omega
theorem right_len {xs : List ByteArray} {ps : List (Int × ByteArray)} (h : right xs ps = true) : 1 ≤ xs.length ∧ xs.length ≤ 64 ∧ ps.length ≤ 200 := by
  unfold right at h
  simp at h
  omega

theorem strs_set (ys : List ByteArray) (rest : List Value) (m : Nat) (d : ByteArray) (h : m < ys.length) : (strs ys ++ rest).set m (.string d) = strs (ys.set m d) ++ rest := by
  rw [List.set_append_left _ _ (by rw [strs_len]; exact h)]
  unfold strs
  rw [List.map_set]

set_option maxRecDepth 100000 in
set_option maxHeartbeats 4000000 in
theorem specFlush_nil (vs vp : Value) (xs : List ByteArray) (ps : List (Int × ByteArray)) (w : World) (hn : xs.length ≤ 1048576) (hn2 : ps.length ≤ 1048576) (hr : Reads w vs xs) (hp : ReadsP w vp ps) (hok : right xs ps = true) :
    Calls Tryz.prog 48 #[.agg #[vs, vp]] w fun e w' => (∃ us, e = .returned (.agg #[us, .slice none 0 0, .string ⟨#[]⟩, .int .i64 0]) ∧ OwnS 9 w.heap.size w' us (applyP ps xs)) ∧ Below w.heap.size w w' := by
  obtain ⟨i0, hi, hz0, hz1, hz2⟩ := info_parts Tryz.infoStr
  have hb0 : Below w.heap.size w ((w.alloc (.cells #[vs, vp] 26)).alloc (.cells #[.slice none 0 0, .slice none 0 0, .string ⟨#[]⟩, .int .i64 0] 69)) :=
    ((Below.refl _ _).alloc (Nat.le_refl _) _).alloc (by simp) _
  have HR := hide (hr.below hb0 (Nat.le_refl _))
  have HP := hide (hp.below hb0 (Nat.le_refl _))
  have HB0 := hide hb0
  obtain ⟨p1, c1, rfl, hq⟩ := hr
  obtain ⟨p2, c2, rfl, hq2⟩ := hp
  have R0 := (row_new w [.slice p1 xs.length c1, .slice p2 ps.length c2] 26).alloc (.cells #[.slice none 0 0, .slice none 0 0, .string ⟨#[]⟩, .int .i64 0] 69)
  have R1 := row_new (w.alloc (.cells #[.slice p1 xs.length c1, .slice p2 ps.length c2] 26)) [.slice none 0 0, .slice none 0 0, .string ⟨#[]⟩, .int .i64 0] 69
  simp only [World.size_alloc] at R1
  have HR0 := hide R0
  have HR1 := hide R1
  clear hb0 hq hq2 R1 R0
  go_enter Tryz.func48, Tryz.ntmps48
  go_wp2_with fail
  refine (specRight_any _ _ xs ps _ hn hn2 HR.out HP.out).mono ?_
  rw [hok]
  rintro e w1 ⟨rfl, hb1⟩
  have HB1 := hide (HB0.out.trans (hb1.mono HB0.out.size))
  have HX1 := hide (HR1.out.below hb1 (by simp))
  have HX0 := hide (HR0.out.below hb1 (by simp; omega))
  have HRa := hide (HR.out.below hb1 (Nat.le_refl _))
  have HPa := hide (HP.out.below hb1 (Nat.le_refl _))
  have a0 : w1.cell? ⟨w.heap.size, 0, none⟩ = some (.slice p1 xs.length c1) := HX0.out.cell 0
  have hl1 := HX1.out.lt
  clear hb1 HR HP HR0 HR1 HB0
  have ba : Below w1.heap.size w1 (w1.alloc (.cells #[] 9)) := (Below.refl _ _).alloc (Nat.le_refl _) _
  have HRb := hide (HRa.out.below ba (Nat.le_refl _))
  have a0' : (w1.alloc (.cells #[] 9)).cell? ⟨w.heap.size, 0, none⟩ = some (.slice p1 xs.length c1) := (HX0.out.alloc _).cell 0
  have HBa := hide ba
  clear ba
  go_wp2_with (at_builtin; refine wpList_copyS _ rfl _ _ 23 rfl 9 i0 (.string ⟨#[]⟩) Tryz.underlying23 hi hz0 hz1 hz2 rfl ⟨w1.heap.size, 0, none⟩ rfl (.slice p1 xs.length c1) rfl xs HRb.out hn ?_
               intro q1 d1 w2 ho1 hb2
               have HO1 := hide ho1
               have HB2 := hide hb2
               clear ho1 hb2)
  obtain ⟨l1, l2, l3⟩ := right_len hok
  obtain ⟨hx, ⟨_, _, _, _, hnil⟩ | ⟨U, rest, heq, hmx, hU, hrowU⟩⟩ := HO1.out
  · rw [hnil] at l1; cases l1
  cases heq
  have hU1 : w1.heap.size + 1 ≤ U := by simpa using hU
  have hU2 := hrowU.lt
  have hz : w1.heap.size + 1 ≤ w2.heap.size := by have := HB2.out.size; simpa using this
  obtain ⟨W, hW⟩ : ∃ W, W = w2.alloc (.cells #[.slice (some ⟨U, 0, none⟩) xs.length (xs.length + rest.length), .slice none 0 0] 26) := ⟨_, rfl⟩
  have b12 : Below w1.heap.size w1 W := by
    rw [hW]
    exact (HBa.out.trans (HB2.out.mono HBa.out.size)).alloc (by omega) _
  have RU : Row W U 9 (strs xs ++ rest) := by rw [hW]; exact hrowU.alloc _
  have RG : Row W w2.heap.size 26 [.slice (some ⟨U, 0, none⟩) xs.length (xs.length + rest.length), .slice none 0 0] := by rw [hW]; exact row_new w2 _ _
  have RN := HX1.out.below b12 hl1
  have R0' := HX0.out.below b12 HX0.out.lt
  have HPb := hide (HPa.out.below b12 (Nat.le_refl _))
  have LP := hide HPa.out.leads
  have HBW := hide (HB1.out.trans (b12.mono HB1.out.size))
  have HU := hide RU
  have HG := hide RG
  have HN := hide RN
  have H0 := hide R0'
  have hl0 := HX0.out.lt
  rw [← hW]
  clear hW RU RG RN R0' b12 HO1 HB2 HBa HRa HRb a0 a0' HX0 HX1 HPa HB1 hrowU hU hi hz0 hz1 hz2
  go_loopw [4] (fun i wr => ∃ (k : Nat) (ys : List ByteArray), k ≤ ps.length ∧ i = .int .i64 k ∧ ys.length = xs.length ∧ Hid (∀ y ∈ ys, y.size ≤ maxLen) ∧ Hid (applyP ps xs = applyP (ps.drop k) ys) ∧ Hid (Row wr U 9 (strs ys ++ rest)) ∧ Hid (Kept [U] W wr)) (fun i _ => ps.length - (intOf i).toNat)
  case atStart => exact ⟨0, xs, Nat.zero_le _, rfl, rfl, hx, rfl, HU.out, Kept.refl _ _⟩
  case round =>
    obtain ⟨j, ys, hj, rfl, hyl, HY, HS, HRow, HK⟩ := hrel
    have g0 : wr.cell? ⟨w2.heap.size, 0, none⟩ = some (.slice (some ⟨U, 0, none⟩) xs.length (xs.length + rest.length)) := (HK.out.row HG.out (by simp; omega)).cell 0
    have g1 : wr.cell? ⟨w2.heap.size, 1, none⟩ = some (.slice none 0 0) := (HK.out.row HG.out (by simp; omega)).cell 1
    have n1 : wr.cell? ⟨w.heap.size, 1, none⟩ = some (.slice p2 ps.length c2) := (HK.out.row H0.out (by simp; omega)).cell 1
    by_cases hlt2 : j < ps.length
    · have hpr := HK.out.readsP HPb.out (fun x hx => by have := LP.out x hx; simp; omega)
      obtain ⟨p, cap, he, _, _, _, h4⟩ := hpr
      cases he
      obtain ⟨g2, o2, rfl, hg2, hc2⟩ := h4 (by omega)
      obtain ⟨hk0, hk1⟩ := hc2 j hlt2
      have hgU : g2 < w1.heap.size := LP.out g2 (by obtain ⟨m, hm⟩ : ∃ m, ps.length = m + 1 := ⟨ps.length - 1, by omega⟩; rw [hm]; exact List.mem_singleton.2 rfl)
      have HT := hide (applyP_step ps j hlt2 ys)
      obtain ⟨s1, s2, s3⟩ := right_at hok j hlt2
      have hki : (j : Int) < (ps.length : Int) := by omega
      obtain ⟨A, hA⟩ : ∃ A, A = (ps[j]'hlt2).1 := ⟨_, rfl⟩
      obtain ⟨D, hD⟩ : ∃ D, D = (ps[j]'hlt2).2 := ⟨_, rfl⟩
      rw [← hA] at hk0 s1 s2
      rw [← hD] at hk1 s3
      rw [← hA, ← hD] at HT
      clear hA hD hc2 hg2 h4
      obtain ⟨m, rfl⟩ := Int.eq_ofNat_of_zero_le s1
      have hm : m < ys.length := by omega
      have hmi : (m : Int) < (xs.length : Int) := by omega
      have cU : wr.cell? ⟨U, m, none⟩ = some (.string (ys[m]'hm)) := by
        rw [HRow.out.cell, List.getElem?_append_left (by rw [strs_len]; exact hm)]
        simp [strs, hm]
      have fU := HRow.out.free m
      have HSS := hide (show ∀ x, Kept [U] wr x → x.cell? ⟨w2.heap.size, 0, none⟩ = some (.slice (some ⟨U, 0, none⟩) xs.length (xs.length + rest.length)) ∧ x.cell? ⟨w.heap.size, 1, none⟩ = some (.slice (some ⟨g2, o2, none⟩) ps.length c2) ∧ x.cell? ⟨g2, o2 + j * 2, none⟩ = some (.int .i64 (m : Int)) ∧ x.cell? ⟨g2, o2 + j * 2 + 1, none⟩ = some (.string D) from
        fun x h => ⟨h.cell g0 (by simp; omega), h.cell n1 (by simp; omega), h.cell hk0 (by simp; omega), h.cell hk1 (by simp; omega)⟩)
      go_wp2_with fail
      go_region_held3 (fun x => x.cell? ⟨w2.heap.size, 0, none⟩ = some (.slice (some ⟨U, 0, none⟩) xs.length (xs.length + rest.length)) ∧ x.cell? ⟨w.heap.size, 1, none⟩ = some (.slice (some ⟨g2, o2, none⟩) ps.length c2) ∧ x.cell? ⟨g2, o2 + j * 2, none⟩ = some (.int .i64 (m : Int)) ∧ x.cell? ⟨g2, o2 + j * 2 + 1, none⟩ = some (.string D))
        ((go_split_ands; refine HSS.out _ ?_; repeat (first | with_reducible exact Kept.refl _ _ | with_reducible refine Kept.drew ?_ | with_reducible refine Kept.set ?_ (by simp) _)))
        (fail)
      have HU1 := hide (show applyP ps xs = applyP (ps.drop (j + 1)) (ys.set m D) by rw [HS.out.trans HT.out]; rfl)
      have HR1 := hide (show Row (wr.setCell ⟨U, m, none⟩ (.string D)).drew U 9 (strs (ys.set m D) ++ rest) by rw [← strs_set ys rest m D hm]; exact (HRow.out.set (j := m) (.string D)).drew)
      have HK1 := hide ((HK.out.set (G := U) (j := m) (by simp) (.string D)).drew)
      have HY1 := hide (show ∀ y ∈ ys.set m D, y.size ≤ maxLen from fun y hy => by
        rcases List.mem_or_eq_of_mem_set hy with h | h
        · exact HY.out y h
        · rw [h]; unfold maxLen; omega)
      clear cU fU hk0 hk1
      go_wp2
      go_roundw
      case rel => exact ⟨j + 1, ys.set m D, by omega, by go_num, by rw [List.length_set]; exact hyl, HY1, HU1, HR1, HK1⟩
      case measure => simp [intOf]; omega
    · have HU1 := hide (show applyP ps xs = ys by rw [HS.out, List.drop_eq_nil_of_le (by omega)]; rfl)
      have N3 := HK.out.row HN.out (by simp; omega)
      have c0 : wr.cell? ⟨w.heap.size + 1, 0, none⟩ = some (.slice none 0 0) := N3.cell 0
      have c1' : wr.cell? ⟨w.heap.size + 1, 1, none⟩ = some (.slice none 0 0) := N3.cell 1
      have c2' : wr.cell? ⟨w.heap.size + 1, 2, none⟩ = some (.string ⟨#[]⟩) := N3.cell 2
      have c3 : wr.cell? ⟨w.heap.size + 1, 3, none⟩ = some (.int .i64 0) := N3.cell 3
      have f0 := N3.free 0
      have f1 := N3.free 1
      have f2 := N3.free 2
      have f3 := N3.free 3
      have HN3 := hide N3
      clear N3
      go_wp2
      obtain ⟨z0, z1, z2, z3, KF⟩ := four HN3.out (.slice (some ⟨U, 0, none⟩) xs.length (xs.length + rest.length)) (.slice none 0 0) (.string ⟨#[]⟩) (.int .i64 0)
      have k3 := HK.out.toBelow HBW.out HBW.out.size (by simp; omega)
      have k5 := KF.toBelow k3 k3.size (by simp)
      have RF := KF.row HRow.out (by simp; omega)
      exact bodyPost_ret (v := .agg #[(.slice (some ⟨U, 0, none⟩) xs.length (xs.length + rest.length)), .slice none 0 0, .string ⟨#[]⟩, .int .i64 0]) (by simp [results, Tryz.results48, go_sem, z0, z1, z2, z3]) rfl
        ⟨⟨_, rfl, by rw [HU1.out]; exact ⟨HY.out, .inr ⟨U, rest, by rw [hyl], by rw [hyl]; exact hmx, by omega, RF⟩⟩⟩, k5⟩

theorem specFlush_good (vs vp : Value) (xs : List ByteArray) (ps : List (Int × ByteArray)) (w : World) (hn : xs.length ≤ 1048576) (hn2 : ps.length ≤ 1048576) (hr : Reads w vs xs) (hp : ReadsP w vp ps) (hok : right xs ps = true) :
    Calls Tryz.prog 48 #[.agg #[vs, vp]] w fun e w' => OutIs w.heap.size e w' ⟨applyP ps xs, [], ⟨#[]⟩, 0⟩ ∧ Below w.heap.size w w' :=
  (specFlush_nil vs vp xs ps w hn hn2 hr hp hok).mono fun _ _ ⟨⟨us, e, o⟩, hb⟩ => ⟨⟨us, _, e, o, OwnP.none _ _ _, fun _ _ h => by cases h⟩, hb⟩

set_option maxHeartbeats 4000000 in
theorem specFlush_ill (vs vp : Value) (xs : List ByteArray) (ps : List (Int × ByteArray)) (w : World) (hn : xs.length ≤ 1048576) (hn2 : ps.length ≤ 1048576) (hr : Reads w vs xs) (hp : ReadsP w vp ps) (hok : right xs ps = false) :
    Calls Tryz.prog 48 #[.agg #[vs, vp]] w fun e w' => OutIs w.heap.size e w' (illOut 1) ∧ Below w.heap.size w w' := by
  have hb0 : Below w.heap.size w ((w.alloc (.cells #[vs, vp] 26)).alloc (.cells #[.slice none 0 0, .slice none 0 0, .string ⟨#[]⟩, .int .i64 0] 69)) :=
    ((Below.refl _ _).alloc (Nat.le_refl _) _).alloc (by simp) _
  have HR := hide (hr.below hb0 (Nat.le_refl _))
  have HP := hide (hp.below hb0 (Nat.le_refl _))
  have HB0 := hide hb0
  obtain ⟨p1, c1, rfl, hq⟩ := hr
  obtain ⟨p2, c2, rfl, hq2⟩ := hp
  have R0 := (row_new w [.slice p1 xs.length c1, .slice p2 ps.length c2] 26).alloc (.cells #[.slice none 0 0, .slice none 0 0, .string ⟨#[]⟩, .int .i64 0] 69)
  have R1 := row_new (w.alloc (.cells #[.slice p1 xs.length c1, .slice p2 ps.length c2] 26)) [.slice none 0 0, .slice none 0 0, .string ⟨#[]⟩, .int .i64 0] 69
  simp only [World.size_alloc] at R1
  have HR0 := hide R0
  have HR1 := hide R1
  clear hb0 hq hq2 R1 R0
  go_enter Tryz.func48, Tryz.ntmps48
  go_wp2_with fail
  refine (specRight_any _ _ xs ps _ hn hn2 HR.out HP.out).mono ?_
  rw [hok]
  rintro e w1 ⟨rfl, hb1⟩
  have HB1 := hide (HB0.out.trans (hb1.mono HB0.out.size))
  have HX1 := hide (HR1.out.below hb1 (by simp))
  clear hb1 HR HP HR0 HR1 HB0
  go_wp2_with fail
  refine (l02Ill_any _ _).mono ?_
  rintro e w2 ⟨rfl, hb2⟩
  have R3 := HX1.out.below hb2 HX1.out.lt
  have HB2 := hide (HB1.out.trans (hb2.mono HB1.out.size))
  have c0 : w2.cell? ⟨w.heap.size + 1, 0, none⟩ = some (.slice none 0 0) := R3.cell 0
  have c1' : w2.cell? ⟨w.heap.size + 1, 1, none⟩ = some (.slice none 0 0) := R3.cell 1
  have c2' : w2.cell? ⟨w.heap.size + 1, 2, none⟩ = some (.string ⟨#[]⟩) := R3.cell 2
  have c3 : w2.cell? ⟨w.heap.size + 1, 3, none⟩ = some (.int .i64 0) := R3.cell 3
  have f0 := R3.free 0
  have f1 := R3.free 1
  have f2 := R3.free 2
  have f3 := R3.free 3
  have HR3 := hide R3
  clear hb2 R3
  go_wp2
  obtain ⟨q0, q1, q2, q3, KF⟩ := four HR3.out (.slice none 0 0) (.slice none 0 0) (.string ⟨#[]⟩) (.int .i64 1)
  exact bodyPost_ret (v := .agg #[.slice none 0 0, .slice none 0 0, .string ⟨#[]⟩, .int .i64 1]) (by simp [results, Tryz.results48, go_sem, q0, q1, q2, q3]) rfl
    ⟨⟨_, _, rfl, OwnS.none _ _ _, OwnP.none _ _ _, fun _ h => by cases h⟩, KF.toBelow HB2.out HB2.out.size (by simp)⟩

theorem specFlush_any (vs vp : Value) (xs : List ByteArray) (ps : List (Int × ByteArray)) (w : World) (hn : xs.length ≤ 1048576) (hn2 : ps.length ≤ 1048576) (hr : Reads w vs xs) (hp : ReadsP w vp ps) :
    Calls Tryz.prog 48 #[.agg #[vs, vp]] w fun e w' => OutIs w.heap.size e w' (flushOut xs ps) ∧ Below w.heap.size w w' := by
  unfold flushOut
  cases hok : right xs ps with
  | false => exact specFlush_ill vs vp xs ps w hn hn2 hr hp hok
  | true => exact specFlush_good vs vp xs ps w hn hn2 hr hp hok
end Go.Proofs.YtkmehbgepkilkaaGreatDoor

/- What is written to the sectors: plain lists. -/
namespace Go.Proofs.YtkmehbgepkilkaaGreatDoor
open Go.RowKit

theorem small_of_right {xs : List ByteArray} {ps : List (Int × ByteArray)} (h : right xs ps = true) : Small xs ps := by
  obtain ⟨l1, l2, l3⟩ := right_len h
  refine ⟨by omega, fun x hx => ?_, by omega, fun x hx => ?_⟩
  · unfold right at h
    simp only [Bool.and_eq_true] at h
    have := h.1.2
    unfold okS at this
    have := (List.all_eq_true.1 this) x hx
    simp at this
    omega
  · obtain ⟨j, hj, rfl⟩ := List.getElem_of_mem hx
    have := right_at h j hj
    omega
theorem applyP_mem : ∀ (ps : List (Int × ByteArray)) (xs : List ByteArray) (n : Nat), (∀ x ∈ xs, x.size ≤ n) → (∀ x ∈ ps, x.2.size ≤ n) → ∀ x ∈ applyP ps xs, x.size ≤ n
  | [], _, _, h, _ => h
  | p :: r, xs, n, h, h2 => applyP_mem r _ n (fun x hx => by
      rcases List.mem_or_eq_of_mem_set hx with h' | rfl
      · exact h x h'
      · exact h2 p (List.mem_cons_self ..)) (fun x hx => h2 x (List.mem_cons_of_mem _ hx))
theorem applyP_at : ∀ (ps : List (Int × ByteArray)) (xs : List ByteArray) (m : Nat), m < xs.length → (∀ x ∈ ps, 0 ≤ x.1) → (applyP ps xs).getD m ⟨#[]⟩ = lastAt m ps (xs.getD m ⟨#[]⟩)
  | [], _, _, _, _ => rfl
  | p :: r, xs, m, h, h0 => by
      have e := applyP_at r (xs.set p.1.toNat p.2) m (by rw [List.length_set]; exact h) (fun x hx => h0 x (List.mem_cons_of_mem _ hx))
      rw [applyP, e, lastAt]
      congr 1
      have hp := h0 p (List.mem_cons_self ..)
      by_cases he : p.1 = (m : Int)
      · rw [if_pos he, he]
        simp [List.getD, h]
      · rw [if_neg he]
        have : p.1.toNat ≠ m := by omega
        simp [List.getD, this]
end Go.Proofs.YtkmehbgepkilkaaGreatDoor

/- One more pair behind a list of the call's own, or behind none. -/
namespace Go.Proofs.YtkmehbgepkilkaaGreatDoor
open Go.RowKit

theorem below_ofNone {w w' : World} (h : w.grownBy w' (Value.slice none 0 0).ownBlock) : Below w.heap.size w w' := below_ofGrown h
/-- One more pair behind a list of the call's own, or behind none. -/
theorem run_pushQ {P : Program} (w : World) (B : Nat) (t ty e : TypeId) (i : TypeInfo) (z : Value) (ht : P.underlying t = some (.slice e)) (hi : P.info? e = some i) (hz : i.zero = some z) (hs : i.size = 2) (hb : i.bytes = 24) (hzs : z.cells.size = 2)
    (v : Value) (ps : List (Int × ByteArray)) (ho : OwnP e B w v ps) (he : ps = [] → v = .slice none 0 0) (hn : ps.length ≤ 1048576) (hB : B ≤ w.heap.size) (a : Int) (d : ByteArray) (hd : d.size ≤ maxLen) (g c : Nat) (hr : Row w g e [.int .i64 a, .string d]) :
    ∃ p c' w', (Builtin.append_ #[t, t] ty #[v, .slice (some ⟨g, 0, none⟩) 1 c]).run P w = .ok (.slice p (ps.length + 1) c') w' ∧ OwnP e B w' (.slice p (ps.length + 1) c') (ps ++ [(a, d)]) ∧ Kept (leads v) w w' ∧ (∀ x ∈ leads (.slice p (ps.length + 1) c'), x ∈ leads v ∨ w.heap.size ≤ x) := by
  cases hps : ps with
  | nil =>
    subst hps
    obtain rfl := he rfl
    have hnews : ∀ j u, ([Value.int .i64 a, Value.string d] : List Value)[j]? = some u → w.cell? ((⟨g, 0, none⟩ : Addr).add j) = some u := fun j u hu => by
      rw [add_addr, Nat.zero_add, hr.cell]; exact hu
    have hown : w.ownsRow w.heap.size e 2 (.slice none 0 0) 0 [] := ⟨rfl, .inl ⟨rfl, rfl⟩⟩
    obtain ⟨v', w', hrun, r1, r2, _, r4⟩ := run_append_own_at (P := P) w w.heap.size t ty e i z 2 24 ht hi hz hs hb hzs (by omega) _ 0 [] hown ⟨g, 0, none⟩ 1 c [.int .i64 a, .string d] rfl hnews (by simp [Value.oneCell']) (by unfold maxLen; omega) (by omega) (Nat.le_refl _)
    have hxd : ∀ x ∈ ([] ++ [(a, d)] : List (Int × ByteArray)), x.2.size ≤ maxLen := fun x hx => by
      have e : x = (a, d) := by simpa using hx
      rw [e]; exact hd
    have hown' : OwnP e w.heap.size w' v' ([] ++ [(a, d)]) := OwnP.ofRow hxd (by simp) r1
    obtain ⟨p', c', e', _⟩ := hown'.reads
    subst e'
    exact ⟨p', c', w', hrun, hown'.mono hB, (Kept.ofBelow (below_ofNone r2)).mono (by simp), fun x hx => .inr (hown'.leads x hx).1⟩
  | cons x r =>
    rw [← hps]
    exact run_pushP w B t ty e i z ht hi hz hs hb hzs v ps ho (fun h => by rw [hps] at h; cases h) hn hB a d hd g c hr
theorem wpList_pushQ {P : Program} (w : World) {ops : Array Oper} {rest : List Oper} {o : Oper} {a : Act} {Q : Exit → Act → World → Prop} (hgd : o.guard = none) (s x : Operand) (t : TypeId)
    (hop : o.op = Op.call { callee := Callee.builtin Builtin.append, args := #[s, x], argTypes := #[t, t] })
    (B : Nat) (e : TypeId) (i : TypeInfo) (z : Value) (ht : P.underlying t = some (.slice e)) (hi : P.info? e = some i) (hz : i.zero = some z) (hs : i.size = 2) (hb : i.bytes = 24) (hzs : z.cells.size = 2)
    (v : Value) (h1 : a.eval s = v) (ps : List (Int × ByteArray)) (ho : OwnP e B w v ps) (he : ps = [] → v = .slice none 0 0) (hn : ps.length ≤ 1048576) (hB : B ≤ w.heap.size) (n : Int) (d : ByteArray) (hd : d.size ≤ maxLen) (g c : Nat)
    (h2 : a.eval x = .slice (some ⟨g, 0, none⟩) 1 c) (hr : Row w g e [.int .i64 n, .string d])
    (hK : ∀ p c' w', OwnP e B w' (.slice p (ps.length + 1) c') (ps ++ [(n, d)]) → Kept (leads v) w w' → (∀ x ∈ leads (.slice p (ps.length + 1) c'), x ∈ leads v ∨ w.heap.size ≤ x) → wpList P ops Q rest (a.put o.dst (.slice p (ps.length + 1) c')) w') : wpList P ops Q (o :: rest) a w := by
  refine wpList_plain hgd fun K hK' => ?_
  obtain ⟨p, c', w', hrun, r1, r2, r3⟩ := run_pushQ (P := P) w B t o.type e i z ht hi hz hs hb hzs v ps ho he hn hB n d hd g c hr
  unfold Oper.wp
  simp [execOp, hop, resolve, invoke, builtin, h1, h2, hrun, Result.andThen]
  exact hK' _ _ (hK p c' w' r1 r2 r3)
end Go.Proofs.YtkmehbgepkilkaaGreatDoor

/- Steps of an area, one behind the other: plain mathematics. -/
namespace Go.Proofs.YtkmehbgepkilkaaGreatDoor
open Go.RowKit

theorem rightPush {xs : List ByteArray} {ps : List (Int × ByteArray)} {a : Int} {d : ByteArray} (h : right xs ps = true) (hl : ps.length < 200) (h0 : 0 ≤ a) (h1 : a ≤ (xs.length : Int) - 1) (hd : d.size ≤ 64) : right xs (ps ++ [(a, d)]) = true := by
  unfold right okP at h ⊢
  simp only [Bool.and_eq_true, decide_eq_true_eq] at h ⊢
  refine ⟨⟨⟨⟨h.1.1.1.1, h.1.1.1.2⟩, by simp; omega⟩, h.1.2⟩, ?_⟩
  rw [List.all_append, h.2]
  simp
  omega
/-- A step: is it a flush, the place, the text. -/
def stepOut (s : Bool × Int × ByteArray) (xs : List ByteArray) (ps : List (Int × ByteArray)) : Out := if s.1 = true then flushOut xs ps else writeOut xs ps s.2.1 s.2.2
theorem applyP_lenS : ∀ (ps : List (Int × ByteArray)) (xs : List ByteArray), (applyP ps xs).length = xs.length
  | [], _ => rfl
  | x :: r, xs => by rw [applyP, applyP_lenS r, List.length_set]
theorem rightFlush {xs : List ByteArray} {ps : List (Int × ByteArray)} (h : right xs ps = true) : right (applyP ps xs) [] = true := by
  have hs : ∀ x ∈ xs, x.size ≤ 64 := by
    intro x hx
    unfold right at h
    simp only [Bool.and_eq_true] at h
    have := h.1.2
    unfold okS at this
    simpa using (List.all_eq_true.1 this) x hx
  have hq : ∀ x ∈ ps, x.2.size ≤ 64 := by
    intro x hx
    obtain ⟨j, hj, e⟩ := List.mem_iff_getElem.1 hx
    have := right_at h j hj
    rw [e] at this; exact this.2.2
  have hl := right_len h
  have hm := applyP_mem ps xs 64 hs hq
  unfold right okS okP
  simp only [Bool.and_eq_true, decide_eq_true_eq, applyP_lenS, List.all_eq_true, List.all_nil, List.length_nil]
  exact ⟨⟨⟨⟨by omega, by omega⟩, by omega⟩, fun x hx => by simpa using hm x hx⟩, trivial⟩
theorem stepOut_right {s : Bool × Int × ByteArray} {xs : List ByteArray} {ps : List (Int × ByteArray)} (h : right xs ps = true) (hc : (stepOut s xs ps).c = 0) : right (stepOut s xs ps).xs (stepOut s xs ps).ps = true := by
  unfold stepOut at hc ⊢
  by_cases hf : s.1 = true
  · simp only [if_pos hf, flushOut, h] at hc ⊢
    exact rightFlush h
  · simp only [if_neg hf, writeOut] at hc ⊢
    split at hc
    · simp [illOut] at hc
    · split at hc
      · simp [illOut] at hc
      · split at hc
        · split at hc
          · simp [illOut] at hc
          · rename_i h1 h2 h3 h4
            rw [if_neg h1, if_neg h2, if_pos h3, if_neg h4]
            exact rightPush h (by omega) h3.1 h3.2 (by omega)
        · simp [illOut] at hc
theorem stepOut_len {s : Bool × Int × ByteArray} {xs : List ByteArray} {ps : List (Int × ByteArray)} (hc : (stepOut s xs ps).c = 0) : (stepOut s xs ps).xs.length = xs.length := by
  unfold stepOut at hc ⊢
  by_cases hf : s.1 = true
  · simp only [if_pos hf, flushOut] at hc ⊢
    split at hc
    · rename_i h; rw [if_pos h]; exact applyP_lenS ps xs
    · simp [illOut] at hc
  · simp only [if_neg hf, writeOut] at hc ⊢
    split at hc
    · simp [illOut] at hc
    · split at hc
      · simp [illOut] at hc
      · split at hc
        · split at hc
          · simp [illOut] at hc
          · rename_i h1 h2 h3 h4
            rw [if_neg h1, if_neg h2, if_pos h3, if_neg h4]
        · simp [illOut] at hc
/-- All steps, up to the first that tells a code. -/
def runOut : List (Bool × Int × ByteArray) → List ByteArray → List (Int × ByteArray) → Out
  | [], xs, ps => ⟨xs, ps, ⟨#[]⟩, 0⟩
  | s :: r, xs, ps => if (stepOut s xs ps).c = 0 then runOut r (stepOut s xs ps).xs (stepOut s xs ps).ps else illOut (stepOut s xs ps).c
theorem runOut_step (ss : List (Bool × Int × ByteArray)) (k : Nat) (h : k < ss.length) (xs : List ByteArray) (ps : List (Int × ByteArray)) :
    runOut (ss.drop k) xs ps = if (stepOut ss[k] xs ps).c = 0 then runOut (ss.drop (k + 1)) (stepOut ss[k] xs ps).xs (stepOut ss[k] xs ps).ps else illOut (stepOut ss[k] xs ps).c := by
  rw [List.drop_eq_getElem_cons h]; rfl

end Go.Proofs.YtkmehbgepkilkaaGreatDoor

/- DiskCrash, as the specification does it. -/
namespace Go.Proofs.YtkmehbgepkilkaaGreatDoor
open Go.RowKit

/-- The slice v reads as the numbers ks. -/
def ReadsI (w : World) (v : Value) (ks : List Int) : Prop :=
  ∃ p cap, v = .slice p ks.length cap ∧ ks.length ≤ cap ∧ cap ≤ maxLen ∧
    (0 < ks.length → ∃ g off, p = some ⟨g, off, none⟩ ∧ g < w.heap.size ∧ ∀ i (h : i < ks.length), w.cell? ⟨g, off + i, none⟩ = some (.int .i64 ks[i]))
theorem Kept.readsI {S : List Nat} {w w' : World} {v : Value} {ks : List Int} (h : Kept S w w') (hr : ReadsI w v ks) (hn : ∀ x ∈ leads v, x ∉ S) : ReadsI w' v ks := by
  obtain ⟨p, cap, rfl, h1, h2, h4⟩ := hr
  refine ⟨p, cap, rfl, h1, h2, fun h0 => ?_⟩
  obtain ⟨g, off, rfl, hg, hc⟩ := h4 h0
  have hgS : g ∉ S := hn g (by obtain ⟨m, hm⟩ : ∃ m, ks.length = m + 1 := ⟨ks.length - 1, by omega⟩; rw [hm]; exact List.mem_singleton.2 rfl)
  exact ⟨g, off, rfl, Nat.lt_of_lt_of_le hg h.size, fun i hi => h.cell (hc i hi) hgS⟩
theorem ReadsI.below {w w' : World} {v : Value} {ks : List Int} {B : Nat} (h : ReadsI w v ks) (hb : Below B w w') (hB : w.heap.size ≤ B) : ReadsI w' v ks := (Kept.ofBelow (hb.mono hB)).readsI h (by simp)
theorem ReadsI.leads {w : World} {v : Value} {ks : List Int} (h : ReadsI w v ks) : ∀ x ∈ Go.Proofs.YtkmehbgepkilkaaGreatDoor.leads v, x < w.heap.size := by
  obtain ⟨p, cap, rfl, _, _, h4⟩ := h
  intro x hx
  cases hn : ks.length with
  | zero => rw [hn] at hx; cases p <;> cases hx
  | succ m =>
    obtain ⟨g, off, rfl, hg, _⟩ := h4 (by omega)
    rw [hn] at hx
    obtain rfl := List.mem_singleton.1 hx
    exact hg

/-- The sectors with those of ps written to them that are kept. -/
def applyK : List Int → List (Int × ByteArray) → List ByteArray → List ByteArray
  | _, [], xs => xs
  | ks, x :: r, xs => applyK (ks.drop 1) r (if 0 < ks.getD 0 0 then xs.set x.1.toNat x.2 else xs)
theorem applyK_step (ks : List Int) (ps : List (Int × ByteArray)) (k : Nat) (h : k < ps.length) (xs : List ByteArray) :
    applyK (ks.drop k) (ps.drop k) xs = applyK (ks.drop (k + 1)) (ps.drop (k + 1)) (if 0 < ks.getD k 0 then xs.set (ps[k]'h).1.toNat (ps[k]'h).2 else xs) := by
  rw [List.drop_eq_getElem_cons h, applyK, List.drop_drop]
  simp

set_option maxRecDepth 100000 in
set_option maxHeartbeats 4000000 in
theorem specCrash_good (vs vp : Value) (xs : List ByteArray) (ps : List (Int × ByteArray)) (w : World) (hn : xs.length ≤ 1048576) (hn2 : ps.length ≤ 1048576) (vk : Value) (ks : List Int) (hk400 : ks.length ≤ 400) (hr : Reads w vs xs) (hp : ReadsP w vp ps) (hkk : ReadsI w vk ks) (hok : right xs ps = true) :
    Calls Tryz.prog 56 #[.agg #[vs, vp], vk] w fun e w' => DiskIs w.heap.size e w' (applyK ks ps xs) [] ∧ Below w.heap.size w w' := by
  obtain ⟨i0, hi, hz0, hz1, hz2⟩ := info_parts Tryz.infoStr
  have hb0 : Below w.heap.size w ((w.alloc (.cells #[vs, vp] 26)).alloc (.cells #[.slice none 0 0, .slice none 0 0] 26)) :=
    ((Below.refl _ _).alloc (Nat.le_refl _) _).alloc (by simp) _
  have HR := hide (hr.below hb0 (Nat.le_refl _))
  have HP := hide (hp.below hb0 (Nat.le_refl _))
  have HB0 := hide hb0
  have HI := hide (hkk.below hb0 (Nat.le_refl _))
  obtain ⟨p5, c5, rfl, hq5⟩ := hkk
  have t400 : ¬ (400 : Int) < (ks.length : Int) := by omega
  obtain ⟨p1, c1, rfl, hq⟩ := hr
  obtain ⟨p2, c2, rfl, hq2⟩ := hp
  have R0 := (row_new w [.slice p1 xs.length c1, .slice p2 ps.length c2] 26).alloc (.cells #[.slice none 0 0, .slice none 0 0] 26)
  have R1 := row_new (w.alloc (.cells #[.slice p1 xs.length c1, .slice p2 ps.length c2] 26)) [.slice none 0 0, .slice none 0 0] 26
  simp only [World.size_alloc] at R1
  have HR0 := hide R0
  have HR1 := hide R1
  clear hb0 hq hq2 hq5 R1 R0
  go_enter Tryz.func56, Tryz.ntmps56
  go_wp2_with fail
  refine (specRight_any _ _ xs ps _ hn hn2 HR.out HP.out).mono ?_
  rw [hok]
  rintro e w1 ⟨rfl, hb1⟩
  have HB1 := hide (HB0.out.trans (hb1.mono HB0.out.size))
  have HX1 := hide (HR1.out.below hb1 (by simp))
  have HX0 := hide (HR0.out.below hb1 (by simp; omega))
  have HRa := hide (HR.out.below hb1 (Nat.le_refl _))
  have HPa := hide (HP.out.below hb1 (Nat.le_refl _))
  have HIa := hide (HI.out.below hb1 (Nat.le_refl _))
  have a0 : w1.cell? ⟨w.heap.size, 0, none⟩ = some (.slice p1 xs.length c1) := HX0.out.cell 0
  have hl1 := HX1.out.lt
  clear hb1 HR HP HI HR0 HR1 HB0
  have ba : Below w1.heap.size w1 (w1.alloc (.cells #[] 9)) := (Below.refl _ _).alloc (Nat.le_refl _) _
  have HRb := hide (HRa.out.below ba (Nat.le_refl _))
  have a0' : (w1.alloc (.cells #[] 9)).cell? ⟨w.heap.size, 0, none⟩ = some (.slice p1 xs.length c1) := (HX0.out.alloc _).cell 0
  have HBa := hide ba
  clear ba
  go_wp2_with (at_builtin; refine wpList_copyS _ rfl _ _ 23 rfl 9 i0 (.string ⟨#[]⟩) Tryz.underlying23 hi hz0 hz1 hz2 rfl ⟨w1.heap.size, 0, none⟩ rfl (.slice p1 xs.length c1) rfl xs HRb.out hn ?_
               intro q1 d1 w2 ho1 hb2
               have HO1 := hide ho1
               have HB2 := hide hb2
               clear ho1 hb2)
  obtain ⟨l1, l2, l3⟩ := right_len hok
  obtain ⟨hx, ⟨_, _, _, _, hnil⟩ | ⟨U, rest, heq, hmx, hU, hrowU⟩⟩ := HO1.out
  · rw [hnil] at l1; cases l1
  cases heq
  have hU1 : w1.heap.size + 1 ≤ U := by simpa using hU
  have hU2 := hrowU.lt
  have hz : w1.heap.size + 1 ≤ w2.heap.size := by have := HB2.out.size; simpa using this
  obtain ⟨W, hW⟩ : ∃ W, W = w2.alloc (.cells #[.slice (some ⟨U, 0, none⟩) xs.length (xs.length + rest.length), .slice none 0 0] 26) := ⟨_, rfl⟩
  have b12 : Below w1.heap.size w1 W := by
    rw [hW]
    exact (HBa.out.trans (HB2.out.mono HBa.out.size)).alloc (by omega) _
  have RU : Row W U 9 (strs xs ++ rest) := by rw [hW]; exact hrowU.alloc _
  have RG : Row W w2.heap.size 26 [.slice (some ⟨U, 0, none⟩) xs.length (xs.length + rest.length), .slice none 0 0] := by rw [hW]; exact row_new w2 _ _
  have RN := HX1.out.below b12 hl1
  have R0' := HX0.out.below b12 HX0.out.lt
  have HPb := hide (HPa.out.below b12 (Nat.le_refl _))
  have LP := hide HPa.out.leads
  have HIb := hide (HIa.out.below b12 (Nat.le_refl _))
  have LI := hide HIa.out.leads
  have HBW := hide (HB1.out.trans (b12.mono HB1.out.size))
  have HU := hide RU
  have HG := hide RG
  have HN := hide RN
  have H0 := hide R0'
  have hl0 := HX0.out.lt
  rw [← hW]
  clear hW RU RG RN R0' b12 HO1 HB2 HBa HRa HRb a0 a0' HX0 HX1 HPa HIa HB1 hrowU hU hi hz0 hz1 hz2
  go_loopw [6] (fun i wr => ∃ (k : Nat) (ys : List ByteArray), k ≤ ps.length ∧ i = .int .i64 k ∧ ys.length = xs.length ∧ Hid (∀ y ∈ ys, y.size ≤ maxLen) ∧ Hid (applyK ks ps xs = applyK (ks.drop k) (ps.drop k) ys) ∧ Hid (Row wr U 9 (strs ys ++ rest)) ∧ Hid (Kept [U] W wr)) (fun i _ => ps.length - (intOf i).toNat)
  case atStart => exact ⟨0, xs, Nat.zero_le _, rfl, rfl, hx, rfl, HU.out, Kept.refl _ _⟩
  case round =>
    obtain ⟨j, ys, hj, rfl, hyl, HY, HS, HRow, HK⟩ := hrel
    have g0 : wr.cell? ⟨w2.heap.size, 0, none⟩ = some (.slice (some ⟨U, 0, none⟩) xs.length (xs.length + rest.length)) := (HK.out.row HG.out (by simp; omega)).cell 0
    have g1 : wr.cell? ⟨w2.heap.size, 1, none⟩ = some (.slice none 0 0) := (HK.out.row HG.out (by simp; omega)).cell 1
    have n1 : wr.cell? ⟨w.heap.size, 1, none⟩ = some (.slice p2 ps.length c2) := (HK.out.row H0.out (by simp; omega)).cell 1
    by_cases hlt2 : j < ps.length
    · have hpr := HK.out.readsP HPb.out (fun x hx => by have := LP.out x hx; simp; omega)
      obtain ⟨p, cap, he, _, _, _, h4⟩ := hpr
      cases he
      obtain ⟨g2, o2, rfl, hg2, hc2⟩ := h4 (by omega)
      obtain ⟨hk0, hk1⟩ := hc2 j hlt2
      have hgU : g2 < w1.heap.size := LP.out g2 (by obtain ⟨m, hm⟩ : ∃ m, ps.length = m + 1 := ⟨ps.length - 1, by omega⟩; rw [hm]; exact List.mem_singleton.2 rfl)
      have HT := hide (applyK_step ks ps j hlt2 ys)
      obtain ⟨s1, s2, s3⟩ := right_at hok j hlt2
      have hki : (j : Int) < (ps.length : Int) := by omega
      obtain ⟨A, hA⟩ : ∃ A, A = (ps[j]'hlt2).1 := ⟨_, rfl⟩
      obtain ⟨D, hD⟩ : ∃ D, D = (ps[j]'hlt2).2 := ⟨_, rfl⟩
      rw [← hA] at hk0 s1 s2
      rw [← hD] at hk1 s3
      rw [← hA, ← hD] at HT
      clear hA hD hc2 hg2 h4
      obtain ⟨m, rfl⟩ := Int.eq_ofNat_of_zero_le s1
      have hm : m < ys.length := by omega
      have hmi : (m : Int) < (xs.length : Int) := by omega
      have cU : wr.cell? ⟨U, m, none⟩ = some (.string (ys[m]'hm)) := by
        rw [HRow.out.cell, List.getElem?_append_left (by rw [strs_len]; exact hm)]
        simp [strs, hm]
      have fU := HRow.out.free m
      by_cases hkl : j < ks.length
      · have hpi := HK.out.readsI HIb.out (fun x hx => by have := LI.out x hx; simp; omega)
        obtain ⟨p, cap, he, _, _, h4⟩ := hpi
        cases he
        obtain ⟨g5, o5, rfl, hg5, hc5⟩ := h4 (by omega)
        have kk := hc5 j hkl
        have gk : (ks.getD j 0) = ks[j]'hkl := by simp [hkl]
        rw [gk] at HT
        obtain ⟨Kj, hKj⟩ : ∃ Kj, Kj = ks[j]'hkl := ⟨_, rfl⟩
        rw [← hKj] at kk HT
        clear hKj hc5 hg5 h4 gk
        have tk : decide ((j : Int) < (ks.length : Int)) = true := by simp; omega
        have tki : (j : Int) < (ks.length : Int) := by omega
        by_cases hpos : 0 < Kj
        · skip
          have HSS := hide (show ∀ x, Kept [U] wr x → x.cell? ⟨w2.heap.size, 0, none⟩ = some (.slice (some ⟨U, 0, none⟩) xs.length (xs.length + rest.length)) ∧ x.cell? ⟨w.heap.size, 1, none⟩ = some (.slice (some ⟨g2, o2, none⟩) ps.length c2) ∧ x.cell? ⟨g2, o2 + j * 2, none⟩ = some (.int .i64 (m : Int)) ∧ x.cell? ⟨g2, o2 + j * 2 + 1, none⟩ = some (.string D) from
            fun x h => ⟨h.cell g0 (by simp; omega), h.cell n1 (by simp; omega), h.cell hk0 (by simp; omega), h.cell hk1 (by simp; omega)⟩)
          go_wp2_with fail
          go_region_held3 (fun x => x.cell? ⟨w2.heap.size, 0, none⟩ = some (.slice (some ⟨U, 0, none⟩) xs.length (xs.length + rest.length)) ∧ x.cell? ⟨w.heap.size, 1, none⟩ = some (.slice (some ⟨g2, o2, none⟩) ps.length c2) ∧ x.cell? ⟨g2, o2 + j * 2, none⟩ = some (.int .i64 (m : Int)) ∧ x.cell? ⟨g2, o2 + j * 2 + 1, none⟩ = some (.string D))
            ((go_split_ands; refine HSS.out _ ?_; repeat (first | with_reducible exact Kept.refl _ _ | with_reducible refine Kept.drew ?_ | with_reducible refine Kept.set ?_ (by simp) _)))
            (fail)
          have HU1 := hide (show applyK ks ps xs = applyK (ks.drop (j + 1)) (ps.drop (j + 1)) (ys.set m D) by rw [HS.out.trans HT.out, if_pos hpos]; rfl)
          have HR1 := hide (show Row (wr.setCell ⟨U, m, none⟩ (.string D)).drew U 9 (strs (ys.set m D) ++ rest) by rw [← strs_set ys rest m D hm]; exact (HRow.out.set (j := m) (.string D)).drew)
          have HK1 := hide ((HK.out.set (G := U) (j := m) (by simp) (.string D)).drew)
          have HY1 := hide (show ∀ y ∈ ys.set m D, y.size ≤ maxLen from fun y hy => by
            rcases List.mem_or_eq_of_mem_set hy with h | h
            · exact HY.out y h
            · rw [h]; unfold maxLen; omega)
          clear cU fU hk0 hk1 kk
          go_wp2
          go_roundw
          case rel => exact ⟨j + 1, ys.set m D, by omega, by go_num, by rw [List.length_set]; exact hyl, HY1, HU1, HR1, HK1⟩
          case measure => simp [intOf]; omega
        · have hneg : ¬ 0 < Kj := hpos
          have HU1 := hide (show applyK ks ps xs = applyK (ks.drop (j + 1)) (ps.drop (j + 1)) ys by rw [HS.out.trans HT.out, if_neg hpos])
          clear cU fU hk0 hk1
          go_wp2
          go_roundw
          case rel => exact ⟨j + 1, ys, by omega, by go_num, hyl, HY, HU1, HRow, HK⟩
          case measure => simp [intOf]; omega
      · have gk : (ks.getD j 0) = 0 := by rw [List.getD_eq_getElem?_getD, List.getElem?_eq_none (by omega)]; rfl
        rw [gk] at HT
        have HU1 := hide (show applyK ks ps xs = applyK (ks.drop (j + 1)) (ps.drop (j + 1)) ys by rw [HS.out.trans HT.out, if_neg (by omega)])
        have tk : decide ((j : Int) < (ks.length : Int)) = false := by simp; omega
        have tki : ¬ (j : Int) < (ks.length : Int) := by omega
        clear cU fU hk0 hk1 gk
        go_wp2
        go_roundw
        case rel => exact ⟨j + 1, ys, by omega, by go_num, hyl, HY, HU1, HRow, HK⟩
        case measure => simp [intOf]; omega
    · have HU1 := hide (show applyK ks ps xs = ys by rw [HS.out, (List.drop_eq_nil_of_le (by omega) : ps.drop j = []), applyK])
      have N3 := HK.out.row HN.out (by simp; omega)
      have c0 : wr.cell? ⟨w.heap.size + 1, 0, none⟩ = some (.slice none 0 0) := N3.cell 0
      have c1' : wr.cell? ⟨w.heap.size + 1, 1, none⟩ = some (.slice none 0 0) := N3.cell 1
      have f0 := N3.free 0
      have f1 := N3.free 1
      have HN3 := hide N3
      clear N3
      go_wp2
      obtain ⟨z0, z1, KF⟩ := two HN3.out (.slice (some ⟨U, 0, none⟩) xs.length (xs.length + rest.length)) (.slice none 0 0)
      have k3 := HK.out.toBelow HBW.out HBW.out.size (by simp; omega)
      have k5 := KF.toBelow k3 k3.size (by simp)
      have RF := KF.row HRow.out (by simp; omega)
      exact bodyPost_ret (v := .agg #[(.slice (some ⟨U, 0, none⟩) xs.length (xs.length + rest.length)), .slice none 0 0]) (by simp [results, Tryz.results56, go_sem, z0, z1]) rfl
        ⟨⟨_, _, rfl, by rw [HU1.out]; exact ⟨HY.out, .inr ⟨U, rest, by rw [hyl], by rw [hyl]; exact hmx, by omega, RF⟩⟩, OwnP.none _ _ _, fun _ _ h => by cases h⟩, k5⟩


set_option maxHeartbeats 4000000 in
theorem specCrash_many (vs vp : Value) (xs : List ByteArray) (ps : List (Int × ByteArray)) (w : World) (vk : Value) (ks : List Int) (hr : Reads w vs xs) (hp : ReadsP w vp ps) (hkk : ReadsI w vk ks) (hk400 : 400 < ks.length) :
    Calls Tryz.prog 56 #[.agg #[vs, vp], vk] w fun e w' => DiskIs w.heap.size e w' [] [] ∧ Below w.heap.size w w' := by
  obtain ⟨p5, c5, rfl, hq5⟩ := hkk
  clear hq5
  have t400 : (400 : Int) < (ks.length : Int) := by omega
  have hb0 : Below w.heap.size w ((w.alloc (.cells #[vs, vp] 26)).alloc (.cells #[.slice none 0 0, .slice none 0 0] 26)) :=
    ((Below.refl _ _).alloc (Nat.le_refl _) _).alloc (by simp) _
  have HR := hide (hr.below hb0 (Nat.le_refl _))
  have HP := hide (hp.below hb0 (Nat.le_refl _))
  have HB0 := hide hb0
  obtain ⟨p1, c1, rfl, hq⟩ := hr
  obtain ⟨p2, c2, rfl, hq2⟩ := hp
  have R0 := (row_new w [.slice p1 xs.length c1, .slice p2 ps.length c2] 26).alloc (.cells #[.slice none 0 0, .slice none 0 0] 26)
  have R1 := row_new (w.alloc (.cells #[.slice p1 xs.length c1, .slice p2 ps.length c2] 26)) [.slice none 0 0, .slice none 0 0] 26
  simp only [World.size_alloc] at R1
  have HR0 := hide R0
  have HR1 := hide R1
  clear hb0 hq hq2 R1 R0
  go_enter Tryz.func56, Tryz.ntmps56
  go_wp2
  exact bodyPost_ret (v := .agg #[.slice none 0 0, .slice none 0 0]) (by simp [results, Tryz.results56, go_sem]) rfl
    ⟨⟨_, _, rfl, OwnS.none _ _ _, OwnP.none _ _ _, fun _ h => by cases h⟩, HB0.out⟩

set_option maxHeartbeats 4000000 in
theorem specCrash_bad (vs vp : Value) (xs : List ByteArray) (ps : List (Int × ByteArray)) (w : World) (hn : xs.length ≤ 1048576) (hn2 : ps.length ≤ 1048576) (vk : Value) (ks : List Int) (hr : Reads w vs xs) (hp : ReadsP w vp ps) (hkk : ReadsI w vk ks) (hk400 : ks.length ≤ 400) (hok : right xs ps = false) :
    Calls Tryz.prog 56 #[.agg #[vs, vp], vk] w fun e w' => DiskIs w.heap.size e w' xs ps ∧ Below w.heap.size w w' := by
  obtain ⟨p5, c5, rfl, hq5⟩ := hkk
  clear hq5
  have t400 : ¬ (400 : Int) < (ks.length : Int) := by omega
  have hb0 : Below w.heap.size w ((w.alloc (.cells #[vs, vp] 26)).alloc (.cells #[.slice none 0 0, .slice none 0 0] 26)) :=
    ((Below.refl _ _).alloc (Nat.le_refl _) _).alloc (by simp) _
  have HR := hide (hr.below hb0 (Nat.le_refl _))
  have HP := hide (hp.below hb0 (Nat.le_refl _))
  have HB0 := hide hb0
  obtain ⟨p1, c1, rfl, hq⟩ := hr
  obtain ⟨p2, c2, rfl, hq2⟩ := hp
  have R0 := (row_new w [.slice p1 xs.length c1, .slice p2 ps.length c2] 26).alloc (.cells #[.slice none 0 0, .slice none 0 0] 26)
  have R1 := row_new (w.alloc (.cells #[.slice p1 xs.length c1, .slice p2 ps.length c2] 26)) [.slice none 0 0, .slice none 0 0] 26
  simp only [World.size_alloc] at R1
  have HR0 := hide R0
  have HR1 := hide R1
  clear hb0 hq hq2 R1 R0
  go_enter Tryz.func56, Tryz.ntmps56
  go_wp2_with fail
  refine (specRight_any _ _ xs ps _ hn hn2 HR.out HP.out).mono ?_
  rw [hok]
  rintro e w1 ⟨rfl, hb1⟩
  have HB1 := hide (HB0.out.trans (hb1.mono HB0.out.size))
  have HX1 := hide (HR1.out.below hb1 (by simp))
  have HX0 := hide (HR0.out.below hb1 (by simp; omega))
  have HRa := hide (HR.out.below hb1 (Nat.le_refl _))
  have HPa := hide (HP.out.below hb1 (Nat.le_refl _))
  have a0 : w1.cell? ⟨w.heap.size, 0, none⟩ = some (.slice p1 xs.length c1) := HX0.out.cell 0
  have a1 : w1.cell? ⟨w.heap.size, 1, none⟩ = some (.slice p2 ps.length c2) := HX0.out.cell 1
  have hl1 := HX1.out.lt
  clear hb1 HR HP HR0 HR1 HB0
  go_wp2_with fail
  refine (l02Copy_any _ _ xs ps _ hn hn2 HRa.out HPa.out).mono ?_
  rintro e w2 ⟨us, up, rfl, ow1, ow2, dd, _, hb2⟩
  have R3 := HX1.out.below hb2 hl1
  have c0 : w2.cell? ⟨w.heap.size + 1, 0, none⟩ = some (.slice none 0 0) := R3.cell 0
  have c1' : w2.cell? ⟨w.heap.size + 1, 1, none⟩ = some (.slice none 0 0) := R3.cell 1
  have f0 := R3.free 0
  have f1 := R3.free 1
  have HR3 := hide R3
  have HB2 := hide (HB1.out.trans (hb2.mono HB1.out.size))
  have HO1 := hide ow1
  have HO2 := hide ow2
  have HD := hide dd
  obtain ⟨q1, m1, d1, rfl⟩ : ∃ p n c, us = .slice p n c := by obtain ⟨p, c, e, _⟩ := ow1.reads; exact ⟨_, _, _, e⟩
  obtain ⟨q2, m2, d2, rfl⟩ : ∃ p n c, up = .slice p n c := by obtain ⟨p, c, e, _⟩ := ow2.reads; exact ⟨_, _, _, e⟩
  clear ow1 ow2 dd hb2 R3
  go_wp2
  obtain ⟨z0, z1, KF⟩ := two HR3.out (.slice q1 m1 d1) (.slice q2 m2 d2)
  exact bodyPost_ret (v := .agg #[.slice q1 m1 d1, .slice q2 m2 d2]) (by simp [results, Tryz.results56, go_sem, z0, z1]) rfl
    ⟨⟨_, _, rfl, (HO1.out.kept KF (fun x hx => by have := HO1.out.leads x hx; simp; omega)).mono (by omega), (HO2.out.kept KF (fun x hx => by have := HO2.out.leads x hx; simp; omega)).mono (by omega), HD.out⟩, KF.toBelow HB2.out HB2.out.size (by simp)⟩

/-- What a crash leaves. -/
def crashXs (xs : List ByteArray) (ps : List (Int × ByteArray)) (ks : List Int) : List ByteArray := if 400 < ks.length then [] else if right xs ps then applyK ks ps xs else xs
def crashPs (xs : List ByteArray) (ps : List (Int × ByteArray)) (ks : List Int) : List (Int × ByteArray) := if 400 < ks.length then [] else if right xs ps then [] else ps
theorem specCrash_any (vs vp : Value) (xs : List ByteArray) (ps : List (Int × ByteArray)) (w : World) (hn : xs.length ≤ 1048576) (hn2 : ps.length ≤ 1048576) (vk : Value) (ks : List Int) (hr : Reads w vs xs) (hp : ReadsP w vp ps) (hkk : ReadsI w vk ks) :
    Calls Tryz.prog 56 #[.agg #[vs, vp], vk] w fun e w' => DiskIs w.heap.size e w' (crashXs xs ps ks) (crashPs xs ps ks) ∧ Below w.heap.size w w' := by
  unfold crashXs crashPs
  by_cases h : 400 < ks.length
  · rw [if_pos h, if_pos h]; exact specCrash_many vs vp xs ps w vk ks hr hp hkk h
  · rw [if_neg h, if_neg h]
    cases hok : right xs ps with
    | false => exact specCrash_bad vs vp xs ps w hn hn2 vk ks hr hp hkk (by omega) hok
    | true => exact specCrash_good vs vp xs ps w hn hn2 vk ks (by omega) hr hp hkk hok
end Go.Proofs.YtkmehbgepkilkaaGreatDoor

/- The same of what the area's functions hand back: a disk, a text, two numbers. -/
namespace Go.Proofs.YtkmehbgepkilkaaGreatDoor
open Go.RowKit

structure AOut where
  xs : List ByteArray
  ps : List (Int × ByteArray)
  t : ByteArray
  g : Int
  c : Int
def aill (c : Int) : AOut := ⟨[], [], ⟨#[]⟩, 0, c⟩
/-- The call ended with the answer o, in memory of its own. -/
def AOutIs (B : Nat) (e : Ending) (w : World) (o : AOut) : Prop :=
  ∃ us up, e = .returned (.agg #[us, up, .string o.t, .int .i64 o.g, .int .i64 o.c]) ∧ OwnS 9 B w us o.xs ∧ OwnP 61 B w up o.ps ∧ ∀ x ∈ leads us, x ∉ leads up
theorem AOutIs.ill (B : Nat) (w : World) (c : Int) : AOutIs B (.returned (.agg #[.slice none 0 0, .slice none 0 0, .string ⟨#[]⟩, .int .i64 0, .int .i64 c])) w (aill c) :=
  ⟨_, _, rfl, OwnS.none _ _ _, OwnP.none _ _ _, fun _ h => by cases h⟩
/-- Five cells of a new block, all of them stored to. -/
theorem five {w : World} {b : Nat} {T : TypeId} {x0 x1 x2 x3 x4 : Value} (h : Row w b T [x0, x1, x2, x3, x4]) (y0 y1 y2 y3 y4 : Value) :
    let w' := (((((w.setCell ⟨b, 0, none⟩ y0).setCell ⟨b, 1, none⟩ y1).setCell ⟨b, 2, none⟩ y2).setCell ⟨b, 3, none⟩ y3).setCell ⟨b, 4, none⟩ y4)
    w'.cell? ⟨b, 0, none⟩ = some y0 ∧ w'.cell? ⟨b, 1, none⟩ = some y1 ∧ w'.cell? ⟨b, 2, none⟩ = some y2 ∧ w'.cell? ⟨b, 3, none⟩ = some y3 ∧ w'.cell? ⟨b, 4, none⟩ = some y4 ∧ Kept [b] w w' := by
  have r1 := (((((h.set (j := 0) y0).set (j := 1) y1).set (j := 2) y2).set (j := 3) y3).set (j := 4) y4)
  refine ⟨r1.cell 0, r1.cell 1, r1.cell 2, r1.cell 3, r1.cell 4, ?_⟩
  exact ((((((Kept.refl _ _).set (by simp) y0).set (by simp) y1).set (by simp) y2).set (by simp) y3).set (by simp) y4)

end Go.Proofs.YtkmehbgepkilkaaGreatDoor
