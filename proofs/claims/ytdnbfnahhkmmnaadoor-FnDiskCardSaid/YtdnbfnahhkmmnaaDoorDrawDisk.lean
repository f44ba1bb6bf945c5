/- Draws: a disk. -/
import Derived.Test.YtdnbfnahhkmmnaaDoorDraw2
import Derived.Test.YtdnbfnahhkmmnaaDoorSWrite
import Derived.Test.YtdnbfnahhkmmnaaDoorApply
import Derived.Test.YtdnbfnahhkmmnaaDoorPush
import Derived.Deep.RegionWith
namespace Go.Proofs.YtdnbfnahhkmmnaaDoor
open Go.RowKit

/-- A disk in the making: at block D, in memory of the call's own; the source at g goes along. -/
structure DInv (w0 : World) (v : Value) (bs : List Int) (g D : Nat) (us up : Value) (xs : List ByteArray) (ps : List (Int × ByteArray)) (w : World) : Prop where
  row : Row w D 26 [us, up]
  os : OwnS 9 (w0.heap.size + 1) w us xs
  op : OwnP 46 (w0.heap.size + 1) w up ps
  dj : ∀ x ∈ leads us, x ∉ leads up
  nu : D ∉ leads us
  np : D ∉ leads up
  ne : ps = [] → up = .slice none 0 0
  src : Src v bs g w
  kp : Kept [g] w0 w
  res : Row w w0.heap.size 26 [.slice none 0 0, .slice none 0 0]
  dg : w0.heap.size < D
  gl : g < w0.heap.size
  vl : ∀ x ∈ leads v, x < w0.heap.size
theorem DInv.drawn {w0 : World} {v : Value} {bs : List Int} {g D : Nat} {us up : Value} {xs : List ByteArray} {ps : List (Int × ByteArray)} {w w' : World} (h : DInv w0 v bs g D us up xs ps w) (hk : Kept [g] w w') (hs : Src v bs g w') : DInv w0 v bs g D us up xs ps w' :=
  have hg := h.gl
  have hd := h.dg
  ⟨hk.row h.row (by simp; omega), h.os.kept hk (fun x hx => by have := (h.os.leads x hx).1; simp; omega), h.op.kept hk (fun x hx => by have := (h.op.leads x hx).1; simp; omega), h.dj, h.nu, h.np, h.ne, hs, h.kp.trans hk, hk.row h.res (by simp; omega), hd, hg, h.vl⟩
theorem DInv.below {w0 : World} {v : Value} {bs : List Int} {g D : Nat} {us up : Value} {xs : List ByteArray} {ps : List (Int × ByteArray)} {w w' : World} (h : DInv w0 v bs g D us up xs ps w) (hb : Below w.heap.size w w') : DInv w0 v bs g D us up xs ps w' :=
  h.drawn ((Kept.ofBelow hb).mono (by simp)) (h.src.below hb)
theorem DInv.size {w0 : World} {v : Value} {bs : List Int} {g D : Nat} {us up : Value} {xs : List ByteArray} {ps : List (Int × ByteArray)} {w : World} (h : DInv w0 v bs g D us up xs ps w) : w0.heap.size + 1 < w.heap.size := by
  have := h.row.lt
  have := h.dg
  omega
/-- Another disk, made later, is put in its place. -/
theorem DInv.put {w0 : World} {v : Value} {bs : List Int} {g D : Nat} {us up us' up' : Value} {xs xs' : List ByteArray} {ps ps' : List (Int × ByteArray)} {w : World} (h : DInv w0 v bs g D us up xs ps w) {B : Nat} (hB : D < B)
    (o1 : OwnS 9 B w us' xs') (o2 : OwnP 46 B w up' ps') (dj : ∀ x ∈ leads us', x ∉ leads up') (ne : ps' = [] → up' = .slice none 0 0) :
    DInv w0 v bs g D us' up' xs' ps' ((w.setCell ⟨D, 0, none⟩ us').setCell ⟨D, 1, none⟩ up') := by
  have hd := h.dg
  have hg := h.gl
  have K : Kept [D] w ((w.setCell ⟨D, 0, none⟩ us').setCell ⟨D, 1, none⟩ up') := ((Kept.refl _ _).set (by simp) _).set (by simp) _
  have L1 := o1.leads
  have L2 := o2.leads
  have hbd : w0.heap.size + 1 ≤ B := by omega
  refine ⟨(h.row.set (j := 0) us').set (j := 1) up', (o1.kept K (fun x hx => by have := (L1 x hx).1; simp; omega)).mono hbd, (o2.kept K (fun x hx => by have := (L2 x hx).1; simp; omega)).mono hbd, dj,
    fun hm => by have := (L1 _ hm).1; omega, fun hm => by have := (L2 _ hm).1; omega, ne, h.src.kept K (by simp; omega) (fun x hx => ?_), ⟨h.kp.os, h.kp.tape, h.kp.output, by have := h.kp.size; simpa [World.setCell] using this, fun k hk hn => (K.block k (Nat.lt_of_lt_of_le hk h.kp.size) (by simp; omega)).trans (h.kp.block k hk hn)⟩, K.row h.res (by simp; omega), hd, hg, h.vl⟩
  have := h.vl x hx
  simp; omega
theorem applyP_len' : ∀ (ps : List (Int × ByteArray)) (xs : List ByteArray), (applyP ps xs).length = xs.length
  | [], _ => rfl
  | x :: r, xs => by rw [applyP, applyP_len' r, List.length_set]
theorem right_new (n : Int) (h0 : 1 ≤ n) (h1 : n ≤ 64) : right (newDisk n) [] = true := by
  have e : newDisk n = List.replicate n.toNat ⟨#[]⟩ := by unfold newDisk; rw [if_pos ⟨h0, h1⟩]
  rw [e]
  unfold right okS okP
  simp only [Bool.and_eq_true, decide_eq_true_eq, List.length_replicate, List.length_nil]
  refine ⟨⟨⟨⟨by omega, by omega⟩, by omega⟩, ?_⟩, rfl⟩
  rw [List.all_eq_true]
  intro x hx
  rw [(List.mem_replicate.1 hx).2]
  rfl
theorem newDisk_length (n : Int) (h0 : 1 ≤ n) (h1 : n ≤ 64) : (newDisk n).length = n.toNat := by unfold newDisk; rw [if_pos ⟨h0, h1⟩, List.length_replicate]
theorem right_push {xs : List ByteArray} {ps : List (Int × ByteArray)} {a : Int} {d : ByteArray} (h : right xs ps = true) (hl : ps.length < 200) (h0 : 0 ≤ a) (h1 : a ≤ (xs.length : Int) - 1) (hd : d.size ≤ 64) : right xs (ps ++ [(a, d)]) = true := by
  unfold right okP at h ⊢
  simp only [Bool.and_eq_true, decide_eq_true_eq] at h ⊢
  refine ⟨⟨⟨⟨h.1.1.1.1, h.1.1.1.2⟩, by simp; omega⟩, h.1.2⟩, ?_⟩
  rw [List.all_append, h.2]
  simp
  omega
theorem right_flush {xs : List ByteArray} {ps : List (Int × ByteArray)} (h : right xs ps = true) : right (applyP ps xs) [] = true := by
  have hs : ∀ x ∈ xs, x.size ≤ 64 := by
    intro x hx
    unfold right at h
    simp only [Bool.and_eq_true] at h
    have := h.1.2
    unfold okS at this
    simpa using (List.all_eq_true.1 this) x hx
  have hm := applyP_mem ps xs 64 hs (fun x hx => by obtain ⟨j, hj, rfl⟩ := List.getElem_of_mem hx; exact (right_at h j hj).2.2)
  have hl := right_len h
  have e : (applyP ps xs).length = xs.length := applyP_len' ps xs
  unfold right okS okP
  simp only [Bool.and_eq_true, decide_eq_true_eq, e]
  refine ⟨⟨⟨⟨hl.1, hl.2.1⟩, by simp⟩, ?_⟩, by simp⟩
  rw [List.all_eq_true]
  intro x hx
  simpa using hm x hx

end Go.Proofs.YtdnbfnahhkmmnaaDoor
