/- Draws: a disk, one write or flush after the other. -/
import Derived.Test.YtkmehbgepkilkaaGreatDoorXGDraw2
import Derived.Test.YtkmehbgepkilkaaGreatDoorXGSCopy
import Derived.Deep.RegionHeld3
import Derived.Deep.DeepCutAuto
import Derived.OrdersHeld
import Derived.Laws.IdiomStrings
import Derived.Laws.MakeOwn
import Derived.Laws.OwnMore
namespace Go.Proofs.YtkmehbgepkilkaaGreatDoor
open Go.RowKit

theorem DInv.drew {w0 : World} {v : Value} {bs : List Int} {g D : Nat} {us up : Value} {xs : List ByteArray} {ps : List (Int × ByteArray)} {w : World} (h : DInv w0 v bs g D us up xs ps w) : DInv w0 v bs g D us up xs ps w.drew := h.below (Below.refl _ _).drew
theorem DInv.alloc {w0 : World} {v : Value} {bs : List Int} {g D : Nat} {us up : Value} {xs : List ByteArray} {ps : List (Int × ByteArray)} {w : World} (h : DInv w0 v bs g D us up xs ps w) (o : Obj) : DInv w0 v bs g D us up xs ps (w.alloc o) := h.below (below_new w o)
/-- A store into a block that came later. -/
theorem DInv.other {w0 : World} {v : Value} {bs : List Int} {g D B j : Nat} {us up : Value} {xs : List ByteArray} {ps : List (Int × ByteArray)} {wA w : World} (h : DInv w0 v bs g D us up xs ps w) (hA : DInv w0 v bs g D us up xs ps wA) (hB : wA.heap.size ≤ B) (u : Value) : DInv w0 v bs g D us up xs ps (w.setCell ⟨B, j, none⟩ u) := by
  have K : Kept [B] w (w.setCell ⟨B, j, none⟩ u) := (Kept.refl _ _).set (by simp) _
  have hd := hA.row.lt
  have hd0 := hA.dg
  have hg := hA.gl
  have L1 := hA.os.leads
  have L2 := hA.op.leads
  exact ⟨K.row h.row (by simp; omega), h.os.kept K (fun x hx => by have := (L1 x hx).2; simp; omega), h.op.kept K (fun x hx => by have := (L2 x hx).2; simp; omega), h.dj, h.nu, h.np, h.ne,
    h.src.kept K (by simp; omega) (fun x hx => by have := h.vl x hx; simp; omega), ⟨h.kp.os, h.kp.tape, h.kp.output, by have := h.kp.size; simpa [World.setCell] using this, fun k hk hn => (K.block k (Nat.lt_of_lt_of_le hk h.kp.size) (by simp; omega)).trans (h.kp.block k hk hn)⟩, K.row h.res (by simp; omega), hd0, hg, h.vl⟩

/-- The answer of a write or a flush, at block B, in memory that came behind wr. -/
structure YInv (wr : World) (B : Nat) (ys yp : Value) (xs : List ByteArray) (ps : List (Int × ByteArray)) (o : Out) (w : World) : Prop where
  row : Row w B 69 [ys, yp, .string o.t, .int .i64 o.c]
  os : OwnS 9 wr.heap.size w ys o.xs
  op : OwnP 61 wr.heap.size w yp o.ps
  dj : ∀ x ∈ leads ys, x ∉ leads yp
  lo : wr.heap.size ≤ B
  ok : o.c = 0 → right o.xs o.ps = true ∧ o.xs.length = xs.length ∧ o.ps.length ≤ ps.length + 1 ∧ (o.ps = [] → yp = .slice none 0 0)
theorem YInv.kept {wr : World} {B g : Nat} {ys yp : Value} {xs : List ByteArray} {ps : List (Int × ByteArray)} {o : Out} {w w' : World} (h : YInv wr B ys yp xs ps o w) (hg : g < wr.heap.size) (hk : Kept [g] w w') : YInv wr B ys yp xs ps o w' := by
  have hl := h.lo
  exact ⟨hk.row h.row (by simp; omega), h.os.kept hk (fun x hx => by have := (h.os.leads x hx).1; simp; omega), h.op.kept hk (fun x hx => by have := (h.op.leads x hx).1; simp; omega), h.dj, h.lo, h.ok⟩
theorem writeOut_ok {xs : List ByteArray} {ps : List (Int × ByteArray)} (a : Int) (d : ByteArray) (hr : right xs ps = true) (hc : (writeOut xs ps a d).c = 0) :
    right (writeOut xs ps a d).xs (writeOut xs ps a d).ps = true ∧ (writeOut xs ps a d).xs.length = xs.length ∧ (writeOut xs ps a d).ps.length ≤ ps.length + 1 ∧ (writeOut xs ps a d).ps ≠ [] := by
  have h1 := stepOut_right (s := (false, a, d)) hr hc
  have h2 := stepOut_len (s := (false, a, d)) hc
  refine ⟨h1, h2, ?_⟩
  unfold writeOut at hc ⊢
  split at hc
  · simp [illOut] at hc
  · split at hc
    · simp [illOut] at hc
    · split at hc
      · split at hc
        · simp [illOut] at hc
        · rename_i h1 h2 h3 h4
          rw [if_neg h1, if_neg h2, if_pos h3, if_neg h4]
          simp
      · simp [illOut] at hc
theorem writeOut_ok' {xs : List ByteArray} {ps : List (Int × ByteArray)} (a : Int) (d : ByteArray) (yp : Value) (hr : right xs ps = true) (hc : (writeOut xs ps a d).c = 0) :
    right (writeOut xs ps a d).xs (writeOut xs ps a d).ps = true ∧ (writeOut xs ps a d).xs.length = xs.length ∧ (writeOut xs ps a d).ps.length ≤ ps.length + 1 ∧ ((writeOut xs ps a d).ps = [] → yp = .slice none 0 0) := by
  obtain ⟨h1, h2, h3, h4⟩ := writeOut_ok a d hr hc
  exact ⟨h1, h2, h3, fun h => absurd h h4⟩
theorem store4 {w0 wA wr : World} {v : Value} {bs : List Int} {g D B : Nat} {us up ys yp : Value} {xs : List ByteArray} {ps : List (Int × ByteArray)} {w : World} {a0 a1 a2 a3 : Value} {o : Out} (h : DInv w0 v bs g D us up xs ps w) (hA : DInv w0 v bs g D us up xs ps wA) (hB : wA.heap.size ≤ B) (hw : wr.heap.size ≤ wA.heap.size)
    (R : Row w B 69 [a0, a1, a2, a3]) (o1 : OwnS 9 wr.heap.size w ys o.xs) (o2 : OwnP 61 wr.heap.size w yp o.ps) (n1 : B ∉ leads ys) (n2 : B ∉ leads yp) (dj : ∀ x ∈ leads ys, x ∉ leads yp)
    (ok : o.c = 0 → right o.xs o.ps = true ∧ o.xs.length = xs.length ∧ o.ps.length ≤ ps.length + 1 ∧ (o.ps = [] → yp = .slice none 0 0)) :
    YInv wr B ys yp xs ps o ((((w.setCell ⟨B, 0, none⟩ ys).setCell ⟨B, 1, none⟩ yp).setCell ⟨B, 2, none⟩ (.string o.t)).setCell ⟨B, 3, none⟩ (.int .i64 o.c)) ∧
    DInv w0 v bs g D us up xs ps ((((w.setCell ⟨B, 0, none⟩ ys).setCell ⟨B, 1, none⟩ yp).setCell ⟨B, 2, none⟩ (.string o.t)).setCell ⟨B, 3, none⟩ (.int .i64 o.c)) := by
  have K : Kept [B] w ((((w.setCell ⟨B, 0, none⟩ ys).setCell ⟨B, 1, none⟩ yp).setCell ⟨B, 2, none⟩ (.string o.t)).setCell ⟨B, 3, none⟩ (.int .i64 o.c)) := ((((Kept.refl _ _).set (by simp) _).set (by simp) _).set (by simp) _).set (by simp) _
  have hd := h.row.lt
  refine ⟨⟨(((R.set (j := 0) ys).set (j := 1) yp).set (j := 2) (.string o.t)).set (j := 3) (.int .i64 o.c), o1.kept K (fun x hx e => n1 (by rw [List.mem_singleton.1 e] at hx; exact hx)), o2.kept K (fun x hx e => n2 (by rw [List.mem_singleton.1 e] at hx; exact hx)), dj, by omega, ok⟩, ?_⟩
  exact (((h.other hA hB _).other hA hB _).other hA hB _).other hA hB _
theorem alloc4d {w0 wr : World} {v : Value} {bs : List Int} {g D : Nat} {us up ys yp : Value} {xs : List ByteArray} {ps : List (Int × ByteArray)} {w : World} {o : Out} (h : DInv w0 v bs g D us up xs ps w) (hw : wr.heap.size ≤ w.heap.size)
    (o1 : OwnS 9 wr.heap.size w ys o.xs) (o2 : OwnP 61 wr.heap.size w yp o.ps) (dj : ∀ x ∈ leads ys, x ∉ leads yp)
    (ok : o.c = 0 → right o.xs o.ps = true ∧ o.xs.length = xs.length ∧ o.ps.length ≤ ps.length + 1 ∧ (o.ps = [] → yp = .slice none 0 0)) :
    YInv wr w.heap.size ys yp xs ps o (w.alloc (.cells #[ys, yp, .string o.t, .int .i64 o.c] 69)) ∧ DInv w0 v bs g D us up xs ps (w.alloc (.cells #[ys, yp, .string o.t, .int .i64 o.c] 69)) :=
  ⟨⟨row_new w _ _, o1.below (below_new w _) (Nat.le_refl _), o2.below (below_new w _) (Nat.le_refl _), dj, hw, ok⟩, h.alloc _⟩

/-- The sectors are put in their place. -/
theorem DInv.set0 {w0 : World} {v : Value} {bs : List Int} {g D : Nat} {us up us' : Value} {xs xs' : List ByteArray} {ps : List (Int × ByteArray)} {w : World} (h : DInv w0 v bs g D us up xs ps w)
    (o1 : OwnS 9 (w0.heap.size + 1) w us' xs') (dj : ∀ x ∈ leads us', x ∉ leads up) (nu : D ∉ leads us') : DInv w0 v bs g D us' up xs' ps (w.setCell ⟨D, 0, none⟩ us') := by
  have hd := h.dg
  have hg := h.gl
  have K : Kept [D] w (w.setCell ⟨D, 0, none⟩ us') := (Kept.refl _ _).set (by simp) _
  exact ⟨h.row.set (j := 0) us', o1.kept K (fun x hx e => nu (by rw [List.mem_singleton.1 e] at hx; exact hx)), h.op.kept K (fun x hx e => h.np (by rw [List.mem_singleton.1 e] at hx; exact hx)), dj, nu, h.np, h.ne,
    h.src.kept K (by simp; omega) (fun x hx => by have := h.vl x hx; simp; omega), ⟨h.kp.os, h.kp.tape, h.kp.output, by have := h.kp.size; simpa [World.setCell] using this, fun k hk hn => (K.block k (Nat.lt_of_lt_of_le hk h.kp.size) (by simp; omega)).trans (h.kp.block k hk hn)⟩, K.row h.res (by simp; omega), hd, hg, h.vl⟩
/-- What is pending got one more, and is put in its place. -/
theorem DInv.pushed {w0 : World} {v : Value} {bs : List Int} {g D : Nat} {us up up' : Value} {xs : List ByteArray} {ps ps' : List (Int × ByteArray)} {w w' : World} (h : DInv w0 v bs g D us up xs ps w) (hk : Kept (leads up) w w')
    (o2 : OwnP 61 (w0.heap.size + 1) w' up' ps') (hl : ∀ x ∈ leads up', x ∈ leads up ∨ w.heap.size ≤ x) (ne : ps' = [] → up' = .slice none 0 0) : DInv w0 v bs g D us up' xs ps' (w'.setCell ⟨D, 1, none⟩ up') := by
  have hd := h.dg
  have hg := h.gl
  have hDl := h.row.lt
  have L2 := h.op.leads
  have L1 := h.os.leads
  have hnp : D ∉ leads up' := fun hm => by rcases hl D hm with h' | h'; exact h.np h'; omega
  have R := (hk.row h.row h.np).set (j := 1) up'
  have K : Kept [D] w' (w'.setCell ⟨D, 1, none⟩ up') := (Kept.refl _ _).set (by simp) _
  refine ⟨R, (h.os.kept hk h.dj).kept K (fun x hx e => h.nu (by rw [List.mem_singleton.1 e] at hx; exact hx)), o2.kept K (fun x hx e => hnp (by rw [List.mem_singleton.1 e] at hx; exact hx)), fun x hx hm => ?_, h.nu, hnp, ne,
    (h.src.kept hk (fun hm => by have := (L2 _ hm).1; omega) (fun x hx hm => by have := (L2 _ hm).1; have := h.vl x hx; omega)).kept K (by simp; omega) (fun x hx => by have := h.vl x hx; simp; omega),
    ⟨hk.os.trans h.kp.os, hk.tape.trans h.kp.tape, hk.output.trans h.kp.output, by have h1 := h.kp.size; have h2 := hk.size; have : w0.heap.size ≤ w'.heap.size := by omega
                                                                                   simpa [World.setCell] using this, fun k hk' hn => (K.block k (by have h1 := h.kp.size; have h2 := hk.size; omega) (by simp; omega)).trans ((hk.block k (Nat.lt_of_lt_of_le hk' h.kp.size) (fun hm => by have := (L2 _ hm).1; omega)).trans (h.kp.block k hk' hn))⟩,
    K.row (hk.row h.res (fun hm => by have := (L2 _ hm).1; omega)) (by simp; omega), hd, hg, h.vl⟩
  rcases hl x hm with h' | h'
  · exact h.dj x hx h'
  · have := (L1 x hx).2; omega
/-- One sector gets another text. -/
theorem DInv.sector {w0 : World} {v : Value} {bs : List Int} {g D G c : Nat} {up : Value} {xs : List ByteArray} {ps : List (Int × ByteArray)} {w : World} (h : DInv w0 v bs g D (.slice (some ⟨G, 0, none⟩) xs.length c) up xs ps w) (hx : 0 < xs.length) (T : ByteArray) (hT : T.size ≤ 65) :
    DInv w0 v bs g D (.slice (some ⟨G, 0, none⟩) xs.length c) up (xs.set 0 T) ps (w.setCell ⟨G, 0, none⟩ (.string T)) := by
  have hd := h.dg
  have hg := h.gl
  have hm : leads (.slice (some ⟨G, 0, none⟩) xs.length c) = [G] := by
    cases hn : xs.length with
    | zero => omega
    | succ n => rfl
  have L1 := h.os.leads G (by rw [hm]; simp)
  have nG : D ≠ G := fun e => h.nu (by rw [hm]; simp [e])
  have K : Kept [G] w (w.setCell ⟨G, 0, none⟩ (.string T)) := (Kept.refl _ _).set (by simp) _
  refine ⟨K.row h.row (by simpa using nG), ?_, h.op.kept K (fun x hx' e => h.dj G (by rw [hm]; simp) (by rw [List.mem_singleton.1 e] at hx'; exact hx')), h.dj, h.nu, h.np, h.ne, h.src.kept K (by simp; omega) (fun x hx' => by have := h.vl x hx'; simp; omega),
    ⟨h.kp.os, h.kp.tape, h.kp.output, by have := h.kp.size; simpa [World.setCell] using this, fun k hk hn => (K.block k (Nat.lt_of_lt_of_le hk h.kp.size) (by simp; omega)).trans (h.kp.block k hk hn)⟩, K.row h.res (by simp; omega), hd, hg, h.vl⟩
  obtain ⟨hs, ⟨p, cap, e, _, e2⟩ | ⟨G', rest, e, hmx, hB, hR⟩⟩ := h.os
  · rw [e2] at hx; simp at hx
  · injection e with e1 e2 e3
    injection e1 with e1
    injection e1 with e1
    subst e1
    have hl : (xs.set 0 T).length = xs.length := List.length_set
    refine ⟨fun x hx' => ?_, .inr ⟨G, rest, by rw [hl, ← e3], by rw [hl]; exact hmx, hB, ?_⟩⟩
    · rcases List.mem_or_eq_of_mem_set hx' with h' | rfl
      · exact hs x h'
      · unfold maxLen; omega
    · have := hR.set (j := 0) (.string T)
      rw [strs_set _ _ _ _ hx] at this
      exact this
theorem made_text (n : Nat) (i : Int) (hni : i = n) (hn : n ≤ 100000) : ∃ (M : Array Value) (Z : ByteArray), Z.size = n ∧ (∀ W : World, (Instr.makeSlice 22 (.int .i64 i) (.int .i64 i)).run Tryz.prog W = .ok (.slice (some ⟨W.heap.size, 0, none⟩) n n) (W.alloc (.cells M 5))) ∧
    (∀ (W : World) (B : Nat), W.heap[B]? = some (.cells M 5 (0, 0)) → (convert 22 9 (.slice (some ⟨B, 0, none⟩) n n)).run Tryz.prog W = .ok (.string Z) W) := by
  subst hni
  obtain ⟨i0, hi, hz0, hz1, hz2⟩ := info_parts Tryz.infoByteK
  refine ⟨madeCells (Value.int .u8 0).cells (n * i0.size), ⟨(List.replicate n (0 : UInt8)).toArray⟩, by simp [ByteArray.size], fun W => ?_, fun W B hW => ?_⟩
  · have h := run_make (P := Tryz.prog) W 22 5 i0 (.int .u8 0) Tryz.underlying22 hi hz0 .i64 .i64 (n : Int) (n : Int) (by omega) (by omega) (by rw [hz2]; omega) (by omega)
    simpa using h
  · have h := run_convert_bytes_back (P := Tryz.prog) W 22 9 5 ⟨B, 0, none⟩ n (List.replicate n (0 : UInt8)) Tryz.underlying22 Tryz.underlying5 Tryz.underlying9 (fun j hj => by
      rw [List.length_replicate] at hj
      rw [add_addr, Nat.zero_add, cell_of_row _ B j _ 5 (0, 0) hW, hz1, Nat.mul_one, ← Array.getElem?_toList, show (Value.int .u8 0).cells = #[.int .u8 0] from rfl, toList_madeCells_one]
      simp [hj])
    rw [List.length_replicate] at h
    exact h
theorem right_sizes {xs : List ByteArray} {ps : List (Int × ByteArray)} (h : right xs ps = true) : (∀ x ∈ xs, x.size ≤ 64) ∧ ∀ x ∈ ps, x.2.size ≤ 64 := by
  refine ⟨fun x hx => ?_, fun x hx => by obtain ⟨j, hj, rfl⟩ := List.getElem_of_mem hx; exact (right_at h j hj).2.2⟩
  unfold right at h
  simp only [Bool.and_eq_true] at h
  have := h.1.2
  unfold okS at this
  simpa using (List.all_eq_true.1 this) x hx
/-- A disk in memory of its own, from block B on; it need not be right. -/
def DrawnD (B : Nat) (e : Ending) (w : World) : Prop :=
  ∃ us up xs ps, e = .returned (.agg #[us, up]) ∧ OwnS 9 B w us xs ∧ OwnP 61 B w up ps ∧ (∀ x ∈ leads us, x ∉ leads up) ∧ xs.length ≤ 9 ∧ ps.length ≤ 201 ∧ (∀ x ∈ xs, x.size ≤ 65) ∧ (∀ x ∈ ps, x.2.size ≤ 64)
/-- What is handed back at the end. -/
theorem DInv.done {w0 : World} {v : Value} {bs : List Int} {g D : Nat} {us up : Value} {xs : List ByteArray} {ps : List (Int × ByteArray)} {w : World} (h : DInv w0 v bs g D us up xs ps w) :
    ((w.setCell ⟨w0.heap.size, 0, none⟩ us).setCell ⟨w0.heap.size, 1, none⟩ up).cell? ⟨w0.heap.size, 0, none⟩ = some us ∧ ((w.setCell ⟨w0.heap.size, 0, none⟩ us).setCell ⟨w0.heap.size, 1, none⟩ up).cell? ⟨w0.heap.size, 1, none⟩ = some up ∧
    OwnS 9 w0.heap.size ((w.setCell ⟨w0.heap.size, 0, none⟩ us).setCell ⟨w0.heap.size, 1, none⟩ up) us xs ∧ OwnP 61 w0.heap.size ((w.setCell ⟨w0.heap.size, 0, none⟩ us).setCell ⟨w0.heap.size, 1, none⟩ up) up ps ∧
    Src v bs g ((w.setCell ⟨w0.heap.size, 0, none⟩ us).setCell ⟨w0.heap.size, 1, none⟩ up) ∧ Kept [g] w0 ((w.setCell ⟨w0.heap.size, 0, none⟩ us).setCell ⟨w0.heap.size, 1, none⟩ up) := by
  have hg := h.gl
  have K : Kept [w0.heap.size] w ((w.setCell ⟨w0.heap.size, 0, none⟩ us).setCell ⟨w0.heap.size, 1, none⟩ up) := ((Kept.refl _ _).set (by simp) _).set (by simp) _
  have R := (h.res.set (j := 0) us).set (j := 1) up
  refine ⟨R.cell 0, R.cell 1, (h.os.kept K (fun x hx => by have := (h.os.leads x hx).1; simp; omega)).mono (by omega), (h.op.kept K (fun x hx => by have := (h.op.leads x hx).1; simp; omega)).mono (by omega), h.src.kept K (by simp; omega) (fun x hx => by have := h.vl x hx; simp; omega),
    ⟨h.kp.os, h.kp.tape, h.kp.output, by have := h.kp.size; simpa [World.setCell] using this, fun k hk hn => (K.block k (Nat.lt_of_lt_of_le hk h.kp.size) (by simp; omega)).trans (h.kp.block k hk hn)⟩⟩

set_option maxRecDepth 100000 in
set_option maxHeartbeats 8000000 in
theorem disk_any (v : Value) (bs : List Int) (g : Nat) (w : World) (h : Src v bs g w) (hl : bs.length ≤ 1048576) :
    Calls Tryz.prog 25 #[.pointer (some ⟨g, 0, none⟩)] w fun e w' => DrawnD w.heap.size e w' ∧ Src v bs g w' ∧ Kept [g] w w' := by
  obtain ⟨j0, hj, hy0, hy1, hy2⟩ := info_parts Tryz.infoPend
  have hzp : (Value.agg #[.int .i64 0, .string ⟨#[]⟩]).cells.size = 2 := by simp [Value.cells]
  have hb0 := below_new w (.cells #[.slice none 0 0, .slice none 0 0] 26)
  have HS := hide (h.below hb0)
  have HL := hide h.leads
  have HG := hide h.lt
  have HR := hide (row_new w [.slice none 0 0, .slice none 0 0] 26)
  have HB0 := hide hb0
  clear h hb0
  go_enter Tryz.func25, Tryz.ntmps25
  go_wp2_with fail
  refine (n_any v bs g 9 _ HS.out (by omega) hl).mono ?_
  rintro e w1 ⟨⟨r, rfl, hr0, hr1⟩, hs1, hk1⟩
  have HS1 := hide hs1
  have HK1 := hide (((Kept.ofBelow HB0.out).mono (S' := [g]) (by simp)).trans hk1)
  have HR1 := hide (hk1.row HR.out (by have := HG.out; simp; omega))
  have hr2 : r < 9 := by omega
  clear hs1 hk1 hr1 HS HR HB0
  go_wp2_with fail
  refine (specNew_nil (1 + r) _).mono ?_
  rintro e w2 ⟨⟨us, rfl, o1⟩, hb2⟩
  obtain ⟨q1, m1, d1, rfl⟩ := o1.isSlice
  have bn := below_new w2 (.cells #[.slice q1 m1 d1, .slice none 0 0] 26)
  have hb3 := hb2.trans (bn.mono hb2.size)
  have hz1 := HR1.out.lt
  have hz2 := hb2.size
  have HD := hide (show DInv w v bs g w2.heap.size (.slice q1 m1 d1) (.slice none 0 0) (newDisk (1 + r)) [] (w2.alloc (.cells #[.slice q1 m1 d1, .slice none 0 0] 26)) from
    ⟨row_new w2 _ _, (o1.below bn (Nat.le_refl _)).mono (by omega), OwnP.none _ _ _, (fun _ _ h => by cases h), (fun hm => Nat.lt_irrefl _ (o1.leads _ hm).2), (by intro h; cases h), (fun _ => rfl), HS1.out.below hb3, HK1.out.below hb3, Row.after hb3 HR1.out, by omega, HG.out, HL.out⟩)
  have HRT := hide (right_new (1 + r) (by omega) (by omega))
  have hxl := newDisk_length (1 + r) (by omega) (by omega)
  obtain ⟨X, hX⟩ : ∃ X, X = newDisk (1 + r) := ⟨_, rfl⟩
  rw [← hX] at HD HRT hxl
  obtain ⟨D, hDD⟩ : ∃ D, D = w2.heap.size := ⟨_, rfl⟩
  rw [← hDD] at HD
  have HDD := hide hDD
  clear o1 bn hb2 hb3 hz1 hz2 HS1 HK1 HR1 hX hDD
  go_wp2_with fail
  refine (n_any v bs g 9 _ HD.out.src (by omega) hl).mono ?_
  rintro e w3 ⟨⟨k0, rfl, hk0, hk1⟩, hs3, hk3⟩
  have HD3 := hide (HD.out.drawn hk3 hs3)
  have hk2 : k0 < 9 := by omega
  clear hs3 hk3 hk1 HD
  rw [← HDD.out]
  go_wp2_with fail
  go_loopw [4] (fun i wr => ∃ (k : Int) (us up : Value) (xs : List ByteArray) (ps : List (Int × ByteArray)), i = .int .i64 k ∧ 0 ≤ k ∧ (ps.length : Int) + k ≤ 9 ∧ 1 ≤ xs.length ∧ xs.length ≤ 9 ∧ Hid (right xs ps = true) ∧ Hid (DInv w v bs g D us up xs ps wr)) (fun i _ => (intOf i).toNat)
  case atStart => exact ⟨k0, _, _, X, [], rfl, hk0, by simp; omega, by omega, by omega, HRT, HD3⟩
  case round =>
    obtain ⟨k, us, up, xs, ps, rfl, hk0', hpl, hx1, hx9, HRt, HDr⟩ := hrel
    obtain ⟨s1, s2, s3, rfl⟩ := HDr.out.os.isSlice
    obtain ⟨t1, t2, t3, rfl⟩ := HDr.out.op.isSlice
    by_cases hlt : 0 < k
    · have hki : decide (0 < k) = true := decide_eq_true hlt
      go_wp2_with fail
      go_cut [5] (fun t5 wx => ∃ (B : Nat) (ys yp : Value) (o : Out), t5 = .pointer (some ⟨B, 0, none⟩) ∧ Hid (YInv wr B ys yp xs ps o wx) ∧ Hid (DInv w v bs g D (.slice s1 s2 s3) (.slice t1 t2 t3) xs ps wx))
      case first =>
        have HSS := hide (show ∀ x, DInv w v bs g D (.slice s1 s2 s3) (.slice t1 t2 t3) xs ps x → x.cell? ⟨D, 0, none⟩ = some (.slice s1 s2 s3) ∧ x.cell? ⟨D, 1, none⟩ = some (.slice t1 t2 t3) ∧ DInv w v bs g D (.slice s1 s2 s3) (.slice t1 t2 t3) xs ps x from
          fun x h => ⟨h.row.cell 0, h.row.cell 1, h⟩)
        have hDr := HDr.out
        have hgW : g < wr.heap.size := by have := hDr.gl; have := hDr.kp.size; omega
        go_region_held3 (fun x => x.cell? ⟨D, 0, none⟩ = some (.slice s1 s2 s3) ∧ x.cell? ⟨D, 1, none⟩ = some (.slice t1 t2 t3) ∧ DInv w v bs g D (.slice s1 s2 s3) (.slice t1 t2 t3) xs ps x)
          ((go_split_ands; refine HSS.out _ ?_; repeat (first | with_reducible assumption | with_reducible refine DInv.drew ?_ | with_reducible refine DInv.alloc ?_ _ | with_reducible refine DInv.other ?_ (by assumption) (Nat.le_refl _) _)))
          ((first
            | (go_at_call 23; go_split_ands; (with_reducible refine (n_any v bs g 9 _ (DInv.src (by assumption)) (by omega) hl).mono ?_); rintro e w4 ⟨⟨a, rfl, ha0, ha1⟩, hs4, hk4⟩
               have hD4 : DInv w v bs g D (.slice s1 s2 s3) (.slice t1 t2 t3) xs ps w4 := DInv.drawn (by assumption) hk4 hs4
               have hz4 : wr.heap.size ≤ w4.heap.size := by have := hk4.size; first | omega | (simp at this; omega)
               first
                 | have R4 : Row w4 wr.heap.size 69 [.slice none 0 0, .slice none 0 0, .string ⟨#[]⟩, .int .i64 0] := hk4.row (row_new wr [.slice none 0 0, .slice none 0 0, .string ⟨#[]⟩, .int .i64 0] 69).drew (by simp; omega)
                 | skip
               clear hs4 hk4)
            | (go_at_call 23; go_split_ands; (with_reducible refine (n_any v bs g 5 _ (DInv.src (by assumption)) (by omega) hl).mono ?_); rintro e w5 ⟨⟨b, rfl, hb0, hb1⟩, hs5, hk5⟩
               have hD5 : DInv w v bs g D (.slice s1 s2 s3) (.slice t1 t2 t3) xs ps w5 := DInv.drawn (by assumption) hk5 hs5
               have hz5 : w4.heap.size ≤ w5.heap.size := by have := hk5.size; first | omega | (simp at this; omega)
               first
                 | have R5 := hk5.row R4 (by simp; omega)
                 | have R5 : Row w5 w4.heap.size 69 [.slice none 0 0, .slice none 0 0, .string ⟨#[]⟩, .int .i64 0] := hk5.row (row_new w4 [.slice none 0 0, .slice none 0 0, .string ⟨#[]⟩, .int .i64 0] 69) (by simp; omega)
                 | skip
               clear hs5 hk5)
            | (go_at_call 22; go_split_ands; refine (bytes_any v bs g b _ (DInv.src (by assumption)) (by omega) hl).mono ?_; rintro e w6 ⟨⟨T, rfl, hT0, hT1⟩, hs6, hk6⟩
               have hD6 : DInv w v bs g D (.slice s1 s2 s3) (.slice t1 t2 t3) xs ps w6 := DInv.drawn (by assumption) hk6 hs6
               have hz6 : w5.heap.size ≤ w6.heap.size := by have := hk6.size; first | omega | (simp at this; omega)
               first
                 | have R6 := hk6.row R5 (by simp; omega)
                 | have R6 : Row w6 w5.heap.size 69 [.slice none 0 0, .slice none 0 0, .string ⟨#[]⟩, .int .i64 0] := hk6.row (row_new w5 [.slice none 0 0, .slice none 0 0, .string ⟨#[]⟩, .int .i64 0] 69) (by simp; omega)
                 | skip
               clear hs6 hk6)
            | (go_at_call 46; go_split_ands; refine (specWrite_any _ _ xs ps a T _ (by omega) (by omega) (by omega) (OwnS.reads (DInv.os (by assumption))) (OwnP.reads (DInv.op (by assumption)))).mono ?_; rintro e w7 ⟨⟨ys, yp, rfl, o1, o2, dd⟩, hb7⟩
               obtain ⟨i1, i2, i3, rfl⟩ := o1.isSlice
               obtain ⟨j1, j2, j3, rfl⟩ := o2.isSlice
               have L1 := hide (fun x hx => (o1.leads x hx).1)
               have L2 := hide (fun x hx => (o2.leads x hx).1)
               have hz7 : w6.heap.size ≤ w7.heap.size := by have := hb7.size; first | omega | (simp at this; omega)
               have HO1 := hide (o1.mono (B' := wr.heap.size) (by first | omega | (simp; omega)))
               have HO2 := hide (o2.mono (B' := wr.heap.size) (by first | omega | (simp; omega)))
               have HDJ := hide dd
               have HOK := hide (writeOut_ok' a T (.slice j1 j2 j3) HRt.out)
               first
                 | (have R7 := Row.after hb7 R6; have g0 : w7.cell? ⟨_, 0, none⟩ = some (.slice none 0 0) := R7.cell 0; have g1 : w7.cell? ⟨_, 1, none⟩ = some (.slice none 0 0) := R7.cell 1; have g2 : w7.cell? ⟨_, 2, none⟩ = some (.string ⟨#[]⟩) := R7.cell 2; have g3 : w7.cell? ⟨_, 3, none⟩ = some (.int .i64 0) := R7.cell 3; have e0 := R7.free 0; have e1 := R7.free 1; have e2 := R7.free 2; have e3 := R7.free 3)
                 | (have R7 : Row w7 w6.heap.size 69 [.slice none 0 0, .slice none 0 0, .string ⟨#[]⟩, .int .i64 0] := Row.after hb7 (row_new w6 [.slice none 0 0, .slice none 0 0, .string ⟨#[]⟩, .int .i64 0] 69); have g0 : w7.cell? ⟨_, 0, none⟩ = some (.slice none 0 0) := R7.cell 0; have g1 : w7.cell? ⟨_, 1, none⟩ = some (.slice none 0 0) := R7.cell 1; have g2 : w7.cell? ⟨_, 2, none⟩ = some (.string ⟨#[]⟩) := R7.cell 2; have g3 : w7.cell? ⟨_, 3, none⟩ = some (.int .i64 0) := R7.cell 3; have e0 := R7.free 0; have e1 := R7.free 1; have e2 := R7.free 2; have e3 := R7.free 3)
                 | skip
               have hD7 : DInv w v bs g D (.slice s1 s2 s3) (.slice t1 t2 t3) xs ps w7 := DInv.below (by assumption) hb7
               clear o1 o2 dd hb7)))
        all_goals go_wp2_with fail
        all_goals go_meet
        all_goals first
          | (obtain ⟨y, dd⟩ := alloc4d (wr := wr) (o := writeOut xs ps a T) hD7 (by omega) HO1.out HO2.out HDJ.out HOK.out; exact ⟨_, _, _, _, rfl, y, dd⟩)
          | (obtain ⟨y, dd⟩ := store4 (wr := wr) (o := writeOut xs ps a T) hD7 hDr (Nat.le_refl _) (by omega) R7 HO1.out HO2.out (fun hm => by have h1 := L1.out _ hm; first | (have h2 := R6.lt; omega) | (simp at h1; omega)) (fun hm => by have h1 := L2.out _ hm; first | (have h2 := R6.lt; omega) | (simp at h1; omega)) HDJ.out HOK.out; exact ⟨_, _, _, _, rfl, y, dd⟩)
          | (obtain ⟨y, dd⟩ := store4 (wr := wr) (o := writeOut xs ps a T) hD7 hD4 (Nat.le_refl _) (by omega) R7 HO1.out HO2.out (fun hm => by have h1 := L1.out _ hm; first | (have h2 := R6.lt; omega) | (simp at h1; omega)) (fun hm => by have h1 := L2.out _ hm; first | (have h2 := R6.lt; omega) | (simp at h1; omega)) HDJ.out HOK.out; exact ⟨_, _, _, _, rfl, y, dd⟩)
          | (obtain ⟨y, dd⟩ := store4 (wr := wr) (o := writeOut xs ps a T) hD7 hD5 (Nat.le_refl _) (by omega) R7 HO1.out HO2.out (fun hm => by have h1 := L1.out _ hm; first | (have h2 := R6.lt; omega) | (simp at h1; omega)) (fun hm => by have h1 := L2.out _ hm; first | (have h2 := R6.lt; omega) | (simp at h1; omega)) HDJ.out HOK.out; exact ⟨_, _, _, _, rfl, y, dd⟩)
          | (obtain ⟨y, dd⟩ := store4 (wr := wr) (o := writeOut xs ps a T) hD7 hD6 (Nat.le_refl _) (by omega) R7 HO1.out HO2.out (fun hm => by have h1 := L1.out _ hm; first | (have h2 := R6.lt; omega) | (simp at h1; omega)) (fun hm => by have h1 := L2.out _ hm; first | (have h2 := R6.lt; omega) | (simp at h1; omega)) HDJ.out HOK.out; exact ⟨_, _, _, _, rfl, y, dd⟩)
      case rest =>
        obtain ⟨B, ys, yp, o, rfl, HY, HD⟩ := hcut
        obtain ⟨i1, i2, i3, rfl⟩ := HY.out.os.isSlice
        obtain ⟨j1, j2, j3, rfl⟩ := HY.out.op.isSlice
        have hgW : g < wr.heap.size := by have := HDr.out.gl; have := HDr.out.kp.size; omega
        have hDW : D < wr.heap.size := HDr.out.row.lt
        have hBW := HY.out.lo
        go_wp2_with fail
        refine (one_any v bs g 5 _ HD.out.src (by omega) hl).mono ?_
        rintro e w8 ⟨⟨b, rfl⟩, hs8, hk8⟩
        have HD8 := hide (HD.out.drawn hk8 hs8)
        have HY8 := hide (HY.out.kept hgW hk8)
        clear hs8 hk8
        cases b with
        | true =>
          have a0 : w8.cell? ⟨D, 0, none⟩ = some (.slice s1 s2 s3) := HD8.out.row.cell 0
          have a1 : w8.cell? ⟨D, 1, none⟩ = some (.slice t1 t2 t3) := HD8.out.row.cell 1
          go_wp2_with fail
          refine (specFlush_nil _ _ xs ps _ (by omega) (by omega) HD8.out.os.reads HD8.out.op.reads HRt.out).mono ?_
          rintro e w9 ⟨⟨us, rfl, o1⟩, hb9⟩
          obtain ⟨l1, l2, l3, rfl⟩ := o1.isSlice
          have R9 := Row.after hb9 HY8.out.row
          have HD9 := hide (HD8.out.below hb9)
          have hz8 : wr.heap.size ≤ w8.heap.size := by have := HY8.out.row.lt; omega
          have hB8 := HY8.out.row.lt
          obtain ⟨y, dd⟩ := store4 (wr := wr) (o := ⟨applyP ps xs, [], ⟨#[]⟩, 0⟩) (yp := .slice none 0 0) HD9.out HDr.out hBW (Nat.le_refl _) R9 (o1.mono hz8) (OwnP.none _ _ _) (fun hm => by have := (o1.leads _ hm).1; omega) (by intro h; cases h) (by intro _ _ h; cases h)
            (fun _ => ⟨rightFlush HRt.out, applyP_lenS ps xs, by simp, fun _ => rfl⟩)
          have g0 : w9.cell? ⟨B, 0, none⟩ = some (.slice i1 i2 i3) := R9.cell 0
          have g1 : w9.cell? ⟨B, 1, none⟩ = some (.slice j1 j2 j3) := R9.cell 1
          have g2 : w9.cell? ⟨B, 2, none⟩ = some (.string o.t) := R9.cell 2
          have g3 : w9.cell? ⟨B, 3, none⟩ = some (.int .i64 o.c) := R9.cell 3
          have e0 := R9.free 0
          have e1 := R9.free 1
          have e2 := R9.free 2
          have e3 := R9.free 3
          have c0 : w9.cell? ⟨D, 0, none⟩ = some (.slice s1 s2 s3) := HD9.out.row.cell 0
          have c1 : w9.cell? ⟨D, 1, none⟩ = some (.slice t1 t2 t3) := HD9.out.row.cell 1
          have p0 := HD9.out.row.free 0
          have p1 := HD9.out.row.free 1
          have hDB : ¬ D = B := by omega
          have hBD : ¬ B = D := by omega
          have HY9 := hide y
          have HDy := hide dd
          have HPT := hide (dd.put (B := wr.heap.size) hDW y.os y.op y.dj (fun _ => rfl))
          clear o1 hb9 R9 y dd a0 a1
          go_wp2
          go_roundw
          case rel => exact ⟨k - 1, _, _, applyP ps xs, [], rfl, by omega, by simp; omega, by rw [applyP_lenS]; omega, by rw [applyP_lenS]; omega, rightFlush HRt.out, HPT⟩
          case measure => simp [intOf]; omega
        | false =>
          have g0 : w8.cell? ⟨B, 0, none⟩ = some (.slice i1 i2 i3) := HY8.out.row.cell 0
          have g1 : w8.cell? ⟨B, 1, none⟩ = some (.slice j1 j2 j3) := HY8.out.row.cell 1
          have g2 : w8.cell? ⟨B, 2, none⟩ = some (.string o.t) := HY8.out.row.cell 2
          have g3 : w8.cell? ⟨B, 3, none⟩ = some (.int .i64 o.c) := HY8.out.row.cell 3
          have c0 : w8.cell? ⟨D, 0, none⟩ = some (.slice s1 s2 s3) := HD8.out.row.cell 0
          have c1 : w8.cell? ⟨D, 1, none⟩ = some (.slice t1 t2 t3) := HD8.out.row.cell 1
          have p0 := HD8.out.row.free 0
          have p1 := HD8.out.row.free 1
          by_cases hc : o.c = 0
          · have hce : (o.c == 0) = true := by simpa using hc
            obtain ⟨r1, r2, r3, r4⟩ := HY8.out.ok hc
            have HPT := hide (HD8.out.put (B := wr.heap.size) hDW HY8.out.os HY8.out.op HY8.out.dj r4)
            have HR2 := hide r1
            clear r1 r4 hc
            go_wp2
            go_roundw
            case rel => exact ⟨k - 1, _, _, o.xs, o.ps, rfl, by omega, by omega, by omega, by omega, HR2, HPT⟩
            case measure => simp [intOf]; omega
          · have hce : (o.c == 0) = false := by simpa using hc
            clear hc
            go_wp2
            go_roundw
            case rel => exact ⟨k - 1, _, _, xs, ps, rfl, by omega, by omega, by omega, by omega, HRt, HD8⟩
            case measure => simp [intOf]; omega
    · have hki : decide (0 < k) = false := decide_eq_false hlt
      have c0 : wr.cell? ⟨D, 0, none⟩ = some (.slice s1 s2 s3) := HDr.out.row.cell 0
      have c1 : wr.cell? ⟨D, 1, none⟩ = some (.slice t1 t2 t3) := HDr.out.row.cell 1
      have hDW : D < wr.heap.size := HDr.out.row.lt
      go_wp2_with fail
      refine (one_any v bs g 15 _ HDr.out.src (by omega) hl).mono ?_
      rintro e w8 ⟨⟨b, rfl⟩, hs8, hk8⟩
      have HD8 := hide (HDr.out.drawn hk8 hs8)
      have HSZ := hide (right_sizes HRt.out)
      clear hs8 hk8 c0 c1 HDr
      cases b with
      | false =>
        have c0 : w8.cell? ⟨D, 0, none⟩ = some (.slice s1 s2 s3) := HD8.out.row.cell 0
        have c1 : w8.cell? ⟨D, 1, none⟩ = some (.slice t1 t2 t3) := HD8.out.row.cell 1
        have r0 : w8.cell? ⟨w.heap.size, 0, none⟩ = some (.slice none 0 0) := HD8.out.res.cell 0
        have r1 : w8.cell? ⟨w.heap.size, 1, none⟩ = some (.slice none 0 0) := HD8.out.res.cell 1
        have p0 := HD8.out.res.free 0
        have p1 := HD8.out.res.free 1
        go_wp2
        obtain ⟨z0, z1, f1, f2, f3, f4⟩ := HD8.out.done
        exact bodyPost_ret (v := .agg #[.slice s1 s2 s3, .slice t1 t2 t3]) (by simp [results, Tryz.results25, go_sem, z0, z1]) rfl ⟨⟨_, _, xs, ps, rfl, f1, f2, HD8.out.dj, by omega, by omega, fun x hx => Nat.le_trans (HSZ.out.1 x hx) (by omega), HSZ.out.2⟩, f3, f4⟩
      | true =>
        go_wp2_with fail
        refine (n_any v bs g 4 _ HD8.out.src (by omega) hl).mono ?_
        rintro e w9 ⟨⟨r, rfl, hq0, hq1⟩, hs9, hk9⟩
        have HD9 := hide (HD8.out.drawn hk9 hs9)
        have hq2 : r < 4 := by omega
        clear hs9 hk9 HD8 hq1
        rcases (show r = 0 ∨ r = 1 ∨ r = 2 ∨ r = 3 by omega) with hr | hr | hr | hr
        · subst hr
          have c0 : w9.cell? ⟨D, 0, none⟩ = some (.slice s1 s2 s3) := HD9.out.row.cell 0
          have c1 : w9.cell? ⟨D, 1, none⟩ = some (.slice t1 t2 t3) := HD9.out.row.cell 1
          have d0 := HD9.out.row.free 0
          have d1 := HD9.out.row.free 1
          have r0 : w9.cell? ⟨w.heap.size, 0, none⟩ = some (.slice none 0 0) := HD9.out.res.cell 0
          have r1 : w9.cell? ⟨w.heap.size, 1, none⟩ = some (.slice none 0 0) := HD9.out.res.cell 1
          have p0 := HD9.out.res.free 0
          have p1 := HD9.out.res.free 1
          have hDw : ¬ w.heap.size = D := by have := HD9.out.dg; omega
          have hDw' : ¬ D = w.heap.size := by omega
          have HE := hide (HD9.out.set0 (us' := .slice none 0 0) (xs' := []) (OwnS.none _ _ _) (by intro _ h; cases h) (by intro h; cases h))
          go_wp2
          obtain ⟨z0, z1, f1, f2, f3, f4⟩ := HE.out.done
          exact bodyPost_ret (v := .agg #[.slice none 0 0, .slice t1 t2 t3]) (by simp [results, Tryz.results25, go_sem, z0, z1]) rfl ⟨⟨_, _, [], ps, rfl, f1, f2, HE.out.dj, by simp, by omega, by simp, HSZ.out.2⟩, f3, f4⟩
        · subst hr
          have c0 : w9.cell? ⟨D, 0, none⟩ = some (.slice s1 s2 s3) := HD9.out.row.cell 0
          have c1 : w9.cell? ⟨D, 1, none⟩ = some (.slice t1 t2 t3) := HD9.out.row.cell 1
          have d0 := HD9.out.row.free 0
          have d1 := HD9.out.row.free 1
          have hDw : ¬ w.heap.size = D := by have := HD9.out.dg; omega
          have hDw' : ¬ D = w.heap.size := by omega
          have HX := hide (HD9.out.alloc (.cells #[.int .i64 (s2 : Int), .string ⟨#[]⟩] 61))
          have HRX := hide (row_new w9 [.int .i64 (s2 : Int), .string ⟨#[]⟩] 61)
          have hxz := HX.out.size
          clear c0 c1 d0 d1
          have c0 : w9.cell? ⟨D, 0, none⟩ = some (.slice s1 s2 s3) := HD9.out.row.cell 0
          have c1 : w9.cell? ⟨D, 1, none⟩ = some (.slice t1 t2 t3) := HD9.out.row.cell 1
          go_wp2_with (at_builtin; refine wpList_pushQ _ rfl _ _ 24 rfl (w.heap.size + 1) 61 j0 (.agg #[.int .i64 0, .string ⟨#[]⟩]) Tryz.underlying24 hj hy0 hy1 hy2 hzp (.slice t1 t2 t3) rfl ps HX.out.op HX.out.ne (by omega) (by omega) (s2 : Int) ⟨#[]⟩ (Nat.zero_le _) (w9.heap.size) 1 rfl HRX.out ?_
                       intro q3 q4 w10 ho10 hk10 hl10
                       have HP := hide (HX.out.pushed hk10 ho10 hl10 (fun h => by simp at h))
                       have HRD := hide (hk10.row HX.out.row HX.out.np)
                       have HRS := hide (hk10.row HX.out.res (fun hm => by have := (HX.out.op.leads _ hm).1; omega))
                       have c0 : w10.cell? ⟨D, 0, none⟩ = some (.slice s1 s2 s3) := HRD.out.cell 0
                       have c1 : w10.cell? ⟨D, 1, none⟩ = some (.slice t1 t2 t3) := HRD.out.cell 1
                       have d0 := HRD.out.free 0
                       have d1 := HRD.out.free 1
                       have r0 : w10.cell? ⟨w.heap.size, 0, none⟩ = some (.slice none 0 0) := HRS.out.cell 0
                       have r1 : w10.cell? ⟨w.heap.size, 1, none⟩ = some (.slice none 0 0) := HRS.out.cell 1
                       have p0 := HRS.out.free 0
                       have p1 := HRS.out.free 1
                       clear ho10 hk10 hl10)
          obtain ⟨z0, z1, f1, f2, f3, f4⟩ := HP.out.done
          exact bodyPost_ret (v := .agg #[.slice s1 s2 s3, .slice q3 (ps.length + 1) q4]) (by simp [results, Tryz.results25, go_sem, z0, z1]) rfl ⟨⟨_, _, xs, ps ++ [((s2 : Int), ⟨#[]⟩)], rfl, f1, f2, HP.out.dj, by omega, by simp; omega, fun x hx => Nat.le_trans (HSZ.out.1 x hx) (by omega), fun x hx => by
            rcases List.mem_append.1 hx with h' | h'
            · exact HSZ.out.2 x h'
            · rw [List.mem_singleton.1 h']; exact Nat.zero_le _⟩, f3, f4⟩
        · subst hr
          obtain ⟨G, c, hG⟩ : ∃ G c, Value.slice s1 s2 s3 = .slice (some ⟨G, 0, none⟩) xs.length c := by
            obtain ⟨_, ⟨p, cap, e, _, e2⟩ | ⟨G', rest, e, _⟩⟩ := HD9.out.os
            · rw [e2] at hx1; simp at hx1
            · exact ⟨_, _, e⟩
          injection hG with e1 e2 e3
          subst e1 e2 e3
          have hDw : ¬ w.heap.size = D := by have := HD9.out.dg; omega
          have hDw' : ¬ D = w.heap.size := by omega
          have hxi : (0 : Int) < (xs.length : Int) := by omega
          have hxe : ¬ xs = [] := by intro e; rw [e] at hx1; simp at hx1
          have HSS := hide (show ∀ x ys, DInv w v bs g D (.slice (some ⟨G, 0, none⟩) xs.length s3) (.slice t1 t2 t3) ys ps x → x.cell? ⟨D, 0, none⟩ = some (.slice (some ⟨G, 0, none⟩) xs.length s3) ∧ x.cell? ⟨D, 1, none⟩ = some (.slice t1 t2 t3) ∧ ∃ ys, DInv w v bs g D (.slice (some ⟨G, 0, none⟩) xs.length s3) (.slice t1 t2 t3) ys ps x from fun x ys h => ⟨h.row.cell 0, h.row.cell 1, ys, h⟩)
          go_wp2_with fail
          refine wp_region_held (S := fun x : World => x.cell? ⟨D, 0, none⟩ = some (.slice (some ⟨G, 0, none⟩) xs.length s3) ∧ x.cell? ⟨D, 1, none⟩ = some (.slice t1 t2 t3) ∧ ∃ ys, DInv w v bs g D (.slice (some ⟨G, 0, none⟩) xs.length s3) (.slice t1 t2 t3) ys ps x) (by kernel_rfl) ?_
          have HS := hide (HSS.out { w9 with drawn := w9.drawn + 1 } _ HD9.out.drew)
          refine wpAnyH_take (i := 0) (oi := _) (v := .pointer (some ⟨D, 0, none⟩)) rfl (by kernel_rfl) (by kernel_rfl) (by kernel_rfl) (fun _ _ _ h => h) (Or.inl ⟨by rfl, by intro w hSw; go_split_ands; go_simp <;> omega⟩) HS.out ?_
          simp only [Act.put, List.getElem_toArray, List.getElem_cons_zero, List.setIfInBounds_toArray, List.set_cons_zero, List.set_cons_succ]
          refine wpAnyH_take (i := 1) (oi := _) (v := .slice (some ⟨G, 0, none⟩) xs.length s3) rfl (by kernel_rfl) (by kernel_rfl) (by kernel_rfl) (fun _ _ _ h => h) (Or.inl ⟨by rfl, by intro w hSw; go_split_ands; go_simp <;> omega⟩) HS.out ?_
          simp only [Act.put, List.getElem_toArray, List.getElem_cons_zero, List.getElem_cons_succ, List.setIfInBounds_toArray, List.set_cons_zero, List.set_cons_succ]
          refine wpAnyH_take (i := 2) (oi := _) (v := .pointer (some ⟨g, 0, none⟩)) rfl (by kernel_rfl) (by kernel_rfl) (by kernel_rfl) (fun _ _ _ h => h) (Or.inl ⟨by rfl, by intro w hSw; go_split_ands; go_simp <;> omega⟩) HS.out ?_
          simp only [Act.put, List.getElem_toArray, List.getElem_cons_zero, List.getElem_cons_succ, List.setIfInBounds_toArray, List.set_cons_zero, List.set_cons_succ]
          refine wpAnyH_ready (rs := [3]) (by kernel_rfl) (by simp) ?_
          refine AllReadyH.cons (o := _) rfl (fun K hK => ?_) AllReadyH.nil
          go_simp
          refine (n_any v bs g 2 _ HD9.out.drew.src (by omega) hl).mono ?_
          rintro e w10 ⟨⟨a, rfl, ha0, ha1⟩, hs10, hk10⟩
          have HD10 := hide (HD9.out.drew.drawn hk10 hs10)
          obtain ⟨n, rfl⟩ := Int.eq_ofNat_of_zero_le ha0
          have hn2 : n ≤ 1 := by omega
          obtain ⟨M, Z, hZ, hmk, hcv'⟩ := made_text (64 + n) (64 + (n : Int)) (by simp) (by omega)
          have hcv := fun W : World => hcv' (W.alloc (.cells M 5)) W.heap.size (heap_alloc_new W _)
          clear hcv'
          have hw2 : IntKind.i64.wrap (64 + (n : Int)) = 64 + (n : Int) := by rw [IntKind.wrap_i64]; omega
          clear hs10 hk10 ha1
          refine hK.out _ _ (HSS.out _ _ HD10.out) (fun _ => ?_)
          clear hK K HS
          have HS := hide (HSS.out _ _ HD10.out)
          refine wpAnyH_take (i := 4) (oi := _) (v := .int .i64 (64 + (n : Int))) rfl (by kernel_rfl) (by kernel_rfl) (by kernel_rfl) (fun _ _ _ h => h) (Or.inl ⟨by rfl, by intro w hSw; go_split_ands; go_simp <;> omega⟩) HS.out ?_
          simp only [Act.put, List.getElem_toArray, List.getElem_cons_zero, List.getElem_cons_succ, List.setIfInBounds_toArray, List.set_cons_zero, List.set_cons_succ]
          refine wpAnyH_ready (rs := [5]) (by kernel_rfl) (by simp) ?_
          refine AllReadyH.cons (o := _) rfl (fun K hK => ?_) AllReadyH.nil
          go_simp
          have HDM := hide (HD10.out.alloc (.cells M 5))
          refine hK.out _ _ (HSS.out _ _ HDM.out) (fun _ => ?_)
          clear hK K
          refine wpAnyH_ready (rs := [6]) (by kernel_rfl) (by simp) ?_
          refine AllReadyH.cons (o := _) rfl (fun K hK => ?_) AllReadyH.nil
          go_simp
          refine hK.out _ _ (HSS.out _ _ HDM.out) (fun _ => ?_)
          clear hK K
          have HE := hide (HDM.out.sector (by omega) Z (by omega))
          have k0 : ∃ u, (w10.alloc (.cells M 5)).cell? ⟨G, 0, none⟩ = some u := by
            obtain ⟨p, c, e, _, _, _, h4⟩ := HDM.out.os.reads
            injection e with e1
            obtain ⟨g', off, e', _, hc⟩ := h4 (by omega)
            rw [e'] at e1
            injection e1 with e1
            injection e1 with e1 e2
            subst e1 e2
            exact ⟨_, hc 0 (by omega)⟩
          obtain ⟨u0, hu0⟩ := k0
          have kf : (w10.alloc (.cells M 5)).frozen? ⟨G, 0, none⟩ = false := by
            obtain ⟨_, ⟨p, c, e, _, e2⟩ | ⟨G', rest, e, _, _, hR⟩⟩ := HDM.out.os
            · rw [e2] at hxi; simp at hxi
            · injection e with e1
              injection e1 with e1
              injection e1 with e1
              subst e1
              exact hR.free 0
          have HS := hide (HSS.out _ _ HDM.out)
          refine wpAnyH_take (i := 7) (oi := _) (v := .pointer (some ⟨G, 0, none⟩)) rfl (by kernel_rfl) (by kernel_rfl) (by kernel_rfl) (fun _ _ _ h => h) (Or.inl ⟨by rfl, by intro w hSw; go_split_ands; go_simp <;> omega⟩) HS.out ?_
          simp only [Act.put, List.getElem_toArray, List.getElem_cons_zero, List.getElem_cons_succ, List.setIfInBounds_toArray, List.set_cons_zero, List.set_cons_succ]
          refine wpAnyH_ready (rs := [8]) (by kernel_rfl) (by simp) ?_
          refine AllReadyH.cons (o := _) rfl (fun K hK => ?_) AllReadyH.nil
          go_simp
          refine hK.out _ _ (HSS.out _ _ HE.out) (fun _ => ?_)
          clear hK K
          refine wpAnyH_done (by kernel_rfl) ?_ _
          obtain ⟨W, hW⟩ : ∃ W, W = (w10.alloc (.cells M 5)).setCell ⟨G, 0, none⟩ (.string Z) := ⟨_, rfl⟩
          rw [← hW] at HE ⊢
          clear hW
          have c0 : W.cell? ⟨D, 0, none⟩ = some (.slice (some ⟨G, 0, none⟩) xs.length s3) := HE.out.row.cell 0
          have c1 : W.cell? ⟨D, 1, none⟩ = some (.slice t1 t2 t3) := HE.out.row.cell 1
          have r0 : W.cell? ⟨w.heap.size, 0, none⟩ = some (.slice none 0 0) := HE.out.res.cell 0
          have r1 : W.cell? ⟨w.heap.size, 1, none⟩ = some (.slice none 0 0) := HE.out.res.cell 1
          have p0 := HE.out.res.free 0
          have p1 := HE.out.res.free 1
          clear hmk hcv hu0 kf
          go_wp2
          obtain ⟨z0, z1, f1, f2, f3, f4⟩ := HE.out.done
          exact bodyPost_ret (v := .agg #[.slice (some ⟨G, 0, none⟩) xs.length s3, .slice t1 t2 t3]) (by simp [results, Tryz.results25, go_sem, z0, z1]) rfl ⟨⟨_, _, xs.set 0 Z, ps, rfl, f1, f2, HE.out.dj, by rw [List.length_set]; omega, by omega, fun x hx => by
            rcases List.mem_or_eq_of_mem_set hx with h' | rfl
            · exact Nat.le_trans (HSZ.out.1 x h') (by omega)
            · omega, HSZ.out.2⟩, f3, f4⟩
        · subst hr
          have hDw : ¬ w.heap.size = D := by have := HD9.out.dg; omega
          have hDw' : ¬ D = w.heap.size := by omega
          go_wp2_with fail
          go_loopw [] (fun wr => ∃ (up : Value) (ps : List (Int × ByteArray)), ps.length ≤ 201 ∧ Hid (∀ x ∈ ps, x.2.size ≤ 64) ∧ Hid (DInv w v bs g D (.slice s1 s2 s3) up xs ps wr)) (fun wr => match wr.cell? ⟨D, 1, none⟩ with | some (.slice _ n _) => 201 - n | _ => 0)
          case atStart => exact ⟨_, ps, by omega, HSZ.out.2, HD9⟩
          case round =>
            clear HD9
            obtain ⟨up, ps, hpl, HPS, HDr⟩ := hrel
            obtain ⟨u1, u3, rfl⟩ : ∃ p c, up = .slice p ps.length c := by obtain ⟨p, c, e, _⟩ := HDr.out.op.reads; exact ⟨p, c, e⟩
            have HSS := hide (show ∀ x, DInv w v bs g D (.slice s1 s2 s3) (.slice u1 ps.length u3) xs ps x → x.cell? ⟨D, 0, none⟩ = some (.slice s1 s2 s3) ∧ x.cell? ⟨D, 1, none⟩ = some (.slice u1 ps.length u3) ∧ DInv w v bs g D (.slice s1 s2 s3) (.slice u1 ps.length u3) xs ps x from
              fun x h => ⟨h.row.cell 0, h.row.cell 1, h⟩)
            have hDr := HDr.out
            have hm0 : wr.cell? ⟨D, 1, none⟩ = some (.slice u1 ps.length u3) := HDr.out.row.cell 1
            have HM := hide hm0
            clear hm0
            go_wp2_with fail
            go_region_held3 (fun x => x.cell? ⟨D, 0, none⟩ = some (.slice s1 s2 s3) ∧ x.cell? ⟨D, 1, none⟩ = some (.slice u1 ps.length u3) ∧ DInv w v bs g D (.slice s1 s2 s3) (.slice u1 ps.length u3) xs ps x)
              ((go_split_ands; refine HSS.out _ ?_; repeat (first | with_reducible assumption | with_reducible refine DInv.drew ?_)))
              ((first
                | (go_at_call 23; go_split_ands; (with_reducible refine (n_any v bs g 3 _ (DInv.src (by assumption)) (by omega) hl).mono ?_); rintro e w4 ⟨⟨a, rfl, ha0, ha1⟩, hs4, hk4⟩
                   have hD4 : DInv w v bs g D (.slice s1 s2 s3) (.slice u1 ps.length u3) xs ps w4 := DInv.drawn (by assumption) hk4 hs4
                   have hwp : IntKind.i64.wrap (199 + a) = 199 + a := by rw [IntKind.wrap_i64]; omega
                   clear hs4 hk4)))
            have HD4 := hide hD4
            clear hD4 hDr
            by_cases hlt2 : (ps.length : Int) < 199 + a
            · have hld : decide ((ps.length : Int) < 199 + a) = true := decide_eq_true hlt2
              have HX := hide (HD4.out.alloc (.cells #[.int .i64 0, .string ⟨#[]⟩] 61))
              have HRX := hide (row_new w4 [.int .i64 0, .string ⟨#[]⟩] 61)
              have hxz := HX.out.size
              have c0 : w4.cell? ⟨D, 0, none⟩ = some (.slice s1 s2 s3) := HD4.out.row.cell 0
              have c1 : w4.cell? ⟨D, 1, none⟩ = some (.slice u1 ps.length u3) := HD4.out.row.cell 1
              go_wp2_with (at_builtin; refine wpList_pushQ _ rfl _ _ 24 rfl (w.heap.size + 1) 61 j0 (.agg #[.int .i64 0, .string ⟨#[]⟩]) Tryz.underlying24 hj hy0 hy1 hy2 hzp (.slice u1 ps.length u3) rfl ps HX.out.op HX.out.ne (by omega) (by omega) 0 ⟨#[]⟩ (Nat.zero_le _) (w4.heap.size) 1 rfl HRX.out ?_
                           intro q3 q4 w10 ho10 hk10 hl10
                           have HP := hide (HX.out.pushed hk10 ho10 hl10 (fun h => by simp at h))
                           have HRD := hide (hk10.row HX.out.row HX.out.np)
                           have HRS := hide (hk10.row HX.out.res (fun hm => by have := (HX.out.op.leads _ hm).1; omega))
                           have c0 : w10.cell? ⟨D, 0, none⟩ = some (.slice s1 s2 s3) := HRD.out.cell 0
                           have c1 : w10.cell? ⟨D, 1, none⟩ = some (.slice u1 ps.length u3) := HRD.out.cell 1
                           have d0 := HRD.out.free 0
                           have d1 := HRD.out.free 1
                           have r0 : w10.cell? ⟨w.heap.size, 0, none⟩ = some (.slice none 0 0) := HRS.out.cell 0
                           have r1 : w10.cell? ⟨w.heap.size, 1, none⟩ = some (.slice none 0 0) := HRS.out.cell 1
                           have p0 := HRS.out.free 0
                           have p1 := HRS.out.free 1
                           clear ho10 hk10 hl10)
              go_roundw
              case rel => exact ⟨_, ps ++ [(0, ⟨#[]⟩)], by simp; omega, hide (fun x hx => by
                rcases List.mem_append.1 hx with h' | h'
                · exact HPS.out x h'
                · rw [List.mem_singleton.1 h']; exact Nat.zero_le _), HP⟩
              case measure =>
                rw [HM.out, HP.out.row.cell 1]
                simp
                omega
            · have hld : decide ((ps.length : Int) < 199 + a) = false := decide_eq_false hlt2
              have c0 : w4.cell? ⟨D, 0, none⟩ = some (.slice s1 s2 s3) := HD4.out.row.cell 0
              have c1 : w4.cell? ⟨D, 1, none⟩ = some (.slice u1 ps.length u3) := HD4.out.row.cell 1
              have r0 : w4.cell? ⟨w.heap.size, 0, none⟩ = some (.slice none 0 0) := HD4.out.res.cell 0
              have r1 : w4.cell? ⟨w.heap.size, 1, none⟩ = some (.slice none 0 0) := HD4.out.res.cell 1
              have p0 := HD4.out.res.free 0
              have p1 := HD4.out.res.free 1
              go_wp2
              obtain ⟨z0, z1, f1, f2, f3, f4⟩ := HD4.out.done
              exact bodyPost_ret (v := .agg #[.slice s1 s2 s3, .slice u1 ps.length u3]) (by simp [results, Tryz.results25, go_sem, z0, z1]) rfl ⟨⟨_, _, xs, ps, rfl, f1, f2, HD4.out.dj, by omega, by omega, fun x hx => Nat.le_trans (HSZ.out.1 x hx) (by omega), HPS.out⟩, f3, f4⟩
end Go.Proofs.YtkmehbgepkilkaaGreatDoor

/- Draws: disks with what is done to them. -/
namespace Go.Proofs.YtkmehbgepkilkaaGreatDoor
open Go.RowKit

/-- A disk in memory of its own, from block B on; it need not be right. -/
structure DK (B : Nat) (us up : Value) (xs : List ByteArray) (ps : List (Int × ByteArray)) (w : World) : Prop where
  os : OwnS 9 B w us xs
  op : OwnP 61 B w up ps
  dj : ∀ x ∈ leads us, x ∉ leads up
  xl : xs.length ≤ 9
  pl : ps.length ≤ 201
  xz : ∀ x ∈ xs, x.size ≤ 65
  pz : ∀ x ∈ ps, x.2.size ≤ 64
theorem DK.kept {B : Nat} {us up : Value} {xs : List ByteArray} {ps : List (Int × ByteArray)} {S : List Nat} {w w' : World} (h : DK B us up xs ps w) (hk : Kept S w w') (hS : ∀ x ∈ S, x < B) : DK B us up xs ps w' :=
  ⟨h.os.kept hk (fun x hx e => by have h1 := (h.os.leads x hx).1; have h2 := hS x e; omega), h.op.kept hk (fun x hx e => by have h1 := (h.op.leads x hx).1; have h2 := hS x e; omega), h.dj, h.xl, h.pl, h.xz, h.pz⟩
theorem DK.below {B : Nat} {us up : Value} {xs : List ByteArray} {ps : List (Int × ByteArray)} {w w' : World} (h : DK B us up xs ps w) (hb : Below w.heap.size w w') : DK B us up xs ps w' := h.kept (Kept.ofBelow hb) (by simp)
theorem DK.mono {B B' : Nat} {us up : Value} {xs : List ByteArray} {ps : List (Int × ByteArray)} {w : World} (h : DK B us up xs ps w) (hB : B' ≤ B) : DK B' us up xs ps w := ⟨h.os.mono hB, h.op.mono hB, h.dj, h.xl, h.pl, h.xz, h.pz⟩
instance stab_dk (B : Nat) (us up : Value) (xs : List ByteArray) (ps : List (Int × ByteArray)) : Stab (fun w => DK B us up xs ps w) := ⟨fun hb h => h.below hb⟩
theorem DK.small {B : Nat} {us up : Value} {xs : List ByteArray} {ps : List (Int × ByteArray)} {w : World} (h : DK B us up xs ps w) : Small xs ps :=
  ⟨Nat.le_trans h.xl (by omega), fun x hx => Nat.le_trans (h.xz x hx) (by omega), Nat.le_trans h.pl (by omega), fun x hx => Nat.le_trans (h.pz x hx) (by omega)⟩

theorem ownI_kept {B : Nat} {S : List Nat} {w w' : World} {v : Value} {ks : List Int} (h : OwnI B w v ks) (hk : Kept S w w') (hS : ∀ x ∈ S, x < B) : OwnI B w' v ks := ownsRow_kept h hk hS
theorem OwnI.mono {B B' : Nat} {w : World} {v : Value} {ks : List Int} (h : OwnI B w v ks) (hB : B' ≤ B) : OwnI B' w v ks := by
  obtain ⟨h0, h1 | ⟨g, cap, cur, hv, hg, r⟩⟩ := h
  · exact ⟨h0, .inl h1⟩
  · exact ⟨h0, .inr ⟨g, cap, cur, hv, Nat.le_trans hB hg, r⟩⟩
def DrawnC (B : Nat) (e : Ending) (w : World) : Prop := ∃ us up xs ps u ks, e = .returned (.tuple #[.agg #[us, up], u]) ∧ ks.length ≤ 14 ∧ OwnI B w u ks ∧ DK B us up xs ps w
set_option maxRecDepth 100000 in
set_option maxHeartbeats 8000000 in
theorem drawCrash_any (v : Value) (bs : List Int) (w : World) (h : ReadsB w v bs) (hl : bs.length ≤ 1048576) :
    Calls Tryz.prog 17 #[v] w fun e w' => DrawnC w.heap.size e w' ∧ Below w.heap.size w w' := by
  have hb0 := below_new w (.cells #[.slice none 0 0, .slice none 0 0] 26)
  have HV := hide (h.below hb0 (Nat.le_refl _))
  have HR := hide (row_new w [.slice none 0 0, .slice none 0 0] 26)
  have HB0 := hide hb0
  clear h hb0
  go_enter Tryz.func17, Tryz.ntmps17
  go_wp2_with fail
  refine (source_any v bs _ HV.out hl).mono ?_
  rintro e w1 ⟨rfl, hs1, hb1⟩
  have HB1 := hide (HB0.out.trans (hb1.mono HB0.out.size))
  have HR1 := hide (Row.after hb1 HR.out)
  obtain ⟨g, hg⟩ : ∃ g, g = (w.alloc (.cells #[.slice none 0 0, .slice none 0 0] 26)).heap.size := ⟨_, rfl⟩
  have hgw : w.heap.size < g := by rw [hg]; simp
  rw [← hg] at hs1 ⊢
  have HS1 := hide hs1
  have hg1 := hs1.lt
  clear hs1 hb1 HB0 HR HV hg
  go_wp2_with fail
  refine (disk_any v bs g _ HS1.out hl).mono ?_
  rintro e w2 ⟨⟨us, up, xs, ps, rfl, o1, o2, dj, xl, pl, xz, pz⟩, hs2, hk2⟩
  obtain ⟨s1, s2, s3, rfl⟩ := o1.isSlice
  obtain ⟨t1, t2, t3, rfl⟩ := o2.isSlice
  have bn := below_new w2 (.cells #[.slice s1 s2 s3, .slice t1 t2 t3] 26)
  have HDK2 := hide ((DK.mk o1 o2 dj xl pl xz pz).below bn)
  have HS2 := hide (hs2.below bn)
  have HB2 := hide (show Below w.heap.size w (w2.alloc (.cells #[.slice s1 s2 s3, .slice t1 t2 t3] 26)) from (hk2.toBelow HB1.out HB1.out.size (by simp; omega)).alloc (hk2.toBelow HB1.out HB1.out.size (by simp; omega)).size _)
  have HR2 := hide ((hk2.row HR1.out (by simp; omega)).alloc (.cells #[.slice s1 s2 s3, .slice t1 t2 t3] 26))
  have HD2 := hide (row_new w2 [.slice s1 s2 s3, .slice t1 t2 t3] 26)
  have hz2 := hk2.size
  have hr1 := HR1.out.lt
  obtain ⟨d, hd⟩ : ∃ d, d = w2.heap.size := ⟨_, rfl⟩
  have hdz : w1.heap.size ≤ d := by omega
  obtain ⟨W0, hW0⟩ : ∃ W, W = w2.alloc (.cells #[.slice s1 s2 s3, .slice t1 t2 t3] 26) := ⟨_, rfl⟩
  rw [← hd] at HD2
  rw [← hW0] at HDK2 HS2 HB2 HR2 HD2
  clear o1 o2 dj xl pl xz pz hs2 hk2 HB1 HR1 HS1 bn hz2
  have HSS := hide (show ∀ x, Kept [g, w.heap.size] W0 x → x.cell? ⟨d, 0, none⟩ = some (.slice s1 s2 s3) ∧ x.cell? ⟨d, 1, none⟩ = some (.slice t1 t2 t3) ∧ Kept [g, w.heap.size] W0 x from fun x h => ⟨(h.row HD2.out (by simp; omega)).cell 0, (h.row HD2.out (by simp; omega)).cell 1, h⟩)
  have HSd := hide (HS2.out.below (Below.refl _ _).drew)
  have HRd := hide HR2.out.drew
  go_wp2_with fail
  rw [← hW0, ← hd]
  clear hW0 hd
  refine wp_region_held (S := fun x : World => x.cell? ⟨d, 0, none⟩ = some (.slice s1 s2 s3) ∧ x.cell? ⟨d, 1, none⟩ = some (.slice t1 t2 t3) ∧ Kept [g, w.heap.size] W0 x) (by kernel_rfl) ?_
  have HS := hide (HSS.out { W0 with drawn := W0.drawn + 1 } ((Kept.refl _ _).drew))
  refine wpAnyH_take (i := 0) (oi := _) (v := .agg #[.slice s1 s2 s3, .slice t1 t2 t3]) rfl (by kernel_rfl) (by kernel_rfl) (by kernel_rfl) (fun _ _ _ h => h) (Or.inl ⟨by rfl, by intro w hSw; go_split_ands; go_simp <;> omega⟩) HS.out ?_
  simp only [Act.put, List.getElem_toArray, List.getElem_cons_zero, List.setIfInBounds_toArray, List.set_cons_zero, List.set_cons_succ]
  refine wpAnyH_take (i := 1) (oi := _) (v := .pointer (some ⟨g, 0, none⟩)) rfl (by kernel_rfl) (by kernel_rfl) (by kernel_rfl) (fun _ _ _ h => h) (Or.inl ⟨by rfl, by intro w hSw; go_split_ands; go_simp <;> omega⟩) HS.out ?_
  simp only [Act.put, List.getElem_toArray, List.getElem_cons_zero, List.getElem_cons_succ, List.setIfInBounds_toArray, List.set_cons_zero, List.set_cons_succ]
  refine wpAnyH_ready (rs := [2]) (by kernel_rfl) (by simp) ?_
  refine AllReadyH.cons (o := _) rfl (fun K hK => ?_) AllReadyH.nil
  go_simp
  refine (keep_any v bs g _ HSd.out hl).mono ?_
  rintro e V ⟨⟨u, ks, rfl, hks, ou⟩, hsV, hkV⟩
  have HKV := hide (show Kept [g, w.heap.size] _ V from ((Kept.refl _ _).drew).trans (hkV.mono (by simp)))
  have HRV := hide (hkV.row HRd.out (by simp; omega))
  have hWz := HD2.out.lt
  have HOU := hide ou
  clear hsV hkV ou
  refine hK.out _ _ (HSS.out _ HKV.out) (fun _ => ?_)
  clear hK K HS
  have HS := hide (HSS.out _ HKV.out)
  have r0 : V.cell? ⟨w.heap.size, 0, none⟩ = some (.slice none 0 0) := HRV.out.cell 0
  have r1 : V.cell? ⟨w.heap.size, 1, none⟩ = some (.slice none 0 0) := HRV.out.cell 1
  have p0 := HRV.out.free 0
  have p1 := HRV.out.free 1
  have K2 : Kept [g, w.heap.size] V ((V.setCell ⟨w.heap.size, 0, none⟩ (.slice s1 s2 s3)).setCell ⟨w.heap.size, 1, none⟩ (.slice t1 t2 t3)) := ((Kept.refl _ _).set (by simp) _).set (by simp) _
  have HK2 := hide (HKV.out.trans K2)
  have HK3 := hide K2
  have RR := (HRV.out.set (j := 0) (.slice s1 s2 s3)).set (j := 1) (.slice t1 t2 t3)
  have HRR := hide RR
  clear K2 RR
  refine wpAnyH_ready (rs := [3]) (by kernel_rfl) (by simp) ?_
  refine AllReadyH.cons (o := _) rfl (fun K hK => ?_) AllReadyH.nil
  go_simp
  refine hK.out _ _ (HSS.out _ HK2.out) (fun _ => ?_)
  clear hK K r0 r1 p0 p1
  have HS := hide (HSS.out _ HK2.out)
  refine wpAnyH_take (i := 4) (oi := _) (v := u) rfl (by kernel_rfl) (by kernel_rfl) (by kernel_rfl) (fun _ _ _ h => h) (Or.inl ⟨by rfl, by intro w hSw; go_split_ands; go_simp <;> omega⟩) HS.out ?_
  simp only [Act.put, List.getElem_toArray, List.getElem_cons_zero, List.getElem_cons_succ, List.setIfInBounds_toArray, List.set_cons_zero, List.set_cons_succ]
  refine wpAnyH_done (by kernel_rfl) ?_ _
  obtain ⟨W9, hW9⟩ : ∃ W, W = (V.setCell ⟨w.heap.size, 0, none⟩ (.slice s1 s2 s3)).setCell ⟨w.heap.size, 1, none⟩ (.slice t1 t2 t3) := ⟨_, rfl⟩
  rw [← hW9] at HK2 HK3 HRR ⊢
  clear hW9 HS HSS
  have q0 : W9.cell? ⟨w.heap.size, 0, none⟩ = some (.slice s1 s2 s3) := HRR.out.cell 0
  have q1 : W9.cell? ⟨w.heap.size, 1, none⟩ = some (.slice t1 t2 t3) := HRR.out.cell 1
  go_wp2
  exact bodyPost_ret (v := .tuple #[.agg #[.slice s1 s2 s3, .slice t1 t2 t3], u]) (by simp [results, Tryz.results17, go_sem, q0, q1]) rfl ⟨⟨_, _, xs, ps, u, ks, rfl, hks, (ownI_kept HOU.out HK3.out (by simp; omega)).mono (by have : W0.heap.size = (World.drew W0).heap.size := rfl; omega), (HDK2.out.kept HK2.out (by simp; omega)).mono (by omega)⟩, HK2.out.toBelow HB2.out HB2.out.size (by simp; omega)⟩

end Go.Proofs.YtkmehbgepkilkaaGreatDoor
