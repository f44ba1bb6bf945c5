/- What is held of a world stays when new memory is made: facts gone on with at one stroke. -/
import Derived.Test.YtckcfjibiidafaaGreatXG21Copy
import Derived.Lib.Strings
import Derived.Lib.BufferWrite
import Derived.Lib.UnsafeStr
import Derived.Laws.MakeOwn
namespace Go.Proofs.YtckcfjibiidafaaGreat
open Go.RowKit

class Stab (P : World → Prop) : Prop where
  go : ∀ {w w' : World}, Below w.heap.size w w' → P w → P w'
instance stab_and (P Q : World → Prop) [Stab P] [Stab Q] : Stab (fun w => P w ∧ Q w) := ⟨fun hb h => ⟨Stab.go hb h.1, Stab.go hb h.2⟩⟩
instance stab_reads (v : Value) (xs : List ByteArray) : Stab (fun w => Reads w v xs) := ⟨fun hb h => h.below hb (Nat.le_refl _)⟩
instance stab_readsP (v : Value) (ps : List (Int × ByteArray)) : Stab (fun w => ReadsP w v ps) := ⟨fun hb h => h.below hb (Nat.le_refl _)⟩
instance stab_ownS (T : TypeId) (B : Nat) (v : Value) (xs : List ByteArray) : Stab (fun w => OwnS T B w v xs) := ⟨fun hb h => h.below hb (Nat.le_refl _)⟩
instance stab_ownP (T : TypeId) (B : Nat) (v : Value) (ps : List (Int × ByteArray)) : Stab (fun w => OwnP T B w v ps) := ⟨fun hb h => h.below hb (Nat.le_refl _)⟩
instance stab_row (g : Nat) (T : TypeId) (cs : List Value) : Stab (fun w => Row w g T cs) := ⟨fun hb h => Row.after hb h⟩
instance stab_below (w0 : World) : Stab (fun w => Below w0.heap.size w0 w) := ⟨fun hb h => h.trans (hb.mono h.size)⟩
instance stab_le (k : Nat) : Stab (fun w => k ≤ w.heap.size) := ⟨fun hb h => Nat.le_trans h hb.size⟩
theorem below_new (w : World) (o : Obj) : Below w.heap.size w (w.alloc o) := (Below.refl _ _).alloc (Nat.le_refl _) _

/-- What the slice v leads to lies from block lo on, ahead of block hi. -/
def In (v : Value) (lo hi : Nat) : Prop := ∀ x ∈ leads v, lo ≤ x ∧ x < hi
theorem OwnS.isIn {T : TypeId} {B : Nat} {w : World} {v : Value} {xs : List ByteArray} (h : OwnS T B w v xs) : In v B w.heap.size := h.leads
theorem OwnP.isIn {T : TypeId} {B : Nat} {w : World} {v : Value} {xs : List (Int × ByteArray)} (h : OwnP T B w v xs) : In v B w.heap.size := h.leads
theorem Reads.isIn {w : World} {v : Value} {xs : List ByteArray} (h : Reads w v xs) : In v 0 w.heap.size := fun x hx => ⟨Nat.zero_le _, h.leads x hx⟩
theorem ReadsP.isIn {w : World} {v : Value} {xs : List (Int × ByteArray)} (h : ReadsP w v xs) : In v 0 w.heap.size := fun x hx => ⟨Nat.zero_le _, h.leads x hx⟩
theorem In.apart {v a b : Value} {lo hi lo2 hi2 : Nat} (h1 : In v lo hi) (h2 : In a lo2 hi2) (h3 : In b lo2 hi2) (h : hi ≤ lo2 ∨ hi2 ≤ lo) : ∀ x ∈ leads v, x ∉ leads a ++ leads b := by
  intro x hx hm
  have := h1 x hx
  rcases List.mem_append.1 hm with h' | h'
  · have := h2 x h'; omega
  · have := h3 x h'; omega
theorem In.far {g : Nat} {a b : Value} {lo2 hi2 : Nat} (h2 : In a lo2 hi2) (h3 : In b lo2 hi2) (h : g < lo2 ∨ hi2 ≤ g) : g ∉ leads a ++ leads b := by
  intro hm
  rcases List.mem_append.1 hm with h' | h'
  · have := h2 g h'; omega
  · have := h3 g h'; omega
theorem In.all {a b : Value} {lo hi : Nat} (h2 : In a lo hi) (h3 : In b lo hi) : ∀ x ∈ leads a ++ leads b, lo ≤ x := by
  intro x hm
  rcases List.mem_append.1 hm with h' | h'
  · exact (h2 x h').1
  · exact (h3 x h').1
theorem Kept.onBelow {S : List Nat} {w0 w w' : World} (h : Kept S w w') (hb : Below w0.heap.size w0 w) (hS : ∀ x ∈ S, w0.heap.size ≤ x) : Below w0.heap.size w0 w' := h.toBelow hb hb.size hS
theorem OwnS.isSlice {T : TypeId} {B : Nat} {w : World} {v : Value} {xs : List ByteArray} (h : OwnS T B w v xs) : ∃ p n c, v = .slice p n c := by obtain ⟨p, c, e, _⟩ := h.reads; exact ⟨_, _, _, e⟩
theorem OwnP.isSlice {T : TypeId} {B : Nat} {w : World} {v : Value} {xs : List (Int × ByteArray)} (h : OwnP T B w v xs) : ∃ p n c, v = .slice p n c := by obtain ⟨p, c, e, _⟩ := h.reads; exact ⟨_, _, _, e⟩
end Go.Proofs.YtckcfjibiidafaaGreat
/- A text copied byte by byte: the same bytes. -/
namespace Go.Proofs.YtckcfjibiidafaaGreat
open Go.RowKit

theorem Tryz.infoByteK : (Tryz.prog.info? 5).map (fun i => (i.zero, i.size, i.bytes)) = some (some (.int .u8 0), 1, 1) := by kernel_rfl

set_option maxHeartbeats 4000000 in
set_option maxRecDepth 100000 in
theorem inClone_any (s : ByteArray) (w : World) (hlim : s.size ≤ 281474976710656) :
    Calls Tryz.prog 48 #[.string s] w fun e w' => e = .returned (.string s) ∧ Below w.heap.size w w' := by
  by_cases h0 : s.size = 0
  · obtain rfl : s = ⟨#[]⟩ := ByteArray.ext (Array.eq_empty_of_size_eq_zero h0)
    go_enter Tryz.func48, Tryz.ntmps48
    go_wp2
    go_ret
    exact ⟨rfl, Below.refl _ _⟩
  · obtain ⟨i0, hi, hz0, hz1, hz2⟩ := info_parts Tryz.infoByteK
    have hinfo : (Tryz.prog.info? 5).map (·.size) = some 1 := by rw [hi]; simp [hz1]
    have hco : Tryz.prog.cellsOf 5 = 1 := by simp [Program.cellsOf, hi, hz1]
    obtain ⟨M, hM⟩ : ∃ M, M = madeCells (Value.int .u8 0).cells (((s.size : Nat) : Int).toNat * i0.size) := ⟨_, rfl⟩
    have hMs : M.size = s.size := by rw [hM, size_madeCells, hz1]; simp
    have hmk : ∀ W : World, (Instr.makeSlice 74 (.int .i64 (s.size : Int)) (.int .i64 (s.size : Int))).run Tryz.prog W = .ok (.slice (some ⟨W.heap.size, 0, none⟩) s.size s.size) (W.alloc (.cells M 5)) := fun W => by
      have h := run_make (P := Tryz.prog) W 74 5 i0 (.int .u8 0) Tryz.underlying74 hi hz0 .i64 .i64 (s.size : Int) (s.size : Int) (by omega) (by omega) (by rw [hz2]; omega) (by omega)
      rw [← hM] at h
      simpa using h
    clear hM
    have hcp := Lib.run_copy_row_string (P := Tryz.prog) (w.alloc (.cells M 5)) 74 9 3 5 w.heap.size 0 s.size s.size s M 5 Tryz.underlying74 hinfo (heap_alloc_new w _) (Nat.le_refl _) (by omega)
    obtain ⟨Y, hY⟩ : ∃ Y, Y = (M.toList.take 0 ++ Lib.byteCells s.data.toList ++ M.toList.drop (0 + s.size)).toArray := ⟨_, rfl⟩
    rw [← hY] at hcp
    have hYl : Y.toList = Lib.byteCells s.data.toList := by
      rw [hY, List.toList_toArray, List.take_zero, List.nil_append, List.drop_of_length_le (by rw [Array.length_toList]; omega), List.append_nil]
    have hYs : Y.size = s.size := by rw [← Array.length_toList, hYl, Lib.byteCells_length, ← Lib.size_eq]
    have hgY : ((w.alloc (.cells M 5)).setRow w.heap.size Y).heap[w.heap.size]? = some (.cells Y 5 (0, 0)) := setRow_heap _ _ M _ 5 (0, 0) (heap_alloc_new w _)
    have hne : s.data.toList ≠ [] := fun e => h0 (by rw [Lib.size_eq, e]; rfl)
    have hUS := Lib.run_unsafeString_row (P := Tryz.prog) ((w.alloc (.cells M 5)).setRow w.heap.size Y) 89 3 9 5 Tryz.underlying89 hco w.heap.size Y.size (by unfold World.shape?; rw [hgY]) s.data.toList hne (by rw [← Lib.size_eq]; omega) (by rw [← Lib.size_eq]; omega)
      (fun j x hx => Lib.cells_of_row hgY Y.size j _ (by rw [List.take_of_length_le (by rw [Array.length_toList]; exact Nat.le_refl _), hYl]; simp [Lib.byteCells, hx]))
    rw [← Lib.size_eq] at hUS
    clear hY
    go_enter Tryz.func48, Tryz.ntmps48
    go_wp2
    go_ret
    have hb1 : Below w.heap.size w (w.alloc (.cells M 5)) := (Below.refl _ w).alloc (Nat.le_refl _) _
    have hb2 : Below w.heap.size (w.alloc (.cells M 5)) ((w.alloc (.cells M 5)).setRow w.heap.size Y) := ⟨rfl, rfl, rfl, by simp, fun k hk => setRow_other _ _ _ _ (by omega)⟩
    exact ⟨rfl, Lib.below_freeze (hb1.trans hb2) (p := ⟨w.heap.size, 0, none⟩) (Nat.le_refl _) _⟩
theorem clone_any (s : ByteArray) (w : World) (hlim : s.size ≤ 281474976710656) :
    Calls Tryz.prog 33 #[.string s] w fun e w' => e = .returned (.string s) ∧ Below w.heap.size w w' := by
  go_enter Tryz.func33, Tryz.ntmps33
  go_wp2_with fail
  refine (inClone_any s _ hlim).mono ?_
  rintro e w1 ⟨rfl, hb⟩
  have HB := hide hb
  clear hb
  go_wp2
  go_ret
  exact ⟨rfl, HB.out⟩
end Go.Proofs.YtckcfjibiidafaaGreat
