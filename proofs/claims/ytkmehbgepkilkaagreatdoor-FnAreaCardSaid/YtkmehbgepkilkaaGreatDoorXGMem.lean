/- Rows of cells that a call itself makes, and slices of texts that are read: what of them stays behind a store, a new block, a call. Nothing here speaks of one program. -/
import Derived.WalkKit
import Derived.OpenShut
import Derived.Laws.CopyOwn
import Derived.Test.YtkmehbgepkilkaaGreatDoorRows
import Derived.RegionTactic
namespace Go.Proofs.YtkmehbgepkilkaaGreatDoor
open Go.RowKit
theorem hide {p : Prop} (h : p) : Hid p := h
theorem ret_int {k : IntKind} {a b : Int} (h : a = b) : Ending.returned (.int k a) = .returned (.int k b) := by rw [h]
theorem ret_bool {a b : Bool} (h : a = b) : Ending.returned (.bool a) = .returned (.bool b) := by rw [h]

/-- Block g is a row of the cells cs, none of them frozen. -/
def Row (w : World) (g : Nat) (T : TypeId) (cs : List Value) : Prop := w.heap[g]? = some (.cells cs.toArray T (0, 0))

theorem Row.lt {w : World} {g : Nat} {T : TypeId} {cs : List Value} (h : Row w g T cs) : g < w.heap.size := by
  rcases Nat.lt_or_ge g w.heap.size with h' | h'
  · exact h'
  · unfold Row at h; rw [Array.getElem?_eq_none h'] at h; cases h
theorem Row.cell {w : World} {g : Nat} {T : TypeId} {cs : List Value} (h : Row w g T cs) (j : Nat) : w.cell? ⟨g, j, none⟩ = cs[j]? := by
  rw [cell_of_row w g j _ T (0, 0) h]; simp
theorem Row.at {w : World} {g : Nat} {T : TypeId} {cs : List Value} (h : Row w g T cs) (j : Nat) (hj : j < cs.length) : w.cell? ⟨g, j, none⟩ = some cs[j] := by
  rw [h.cell j, List.getElem?_eq_getElem hj]
theorem Row.free {w : World} {g : Nat} {T : TypeId} {cs : List Value} (h : Row w g T cs) (j : Nat) : w.frozen? ⟨g, j, none⟩ = false := by
  unfold Row at h
  simp [World.frozen?, h]
theorem Row.below {w w' : World} {g B : Nat} {T : TypeId} {cs : List Value} (h : Row w g T cs) (hb : Below B w w') (hg : g < B) : Row w' g T cs := by
  unfold Row; rw [hb.block g hg]; exact h
theorem Row.alloc {w : World} {g : Nat} {T : TypeId} {cs : List Value} (h : Row w g T cs) (o : Obj) : Row (w.alloc o) g T cs :=
  h.below ((Below.refl w.heap.size w).alloc (Nat.le_refl _) o) h.lt
theorem Row.other {w : World} {g b j : Nat} {T : TypeId} {cs : List Value} (h : Row w g T cs) (hb : g ≠ b) (v : Value) : Row (w.setCell ⟨b, j, none⟩ v) g T cs := by
  unfold Row; rw [Below.heap_setCell w ⟨b, j, none⟩ v g hb]; exact h
theorem Row.set {w : World} {g j : Nat} {T : TypeId} {cs : List Value} (h : Row w g T cs) (v : Value) : Row (w.setCell ⟨g, j, none⟩ v) g T (cs.set j v) := by
  unfold Row at h ⊢
  have := heap_setCell_same w g j _ T v h
  simpa using this
theorem row_new (w : World) (cs : List Value) (T : TypeId) : Row (w.alloc (.cells cs.toArray T)) w.heap.size T cs := heap_alloc_new w _

/-- The slice v reads as the texts xs. -/
def Reads (w : World) (v : Value) (xs : List ByteArray) : Prop :=
  ∃ p cap, v = .slice p xs.length cap ∧ xs.length ≤ cap ∧ cap ≤ maxLen ∧ (∀ x ∈ xs, x.size ≤ maxLen) ∧
    (0 < xs.length → ∃ g off, p = some ⟨g, off, none⟩ ∧ g < w.heap.size ∧ ∀ i (h : i < xs.length), w.cell? ⟨g, off + i, none⟩ = some (.string xs[i]))
theorem Reads.below {w w' : World} {v : Value} {xs : List ByteArray} {B : Nat} (h : Reads w v xs) (hb : Below B w w') (hB : w.heap.size ≤ B) : Reads w' v xs := by
  obtain ⟨p, cap, rfl, h1, h2, h3, h4⟩ := h
  refine ⟨p, cap, rfl, h1, h2, h3, fun h0 => ?_⟩
  obtain ⟨g, off, rfl, hg, hc⟩ := h4 h0
  exact ⟨g, off, rfl, Nat.lt_of_lt_of_le hg hb.size, fun i hi => by rw [hb.cell (p := ⟨g, off + i, none⟩) (Nat.lt_of_lt_of_le hg hB)]; exact hc i hi⟩
def strs (xs : List ByteArray) : List Value := xs.map Value.string
theorem strs_len (xs : List ByteArray) : (strs xs).length = xs.length := by simp [strs]
/-- The first cells of a row of the call's own read as the texts that they are. -/
theorem Row.reads {w : World} {g : Nat} {T : TypeId} {xs : List ByteArray} {rest : List Value} (h : Row w g T (strs xs ++ rest)) (hm : xs.length + rest.length ≤ maxLen) (hx : ∀ x ∈ xs, x.size ≤ maxLen) :
    Reads w (.slice (some ⟨g, 0, none⟩) xs.length (xs.length + rest.length)) xs :=
  ⟨_, _, rfl, Nat.le_add_right _ _, hm, hx, fun _ => ⟨g, 0, rfl, h.lt, fun i hi => by
    rw [Nat.zero_add, h.at i (by rw [List.length_append, strs_len]; omega), List.getElem_append_left (by rw [strs_len]; exact hi)]; simp [strs]⟩⟩

theorem own_row {w1 : World} {base g n cap sz : Nat} {e : TypeId} {xs : List Value} (h : w1.ownsRow base e sz (.slice (some ⟨g, 0, none⟩) n cap) n xs) :
    ∃ cur : List Value, Row w1 g e cur ∧ cur.length = cap * sz := by
  obtain ⟨_, ⟨h1, _⟩ | ⟨g', cap', cur, hv, _, hh, _, _, hs, _⟩⟩ := h
  · simp at h1
  · simp at hv
    obtain ⟨rfl, rfl⟩ := hv
    exact ⟨cur.toList, by simpa [Row] using hh, by simpa using hs⟩
theorem set_next (xs : List ByteArray) (Z : List Value) (k : Nat) (h : k < xs.length) (hZ : Z.length = xs.length) :
    (strs (xs.take k) ++ Z.drop k).set k (.string xs[k]) = strs (xs.take (k + 1)) ++ Z.drop (k + 1) := by
  have hl : (strs (xs.take k)).length = k := by rw [strs_len, List.length_take]; omega
  rw [List.set_append_right _ _ (by omega), hl, Nat.sub_self, List.drop_eq_getElem_cons (by omega : k < Z.length), List.set_cons_zero, List.take_succ_eq_append_getElem h]
  unfold strs
  rw [List.map_append, List.append_assoc]
  rfl
theorem len_next (xs : List ByteArray) (Z : List Value) (k : Nat) (h : k ≤ xs.length) (hZ : Z.length = xs.length) : (strs (xs.take k) ++ Z.drop k).length = xs.length := by
  rw [List.length_append, strs_len, List.length_take, List.length_drop]; omega
theorem Row.some {w : World} {g : Nat} {T : TypeId} {cs : List Value} (h : Row w g T cs) (j : Nat) (hj : j < cs.length) : ∃ u, w.cell? ⟨g, j, none⟩ = Option.some u := ⟨_, h.at j hj⟩

theorem below_drew {W w1 : World} (h : Below W.drew.heap.size W.drew w1) : Below W.heap.size W w1 := ((Below.refl W.heap.size W).drew).trans h

/-- w' is w with new blocks, and with writes into block G alone. -/
def Only (G : Nat) (w w' : World) : Prop := w.grownBy w' (Option.some G)
theorem Only.refl (G : Nat) (w : World) : Only G w w := ⟨rfl, rfl, rfl, Nat.le_refl _, fun _ _ _ => rfl⟩
theorem Only.below {G : Nat} {w w1 w2 : World} (h : Only G w w1) (hb : Below w1.heap.size w1 w2) : Only G w w2 :=
  ⟨hb.os.trans h.os, hb.tape.trans h.tape, hb.output.trans h.output, Nat.le_trans h.size hb.size, fun k hk hne => (hb.block k (Nat.lt_of_lt_of_le hk h.size)).trans (h.block k hk hne)⟩
theorem Only.set {G j : Nat} {w w1 : World} (h : Only G w w1) (v : Value) : Only G w (w1.setCell ⟨G, j, none⟩ v) :=
  ⟨h.os, h.tape, h.output, by have := h.size; simpa [World.setCell] using this, fun k hk hne => (Below.heap_setCell w1 ⟨G, j, none⟩ v k (fun e => hne (by rw [e]))).trans (h.block k hk hne)⟩
theorem Only.drew {G : Nat} {w w1 : World} (h : Only G w w1) : Only G w w1.drew := ⟨h.os, h.tape, h.output, h.size, h.block⟩
theorem Only.trans {G : Nat} {a b c : World} (h : Only G a b) (k : Only G b c) : Only G a c :=
  ⟨k.os.trans h.os, k.tape.trans h.tape, k.output.trans h.output, Nat.le_trans h.size k.size, fun i hi hne => (k.block i (Nat.lt_of_lt_of_le hi h.size) hne).trans (h.block i hi hne)⟩
/-- Seen from a bound that lies at or below G, nothing has turned. -/
theorem Only.toBelow {G B : Nat} {w0 w w' : World} (h : Only G w w') (hb : Below B w0 w) (hB : B ≤ w.heap.size) (hG : B ≤ G) : Below B w0 w' :=
  hb.grown h hB (fun k hk => by cases hk; exact hG)
theorem Only.row {G g : Nat} {w w' : World} {T : TypeId} {cs : List Value} (h : Only G w w') (hr : Row w g T cs) (hne : g ≠ G) : Row w' g T cs := by
  unfold Row; rw [h.block g hr.lt (fun e => hne (Option.some.inj e))]; exact hr
theorem Only.reads {G : Nat} {w w' : World} {v : Value} {xs : List ByteArray} (h : Only G w w') (hr : Reads w v xs) (hne : v.ownBlock ≠ Option.some G) : Reads w' v xs := by
  obtain ⟨p, cap, rfl, h1, h2, h3, h4⟩ := hr
  refine ⟨p, cap, rfl, h1, h2, h3, fun h0 => ?_⟩
  obtain ⟨g, off, rfl, hg, hc⟩ := h4 h0
  refine ⟨g, off, rfl, Nat.lt_of_lt_of_le hg h.size, fun i hi => ?_⟩
  rw [World.cell?_of_block (w := w) (h.block g hg (fun e => hne (by simpa [Value.ownBlock] using e)))]
  exact hc i hi

/-- The slice v reads as the pairs ps: a number and a text each. -/
def ReadsP (w : World) (v : Value) (ps : List (Int × ByteArray)) : Prop :=
  ∃ p cap, v = .slice p ps.length cap ∧ ps.length ≤ cap ∧ cap ≤ maxLen ∧ (∀ x ∈ ps, x.2.size ≤ maxLen) ∧
    (0 < ps.length → ∃ g off, p = Option.some ⟨g, off, none⟩ ∧ g < w.heap.size ∧
      ∀ i (h : i < ps.length), w.cell? ⟨g, off + i * 2, none⟩ = Option.some (.int .i64 ps[i].1) ∧ w.cell? ⟨g, off + i * 2 + 1, none⟩ = Option.some (.string ps[i].2))
theorem ReadsP.below {w w' : World} {v : Value} {ps : List (Int × ByteArray)} {B : Nat} (h : ReadsP w v ps) (hb : Below B w w') (hB : w.heap.size ≤ B) : ReadsP w' v ps := by
  obtain ⟨p, cap, rfl, h1, h2, h3, h4⟩ := h
  refine ⟨p, cap, rfl, h1, h2, h3, fun h0 => ?_⟩
  obtain ⟨g, off, rfl, hg, hc⟩ := h4 h0
  refine ⟨g, off, rfl, Nat.lt_of_lt_of_le hg hb.size, fun i hi => ?_⟩
  rw [hb.cell (p := ⟨g, off + i * 2, none⟩) (Nat.lt_of_lt_of_le hg hB), hb.cell (p := ⟨g, off + i * 2 + 1, none⟩) (Nat.lt_of_lt_of_le hg hB)]
  exact hc i hi
theorem Only.readsP {G : Nat} {w w' : World} {v : Value} {ps : List (Int × ByteArray)} (h : Only G w w') (hr : ReadsP w v ps) (hne : v.ownBlock ≠ Option.some G) : ReadsP w' v ps := by
  obtain ⟨p, cap, rfl, h1, h2, h3, h4⟩ := hr
  refine ⟨p, cap, rfl, h1, h2, h3, fun h0 => ?_⟩
  obtain ⟨g, off, rfl, hg, hc⟩ := h4 h0
  refine ⟨g, off, rfl, Nat.lt_of_lt_of_le hg h.size, fun i hi => ?_⟩
  have hb := h.block g hg (fun e => hne (by simpa [Value.ownBlock] using e))
  rw [World.cell?_of_block (w := w) (a := ⟨g, off + i * 2, none⟩) hb, World.cell?_of_block (w := w) (a := ⟨g, off + i * 2 + 1, none⟩) hb]
  exact hc i hi
def pcs : List (Int × ByteArray) → List Value
  | [] => []
  | x :: r => .int .i64 x.1 :: .string x.2 :: pcs r
theorem pcs_len (ps : List (Int × ByteArray)) : (pcs ps).length = ps.length * 2 := by
  induction ps with
  | nil => rfl
  | cons x r ih => simp [pcs, ih]; omega
theorem pcs_append (a b : List (Int × ByteArray)) : pcs (a ++ b) = pcs a ++ pcs b := by
  induction a with
  | nil => rfl
  | cons x r ih => simp [pcs, ih]
theorem pcs_get (ps : List (Int × ByteArray)) : ∀ i (h : i < ps.length), (pcs ps)[i * 2]? = Option.some (.int .i64 ps[i].1) ∧ (pcs ps)[i * 2 + 1]? = Option.some (.string ps[i].2) := by
  induction ps with
  | nil => intro i h; simp at h
  | cons x r ih =>
    intro i h
    match i, h with
    | 0, _ => exact ⟨rfl, rfl⟩
    | i + 1, h =>
      have := ih i (by simpa using h)
      rw [show (i + 1) * 2 = i * 2 + 1 + 1 by omega, show i * 2 + 1 + 1 + 1 = (i * 2 + 1) + 1 + 1 by omega]
      simpa [pcs] using this
theorem Row.readsP {w : World} {g : Nat} {T : TypeId} {ps : List (Int × ByteArray)} {rest : List Value} {cap : Nat} (h : Row w g T (pcs ps ++ rest)) (hc : ps.length ≤ cap) (hm : cap ≤ maxLen) (hx : ∀ x ∈ ps, x.2.size ≤ maxLen) :
    ReadsP w (.slice (Option.some ⟨g, 0, none⟩) ps.length cap) ps :=
  ⟨_, _, rfl, hc, hm, hx, fun _ => ⟨g, 0, rfl, h.lt, fun i hi => by
    obtain ⟨p0, p1⟩ := pcs_get ps i hi
    have hl := pcs_len ps
    rw [Nat.zero_add, h.cell, h.cell, List.getElem?_append_left (by omega), List.getElem?_append_left (by omega)]
    exact ⟨p0, p1⟩⟩⟩
theorem set_nextP (ps : List (Int × ByteArray)) (Z : List Value) (k : Nat) (h : k < ps.length) (hZ : Z.length = ps.length * 2) :
    ((pcs (ps.take k) ++ Z.drop (k * 2)).set (k * 2) (.int .i64 ps[k].1)).set (k * 2 + 1) (.string ps[k].2) = pcs (ps.take (k + 1)) ++ Z.drop ((k + 1) * 2) := by
  have hl : (pcs (ps.take k)).length = k * 2 := by rw [pcs_len, List.length_take]; omega
  rw [List.set_append_right _ _ (by omega), hl, Nat.sub_self, List.drop_eq_getElem_cons (by omega : k * 2 < Z.length), List.set_cons_zero,
    List.set_append_right _ _ (by omega), hl, show k * 2 + 1 - k * 2 = 1 by omega, List.drop_eq_getElem_cons (by omega : k * 2 + 1 < Z.length), List.set_cons_succ, List.set_cons_zero,
    List.take_succ_eq_append_getElem h, pcs_append, List.append_assoc, show (k + 1) * 2 = k * 2 + 1 + 1 by omega]
  rfl
theorem len_nextP (ps : List (Int × ByteArray)) (Z : List Value) (k : Nat) (h : k ≤ ps.length) (hZ : Z.length = ps.length * 2) : (pcs (ps.take k) ++ Z.drop (k * 2)).length = ps.length * 2 := by
  rw [List.length_append, pcs_len, List.length_take, List.length_drop]; omega

/-- w' is w with new blocks, and with writes into the blocks of S alone. -/
structure Kept (S : List Nat) (w w' : World) : Prop where
  os : w'.os = w.os
  tape : w'.tape = w.tape
  output : w'.output = w.output
  size : w.heap.size ≤ w'.heap.size
  block : ∀ k, k < w.heap.size → k ∉ S → w'.heap[k]? = w.heap[k]?
theorem Kept.refl (S : List Nat) (w : World) : Kept S w w := ⟨rfl, rfl, rfl, Nat.le_refl _, fun _ _ _ => rfl⟩
theorem Kept.ofBelow {w w' : World} (h : Below w.heap.size w w') : Kept [] w w' := ⟨h.os, h.tape, h.output, h.size, fun k hk _ => h.block k hk⟩
theorem Kept.ofOnly {G : Nat} {w w' : World} (h : Only G w w') : Kept [G] w w' :=
  ⟨h.os, h.tape, h.output, h.size, fun k hk hn => h.block k hk (fun e => hn (by rw [Option.some.inj e]; exact List.mem_singleton.2 rfl))⟩
theorem Kept.mono {S S' : List Nat} {w w' : World} (h : Kept S w w') (hs : ∀ x ∈ S, x ∈ S') : Kept S' w w' := ⟨h.os, h.tape, h.output, h.size, fun k hk hn => h.block k hk (fun e => hn (hs k e))⟩
theorem Kept.trans {S : List Nat} {a b c : World} (h : Kept S a b) (k : Kept S b c) : Kept S a c :=
  ⟨k.os.trans h.os, k.tape.trans h.tape, k.output.trans h.output, Nat.le_trans h.size k.size, fun i hi hn => (k.block i (Nat.lt_of_lt_of_le hi h.size) hn).trans (h.block i hi hn)⟩
theorem Kept.below {S : List Nat} {a b c : World} (h : Kept S a b) (k : Below b.heap.size b c) : Kept S a c := h.trans ((Kept.ofBelow k).mono (by simp))
/-- Seen from a bound that lies at or below all of S, nothing has turned. -/
theorem Kept.toBelow {S : List Nat} {B : Nat} {w0 w w' : World} (h : Kept S w w') (hb : Below B w0 w) (hB : B ≤ w.heap.size) (hS : ∀ x ∈ S, B ≤ x) : Below B w0 w' :=
  ⟨h.os.trans hb.os, h.tape.trans hb.tape, h.output.trans hb.output, Nat.le_trans hb.size h.size, fun k hk => (h.block k (Nat.lt_of_lt_of_le hk hB) (fun e => absurd (hS k e) (by omega))).trans (hb.block k hk)⟩
theorem Kept.row {S : List Nat} {g : Nat} {w w' : World} {T : TypeId} {cs : List Value} (h : Kept S w w') (hr : Row w g T cs) (hn : g ∉ S) : Row w' g T cs := by
  unfold Row; rw [h.block g hr.lt hn]; exact hr
theorem Kept.cell {S : List Nat} {g o : Nat} {w w' : World} {v : Value} (h : Kept S w w') (hc : w.cell? ⟨g, o, none⟩ = Option.some v) (hn : g ∉ S) : w'.cell? ⟨g, o, none⟩ = Option.some v := by
  have hg : g < w.heap.size := World.block_lt_of_cell? w ⟨g, o, none⟩ hc
  rw [World.cell?_of_block (w := w) (a := ⟨g, o, none⟩) (h.block g hg hn)]; exact hc
/-- The block that the slice v leads to, if it has an element. -/
def leads : Value → List Nat
  | .slice (Option.some a) (_ + 1) _ => [a.block]
  | _ => []
theorem Kept.reads {S : List Nat} {w w' : World} {v : Value} {xs : List ByteArray} (h : Kept S w w') (hr : Reads w v xs) (hn : ∀ x ∈ leads v, x ∉ S) : Reads w' v xs := by
  obtain ⟨p, cap, rfl, h1, h2, h3, h4⟩ := hr
  refine ⟨p, cap, rfl, h1, h2, h3, fun h0 => ?_⟩
  obtain ⟨g, off, rfl, hg, hc⟩ := h4 h0
  have hgS : g ∉ S := hn g (by obtain ⟨m, hm⟩ : ∃ m, xs.length = m + 1 := ⟨xs.length - 1, by omega⟩; rw [hm]; exact List.mem_singleton.2 rfl)
  exact ⟨g, off, rfl, Nat.lt_of_lt_of_le hg h.size, fun i hi => h.cell (hc i hi) hgS⟩
theorem Kept.readsP {S : List Nat} {w w' : World} {v : Value} {ps : List (Int × ByteArray)} (h : Kept S w w') (hr : ReadsP w v ps) (hn : ∀ x ∈ leads v, x ∉ S) : ReadsP w' v ps := by
  obtain ⟨p, cap, rfl, h1, h2, h3, h4⟩ := hr
  refine ⟨p, cap, rfl, h1, h2, h3, fun h0 => ?_⟩
  obtain ⟨g, off, rfl, hg, hc⟩ := h4 h0
  have hgS : g ∉ S := hn g (by obtain ⟨m, hm⟩ : ∃ m, ps.length = m + 1 := ⟨ps.length - 1, by omega⟩; rw [hm]; exact List.mem_singleton.2 rfl)
  exact ⟨g, off, rfl, Nat.lt_of_lt_of_le hg h.size, fun i hi => ⟨h.cell (hc i hi).1 hgS, h.cell (hc i hi).2 hgS⟩⟩

/-- The slice v is the call's own: what it leads to is a row of texts, from block B on, that nothing else leads to. -/
def OwnS (T : TypeId) (B : Nat) (w : World) (v : Value) (xs : List ByteArray) : Prop :=
  (∀ x ∈ xs, x.size ≤ maxLen) ∧ ((∃ p cap, v = .slice p 0 cap ∧ cap ≤ maxLen ∧ xs = []) ∨
  ∃ G rest, v = .slice (Option.some ⟨G, 0, none⟩) xs.length (xs.length + rest.length) ∧ xs.length + rest.length ≤ maxLen ∧ B ≤ G ∧ Row w G T (strs xs ++ rest))
def OwnP (T : TypeId) (B : Nat) (w : World) (v : Value) (ps : List (Int × ByteArray)) : Prop :=
  (∀ x ∈ ps, x.2.size ≤ maxLen) ∧ ((∃ p cap, v = .slice p 0 cap ∧ cap ≤ maxLen ∧ ps = []) ∨
  ∃ G cap rest, v = .slice (Option.some ⟨G, 0, none⟩) ps.length cap ∧ ps.length ≤ cap ∧ cap ≤ maxLen ∧ ps.length * 2 + rest.length = cap * 2 ∧ B ≤ G ∧ Row w G T (pcs ps ++ rest))
theorem OwnS.reads {T : TypeId} {B : Nat} {w : World} {v : Value} {xs : List ByteArray} (h : OwnS T B w v xs) : Reads w v xs := by
  obtain ⟨hx, ⟨p, cap, rfl, hc, rfl⟩ | ⟨G, rest, rfl, hm, _, hr⟩⟩ := h
  · exact ⟨p, cap, rfl, Nat.zero_le _, hc, hx, fun h0 => absurd h0 (Nat.lt_irrefl 0)⟩
  · exact hr.reads hm hx
theorem OwnP.reads {T : TypeId} {B : Nat} {w : World} {v : Value} {ps : List (Int × ByteArray)} (h : OwnP T B w v ps) : ReadsP w v ps := by
  obtain ⟨hx, ⟨p, cap, rfl, hc, rfl⟩ | ⟨G, cap, rest, rfl, hc, hm, _, _, hr⟩⟩ := h
  · exact ⟨p, cap, rfl, Nat.zero_le _, hc, hx, fun h0 => absurd h0 (Nat.lt_irrefl 0)⟩
  · exact hr.readsP hc hm hx
theorem OwnS.leads {T : TypeId} {B : Nat} {w : World} {v : Value} {xs : List ByteArray} (h : OwnS T B w v xs) : ∀ x ∈ leads v, B ≤ x ∧ x < w.heap.size := by
  obtain ⟨_, ⟨p, cap, rfl, _, _⟩ | ⟨G, rest, rfl, _, hB, hr⟩⟩ := h
  · intro x hx; cases p <;> cases hx
  · intro x hx
    cases hn : xs.length with
    | zero => rw [hn] at hx; cases hx
    | succ m => rw [hn] at hx; obtain rfl := List.mem_singleton.1 hx; exact ⟨hB, hr.lt⟩
theorem OwnP.leads {T : TypeId} {B : Nat} {w : World} {v : Value} {ps : List (Int × ByteArray)} (h : OwnP T B w v ps) : ∀ x ∈ leads v, B ≤ x ∧ x < w.heap.size := by
  obtain ⟨_, ⟨p, cap, rfl, _, _⟩ | ⟨G, cap, rest, rfl, _, _, _, hB, hr⟩⟩ := h
  · intro x hx; cases p <;> cases hx
  · intro x hx
    cases hn : ps.length with
    | zero => rw [hn] at hx; cases hx
    | succ m => rw [hn] at hx; obtain rfl := List.mem_singleton.1 hx; exact ⟨hB, hr.lt⟩
theorem OwnS.kept {T : TypeId} {B : Nat} {S : List Nat} {w w' : World} {v : Value} {xs : List ByteArray} (h : OwnS T B w v xs) (hk : Kept S w w') (hn : ∀ x ∈ Go.Proofs.YtkmehbgepkilkaaGreatDoor.leads v, x ∉ S) : OwnS T B w' v xs := by
  obtain ⟨hx, ⟨p, cap, rfl, hc, rfl⟩ | ⟨G, rest, rfl, hm, hB, hr⟩⟩ := h
  · exact ⟨hx, .inl ⟨p, cap, rfl, hc, rfl⟩⟩
  · cases hl : xs with
    | nil => subst hl; exact ⟨by simp, .inl ⟨_, _, rfl, hm, rfl⟩⟩
    | cons x r =>
      rw [← hl]
      have hG : G ∉ S := hn G (by rw [hl]; exact List.mem_singleton.2 rfl)
      exact ⟨hx, .inr ⟨G, rest, rfl, hm, hB, hk.row hr hG⟩⟩
theorem OwnP.kept {T : TypeId} {B : Nat} {S : List Nat} {w w' : World} {v : Value} {ps : List (Int × ByteArray)} (h : OwnP T B w v ps) (hk : Kept S w w') (hn : ∀ x ∈ Go.Proofs.YtkmehbgepkilkaaGreatDoor.leads v, x ∉ S) : OwnP T B w' v ps := by
  obtain ⟨hx, ⟨p, cap, rfl, hc, rfl⟩ | ⟨G, cap, rest, rfl, hc, hm, hl2, hB, hr⟩⟩ := h
  · exact ⟨hx, .inl ⟨p, cap, rfl, hc, rfl⟩⟩
  · cases hl : ps with
    | nil => subst hl; exact ⟨by simp, .inl ⟨_, _, rfl, hm, rfl⟩⟩
    | cons x r =>
      rw [← hl]
      have hG : G ∉ S := hn G (by rw [hl]; exact List.mem_singleton.2 rfl)
      exact ⟨hx, .inr ⟨G, cap, rest, rfl, hc, hm, hl2, hB, hk.row hr hG⟩⟩
theorem OwnS.below {T : TypeId} {B B' : Nat} {w w' : World} {v : Value} {xs : List ByteArray} (h : OwnS T B w v xs) (hb : Below B' w w') (hB : w.heap.size ≤ B') : OwnS T B w' v xs :=
  h.kept (Kept.ofBelow (hb.mono hB)) (by simp)
theorem OwnP.below {T : TypeId} {B B' : Nat} {w w' : World} {v : Value} {ps : List (Int × ByteArray)} (h : OwnP T B w v ps) (hb : Below B' w w') (hB : w.heap.size ≤ B') : OwnP T B w' v ps :=
  h.kept (Kept.ofBelow (hb.mono hB)) (by simp)
theorem OwnS.mono {T : TypeId} {B B' : Nat} {w : World} {v : Value} {xs : List ByteArray} (h : OwnS T B w v xs) (hB : B' ≤ B) : OwnS T B' w v xs := by
  obtain ⟨hx, h1 | ⟨G, rest, e, hm, hG, hr⟩⟩ := h
  · exact ⟨hx, .inl h1⟩
  · exact ⟨hx, .inr ⟨G, rest, e, hm, Nat.le_trans hB hG, hr⟩⟩
theorem OwnP.mono {T : TypeId} {B B' : Nat} {w : World} {v : Value} {ps : List (Int × ByteArray)} (h : OwnP T B w v ps) (hB : B' ≤ B) : OwnP T B' w v ps := by
  obtain ⟨hx, h1 | ⟨G, cap, rest, e, hc, hm, hl, hG, hr⟩⟩ := h
  · exact ⟨hx, .inl h1⟩
  · exact ⟨hx, .inr ⟨G, cap, rest, e, hc, hm, hl, Nat.le_trans hB hG, hr⟩⟩
theorem Reads.leads {w : World} {v : Value} {xs : List ByteArray} (h : Reads w v xs) : ∀ x ∈ Go.Proofs.YtkmehbgepkilkaaGreatDoor.leads v, x < w.heap.size := by
  obtain ⟨p, cap, rfl, _, _, _, h4⟩ := h
  intro x hx
  cases hn : xs.length with
  | zero => rw [hn] at hx; cases p <;> cases hx
  | succ m =>
    obtain ⟨g, off, rfl, hg, _⟩ := h4 (by omega)
    rw [hn] at hx
    obtain rfl := List.mem_singleton.1 hx
    exact hg
theorem ReadsP.leads {w : World} {v : Value} {ps : List (Int × ByteArray)} (h : ReadsP w v ps) : ∀ x ∈ Go.Proofs.YtkmehbgepkilkaaGreatDoor.leads v, x < w.heap.size := by
  obtain ⟨p, cap, rfl, _, _, _, h4⟩ := h
  intro x hx
  cases hn : ps.length with
  | zero => rw [hn] at hx; cases p <;> cases hx
  | succ m =>
    obtain ⟨g, off, rfl, hg, _⟩ := h4 (by omega)
    rw [hn] at hx
    obtain rfl := List.mem_singleton.1 hx
    exact hg
theorem Kept.ofSet (w : World) (G j : Nat) (v : Value) : Kept [G] w (w.setCell ⟨G, j, none⟩ v) := Kept.ofOnly ((Only.refl G w).set v)
end Go.Proofs.YtkmehbgepkilkaaGreatDoor

/- The laws' own helpers over lists of texts: how much they take together, a copy, are two alike. -/
namespace Go.Proofs.YtkmehbgepkilkaaGreatDoor
open Go.RowKit

theorem Tryz.infoStr : (Tryz.prog.info? 9).map (fun i => (i.zero, i.size, i.bytes)) = some (some (.string ⟨#[]⟩), 1, 16) := by kernel_rfl

end Go.Proofs.YtkmehbgepkilkaaGreatDoor
