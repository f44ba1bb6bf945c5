/- A Segment that comes in, read as a text and lists. -/
import Derived.Test.YtolgjdnhhbbebaaGreatDoorXGFOpen
import Derived.Test.YtolgjdnhhbbebaaGreatDoorXGFNestE
namespace Go.Proofs.YtolgjdnhhbbebaaGreatDoor
open Go.RowKit Go.ChangeShapes Go.WideShapes
theorem flds_of_trod {H : Type} {enc : TypeId × Value → H} {w : World} {base : Nat} {spare : Nat → Bool} {held : Bool} {n : Nat} {u : Value} {y : DataW H × List MemPlace}
    (h : DataW.trod enc Tryz.prog w base spare held n 143 [u] = some y) : ∃ a, RFlds 0 w u a :=
  rl_of_trod Tryz.underlying143 (by kernel_rfl) (fun n u y h => fld_of_trod h) h
set_option maxRecDepth 100000 in
theorem segment_open {H : Type} {enc : TypeId × Value → H} {w : World} {base b0 : Nat} {spare : Nat → Bool} {held : Bool} {r : Reach} {v : Value} {d : DataW H} {p : List MemPlace}
    (hv : Value.okWide Tryz.prog w r b0 145 v) (h : DataW.Trod enc Tryz.prog w base spare held 145 v d p) : ∃ u x, (∃ n : ByteArray, v = .agg #[.string n, u] ∧ n.size ≤ maxLen) ∧ RFlds 0 w u x := by
  obtain ⟨v0, v1, y0, y1, k, rfl, _, _, t0, t1⟩ := Joins.open_agg2 Tryz.underlying145 (by kernel_rfl) (by kernel_rfl) hv h
  obtain ⟨s, e0, _, hs⟩ := DataW.trod_string Tryz.underlying9 t0
  obtain rfl : v0 = .string s := by simpa using e0
  obtain ⟨x, hx⟩ := flds_of_trod t1
  exact ⟨v1, x, ⟨s, rfl, hs⟩, hx⟩
end Go.Proofs.YtolgjdnhhbbebaaGreatDoor
/- A Message that comes in, read as a text and lists. -/
namespace Go.Proofs.YtolgjdnhhbbebaaGreatDoor
open Go.RowKit Go.ChangeShapes Go.WideShapes
theorem segs_of_trod {H : Type} {enc : TypeId × Value → H} {w : World} {base : Nat} {spare : Nat → Bool} {held : Bool} {k : Nat} {v : Value} {y : DataW H × List MemPlace}
    (h : DataW.trod enc Tryz.prog w base spare held k 96 [v] = some y) : ∃ xs, RSegs 0 w v xs := by
  rcases Go.Deep.open_slice_pairs Tryz.underlying96 Tryz.underlying145 (by kernel_rfl) rfl rfl (by kernel_rfl) (by kernel_rfl) h with ⟨hcs, _⟩ | ⟨a, len, cap, m, n, V0, V1, D0, D1, P0, P1, hcs, _, hl, hm, hmm, _, hx⟩
  · obtain rfl : v = .slice none 0 0 := by simpa using hcs
    exact ⟨[], none, 0, rfl, Nat.le_refl _, Nat.zero_le _, fun h0 => absurd h0 (Nat.lt_irrefl 0)⟩
  · obtain rfl : v = .slice (some a) len cap := by simpa using hcs
    have hll : len ≤ m := by rw [hmm]; split <;> omega
    obtain ⟨F, hF⟩ := Go.Deep.choose_lt (α := Seg) (n := len) (p := fun i z => V0 i = .string z.1 ∧ z.1.size ≤ maxLen ∧ RFlds 0 w (V1 i) z.2) (fun i hi => by
      obtain ⟨_, _, t0, t1⟩ := hx i (by omega)
      obtain ⟨s, e0, _, hs⟩ := DataW.trod_string Tryz.underlying9 t0
      obtain ⟨x, hx⟩ := flds_of_trod t1
      exact ⟨(s, x), by simpa using e0, hs, hx⟩)
    refine ⟨(List.range len).map F, some a, cap, by simp, by simpa using hl, hm, fun h0 => ?_⟩
    have h0' : 0 < len := by simpa using h0
    have ha := spot_none (w := w) (a := a) (v := V0 0) (by simpa using (hx 0 (by omega)).1)
    refine ⟨a.block, a.off, by rw [← ha], ?_, Nat.zero_le _, fun i hi => ?_⟩
    · have := World.block_lt_of_cell? w _ (hx 0 (by omega)).1
      simpa [Addr.add] using this
    · have hi' : i < len := by simpa using hi
      obtain ⟨z0, z1, _, _⟩ := hx i (by omega)
      obtain ⟨e0, e1, e2⟩ := hF i hi'
      rw [ha, Addr.add_lit] at z0 z1
      simp only [List.getElem_map, List.getElem_range]
      exact ⟨by rw [z0, e0], e1, V1 i, by rw [Nat.add_assoc]; exact z1, e2⟩
set_option maxRecDepth 100000 in
theorem message_open {H : Type} {enc : TypeId × Value → H} {w : World} {base b0 : Nat} {spare : Nat → Bool} {held : Bool} {r : Reach} {v : Value} {d : DataW H} {p : List MemPlace}
    (hv : Value.okWide Tryz.prog w r b0 98 v) (h : DataW.Trod enc Tryz.prog w base spare held 98 v d p) : ∃ u x, (∃ n : ByteArray, v = .agg #[.string n, u] ∧ n.size ≤ maxLen) ∧ RSegs 0 w u x := by
  obtain ⟨v0, v1, y0, y1, k, rfl, _, _, t0, t1⟩ := Joins.open_agg2 Tryz.underlying98 (by kernel_rfl) (by kernel_rfl) hv h
  obtain ⟨s, e0, _, hs⟩ := DataW.trod_string Tryz.underlying9 t0
  obtain rfl : v0 = .string s := by simpa using e0
  obtain ⟨x, hx⟩ := segs_of_trod t1
  exact ⟨v1, x, ⟨s, rfl, hs⟩, hx⟩
end Go.Proofs.YtolgjdnhhbbebaaGreatDoor
/- Batches and Files in memory, and the laws' own helpers over them. -/
namespace Go.Proofs.YtolgjdnhhbbebaaGreatDoor
open Go.RowKit Go.ChangeShapes Go.WideShapes
theorem msgs_of_trod {H : Type} {enc : TypeId × Value → H} {w : World} {base : Nat} {spare : Nat → Bool} {held : Bool} {k : Nat} {v : Value} {y : DataW H × List MemPlace}
    (h : DataW.trod enc Tryz.prog w base spare held k 53 [v] = some y) : ∃ xs, RMsgs 0 w v xs := by
  rcases Go.Deep.open_slice_pairs Tryz.underlying53 Tryz.underlying98 (by kernel_rfl) rfl rfl (by kernel_rfl) (by kernel_rfl) h with ⟨hcs, _⟩ | ⟨a, len, cap, m, n, V0, V1, D0, D1, P0, P1, hcs, _, hl, hm, hmm, _, hx⟩
  · obtain rfl : v = .slice none 0 0 := by simpa using hcs
    exact ⟨[], none, 0, rfl, Nat.le_refl _, Nat.zero_le _, fun h0 => absurd h0 (Nat.lt_irrefl 0)⟩
  · obtain rfl : v = .slice (some a) len cap := by simpa using hcs
    have hll : len ≤ m := by rw [hmm]; split <;> omega
    obtain ⟨F, hF⟩ := Go.Deep.choose_lt (α := Msg) (n := len) (p := fun i z => V0 i = .string z.1 ∧ z.1.size ≤ maxLen ∧ RSegs 0 w (V1 i) z.2) (fun i hi => by
      obtain ⟨_, _, t0, t1⟩ := hx i (by omega)
      obtain ⟨s, e0, _, hs⟩ := DataW.trod_string Tryz.underlying9 t0
      obtain ⟨x, hx⟩ := segs_of_trod t1
      exact ⟨(s, x), by simpa using e0, hs, hx⟩)
    refine ⟨(List.range len).map F, some a, cap, by simp, by simpa using hl, hm, fun h0 => ?_⟩
    have h0' : 0 < len := by simpa using h0
    have ha := spot_none (w := w) (a := a) (v := V0 0) (by simpa using (hx 0 (by omega)).1)
    refine ⟨a.block, a.off, by rw [← ha], ?_, Nat.zero_le _, fun i hi => ?_⟩
    · have := World.block_lt_of_cell? w _ (hx 0 (by omega)).1
      simpa [Addr.add] using this
    · have hi' : i < len := by simpa using hi
      obtain ⟨z0, z1, _, _⟩ := hx i (by omega)
      obtain ⟨e0, e1, e2⟩ := hF i hi'
      rw [ha, Addr.add_lit] at z0 z1
      simp only [List.getElem_map, List.getElem_range]
      exact ⟨by rw [z0, e0], e1, V1 i, by rw [Nat.add_assoc]; exact z1, e2⟩
set_option maxRecDepth 100000 in
theorem batch_open {H : Type} {enc : TypeId × Value → H} {w : World} {base b0 : Nat} {spare : Nat → Bool} {held : Bool} {r : Reach} {v : Value} {d : DataW H} {p : List MemPlace}
    (hv : Value.okWide Tryz.prog w r b0 55 v) (h : DataW.Trod enc Tryz.prog w base spare held 55 v d p) : ∃ u x, (∃ n : ByteArray, v = .agg #[.string n, u] ∧ n.size ≤ maxLen) ∧ RMsgs 0 w u x := by
  obtain ⟨v0, v1, y0, y1, k, rfl, _, _, t0, t1⟩ := Joins.open_agg2 Tryz.underlying55 (by kernel_rfl) (by kernel_rfl) hv h
  obtain ⟨s, e0, _, hs⟩ := DataW.trod_string Tryz.underlying9 t0
  obtain rfl : v0 = .string s := by simpa using e0
  obtain ⟨x, hx⟩ := msgs_of_trod t1
  exact ⟨v1, x, ⟨s, rfl, hs⟩, hx⟩
end Go.Proofs.YtolgjdnhhbbebaaGreatDoor
/- Batches and Files in memory, and the laws' own helpers over them. -/
namespace Go.Proofs.YtolgjdnhhbbebaaGreatDoor
open Go.RowKit Go.ChangeShapes Go.WideShapes
theorem bats_of_trod {H : Type} {enc : TypeId × Value → H} {w : World} {base : Nat} {spare : Nat → Bool} {held : Bool} {k : Nat} {v : Value} {y : DataW H × List MemPlace}
    (h : DataW.trod enc Tryz.prog w base spare held k 22 [v] = some y) : ∃ xs, RBats 0 w v xs := by
  rcases Go.Deep.open_slice_pairs Tryz.underlying22 Tryz.underlying55 (by kernel_rfl) rfl rfl (by kernel_rfl) (by kernel_rfl) h with ⟨hcs, _⟩ | ⟨a, len, cap, m, n, V0, V1, D0, D1, P0, P1, hcs, _, hl, hm, hmm, _, hx⟩
  · obtain rfl : v = .slice none 0 0 := by simpa using hcs
    exact ⟨[], none, 0, rfl, Nat.le_refl _, Nat.zero_le _, fun h0 => absurd h0 (Nat.lt_irrefl 0)⟩
  · obtain rfl : v = .slice (some a) len cap := by simpa using hcs
    have hll : len ≤ m := by rw [hmm]; split <;> omega
    obtain ⟨F, hF⟩ := Go.Deep.choose_lt (α := Bat) (n := len) (p := fun i z => V0 i = .string z.1 ∧ z.1.size ≤ maxLen ∧ RMsgs 0 w (V1 i) z.2) (fun i hi => by
      obtain ⟨_, _, t0, t1⟩ := hx i (by omega)
      obtain ⟨s, e0, _, hs⟩ := DataW.trod_string Tryz.underlying9 t0
      obtain ⟨x, hx⟩ := msgs_of_trod t1
      exact ⟨(s, x), by simpa using e0, hs, hx⟩)
    refine ⟨(List.range len).map F, some a, cap, by simp, by simpa using hl, hm, fun h0 => ?_⟩
    have h0' : 0 < len := by simpa using h0
    have ha := spot_none (w := w) (a := a) (v := V0 0) (by simpa using (hx 0 (by omega)).1)
    refine ⟨a.block, a.off, by rw [← ha], ?_, Nat.zero_le _, fun i hi => ?_⟩
    · have := World.block_lt_of_cell? w _ (hx 0 (by omega)).1
      simpa [Addr.add] using this
    · have hi' : i < len := by simpa using hi
      obtain ⟨z0, z1, _, _⟩ := hx i (by omega)
      obtain ⟨e0, e1, e2⟩ := hF i hi'
      rw [ha, Addr.add_lit] at z0 z1
      simp only [List.getElem_map, List.getElem_range]
      exact ⟨by rw [z0, e0], e1, V1 i, by rw [Nat.add_assoc]; exact z1, e2⟩
set_option maxRecDepth 100000 in
theorem file_open {H : Type} {enc : TypeId × Value → H} {w : World} {base b0 : Nat} {spare : Nat → Bool} {held : Bool} {r : Reach} {v : Value} {d : DataW H} {p : List MemPlace}
    (hv : Value.okWide Tryz.prog w r b0 24 v) (h : DataW.Trod enc Tryz.prog w base spare held 24 v d p) : ∃ u x, (∃ n : ByteArray, v = .agg #[.string n, u] ∧ n.size ≤ maxLen) ∧ RBats 0 w u x := by
  obtain ⟨v0, v1, y0, y1, k, rfl, _, _, t0, t1⟩ := Joins.open_agg2 Tryz.underlying24 (by kernel_rfl) (by kernel_rfl) hv h
  obtain ⟨s, e0, _, hs⟩ := DataW.trod_string Tryz.underlying9 t0
  obtain rfl : v0 = .string s := by simpa using e0
  obtain ⟨x, hx⟩ := bats_of_trod t1
  exact ⟨v1, x, ⟨s, rfl, hs⟩, hx⟩
end Go.Proofs.YtolgjdnhhbbebaaGreatDoor
