/- A Field that comes in, read as lists of lists of lists of texts. -/
import Derived.Test.YtolgjdnhhbbebaaGreatDoorRows
import Derived.Test.YtolgjdnhhbbebaaGreatDoorXGMem
import Derived.Test.YtolgjdnhhbbebaaGreatDoorXGOpen
namespace Go.Proofs.YtolgjdnhhbbebaaGreatDoor
open Go.RowKit Go.ChangeShapes Go.WideShapes

theorem rl_of_trod {α : Type} [Inhabited α] {R : World → Value → α → Prop} {H : Type} {enc : TypeId × Value → H} {P : Program} {w : World} {base : Nat} {spare : Nat → Bool} {held : Bool} {t e : TypeId} {fuel : Nat} {v : Value} {x : DataW H × List MemPlace}
    (ht : P.underlying t = some (.slice e)) (hc : P.cellsOf e = 1) (hE : ∀ n u y, DataW.trod enc P w base spare held n e [u] = some y → ∃ a, R w u a)
    (h : DataW.trod enc P w base spare held fuel t [v] = some x) : ∃ xs, RL 0 R w v xs := by
  rcases Go.Deep.open_slice1 ht hc h with ⟨hcs, _⟩ | ⟨a, len, cap, m, n, V, D, Pl, hcs, _, hl, hm, hmm, _, hx⟩
  · obtain rfl : v = .slice none 0 0 := by simpa using hcs
    exact ⟨[], none, 0, rfl, Nat.le_refl _, Nat.zero_le _, fun h0 => absurd h0 (Nat.lt_irrefl 0)⟩
  · obtain rfl : v = .slice (some a) len cap := by simpa using hcs
    have hll : len ≤ m := by rw [hmm]; split <;> omega
    obtain ⟨F, hF⟩ := Go.Deep.choose_lt (n := len) (p := fun i y => R w (V i) y) (fun i hi => hE _ _ _ (hx i (by omega)).2)
    refine ⟨(List.range len).map F, some a, cap, by simp, by simpa using hl, hm, fun h0 => ?_⟩
    have h0' : 0 < len := by simpa using h0
    have ha := spot_none (w := w) (a := a) (v := V 0) (hx 0 (by omega)).1
    refine ⟨a.block, a.off, by rw [← ha], ?_, Nat.zero_le _, fun i hi => ?_⟩
    · have := World.block_lt_of_cell? w _ (hx 0 (by omega)).1
      simpa [Addr.add] using this
    · have hi' : i < len := by simpa using hi
      have hcell := (hx i (by omega)).1
      rw [ha, Addr.add_lit] at hcell
      exact ⟨V i, hcell, by simpa using hF i hi'⟩
theorem one_of_trod {H : Type} {enc : TypeId × Value → H} {P : Program} {w : World} {base : Nat} {spare : Nat → Bool} {held : Bool} {e : TypeId} {f0 : Field} {n : Nat} {u : Value} {y : DataW H × List MemPlace}
    (he : P.underlying e = some (.struct #[f0])) (o0 : f0.offset = 0) (c0 : P.cellsOf f0.type = 1) (h : DataW.trod enc P w base spare held n e [u] = some y) : ∃ k z, DataW.trod enc P w base spare held k f0.type [u] = some z := by
  obtain ⟨xs, k, _, _, _, hxl, hf⟩ := DataW.trod_struct he h
  have g0 := hf 0 f0 rfl
  simp [o0, c0] at g0
  match xs, hxl with
  | [z], _ => exact ⟨k, z, by simpa using g0⟩

instance : Inhabited ByteArray := ⟨⟨#[]⟩⟩
theorem comp_of_trod {H : Type} {enc : TypeId × Value → H} {w : World} {base : Nat} {spare : Nat → Bool} {held : Bool} {n : Nat} {u : Value} {y : DataW H × List MemPlace}
    (h : DataW.trod enc Tryz.prog w base spare held n 188 [u] = some y) : ∃ a, RComp 0 w u a := by
  obtain ⟨k, z, h1⟩ := one_of_trod Tryz.underlying188 rfl (by kernel_rfl) h
  obtain ⟨xs, hx⟩ := reads_of_trod Tryz.underlying46 Tryz.underlying9 (by kernel_rfl) h1
  exact ⟨xs, comp_of_reads hx⟩
theorem rep_of_trod {H : Type} {enc : TypeId × Value → H} {w : World} {base : Nat} {spare : Nat → Bool} {held : Bool} {n : Nat} {u : Value} {y : DataW H × List MemPlace}
    (h : DataW.trod enc Tryz.prog w base spare held n 181 [u] = some y) : ∃ a, RRep 0 w u a := by
  obtain ⟨k, z, h1⟩ := one_of_trod Tryz.underlying181 rfl (by kernel_rfl) h
  exact rl_of_trod Tryz.underlying179 (by kernel_rfl) (fun n u y h => comp_of_trod h) h1
theorem fld_of_trod {H : Type} {enc : TypeId × Value → H} {w : World} {base : Nat} {spare : Nat → Bool} {held : Bool} {n : Nat} {u : Value} {y : DataW H × List MemPlace}
    (h : DataW.trod enc Tryz.prog w base spare held n 169 [u] = some y) : ∃ a, RFld 0 w u a := by
  obtain ⟨k, z, h1⟩ := one_of_trod Tryz.underlying169 rfl (by kernel_rfl) h
  exact rl_of_trod Tryz.underlying167 (by kernel_rfl) (fun n u y h => rep_of_trod h) h1
set_option maxRecDepth 100000 in
theorem field_open {H : Type} {enc : TypeId × Value → H} {w : World} {base b0 : Nat} {spare : Nat → Bool} {held : Bool} {r : Reach} {v : Value} {d : DataW H} {p : List MemPlace}
    (hv : Value.okWide Tryz.prog w r b0 169 v) (h : DataW.Trod enc Tryz.prog w base spare held 169 v d p) : ∃ u x, v = .agg #[u] ∧ RFld 0 w u x := by
  obtain ⟨cs, rfl, hsz⟩ := okWide_struct Tryz.underlying169 hv
  have hC : Tryz.prog.cellsOf 169 = 1 := by kernel_rfl
  rw [hC] at hsz
  obtain ⟨c0, rfl⟩ : ∃ c0, cs = #[c0] := by
    obtain ⟨l⟩ := cs
    match l, hsz with
    | [c], _ => exact ⟨c, rfl⟩
  obtain ⟨fuel, hf⟩ := h
  have hf' : DataW.trod enc Tryz.prog w base spare held fuel 169 [c0] = some (d, p) := by simpa [Value.cells] using hf
  obtain ⟨x, hx⟩ := fld_of_trod hf'
  exact ⟨c0, x, rfl, hx⟩
end Go.Proofs.YtolgjdnhhbbebaaGreatDoor
