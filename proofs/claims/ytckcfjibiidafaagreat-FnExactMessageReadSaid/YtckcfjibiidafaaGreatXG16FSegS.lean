/- The laws' own helpers over a Segment: how much it takes, a copy, are two alike. -/
import Derived.Test.YtckcfjibiidafaaGreatXG15FNestE
import Derived.Deep.RegionHeld3
namespace Go.Proofs.YtckcfjibiidafaaGreat
open Go.RowKit
abbrev RFlds (B : Nat) : World → Value → List (List (List (List ByteArray))) → Prop := RL B (RFld B)
theorem RFlds.mono {B B' : Nat} {w : World} {v : Value} {x : List (List (List (List ByteArray)))} (h : RFlds B w v x) (hB : B' ≤ B) : RFlds B' w v x := RL.mono h hB fun _ _ h => RFld.mono h hB

set_option maxHeartbeats 1000000 in
theorem eqSegment_same (n : ByteArray) (u u' : Value) (x : List (List (List (List ByteArray)))) (B B' : Nat) (w : World) (hn : wFlds x ≤ 1048576) (hr : RFlds B w u x) (hr' : RFlds B' w u' x) :
    Calls Tryz.prog 36 #[.agg #[.string n, u], .agg #[.string n, u']] w fun e w' => e = .returned (.bool true) ∧ Below w.heap.size w w' := by
  have HR := hide hr
  have HR' := hide hr'
  obtain ⟨p, c, rfl⟩ := hr.isSlice
  obtain ⟨p', c', rfl⟩ := hr'.isSlice
  clear hr hr'
  have HB0 := hide (((Below.refl w.heap.size w).alloc (Nat.le_refl _) (.cells #[.string n, .slice p x.length c] 41)).alloc (by simp) (.cells #[.string n, .slice p' x.length c'] 41))
  go_enter Tryz.func36, Tryz.ntmps36
  go_wp2_with fail
  refine (eqFieldS_same _ _ x B B' _ hn (HR.out.below HB0.out) (HR'.out.below HB0.out)).mono ?_
  rintro e w1 ⟨rfl, hb1⟩
  have HB := hide (HB0.out.trans (hb1.mono (by simp; omega)))
  clear hb1
  go_wp2
  go_ret
  exact ⟨rfl, HB.out⟩
end Go.Proofs.YtckcfjibiidafaaGreat
/- Lists of Segments in memory; the laws' own helpers over them and over a Message. -/
namespace Go.Proofs.YtckcfjibiidafaaGreat
open Go.RowKit
abbrev Seg := ByteArray × List (List (List (List ByteArray)))
/-- The slice v reads as Segments; its cells lie in a block from B on. -/
def RSegs (B : Nat) (w : World) (v : Value) (xs : List Seg) : Prop :=
  ∃ p cap, v = .slice p xs.length cap ∧ xs.length ≤ cap ∧ cap ≤ maxLen ∧
    (0 < xs.length → ∃ g off, p = some ⟨g, off, none⟩ ∧ g < w.heap.size ∧ B ≤ g ∧ ∀ i (h : i < xs.length), w.cell? ⟨g, off + i * 2, none⟩ = some (.string xs[i].1) ∧ xs[i].1.size ≤ maxLen ∧ ∃ u, w.cell? ⟨g, off + i * 2 + 1, none⟩ = some u ∧ RFlds B w u xs[i].2)
theorem RSegs.same {B : Nat} {w w' : World} {v : Value} {xs : List Seg} (h : RSegs B w v xs) (hs : Same B w w') : RSegs B w' v xs := by
  obtain ⟨p, cap, rfl, h1, h2, h4⟩ := h
  refine ⟨p, cap, rfl, h1, h2, fun h0 => ?_⟩
  obtain ⟨g, off, rfl, hg, hB, hc⟩ := h4 h0
  refine ⟨g, off, rfl, Nat.lt_of_lt_of_le hg hs.size, hB, fun i hi => ?_⟩
  obtain ⟨a, b, u, hu, hR⟩ := hc i hi
  exact ⟨by rw [hs.cell hB hg]; exact a, b, u, by rw [hs.cell hB hg]; exact hu, Lasts.go hs hR⟩
theorem RSegs.below {B : Nat} {w w' : World} {v : Value} {xs : List Seg} (h : RSegs B w v xs) (hb : Below w.heap.size w w') : RSegs B w' v xs := h.same (Same.of hb)
theorem RSegs.mono {B B' : Nat} {w : World} {v : Value} {xs : List Seg} (h : RSegs B w v xs) (hB : B' ≤ B) : RSegs B' w v xs := by
  obtain ⟨p, cap, rfl, h1, h2, h4⟩ := h
  refine ⟨p, cap, rfl, h1, h2, fun h0 => ?_⟩
  obtain ⟨g, off, rfl, hg, hB2, hc⟩ := h4 h0
  refine ⟨g, off, rfl, hg, Nat.le_trans hB hB2, fun i hi => ?_⟩
  obtain ⟨a, b, u, hu, hR⟩ := hc i hi
  exact ⟨a, b, u, hu, RFlds.mono hR hB⟩
theorem RSegs.isSlice {B : Nat} {w : World} {v : Value} {xs : List Seg} (h : RSegs B w v xs) : ∃ p c, v = .slice p xs.length c := by
  obtain ⟨p, c, e, _⟩ := h
  exact ⟨p, c, e⟩
def wSeg (x : Seg) : Nat := x.1.size + wFlds x.2
def wSegs : List Seg → Nat := wL wSeg

theorem wSegs_mem {xs : List Seg} {N : Nat} (h : wSegs xs ≤ N) : xs.length ≤ N ∧ ∀ i (hi : i < xs.length), wFlds xs[i].2 ≤ N ∧ xs[i].1.size ≤ N := by
  refine ⟨Nat.le_trans (wL_len _ xs) h, fun i hi => ?_⟩
  have h1 := wL_mem wSeg (List.getElem_mem hi)
  have h0 : wL wSeg xs ≤ N := h
  have h2 : wSeg xs[i] = xs[i].1.size + wFlds xs[i].2 := rfl
  omega

theorem Tryz.infoSegment : (Tryz.prog.info? 41).map (fun i => (i.zero, i.size, i.bytes)) = some (some (.agg #[.string ⟨#[]⟩, .slice none 0 0]), 2, 40) := by kernel_rfl
end Go.Proofs.YtckcfjibiidafaaGreat
