/- The laws' own helpers over a Message. -/
import Derived.Test.YtckcfjibiidafaaGreatXG16FSegS
import Derived.Test.YtckcfjibiidafaaGreatXG13OTree
import Derived.Test.YtckcfjibiidafaaGreatXG14FNestS
namespace Go.Proofs.YtckcfjibiidafaaGreat
open Go.RowKit
set_option maxHeartbeats 2000000 in
theorem eqSegmentS_same (v v' : Value) (xs : List Seg) (B B' : Nat) (w : World) (hn : wSegs xs ≤ 1048576) (hr : RSegs B w v xs) (hr' : RSegs B' w v' xs) :
    Calls Tryz.prog 22 #[v, v'] w fun e w' => e = .returned (.bool true) ∧ Below w.heap.size w w' := by
  obtain ⟨hl, hm⟩ := wSegs_mem hn
  have HM := hide hm
  clear hn hm
  obtain ⟨p, cap, rfl, h1, h2, h4⟩ := hr
  obtain ⟨p', cap', rfl, h1', h2', h4'⟩ := hr'
  have H4 := hide h4
  have H4' := hide h4'
  clear h4 h4'
  unfold maxLen at h2 h2'
  by_cases hx : xs.length = 0
  · have hxs : xs = [] := List.eq_nil_of_length_eq_zero hx
    subst hxs
    go_enter Tryz.func22, Tryz.ntmps22
    go_wp2
    refine wp_loop_rounds 1 ?_
    rw [rounds_succ]
    go_wp2
    go_ret
    exact ⟨rfl, Below.refl _ _⟩
  obtain ⟨g, off, hp, hg, _, hc⟩ := H4.out (by omega)
  obtain ⟨g', off', hp', hg', _, hc'⟩ := H4'.out (by omega)
  subst hp hp'
  have HC := hide hc
  have HC' := hide hc'
  clear hc hc'
  go_enter Tryz.func22, Tryz.ntmps22
  go_wp2
  go_loopw [5] (fun i wr => ∃ (X : World) (k : Nat), X = wr ∧ k ≤ xs.length ∧ i = .int .i64 k ∧ Hid (Below w.heap.size w X)) (fun i _ => xs.length - (intOf i).toNat)
  case atStart => exact ⟨_, 0, rfl, Nat.zero_le _, rfl, Below.refl _ _⟩
  case round =>
    obtain ⟨X, k, rfl, hk, rfl, HBel⟩ := hrel
    by_cases hlt : k < xs.length
    · obtain ⟨ha, hns, u, hu, hru⟩ := HC.out k hlt
      obtain ⟨ha', _, u', hu', hru'⟩ := HC'.out k hlt
      have HU := hide hru
      have HU' := hide hru'
      obtain ⟨up, uc, rfl⟩ := hru.isSlice
      obtain ⟨up', uc', rfl⟩ := hru'.isSlice
      have hki : (k : Int) < (xs.length : Int) := by omega
      have HS := hide (show ∀ x, Below X.heap.size X x → x.cell? ⟨g, off + k * 2, none⟩ = some (.string (xs[k]'hlt).1) ∧ x.cell? ⟨g, off + k * 2 + 1, none⟩ = some (.slice up (xs[k]'hlt).2.length uc) ∧ x.cell? ⟨g', off' + k * 2, none⟩ = some (.string (xs[k]'hlt).1) ∧ x.cell? ⟨g', off' + k * 2 + 1, none⟩ = some (.slice up' (xs[k]'hlt).2.length uc') ∧ Below X.heap.size X x from
        fun x h => by
          have hb := HBel.out.trans (h.mono HBel.out.size)
          exact ⟨(hb.cell (p := ⟨g, off + k * 2, none⟩) hg).trans ha, (hb.cell (p := ⟨g, off + k * 2 + 1, none⟩) hg).trans hu, (hb.cell (p := ⟨g', off' + k * 2, none⟩) hg').trans ha', (hb.cell (p := ⟨g', off' + k * 2 + 1, none⟩) hg').trans hu', h⟩)
      clear hu hu' hru hru' ha ha' hns
      go_wp2_with fail
      go_region_held3 (fun x => x.cell? ⟨g, off + k * 2, none⟩ = some (.string (xs[k]'hlt).1) ∧ x.cell? ⟨g, off + k * 2 + 1, none⟩ = some (.slice up (xs[k]'hlt).2.length uc) ∧ x.cell? ⟨g', off' + k * 2, none⟩ = some (.string (xs[k]'hlt).1) ∧ x.cell? ⟨g', off' + k * 2 + 1, none⟩ = some (.slice up' (xs[k]'hlt).2.length uc') ∧ Below X.heap.size X x)
        ((go_split_ands; refine HS.out _ ?_; repeat (first | with_reducible assumption | with_reducible exact Below.refl _ _ | with_reducible refine Below.drew ?_)))
        ((go_at_call 36; go_split_ands; refine (eqSegment_same (xs[k]'hlt).1 _ _ (xs[k]'hlt).2 B B' _ (HM.out k hlt).1 (Lasts.go (B := B) (Same.of (HBel.out.trans (Below.mono (by assumption) HBel.out.size))) HU.out) (Lasts.go (B := B') (Same.of (HBel.out.trans (Below.mono (by assumption) HBel.out.size))) HU'.out)).mono ?_; rintro e w3 ⟨rfl, hb3⟩; have hB3 : Below X.heap.size X w3 := Below.trans (by assumption) (hb3.mono (Below.size (by assumption))); clear hb3))
      all_goals
        have HB3 := hide (HBel.out.trans (hB3.mono HBel.out.size))
        clear hB3
        go_wp2
        go_roundw
        case rel => exact ⟨_, k + 1, rfl, by omega, by go_num, HB3⟩
        case measure => simp [intOf]; omega
    · go_wp2
      go_ret
      exact ⟨rfl, HBel.out⟩
set_option maxHeartbeats 1000000 in
theorem eqMessage_same (n : ByteArray) (u u' : Value) (x : List Seg) (B B' : Nat) (w : World) (hn : wSegs x ≤ 1048576) (hr : RSegs B w u x) (hr' : RSegs B' w u' x) :
    Calls Tryz.prog 12 #[.agg #[.string n, u], .agg #[.string n, u']] w fun e w' => e = .returned (.bool true) ∧ Below w.heap.size w w' := by
  have HR := hide hr
  have HR' := hide hr'
  obtain ⟨p, c, rfl⟩ := hr.isSlice
  obtain ⟨p', c', rfl⟩ := hr'.isSlice
  clear hr hr'
  have HB0 := hide (((Below.refl w.heap.size w).alloc (Nat.le_refl _) (.cells #[.string n, .slice p x.length c] 24)).alloc (by simp) (.cells #[.string n, .slice p' x.length c'] 24))
  go_enter Tryz.func12, Tryz.ntmps12
  go_wp2_with fail
  refine (eqSegmentS_same _ _ x B B' _ hn (HR.out.below HB0.out) (HR'.out.below HB0.out)).mono ?_
  rintro e w1 ⟨rfl, hb1⟩
  have HB := hide (HB0.out.trans (hb1.mono (by simp; omega)))
  clear hb1
  go_wp2
  go_ret
  exact ⟨rfl, HB.out⟩
end Go.Proofs.YtckcfjibiidafaaGreat
/- The laws' own copies of a Field and of a Message, each list in a row of its own. -/
namespace Go.Proofs.YtckcfjibiidafaaGreat
open Go.RowKit
theorem SameIn.set {lo hi g j : Nat} (w : World) (v : Value) (h : g < lo) : SameIn lo hi w (w.setCell ⟨g, j, none⟩ v) := fun k hk _ _ => Below.heap_setCell w ⟨g, j, none⟩ v k (by show k ≠ g; omega)
end Go.Proofs.YtckcfjibiidafaaGreat
