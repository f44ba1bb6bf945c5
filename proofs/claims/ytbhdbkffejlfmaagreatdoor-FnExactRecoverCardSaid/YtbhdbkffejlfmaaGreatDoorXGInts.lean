/- The laws' own helpers over lists of numbers. -/
import Derived.Test.YtbhdbkffejlfmaaGreatDoorXGSCrash
import Derived.Test.YtbhdbkffejlfmaaGreatDoorXGSCopy
import Derived.Test.YtbhdbkffejlfmaaGreatDoorXGOpen
import Derived.ChangeSlices
namespace Go.Proofs.YtbhdbkffejlfmaaGreatDoor
open Go.RowKit Go.ChangeShapes Go.WideShapes

def intc (ks : List Int) : List Value := ks.map (Value.int .i64)
theorem intc_len (ks : List Int) : (intc ks).length = ks.length := by simp [intc]
theorem Row.readsI {w : World} {g : Nat} {T : TypeId} {ks : List Int} (h : Row w g T (intc ks)) (hm : ks.length ≤ maxLen) : ReadsI w (.slice (Option.some ⟨g, 0, none⟩) ks.length ks.length) ks :=
  ⟨_, _, rfl, Nat.le_refl _, hm, fun _ => ⟨g, 0, rfl, h.lt, fun i hi => by rw [Nat.zero_add, h.at i (by rw [intc_len]; exact hi)]; simp [intc]⟩⟩
theorem set_nextI (ks : List Int) (Z : List Value) (k : Nat) (h : k < ks.length) (hZ : Z.length = ks.length) :
    (intc (ks.take k) ++ Z.drop k).set k (.int .i64 ks[k]) = intc (ks.take (k + 1)) ++ Z.drop (k + 1) := by
  have hl : (intc (ks.take k)).length = k := by rw [intc_len, List.length_take]; omega
  rw [List.set_append_right _ _ (by omega), hl, Nat.sub_self, List.drop_eq_getElem_cons (by omega : k < Z.length), List.set_cons_zero, List.take_succ_eq_append_getElem h]
  unfold intc
  rw [List.map_append, List.append_assoc]
  rfl
theorem len_nextI (ks : List Int) (Z : List Value) (k : Nat) (h : k ≤ ks.length) (hZ : Z.length = ks.length) : (intc (ks.take k) ++ Z.drop k).length = ks.length := by
  rw [List.length_append, intc_len, List.length_take, List.length_drop]; omega
instance stab_readsI (v : Value) (ks : List Int) : Stab (fun w => ReadsI w v ks) := ⟨fun hb h => h.below hb (Nat.le_refl _)⟩
theorem ReadsI.isIn {w : World} {v : Value} {ks : List Int} (h : ReadsI w v ks) : In v 0 w.heap.size := fun x hx => ⟨Nat.zero_le _, h.leads x hx⟩
theorem Tryz.infoInt : (Tryz.prog.info? 2).map (fun i => (i.zero, i.size, i.bytes)) = some (some (.int .i64 0), 1, 8) := by kernel_rfl

set_option maxHeartbeats 1000000 in
theorem toInt64S_any (v : Value) (ks : List Int) (w : World) (hn : ks.length ≤ 1048576) (hr : ReadsI w v ks) :
    Calls Tryz.prog 18 #[v] w fun e w' => e = .returned (.slice (some ⟨w.heap.size, 0, none⟩) ks.length ks.length) ∧ Row w' w.heap.size 2 (intc ks) ∧ Below w.heap.size w w' := by
  obtain ⟨i0, hi, hz0, hz1, hz2⟩ := info_parts Tryz.infoInt
  obtain ⟨p, cap, rfl, h1, h2, h4⟩ := hr
  have H4 := hide h4
  clear h4
  go_enter Tryz.func18, Tryz.ntmps18
  go_wp2_with (at_make; refine wpList_make_full _ rfl _ _ 41 rfl w.heap.size 2 i0 (.int .i64 0) 1 Tryz.underlying41 hi hz0 hz1 _ _ _ _ ks.length rfl rfl rfl rfl ?b2 ?b3 (Nat.le_refl _) ?_)
  case b2 => rw [hz2]; omega
  case b3 => unfold maxLen; omega
  intro w1 hown hgrow
  obtain ⟨Z, hZ, hZl⟩ := own_row hown
  rw [Nat.mul_one] at hZl
  have hb1 : Below w.heap.size w w1 := (Below.refl _ _).grown hgrow (Nat.le_refl _) (by simp)
  have HZ := hide hZ
  have HB := hide hb1
  have HL := hide hZl
  clear hZ hown hgrow hb1 hZl
  go_wp2_with fail
  go_loopw [4] (fun i wr => ∃ k : Nat, k ≤ ks.length ∧ i = .int .i64 k ∧ Hid (Row wr w.heap.size 2 (intc (ks.take k) ++ Z.drop k)) ∧ Hid (Below w.heap.size w wr)) (fun i _ => ks.length - (intOf i).toNat)
  case atStart => exact ⟨0, Nat.zero_le _, rfl, HZ.out, HB⟩
  case round =>
    obtain ⟨k, hk, rfl, HRow, HBel⟩ := hrel
    by_cases hlt : k < ks.length
    · obtain ⟨g, off, hp, hg, hc⟩ := H4.out (by omega)
      subst hp
      have hck : wr.cell? ⟨g, off + k, none⟩ = some (.int .i64 (ks[k]'hlt)) := by rw [HBel.out.cell (p := ⟨g, off + k, none⟩) hg]; exact hc k hlt
      obtain ⟨u, hu⟩ := HRow.out.some k (by rw [len_nextI ks Z k hk HL.out]; exact hlt)
      have hf := HRow.out.free k
      have hnext := HRow.out.set (j := k) (.int .i64 (ks[k]'hlt))
      rw [set_nextI ks Z k hlt HL.out] at hnext
      obtain ⟨D, hD⟩ : ∃ D, D = ks[k]'hlt := ⟨_, rfl⟩
      rw [← hD] at hnext hck
      have HN := hide hnext
      have HM := hide (HBel.out.setCell (p := ⟨w.heap.size, k, none⟩) (Nat.le_refl _) (.int .i64 D))
      clear hnext hc hD
      go_wp2
      go_roundw
      case rel => exact ⟨k + 1, by omega, by go_num, HN, HM⟩
      case measure => simp [intOf]; omega
    · have HE : Hid (Row wr w.heap.size 2 (intc ks)) := by
        have := HRow.out
        rw [List.take_of_length_le (by omega), List.drop_eq_nil_of_le (by rw [HL.out]; omega), List.append_nil] at this
        exact this
      go_wp2
      go_ret
      exact ⟨rfl, HE.out, HBel.out⟩

set_option maxHeartbeats 1000000 in
theorem eqInt64S_same (v v' : Value) (ks : List Int) (w : World) (hn : ks.length ≤ 1048576) (hr : ReadsI w v ks) (hr' : ReadsI w v' ks) :
    Calls Tryz.prog 20 #[v, v'] w fun e w' => e = .returned (.bool true) ∧ Below w.heap.size w w' := by
  obtain ⟨p, cap, rfl, h1, h2, h4⟩ := hr
  obtain ⟨p', cap', rfl, h1', h2', h4'⟩ := hr'
  have H4 := hide h4
  have H4' := hide h4'
  clear h4 h4'
  unfold maxLen at h2 h2'
  by_cases hx : ks.length = 0
  · have hxs : ks = [] := List.eq_nil_of_length_eq_zero hx
    subst hxs
    go_enter Tryz.func20, Tryz.ntmps20
    go_wp2
    refine wp_loop_rounds 1 ?_
    rw [rounds_succ]
    go_wp2
    go_ret
    exact ⟨rfl, Below.refl _ _⟩
  obtain ⟨g, off, hp, hg, hc⟩ := H4.out (by omega)
  obtain ⟨g', off', hp', hg', hc'⟩ := H4'.out (by omega)
  subst hp hp'
  have HC := hide hc
  have HC' := hide hc'
  clear hc hc'
  go_enter Tryz.func20, Tryz.ntmps20
  go_wp2
  go_loopw [5] (fun i wr => ∃ k : Nat, k ≤ ks.length ∧ i = .int .i64 k ∧ Hid (Below w.heap.size w wr)) (fun i _ => ks.length - (intOf i).toNat)
  case atStart => exact ⟨0, Nat.zero_le _, rfl, Below.refl _ _⟩
  case round =>
    obtain ⟨k, hk, rfl, HBel⟩ := hrel
    by_cases hlt : k < ks.length
    · have hck : wr.cell? ⟨g, off + k, none⟩ = some (.int .i64 (ks[k]'hlt)) := by rw [HBel.out.cell (p := ⟨g, off + k, none⟩) hg]; exact HC.out k hlt
      have hck' : wr.cell? ⟨g', off' + k, none⟩ = some (.int .i64 (ks[k]'hlt)) := by rw [HBel.out.cell (p := ⟨g', off' + k, none⟩) hg']; exact HC'.out k hlt
      obtain ⟨D, hD⟩ : ∃ D, D = ks[k]'hlt := ⟨_, rfl⟩
      rw [← hD] at hck hck'
      have hki : (k : Int) < (ks.length : Int) := by omega
      have HM := hide (HBel.out.drew)
      clear hD
      go_wp2
      go_region
      all_goals
        go_wp2
        go_roundw
        case rel => exact ⟨k + 1, by omega, by go_num, HM⟩
        case measure => simp [intOf]; omega
    · go_wp2
      go_ret
      exact ⟨rfl, HBel.out⟩

set_option maxHeartbeats 1000000 in
theorem markInt64S_own (g : Nat) (ks : List Int) (k : Nat) (w : World) (hn : ks.length ≤ 1048576) (hk : k ≤ 10000000) (hr : Row w g 2 (intc ks)) :
    Calls Tryz.prog 21 #[.slice (some ⟨g, 0, none⟩) ks.length ks.length, .int .i64 (k : Int)] w fun e w' => e = .returned (.int .i64 ((k + ks.length : Nat) : Int)) ∧ Kept [g] w w' := by
  have HR := hide hr
  clear hr
  go_enter Tryz.func21, Tryz.ntmps21
  go_wp2
  go_loopw [1, 5] (fun x i wr => ∃ (j : Nat) (cs : List Value), j ≤ ks.length ∧ i = .int .i64 j ∧ x = .int .i64 ((k + j : Nat) : Int) ∧ cs.length = ks.length ∧ Hid (Row wr g 2 cs) ∧ Hid (Kept [g] w wr)) (fun _ i _ => ks.length - (intOf i).toNat)
  case atStart => exact ⟨0, intc ks, Nat.zero_le _, rfl, rfl, intc_len ks, HR, Kept.refl _ _⟩
  case round =>
    obtain ⟨j, cs, hj, rfl, rfl, hl, HRow, HK⟩ := hrel
    by_cases hlt : j < ks.length
    · obtain ⟨u, hu⟩ := HRow.out.some j (by omega)
      have hf := HRow.out.free j
      have hki : (j : Int) < (ks.length : Int) := by omega
      have HN := hide (HRow.out.set (j := j) (.int .i64 ((k + j : Nat) : Int)))
      have HM := hide (HK.out.set (G := g) (j := j) (by simp) (.int .i64 ((k + j : Nat) : Int)))
      obtain ⟨V, hV⟩ : ∃ V : Int, V = ((k + j : Nat) : Int) := ⟨_, rfl⟩
      have HV := hide hV
      rw [← hV] at HN HM ⊢
      have b1 : 0 ≤ V := by omega
      have b2 : V ≤ 20000000 := by omega
      clear hV
      go_wp2
      go_roundw
      case rel => exact ⟨j + 1, _, by omega, by go_num, by rw [HV.out]; go_num, by simp [hl], HN, HM⟩
      case measure => simp [intOf]; omega
    · have e : j = ks.length := by omega
      subst e
      go_wp2
      go_ret
      exact ⟨rfl, HK.out⟩
theorem readsI_of_trod {H : Type} {enc : TypeId × Value → H} {P : Program} {w : World} {base : Nat} {spare : Nat → Bool} {held : Bool} {t e : TypeId} {fuel : Nat} {v : Value} {x : DataW H × List MemPlace}
    (ht : P.underlying t = some (.slice e)) (he : P.underlying e = some (.int .i64)) (hc : P.cellsOf e = 1) (h : DataW.trod enc P w base spare held fuel t [v] = some x) : ∃ ks, ReadsI w v ks := by
  rcases open_ints ht he hc h with ⟨hcs, _⟩ | ⟨a, len, cap, ss, hcs, _, hl, hm, hlen, _, hcell, hsz⟩
  · obtain rfl : v = .slice none 0 0 := by simpa using hcs
    exact ⟨[], none, 0, rfl, Nat.le_refl _, Nat.zero_le _, fun h0 => absurd h0 (Nat.lt_irrefl 0)⟩
  · obtain rfl : v = .slice (some a) len cap := by simpa using hcs
    have hll : len ≤ ss.length := by rw [hlen]; split <;> omega
    have hL : (ss.take len).length = len := by rw [List.length_take]; omega
    refine ⟨ss.take len, some a, cap, by rw [hL], by omega, hm, fun h0 => ?_⟩
    have ha := spot_none (hcell 0 (by omega))
    refine ⟨a.block, a.off, by rw [← ha], ?_, fun i hi => ?_⟩
    · have := World.block_lt_of_cell? w _ (hcell 0 (by omega))
      simpa [Addr.add] using this
    · have := hcell i (by omega)
      rw [ha, Addr.add_lit] at this
      rw [this, List.getElem_take, List.getD_eq_getElem?_getD, List.getElem?_eq_getElem (by omega)]
      rfl
end Go.Proofs.YtbhdbkffejlfmaaGreatDoor
