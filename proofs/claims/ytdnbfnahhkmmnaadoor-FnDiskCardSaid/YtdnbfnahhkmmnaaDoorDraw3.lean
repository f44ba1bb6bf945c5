/- Draws: the source itself; which of what is pending is kept. -/
import Derived.Test.YtdnbfnahhkmmnaaDoorDraw2
import Derived.Test.YtdnbfnahhkmmnaaDoorSCrash
namespace Go.Proofs.YtdnbfnahhkmmnaaDoor
open Go.RowKit

set_option maxHeartbeats 4000000 in
theorem source_any (v : Value) (bs : List Int) (w : World) (h : ReadsB w v bs) (hl : bs.length ≤ 1048576) :
    Calls Tryd.prog 22 #[v] w fun e w' => e = .returned (.pointer (some ⟨w.heap.size, 0, none⟩)) ∧ Src v bs w.heap.size w' ∧ Below w.heap.size w w' := by
  have HV := hide (h.below (below_new w (.cells #[v, .int .i64 0, .int .u64 88172645463325252, .int .i64 0] 74)) (Nat.le_refl _))
  have HGL := hide (show w.heap.size ∉ leads v from fun hm => Nat.lt_irrefl _ (h.leads _ hm))
  have HR0 := hide (row_new w [v, .int .i64 0, .int .u64 88172645463325252, .int .i64 0] 74)
  obtain ⟨p, cap, rfl, h1, h2, h3, h4⟩ := h
  have H3 := hide h3
  clear h3 h4
  obtain ⟨W0, hW0⟩ : ∃ W, W = w.alloc (.cells #[.slice p bs.length cap, .int .i64 0, .int .u64 88172645463325252, .int .i64 0] 74) := ⟨_, rfl⟩
  have HB0 := hide (show Below w.heap.size w W0 by rw [hW0]; exact below_new _ _)
  rw [← hW0] at HV HR0
  have HW := hide hW0
  clear hW0
  go_enter Tryd.func22, Tryd.ntmps22
  go_wp2_with fail
  rw [← HW.out]
  clear HW
  go_loopw [4] (fun i wr => ∃ (k : Nat) (mix : Int), k ≤ bs.length ∧ k ≤ 64 ∧ i = .int .i64 k ∧ Hid (Row wr w.heap.size 74 [.slice p bs.length cap, .int .i64 0, .int .u64 mix, .int .i64 0]) ∧ Hid (Kept [w.heap.size] W0 wr)) (fun i _ => 64 - (intOf i).toNat)
  case atStart => exact ⟨0, _, Nat.zero_le _, Nat.zero_le _, rfl, HR0, Kept.refl _ _⟩
  case round =>
    obtain ⟨k, mix, hk, hk2, rfl, HR, HK⟩ := hrel
    by_cases hlt : k < bs.length ∧ k < 64
    · obtain ⟨l1, l2⟩ := hlt
      have hv := HK.out.readsB HV.out (fun x hx hm => HGL.out (by rw [← List.mem_singleton.1 hm]; exact hx))
      obtain ⟨p', cap', he, _, _, _, h4⟩ := hv
      obtain ⟨rfl, rfl⟩ : p = p' ∧ cap = cap' := by simpa using he
      obtain ⟨gb, ob, rfl, hgb, hc⟩ := h4 (by omega)
      have hck := hc k l1
      obtain ⟨b, hb⟩ : ∃ b, b = bs[k]'l1 := ⟨_, rfl⟩
      have hb0 := H3.out _ (List.getElem_mem l1)
      rw [← hb] at hck hb0
      have hne : ¬ gb = w.heap.size := fun e => HGL.out (by rw [← e]; obtain ⟨j, hj⟩ : ∃ j, bs.length = j + 1 := ⟨bs.length - 1, by omega⟩; rw [hj]; exact List.mem_singleton.2 rfl)
      have t1 : (k : Int) < (bs.length : Int) := by omega
      have t2 : (k : Int) < 64 := by omega
      have c2 : wr.cell? ⟨w.heap.size, 2, none⟩ = some (.int .u64 mix) := HR.out.cell 2
      have f2 := HR.out.free 2
      clear hc hb h4 he
      go_wp2
      go_region
      go_wp2
      exact ⟨⟨k + 1, _, by omega, by omega, by go_num, hide (HR.out.set (j := 2) _), hide ((HK.out.set (by simp) _).drew)⟩, by simp [intOf]; omega⟩
    · have HVr := hide (HK.out.readsB HV.out (fun x hx hm => HGL.out (by rw [← List.mem_singleton.1 hm]; exact hx)))
      have HBr := hide (HK.out.toBelow HB0.out HB0.out.size (by simp))
      have c3 : wr.cell? ⟨w.heap.size, 3, none⟩ = some (.int .i64 0) := HR.out.cell 3
      have f3 := HR.out.free 3
      by_cases hb : k < bs.length
      · have t1 : (k : Int) < (bs.length : Int) := by omega
        have t2 : ¬ ((k : Int) < 64) := by omega
        clear hlt
        by_cases h12 : 12 < (bs.length : Int) / 20
        · go_wp2
          go_ret
          have RF := (HR.out.set (j := 3) (.int .i64 ((bs.length : Int) / 20))).set (j := 3) (.int .i64 12)
          have KF := ((Kept.refl [w.heap.size] wr).set (G := w.heap.size) (j := 3) (by simp) (.int .i64 ((bs.length : Int) / 20))).set (G := w.heap.size) (j := 3) (by simp) (.int .i64 12)
          exact ⟨rfl, ⟨0, _, _, RF, Nat.zero_le _, KF.readsB HVr.out (fun x hx hm => HGL.out (by rw [← List.mem_singleton.1 hm]; exact hx)), HGL.out⟩, KF.toBelow HBr.out HBr.out.size (by simp)⟩
        · go_wp2
          go_ret
          have RF := HR.out.set (j := 3) (.int .i64 ((bs.length : Int) / 20))
          have KF := (Kept.refl [w.heap.size] wr).set (G := w.heap.size) (j := 3) (by simp) (.int .i64 ((bs.length : Int) / 20))
          exact ⟨rfl, ⟨0, _, _, RF, Nat.zero_le _, KF.readsB HVr.out (fun x hx hm => HGL.out (by rw [← List.mem_singleton.1 hm]; exact hx)), HGL.out⟩, KF.toBelow HBr.out HBr.out.size (by simp)⟩
      · have t1 : decide ((k : Int) < (bs.length : Int)) = false := decide_eq_false (by omega)
        clear hlt
        by_cases h12 : 12 < (bs.length : Int) / 20
        · exact absurd h12 (by omega)
        · go_wp2
          go_ret
          have RF := HR.out.set (j := 3) (.int .i64 ((bs.length : Int) / 20))
          have KF := (Kept.refl [w.heap.size] wr).set (G := w.heap.size) (j := 3) (by simp) (.int .i64 ((bs.length : Int) / 20))
          exact ⟨rfl, ⟨0, _, _, RF, Nat.zero_le _, KF.readsB HVr.out (fun x hx hm => HGL.out (by rw [← List.mem_singleton.1 hm]; exact hx)), HGL.out⟩, KF.toBelow HBr.out HBr.out.size (by simp)⟩

/-- The slice v is the call's own: a row of numbers from block B on. -/
def OwnI (B : Nat) (w : World) (v : Value) (ks : List Int) : Prop := w.ownsRow B 2 1 v ks.length (ks.map (Value.int .i64))
theorem OwnI.reads {B : Nat} {w : World} {v : Value} {ks : List Int} (h : OwnI B w v ks) : ReadsI w v ks := by
  obtain ⟨h0, ⟨rfl, hn⟩ | ⟨g, cap, cur, rfl, hB, hh, hc, hm, hs, ht⟩⟩ := h
  · obtain rfl := List.eq_nil_of_length_eq_zero hn
    exact ⟨none, 0, rfl, Nat.le_refl _, Nat.zero_le _, fun h0 => absurd h0 (Nat.lt_irrefl 0)⟩
  · refine ⟨_, _, rfl, hc, hm, fun _ => ⟨g, 0, rfl, (Array.getElem?_eq_some_iff.1 hh).1, fun i hi => ?_⟩⟩
    rw [Nat.zero_add, cell_of_row w g i _ _ (0, 0) hh]
    have e1 : cur[i]? = (cur.toList.take (ks.length * 1))[i]? := by
      rw [List.getElem?_take_of_lt (by omega)]; simp
    rw [e1, ht, List.getElem?_map, List.getElem?_eq_getElem hi]
    rfl
theorem Tryd.infoInt64 : (Tryd.prog.info? 2).map (fun i => (i.zero, i.size, i.bytes)) = some (some (.int .i64 0), 1, 8) := by kernel_rfl
set_option maxHeartbeats 4000000 in
theorem keep_any (v : Value) (bs : List Int) (g : Nat) (w : World) (h : Src v bs g w) (hl : bs.length ≤ 1048576) :
    Calls Tryd.prog 31 #[.pointer (some ⟨g, 0, none⟩)] w fun e w' => (∃ u ks, e = .returned u ∧ ks.length ≤ 14 ∧ OwnI w.heap.size w' u ks) ∧ Src v bs g w' ∧ Kept [g] w w' := by
  obtain ⟨i0, hi, hz0, hz1, hz2⟩ := info_parts Tryd.infoInt64
  have HS := hide (h.below (below_new w (.cells #[] 2)))
  have HL := hide h.leads
  have HG := hide h.lt
  have HO := hide (World.ownsRow_made (e := 2) (base := w.heap.size) (size := 1) w #[] 0 (Nat.le_refl _) (by unfold maxLen; omega) rfl)
  clear h
  go_enter Tryd.func31, Tryd.ntmps31
  go_wp2_with fail
  refine (n_any v bs g 14 _ HS.out (by omega) hl).mono ?_
  rintro e w0 ⟨⟨r0, rfl, hr0, hr1⟩, hs0, hk0⟩
  have HS0 := hide hs0
  have HO0 := hide (ownsRow_kept HO.out hk0 (fun x hx => by have := HG.out; rw [List.mem_singleton.1 hx]; exact this))
  have HK0 := hide (((Kept.refl [g] w).alloc (.cells #[] 2)).trans hk0)
  have hr2 : r0 < 14 := by omega
  clear hs0 hk0 hr1 HS HO
  go_wp2_with fail
  go_loopw [3, 4] (fun u i wr => ∃ (k : Int) (L : List Int), i = .int .i64 k ∧ 0 ≤ k ∧ (L.length : Int) + k ≤ 14 ∧ Hid (wr.ownsRow w.heap.size 2 1 u L.length (L.map (Value.int .i64))) ∧ Hid (Src v bs g wr) ∧ Hid (Kept [g] w wr)) (fun _ i _ => (intOf i).toNat)
  case atStart => exact ⟨r0, [], rfl, hr0, by simp; omega, HO0, HS0, HK0⟩
  case round =>
    obtain ⟨k, L, rfl, hk0, hLl, HOw, HSr, HK⟩ := hrel
    by_cases hlt : 0 < k
    · go_wp2_with fail
      refine (n_any v bs g 2 _ HSr.out (by omega) hl).mono ?_
      rintro e w1 ⟨⟨r, rfl, hr0, hr1⟩, hs1, hk1⟩
      have HS1 := hide (hs1.below (below_new w1 (.cells #[.int .i64 r] 2)))
      have HO1 := hide ((ownsRow_kept HOw.out hk1 (fun x hx => by have := HG.out; rw [List.mem_singleton.1 hx]; exact this)).alloc (.cells #[.int .i64 r] 2))
      have HK1 := hide ((HK.out.trans hk1).alloc (.cells #[.int .i64 r] 2))
      have hsz := HK1.out.size
      have HX := hide (row_new w1 [.int .i64 r] 2)
      clear hr1 hs1 hk1 HOw HSr HK
      go_wp2_with (at_builtin; refine wpList_append_own _ rfl _ _ 32 rfl w.heap.size 2 i0 (.int .i64 0) 1 8 Tryd.underlying32 hi hz0 hz1 hz2 rfl (by decide) _ L.length (L.map (Value.int .i64)) rfl HO1.out ⟨w1.heap.size, 0, none⟩ 1 1 [.int .i64 r] rfl rfl ?_ ?_ ?_ ?_ hsz ?_)
      · intro j u hj
        rw [Addr.add_lit, Nat.zero_add, HX.out.cell j]; exact hj
      · intro u hu; simp at hu; subst hu; rfl
      · unfold maxLen; omega
      · omega
      · intro v' w' hown' hgrow hnn
        have HO2 := hide (show w'.ownsRow w.heap.size 2 1 v' (L ++ [r]).length ((L ++ [r]).map (Value.int .i64)) by rw [List.length_append, List.length_singleton, List.map_append]; exact hown')
        have hown := HO1.out.lt
        have HK2 := hide (HK1.out.grown hgrow (fun k hk => (hown k hk).1))
        have HS2 := hide (HS1.out.kept (S := (_ : Value).ownBlock.toList) ⟨hgrow.os, hgrow.tape, hgrow.output, hgrow.size, fun k hk hn => hgrow.block k hk (fun e => hn (by rw [← e]; simp))⟩
          (fun hm => by
            have := hown g (by simpa using hm)
            have := HG.out; omega)
          (fun x hx hm => by
            have := hown x (by simpa using hm)
            have := HL.out x hx; omega))
        clear hown' hgrow hnn hown HO1 HS1 HK1 HX hsz
        go_wp2
        go_roundw
        case rel => exact ⟨k - 1, L ++ [r], by go_num, by omega, by simp; omega, HO2, HS2, HK2⟩
        case measure => simp [intOf]; omega
    · go_wp2
      go_ret
      first | exact ⟨⟨_, rfl, L, by omega, HOw.out⟩, HSr.out, HK.out⟩ | exact ⟨⟨_, L, rfl, by omega, HOw.out⟩, HSr.out, HK.out⟩
end Go.Proofs.YtdnbfnahhkmmnaaDoor
