/- Draws: the source itself; which of what is pending is kept. -/
import Derived.Test.YtcnndiomljjmnaaDoorDraw2
import Derived.Test.YtcnndiomljjmnaaDoorSCrash
namespace Go.Proofs.YtcnndiomljjmnaaDoor
open Go.RowKit

set_option maxHeartbeats 4000000 in
theorem source_any (v : Value) (bs : List Int) (w : World) (h : ReadsB w v bs) (hl : bs.length ≤ 1048576) :
    Calls Tryd.prog 12 #[v] w fun e w' => e = .returned (.pointer (some ⟨w.heap.size, 0, none⟩)) ∧ Src v bs w.heap.size w' ∧ Below w.heap.size w w' := by
  have HV := hide (h.below (below_new w (.cells #[v, .int .i64 0, .int .u64 88172645463325252, .int .i64 0] 52)) (Nat.le_refl _))
  have HGL := hide (show w.heap.size ∉ leads v from fun hm => Nat.lt_irrefl _ (h.leads _ hm))
  have HR0 := hide (row_new w [v, .int .i64 0, .int .u64 88172645463325252, .int .i64 0] 52)
  obtain ⟨p, cap, rfl, h1, h2, h3, h4⟩ := h
  have H3 := hide h3
  clear h3 h4
  obtain ⟨W0, hW0⟩ : ∃ W, W = w.alloc (.cells #[.slice p bs.length cap, .int .i64 0, .int .u64 88172645463325252, .int .i64 0] 52) := ⟨_, rfl⟩
  have HB0 := hide (show Below w.heap.size w W0 by rw [hW0]; exact below_new _ _)
  rw [← hW0] at HV HR0
  have HW := hide hW0
  clear hW0
  go_enter Tryd.func12, Tryd.ntmps12
  go_wp2_with fail
  rw [← HW.out]
  clear HW
  go_loopw [4] (fun i wr => ∃ (k : Nat) (mix : Int), k ≤ bs.length ∧ k ≤ 64 ∧ i = .int .i64 k ∧ Hid (Row wr w.heap.size 52 [.slice p bs.length cap, .int .i64 0, .int .u64 mix, .int .i64 0]) ∧ Hid (Kept [w.heap.size] W0 wr)) (fun i _ => 64 - (intOf i).toNat)
  case atStart => exact ⟨0, _, Nat.zero_le _, Nat.zero_le _, rfl, HR0, Kept.refl _ _⟩
  case round =>
    obtain ⟨k, mix, hk, hk2, rfl, HR, HK⟩ := hrel
    by_cases hlt : k < bs.length ∧ k < 64
    · obtain ⟨l1, l2⟩ := hlt
      have hv := HK.out.readsB HV.out (fun x hx hm => HGL.out (by rw [← List.mem_singleton.1 hm]; exact hx))
      obtain ⟨p', cap', he, _, _, _, h4⟩ := hv
      obtain ⟨rfl, rfl⟩ : p = p' ∧ cap = cap' := by simpa using he
      obtain ⟨gb, ob, rfl, hgb, hc⟩ := h4 (by omega)
      have hck := hc k l1
      obtain ⟨b, hb⟩ : ∃ b, b = bs[k]'l1 := ⟨_, rfl⟩
      have hb0 := H3.out _ (List.getElem_mem l1)
      rw [← hb] at hck hb0
      have hne : ¬ gb = w.heap.size := fun e => HGL.out (by rw [← e]; obtain ⟨j, hj⟩ : ∃ j, bs.length = j + 1 := ⟨bs.length - 1, by omega⟩; rw [hj]; exact List.mem_singleton.2 rfl)
      have t1 : (k : Int) < (bs.length : Int) := by omega
      have t2 : (k : Int) < 64 := by omega
      have c2 : wr.cell? ⟨w.heap.size, 2, none⟩ = some (.int .u64 mix) := HR.out.cell 2
      have f2 := HR.out.free 2
      clear hc hb h4 he
      go_wp2
      go_region
      go_wp2
      exact ⟨⟨k + 1, _, by omega, by omega, by go_num, hide (HR.out.set (j := 2) _), hide ((HK.out.set (by simp) _).drew)⟩, by simp [intOf]; omega⟩
    · have HVr := hide (HK.out.readsB HV.out (fun x hx hm => HGL.out (by rw [← List.mem_singleton.1 hm]; exact hx)))
      have HBr := hide (HK.out.toBelow HB0.out HB0.out.size (by simp))
      have c3 : wr.cell? ⟨w.heap.size, 3, none⟩ = some (.int .i64 0) := HR.out.cell 3
      have f3 := HR.out.free 3
      by_cases hb : k < bs.length
      · have t1 : (k : Int) < (bs.length : Int) := by omega
        have t2 : ¬ ((k : Int) < 64) := by omega
        clear hlt
        by_cases h12 : 12 < (bs.length : Int) / 20
        · go_wp2
          go_ret
          have RF := (HR.out.set (j := 3) (.int .i64 ((bs.length : Int) / 20))).set (j := 3) (.int .i64 12)
          have KF := ((Kept.refl [w.heap.size] wr).set (G := w.heap.size) (j := 3) (by simp) (.int .i64 ((bs.length : Int) / 20))).set (G := w.heap.size) (j := 3) (by simp) (.int .i64 12)
          exact ⟨rfl, ⟨0, _, _, RF, Nat.zero_le _, KF.readsB HVr.out (fun x hx hm => HGL.out (by rw [← List.mem_singleton.1 hm]; exact hx)), HGL.out⟩, KF.toBelow HBr.out HBr.out.size (by simp)⟩
        · go_wp2
          go_ret
          have RF := HR.out.set (j := 3) (.int .i64 ((bs.length : Int) / 20))
          have KF := (Kept.refl [w.heap.size] wr).set (G := w.heap.size) (j := 3) (by simp) (.int .i64 ((bs.length : Int) / 20))
          exact ⟨rfl, ⟨0, _, _, RF, Nat.zero_le _, KF.readsB HVr.out (fun x hx hm => HGL.out (by rw [← List.mem_singleton.1 hm]; exact hx)), HGL.out⟩, KF.toBelow HBr.out HBr.out.size (by simp)⟩
      · have t1 : decide ((k : Int) < (bs.length : Int)) = false := decide_eq_false (by omega)
        clear hlt
        by_cases h12 : 12 < (bs.length : Int) / 20
        · exact absurd h12 (by omega)
        · go_wp2
          go_ret
          have RF := HR.out.set (j := 3) (.int .i64 ((bs.length : Int) / 20))
          have KF := (Kept.refl [w.heap.size] wr).set (G := w.heap.size) (j := 3) (by simp) (.int .i64 ((bs.length : Int) / 20))
          exact ⟨rfl, ⟨0, _, _, RF, Nat.zero_le _, KF.readsB HVr.out (fun x hx hm => HGL.out (by rw [← List.mem_singleton.1 hm]; exact hx)), HGL.out⟩, KF.toBelow HBr.out HBr.out.size (by simp)⟩

/-- The slice v is the call's own: a row of numbers from block B on. -/
def OwnI (B : Nat) (w : World) (v : Value) (ks : List Int) : Prop := w.ownsRow B 2 1 v ks.length (ks.map (Value.int .i64))
theorem OwnI.reads {B : Nat} {w : World} {v : Value} {ks : List Int} (h : OwnI B w v ks) : ReadsI w v ks := by
  obtain ⟨h0, ⟨rfl, hn⟩ | ⟨g, cap, cur, rfl, hB, hh, hc, hm, hs, ht⟩⟩ := h
  · obtain rfl := List.eq_nil_of_length_eq_zero hn
    exact ⟨none, 0, rfl, Nat.le_refl _, Nat.zero_le _, fun h0 => absurd h0 (Nat.lt_irrefl 0)⟩
  · refine ⟨_, _, rfl, hc, hm, fun _ => ⟨g, 0, rfl, (Array.getElem?_eq_some_iff.1 hh).1, fun i hi => ?_⟩⟩
    rw [Nat.zero_add, cell_of_row w g i _ _ (0, 0) hh]
    have e1 : cur[i]? = (cur.toList.take (ks.length * 1))[i]? := by
      rw [List.getElem?_take_of_lt (by omega)]; simp
    rw [e1, ht, List.getElem?_map, List.getElem?_eq_getElem hi]
    rfl
theorem Tryd.infoInt64 : (Tryd.prog.info? 2).map (fun i => (i.zero, i.size, i.bytes)) = some (some (.int .i64 0), 1, 8) := by kernel_rfl
end Go.Proofs.YtcnndiomljjmnaaDoor
