/- The sole texts of a Rep of so many Comps of one Sub each. -/
import Derived.Test.YtfjjbofnfigehaaGreatDoorXG7VWide
namespace Go.Proofs.YtfjjbofnfigehaaGreatDoor
open Go.RowKit
theorem Tryz.infoStrV : (Tryz.prog.info? 9).map (fun i => (i.zero, i.size, i.bytes)) = some (some (.string ⟨#[]⟩), 1, 16) := by kernel_rfl
def soleL (n : Nat) (x : List (List ByteArray)) : Bool := decide (x.length = n) && x.all fun c => decide (c.length = 1)
def headT (c : List ByteArray) : ByteArray := c.headD ⟨#[]⟩
def textsOf (x : List (List ByteArray)) : List ByteArray := x.map headT
theorem soleL_len {n : Nat} {x : List (List ByteArray)} (h : x.length ≠ n) : soleL n x = false := by simp [soleL, h]
theorem soleL_no {n : Nat} {x : List (List ByteArray)} (k : Nat) (hk : k < x.length) (h : x[k].length ≠ 1) : soleL n x = false := by
  have : (x.all fun c => decide (c.length = 1)) = false := List.all_eq_false.2 ⟨x[k], List.getElem_mem hk, by simp [h]⟩
  simp [soleL, this]
theorem soleL_yes {n : Nat} {x : List (List ByteArray)} (hn : x.length = n) (h : ∀ j (hj : j < x.length), x[j].length = 1) : soleL n x = true := by
  have : (x.all fun c => decide (c.length = 1)) = true := List.all_eq_true.2 fun c hc => by
    obtain ⟨i, hi, rfl⟩ := List.getElem_of_mem hc
    simpa using h i hi
  simp [soleL, this, hn]
theorem sole_succ {x : List (List ByteArray)} {k : Nat} (h : ∀ j (hj : j < x.length), j < k → x[j].length = 1) (hk : k < x.length) (h1 : x[k].length = 1) : ∀ j (hj : j < x.length), j < k + 1 → x[j].length = 1 := by
  intro j hj h2
  by_cases e : j = k
  · subst e; exact h1
  · exact h j hj (by omega)
theorem headT_at (c : List ByteArray) (h : 0 < c.length) : headT c = c[0] := by
  cases c with
  | nil => simp at h
  | cons a r => rfl
theorem rl_own {T B : Nat} {w : World} {v : Value} {xs : List ByteArray} (h : w.ownsRow B T 1 v xs.length (strs xs)) (hx : ∀ x ∈ xs, x.size ≤ maxLen) : RComp B w v xs := by
  obtain ⟨_, ⟨rfl, hn⟩ | ⟨g, cap, cur, rfl, hb, hh, hnc, hcm, hs, htake⟩⟩ := h
  · have h0 : xs.length = 0 := by omega
    exact ⟨none, 0, by rw [h0], by omega, by unfold maxLen; omega, fun hp => by omega⟩
  · have hl : cur.toList.length = cap := by simpa using hs
    have hc : strs xs ++ cur.toList.drop xs.length = cur.toList := by
      rw [← htake, Nat.mul_one]; exact List.take_append_drop _ _
    have hrow : Row w g T (strs xs ++ cur.toList.drop xs.length) := by
      unfold Row
      rw [hc]
      simpa using hh
    refine ⟨some ⟨g, 0, none⟩, cap, rfl, hnc, hcm, fun _ => ⟨g, 0, rfl, hrow.lt, hb, fun i hi => ⟨.string xs[i], ?_, rfl, hx _ (List.getElem_mem hi)⟩⟩⟩
    rw [Nat.zero_add, hrow.cell, List.getElem?_append_left (by simpa [strs] using hi)]
    simp [strs, hi]
theorem textsOf_size {B : Nat} {w : World} {u : Value} {x : List (List ByteArray)} (h : RRep B w u x) : ∀ t ∈ textsOf x, t.size ≤ maxLen := by
  intro t ht
  unfold textsOf at ht
  obtain ⟨c, hc, rfl⟩ := List.mem_map.1 ht
  obtain ⟨i, hi, rfl⟩ := List.getElem_of_mem hc
  obtain ⟨p, cap, _, _, _, h4⟩ := h
  obtain ⟨g, off, _, _, _, hcc⟩ := h4 (by omega)
  obtain ⟨v, _, hv⟩ := hcc i hi
  cases hl : x[i] with
  | nil => exact Nat.zero_le _
  | cons a r => exact hv.sizes a (by rw [hl]; exact List.mem_cons_self ..)
theorem texts_take {x : List (List ByteArray)} {k : Nat} (hk : k < x.length) : (textsOf x).take (k + 1) = (textsOf x).take k ++ [headT x[k]] := by
  rw [List.take_succ_eq_append_getElem (by simpa [textsOf] using hk)]
  simp [textsOf]
theorem size_alloc1 (w : World) (o : Obj) : (w.alloc o).heap.size = w.heap.size + 1 := Array.size_push _
def SoleRes (n : Nat) (x : List (List ByteArray)) (B : Nat) (e : Ending) (w : World) : Prop :=
  if soleL n x = true then ∃ v, e = .returned (.tuple #[v, .bool true]) ∧ RComp B w v (textsOf x) else ∃ v, e = .returned (.tuple #[v, .bool false])
set_option maxHeartbeats 2000000 in
set_option maxRecDepth 100000 in
theorem soleTexts_any (u : Value) (x : List (List ByteArray)) (n : Nat) (B : Nat) (w : World) (hn : x.length ≤ 1048576) (hr : RRep B w u x) :
    Calls Tryz.prog 72 #[.agg #[u], .int .i64 (n : Int)] w fun e w' => SoleRes n x w.heap.size e w' ∧ Below w.heap.size w w' := by
  have HTS := hideF (textsOf_size hr)
  obtain ⟨p, cap, rfl, h1, h2, h4⟩ := hr
  unfold maxLen at h2
  have H4 := hideF h4
  clear h4
  obtain ⟨W, hW⟩ : ∃ W, W = w.alloc (.cells #[.slice p x.length cap] 29) := ⟨_, rfl⟩
  have HB0 := hideF (show Below w.heap.size w W by rw [hW]; exact (Below.refl _ _).alloc (Nat.le_refl _) _)
  have HBX : Hid (Row W w.heap.size 29 [.slice p x.length cap]) := by rw [hW]; exact row_new w _ _
  by_cases hxn : (x.length : Int) = (n : Int)
  · have hne : ((x.length : Int) != (n : Int)) = false := by simp [hxn]
    have c0 : W.cell? ⟨w.heap.size, 0, none⟩ = some (.slice p x.length cap) := HBX.out.cell 0
    have HXN := hideF hxn
    clear hxn
    go_enter Tryz.func72, Tryz.ntmps72
    go_wp2_with fail
    rw [← hW]
    clear hW
    go_wp2
    go_loopw [6, 17] (fun u i wr => ∃ (X : World) (k : Nat) (lv : Value), X = wr ∧ lv = u ∧ k ≤ x.length ∧ i = .int .i64 (k : Int) ∧ Hid (∀ j (hj : j < x.length), j < k → x[j].length = 1) ∧ Hid (VBuf 9 W.heap.size W X lv (strs ((textsOf x).take k)))) (fun _ i _ => x.length - (intOf i).toNat)
    case atStart => exact ⟨_, 0, _, rfl, rfl, Nat.zero_le _, rfl, fun j _ h => absurd h (by omega), VBuf.nil _ (Nat.le_refl _)⟩
    case round =>
      obtain ⟨X, k, lv, rfl, rfl, hk, rfl, HA, HV⟩ := hrel
      have HBW := hideF (HB0.out.trans (HV.out.below.mono HB0.out.size))
      by_cases hlt : k < x.length
      · obtain ⟨g, off, hp, hg, _, hc⟩ := H4.out (by omega)
        subst hp
        obtain ⟨v, hv, hrv⟩ := hc k hlt
        have HTK := hideF (texts_take hlt)
        have HS1 := hideF (fun h => sole_succ HA.out hlt h)
        have HS0 := hideF (fun h => soleL_no (n := n) k hlt h)
        have HHD := hideF (headT_at (x[k]'hlt))
        have hck : X.cell? ⟨g, off + k, none⟩ = some v := by rw [HBW.out.cell (p := ⟨g, off + k, none⟩) hg]; exact hv
        clear hv hc
        generalize (x[k]'hlt) = c at *
        obtain ⟨p2, cap2, rfl, k1, k2, k4⟩ := hrv
        unfold maxLen at k2
        have HBA := hideF (fun o => HBW.out.alloc HBW.out.size o)
        have r1 : (X.alloc (.cells #[.slice p2 c.length cap2] 71)).cell? ⟨X.heap.size, 0, none⟩ = some (.slice p2 c.length cap2) := (row_new X [.slice p2 c.length cap2] 71).cell 0
        by_cases hc1 : (c.length : Int) = 1
        · have hcb : ((c.length : Int) != 1) = false := by simp [hc1]
          have hcp : 0 < c.length := by omega
          have HN := hideF (HS1.out (by omega))
          obtain ⟨g2, off2, rfl, hg2, _, hc2⟩ := k4 hcp
          obtain ⟨v2, hv2, rfl, hsz⟩ := hc2 0 hcp
          rw [Nat.add_zero] at hv2
          have r2 : (X.alloc (.cells #[.slice (some ⟨g2, off2, none⟩) c.length cap2] 71)).cell? ⟨g2, off2, none⟩ = some (.string (c[0]'hcp)) := by
            rw [(HBA.out _).cell (p := ⟨g2, off2, none⟩) hg2]; exact hv2
          have HH := hideF (HHD.out hcp)
          clear hv2 hc2 hc1 k4 HHD HS1 HS0
          have hcn : (0 : Int) < (c.length : Int) := by omega
          generalize (c[0]'hcp) = t at *
          generalize c.length = M at *
          have HOA := hideF ((HV.out.alloc (.cells #[.slice (some ⟨g2, off2, none⟩) M cap2] 71)).alloc (.cells #[.string t] 9))
          have HNC := hideF (show ((X.alloc (.cells #[.slice (some ⟨g2, off2, none⟩) M cap2] 71)).alloc (.cells #[.string t] 9)).heap[X.heap.size + 1]? = some (.cells #[.string t] 9) from by have := heap_alloc_new (X.alloc (.cells #[.slice (some ⟨g2, off2, none⟩) M cap2] 71)) (.cells #[.string t] 9); rw [size_alloc1] at this; exact this)
          have HL3 := hideF (show (strs ((textsOf x).take k)).length + [Value.string t].length ≤ 100000000 by simp [strs, textsOf]; omega)
          clear HTS k1 k2 hg2 hg h1 h2 hcn
          go_wp2_with (at_builtin; refine wpList_vbuf [.string t] (w0 := W) rfl (.tmp 25) (.tmp 30) 66 rfl W.heap.size 9 Tryz.underlying66 Tryz.infoStrV rfl (by simp [Value.oneCell']) (by decide) _ (strs ((textsOf x).take k)) rfl HOA.out _ 1 rfl rfl ⟨_, HNC.out⟩ HL3.out ?_)
          intro v1 w1 hb1
          have HB3 : Hid (VBuf 9 W.heap.size W w1 v1 (strs ((textsOf x).take (k + 1)))) := by
            rw [HTK.out, strs, List.map_append, HH.out]
            exact hb1
          clear hb1
          go_wp2
          go_roundw
          case rel => exact ⟨_, k + 1, _, rfl, rfl, by omega, by go_num, HN, HB3⟩
          case measure => simp [intOf]; omega
        · have hcb : ((c.length : Int) != 1) = true := by simpa using hc1
          have HN := hideF (HS0.out (by omega))
          clear k4 HHD HS1 HS0 hc1
          generalize c.length = M at *
          go_wp2
          exact bodyPost_ret (v := .tuple #[.slice none 0 0, .bool false]) (by simp [results, Tryz.results72, go_sem]) rfl ⟨by unfold SoleRes; rw [HN.out]; exact ⟨_, rfl⟩, HBA.out _⟩
      · have HN := hideF (show soleL n x = true from soleL_yes (by have := HXN.out; omega) (fun j hj => HA.out j hj (by omega)))
        have HOW : Hid (RComp w.heap.size X lv (textsOf x)) := by
          have h := HV.out.own
          rw [List.take_of_length_le (by simp [textsOf]; omega)] at h
          exact (rl_own (by simpa [strs] using h) HTS.out).mono HB0.out.size
        go_wp2
        exact bodyPost_ret (v := .tuple #[lv, .bool true]) (by simp [results, Tryz.results72, go_sem]) rfl ⟨by unfold SoleRes; rw [HN.out]; exact ⟨_, rfl, HOW.out⟩, HBW.out⟩
  · have hne : ((x.length : Int) != (n : Int)) = true := by simpa using hxn
    have c0 : W.cell? ⟨w.heap.size, 0, none⟩ = some (.slice p x.length cap) := HBX.out.cell 0
    have HN := hideF (show soleL n x = false from soleL_len (by omega))
    go_enter Tryz.func72, Tryz.ntmps72
    go_wp2_with fail
    rw [← hW]
    clear hW
    go_wp2
    exact bodyPost_ret (v := .tuple #[.slice none 0 0, .bool false]) (by simp [results, Tryz.results72, go_sem]) rfl ⟨by unfold SoleRes; rw [HN.out]; exact ⟨_, rfl⟩, HB0.out⟩
end Go.Proofs.YtfjjbofnfigehaaGreatDoor
/- The model's l06One and l06Comps. -/
namespace Go.Proofs.YtfjjbofnfigehaaGreatDoor
open Go.RowKit
def oneT (x : List (List ByteArray)) : ByteArray := if soleL 1 x then headT (x.headD []) else ⟨#[]⟩
theorem oneT_no {x : List (List ByteArray)} (h : soleL 1 x = false) : oneT x = ⟨#[]⟩ := by simp [oneT, h]
theorem soleL_one {x : List (List ByteArray)} (h : x.length = 1) : soleL 1 x = decide ((x[0]'(by omega)).length = 1) := by
  match x, h with
  | [c], _ => simp [soleL]
theorem oneT_yes {x : List (List ByteArray)} (h : x.length = 1) (h1 : (x[0]'(by omega)).length = 1) : oneT x = headT (x[0]'(by omega)) := by
  match x, h with
  | [c], _ =>
    simp only [List.getElem_cons_zero] at h1 ⊢
    rw [oneT, if_pos (by simp [soleL, h1])]
    rfl
set_option maxHeartbeats 2000000 in
set_option maxRecDepth 100000 in
theorem l06One_any (u : Value) (x : List (List ByteArray)) (B : Nat) (w : World) (_hn : x.length ≤ 1048576) (hr : RRep B w u x) :
    Calls Tryz.prog 37 #[.agg #[u]] w fun e w' => e = .returned (.tuple #[.string (oneT x), .bool (soleL 1 x)]) ∧ Below w.heap.size w w' := by
  obtain ⟨p, cap, rfl, h1, h2, h4⟩ := hr
  unfold maxLen at h2
  have H4 := hideF h4
  clear h4
  have HBW := hideF ((Below.refl w.heap.size w).alloc (Nat.le_refl _) (.cells #[.slice p x.length cap] 29))
  have r0 : (w.alloc (.cells #[.slice p x.length cap] 29)).cell? ⟨w.heap.size, 0, none⟩ = some (.slice p x.length cap) := (row_new w [.slice p x.length cap] 29).cell 0
  by_cases hx : (x.length : Int) = 1
  · have hne : ((x.length : Int) != 1) = false := by simp [hx]
    have h0 : 0 < x.length := by omega
    have HY := hideF (oneT_yes (x := x) (by omega))
    have HS := hideF (soleL_one (x := x) (by omega))
    obtain ⟨g, off, hp, hg, _, hc⟩ := H4.out h0
    subst hp
    obtain ⟨v, hv, hrv⟩ := hc 0 h0
    rw [Nat.add_zero] at hv
    have hck : (w.alloc (.cells #[.slice (some ⟨g, off, none⟩) x.length cap] 29)).cell? ⟨g, off, none⟩ = some v := by rw [HBW.out.cell (p := ⟨g, off, none⟩) hg]; exact hv
    clear hv hc
    have hN1 : (0 : Int) < (x.length : Int) := by omega
    generalize (x[0]'h0) = c at *
    clear hx
    obtain ⟨p2, cap2, rfl, k1, k2, k4⟩ := hrv
    unfold maxLen at k2
    by_cases hc1 : (c.length : Int) = 1
    · have hcb : ((c.length : Int) != 1) = false := by simp [hc1]
      have hcp : 0 < c.length := by omega
      have HN := hideF (show soleL 1 x = true by rw [HS.out]; simp; omega)
      obtain ⟨g2, off2, rfl, hg2, _, hc2⟩ := k4 hcp
      obtain ⟨v2, hv2, rfl, hsz⟩ := hc2 0 hcp
      rw [Nat.add_zero] at hv2
      have hck2 : (w.alloc (.cells #[.slice (some ⟨g, off, none⟩) x.length cap] 29)).cell? ⟨g2, off2, none⟩ = some (.string (c[0]'hcp)) := by rw [HBW.out.cell (p := ⟨g2, off2, none⟩) hg2]; exact hv2
      have HT := hideF ((HY.out (by omega)).trans (headT_at c hcp))
      have hci : (0 : Int) < (c.length : Int) := by omega
      clear hv2 hc2 k4 HY HS hc1
      generalize (c[0]'hcp) = t at *
      generalize c.length = M at *
      go_enter Tryz.func37, Tryz.ntmps37
      go_wp2
      exact bodyPost_ret (v := .tuple #[.string t, .bool true]) (by simp [results, Tryz.results37, go_sem]) rfl ⟨by rw [HN.out, HT.out], HBW.out⟩
    · have hcb : ((c.length : Int) != 1) = true := by simpa using hc1
      have HN := hideF (show soleL 1 x = false by rw [HS.out]; simp; omega)
      have HT := hideF (oneT_no HN.out)
      clear k4 HY HS hc1
      generalize c.length = M at *
      go_enter Tryz.func37, Tryz.ntmps37
      go_wp2
      exact bodyPost_ret (v := .tuple #[.string ⟨#[]⟩, .bool false]) (by simp [results, Tryz.results37, go_sem]) rfl ⟨by rw [HN.out, HT.out], HBW.out⟩
  · have hne : ((x.length : Int) != 1) = true := by simpa using hx
    have HN := hideF (show soleL 1 x = false from soleL_len (by omega))
    have HT := hideF (oneT_no HN.out)
    go_enter Tryz.func37, Tryz.ntmps37
    go_wp2
    exact bodyPost_ret (v := .tuple #[.string ⟨#[]⟩, .bool false]) (by simp [results, Tryz.results37, go_sem]) rfl ⟨by rw [HN.out, HT.out], HBW.out⟩

/-- At most so many, the first one not empty, none behind the first ones of more than one. -/
def compsL (most wide : Nat) (x : List (List ByteArray)) : Bool := noWide (x.drop wide) && thereL x && decide (x.length ≤ most)
theorem compsL_wide {most wide : Nat} {x : List (List ByteArray)} (k : Nat) (hw : wide ≤ k) (hk : k < x.length) (h : 1 < x[k].length) : compsL most wide x = false := by
  have : noWide (x.drop wide) = false := noWide_no (k - wide) (by rw [List.length_drop]; omega) (by
    rw [List.getElem_drop]
    have e : wide + (k - wide) = k := by omega
    simpa [e] using h)
  simp [compsL, this]
theorem compsL_all {most wide : Nat} {x : List (List ByteArray)} (h : ∀ j (hj : j < x.length), wide ≤ j → x[j].length ≤ 1) : compsL most wide x = (thereL x && decide (x.length ≤ most)) := by
  have : noWide (x.drop wide) = true := noWide_yes fun j hj => by
    rw [List.getElem_drop]
    exact h _ _ (by omega)
  simp [compsL, this]
theorem comps_succ {x : List (List ByteArray)} {wide k : Nat} (h : ∀ j (hj : j < x.length), wide ≤ j → j < k → x[j].length ≤ 1) (hk : k < x.length) (h1 : x[k].length ≤ 1) : ∀ j (hj : j < x.length), wide ≤ j → j < k + 1 → x[j].length ≤ 1 := by
  intro j hj h0 h2
  by_cases e : j = k
  · subst e; exact h1
  · exact h j hj h0 (by omega)
set_option maxHeartbeats 2000000 in
set_option maxRecDepth 100000 in
theorem l06Comps_any (u : Value) (x : List (List ByteArray)) (most wide : Nat) (B : Nat) (w : World) (hn : x.length ≤ 1048576) (hw : wide ≤ 100) (_hm : most ≤ 100) (hr : RRep B w u x) :
    Calls Tryz.prog 42 #[.agg #[u], .int .i64 (most : Int), .int .i64 (wide : Int)] w fun e w' => e = .returned (.bool (compsL most wide x)) ∧ Below w.heap.size w w' := by
  obtain ⟨R, hR⟩ : ∃ R, R = compsL most wide x := ⟨_, rfl⟩
  rw [← hR]
  have HR := hideF hR
  clear hR
  obtain ⟨p, cap, rfl, h1, h2, h4⟩ := hr
  unfold maxLen at h2
  have H4 := hideF h4
  clear h4
  have HBW := hideF ((Below.refl w.heap.size w).alloc (Nat.le_refl _) (.cells #[.slice p x.length cap] 29))
  have r0 : (w.alloc (.cells #[.slice p x.length cap] 29)).cell? ⟨w.heap.size, 0, none⟩ = some (.slice p x.length cap) := (row_new w [.slice p x.length cap] 29).cell 0
  go_enter Tryz.func42, Tryz.ntmps42
  go_wp2
  go_loop [7] (fun i => ∃ k : Nat, wide ≤ k ∧ k ≤ x.length + wide ∧ i = .int .i64 k ∧ Hid (∀ j (hj : j < x.length), wide ≤ j → j < k → x[j].length ≤ 1)) (fun i => x.length + wide - (intOf i).toNat)
  case atStart => exact ⟨wide, Nat.le_refl _, by omega, rfl, fun j _ h h2 => absurd h2 (by omega)⟩
  case round =>
    obtain ⟨k, hwk, hk, rfl, HA⟩ := hrel
    by_cases hlt : k < x.length
    · obtain ⟨g, off, hp, hg, _, hc⟩ := H4.out (by omega)
      subst hp
      obtain ⟨v, hv, hrv⟩ := hc k hlt
      obtain ⟨p2, cap2, rfl, k1, k2, k4⟩ := hrv
      clear k4
      have hck : (w.alloc (.cells #[.slice (some ⟨g, off, none⟩) x.length cap] 29)).cell? ⟨g, off + k, none⟩ = some (.slice p2 (x[k]'hlt).length cap2) := by rw [HBW.out.cell (p := ⟨g, off + k, none⟩) hg]; exact hv
      clear hv hc
      unfold maxLen at k2
      have HNo := hideF (fun h => show R = false by rw [HR.out]; exact compsL_wide k hwk hlt h)
      have HYes := hideF (fun (h : (x[k]'hlt).length ≤ 1) => comps_succ HA.out hlt h)
      generalize (x[k]'hlt).length = M at *
      by_cases h5 : 1 < (M : Int)
      · have HN := hideF (HNo.out (by omega))
        go_wp2
        go_ret
        exact ⟨ret_boolF HN.out.symm, HBW.out⟩
      · have HN := hideF (HYes.out (by omega))
        go_wp2
        go_round
        case rel => exact ⟨k + 1, by omega, by omega, by go_num, HN.out⟩
        case measure => simp [intOf]; omega
    · have HC := hideF (show R = (thereL x && decide (x.length ≤ most)) by rw [HR.out]; exact compsL_all (fun j hj h => HA.out j hj h (by omega)))
      by_cases h0 : 0 < x.length
      · obtain ⟨g, off, hp, hg, _, hc⟩ := H4.out h0
        subst hp
        obtain ⟨v, hv, hrv⟩ := hc 0 h0
        rw [Nat.add_zero] at hv
        obtain ⟨p2, cap2, rfl, k1, k2, k4⟩ := hrv
        clear k4
        have HT := hideF (thereL_at x h0)
        have hck : (w.alloc (.cells #[.slice (some ⟨g, off, none⟩) x.length cap] 29)).cell? ⟨g, off, none⟩ = some (.slice p2 (x[0]'h0).length cap2) := by rw [HBW.out.cell (p := ⟨g, off, none⟩) hg]; exact hv
        clear hv hc
        unfold maxLen at k2
        generalize (x[0]'h0).length = M at *
        have h0i : (0 : Int) < (x.length : Int) := by omega
        by_cases hle : (x.length : Int) ≤ (most : Int)
        · have HN := hideF (show R = decide (0 < M) by
            have hx : x.length ≤ most := by omega
            rw [HC.out, HT.out]
            simp [hx])
          go_wp2
          go_ret
          exact ⟨ret_boolF HN.out.symm, HBW.out⟩
        · have HN := hideF (show R = false by rw [HC.out]; simp; intro _; omega)
          go_wp2
          go_ret
          exact ⟨ret_boolF HN.out.symm, HBW.out⟩
      · have h0i : ¬ (0 : Int) < (x.length : Int) := by omega
        have HN := hideF (show R = false by rw [HC.out, thereL_no x h0]; rfl)
        go_wp2
        go_ret
        exact ⟨ret_boolF HN.out.symm, HBW.out⟩
end Go.Proofs.YtfjjbofnfigehaaGreatDoor
