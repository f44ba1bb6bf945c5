/- FileRight of the program. -/
import Derived.Test.YtholbhjfmfanbaaGreatXG13BFileM
import Derived.Shelf.Abstract
import Derived.Deep.RegionHeld3
namespace Go.Proofs.YtholbhjfmfanbaaGreat
open Go.RowKit Go.Shelf Go.Proofs
set_option maxHeartbeats 1000000 in
theorem isFileName_any (n : ByteArray) (w : World) :
    Calls Tryz.prog 83 #[.string n] w fun e w' => e = .returned (.bool (lineB n)) ∧ w' = w := by
  unfold lineB
  cases h1 : (n.toList == [70, 72, 83])
  case true =>
    go_enter Tryz.func83, Tryz.ntmps83
    go_wp2
    go_ret
    exact ⟨rfl, rfl⟩
  cases h2 : (n.toList == [66, 72, 83])
  case true =>
    go_enter Tryz.func83, Tryz.ntmps83
    go_wp2
    go_ret
    exact ⟨rfl, rfl⟩
  cases h3 : (n.toList == [66, 84, 83])
  case true =>
    go_enter Tryz.func83, Tryz.ntmps83
    go_wp2
    go_ret
    exact ⟨rfl, rfl⟩
  cases h4 : (n.toList == [70, 84, 83])
  all_goals
    go_enter Tryz.func83, Tryz.ntmps83
    go_wp2
    go_ret
    exact ⟨rfl, rfl⟩
theorem ownLine_any (nm : ByteArray) (p : Option Addr) (l c : Nat) (w : World) :
    Calls Tryz.prog 82 #[.agg #[.string nm, .slice p l c]] w fun e w' => e = .returned (.bool (lineB nm)) ∧ Below w.heap.size w w' := by
  go_enter Tryz.func82, Tryz.ntmps82
  go_wp2_with fail
  refine (isFileName_any nm _).mono ?_
  rintro e w1 ⟨rfl, rfl⟩
  go_wp2
  go_ret
  exact ⟨rfl, (Below.refl _ _).alloc (Nat.le_refl _) _⟩
theorem new_cell0 (w : World) (v : Value) (t : TypeId) : (w.alloc (.cells #[v] t)).cell? ⟨w.heap.size, 0, none⟩ = some v := (row_new w [v] t).cell 0
theorem contains_dec {n : Int} {b : Bool} (h : decide (0 ≤ n) = b) : decide (n ≥ 0) = b := h

theorem enters_ownLine : ∀ args w, (callFunc 82 args).run Tryz.prog w = .ok (.enter 82 args) w := enters_of Tryz.func82 (by kernel_rfl) rfl
set_option maxHeartbeats 2000000 in
theorem idxSeg_any (v : Value) (x : List Seg) (w : World) (hx : x.length ≤ 1048576) (hr : RSegs 0 w v x) :
    Calls Tryz.prog 102 #[v, .func (.func 82) #[] #[]] w fun e w' => ∃ n : Int, e = .returned (.int .i64 n) ∧ -1 ≤ n ∧ n ≤ 1048576 ∧ decide (0 ≤ n) = !x.all (fun s : Seg => !lineB s.1) ∧ Below w.heap.size w w' := by
  obtain ⟨p, cap, rfl, h1, h2, h4⟩ := hr
  have H4 := hideF h4
  clear h4 h1 h2
  obtain ⟨R, hR⟩ : ∃ R, R = x.all (fun s : Seg => !lineB s.1) := ⟨_, rfl⟩
  rw [← hR]
  have HR := hideF hR
  clear hR
  have eg := enters_ownLine
  go_enter Tryz.func102, Tryz.ntmps102
  go_wp2_with fail
  go_loopw [8] (fun i wr => ∃ (X : World) (k : Nat), X = wr ∧ k ≤ x.length ∧ i = .int .i64 k ∧ Hid (∀ j (hj : j < x.length), j < k → (fun s : Seg => !lineB s.1) x[j] = true) ∧ Hid (Below w.heap.size w X)) (fun i _ => x.length - (intOf i).toNat)
  case atStart => exact ⟨_, 0, rfl, Nat.zero_le _, rfl, fun j _ h => absurd h (by omega), Below.refl _ _⟩
  case round =>
    obtain ⟨X, k, rfl, hk, rfl, HA, HB⟩ := hrel
    by_cases hlt : k < x.length
    · obtain ⟨gg, off, hp, hg, _, hc⟩ := H4.out (by omega)
      subst hp
      obtain ⟨hu, hns, u, hv, hru⟩ := hc k hlt
      have HRU := hideF (hru.below HB.out)
      obtain ⟨up, uc, rfl⟩ := hru.isSlice
      have hck : X.cell? ⟨gg, off + k * 2, none⟩ = some (.string (x[k]'hlt).1) := (HB.out.cell (p := ⟨gg, off + k * 2, none⟩) hg).trans hu
      have hcv : X.cell? ⟨gg, off + k * 2 + 1, none⟩ = some (.slice up (x[k]'hlt).2.length uc) := (HB.out.cell (p := ⟨gg, off + k * 2 + 1, none⟩) hg).trans hv
      have HNS := hideF hns
      clear hu hc hv hru hns
      go_wp2_with fail
      refine (ownLine_any (x[k]'hlt).1 up _ uc _).mono ?_
      rintro e X2 ⟨rfl, hb2⟩
      have HB2 := hideF (HB.out.trans (hb2.mono HB.out.size))
      clear hb2 hck hcv
      cases ho : (fun s : Seg => !lineB s.1) (x[k]'hlt)
      · have HN := hideF (show false = R by rw [HR.out]; exact (allF_no k hlt ho).symm)
        have ho' : lineB (x[k]'hlt).1 = true := by simpa using ho
        rw [ho']
        go_wp2
        go_ret
        exact ⟨_, rfl, by omega, by omega, by rw [← HN.out]; simp, HB2.out⟩
      · have HA2 := hideF (allF_succ (f := (fun s : Seg => !lineB s.1)) k HA.out (fun _ => ho))
        have ho' : lineB (x[k]'hlt).1 = false := by simpa using ho
        rw [ho']
        go_wp2
        go_roundw
        case rel => exact ⟨_, k + 1, rfl, by omega, by go_num, HA2, HB2⟩
        case measure => simp [intOf]; omega
    · have HN := hideF (show true = R by rw [HR.out]; exact (allF_yes (fun j hj => HA.out j hj (by omega))).symm)
      go_wp2
      go_ret
      exact ⟨_, rfl, by omega, by omega, by rw [← HN.out]; simp, HB.out⟩
theorem hasSeg_any (v : Value) (x : List Seg) (w : World) (hx : x.length ≤ 1048576) (hr : RSegs 0 w v x) :
    Calls Tryz.prog 85 #[v, .func (.func 82) #[] #[]] w fun e w' => e = .returned (.bool (!x.all (fun s : Seg => !lineB s.1))) ∧ Below w.heap.size w w' := by
  have HH := hideF (idxSeg_any v x w hx hr)
  obtain ⟨p, cap, rfl⟩ := hr.isSlice
  clear hr
  obtain ⟨R, hR⟩ : ∃ R, R = x.all (fun s : Seg => !lineB s.1) := ⟨_, rfl⟩
  rw [← hR] at HH ⊢
  clear hR
  go_enter Tryz.func85, Tryz.ntmps85
  go_wp2_with fail
  refine HH.out.mono ?_
  rintro e w1 ⟨n, rfl, hn1, hn2, hd, hb1⟩
  have HB1 := hideF hb1
  clear hb1
  by_cases hn : 0 ≤ n
  · have HD := hideF (show true = !R by rw [← hd]; simp [hn])
    clear hd
    go_wp2
    go_ret
    exact ⟨ret_boolF HD.out, HB1.out⟩
  · have HD := hideF (show false = !R by rw [← hd]; simp [hn])
    have HD2 := hideF hd
    clear hd
    go_wp2
    go_ret
    first
      | exact ⟨ret_boolF HD.out, HB1.out⟩
      | exact ⟨ret_boolF HD2.out, HB1.out⟩

set_option maxHeartbeats 2000000 in
theorem fileMessage_any (m : ByteArray) (u : Value) (x : List Seg) (w : World) (hm : m.size ≤ maxLen) (hf : FitsM x) (hr : RSegs 0 w u x) :
    Calls Tryz.prog 64 #[.agg #[.string m, u]] w fun e w' => e = .returned (.bool (fmB (m, x))) ∧ Below w.heap.size w w' := by
  obtain ⟨R, hR⟩ : ∃ R, R = fmB (m, x) := ⟨_, rfl⟩
  rw [← hR]
  have HR := hideF hR
  have HX := hideF hr
  obtain ⟨p, cap, rfl⟩ := hr.isSlice
  have hb0 : Below w.heap.size w (w.alloc (.cells #[.string m, .slice p x.length cap] 53)) := (Below.refl _ _).alloc (Nat.le_refl _) _
  have HB0 := hideF hb0
  have HRow := hideF (row_new w [.string m, .slice p x.length cap] 53)
  clear hr hR hb0
  cases hu : (m.toList == [124, 94, 126, 92, 38])
  · have HN := hideF (show false = R by rw [HR.out]; exact (fmB_marks (m := (m, x)) hu).symm)
    go_enter Tryz.func64, Tryz.ntmps64
    go_wp2
    go_ret
    exact ⟨ret_boolF HN.out, HB0.out⟩
  · go_enter Tryz.func64, Tryz.ntmps64
    go_wp2_with fail
    refine (implMessage_any m _ x _ hm hf (HX.out.below HB0.out)).mono ?_
    rintro e w1 ⟨rfl, hb1⟩
    have HB1 := hideF (HB0.out.trans (hb1.mono HB0.out.size))
    have HRow1 := hideF (HRow.out.below hb1 HRow.out.lt)
    have c1 : w1.cell? ⟨w.heap.size, 1, none⟩ = some (.slice p x.length cap) := HRow1.out.cell 1
    clear hb1
    cases hq : msgB m x
    · have HN := hideF (show false = R by rw [HR.out]; exact (fmB_right (m := (m, x)) hq).symm)
      go_wp2
      go_ret
      exact ⟨ret_boolF HN.out, HB1.out⟩
    · go_wp2_with fail
      refine (hasSeg_any _ x _ hf.1 (HX.out.below HB1.out)).mono ?_
      rintro e w2 ⟨rfl, hb2⟩
      have HB2 := hideF (HB1.out.trans (hb2.mono HB1.out.size))
      clear hb2
      have HE := hideF (show fmB (m, x) = x.all (fun s => !lineB s.1) by simp only [fmB, usualB, hu, hq, noLines, Bool.true_and])
      cases ha : x.all (fun s => !lineB s.1)
      · have HN := hideF (show false = R by rw [HR.out, HE.out, ha])
        go_wp2
        go_ret
        exact ⟨ret_boolF HN.out, HB2.out⟩
      · have HN := hideF (show true = R by rw [HR.out, HE.out, ha])
        go_wp2
        go_ret
        exact ⟨ret_boolF HN.out, HB2.out⟩

/-- A row of Messages: is it right? -/
theorem enters_fileMessage : ∀ args w, (callFunc 64 args).run Tryz.prog w = .ok (.enter 64 args) w := enters_of Tryz.func64 (by kernel_rfl) rfl
theorem wrongMsg_any (C : Nat) (m : ByteArray) (u : Value) (x : List Seg) (w : World) (hm : m.size ≤ maxLen) (hf : FitsM x) (hr : RSegs 0 w u x) (hC : w.cell? ⟨C, 0, none⟩ = some (.func (.func 64) #[] #[])) :
    Calls Tryz.prog 80 #[.agg #[.string m, u], .pointer (some ⟨C, 0, none⟩)] w fun e w' => e = .returned (.bool (!fmB (m, x))) ∧ Below w.heap.size w w' := by
  obtain ⟨R, hRR⟩ : ∃ R, R = fmB (m, x) := ⟨_, rfl⟩
  rw [← hRR]
  have HRR := hideF hRR
  clear hRR
  have HR := hideF hr
  obtain ⟨p, cap, rfl⟩ := hr.isSlice
  have hb0 : Below w.heap.size w (w.alloc (.cells #[.string m, .slice p x.length cap] 53)) := (Below.refl _ _).alloc (Nat.le_refl _) _
  have HB0 := hideF hb0
  have hlt := World.block_lt_of_cell? w _ hC
  have hC2 := (hb0.cell (p := ⟨C, 0, none⟩) hlt).trans hC
  have eg := enters_fileMessage
  clear hr hb0 hlt
  go_enter Tryz.func80, Tryz.ntmps80
  go_wp2_with fail
  refine (fileMessage_any m _ x _ hm hf (HR.out.below HB0.out)).mono ?_
  rintro e w1 ⟨rfl, hb1⟩
  have HB1 := hideF (HB0.out.trans (hb1.mono HB0.out.size))
  clear hb1
  cases hv : fmB (m, x)
  · have HN := hideF (show true = !R by rw [HRR.out, hv]; rfl)
    go_wp2
    go_ret
    exact ⟨ret_boolF HN.out, HB1.out⟩
  · have HN := hideF (show false = !R by rw [HRR.out, hv]; rfl)
    go_wp2
    go_ret
    exact ⟨ret_boolF HN.out, HB1.out⟩

theorem enters_wrongMsg : ∀ args w, (callFunc 80 args).run Tryz.prog w = .ok (.enter 80 args) w := enters_of Tryz.func80 (by kernel_rfl) rfl
set_option maxHeartbeats 2000000 in
theorem idxMsg_any (C : Nat) (v : Value) (x : List Msg) (w : World) (hf : FitsB x) (hr : RMsgs 0 w v x) (hC : w.cell? ⟨C, 0, none⟩ = some (.func (.func 64) #[] #[])) :
    Calls Tryz.prog 99 #[v, .func (.func 80) #[] #[.pointer (some ⟨C, 0, none⟩)]] w fun e w' => ∃ n : Int, e = .returned (.int .i64 n) ∧ -1 ≤ n ∧ n ≤ 1048576 ∧ decide (0 ≤ n) = !x.all fmB ∧ Below w.heap.size w w' := by
  obtain ⟨p, cap, rfl, h1, h2, h4⟩ := hr
  have H4 := hideF h4
  have hx := hf.1
  have HFF := hideF hf
  have hCl := World.block_lt_of_cell? w _ hC
  clear hf
  clear h4 h1 h2
  obtain ⟨R, hR⟩ : ∃ R, R = x.all fmB := ⟨_, rfl⟩
  rw [← hR]
  have HR := hideF hR
  clear hR
  have eg := enters_wrongMsg
  go_enter Tryz.func99, Tryz.ntmps99
  go_wp2_with fail
  go_loopw [8] (fun i wr => ∃ (X : World) (k : Nat), X = wr ∧ k ≤ x.length ∧ i = .int .i64 k ∧ Hid (∀ j (hj : j < x.length), j < k → fmB x[j] = true) ∧ Hid (Below w.heap.size w X)) (fun i _ => x.length - (intOf i).toNat)
  case atStart => exact ⟨_, 0, rfl, Nat.zero_le _, rfl, fun j _ h => absurd h (by omega), Below.refl _ _⟩
  case round =>
    obtain ⟨X, k, rfl, hk, rfl, HA, HB⟩ := hrel
    by_cases hlt : k < x.length
    · obtain ⟨gg, off, hp, hg, _, hc⟩ := H4.out (by omega)
      subst hp
      obtain ⟨hu, hns, u, hv, hru⟩ := hc k hlt
      have HRU := hideF (hru.below HB.out)
      obtain ⟨up, uc, rfl⟩ := hru.isSlice
      have hck : X.cell? ⟨gg, off + k * 2, none⟩ = some (.string (x[k]'hlt).1) := (HB.out.cell (p := ⟨gg, off + k * 2, none⟩) hg).trans hu
      have hcv : X.cell? ⟨gg, off + k * 2 + 1, none⟩ = some (.slice up (x[k]'hlt).2.length uc) := (HB.out.cell (p := ⟨gg, off + k * 2 + 1, none⟩) hg).trans hv
      have HNS := hideF hns
      clear hu hc hv hru hns
      go_wp2_with fail
      refine (wrongMsg_any C (x[k]'hlt).1 _ (x[k]'hlt).2 _ HNS.out (HFF.out.2 k hlt) HRU.out ((HB.out.cell (p := ⟨C, 0, none⟩) hCl).trans hC)).mono ?_
      rintro e X2 ⟨rfl, hb2⟩
      have HB2 := hideF (HB.out.trans (hb2.mono HB.out.size))
      clear hb2 hck hcv
      cases ho : fmB (x[k]'hlt)
      · have HN := hideF (show false = R by rw [HR.out]; exact (allF_no k hlt ho).symm)
        skip
        go_wp2
        go_ret
        exact ⟨_, rfl, by omega, by omega, by rw [← HN.out]; simp, HB2.out⟩
      · have HA2 := hideF (allF_succ (f := fmB) k HA.out (fun _ => ho))
        skip
        go_wp2
        go_roundw
        case rel => exact ⟨_, k + 1, rfl, by omega, by go_num, HA2, HB2⟩
        case measure => simp [intOf]; omega
    · have HN := hideF (show true = R by rw [HR.out]; exact (allF_yes (fun j hj => HA.out j hj (by omega))).symm)
      go_wp2
      go_ret
      exact ⟨_, rfl, by omega, by omega, by rw [← HN.out]; simp, HB.out⟩
theorem hasMsg_any (C : Nat) (v : Value) (x : List Msg) (w : World) (hf : FitsB x) (hr : RMsgs 0 w v x) (hC : w.cell? ⟨C, 0, none⟩ = some (.func (.func 64) #[] #[])) :
    Calls Tryz.prog 81 #[v, .func (.func 80) #[] #[.pointer (some ⟨C, 0, none⟩)]] w fun e w' => e = .returned (.bool (!x.all fmB)) ∧ Below w.heap.size w w' := by
  have HH := hideF (idxMsg_any C v x w hf hr hC)
  obtain ⟨p, cap, rfl⟩ := hr.isSlice
  clear hr
  obtain ⟨R, hR⟩ : ∃ R, R = x.all fmB := ⟨_, rfl⟩
  rw [← hR] at HH ⊢
  clear hR
  go_enter Tryz.func81, Tryz.ntmps81
  go_wp2_with fail
  refine HH.out.mono ?_
  rintro e w1 ⟨n, rfl, hn1, hn2, hd, hb1⟩
  have HB1 := hideF hb1
  clear hb1
  by_cases hn : 0 ≤ n
  · have HD := hideF (show true = !R by rw [← hd]; simp [hn])
    clear hd
    go_wp2
    go_ret
    exact ⟨ret_boolF HD.out, HB1.out⟩
  · have HD := hideF (show false = !R by rw [← hd]; simp [hn])
    have HD2 := hideF hd
    clear hd
    go_wp2
    go_ret
    first
      | exact ⟨ret_boolF HD.out, HB1.out⟩
      | exact ⟨ret_boolF HD2.out, HB1.out⟩

set_option maxHeartbeats 1000000 in
theorem rowMsg_any (n : Nat) (u : Value) (x : List Msg) (w : World) (hf : FitsB x) (hr : RMsgs 0 w u x) :
    Calls Tryz.prog 63 #[.agg #[.int .i64 (n : Int), u], .func (.func 64) #[] #[]] w fun e w' => e = .returned (.bool (decide (x.length ≤ n) && x.all fmB)) ∧ Below w.heap.size w w' := by
  obtain ⟨R, hRR⟩ : ∃ R, R = x.all fmB := ⟨_, rfl⟩
  rw [← hRR]
  have HRR := hideF hRR
  clear hRR
  have HR := hideF hr
  have HX := hideF hf
  have hl := hf.1
  obtain ⟨p, cap, rfl⟩ := hr.isSlice
  clear hr hf
  have hmf : ∀ (fn : Fn) (first cap : Array Value) (w : World), (Instr.makeFunc fn first cap).run Tryz.prog w = .ok (.func fn first cap) w := fun _ _ _ _ => rfl
  by_cases hlen : x.length ≤ n
  · have hd : decide (x.length ≤ n) = true := decide_eq_true hlen
    have hli : (x.length : Int) ≤ (n : Int) := by omega
    rw [hd, Bool.true_and]
    clear hd
    go_enter Tryz.func63, Tryz.ntmps63
    go_wp2_with fail
    generalize hW : World.alloc _ _ = W
    have hb0 : Below w.heap.size w W := by rw [← hW]; exact ((Below.refl _ _).alloc (Nat.le_refl _) _).alloc (by simp) _
    have hC : W.cell? ⟨w.heap.size + 1, 0, none⟩ = some (.func (.func 64) #[] #[]) := by
      rw [← hW]
      rw [show w.heap.size + 1 = (w.alloc (.cells #[.int .i64 (n : Int), .slice p x.length cap] 72)).heap.size by simp]
      exact new_cell0 _ _ _
    have HB0 := hideF hb0
    clear hb0 hW
    refine (hasMsg_any (w.heap.size + 1) _ x W HX.out (HR.out.below HB0.out) hC).mono ?_
    rintro e w1 ⟨rfl, hb1⟩
    have HB1 := hideF (HB0.out.trans (hb1.mono HB0.out.size))
    clear hb1 hC
    cases hv : x.all fmB
    · have HN := hideF (show false = R by rw [HRR.out, hv])
      go_wp2
      go_ret
      exact ⟨ret_boolF HN.out, HB1.out⟩
    · have HN := hideF (show true = R by rw [HRR.out, hv])
      go_wp2
      go_ret
      exact ⟨ret_boolF HN.out, HB1.out⟩
  · have hd : decide (x.length ≤ n) = false := decide_eq_false hlen
    have hli : ¬ (x.length : Int) ≤ (n : Int) := by omega
    rw [hd, Bool.false_and]
    clear hd
    go_enter Tryz.func63, Tryz.ntmps63
    go_wp2
    go_ret
    exact ⟨rfl, ((Below.refl _ _).alloc (Nat.le_refl _) _).alloc (by simp) _⟩

theorem messagesOf_any (n : ByteArray) (u : Value) (x : List Msg) (w : World) (hr : RMsgs 0 w u x) :
    Calls Tryz.prog 49 #[.agg #[.string n, u]] w fun e w' => e = .returned (.agg #[.int .i64 30, u]) ∧ Below w.heap.size w w' := by
  obtain ⟨p, cap, rfl⟩ := hr.isSlice
  have hb1 : Below w.heap.size w (w.alloc (.cells #[.string n, .slice p x.length cap] 49)) := (Below.refl _ _).alloc (Nat.le_refl _) _
  have HB := hideF (hb1.alloc hb1.size (.cells #[.int .i64 30, .slice p x.length cap] 72))
  clear hb1
  go_enter Tryz.func49, Tryz.ntmps49
  go_wp2
  exact bodyPost_ret (v := .agg #[.int .i64 30, .slice p x.length cap]) (by simp [results, Tryz.results49, go_sem]) rfl ⟨rfl, HB.out⟩

set_option maxHeartbeats 2000000 in
theorem batchRight_any (n : ByteArray) (u : Value) (x : List Msg) (w : World) (hm : n.size ≤ maxLen) (hf : FitsB x) (hr : RMsgs 0 w u x) :
    Calls Tryz.prog 35 #[.agg #[.string n, u]] w fun e w' => e = .returned (.bool (batB (n, x))) ∧ Below w.heap.size w w' := by
  obtain ⟨R, hR⟩ : ∃ R, R = batB (n, x) := ⟨_, rfl⟩
  rw [← hR]
  have HR := hideF hR
  have HX := hideF hr
  obtain ⟨p, cap, rfl⟩ := hr.isSlice
  have hb0 : Below w.heap.size w (w.alloc (.cells #[.string n, .slice p x.length cap] 49)) := (Below.refl _ _).alloc (Nat.le_refl _) _
  have HB0 := hideF hb0
  clear hr hR hb0
  go_enter Tryz.func35, Tryz.ntmps35
  go_wp2_with fail
  refine (implNameRight_any n _ hm).mono ?_
  rintro e w1 ⟨rfl, rfl⟩
  cases hq : idB n
  · have HN := hideF (show false = R by rw [HR.out]; simp only [batB, hq, Bool.false_and])
    go_wp2
    go_ret
    exact ⟨ret_boolF HN.out, HB0.out⟩
  · have HE := hideF (show R = (decide (x.length ≤ 30) && x.all fmB) by rw [HR.out]; simp only [batB, hq, Bool.true_and])
    go_wp2_with fail
    refine (messagesOf_any n _ x _ (HX.out.below HB0.out)).mono ?_
    rintro e w2 ⟨rfl, hb2⟩
    have HB2 := hideF (HB0.out.trans (hb2.mono HB0.out.size))
    clear hb2
    go_wp2_with fail
    refine (rowMsg_any 30 _ x _ hf (HX.out.below HB2.out)).mono ?_
    rintro e w3 ⟨rfl, hb3⟩
    have HB3 := hideF (HB2.out.trans (hb3.mono HB2.out.size))
    clear hb3
    cases hv : (decide (x.length ≤ 30) && x.all fmB)
    · have HN := hideF (show false = R by rw [HE.out, hv])
      go_wp2
      go_ret
      exact ⟨ret_boolF HN.out, HB3.out⟩
    · have HN := hideF (show true = R by rw [HE.out, hv])
      go_wp2
      go_ret
      exact ⟨ret_boolF HN.out, HB3.out⟩

/-- A row of Batchs: is it right? -/
theorem enters_batchRight : ∀ args w, (callFunc 35 args).run Tryz.prog w = .ok (.enter 35 args) w := enters_of Tryz.func35 (by kernel_rfl) rfl
theorem wrongBat_any (C : Nat) (m : ByteArray) (u : Value) (x : List Msg) (w : World) (hm : m.size ≤ maxLen) (hf : FitsB x) (hr : RMsgs 0 w u x) (hC : w.cell? ⟨C, 0, none⟩ = some (.func (.func 35) #[] #[])) :
    Calls Tryz.prog 61 #[.agg #[.string m, u], .pointer (some ⟨C, 0, none⟩)] w fun e w' => e = .returned (.bool (!batB (m, x))) ∧ Below w.heap.size w w' := by
  obtain ⟨R, hRR⟩ : ∃ R, R = batB (m, x) := ⟨_, rfl⟩
  rw [← hRR]
  have HRR := hideF hRR
  clear hRR
  have HR := hideF hr
  obtain ⟨p, cap, rfl⟩ := hr.isSlice
  have hb0 : Below w.heap.size w (w.alloc (.cells #[.string m, .slice p x.length cap] 49)) := (Below.refl _ _).alloc (Nat.le_refl _) _
  have HB0 := hideF hb0
  have hlt := World.block_lt_of_cell? w _ hC
  have hC2 := (hb0.cell (p := ⟨C, 0, none⟩) hlt).trans hC
  have eg := enters_batchRight
  clear hr hb0 hlt
  go_enter Tryz.func61, Tryz.ntmps61
  go_wp2_with fail
  refine (batchRight_any m _ x _ hm hf (HR.out.below HB0.out)).mono ?_
  rintro e w1 ⟨rfl, hb1⟩
  have HB1 := hideF (HB0.out.trans (hb1.mono HB0.out.size))
  clear hb1
  cases hv : batB (m, x)
  · have HN := hideF (show true = !R by rw [HRR.out, hv]; rfl)
    go_wp2
    go_ret
    exact ⟨ret_boolF HN.out, HB1.out⟩
  · have HN := hideF (show false = !R by rw [HRR.out, hv]; rfl)
    go_wp2
    go_ret
    exact ⟨ret_boolF HN.out, HB1.out⟩

theorem enters_wrongBat : ∀ args w, (callFunc 61 args).run Tryz.prog w = .ok (.enter 61 args) w := enters_of Tryz.func61 (by kernel_rfl) rfl
set_option maxHeartbeats 2000000 in
theorem idxBat_any (C : Nat) (v : Value) (x : List Bat) (w : World) (hf : FitsF x) (hr : RBats 0 w v x) (hC : w.cell? ⟨C, 0, none⟩ = some (.func (.func 35) #[] #[])) :
    Calls Tryz.prog 79 #[v, .func (.func 61) #[] #[.pointer (some ⟨C, 0, none⟩)]] w fun e w' => ∃ n : Int, e = .returned (.int .i64 n) ∧ -1 ≤ n ∧ n ≤ 1048576 ∧ decide (0 ≤ n) = !x.all batB ∧ Below w.heap.size w w' := by
  obtain ⟨p, cap, rfl, h1, h2, h4⟩ := hr
  have H4 := hideF h4
  have hx := hf.1
  have HFF := hideF hf
  have hCl := World.block_lt_of_cell? w _ hC
  clear hf
  clear h4 h1 h2
  obtain ⟨R, hR⟩ : ∃ R, R = x.all batB := ⟨_, rfl⟩
  rw [← hR]
  have HR := hideF hR
  clear hR
  have eg := enters_wrongBat
  go_enter Tryz.func79, Tryz.ntmps79
  go_wp2_with fail
  go_loopw [8] (fun i wr => ∃ (X : World) (k : Nat), X = wr ∧ k ≤ x.length ∧ i = .int .i64 k ∧ Hid (∀ j (hj : j < x.length), j < k → batB x[j] = true) ∧ Hid (Below w.heap.size w X)) (fun i _ => x.length - (intOf i).toNat)
  case atStart => exact ⟨_, 0, rfl, Nat.zero_le _, rfl, fun j _ h => absurd h (by omega), Below.refl _ _⟩
  case round =>
    obtain ⟨X, k, rfl, hk, rfl, HA, HB⟩ := hrel
    by_cases hlt : k < x.length
    · obtain ⟨gg, off, hp, hg, _, hc⟩ := H4.out (by omega)
      subst hp
      obtain ⟨hu, hns, u, hv, hru⟩ := hc k hlt
      have HRU := hideF (hru.below HB.out)
      obtain ⟨up, uc, rfl⟩ := hru.isSlice
      have hck : X.cell? ⟨gg, off + k * 2, none⟩ = some (.string (x[k]'hlt).1) := (HB.out.cell (p := ⟨gg, off + k * 2, none⟩) hg).trans hu
      have hcv : X.cell? ⟨gg, off + k * 2 + 1, none⟩ = some (.slice up (x[k]'hlt).2.length uc) := (HB.out.cell (p := ⟨gg, off + k * 2 + 1, none⟩) hg).trans hv
      have HNS := hideF hns
      clear hu hc hv hru hns
      go_wp2_with fail
      refine (wrongBat_any C (x[k]'hlt).1 _ (x[k]'hlt).2 _ HNS.out (HFF.out.2 k hlt) HRU.out ((HB.out.cell (p := ⟨C, 0, none⟩) hCl).trans hC)).mono ?_
      rintro e X2 ⟨rfl, hb2⟩
      have HB2 := hideF (HB.out.trans (hb2.mono HB.out.size))
      clear hb2 hck hcv
      cases ho : batB (x[k]'hlt)
      · have HN := hideF (show false = R by rw [HR.out]; exact (allF_no k hlt ho).symm)
        skip
        go_wp2
        go_ret
        exact ⟨_, rfl, by omega, by omega, by rw [← HN.out]; simp, HB2.out⟩
      · have HA2 := hideF (allF_succ (f := batB) k HA.out (fun _ => ho))
        skip
        go_wp2
        go_roundw
        case rel => exact ⟨_, k + 1, rfl, by omega, by go_num, HA2, HB2⟩
        case measure => simp [intOf]; omega
    · have HN := hideF (show true = R by rw [HR.out]; exact (allF_yes (fun j hj => HA.out j hj (by omega))).symm)
      go_wp2
      go_ret
      exact ⟨_, rfl, by omega, by omega, by rw [← HN.out]; simp, HB.out⟩
theorem hasBat_any (C : Nat) (v : Value) (x : List Bat) (w : World) (hf : FitsF x) (hr : RBats 0 w v x) (hC : w.cell? ⟨C, 0, none⟩ = some (.func (.func 35) #[] #[])) :
    Calls Tryz.prog 62 #[v, .func (.func 61) #[] #[.pointer (some ⟨C, 0, none⟩)]] w fun e w' => e = .returned (.bool (!x.all batB)) ∧ Below w.heap.size w w' := by
  have HH := hideF (idxBat_any C v x w hf hr hC)
  obtain ⟨p, cap, rfl⟩ := hr.isSlice
  clear hr
  obtain ⟨R, hR⟩ : ∃ R, R = x.all batB := ⟨_, rfl⟩
  rw [← hR] at HH ⊢
  clear hR
  go_enter Tryz.func62, Tryz.ntmps62
  go_wp2_with fail
  refine HH.out.mono ?_
  rintro e w1 ⟨n, rfl, hn1, hn2, hd, hb1⟩
  have HB1 := hideF hb1
  clear hb1
  by_cases hn : 0 ≤ n
  · have HD := hideF (show true = !R by rw [← hd]; simp [hn])
    clear hd
    go_wp2
    go_ret
    exact ⟨ret_boolF HD.out, HB1.out⟩
  · have HD := hideF (show false = !R by rw [← hd]; simp [hn])
    have HD2 := hideF hd
    clear hd
    go_wp2
    go_ret
    first
      | exact ⟨ret_boolF HD.out, HB1.out⟩
      | exact ⟨ret_boolF HD2.out, HB1.out⟩

set_option maxHeartbeats 1000000 in
theorem rowBat_any (n : Nat) (u : Value) (x : List Bat) (w : World) (hf : FitsF x) (hr : RBats 0 w u x) :
    Calls Tryz.prog 34 #[.agg #[.int .i64 (n : Int), u], .func (.func 35) #[] #[]] w fun e w' => e = .returned (.bool (decide (x.length ≤ n) && x.all batB)) ∧ Below w.heap.size w w' := by
  obtain ⟨R, hRR⟩ : ∃ R, R = x.all batB := ⟨_, rfl⟩
  rw [← hRR]
  have HRR := hideF hRR
  clear hRR
  have HR := hideF hr
  have HX := hideF hf
  have hl := hf.1
  obtain ⟨p, cap, rfl⟩ := hr.isSlice
  clear hr hf
  have hmf : ∀ (fn : Fn) (first cap : Array Value) (w : World), (Instr.makeFunc fn first cap).run Tryz.prog w = .ok (.func fn first cap) w := fun _ _ _ _ => rfl
  by_cases hlen : x.length ≤ n
  · have hd : decide (x.length ≤ n) = true := decide_eq_true hlen
    have hli : (x.length : Int) ≤ (n : Int) := by omega
    rw [hd, Bool.true_and]
    clear hd
    go_enter Tryz.func34, Tryz.ntmps34
    go_wp2_with fail
    generalize hW : World.alloc _ _ = W
    have hb0 : Below w.heap.size w W := by rw [← hW]; exact ((Below.refl _ _).alloc (Nat.le_refl _) _).alloc (by simp) _
    have hC : W.cell? ⟨w.heap.size + 1, 0, none⟩ = some (.func (.func 35) #[] #[]) := by
      rw [← hW]
      rw [show w.heap.size + 1 = (w.alloc (.cells #[.int .i64 (n : Int), .slice p x.length cap] 56)).heap.size by simp]
      exact new_cell0 _ _ _
    have HB0 := hideF hb0
    clear hb0 hW
    refine (hasBat_any (w.heap.size + 1) _ x W HX.out (HR.out.below HB0.out) hC).mono ?_
    rintro e w1 ⟨rfl, hb1⟩
    have HB1 := hideF (HB0.out.trans (hb1.mono HB0.out.size))
    clear hb1 hC
    cases hv : x.all batB
    · have HN := hideF (show false = R by rw [HRR.out, hv])
      go_wp2
      go_ret
      exact ⟨ret_boolF HN.out, HB1.out⟩
    · have HN := hideF (show true = R by rw [HRR.out, hv])
      go_wp2
      go_ret
      exact ⟨ret_boolF HN.out, HB1.out⟩
  · have hd : decide (x.length ≤ n) = false := decide_eq_false hlen
    have hli : ¬ (x.length : Int) ≤ (n : Int) := by omega
    rw [hd, Bool.false_and]
    clear hd
    go_enter Tryz.func34, Tryz.ntmps34
    go_wp2
    go_ret
    exact ⟨rfl, ((Below.refl _ _).alloc (Nat.le_refl _) _).alloc (by simp) _⟩

theorem batchesOf_any (n : ByteArray) (u : Value) (x : List Bat) (w : World) (hr : RBats 0 w u x) :
    Calls Tryz.prog 33 #[.agg #[.string n, u]] w fun e w' => e = .returned (.agg #[.int .i64 10, u]) ∧ Below w.heap.size w w' := by
  obtain ⟨p, cap, rfl⟩ := hr.isSlice
  have hb1 : Below w.heap.size w (w.alloc (.cells #[.string n, .slice p x.length cap] 29)) := (Below.refl _ _).alloc (Nat.le_refl _) _
  have HB := hideF (hb1.alloc hb1.size (.cells #[.int .i64 10, .slice p x.length cap] 56))
  clear hb1
  go_enter Tryz.func33, Tryz.ntmps33
  go_wp2
  exact bodyPost_ret (v := .agg #[.int .i64 10, .slice p x.length cap]) (by simp [results, Tryz.results33, go_sem]) rfl ⟨rfl, HB.out⟩

set_option maxHeartbeats 2000000 in
theorem fileRight_any (n : ByteArray) (u : Value) (x : List Bat) (w : World) (hm : n.size ≤ maxLen) (hf : FitsF x) (hr : RBats 0 w u x) :
    Calls Tryz.prog 11 #[.agg #[.string n, u]] w fun e w' => e = .returned (.bool (filB n x)) ∧ Below w.heap.size w w' := by
  obtain ⟨R, hR⟩ : ∃ R, R = filB n x := ⟨_, rfl⟩
  rw [← hR]
  have HR := hideF hR
  have HX := hideF hr
  obtain ⟨p, cap, rfl⟩ := hr.isSlice
  have hb0 : Below w.heap.size w (w.alloc (.cells #[.string n, .slice p x.length cap] 29)) := (Below.refl _ _).alloc (Nat.le_refl _) _
  have HB0 := hideF hb0
  clear hr hR hb0
  go_enter Tryz.func11, Tryz.ntmps11
  go_wp2_with fail
  refine (implNameRight_any n _ hm).mono ?_
  rintro e w1 ⟨rfl, rfl⟩
  cases hq : idB n
  · have HN := hideF (show false = R by rw [HR.out]; simp only [filB, hq, Bool.false_and])
    go_wp2
    go_ret
    exact ⟨ret_boolF HN.out, HB0.out⟩
  · have HE := hideF (show R = (decide (x.length ≤ 10) && x.all batB) by rw [HR.out]; simp only [filB, hq, Bool.true_and])
    go_wp2_with fail
    refine (batchesOf_any n _ x _ (HX.out.below HB0.out)).mono ?_
    rintro e w2 ⟨rfl, hb2⟩
    have HB2 := hideF (HB0.out.trans (hb2.mono HB0.out.size))
    clear hb2
    go_wp2_with fail
    refine (rowBat_any 10 _ x _ hf (HX.out.below HB2.out)).mono ?_
    rintro e w3 ⟨rfl, hb3⟩
    have HB3 := hideF (HB2.out.trans (hb3.mono HB2.out.size))
    clear hb3
    cases hv : (decide (x.length ≤ 10) && x.all batB)
    · have HN := hideF (show false = R by rw [HE.out, hv])
      go_wp2
      go_ret
      exact ⟨ret_boolF HN.out, HB3.out⟩
    · have HN := hideF (show true = R by rw [HE.out, hv])
      go_wp2
      go_ret
      exact ⟨ret_boolF HN.out, HB3.out⟩
end Go.Proofs.YtholbhjfmfanbaaGreat
/- FileRight of the model. -/
namespace Go.Proofs.YtholbhjfmfanbaaGreat
open Go.RowKit
set_option maxHeartbeats 1000000 in
theorem l08Own_any (n : ByteArray) (w : World) :
    Calls Tryz.prog 58 #[.string n] w fun e w' => e = .returned (.bool (lineB n)) ∧ w' = w := by
  unfold lineB
  cases h1 : (n.toList == [70, 72, 83])
  case true =>
    go_enter Tryz.func58, Tryz.ntmps58
    go_wp2
    go_ret
    exact ⟨rfl, rfl⟩
  cases h2 : (n.toList == [66, 72, 83])
  case true =>
    go_enter Tryz.func58, Tryz.ntmps58
    go_wp2
    go_ret
    exact ⟨rfl, rfl⟩
  cases h3 : (n.toList == [66, 84, 83])
  case true =>
    go_enter Tryz.func58, Tryz.ntmps58
    go_wp2
    go_ret
    exact ⟨rfl, rfl⟩
  cases h4 : (n.toList == [70, 84, 83])
  all_goals
    go_enter Tryz.func58, Tryz.ntmps58
    go_wp2
    go_ret
    exact ⟨rfl, rfl⟩
theorem l08Marks_any (w : World) :
    Calls Tryz.prog 57 #[] w fun e w' => e = .returned (.string ⟨#[124, 94, 126, 92, 38]⟩) ∧ w' = w := by
  go_enter Tryz.func57, Tryz.ntmps57
  go_wp2
  go_ret
  exact ⟨rfl, rfl⟩
set_option maxHeartbeats 4000000 in
theorem l08Message_any (m : ByteArray) (u : Value) (x : List Seg) (w : World) (hm : m.size ≤ maxLen) (hf : FitsM x) (hr : RSegs 0 w u x) :
    Calls Tryz.prog 30 #[.agg #[.string m, u]] w fun e w' => e = .returned (.bool (fmB (m, x))) ∧ Below w.heap.size w w' := by
  obtain ⟨R, hR⟩ : ∃ R, R = fmB (m, x) := ⟨_, rfl⟩
  rw [← hR]
  have HR := hideF hR
  clear hR
  have HX := hideF hr
  have hl := hf.1
  have HF := hideF hf
  obtain ⟨p, cap, rfl, h1, h2, h4⟩ := hr
  have H4 := hideF h4
  unfold maxLen at h2
  clear h4 hf
  obtain ⟨W, hW⟩ : ∃ W, W = w.alloc (.cells #[.string m, .slice p x.length cap] 53) := ⟨_, rfl⟩
  have hb0 : Below w.heap.size w W := by rw [hW]; exact (Below.refl _ _).alloc (Nat.le_refl _) _
  have HB0 := hideF hb0
  have HRow0 : Hid (Row W w.heap.size 53 [.string m, .slice p x.length cap]) := by rw [hW]; exact row_new w [.string m, .slice p x.length cap] 53
  have HSS := hideF (show ∀ y, Below W.heap.size W y → y.cell? ⟨w.heap.size, 0, none⟩ = some (.string m) ∧ y.cell? ⟨w.heap.size, 1, none⟩ = some (.slice p x.length cap) from
    fun y h => ⟨(HRow0.out.below h HRow0.out.lt).cell 0, (HRow0.out.below h HRow0.out.lt).cell 1⟩)
  clear hb0
  -- @GEN
  cases hq : msgB m x
  · have HC := hideF (fun (X : World) (hX : Below W.heap.size W X) => by
      have := specMessage_any m _ x 0 X hm HF.out (HX.out.below (HB0.out.trans (hX.mono HB0.out.size)))
      rw [hq] at this
      exact this)
    have HN := hideF (show false = R by rw [HR.out]; exact (fmB_right (m := (m, x)) hq).symm)
    clear hq
    go_enter Tryz.func30, Tryz.ntmps30
    go_wp2_with fail
    rw [← hW]
    clear hW
    refine wp_region_held (S := (fun y : World => y.cell? ⟨w.heap.size, 0, none⟩ = some (.string m) ∧ y.cell? ⟨w.heap.size, 1, none⟩ = some (.slice p x.length cap))) (by kernel_rfl) ?_
    have HX0 : Hid (Below W.heap.size W { W with drawn := W.drawn + 1 }) := (Below.refl _ _).drew
    generalize ({ W with drawn := W.drawn + 1 } : World) = X0 at HX0 ⊢
    have HS := hideF (HSS.out _ HX0.out)
    refine wpAnyH_take (i := 0) (oi := _) (v := .agg #[.string m, .slice p x.length cap]) rfl (by kernel_rfl) (by kernel_rfl) (by kernel_rfl) (fun _ _ _ h => h) (Or.inl ⟨by rfl, by intro w hSw; go_split_ands; go_simp⟩) HS.out ?_
    simp only [Act.put, List.getElem_toArray, List.getElem_cons_zero, List.setIfInBounds_toArray, List.set_cons_zero, List.set_cons_succ]
    refine wpAnyH_ready (rs := [1]) (by kernel_rfl) (by simp) ?_
    refine AllReadyH.cons (o := _) rfl (fun K hK => ?_) AllReadyH.nil
    go_simp
    refine (HC.out X0 HX0.out).mono ?_
    rintro e X1 ⟨rfl, hb1⟩
    have HX1 := hideF (HX0.out.trans (hb1.mono HX0.out.size))
    refine hK.out _ _ (HSS.out _ HX1.out) (fun _ => ?_)
    clear hK K HS hb1 HX0
    have HS := hideF (HSS.out _ HX1.out)
    try simp only [Act.put, List.getElem_toArray, List.getElem_cons_zero, List.getElem_cons_succ, List.setIfInBounds_toArray, List.set_cons_zero, List.set_cons_succ]
    refine wpAnyH_take (i := 2) (oi := _) (v := .bool true) rfl (by kernel_rfl) (by kernel_rfl) (by kernel_rfl) (fun _ _ _ h => h) (Or.inl ⟨by rfl, by intro w hSw; go_split_ands; go_simp⟩) HS.out ?_
    simp only [Act.put, List.getElem_toArray, List.getElem_cons_zero, List.getElem_cons_succ, List.setIfInBounds_toArray, List.set_cons_zero, List.set_cons_succ]
    refine wpAnyH_take (i := 3) (oi := _) (v := .bool true) rfl (by kernel_rfl) (by kernel_rfl) (by kernel_rfl) (fun _ _ _ h => h) (Or.inl ⟨by rfl, by intro w hSw; go_split_ands; go_simp⟩) HS.out ?_
    simp only [Act.put, List.getElem_toArray, List.getElem_cons_zero, List.getElem_cons_succ, List.setIfInBounds_toArray, List.set_cons_zero, List.set_cons_succ]
    refine wpAnyH_take (i := 4) (oi := _) (v := undef) rfl (by kernel_rfl) (by kernel_rfl) (by kernel_rfl) (fun _ _ _ h => h) (Or.inr ⟨by rfl, rfl⟩) HS.out ?_
    simp only [Act.put, List.getElem_toArray, List.getElem_cons_zero, List.getElem_cons_succ, List.setIfInBounds_toArray, List.set_cons_zero, List.set_cons_succ]
    refine wpAnyH_take (i := 5) (oi := _) (v := undef) rfl (by kernel_rfl) (by kernel_rfl) (by kernel_rfl) (fun _ _ _ h => h) (Or.inr ⟨by rfl, rfl⟩) HS.out ?_
    simp only [Act.put, List.getElem_toArray, List.getElem_cons_zero, List.getElem_cons_succ, List.setIfInBounds_toArray, List.set_cons_zero, List.set_cons_succ]
    refine wpAnyH_take (i := 6) (oi := _) (v := undef) rfl (by kernel_rfl) (by kernel_rfl) (by kernel_rfl) (fun _ _ _ h => h) (Or.inr ⟨by rfl, rfl⟩) HS.out ?_
    simp only [Act.put, List.getElem_toArray, List.getElem_cons_zero, List.getElem_cons_succ, List.setIfInBounds_toArray, List.set_cons_zero, List.set_cons_succ]
    refine wpAnyH_take (i := 7) (oi := _) (v := undef) rfl (by kernel_rfl) (by kernel_rfl) (by kernel_rfl) (fun _ _ _ h => h) (Or.inr ⟨by rfl, rfl⟩) HS.out ?_
    simp only [Act.put, List.getElem_toArray, List.getElem_cons_zero, List.getElem_cons_succ, List.setIfInBounds_toArray, List.set_cons_zero, List.set_cons_succ]
    refine wpAnyH_take (i := 8) (oi := _) (v := .bool true) rfl (by kernel_rfl) (by kernel_rfl) (by kernel_rfl) (fun _ _ _ h => h) (Or.inl ⟨by rfl, by intro w hSw; go_split_ands; go_simp⟩) HS.out ?_
    simp only [Act.put, List.getElem_toArray, List.getElem_cons_zero, List.getElem_cons_succ, List.setIfInBounds_toArray, List.set_cons_zero, List.set_cons_succ]
    refine wpAnyH_done (by kernel_rfl) ?_ _
    have HB6 := hideF (HB0.out.trans (HX1.out.mono HB0.out.size))
    go_wp2
    go_ret
    exact ⟨ret_boolF HN.out, HB6.out⟩
  · have HC := hideF (fun (X : World) (hX : Below W.heap.size W X) => by
      have := specMessage_any m _ x 0 X hm HF.out (HX.out.below (HB0.out.trans (hX.mono HB0.out.size)))
      rw [hq] at this
      exact this)
    have HQ := hideF hq
    clear hq
    cases hu : (m.toList == [124, 94, 126, 92, 38])
    · have HN := hideF (show false = R by rw [HR.out]; exact (fmB_marks (m := (m, x)) hu).symm)
      go_enter Tryz.func30, Tryz.ntmps30
      go_wp2_with fail
      rw [← hW]
      clear hW
      refine wp_region_held (S := (fun y : World => y.cell? ⟨w.heap.size, 0, none⟩ = some (.string m) ∧ y.cell? ⟨w.heap.size, 1, none⟩ = some (.slice p x.length cap))) (by kernel_rfl) ?_
      have HX0 : Hid (Below W.heap.size W { W with drawn := W.drawn + 1 }) := (Below.refl _ _).drew
      generalize ({ W with drawn := W.drawn + 1 } : World) = X0 at HX0 ⊢
      have HS := hideF (HSS.out _ HX0.out)
      refine wpAnyH_take (i := 0) (oi := _) (v := .agg #[.string m, .slice p x.length cap]) rfl (by kernel_rfl) (by kernel_rfl) (by kernel_rfl) (fun _ _ _ h => h) (Or.inl ⟨by rfl, by intro w hSw; go_split_ands; go_simp⟩) HS.out ?_
      simp only [Act.put, List.getElem_toArray, List.getElem_cons_zero, List.setIfInBounds_toArray, List.set_cons_zero, List.set_cons_succ]
      refine wpAnyH_ready (rs := [1]) (by kernel_rfl) (by simp) ?_
      refine AllReadyH.cons (o := _) rfl (fun K hK => ?_) AllReadyH.nil
      go_simp
      refine (HC.out X0 HX0.out).mono ?_
      rintro e X1 ⟨rfl, hb1⟩
      have HX1 := hideF (HX0.out.trans (hb1.mono HX0.out.size))
      refine hK.out _ _ (HSS.out _ HX1.out) (fun _ => ?_)
      clear hK K HS hb1 HX0
      have HS := hideF (HSS.out _ HX1.out)
      try simp only [Act.put, List.getElem_toArray, List.getElem_cons_zero, List.getElem_cons_succ, List.setIfInBounds_toArray, List.set_cons_zero, List.set_cons_succ]
      refine wpAnyH_take (i := 2) (oi := _) (v := .bool false) rfl (by kernel_rfl) (by kernel_rfl) (by kernel_rfl) (fun _ _ _ h => h) (Or.inl ⟨by rfl, by intro w hSw; go_split_ands; go_simp⟩) HS.out ?_
      simp only [Act.put, List.getElem_toArray, List.getElem_cons_zero, List.getElem_cons_succ, List.setIfInBounds_toArray, List.set_cons_zero, List.set_cons_succ]
      refine wpAnyH_take (i := 3) (oi := _) (v := .bool false) rfl (by kernel_rfl) (by kernel_rfl) (by kernel_rfl) (fun _ _ _ h => h) (Or.inl ⟨by rfl, by intro w hSw; go_split_ands; go_simp⟩) HS.out ?_
      simp only [Act.put, List.getElem_toArray, List.getElem_cons_zero, List.getElem_cons_succ, List.setIfInBounds_toArray, List.set_cons_zero, List.set_cons_succ]
      refine wpAnyH_take (i := 4) (oi := _) (v := .pointer (some ⟨w.heap.size, 0, none⟩)) rfl (by kernel_rfl) (by kernel_rfl) (by kernel_rfl) (fun _ _ _ h => h) (Or.inl ⟨by rfl, by intro w hSw; go_split_ands; go_simp⟩) HS.out ?_
      simp only [Act.put, List.getElem_toArray, List.getElem_cons_zero, List.getElem_cons_succ, List.setIfInBounds_toArray, List.set_cons_zero, List.set_cons_succ]
      refine wpAnyH_take (i := 5) (oi := _) (v := .string m) rfl (by kernel_rfl) (by kernel_rfl) (by kernel_rfl) (fun _ _ _ h => h) (Or.inl ⟨by rfl, by intro w hSw; go_split_ands; go_simp⟩) HS.out ?_
      simp only [Act.put, List.getElem_toArray, List.getElem_cons_zero, List.getElem_cons_succ, List.setIfInBounds_toArray, List.set_cons_zero, List.set_cons_succ]
      refine wpAnyH_ready (rs := [6]) (by kernel_rfl) (by simp) ?_
      refine AllReadyH.cons (o := _) rfl (fun K hK => ?_) AllReadyH.nil
      go_simp
      refine (l08Marks_any _).mono ?_
      rintro e _ ⟨rfl, rfl⟩
      refine hK.out _ _ HS.out (fun _ => ?_)
      clear hK K
      try simp only [Act.put, List.getElem_toArray, List.getElem_cons_zero, List.getElem_cons_succ, List.setIfInBounds_toArray, List.set_cons_zero, List.set_cons_succ]
      refine wpAnyH_take (i := 7) (oi := _) (v := .bool true) rfl (by kernel_rfl) (by kernel_rfl) (by kernel_rfl) (fun _ _ _ h => h) (Or.inl ⟨by rfl, by intro w hSw; go_split_ands; go_simp⟩) HS.out ?_
      simp only [Act.put, List.getElem_toArray, List.getElem_cons_zero, List.getElem_cons_succ, List.setIfInBounds_toArray, List.set_cons_zero, List.set_cons_succ]
      refine wpAnyH_take (i := 8) (oi := _) (v := .bool true) rfl (by kernel_rfl) (by kernel_rfl) (by kernel_rfl) (fun _ _ _ h => h) (Or.inl ⟨by rfl, by intro w hSw; go_split_ands; go_simp⟩) HS.out ?_
      simp only [Act.put, List.getElem_toArray, List.getElem_cons_zero, List.getElem_cons_succ, List.setIfInBounds_toArray, List.set_cons_zero, List.set_cons_succ]
      refine wpAnyH_done (by kernel_rfl) ?_ _
      have HB6 := hideF (HB0.out.trans (HX1.out.mono HB0.out.size))
      go_wp2
      go_ret
      exact ⟨ret_boolF HN.out, HB6.out⟩
    · have HU := hideF hu
      go_enter Tryz.func30, Tryz.ntmps30
      go_wp2_with fail
      rw [← hW]
      clear hW
      refine wp_region_held (S := (fun y : World => y.cell? ⟨w.heap.size, 0, none⟩ = some (.string m) ∧ y.cell? ⟨w.heap.size, 1, none⟩ = some (.slice p x.length cap))) (by kernel_rfl) ?_
      have HX0 : Hid (Below W.heap.size W { W with drawn := W.drawn + 1 }) := (Below.refl _ _).drew
      generalize ({ W with drawn := W.drawn + 1 } : World) = X0 at HX0 ⊢
      have HS := hideF (HSS.out _ HX0.out)
      refine wpAnyH_take (i := 0) (oi := _) (v := .agg #[.string m, .slice p x.length cap]) rfl (by kernel_rfl) (by kernel_rfl) (by kernel_rfl) (fun _ _ _ h => h) (Or.inl ⟨by rfl, by intro w hSw; go_split_ands; go_simp⟩) HS.out ?_
      simp only [Act.put, List.getElem_toArray, List.getElem_cons_zero, List.setIfInBounds_toArray, List.set_cons_zero, List.set_cons_succ]
      refine wpAnyH_ready (rs := [1]) (by kernel_rfl) (by simp) ?_
      refine AllReadyH.cons (o := _) rfl (fun K hK => ?_) AllReadyH.nil
      go_simp
      refine (HC.out X0 HX0.out).mono ?_
      rintro e X1 ⟨rfl, hb1⟩
      have HX1 := hideF (HX0.out.trans (hb1.mono HX0.out.size))
      refine hK.out _ _ (HSS.out _ HX1.out) (fun _ => ?_)
      clear hK K HS hb1 HX0
      have HS := hideF (HSS.out _ HX1.out)
      try simp only [Act.put, List.getElem_toArray, List.getElem_cons_zero, List.getElem_cons_succ, List.setIfInBounds_toArray, List.set_cons_zero, List.set_cons_succ]
      refine wpAnyH_take (i := 2) (oi := _) (v := .bool false) rfl (by kernel_rfl) (by kernel_rfl) (by kernel_rfl) (fun _ _ _ h => h) (Or.inl ⟨by rfl, by intro w hSw; go_split_ands; go_simp⟩) HS.out ?_
      simp only [Act.put, List.getElem_toArray, List.getElem_cons_zero, List.getElem_cons_succ, List.setIfInBounds_toArray, List.set_cons_zero, List.set_cons_succ]
      refine wpAnyH_take (i := 3) (oi := _) (v := .bool false) rfl (by kernel_rfl) (by kernel_rfl) (by kernel_rfl) (fun _ _ _ h => h) (Or.inl ⟨by rfl, by intro w hSw; go_split_ands; go_simp⟩) HS.out ?_
      simp only [Act.put, List.getElem_toArray, List.getElem_cons_zero, List.getElem_cons_succ, List.setIfInBounds_toArray, List.set_cons_zero, List.set_cons_succ]
      refine wpAnyH_take (i := 4) (oi := _) (v := .pointer (some ⟨w.heap.size, 0, none⟩)) rfl (by kernel_rfl) (by kernel_rfl) (by kernel_rfl) (fun _ _ _ h => h) (Or.inl ⟨by rfl, by intro w hSw; go_split_ands; go_simp⟩) HS.out ?_
      simp only [Act.put, List.getElem_toArray, List.getElem_cons_zero, List.getElem_cons_succ, List.setIfInBounds_toArray, List.set_cons_zero, List.set_cons_succ]
      refine wpAnyH_take (i := 5) (oi := _) (v := .string m) rfl (by kernel_rfl) (by kernel_rfl) (by kernel_rfl) (fun _ _ _ h => h) (Or.inl ⟨by rfl, by intro w hSw; go_split_ands; go_simp⟩) HS.out ?_
      simp only [Act.put, List.getElem_toArray, List.getElem_cons_zero, List.getElem_cons_succ, List.setIfInBounds_toArray, List.set_cons_zero, List.set_cons_succ]
      refine wpAnyH_ready (rs := [6]) (by kernel_rfl) (by simp) ?_
      refine AllReadyH.cons (o := _) rfl (fun K hK => ?_) AllReadyH.nil
      go_simp
      refine (l08Marks_any _).mono ?_
      rintro e _ ⟨rfl, rfl⟩
      refine hK.out _ _ HS.out (fun _ => ?_)
      clear hK K
      try simp only [Act.put, List.getElem_toArray, List.getElem_cons_zero, List.getElem_cons_succ, List.setIfInBounds_toArray, List.set_cons_zero, List.set_cons_succ]
      refine wpAnyH_take (i := 7) (oi := _) (v := .bool false) rfl (by kernel_rfl) (by kernel_rfl) (by kernel_rfl) (fun _ _ _ h => h) (Or.inl ⟨by rfl, by intro w hSw; go_split_ands; go_simp⟩) HS.out ?_
      simp only [Act.put, List.getElem_toArray, List.getElem_cons_zero, List.getElem_cons_succ, List.setIfInBounds_toArray, List.set_cons_zero, List.set_cons_succ]
      refine wpAnyH_take (i := 8) (oi := _) (v := .bool false) rfl (by kernel_rfl) (by kernel_rfl) (by kernel_rfl) (fun _ _ _ h => h) (Or.inl ⟨by rfl, by intro w hSw; go_split_ands; go_simp⟩) HS.out ?_
      simp only [Act.put, List.getElem_toArray, List.getElem_cons_zero, List.getElem_cons_succ, List.setIfInBounds_toArray, List.set_cons_zero, List.set_cons_succ]
      refine wpAnyH_done (by kernel_rfl) ?_ _
      have HB1 := hideF (HB0.out.trans (HX1.out.mono HB0.out.size))
      have HRow1 := hideF (HRow0.out.below HX1.out HRow0.out.lt)
      clear HX1 HS hu HC HSS
      go_wp2_with fail
      go_loopw [3] (fun i wr => ∃ (X : World) (k : Nat), X = wr ∧ k ≤ x.length ∧ i = .int .i64 k ∧ Hid (Row X w.heap.size 53 [.string m, .slice p x.length cap]) ∧ Hid (∀ j (hj : j < x.length), j < k → lineB x[j].1 = false) ∧ Hid (Below w.heap.size w X)) (fun i _ => x.length - (intOf i).toNat)
      case atStart => exact ⟨_, 0, rfl, Nat.zero_le _, rfl, HRow1, fun j _ h => absurd h (by omega), HB1⟩
      case round =>
        obtain ⟨X, k, rfl, hk, rfl, HRow, HA, HB⟩ := hrel
        have c1 : X.cell? ⟨w.heap.size, 1, none⟩ = some (.slice p x.length cap) := HRow.out.cell 1
        by_cases hlt : k < x.length
        · obtain ⟨g, off, hp, hg, _, hc⟩ := H4.out (by omega)
          subst hp
          obtain ⟨ha, _, v, hv, hrv⟩ := hc k hlt
          have hk0 := (HB.out.cell (p := ⟨g, off + k * 2, none⟩) hg).trans ha
          clear hv hrv hc ha
          go_wp2_with fail
          refine (l08Own_any (x[k]'hlt).1 _).mono ?_
          rintro e w2 ⟨rfl, rfl⟩
          cases ho : lineB (x[k]'hlt).1
          · have HA2 : Hid (∀ j (hj : j < x.length), j < k + 1 → lineB x[j].1 = false) := by
              intro j hj hjk
              by_cases e : j = k
              · subst e; exact ho
              · exact HA.out j hj (by omega)
            go_wp2
            go_roundw
            case rel => exact ⟨_, k + 1, rfl, by omega, by go_num, HRow, HA2, HB⟩
            case measure => simp [intOf]; omega
          · have HN := hideF (show false = R by rw [HR.out]; exact (fmB_line (m := (m, x)) k hlt ho).symm)
            go_wp2
            go_ret
            exact ⟨ret_boolF HN.out, HB.out⟩
        · have HY := hideF (show true = R by rw [HR.out]; exact (fmB_yes (m := (m, x)) HU.out HQ.out (fun j hj => HA.out j hj (by have hj2 : j < x.length := hj; omega))).symm)
          go_wp2
          go_ret
          exact ⟨ret_boolF HY.out, HB.out⟩

set_option maxHeartbeats 4000000 in
theorem specFileRight_any (n : ByteArray) (u : Value) (x : List Bat) (w : World) (hm : n.size ≤ maxLen) (hf : FitsF x) (hr : RBats 0 w u x) :
    Calls Tryz.prog 9 #[.agg #[.string n, u]] w fun e w' => e = .returned (.bool (filB n x)) ∧ Below w.heap.size w w' := by
  obtain ⟨R, hR⟩ : ∃ R, R = filB n x := ⟨_, rfl⟩
  rw [← hR]
  have HR := hideF hR
  clear hR
  have hl := hf.1
  have HF := hideF hf
  obtain ⟨p, cap, rfl, h1, h2, h4⟩ := hr
  have H4 := hideF h4
  unfold maxLen at h2
  clear h4 hf
  have HB0 := hideF ((Below.refl w.heap.size w).alloc (Nat.le_refl _) (.cells #[.string n, .slice p x.length cap] 29))
  have HRow0 := hideF (row_new w [.string n, .slice p x.length cap] 29)
  go_enter Tryz.func9, Tryz.ntmps9
  go_wp2_with fail
  refine (specNameRight_any n _ hm).mono ?_
  rintro e w1 ⟨rfl, rfl⟩
  cases hq : idB n
  · have HN := hideF (show false = R by rw [HR.out]; exact (filB_id hq).symm)
    go_wp2
    go_ret
    exact ⟨ret_boolF HN.out, HB0.out⟩
  by_cases hl2 : 10 < (x.length : Int)
  · have HN := hideF (show false = R by rw [HR.out]; exact (filB_len (by omega)).symm)
    go_wp2
    go_ret
    exact ⟨ret_boolF HN.out, HB0.out⟩
  have hl10 : x.length ≤ 10 := by omega
  have HQ := hideF hq
  clear hq
  go_wp2_with fail
  go_loopw [3] (fun i wr => ∃ (X : World) (k : Nat), X = wr ∧ k ≤ x.length ∧ i = .int .i64 k ∧ Hid (Row X w.heap.size 29 [.string n, .slice p x.length cap]) ∧ Hid (∀ j (hj : j < x.length), j < k → batB x[j] = true) ∧ Hid (Below w.heap.size w X)) (fun i _ => x.length - (intOf i).toNat)
  case atStart => exact ⟨_, 0, rfl, Nat.zero_le _, rfl, HRow0, fun j _ h => absurd h (by omega), HB0⟩
  case round =>
    obtain ⟨X, k, rfl, hk, rfl, HRow, HA, HB⟩ := hrel
    have c1 : X.cell? ⟨w.heap.size, 1, none⟩ = some (.slice p x.length cap) := HRow.out.cell 1
    by_cases hlt : k < x.length
    · obtain ⟨g, off, hp, hg, _, hc⟩ := H4.out (by omega)
      subst hp
      obtain ⟨ha, hns, v, hv, hrv⟩ := hc k hlt
      have hk0 := (HB.out.cell (p := ⟨g, off + k * 2, none⟩) hg).trans ha
      have hk1 := (HB.out.cell (p := ⟨g, off + k * 2 + 1, none⟩) hg).trans hv
      obtain ⟨vp, vc, rfl⟩ := hrv.isSlice
      obtain ⟨bat, hbat⟩ : ∃ bat, bat = x[k]'hlt := ⟨_, rfl⟩
      rw [← hbat] at hk0 hk1 hns hrv
      have hfb : FitsB bat.2 := by rw [hbat]; exact HF.out.2 k hlt
      have HBAT := hideF hbat
      have hXa : Below w.heap.size w (X.alloc (.cells #[.string bat.1, .slice vp bat.2.length vc] 49)) := HB.out.alloc HB.out.size _
      have HXA := hideF hXa
      have HRV := hideF hrv
      have HRowX := hideF (HRow.out.alloc (.cells #[.string bat.1, .slice vp bat.2.length vc] 49))
      have HRowB := hideF (row_new X [.string bat.1, .slice vp bat.2.length vc] 49)
      have HXB := hideF HB.out.size
      clear hv hrv hc ha hXa hbat
      go_wp2_with fail
      generalize hY : X.alloc (.cells #[.string bat.1, .slice vp bat.2.length vc] 49) = Y at *
      generalize hB : X.heap.size = GB at *
      clear hY hB hk0 hk1 c1
      refine (specNameRight_any bat.1 _ hns).mono ?_
      rintro e w2 ⟨rfl, rfl⟩
      cases hq : idB bat.1
      · have HN := hideF (show false = R by rw [HR.out]; exact (filB_no k hlt (by rw [← HBAT.out]; exact batB_id hq)).symm)
        go_wp2
        go_ret
        exact ⟨ret_boolF HN.out, HXA.out⟩
      by_cases hl3 : 30 < (bat.2.length : Int)
      · have d1 : w2.cell? ⟨GB, 1, none⟩ = some (.slice vp bat.2.length vc) := HRowB.out.cell 1
        have HN := hideF (show false = R by rw [HR.out]; exact (filB_no k hlt (by rw [← HBAT.out]; exact batB_len (by omega))).symm)
        go_wp2
        go_ret
        exact ⟨ret_boolF HN.out, HXA.out⟩
      have hl30 : bat.2.length ≤ 30 := by omega
      have d1 : w2.cell? ⟨GB, 1, none⟩ = some (.slice vp bat.2.length vc) := HRowB.out.cell 1
      have HQB := hideF hq
      clear hq
      go_wp2_with fail
      clear d1
      go_loopw [5] (fun i wr => ∃ (Z : World) (j : Nat), Z = wr ∧ j ≤ bat.2.length ∧ i = .int .i64 j ∧ Hid (Row Z w.heap.size 29 [.string n, .slice (some ⟨g, off, none⟩) x.length cap]) ∧ Hid (Row Z GB 49 [.string bat.1, .slice vp bat.2.length vc]) ∧ Hid (∀ i (hi : i < bat.2.length), i < j → fmB bat.2[i] = true) ∧ Hid (Below w.heap.size w Z)) (fun i _ => bat.2.length - (intOf i).toNat)
      case atStart => exact ⟨_, 0, rfl, Nat.zero_le _, rfl, HRowX, HRowB, fun j _ h => absurd h (by omega), HXA⟩
      case round =>
        obtain ⟨Z, j, rfl, hj, rfl, HRowZ, HRowZB, HAZ, HBZ⟩ := hrel
        have d1 : Z.cell? ⟨GB, 1, none⟩ = some (.slice vp bat.2.length vc) := HRowZB.out.cell 1
        have HRZ := hideF (HRV.out.below HBZ.out)
        by_cases hjl : j < bat.2.length
        · obtain ⟨q, qc, he, _, _, hq4⟩ := HRZ.out
          cases he
          obtain ⟨g2, off2, rfl, hg2, _, hc2⟩ := hq4 (by omega)
          obtain ⟨ha2, hns2, v2, hv2, hrv2⟩ := hc2 j hjl
          obtain ⟨vp2, vc2, rfl⟩ := hrv2.isSlice
          have HNS2 := hideF hns2
          have HRV2 := hideF hrv2
          have hfm := hfb.2 j hjl
          clear hc2 hrv2 hq4 hns2
          go_wp2_with fail
          refine (l08Message_any (bat.2[j]'hjl).1 _ (bat.2[j]'hjl).2 _ HNS2.out hfm HRV2.out).mono ?_
          rintro e w3 ⟨rfl, hb3⟩
          have HB3 := hideF (HBZ.out.trans (hb3.mono HBZ.out.size))
          have HRow3 := hideF (HRowZ.out.below hb3 HRowZ.out.lt)
          have HRowB3 := hideF (HRowZB.out.below hb3 HRowZB.out.lt)
          clear hb3 ha2 hv2 d1
          cases ho : fmB ((bat.2[j]'hjl).1, (bat.2[j]'hjl).2)
          · have HN := hideF (show false = R by rw [HR.out]; exact (filB_no k hlt (by rw [← HBAT.out]; exact batB_no j hjl ho)).symm)
            go_wp2
            go_ret
            exact ⟨ret_boolF HN.out, HB3.out⟩
          · have HA3 := hideF (allF_succ (f := fmB) j HAZ.out (fun _ => ho))
            go_wp2
            go_roundw
            case rel => exact ⟨_, j + 1, rfl, by omega, by go_num, HRow3, HRowB3, HA3, HB3⟩
            case measure => simp [intOf]; omega
        · have hbt : batB (x[k]'hlt) = true := by rw [← HBAT.out]; exact batB_yes HQB.out hl30 (fun i hi => HAZ.out i hi (by omega))
          have HA3 := hideF (allF_succ (f := batB) k HA.out (fun _ => hbt))
          clear hbt
          go_wp2
          go_roundw
          case rel => exact ⟨_, k + 1, rfl, by omega, by go_num, HRowZ, HA3, HBZ⟩
          case measure => simp [intOf]; omega
    · have HY := hideF (show true = R by rw [HR.out]; exact (filB_yes HQ.out hl10 (fun j hj => HA.out j hj (by omega))).symm)
      go_wp2
      go_ret
      exact ⟨ret_boolF HY.out, HB.out⟩
end Go.Proofs.YtholbhjfmfanbaaGreat
