/- FileRight of the program. -/
import Derived.Test.YtolgjdnhhbbebaaGreatDoorXGFSegR
import Derived.Shelf.Abstract
namespace Go.Proofs.YtolgjdnhhbbebaaGreatDoor
open Go.RowKit Go.Shelf Go.Proofs
set_option maxHeartbeats 1000000 in
theorem isFileName_any (n : ByteArray) (w : World) :
    Calls Tryz.prog 62 #[.string n] w fun e w' => e = .returned (.bool (lineB n)) ∧ w' = w := by
  unfold lineB
  cases h1 : (n.toList == [70, 72, 83])
  case true =>
    go_enter Tryz.func62, Tryz.ntmps62
    go_wp2
    go_ret
    exact ⟨rfl, rfl⟩
  cases h2 : (n.toList == [66, 72, 83])
  case true =>
    go_enter Tryz.func62, Tryz.ntmps62
    go_wp2
    go_ret
    exact ⟨rfl, rfl⟩
  cases h3 : (n.toList == [66, 84, 83])
  case true =>
    go_enter Tryz.func62, Tryz.ntmps62
    go_wp2
    go_ret
    exact ⟨rfl, rfl⟩
  cases h4 : (n.toList == [70, 84, 83])
  all_goals
    go_enter Tryz.func62, Tryz.ntmps62
    go_wp2
    go_ret
    exact ⟨rfl, rfl⟩
theorem ownLine_any (nm : ByteArray) (p : Option Addr) (l c : Nat) (w : World) :
    Calls Tryz.prog 61 #[.agg #[.string nm, .slice p l c]] w fun e w' => e = .returned (.bool (lineB nm)) ∧ Below w.heap.size w w' := by
  go_enter Tryz.func61, Tryz.ntmps61
  go_wp2_with fail
  refine (isFileName_any nm _).mono ?_
  rintro e w1 ⟨rfl, rfl⟩
  go_wp2
  go_ret
  exact ⟨rfl, (Below.refl _ _).alloc (Nat.le_refl _) _⟩
theorem new_cell0 (w : World) (v : Value) (t : TypeId) : (w.alloc (.cells #[v] t)).cell? ⟨w.heap.size, 0, none⟩ = some v := (row_new w [v] t).cell 0
theorem contains_dec {n : Int} {b : Bool} (h : decide (0 ≤ n) = b) : decide (n ≥ 0) = b := h

theorem enters_ownLine : ∀ args w, (callFunc 61 args).run Tryz.prog w = .ok (.enter 61 args) w := enters_of Tryz.func61 (by kernel_rfl) rfl
set_option maxHeartbeats 2000000 in
theorem idxSeg_any (v : Value) (x : List Seg) (w : World) (hx : x.length ≤ 1048576) (hr : RSegs 0 w v x) :
    Calls Tryz.prog 79 #[v, .func (.func 61) #[] #[]] w fun e w' => ∃ n : Int, e = .returned (.int .i64 n) ∧ -1 ≤ n ∧ n ≤ 1048576 ∧ decide (0 ≤ n) = !x.all (fun s : Seg => !lineB s.1) ∧ Below w.heap.size w w' := by
  obtain ⟨p, cap, rfl, h1, h2, h4⟩ := hr
  have H4 := hideF h4
  clear h4 h1 h2
  obtain ⟨R, hR⟩ : ∃ R, R = x.all (fun s : Seg => !lineB s.1) := ⟨_, rfl⟩
  rw [← hR]
  have HR := hideF hR
  clear hR
  have eg := enters_ownLine
  go_enter Tryz.func79, Tryz.ntmps79
  go_wp2_with fail
  go_loopw [8] (fun i wr => ∃ (X : World) (k : Nat), X = wr ∧ k ≤ x.length ∧ i = .int .i64 k ∧ Hid (∀ j (hj : j < x.length), j < k → (fun s : Seg => !lineB s.1) x[j] = true) ∧ Hid (Below w.heap.size w X)) (fun i _ => x.length - (intOf i).toNat)
  case atStart => exact ⟨_, 0, rfl, Nat.zero_le _, rfl, fun j _ h => absurd h (by omega), Below.refl _ _⟩
  case round =>
    obtain ⟨X, k, rfl, hk, rfl, HA, HB⟩ := hrel
    by_cases hlt : k < x.length
    · obtain ⟨gg, off, hp, hg, _, hc⟩ := H4.out (by omega)
      subst hp
      obtain ⟨hu, hns, u, hv, hru⟩ := hc k hlt
      have HRU := hideF (hru.below HB.out)
      obtain ⟨up, uc, rfl⟩ := hru.isSlice
      have hck : X.cell? ⟨gg, off + k * 2, none⟩ = some (.string (x[k]'hlt).1) := (HB.out.cell (p := ⟨gg, off + k * 2, none⟩) hg).trans hu
      have hcv : X.cell? ⟨gg, off + k * 2 + 1, none⟩ = some (.slice up (x[k]'hlt).2.length uc) := (HB.out.cell (p := ⟨gg, off + k * 2 + 1, none⟩) hg).trans hv
      have HNS := hideF hns
      clear hu hc hv hru hns
      go_wp2_with fail
      refine (ownLine_any (x[k]'hlt).1 up _ uc _).mono ?_
      rintro e X2 ⟨rfl, hb2⟩
      have HB2 := hideF (HB.out.trans (hb2.mono HB.out.size))
      clear hb2 hck hcv
      cases ho : (fun s : Seg => !lineB s.1) (x[k]'hlt)
      · have HN := hideF (show false = R by rw [HR.out]; exact (allF_no k hlt ho).symm)
        have ho' : lineB (x[k]'hlt).1 = true := by simpa using ho
        rw [ho']
        go_wp2
        go_ret
        exact ⟨_, rfl, by omega, by omega, by rw [← HN.out]; simp, HB2.out⟩
      · have HA2 := hideF (allF_succ (f := (fun s : Seg => !lineB s.1)) k HA.out (fun _ => ho))
        have ho' : lineB (x[k]'hlt).1 = false := by simpa using ho
        rw [ho']
        go_wp2
        go_roundw
        case rel => exact ⟨_, k + 1, rfl, by omega, by go_num, HA2, HB2⟩
        case measure => simp [intOf]; omega
    · have HN := hideF (show true = R by rw [HR.out]; exact (allF_yes (fun j hj => HA.out j hj (by omega))).symm)
      go_wp2
      go_ret
      exact ⟨_, rfl, by omega, by omega, by rw [← HN.out]; simp, HB.out⟩
theorem hasSeg_any (v : Value) (x : List Seg) (w : World) (hx : x.length ≤ 1048576) (hr : RSegs 0 w v x) :
    Calls Tryz.prog 63 #[v, .func (.func 61) #[] #[]] w fun e w' => e = .returned (.bool (!x.all (fun s : Seg => !lineB s.1))) ∧ Below w.heap.size w w' := by
  have HH := hideF (idxSeg_any v x w hx hr)
  obtain ⟨p, cap, rfl⟩ := hr.isSlice
  clear hr
  obtain ⟨R, hR⟩ : ∃ R, R = x.all (fun s : Seg => !lineB s.1) := ⟨_, rfl⟩
  rw [← hR] at HH ⊢
  clear hR
  go_enter Tryz.func63, Tryz.ntmps63
  go_wp2_with fail
  refine HH.out.mono ?_
  rintro e w1 ⟨n, rfl, hn1, hn2, hd, hb1⟩
  have HB1 := hideF hb1
  clear hb1
  by_cases hn : 0 ≤ n
  · have HD := hideF (show true = !R by rw [← hd]; simp [hn])
    clear hd
    go_wp2
    go_ret
    exact ⟨ret_boolF HD.out, HB1.out⟩
  · have HD := hideF (show false = !R by rw [← hd]; simp [hn])
    have HD2 := hideF hd
    clear hd
    go_wp2
    go_ret
    first
      | exact ⟨ret_boolF HD.out, HB1.out⟩
      | exact ⟨ret_boolF HD2.out, HB1.out⟩

set_option maxHeartbeats 2000000 in
theorem fileMessage_any (m : ByteArray) (u : Value) (x : List Seg) (w : World) (hm : m.size ≤ maxLen) (hf : FitsM x) (hr : RSegs 0 w u x) :
    Calls Tryz.prog 45 #[.agg #[.string m, u]] w fun e w' => e = .returned (.bool (fmB (m, x))) ∧ Below w.heap.size w w' := by
  obtain ⟨R, hR⟩ : ∃ R, R = fmB (m, x) := ⟨_, rfl⟩
  rw [← hR]
  have HR := hideF hR
  have HX := hideF hr
  obtain ⟨p, cap, rfl⟩ := hr.isSlice
  have hb0 : Below w.heap.size w (w.alloc (.cells #[.string m, .slice p x.length cap] 42)) := (Below.refl _ _).alloc (Nat.le_refl _) _
  have HB0 := hideF hb0
  have HRow := hideF (row_new w [.string m, .slice p x.length cap] 42)
  clear hr hR hb0
  cases hu : (m.toList == [124, 94, 126, 92, 38])
  · have HN := hideF (show false = R by rw [HR.out]; exact (fmB_marks (m := (m, x)) hu).symm)
    go_enter Tryz.func45, Tryz.ntmps45
    go_wp2
    go_ret
    exact ⟨ret_boolF HN.out, HB0.out⟩
  · go_enter Tryz.func45, Tryz.ntmps45
    go_wp2_with fail
    refine (implMessage_any m _ x _ hm hf (HX.out.below HB0.out)).mono ?_
    rintro e w1 ⟨rfl, hb1⟩
    have HB1 := hideF (HB0.out.trans (hb1.mono HB0.out.size))
    have HRow1 := hideF (HRow.out.below hb1 HRow.out.lt)
    have c1 : w1.cell? ⟨w.heap.size, 1, none⟩ = some (.slice p x.length cap) := HRow1.out.cell 1
    clear hb1
    cases hq : msgB m x
    · have HN := hideF (show false = R by rw [HR.out]; exact (fmB_right (m := (m, x)) hq).symm)
      go_wp2
      go_ret
      exact ⟨ret_boolF HN.out, HB1.out⟩
    · go_wp2_with fail
      refine (hasSeg_any _ x _ hf.1 (HX.out.below HB1.out)).mono ?_
      rintro e w2 ⟨rfl, hb2⟩
      have HB2 := hideF (HB1.out.trans (hb2.mono HB1.out.size))
      clear hb2
      have HE := hideF (show fmB (m, x) = x.all (fun s => !lineB s.1) by simp only [fmB, usualB, hu, hq, noLines, Bool.true_and])
      cases ha : x.all (fun s => !lineB s.1)
      · have HN := hideF (show false = R by rw [HR.out, HE.out, ha])
        go_wp2
        go_ret
        exact ⟨ret_boolF HN.out, HB2.out⟩
      · have HN := hideF (show true = R by rw [HR.out, HE.out, ha])
        go_wp2
        go_ret
        exact ⟨ret_boolF HN.out, HB2.out⟩

/-- A row of Messages: is it right? -/
theorem enters_fileMessage : ∀ args w, (callFunc 45 args).run Tryz.prog w = .ok (.enter 45 args) w := enters_of Tryz.func45 (by kernel_rfl) rfl
theorem wrongMsg_any (C : Nat) (m : ByteArray) (u : Value) (x : List Seg) (w : World) (hm : m.size ≤ maxLen) (hf : FitsM x) (hr : RSegs 0 w u x) (hC : w.cell? ⟨C, 0, none⟩ = some (.func (.func 45) #[] #[])) :
    Calls Tryz.prog 59 #[.agg #[.string m, u], .pointer (some ⟨C, 0, none⟩)] w fun e w' => e = .returned (.bool (!fmB (m, x))) ∧ Below w.heap.size w w' := by
  obtain ⟨R, hRR⟩ : ∃ R, R = fmB (m, x) := ⟨_, rfl⟩
  rw [← hRR]
  have HRR := hideF hRR
  clear hRR
  have HR := hideF hr
  obtain ⟨p, cap, rfl⟩ := hr.isSlice
  have hb0 : Below w.heap.size w (w.alloc (.cells #[.string m, .slice p x.length cap] 42)) := (Below.refl _ _).alloc (Nat.le_refl _) _
  have HB0 := hideF hb0
  have hlt := World.block_lt_of_cell? w _ hC
  have hC2 := (hb0.cell (p := ⟨C, 0, none⟩) hlt).trans hC
  have eg := enters_fileMessage
  clear hr hb0 hlt
  go_enter Tryz.func59, Tryz.ntmps59
  go_wp2_with fail
  refine (fileMessage_any m _ x _ hm hf (HR.out.below HB0.out)).mono ?_
  rintro e w1 ⟨rfl, hb1⟩
  have HB1 := hideF (HB0.out.trans (hb1.mono HB0.out.size))
  clear hb1
  cases hv : fmB (m, x)
  · have HN := hideF (show true = !R by rw [HRR.out, hv]; rfl)
    go_wp2
    go_ret
    exact ⟨ret_boolF HN.out, HB1.out⟩
  · have HN := hideF (show false = !R by rw [HRR.out, hv]; rfl)
    go_wp2
    go_ret
    exact ⟨ret_boolF HN.out, HB1.out⟩

theorem enters_wrongMsg : ∀ args w, (callFunc 59 args).run Tryz.prog w = .ok (.enter 59 args) w := enters_of Tryz.func59 (by kernel_rfl) rfl
set_option maxHeartbeats 2000000 in
theorem idxMsg_any (C : Nat) (v : Value) (x : List Msg) (w : World) (hf : FitsB x) (hr : RMsgs 0 w v x) (hC : w.cell? ⟨C, 0, none⟩ = some (.func (.func 45) #[] #[])) :
    Calls Tryz.prog 78 #[v, .func (.func 59) #[] #[.pointer (some ⟨C, 0, none⟩)]] w fun e w' => ∃ n : Int, e = .returned (.int .i64 n) ∧ -1 ≤ n ∧ n ≤ 1048576 ∧ decide (0 ≤ n) = !x.all fmB ∧ Below w.heap.size w w' := by
  obtain ⟨p, cap, rfl, h1, h2, h4⟩ := hr
  have H4 := hideF h4
  have hx := hf.1
  have HFF := hideF hf
  have hCl := World.block_lt_of_cell? w _ hC
  clear hf
  clear h4 h1 h2
  obtain ⟨R, hR⟩ : ∃ R, R = x.all fmB := ⟨_, rfl⟩
  rw [← hR]
  have HR := hideF hR
  clear hR
  have eg := enters_wrongMsg
  go_enter Tryz.func78, Tryz.ntmps78
  go_wp2_with fail
  go_loopw [8] (fun i wr => ∃ (X : World) (k : Nat), X = wr ∧ k ≤ x.length ∧ i = .int .i64 k ∧ Hid (∀ j (hj : j < x.length), j < k → fmB x[j] = true) ∧ Hid (Below w.heap.size w X)) (fun i _ => x.length - (intOf i).toNat)
  case atStart => exact ⟨_, 0, rfl, Nat.zero_le _, rfl, fun j _ h => absurd h (by omega), Below.refl _ _⟩
  case round =>
    obtain ⟨X, k, rfl, hk, rfl, HA, HB⟩ := hrel
    by_cases hlt : k < x.length
    · obtain ⟨gg, off, hp, hg, _, hc⟩ := H4.out (by omega)
      subst hp
      obtain ⟨hu, hns, u, hv, hru⟩ := hc k hlt
      have HRU := hideF (hru.below HB.out)
      obtain ⟨up, uc, rfl⟩ := hru.isSlice
      have hck : X.cell? ⟨gg, off + k * 2, none⟩ = some (.string (x[k]'hlt).1) := (HB.out.cell (p := ⟨gg, off + k * 2, none⟩) hg).trans hu
      have hcv : X.cell? ⟨gg, off + k * 2 + 1, none⟩ = some (.slice up (x[k]'hlt).2.length uc) := (HB.out.cell (p := ⟨gg, off + k * 2 + 1, none⟩) hg).trans hv
      have HNS := hideF hns
      clear hu hc hv hru hns
      go_wp2_with fail
      refine (wrongMsg_any C (x[k]'hlt).1 _ (x[k]'hlt).2 _ HNS.out (HFF.out.2 k hlt) HRU.out ((HB.out.cell (p := ⟨C, 0, none⟩) hCl).trans hC)).mono ?_
      rintro e X2 ⟨rfl, hb2⟩
      have HB2 := hideF (HB.out.trans (hb2.mono HB.out.size))
      clear hb2 hck hcv
      cases ho : fmB (x[k]'hlt)
      · have HN := hideF (show false = R by rw [HR.out]; exact (allF_no k hlt ho).symm)
        skip
        go_wp2
        go_ret
        exact ⟨_, rfl, by omega, by omega, by rw [← HN.out]; simp, HB2.out⟩
      · have HA2 := hideF (allF_succ (f := fmB) k HA.out (fun _ => ho))
        skip
        go_wp2
        go_roundw
        case rel => exact ⟨_, k + 1, rfl, by omega, by go_num, HA2, HB2⟩
        case measure => simp [intOf]; omega
    · have HN := hideF (show true = R by rw [HR.out]; exact (allF_yes (fun j hj => HA.out j hj (by omega))).symm)
      go_wp2
      go_ret
      exact ⟨_, rfl, by omega, by omega, by rw [← HN.out]; simp, HB.out⟩
theorem hasMsg_any (C : Nat) (v : Value) (x : List Msg) (w : World) (hf : FitsB x) (hr : RMsgs 0 w v x) (hC : w.cell? ⟨C, 0, none⟩ = some (.func (.func 45) #[] #[])) :
    Calls Tryz.prog 60 #[v, .func (.func 59) #[] #[.pointer (some ⟨C, 0, none⟩)]] w fun e w' => e = .returned (.bool (!x.all fmB)) ∧ Below w.heap.size w w' := by
  have HH := hideF (idxMsg_any C v x w hf hr hC)
  obtain ⟨p, cap, rfl⟩ := hr.isSlice
  clear hr
  obtain ⟨R, hR⟩ : ∃ R, R = x.all fmB := ⟨_, rfl⟩
  rw [← hR] at HH ⊢
  clear hR
  go_enter Tryz.func60, Tryz.ntmps60
  go_wp2_with fail
  refine HH.out.mono ?_
  rintro e w1 ⟨n, rfl, hn1, hn2, hd, hb1⟩
  have HB1 := hideF hb1
  clear hb1
  by_cases hn : 0 ≤ n
  · have HD := hideF (show true = !R by rw [← hd]; simp [hn])
    clear hd
    go_wp2
    go_ret
    exact ⟨ret_boolF HD.out, HB1.out⟩
  · have HD := hideF (show false = !R by rw [← hd]; simp [hn])
    have HD2 := hideF hd
    clear hd
    go_wp2
    go_ret
    first
      | exact ⟨ret_boolF HD.out, HB1.out⟩
      | exact ⟨ret_boolF HD2.out, HB1.out⟩

set_option maxHeartbeats 1000000 in
theorem rowMsg_any (n : Nat) (u : Value) (x : List Msg) (w : World) (hf : FitsB x) (hr : RMsgs 0 w u x) :
    Calls Tryz.prog 44 #[.agg #[.int .i64 (n : Int), u], .func (.func 45) #[] #[]] w fun e w' => e = .returned (.bool (decide (x.length ≤ n) && x.all fmB)) ∧ Below w.heap.size w w' := by
  obtain ⟨R, hRR⟩ : ∃ R, R = x.all fmB := ⟨_, rfl⟩
  rw [← hRR]
  have HRR := hideF hRR
  clear hRR
  have HR := hideF hr
  have HX := hideF hf
  have hl := hf.1
  obtain ⟨p, cap, rfl⟩ := hr.isSlice
  clear hr hf
  have hmf : ∀ (fn : Fn) (first cap : Array Value) (w : World), (Instr.makeFunc fn first cap).run Tryz.prog w = .ok (.func fn first cap) w := fun _ _ _ _ => rfl
  by_cases hlen : x.length ≤ n
  · have hd : decide (x.length ≤ n) = true := decide_eq_true hlen
    have hli : (x.length : Int) ≤ (n : Int) := by omega
    rw [hd, Bool.true_and]
    clear hd
    go_enter Tryz.func44, Tryz.ntmps44
    go_wp2_with fail
    generalize hW : World.alloc _ _ = W
    have hb0 : Below w.heap.size w W := by rw [← hW]; exact ((Below.refl _ _).alloc (Nat.le_refl _) _).alloc (by simp) _
    have hC : W.cell? ⟨w.heap.size + 1, 0, none⟩ = some (.func (.func 45) #[] #[]) := by
      rw [← hW]
      rw [show w.heap.size + 1 = (w.alloc (.cells #[.int .i64 (n : Int), .slice p x.length cap] 81)).heap.size by simp]
      exact new_cell0 _ _ _
    have HB0 := hideF hb0
    clear hb0 hW
    refine (hasMsg_any (w.heap.size + 1) _ x W HX.out (HR.out.below HB0.out) hC).mono ?_
    rintro e w1 ⟨rfl, hb1⟩
    have HB1 := hideF (HB0.out.trans (hb1.mono HB0.out.size))
    clear hb1 hC
    cases hv : x.all fmB
    · have HN := hideF (show false = R by rw [HRR.out, hv])
      go_wp2
      go_ret
      exact ⟨ret_boolF HN.out, HB1.out⟩
    · have HN := hideF (show true = R by rw [HRR.out, hv])
      go_wp2
      go_ret
      exact ⟨ret_boolF HN.out, HB1.out⟩
  · have hd : decide (x.length ≤ n) = false := decide_eq_false hlen
    have hli : ¬ (x.length : Int) ≤ (n : Int) := by omega
    rw [hd, Bool.false_and]
    clear hd
    go_enter Tryz.func44, Tryz.ntmps44
    go_wp2
    go_ret
    exact ⟨rfl, ((Below.refl _ _).alloc (Nat.le_refl _) _).alloc (by simp) _⟩

theorem messagesOf_any (n : ByteArray) (u : Value) (x : List Msg) (w : World) (hr : RMsgs 0 w u x) :
    Calls Tryz.prog 43 #[.agg #[.string n, u]] w fun e w' => e = .returned (.agg #[.int .i64 30, u]) ∧ Below w.heap.size w w' := by
  obtain ⟨p, cap, rfl⟩ := hr.isSlice
  have hb1 : Below w.heap.size w (w.alloc (.cells #[.string n, .slice p x.length cap] 38)) := (Below.refl _ _).alloc (Nat.le_refl _) _
  have HB := hideF (hb1.alloc hb1.size (.cells #[.int .i64 30, .slice p x.length cap] 81))
  clear hb1
  go_enter Tryz.func43, Tryz.ntmps43
  go_wp2
  exact bodyPost_ret (v := .agg #[.int .i64 30, .slice p x.length cap]) (by simp [results, Tryz.results43, go_sem]) rfl ⟨rfl, HB.out⟩

set_option maxHeartbeats 2000000 in
theorem batchRight_any (n : ByteArray) (u : Value) (x : List Msg) (w : World) (hm : n.size ≤ maxLen) (hf : FitsB x) (hr : RMsgs 0 w u x) :
    Calls Tryz.prog 30 #[.agg #[.string n, u]] w fun e w' => e = .returned (.bool (batB (n, x))) ∧ Below w.heap.size w w' := by
  obtain ⟨R, hR⟩ : ∃ R, R = batB (n, x) := ⟨_, rfl⟩
  rw [← hR]
  have HR := hideF hR
  have HX := hideF hr
  obtain ⟨p, cap, rfl⟩ := hr.isSlice
  have hb0 : Below w.heap.size w (w.alloc (.cells #[.string n, .slice p x.length cap] 38)) := (Below.refl _ _).alloc (Nat.le_refl _) _
  have HB0 := hideF hb0
  clear hr hR hb0
  go_enter Tryz.func30, Tryz.ntmps30
  go_wp2_with fail
  refine (implNameRight_any n _ hm).mono ?_
  rintro e w1 ⟨rfl, rfl⟩
  cases hq : idB n
  · have HN := hideF (show false = R by rw [HR.out]; simp only [batB, hq, Bool.false_and])
    go_wp2
    go_ret
    exact ⟨ret_boolF HN.out, HB0.out⟩
  · have HE := hideF (show R = (decide (x.length ≤ 30) && x.all fmB) by rw [HR.out]; simp only [batB, hq, Bool.true_and])
    go_wp2_with fail
    refine (messagesOf_any n _ x _ (HX.out.below HB0.out)).mono ?_
    rintro e w2 ⟨rfl, hb2⟩
    have HB2 := hideF (HB0.out.trans (hb2.mono HB0.out.size))
    clear hb2
    go_wp2_with fail
    refine (rowMsg_any 30 _ x _ hf (HX.out.below HB2.out)).mono ?_
    rintro e w3 ⟨rfl, hb3⟩
    have HB3 := hideF (HB2.out.trans (hb3.mono HB2.out.size))
    clear hb3
    cases hv : (decide (x.length ≤ 30) && x.all fmB)
    · have HN := hideF (show false = R by rw [HE.out, hv])
      go_wp2
      go_ret
      exact ⟨ret_boolF HN.out, HB3.out⟩
    · have HN := hideF (show true = R by rw [HE.out, hv])
      go_wp2
      go_ret
      exact ⟨ret_boolF HN.out, HB3.out⟩

/-- A row of Batchs: is it right? -/
theorem enters_batchRight : ∀ args w, (callFunc 30 args).run Tryz.prog w = .ok (.enter 30 args) w := enters_of Tryz.func30 (by kernel_rfl) rfl
theorem wrongBat_any (C : Nat) (m : ByteArray) (u : Value) (x : List Msg) (w : World) (hm : m.size ≤ maxLen) (hf : FitsB x) (hr : RMsgs 0 w u x) (hC : w.cell? ⟨C, 0, none⟩ = some (.func (.func 30) #[] #[])) :
    Calls Tryz.prog 41 #[.agg #[.string m, u], .pointer (some ⟨C, 0, none⟩)] w fun e w' => e = .returned (.bool (!batB (m, x))) ∧ Below w.heap.size w w' := by
  obtain ⟨R, hRR⟩ : ∃ R, R = batB (m, x) := ⟨_, rfl⟩
  rw [← hRR]
  have HRR := hideF hRR
  clear hRR
  have HR := hideF hr
  obtain ⟨p, cap, rfl⟩ := hr.isSlice
  have hb0 : Below w.heap.size w (w.alloc (.cells #[.string m, .slice p x.length cap] 38)) := (Below.refl _ _).alloc (Nat.le_refl _) _
  have HB0 := hideF hb0
  have hlt := World.block_lt_of_cell? w _ hC
  have hC2 := (hb0.cell (p := ⟨C, 0, none⟩) hlt).trans hC
  have eg := enters_batchRight
  clear hr hb0 hlt
  go_enter Tryz.func41, Tryz.ntmps41
  go_wp2_with fail
  refine (batchRight_any m _ x _ hm hf (HR.out.below HB0.out)).mono ?_
  rintro e w1 ⟨rfl, hb1⟩
  have HB1 := hideF (HB0.out.trans (hb1.mono HB0.out.size))
  clear hb1
  cases hv : batB (m, x)
  · have HN := hideF (show true = !R by rw [HRR.out, hv]; rfl)
    go_wp2
    go_ret
    exact ⟨ret_boolF HN.out, HB1.out⟩
  · have HN := hideF (show false = !R by rw [HRR.out, hv]; rfl)
    go_wp2
    go_ret
    exact ⟨ret_boolF HN.out, HB1.out⟩

theorem enters_wrongBat : ∀ args w, (callFunc 41 args).run Tryz.prog w = .ok (.enter 41 args) w := enters_of Tryz.func41 (by kernel_rfl) rfl
set_option maxHeartbeats 2000000 in
theorem idxBat_any (C : Nat) (v : Value) (x : List Bat) (w : World) (hf : FitsF x) (hr : RBats 0 w v x) (hC : w.cell? ⟨C, 0, none⟩ = some (.func (.func 30) #[] #[])) :
    Calls Tryz.prog 58 #[v, .func (.func 41) #[] #[.pointer (some ⟨C, 0, none⟩)]] w fun e w' => ∃ n : Int, e = .returned (.int .i64 n) ∧ -1 ≤ n ∧ n ≤ 1048576 ∧ decide (0 ≤ n) = !x.all batB ∧ Below w.heap.size w w' := by
  obtain ⟨p, cap, rfl, h1, h2, h4⟩ := hr
  have H4 := hideF h4
  have hx := hf.1
  have HFF := hideF hf
  have hCl := World.block_lt_of_cell? w _ hC
  clear hf
  clear h4 h1 h2
  obtain ⟨R, hR⟩ : ∃ R, R = x.all batB := ⟨_, rfl⟩
  rw [← hR]
  have HR := hideF hR
  clear hR
  have eg := enters_wrongBat
  go_enter Tryz.func58, Tryz.ntmps58
  go_wp2_with fail
  go_loopw [8] (fun i wr => ∃ (X : World) (k : Nat), X = wr ∧ k ≤ x.length ∧ i = .int .i64 k ∧ Hid (∀ j (hj : j < x.length), j < k → batB x[j] = true) ∧ Hid (Below w.heap.size w X)) (fun i _ => x.length - (intOf i).toNat)
  case atStart => exact ⟨_, 0, rfl, Nat.zero_le _, rfl, fun j _ h => absurd h (by omega), Below.refl _ _⟩
  case round =>
    obtain ⟨X, k, rfl, hk, rfl, HA, HB⟩ := hrel
    by_cases hlt : k < x.length
    · obtain ⟨gg, off, hp, hg, _, hc⟩ := H4.out (by omega)
      subst hp
      obtain ⟨hu, hns, u, hv, hru⟩ := hc k hlt
      have HRU := hideF (hru.below HB.out)
      obtain ⟨up, uc, rfl⟩ := hru.isSlice
      have hck : X.cell? ⟨gg, off + k * 2, none⟩ = some (.string (x[k]'hlt).1) := (HB.out.cell (p := ⟨gg, off + k * 2, none⟩) hg).trans hu
      have hcv : X.cell? ⟨gg, off + k * 2 + 1, none⟩ = some (.slice up (x[k]'hlt).2.length uc) := (HB.out.cell (p := ⟨gg, off + k * 2 + 1, none⟩) hg).trans hv
      have HNS := hideF hns
      clear hu hc hv hru hns
      go_wp2_with fail
      refine (wrongBat_any C (x[k]'hlt).1 _ (x[k]'hlt).2 _ HNS.out (HFF.out.2 k hlt) HRU.out ((HB.out.cell (p := ⟨C, 0, none⟩) hCl).trans hC)).mono ?_
      rintro e X2 ⟨rfl, hb2⟩
      have HB2 := hideF (HB.out.trans (hb2.mono HB.out.size))
      clear hb2 hck hcv
      cases ho : batB (x[k]'hlt)
      · have HN := hideF (show false = R by rw [HR.out]; exact (allF_no k hlt ho).symm)
        skip
        go_wp2
        go_ret
        exact ⟨_, rfl, by omega, by omega, by rw [← HN.out]; simp, HB2.out⟩
      · have HA2 := hideF (allF_succ (f := batB) k HA.out (fun _ => ho))
        skip
        go_wp2
        go_roundw
        case rel => exact ⟨_, k + 1, rfl, by omega, by go_num, HA2, HB2⟩
        case measure => simp [intOf]; omega
    · have HN := hideF (show true = R by rw [HR.out]; exact (allF_yes (fun j hj => HA.out j hj (by omega))).symm)
      go_wp2
      go_ret
      exact ⟨_, rfl, by omega, by omega, by rw [← HN.out]; simp, HB.out⟩
theorem hasBat_any (C : Nat) (v : Value) (x : List Bat) (w : World) (hf : FitsF x) (hr : RBats 0 w v x) (hC : w.cell? ⟨C, 0, none⟩ = some (.func (.func 30) #[] #[])) :
    Calls Tryz.prog 42 #[v, .func (.func 41) #[] #[.pointer (some ⟨C, 0, none⟩)]] w fun e w' => e = .returned (.bool (!x.all batB)) ∧ Below w.heap.size w w' := by
  have HH := hideF (idxBat_any C v x w hf hr hC)
  obtain ⟨p, cap, rfl⟩ := hr.isSlice
  clear hr
  obtain ⟨R, hR⟩ : ∃ R, R = x.all batB := ⟨_, rfl⟩
  rw [← hR] at HH ⊢
  clear hR
  go_enter Tryz.func42, Tryz.ntmps42
  go_wp2_with fail
  refine HH.out.mono ?_
  rintro e w1 ⟨n, rfl, hn1, hn2, hd, hb1⟩
  have HB1 := hideF hb1
  clear hb1
  by_cases hn : 0 ≤ n
  · have HD := hideF (show true = !R by rw [← hd]; simp [hn])
    clear hd
    go_wp2
    go_ret
    exact ⟨ret_boolF HD.out, HB1.out⟩
  · have HD := hideF (show false = !R by rw [← hd]; simp [hn])
    have HD2 := hideF hd
    clear hd
    go_wp2
    go_ret
    first
      | exact ⟨ret_boolF HD.out, HB1.out⟩
      | exact ⟨ret_boolF HD2.out, HB1.out⟩

set_option maxHeartbeats 1000000 in
theorem rowBat_any (n : Nat) (u : Value) (x : List Bat) (w : World) (hf : FitsF x) (hr : RBats 0 w u x) :
    Calls Tryz.prog 29 #[.agg #[.int .i64 (n : Int), u], .func (.func 30) #[] #[]] w fun e w' => e = .returned (.bool (decide (x.length ≤ n) && x.all batB)) ∧ Below w.heap.size w w' := by
  obtain ⟨R, hRR⟩ : ∃ R, R = x.all batB := ⟨_, rfl⟩
  rw [← hRR]
  have HRR := hideF hRR
  clear hRR
  have HR := hideF hr
  have HX := hideF hf
  have hl := hf.1
  obtain ⟨p, cap, rfl⟩ := hr.isSlice
  clear hr hf
  have hmf : ∀ (fn : Fn) (first cap : Array Value) (w : World), (Instr.makeFunc fn first cap).run Tryz.prog w = .ok (.func fn first cap) w := fun _ _ _ _ => rfl
  by_cases hlen : x.length ≤ n
  · have hd : decide (x.length ≤ n) = true := decide_eq_true hlen
    have hli : (x.length : Int) ≤ (n : Int) := by omega
    rw [hd, Bool.true_and]
    clear hd
    go_enter Tryz.func29, Tryz.ntmps29
    go_wp2_with fail
    generalize hW : World.alloc _ _ = W
    have hb0 : Below w.heap.size w W := by rw [← hW]; exact ((Below.refl _ _).alloc (Nat.le_refl _) _).alloc (by simp) _
    have hC : W.cell? ⟨w.heap.size + 1, 0, none⟩ = some (.func (.func 30) #[] #[]) := by
      rw [← hW]
      rw [show w.heap.size + 1 = (w.alloc (.cells #[.int .i64 (n : Int), .slice p x.length cap] 66)).heap.size by simp]
      exact new_cell0 _ _ _
    have HB0 := hideF hb0
    clear hb0 hW
    refine (hasBat_any (w.heap.size + 1) _ x W HX.out (HR.out.below HB0.out) hC).mono ?_
    rintro e w1 ⟨rfl, hb1⟩
    have HB1 := hideF (HB0.out.trans (hb1.mono HB0.out.size))
    clear hb1 hC
    cases hv : x.all batB
    · have HN := hideF (show false = R by rw [HRR.out, hv])
      go_wp2
      go_ret
      exact ⟨ret_boolF HN.out, HB1.out⟩
    · have HN := hideF (show true = R by rw [HRR.out, hv])
      go_wp2
      go_ret
      exact ⟨ret_boolF HN.out, HB1.out⟩
  · have hd : decide (x.length ≤ n) = false := decide_eq_false hlen
    have hli : ¬ (x.length : Int) ≤ (n : Int) := by omega
    rw [hd, Bool.false_and]
    clear hd
    go_enter Tryz.func29, Tryz.ntmps29
    go_wp2
    go_ret
    exact ⟨rfl, ((Below.refl _ _).alloc (Nat.le_refl _) _).alloc (by simp) _⟩

theorem batchesOf_any (n : ByteArray) (u : Value) (x : List Bat) (w : World) (hr : RBats 0 w u x) :
    Calls Tryz.prog 28 #[.agg #[.string n, u]] w fun e w' => e = .returned (.agg #[.int .i64 10, u]) ∧ Below w.heap.size w w' := by
  obtain ⟨p, cap, rfl⟩ := hr.isSlice
  have hb1 : Below w.heap.size w (w.alloc (.cells #[.string n, .slice p x.length cap] 29)) := (Below.refl _ _).alloc (Nat.le_refl _) _
  have HB := hideF (hb1.alloc hb1.size (.cells #[.int .i64 10, .slice p x.length cap] 66))
  clear hb1
  go_enter Tryz.func28, Tryz.ntmps28
  go_wp2
  exact bodyPost_ret (v := .agg #[.int .i64 10, .slice p x.length cap]) (by simp [results, Tryz.results28, go_sem]) rfl ⟨rfl, HB.out⟩

set_option maxHeartbeats 2000000 in
theorem fileRight_any (n : ByteArray) (u : Value) (x : List Bat) (w : World) (hm : n.size ≤ maxLen) (hf : FitsF x) (hr : RBats 0 w u x) :
    Calls Tryz.prog 15 #[.agg #[.string n, u]] w fun e w' => e = .returned (.bool (filB n x)) ∧ Below w.heap.size w w' := by
  obtain ⟨R, hR⟩ : ∃ R, R = filB n x := ⟨_, rfl⟩
  rw [← hR]
  have HR := hideF hR
  have HX := hideF hr
  obtain ⟨p, cap, rfl⟩ := hr.isSlice
  have hb0 : Below w.heap.size w (w.alloc (.cells #[.string n, .slice p x.length cap] 29)) := (Below.refl _ _).alloc (Nat.le_refl _) _
  have HB0 := hideF hb0
  clear hr hR hb0
  go_enter Tryz.func15, Tryz.ntmps15
  go_wp2_with fail
  refine (implNameRight_any n _ hm).mono ?_
  rintro e w1 ⟨rfl, rfl⟩
  cases hq : idB n
  · have HN := hideF (show false = R by rw [HR.out]; simp only [filB, hq, Bool.false_and])
    go_wp2
    go_ret
    exact ⟨ret_boolF HN.out, HB0.out⟩
  · have HE := hideF (show R = (decide (x.length ≤ 10) && x.all batB) by rw [HR.out]; simp only [filB, hq, Bool.true_and])
    go_wp2_with fail
    refine (batchesOf_any n _ x _ (HX.out.below HB0.out)).mono ?_
    rintro e w2 ⟨rfl, hb2⟩
    have HB2 := hideF (HB0.out.trans (hb2.mono HB0.out.size))
    clear hb2
    go_wp2_with fail
    refine (rowBat_any 10 _ x _ hf (HX.out.below HB2.out)).mono ?_
    rintro e w3 ⟨rfl, hb3⟩
    have HB3 := hideF (HB2.out.trans (hb3.mono HB2.out.size))
    clear hb3
    cases hv : (decide (x.length ≤ 10) && x.all batB)
    · have HN := hideF (show false = R by rw [HE.out, hv])
      go_wp2
      go_ret
      exact ⟨ret_boolF HN.out, HB3.out⟩
    · have HN := hideF (show true = R by rw [HE.out, hv])
      go_wp2
      go_ret
      exact ⟨ret_boolF HN.out, HB3.out⟩
end Go.Proofs.YtolgjdnhhbbebaaGreatDoor
