/- The program's look for a Segment: a method value that counts down. -/
import Derived.Test.YtnkddbkfbhpinaaPSeg
import Derived.Shelf.Abstract
namespace Go.Proofs.Ytnkddbkfbhpinaa
open Go.RowKit Go.Shelf Go.Proofs

theorem below_drewNP {B : Nat} {w w' : World} (h : Below B w w') (n : Nat) : Below B w (w'.drewN n) := ⟨h.os, h.tape, h.output, h.size, h.block⟩
theorem Row.drewN {w : World} {g : Nat} {T : TypeId} {cs : List Value} (h : Row w g T cs) (n : Nat) : Row (w.drewN n) g T cs := h

set_option maxHeartbeats 2000000 in
theorem isIt_any (L : Nat) (nm g : ByteArray) (p : Option Addr) (l c : Nat) (n : Int) (w : World) (hn1 : 1 ≤ n) (hn2 : n ≤ 20) (hL : Row w L 85 [.string g, .int .i64 n]) :
    Calls Try.prog 55 #[.pointer (some ⟨L, 0, none⟩), .agg #[.string nm, .slice p l c]] w fun e w' => (nm ≠ g ∧ e = .returned (.bool false) ∧ Row w' L 85 [.string g, .int .i64 n] ∨ nm = g ∧ e = .returned (.bool (n - 1 == (0 : Int))) ∧ Row w' L 85 [.string g, .int .i64 (n - 1)]) ∧ (∀ B, B ≤ L → B ≤ w.heap.size → Below B w w') := by
  have hlt := hL.lt
  have HL := hide hL
  obtain ⟨W, hW⟩ : ∃ W, W = w.alloc (.cells #[.string nm, .slice p l c] 66) := ⟨_, rfl⟩
  have hB : Below w.heap.size w W := by rw [hW]; exact (Below.refl _ _).alloc (Nat.le_refl _) _
  have HB := hide hB
  have rl := hL.below hB hlt
  have a0 : W.cell? ⟨L, 0, none⟩ = some (.string g) := rl.cell 0
  have a1 : W.cell? ⟨L, 1, none⟩ = some (.int .i64 n) := rl.cell 1
  have b0 : W.cell? ⟨w.heap.size, 0, none⟩ = some (.string nm) := by rw [hW]; exact (row_new w [.string nm, .slice p l c] 66).cell 0
  have HRL := hide rl
  have fz := rl.free 1
  clear rl hB hL
  by_cases he : nm = g
  · obtain ⟨n1, hn⟩ : ∃ n1, n1 = n - 1 := ⟨_, rfl⟩
    have hz : IntKind.i64.wrap (n - 1) = n1 := by rw [hn]; exact wrap_small _ (by omega) (by omega)
    rw [← hn]
    clear hn
    subst he
    go_enter Try.func55, Try.ntmps55
    go_wp2_with fail
    rw [← hW]
    clear hW
    go_quiet (fail)
    have HB2 := hide (show ∀ B, B ≤ L → B ≤ w.heap.size → Below B w ((W.setCell ⟨L, 1, none⟩ (.int .i64 n1)).drewN nq) from fun B h1 h2 => below_drewNP ((HB.out.mono h2).setCell (p := ⟨L, 1, none⟩) h1 _) nq)
    have HR2 := hide ((HRL.out.set (j := 1) (.int .i64 n1)).drewN nq)
    go_wp2
    go_ret
    exact ⟨.inr ⟨by first | trivial | rfl, rfl, HR2.out⟩, HB2.out⟩
  · have he2 := toList_neF he
    have he3 : (nm.toList == g.toList) = false := by simpa using he2
    clear he2
    go_enter Try.func55, Try.ntmps55
    go_wp2_with fail
    rw [← hW]
    clear hW
    go_quiet (fail)
    go_wp2
    go_ret
    exact ⟨.inl ⟨he, rfl, HRL.out.drewN nq⟩, fun B _ h2 => below_drewNP (HB.out.mono h2) nq⟩

theorem enters_isIt : ∀ args w, (callFunc 55 args).run Try.prog w = .ok (.enter 55 args) w := enters_of Try.func55 (by kernel_rfl) rfl

set_option maxHeartbeats 2000000 in
theorem indexLook_any (v : Value) (x : List Seg) (L : Nat) (g : ByteArray) (n : Int) (w : World) (B : Nat) (hBL : B ≤ L) (hBw : B ≤ w.heap.size) (hn1 : 1 ≤ n) (hn2 : n ≤ 20) (hx : x.length ≤ 1048576) (hr : RSegs 0 w v x)
    (hin : ∀ p c, v = .slice p x.length c → 0 < x.length → ∃ gg off, p = some ⟨gg, off, none⟩ ∧ gg < B) (hL : Row w L 85 [.string g, .int .i64 n]) :
    Calls Try.prog 54 #[v, .func (.func 55) #[.pointer (some ⟨L, 0, none⟩)] #[]] w fun e w' => e = .returned (.int .i64 (segIx x g n 0)) ∧ Below B w w' := by
  obtain ⟨p, cap, rfl, h1, h2, h4⟩ := hr
  have H4 := hide h4
  have HIN := hide (hin p cap rfl)
  clear h4 h1 h2 hin
  obtain ⟨R, hR⟩ : ∃ R, R = segIx x g n 0 := ⟨_, rfl⟩
  rw [← hR]
  have HR := hide hR
  have HL := hide hL
  clear hR hL
  have eg := enters_isIt
  go_enter Try.func54, Try.ntmps54
  go_wp2_with fail
  go_loopw [8] (fun i wr => ∃ (X : World) (k : Nat) (n' : Int), X = wr ∧ k ≤ x.length ∧ i = .int .i64 k ∧ 1 ≤ n' ∧ n' ≤ 20 ∧ Hid (R = segIx (x.drop k) g n' k) ∧ Hid (Row X L 85 [.string g, .int .i64 n']) ∧ Hid (Below B w X)) (fun i _ => x.length - (intOf i).toNat)
  case atStart => exact ⟨_, 0, n, rfl, Nat.zero_le _, rfl, hn1, hn2, by simpa using HR, HL, Below.refl _ _⟩
  case round =>
    obtain ⟨X, k, n', rfl, hk, rfl, hl, hh, HS, HLX, HB⟩ := hrel
    by_cases hlt : k < x.length
    · obtain ⟨gg, off, hp, hg, _, hc⟩ := H4.out (by omega)
      obtain ⟨gg', off', hp', hgB⟩ := HIN.out (by omega)
      have hgg : gg < B := by rw [hp] at hp'; cases hp'; exact hgB
      subst hp
      clear hp' hgB
      obtain ⟨hu, _, u, hv, hru⟩ := hc k hlt
      obtain ⟨up, uc, rfl⟩ := RL.isSlice hru
      have hck : X.cell? ⟨gg, off + k * 2, none⟩ = some (.string (x[k]'hlt).1) := by rw [HB.out.cell (p := ⟨gg, off + k * 2, none⟩) hgg]; exact hu
      have hcv : X.cell? ⟨gg, off + k * 2 + 1, none⟩ = some (.slice up (x[k]'hlt).2.length uc) := by rw [HB.out.cell (p := ⟨gg, off + k * 2 + 1, none⟩) hgg]; exact hv
      clear hu hc hv hru
      generalize hnm : (x[k]'hlt).1 = nm at hck
      have HNM := hide hnm
      clear hnm
      generalize (x[k]'hlt).2.length = lf at hcv
      go_wp2_with fail
      refine (isIt_any L nm g up lf uc n' _ hl hh HLX.out).mono ?_
      rintro e X2 ⟨hor, hb2⟩
      have HB2 := hide (HB.out.trans (hb2 B hBL (Nat.le_trans hBw HB.out.size)))
      clear hb2
      rcases hor with ⟨hne, rfl, hrow⟩ | ⟨heq, rfl, hrow⟩
      · have HN := hide (show R = segIx (x.drop (k + 1)) g n' (k + 1) by rw [HS.out]; exact segIx_no hlt n' (by rw [HNM.out]; exact hne))
        have HR2 := hide hrow
        clear hrow hne
        go_wp2
        go_roundw
        case rel => exact ⟨_, k + 1, n', rfl, by omega, by go_num, hl, hh, HN, HR2, HB2⟩
        case measure => simp [intOf]; omega
      · have HR2 := hide hrow
        have HEQ := hide heq
        clear hrow heq
        cases h1 : (n' - 1 == (0 : Int))
        · have hz : ¬ n' - 1 = 0 := by simpa using h1
          have HN := hide (show R = segIx (x.drop (k + 1)) g (n' - 1) (k + 1) by rw [HS.out]; exact segIx_on hlt n' (by rw [HNM.out]; exact HEQ.out) hz)
          clear h1
          go_wp2
          go_roundw
          case rel => exact ⟨_, k + 1, n' - 1, rfl, by omega, by go_num, by omega, by omega, HN, HR2, HB2⟩
          case measure => simp [intOf]; omega
        · have hz : n' - 1 = 0 := by simpa using h1
          have HN := hide (show R = (k : Int) by rw [HS.out]; exact segIx_it hlt n' (by rw [HNM.out]; exact HEQ.out) hz)
          clear h1 hz
          go_wp2
          go_ret
          exact ⟨ret_intF HN.out.symm, HB2.out⟩
    · have HN := hide (show R = -1 by rw [HS.out]; exact segIx_end (by omega) _ _)
      go_wp2
      go_ret
      exact ⟨ret_intF HN.out.symm, HB.out⟩

set_option maxHeartbeats 2000000 in
theorem segmentPlace_any (m : ByteArray) (u : Value) (x : List Seg) (g : ByteArray) (n : Int) (w : World) (hn1 : 1 ≤ n) (hn2 : n ≤ 20) (hx : x.length ≤ 1048576) (hr : RSegs 0 w u x) :
    Calls Try.prog 40 #[.agg #[.string m, u], .string g, .int .i64 n] w fun e w' => e = .returned (.int .i64 (segIx x g n 0)) ∧ Below w.heap.size w w' := by
  have HR := hide hr
  have HIN : Hid (∀ p c, u = .slice p x.length c → 0 < x.length → ∃ gg off, p = some ⟨gg, off, none⟩ ∧ gg < w.heap.size) := fun p c e h0 => by
    obtain ⟨p', c', e', _, _, h4⟩ := hr
    obtain ⟨gg, off, hp, hg, _⟩ := h4 h0
    rw [e'] at e
    cases e
    exact ⟨gg, off, hp, hg⟩
  obtain ⟨p, c, rfl⟩ := hr.isSlice
  clear hr
  obtain ⟨W, hW⟩ : ∃ W, W = (w.alloc (.cells #[.string m, .slice p x.length c] 32)).alloc (.cells #[.string g, .int .i64 n] 85) := ⟨_, rfl⟩
  have hB : Below w.heap.size w W := by rw [hW]; exact ((Below.refl _ _).alloc (Nat.le_refl _) _).alloc (by simp) _
  have HB := hide hB
  have HL : Hid (Row W (w.heap.size + 1) 85 [.string g, .int .i64 n]) := by
    have := row_new (w.alloc (.cells #[.string m, .slice p x.length c] 32)) [.string g, .int .i64 n] 85
    rw [hW]
    exact hide (by simpa using this)
  have HRW := hide (HR.out.below hB)
  clear hB
  go_enter Try.func40, Try.ntmps40
  go_wp2_with fail
  rw [← hW]
  refine (indexLook_any _ x (w.heap.size + 1) g n W w.heap.size (by omega) HB.out.size hn1 hn2 hx HRW.out HIN.out HL.out).mono ?_
  rintro e w2 ⟨rfl, hb2⟩
  have HB2 := hide (HB.out.trans hb2)
  clear hb2 hW
  go_wp2
  go_ret
  exact ⟨rfl, HB2.out⟩
end Go.Proofs.Ytnkddbkfbhpinaa
