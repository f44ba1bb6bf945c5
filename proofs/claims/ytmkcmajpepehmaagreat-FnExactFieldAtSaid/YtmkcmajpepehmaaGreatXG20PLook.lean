/- The program's look for a Segment: a method value that counts down. -/
import Derived.Test.YtmkcmajpepehmaaGreatXG19PSegM
import Derived.Shelf.Abstract
import Derived.Test.YtmkcmajpepehmaaGreatXG11Stab
import Derived.Deep.DeepCutAuto
namespace Go.Proofs.YtmkcmajpepehmaaGreat
open Go.RowKit Go.Shelf Go.Proofs

theorem below_drewNP {B : Nat} {w w' : World} (h : Below B w w') (n : Nat) : Below B w (w'.drewN n) := ⟨h.os, h.tape, h.output, h.size, h.block⟩
theorem Row.drewN {w : World} {g : Nat} {T : TypeId} {cs : List Value} (h : Row w g T cs) (n : Nat) : Row (w.drewN n) g T cs := h

set_option maxHeartbeats 2000000 in
theorem isIt_any (L : Nat) (nm g : ByteArray) (p : Option Addr) (l c : Nat) (n : Int) (w : World) (hn1 : 1 ≤ n) (hn2 : n ≤ 20) (hL : Row w L 133 [.string g, .int .i64 n]) :
    Calls Tryz.prog 110 #[.pointer (some ⟨L, 0, none⟩), .agg #[.string nm, .slice p l c]] w fun e w' => (nm ≠ g ∧ e = .returned (.bool false) ∧ Row w' L 133 [.string g, .int .i64 n] ∨ nm = g ∧ e = .returned (.bool (n - 1 == (0 : Int))) ∧ Row w' L 133 [.string g, .int .i64 (n - 1)]) ∧ (∀ B, B ≤ L → B ≤ w.heap.size → Below B w w') := by
  have hlt := hL.lt
  have HL := hide hL
  obtain ⟨W, hW⟩ : ∃ W, W = w.alloc (.cells #[.string nm, .slice p l c] 83) := ⟨_, rfl⟩
  have hB : Below w.heap.size w W := by rw [hW]; exact (Below.refl _ _).alloc (Nat.le_refl _) _
  have HB := hide hB
  have rl := hL.below hB hlt
  have a0 : W.cell? ⟨L, 0, none⟩ = some (.string g) := rl.cell 0
  have a1 : W.cell? ⟨L, 1, none⟩ = some (.int .i64 n) := rl.cell 1
  have b0 : W.cell? ⟨w.heap.size, 0, none⟩ = some (.string nm) := by rw [hW]; exact (row_new w [.string nm, .slice p l c] 83).cell 0
  have HRL := hide rl
  have fz := rl.free 1
  clear rl hB hL
  by_cases he : nm = g
  · obtain ⟨n1, hn⟩ : ∃ n1, n1 = n - 1 := ⟨_, rfl⟩
    have hz : IntKind.i64.wrap (n - 1) = n1 := by rw [hn]; exact wrap_small _ (by omega) (by omega)
    rw [← hn]
    clear hn
    subst he
    go_enter Tryz.func110, Tryz.ntmps110
    go_wp2_with fail
    rw [← hW]
    clear hW
    go_quiet (fail)
    have HB2 := hide (show ∀ B, B ≤ L → B ≤ w.heap.size → Below B w ((W.setCell ⟨L, 1, none⟩ (.int .i64 n1)).drewN nq) from fun B h1 h2 => below_drewNP ((HB.out.mono h2).setCell (p := ⟨L, 1, none⟩) h1 _) nq)
    have HR2 := hide ((HRL.out.set (j := 1) (.int .i64 n1)).drewN nq)
    go_wp2
    go_ret
    exact ⟨.inr ⟨by first | trivial | rfl, rfl, HR2.out⟩, HB2.out⟩
  · have he2 := toList_neF he
    have he3 : (nm.toList == g.toList) = false := by simpa using he2
    clear he2
    go_enter Tryz.func110, Tryz.ntmps110
    go_wp2_with fail
    rw [← hW]
    clear hW
    go_quiet (fail)
    go_wp2
    go_ret
    exact ⟨.inl ⟨he, rfl, HRL.out.drewN nq⟩, fun B _ h2 => below_drewNP (HB.out.mono h2) nq⟩

theorem enters_isIt : ∀ args w, (callFunc 110 args).run Tryz.prog w = .ok (.enter 110 args) w := enters_of Tryz.func110 (by kernel_rfl) rfl

set_option maxHeartbeats 2000000 in
theorem indexLook_any (v : Value) (x : List Seg) (L : Nat) (g : ByteArray) (n : Int) (w : World) (B : Nat) (hBL : B ≤ L) (hBw : B ≤ w.heap.size) (hn1 : 1 ≤ n) (hn2 : n ≤ 20) (hx : x.length ≤ 1048576) (hr : RSegs 0 w v x)
    (hin : ∀ p c, v = .slice p x.length c → 0 < x.length → ∃ gg off, p = some ⟨gg, off, none⟩ ∧ gg < B) (hL : Row w L 133 [.string g, .int .i64 n]) :
    Calls Tryz.prog 109 #[v, .func (.func 110) #[.pointer (some ⟨L, 0, none⟩)] #[]] w fun e w' => e = .returned (.int .i64 (segIx x g n 0)) ∧ Below B w w' := by
  obtain ⟨p, cap, rfl, h1, h2, h4⟩ := hr
  have H4 := hide h4
  have HIN := hide (hin p cap rfl)
  clear h4 h1 h2 hin
  obtain ⟨R, hR⟩ : ∃ R, R = segIx x g n 0 := ⟨_, rfl⟩
  rw [← hR]
  have HR := hide hR
  have HL := hide hL
  clear hR hL
  have eg := enters_isIt
  go_enter Tryz.func109, Tryz.ntmps109
  go_wp2_with fail
  go_loopw [8] (fun i wr => ∃ (X : World) (k : Nat) (n' : Int), X = wr ∧ k ≤ x.length ∧ i = .int .i64 k ∧ 1 ≤ n' ∧ n' ≤ 20 ∧ Hid (R = segIx (x.drop k) g n' k) ∧ Hid (Row X L 133 [.string g, .int .i64 n']) ∧ Hid (Below B w X)) (fun i _ => x.length - (intOf i).toNat)
  case atStart => exact ⟨_, 0, n, rfl, Nat.zero_le _, rfl, hn1, hn2, by simpa using HR, HL, Below.refl _ _⟩
  case round =>
    obtain ⟨X, k, n', rfl, hk, rfl, hl, hh, HS, HLX, HB⟩ := hrel
    by_cases hlt : k < x.length
    · obtain ⟨gg, off, hp, hg, _, hc⟩ := H4.out (by omega)
      obtain ⟨gg', off', hp', hgB⟩ := HIN.out (by omega)
      have hgg : gg < B := by rw [hp] at hp'; cases hp'; exact hgB
      subst hp
      clear hp' hgB
      obtain ⟨hu, _, u, hv, hru⟩ := hc k hlt
      obtain ⟨up, uc, rfl⟩ := RL.isSlice hru
      have hck : X.cell? ⟨gg, off + k * 2, none⟩ = some (.string (x[k]'hlt).1) := by rw [HB.out.cell (p := ⟨gg, off + k * 2, none⟩) hgg]; exact hu
      have hcv : X.cell? ⟨gg, off + k * 2 + 1, none⟩ = some (.slice up (x[k]'hlt).2.length uc) := by rw [HB.out.cell (p := ⟨gg, off + k * 2 + 1, none⟩) hgg]; exact hv
      clear hu hc hv hru
      generalize hnm : (x[k]'hlt).1 = nm at hck
      have HNM := hide hnm
      clear hnm
      generalize (x[k]'hlt).2.length = lf at hcv
      go_wp2_with fail
      refine (isIt_any L nm g up lf uc n' _ hl hh HLX.out).mono ?_
      rintro e X2 ⟨hor, hb2⟩
      have HB2 := hide (HB.out.trans (hb2 B hBL (Nat.le_trans hBw HB.out.size)))
      clear hb2
      rcases hor with ⟨hne, rfl, hrow⟩ | ⟨heq, rfl, hrow⟩
      · have HN := hide (show R = segIx (x.drop (k + 1)) g n' (k + 1) by rw [HS.out]; exact segIx_no hlt n' (by rw [HNM.out]; exact hne))
        have HR2 := hide hrow
        clear hrow hne
        go_wp2
        go_roundw
        case rel => exact ⟨_, k + 1, n', rfl, by omega, by go_num, hl, hh, HN, HR2, HB2⟩
        case measure => simp [intOf]; omega
      · have HR2 := hide hrow
        have HEQ := hide heq
        clear hrow heq
        cases h1 : (n' - 1 == (0 : Int))
        · have hz : ¬ n' - 1 = 0 := by simpa using h1
          have HN := hide (show R = segIx (x.drop (k + 1)) g (n' - 1) (k + 1) by rw [HS.out]; exact segIx_on hlt n' (by rw [HNM.out]; exact HEQ.out) hz)
          clear h1
          go_wp2
          go_roundw
          case rel => exact ⟨_, k + 1, n' - 1, rfl, by omega, by go_num, by omega, by omega, HN, HR2, HB2⟩
          case measure => simp [intOf]; omega
        · have hz : n' - 1 = 0 := by simpa using h1
          have HN := hide (show R = (k : Int) by rw [HS.out]; exact segIx_it hlt n' (by rw [HNM.out]; exact HEQ.out) hz)
          clear h1 hz
          go_wp2
          go_ret
          exact ⟨ret_intF HN.out.symm, HB2.out⟩
    · have HN := hide (show R = -1 by rw [HS.out]; exact segIx_end (by omega) _ _)
      go_wp2
      go_ret
      exact ⟨ret_intF HN.out.symm, HB.out⟩

set_option maxHeartbeats 2000000 in
theorem segmentPlace_any (m : ByteArray) (u : Value) (x : List Seg) (g : ByteArray) (n : Int) (w : World) (hn1 : 1 ≤ n) (hn2 : n ≤ 20) (hx : x.length ≤ 1048576) (hr : RSegs 0 w u x) :
    Calls Tryz.prog 71 #[.agg #[.string m, u], .string g, .int .i64 n] w fun e w' => e = .returned (.int .i64 (segIx x g n 0)) ∧ Below w.heap.size w w' := by
  have HR := hide hr
  have HIN : Hid (∀ p c, u = .slice p x.length c → 0 < x.length → ∃ gg off, p = some ⟨gg, off, none⟩ ∧ gg < w.heap.size) := fun p c e h0 => by
    obtain ⟨p', c', e', _, _, h4⟩ := hr
    obtain ⟨gg, off, hp, hg, _⟩ := h4 h0
    rw [e'] at e
    cases e
    exact ⟨gg, off, hp, hg⟩
  obtain ⟨p, c, rfl⟩ := hr.isSlice
  clear hr
  obtain ⟨W, hW⟩ : ∃ W, W = (w.alloc (.cells #[.string m, .slice p x.length c] 35)).alloc (.cells #[.string g, .int .i64 n] 133) := ⟨_, rfl⟩
  have hB : Below w.heap.size w W := by rw [hW]; exact ((Below.refl _ _).alloc (Nat.le_refl _) _).alloc (by simp) _
  have HB := hide hB
  have HL : Hid (Row W (w.heap.size + 1) 133 [.string g, .int .i64 n]) := by
    have := row_new (w.alloc (.cells #[.string m, .slice p x.length c] 35)) [.string g, .int .i64 n] 133
    rw [hW]
    exact hide (by simpa using this)
  have HRW := hide (HR.out.below hB)
  clear hB
  go_enter Tryz.func71, Tryz.ntmps71
  go_wp2_with fail
  rw [← hW]
  refine (indexLook_any _ x (w.heap.size + 1) g n W w.heap.size (by omega) HB.out.size hn1 hn2 hx HRW.out HIN.out HL.out).mono ?_
  rintro e w2 ⟨rfl, hb2⟩
  have HB2 := hide (HB.out.trans hb2)
  clear hb2 hW
  go_wp2
  go_ret
  exact ⟨rfl, HB2.out⟩
end Go.Proofs.YtmkcmajpepehmaaGreat
/- What stands at a place of a Message: of the program. -/
namespace Go.Proofs.YtmkcmajpepehmaaGreat
open Go.RowKit

theorem Kept.drewP {S : List Nat} {a b : World} (h : Kept S a b) : Kept S a { b with drawn := b.drawn + 1 } := ⟨h.os, h.tape, h.output, h.size, h.block⟩
theorem Kept.allocP {S : List Nat} {a b : World} (h : Kept S a b) (o : Obj) : Kept S a (b.alloc o) := h.below ((Below.refl b.heap.size b).alloc (Nat.le_refl _) o)
theorem Kept.setOwn {S : List Nat} {a b : World} {G j : Nat} (h : Kept S a b) (hG : a.heap.size ≤ G ∨ G ∈ S) (v : Value) : Kept S a (b.setCell ⟨G, j, none⟩ v) := by
  refine ⟨h.os, h.tape, h.output, ?_, fun k hk hn => ?_⟩
  · simpa [World.setCell] using h.size
  · rw [Below.heap_setCell b ⟨G, j, none⟩ v k (by rcases hG with h1 | h1; · show k ≠ G; omega
                                                  · show k ≠ G; intro e; exact hn (e ▸ h1))]
    exact h.block k hk hn
theorem newP {S : List Nat} {a b : World} (_ : Kept S a b) (cs : List Value) (T : TypeId) : Row (b.alloc (.cells cs.toArray T)) b.heap.size T cs := row_new b cs T

set_option maxHeartbeats 1000000 in
theorem itemAtField_from (v : Value) (xs : List (List (List (List ByteArray)))) (a : Int) (W w : World) (hb : Below W.heap.size W w) (hr : RL 0 (RFld 0) W v xs) :
    Calls Tryz.prog 72 #[v, .int .i64 a] w fun e w' => (∃ p c, e = .returned (.agg #[.slice p (itemL xs a).length c]) ∧ (RFld 0) W (.slice p (itemL xs a).length c) (itemL xs a)) ∧ Below w.heap.size w w' := by
  obtain ⟨p, cap, rfl, h1, h2, h4⟩ := hr
  have H4 := hide h4
  have HBB := hide hb
  clear h4 hb
  unfold maxLen at h2
  have hA : Below w.heap.size w (w.alloc (.cells #[.slice none 0 0] 31)) := (Below.refl _ _).alloc (Nat.le_refl _) _
  by_cases hin : 0 ≤ a ∧ a < xs.length
  · obtain ⟨k, rfl⟩ := Int.eq_ofNat_of_zero_le hin.1
    have hk : k < xs.length := by omega
    rw [itemL_yes hk]
    obtain ⟨g, off, hp, hg, _, hc⟩ := H4.out (by omega)
    subst hp
    obtain ⟨u, hu0, hru⟩ := hc k hk
    obtain ⟨up, uc, rfl⟩ := RL.isSlice hru
    have HRU := hide hru
    have hu := (HBB.out.cell (p := ⟨g, off + k, none⟩) hg).trans hu0
    have hgw := Nat.lt_of_lt_of_le hg HBB.out.size
    have hne : g ≠ w.heap.size := by omega
    have hB : Hid (Below w.heap.size w (w.alloc (.cells #[.slice up (xs[k]'hk).length uc] 31))) := (Below.refl _ _).alloc (Nat.le_refl _) _
    have hi0 : ¬ ((k : Int) < 0) := by omega
    have hi1 : ¬ ((xs.length : Int) ≤ (k : Int)) := by omega
    clear hc hru hin hA hu0
    go_enter Tryz.func72, Tryz.ntmps72
    go_wp2
    exact bodyPost_ret (v := .agg #[.slice up (xs[k]'hk).length uc]) (by simp [results, Tryz.results72, go_sem]) rfl ⟨⟨up, uc, rfl, HRU.out⟩, hB.out⟩
  · rw [itemL_no hin]
    have HZ : Hid ((RFld 0) W (.slice none ([] : List (List (List ByteArray))).length 0) []) := ⟨none, 0, rfl, Nat.le_refl _, Nat.zero_le _, fun h => absurd h (Nat.lt_irrefl 0)⟩
    have HB := hide (hA.alloc (by simp) (.cells #[.slice none 0 0] 31))
    clear hA
    by_cases h0 : a < 0
    · clear hin
      go_enter Tryz.func72, Tryz.ntmps72
      go_wp2
      exact bodyPost_ret (v := .agg #[.slice none 0 0]) (by simp [results, Tryz.results72, go_sem]) rfl ⟨⟨none, 0, rfl, HZ.out⟩, HB.out⟩
    · have h3 : (xs.length : Int) ≤ a := by omega
      clear hin
      go_enter Tryz.func72, Tryz.ntmps72
      go_wp2
      exact bodyPost_ret (v := .agg #[.slice none 0 0]) (by simp [results, Tryz.results72, go_sem]) rfl ⟨⟨none, 0, rfl, HZ.out⟩, HB.out⟩

theorem itemAtSegment_from (v : Value) (xs : List Seg) (a : Int) (W w : World) (hb : Below W.heap.size W w) (hr : RSegs 0 W v xs) :
    Calls Tryz.prog 70 #[v, .int .i64 a] w fun e w' => (∃ nm p c, e = .returned (.agg #[.string nm, .slice p (fldsAt xs a).length c]) ∧ RFlds 0 W (.slice p (fldsAt xs a).length c) (fldsAt xs a)) ∧ Below w.heap.size w w' := by
  by_cases hin : 0 ≤ a ∧ a < xs.length
  · obtain ⟨k, rfl⟩ := Int.eq_ofNat_of_zero_le hin.1
    have hk : k < xs.length := by omega
    have e1 : fldsAt xs (k : Int) = (xs[k]'hk).2 := by unfold fldsAt; rw [itemL_yes (by simpa using hk)]; simp
    rw [e1]
    obtain ⟨p, cap, rfl, h1, h2, h4⟩ := hr
    have H4 := hide h4
    have HBB := hide hb
    clear h4 hb
    unfold maxLen at h2
    obtain ⟨g, off, hp, hg, _, hc⟩ := H4.out (by omega)
    subst hp
    obtain ⟨hn0, _, u, hu0, hru⟩ := hc k hk
    obtain ⟨up, uc, rfl⟩ := RL.isSlice hru
    have HRU := hide hru
    have hn := (HBB.out.cell (p := ⟨g, off + k * 2, none⟩) hg).trans hn0
    have hu := (HBB.out.cell (p := ⟨g, off + k * 2 + 1, none⟩) hg).trans hu0
    have hgw := Nat.lt_of_lt_of_le hg HBB.out.size
    have hne : g ≠ w.heap.size := by omega
    have hB : Hid (Below w.heap.size w (w.alloc (.cells #[.string (xs[k]'hk).1, .slice up (xs[k]'hk).2.length uc] 83))) := (Below.refl _ _).alloc (Nat.le_refl _) _
    have hi0 : ¬ ((k : Int) < 0) := by omega
    have hi1 : ¬ ((xs.length : Int) ≤ (k : Int)) := by omega
    clear hc hru hin hn0 hu0 e1
    go_enter Tryz.func70, Tryz.ntmps70
    go_wp2
    exact bodyPost_ret (v := .agg #[.string (xs[k]'hk).1, .slice up (xs[k]'hk).2.length uc]) (by simp [results, Tryz.results70, go_sem]) rfl ⟨⟨_, up, uc, rfl, HRU.out⟩, hB.out⟩
  · refine (itemAtSegment_any v xs a w (hr.below hb)).mono ?_
    rintro e w' ⟨nm, p, c, rfl, hR, hb'⟩
    rw [show fldsAt xs a = [] from itemL_no (by simpa using hin)] at hR ⊢
    obtain ⟨p', c', e', h1, h2, _⟩ := hR
    cases e'
    exact ⟨⟨nm, p, c, rfl, p, c, rfl, h1, h2, fun h => absurd h (Nat.lt_irrefl 0)⟩, hb'⟩

set_option maxHeartbeats 4000000 in
set_option maxRecDepth 100000 in
theorem fieldThere_from (m : ByteArray) (u : Value) (x : List Seg) (q : PathM) (W0 w : World) (hb : Below W0.heap.size W0 w) (hq : q.right = true) (hx : x.length ≤ 1048576) (hr : RSegs 0 W0 u x) :
    Calls Tryz.prog 35 #[.agg #[.string m, u], q.v] w fun e w' => (∃ p c, e = .returned (.agg #[.slice p (fldAt x q).length c]) ∧ RFld 0 W0 (.slice p (fldAt x q).length c) (fldAt x q)) ∧ Below w.heap.size w w' := by
  obtain ⟨⟨n1, n2⟩, ⟨f1, f2⟩, _, _, _⟩ := right_nums hq
  have hsh := shiftB_small q.seg
  have HBB := hide hb
  have HR := hide hr
  obtain ⟨p, c, rfl⟩ := hr.isSlice
  clear hb hr hq
  obtain ⟨W, hW⟩ : ∃ W, W = ((w.alloc (.cells #[.string m, .slice p x.length c] 35)).alloc (.cells #[.string q.seg, .int .i64 q.nth, .int .i64 q.fld, .int .i64 q.rep, .int .i64 q.comp, .int .i64 q.sub] 37)).alloc (.cells #[.slice none 0 0] 31) := ⟨_, rfl⟩
  have hB0 : Below w.heap.size w W := by rw [hW]; exact (((Below.refl _ _).alloc (Nat.le_refl _) _).alloc (by simp) _).alloc (by simp; omega) _
  have HB0 := hide hB0
  have HWs := hide (show W.heap.size = w.heap.size + 1 + 1 + 1 by rw [hW]; simp)
  have HM : Hid (Row W w.heap.size 35 [.string m, .slice p x.length c]) := by rw [hW]; exact ((row_new w [.string m, .slice p x.length c] 35).alloc _).alloc _
  have HP : Hid (Row W (w.heap.size + 1) 37 [.string q.seg, .int .i64 q.nth, .int .i64 q.fld, .int .i64 q.rep, .int .i64 q.comp, .int .i64 q.sub]) := by
    rw [hW]
    have := row_new (w.alloc (.cells #[.string m, .slice p x.length c] 35)) [.string q.seg, .int .i64 q.nth, .int .i64 q.fld, .int .i64 q.rep, .int .i64 q.comp, .int .i64 q.sub] 37
    exact Row.alloc (by simpa using this) _
  have HF : Hid (Row W (w.heap.size + 1 + 1) 31 [.slice none 0 0]) := by
    rw [hW]
    have := row_new ((w.alloc (.cells #[.string m, .slice p x.length c] 35)).alloc (.cells #[.string q.seg, .int .i64 q.nth, .int .i64 q.fld, .int .i64 q.rep, .int .i64 q.comp, .int .i64 q.sub] 37)) [.slice none 0 0] 31
    exact hide (by simpa using this)
  clear hB0
  rw [show q.v = .agg #[.string q.seg, .int .i64 q.nth, .int .i64 q.fld, .int .i64 q.rep, .int .i64 q.comp, .int .i64 q.sub] from rfl]
  go_enter Tryz.func35, Tryz.ntmps35
  go_wp2_with fail
  rw [← hW]
  clear hW
  generalize hK1 : w.heap.size + 1 = K1 at *
  generalize hK2 : K1 + 1 = K2 at *
  have HK := hide (show w.heap.size < K1 ∧ K1 < K2 ∧ K2 < W.heap.size by have := HWs.out; omega)
  clear hK1 hK2 HWs
  go_cut [5] (fun t5 wz => ∃ (wx : World) (G : Nat) (nm : ByteArray) (p2 : Option Addr) (c2 : Nat), wx = wz ∧ t5 = .pointer (some ⟨G, 0, none⟩) ∧ Hid (W.heap.size ≤ G) ∧ Hid (Row wx G 83 [.string nm, .slice p2 (fldsAt x (segIx x q.seg q.nth 0)).length c2]) ∧ Hid (RFlds 0 W0 (.slice p2 (fldsAt x (segIx x q.seg q.nth 0)).length c2) (fldsAt x (segIx x q.seg q.nth 0))) ∧ Hid (Kept [] W wx))
  case first =>
    have HSS := hide (show ∀ y, Kept [] W y → (fun y : World => y.cell? ⟨w.heap.size, 0, none⟩ = some (.string m) ∧ y.cell? ⟨w.heap.size, 1, none⟩ = some (.slice p x.length c) ∧ y.cell? ⟨K1, 0, none⟩ = some (.string q.seg) ∧ y.cell? ⟨K1, 1, none⟩ = some (.int .i64 q.nth) ∧ y.cell? ⟨K1, 2, none⟩ = some (.int .i64 q.fld)) y from fun y h => ⟨(h.row HM.out (by simp)).cell 0, (h.row HM.out (by simp)).cell 1, (h.row HP.out (by simp)).cell 0, (h.row HP.out (by simp)).cell 1, (h.row HP.out (by simp)).cell 2⟩)
    refine wp_region_held (S := fun y => y.cell? ⟨w.heap.size, 0, none⟩ = some (.string m) ∧ y.cell? ⟨w.heap.size, 1, none⟩ = some (.slice p x.length c) ∧ y.cell? ⟨K1, 0, none⟩ = some (.string q.seg) ∧ y.cell? ⟨K1, 1, none⟩ = some (.int .i64 q.nth) ∧ y.cell? ⟨K1, 2, none⟩ = some (.int .i64 q.fld)) (by kernel_rfl) ?_
    have HX : Hid (Kept [] W { W with drawn := W.drawn + 1 }) := (Kept.refl _ _).drewP
    generalize ({ W with drawn := W.drawn + 1 } : World) = X0 at HX ⊢
    have HS := hide (HSS.out _ HX.out)
    refine wpAnyH_take (i := 0) (oi := _) (v := .pointer (some ⟨w.heap.size, 1, none⟩)) rfl (by kernel_rfl) (by kernel_rfl) (by kernel_rfl) (fun _ _ _ h => h) (Or.inl ⟨by rfl, by intro w hSw; go_split_ands; go_simp⟩) HS.out ?_
    simp only [Act.put, List.getElem_toArray, List.getElem_cons_zero, List.setIfInBounds_toArray, List.set_cons_zero, List.set_cons_succ]
    refine wpAnyH_take (i := 1) (oi := _) (v := .slice p x.length c) rfl (by kernel_rfl) (by kernel_rfl) (by kernel_rfl) (fun _ _ _ h => h) (Or.inl ⟨by rfl, by intro w hSw; go_split_ands; go_simp⟩) HS.out ?_
    simp only [Act.put, List.getElem_toArray, List.getElem_cons_zero, List.getElem_cons_succ, List.setIfInBounds_toArray, List.set_cons_zero, List.set_cons_succ]
    refine wpAnyH_take (i := 2) (oi := _) (v := .agg #[.string m, .slice p x.length c]) rfl (by kernel_rfl) (by kernel_rfl) (by kernel_rfl) (fun _ _ _ h => h) (Or.inl ⟨by rfl, by intro w hSw; go_split_ands; go_simp⟩) HS.out ?_
    simp only [Act.put, List.getElem_toArray, List.getElem_cons_zero, List.getElem_cons_succ, List.setIfInBounds_toArray, List.set_cons_zero, List.set_cons_succ]
    refine wpAnyH_take (i := 3) (oi := _) (v := .pointer (some ⟨K1, 0, none⟩)) rfl (by kernel_rfl) (by kernel_rfl) (by kernel_rfl) (fun _ _ _ h => h) (Or.inl ⟨by rfl, by intro w hSw; go_split_ands; go_simp⟩) HS.out ?_
    simp only [Act.put, List.getElem_toArray, List.getElem_cons_zero, List.getElem_cons_succ, List.setIfInBounds_toArray, List.set_cons_zero, List.set_cons_succ]
    refine wpAnyH_take (i := 4) (oi := _) (v := .string q.seg) rfl (by kernel_rfl) (by kernel_rfl) (by kernel_rfl) (fun _ _ _ h => h) (Or.inl ⟨by rfl, by intro w hSw; go_split_ands; go_simp⟩) HS.out ?_
    simp only [Act.put, List.getElem_toArray, List.getElem_cons_zero, List.getElem_cons_succ, List.setIfInBounds_toArray, List.set_cons_zero, List.set_cons_succ]
    refine wpAnyH_take (i := 5) (oi := _) (v := .pointer (some ⟨K1, 1, none⟩)) rfl (by kernel_rfl) (by kernel_rfl) (by kernel_rfl) (fun _ _ _ h => h) (Or.inl ⟨by rfl, by intro w hSw; go_split_ands; go_simp⟩) HS.out ?_
    simp only [Act.put, List.getElem_toArray, List.getElem_cons_zero, List.getElem_cons_succ, List.setIfInBounds_toArray, List.set_cons_zero, List.set_cons_succ]
    refine wpAnyH_take (i := 6) (oi := _) (v := .int .i64 q.nth) rfl (by kernel_rfl) (by kernel_rfl) (by kernel_rfl) (fun _ _ _ h => h) (Or.inl ⟨by rfl, by intro w hSw; go_split_ands; go_simp⟩) HS.out ?_
    simp only [Act.put, List.getElem_toArray, List.getElem_cons_zero, List.getElem_cons_succ, List.setIfInBounds_toArray, List.set_cons_zero, List.set_cons_succ]
    refine wpAnyH_ready (rs := [7, 9]) (by kernel_rfl) (by simp) ?_
    refine AllReadyH.cons (o := _) rfl (fun K hK => ?_) (AllReadyH.cons (o := _) rfl (fun K hK => ?_) AllReadyH.nil)
    · go_simp
      refine (segmentPlace_any m _ x q.seg q.nth _ n1 n2 hx (HR.out.below (HBB.out.trans ((HX.out.toBelow HB0.out HB0.out.size (by simp)).mono HBB.out.size)))).mono ?_
      rintro e X2 ⟨rfl, hbc⟩
      have HX2 := hide (HX.out.below hbc)
      refine hK.out _ _ (HSS.out _ HX2.out) (fun _ => ?_)
      clear hK K HS HX hbc 
      have HX := HX2
      have HS := hide (HSS.out _ HX.out)
      clear HX2
      refine wpAnyH_ready (rs := [8, 9]) (by kernel_rfl) (by simp) ?_
      refine AllReadyH.cons (o := _) rfl (fun K hK => ?_) (AllReadyH.cons (o := _) rfl (fun K hK => ?_) AllReadyH.nil)
      · go_simp
        refine (itemAtSegment_from _ x (segIx x q.seg q.nth 0) W0 _ (HBB.out.trans ((HX.out.toBelow HB0.out HB0.out.size (by simp)).mono HBB.out.size)) HR.out).mono ?_
        rintro e X3 ⟨⟨nm, p2, c2, rfl, hfs⟩, hbc⟩
        have HX2 := hide (HX.out.below hbc)
        have HFS := hide hfs
        clear hfs
        refine hK.out _ _ (HSS.out _ HX2.out) (fun _ => ?_)
        clear hK K HS HX hbc 
        have HX := HX2
        have HS := hide (HSS.out _ HX.out)
        clear HX2
        refine wpAnyH_ready (rs := [9]) (by kernel_rfl) (by simp) ?_
        refine AllReadyH.cons (o := _) rfl (fun K hK => ?_) AllReadyH.nil
        go_simp
        refine hK.out _ _ (HSS.out _ (HX.out.allocP (.cells #[.string ⟨#[]⟩, .slice none 0 0] 83))) (fun _ => ?_)
        clear hK K HS
        have HG := hide (newP HX.out [.string ⟨#[]⟩, .slice none 0 0] 83)
        have HGB := hide HX.out.size
        have HX2 := hide (HX.out.allocP (.cells #[.string ⟨#[]⟩, .slice none 0 0] 83))
        clear HX
        generalize hY : World.alloc _ (Obj.cells #[.string ⟨#[]⟩, .slice none 0 0] 83) = X4 at HX2 ⊢
        rw [show (List.toArray [.string ⟨#[]⟩, .slice none 0 0] : Array Value) = #[.string ⟨#[]⟩, .slice none 0 0] from rfl, hY] at HG
        clear hY
        generalize Array.size (World.heap _) = G at HG HGB ⊢
        have HX := HX2
        clear HX2
        have HS := hide (HSS.out _ HX.out)
        refine wpAnyH_ready (rs := [10]) (by kernel_rfl) (by simp) ?_
        refine AllReadyH.cons (o := _) rfl (fun K hK => ?_) AllReadyH.nil
        have r0 := HG.out.cell 0
        have r1 := HG.out.cell 1
        have p0 := HG.out.free 0
        have p1 := HG.out.free 1
        go_simp
        have HX2 := hide ((HX.out.setOwn (G := G) (j := 0) (.inl HGB.out) (.string nm)).setOwn (G := G) (j := 1) (.inl HGB.out) (.slice p2 (fldsAt x (segIx x q.seg q.nth 0)).length c2))
        have HG2 := hide ((HG.out.set (j := 0) (.string nm)).set (j := 1) (.slice p2 (fldsAt x (segIx x q.seg q.nth 0)).length c2))
        refine hK.out _ _ (HSS.out _ HX2.out) (fun _ => ?_)
        refine wpAnyH_done (by kernel_rfl) ?_ _
        clear hK K r0 r1 p0 p1
        go_wp2_with fail
        go_meet
        exact ⟨_, G, nm, p2, c2, rfl, rfl, HGB, HG2, HFS, HX2⟩
      · go_simp
        refine hK.out _ _ (HSS.out _ (HX.out.allocP (.cells #[.string ⟨#[]⟩, .slice none 0 0] 83))) (fun _ => ?_)
        clear hK K HS
        have HG := hide (newP HX.out [.string ⟨#[]⟩, .slice none 0 0] 83)
        have HGB := hide HX.out.size
        have HX2 := hide (HX.out.allocP (.cells #[.string ⟨#[]⟩, .slice none 0 0] 83))
        clear HX
        generalize hY : World.alloc _ (Obj.cells #[.string ⟨#[]⟩, .slice none 0 0] 83) = X4 at HX2 ⊢
        rw [show (List.toArray [.string ⟨#[]⟩, .slice none 0 0] : Array Value) = #[.string ⟨#[]⟩, .slice none 0 0] from rfl, hY] at HG
        clear hY
        generalize Array.size (World.heap _) = G at HG HGB ⊢
        have HX := HX2
        clear HX2
        have HS := hide (HSS.out _ HX.out)
        refine wpAnyH_ready (rs := [8]) (by kernel_rfl) (by simp) ?_
        refine AllReadyH.cons (o := _) rfl (fun K hK => ?_) AllReadyH.nil
        go_simp
        refine (itemAtSegment_from _ x (segIx x q.seg q.nth 0) W0 _ (HBB.out.trans ((HX.out.toBelow HB0.out HB0.out.size (by simp)).mono HBB.out.size)) HR.out).mono ?_
        rintro e X3 ⟨⟨nm, p2, c2, rfl, hfs⟩, hbc⟩
        have HX2 := hide (HX.out.below hbc)
        have HG2 := hide (HG.out.below hbc HG.out.lt)
        have HFS := hide hfs
        clear hfs
        refine hK.out _ _ (HSS.out _ HX2.out) (fun _ => ?_)
        clear hK K HS HX hbc HG
        have HX := HX2
        have HS := hide (HSS.out _ HX.out)
        clear HX2
        have HG := HG2
        clear HG2
        refine wpAnyH_ready (rs := [10]) (by kernel_rfl) (by simp) ?_
        refine AllReadyH.cons (o := _) rfl (fun K hK => ?_) AllReadyH.nil
        have r0 := HG.out.cell 0
        have r1 := HG.out.cell 1
        have p0 := HG.out.free 0
        have p1 := HG.out.free 1
        go_simp
        have HX2 := hide ((HX.out.setOwn (G := G) (j := 0) (.inl HGB.out) (.string nm)).setOwn (G := G) (j := 1) (.inl HGB.out) (.slice p2 (fldsAt x (segIx x q.seg q.nth 0)).length c2))
        have HG2 := hide ((HG.out.set (j := 0) (.string nm)).set (j := 1) (.slice p2 (fldsAt x (segIx x q.seg q.nth 0)).length c2))
        refine hK.out _ _ (HSS.out _ HX2.out) (fun _ => ?_)
        refine wpAnyH_done (by kernel_rfl) ?_ _
        clear hK K r0 r1 p0 p1
        go_wp2_with fail
        go_meet
        exact ⟨_, G, nm, p2, c2, rfl, rfl, HGB, HG2, HFS, HX2⟩
    · go_simp
      refine hK.out _ _ (HSS.out _ (HX.out.allocP (.cells #[.string ⟨#[]⟩, .slice none 0 0] 83))) (fun _ => ?_)
      clear hK K HS
      have HG := hide (newP HX.out [.string ⟨#[]⟩, .slice none 0 0] 83)
      have HGB := hide HX.out.size
      have HX2 := hide (HX.out.allocP (.cells #[.string ⟨#[]⟩, .slice none 0 0] 83))
      clear HX
      generalize hY : World.alloc _ (Obj.cells #[.string ⟨#[]⟩, .slice none 0 0] 83) = X4 at HX2 ⊢
      rw [show (List.toArray [.string ⟨#[]⟩, .slice none 0 0] : Array Value) = #[.string ⟨#[]⟩, .slice none 0 0] from rfl, hY] at HG
      clear hY
      generalize Array.size (World.heap _) = G at HG HGB ⊢
      have HX := HX2
      clear HX2
      have HS := hide (HSS.out _ HX.out)
      refine wpAnyH_ready (rs := [7]) (by kernel_rfl) (by simp) ?_
      refine AllReadyH.cons (o := _) rfl (fun K hK => ?_) AllReadyH.nil
      go_simp
      refine (segmentPlace_any m _ x q.seg q.nth _ n1 n2 hx (HR.out.below (HBB.out.trans ((HX.out.toBelow HB0.out HB0.out.size (by simp)).mono HBB.out.size)))).mono ?_
      rintro e X2 ⟨rfl, hbc⟩
      have HX2 := hide (HX.out.below hbc)
      have HG2 := hide (HG.out.below hbc HG.out.lt)
      refine hK.out _ _ (HSS.out _ HX2.out) (fun _ => ?_)
      clear hK K HS HX hbc HG
      have HX := HX2
      have HS := hide (HSS.out _ HX.out)
      clear HX2
      have HG := HG2
      clear HG2
      refine wpAnyH_ready (rs := [8]) (by kernel_rfl) (by simp) ?_
      refine AllReadyH.cons (o := _) rfl (fun K hK => ?_) AllReadyH.nil
      go_simp
      refine (itemAtSegment_from _ x (segIx x q.seg q.nth 0) W0 _ (HBB.out.trans ((HX.out.toBelow HB0.out HB0.out.size (by simp)).mono HBB.out.size)) HR.out).mono ?_
      rintro e X3 ⟨⟨nm, p2, c2, rfl, hfs⟩, hbc⟩
      have HX2 := hide (HX.out.below hbc)
      have HG2 := hide (HG.out.below hbc HG.out.lt)
      have HFS := hide hfs
      clear hfs
      refine hK.out _ _ (HSS.out _ HX2.out) (fun _ => ?_)
      clear hK K HS HX hbc HG
      have HX := HX2
      have HS := hide (HSS.out _ HX.out)
      clear HX2
      have HG := HG2
      clear HG2
      refine wpAnyH_ready (rs := [10]) (by kernel_rfl) (by simp) ?_
      refine AllReadyH.cons (o := _) rfl (fun K hK => ?_) AllReadyH.nil
      have r0 := HG.out.cell 0
      have r1 := HG.out.cell 1
      have p0 := HG.out.free 0
      have p1 := HG.out.free 1
      go_simp
      have HX2 := hide ((HX.out.setOwn (G := G) (j := 0) (.inl HGB.out) (.string nm)).setOwn (G := G) (j := 1) (.inl HGB.out) (.slice p2 (fldsAt x (segIx x q.seg q.nth 0)).length c2))
      have HG2 := hide ((HG.out.set (j := 0) (.string nm)).set (j := 1) (.slice p2 (fldsAt x (segIx x q.seg q.nth 0)).length c2))
      refine hK.out _ _ (HSS.out _ HX2.out) (fun _ => ?_)
      refine wpAnyH_done (by kernel_rfl) ?_ _
      clear hK K r0 r1 p0 p1
      go_wp2_with fail
      go_meet
      exact ⟨_, G, nm, p2, c2, rfl, rfl, HGB, HG2, HFS, HX2⟩
  case rest =>
    obtain ⟨wx, G, nm, p2, c2, rfl, rfl, HGB, HRG, HFS, HXK⟩ := hcut
    have hK := HK.out
    have hGB := HGB.out
    have HFX := hide (HXK.out.row HF.out (by simp))
    have HPX := hide (HXK.out.row HP.out (by simp))
    have HB1 := hide (HXK.out.toBelow HB0.out HB0.out.size (by simp))
    have hwr : IntKind.i64.wrap (q.fld - shiftB q.seg) = q.fld - shiftB q.seg := wrap_small _ (by omega) (by omega)
    have HNG := hide (show G ∉ [K2] by simp; omega)
    have HNP := hide (show K1 ∉ [K2] by simp; omega)
    have HSS := hide (show ∀ y, Kept [K2] wx y → (fun y : World => y.cell? ⟨G, 1, none⟩ = some (.slice p2 (fldsAt x (segIx x q.seg q.nth 0)).length c2) ∧ y.cell? ⟨K1, 0, none⟩ = some (.string q.seg) ∧ y.cell? ⟨K1, 2, none⟩ = some (.int .i64 q.fld)) y from fun y h => ⟨(h.row HRG.out HNG.out).cell 1, (h.row HPX.out HNP.out).cell 0, (h.row HPX.out HNP.out).cell 2⟩)
    go_wp2_with fail
    refine wp_region_held (S := fun y => y.cell? ⟨G, 1, none⟩ = some (.slice p2 (fldsAt x (segIx x q.seg q.nth 0)).length c2) ∧ y.cell? ⟨K1, 0, none⟩ = some (.string q.seg) ∧ y.cell? ⟨K1, 2, none⟩ = some (.int .i64 q.fld)) (by kernel_rfl) ?_
    have HX : Hid (Kept [K2] wx { wx with drawn := wx.drawn + 1 }) := (Kept.refl _ _).drewP
    have HF0 : Hid (Row { wx with drawn := wx.drawn + 1 } K2 31 [.slice none 0 0]) := HFX.out
    generalize ({ wx with drawn := wx.drawn + 1 } : World) = X0 at HX HF0 ⊢
    have HS := hide (HSS.out _ HX.out)
    refine wpAnyH_take (i := 0) (oi := _) (v := .pointer (some ⟨G, 1, none⟩)) rfl (by kernel_rfl) (by kernel_rfl) (by kernel_rfl) (fun _ _ _ h => h) (Or.inl ⟨by rfl, by intro w hSw; go_split_ands; go_simp⟩) HS.out ?_
    simp only [Act.put, List.getElem_toArray, List.getElem_cons_zero, List.setIfInBounds_toArray, List.set_cons_zero, List.set_cons_succ]
    refine wpAnyH_take (i := 1) (oi := _) (v := .slice p2 (fldsAt x (segIx x q.seg q.nth 0)).length c2) rfl (by kernel_rfl) (by kernel_rfl) (by kernel_rfl) (fun _ _ _ h => h) (Or.inl ⟨by rfl, by intro w hSw; go_split_ands; go_simp⟩) HS.out ?_
    simp only [Act.put, List.getElem_toArray, List.getElem_cons_zero, List.getElem_cons_succ, List.setIfInBounds_toArray, List.set_cons_zero, List.set_cons_succ]
    refine wpAnyH_take (i := 2) (oi := _) (v := .pointer (some ⟨K1, 2, none⟩)) rfl (by kernel_rfl) (by kernel_rfl) (by kernel_rfl) (fun _ _ _ h => h) (Or.inl ⟨by rfl, by intro w hSw; go_split_ands; go_simp⟩) HS.out ?_
    simp only [Act.put, List.getElem_toArray, List.getElem_cons_zero, List.getElem_cons_succ, List.setIfInBounds_toArray, List.set_cons_zero, List.set_cons_succ]
    refine wpAnyH_take (i := 3) (oi := _) (v := .int .i64 q.fld) rfl (by kernel_rfl) (by kernel_rfl) (by kernel_rfl) (fun _ _ _ h => h) (Or.inl ⟨by rfl, by intro w hSw; go_split_ands; go_simp⟩) HS.out ?_
    simp only [Act.put, List.getElem_toArray, List.getElem_cons_zero, List.getElem_cons_succ, List.setIfInBounds_toArray, List.set_cons_zero, List.set_cons_succ]
    refine wpAnyH_take (i := 4) (oi := _) (v := .pointer (some ⟨K1, 0, none⟩)) rfl (by kernel_rfl) (by kernel_rfl) (by kernel_rfl) (fun _ _ _ h => h) (Or.inl ⟨by rfl, by intro w hSw; go_split_ands; go_simp⟩) HS.out ?_
    simp only [Act.put, List.getElem_toArray, List.getElem_cons_zero, List.getElem_cons_succ, List.setIfInBounds_toArray, List.set_cons_zero, List.set_cons_succ]
    refine wpAnyH_take (i := 5) (oi := _) (v := .string q.seg) rfl (by kernel_rfl) (by kernel_rfl) (by kernel_rfl) (fun _ _ _ h => h) (Or.inl ⟨by rfl, by intro w hSw; go_split_ands; go_simp⟩) HS.out ?_
    simp only [Act.put, List.getElem_toArray, List.getElem_cons_zero, List.getElem_cons_succ, List.setIfInBounds_toArray, List.set_cons_zero, List.set_cons_succ]
    refine wpAnyH_ready (rs := [6]) (by kernel_rfl) (by simp) ?_
    refine AllReadyH.cons (o := _) rfl (fun K hK => ?_) AllReadyH.nil
    go_simp
    refine (firstField_any q.seg _).mono ?_
    rintro e _ ⟨rfl, rfl⟩
    refine hK.out _ _ HS.out (fun _ => ?_)
    clear hK K
    refine wpAnyH_take (i := 7) (oi := _) (v := .int .i64 (q.fld - shiftB q.seg)) rfl (by kernel_rfl) (by kernel_rfl) (by kernel_rfl) (fun _ _ _ h => h) (Or.inl ⟨by rfl, by intro w hSw; go_split_ands; go_simp⟩) HS.out ?_
    simp only [Act.put, List.getElem_toArray, List.getElem_cons_zero, List.getElem_cons_succ, List.setIfInBounds_toArray, List.set_cons_zero, List.set_cons_succ]
    refine wpAnyH_ready (rs := [8]) (by kernel_rfl) (by simp) ?_
    refine AllReadyH.cons (o := _) rfl (fun K hK => ?_) AllReadyH.nil
    go_simp
    refine (itemAtField_from _ (fldsAt x (segIx x q.seg q.nth 0)) (q.fld - shiftB q.seg) W0 _ (HBB.out.trans ((HX.out.toBelow HB1.out HB1.out.size (by simp; omega)).mono HBB.out.size)) HFS.out).mono ?_
    rintro e X3 ⟨⟨p3, c3, rfl, hf3⟩, hbc⟩
    have HX2 := hide (HX.out.below hbc)
    have HF3 := hide hf3
    have HRF := hide (HF0.out.below hbc HF0.out.lt)
    clear hf3
    refine hK.out _ _ (HSS.out _ HX2.out) (fun _ => ?_)
    clear hK K HS HX hbc 
    have HX := HX2
    have HS := hide (HSS.out _ HX.out)
    clear HX2
    refine wpAnyH_ready (rs := [9]) (by kernel_rfl) (by simp) ?_
    refine AllReadyH.cons (o := _) rfl (fun K hK => ?_) AllReadyH.nil
    have r0 := HRF.out.cell 0
    have p0 := HRF.out.free 0
    go_simp
    have HX2 := hide (HX.out.setOwn (G := K2) (j := 0) (.inr (by simp)) (.slice p3 (fldAt x q).length c3))
    have HR2 := hide (HRF.out.set (j := 0) (.slice p3 (fldAt x q).length c3))
    refine hK.out _ _ (HSS.out _ HX2.out) (fun _ => ?_)
    refine wpAnyH_done (by kernel_rfl) ?_ _
    clear hK K r0 p0
    have HBF := hide (HX2.out.toBelow HB1.out HB1.out.size (by simp; omega))
    rw [show itemL (fldsAt x (segIx x q.seg q.nth 0)) (q.fld - shiftB q.seg) = fldAt x q from rfl] at *
    generalize hY : World.setCell _ _ _ = Y at HR2 HBF ⊢
    clear hY
    have q0 : Y.cell? ⟨K2, 0, none⟩ = some (.slice p3 (fldAt x q).length c3) := HR2.out.cell 0
    go_wp2
    exact bodyPost_ret (v := .agg #[.slice p3 (fldAt x q).length c3]) (by simp [results, Tryz.results35, go_sem, q0]) rfl ⟨⟨p3, c3, rfl, HF3.out⟩, HBF.out⟩
end Go.Proofs.YtmkcmajpepehmaaGreat
