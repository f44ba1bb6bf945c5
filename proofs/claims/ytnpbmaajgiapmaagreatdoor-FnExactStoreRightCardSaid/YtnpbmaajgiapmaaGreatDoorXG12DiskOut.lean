/- The same of what the disk's functions hand back: a disk, a text, a code. -/
import Derived.Test.YtnpbmaajgiapmaaGreatDoorXG11Disk
import Derived.Deep.QuietTactic
import Derived.BigQuiet
import Derived.WalkSmall
import Derived.Test.YtnpbmaajgiapmaaGreatDoorXG0Mem
import Derived.Deep.RegionLawGrows
import Derived.Laws.OwnMore
import Derived.Maps.AppendAt
namespace Go.Proofs.YtnpbmaajgiapmaaGreatDoor
open Go.RowKit

end Go.Proofs.YtnpbmaajgiapmaaGreatDoor
/- When a disk is right, as the specification asks it. -/
namespace Go.Proofs.YtnpbmaajgiapmaaGreatDoor
open Go.RowKit

theorem l02Is_yes (n lo hi : Int) (w : World) (h1 : lo ≤ n) (h2 : n ≤ hi) :
    Calls Tryz.prog 34 #[.int .i64 n, .int .i64 lo, .int .i64 hi] w fun e w' => e = .returned (.bool true) ∧ w' = w := by
  go_enter Tryz.func34, Tryz.ntmps34
  go_wp2
  go_ret
  exact ⟨ret_bool (by first | rfl | exact decide_eq_true h2), rfl⟩
theorem l02Is_no (n lo hi : Int) (w : World) (h : ¬ (lo ≤ n ∧ n ≤ hi)) :
    Calls Tryz.prog 34 #[.int .i64 n, .int .i64 lo, .int .i64 hi] w fun e w' => e = .returned (.bool false) ∧ w' = w := by
  by_cases h1 : lo ≤ n
  · have h2 : ¬ (n ≤ hi) := fun x => h ⟨h1, x⟩
    clear h
    go_enter Tryz.func34, Tryz.ntmps34
    go_wp2
    go_ret
    exact ⟨ret_bool (by first | rfl | exact decide_eq_false h2), rfl⟩
  · clear h
    go_enter Tryz.func34, Tryz.ntmps34
    go_wp2
    go_ret
    exact ⟨rfl, rfl⟩

/-- The sectors are none too long. -/
def okS (xs : List ByteArray) : Bool := xs.all fun x => decide (x.size ≤ 64)
def okP (n : Nat) (ps : List (Int × ByteArray)) : Bool := ps.all fun x => decide (0 ≤ x.1) && decide (x.1 ≤ (n : Int) - 1) && decide (x.2.size ≤ 64)
/-- The disk is right. -/
def right (xs : List ByteArray) (ps : List (Int × ByteArray)) : Bool :=
  decide (1 ≤ xs.length) && decide (xs.length ≤ 64) && decide (ps.length ≤ 200) && okS xs && okP xs.length ps
theorem okS_step (xs : List ByteArray) (k : Nat) (h : k < xs.length) : okS (xs.drop k) = (decide ((xs[k]'h).size ≤ 64) && okS (xs.drop (k + 1))) := by
  rw [List.drop_eq_getElem_cons h]; rfl
theorem okP_step (n : Nat) (ps : List (Int × ByteArray)) (k : Nat) (h : k < ps.length) :
    okP n (ps.drop k) = (decide (0 ≤ (ps[k]'h).1) && decide ((ps[k]'h).1 ≤ (n : Int) - 1) && decide ((ps[k]'h).2.size ≤ 64) && okP n (ps.drop (k + 1))) := by
  rw [List.drop_eq_getElem_cons h]; rfl

set_option maxHeartbeats 2000000 in
theorem specRight_any (vs vp : Value) (xs : List ByteArray) (ps : List (Int × ByteArray)) (w : World) (hn : xs.length ≤ 1048576) (hn2 : ps.length ≤ 1048576) (hr : Reads w vs xs) (hp : ReadsP w vp ps) :
    Calls Tryz.prog 66 #[.agg #[vs, vp]] w fun e w' => e = .returned (.bool (right xs ps)) ∧ Below w.heap.size w w' := by
  have hb0 : Below w.heap.size w (w.alloc (.cells #[vs, vp] 30)) := (Below.refl _ _).alloc (Nat.le_refl _) _
  have HR := hide (hr.below hb0 (Nat.le_refl _))
  have HP := hide (hp.below hb0 (Nat.le_refl _))
  obtain ⟨p1, c1, rfl, hq⟩ := hr
  obtain ⟨p2, c2, rfl, hq2⟩ := hp
  have HB0 := hide hb0
  clear hb0 hq hq2
  by_cases h1 : 1 ≤ xs.length ∧ xs.length ≤ 64
  · by_cases h2 : ps.length ≤ 200
    · obtain ⟨h1a, h1b⟩ := h1
      have HF := hide (show right xs ps = (okS xs && okP xs.length ps) by unfold right; simp [h1a, h1b, h2])
      have T2 : ¬ ((200 : Int) < (ps.length : Int)) := by omega
      go_enter Tryz.func66, Tryz.ntmps66
      go_wp2_with fail
      refine (l02Is_yes _ _ _ _ (by omega) (by omega)).mono ?_
      rintro e w1 ⟨rfl, rfl⟩
      go_wp2
      obtain ⟨g1, o1, rfl, hg1, hc1⟩ : ∃ g off, p1 = some ⟨g, off, none⟩ ∧ _ := by
        obtain ⟨p, cap, he, _, _, _, h4⟩ := HR.out
        cases he
        exact h4 (by omega)
      have HC1 := hide hc1
      clear hc1
      go_loop [3] (fun i => ∃ k : Nat, k ≤ xs.length ∧ i = .int .i64 k ∧ Hid (okS xs = okS (xs.drop k))) (fun i => xs.length - (intOf i).toNat)
      case atStart => exact ⟨0, Nat.zero_le _, rfl, rfl⟩
      case round =>
        obtain ⟨k, hk, rfl, HS⟩ := hrel
        by_cases hlt : k < xs.length
        · have hck := HC1.out k hlt
          have HT := hide (okS_step xs k hlt)
          by_cases hz : (xs[k]'hlt).size ≤ 64
          · have HU := hide (show okS xs = okS (xs.drop (k + 1)) by rw [HS.out.trans HT.out]; simp [hz])
            go_wp2
            go_round
            case rel => exact ⟨k + 1, by omega, by go_num, HU⟩
            case measure => simp [intOf]; omega
          · go_wp2
            go_ret
            exact ⟨ret_bool (by rw [HF.out, HS.out, HT.out]; simp [hz]), HB0.out⟩
        · go_wp2
          have HG := hide (show right xs ps = okP xs.length ps by rw [HF.out, HS.out, List.drop_eq_nil_of_le (by omega)]; rfl)
          have RW := hide (row_new w [.slice (some ⟨g1, o1, none⟩) xs.length c1, .slice p2 ps.length c2] 30)
          clear HC1 HS HF
          go_loopw [4] (fun i wr => ∃ k : Nat, k ≤ ps.length ∧ i = .int .i64 k ∧ Hid (right xs ps = okP xs.length (ps.drop k)) ∧ Hid (Below (w.alloc (.cells #[.slice (some ⟨g1, o1, none⟩) xs.length c1, .slice p2 ps.length c2] 30)).heap.size (w.alloc (.cells #[.slice (some ⟨g1, o1, none⟩) xs.length c1, .slice p2 ps.length c2] 30)) wr)) (fun i _ => ps.length - (intOf i).toNat)
          case atStart => exact ⟨0, Nat.zero_le _, rfl, HG.out, Below.refl _ _⟩
          case round =>
            obtain ⟨j, hj, rfl, HS, HB⟩ := hrel
            have a0 : wr.cell? ⟨w.heap.size, 0, none⟩ = some (.slice (some ⟨g1, o1, none⟩) xs.length c1) := (RW.out.below HB.out (by simp)).cell 0
            have a1 : wr.cell? ⟨w.heap.size, 1, none⟩ = some (.slice p2 ps.length c2) := (RW.out.below HB.out (by simp)).cell 1
            by_cases hlt2 : j < ps.length
            · obtain ⟨g2, o2, rfl, hg2, hc2⟩ : ∃ g off, p2 = some ⟨g, off, none⟩ ∧ _ := by
                obtain ⟨p, cap, he, _, _, _, h4⟩ := HP.out
                cases he
                exact h4 (by omega)
              obtain ⟨k0, k1⟩ := hc2 j hlt2
              have hk0 := (HB.out.cell (p := ⟨g2, o2 + j * 2, none⟩) hg2).trans k0
              have hk1 := (HB.out.cell (p := ⟨g2, o2 + j * 2 + 1, none⟩) hg2).trans k1
              have HT := hide (okP_step xs.length ps j hlt2)
              have e1 : IntKind.i64.wrap ((xs.length : Int) - 1) = (xs.length : Int) - 1 := by rw [IntKind.wrap_i64]; omega
              have hki : (j : Int) < (ps.length : Int) := by omega
              obtain ⟨A, hA⟩ : ∃ A, A = (ps[j]'hlt2).1 := ⟨_, rfl⟩
              obtain ⟨D, hD⟩ : ∃ D, D = (ps[j]'hlt2).2 := ⟨_, rfl⟩
              have HT' : Hid (okP xs.length (ps.drop j) = (decide (0 ≤ A) && decide (A ≤ (xs.length : Int) - 1) && decide (D.size ≤ 64) && okP xs.length (ps.drop (j + 1)))) := by rw [hA, hD]; exact HT
              rw [← hA] at hk0
              rw [← hD] at hk1
              clear hA hD HT k0 k1 hc2 hg2 hg1 HR HP
              by_cases hin : 0 ≤ A ∧ A ≤ (xs.length : Int) - 1
              · obtain ⟨i1, i2⟩ := hin
                by_cases hz : D.size ≤ 64
                · have HU := hide (show right xs ps = okP xs.length (ps.drop (j + 1)) by rw [HS.out.trans HT'.out]; simp [hz, i1, i2])
                  have T3 : ¬ ((64 : Int) < (D.size : Int)) := by omega
                  go_wp2_with fail
                  go_quiet ((go_at_call 34; exact Calls.quiet_of_same (l02Is_yes _ _ _ _ i1 i2)))
                  have HB2 := hide (below_drewN HB.out nq)
                  go_wp2
                  go_roundw
                  case rel => exact ⟨j + 1, by omega, by go_num, HU, HB2⟩
                  case measure => simp [intOf]; omega
                · have HU := hide (show right xs ps = false by rw [HS.out.trans HT'.out]; simp [hz])
                  have T3 : (64 : Int) < (D.size : Int) := by omega
                  go_wp2_with fail
                  go_quiet ((go_at_call 34; exact Calls.quiet_of_same (l02Is_yes _ _ _ _ i1 i2)))
                  have HB2 := hide (HB0.out.trans ((below_drewN HB.out nq).mono HB0.out.size))
                  go_wp2
                  go_ret
                  exact ⟨ret_bool HU.out.symm, HB2.out⟩
              · have HU := hide (show right xs ps = false by
                  rw [HS.out.trans HT'.out]
                  have : (decide (0 ≤ A) && decide (A ≤ (xs.length : Int) - 1)) = false := by simp; omega
                  rw [this]; rfl)
                go_wp2_with fail
                go_quiet ((go_at_call 34; exact Calls.quiet_of_same (l02Is_no _ _ _ _ hin)))
                have HB2 := hide (HB0.out.trans ((below_drewN HB.out nq).mono HB0.out.size))
                go_wp2
                go_ret
                exact ⟨ret_bool HU.out.symm, HB2.out⟩
            · have HU := hide (show right xs ps = true by rw [HS.out, List.drop_eq_nil_of_le (by omega)]; rfl)
              have HB2 := hide (HB0.out.trans (HB.out.mono HB0.out.size))
              go_wp2
              go_ret
              exact ⟨ret_bool HU.out.symm, HB2.out⟩
    · have HF := hide (show right xs ps = false by unfold right; simp [h2])
      have T2 : (200 : Int) < (ps.length : Int) := by omega
      go_enter Tryz.func66, Tryz.ntmps66
      go_wp2_with fail
      refine (l02Is_yes _ _ _ _ (by omega) (by omega)).mono ?_
      rintro e w1 ⟨rfl, rfl⟩
      go_wp2
      go_ret
      exact ⟨ret_bool HF.out.symm, HB0.out⟩
  · have HF : Hid (right xs ps = false) := by
      unfold right
      have : (decide (1 ≤ xs.length) && decide (xs.length ≤ 64)) = false := by simp; omega
      rw [this]; rfl
    go_enter Tryz.func66, Tryz.ntmps66
    go_wp2_with fail
    refine (l02Is_no _ _ _ _ (by omega)).mono ?_
    rintro e w1 ⟨rfl, rfl⟩
    go_wp2
    go_ret
    exact ⟨ret_bool HF.out.symm, HB0.out⟩
end Go.Proofs.YtnpbmaajgiapmaaGreatDoor
/- A list appended to an empty one that was just made: a copy of it, in memory of its own. -/
namespace Go.Proofs.YtnpbmaajgiapmaaGreatDoor
open Go.RowKit

theorem OwnS.ofRow {T : TypeId} {B : Nat} {w : World} {v : Value} {xs : List ByteArray} (hx : ∀ x ∈ xs, x.size ≤ maxLen) (h0 : 0 < xs.length) (h : w.ownsRow B T 1 v xs.length (strs xs)) : OwnS T B w v xs := by
  obtain ⟨_, ⟨_, h1⟩ | ⟨g, cap, cur, rfl, hb, hh, hnc, hcm, hs, htake⟩⟩ := h
  · omega
  · have hl : cur.toList.length = cap := by simpa using hs
    have hd : (cur.toList.drop xs.length).length = cap - xs.length := by rw [List.length_drop, hl]
    have hc : strs xs ++ cur.toList.drop xs.length = cur.toList := by
      rw [← htake, Nat.mul_one]; exact List.take_append_drop _ _
    refine ⟨hx, .inr ⟨g, cur.toList.drop xs.length, by rw [hd, Nat.add_sub_cancel' hnc], by rw [hd, Nat.add_sub_cancel' hnc]; exact hcm, hb, ?_⟩⟩
    unfold Row
    rw [hc]
    simpa using hh
theorem OwnP.ofRow {T : TypeId} {B : Nat} {w : World} {v : Value} {ps : List (Int × ByteArray)} (hx : ∀ x ∈ ps, x.2.size ≤ maxLen) (h0 : 0 < ps.length) (h : w.ownsRow B T 2 v ps.length (pcs ps)) : OwnP T B w v ps := by
  obtain ⟨_, ⟨_, h1⟩ | ⟨g, cap, cur, rfl, hb, hh, hnc, hcm, hs, htake⟩⟩ := h
  · omega
  · have hl : cur.toList.length = cap * 2 := by simpa using hs
    have hd : (cur.toList.drop (ps.length * 2)).length = cap * 2 - ps.length * 2 := by rw [List.length_drop, hl]
    have hc : pcs ps ++ cur.toList.drop (ps.length * 2) = cur.toList := by
      rw [← htake]; exact List.take_append_drop _ _
    refine ⟨hx, .inr ⟨g, cap, cur.toList.drop (ps.length * 2), rfl, hnc, hcm, by rw [hd]; omega, hb, ?_⟩⟩
    unfold Row
    rw [hc]
    simpa using hh
theorem below_ofGrown {w w' : World} (h : w.grownBy w' none) : Below w.heap.size w w' :=
  ⟨h.os, h.tape, h.output, h.size, fun k hk => h.block k hk (by simp)⟩
theorem run_append_nothing {P : Program} (w : World) (t ty e : TypeId) (i : TypeInfo) (ht : P.underlying t = some (.slice e)) (hi : P.info? e = some i) (b : Addr) (p : Option Addr) (c : Nat) :
    (Builtin.append_ #[t, t] ty #[.slice (some b) 0 0, .slice p 0 c]).run P w = .ok (.slice (some b) 0 0) w := by
  cases p with
  | none => simp [Builtin.append_, run_underlying ht, sizeOf, typeInfo, hi, Builtin.lenOf, Builtin.firstCells, storeCells]
  | some ad =>
    have hfc := run_firstCells_some (P := P) w i.size 0 ad 0 c [] (by simp) (by simp)
    simp [Builtin.append_, run_underlying ht, sizeOf, typeInfo, hi, Builtin.lenOf, hfc, storeCells]
theorem add_addr (g off j : Nat) : (⟨g, off, none⟩ : Addr).add j = ⟨g, off + j, none⟩ := Addr.add_lit _ _ _

theorem run_copyS {P : Program} (w : World) (t ty e : TypeId) (i : TypeInfo) (z : Value) (ht : P.underlying t = some (.slice e)) (hi : P.info? e = some i) (hz : i.zero = some z) (hs : i.size = 1) (hb : i.bytes = 16) (hzs : z.cells.size = 1)
    (b : Addr) (v : Value) (xs : List ByteArray) (hr : Reads w v xs) (hn : xs.length ≤ 1048576) :
    ∃ p c w', (Builtin.append_ #[t, t] ty #[.slice (some b) 0 0, v]).run P w = .ok (.slice p xs.length c) w' ∧ OwnS e w.heap.size w' (.slice p xs.length c) xs ∧ Below w.heap.size w w' := by
  obtain ⟨p, c, rfl, h1, h2, h3, h4⟩ := hr
  cases hx : xs with
  | nil => exact ⟨some b, 0, w, run_append_nothing w t ty e i ht hi b p c, ⟨by simp, .inl ⟨_, _, rfl, by unfold maxLen; omega, rfl⟩⟩, Below.refl _ _⟩
  | cons x r =>
    rw [← hx]
    have h0 : 0 < xs.length := by rw [hx]; exact Nat.succ_pos _
    obtain ⟨g, off, rfl, hg, hc⟩ := h4 h0
    obtain ⟨v', w', hrun, r1, r2⟩ := run_append_arg_grows (P := P) w t ty e i z 1 16 ht hi hz hs hb hzs (by omega) b 0 0 [] rfl (by simp) ⟨g, off, none⟩ xs.length c (strs xs) (by rw [strs_len]; omega)
      (fun j u hu => by
        rw [add_addr]
        have hj : j < xs.length := by have := (List.getElem?_eq_some_iff.1 hu).1; rwa [strs_len] at this
        rw [hc j hj, ← hu]
        simp [strs, hj]) (by omega) (by unfold maxLen; omega) (by omega)
    rw [Nat.zero_add, List.nil_append] at r1
    have ho := OwnS.ofRow h3 h0 r1
    obtain ⟨p', c', e', _⟩ := ho.reads
    subst e'
    exact ⟨p', c', w', hrun, ho, below_ofGrown r2⟩
theorem run_copyP {P : Program} (w : World) (t ty e : TypeId) (i : TypeInfo) (z : Value) (ht : P.underlying t = some (.slice e)) (hi : P.info? e = some i) (hz : i.zero = some z) (hs : i.size = 2) (hb : i.bytes = 24) (hzs : z.cells.size = 2)
    (b : Addr) (v : Value) (ps : List (Int × ByteArray)) (hr : ReadsP w v ps) (hn : ps.length ≤ 1048576) :
    ∃ p c w', (Builtin.append_ #[t, t] ty #[.slice (some b) 0 0, v]).run P w = .ok (.slice p ps.length c) w' ∧ OwnP e w.heap.size w' (.slice p ps.length c) ps ∧ Below w.heap.size w w' ∧ (ps = [] → ∃ b, p = some b ∧ c = 0) := by
  obtain ⟨p, c, rfl, h1, h2, h3, h4⟩ := hr
  cases hx : ps with
  | nil => exact ⟨some b, 0, w, run_append_nothing w t ty e i ht hi b p c, ⟨by simp, .inl ⟨_, _, rfl, by unfold maxLen; omega, rfl⟩⟩, Below.refl _ _, fun _ => ⟨b, rfl, rfl⟩⟩
  | cons x r =>
    rw [← hx]
    have h0 : 0 < ps.length := by rw [hx]; exact Nat.succ_pos _
    obtain ⟨g, off, rfl, hg, hc⟩ := h4 h0
    obtain ⟨v', w', hrun, r1, r2⟩ := run_append_arg_grows (P := P) w t ty e i z 2 24 ht hi hz hs hb hzs (by omega) b 0 0 [] rfl (by simp) ⟨g, off, none⟩ ps.length c (pcs ps) (pcs_len ps)
      (fun j u hu => by
        rw [add_addr]
        have hj : j < ps.length * 2 := by have := (List.getElem?_eq_some_iff.1 hu).1; rwa [pcs_len] at this
        have hk : j / 2 < ps.length := by omega
        obtain ⟨c0, c1⟩ := hc (j / 2) hk
        obtain ⟨g0, g1⟩ := pcs_get ps (j / 2) hk
        rcases Nat.mod_two_eq_zero_or_one j with hm | hm
        · have e0 : j / 2 * 2 = j := by omega
          rw [e0] at c0 g0
          rw [c0, ← hu, g0]
        · have e0 : j / 2 * 2 + 1 = j := by omega
          rw [Nat.add_assoc, e0] at c1
          rw [e0] at g1
          rw [c1, ← hu, g1]) (by omega) (by unfold maxLen; omega) (by omega)
    rw [Nat.zero_add, List.nil_append] at r1
    have ho := OwnP.ofRow h3 h0 r1
    obtain ⟨p', c', e', _⟩ := ho.reads
    subst e'
    exact ⟨p', c', w', hrun, ho, below_ofGrown r2, fun h => by rw [h] at h0; cases h0⟩

theorem step_copyS {P : Program} {ops : Array Oper} {o : Oper} {a : Act} {w : World} {K : Act → World → Prop} {Q : Exit → Act → World → Prop} {E : Prop}
    (hg : o.guard = none) (s x : Operand) (t : TypeId) (hop : o.op = Op.call { callee := Callee.builtin Builtin.append, args := #[s, x], argTypes := #[t, t] })
    (e : TypeId) (i : TypeInfo) (z : Value) (ht : P.underlying t = some (.slice e)) (hi : P.info? e = some i) (hz : i.zero = some z) (hs : i.size = 1) (hb : i.bytes = 16) (hzs : z.cells.size = 1)
    (h1 : ∃ b, a.eval s = .slice (some b) 0 0) (v : Value) (h2 : a.eval x = v) (xs : List ByteArray) (hr : Reads w v xs) (hn : xs.length ≤ 1048576)
    (hK : ∀ p c w', OwnS e w.heap.size w' (.slice p xs.length c) xs → Below w.heap.size w w' → K (a.put o.dst (.slice p xs.length c)) w') :
    if Region.wanted o (yielded ops a.tmps) = true then Oper.wp P o a w K Q else E := by
  have hw : Region.wanted o (yielded ops a.tmps) = true := by simp [Region.wanted, hg]
  rw [if_pos hw]
  obtain ⟨b, h1⟩ := h1
  obtain ⟨p, c, w', hrun, r1, r2⟩ := run_copyS (P := P) w t o.type e i z ht hi hz hs hb hzs b v xs hr hn
  unfold Oper.wp
  simp [execOp, hop, resolve, invoke, builtin, h1, h2, hrun, Result.andThen]
  exact hK p c w' r1 r2
theorem step_copyP {P : Program} {ops : Array Oper} {o : Oper} {a : Act} {w : World} {K : Act → World → Prop} {Q : Exit → Act → World → Prop} {E : Prop}
    (hg : o.guard = none) (s x : Operand) (t : TypeId) (hop : o.op = Op.call { callee := Callee.builtin Builtin.append, args := #[s, x], argTypes := #[t, t] })
    (e : TypeId) (i : TypeInfo) (z : Value) (ht : P.underlying t = some (.slice e)) (hi : P.info? e = some i) (hz : i.zero = some z) (hs : i.size = 2) (hb : i.bytes = 24) (hzs : z.cells.size = 2)
    (h1 : ∃ b, a.eval s = .slice (some b) 0 0) (v : Value) (h2 : a.eval x = v) (ps : List (Int × ByteArray)) (hr : ReadsP w v ps) (hn : ps.length ≤ 1048576)
    (hK : ∀ p c w', OwnP e w.heap.size w' (.slice p ps.length c) ps → Below w.heap.size w w' → (ps = [] → ∃ b, p = some b ∧ c = 0) → K (a.put o.dst (.slice p ps.length c)) w') :
    if Region.wanted o (yielded ops a.tmps) = true then Oper.wp P o a w K Q else E := by
  have hw : Region.wanted o (yielded ops a.tmps) = true := by simp [Region.wanted, hg]
  rw [if_pos hw]
  obtain ⟨b, h1⟩ := h1
  obtain ⟨p, c, w', hrun, r1, r2, r3⟩ := run_copyP (P := P) w t o.type e i z ht hi hz hs hb hzs b v ps hr hn
  unfold Oper.wp
  simp [execOp, hop, resolve, invoke, builtin, h1, h2, hrun, Result.andThen]
  exact hK p c w' r1 r2 r3

/-- One more pair behind a list of the call's own. -/
theorem run_pushP {P : Program} (w : World) (B : Nat) (t ty e : TypeId) (i : TypeInfo) (z : Value) (ht : P.underlying t = some (.slice e)) (hi : P.info? e = some i) (hz : i.zero = some z) (hs : i.size = 2) (hb : i.bytes = 24) (hzs : z.cells.size = 2)
    (v : Value) (ps : List (Int × ByteArray)) (ho : OwnP e B w v ps) (he : ps = [] → ∃ b, v = .slice (some b) 0 0) (hn : ps.length ≤ 1048576) (hB : B ≤ w.heap.size) (a : Int) (d : ByteArray) (hd : d.size ≤ maxLen) (g c : Nat) (hr : Row w g e [.int .i64 a, .string d]) :
    ∃ p c' w', (Builtin.append_ #[t, t] ty #[v, .slice (some ⟨g, 0, none⟩) 1 c]).run P w = .ok (.slice p (ps.length + 1) c') w' ∧ OwnP e B w' (.slice p (ps.length + 1) c') (ps ++ [(a, d)]) ∧ Kept (leads v) w w' ∧ (∀ x ∈ leads (.slice p (ps.length + 1) c'), x ∈ leads v ∨ w.heap.size ≤ x) := by
  have hnews : ∀ j u, ([Value.int .i64 a, Value.string d] : List Value)[j]? = some u → w.cell? ((⟨g, 0, none⟩ : Addr).add j) = some u := fun j u hu => by
    rw [add_addr, Nat.zero_add, hr.cell]; exact hu
  have hlen : (ps ++ [(a, d)]).length = ps.length + 1 := by simp
  have hp : pcs (ps ++ [(a, d)]) = pcs ps ++ [.int .i64 a, .string d] := pcs_append ps _
  have hx' : (∀ x ∈ ps, x.2.size ≤ maxLen) → ∀ x ∈ ps ++ [(a, d)], x.2.size ≤ maxLen := fun h x hx => by
    rcases List.mem_append.1 hx with h' | h'
    · exact h x h'
    · rw [List.mem_singleton.1 h']; exact hd
  cases hps : ps with
  | nil =>
    subst hps
    obtain ⟨b, rfl⟩ := he rfl
    obtain ⟨v', w', hrun, r1, r2⟩ := run_append_arg_grows (P := P) w t ty e i z 2 24 ht hi hz hs hb hzs (by omega) b 0 0 [] rfl (by simp) ⟨g, 0, none⟩ 1 c [.int .i64 a, .string d] rfl hnews (by omega) (by unfold maxLen; omega) (by omega)
    have hown : OwnP e w.heap.size w' v' ([] ++ [(a, d)]) := OwnP.ofRow (hx' ho.1) (by simp) r1
    obtain ⟨p', c', e', _⟩ := hown.reads
    subst e'
    exact ⟨p', c', w', hrun, hown.mono hB, (Kept.ofBelow (below_ofGrown r2)).mono (by simp), fun x hx => .inr (hown.leads x hx).1⟩
  | cons x r =>
    rw [← hps]
    have h0 : 0 < ps.length := by rw [hps]; exact Nat.succ_pos _
    obtain ⟨hx, ⟨p, cap, _, _, hnil⟩ | ⟨G, cap, rest, rfl, hc, hm, hl2, hBG, hrow⟩⟩ := ho
    · rw [hnil] at h0; cases h0
    · have hown : w.ownsRow B e 2 (.slice (some ⟨G, 0, none⟩) ps.length cap) ps.length (pcs ps) :=
        ⟨pcs_len ps, .inr ⟨G, cap, (pcs ps ++ rest).toArray, rfl, hBG, hrow, hc, hm, by simp [pcs_len]; omega, by simp [← pcs_len]⟩⟩
      obtain ⟨v', w', hrun, r1, r2, _, r4⟩ := run_append_own_at (P := P) w B t ty e i z 2 24 ht hi hz hs hb hzs (by omega) _ ps.length (pcs ps) hown ⟨g, 0, none⟩ 1 c [.int .i64 a, .string d] rfl hnews (by simp [Value.oneCell']) (by unfold maxLen; omega) (by omega) hB
      have hown' : OwnP e B w' v' (ps ++ [(a, d)]) := OwnP.ofRow (hx' hx) (by simp) (by rw [hlen, hp]; exact r1)
      obtain ⟨p', c', e', _⟩ := hown'.reads
      rw [hlen] at e'
      subst e'
      obtain ⟨m, hm'⟩ : ∃ m, ps.length = m + 1 := ⟨ps.length - 1, by omega⟩
      have hl : leads (.slice (some ⟨G, 0, none⟩) ps.length cap) = [G] := by rw [hm']; rfl
      refine ⟨p', c', w', hrun, hown', ?_, fun x hx => ?_⟩
      rw [hl]
      exact ⟨r2.os, r2.tape, r2.output, r2.size, fun k hk hn => r2.block k hk (fun e => hn (by simpa [Value.ownBlock] using e))⟩
      cases p' with
      | none => cases hx
      | some ad =>
        obtain rfl := List.mem_singleton.1 hx
        rw [hl]
        rcases r4 with h | h
        · exact .inl (by simpa [Value.ownBlock] using h)
        · exact .inr (by have : ad.block = w.heap.size := by simpa [Value.ownBlock] using h
                         omega)
theorem wpList_pushP {P : Program} (w : World) {ops : Array Oper} {rest : List Oper} {o : Oper} {a : Act} {Q : Exit → Act → World → Prop} (hgd : o.guard = none) (s x : Operand) (t : TypeId)
    (hop : o.op = Op.call { callee := Callee.builtin Builtin.append, args := #[s, x], argTypes := #[t, t] })
    (B : Nat) (e : TypeId) (i : TypeInfo) (z : Value) (ht : P.underlying t = some (.slice e)) (hi : P.info? e = some i) (hz : i.zero = some z) (hs : i.size = 2) (hb : i.bytes = 24) (hzs : z.cells.size = 2)
    (v : Value) (h1 : a.eval s = v) (ps : List (Int × ByteArray)) (ho : OwnP e B w v ps) (he : ps = [] → ∃ b, v = .slice (some b) 0 0) (hn : ps.length ≤ 1048576) (hB : B ≤ w.heap.size) (n : Int) (d : ByteArray) (hd : d.size ≤ maxLen) (g c : Nat)
    (h2 : a.eval x = .slice (some ⟨g, 0, none⟩) 1 c) (hr : Row w g e [.int .i64 n, .string d])
    (hK : ∀ p c' w', OwnP e B w' (.slice p (ps.length + 1) c') (ps ++ [(n, d)]) → Kept (leads v) w w' → (∀ x ∈ leads (.slice p (ps.length + 1) c'), x ∈ leads v ∨ w.heap.size ≤ x) → wpList P ops Q rest (a.put o.dst (.slice p (ps.length + 1) c')) w') : wpList P ops Q (o :: rest) a w := by
  refine wpList_plain hgd fun K hK' => ?_
  obtain ⟨p, c', w', hrun, r1, r2, r3⟩ := run_pushP (P := P) w B t o.type e i z ht hi hz hs hb hzs v ps ho he hn hB n d hd g c hr
  unfold Oper.wp
  simp [execOp, hop, resolve, invoke, builtin, h1, h2, hrun, Result.andThen]
  exact hK' _ _ (hK p c' w' r1 r2 r3)
end Go.Proofs.YtnpbmaajgiapmaaGreatDoor
