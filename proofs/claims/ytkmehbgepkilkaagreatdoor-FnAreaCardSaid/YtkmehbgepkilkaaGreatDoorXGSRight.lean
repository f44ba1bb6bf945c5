/- When a disk is right, as the specification asks it. -/
import Derived.Test.YtkmehbgepkilkaaGreatDoorXGMark
import Derived.Deep.QuietTactic
import Derived.BigQuiet
import Derived.WalkSmall
namespace Go.Proofs.YtkmehbgepkilkaaGreatDoor
open Go.RowKit

theorem l02Is_yes (n lo hi : Int) (w : World) (h1 : lo ≤ n) (h2 : n ≤ hi) :
    Calls Tryz.prog 71 #[.int .i64 n, .int .i64 lo, .int .i64 hi] w fun e w' => e = .returned (.bool true) ∧ w' = w := by
  go_enter Tryz.func71, Tryz.ntmps71
  go_wp2
  go_ret
  exact ⟨ret_bool (by first | rfl | exact decide_eq_true h2), rfl⟩
theorem l02Is_no (n lo hi : Int) (w : World) (h : ¬ (lo ≤ n ∧ n ≤ hi)) :
    Calls Tryz.prog 71 #[.int .i64 n, .int .i64 lo, .int .i64 hi] w fun e w' => e = .returned (.bool false) ∧ w' = w := by
  by_cases h1 : lo ≤ n
  · have h2 : ¬ (n ≤ hi) := fun x => h ⟨h1, x⟩
    clear h
    go_enter Tryz.func71, Tryz.ntmps71
    go_wp2
    go_ret
    exact ⟨ret_bool (by first | rfl | exact decide_eq_false h2), rfl⟩
  · clear h
    go_enter Tryz.func71, Tryz.ntmps71
    go_wp2
    go_ret
    exact ⟨rfl, rfl⟩

/-- The sectors are none too long. -/
def okS (xs : List ByteArray) : Bool := xs.all fun x => decide (x.size ≤ 64)
def okP (n : Nat) (ps : List (Int × ByteArray)) : Bool := ps.all fun x => decide (0 ≤ x.1) && decide (x.1 ≤ (n : Int) - 1) && decide (x.2.size ≤ 64)
/-- The disk is right. -/
def right (xs : List ByteArray) (ps : List (Int × ByteArray)) : Bool :=
  decide (1 ≤ xs.length) && decide (xs.length ≤ 64) && decide (ps.length ≤ 200) && okS xs && okP xs.length ps
theorem okS_step (xs : List ByteArray) (k : Nat) (h : k < xs.length) : okS (xs.drop k) = (decide ((xs[k]'h).size ≤ 64) && okS (xs.drop (k + 1))) := by
  rw [List.drop_eq_getElem_cons h]; rfl
theorem okP_step (n : Nat) (ps : List (Int × ByteArray)) (k : Nat) (h : k < ps.length) :
    okP n (ps.drop k) = (decide (0 ≤ (ps[k]'h).1) && decide ((ps[k]'h).1 ≤ (n : Int) - 1) && decide ((ps[k]'h).2.size ≤ 64) && okP n (ps.drop (k + 1))) := by
  rw [List.drop_eq_getElem_cons h]; rfl

set_option maxHeartbeats 2000000 in
theorem specRight_any (vs vp : Value) (xs : List ByteArray) (ps : List (Int × ByteArray)) (w : World) (hn : xs.length ≤ 1048576) (hn2 : ps.length ≤ 1048576) (hr : Reads w vs xs) (hp : ReadsP w vp ps) :
    Calls Tryz.prog 38 #[.agg #[vs, vp]] w fun e w' => e = .returned (.bool (right xs ps)) ∧ Below w.heap.size w w' := by
  have hb0 : Below w.heap.size w (w.alloc (.cells #[vs, vp] 26)) := (Below.refl _ _).alloc (Nat.le_refl _) _
  have HR := hide (hr.below hb0 (Nat.le_refl _))
  have HP := hide (hp.below hb0 (Nat.le_refl _))
  obtain ⟨p1, c1, rfl, hq⟩ := hr
  obtain ⟨p2, c2, rfl, hq2⟩ := hp
  have HB0 := hide hb0
  clear hb0 hq hq2
  by_cases h1 : 1 ≤ xs.length ∧ xs.length ≤ 64
  · by_cases h2 : ps.length ≤ 200
    · obtain ⟨h1a, h1b⟩ := h1
      have HF := hide (show right xs ps = (okS xs && okP xs.length ps) by unfold right; simp [h1a, h1b, h2])
      have T2 : ¬ ((200 : Int) < (ps.length : Int)) := by omega
      go_enter Tryz.func38, Tryz.ntmps38
      go_wp2_with fail
      refine (l02Is_yes _ _ _ _ (by omega) (by omega)).mono ?_
      rintro e w1 ⟨rfl, rfl⟩
      go_wp2
      obtain ⟨g1, o1, rfl, hg1, hc1⟩ : ∃ g off, p1 = some ⟨g, off, none⟩ ∧ _ := by
        obtain ⟨p, cap, he, _, _, _, h4⟩ := HR.out
        cases he
        exact h4 (by omega)
      have HC1 := hide hc1
      clear hc1
      go_loop [3] (fun i => ∃ k : Nat, k ≤ xs.length ∧ i = .int .i64 k ∧ Hid (okS xs = okS (xs.drop k))) (fun i => xs.length - (intOf i).toNat)
      case atStart => exact ⟨0, Nat.zero_le _, rfl, rfl⟩
      case round =>
        obtain ⟨k, hk, rfl, HS⟩ := hrel
        by_cases hlt : k < xs.length
        · have hck := HC1.out k hlt
          have HT := hide (okS_step xs k hlt)
          by_cases hz : (xs[k]'hlt).size ≤ 64
          · have HU := hide (show okS xs = okS (xs.drop (k + 1)) by rw [HS.out.trans HT.out]; simp [hz])
            go_wp2
            go_round
            case rel => exact ⟨k + 1, by omega, by go_num, HU⟩
            case measure => simp [intOf]; omega
          · go_wp2
            go_ret
            exact ⟨ret_bool (by rw [HF.out, HS.out, HT.out]; simp [hz]), HB0.out⟩
        · go_wp2
          have HG := hide (show right xs ps = okP xs.length ps by rw [HF.out, HS.out, List.drop_eq_nil_of_le (by omega)]; rfl)
          have RW := hide (row_new w [.slice (some ⟨g1, o1, none⟩) xs.length c1, .slice p2 ps.length c2] 26)
          clear HC1 HS HF
          go_loopw [4] (fun i wr => ∃ k : Nat, k ≤ ps.length ∧ i = .int .i64 k ∧ Hid (right xs ps = okP xs.length (ps.drop k)) ∧ Hid (Below (w.alloc (.cells #[.slice (some ⟨g1, o1, none⟩) xs.length c1, .slice p2 ps.length c2] 26)).heap.size (w.alloc (.cells #[.slice (some ⟨g1, o1, none⟩) xs.length c1, .slice p2 ps.length c2] 26)) wr)) (fun i _ => ps.length - (intOf i).toNat)
          case atStart => exact ⟨0, Nat.zero_le _, rfl, HG.out, Below.refl _ _⟩
          case round =>
            obtain ⟨j, hj, rfl, HS, HB⟩ := hrel
            have a0 : wr.cell? ⟨w.heap.size, 0, none⟩ = some (.slice (some ⟨g1, o1, none⟩) xs.length c1) := (RW.out.below HB.out (by simp)).cell 0
            have a1 : wr.cell? ⟨w.heap.size, 1, none⟩ = some (.slice p2 ps.length c2) := (RW.out.below HB.out (by simp)).cell 1
            by_cases hlt2 : j < ps.length
            · obtain ⟨g2, o2, rfl, hg2, hc2⟩ : ∃ g off, p2 = some ⟨g, off, none⟩ ∧ _ := by
                obtain ⟨p, cap, he, _, _, _, h4⟩ := HP.out
                cases he
                exact h4 (by omega)
              obtain ⟨k0, k1⟩ := hc2 j hlt2
              have hk0 := (HB.out.cell (p := ⟨g2, o2 + j * 2, none⟩) hg2).trans k0
              have hk1 := (HB.out.cell (p := ⟨g2, o2 + j * 2 + 1, none⟩) hg2).trans k1
              have HT := hide (okP_step xs.length ps j hlt2)
              have e1 : IntKind.i64.wrap ((xs.length : Int) - 1) = (xs.length : Int) - 1 := by rw [IntKind.wrap_i64]; omega
              have hki : (j : Int) < (ps.length : Int) := by omega
              obtain ⟨A, hA⟩ : ∃ A, A = (ps[j]'hlt2).1 := ⟨_, rfl⟩
              obtain ⟨D, hD⟩ : ∃ D, D = (ps[j]'hlt2).2 := ⟨_, rfl⟩
              have HT' : Hid (okP xs.length (ps.drop j) = (decide (0 ≤ A) && decide (A ≤ (xs.length : Int) - 1) && decide (D.size ≤ 64) && okP xs.length (ps.drop (j + 1)))) := by rw [hA, hD]; exact HT
              rw [← hA] at hk0
              rw [← hD] at hk1
              clear hA hD HT k0 k1 hc2 hg2 hg1 HR HP
              by_cases hin : 0 ≤ A ∧ A ≤ (xs.length : Int) - 1
              · obtain ⟨i1, i2⟩ := hin
                by_cases hz : D.size ≤ 64
                · have HU := hide (show right xs ps = okP xs.length (ps.drop (j + 1)) by rw [HS.out.trans HT'.out]; simp [hz, i1, i2])
                  have T3 : ¬ ((64 : Int) < (D.size : Int)) := by omega
                  go_wp2_with fail
                  go_quiet ((go_at_call 71; exact Calls.quiet_of_same (l02Is_yes _ _ _ _ i1 i2)))
                  have HB2 := hide (below_drewN HB.out nq)
                  go_wp2
                  go_roundw
                  case rel => exact ⟨j + 1, by omega, by go_num, HU, HB2⟩
                  case measure => simp [intOf]; omega
                · have HU := hide (show right xs ps = false by rw [HS.out.trans HT'.out]; simp [hz])
                  have T3 : (64 : Int) < (D.size : Int) := by omega
                  go_wp2_with fail
                  go_quiet ((go_at_call 71; exact Calls.quiet_of_same (l02Is_yes _ _ _ _ i1 i2)))
                  have HB2 := hide (HB0.out.trans ((below_drewN HB.out nq).mono HB0.out.size))
                  go_wp2
                  go_ret
                  exact ⟨ret_bool HU.out.symm, HB2.out⟩
              · have HU := hide (show right xs ps = false by
                  rw [HS.out.trans HT'.out]
                  have : (decide (0 ≤ A) && decide (A ≤ (xs.length : Int) - 1)) = false := by simp; omega
                  rw [this]; rfl)
                go_wp2_with fail
                go_quiet ((go_at_call 71; exact Calls.quiet_of_same (l02Is_no _ _ _ _ hin)))
                have HB2 := hide (HB0.out.trans ((below_drewN HB.out nq).mono HB0.out.size))
                go_wp2
                go_ret
                exact ⟨ret_bool HU.out.symm, HB2.out⟩
            · have HU := hide (show right xs ps = true by rw [HS.out, List.drop_eq_nil_of_le (by omega)]; rfl)
              have HB2 := hide (HB0.out.trans (HB.out.mono HB0.out.size))
              go_wp2
              go_ret
              exact ⟨ret_bool HU.out.symm, HB2.out⟩
    · have HF := hide (show right xs ps = false by unfold right; simp [h2])
      have T2 : (200 : Int) < (ps.length : Int) := by omega
      go_enter Tryz.func38, Tryz.ntmps38
      go_wp2_with fail
      refine (l02Is_yes _ _ _ _ (by omega) (by omega)).mono ?_
      rintro e w1 ⟨rfl, rfl⟩
      go_wp2
      go_ret
      exact ⟨ret_bool HF.out.symm, HB0.out⟩
  · have HF : Hid (right xs ps = false) := by
      unfold right
      have : (decide (1 ≤ xs.length) && decide (xs.length ≤ 64)) = false := by simp; omega
      rw [this]; rfl
    go_enter Tryz.func38, Tryz.ntmps38
    go_wp2_with fail
    refine (l02Is_no _ _ _ _ (by omega)).mono ?_
    rintro e w1 ⟨rfl, rfl⟩
    go_wp2
    go_ret
    exact ⟨ret_bool HF.out.symm, HB0.out⟩
end Go.Proofs.YtkmehbgepkilkaaGreatDoor
