/- A Path: what is right of it, of the model and of the program. -/
import Derived.Test.YtjcbojgomcakeaaDoorFSegN
import Derived.Test.YtjcbojgomcakeaaDoorMem
import Derived.BigQuiet
import Derived.OrdersHeld
namespace Go.Proofs.YtjcbojgomcakeaaDoor
open Go.RowKit

def shiftB (s : ByteArray) : Int := if s.toList == [77, 83, 72] then 3 else 1
def placeB (n : Int) : Bool := decide (1 ≤ n) && decide (n ≤ 20)
structure PathM where
  seg : ByteArray
  nth : Int
  fld : Int
  rep : Int
  comp : Int
  sub : Int
def PathM.v (p : PathM) : Value := .agg #[.string p.seg, .int .i64 p.nth, .int .i64 p.fld, .int .i64 p.rep, .int .i64 p.comp, .int .i64 p.sub]
def PathM.cells (p : PathM) : List Value := [.string p.seg, .int .i64 p.nth, .int .i64 p.fld, .int .i64 p.rep, .int .i64 p.comp, .int .i64 p.sub]
def PathM.right (p : PathM) : Bool := name3 p.seg && placeB p.nth && (decide (shiftB p.seg ≤ p.fld) && decide (p.fld < shiftB p.seg + 30)) && placeB p.rep && placeB p.comp && placeB p.sub

theorem shift_any (s : ByteArray) (w : World) : Calls Tryd.prog 27 #[.string s] w fun e w' => e = .returned (.int .i64 (shiftB s)) ∧ w' = w := by
  unfold shiftB
  cases h : s.toList == [77, 83, 72]
  · go_enter Tryd.func27, Tryd.ntmps27
    go_wp2
    go_ret
    exact ⟨rfl, rfl⟩
  · go_enter Tryd.func27, Tryd.ntmps27
    go_wp2
    go_ret
    exact ⟨rfl, rfl⟩
theorem firstField_any (s : ByteArray) (w : World) : Calls Tryd.prog 24 #[.string s] w fun e w' => e = .returned (.int .i64 (shiftB s)) ∧ w' = w := by
  unfold shiftB
  cases h : s.toList == [77, 83, 72]
  · go_enter Tryd.func24, Tryd.ntmps24
    go_wp2
    go_ret
    exact ⟨rfl, rfl⟩
  · go_enter Tryd.func24, Tryd.ntmps24
    go_wp2
    go_ret
    exact ⟨rfl, rfl⟩
theorem l02Is_b (n lo hi : Int) (w : World) : Calls Tryd.prog 29 #[.int .i64 n, .int .i64 lo, .int .i64 hi] w fun e w' => e = .returned (.bool (decide (lo ≤ n) && decide (n ≤ hi))) ∧ w' = w := by
  by_cases h1 : lo ≤ n
  · by_cases h2 : n ≤ hi
    · go_enter Tryd.func29, Tryd.ntmps29
      go_wp2
      go_ret
      exact ⟨ret_boolF (by rw [decide_eq_true h1, decide_eq_true h2]; rfl), rfl⟩
    · go_enter Tryd.func29, Tryd.ntmps29
      go_wp2
      go_ret
      exact ⟨ret_boolF (by rw [decide_eq_false (by omega : ¬ n ≤ hi)]; first | done | rfl | simp), rfl⟩
  · go_enter Tryd.func29, Tryd.ntmps29
    go_wp2
    go_ret
    exact ⟨ret_boolF (by rw [decide_eq_false (by omega : ¬ lo ≤ n)]; rfl), rfl⟩
theorem placeRight_any (n : Int) (w : World) : Calls Tryd.prog 26 #[.int .i64 n] w fun e w' => e = .returned (.bool (placeB n)) ∧ w' = w := by
  unfold placeB
  by_cases h1 : 1 ≤ n
  · by_cases h2 : n ≤ 20
    · go_enter Tryd.func26, Tryd.ntmps26
      go_wp2
      go_ret
      exact ⟨ret_boolF (by rw [decide_eq_true h1, decide_eq_true h2]; rfl), rfl⟩
    · go_enter Tryd.func26, Tryd.ntmps26
      go_wp2
      go_ret
      exact ⟨ret_boolF (by rw [decide_eq_false (by omega : ¬ n ≤ 20)]; first | done | rfl | simp), rfl⟩
  · go_enter Tryd.func26, Tryd.ntmps26
    go_wp2
    go_ret
    exact ⟨ret_boolF (by rw [decide_eq_false (by omega : ¬ 1 ≤ n)]; rfl), rfl⟩

set_option maxHeartbeats 4000000 in
theorem specPathRight_any (p : PathM) (w : World) : Calls Tryd.prog 10 #[p.v] w fun e w' => e = .returned (.bool p.right) ∧ Below w.heap.size w w' := by
  obtain ⟨R, hR⟩ : ∃ R, R = p.right := ⟨_, rfl⟩
  rw [← hR]
  have HR := hide hR
  clear hR
  obtain ⟨s, n, f, r, c, b⟩ := p
  unfold PathM.v
  unfold PathM.right at HR
  simp only at HR ⊢
  obtain ⟨W, hW⟩ : ∃ W, W = w.alloc (.cells #[.string s, .int .i64 n, .int .i64 f, .int .i64 r, .int .i64 c, .int .i64 b] 24) := ⟨_, rfl⟩
  have hb0 : Below w.heap.size w W := by rw [hW]; exact (Below.refl _ _).alloc (Nat.le_refl _) _
  have HB0 := hide hb0
  have RW : Row W w.heap.size 24 [.string s, .int .i64 n, .int .i64 f, .int .i64 r, .int .i64 c, .int .i64 b] := by rw [hW]; exact row_new w [.string s, .int .i64 n, .int .i64 f, .int .i64 r, .int .i64 c, .int .i64 b] 24
  have HRW := hide RW
  have c0 : W.cell? ⟨w.heap.size, 0, none⟩ = some (.string s) := RW.cell 0
  clear RW hb0
  go_enter Tryd.func10, Tryd.ntmps10
  go_wp2_with fail
  rw [← hW]
  refine (shift_any s _).mono ?_
  rintro e w1 ⟨rfl, rfl⟩
  clear hW
  have hk : shiftB s = 1 ∨ shiftB s = 3 := by unfold shiftB; split <;> simp
  generalize shiftB s = K at *
  have hwr : IntKind.i64.wrap (K + 29) = K + 29 := wrap_small _ (by omega) (by omega)
  clear hk
  go_wp2_with fail
  refine (l04Name_any s _).mono ?_
  rintro e w2 ⟨rfl, rfl⟩
  have HB := HB0
  have RX := HRW.out
  have x1 : w2.cell? ⟨w.heap.size, 1, none⟩ = some (.int .i64 n) := RX.cell 1
  have x2 : w2.cell? ⟨w.heap.size, 2, none⟩ = some (.int .i64 f) := RX.cell 2
  have x3 : w2.cell? ⟨w.heap.size, 3, none⟩ = some (.int .i64 r) := RX.cell 3
  have x4 : w2.cell? ⟨w.heap.size, 4, none⟩ = some (.int .i64 c) := RX.cell 4
  have x5 : w2.cell? ⟨w.heap.size, 5, none⟩ = some (.int .i64 b) := RX.cell 5
  clear RX c0
  cases h0 : name3 s
  · have HN := hide (show R = false by rw [HR.out]; simp [h0])
    go_wp2
    go_ret
    exact ⟨ret_boolF HN.out.symm, HB.out⟩
  · go_wp2_with fail
    refine (l02Is_b n 1 20 _).mono ?_
    rw [show (decide (1 ≤ n) && decide (n ≤ 20)) = placeB n from rfl]
    rintro e w3 ⟨rfl, rfl⟩
    cases h1 : placeB n
    · have HN := hide (show R = false by rw [HR.out]; simp [h1])
      go_wp2
      go_ret
      exact ⟨ret_boolF HN.out.symm, HB.out⟩
    · have hb' : (decide (K ≤ f) && decide (f ≤ K + 29)) = (decide (K ≤ f) && decide (f < K + 30)) := by congr 1; exact decide_eq_decide.2 (by omega)
      go_wp2_with fail
      refine (l02Is_b f K (K + 29) _).mono ?_
      rw [hb']
      clear hb'
      rintro e w3 ⟨rfl, rfl⟩
      cases h2 : (decide (K ≤ f) && decide (f < K + 30))
      · have HN := hide (show R = false by rw [HR.out]; simp [h2])
        go_wp2
        go_ret
        exact ⟨ret_boolF HN.out.symm, HB.out⟩
      · go_wp2_with fail
        refine (l02Is_b r 1 20 _).mono ?_
        rw [show (decide (1 ≤ r) && decide (r ≤ 20)) = placeB r from rfl]
        rintro e w3 ⟨rfl, rfl⟩
        cases h3 : placeB r
        · have HN := hide (show R = false by rw [HR.out]; simp [h3])
          go_wp2
          go_ret
          exact ⟨ret_boolF HN.out.symm, HB.out⟩
        · go_wp2_with fail
          refine (l02Is_b c 1 20 _).mono ?_
          rw [show (decide (1 ≤ c) && decide (c ≤ 20)) = placeB c from rfl]
          rintro e w3 ⟨rfl, rfl⟩
          cases h4 : placeB c
          · have HN := hide (show R = false by rw [HR.out]; simp [h4])
            go_wp2
            go_ret
            exact ⟨ret_boolF HN.out.symm, HB.out⟩
          · go_wp2_with fail
            refine (l02Is_b b 1 20 _).mono ?_
            rw [show (decide (1 ≤ b) && decide (b ≤ 20)) = placeB b from rfl]
            rintro e w3 ⟨rfl, rfl⟩
            have HY := hide (show R = placeB b by rw [HR.out]; simp [h0, h1, h2, h3, h4])
            go_wp2
            go_ret
            exact ⟨ret_boolF HY.out.symm, HB.out⟩

set_option maxHeartbeats 4000000 in
theorem implPathRight_any (p : PathM) (w : World) : Calls Tryd.prog 9 #[p.v] w fun e w' => e = .returned (.bool p.right) ∧ Below w.heap.size w w' := by
  obtain ⟨R, hR⟩ : ∃ R, R = p.right := ⟨_, rfl⟩
  rw [← hR]
  have HR := hide hR
  clear hR
  obtain ⟨s, n, f, r, c, b⟩ := p
  unfold PathM.v
  unfold PathM.right at HR
  simp only at HR ⊢
  obtain ⟨W, hW⟩ : ∃ W, W = w.alloc (.cells #[.string s, .int .i64 n, .int .i64 f, .int .i64 r, .int .i64 c, .int .i64 b] 24) := ⟨_, rfl⟩
  have hb0 : Below w.heap.size w W := by rw [hW]; exact (Below.refl _ _).alloc (Nat.le_refl _) _
  have HB0 := hide hb0
  have RW : Row W w.heap.size 24 [.string s, .int .i64 n, .int .i64 f, .int .i64 r, .int .i64 c, .int .i64 b] := by rw [hW]; exact row_new w [.string s, .int .i64 n, .int .i64 f, .int .i64 r, .int .i64 c, .int .i64 b] 24
  have HRW := hide RW
  have c0 : W.cell? ⟨w.heap.size, 0, none⟩ = some (.string s) := RW.cell 0
  clear RW hb0
  go_enter Tryd.func9, Tryd.ntmps9
  go_wp2_with fail
  rw [← hW]
  refine (firstField_any s _).mono ?_
  rintro e w1 ⟨rfl, rfl⟩
  clear hW
  have hk : shiftB s = 1 ∨ shiftB s = 3 := by unfold shiftB; split <;> simp
  generalize shiftB s = K at *
  have hwr : IntKind.i64.wrap (K + 30) = K + 30 := wrap_small _ (by omega) (by omega)
  clear hk
  go_wp2_with fail
  refine (nameRight3_any s _).mono ?_
  rintro e w2 ⟨rfl, hb2⟩
  have HB := hide (HB0.out.trans (hb2.mono HB0.out.size))
  have RX := HRW.out.below hb2 HRW.out.lt
  clear hb2
  have x1 : w2.cell? ⟨w.heap.size, 1, none⟩ = some (.int .i64 n) := RX.cell 1
  have x2 : w2.cell? ⟨w.heap.size, 2, none⟩ = some (.int .i64 f) := RX.cell 2
  have x3 : w2.cell? ⟨w.heap.size, 3, none⟩ = some (.int .i64 r) := RX.cell 3
  have x4 : w2.cell? ⟨w.heap.size, 4, none⟩ = some (.int .i64 c) := RX.cell 4
  have x5 : w2.cell? ⟨w.heap.size, 5, none⟩ = some (.int .i64 b) := RX.cell 5
  clear RX c0
  cases h0 : name3 s
  · have HN := hide (show R = false by rw [HR.out]; simp [h0])
    go_wp2
    go_ret
    exact ⟨ret_boolF HN.out.symm, HB.out⟩
  · go_wp2_with fail
    refine (placeRight_any n _).mono ?_
    rintro e w3 ⟨rfl, rfl⟩
    cases h1 : placeB n
    · have HN := hide (show R = false by rw [HR.out]; simp [h1])
      go_wp2
      go_ret
      exact ⟨ret_boolF HN.out.symm, HB.out⟩
    · by_cases h2 : K ≤ f
      · by_cases h2b : f < K + 30
        · go_wp2_with fail
          refine (placeRight_any r _).mono ?_
          rintro e w3 ⟨rfl, rfl⟩
          cases h3 : placeB r
          · have HN := hide (show R = false by rw [HR.out]; simp [h3])
            go_wp2
            go_ret
            exact ⟨ret_boolF HN.out.symm, HB.out⟩
          · go_wp2_with fail
            refine (placeRight_any c _).mono ?_
            rintro e w3 ⟨rfl, rfl⟩
            cases h4 : placeB c
            · have HN := hide (show R = false by rw [HR.out]; simp [h4])
              go_wp2
              go_ret
              exact ⟨ret_boolF HN.out.symm, HB.out⟩
            · go_wp2_with fail
              refine (placeRight_any b _).mono ?_
              rintro e w3 ⟨rfl, rfl⟩
              have HY := hide (show R = placeB b by rw [HR.out]; simp [h0, h1, h2, h2b, h3, h4])
              go_wp2
              go_ret
              exact ⟨ret_boolF HY.out.symm, HB.out⟩
        · have HN := hide (show R = false by rw [HR.out]; simp [show ¬ (f < K + 30) from h2b])
          go_wp2
          go_ret
          exact ⟨ret_boolF HN.out.symm, HB.out⟩
      · have HN := hide (show R = false by rw [HR.out]; simp [show ¬ (K ≤ f) from h2])
        go_wp2
        go_ret
        exact ⟨ret_boolF HN.out.symm, HB.out⟩
end Go.Proofs.YtjcbojgomcakeaaDoor
