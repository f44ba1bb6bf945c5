/- The model's l06Kind. -/
import Derived.Test.YtfjjbofnfigehaaGreatDoorXG8VSole
import Derived.Test.YtfjjbofnfigehaaGreatDoorXG9VCap
namespace Go.Proofs.YtfjjbofnfigehaaGreatDoor
open Go.RowKit
def kindA (n : Nat) (a b c : ByteArray) : Bool := decide (a.size = 3) && capA a && name3 b && (decide (n = 2) || (c.toList == (a ++ ⟨#[95]⟩ ++ b).toList))
theorem name3_le {s : ByteArray} (h : name3 s = true) : s.size ≤ 3 := by
  simp only [name3, Bool.and_eq_true, decide_eq_true_eq] at h
  omega
def kindT (n : Nat) (ts : List ByteArray) : Bool := kindA n (ts[0]?.getD ⟨#[]⟩) (ts[1]?.getD ⟨#[]⟩) (if n = 2 then ⟨#[]⟩ else ts[2]?.getD ⟨#[]⟩)
def kindL (n : Nat) (x : List (List ByteArray)) : Bool := soleL n x && kindT n (textsOf x)
theorem kindL_no {n : Nat} {x : List (List ByteArray)} (k : Nat) (hk : k < x.length) (h : x[k].length ≠ 1) : kindL n x = false := by rw [kindL, soleL_no k hk h]; rfl
theorem kindL_len {n : Nat} {x : List (List ByteArray)} (h : x.length ≠ n) : kindL n x = false := by rw [kindL, soleL_len h]; rfl
theorem texts_get (x : List (List ByteArray)) (k : Nat) (hk : k < x.length) : (textsOf x)[k]?.getD ⟨#[]⟩ = headT x[k] := by simp [textsOf, hk]
set_option maxHeartbeats 4000000 in
set_option maxRecDepth 100000 in
theorem l06Kind_2 (u : Value) (x : List (List ByteArray)) (v : Int) (B : Nat) (w : World) (hv : (v == 1) = true) (hn : x.length ≤ 1048576) (hr : RRep B w u x) :
    Calls Tryz.prog 43 #[.int .i64 v, .agg #[u]] w fun e w' => e = .returned (.bool (kindL 2 x)) ∧ Below w.heap.size w w' := by
  obtain ⟨R, hR⟩ : ∃ R, R = kindL 2 x := ⟨_, rfl⟩
  rw [← hR]
  have HR := hideF hR
  clear hR
  obtain ⟨p, cap, rfl, h1, h2, h4⟩ := hr
  unfold maxLen at h2
  have H4 := hideF h4
  clear h4
  have HBW := hideF ((Below.refl w.heap.size w).alloc (Nat.le_refl _) (.cells #[.slice p x.length cap] 29))
  have r0 : (w.alloc (.cells #[.slice p x.length cap] 29)).cell? ⟨w.heap.size, 0, none⟩ = some (.slice p x.length cap) := (row_new w [.slice p x.length cap] 29).cell 0
  by_cases hx : (x.length : Int) = 2
  · have hne : ((x.length : Int) != 2) = false := by simp [hx]
    have HX := hideF (show x.length = 2 by omega)
    have h0 : 0 < x.length := by omega
    obtain ⟨g, off, hp, hg, _, hc⟩ := H4.out h0
    subst hp
    have HC := hideF hc
    clear hc
    have hxl : 2 ≤ (x.length : Int) := by omega
    clear hx
    go_enter Tryz.func43, Tryz.ntmps43
    go_wp2
    go_loop [6] (fun i => ∃ k : Nat, k ≤ 2 ∧ i = .int .i64 k ∧ Hid (∀ j (hj : j < x.length), j < k → x[j].length = 1)) (fun i => 2 - (intOf i).toNat)
    case atStart => exact ⟨0, Nat.zero_le _, rfl, fun j _ h => absurd h (by omega)⟩
    case round =>
      obtain ⟨k, hk, rfl, HA⟩ := hrel
      by_cases hlt : k < 2
      · have hkx : k < x.length := by omega
        obtain ⟨v1, hv1, hrv⟩ := HC.out k hkx
        have hck : (w.alloc (.cells #[.slice (some ⟨g, off, none⟩) x.length cap] 29)).cell? ⟨g, off + k, none⟩ = some v1 := by rw [HBW.out.cell (p := ⟨g, off + k, none⟩) hg]; exact hv1
        have HS1 := hideF (fun h => sole_succ HA.out hkx h)
        have HS0 := hideF (fun h => kindL_no (n := 2) k hkx h)
        clear hv1
        obtain ⟨p2, cap2, rfl, k1, k2, k4⟩ := hrv
        clear k4
        unfold maxLen at k2
        generalize (x[k]'hkx).length = M at *
        by_cases hc1 : (M : Int) = 1
        · have hcb : ((M : Int) != 1) = false := by simp [hc1]
          have HN := hideF (HS1.out (by omega))
          go_wp2
          go_round
          case rel => exact ⟨k + 1, by omega, by go_num, HN.out⟩
          case measure => simp [intOf]; omega
        · have hcb : ((M : Int) != 1) = true := by simpa using hc1
          have HN := hideF (show R = false by rw [HR.out]; exact HS0.out (by omega))
          go_wp2
          go_ret
          exact ⟨ret_boolF HN.out.symm, HBW.out⟩
      · have HS := hideF (show soleL 2 x = true from soleL_yes HX.out (fun j hj => HA.out j hj (by have := HX.out; omega)))
        have HKL := hideF (show R = kindT 2 (textsOf x) by rw [HR.out, kindL, HS.out, Bool.true_and])
        have hki : ¬ (k : Int) < 2 := by omega
        have i0 : 0 < x.length := by omega
        obtain ⟨c0, hc0, hrc0⟩ := HC.out 0 i0
        obtain ⟨q0, d0, rfl, a0, b0, e0⟩ := hrc0
        have L0 : (x[0]'i0).length = 1 := HA.out 0 i0 (by omega)
        obtain ⟨G0, O0, rfl, s0, _, t0⟩ := e0 (by omega)
        obtain ⟨z0, y0, rfl, m0⟩ := t0 0 (by omega)
        rw [Nat.add_zero] at y0
        have X0 : (w.alloc (.cells #[.slice (some ⟨g, off, none⟩) x.length cap] 29)).cell? ⟨g, off + 0, none⟩ = some (.slice (some ⟨G0, O0, none⟩) (x[0]'i0).length d0) := by rw [HBW.out.cell (p := ⟨g, off + 0, none⟩) hg]; exact hc0
        rw [L0] at X0
        have Y0 : (w.alloc (.cells #[.slice (some ⟨g, off, none⟩) x.length cap] 29)).cell? ⟨G0, O0, none⟩ = some (.string (headT (x[0]'i0))) := by rw [HBW.out.cell (p := ⟨G0, O0, none⟩) s0, headT_at _ (by omega)]; exact y0
        have T0 := hideF (texts_get x 0 i0)
        have Z0 := hideF (show (headT (x[0]'i0)).size ≤ maxLen by rw [headT_at _ (by omega)]; exact m0)
        clear hc0 L0 t0 y0 m0 e0 a0 b0 s0
        generalize headT (x[0]'i0) = A0 at *
        have i1 : 1 < x.length := by omega
        obtain ⟨c1, hc1, hrc1⟩ := HC.out 1 i1
        obtain ⟨q1, d1, rfl, a1, b1, e1⟩ := hrc1
        have L1 : (x[1]'i1).length = 1 := HA.out 1 i1 (by omega)
        obtain ⟨G1, O1, rfl, s1, _, t1⟩ := e1 (by omega)
        obtain ⟨z1, y1, rfl, m1⟩ := t1 0 (by omega)
        rw [Nat.add_zero] at y1
        have X1 : (w.alloc (.cells #[.slice (some ⟨g, off, none⟩) x.length cap] 29)).cell? ⟨g, off + 1, none⟩ = some (.slice (some ⟨G1, O1, none⟩) (x[1]'i1).length d1) := by rw [HBW.out.cell (p := ⟨g, off + 1, none⟩) hg]; exact hc1
        rw [L1] at X1
        have Y1 : (w.alloc (.cells #[.slice (some ⟨g, off, none⟩) x.length cap] 29)).cell? ⟨G1, O1, none⟩ = some (.string (headT (x[1]'i1))) := by rw [HBW.out.cell (p := ⟨G1, O1, none⟩) s1, headT_at _ (by omega)]; exact y1
        have T1 := hideF (texts_get x 1 i1)
        have Z1 := hideF (show (headT (x[1]'i1)).size ≤ maxLen by rw [headT_at _ (by omega)]; exact m1)
        clear hc1 L1 t1 y1 m1 e1 a1 b1 s1
        generalize headT (x[1]'i1) = A1 at *
        rw [Nat.add_zero] at X0
        clear HR HS HC HA HX
        have HE := hideF (show R = kindA 2 A0 A1 (⟨#[]⟩) by rw [HKL.out, kindT, T0.out, T1.out]; rfl)
        clear HKL
        by_cases h3 : (A0.size : Int) = 3
        · have h3b : ((A0.size : Int) != 3) = false := by simp [h3]
          have HS3 := hideF (show decide (A0.size = 3) = true by simp; omega)
          clear h3
          go_wp2_with fail
          refine (l06Upper_any A0 _ Z0.out).mono ?_
          rintro e w1 ⟨rfl, rfl⟩
          cases hcap : capA A0
          · have HN := hideF (show R = false by rw [HE.out, kindA, hcap]; simp)
            go_wp2
            go_ret
            exact ⟨ret_boolF HN.out.symm, HBW.out⟩
          · go_wp2_with fail
            refine (l04Name_any A1 _).mono ?_
            rintro e w1 ⟨rfl, rfl⟩
            cases hnam : name3 A1
            · have HN := hideF (show R = false by rw [HE.out, kindA, hnam]; simp)
              go_wp2
              go_ret
              exact ⟨ret_boolF HN.out.symm, HBW.out⟩
            · have hA1 : A1.size ≤ 3 := name3_le hnam
              have hA0 : A0.size ≤ 3 := by have := HS3.out; simp at this; omega
              have HN := hideF (show R = true by rw [HE.out, kindA, hcap, hnam, HS3.out]; simp)
              clear HE hcap hnam HS3
              go_wp2
              go_ret
              exact ⟨ret_boolF HN.out.symm, HBW.out⟩
        · have h3b : ((A0.size : Int) != 3) = true := by simpa using h3
          have HN := hideF (show R = false by
            have hs : ¬ A0.size = 3 := by omega
            rw [HE.out, kindA]
            simp [hs])
          go_wp2
          go_ret
          exact ⟨ret_boolF HN.out.symm, HBW.out⟩
  · have hne : ((x.length : Int) != 2) = true := by simpa using hx
    have HN := hideF (show R = false by rw [HR.out]; exact kindL_len (by omega))
    go_enter Tryz.func43, Tryz.ntmps43
    go_wp2
    go_ret
    exact ⟨ret_boolF HN.out.symm, HBW.out⟩
set_option maxHeartbeats 4000000 in
set_option maxRecDepth 100000 in
theorem l06Kind_3 (u : Value) (x : List (List ByteArray)) (v : Int) (B : Nat) (w : World) (hv : (v == 1) = false) (hn : x.length ≤ 1048576) (hr : RRep B w u x) :
    Calls Tryz.prog 43 #[.int .i64 v, .agg #[u]] w fun e w' => e = .returned (.bool (kindL 3 x)) ∧ Below w.heap.size w w' := by
  obtain ⟨R, hR⟩ : ∃ R, R = kindL 3 x := ⟨_, rfl⟩
  rw [← hR]
  have HR := hideF hR
  clear hR
  obtain ⟨p, cap, rfl, h1, h2, h4⟩ := hr
  unfold maxLen at h2
  have H4 := hideF h4
  clear h4
  have HBW := hideF ((Below.refl w.heap.size w).alloc (Nat.le_refl _) (.cells #[.slice p x.length cap] 29))
  have r0 : (w.alloc (.cells #[.slice p x.length cap] 29)).cell? ⟨w.heap.size, 0, none⟩ = some (.slice p x.length cap) := (row_new w [.slice p x.length cap] 29).cell 0
  by_cases hx : (x.length : Int) = 3
  · have hne : ((x.length : Int) != 3) = false := by simp [hx]
    have HX := hideF (show x.length = 3 by omega)
    have h0 : 0 < x.length := by omega
    obtain ⟨g, off, hp, hg, _, hc⟩ := H4.out h0
    subst hp
    have HC := hideF hc
    clear hc
    have hxl : 3 ≤ (x.length : Int) := by omega
    clear hx
    go_enter Tryz.func43, Tryz.ntmps43
    go_wp2
    go_loop [6] (fun i => ∃ k : Nat, k ≤ 3 ∧ i = .int .i64 k ∧ Hid (∀ j (hj : j < x.length), j < k → x[j].length = 1)) (fun i => 3 - (intOf i).toNat)
    case atStart => exact ⟨0, Nat.zero_le _, rfl, fun j _ h => absurd h (by omega)⟩
    case round =>
      obtain ⟨k, hk, rfl, HA⟩ := hrel
      by_cases hlt : k < 3
      · have hkx : k < x.length := by omega
        obtain ⟨v1, hv1, hrv⟩ := HC.out k hkx
        have hck : (w.alloc (.cells #[.slice (some ⟨g, off, none⟩) x.length cap] 29)).cell? ⟨g, off + k, none⟩ = some v1 := by rw [HBW.out.cell (p := ⟨g, off + k, none⟩) hg]; exact hv1
        have HS1 := hideF (fun h => sole_succ HA.out hkx h)
        have HS0 := hideF (fun h => kindL_no (n := 3) k hkx h)
        clear hv1
        obtain ⟨p2, cap2, rfl, k1, k2, k4⟩ := hrv
        clear k4
        unfold maxLen at k2
        generalize (x[k]'hkx).length = M at *
        by_cases hc1 : (M : Int) = 1
        · have hcb : ((M : Int) != 1) = false := by simp [hc1]
          have HN := hideF (HS1.out (by omega))
          go_wp2
          go_round
          case rel => exact ⟨k + 1, by omega, by go_num, HN.out⟩
          case measure => simp [intOf]; omega
        · have hcb : ((M : Int) != 1) = true := by simpa using hc1
          have HN := hideF (show R = false by rw [HR.out]; exact HS0.out (by omega))
          go_wp2
          go_ret
          exact ⟨ret_boolF HN.out.symm, HBW.out⟩
      · have HS := hideF (show soleL 3 x = true from soleL_yes HX.out (fun j hj => HA.out j hj (by have := HX.out; omega)))
        have HKL := hideF (show R = kindT 3 (textsOf x) by rw [HR.out, kindL, HS.out, Bool.true_and])
        have hki : ¬ (k : Int) < 3 := by omega
        have i0 : 0 < x.length := by omega
        obtain ⟨c0, hc0, hrc0⟩ := HC.out 0 i0
        obtain ⟨q0, d0, rfl, a0, b0, e0⟩ := hrc0
        have L0 : (x[0]'i0).length = 1 := HA.out 0 i0 (by omega)
        obtain ⟨G0, O0, rfl, s0, _, t0⟩ := e0 (by omega)
        obtain ⟨z0, y0, rfl, m0⟩ := t0 0 (by omega)
        rw [Nat.add_zero] at y0
        have X0 : (w.alloc (.cells #[.slice (some ⟨g, off, none⟩) x.length cap] 29)).cell? ⟨g, off + 0, none⟩ = some (.slice (some ⟨G0, O0, none⟩) (x[0]'i0).length d0) := by rw [HBW.out.cell (p := ⟨g, off + 0, none⟩) hg]; exact hc0
        rw [L0] at X0
        have Y0 : (w.alloc (.cells #[.slice (some ⟨g, off, none⟩) x.length cap] 29)).cell? ⟨G0, O0, none⟩ = some (.string (headT (x[0]'i0))) := by rw [HBW.out.cell (p := ⟨G0, O0, none⟩) s0, headT_at _ (by omega)]; exact y0
        have T0 := hideF (texts_get x 0 i0)
        have Z0 := hideF (show (headT (x[0]'i0)).size ≤ maxLen by rw [headT_at _ (by omega)]; exact m0)
        clear hc0 L0 t0 y0 m0 e0 a0 b0 s0
        generalize headT (x[0]'i0) = A0 at *
        have i1 : 1 < x.length := by omega
        obtain ⟨c1, hc1, hrc1⟩ := HC.out 1 i1
        obtain ⟨q1, d1, rfl, a1, b1, e1⟩ := hrc1
        have L1 : (x[1]'i1).length = 1 := HA.out 1 i1 (by omega)
        obtain ⟨G1, O1, rfl, s1, _, t1⟩ := e1 (by omega)
        obtain ⟨z1, y1, rfl, m1⟩ := t1 0 (by omega)
        rw [Nat.add_zero] at y1
        have X1 : (w.alloc (.cells #[.slice (some ⟨g, off, none⟩) x.length cap] 29)).cell? ⟨g, off + 1, none⟩ = some (.slice (some ⟨G1, O1, none⟩) (x[1]'i1).length d1) := by rw [HBW.out.cell (p := ⟨g, off + 1, none⟩) hg]; exact hc1
        rw [L1] at X1
        have Y1 : (w.alloc (.cells #[.slice (some ⟨g, off, none⟩) x.length cap] 29)).cell? ⟨G1, O1, none⟩ = some (.string (headT (x[1]'i1))) := by rw [HBW.out.cell (p := ⟨G1, O1, none⟩) s1, headT_at _ (by omega)]; exact y1
        have T1 := hideF (texts_get x 1 i1)
        have Z1 := hideF (show (headT (x[1]'i1)).size ≤ maxLen by rw [headT_at _ (by omega)]; exact m1)
        clear hc1 L1 t1 y1 m1 e1 a1 b1 s1
        generalize headT (x[1]'i1) = A1 at *
        have i2 : 2 < x.length := by omega
        obtain ⟨c2, hc2, hrc2⟩ := HC.out 2 i2
        obtain ⟨q2, d2, rfl, a2, b2, e2⟩ := hrc2
        have L2 : (x[2]'i2).length = 1 := HA.out 2 i2 (by omega)
        obtain ⟨G2, O2, rfl, s2, _, t2⟩ := e2 (by omega)
        obtain ⟨z2, y2, rfl, m2⟩ := t2 0 (by omega)
        rw [Nat.add_zero] at y2
        have X2 : (w.alloc (.cells #[.slice (some ⟨g, off, none⟩) x.length cap] 29)).cell? ⟨g, off + 2, none⟩ = some (.slice (some ⟨G2, O2, none⟩) (x[2]'i2).length d2) := by rw [HBW.out.cell (p := ⟨g, off + 2, none⟩) hg]; exact hc2
        rw [L2] at X2
        have Y2 : (w.alloc (.cells #[.slice (some ⟨g, off, none⟩) x.length cap] 29)).cell? ⟨G2, O2, none⟩ = some (.string (headT (x[2]'i2))) := by rw [HBW.out.cell (p := ⟨G2, O2, none⟩) s2, headT_at _ (by omega)]; exact y2
        have T2 := hideF (texts_get x 2 i2)
        have Z2 := hideF (show (headT (x[2]'i2)).size ≤ maxLen by rw [headT_at _ (by omega)]; exact m2)
        clear hc2 L2 t2 y2 m2 e2 a2 b2 s2
        generalize headT (x[2]'i2) = A2 at *
        rw [Nat.add_zero] at X0
        clear HR HS HC HA HX
        have HE := hideF (show R = kindA 3 A0 A1 (A2) by rw [HKL.out, kindT, T0.out, T1.out, T2.out]; rfl)
        clear HKL
        by_cases h3 : (A0.size : Int) = 3
        · have h3b : ((A0.size : Int) != 3) = false := by simp [h3]
          have HS3 := hideF (show decide (A0.size = 3) = true by simp; omega)
          clear h3
          go_wp2_with fail
          refine (l06Upper_any A0 _ Z0.out).mono ?_
          rintro e w1 ⟨rfl, rfl⟩
          cases hcap : capA A0
          · have HN := hideF (show R = false by rw [HE.out, kindA, hcap]; simp)
            go_wp2
            go_ret
            exact ⟨ret_boolF HN.out.symm, HBW.out⟩
          · go_wp2_with fail
            refine (l04Name_any A1 _).mono ?_
            rintro e w1 ⟨rfl, rfl⟩
            cases hnam : name3 A1
            · have HN := hideF (show R = false by rw [HE.out, kindA, hnam]; simp)
              go_wp2
              go_ret
              exact ⟨ret_boolF HN.out.symm, HBW.out⟩
            · have hA1 : A1.size ≤ 3 := name3_le hnam
              have hA0 : A0.size ≤ 3 := by have := HS3.out; simp at this; omega
              have HN := hideF (show R = (A2.toList == (A0 ++ ⟨#[95]⟩ ++ A1).toList) by rw [HE.out, kindA, hcap, hnam, HS3.out]; simp)
              clear HE hcap hnam HS3
              go_wp2
              go_ret
              exact ⟨ret_boolF HN.out.symm, HBW.out⟩
        · have h3b : ((A0.size : Int) != 3) = true := by simpa using h3
          have HN := hideF (show R = false by
            have hs : ¬ A0.size = 3 := by omega
            rw [HE.out, kindA]
            simp [hs])
          go_wp2
          go_ret
          exact ⟨ret_boolF HN.out.symm, HBW.out⟩
  · have hne : ((x.length : Int) != 3) = true := by simpa using hx
    have HN := hideF (show R = false by rw [HR.out]; exact kindL_len (by omega))
    go_enter Tryz.func43, Tryz.ntmps43
    go_wp2
    go_ret
    exact ⟨ret_boolF HN.out.symm, HBW.out⟩
end Go.Proofs.YtfjjbofnfigehaaGreatDoor
/- The program's fits that look at the Comps alone. -/
namespace Go.Proofs.YtfjjbofnfigehaaGreatDoor
open Go.RowKit
theorem RL.rest {α : Type} {B g off n cap : Nat} {R : World → Value → α → Prop} {w : World} {xs : List α} (h : RL B R w (.slice (some ⟨g, off, none⟩) n cap) xs) (h1 : 1 ≤ xs.length) : RL B R w (.slice (some ⟨g, off + 1, none⟩) (n - 1) (cap - 1)) (xs.drop 1) := by
  obtain ⟨p, c, e, h2, h3, h4⟩ := h
  simp only [Value.slice.injEq] at e
  obtain ⟨rfl, rfl, rfl⟩ := e
  refine ⟨_, _, by rw [List.length_drop], by rw [List.length_drop]; omega, by omega, fun h0 => ?_⟩
  obtain ⟨g2, off2, e2, hg, hB, hc⟩ := h4 (by omega)
  cases e2
  rw [List.length_drop] at h0
  refine ⟨g, off + 1, rfl, hg, hB, fun i hi => ?_⟩
  rw [List.length_drop] at hi
  obtain ⟨u, hu, hr⟩ := hc (1 + i) (by omega)
  refine ⟨u, by rw [Nat.add_assoc]; exact hu, ?_⟩
  rw [List.getElem_drop]
  exact hr
theorem RL.last {α : Type} {B g off n cap : Nat} {R : World → Value → α → Prop} {w : World} {xs : List α} (h : RL B R w (.slice (some ⟨g, off, none⟩) n cap) xs) (h1 : xs.length = 1) : RL B R w (.slice (some ⟨g, off, none⟩) (n - 1) 0) (xs.drop 1) := by
  obtain ⟨p, c, e, h2, h3, h4⟩ := h
  simp only [Value.slice.injEq] at e
  obtain ⟨rfl, rfl, rfl⟩ := e
  have hd : (xs.drop 1).length = 0 := by rw [List.length_drop]; omega
  exact ⟨_, _, by rw [hd, h1], by omega, by unfold maxLen; omega, fun h0 => by omega⟩
theorem repCell (w : World) (u : Value) : (w.alloc (.cells #[u] 29)).cell? ⟨w.heap.size, 0, none⟩ = some u := (row_new w [u] 29).cell 0
set_option maxHeartbeats 2000000 in
set_option maxRecDepth 100000 in
theorem nameFits_any (v : Int) (u : Value) (x : List (List ByteArray)) (w : World) (hn : x.length ≤ 1048576) (hr : RRep 0 w u x) :
    Calls Tryz.prog 53 #[.int .i64 v, .agg #[u]] w fun e w' => e = .returned (.bool (compsL 5 1 x)) ∧ Below w.heap.size w w' := by
  have HB0 := hideF ((Below.refl w.heap.size w).alloc (Nat.le_refl _) (.cells #[u] 29))
  have HRX := hideF (hr.below ((Below.refl w.heap.size w).alloc (Nat.le_refl _) (.cells #[u] 29)))
  obtain ⟨p, cap, rfl, q1, q2, q4⟩ := hr
  unfold maxLen at q2
  have r0 := repCell w (.slice p x.length cap)
  obtain ⟨R, hR⟩ : ∃ R, R = (compsL 5 1 x) := ⟨_, rfl⟩
  rw [← hR]
  have HR := hideF hR
  have H4 := hideF q4
  clear hR q4
  have HC := HR
  go_enter Tryz.func53, Tryz.ntmps53
  go_wp2_with fail
  refine (firstThere_any _ x 0 _ hn HRX.out).mono ?_
  rintro e w1 ⟨rfl, hb1⟩
  have HB1 := hideF (HB0.out.trans (hb1.mono HB0.out.size))
  have HRY := hideF (HRX.out.below hb1)
  have r1 : w1.cell? ⟨w.heap.size, 0, none⟩ = some (.slice p x.length cap) := by rw [hb1.cell (p := ⟨w.heap.size, 0, none⟩) (by simp [World.size_alloc])]; exact r0
  clear hb1 r0
  cases ht : thereL x
  · have HN := hideF (show R = false by rw [HC.out, compsL, ht]; simp)
    go_wp2
    go_ret
    exact ⟨ret_boolF HN.out.symm, HB1.out⟩
  · have h0 : 0 < x.length := by
      cases x with
      | nil => simp [thereL] at ht
      | cons c r => simp
    by_cases hm : (x.length : Int) ≤ 5
    · have HW := hideF (show R = noWide (x.drop 1) by rw [HC.out, compsL, ht]; have : x.length ≤ 5 := (by omega); simp [this])
      obtain ⟨g, off, hp, hg, _⟩ := H4.out h0
      subst hp
      have h1x : (1 : Int) ≤ (x.length : Int) := by omega
      have h1c : (1 : Int) ≤ (cap : Int) := by omega
      have HN := hideF (show R = noWide x.tail by rw [HW.out, List.drop_one])
      by_cases hcp : cap = 1
      · have HRZ := hideF (HRY.out.last (show x.length = 1 by omega))
        have hdl := hideF (show (x.drop 1).length ≤ 1048576 by rw [List.length_drop]; omega)
        go_wp2_with fail
        refine (noneWide_any _ (x.drop 1) 0 _ hdl.out HRZ.out).mono ?_
        rintro e w2 ⟨rfl, hb2⟩
        have HB2 := hideF (HB1.out.trans (hb2.mono HB1.out.size))
        clear hb2
        go_wp2
        go_ret
        exact ⟨ret_boolF HN.out.symm, HB2.out⟩
      · have HRZ := hideF (HRY.out.rest h0)
        have hdl := hideF (show (x.drop 1).length ≤ 1048576 by rw [List.length_drop]; omega)
        go_wp2_with fail
        refine (noneWide_any _ (x.drop 1) 0 _ hdl.out HRZ.out).mono ?_
        rintro e w2 ⟨rfl, hb2⟩
        have HB2 := hideF (HB1.out.trans (hb2.mono HB1.out.size))
        clear hb2
        go_wp2
        go_ret
        exact ⟨ret_boolF HN.out.symm, HB2.out⟩
    · have HN := hideF (show R = false by rw [HC.out, compsL]; have : ¬ x.length ≤ 5 := (by omega); simp [this])
      go_wp2
      go_ret
      exact ⟨ret_boolF HN.out.symm, HB1.out⟩
set_option maxHeartbeats 2000000 in
set_option maxRecDepth 100000 in
theorem personFits_any (v : Int) (u : Value) (x : List (List ByteArray)) (w : World) (hn : x.length ≤ 1048576) (hr : RRep 0 w u x) :
    Calls Tryz.prog 54 #[.int .i64 v, .agg #[u]] w fun e w' => e = .returned (.bool (if v = 1 then compsL 3 0 x else compsL 8 10 x)) ∧ Below w.heap.size w w' := by
  have HB0 := hideF ((Below.refl w.heap.size w).alloc (Nat.le_refl _) (.cells #[u] 29))
  have HRX := hideF (hr.below ((Below.refl w.heap.size w).alloc (Nat.le_refl _) (.cells #[u] 29)))
  obtain ⟨p, cap, rfl, q1, q2, q4⟩ := hr
  unfold maxLen at q2
  have r0 := repCell w (.slice p x.length cap)
  obtain ⟨R, hR⟩ : ∃ R, R = (if v = 1 then compsL 3 0 x else compsL 8 10 x) := ⟨_, rfl⟩
  rw [← hR]
  have HR := hideF hR
  have H4 := hideF q4
  clear hR q4
  go_enter Tryz.func54, Tryz.ntmps54
  by_cases hv : v = 1
  · have hvb : (v == 1) = true := by simpa using hv
    have HC := hideF (show R = compsL 3 0 x by rw [HR.out, if_pos hv])
    clear HR hv
    go_wp2_with fail
    refine (firstThere_any _ x 0 _ hn HRX.out).mono ?_
    rintro e w1 ⟨rfl, hb1⟩
    have HB1 := hideF (HB0.out.trans (hb1.mono HB0.out.size))
    have HRY := hideF (HRX.out.below hb1)
    have r1 : w1.cell? ⟨w.heap.size, 0, none⟩ = some (.slice p x.length cap) := by rw [hb1.cell (p := ⟨w.heap.size, 0, none⟩) (by simp [World.size_alloc])]; exact r0
    clear hb1 r0
    cases ht : thereL x
    · have HN := hideF (show R = false by rw [HC.out, compsL, ht]; simp)
      go_wp2
      go_ret
      exact ⟨ret_boolF HN.out.symm, HB1.out⟩
    · have h0 : 0 < x.length := by
        cases x with
        | nil => simp [thereL] at ht
        | cons c r => simp
      by_cases hm : (x.length : Int) ≤ 3
      · have HW := hideF (show R = noWide (x.drop 0) by rw [HC.out, compsL, ht]; have : x.length ≤ 3 := (by omega); simp [this])
        go_wp2_with fail
        refine (noneWide_any _ x 0 _ hn HRY.out).mono ?_
        rintro e w2 ⟨rfl, hb2⟩
        have HB2 := hideF (HB1.out.trans (hb2.mono HB1.out.size))
        have HN := hideF (show R = noWide x by rw [HW.out, List.drop_zero])
        clear hb2
        go_wp2
        go_ret
        exact ⟨ret_boolF HN.out.symm, HB2.out⟩
      · have HN := hideF (show R = false by rw [HC.out, compsL]; have : ¬ x.length ≤ 3 := (by omega); simp [this])
        go_wp2
        go_ret
        exact ⟨ret_boolF HN.out.symm, HB1.out⟩
  · have hvb : (v == 1) = false := by simpa using hv
    have HC := hideF (show R = compsL 8 10 x by rw [HR.out, if_neg hv])
    clear HR hv
    go_wp2_with fail
    refine (firstThere_any _ x 0 _ hn HRX.out).mono ?_
    rintro e w1 ⟨rfl, hb1⟩
    have HB1 := hideF (HB0.out.trans (hb1.mono HB0.out.size))
    have HRY := hideF (HRX.out.below hb1)
    have r1 : w1.cell? ⟨w.heap.size, 0, none⟩ = some (.slice p x.length cap) := by rw [hb1.cell (p := ⟨w.heap.size, 0, none⟩) (by simp [World.size_alloc])]; exact r0
    clear hb1 r0
    cases ht : thereL x
    · have HN := hideF (show R = false by rw [HC.out, compsL, ht]; simp)
      go_wp2
      go_ret
      exact ⟨ret_boolF HN.out.symm, HB1.out⟩
    · have h0 : 0 < x.length := by
        cases x with
        | nil => simp [thereL] at ht
        | cons c r => simp
      have HN := hideF (show R = decide ((x.length : Int) ≤ 8) by
        rw [HC.out, compsL, ht]
        by_cases hm : x.length ≤ 8
        · have hm2 : (x.length : Int) ≤ 8 := by omega
          rw [List.drop_of_length_le (by omega)]
          simp [hm, noWide]
          omega
        · have hm2 : ¬ (x.length : Int) ≤ 8 := by omega
          simp [hm]
          omega)
      go_wp2
      go_ret
      exact ⟨ret_boolF HN.out.symm, HB1.out⟩
set_option maxHeartbeats 2000000 in
set_option maxRecDepth 100000 in
theorem codedFits_any (v : Int) (u : Value) (x : List (List ByteArray)) (w : World) (hn : x.length ≤ 1048576) (hr : RRep 0 w u x) :
    Calls Tryz.prog 56 #[.int .i64 v, .agg #[u]] w fun e w' => e = .returned (.bool (if v = 3 then compsL 9 0 x else compsL 6 0 x)) ∧ Below w.heap.size w w' := by
  have HB0 := hideF ((Below.refl w.heap.size w).alloc (Nat.le_refl _) (.cells #[u] 29))
  have HRX := hideF (hr.below ((Below.refl w.heap.size w).alloc (Nat.le_refl _) (.cells #[u] 29)))
  obtain ⟨p, cap, rfl, q1, q2, q4⟩ := hr
  unfold maxLen at q2
  have r0 := repCell w (.slice p x.length cap)
  obtain ⟨R, hR⟩ : ∃ R, R = (if v = 3 then compsL 9 0 x else compsL 6 0 x) := ⟨_, rfl⟩
  rw [← hR]
  have HR := hideF hR
  have H4 := hideF q4
  clear hR q4
  go_enter Tryz.func56, Tryz.ntmps56
  by_cases hv : v = 3
  · have hvb : (v == 3) = true := by simpa using hv
    have HC := hideF (show R = compsL 9 0 x by rw [HR.out, if_pos hv])
    clear HR hv
    go_wp2_with fail
    refine (firstThere_any _ x 0 _ hn HRX.out).mono ?_
    rintro e w1 ⟨rfl, hb1⟩
    have HB1 := hideF (HB0.out.trans (hb1.mono HB0.out.size))
    have HRY := hideF (HRX.out.below hb1)
    have r1 : w1.cell? ⟨w.heap.size, 0, none⟩ = some (.slice p x.length cap) := by rw [hb1.cell (p := ⟨w.heap.size, 0, none⟩) (by simp [World.size_alloc])]; exact r0
    clear hb1 r0
    cases ht : thereL x
    · have HN := hideF (show R = false by rw [HC.out, compsL, ht]; simp)
      go_wp2
      go_ret
      exact ⟨ret_boolF HN.out.symm, HB1.out⟩
    · have h0 : 0 < x.length := by
        cases x with
        | nil => simp [thereL] at ht
        | cons c r => simp
      by_cases hm : (x.length : Int) ≤ 9
      · have HW := hideF (show R = noWide (x.drop 0) by rw [HC.out, compsL, ht]; have : x.length ≤ 9 := (by omega); simp [this])
        go_wp2_with fail
        refine (noneWide_any _ x 0 _ hn HRY.out).mono ?_
        rintro e w2 ⟨rfl, hb2⟩
        have HB2 := hideF (HB1.out.trans (hb2.mono HB1.out.size))
        have HN := hideF (show R = noWide x by rw [HW.out, List.drop_zero])
        clear hb2
        go_wp2
        go_ret
        exact ⟨ret_boolF HN.out.symm, HB2.out⟩
      · have HN := hideF (show R = false by rw [HC.out, compsL]; have : ¬ x.length ≤ 9 := (by omega); simp [this])
        go_wp2
        go_ret
        exact ⟨ret_boolF HN.out.symm, HB1.out⟩
  · have hvb : (v == 3) = false := by simpa using hv
    have HC := hideF (show R = compsL 6 0 x by rw [HR.out, if_neg hv])
    clear HR hv
    go_wp2_with fail
    refine (firstThere_any _ x 0 _ hn HRX.out).mono ?_
    rintro e w1 ⟨rfl, hb1⟩
    have HB1 := hideF (HB0.out.trans (hb1.mono HB0.out.size))
    have HRY := hideF (HRX.out.below hb1)
    have r1 : w1.cell? ⟨w.heap.size, 0, none⟩ = some (.slice p x.length cap) := by rw [hb1.cell (p := ⟨w.heap.size, 0, none⟩) (by simp [World.size_alloc])]; exact r0
    clear hb1 r0
    cases ht : thereL x
    · have HN := hideF (show R = false by rw [HC.out, compsL, ht]; simp)
      go_wp2
      go_ret
      exact ⟨ret_boolF HN.out.symm, HB1.out⟩
    · have h0 : 0 < x.length := by
        cases x with
        | nil => simp [thereL] at ht
        | cons c r => simp
      by_cases hm : (x.length : Int) ≤ 6
      · have HW := hideF (show R = noWide (x.drop 0) by rw [HC.out, compsL, ht]; have : x.length ≤ 6 := (by omega); simp [this])
        go_wp2_with fail
        refine (noneWide_any _ x 0 _ hn HRY.out).mono ?_
        rintro e w2 ⟨rfl, hb2⟩
        have HB2 := hideF (HB1.out.trans (hb2.mono HB1.out.size))
        have HN := hideF (show R = noWide x by rw [HW.out, List.drop_zero])
        clear hb2
        go_wp2
        go_ret
        exact ⟨ret_boolF HN.out.symm, HB2.out⟩
      · have HN := hideF (show R = false by rw [HC.out, compsL]; have : ¬ x.length ≤ 6 := (by omega); simp [this])
        go_wp2
        go_ret
        exact ⟨ret_boolF HN.out.symm, HB1.out⟩
end Go.Proofs.YtfjjbofnfigehaaGreatDoor
