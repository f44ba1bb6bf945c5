/- How the program reads a head. -/
import Derived.Test.YtkmehbgepkilkaaGreatDoorXGIBank
import Derived.Test.YtkmehbgepkilkaaGreatDoorXGSSeen7
import Derived.Test.YtkmehbgepkilkaaGreatDoorXGGSpecNum
import Derived.Test.YtkmehbgepkilkaaGreatDoorXGCUnseal
namespace Go.Proofs.YtkmehbgepkilkaaGreatDoor
open Go.RowKit

instance stab_laid : Stab St3.Laid := ⟨fun hb h => by
  have := St3.laid_lt h
  unfold St3.Laid at h ⊢
  rw [hb.cell (p := ⟨3, 0, none⟩) this]; exact h⟩

set_option maxRecDepth 100000 in
set_option maxHeartbeats 1000000 in
theorem headNum_yes (t : ByteArray) (a : Nat) (n p : Int) (w : World) (ht : t.size ≤ 8000) (ha : (a : Int) ≤ 9223372036854775807) (HR : Hid (St3.scan t a 10 0 0 = (n, p, 0))) :
    Calls Tryz.prog 80 #[.string t, .int .i64 a] w fun e w' => e = .returned (.tuple #[.int .i64 n, .int .i64 p]) ∧ Below w.heap.size w w' := by
  go_enter Tryz.func80, Tryz.ntmps80
  go_wp2_with fail
  refine (St3.implGetNum_yes t a n p _ ht ha HR).mono ?_
  rintro e w1 ⟨rfl, hb1⟩
  have HB := hide (hb1.alloc hb1.size (.cells #[.int .i64 n, .int .i64 p, .int .i64 0] 106))
  clear hb1
  go_wp2_with fail
  refine (refuse_no _ _).mono ?_
  rintro e w2 ⟨rfl, rfl⟩
  go_wp2_with fail
  go_region
  go_wp2
  exact bodyPost_ret (v := .tuple #[.int .i64 n, .int .i64 p]) (by simp [results, Tryz.results80, go_sem]) rfl ⟨rfl, HB.out.drew⟩
set_option maxHeartbeats 1000000 in
theorem headNum_no (t : ByteArray) (a : Nat) (c : Int) (w : World) (ht : t.size ≤ 8000) (ha : (a : Int) ≤ 9223372036854775807) (hg : St3.Laid w) (hc : c = 3 ∨ c = 4) (HR : Hid (St3.scan t a 10 0 0 = (0, 0, c))) :
    Calls Tryz.prog 80 #[.string t, .int .i64 a] w fun e w' => e = .panicked (fault 3) ∧ Below w.heap.size w w' := by
  have hc' : (c != 0) = true := by simp; omega
  have HC := hide hc
  clear hc
  go_enter Tryz.func80, Tryz.ntmps80
  go_wp2_with fail
  refine (St3.implGetNum_no t a c _ ht ha hg HC.out HR).mono ?_
  rintro e w1 ⟨rfl, hb1⟩
  have HB := hide (hb1.alloc hb1.size (.cells #[.int .i64 0, .int .i64 0, .int .i64 c] 106))
  clear hb1
  go_wp2_with fail
  refine (refuse_yes _ _).mono ?_
  rintro e w2 ⟨rfl, rfl⟩
  go_wp2
  exact ⟨rfl, rfl, HB.out⟩
end Go.Proofs.YtkmehbgepkilkaaGreatDoor

/- The program's readHead: what it tells of a sector's text. -/
namespace Go.Proofs.YtkmehbgepkilkaaGreatDoor
open Go.RowKit

/-- What the program tells of a text that may be a head: the number, the side, the bytes, the code. -/
def headSeen (s : ByteArray) : Int × Int × Int × Int :=
  if s.size < 4 then (0, 0, 0, 4)
  else if ¬ St1.sealOf (s.extract 0 (s.size - 4)) = s then (0, 0, 0, 5)
  else
    let r := nums (s.extract 0 (s.size - 4))
    if r.1.2.2 = 0 ∧ r.2.1.2.2 = 0 ∧ r.2.2.2.2 = 0 ∧ (0 ≤ r.1.1 ∧ 0 ≤ r.2.1.1 ∧ r.2.1.1 ≤ 1 ∧ 0 ≤ r.2.2.1) ∧ r.2.2.2.1 = ((s.extract 0 (s.size - 4)).size : Int) then (r.1.1, r.2.1.1, r.2.2.1, 0) else (0, 0, 0, 3)
def HeadIs (e : Ending) (r : Int × Int × Int × Int) : Prop :=
  (r.2.2.2 = 0 ∧ e = .returned (.agg #[.int .i64 r.1, .int .i64 r.2.1, .int .i64 r.2.2.1])) ∨ (r.2.2.2 ≠ 0 ∧ e = .panicked (fault r.2.2.2))

theorem three' {w : World} {G : Nat} {T : TypeId} {a b c : Value} (R : Row w G T [a, b, c]) (A B C : Value) :
    (((w.setCell ⟨G, 0, none⟩ A).setCell ⟨G, 1, none⟩ B).setCell ⟨G, 2, none⟩ C).cell? ⟨G, 0, none⟩ = some A ∧
    (((w.setCell ⟨G, 0, none⟩ A).setCell ⟨G, 1, none⟩ B).setCell ⟨G, 2, none⟩ C).cell? ⟨G, 1, none⟩ = some B ∧
    (((w.setCell ⟨G, 0, none⟩ A).setCell ⟨G, 1, none⟩ B).setCell ⟨G, 2, none⟩ C).cell? ⟨G, 2, none⟩ = some C ∧
    Kept [G] w (((w.setCell ⟨G, 0, none⟩ A).setCell ⟨G, 1, none⟩ B).setCell ⟨G, 2, none⟩ C) := by
  have R4 := ((R.set (j := 0) A).set (j := 1) B).set (j := 2) C
  exact ⟨R4.cell 0, R4.cell 1, R4.cell 2, (((Kept.refl _ _).set (by simp) _).set (by simp) _).set (by simp) _⟩

theorem scan_or (t : ByteArray) (a : Nat) {n p c : Int} (h : St3.scan t a 10 0 0 = (n, p, c)) : c = 0 ∨ ((n = 0 ∧ p = 0) ∧ (c = 3 ∨ c = 4)) := by
  rcases scan_codeP t a 10 0 0 with h1 | h1 | h1
  · left; rw [h] at h1; exact h1
  · right; rw [h] at h1; injection h1 with e1 e2; injection e2 with e2 e3; exact ⟨⟨e1, e2⟩, .inl e3⟩
  · right; rw [h] at h1; injection h1 with e1 e2; injection e2 with e2 e3; exact ⟨⟨e1, e2⟩, .inr e3⟩

set_option maxRecDepth 100000 in
set_option maxHeartbeats 4000000 in
theorem readHead_bad (s : ByteArray) (c : Int) (w : World) (hc : c ≠ 0) (hU : ∀ W : World, Calls Tryz.prog 79 #[.string s] W fun e w' => e = .returned (.agg #[.string ⟨#[]⟩, .int .i64 0, .int .i64 c]) ∧ Below W.heap.size W w') :
    Calls Tryz.prog 61 #[.string s] w fun e w' => e = .panicked (fault c) ∧ Below w.heap.size w w' := by
  have hb0 := below_new w (.cells #[.int .i64 0, .int .i64 0, .int .i64 0] 51)
  have HB0 := hide hb0
  have HU := hide hU
  clear hb0 hU
  go_enter Tryz.func61, Tryz.ntmps61
  go_wp2_with fail
  refine (HU.out _).mono ?_
  rintro e w1 ⟨rfl, hb1⟩
  have b1 := HB0.out.trans (hb1.mono HB0.out.size)
  have HB1 := hide (b1.alloc b1.size (.cells #[.string ⟨#[]⟩, .int .i64 0, .int .i64 c] 103))
  clear hb1 b1
  go_wp2_with fail
  refine (refuseCode_yes _ _ hc).mono ?_
  rintro e w2 ⟨rfl, rfl⟩
  go_wp2
  exact ⟨rfl, rfl, HB1.out⟩

set_option maxRecDepth 100000 in
set_option maxHeartbeats 8000000 in
theorem readHead_ok (s t : ByteArray) (A1 A3 B1 B3 C1 C3 n3 : Int) (n1 n2 : Nat) (w : World) (ht : t.size ≤ 8000) (hn1 : n1 ≤ 8000) (hn2 : n2 ≤ 8000) (hg : St3.Laid w)
    (HA : Hid (St3.scan t 0 10 0 0 = (A1, (n1 : Int), A3))) (HB : Hid (St3.scan t n1 10 0 0 = (B1, (n2 : Int), B3))) (HC : Hid (St3.scan t n2 10 0 0 = (C1, n3, C3)))
    (hU : ∀ W : World, Calls Tryz.prog 79 #[.string s] W fun e w' => e = .returned (.agg #[.string t, .int .i64 0, .int .i64 0]) ∧ Below W.heap.size W w') :
    Calls Tryz.prog 61 #[.string s] w fun e w' => HeadIs e (if A3 = 0 ∧ B3 = 0 ∧ C3 = 0 ∧ (0 ≤ A1 ∧ 0 ≤ B1 ∧ B1 ≤ 1 ∧ 0 ≤ C1) ∧ n3 = (t.size : Int) then (A1, B1, C1, 0) else (0, 0, 0, 3)) ∧ Below w.heap.size w w' := by
  have hb0 := below_new w (.cells #[.int .i64 0, .int .i64 0, .int .i64 0] 51)
  have HB0 := hide hb0
  have HU := hide hU
  have HG := hide (Stab.go hb0 hg)
  have HN := hide (row_new w [.int .i64 0, .int .i64 0, .int .i64 0] 51)
  clear hb0 hU hg
  have hSA := scan_or t 0 HA.out
  have hSB := scan_or t n1 HB.out
  have hSC := scan_or t n2 HC.out
  have HSA := hide hSA
  have HSB := hide hSB
  have HSC := hide hSC
  clear hSA hSB hSC
  obtain ⟨RR, HRR⟩ : ∃ RR : Int × Int × Int × Int, Hid (RR = if A3 = 0 ∧ B3 = 0 ∧ C3 = 0 ∧ (0 ≤ A1 ∧ 0 ≤ B1 ∧ B1 ≤ 1 ∧ 0 ≤ C1) ∧ n3 = (t.size : Int) then (A1, B1, C1, 0) else (0, 0, 0, 3)) := ⟨_, rfl⟩
  rw [← HRR.out]
  go_enter Tryz.func61, Tryz.ntmps61
  go_wp2_with fail
  refine (HU.out _).mono ?_
  rintro e w1 ⟨rfl, hb1⟩
  have b1 := HB0.out.trans (hb1.mono HB0.out.size)
  have HN1 := hide ((Row.after hb1 HN.out).alloc (.cells #[.string t, .int .i64 0, .int .i64 0] 103))
  have HG1 := hide (Stab.go (below_new w1 (.cells #[.string t, .int .i64 0, .int .i64 0] 103)) (Stab.go hb1 HG.out))
  have HB1 := hide (b1.alloc b1.size (.cells #[.string t, .int .i64 0, .int .i64 0] 103))
  have HX1 := hide (row_new w1 [.string t, .int .i64 0, .int .i64 0] 103)
  clear hb1 b1 HB0 HG HN
  go_wp2_with fail
  refine (refuseCode_no _).mono ?_
  rintro e w1' ⟨rfl, rfl⟩
  go_wp2_with fail
  by_cases hA : A3 = 0
  · have HA0 := hide (show St3.scan t 0 10 0 0 = (A1, (n1 : Int), 0) by rw [HA.out, hA])
    refine (headNum_yes t 0 A1 n1 _ ht (by omega) HA0).mono ?_
    rintro e w2 ⟨rfl, hb2⟩
    have HB2 := hide (HB1.out.trans (hb2.mono HB1.out.size))
    have HN2 := hide (Row.after hb2 HN1.out)
    have HG2 := hide (Stab.go hb2 HG1.out)
    have HX2 := hide (Row.after hb2 HX1.out)
    have x0 : w2.cell? ⟨w1.heap.size, 0, none⟩ = some (.string t) := HX2.out.cell 0
    have HhA := hide hA
    clear hb2 hA
    go_wp2_with fail
    by_cases hB : B3 = 0
    · have HB0' := hide (show St3.scan t n1 10 0 0 = (B1, (n2 : Int), 0) by rw [HB.out, hB])
      refine (headNum_yes t n1 B1 n2 _ ht (by omega) HB0').mono ?_
      rintro e w3 ⟨rfl, hb3⟩
      have HB3 := hide (HB2.out.trans (hb3.mono HB2.out.size))
      have HN3 := hide (Row.after hb3 HN2.out)
      have HG3 := hide (Stab.go hb3 HG2.out)
      have HX3 := hide (Row.after hb3 HX2.out)
      have y0 : w3.cell? ⟨w1.heap.size, 0, none⟩ = some (.string t) := HX3.out.cell 0
      have HhB := hide hB
      clear hb3 hB x0
      go_wp2_with fail
      by_cases hC : C3 = 0
      · have HC0 := hide (show St3.scan t n2 10 0 0 = (C1, n3, 0) by rw [HC.out, hC])
        refine (headNum_yes t n2 C1 n3 _ ht (by omega) HC0).mono ?_
        rintro e w4 ⟨rfl, hb4⟩
        have HB4 := hide (HB3.out.trans (hb4.mono HB3.out.size))
        have HN4 := hide (Row.after hb4 HN3.out)
        have HX4 := hide (Row.after hb4 HX3.out)
        have z0 : w4.cell? ⟨w1.heap.size, 0, none⟩ = some (.string t) := HX4.out.cell 0
        have HhC := hide hC
        clear hb4 hC y0
        by_cases hrng : 0 ≤ A1 ∧ 0 ≤ B1 ∧ B1 ≤ 1 ∧ 0 ≤ C1
        · obtain ⟨r1, r2, r3, r4⟩ := hrng
          have k1 : decide (A1 < 0) = false := decide_eq_false (by omega)
          have k2 : decide (B1 < 0) = false := decide_eq_false (by omega)
          have k3 : decide (1 < B1) = false := decide_eq_false (by omega)
          have k4 : decide (C1 < 0) = false := decide_eq_false (by omega)
          go_wp2_with fail
          refine (refuse_no _ _).mono ?_
          rintro e w5 ⟨rfl, rfl⟩
          by_cases hlen : n3 = (t.size : Int)
          · have hne : (n3 != (t.size : Int)) = false := by rw [hlen]; simp
            have HL := hide hlen
            clear hlen
            go_wp2_with fail
            refine (refuse_no _ _).mono ?_
            rintro e w6 ⟨rfl, rfl⟩
            have c0 : w6.cell? ⟨w.heap.size, 0, none⟩ = some (.int .i64 0) := HN4.out.cell 0
            have c1 : w6.cell? ⟨w.heap.size, 1, none⟩ = some (.int .i64 0) := HN4.out.cell 1
            have c2 : w6.cell? ⟨w.heap.size, 2, none⟩ = some (.int .i64 0) := HN4.out.cell 2
            have f0 := HN4.out.free 0
            have f1 := HN4.out.free 1
            have f2 := HN4.out.free 2
            have HR := hide (show 0 ≤ A1 ∧ 0 ≤ B1 ∧ B1 ≤ 1 ∧ 0 ≤ C1 from ⟨r1, r2, r3, r4⟩)
            go_wp2
            obtain ⟨q0, q1, q2, KF⟩ := three' HN4.out (.int .i64 A1) (.int .i64 B1) (.int .i64 C1)
            exact bodyPost_ret (v := .agg #[.int .i64 A1, .int .i64 B1, .int .i64 C1]) (by simp [results, Tryz.results61, go_sem, q0, q1, q2]) rfl
              ⟨by rw [HRR.out, if_pos ⟨HhA.out, HhB.out, HhC.out, HR.out, HL.out⟩]; exact .inl ⟨rfl, rfl⟩, KF.toBelow HB4.out HB4.out.size (by simp)⟩
          · have hne : (n3 != (t.size : Int)) = true := by simpa using hlen
            have HL := hide hlen
            clear hlen
            go_wp2_with fail
            refine (refuse_yes _ _).mono ?_
            rintro e w6 ⟨rfl, rfl⟩
            go_wp2
            exact ⟨rfl, by rw [HRR.out, if_neg (fun h => HL.out h.2.2.2.2)]; exact .inr ⟨by simp, rfl⟩, HB4.out⟩
        · have HRN := hide hrng
          have HEND := hide (show HeadIs (.panicked (fault 3)) RR by
            rw [HRR.out, if_neg (fun h => hrng h.2.2.2.1)]; exact .inr ⟨by simp, rfl⟩)
          by_cases g1 : A1 < 0
          · have k1 : decide (A1 < 0) = true := decide_eq_true g1
            clear hrng g1
            go_wp2_with fail
            refine (refuse_yes _ _).mono ?_
            rintro e w5 ⟨rfl, rfl⟩
            go_wp2
            exact ⟨rfl, HEND.out, HB4.out⟩
          · have k1 : decide (A1 < 0) = false := decide_eq_false g1
            by_cases g2 : B1 < 0
            · have k2 : decide (B1 < 0) = true := decide_eq_true g2
              clear hrng g1 g2
              go_wp2_with fail
              refine (refuse_yes _ _).mono ?_
              rintro e w5 ⟨rfl, rfl⟩
              go_wp2
              exact ⟨rfl, HEND.out, HB4.out⟩
            · have k2 : decide (B1 < 0) = false := decide_eq_false g2
              by_cases g3 : 1 < B1
              · have k3 : decide (1 < B1) = true := decide_eq_true g3
                clear hrng g1 g2 g3
                go_wp2_with fail
                refine (refuse_yes _ _).mono ?_
                rintro e w5 ⟨rfl, rfl⟩
                go_wp2
                exact ⟨rfl, HEND.out, HB4.out⟩
              · have k3 : decide (1 < B1) = false := decide_eq_false g3
                have k4 : decide (C1 < 0) = true := decide_eq_true (by omega)
                clear hrng g1 g2 g3
                go_wp2_with fail
                refine (refuse_yes _ _).mono ?_
                rintro e w5 ⟨rfl, rfl⟩
                go_wp2
                exact ⟨rfl, HEND.out, HB4.out⟩
      · obtain ⟨⟨rfl, rfl⟩, hc34⟩ := HSC.out.resolve_left hC
        refine (headNum_no t n2 C3 _ ht (by omega) HG3.out hc34 HC).mono ?_
        rintro e w4 ⟨rfl, hb4⟩
        have HB4 := hide (HB3.out.trans (hb4.mono HB3.out.size))
        clear hb4
        go_wp2
        exact ⟨rfl, by rw [HRR.out, if_neg (fun h => hC h.2.2.1)]; exact .inr ⟨by simp, rfl⟩, HB4.out⟩
    · obtain ⟨⟨e1, e2⟩, hc34⟩ := HSB.out.resolve_left hB
      have HB' := hide (show St3.scan t n1 10 0 0 = (0, 0, B3) by rw [HB.out, e1, e2])
      refine (headNum_no t n1 B3 _ ht (by omega) HG2.out hc34 HB').mono ?_
      rintro e w3 ⟨rfl, hb3⟩
      have HB3 := hide (HB2.out.trans (hb3.mono HB2.out.size))
      clear hb3 e1 e2
      go_wp2
      exact ⟨rfl, by rw [HRR.out, if_neg (fun h => hB h.2.1)]; exact .inr ⟨by simp, rfl⟩, HB3.out⟩
  · obtain ⟨⟨e1, e2⟩, hc34⟩ := HSA.out.resolve_left hA
    have HA' := hide (show St3.scan t 0 10 0 0 = (0, 0, A3) by rw [HA.out, e1, e2])
    refine (headNum_no t 0 A3 _ ht (by omega) HG1.out hc34 HA').mono ?_
    rintro e w2 ⟨rfl, hb2⟩
    have HB2 := hide (HB1.out.trans (hb2.mono HB1.out.size))
    clear hb2 e1 e2
    go_wp2
    exact ⟨rfl, by rw [HRR.out, if_neg (fun h => hA h.1)]; exact .inr ⟨by simp, rfl⟩, HB2.out⟩
end Go.Proofs.YtkmehbgepkilkaaGreatDoor

/- The program's readHead, whole, and how it stands to the specification's l03Seen. -/
namespace Go.Proofs.YtkmehbgepkilkaaGreatDoor
open Go.RowKit

theorem readHead_any (s : ByteArray) (w : World) (hs : s.size ≤ 8000) (hg : St3.Laid w) :
    Calls Tryz.prog 61 #[.string s] w fun e w' => HeadIs e (headSeen s) ∧ Below w.heap.size w w' := by
  unfold headSeen
  by_cases h4 : s.size < 4
  · rw [if_pos h4]
    exact (readHead_bad s 4 w (by omega) (fun W => St1.implUnseal_short s W h4)).mono fun e w' ⟨he, hb⟩ => ⟨.inr ⟨by simp, he⟩, hb⟩
  · rw [if_neg h4]
    by_cases h5 : St1.sealOf (s.extract 0 (s.size - 4)) = s
    · rw [if_neg (fun h => h h5)]
      have hU := fun W => St1.implUnseal_ok s W (by omega) hs h5
      obtain ⟨t, ht⟩ : ∃ t, t = s.extract 0 (s.size - 4) := ⟨_, rfl⟩
      have hts : t.size ≤ 8000 := by rw [ht]; simp; omega
      rw [← ht] at hU ⊢
      obtain ⟨s1, s2, s3⟩ := scan_at t 0
      obtain ⟨R1, e1⟩ : ∃ R, R = St3.scan t 0 10 0 0 := ⟨_, rfl⟩
      obtain ⟨A1, q1, A3⟩ := R1
      rw [← e1] at s1 s2 s3
      obtain ⟨n1, rfl⟩ := Int.eq_ofNat_of_zero_le s1
      obtain ⟨R2, e2⟩ : ∃ R, R = St3.scan t n1 10 0 0 := ⟨_, rfl⟩
      obtain ⟨B1, q2, B3⟩ := R2
      obtain ⟨r1, r2, r3⟩ := scan_at t n1
      rw [← e2] at r1 r2 r3
      obtain ⟨n2, rfl⟩ := Int.eq_ofNat_of_zero_le r1
      obtain ⟨R3, e3⟩ : ∃ R, R = St3.scan t n2 10 0 0 := ⟨_, rfl⟩
      obtain ⟨C1, n3, C3⟩ := R3
      have en : nums t = ((A1, (n1 : Int), A3), (B1, (n2 : Int), B3), (C1, n3, C3)) := by
        unfold nums
        simp only [← e1, Int.toNat_natCast, ← e2, ← e3]
      rw [en]
      simp only at s2 s3 r2 r3 ⊢
      exact readHead_ok s t A1 A3 B1 B3 C1 C3 n3 n1 n2 w hts (by omega) (by omega) hg e1.symm e2.symm e3.symm hU
    · rw [if_pos h5]
      exact (readHead_bad s 5 w (by omega) (fun W => St1.implUnseal_sum s W (by omega) hs h5)).mono fun e w' ⟨he, hb⟩ => ⟨.inr ⟨by simp, he⟩, hb⟩

theorem seen_head (xs : List ByteArray) (ps : List (Int × ByteArray)) :
    seen xs ps = if (headSeen (headText xs ps)).2.2.2 ≠ 0 then (0, 0, 0, (headSeen (headText xs ps)).2.2.2) else if (headSeen (headText xs ps)).2.2.1 ≤ 64 * half xs.length then headSeen (headText xs ps) else (0, 0, 0, 3) := by
  obtain ⟨s, hs⟩ : ∃ s, s = headText xs ps := ⟨_, rfl⟩
  unfold seen headSeen
  rw [← hs]
  simp only
  by_cases h4 : s.size < 4
  · simp only [if_pos h4]; simp
  · simp only [if_neg h4]
    by_cases h5 : St1.sealOf (s.extract 0 (s.size - 4)) = s
    · simp only [if_neg (fun h : ¬ _ => h h5)]
      obtain ⟨t, ht⟩ : ∃ t, t = s.extract 0 (s.size - 4) := ⟨_, rfl⟩
      rw [← ht] at h5 ⊢
      obtain ⟨s1, _, _⟩ := scan_at t 0
      obtain ⟨R1, e1⟩ : ∃ R, R = St3.scan t 0 10 0 0 := ⟨_, rfl⟩
      obtain ⟨A1, q1, A3⟩ := R1
      rw [← e1] at s1
      obtain ⟨R2, e2⟩ : ∃ R, R = St3.scan t q1.toNat 10 0 0 := ⟨_, rfl⟩
      obtain ⟨B1, q2, B3⟩ := R2
      obtain ⟨R3, e3⟩ : ∃ R, R = St3.scan t q2.toNat 10 0 0 := ⟨_, rfl⟩
      obtain ⟨C1, n3, C3⟩ := R3
      have en : nums t = ((A1, q1, A3), (B1, q2, B3), (C1, n3, C3)) := by
        unfold nums
        simp only [← e1, ← e2, ← e3]
      rw [en]
      simp only
      by_cases hp : A3 = 0 ∧ B3 = 0 ∧ C3 = 0 ∧ (0 ≤ A1 ∧ 0 ≤ B1 ∧ B1 ≤ 1 ∧ 0 ≤ C1) ∧ n3 = (t.size : Int)
      · obtain ⟨h1, h2, h3, hr, hl⟩ := id hp
        have hh := (head_iff (A1 := A1) (B1 := B1) (C1 := C1) (by rw [← e1, h1]) (by rw [← e2, h2]) (by rw [← e3, h3])).2 hl
        rw [h5] at hh
        have E1 : (if A3 = 0 ∧ B3 = 0 ∧ C3 = 0 ∧ (0 ≤ A1 ∧ 0 ≤ B1 ∧ B1 ≤ 1 ∧ 0 ≤ C1) ∧ n3 = (t.size : Int) then (A1, B1, C1, (0 : Int)) else (0, 0, 0, 3)) = (A1, B1, C1, 0) := if_pos hp
        rw [E1]
        by_cases hc : C1 ≤ 64 * half xs.length
        · have E2 : (if A3 = 0 ∧ B3 = 0 ∧ C3 = 0 ∧ headOf A1 B1 C1 = s ∧ 0 ≤ A1 ∧ (0 ≤ B1 ∧ B1 ≤ 1) ∧ 0 ≤ C1 ∧ C1 ≤ 64 * half xs.length then (A1, B1, C1, (0 : Int)) else (0, 0, 0, 3)) = (A1, B1, C1, 0) := if_pos ⟨h1, h2, h3, hh, hr.1, ⟨hr.2.1, hr.2.2.1⟩, hr.2.2.2, hc⟩
          rw [E2]; simp [hc]
        · have E2 : (if A3 = 0 ∧ B3 = 0 ∧ C3 = 0 ∧ headOf A1 B1 C1 = s ∧ 0 ≤ A1 ∧ (0 ≤ B1 ∧ B1 ≤ 1) ∧ 0 ≤ C1 ∧ C1 ≤ 64 * half xs.length then (A1, B1, C1, (0 : Int)) else (0, 0, 0, 3)) = (0, 0, 0, 3) := if_neg (fun h => hc h.2.2.2.2.2.2.2)
          rw [E2]; simp [hc]
      · have E1 : (if A3 = 0 ∧ B3 = 0 ∧ C3 = 0 ∧ (0 ≤ A1 ∧ 0 ≤ B1 ∧ B1 ≤ 1 ∧ 0 ≤ C1) ∧ n3 = (t.size : Int) then (A1, B1, C1, (0 : Int)) else (0, 0, 0, 3)) = (0, 0, 0, 3) := if_neg hp
        have E2 : (if A3 = 0 ∧ B3 = 0 ∧ C3 = 0 ∧ headOf A1 B1 C1 = s ∧ 0 ≤ A1 ∧ (0 ≤ B1 ∧ B1 ≤ 1) ∧ 0 ≤ C1 ∧ C1 ≤ 64 * half xs.length then (A1, B1, C1, (0 : Int)) else (0, 0, 0, 3)) = (0, 0, 0, 3) := if_neg (fun h => hp ⟨h.1, h.2.1, h.2.2.1, ⟨h.2.2.2.2.1, h.2.2.2.2.2.1.1, h.2.2.2.2.2.1.2, h.2.2.2.2.2.2.1⟩,
          (head_iff (A1 := A1) (B1 := B1) (C1 := C1) (by rw [← e1, h.1]) (by rw [← e2, h.2.1]) (by rw [← e3, h.2.2.1])).1 (by rw [h5]; exact h.2.2.2.1)⟩)
        rw [E1, E2]; simp
    · simp only [if_pos h5]; simp
end Go.Proofs.YtkmehbgepkilkaaGreatDoor
