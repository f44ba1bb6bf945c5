/- The specification's l03Seen, whole: what the head of a right disk tells. -/
import Derived.Test.YtnpbmaajgiapmaaGreatDoorXG6KText
import Derived.Test.YtnpbmaajgiapmaaGreatDoorXG16CUnseal
import Derived.Test.YtnpbmaajgiapmaaGreatDoorXG17SSeen2
import Derived.Test.YtnpbmaajgiapmaaGreatDoorXG18SSeen4
import Derived.Test.YtnpbmaajgiapmaaGreatDoorXG19SSeen7
import Derived.Test.YtnpbmaajgiapmaaGreatDoorXG15Copy
namespace Go.Proofs.YtnpbmaajgiapmaaGreatDoor
open Go.RowKit

theorem bytesOf_append (a b : List Int) : St2.bytesOf (a ++ b) = St2.bytesOf a ++ St2.bytesOf b := by
  apply ByteArray.ext
  simp [St2.bytesOf]
theorem bytesOf_len (L : List Int) : (St2.bytesOf L).size = L.length := by simp [St2.bytesOf, ByteArray.size]
theorem eq_bytesOf {t : ByteArray} {L : List Int} (hl : t.size = L.length) (h : ∀ j (h1 : j < t.size) (h2 : j < L.length), ((t[j]'h1).toNat : Int) = L[j]) : t = St2.bytesOf L := by
  apply ByteArray.ext
  apply Array.ext
  · show t.size = _; rw [hl]; simp [St2.bytesOf]
  · intro i h1 h2
    have h1' : i < t.size := h1
    have := h i h1' (by omega)
    simp only [St2.bytesOf, List.getElem_toArray, List.getElem_map]
    rw [← this]
    show t[i] = _
    apply UInt8.toNat.inj
    simp

/-- What is read of a text at a place: the number, the place behind it, the code. -/
def nums (t : ByteArray) : (Int × Int × Int) × (Int × Int × Int) × (Int × Int × Int) :=
  let a := St3.scan t 0 10 0 0
  let b := St3.scan t a.2.1.toNat 10 0 0
  (a, b, St3.scan t b.2.1.toNat 10 0 0)
theorem scan_codeP (s : ByteArray) (a : Nat) : ∀ (f k : Nat) (u : Int), (St3.scan s a f k u).2.2 = 0 ∨ St3.scan s a f k u = (0, 0, 3) ∨ St3.scan s a f k u = (0, 0, 4)
  | 0, _, _ => .inr (.inl rfl)
  | f + 1, k, u => by
    rw [St3.scan]
    split
    · split
      · split
        · exact .inr (.inl rfl)
        · exact .inl rfl
      · exact scan_codeP s a f _ _
    · exact .inr (.inr rfl)
theorem scan_at (t : ByteArray) (a : Nat) : 0 ≤ (St3.scan t a 10 0 0).2.1 ∧ (St3.scan t a 10 0 0).2.1 ≤ t.size ∧ (-9223372036854775808 ≤ (St3.scan t a 10 0 0).1 ∧ (St3.scan t a 10 0 0).1 ≤ 9223372036854775807) := by
  rcases scan_codeP t a 10 0 0 with h | h | h
  · obtain ⟨r, e⟩ : ∃ r, r = St3.scan t a 10 0 0 := ⟨_, rfl⟩
    obtain ⟨n, p, c⟩ := r
    rw [← e] at h ⊢
    simp only at h
    subst h
    obtain ⟨h1, h2, h3, h4, _⟩ := scan_enc e.symm
    simp only
    exact ⟨by omega, by omega, h3, h4⟩
  · rw [h]; simp
  · rw [h]; simp

theorem head_iff {t : ByteArray} {A1 B1 C1 p1 p2 p3 : Int} (h1 : St3.scan t 0 10 0 0 = (A1, p1, 0)) (h2 : St3.scan t p1.toNat 10 0 0 = (B1, p2, 0)) (h3 : St3.scan t p2.toNat 10 0 0 = (C1, p3, 0)) :
    headOf A1 B1 C1 = St1.sealOf t ↔ p3 = t.size := by
  obtain ⟨a1, a2, _, _, a5⟩ := scan_enc h1
  obtain ⟨b1, b2, _, _, b5⟩ := scan_enc h2
  obtain ⟨c1, c2, _, _, c5⟩ := scan_enc h3
  have e : numText A1 ++ numText B1 ++ numText C1 = St2.bytesOf (St2.enc A1 ++ St2.enc B1 ++ St2.enc C1) := by
    rw [bytesOf_append, bytesOf_append]; rfl
  constructor
  · intro h
    have hs := congrArg ByteArray.size h
    unfold headOf St1.sealOf at hs
    rw [e] at hs
    have h4 : ∀ c : Int, (St1.four c).size = 4 := fun c => rfl
    simp only [ByteArray.size_append, h4, bytesOf_len, List.length_append] at hs
    omega
  · intro h
    unfold headOf
    rw [e]
    congr 1
    symm
    apply eq_bytesOf
    · simp only [List.length_append]; omega
    · intro j h1 h2
      by_cases hj : j < (St2.enc A1).length
      · have := a5 j hj (by omega)
        simp only [Nat.zero_add] at this
        rw [this, List.getElem_append_left (by simp; omega), List.getElem_append_left hj]
      · by_cases hk : j < (St2.enc A1).length + (St2.enc B1).length
        · have := b5 (j - (St2.enc A1).length) (by omega) (by omega)
          rw [List.getElem_append_left (by simp; omega), List.getElem_append_right (by omega), ← this]
          congr 2
          congr 1
          omega
        · simp only [List.length_append] at h2
          have := c5 (j - ((St2.enc A1).length + (St2.enc B1).length)) (by omega) (by omega)
          rw [List.getElem_append_right (by simp; omega)]
          simp only [List.length_append]
          rw [← this]
          congr 2
          congr 1
          omega

/-- What the head of a right disk tells: the number, the side, the bytes, the code. -/
def seen (xs : List ByteArray) (ps : List (Int × ByteArray)) : Int × Int × Int × Int :=
  let s := headText xs ps
  if s.size < 4 then (0, 0, 0, 4)
  else if ¬ St1.sealOf (s.extract 0 (s.size - 4)) = s then (0, 0, 0, 5)
  else
    let r := nums (s.extract 0 (s.size - 4))
    if r.1.2.2 = 0 ∧ r.2.1.2.2 = 0 ∧ r.2.2.2.2 = 0 ∧ headOf r.1.1 r.2.1.1 r.2.2.1 = s ∧ 0 ≤ r.1.1 ∧ (0 ≤ r.2.1.1 ∧ r.2.1.1 ≤ 1) ∧ (0 ≤ r.2.2.1 ∧ r.2.2.1 ≤ 64 * half xs.length) then (r.1.1, r.2.1.1, r.2.2.1, 0) else (0, 0, 0, 3)
def seenV (r : Int × Int × Int × Int) : Value := .tuple #[.int .i64 r.1, .int .i64 r.2.1, .int .i64 r.2.2.1, .int .i64 r.2.2.2]

theorem headText_size {xs : List ByteArray} {ps : List (Int × ByteArray)} (hok : right xs ps = true) : (headText xs ps).size ≤ 64 := by
  have hl := right_ge hok
  have hs : ∀ x ∈ xs, x.size ≤ 64 := by
    intro x hx
    unfold right at hok
    simp only [Bool.and_eq_true] at hok
    have := hok.1.2
    unfold okS at this
    simpa using (List.all_eq_true.1 this) x hx
  have hq : ∀ x ∈ ps, x.2.size ≤ 64 := by
    intro x hx
    unfold right at hok
    simp only [Bool.and_eq_true] at hok
    have := hok.2
    unfold okP at this
    have := (List.all_eq_true.1 this) x hx
    simp at this
    omega
  unfold headText
  have h0 : (xs.getD 0 ⟨#[]⟩).size ≤ 64 := by
    cases xs with
    | nil => simp at hl
    | cons x r => exact hs x (by simp)
  have key : ∀ (qs : List (Int × ByteArray)) (t : ByteArray), (∀ x ∈ qs, x.2.size ≤ 64) → t.size ≤ 64 → (lastAt 0 qs t).size ≤ 64 := by
    intro qs
    induction qs with
    | nil => intro t _ h; exact h
    | cons x r ih =>
      intro t hx ht
      unfold lastAt
      refine ih _ (fun y hy => hx y (by simp [hy])) ?_
      split
      · exact hx x (by simp)
      · exact ht
  exact key ps _ hq h0

theorem specSeen_any (vs vp : Value) (xs : List ByteArray) (ps : List (Int × ByteArray)) (w : World) (hok : right xs ps = true) (hn : xs.length ≤ 1048576) (hn2 : ps.length ≤ 1048576) (hr : Reads w vs xs) (hp : ReadsP w vp ps) :
    Calls Tryz.prog 67 #[.agg #[vs, vp]] w fun e w' => e = .returned (seenV (seen xs ps)) ∧ Below w.heap.size w w' := by
  have hx := (right_ge hok).1
  have hsz := headText_size hok
  unfold seen
  simp only
  by_cases h4 : (headText xs ps).size < 4
  · rw [if_pos h4]
    exact specSeen_bad vs vp xs ps 4 w hok hx hn hn2 hr hp (by omega) (fun W => St1.specUnseal_short _ W h4)
  · rw [if_neg h4]
    by_cases h5 : St1.sealOf ((headText xs ps).extract 0 ((headText xs ps).size - 4)) = headText xs ps
    · rw [if_neg (fun h => h h5)]
      have hU := fun W => St1.specUnseal_ok (headText xs ps) W (by omega) (by omega) h5
      obtain ⟨t, ht⟩ : ∃ t, t = (headText xs ps).extract 0 ((headText xs ps).size - 4) := ⟨_, rfl⟩
      have hts : t.size ≤ 64 := by rw [ht]; simp; omega
      rw [← ht] at hU ⊢
      obtain ⟨s1, s2, s3⟩ := scan_at t 0
      obtain ⟨R1, e1⟩ : ∃ R, R = St3.scan t 0 10 0 0 := ⟨_, rfl⟩
      obtain ⟨A1, q1, A3⟩ := R1
      rw [← e1] at s1 s2 s3
      obtain ⟨n1, rfl⟩ := Int.eq_ofNat_of_zero_le s1
      obtain ⟨R2, e2⟩ : ∃ R, R = St3.scan t n1 10 0 0 := ⟨_, rfl⟩
      obtain ⟨B1, q2, B3⟩ := R2
      obtain ⟨r1, r2, r3⟩ := scan_at t n1
      rw [← e2] at r1 r2 r3
      obtain ⟨n2, rfl⟩ := Int.eq_ofNat_of_zero_le r1
      obtain ⟨R3, e3⟩ : ∃ R, R = St3.scan t n2 10 0 0 := ⟨_, rfl⟩
      obtain ⟨C1, n3, C3⟩ := R3
      obtain ⟨_, _, u3⟩ := scan_at t n2
      rw [← e3] at u3
      have en : nums t = ((A1, (n1 : Int), A3), (B1, (n2 : Int), B3), (C1, n3, C3)) := by
        unfold nums
        simp only [← e1, Int.toNat_natCast, ← e2, ← e3]
      rw [en]
      simp only at s2 s3 r2 r3 u3 ⊢
      have HA := hide e1.symm
      have HB := hide e2.symm
      have HC := hide e3.symm
      by_cases c1 : A3 = 0
      · by_cases c2 : B3 = 0
        · by_cases c3 : C3 = 0
          · by_cases c4 : headOf A1 B1 C1 = headText xs ps
            · by_cases c5 : 0 ≤ A1
              · by_cases c6 : 0 ≤ B1 ∧ B1 ≤ 1
                · by_cases c7 : 0 ≤ C1 ∧ C1 ≤ 64 * half xs.length
                  · rw [if_pos ⟨c1, c2, c3, c4, c5, c6, c7⟩]
                    exact specSeen_c8 vs vp xs ps t A1 A3 B1 B3 C1 C3 n3 n1 n2 w hok hx hn hn2 hr hp (by omega) (by omega) (by omega) HA HB HC s3 r3 u3 c1 c2 c3 c4 c5 c6 c7 hU
                  · rw [if_neg (fun h => c7 h.2.2.2.2.2.2)]
                    exact specSeen_c7 vs vp xs ps t A1 A3 B1 B3 C1 C3 n3 n1 n2 w hok hx hn hn2 hr hp (by omega) (by omega) (by omega) HA HB HC s3 r3 u3 c1 c2 c3 c4 c5 c6 c7 hU
                · rw [if_neg (fun h => c6 h.2.2.2.2.2.1)]
                  exact specSeen_c6 vs vp xs ps t A1 A3 B1 B3 C1 C3 n3 n1 n2 w hok hx hn hn2 hr hp (by omega) (by omega) (by omega) HA HB HC s3 r3 u3 c1 c2 c3 c4 c5 c6 hU
              · rw [if_neg (fun h => c5 h.2.2.2.2.1)]
                exact specSeen_c5 vs vp xs ps t A1 A3 B1 B3 C1 C3 n3 n1 n2 w hok hx hn hn2 hr hp (by omega) (by omega) (by omega) HA HB HC s3 r3 u3 c1 c2 c3 c4 (by omega) hU
            · rw [if_neg (fun h => c4 h.2.2.2.1)]
              exact specSeen_c4 vs vp xs ps t A1 A3 B1 B3 C1 C3 n3 n1 n2 w hok hx hn hn2 hr hp (by omega) (by omega) (by omega) HA HB HC s3 r3 u3 c1 c2 c3 c4 hU
          · rw [if_neg (fun h => c3 h.2.2.1)]
            exact specSeen_c3 vs vp xs ps t A1 A3 B1 B3 C1 C3 n3 n1 n2 w hok hx hn hn2 hr hp (by omega) (by omega) (by omega) HA HB HC c1 c2 c3 hU
        · rw [if_neg (fun h => c2 h.2.1)]
          exact specSeen_c2 vs vp xs ps t A1 A3 B1 B3 C1 C3 n3 n1 n2 w hok hx hn hn2 hr hp (by omega) (by omega) (by omega) HA HB HC c1 c2 hU
      · rw [if_neg (fun h => c1 h.1)]
        exact specSeen_c1 vs vp xs ps t A1 A3 B1 B3 C1 C3 n3 n1 n2 w hok hx hn hn2 hr hp (by omega) (by omega) (by omega) HA HB HC c1 hU
    · rw [if_pos h5]
      exact specSeen_bad vs vp xs ps 5 w hok hx hn hn2 hr hp (by omega) (fun W => St1.specUnseal_sum _ W (by omega) (by omega) h5)
end Go.Proofs.YtnpbmaajgiapmaaGreatDoor
/- DiskWrite, as the specification does it. -/
namespace Go.Proofs.YtnpbmaajgiapmaaGreatDoor
open Go.RowKit

def writeOut (xs : List ByteArray) (ps : List (Int × ByteArray)) (a : Int) (d : ByteArray) : Out :=
  if 8000 < d.size then illOut 2 else if right xs ps = false ∨ 64 < d.size then illOut 1 else if 0 ≤ a ∧ a ≤ (xs.length : Int) - 1 then (if 200 ≤ ps.length then illOut 9 else ⟨xs, ps ++ [(a, d)], ⟨#[]⟩, 0⟩) else illOut 8

set_option maxRecDepth 100000 in
set_option maxHeartbeats 4000000 in
theorem specWrite_size (vs vp : Value) (xs : List ByteArray) (ps : List (Int × ByteArray)) (a : Int) (d : ByteArray) (w : World) (hd : d.size ≤ 1048576) (hr : Reads w vs xs) (hp : ReadsP w vp ps) (hz : 8000 < d.size) :
    Calls Tryz.prog 69 #[.agg #[vs, vp], .int .i64 a, .string d] w fun e w' => OutIs w.heap.size e w' (illOut 2) ∧ Below w.heap.size w w' := by
  have t1 : (8000 : Int) < (d.size : Int) := by omega
  have hb0 : Below w.heap.size w ((w.alloc (.cells #[vs, vp] 30)).alloc (.cells #[.slice none 0 0, .slice none 0 0, .string ⟨#[]⟩, .int .i64 0] 101)) :=
    ((Below.refl _ _).alloc (Nat.le_refl _) _).alloc (by simp) _
  have HR := hide (hr.below hb0 (Nat.le_refl _))
  have HP := hide (hp.below hb0 (Nat.le_refl _))
  have HB0 := hide hb0
  obtain ⟨p1, c1, rfl, hq⟩ := hr
  obtain ⟨p2, c2, rfl, hq2⟩ := hp
  have R0 := (row_new w [.slice p1 xs.length c1, .slice p2 ps.length c2] 30).alloc (.cells #[.slice none 0 0, .slice none 0 0, .string ⟨#[]⟩, .int .i64 0] 101)
  have R1 := row_new (w.alloc (.cells #[.slice p1 xs.length c1, .slice p2 ps.length c2] 30)) [.slice none 0 0, .slice none 0 0, .string ⟨#[]⟩, .int .i64 0] 101
  simp only [World.size_alloc] at R1
  have HR0 := hide R0
  have HR1 := hide R1
  clear hb0 hq hq2 R1 R0
  go_enter Tryz.func69, Tryz.ntmps69
  go_wp2_with fail
  refine (l02Ill_any _ _).mono ?_
  rintro e w2 ⟨rfl, hb2⟩
  have R3 := HR1.out.below hb2 HR1.out.lt
  have HB2 := hide (HB0.out.trans (hb2.mono HB0.out.size))
  have c0 : w2.cell? ⟨w.heap.size + 1, 0, none⟩ = some (.slice none 0 0) := R3.cell 0
  have c1' : w2.cell? ⟨w.heap.size + 1, 1, none⟩ = some (.slice none 0 0) := R3.cell 1
  have c2' : w2.cell? ⟨w.heap.size + 1, 2, none⟩ = some (.string ⟨#[]⟩) := R3.cell 2
  have c3 : w2.cell? ⟨w.heap.size + 1, 3, none⟩ = some (.int .i64 0) := R3.cell 3
  have f0 := R3.free 0
  have f1 := R3.free 1
  have f2 := R3.free 2
  have f3 := R3.free 3
  have HR3 := hide R3
  clear hb2 R3
  go_wp2
  obtain ⟨q0, q1, q2, q3, KF⟩ := four HR3.out (.slice none 0 0) (.slice none 0 0) (.string ⟨#[]⟩) (.int .i64 2)
  exact bodyPost_ret (v := .agg #[.slice none 0 0, .slice none 0 0, .string ⟨#[]⟩, .int .i64 2]) (by simp [results, Tryz.results69, go_sem, q0, q1, q2, q3]) rfl
    ⟨⟨_, _, rfl, OwnS.none _ _ _, OwnP.none _ _ _, fun _ h => by cases h⟩, KF.toBelow HB2.out HB2.out.size (by simp)⟩

set_option maxRecDepth 100000 in
set_option maxHeartbeats 4000000 in
theorem specWrite_ill (vs vp : Value) (xs : List ByteArray) (ps : List (Int × ByteArray)) (a : Int) (d : ByteArray) (w : World) (hn : xs.length ≤ 1048576) (hn2 : ps.length ≤ 1048576) (hd : d.size ≤ 1048576) (hr : Reads w vs xs) (hp : ReadsP w vp ps) (hz : d.size ≤ 8000) (hok : right xs ps = false) :
    Calls Tryz.prog 69 #[.agg #[vs, vp], .int .i64 a, .string d] w fun e w' => OutIs w.heap.size e w' (illOut 1) ∧ Below w.heap.size w w' := by
  have t1 : ¬ (8000 : Int) < (d.size : Int) := by omega
  have hb0 : Below w.heap.size w ((w.alloc (.cells #[vs, vp] 30)).alloc (.cells #[.slice none 0 0, .slice none 0 0, .string ⟨#[]⟩, .int .i64 0] 101)) :=
    ((Below.refl _ _).alloc (Nat.le_refl _) _).alloc (by simp) _
  have HR := hide (hr.below hb0 (Nat.le_refl _))
  have HP := hide (hp.below hb0 (Nat.le_refl _))
  have HB0 := hide hb0
  obtain ⟨p1, c1, rfl, hq⟩ := hr
  obtain ⟨p2, c2, rfl, hq2⟩ := hp
  have R0 := (row_new w [.slice p1 xs.length c1, .slice p2 ps.length c2] 30).alloc (.cells #[.slice none 0 0, .slice none 0 0, .string ⟨#[]⟩, .int .i64 0] 101)
  have R1 := row_new (w.alloc (.cells #[.slice p1 xs.length c1, .slice p2 ps.length c2] 30)) [.slice none 0 0, .slice none 0 0, .string ⟨#[]⟩, .int .i64 0] 101
  simp only [World.size_alloc] at R1
  have HR0 := hide R0
  have HR1 := hide R1
  clear hb0 hq hq2 R1 R0
  go_enter Tryz.func69, Tryz.ntmps69
  go_wp2_with fail
  refine (specRight_any _ _ xs ps _ hn hn2 HR.out HP.out).mono ?_
  rw [hok]
  rintro e w1 ⟨rfl, hb1⟩
  have HB1 := hide (HB0.out.trans (hb1.mono HB0.out.size))
  have HX1 := hide (HR1.out.below hb1 (by simp))
  have HX0 := hide (HR0.out.below hb1 (by simp; omega))
  have HRa := hide (HR.out.below hb1 (Nat.le_refl _))
  have HPa := hide (HP.out.below hb1 (Nat.le_refl _))
  have a0 : w1.cell? ⟨w.heap.size, 0, none⟩ = some (.slice p1 xs.length c1) := HX0.out.cell 0
  have a1 : w1.cell? ⟨w.heap.size, 1, none⟩ = some (.slice p2 ps.length c2) := HX0.out.cell 1
  have e1 : IntKind.i64.wrap ((xs.length : Int) - 1) = (xs.length : Int) - 1 := by rw [IntKind.wrap_i64]; omega
  clear hb1 HR HP HR0 HR1 HB0
  go_wp2_with fail
  refine (l02Ill_any _ _).mono ?_
  rintro e w2 ⟨rfl, hb2⟩
  have R3 := HX1.out.below hb2 HX1.out.lt
  have HB2 := hide (HB1.out.trans (hb2.mono HB1.out.size))
  have c0 : w2.cell? ⟨w.heap.size + 1, 0, none⟩ = some (.slice none 0 0) := R3.cell 0
  have c1' : w2.cell? ⟨w.heap.size + 1, 1, none⟩ = some (.slice none 0 0) := R3.cell 1
  have c2' : w2.cell? ⟨w.heap.size + 1, 2, none⟩ = some (.string ⟨#[]⟩) := R3.cell 2
  have c3 : w2.cell? ⟨w.heap.size + 1, 3, none⟩ = some (.int .i64 0) := R3.cell 3
  have f0 := R3.free 0
  have f1 := R3.free 1
  have f2 := R3.free 2
  have f3 := R3.free 3
  have HR3 := hide R3
  clear hb2 R3
  go_wp2
  obtain ⟨q0, q1, q2, q3, KF⟩ := four HR3.out (.slice none 0 0) (.slice none 0 0) (.string ⟨#[]⟩) (.int .i64 1)
  exact bodyPost_ret (v := .agg #[.slice none 0 0, .slice none 0 0, .string ⟨#[]⟩, .int .i64 1]) (by simp [results, Tryz.results69, go_sem, q0, q1, q2, q3]) rfl
    ⟨⟨_, _, rfl, OwnS.none _ _ _, OwnP.none _ _ _, fun _ h => by cases h⟩, KF.toBelow HB2.out HB2.out.size (by simp)⟩

set_option maxRecDepth 100000 in
set_option maxHeartbeats 4000000 in
theorem specWrite_long (vs vp : Value) (xs : List ByteArray) (ps : List (Int × ByteArray)) (a : Int) (d : ByteArray) (w : World) (hn : xs.length ≤ 1048576) (hn2 : ps.length ≤ 1048576) (hd : d.size ≤ 1048576) (hr : Reads w vs xs) (hp : ReadsP w vp ps) (hz : d.size ≤ 8000) (hok : right xs ps = true) (hl : 64 < d.size) :
    Calls Tryz.prog 69 #[.agg #[vs, vp], .int .i64 a, .string d] w fun e w' => OutIs w.heap.size e w' (illOut 1) ∧ Below w.heap.size w w' := by
  have t1 : ¬ (8000 : Int) < (d.size : Int) := by omega
  have t2 : (64 : Int) < (d.size : Int) := by omega
  have hb0 : Below w.heap.size w ((w.alloc (.cells #[vs, vp] 30)).alloc (.cells #[.slice none 0 0, .slice none 0 0, .string ⟨#[]⟩, .int .i64 0] 101)) :=
    ((Below.refl _ _).alloc (Nat.le_refl _) _).alloc (by simp) _
  have HR := hide (hr.below hb0 (Nat.le_refl _))
  have HP := hide (hp.below hb0 (Nat.le_refl _))
  have HB0 := hide hb0
  obtain ⟨p1, c1, rfl, hq⟩ := hr
  obtain ⟨p2, c2, rfl, hq2⟩ := hp
  have R0 := (row_new w [.slice p1 xs.length c1, .slice p2 ps.length c2] 30).alloc (.cells #[.slice none 0 0, .slice none 0 0, .string ⟨#[]⟩, .int .i64 0] 101)
  have R1 := row_new (w.alloc (.cells #[.slice p1 xs.length c1, .slice p2 ps.length c2] 30)) [.slice none 0 0, .slice none 0 0, .string ⟨#[]⟩, .int .i64 0] 101
  simp only [World.size_alloc] at R1
  have HR0 := hide R0
  have HR1 := hide R1
  clear hb0 hq hq2 R1 R0
  go_enter Tryz.func69, Tryz.ntmps69
  go_wp2_with fail
  refine (specRight_any _ _ xs ps _ hn hn2 HR.out HP.out).mono ?_
  rw [hok]
  rintro e w1 ⟨rfl, hb1⟩
  have HB1 := hide (HB0.out.trans (hb1.mono HB0.out.size))
  have HX1 := hide (HR1.out.below hb1 (by simp))
  have HX0 := hide (HR0.out.below hb1 (by simp; omega))
  have HRa := hide (HR.out.below hb1 (Nat.le_refl _))
  have HPa := hide (HP.out.below hb1 (Nat.le_refl _))
  have a0 : w1.cell? ⟨w.heap.size, 0, none⟩ = some (.slice p1 xs.length c1) := HX0.out.cell 0
  have a1 : w1.cell? ⟨w.heap.size, 1, none⟩ = some (.slice p2 ps.length c2) := HX0.out.cell 1
  have e1 : IntKind.i64.wrap ((xs.length : Int) - 1) = (xs.length : Int) - 1 := by rw [IntKind.wrap_i64]; omega
  clear hb1 HR HP HR0 HR1 HB0
  go_wp2_with fail
  refine (l02Ill_any _ _).mono ?_
  rintro e w2 ⟨rfl, hb2⟩
  have R3 := HX1.out.below hb2 HX1.out.lt
  have HB2 := hide (HB1.out.trans (hb2.mono HB1.out.size))
  have c0 : w2.cell? ⟨w.heap.size + 1, 0, none⟩ = some (.slice none 0 0) := R3.cell 0
  have c1' : w2.cell? ⟨w.heap.size + 1, 1, none⟩ = some (.slice none 0 0) := R3.cell 1
  have c2' : w2.cell? ⟨w.heap.size + 1, 2, none⟩ = some (.string ⟨#[]⟩) := R3.cell 2
  have c3 : w2.cell? ⟨w.heap.size + 1, 3, none⟩ = some (.int .i64 0) := R3.cell 3
  have f0 := R3.free 0
  have f1 := R3.free 1
  have f2 := R3.free 2
  have f3 := R3.free 3
  have HR3 := hide R3
  clear hb2 R3
  go_wp2
  obtain ⟨q0, q1, q2, q3, KF⟩ := four HR3.out (.slice none 0 0) (.slice none 0 0) (.string ⟨#[]⟩) (.int .i64 1)
  exact bodyPost_ret (v := .agg #[.slice none 0 0, .slice none 0 0, .string ⟨#[]⟩, .int .i64 1]) (by simp [results, Tryz.results69, go_sem, q0, q1, q2, q3]) rfl
    ⟨⟨_, _, rfl, OwnS.none _ _ _, OwnP.none _ _ _, fun _ h => by cases h⟩, KF.toBelow HB2.out HB2.out.size (by simp)⟩

set_option maxRecDepth 100000 in
set_option maxHeartbeats 4000000 in
theorem specWrite_far (vs vp : Value) (xs : List ByteArray) (ps : List (Int × ByteArray)) (a : Int) (d : ByteArray) (w : World) (hn : xs.length ≤ 1048576) (hn2 : ps.length ≤ 1048576) (hd : d.size ≤ 1048576) (hr : Reads w vs xs) (hp : ReadsP w vp ps) (hl : d.size ≤ 64) (hok : right xs ps = true) (hfar : ¬ (0 ≤ a ∧ a ≤ (xs.length : Int) - 1)) :
    Calls Tryz.prog 69 #[.agg #[vs, vp], .int .i64 a, .string d] w fun e w' => OutIs w.heap.size e w' (illOut 8) ∧ Below w.heap.size w w' := by
  have t1 : ¬ (8000 : Int) < (d.size : Int) := by omega
  have t2 : ¬ (64 : Int) < (d.size : Int) := by omega
  have hb0 : Below w.heap.size w ((w.alloc (.cells #[vs, vp] 30)).alloc (.cells #[.slice none 0 0, .slice none 0 0, .string ⟨#[]⟩, .int .i64 0] 101)) :=
    ((Below.refl _ _).alloc (Nat.le_refl _) _).alloc (by simp) _
  have HR := hide (hr.below hb0 (Nat.le_refl _))
  have HP := hide (hp.below hb0 (Nat.le_refl _))
  have HB0 := hide hb0
  obtain ⟨p1, c1, rfl, hq⟩ := hr
  obtain ⟨p2, c2, rfl, hq2⟩ := hp
  have R0 := (row_new w [.slice p1 xs.length c1, .slice p2 ps.length c2] 30).alloc (.cells #[.slice none 0 0, .slice none 0 0, .string ⟨#[]⟩, .int .i64 0] 101)
  have R1 := row_new (w.alloc (.cells #[.slice p1 xs.length c1, .slice p2 ps.length c2] 30)) [.slice none 0 0, .slice none 0 0, .string ⟨#[]⟩, .int .i64 0] 101
  simp only [World.size_alloc] at R1
  have HR0 := hide R0
  have HR1 := hide R1
  clear hb0 hq hq2 R1 R0
  go_enter Tryz.func69, Tryz.ntmps69
  go_wp2_with fail
  refine (specRight_any _ _ xs ps _ hn hn2 HR.out HP.out).mono ?_
  rw [hok]
  rintro e w1 ⟨rfl, hb1⟩
  have HB1 := hide (HB0.out.trans (hb1.mono HB0.out.size))
  have HX1 := hide (HR1.out.below hb1 (by simp))
  have HX0 := hide (HR0.out.below hb1 (by simp; omega))
  have HRa := hide (HR.out.below hb1 (Nat.le_refl _))
  have HPa := hide (HP.out.below hb1 (Nat.le_refl _))
  have a0 : w1.cell? ⟨w.heap.size, 0, none⟩ = some (.slice p1 xs.length c1) := HX0.out.cell 0
  have a1 : w1.cell? ⟨w.heap.size, 1, none⟩ = some (.slice p2 ps.length c2) := HX0.out.cell 1
  have e1 : IntKind.i64.wrap ((xs.length : Int) - 1) = (xs.length : Int) - 1 := by rw [IntKind.wrap_i64]; omega
  clear hb1 HR HP HR0 HR1 HB0
  go_wp2_with fail
  refine (l02Is_no _ _ _ _ hfar).mono ?_
  rintro e w1' ⟨rfl, rfl⟩
  go_wp2_with fail
  refine (l02Ill_any _ _).mono ?_
  rintro e w2 ⟨rfl, hb2⟩
  have R3 := HX1.out.below hb2 HX1.out.lt
  have HB2 := hide (HB1.out.trans (hb2.mono HB1.out.size))
  have c0 : w2.cell? ⟨w.heap.size + 1, 0, none⟩ = some (.slice none 0 0) := R3.cell 0
  have c1' : w2.cell? ⟨w.heap.size + 1, 1, none⟩ = some (.slice none 0 0) := R3.cell 1
  have c2' : w2.cell? ⟨w.heap.size + 1, 2, none⟩ = some (.string ⟨#[]⟩) := R3.cell 2
  have c3 : w2.cell? ⟨w.heap.size + 1, 3, none⟩ = some (.int .i64 0) := R3.cell 3
  have f0 := R3.free 0
  have f1 := R3.free 1
  have f2 := R3.free 2
  have f3 := R3.free 3
  have HR3 := hide R3
  clear hb2 R3
  go_wp2
  obtain ⟨q0, q1, q2, q3, KF⟩ := four HR3.out (.slice none 0 0) (.slice none 0 0) (.string ⟨#[]⟩) (.int .i64 8)
  exact bodyPost_ret (v := .agg #[.slice none 0 0, .slice none 0 0, .string ⟨#[]⟩, .int .i64 8]) (by simp [results, Tryz.results69, go_sem, q0, q1, q2, q3]) rfl
    ⟨⟨_, _, rfl, OwnS.none _ _ _, OwnP.none _ _ _, fun _ h => by cases h⟩, KF.toBelow HB2.out HB2.out.size (by simp)⟩

set_option maxRecDepth 100000 in
set_option maxHeartbeats 4000000 in
theorem specWrite_full (vs vp : Value) (xs : List ByteArray) (ps : List (Int × ByteArray)) (a : Int) (d : ByteArray) (w : World) (hn : xs.length ≤ 1048576) (hn2 : ps.length ≤ 1048576) (hd : d.size ≤ 1048576) (hr : Reads w vs xs) (hp : ReadsP w vp ps) (hl : d.size ≤ 64) (hok : right xs ps = true) (hin : 0 ≤ a ∧ a ≤ (xs.length : Int) - 1) (hf : 200 ≤ ps.length) :
    Calls Tryz.prog 69 #[.agg #[vs, vp], .int .i64 a, .string d] w fun e w' => OutIs w.heap.size e w' (illOut 9) ∧ Below w.heap.size w w' := by
  have t1 : ¬ (8000 : Int) < (d.size : Int) := by omega
  have t2 : ¬ (64 : Int) < (d.size : Int) := by omega
  have t3 : (200 : Int) ≤ (ps.length : Int) := by omega
  have hb0 : Below w.heap.size w ((w.alloc (.cells #[vs, vp] 30)).alloc (.cells #[.slice none 0 0, .slice none 0 0, .string ⟨#[]⟩, .int .i64 0] 101)) :=
    ((Below.refl _ _).alloc (Nat.le_refl _) _).alloc (by simp) _
  have HR := hide (hr.below hb0 (Nat.le_refl _))
  have HP := hide (hp.below hb0 (Nat.le_refl _))
  have HB0 := hide hb0
  obtain ⟨p1, c1, rfl, hq⟩ := hr
  obtain ⟨p2, c2, rfl, hq2⟩ := hp
  have R0 := (row_new w [.slice p1 xs.length c1, .slice p2 ps.length c2] 30).alloc (.cells #[.slice none 0 0, .slice none 0 0, .string ⟨#[]⟩, .int .i64 0] 101)
  have R1 := row_new (w.alloc (.cells #[.slice p1 xs.length c1, .slice p2 ps.length c2] 30)) [.slice none 0 0, .slice none 0 0, .string ⟨#[]⟩, .int .i64 0] 101
  simp only [World.size_alloc] at R1
  have HR0 := hide R0
  have HR1 := hide R1
  clear hb0 hq hq2 R1 R0
  go_enter Tryz.func69, Tryz.ntmps69
  go_wp2_with fail
  refine (specRight_any _ _ xs ps _ hn hn2 HR.out HP.out).mono ?_
  rw [hok]
  rintro e w1 ⟨rfl, hb1⟩
  have HB1 := hide (HB0.out.trans (hb1.mono HB0.out.size))
  have HX1 := hide (HR1.out.below hb1 (by simp))
  have HX0 := hide (HR0.out.below hb1 (by simp; omega))
  have HRa := hide (HR.out.below hb1 (Nat.le_refl _))
  have HPa := hide (HP.out.below hb1 (Nat.le_refl _))
  have a0 : w1.cell? ⟨w.heap.size, 0, none⟩ = some (.slice p1 xs.length c1) := HX0.out.cell 0
  have a1 : w1.cell? ⟨w.heap.size, 1, none⟩ = some (.slice p2 ps.length c2) := HX0.out.cell 1
  have e1 : IntKind.i64.wrap ((xs.length : Int) - 1) = (xs.length : Int) - 1 := by rw [IntKind.wrap_i64]; omega
  clear hb1 HR HP HR0 HR1 HB0
  go_wp2_with fail
  refine (l02Is_yes _ _ _ _ hin.1 hin.2).mono ?_
  rintro e w1' ⟨rfl, rfl⟩
  go_wp2_with fail
  refine (l02Ill_any _ _).mono ?_
  rintro e w2 ⟨rfl, hb2⟩
  have R3 := HX1.out.below hb2 HX1.out.lt
  have HB2 := hide (HB1.out.trans (hb2.mono HB1.out.size))
  have c0 : w2.cell? ⟨w.heap.size + 1, 0, none⟩ = some (.slice none 0 0) := R3.cell 0
  have c1' : w2.cell? ⟨w.heap.size + 1, 1, none⟩ = some (.slice none 0 0) := R3.cell 1
  have c2' : w2.cell? ⟨w.heap.size + 1, 2, none⟩ = some (.string ⟨#[]⟩) := R3.cell 2
  have c3 : w2.cell? ⟨w.heap.size + 1, 3, none⟩ = some (.int .i64 0) := R3.cell 3
  have f0 := R3.free 0
  have f1 := R3.free 1
  have f2 := R3.free 2
  have f3 := R3.free 3
  have HR3 := hide R3
  clear hb2 R3
  go_wp2
  obtain ⟨q0, q1, q2, q3, KF⟩ := four HR3.out (.slice none 0 0) (.slice none 0 0) (.string ⟨#[]⟩) (.int .i64 9)
  exact bodyPost_ret (v := .agg #[.slice none 0 0, .slice none 0 0, .string ⟨#[]⟩, .int .i64 9]) (by simp [results, Tryz.results69, go_sem, q0, q1, q2, q3]) rfl
    ⟨⟨_, _, rfl, OwnS.none _ _ _, OwnP.none _ _ _, fun _ h => by cases h⟩, KF.toBelow HB2.out HB2.out.size (by simp)⟩

set_option maxRecDepth 100000 in
set_option maxHeartbeats 4000000 in
theorem specWrite_good (vs vp : Value) (xs : List ByteArray) (ps : List (Int × ByteArray)) (a : Int) (d : ByteArray) (w : World) (hn : xs.length ≤ 1048576) (hn2 : ps.length ≤ 1048576) (hd : d.size ≤ 1048576) (hr : Reads w vs xs) (hp : ReadsP w vp ps) (hl : d.size ≤ 64) (hok : right xs ps = true) (hin : 0 ≤ a ∧ a ≤ (xs.length : Int) - 1) (hf : ps.length < 200) :
    Calls Tryz.prog 69 #[.agg #[vs, vp], .int .i64 a, .string d] w fun e w' => OutIs w.heap.size e w' (⟨xs, ps ++ [(a, d)], ⟨#[]⟩, 0⟩) ∧ Below w.heap.size w w' := by
  obtain ⟨j0, hj, hy0, hy1, hy2⟩ := info_parts Tryz.infoPend
  have t1 : ¬ (8000 : Int) < (d.size : Int) := by omega
  have t2 : ¬ (64 : Int) < (d.size : Int) := by omega
  have t3 : ¬ (200 : Int) ≤ (ps.length : Int) := by omega
  have hb0 : Below w.heap.size w ((w.alloc (.cells #[vs, vp] 30)).alloc (.cells #[.slice none 0 0, .slice none 0 0, .string ⟨#[]⟩, .int .i64 0] 101)) :=
    ((Below.refl _ _).alloc (Nat.le_refl _) _).alloc (by simp) _
  have HR := hide (hr.below hb0 (Nat.le_refl _))
  have HP := hide (hp.below hb0 (Nat.le_refl _))
  have HB0 := hide hb0
  obtain ⟨p1, c1, rfl, hq⟩ := hr
  obtain ⟨p2, c2, rfl, hq2⟩ := hp
  have R0 := (row_new w [.slice p1 xs.length c1, .slice p2 ps.length c2] 30).alloc (.cells #[.slice none 0 0, .slice none 0 0, .string ⟨#[]⟩, .int .i64 0] 101)
  have R1 := row_new (w.alloc (.cells #[.slice p1 xs.length c1, .slice p2 ps.length c2] 30)) [.slice none 0 0, .slice none 0 0, .string ⟨#[]⟩, .int .i64 0] 101
  simp only [World.size_alloc] at R1
  have HR0 := hide R0
  have HR1 := hide R1
  clear hb0 hq hq2 R1 R0
  go_enter Tryz.func69, Tryz.ntmps69
  go_wp2_with fail
  refine (specRight_any _ _ xs ps _ hn hn2 HR.out HP.out).mono ?_
  rw [hok]
  rintro e w1 ⟨rfl, hb1⟩
  have HB1 := hide (HB0.out.trans (hb1.mono HB0.out.size))
  have HX1 := hide (HR1.out.below hb1 (by simp))
  have HX0 := hide (HR0.out.below hb1 (by simp; omega))
  have HRa := hide (HR.out.below hb1 (Nat.le_refl _))
  have HPa := hide (HP.out.below hb1 (Nat.le_refl _))
  have a0 : w1.cell? ⟨w.heap.size, 0, none⟩ = some (.slice p1 xs.length c1) := HX0.out.cell 0
  have a1 : w1.cell? ⟨w.heap.size, 1, none⟩ = some (.slice p2 ps.length c2) := HX0.out.cell 1
  have e1 : IntKind.i64.wrap ((xs.length : Int) - 1) = (xs.length : Int) - 1 := by rw [IntKind.wrap_i64]; omega
  clear hb1 HR HP HR0 HR1 HB0
  go_wp2_with fail
  refine (l02Is_yes _ _ _ _ hin.1 hin.2).mono ?_
  rintro e w1' ⟨rfl, rfl⟩
  go_wp2_with fail
  refine (l02Copy_any _ _ xs ps _ hn hn2 HRa.out HPa.out).mono ?_
  rintro e w2 ⟨us, up, rfl, ow1, ow2, dd, he, hb2⟩
  have hl1 := HX1.out.lt
  have R3 := HX1.out.below hb2 hl1
  have HB2 := hide (HB1.out.trans (hb2.mono HB1.out.size))
  have HO1 := hide ow1
  have HO2 := hide ow2
  have HD := hide dd
  have HE := hide he
  have HR3 := hide R3
  have hz2 : w.heap.size + 2 ≤ w2.heap.size := by have := hb2.size; omega
  obtain ⟨q1, m1, d1, rfl⟩ : ∃ p n c, us = .slice p n c := by obtain ⟨p, c, e, _⟩ := ow1.reads; exact ⟨_, _, _, e⟩
  obtain ⟨q2, m2, d2, rfl⟩ : ∃ p n c, up = .slice p n c := by obtain ⟨p, c, e, _⟩ := ow2.reads; exact ⟨_, _, _, e⟩
  clear ow1 ow2 dd hb2 R3 he
  have hzp : (Value.agg #[.int .i64 0, .string ⟨#[]⟩]).cells.size = 2 := by simp [Value.cells]
  have bx : Below w2.heap.size w2 ((w2.alloc (.cells #[.slice q1 m1 d1, .slice q2 m2 d2] 30)).alloc (.cells #[.int .i64 a, .string d] 92)) :=
    ((Below.refl _ _).alloc (Nat.le_refl _) _).alloc (by simp) _
  have HOX := hide ((HO2.out.mono (B' := w.heap.size) (by omega)).below bx (Nat.le_refl _))
  have HOS := hide ((HO1.out.mono (B' := w.heap.size) (by omega)).below bx (Nat.le_refl _))
  have RX := row_new (w2.alloc (.cells #[.slice q1 m1 d1, .slice q2 m2 d2] 30)) [.int .i64 a, .string d] 92
  simp only [World.size_alloc] at RX
  have HRX := hide RX
  have HG := hide ((row_new w2 [.slice q1 m1 d1, .slice q2 m2 d2] 30).alloc (.cells #[.int .i64 a, .string d] 92))
  have HN := hide ((HR3.out.alloc (.cells #[.slice q1 m1 d1, .slice q2 m2 d2] 30)).alloc (.cells #[.int .i64 a, .string d] 92))
  have HBX := hide (HB2.out.trans (bx.mono HB2.out.size))
  have hBX : w.heap.size ≤ ((w2.alloc (.cells #[.slice q1 m1 d1, .slice q2 m2 d2] 30)).alloc (.cells #[.int .i64 a, .string d] 92)).heap.size := HBX.out.size
  have hdm : d.size ≤ maxLen := by unfold maxLen; omega
  have hne1 : ¬ w2.heap.size = w.heap.size + 1 := by omega
  have hne2 : ¬ w.heap.size + 1 = w2.heap.size := by omega
  clear bx RX
  go_wp2_with (at_builtin; refine wpList_pushP _ rfl _ _ 28 rfl w.heap.size 92 j0 (.agg #[.int .i64 0, .string ⟨#[]⟩]) Tryz.underlying28 hj hy0 hy1 hy2 hzp (.slice q2 m2 d2) rfl ps HOX.out HE.out hn2 hBX a d hdm (w2.heap.size + 1) 1 rfl HRX.out ?_
               intro q3 d3 w3 ho3 hk3 hl3
               have HO3 := hide ho3
               have HK3 := hide hk3
               have HL3 := hide hl3
               have G3 := hk3.row HG.out (fun h => absurd (HO2.out.leads _ h).2 (Nat.lt_irrefl _))
               have N3 := hk3.row HN.out (fun h => absurd (HO2.out.leads _ h).1 (by omega))
               have o0 : w3.cell? ⟨w2.heap.size, 0, none⟩ = some (.slice q1 m1 d1) := G3.cell 0
               have o1 : w3.cell? ⟨w2.heap.size, 1, none⟩ = some (.slice q2 m2 d2) := G3.cell 1
               have o2 := G3.free 1
               have c0 : w3.cell? ⟨w.heap.size + 1, 0, none⟩ = some (.slice none 0 0) := N3.cell 0
               have c1' : w3.cell? ⟨w.heap.size + 1, 1, none⟩ = some (.slice none 0 0) := N3.cell 1
               have c2' : w3.cell? ⟨w.heap.size + 1, 2, none⟩ = some (.string ⟨#[]⟩) := N3.cell 2
               have c3 : w3.cell? ⟨w.heap.size + 1, 3, none⟩ = some (.int .i64 0) := N3.cell 3
               have f0 := N3.free 0
               have f1 := N3.free 1
               have f2 := N3.free 2
               have f3 := N3.free 3
               have HN3 := hide N3
               clear ho3 hk3 hl3 N3 G3)
  have KS := Kept.ofSet w3 w2.heap.size 1 (.slice q3 (ps.length + 1) d3)
  have R4 := HN3.out.other (b := w2.heap.size) (j := 1) (by omega) (.slice q3 (ps.length + 1) d3)
  obtain ⟨z0, z1, z2, z3, KF⟩ := four R4 (.slice q1 m1 d1) (.slice q3 (ps.length + 1) d3) (.string ⟨#[]⟩) (.int .i64 0)
  have LU : ∀ x ∈ leads (.slice q1 m1 d1), w.heap.size + 2 ≤ x ∧ x < w2.heap.size := fun x hx => by
    have := HO1.out.leads x hx
    omega
  have LP : ∀ x ∈ leads (.slice q2 m2 d2), w.heap.size + 2 ≤ x ∧ x < w2.heap.size := fun x hx => by
    have := HO2.out.leads x hx
    omega
  have LQ : ∀ x ∈ leads (.slice q3 (ps.length + 1) d3), x ∈ leads (.slice q2 m2 d2) ∨ w2.heap.size + 2 ≤ x := fun x hx => by
    rcases HL3.out x hx with h | h
    · exact .inl h
    · exact .inr (by simpa using h)
  have LR : ∀ x ∈ leads (.slice q3 (ps.length + 1) d3), x ≠ w2.heap.size ∧ w.heap.size + 2 ≤ x := fun x hx => by
    rcases LQ x hx with h | h
    · have := LP x h; omega
    · omega
  have k3 := HK3.out.toBelow HBX.out hBX (fun x hx => by have := LP x hx; omega)
  have k4 := KS.toBelow k3 k3.size (by simp; have := HB2.out.size; omega)
  have k5 := KF.toBelow k4 k4.size (by simp)
  have O1 := ((HOS.out.kept HK3.out HD.out).kept KS (fun x hx => by have := LU x hx; simp; omega)).kept KF (fun x hx => by have := LU x hx; simp; omega)
  have O2 := (HO3.out.kept KS (fun x hx => by have := LR x hx; simp; omega)).kept KF (fun x hx => by have := LR x hx; simp; omega)
  exact bodyPost_ret (v := .agg #[(.slice q1 m1 d1), (.slice q3 (ps.length + 1) d3), .string ⟨#[]⟩, .int .i64 0]) (by simp [results, Tryz.results69, go_sem, z0, z1, z2, z3]) rfl
    ⟨⟨_, _, rfl, O1, O2, fun x hx hy => by
      rcases LQ x hy with h | h
      · exact HD.out x hx h
      · have := LU x hx; omega⟩, k5⟩

theorem specWrite_any (vs vp : Value) (xs : List ByteArray) (ps : List (Int × ByteArray)) (a : Int) (d : ByteArray) (w : World) (hn : xs.length ≤ 1048576) (hn2 : ps.length ≤ 1048576) (hd : d.size ≤ 1048576) (hr : Reads w vs xs) (hp : ReadsP w vp ps) :
    Calls Tryz.prog 69 #[.agg #[vs, vp], .int .i64 a, .string d] w fun e w' => OutIs w.heap.size e w' (writeOut xs ps a d) ∧ Below w.heap.size w w' := by
  unfold writeOut
  split
  · rename_i h; exact specWrite_size vs vp xs ps a d w hd hr hp h
  · rename_i hz
    split
    · rename_i h
      cases hok : right xs ps with
      | false => exact specWrite_ill vs vp xs ps a d w hn hn2 hd hr hp (by omega) hok
      | true => exact specWrite_long vs vp xs ps a d w hn hn2 hd hr hp (by omega) hok (by rcases h with h | h; · rw [hok] at h; cases h
                                                                                          · exact h)
    · rename_i h
      have hok : right xs ps = true := by
        cases hr' : right xs ps with
        | false => exact absurd (.inl hr') h
        | true => rfl
      have hl : d.size ≤ 64 := by
        by_cases h' : 64 < d.size
        · exact absurd (.inr h') h
        · omega
      split
      · rename_i hin
        split
        · rename_i hf; exact specWrite_full vs vp xs ps a d w hn hn2 hd hr hp hl hok hin hf
        · rename_i hf; exact specWrite_good vs vp xs ps a d w hn hn2 hd hr hp hl hok hin (by omega)
      · rename_i hin; exact specWrite_far vs vp xs ps a d w hn hn2 hd hr hp hl hok hin
end Go.Proofs.YtnpbmaajgiapmaaGreatDoor
/- DiskNew, as the specification does it. -/
namespace Go.Proofs.YtnpbmaajgiapmaaGreatDoor
open Go.RowKit

/-- The call ended with the disk xs, ps, in memory of its own. -/
def DiskIs (B : Nat) (e : Ending) (w : World) (xs : List ByteArray) (ps : List (Int × ByteArray)) : Prop :=
  ∃ us up, e = .returned (.agg #[us, up]) ∧ OwnS 9 B w us xs ∧ OwnP 92 B w up ps ∧ ∀ x ∈ leads us, x ∉ leads up
def newDisk (n : Int) : List ByteArray := if 1 ≤ n ∧ n ≤ 64 then List.replicate n.toNat ⟨#[]⟩ else []

theorem two {w : World} {G : Nat} {T : TypeId} {a b : Value} (R : Row w G T [a, b]) (A B : Value) :
    ((w.setCell ⟨G, 0, none⟩ A).setCell ⟨G, 1, none⟩ B).cell? ⟨G, 0, none⟩ = some A ∧ ((w.setCell ⟨G, 0, none⟩ A).setCell ⟨G, 1, none⟩ B).cell? ⟨G, 1, none⟩ = some B ∧
    Kept [G] w ((w.setCell ⟨G, 0, none⟩ A).setCell ⟨G, 1, none⟩ B) := by
  have R4 := (R.set (j := 0) A).set (j := 1) B
  exact ⟨R4.cell 0, R4.cell 1, ((Kept.refl _ _).set (by simp) _).set (by simp) _⟩

set_option maxHeartbeats 2000000 in
theorem specNew_nil (n : Int) (w : World) :
    Calls Tryz.prog 37 #[.int .i64 n] w fun e w' => (∃ us, e = .returned (.agg #[us, .slice none 0 0]) ∧ OwnS 9 w.heap.size w' us (newDisk n)) ∧ Below w.heap.size w w' := by
  obtain ⟨i0, hi, hz0, hz1, hz2⟩ := info_parts Tryz.infoStr
  have hb0 : Below w.heap.size w (w.alloc (.cells #[.slice none 0 0, .slice none 0 0] 30)) := (Below.refl _ _).alloc (Nat.le_refl _) _
  by_cases hin : 1 ≤ n ∧ n ≤ 64
  · obtain ⟨k, rfl⟩ := Int.eq_ofNat_of_zero_le (by omega : 0 ≤ n)
    have HF := hide (show newDisk (k : Int) = List.replicate k ⟨#[]⟩ by unfold newDisk; rw [if_pos hin]; rfl)
    rw [HF.out]
    have HB0 := hide hb0
    have HR0 := hide (row_new w [.slice none 0 0, .slice none 0 0] 30)
    have hsz := World.size_alloc w (.cells #[.slice none 0 0, .slice none 0 0] 30)
    clear hb0
    go_enter Tryz.func37, Tryz.ntmps37
    go_wp2_with fail
    refine (l02Is_yes _ _ _ _ hin.1 hin.2).mono ?_
    rintro e w1 ⟨rfl, rfl⟩
    go_wp2_with (at_make; refine wpList_make_full _ rfl _ _ 22 rfl (w.heap.size + 1) 9 i0 (.string ⟨#[]⟩) 1 Tryz.underlying22 hi hz0 hz1 _ _ _ _ k rfl rfl rfl rfl ?b2 ?b3 (by simp) ?_)
    case b2 => rw [hz2]; omega
    case b3 => unfold maxLen; omega
    intro w2 hown hgrow
    rw [toList_madeCells_one] at hown
    have ho : OwnS 9 (w.heap.size + 1) w2 (.slice (some ⟨w.heap.size + 1, 0, none⟩) k k) (List.replicate k ⟨#[]⟩) :=
      OwnS.ofRow (fun x hx => by rw [(List.mem_replicate.1 hx).2]; exact Nat.zero_le _) (by simp; omega) (by simpa [strs] using hown)
    have hb2 := below_ofGrown hgrow
    have R2 := HR0.out.below hb2 HR0.out.lt
    have HO := hide ho
    have HB2 := hide (HB0.out.trans (hb2.mono HB0.out.size))
    have c0 : w2.cell? ⟨w.heap.size, 0, none⟩ = some (.slice none 0 0) := R2.cell 0
    have c1 : w2.cell? ⟨w.heap.size, 1, none⟩ = some (.slice none 0 0) := R2.cell 1
    have f0 := R2.free 0
    have f1 := R2.free 1
    have HR2 := hide R2
    clear hown hgrow hb2 R2 ho
    go_wp2
    obtain ⟨z0, z1, KF⟩ := two HR2.out (.slice (some ⟨w.heap.size + 1, 0, none⟩) k k) (.slice none 0 0)
    exact bodyPost_ret (v := .agg #[.slice (some ⟨w.heap.size + 1, 0, none⟩) k k, .slice none 0 0]) (by simp [results, Tryz.results37, go_sem, z0, z1]) rfl
      ⟨⟨_, rfl, (HO.out.kept KF (fun x hx => by have := (HO.out.leads x hx).1; simp; omega)).mono (by omega)⟩, KF.toBelow HB2.out HB2.out.size (by simp)⟩
  · have HF := hide (show newDisk n = [] by unfold newDisk; rw [if_neg hin])
    rw [HF.out]
    have HB0 := hide hb0
    clear hb0 hi hz0 hz1 hz2
    go_enter Tryz.func37, Tryz.ntmps37
    go_wp2_with fail
    refine (l02Is_no _ _ _ _ hin).mono ?_
    rintro e w1 ⟨rfl, rfl⟩
    go_wp2
    exact bodyPost_ret (v := .agg #[.slice none 0 0, .slice none 0 0]) (by simp [results, Tryz.results37, go_sem]) rfl
      ⟨⟨_, rfl, OwnS.none _ _ _⟩, HB0.out⟩
theorem specNew_any (n : Int) (w : World) :
    Calls Tryz.prog 37 #[.int .i64 n] w fun e w' => DiskIs w.heap.size e w' (newDisk n) [] ∧ Below w.heap.size w w' :=
  (specNew_nil n w).mono fun _ _ ⟨⟨us, e, o⟩, hb⟩ => ⟨⟨us, _, e, o, OwnP.none _ _ _, fun _ _ h => by cases h⟩, hb⟩
end Go.Proofs.YtnpbmaajgiapmaaGreatDoor
