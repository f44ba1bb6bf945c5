/- The specification's l03Seen, whole: what the head of a right disk tells. -/
import Derived.Test.YtnpbmaajgiapmaaGreatDoorXGNumMath
import Derived.Test.YtnpbmaajgiapmaaGreatDoorXGSSeen1
import Derived.Test.YtnpbmaajgiapmaaGreatDoorXGSRoom
namespace Go.Proofs.YtnpbmaajgiapmaaGreatDoor
open Go.RowKit

theorem bytesOf_append (a b : List Int) : St2.bytesOf (a ++ b) = St2.bytesOf a ++ St2.bytesOf b := by
  apply ByteArray.ext
  simp [St2.bytesOf]
theorem bytesOf_len (L : List Int) : (St2.bytesOf L).size = L.length := by simp [St2.bytesOf, ByteArray.size]
theorem eq_bytesOf {t : ByteArray} {L : List Int} (hl : t.size = L.length) (h : ∀ j (h1 : j < t.size) (h2 : j < L.length), ((t[j]'h1).toNat : Int) = L[j]) : t = St2.bytesOf L := by
  apply ByteArray.ext
  apply Array.ext
  · show t.size = _; rw [hl]; simp [St2.bytesOf]
  · intro i h1 h2
    have h1' : i < t.size := h1
    have := h i h1' (by omega)
    simp only [St2.bytesOf, List.getElem_toArray, List.getElem_map]
    rw [← this]
    show t[i] = _
    apply UInt8.toNat.inj
    simp

/-- What is read of a text at a place: the number, the place behind it, the code. -/
def nums (t : ByteArray) : (Int × Int × Int) × (Int × Int × Int) × (Int × Int × Int) :=
  let a := St3.scan t 0 10 0 0
  let b := St3.scan t a.2.1.toNat 10 0 0
  (a, b, St3.scan t b.2.1.toNat 10 0 0)
theorem scan_codeP (s : ByteArray) (a : Nat) : ∀ (f k : Nat) (u : Int), (St3.scan s a f k u).2.2 = 0 ∨ St3.scan s a f k u = (0, 0, 3) ∨ St3.scan s a f k u = (0, 0, 4)
  | 0, _, _ => .inr (.inl rfl)
  | f + 1, k, u => by
    rw [St3.scan]
    split
    · split
      · split
        · exact .inr (.inl rfl)
        · exact .inl rfl
      · exact scan_codeP s a f _ _
    · exact .inr (.inr rfl)
theorem scan_at (t : ByteArray) (a : Nat) : 0 ≤ (St3.scan t a 10 0 0).2.1 ∧ (St3.scan t a 10 0 0).2.1 ≤ t.size ∧ (-9223372036854775808 ≤ (St3.scan t a 10 0 0).1 ∧ (St3.scan t a 10 0 0).1 ≤ 9223372036854775807) := by
  rcases scan_codeP t a 10 0 0 with h | h | h
  · obtain ⟨r, e⟩ : ∃ r, r = St3.scan t a 10 0 0 := ⟨_, rfl⟩
    obtain ⟨n, p, c⟩ := r
    rw [← e] at h ⊢
    simp only at h
    subst h
    obtain ⟨h1, h2, h3, h4, _⟩ := scan_enc e.symm
    simp only
    exact ⟨by omega, by omega, h3, h4⟩
  · rw [h]; simp
  · rw [h]; simp

theorem head_iff {t : ByteArray} {A1 B1 C1 p1 p2 p3 : Int} (h1 : St3.scan t 0 10 0 0 = (A1, p1, 0)) (h2 : St3.scan t p1.toNat 10 0 0 = (B1, p2, 0)) (h3 : St3.scan t p2.toNat 10 0 0 = (C1, p3, 0)) :
    headOf A1 B1 C1 = St1.sealOf t ↔ p3 = t.size := by
  obtain ⟨a1, a2, _, _, a5⟩ := scan_enc h1
  obtain ⟨b1, b2, _, _, b5⟩ := scan_enc h2
  obtain ⟨c1, c2, _, _, c5⟩ := scan_enc h3
  have e : numText A1 ++ numText B1 ++ numText C1 = St2.bytesOf (St2.enc A1 ++ St2.enc B1 ++ St2.enc C1) := by
    rw [bytesOf_append, bytesOf_append]; rfl
  constructor
  · intro h
    have hs := congrArg ByteArray.size h
    unfold headOf St1.sealOf at hs
    rw [e] at hs
    have h4 : ∀ c : Int, (St1.four c).size = 4 := fun c => rfl
    simp only [ByteArray.size_append, h4, bytesOf_len, List.length_append] at hs
    omega
  · intro h
    unfold headOf
    rw [e]
    congr 1
    symm
    apply eq_bytesOf
    · simp only [List.length_append]; omega
    · intro j h1 h2
      by_cases hj : j < (St2.enc A1).length
      · have := a5 j hj (by omega)
        simp only [Nat.zero_add] at this
        rw [this, List.getElem_append_left (by simp; omega), List.getElem_append_left hj]
      · by_cases hk : j < (St2.enc A1).length + (St2.enc B1).length
        · have := b5 (j - (St2.enc A1).length) (by omega) (by omega)
          rw [List.getElem_append_left (by simp; omega), List.getElem_append_right (by omega), ← this]
          congr 2
          congr 1
          omega
        · simp only [List.length_append] at h2
          have := c5 (j - ((St2.enc A1).length + (St2.enc B1).length)) (by omega) (by omega)
          rw [List.getElem_append_right (by simp; omega)]
          simp only [List.length_append]
          rw [← this]
          congr 2
          congr 1
          omega

/-- What the head of a right disk tells: the number, the side, the bytes, the code. -/
def seen (xs : List ByteArray) (ps : List (Int × ByteArray)) : Int × Int × Int × Int :=
  let s := headText xs ps
  if s.size < 4 then (0, 0, 0, 4)
  else if ¬ St1.sealOf (s.extract 0 (s.size - 4)) = s then (0, 0, 0, 5)
  else
    let r := nums (s.extract 0 (s.size - 4))
    if r.1.2.2 = 0 ∧ r.2.1.2.2 = 0 ∧ r.2.2.2.2 = 0 ∧ headOf r.1.1 r.2.1.1 r.2.2.1 = s ∧ 0 ≤ r.1.1 ∧ (0 ≤ r.2.1.1 ∧ r.2.1.1 ≤ 1) ∧ (0 ≤ r.2.2.1 ∧ r.2.2.1 ≤ 64 * half xs.length) then (r.1.1, r.2.1.1, r.2.2.1, 0) else (0, 0, 0, 3)
def seenV (r : Int × Int × Int × Int) : Value := .tuple #[.int .i64 r.1, .int .i64 r.2.1, .int .i64 r.2.2.1, .int .i64 r.2.2.2]

theorem headText_size {xs : List ByteArray} {ps : List (Int × ByteArray)} (hok : right xs ps = true) : (headText xs ps).size ≤ 64 := by
  have hl := right_ge hok
  have hs : ∀ x ∈ xs, x.size ≤ 64 := by
    intro x hx
    unfold right at hok
    simp only [Bool.and_eq_true] at hok
    have := hok.1.2
    unfold okS at this
    simpa using (List.all_eq_true.1 this) x hx
  have hq : ∀ x ∈ ps, x.2.size ≤ 64 := by
    intro x hx
    unfold right at hok
    simp only [Bool.and_eq_true] at hok
    have := hok.2
    unfold okP at this
    have := (List.all_eq_true.1 this) x hx
    simp at this
    omega
  unfold headText
  have h0 : (xs.getD 0 ⟨#[]⟩).size ≤ 64 := by
    cases xs with
    | nil => simp at hl
    | cons x r => exact hs x (by simp)
  have key : ∀ (qs : List (Int × ByteArray)) (t : ByteArray), (∀ x ∈ qs, x.2.size ≤ 64) → t.size ≤ 64 → (lastAt 0 qs t).size ≤ 64 := by
    intro qs
    induction qs with
    | nil => intro t _ h; exact h
    | cons x r ih =>
      intro t hx ht
      unfold lastAt
      refine ih _ (fun y hy => hx y (by simp [hy])) ?_
      split
      · exact hx x (by simp)
      · exact ht
  exact key ps _ hq h0

theorem specSeen_any (vs vp : Value) (xs : List ByteArray) (ps : List (Int × ByteArray)) (w : World) (hok : right xs ps = true) (hn : xs.length ≤ 1048576) (hn2 : ps.length ≤ 1048576) (hr : Reads w vs xs) (hp : ReadsP w vp ps) :
    Calls Tryz.prog 67 #[.agg #[vs, vp]] w fun e w' => e = .returned (seenV (seen xs ps)) ∧ Below w.heap.size w w' := by
  have hx := (right_ge hok).1
  have hsz := headText_size hok
  unfold seen
  simp only
  by_cases h4 : (headText xs ps).size < 4
  · rw [if_pos h4]
    exact specSeen_bad vs vp xs ps 4 w hok hx hn hn2 hr hp (by omega) (fun W => St1.specUnseal_short _ W h4)
  · rw [if_neg h4]
    by_cases h5 : St1.sealOf ((headText xs ps).extract 0 ((headText xs ps).size - 4)) = headText xs ps
    · rw [if_neg (fun h => h h5)]
      have hU := fun W => St1.specUnseal_ok (headText xs ps) W (by omega) (by omega) h5
      obtain ⟨t, ht⟩ : ∃ t, t = (headText xs ps).extract 0 ((headText xs ps).size - 4) := ⟨_, rfl⟩
      have hts : t.size ≤ 64 := by rw [ht]; simp; omega
      rw [← ht] at hU ⊢
      obtain ⟨s1, s2, s3⟩ := scan_at t 0
      obtain ⟨R1, e1⟩ : ∃ R, R = St3.scan t 0 10 0 0 := ⟨_, rfl⟩
      obtain ⟨A1, q1, A3⟩ := R1
      rw [← e1] at s1 s2 s3
      obtain ⟨n1, rfl⟩ := Int.eq_ofNat_of_zero_le s1
      obtain ⟨R2, e2⟩ : ∃ R, R = St3.scan t n1 10 0 0 := ⟨_, rfl⟩
      obtain ⟨B1, q2, B3⟩ := R2
      obtain ⟨r1, r2, r3⟩ := scan_at t n1
      rw [← e2] at r1 r2 r3
      obtain ⟨n2, rfl⟩ := Int.eq_ofNat_of_zero_le r1
      obtain ⟨R3, e3⟩ : ∃ R, R = St3.scan t n2 10 0 0 := ⟨_, rfl⟩
      obtain ⟨C1, n3, C3⟩ := R3
      obtain ⟨_, _, u3⟩ := scan_at t n2
      rw [← e3] at u3
      have en : nums t = ((A1, (n1 : Int), A3), (B1, (n2 : Int), B3), (C1, n3, C3)) := by
        unfold nums
        simp only [← e1, Int.toNat_natCast, ← e2, ← e3]
      rw [en]
      simp only at s2 s3 r2 r3 u3 ⊢
      have HA := hide e1.symm
      have HB := hide e2.symm
      have HC := hide e3.symm
      by_cases c1 : A3 = 0
      · by_cases c2 : B3 = 0
        · by_cases c3 : C3 = 0
          · by_cases c4 : headOf A1 B1 C1 = headText xs ps
            · by_cases c5 : 0 ≤ A1
              · by_cases c6 : 0 ≤ B1 ∧ B1 ≤ 1
                · by_cases c7 : 0 ≤ C1 ∧ C1 ≤ 64 * half xs.length
                  · rw [if_pos ⟨c1, c2, c3, c4, c5, c6, c7⟩]
                    exact specSeen_c8 vs vp xs ps t A1 A3 B1 B3 C1 C3 n3 n1 n2 w hok hx hn hn2 hr hp (by omega) (by omega) (by omega) HA HB HC s3 r3 u3 c1 c2 c3 c4 c5 c6 c7 hU
                  · rw [if_neg (fun h => c7 h.2.2.2.2.2.2)]
                    exact specSeen_c7 vs vp xs ps t A1 A3 B1 B3 C1 C3 n3 n1 n2 w hok hx hn hn2 hr hp (by omega) (by omega) (by omega) HA HB HC s3 r3 u3 c1 c2 c3 c4 c5 c6 c7 hU
                · rw [if_neg (fun h => c6 h.2.2.2.2.2.1)]
                  exact specSeen_c6 vs vp xs ps t A1 A3 B1 B3 C1 C3 n3 n1 n2 w hok hx hn hn2 hr hp (by omega) (by omega) (by omega) HA HB HC s3 r3 u3 c1 c2 c3 c4 c5 c6 hU
              · rw [if_neg (fun h => c5 h.2.2.2.2.1)]
                exact specSeen_c5 vs vp xs ps t A1 A3 B1 B3 C1 C3 n3 n1 n2 w hok hx hn hn2 hr hp (by omega) (by omega) (by omega) HA HB HC s3 r3 u3 c1 c2 c3 c4 (by omega) hU
            · rw [if_neg (fun h => c4 h.2.2.2.1)]
              exact specSeen_c4 vs vp xs ps t A1 A3 B1 B3 C1 C3 n3 n1 n2 w hok hx hn hn2 hr hp (by omega) (by omega) (by omega) HA HB HC s3 r3 u3 c1 c2 c3 c4 hU
          · rw [if_neg (fun h => c3 h.2.2.1)]
            exact specSeen_c3 vs vp xs ps t A1 A3 B1 B3 C1 C3 n3 n1 n2 w hok hx hn hn2 hr hp (by omega) (by omega) (by omega) HA HB HC c1 c2 c3 hU
        · rw [if_neg (fun h => c2 h.2.1)]
          exact specSeen_c2 vs vp xs ps t A1 A3 B1 B3 C1 C3 n3 n1 n2 w hok hx hn hn2 hr hp (by omega) (by omega) (by omega) HA HB HC c1 c2 hU
      · rw [if_neg (fun h => c1 h.1)]
        exact specSeen_c1 vs vp xs ps t A1 A3 B1 B3 C1 C3 n3 n1 n2 w hok hx hn hn2 hr hp (by omega) (by omega) (by omega) HA HB HC c1 hU
    · rw [if_pos h5]
      exact specSeen_bad vs vp xs ps 5 w hok hx hn hn2 hr hp (by omega) (fun W => St1.specUnseal_sum _ W (by omega) (by omega) h5)
end Go.Proofs.YtnpbmaajgiapmaaGreatDoor
