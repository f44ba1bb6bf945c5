/- The laws' own helpers over disks: how much one takes, a copy, are two alike, marks put in and looked for again. -/
import Derived.Test.YtjikecebbmepbaaDoorPend
namespace Go.Proofs.YtjikecebbmepbaaDoor
open Go.RowKit

theorem markTo_size (f : Nat) : ∀ (k : Nat) (out : ByteArray), (markTo f k out).size ≤ out.size + k := by
  induction f with
  | zero => intro k out; exact Nat.le_add_right _ _
  | succ f ih =>
    intro k out
    rw [markTo]
    split
    · omega
    · have := ih (k / 10) (oneByte (48 + (k : Int) % 10) ++ out)
      have h1 : (oneByte (48 + (k : Int) % 10)).size = 1 := rfl
      rw [ByteArray.size_append, h1] at this
      omega
theorem markOf_size (k : Nat) : (markOf k).size ≤ k + 2 := by
  unfold markOf
  split
  · show 2 ≤ k + 2; omega
  · rw [ByteArray.size_append]
    have := markTo_size k k ⟨#[]⟩
    have h0 : (⟨#[]⟩ : ByteArray).size = 0 := rfl
    have h1 : (⟨#[109]⟩ : ByteArray).size = 1 := rfl
    omega
theorem marks_size (k n : Nat) (h : k + n ≤ 100000000) : ∀ x ∈ marks k n, x.size ≤ maxLen := by
  intro x hx
  simp only [marks, List.mem_map, List.mem_range] at hx
  obtain ⟨i, hi, rfl⟩ := hx
  have := markOf_size (k + i)
  unfold maxLen; omega
theorem marksP_size (k n : Nat) (h : k + n * 2 ≤ 100000000) : ∀ x ∈ marksP k n, x.2.size ≤ maxLen := by
  intro x hx
  simp only [marksP, List.mem_map, List.mem_range] at hx
  obtain ⟨i, hi, rfl⟩ := hx
  have := markOf_size (k + i * 2 + 1)
  show (markOf (k + i * 2 + 1)).size ≤ maxLen
  unfold maxLen; omega

theorem markS_own (B : Nat) (v : Value) (xs : List ByteArray) (k : Nat) (w : World) (hn : xs.length ≤ 1048576) (hk : k ≤ 10000000) (h : OwnS 9 B w v xs) :
    Calls Tryd.prog 36 #[v, .int .i64 (k : Int)] w fun e w' => e = .returned (.int .i64 ((k + xs.length : Nat) : Int)) ∧ OwnS 9 B w' v (marks k xs.length) ∧ Kept (leads v) w w' := by
  obtain ⟨hx, ⟨p, cap, rfl, hc, rfl⟩ | ⟨G, rest, rfl, hm, hB, hr⟩⟩ := h
  · refine (markStringS_none p cap k w).mono ?_
    rintro e w' ⟨rfl, rfl⟩
    exact ⟨rfl, ⟨by simp [marks], .inl ⟨p, cap, rfl, hc, rfl⟩⟩, Kept.refl _ _⟩
  · cases hl : xs with
    | nil =>
      subst hl
      refine (markStringS_none _ _ k w).mono ?_
      rintro e w' ⟨rfl, rfl⟩
      exact ⟨rfl, ⟨by simp [marks], .inl ⟨_, _, rfl, hm, rfl⟩⟩, Kept.refl _ _⟩
    | cons x r =>
      rw [← hl]
      have hcs : (strs xs ++ rest).length = xs.length + rest.length := by rw [List.length_append, strs_len]
      have := markStringS_any G xs.length (strs xs ++ rest) k w (by omega) hn hk hr
      rw [hcs] at this
      refine this.mono ?_
      rintro e w' ⟨rfl, hr', ho⟩
      have hd : (strs xs ++ rest).drop xs.length = rest := by
        have := List.drop_left' (l₁ := strs xs) (l₂ := rest) (strs_len xs)
        exact this
      rw [hd] at hr'
      refine ⟨rfl, ⟨marks_size k _ (by omega), .inr ⟨G, rest, by rw [marks_len], by rw [marks_len]; exact hm, hB, hr'⟩⟩, ?_⟩
      rw [hl]
      exact Kept.ofOnly ho
theorem markP_own (B : Nat) (v : Value) (ps : List (Int × ByteArray)) (k : Nat) (w : World) (hn : ps.length ≤ 1048576) (hk : k ≤ 10000000) (h : OwnP 60 B w v ps) :
    Calls Tryd.prog 37 #[v, .int .i64 (k : Int)] w fun e w' => e = .returned (.int .i64 ((k + ps.length * 2 : Nat) : Int)) ∧ OwnP 60 B w' v (marksP k ps.length) ∧ Kept (leads v) w w' := by
  obtain ⟨hx, ⟨p, cap, rfl, hc, rfl⟩ | ⟨G, cap, rest, rfl, hc, hm, hl2, hB, hr⟩⟩ := h
  · refine (markPendingS_none p cap k w).mono ?_
    rintro e w' ⟨rfl, rfl⟩
    exact ⟨rfl, ⟨by simp [marksP], .inl ⟨p, cap, rfl, hc, rfl⟩⟩, Kept.refl _ _⟩
  · cases hl : ps with
    | nil =>
      subst hl
      refine (markPendingS_none _ _ k w).mono ?_
      rintro e w' ⟨rfl, rfl⟩
      exact ⟨rfl, ⟨by simp [marksP], .inl ⟨_, _, rfl, hm, rfl⟩⟩, Kept.refl _ _⟩
    | cons x r =>
      rw [← hl]
      have hcs : (pcs ps ++ rest).length = cap * 2 := by rw [List.length_append, pcs_len]; exact hl2
      refine (markPendingS_any G ps.length cap (pcs ps ++ rest) k w hc hcs hn hk hr).mono ?_
      rintro e w' ⟨rfl, hr', ho⟩
      have hd : (pcs ps ++ rest).drop (ps.length * 2) = rest := List.drop_left' (l₁ := pcs ps) (l₂ := rest) (pcs_len ps)
      rw [hd] at hr'
      refine ⟨rfl, ⟨marksP_size k _ (by omega), .inr ⟨G, cap, rest, by rw [marksP_len], by rw [marksP_len]; exact hc, hm, by rw [marksP_len]; exact hl2, hB, hr'⟩⟩, ?_⟩
      rw [hl]
      exact Kept.ofOnly ho

theorem bcell {W w1 : World} (hb : Below W.heap.size W w1) : (∀ b o, b < W.heap.size → w1.cell? ⟨b, o, none⟩ = W.cell? ⟨b, o, none⟩) ∧ (∀ b o, b < W.heap.size → w1.frozen? ⟨b, o, none⟩ = W.frozen? ⟨b, o, none⟩) :=
  ⟨fun b o h => hb.cell (p := ⟨b, o, none⟩) h, fun b o h => hb.frozen (p := ⟨b, o, none⟩) h⟩

/-- What a disk that is small enough for the laws is. -/
def Small (xs : List ByteArray) (ps : List (Int × ByteArray)) : Prop :=
  xs.length ≤ 1048576 ∧ (∀ x ∈ xs, x.size ≤ 1048576) ∧ ps.length ≤ 1048576 ∧ ∀ x ∈ ps, x.2.size ≤ 1048576

set_option maxHeartbeats 1000000 in
theorem szDisk_any (vs vp : Value) (xs : List ByteArray) (ps : List (Int × ByteArray)) (w : World) (hr : Reads w vs xs) (hp : ReadsP w vp ps) :
    Calls Tryd.prog 5 #[.agg #[vs, vp], .int .i64 1048576] w fun e w' => ∃ r : Int, e = .returned (.int .i64 r) ∧ (r < 0 ∨ (0 ≤ r ∧ Small xs ps)) ∧ Below w.heap.size w w' := by
  have hb0 : Below w.heap.size w (w.alloc (.cells #[vs, vp] 25)) := (Below.refl _ _).alloc (Nat.le_refl _) _
  have HR := hide (hr.below hb0 (Nat.le_refl _))
  have HP := hide (hp.below hb0 (Nat.le_refl _))
  obtain ⟨p1, c1, rfl, _⟩ := hr
  obtain ⟨p2, c2, rfl, _⟩ := hp
  have HB0 := hide hb0
  clear hb0
  go_enter Tryd.func5, Tryd.ntmps5
  go_wp2_with fail
  refine (szStringS_any _ xs 1048576 _ (by omega) (by omega) HR.out).mono ?_
  rintro e w1 ⟨rfl, rfl⟩
  obtain ⟨L, HL⟩ : ∃ L, Hid (L = szStrs xs 1048576) := ⟨_, rfl⟩
  rw [← HL.out]
  by_cases hneg : L < 0
  · go_wp2
    go_ret
    exact ⟨-1, rfl, .inl (by omega), HB0.out⟩
  · have hL := szStrs_le xs 1048576 (by rw [← HL.out]; omega)
    rw [← HL.out] at hL
    obtain ⟨hL1, hL2, hL3⟩ := hL
    have HL3 := hide hL3
    have hL0 : 0 ≤ L := by omega
    clear hL3
    go_wp2_with fail
    refine (szPendingS_any _ ps L _ hL0 hL1 HP.out).mono ?_
    rintro e w2 ⟨rfl, hb2⟩
    have HB2 := hide (HB0.out.trans (hb2.mono HB0.out.size))
    obtain ⟨M, HM⟩ : ∃ M, Hid (M = szPends ps L) := ⟨_, rfl⟩
    rw [← HM.out]
    clear hb2
    by_cases hneg2 : M < 0
    · go_wp2
      go_ret
      exact ⟨-1, rfl, .inl (by omega), HB2.out⟩
    · have hM := szPends_le ps L (by rw [← HM.out]; omega)
      rw [← HM.out] at hM
      have HM3 := hide hM
      have hM0 : 0 ≤ M := by omega
      clear hM
      go_wp2
      go_ret
      refine ⟨M, rfl, .inr ⟨hM0, by omega, fun x hx => ?_, by have := HM3.out.2.1; omega, fun x hx => ?_⟩, HB2.out⟩
      · have := HL3.out x hx; omega
      · have := HM3.out.2.2 x hx; omega
end Go.Proofs.YtjikecebbmepbaaDoor
