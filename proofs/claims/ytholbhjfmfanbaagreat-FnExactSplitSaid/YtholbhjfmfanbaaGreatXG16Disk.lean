/- The laws' own helpers over disks: how much one takes, a copy, are two alike, marks put in and looked for again. -/
import Derived.Test.YtholbhjfmfanbaaGreatXG15OTo
namespace Go.Proofs.YtholbhjfmfanbaaGreat
open Go.RowKit

theorem markTo_size (f : Nat) : ∀ (k : Nat) (out : ByteArray), (markTo f k out).size ≤ out.size + k := by
  induction f with
  | zero => intro k out; exact Nat.le_add_right _ _
  | succ f ih =>
    intro k out
    rw [markTo]
    split
    · omega
    · have := ih (k / 10) (oneByte (48 + (k : Int) % 10) ++ out)
      have h1 : (oneByte (48 + (k : Int) % 10)).size = 1 := rfl
      rw [ByteArray.size_append, h1] at this
      omega
theorem markOf_size (k : Nat) : (markOf k).size ≤ k + 2 := by
  unfold markOf
  split
  · show 2 ≤ k + 2; omega
  · rw [ByteArray.size_append]
    have := markTo_size k k ⟨#[]⟩
    have h0 : (⟨#[]⟩ : ByteArray).size = 0 := rfl
    have h1 : (⟨#[109]⟩ : ByteArray).size = 1 := rfl
    omega
theorem marks_size (k n : Nat) (h : k + n ≤ 100000000) : ∀ x ∈ marks k n, x.size ≤ maxLen := by
  intro x hx
  simp only [marks, List.mem_map, List.mem_range] at hx
  obtain ⟨i, hi, rfl⟩ := hx
  have := markOf_size (k + i)
  unfold maxLen; omega
theorem marksP_size (k n : Nat) (h : k + n * 2 ≤ 100000000) : ∀ x ∈ marksP k n, x.2.size ≤ maxLen := by
  intro x hx
  simp only [marksP, List.mem_map, List.mem_range] at hx
  obtain ⟨i, hi, rfl⟩ := hx
  have := markOf_size (k + i * 2 + 1)
  show (markOf (k + i * 2 + 1)).size ≤ maxLen
  unfold maxLen; omega

theorem markS_own (B : Nat) (v : Value) (xs : List ByteArray) (k : Nat) (w : World) (hn : xs.length ≤ 1048576) (hk : k ≤ 10000000) (h : OwnS 9 B w v xs) :
    Calls Tryz.prog 120 #[v, .int .i64 (k : Int)] w fun e w' => e = .returned (.int .i64 ((k + xs.length : Nat) : Int)) ∧ OwnS 9 B w' v (marks k xs.length) ∧ Kept (leads v) w w' := by
  obtain ⟨hx, ⟨p, cap, rfl, hc, rfl⟩ | ⟨G, rest, rfl, hm, hB, hr⟩⟩ := h
  · refine (markStringS_none p cap k w).mono ?_
    rintro e w' ⟨rfl, rfl⟩
    exact ⟨rfl, ⟨by simp [marks], .inl ⟨p, cap, rfl, hc, rfl⟩⟩, Kept.refl _ _⟩
  · cases hl : xs with
    | nil =>
      subst hl
      refine (markStringS_none _ _ k w).mono ?_
      rintro e w' ⟨rfl, rfl⟩
      exact ⟨rfl, ⟨by simp [marks], .inl ⟨_, _, rfl, hm, rfl⟩⟩, Kept.refl _ _⟩
    | cons x r =>
      rw [← hl]
      have hcs : (strs xs ++ rest).length = xs.length + rest.length := by rw [List.length_append, strs_len]
      have := markStringS_any G xs.length (strs xs ++ rest) k w (by omega) hn hk hr
      rw [hcs] at this
      refine this.mono ?_
      rintro e w' ⟨rfl, hr', ho⟩
      have hd : (strs xs ++ rest).drop xs.length = rest := by
        have := List.drop_left' (l₁ := strs xs) (l₂ := rest) (strs_len xs)
        exact this
      rw [hd] at hr'
      refine ⟨rfl, ⟨marks_size k _ (by omega), .inr ⟨G, rest, by rw [marks_len], by rw [marks_len]; exact hm, hB, hr'⟩⟩, ?_⟩
      rw [hl]
      exact Kept.ofOnly ho
theorem bcell {W w1 : World} (hb : Below W.heap.size W w1) : (∀ b o, b < W.heap.size → w1.cell? ⟨b, o, none⟩ = W.cell? ⟨b, o, none⟩) ∧ (∀ b o, b < W.heap.size → w1.frozen? ⟨b, o, none⟩ = W.frozen? ⟨b, o, none⟩) :=
  ⟨fun b o h => hb.cell (p := ⟨b, o, none⟩) h, fun b o h => hb.frozen (p := ⟨b, o, none⟩) h⟩

/-- What a disk that is small enough for the laws is. -/
def Small (xs : List ByteArray) (ps : List (Int × ByteArray)) : Prop :=
  xs.length ≤ 1048576 ∧ (∀ x ∈ xs, x.size ≤ 1048576) ∧ ps.length ≤ 1048576 ∧ ∀ x ∈ ps, x.2.size ≤ 1048576

end Go.Proofs.YtholbhjfmfanbaaGreat
/- A copy of a disk, made by the laws. -/
namespace Go.Proofs.YtholbhjfmfanbaaGreat
open Go.RowKit

theorem leads_eq {g o n c x : Nat} (h : x ∈ leads (.slice (some ⟨g, o, none⟩) n c)) : x = g := by
  cases n with
  | zero => cases h
  | succ m => exact List.mem_singleton.1 h

end Go.Proofs.YtholbhjfmfanbaaGreat
