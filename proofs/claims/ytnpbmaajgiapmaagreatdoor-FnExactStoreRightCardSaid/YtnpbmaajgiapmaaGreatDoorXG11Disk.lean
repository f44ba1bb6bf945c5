/- The laws' own helpers over disks: how much one takes, a copy, are two alike, marks put in and looked for again. -/
import Derived.Test.YtnpbmaajgiapmaaGreatDoorXG10QSBytes
namespace Go.Proofs.YtnpbmaajgiapmaaGreatDoor
open Go.RowKit

theorem markTo_size (f : Nat) : ∀ (k : Nat) (out : ByteArray), (markTo f k out).size ≤ out.size + k := by
  induction f with
  | zero => intro k out; exact Nat.le_add_right _ _
  | succ f ih =>
    intro k out
    rw [markTo]
    split
    · omega
    · have := ih (k / 10) (oneByte (48 + (k : Int) % 10) ++ out)
      have h1 : (oneByte (48 + (k : Int) % 10)).size = 1 := rfl
      rw [ByteArray.size_append, h1] at this
      omega
theorem markOf_size (k : Nat) : (markOf k).size ≤ k + 2 := by
  unfold markOf
  split
  · show 2 ≤ k + 2; omega
  · rw [ByteArray.size_append]
    have := markTo_size k k ⟨#[]⟩
    have h0 : (⟨#[]⟩ : ByteArray).size = 0 := rfl
    have h1 : (⟨#[109]⟩ : ByteArray).size = 1 := rfl
    omega
theorem marks_size (k n : Nat) (h : k + n ≤ 100000000) : ∀ x ∈ marks k n, x.size ≤ maxLen := by
  intro x hx
  simp only [marks, List.mem_map, List.mem_range] at hx
  obtain ⟨i, hi, rfl⟩ := hx
  have := markOf_size (k + i)
  unfold maxLen; omega
theorem marksP_size (k n : Nat) (h : k + n * 2 ≤ 100000000) : ∀ x ∈ marksP k n, x.2.size ≤ maxLen := by
  intro x hx
  simp only [marksP, List.mem_map, List.mem_range] at hx
  obtain ⟨i, hi, rfl⟩ := hx
  have := markOf_size (k + i * 2 + 1)
  show (markOf (k + i * 2 + 1)).size ≤ maxLen
  unfold maxLen; omega

theorem markS_own (B : Nat) (v : Value) (xs : List ByteArray) (k : Nat) (w : World) (hn : xs.length ≤ 1048576) (hk : k ≤ 10000000) (h : OwnS 9 B w v xs) :
    Calls Tryz.prog 42 #[v, .int .i64 (k : Int)] w fun e w' => e = .returned (.int .i64 ((k + xs.length : Nat) : Int)) ∧ OwnS 9 B w' v (marks k xs.length) ∧ Kept (leads v) w w' := by
  obtain ⟨hx, ⟨p, cap, rfl, hc, rfl⟩ | ⟨G, rest, rfl, hm, hB, hr⟩⟩ := h
  · refine (markStringS_none p cap k w).mono ?_
    rintro e w' ⟨rfl, rfl⟩
    exact ⟨rfl, ⟨by simp [marks], .inl ⟨p, cap, rfl, hc, rfl⟩⟩, Kept.refl _ _⟩
  · cases hl : xs with
    | nil =>
      subst hl
      refine (markStringS_none _ _ k w).mono ?_
      rintro e w' ⟨rfl, rfl⟩
      exact ⟨rfl, ⟨by simp [marks], .inl ⟨_, _, rfl, hm, rfl⟩⟩, Kept.refl _ _⟩
    | cons x r =>
      rw [← hl]
      have hcs : (strs xs ++ rest).length = xs.length + rest.length := by rw [List.length_append, strs_len]
      have := markStringS_any G xs.length (strs xs ++ rest) k w (by omega) hn hk hr
      rw [hcs] at this
      refine this.mono ?_
      rintro e w' ⟨rfl, hr', ho⟩
      have hd : (strs xs ++ rest).drop xs.length = rest := by
        have := List.drop_left' (l₁ := strs xs) (l₂ := rest) (strs_len xs)
        exact this
      rw [hd] at hr'
      refine ⟨rfl, ⟨marks_size k _ (by omega), .inr ⟨G, rest, by rw [marks_len], by rw [marks_len]; exact hm, hB, hr'⟩⟩, ?_⟩
      rw [hl]
      exact Kept.ofOnly ho
theorem markP_own (B : Nat) (v : Value) (ps : List (Int × ByteArray)) (k : Nat) (w : World) (hn : ps.length ≤ 1048576) (hk : k ≤ 10000000) (h : OwnP 92 B w v ps) :
    Calls Tryz.prog 43 #[v, .int .i64 (k : Int)] w fun e w' => e = .returned (.int .i64 ((k + ps.length * 2 : Nat) : Int)) ∧ OwnP 92 B w' v (marksP k ps.length) ∧ Kept (leads v) w w' := by
  obtain ⟨hx, ⟨p, cap, rfl, hc, rfl⟩ | ⟨G, cap, rest, rfl, hc, hm, hl2, hB, hr⟩⟩ := h
  · refine (markPendingS_none p cap k w).mono ?_
    rintro e w' ⟨rfl, rfl⟩
    exact ⟨rfl, ⟨by simp [marksP], .inl ⟨p, cap, rfl, hc, rfl⟩⟩, Kept.refl _ _⟩
  · cases hl : ps with
    | nil =>
      subst hl
      refine (markPendingS_none _ _ k w).mono ?_
      rintro e w' ⟨rfl, rfl⟩
      exact ⟨rfl, ⟨by simp [marksP], .inl ⟨_, _, rfl, hm, rfl⟩⟩, Kept.refl _ _⟩
    | cons x r =>
      rw [← hl]
      have hcs : (pcs ps ++ rest).length = cap * 2 := by rw [List.length_append, pcs_len]; exact hl2
      refine (markPendingS_any G ps.length cap (pcs ps ++ rest) k w hc hcs hn hk hr).mono ?_
      rintro e w' ⟨rfl, hr', ho⟩
      have hd : (pcs ps ++ rest).drop (ps.length * 2) = rest := List.drop_left' (l₁ := pcs ps) (l₂ := rest) (pcs_len ps)
      rw [hd] at hr'
      refine ⟨rfl, ⟨marksP_size k _ (by omega), .inr ⟨G, cap, rest, by rw [marksP_len], by rw [marksP_len]; exact hc, hm, by rw [marksP_len]; exact hl2, hB, hr'⟩⟩, ?_⟩
      rw [hl]
      exact Kept.ofOnly ho

theorem bcell {W w1 : World} (hb : Below W.heap.size W w1) : (∀ b o, b < W.heap.size → w1.cell? ⟨b, o, none⟩ = W.cell? ⟨b, o, none⟩) ∧ (∀ b o, b < W.heap.size → w1.frozen? ⟨b, o, none⟩ = W.frozen? ⟨b, o, none⟩) :=
  ⟨fun b o h => hb.cell (p := ⟨b, o, none⟩) h, fun b o h => hb.frozen (p := ⟨b, o, none⟩) h⟩

/-- What a disk that is small enough for the laws is. -/
def Small (xs : List ByteArray) (ps : List (Int × ByteArray)) : Prop :=
  xs.length ≤ 1048576 ∧ (∀ x ∈ xs, x.size ≤ 1048576) ∧ ps.length ≤ 1048576 ∧ ∀ x ∈ ps, x.2.size ≤ 1048576

set_option maxHeartbeats 1000000 in
theorem szDisk_any (vs vp : Value) (xs : List ByteArray) (ps : List (Int × ByteArray)) (w : World) (hr : Reads w vs xs) (hp : ReadsP w vp ps) :
    Calls Tryz.prog 8 #[.agg #[vs, vp], .int .i64 1048576] w fun e w' => ∃ r : Int, e = .returned (.int .i64 r) ∧ (r < 0 ∨ (0 ≤ r ∧ Small xs ps)) ∧ Below w.heap.size w w' := by
  have hb0 : Below w.heap.size w (w.alloc (.cells #[vs, vp] 25)) := (Below.refl _ _).alloc (Nat.le_refl _) _
  have HR := hide (hr.below hb0 (Nat.le_refl _))
  have HP := hide (hp.below hb0 (Nat.le_refl _))
  obtain ⟨p1, c1, rfl, _⟩ := hr
  obtain ⟨p2, c2, rfl, _⟩ := hp
  have HB0 := hide hb0
  clear hb0
  go_enter Tryz.func8, Tryz.ntmps8
  go_wp2_with fail
  refine (szStringS_any _ xs 1048576 _ (by omega) (by omega) HR.out).mono ?_
  rintro e w1 ⟨rfl, rfl⟩
  obtain ⟨L, HL⟩ : ∃ L, Hid (L = szStrs xs 1048576) := ⟨_, rfl⟩
  rw [← HL.out]
  by_cases hneg : L < 0
  · go_wp2
    go_ret
    exact ⟨-1, rfl, .inl (by omega), HB0.out⟩
  · have hL := szStrs_le xs 1048576 (by rw [← HL.out]; omega)
    rw [← HL.out] at hL
    obtain ⟨hL1, hL2, hL3⟩ := hL
    have HL3 := hide hL3
    have hL0 : 0 ≤ L := by omega
    clear hL3
    go_wp2_with fail
    refine (szPendingS_any _ ps L _ hL0 hL1 HP.out).mono ?_
    rintro e w2 ⟨rfl, hb2⟩
    have HB2 := hide (HB0.out.trans (hb2.mono HB0.out.size))
    obtain ⟨M, HM⟩ : ∃ M, Hid (M = szPends ps L) := ⟨_, rfl⟩
    rw [← HM.out]
    clear hb2
    by_cases hneg2 : M < 0
    · go_wp2
      go_ret
      exact ⟨-1, rfl, .inl (by omega), HB2.out⟩
    · have hM := szPends_le ps L (by rw [← HM.out]; omega)
      rw [← HM.out] at hM
      have HM3 := hide hM
      have hM0 : 0 ≤ M := by omega
      clear hM
      go_wp2
      go_ret
      refine ⟨M, rfl, .inr ⟨hM0, by omega, fun x hx => ?_, by have := HM3.out.2.1; omega, fun x hx => ?_⟩, HB2.out⟩
      · have := HL3.out x hx; omega
      · have := HM3.out.2.2 x hx; omega
end Go.Proofs.YtnpbmaajgiapmaaGreatDoor
/- A copy of a disk, made by the laws. -/
namespace Go.Proofs.YtnpbmaajgiapmaaGreatDoor
open Go.RowKit

theorem leads_eq {g o n c x : Nat} (h : x ∈ leads (.slice (some ⟨g, o, none⟩) n c)) : x = g := by
  cases n with
  | zero => cases h
  | succ m => exact List.mem_singleton.1 h

set_option maxHeartbeats 2000000 in
theorem toDisk_any (vs vp : Value) (xs : List ByteArray) (ps : List (Int × ByteArray)) (w : World) (hr : Reads w vs xs) (hp : ReadsP w vp ps) (hs : Small xs ps) :
    Calls Tryz.prog 10 #[.agg #[vs, vp]] w fun e w' => ∃ us up, e = .returned (.agg #[us, up]) ∧ OwnS 9 w.heap.size w' us xs ∧ OwnP 92 w.heap.size w' up ps ∧ (∀ x ∈ leads us, x ∉ leads up) ∧ Below w.heap.size w w' := by
  obtain ⟨s1, s2, s3, s4⟩ := hs
  have hm1 : ∀ x ∈ xs, x.size ≤ maxLen := fun x hx => by have := s2 x hx; unfold maxLen; omega
  have hm2 : ∀ x ∈ ps, x.2.size ≤ maxLen := fun x hx => by have := s4 x hx; unfold maxLen; omega
  have HM1 := hide hm1
  have HM2 := hide hm2
  clear hm1 hm2 s2 s4
  have hb0 : Below w.heap.size w (((w.alloc (.cells #[vs, vp] 25)).alloc (.cells #[.slice none 0 0, .slice none 0 0] 30)).alloc (.cells #[.slice none 0 0, .slice none 0 0] 30)) :=
    (((Below.refl _ _).alloc (Nat.le_refl _) _).alloc (by simp) _).alloc (by simp <;> omega) _
  have HR := hide (hr.below hb0 (Nat.le_refl _))
  have HP := hide (hp.below hb0 (Nat.le_refl _))
  have HPL := hide hp.leads
  have HB0 := hide hb0
  obtain ⟨p1, c1, rfl, h1r⟩ := hr
  obtain ⟨p2, c2, rfl, h2r⟩ := hp
  clear hb0 h1r h2r
  go_enter Tryz.func10, Tryz.ntmps10
  go_wp2_with fail
  refine (toStringS_any _ xs _ s1 HR.out).mono ?_
  rintro e w1 ⟨rfl, hrow1, hb1⟩
  have hrow1' : Row w1 (w.heap.size + 1 + 1 + 1) 9 (strs xs) := by simpa using hrow1
  have HROW := hide hrow1'
  have HB1 := hide hb1
  obtain ⟨hc1, hf1⟩ := bcell hb1
  have hz1 : w.heap.size + 3 ≤ w1.heap.size := by have := hb1.size; simp at this; omega
  have hp1 := HP.out.below hb1 (Nat.le_refl _)
  clear hb1 hrow1 hrow1'
  have HP1 : Hid (ReadsP (w1.setCell ⟨w.heap.size + 1 + 1, 0, none⟩ (.slice (some ⟨w.heap.size + 1 + 1 + 1, 0, none⟩) xs.length xs.length)) (.slice p2 ps.length c2) ps) :=
    (Kept.ofSet w1 (w.heap.size + 1 + 1) 0 _).readsP hp1 (fun x hx => by
      have := HPL.out x hx
      simp; omega)
  clear hp1
  go_wp2_with fail
  refine (toPendingS_any _ ps _ s3 HP1.out).mono ?_
  rintro e w2 ⟨rfl, hrow2, hb2⟩
  have hsz : (w1.setCell ⟨w.heap.size + 1 + 1, 0, none⟩ (.slice (some ⟨w.heap.size + 1 + 1 + 1, 0, none⟩) xs.length xs.length)).heap.size = w1.heap.size := by simp [World.setCell]
  rw [hsz]
  rw [hsz] at hrow2 hb2
  clear hsz hc1 hf1
  have r1 := ((row_new (w.alloc (.cells #[.slice p1 xs.length c1, .slice p2 ps.length c2] 25)) [.slice none 0 0, .slice none 0 0] 30).alloc (.cells #[.slice none 0 0, .slice none 0 0] 30)).below HB1.out (by simp)
  have r2 := (row_new ((w.alloc (.cells #[.slice p1 xs.length c1, .slice p2 ps.length c2] 25)).alloc (.cells #[.slice none 0 0, .slice none 0 0] 30)) [.slice none 0 0, .slice none 0 0] 30).below HB1.out (by simp)
  simp only [World.size_alloc] at r1 r2
  have R1 := hide ((r1.other (b := w.heap.size + 1 + 1) (j := 0) (by omega) (.slice (some ⟨w.heap.size + 1 + 1 + 1, 0, none⟩) xs.length xs.length)).below hb2 (by omega))
  have R2 := hide ((r2.set (j := 0) (.slice (some ⟨w.heap.size + 1 + 1 + 1, 0, none⟩) xs.length xs.length)).below hb2 (by omega))
  have R3 := hide ((HROW.out.other (b := w.heap.size + 1 + 1) (j := 0) (by omega) (.slice (some ⟨w.heap.size + 1 + 1 + 1, 0, none⟩) xs.length xs.length)).below hb2 (by have := HROW.out.lt; omega))
  have R4 := hide hrow2
  have HB2 := hide hb2
  have hlt3 := HROW.out.lt
  clear r1 r2 hrow2 hb2
  have a0 : w2.cell? ⟨w.heap.size + 1 + 1, 0, none⟩ = some (.slice (some ⟨w.heap.size + 1 + 1 + 1, 0, none⟩) xs.length xs.length) := R2.out.cell 0
  have a1 : w2.cell? ⟨w.heap.size + 1 + 1, 1, none⟩ = some (.slice none 0 0) := R2.out.cell 1
  have b0 : w2.cell? ⟨w.heap.size + 1, 0, none⟩ = some (.slice none 0 0) := R1.out.cell 0
  have b1 : w2.cell? ⟨w.heap.size + 1, 1, none⟩ = some (.slice none 0 0) := R1.out.cell 1
  have fa1 := R2.out.free 1
  have fb0 := R1.out.free 0
  have fb1 := R1.out.free 1
  go_wp2
  have RR := ((R1.out.other (b := w.heap.size + 1 + 1) (j := 1) (by omega) (.slice (some ⟨w1.heap.size, 0, none⟩) ps.length ps.length)).set (j := 0) (.slice (some ⟨w.heap.size + 1 + 1 + 1, 0, none⟩) xs.length xs.length)).set (j := 1) (.slice (some ⟨w1.heap.size, 0, none⟩) ps.length ps.length)
  have RS := ((R3.out.other (b := w.heap.size + 1 + 1) (j := 1) (by omega) (.slice (some ⟨w1.heap.size, 0, none⟩) ps.length ps.length)).other (b := w.heap.size + 1) (j := 0) (by omega) (.slice (some ⟨w.heap.size + 1 + 1 + 1, 0, none⟩) xs.length xs.length)).other (b := w.heap.size + 1) (j := 1) (by omega) (.slice (some ⟨w1.heap.size, 0, none⟩) ps.length ps.length)
  have RP := ((R4.out.other (b := w.heap.size + 1 + 1) (j := 1) (by omega) (.slice (some ⟨w1.heap.size, 0, none⟩) ps.length ps.length)).other (b := w.heap.size + 1) (j := 0) (by omega) (.slice (some ⟨w.heap.size + 1 + 1 + 1, 0, none⟩) xs.length xs.length)).other (b := w.heap.size + 1) (j := 1) (by omega) (.slice (some ⟨w1.heap.size, 0, none⟩) ps.length ps.length)
  have q0 := RR.cell 0
  have q1 := RR.cell 1
  have e0 : (([.slice none 0 0, .slice none 0 0] : List Value).set 0 (.slice (some ⟨w.heap.size + 1 + 1 + 1, 0, none⟩) xs.length xs.length)).set 1 (.slice (some ⟨w1.heap.size, 0, none⟩) ps.length ps.length) = [(.slice (some ⟨w.heap.size + 1 + 1 + 1, 0, none⟩) xs.length xs.length), (.slice (some ⟨w1.heap.size, 0, none⟩) ps.length ps.length)] := rfl
  rw [e0] at q0 q1
  have k1 := HB0.out.trans (HB1.out.mono HB0.out.size)
  have k2 := (Kept.ofSet w1 (w.heap.size + 1 + 1) 0 (.slice (some ⟨w.heap.size + 1 + 1 + 1, 0, none⟩) xs.length xs.length)).toBelow k1 k1.size (by simp; omega)
  have k3 := k2.trans (HB2.out.mono (by omega))
  have k4 := (Kept.ofSet w2 (w.heap.size + 1 + 1) 1 (.slice (some ⟨w1.heap.size, 0, none⟩) ps.length ps.length)).toBelow k3 k3.size (by simp; omega)
  have k5 := (Kept.ofSet _ (w.heap.size + 1) 0 (.slice (some ⟨w.heap.size + 1 + 1 + 1, 0, none⟩) xs.length xs.length)).toBelow k4 k4.size (by simp)
  have k6 := (Kept.ofSet _ (w.heap.size + 1) 1 (.slice (some ⟨w1.heap.size, 0, none⟩) ps.length ps.length)).toBelow k5 k5.size (by simp)
  refine bodyPost_ret (v := .agg #[(.slice (some ⟨w.heap.size + 1 + 1 + 1, 0, none⟩) xs.length xs.length), (.slice (some ⟨w1.heap.size, 0, none⟩) ps.length ps.length)]) (by simp [results, Tryz.results10, go_sem, q0, q1]) rfl ⟨(.slice (some ⟨w.heap.size + 1 + 1 + 1, 0, none⟩) xs.length xs.length), (.slice (some ⟨w1.heap.size, 0, none⟩) ps.length ps.length), rfl, ⟨HM1.out, .inr ⟨w.heap.size + 1 + 1 + 1, [], by simp, by simp [maxLen]; omega, by omega, by simpa using RS⟩⟩,
    ⟨HM2.out, .inr ⟨w1.heap.size, ps.length, [], rfl, Nat.le_refl _, by simp [maxLen]; omega, by simp, by omega, by simpa using RP⟩⟩, ?_, k6⟩
  intro x hx hy
  have hx1 := leads_eq hx
  have hy1 := leads_eq hy
  omega
end Go.Proofs.YtnpbmaajgiapmaaGreatDoor
/- Are two disks alike; marks put into one, and looked for again. -/
namespace Go.Proofs.YtnpbmaajgiapmaaGreatDoor
open Go.RowKit

set_option maxHeartbeats 2000000 in
theorem eqDisk_same (us up vs vp : Value) (xs : List ByteArray) (ps : List (Int × ByteArray)) (w : World) (hn : xs.length ≤ 1048576) (hn2 : ps.length ≤ 1048576)
    (h1 : Reads w us xs) (h2 : ReadsP w up ps) (h3 : Reads w vs xs) (h4 : ReadsP w vp ps) :
    Calls Tryz.prog 12 #[.agg #[us, up], .agg #[vs, vp]] w fun e w' => e = .returned (.bool true) ∧ Below w.heap.size w w' := by
  have hb0 : Below w.heap.size w ((w.alloc (.cells #[us, up] 30)).alloc (.cells #[vs, vp] 30)) :=
    ((Below.refl _ _).alloc (Nat.le_refl _) _).alloc (by simp) _
  have H1 := hide (h1.below hb0 (Nat.le_refl _))
  have H2 := hide (h2.below hb0 (Nat.le_refl _))
  have H3 := hide (h3.below hb0 (Nat.le_refl _))
  have H4 := hide (h4.below hb0 (Nat.le_refl _))
  have HB0 := hide hb0
  obtain ⟨p1, c1, rfl, _⟩ := h1
  obtain ⟨p2, c2, rfl, _⟩ := h2
  obtain ⟨p3, c3, rfl, _⟩ := h3
  obtain ⟨p4, c4, rfl, _⟩ := h4
  clear hb0
  go_enter Tryz.func12, Tryz.ntmps12
  go_wp2_with fail
  refine (eqStringS_same _ _ xs _ hn H1.out H3.out).mono ?_
  rintro e w1 ⟨rfl, hb1⟩
  have HB1 := hide hb1
  obtain ⟨hc1, hf1⟩ := bcell hb1
  have H2' := hide (H2.out.below hb1 (Nat.le_refl _))
  have H4' := hide (H4.out.below hb1 (Nat.le_refl _))
  clear hb1
  go_wp2_with fail
  refine (eqPendingS_same _ _ ps _ hn2 H2'.out H4'.out).mono ?_
  rintro e w2 ⟨rfl, hb2⟩
  have k1 := HB0.out.trans (HB1.out.mono HB0.out.size)
  have HB2 := hide (k1.trans (hb2.mono k1.size))
  clear hb2 k1 hc1 hf1
  go_wp2
  go_ret
  exact ⟨rfl, HB2.out⟩

set_option maxHeartbeats 2000000 in
theorem markDisk_own (B : Nat) (us up : Value) (xs : List ByteArray) (ps : List (Int × ByteArray)) (k : Nat) (w : World) (hn : xs.length ≤ 1048576) (hn2 : ps.length ≤ 1048576) (hk : k ≤ 5000000)
    (h1 : OwnS 9 B w us xs) (h2 : OwnP 92 B w up ps) (hd : ∀ x ∈ leads us, x ∉ leads up) :
    Calls Tryz.prog 15 #[.agg #[us, up], .int .i64 (k : Int)] w fun e w' => e = .returned (.int .i64 ((k + xs.length + ps.length * 2 : Nat) : Int)) ∧
      OwnS 9 B w' us (marks k xs.length) ∧ OwnP 92 B w' up (marksP (k + xs.length) ps.length) ∧ Kept (leads us ++ leads up) w w' := by
  have hb0 : Below w.heap.size w (w.alloc (.cells #[us, up] 30)) := (Below.refl _ _).alloc (Nat.le_refl _) _
  have H1 := hide (h1.below hb0 (Nat.le_refl _))
  have H2 := hide (h2.below hb0 (Nat.le_refl _))
  have L1 := hide h1.leads
  have L2 := hide h2.leads
  have D := hide hd
  have HB0 := hide hb0
  clear hb0 hd
  obtain ⟨p1, n1, c1, E1⟩ : ∃ p n c, us = .slice p n c := by obtain ⟨p, c, e, _⟩ := h1.reads; exact ⟨_, _, _, e⟩
  obtain ⟨p2, n2, c2, E2⟩ : ∃ p n c, up = .slice p n c := by obtain ⟨p, c, e, _⟩ := h2.reads; exact ⟨_, _, _, e⟩
  clear h1 h2
  subst E1 E2
  go_enter Tryz.func15, Tryz.ntmps15
  go_wp2_with fail
  refine (markS_own B _ xs k _ hn (by omega) H1.out).mono ?_
  rintro e w1 ⟨rfl, ho1, hk1⟩
  have hni : w.heap.size ∉ leads (.slice p1 n1 c1) := fun h => Nat.lt_irrefl _ (L1.out _ h).2
  have a1 : w1.cell? ⟨w.heap.size, 1, none⟩ = some (.slice p2 n2 c2) := (hk1.row (row_new w [.slice p1 n1 c1, .slice p2 n2 c2] 30) hni).cell 1
  have H2' := hide (H2.out.kept hk1 (fun x hx hm => D.out x hm hx))
  have HO1 := hide ho1
  have HK1 := hide hk1
  clear ho1 hk1 hni
  go_wp2_with fail
  refine (markP_own B _ ps (k + xs.length) _ hn2 (by omega) H2'.out).mono ?_
  rintro e w2 ⟨rfl, ho2, hk2⟩
  have HO1' := hide (HO1.out.kept hk2 (fun x hx => D.out x hx))
  have HO2 := hide ho2
  have HK := hide ((((Kept.ofBelow HB0.out).mono (S' := leads (.slice p1 n1 c1) ++ leads (.slice p2 n2 c2)) (by simp)).trans (HK1.out.mono (fun x hx => List.mem_append_left _ hx))).trans (hk2.mono (fun x hx => List.mem_append_right _ hx)))
  clear ho2 hk2 a1
  go_wp2
  go_ret
  exact ⟨rfl, HO1'.out, HO2.out, HK.out⟩

set_option maxHeartbeats 2000000 in
theorem heldDisk_any (us up : Value) (k n m : Nat) (w : World) (hn : n ≤ 1048576) (hn2 : m ≤ 1048576) (hk : k ≤ 5000000)
    (h1 : Reads w us (marks k n)) (h2 : ReadsP w up (marksP (k + n) m)) :
    Calls Tryz.prog 16 #[.agg #[us, up], .int .i64 (k : Int)] w fun e w' => e = .returned (.int .i64 ((k + n + m * 2 : Nat) : Int)) ∧ Below w.heap.size w w' := by
  have hb0 : Below w.heap.size w (w.alloc (.cells #[us, up] 30)) := (Below.refl _ _).alloc (Nat.le_refl _) _
  have H1 := hide (h1.below hb0 (Nat.le_refl _))
  have H2 := hide (h2.below hb0 (Nat.le_refl _))
  have HB0 := hide hb0
  obtain ⟨p1, c1, rfl, _⟩ := h1
  obtain ⟨p2, c2, rfl, _⟩ := h2
  clear hb0
  go_enter Tryz.func16, Tryz.ntmps16
  go_wp2_with fail
  refine (heldStringS_any _ k n _ hn (by omega) H1.out).mono ?_
  rintro e w1 ⟨rfl, hb1⟩
  have HB1 := hide hb1
  obtain ⟨hc1, hf1⟩ := bcell hb1
  have H2' := hide (H2.out.below hb1 (Nat.le_refl _))
  have t1 : ¬ (((k + n : Nat) : Int) < 0) := by omega
  clear hb1
  go_wp2_with fail
  refine (heldPendingS_any _ (k + n) m _ hn2 (by omega) H2'.out).mono ?_
  rintro e w2 ⟨rfl, hb2⟩
  have t2 : ¬ (((k + n + m * 2 : Nat) : Int) < 0) := by omega
  have k1 := HB0.out.trans (HB1.out.mono HB0.out.size)
  have HB2 := hide (k1.trans (hb2.mono k1.size))
  clear hb2 k1 hc1 hf1
  go_wp2
  go_ret
  exact ⟨rfl, HB2.out⟩
end Go.Proofs.YtnpbmaajgiapmaaGreatDoor
